/- Walk over the program's Check. -/
import Derived.Test.YtbflkkffpcaakabDoorCD
namespace Go.Proofs.YtbflkkffpcaakabDoor
open Go.RowKit
theorem str_at (s : ByteArray) (k x : Nat) (hk : k < s.size) (hx : (s.data.toList.getD k 0).toNat = x) (W : World) : (Instr.index 9 (.string s) (.int .i64 (k : Int))).run Tryd.prog W = .ok (.int .u8 (x : Int)) W := by
  have hk' : k < s.data.size := hk
  rw [run_index_string W 9 s .i64 (k : Int) Tryd.underlying9, dif_pos ⟨by omega, by omega⟩]
  congr 2
  rw [← hx, List.getD_eq_getElem?_getD, Array.getElem?_toList, Array.getElem?_eq_getElem hk']
  rfl
theorem or_xor_zero (d x y : Nat) : (d ||| (x ^^^ y)) = 0 ↔ d = 0 ∧ x = y := by
  rw [Nat.or_eq_zero_iff]
  refine and_congr_right fun _ => ⟨fun h => ?_, fun h => by rw [h, Nat.xor_self]⟩
  have e : (x ^^^ y) ^^^ y = x := by rw [Nat.xor_assoc, Nat.xor_self, Nat.xor_zero]
  rw [← e, h, Nat.zero_xor]
theorem take_next (s t : List UInt8) (i : Nat) (hs : i < s.length) (ht : i < t.length) : s.take (i + 1) = t.take (i + 1) ↔ s.take i = t.take i ∧ (s.getD i 0).toNat = (t.getD i 0).toNat := by
  rw [List.take_add_one, List.take_add_one, List.getElem?_eq_getElem hs, List.getElem?_eq_getElem ht]
  simp only [Option.toList]
  constructor
  · intro h
    have := List.append_inj h (by simp; omega)
    refine ⟨this.1, ?_⟩
    have e := this.2
    simp at e
    simp [hs, ht, e]
  · rintro ⟨h1, h2⟩
    rw [h1]
    congr 1
    simp [hs, ht] at h2
    have := UInt8.toNat_inj.1 h2
    rw [this]
end Go.Proofs.YtbflkkffpcaakabDoor
