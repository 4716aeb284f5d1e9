/- A region's held fact made stronger; strings cut and put together. -/
import Derived.Test.YtdchaecfinfomaaDoorDB
import Derived.Test.YtdchaecfinfomaaDoorEB0
import Derived.Test.YtdchaecfinfomaaDoorCE
import Derived.Deep.RegionHeld
namespace Go.Proofs.YtdchaecfinfomaaDoor
open Go.RowKit
theorem wpAnyH_strengthen {P : Program} {ops : Array Oper} {Q : Exit → Act → World → Prop} {md : Region.Mode} {S S' : World → Prop} (h : ∀ w, S' w → S w) :
    ∀ {fuel : Nat} {listed : Array Bool} {a : Act} {w : World}, wpAnyH P md ops Q S' fuel listed a w → wpAnyH P md ops Q S fuel listed a w
  | 0, _, _, _, hw => hw
  | _ + 1, _, _, _, hw => ⟨hw.1, fun i hi => wpOp_mono (fun _ _ h' => ⟨h _ h'.1, wpAnyH_strengthen h h'.2⟩) (hw.2 i hi)⟩
theorem sslice_to (O : ByteArray) (p : Nat) (h : p ≤ O.size) (W : World) : (Instr.sliceAt 9 (.string O) none (some (.int .i64 (p : Int))) none).run Tryd.prog W = .ok (.string (O.extract 0 p)) W := by
  simp [Instr.sliceAt, Instr.slice, run_underlying Tryd.underlying9, Instr.sliceBounds, Instr.sliceBound, asIntOf, h]
theorem sslice_from (O : ByteArray) (p : Nat) (h : p ≤ O.size) (W : World) : (Instr.sliceAt 9 (.string O) (some (.int .i64 (p : Int))) none none).run Tryd.prog W = .ok (.string (O.extract p O.size)) W := by
  simp [Instr.sliceAt, Instr.slice, run_underlying Tryd.underlying9, Instr.sliceBounds, Instr.sliceBound, asIntOf, h]
theorem strOf_from (l : List UInt8) (n : Nat) : (strOf l).extract n (strOf l).size = strOf (l.drop n) := by
  apply ByteArray.ext
  simp [strOf, ByteArray.extract, ByteArray.copySlice, List.extract, ByteArray.size]
  exact List.take_of_length_le (by simp)
/-- A list with one byte turned is the list just if it is turned by nought. -/
theorem turn_list (T : List UInt8) (p : Nat) (c y z : Nat) (hp : p < T.length) (hc : c < 256) (hy : (T.getD p 0).toNat = y) (hz : y ^^^ c = z) : (T.take p ++ [UInt8.ofNat z] ++ T.drop (p + 1) = T) ↔ c = 0 := by
  have hT : T = T.take p ++ [T.getD p 0] ++ T.drop (p + 1) := by
    have := List.take_append_drop (p + 1) T
    rw [List.take_add_one, List.getElem?_eq_getElem hp] at this
    simp only [Option.toList] at this
    rw [List.getD_eq_getElem?_getD, List.getElem?_eq_getElem hp]
    exact this.symm
  have hy8 : y < 256 := by rw [← hy]; exact UInt8.toNat_lt _
  have hz8 : z < 256 := by rw [← hz]; exact Nat.xor_lt_two_pow (n := 8) hy8 hc
  constructor
  · intro h
    have h2 : T.take p ++ [UInt8.ofNat z] ++ T.drop (p + 1) = T.take p ++ [T.getD p 0] ++ T.drop (p + 1) := h.trans hT
    rw [List.append_left_inj, List.append_right_inj] at h2
    have e : UInt8.ofNat z = T.getD p 0 := by simpa using h2
    have e2 : z = y := by rw [← hy, ← e, UInt8.toNat_ofNat', Nat.mod_eq_of_lt hz8]
    have e3 : (y ^^^ c) ^^^ y = c := by rw [Nat.xor_comm y c, Nat.xor_assoc, Nat.xor_self, Nat.xor_zero]
    rw [hz, e2, Nat.xor_self] at e3
    exact e3.symm
  · rintro rfl
    rw [Nat.xor_zero] at hz
    have e : UInt8.ofNat z = T.getD p 0 := by
      apply UInt8.toNat_inj.1
      rw [UInt8.toNat_ofNat', Nat.mod_eq_of_lt hz8, hy, hz]
    rw [e]
    exact hT.symm
end Go.Proofs.YtdchaecfinfomaaDoor
