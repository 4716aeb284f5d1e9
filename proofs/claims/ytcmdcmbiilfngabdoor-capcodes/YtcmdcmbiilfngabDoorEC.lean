/- Walk over the document's Mix. Walk over the document's Sum. Walks over the document's turned and Seal. Walk over the document's Chain. -/
import Derived.Test.YtcmdcmbiilfngabDoorW
import Derived.Test.YtcmdcmbiilfngabDoorH
import Derived.Test.YtcmdcmbiilfngabDoorBA
import Derived.Test.YtcmdcmbiilfngabDoorCG
namespace Go.Proofs.YtcmdcmbiilfngabDoor
open Go.RowKit
end Go.Proofs.YtcmdcmbiilfngabDoor
namespace Go.Proofs.YtcmdcmbiilfngabDoor
open Go.RowKit
end Go.Proofs.YtcmdcmbiilfngabDoor
namespace Go.Proofs.YtcmdcmbiilfngabDoor
open Go.RowKit
/-- The byte of a key at a place, nought behind its end. -/
theorem block_at (k : List UInt8) (i : Nat) (h : k.length ≤ 64) (hi : i < 64) : (fill k).getD i 0 = k.getD i 0 := by
  unfold fill
  rw [List.getD_eq_getElem?_getD, List.getD_eq_getElem?_getD]
  by_cases hl : i < k.length
  · rw [List.getElem?_append_left hl]
  · rw [List.getElem?_append_right (by omega), List.getElem?_replicate, if_pos (by omega), List.getElem?_eq_none (by omega)]
    rfl
theorem xor_next (b : List UInt8) (m : UInt8) (i : Nat) (hi : i < b.length) : xorB (b.take (i + 1)) m = xorB (b.take i) m ++ [b.getD i 0 ^^^ m] := by
  unfold xorB
  rw [List.take_add_one, List.getElem?_eq_getElem hi, List.map_append]
  simp [Option.toList, hi]
end Go.Proofs.YtcmdcmbiilfngabDoor
namespace Go.Proofs.YtcmdcmbiilfngabDoor
open Go.RowKit
theorem sstr_to (b off N n cap : Nat) (hn : n ≤ N) (hN : N ≤ cap) (W : World) :
    (Instr.sliceAt 79 (.slice (some ⟨b, off, none⟩) N cap) none (some (.int .i64 (n : Int))) none).run Tryd.prog W = .ok (.slice (some ⟨b, off, none⟩) n cap) W := by
  have h1 : (sizeOf 9).run Tryd.prog W = .ok 1 W := by kernel_rfl
  have hc : n ≤ cap := by omega
  have e : (⟨b, off, none⟩ : Addr).add 0 = ⟨b, off, none⟩ := add_at b off 0
  simp [Instr.sliceAt, Instr.slice, run_underlying Tryd.underlying79, Instr.sliceBounds, Instr.sliceBound, asIntOf, h1, hc, e]
theorem Ss.upto {w : World} {a : Option Addr} {len cap : Nat} {ss : List ByteArray} (h : Ss w a len cap ss) (n : Nat) (hn : n ≤ len) : Ss w a n cap (ss.take n) := by
  obtain ⟨h1, h2, h3, h4, h5⟩ := h
  refine ⟨by rw [List.length_take]; omega, by omega, h3, h4, fun ad had i hi => ?_⟩
  rw [List.length_take] at hi
  rw [List.getElem_take]
  exact h5 ad had i (by omega)
end Go.Proofs.YtcmdcmbiilfngabDoor
