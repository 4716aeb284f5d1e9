/- A region's held fact made stronger; strings cut and put together. The beginning of a string. -/
import Derived.Test.YtbflkkffpcaakabDoorCE
import Derived.Deep.RegionHeld
import Derived.Test.YtbflkkffpcaakabDoorCF
namespace Go.Proofs.YtbflkkffpcaakabDoor
open Go.RowKit
theorem wpAnyH_strengthen {P : Program} {ops : Array Oper} {Q : Exit → Act → World → Prop} {md : Region.Mode} {S S' : World → Prop} (h : ∀ w, S' w → S w) :
    ∀ {fuel : Nat} {listed : Array Bool} {a : Act} {w : World}, wpAnyH P md ops Q S' fuel listed a w → wpAnyH P md ops Q S fuel listed a w
  | 0, _, _, _, hw => hw
  | _ + 1, _, _, _, hw => ⟨hw.1, fun i hi => wpOp_mono (fun _ _ h' => ⟨h _ h'.1, wpAnyH_strengthen h h'.2⟩) (hw.2 i hi)⟩
theorem sslice_to (O : ByteArray) (p : Nat) (h : p ≤ O.size) (W : World) : (Instr.sliceAt 9 (.string O) none (some (.int .i64 (p : Int))) none).run Tryd.prog W = .ok (.string (O.extract 0 p)) W := by
  simp [Instr.sliceAt, Instr.slice, run_underlying Tryd.underlying9, Instr.sliceBounds, Instr.sliceBound, asIntOf, h]
theorem sslice_from (O : ByteArray) (p : Nat) (h : p ≤ O.size) (W : World) : (Instr.sliceAt 9 (.string O) (some (.int .i64 (p : Int))) none none).run Tryd.prog W = .ok (.string (O.extract p O.size)) W := by
  simp [Instr.sliceAt, Instr.slice, run_underlying Tryd.underlying9, Instr.sliceBounds, Instr.sliceBound, asIntOf, h]
theorem strOf_from (l : List UInt8) (n : Nat) : (strOf l).extract n (strOf l).size = strOf (l.drop n) := by
  apply ByteArray.ext
  simp [strOf, ByteArray.extract, ByteArray.copySlice, List.extract, ByteArray.size]
  exact List.take_of_length_le (by simp)
end Go.Proofs.YtbflkkffpcaakabDoor
namespace Go.Proofs.YtbflkkffpcaakabDoor
open Go.RowKit
theorem strOf_upto (l : List UInt8) (n : Nat) : (strOf l).extract 0 n = strOf (l.take n) := by
  apply ByteArray.ext
  simp [strOf, ByteArray.extract, ByteArray.copySlice, List.extract]
def strN : Value → Nat
  | .string s => s.size
  | _ => 0
end Go.Proofs.YtbflkkffpcaakabDoor
