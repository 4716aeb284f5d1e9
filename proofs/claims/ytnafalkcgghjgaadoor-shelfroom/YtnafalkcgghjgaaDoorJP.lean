/- How slices of puts, and of bools, are opened out of a reading; a disk fails, starts, gets a fuse. -/
import Derived.Test.YtnafalkcgghjgaaDoorJI
import Derived.Deep.Slices
namespace Go.Proofs.YtnafalkcgghjgaaDoor
open Go.ChangeShapes Go.WideShapes Go.ChangeAt Go.RowKit Go.Deep Go.Shelf
theorem wf_u8 {n : Int} (h : (Lit.int .u8 n).wf = true) : 0 ≤ n ∧ n ≤ 255 := by
  simp [Lit.wf, IntKind.min, IntKind.max, IntKind.signed, IntKind.bits] at h
  omega
theorem wf_i64 {n : Int} (h : (Lit.int .i64 n).wf = true) : -9223372036854775808 ≤ n ∧ n ≤ 9223372036854775807 := by
  simp [Lit.wf, IntKind.min, IntKind.max, IntKind.signed, IntKind.bits] at h
  omega
def Dk.fcode (D : Dk) (n : Int) : Nat := if D.up then (if n < 0 then 9 else 0) else 10
def Dk.fput (D : Dk) (n : Int) : Dk := if D.up = true ∧ 0 ≤ n then D.fused n.toNat else D
end Go.Proofs.YtnafalkcgghjgaaDoor
