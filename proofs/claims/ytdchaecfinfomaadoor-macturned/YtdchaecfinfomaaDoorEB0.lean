/- The beginning of a string. -/
import Derived.Test.YtdchaecfinfomaaDoorCF
namespace Go.Proofs.YtdchaecfinfomaaDoor
open Go.RowKit
theorem strOf_upto (l : List UInt8) (n : Nat) : (strOf l).extract 0 n = strOf (l.take n) := by
  apply ByteArray.ext
  simp [strOf, ByteArray.extract, ByteArray.copySlice, List.extract]
def strN : Value → Nat
  | .string s => s.size
  | _ => 0
end Go.Proofs.YtdchaecfinfomaaDoor
