/- Walks over math/bits.Mul64, Add64, and the program's notAbove, squareFits, cubeFits. -/
import Derived.Test.YthmikfkdjnidmaaDoorF
import Derived.Laws.Externs
namespace Go.Proofs.YthmikfkdjnidmaaDoor
open Go.RowKit
theorem and_mask (a : Nat) : a &&& 4294967295 = a % 4294967296 := Nat.and_two_pow_sub_one_eq_mod a 32

end Go.Proofs.YthmikfkdjnidmaaDoor
