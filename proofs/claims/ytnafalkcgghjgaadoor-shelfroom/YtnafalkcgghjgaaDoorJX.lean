/- Walks over Values, AppendSeq, Collect and SortedFunc, of changes. -/
import Derived.Test.YtnafalkcgghjgaaDoorJO
import Derived.Test.YtnafalkcgghjgaaDoorJQ
namespace Go.Proofs.YtnafalkcgghjgaaDoor
open Go.RowKit Go.Shelf
attribute [local go_sem] Oper.semAt_some
abbrev chA (c : Chg) : Value := .agg #[.int .i64 (c.1 : Int), .string c.2]
/-- A variable of a change's kind. -/
def Box2 (W : World) (B : Nat) (c : Chg) : Prop := W.heap[B]? = some (.cells #[.int .i64 (c.1 : Int), .string c.2] 102 (0, 0))
end Go.Proofs.YtnafalkcgghjgaaDoor
