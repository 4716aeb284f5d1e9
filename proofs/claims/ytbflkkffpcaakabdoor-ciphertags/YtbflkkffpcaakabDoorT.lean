/- Walk over the document's turn. -/
import Derived.Test.YtbflkkffpcaakabDoorA
import Derived.Test.YtbflkkffpcaakabDoorN
namespace Go.Proofs.YtbflkkffpcaakabDoor
open Go.RowKit
theorem or_rot (x n : Nat) (hx : x < 4294967296) : bits BinOp.or IntKind.u32 ((x : Int) / 2 ^ n) ((x : Int) * 2 ^ (32 - n) % 4294967296) = (rotr x n : Int) := by
  have e1 : (x : Int) / 2 ^ n = ((x / 2 ^ n : Nat) : Int) := by simp
  have e2 : (x : Int) * 2 ^ (32 - n) % 4294967296 = ((x * 2 ^ (32 - n) % 4294967296 : Nat) : Int) := by simp
  rw [e1, e2, u32_or_nat _ _ (Nat.lt_of_le_of_lt (Nat.div_le_self _ _) hx) (Nat.mod_lt _ (by omega))]
  rfl
end Go.Proofs.YtbflkkffpcaakabDoor
