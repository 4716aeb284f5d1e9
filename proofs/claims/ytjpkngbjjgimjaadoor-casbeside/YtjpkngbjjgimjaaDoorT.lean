/- Walk over the document's turn. -/
import Derived.Test.YtjpkngbjjgimjaaDoorA
import Derived.Test.YtjpkngbjjgimjaaDoorN
namespace Go.Proofs.YtjpkngbjjgimjaaDoor
open Go.RowKit
theorem or_rot (x n : Nat) (hx : x < 4294967296) : bits BinOp.or IntKind.u32 ((x : Int) / 2 ^ n) ((x : Int) * 2 ^ (32 - n) % 4294967296) = (rotr x n : Int) := by
  have e1 : (x : Int) / 2 ^ n = ((x / 2 ^ n : Nat) : Int) := by simp
  have e2 : (x : Int) * 2 ^ (32 - n) % 4294967296 = ((x * 2 ^ (32 - n) % 4294967296 : Nat) : Int) := by simp
  rw [e1, e2, u32_or_nat _ _ (Nat.lt_of_le_of_lt (Nat.div_le_self _ _) hx) (Nat.mod_lt _ (by omega))]
  rfl
set_option maxRecDepth 100000 in
theorem turn_any (x n : Nat) (w : World) (hx : x < 4294967296) (hn : 1 ≤ n) (hn' : n ≤ 31) :
    Calls Tryd.prog 66 #[.int .u32 (x : Int), .int .u64 (n : Int)] w fun e w' => e = .returned (.int .u32 (rotr x n : Int)) ∧ w' = w := by
  have hs : (32 : Int) - (n : Int) = ((32 - n : Nat) : Int) := by omega
  go_enter Tryd.func66, Tryd.ntmps66
  go_wp2
  go_ret
  exact ⟨ret_int (or_rot x n hx), rfl⟩
end Go.Proofs.YtjpkngbjjgimjaaDoor
