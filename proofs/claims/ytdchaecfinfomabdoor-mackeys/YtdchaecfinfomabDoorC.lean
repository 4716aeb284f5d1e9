/- Walks over the document's Root (cubes) and Prime. -/
import Derived.Test.YtdchaecfinfomabDoorB
namespace Go.Proofs.YtdchaecfinfomabDoor
open Go.RowKit
theorem root43 (p : Nat) (hp : p < 4294967296) : bitRoot 3 (p * 2 ^ (32 * 3)) 43 0 = rootN 3 p := by
  have h1 := rootN_ok 3 p (.inr rfl) hp
  have h2 := bitRoot_ok 3 (p * 2 ^ (32 * 3)) 43 0 (by simp) (by simp; omega)
  exact root_unique h2.1 h2.2 h1.1 h1.2
/-- The prime of a number, or 0. -/
def primeI (i : Int) : Nat := if 0 ≤ i ∧ i ≤ 99 then primeN i.toNat else 0
end Go.Proofs.YtdchaecfinfomabDoor
