/- Walks over the document's Root, Prime, turn. Walks over the document's Root (cubes) and Prime. -/
import Derived.Test.YtbflkkffpcaakabDoorA
namespace Go.Proofs.YtbflkkffpcaakabDoor
open Go.RowKit

/-- The bit that is tried with k bits left. -/
def bitOf (k : Nat) : Nat := if k = 0 then 0 else 2 ^ (k - 1)
theorem bitOf_half (k : Nat) (h : 0 < k) : bitOf k / 2 = bitOf (k - 1) := by
  unfold bitOf
  rw [if_neg (by omega)]
  by_cases h1 : k = 1
  · subst h1; rfl
  · rw [if_neg (by omega)]
    obtain ⟨j, rfl⟩ : ∃ j, k = j + 2 := ⟨k - 2, by omega⟩
    show 2 ^ (j + 1) / 2 = 2 ^ j
    rw [Nat.pow_succ]; omega
theorem bitOf_le {k n : Nat} (h : k ≤ n) : bitOf k ≤ 2 ^ n := by
  unfold bitOf
  split
  · exact Nat.zero_le _
  · exact Nat.pow_le_pow_right (by omega) (by omega)
theorem bitOf_pos {k : Nat} (h : 0 < k) : 0 < bitOf k := by
  unfold bitOf; rw [if_neg (by omega)]; exact Nat.pow_pos (by omega)

/-- What the loop of Root holds with k bits left. -/
def RootRel (e N R k x : Nat) : Prop := k ≤ 49 ∧ x + 2 ^ k ≤ 2 ^ 49 ∧ bitRoot e N k x = R
theorem RootRel.step {e N R k x : Nat} (h : RootRel e N R k x) (hk : 0 < k) : RootRel e N R (k - 1) (if (x + bitOf k) ^ e ≤ N then x + bitOf k else x) := by
  obtain ⟨h1, h2, h3⟩ := h
  have hb : bitOf k = 2 ^ (k - 1) := by unfold bitOf; rw [if_neg (by omega)]
  have e1 : 2 ^ k = 2 ^ (k - 1) + 2 ^ (k - 1) := by
    obtain ⟨j, rfl⟩ : ∃ j, k = j + 1 := ⟨k - 1, by omega⟩
    show 2 ^ (j + 1) = 2 ^ j + 2 ^ j
    rw [Nat.pow_succ]; omega
  refine ⟨by omega, ?_, ?_⟩
  · rw [hb]; split <;> omega
  · rw [hb]
    obtain ⟨j, rfl⟩ : ∃ j, k = j + 1 := ⟨k - 1, by omega⟩
    exact h3

end Go.Proofs.YtbflkkffpcaakabDoor
namespace Go.Proofs.YtbflkkffpcaakabDoor
open Go.RowKit
theorem root43 (p : Nat) (hp : p < 4294967296) : bitRoot 3 (p * 2 ^ (32 * 3)) 43 0 = rootN 3 p := by
  have h1 := rootN_ok 3 p (.inr rfl) hp
  have h2 := bitRoot_ok 3 (p * 2 ^ (32 * 3)) 43 0 (by simp) (by simp; omega)
  exact root_unique h2.1 h2.2 h1.1 h1.2
/-- The prime of a number, or 0. -/
def primeI (i : Int) : Nat := if 0 ≤ i ∧ i ≤ 99 then primeN i.toNat else 0
end Go.Proofs.YtbflkkffpcaakabDoor
