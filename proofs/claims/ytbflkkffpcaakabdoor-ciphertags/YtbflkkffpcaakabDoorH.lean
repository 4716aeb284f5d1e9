/- Walks over math/bits.Mul64, Add64, and the program's notAbove, squareFits, cubeFits. Walks over the program's Root. -/
import Derived.Test.YtbflkkffpcaakabDoorF
import Derived.Laws.Externs
import Derived.Laws.ShiftsVarLaws
namespace Go.Proofs.YtbflkkffpcaakabDoor
open Go.RowKit
theorem and_mask (a : Nat) : a &&& 4294967295 = a % 4294967296 := Nat.and_two_pow_sub_one_eq_mod a 32

end Go.Proofs.YtbflkkffpcaakabDoor
namespace Go.Proofs.YtbflkkffpcaakabDoor
open Go.RowKit
theorem root48 (e p : Nat) (he : e = 2 ∨ e = 3) (hp : p < 4294967296) : bitRoot e (p * 2 ^ (32 * e)) 48 0 = rootN e p := by
  have h1 := rootN_ok e p he hp
  have h2 := bitRoot_ok e (p * 2 ^ (32 * e)) 48 0 (by rcases he with rfl | rfl <;> simp) (by rcases he with rfl | rfl <;> simp <;> omega)
  exact root_unique h2.1 h2.2 h1.1 h1.2
theorem or_bit (X c : Nat) (h : X % 2 ^ (c + 1) = 0) : X ||| 2 ^ c = X + 2 ^ c := by
  obtain ⟨a, rfl⟩ : ∃ a, X = 2 ^ (c + 1) * a := ⟨X / 2 ^ (c + 1), by have := Nat.div_add_mod X (2 ^ (c + 1)); omega⟩
  exact (Nat.two_pow_add_eq_or_of_lt (Nat.pow_lt_pow_right (by omega) (by omega)) a).symm
theorem mod_bit (X c : Nat) (h : X % 2 ^ (c + 1) = 0) : X % 2 ^ c = 0 := by
  obtain ⟨a, rfl⟩ : ∃ a, X = 2 ^ (c + 1) * a := ⟨X / 2 ^ (c + 1), by have := Nat.div_add_mod X (2 ^ (c + 1)); omega⟩
  rw [Nat.pow_succ, Nat.mul_assoc, Nat.mul_mod_right]
theorem mod_bit' (X c : Nat) (h : X % 2 ^ (c + 1) = 0) : (X + 2 ^ c) % 2 ^ c = 0 := by
  rw [Nat.add_mod_right]; exact mod_bit X c h

end Go.Proofs.YtbflkkffpcaakabDoor
