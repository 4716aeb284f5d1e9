/- Walks over the document's whole, Prime, product. -/
import Derived.Test.YtbflkkffpcaakabDoorProg
import Derived.Test.YtbflkkffpcaakabDoorM
import Derived.WalkKit
import Derived.WalkSpells
import Derived.WalkLawsBesides
import Derived.Laws.BitsAllLaws
import Derived.Laws.Bits64
namespace Go.Proofs.YtbflkkffpcaakabDoor
open Go.RowKit

theorem ret_int {k : IntKind} {a b : Int} (h : a = b) : Ending.returned (.int k a) = .returned (.int k b) := by rw [h]
theorem ret_bool {a b : Bool} (h : a = b) : Ending.returned (.bool a) = .returned (.bool b) := by rw [h]
theorem ret_val {a b : Value} (h : a = b) : Ending.returned a = .returned b := by rw [h]

theorem tup2 {x y x' y' : Int} (h : x = x') (h' : y = y') : Value.tuple #[.int .u64 x, .int .u64 y] = .tuple #[.int .u64 x', .int .u64 y'] := by rw [h, h']
theorem mul_bd {x y : Nat} (hx : x < 4294967296) (hy : y < 4294967296) : x * y ≤ 18446744065119617025 := Nat.mul_le_mul (show x ≤ 4294967295 by omega) (show y ≤ 4294967295 by omega)
theorem product_eq (a b a1 a0 b1 b0 c11 c10 c01 c00 : Nat) (ea : a = a1 * 4294967296 + a0) (eb : b = b1 * 4294967296 + b0) (e11 : a1 * b1 = c11) (e10 : a1 * b0 = c10) (e01 : a0 * b1 = c01) (e00 : a0 * b0 = c00) :
    a * b = c11 * 18446744073709551616 + (c10 + c01) * 4294967296 + c00 := by
  subst ea eb e11 e10 e01 e00
  have h1 : (a1 * 4294967296 + a0) * (b1 * 4294967296 + b0) = a1 * b1 * (4294967296 * 4294967296) + (a1 * b0 + a0 * b1) * 4294967296 + a0 * b0 := by
    simp only [Nat.add_mul, Nat.mul_add, Nat.mul_assoc, Nat.mul_comm, Nat.mul_left_comm]
    omega
  rw [h1]

/-- The square of x isn't above p times 2^64. -/
theorem below_iff (x p : Nat) : (x * x / 18446744073709551616 < p ∨ (x * x / 18446744073709551616 = p ∧ x * x % 18446744073709551616 = 0)) ↔ x ^ 2 ≤ p * 2 ^ (32 * 2) := by
  rw [Nat.pow_two, show (2 : Nat) ^ (32 * 2) = 18446744073709551616 from rfl]
  generalize x * x = y
  omega

theorem cube_eq (x hi lo up low top mid : Nat) (h1 : x * x = hi * 18446744073709551616 + lo) (h2 : lo * x = up * 18446744073709551616 + low) (h3 : hi * x = top * 18446744073709551616 + mid) :
    x ^ 3 = top * 340282366920938463463374607431768211456 + (mid + up) * 18446744073709551616 + low := by
  have e : x ^ 3 = x * x * x := by rw [Nat.pow_succ, Nat.pow_two]
  rw [e, h1, Nat.add_mul, Nat.mul_right_comm, h3, h2]
  omega

theorem cubeB1 (p up low top mid : Nat) (hp : p ≤ 4294967295) (h : 0 < top) : ¬ top * 340282366920938463463374607431768211456 + (mid + up) * 18446744073709551616 + low ≤ p * (4294967296 * 18446744073709551616) := by omega
theorem cubeB2 (p up low mid : Nat) (hp : p ≤ 4294967295) (h : ¬ mid + up ≤ 18446744073709551615) : ¬ 0 * 340282366920938463463374607431768211456 + (mid + up) * 18446744073709551616 + low ≤ p * (4294967296 * 18446744073709551616) := by omega
theorem cubeB3 (p up low mid : Nat) (hl : low < 18446744073709551616) (h : mid + up < p * 4294967296) : 0 * 340282366920938463463374607431768211456 + (mid + up) * 18446744073709551616 + low ≤ p * (4294967296 * 18446744073709551616) := by omega
theorem cubeB4 (p up low mid : Nat) (h : mid + up = p * 4294967296) : 0 * 340282366920938463463374607431768211456 + (mid + up) * 18446744073709551616 + low ≤ p * (4294967296 * 18446744073709551616) ↔ low = 0 := by omega
theorem cubeB5 (p up low mid : Nat) (h : p * 4294967296 < mid + up) : ¬ 0 * 340282366920938463463374607431768211456 + (mid + up) * 18446744073709551616 + low ≤ p * (4294967296 * 18446744073709551616) := by omega

end Go.Proofs.YtbflkkffpcaakabDoor
