/- Plain mathematics of layer 2: primes, roots. No program is named here. Walks over the document's whole, Prime, product. Walks over the document's Root, Prime, turn. Walks over the document's Root (cubes) and Prime. -/
import Derived.Lib.BitFns
import Derived.Test.YtcmdcmbiilfngabDoorProg
import Derived.WalkKit
import Derived.WalkSpells
import Derived.WalkLawsBesides
import Derived.Laws.BitsAllLaws
import Derived.Laws.Bits64
namespace Go.Proofs.YtcmdcmbiilfngabDoor

/-- Is p divided by none from d on, up to p? -/
def wholeFrom (p d : Nat) : Nat → Bool
  | 0 => true
  | f + 1 => if p ≤ d then true else if p % d = 0 then false else wholeFrom p (d + 1) f
def wholeB (p : Nat) : Bool := wholeFrom p 2 p
theorem wholeFrom_step {p d f : Nat} (h : d < p) (hf : p ≤ d + f) : wholeFrom p d f = if p % d = 0 then false else wholeFrom p (d + 1) (f - 1) := by
  cases f with
  | zero => omega
  | succ f => rw [wholeFrom, if_neg (by omega)]; rfl
theorem wholeFrom_end {p d f : Nat} (h : ¬ d < p) : wholeFrom p d f = true := by
  cases f with
  | zero => rfl
  | succ f => rw [wholeFrom, if_pos (by omega)]

/-- How many whole numbers there are from 2 to p. -/
def cntW : Nat → Nat
  | 0 => 0
  | 1 => 0
  | p + 2 => cntW (p + 1) + if wholeB (p + 2) then 1 else 0
theorem cntW_succ (p : Nat) (h : 1 ≤ p) : cntW (p + 1) = cntW p + if wholeB (p + 1) then 1 else 0 := by
  cases p with
  | zero => omega
  | succ p => rfl
theorem cntW_mono {p q : Nat} (h : p ≤ q) : cntW p ≤ cntW q := by
  induction q with
  | zero => have : p = 0 := by omega
            subst this; exact Nat.le_refl _
  | succ q ih =>
    by_cases e : p = q + 1
    · subst e; exact Nat.le_refl _
    · have h1 := ih (by omega)
      cases q with
      | zero => simp [cntW] at *; omega
      | succ q => rw [cntW_succ (q + 1) (by omega)]; omega

/-- The first hundred primes. -/
def primes : List Nat := (List.range 542).filter fun p => decide (2 ≤ p) && wholeB p
def primeN (i : Nat) : Nat := primes.getD i 0
theorem primes_len : primes.length = 100 := by decide +kernel
theorem primes_ok : ∀ i : Fin 100, wholeB (primeN i.val) = true ∧ cntW (primeN i.val) = i.val + 1 ∧ 2 ≤ primeN i.val ∧ primeN i.val ≤ 541 := by decide +kernel

/-- A whole number with so many up to it is that prime. -/
theorem prime_of {p i : Nat} (hi : i < 100) (hw : wholeB p = true) (h2 : 2 ≤ p) (hc : cntW p = i + 1) : p = primeN i := by
  obtain ⟨h1, h3, h4, _⟩ := primes_ok ⟨i, hi⟩
  simp only at h1 h3 h4
  rcases Nat.lt_trichotomy p (primeN i) with h | h | h
  · have m := cntW_mono (p := p) (q := primeN i - 1) (by omega)
    have s := cntW_succ (primeN i - 1) (by omega)
    rw [show primeN i - 1 + 1 = primeN i by omega, h1] at s
    simp at s
    omega
  · exact h
  · have m := cntW_mono (p := primeN i) (q := p - 1) (by omega)
    have s := cntW_succ (p - 1) (by omega)
    rw [show p - 1 + 1 = p by omega, hw] at s
    simp at s
    omega
theorem below_prime {p i : Nat} (hi : i < 100) (hc : cntW p ≤ i) : p < primeN i := by
  obtain ⟨h1, h3, h4, _⟩ := primes_ok ⟨i, hi⟩
  simp only at h1 h3 h4
  rcases Nat.lt_or_ge p (primeN i) with h | h
  · exact h
  · have := cntW_mono h; omega

/-- The greatest x whose e-th power isn't above N, among those of so many bits: bit by bit, from the top. -/
def bitRoot (e N : Nat) : Nat → Nat → Nat
  | 0, x => x
  | k + 1, x => bitRoot e N k (if (x + 2 ^ k) ^ e ≤ N then x + 2 ^ k else x)
theorem bitRoot_ok (e N : Nat) : ∀ (k x : Nat), x ^ e ≤ N → N < (x + 2 ^ k) ^ e → (bitRoot e N k x) ^ e ≤ N ∧ N < (bitRoot e N k x + 1) ^ e
  | 0, x, h1, h2 => ⟨h1, by simpa [bitRoot] using h2⟩
  | k + 1, x, h1, h2 => by
    unfold bitRoot
    split
    · rename_i h
      exact bitRoot_ok e N k _ h (by rw [Nat.add_assoc, ← Nat.two_mul, ← Nat.pow_succ']; exact h2)
    · rename_i h
      exact bitRoot_ok e N k x h1 (by omega)
theorem root_unique {e N x y : Nat} (h1 : x ^ e ≤ N) (h2 : N < (x + 1) ^ e) (h3 : y ^ e ≤ N) (h4 : N < (y + 1) ^ e) : x = y := by
  rcases Nat.lt_trichotomy x y with h | h | h
  · have := Nat.pow_le_pow_left (show x + 1 ≤ y by omega) e; omega
  · exact h
  · have := Nat.pow_le_pow_left (show y + 1 ≤ x by omega) e; omega
/-- The square root (e = 2) or the cube root (e = 3) of p times 2^(32 e), rounded down. -/
def rootN (e p : Nat) : Nat := bitRoot e (p * 2 ^ (32 * e)) 49 0
theorem rootN_ok (e p : Nat) (he : e = 2 ∨ e = 3) (hp : p < 4294967296) : (rootN e p) ^ e ≤ p * 2 ^ (32 * e) ∧ p * 2 ^ (32 * e) < (rootN e p + 1) ^ e := by
  apply bitRoot_ok
  · rcases he with rfl | rfl <;> simp
  · rcases he with rfl | rfl
    · simp; omega
    · simp; omega
def rootW (p : Nat) (cube : Bool) : Nat := rootN (if cube then 3 else 2) p % 4294967296
theorem root_2 : rootW 2 false = 1779033703 ∧ rootW 2 true = 1116352408 := by decide +kernel
#print axioms root_2
end Go.Proofs.YtcmdcmbiilfngabDoor
namespace Go.Proofs.YtcmdcmbiilfngabDoor
open Go.RowKit

theorem ret_int {k : IntKind} {a b : Int} (h : a = b) : Ending.returned (.int k a) = .returned (.int k b) := by rw [h]
theorem ret_bool {a b : Bool} (h : a = b) : Ending.returned (.bool a) = .returned (.bool b) := by rw [h]
theorem ret_val {a b : Value} (h : a = b) : Ending.returned a = .returned b := by rw [h]

theorem tup2 {x y x' y' : Int} (h : x = x') (h' : y = y') : Value.tuple #[.int .u64 x, .int .u64 y] = .tuple #[.int .u64 x', .int .u64 y'] := by rw [h, h']
theorem mul_bd {x y : Nat} (hx : x < 4294967296) (hy : y < 4294967296) : x * y ≤ 18446744065119617025 := Nat.mul_le_mul (show x ≤ 4294967295 by omega) (show y ≤ 4294967295 by omega)
theorem product_eq (a b a1 a0 b1 b0 c11 c10 c01 c00 : Nat) (ea : a = a1 * 4294967296 + a0) (eb : b = b1 * 4294967296 + b0) (e11 : a1 * b1 = c11) (e10 : a1 * b0 = c10) (e01 : a0 * b1 = c01) (e00 : a0 * b0 = c00) :
    a * b = c11 * 18446744073709551616 + (c10 + c01) * 4294967296 + c00 := by
  subst ea eb e11 e10 e01 e00
  have h1 : (a1 * 4294967296 + a0) * (b1 * 4294967296 + b0) = a1 * b1 * (4294967296 * 4294967296) + (a1 * b0 + a0 * b1) * 4294967296 + a0 * b0 := by
    simp only [Nat.add_mul, Nat.mul_add, Nat.mul_assoc, Nat.mul_comm, Nat.mul_left_comm]
    omega
  rw [h1]

/-- The square of x isn't above p times 2^64. -/
theorem below_iff (x p : Nat) : (x * x / 18446744073709551616 < p ∨ (x * x / 18446744073709551616 = p ∧ x * x % 18446744073709551616 = 0)) ↔ x ^ 2 ≤ p * 2 ^ (32 * 2) := by
  rw [Nat.pow_two, show (2 : Nat) ^ (32 * 2) = 18446744073709551616 from rfl]
  generalize x * x = y
  omega

theorem cube_eq (x hi lo up low top mid : Nat) (h1 : x * x = hi * 18446744073709551616 + lo) (h2 : lo * x = up * 18446744073709551616 + low) (h3 : hi * x = top * 18446744073709551616 + mid) :
    x ^ 3 = top * 340282366920938463463374607431768211456 + (mid + up) * 18446744073709551616 + low := by
  have e : x ^ 3 = x * x * x := by rw [Nat.pow_succ, Nat.pow_two]
  rw [e, h1, Nat.add_mul, Nat.mul_right_comm, h3, h2]
  omega

theorem cubeB1 (p up low top mid : Nat) (hp : p ≤ 4294967295) (h : 0 < top) : ¬ top * 340282366920938463463374607431768211456 + (mid + up) * 18446744073709551616 + low ≤ p * (4294967296 * 18446744073709551616) := by omega
theorem cubeB2 (p up low mid : Nat) (hp : p ≤ 4294967295) (h : ¬ mid + up ≤ 18446744073709551615) : ¬ 0 * 340282366920938463463374607431768211456 + (mid + up) * 18446744073709551616 + low ≤ p * (4294967296 * 18446744073709551616) := by omega
theorem cubeB3 (p up low mid : Nat) (hl : low < 18446744073709551616) (h : mid + up < p * 4294967296) : 0 * 340282366920938463463374607431768211456 + (mid + up) * 18446744073709551616 + low ≤ p * (4294967296 * 18446744073709551616) := by omega
theorem cubeB4 (p up low mid : Nat) (h : mid + up = p * 4294967296) : 0 * 340282366920938463463374607431768211456 + (mid + up) * 18446744073709551616 + low ≤ p * (4294967296 * 18446744073709551616) ↔ low = 0 := by omega
theorem cubeB5 (p up low mid : Nat) (h : p * 4294967296 < mid + up) : ¬ 0 * 340282366920938463463374607431768211456 + (mid + up) * 18446744073709551616 + low ≤ p * (4294967296 * 18446744073709551616) := by omega

end Go.Proofs.YtcmdcmbiilfngabDoor
namespace Go.Proofs.YtcmdcmbiilfngabDoor
open Go.RowKit

/-- The bit that is tried with k bits left. -/
def bitOf (k : Nat) : Nat := if k = 0 then 0 else 2 ^ (k - 1)
theorem bitOf_half (k : Nat) (h : 0 < k) : bitOf k / 2 = bitOf (k - 1) := by
  unfold bitOf
  rw [if_neg (by omega)]
  by_cases h1 : k = 1
  · subst h1; rfl
  · rw [if_neg (by omega)]
    obtain ⟨j, rfl⟩ : ∃ j, k = j + 2 := ⟨k - 2, by omega⟩
    show 2 ^ (j + 1) / 2 = 2 ^ j
    rw [Nat.pow_succ]; omega
theorem bitOf_le {k n : Nat} (h : k ≤ n) : bitOf k ≤ 2 ^ n := by
  unfold bitOf
  split
  · exact Nat.zero_le _
  · exact Nat.pow_le_pow_right (by omega) (by omega)
theorem bitOf_pos {k : Nat} (h : 0 < k) : 0 < bitOf k := by
  unfold bitOf; rw [if_neg (by omega)]; exact Nat.pow_pos (by omega)

/-- What the loop of Root holds with k bits left. -/
def RootRel (e N R k x : Nat) : Prop := k ≤ 49 ∧ x + 2 ^ k ≤ 2 ^ 49 ∧ bitRoot e N k x = R
theorem RootRel.step {e N R k x : Nat} (h : RootRel e N R k x) (hk : 0 < k) : RootRel e N R (k - 1) (if (x + bitOf k) ^ e ≤ N then x + bitOf k else x) := by
  obtain ⟨h1, h2, h3⟩ := h
  have hb : bitOf k = 2 ^ (k - 1) := by unfold bitOf; rw [if_neg (by omega)]
  have e1 : 2 ^ k = 2 ^ (k - 1) + 2 ^ (k - 1) := by
    obtain ⟨j, rfl⟩ : ∃ j, k = j + 1 := ⟨k - 1, by omega⟩
    show 2 ^ (j + 1) = 2 ^ j + 2 ^ j
    rw [Nat.pow_succ]; omega
  refine ⟨by omega, ?_, ?_⟩
  · rw [hb]; split <;> omega
  · rw [hb]
    obtain ⟨j, rfl⟩ : ∃ j, k = j + 1 := ⟨k - 1, by omega⟩
    exact h3

end Go.Proofs.YtcmdcmbiilfngabDoor
namespace Go.Proofs.YtcmdcmbiilfngabDoor
open Go.RowKit
theorem root43 (p : Nat) (hp : p < 4294967296) : bitRoot 3 (p * 2 ^ (32 * 3)) 43 0 = rootN 3 p := by
  have h1 := rootN_ok 3 p (.inr rfl) hp
  have h2 := bitRoot_ok 3 (p * 2 ^ (32 * 3)) 43 0 (by simp) (by simp; omega)
  exact root_unique h2.1 h2.2 h1.1 h1.2
/-- The prime of a number, or 0. -/
def primeI (i : Int) : Nat := if 0 ≤ i ∧ i ≤ 99 then primeN i.toNat else 0
end Go.Proofs.YtcmdcmbiilfngabDoor
