/- Plain mathematics of layer 2: primes, roots. No program is named here. -/
import Derived.Lib.BitFns
namespace Go.Proofs.YtbflkkffpcaakabDoor

/-- Is p divided by none from d on, up to p? -/
def wholeFrom (p d : Nat) : Nat → Bool
  | 0 => true
  | f + 1 => if p ≤ d then true else if p % d = 0 then false else wholeFrom p (d + 1) f
def wholeB (p : Nat) : Bool := wholeFrom p 2 p
theorem wholeFrom_step {p d f : Nat} (h : d < p) (hf : p ≤ d + f) : wholeFrom p d f = if p % d = 0 then false else wholeFrom p (d + 1) (f - 1) := by
  cases f with
  | zero => omega
  | succ f => rw [wholeFrom, if_neg (by omega)]; rfl
theorem wholeFrom_end {p d f : Nat} (h : ¬ d < p) : wholeFrom p d f = true := by
  cases f with
  | zero => rfl
  | succ f => rw [wholeFrom, if_pos (by omega)]

/-- How many whole numbers there are from 2 to p. -/
def cntW : Nat → Nat
  | 0 => 0
  | 1 => 0
  | p + 2 => cntW (p + 1) + if wholeB (p + 2) then 1 else 0
theorem cntW_succ (p : Nat) (h : 1 ≤ p) : cntW (p + 1) = cntW p + if wholeB (p + 1) then 1 else 0 := by
  cases p with
  | zero => omega
  | succ p => rfl
theorem cntW_mono {p q : Nat} (h : p ≤ q) : cntW p ≤ cntW q := by
  induction q with
  | zero => have : p = 0 := by omega
            subst this; exact Nat.le_refl _
  | succ q ih =>
    by_cases e : p = q + 1
    · subst e; exact Nat.le_refl _
    · have h1 := ih (by omega)
      cases q with
      | zero => simp [cntW] at *; omega
      | succ q => rw [cntW_succ (q + 1) (by omega)]; omega

/-- The first hundred primes. -/
def primes : List Nat := (List.range 542).filter fun p => decide (2 ≤ p) && wholeB p
def primeN (i : Nat) : Nat := primes.getD i 0
theorem primes_len : primes.length = 100 := by decide +kernel
theorem primes_ok : ∀ i : Fin 100, wholeB (primeN i.val) = true ∧ cntW (primeN i.val) = i.val + 1 ∧ 2 ≤ primeN i.val ∧ primeN i.val ≤ 541 := by decide +kernel

/-- A whole number with so many up to it is that prime. -/
theorem prime_of {p i : Nat} (hi : i < 100) (hw : wholeB p = true) (h2 : 2 ≤ p) (hc : cntW p = i + 1) : p = primeN i := by
  obtain ⟨h1, h3, h4, _⟩ := primes_ok ⟨i, hi⟩
  simp only at h1 h3 h4
  rcases Nat.lt_trichotomy p (primeN i) with h | h | h
  · have m := cntW_mono (p := p) (q := primeN i - 1) (by omega)
    have s := cntW_succ (primeN i - 1) (by omega)
    rw [show primeN i - 1 + 1 = primeN i by omega, h1] at s
    simp at s
    omega
  · exact h
  · have m := cntW_mono (p := primeN i) (q := p - 1) (by omega)
    have s := cntW_succ (p - 1) (by omega)
    rw [show p - 1 + 1 = p by omega, hw] at s
    simp at s
    omega
theorem below_prime {p i : Nat} (hi : i < 100) (hc : cntW p ≤ i) : p < primeN i := by
  obtain ⟨h1, h3, h4, _⟩ := primes_ok ⟨i, hi⟩
  simp only at h1 h3 h4
  rcases Nat.lt_or_ge p (primeN i) with h | h
  · exact h
  · have := cntW_mono h; omega

/-- The greatest x whose e-th power isn't above N, among those of so many bits: bit by bit, from the top. -/
def bitRoot (e N : Nat) : Nat → Nat → Nat
  | 0, x => x
  | k + 1, x => bitRoot e N k (if (x + 2 ^ k) ^ e ≤ N then x + 2 ^ k else x)
theorem bitRoot_ok (e N : Nat) : ∀ (k x : Nat), x ^ e ≤ N → N < (x + 2 ^ k) ^ e → (bitRoot e N k x) ^ e ≤ N ∧ N < (bitRoot e N k x + 1) ^ e
  | 0, x, h1, h2 => ⟨h1, by simpa [bitRoot] using h2⟩
  | k + 1, x, h1, h2 => by
    unfold bitRoot
    split
    · rename_i h
      exact bitRoot_ok e N k _ h (by rw [Nat.add_assoc, ← Nat.two_mul, ← Nat.pow_succ']; exact h2)
    · rename_i h
      exact bitRoot_ok e N k x h1 (by omega)
theorem root_unique {e N x y : Nat} (h1 : x ^ e ≤ N) (h2 : N < (x + 1) ^ e) (h3 : y ^ e ≤ N) (h4 : N < (y + 1) ^ e) : x = y := by
  rcases Nat.lt_trichotomy x y with h | h | h
  · have := Nat.pow_le_pow_left (show x + 1 ≤ y by omega) e; omega
  · exact h
  · have := Nat.pow_le_pow_left (show y + 1 ≤ x by omega) e; omega
/-- The square root (e = 2) or the cube root (e = 3) of p times 2^(32 e), rounded down. -/
def rootN (e p : Nat) : Nat := bitRoot e (p * 2 ^ (32 * e)) 49 0
theorem rootN_ok (e p : Nat) (he : e = 2 ∨ e = 3) (hp : p < 4294967296) : (rootN e p) ^ e ≤ p * 2 ^ (32 * e) ∧ p * 2 ^ (32 * e) < (rootN e p + 1) ^ e := by
  apply bitRoot_ok
  · rcases he with rfl | rfl <;> simp
  · rcases he with rfl | rfl
    · simp; omega
    · simp; omega
def rootW (p : Nat) (cube : Bool) : Nat := rootN (if cube then 3 else 2) p % 4294967296
theorem root_2 : rootW 2 false = 1779033703 ∧ rootW 2 true = 1116352408 := by decide +kernel
#print axioms root_2
end Go.Proofs.YtbflkkffpcaakabDoor
