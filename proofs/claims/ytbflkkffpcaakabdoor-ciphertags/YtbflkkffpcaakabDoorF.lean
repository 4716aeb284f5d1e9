/- Walks over the program's isPrime, primeAbove, Prime. -/
import Derived.Test.YtbflkkffpcaakabDoorC
namespace Go.Proofs.YtbflkkffpcaakabDoor
open Go.RowKit
/-- Is p divided by none from d on whose square isn't above p? -/
def sqFrom (p d : Nat) : Nat → Bool
  | 0 => true
  | f + 1 => if p < d * d then true else if p % d = 0 then false else sqFrom p (d + 1) f
theorem sqFrom_end {p d f : Nat} (h : p < d * d) : sqFrom p d f = true := by
  cases f with
  | zero => rfl
  | succ f => rw [sqFrom, if_pos h]
theorem sqFrom_step {p d f : Nat} (h : d * d ≤ p) (hf : p + 2 ≤ d + f) : sqFrom p d f = if p % d = 0 then false else sqFrom p (d + 1) (f - 1) := by
  cases f with
  | zero => have := Nat.le_mul_self d; omega
  | succ f => rw [sqFrom, if_neg (by omega)]; rfl
theorem sq_whole : ∀ p : Fin 542, 2 ≤ p.val → sqFrom p.val 2 p.val = wholeB p.val := by decide +kernel

/-- Between one prime and the next there is none. -/
theorem prime_gap {i m : Nat} (hi : i + 1 < 100) (h1 : primeN i < m) (h2 : m < primeN (i + 1)) : wholeB m = false := by
  obtain ⟨a1, a3, a4, _⟩ := primes_ok ⟨i, by omega⟩
  obtain ⟨b1, b3, b4, _⟩ := primes_ok ⟨i + 1, hi⟩
  simp only at a1 a3 a4 b1 b3 b4
  cases hw : wholeB m with
  | false => rfl
  | true =>
    have m1 := cntW_mono (p := primeN i) (q := m - 1) (by omega)
    have s1 := cntW_succ (m - 1) (by omega)
    rw [show m - 1 + 1 = m by omega, hw] at s1
    have m2 := cntW_mono (p := m) (q := primeN (i + 1) - 1) (by omega)
    have s2 := cntW_succ (primeN (i + 1) - 1) (by omega)
    rw [show primeN (i + 1) - 1 + 1 = primeN (i + 1) by omega, b1] at s2
    simp at s1 s2
    omega
theorem prime_lt {i : Nat} (hi : i + 1 < 100) : primeN i < primeN (i + 1) := by
  obtain ⟨a1, a3, a4, _⟩ := primes_ok ⟨i, by omega⟩
  simp only at a3
  exact below_prime hi (by omega)

end Go.Proofs.YtbflkkffpcaakabDoor
