/- Walks over the program's isPrime, primeAbove, Prime. -/
import Derived.Test.YtmachfapcgjljabDoorC
namespace Go.Proofs.YtmachfapcgjljabDoor
open Go.RowKit
/-- Is p divided by none from d on whose square isn't above p? -/
def sqFrom (p d : Nat) : Nat → Bool
  | 0 => true
  | f + 1 => if p < d * d then true else if p % d = 0 then false else sqFrom p (d + 1) f
theorem sqFrom_end {p d f : Nat} (h : p < d * d) : sqFrom p d f = true := by
  cases f with
  | zero => rfl
  | succ f => rw [sqFrom, if_pos h]
theorem sqFrom_step {p d f : Nat} (h : d * d ≤ p) (hf : p + 2 ≤ d + f) : sqFrom p d f = if p % d = 0 then false else sqFrom p (d + 1) (f - 1) := by
  cases f with
  | zero => have := Nat.le_mul_self d; omega
  | succ f => rw [sqFrom, if_neg (by omega)]; rfl
theorem sq_whole : ∀ p : Fin 542, 2 ≤ p.val → sqFrom p.val 2 p.val = wholeB p.val := by decide +kernel

set_option maxRecDepth 100000 in
set_option maxHeartbeats 400000 in
theorem isprime_any (p : Nat) (w : World) (h2 : 2 ≤ p) (hp : p ≤ 541) : Calls Tryd.prog 22 #[.int .u32 (p : Int)] w fun e w' => e = .returned (.bool (wholeB p)) ∧ w' = w := by
  have HE : Hid (sqFrom p 2 p = wholeB p) := sq_whole ⟨p, by omega⟩ h2
  go_enter Tryd.func22, Tryd.ntmps22
  go_wp2
  go_loop [3] (fun d => ∃ k : Nat, 2 ≤ k ∧ k ≤ 24 ∧ d = .int .u32 (k : Int) ∧ wholeB p = sqFrom p k (p + 2 - k)) (fun d => 30 - (intOf d).toNat)
  case atStart => exact ⟨2, by omega, by omega, rfl, HE.out.symm⟩
  case round =>
    obtain ⟨k, hk, hk2, rfl, hw⟩ := hrel
    have HW : Hid (wholeB p = sqFrom p k (p + 2 - k)) := hw
    obtain ⟨q, hq⟩ : ∃ q, q = k * k := ⟨_, rfl⟩
    have hq2 : q ≤ 576 := by rw [hq]; exact Nat.mul_le_mul hk2 hk2
    have hqi : (k : Int) * (k : Int) = (q : Int) := by rw [hq]; simp
    have HQ : Hid (q = k * k) := hq
    have h24 : q ≤ 541 → k ≤ 23 := by
      intro h
      rcases Nat.lt_or_ge k 24 with h' | h'
      · omega
      · have := Nat.mul_le_mul h' h'; omega
    clear hw hq HE
    by_cases hlt : q ≤ p
    · have hst := sqFrom_step (f := p + 2 - k) (HQ.out ▸ hlt) (by omega)
      have hk3 := h24 (by omega)
      clear h24
      by_cases hm : p % k = 0
      · have HR : Hid (wholeB p = false) := by rw [HW.out, hst, if_pos hm]; rfl
        have hmi : ((p : Int) % (k : Int)) = 0 := by omega
        clear hst
        go_wp2
        go_ret
        exact ⟨ret_bool HR.out.symm, rfl⟩
      · have HR : Hid (wholeB p = sqFrom p (k + 1) (p + 2 - (k + 1))) := by rw [HW.out, hst, if_neg hm]; rfl
        have hmi : (((p : Int) % (k : Int)) == 0) = false := by simp; omega
        clear hst
        go_wp2
        go_round
        case rel => exact ⟨k + 1, by omega, by omega, by go_num, HR.out⟩
        case measure => simp [intOf]; omega
    · have HR : Hid (wholeB p = true) := by rw [HW.out, sqFrom_end (by rw [← HQ.out]; omega)]; rfl
      clear h24
      go_wp2
      go_ret
      exact ⟨ret_bool HR.out.symm, rfl⟩

/-- Between one prime and the next there is none. -/
theorem prime_gap {i m : Nat} (hi : i + 1 < 100) (h1 : primeN i < m) (h2 : m < primeN (i + 1)) : wholeB m = false := by
  obtain ⟨a1, a3, a4, _⟩ := primes_ok ⟨i, by omega⟩
  obtain ⟨b1, b3, b4, _⟩ := primes_ok ⟨i + 1, hi⟩
  simp only at a1 a3 a4 b1 b3 b4
  cases hw : wholeB m with
  | false => rfl
  | true =>
    have m1 := cntW_mono (p := primeN i) (q := m - 1) (by omega)
    have s1 := cntW_succ (m - 1) (by omega)
    rw [show m - 1 + 1 = m by omega, hw] at s1
    have m2 := cntW_mono (p := m) (q := primeN (i + 1) - 1) (by omega)
    have s2 := cntW_succ (primeN (i + 1) - 1) (by omega)
    rw [show primeN (i + 1) - 1 + 1 = primeN (i + 1) by omega, b1] at s2
    simp at s1 s2
    omega
theorem prime_lt {i : Nat} (hi : i + 1 < 100) : primeN i < primeN (i + 1) := by
  obtain ⟨a1, a3, a4, _⟩ := primes_ok ⟨i, by omega⟩
  simp only at a3
  exact below_prime hi (by omega)

set_option maxRecDepth 100000 in
set_option maxHeartbeats 400000 in
theorem above_any (i : Nat) (w : World) (hi : i + 1 < 100) : Calls Tryd.prog 16 #[.int .u32 (primeN i : Int)] w fun e w' => e = .returned (.int .u32 (primeN (i + 1) : Int)) ∧ w' = w := by
  have hlt := prime_lt hi
  obtain ⟨_, _, a4, _⟩ := primes_ok ⟨i, by omega⟩
  obtain ⟨b1, _, _, b5⟩ := primes_ok ⟨i + 1, hi⟩
  simp only at a4 b1 b5
  have HG : Hid (∀ m, primeN i < m → m < primeN (i + 1) → wholeB m = false) := fun m h1 h2 => prime_gap hi h1 h2
  have HB : Hid (wholeB (primeN (i + 1)) = true) := b1
  clear b1
  revert HG HB hlt a4 b5
  generalize primeN i = P
  generalize primeN (i + 1) = Q
  intro hlt a4 b5 HG HB
  go_enter Tryd.func16, Tryd.ntmps16
  go_wp2
  go_loop [0] (fun d => ∃ m : Nat, P < m ∧ m ≤ Q ∧ d = .int .u32 (m : Int)) (fun d => Q - (intOf d).toNat)
  case atStart => exact ⟨P + 1, by omega, by omega, by go_num⟩
  case round =>
    obtain ⟨m, h1, h2, rfl⟩ := hrel
    by_cases hm : m < Q
    · have HC : Hid (∀ w, Calls Tryd.prog 22 #[.int .u32 (m : Int)] w fun e w' => e = .returned (.bool false) ∧ w' = w) := by
        intro w
        have := isprime_any m w (by omega) (by omega)
        rwa [HG.out m h1 hm] at this
      go_wp2_with (go_at_call 22; refine (HC.out _).mono ?_; rintro e w' ⟨rfl, hw⟩; subst w')
      go_round
      case rel => exact ⟨m + 1, by omega, by omega, by go_num⟩
      case measure => simp [intOf]; omega
    · obtain rfl : m = Q := by omega
      have HC : Hid (∀ w, Calls Tryd.prog 22 #[.int .u32 (m : Int)] w fun e w' => e = .returned (.bool true) ∧ w' = w) := by
        intro w
        have := isprime_any m w (by omega) (by omega)
        rwa [HB.out] at this
      go_wp2_with (go_at_call 22; refine (HC.out _).mono ?_; rintro e w' ⟨rfl, hw⟩; subst w')
      go_ret
      exact ⟨rfl, rfl⟩

set_option maxRecDepth 100000 in
set_option maxHeartbeats 400000 in
theorem prime0 (i : Nat) (w : World) (hi : i < 100) :
    Calls Tryd.prog 8 #[.int .i64 (i : Int)] w fun e w' => e = .returned (.int .u32 (primeN i : Int)) ∧ w' = w := by
  have hd : decide ((i : Int) < 0) = false := by simp
  have hd1 : decide ((100 : Int) ≤ (i : Int)) = false := by simp; omega
  have H0 : Hid (primeN 0 = 2) := show primeN 0 = 2 by decide +kernel
  go_enter Tryd.func8, Tryd.ntmps8
  go_wp2
  go_loop [3, 11] (fun p n => ∃ j : Nat, j ≤ i ∧ p = .int .u32 (primeN j : Int) ∧ n = .int .i64 (j : Int)) (fun _ n => i - (intOf n).toNat)
  case atStart => exact ⟨0, by omega, by rw [H0.out]; rfl, rfl⟩
  case round =>
    obtain ⟨j, h1, rfl, rfl⟩ := hrel
    by_cases hj : j < i
    · have HC : Hid (∀ w, Calls Tryd.prog 16 #[.int .u32 (primeN j : Int)] w fun e w' => e = .returned (.int .u32 (primeN (j + 1) : Int)) ∧ w' = w) := fun w => above_any j w (by omega)
      go_wp2_with (go_at_call 16; refine (HC.out _).mono ?_; rintro e w' ⟨rfl, hw⟩; subst w')
      go_round
      case rel => exact ⟨j + 1, by omega, rfl, by go_num⟩
      case measure => simp [intOf]; omega
    · obtain rfl : j = i := by omega
      go_wp2
      go_ret
      exact ⟨rfl, rfl⟩
theorem prime_is (i : Int) (w : World) (h : -9223372036854775808 ≤ i ∧ i ≤ 9223372036854775807) :
    Calls Tryd.prog 8 #[.int .i64 i] w fun e w' => e = .returned (.int .u32 (primeI i : Int)) ∧ w' = w := by
  by_cases h0 : i < 0
  · have hd : decide (i < 0) = true := by simp [h0]
    have e : primeI i = 0 := by unfold primeI; rw [if_neg (by omega)]
    rw [e]
    clear e
    go_enter Tryd.func8, Tryd.ntmps8
    go_wp2
    go_ret
    exact ⟨rfl, rfl⟩
  · by_cases h1 : 100 ≤ i
    · have hd : decide (i < 0) = false := by simp; omega
      have hd1 : decide (100 ≤ i) = true := by simp [h1]
      have e : primeI i = 0 := by unfold primeI; rw [if_neg (by omega)]
      rw [e]
      clear e
      go_enter Tryd.func8, Tryd.ntmps8
      go_wp2
      go_ret
      exact ⟨rfl, rfl⟩
    · obtain ⟨n, rfl⟩ := Int.eq_ofNat_of_zero_le (show 0 ≤ i by omega)
      have e : primeI n = primeN n := by unfold primeI; rw [if_pos (by omega)]; simp
      rw [e]
      exact prime0 n w (by omega)
end Go.Proofs.YtmachfapcgjljabDoor
