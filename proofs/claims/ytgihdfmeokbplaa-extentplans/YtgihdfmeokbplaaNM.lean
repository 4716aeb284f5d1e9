/- Plain mathematics of layer 1: a number's bytes, how many they are, and how they are read again. No program is named here. -/
import Derived.Lib.BitFns
namespace Go.Proofs.Ytgihdfmeokbplaa

/-- The bytes of a number: sevens of bits, the least first; each byte but the last has 128 added. -/
def putN (n : Nat) : List UInt8 := if n < 128 then [UInt8.ofNat n] else UInt8.ofNat (n % 128 + 128) :: putN (n / 128)
termination_by n
decreasing_by omega

theorem putN_small {n : Nat} (h : n < 128) : putN n = [UInt8.ofNat n] := by rw [putN, if_pos h]
theorem putN_more {n : Nat} (h : ¬ n < 128) : putN n = UInt8.ofNat (n % 128 + 128) :: putN (n / 128) := by rw [putN, if_neg h]
theorem putN_300 : putN 300 = [172, 2] := by rw [putN_more (by decide), putN_small (by decide)]; rfl

theorem putN_pos (n : Nat) : 1 ≤ (putN n).length := by
  by_cases h : n < 128
  · rw [putN_small h]; simp
  · rw [putN_more h]; simp

theorem bitLen_small : ∀ n : Fin 128, Lib.bitLen n.val ≤ 7 ∧ (n.val ≠ 0 → 1 ≤ Lib.bitLen n.val) := by decide +kernel

theorem bitLen_pos : ∀ n : Nat, n ≠ 0 → n < 2 ^ 64 → 1 ≤ Lib.bitLen n := by
  intro n h0 h
  rw [Lib.bitLen_half n h0 h]
  omega

theorem putN_len (n : Nat) (h : n < 2 ^ 64) : (putN n).length = max 1 ((Lib.bitLen n + 6) / 7) := by
  induction n using Nat.strongRecOn with
  | ind n ih =>
    by_cases hn : n < 128
    · rw [putN_small hn]
      have := bitLen_small ⟨n, hn⟩
      simp only at this
      simp only [List.length_singleton]
      omega
    · rw [putN_more hn, List.length_cons, ih (n / 128) (by omega) (by omega)]
      have s := Lib.bitLen_shift 7 n (by omega) h
      have e : n / 2 ^ 7 = n / 128 := rfl
      rw [e] at s
      have p := bitLen_pos (n / 128) (by omega) (by omega)
      omega

theorem bitLen_le : ∀ (f x : Nat), Lib.bitLenAux f x ≤ f
  | 0, x => by simp [Lib.bitLenAux]
  | f + 1, x => by
    simp only [Lib.bitLenAux]
    split
    · omega
    · have := bitLen_le f (x / 2); omega
theorem bitLen_le64 (x : Nat) : Lib.bitLen x ≤ 64 := bitLen_le 64 x

theorem putN_le10 (n : Nat) (h : n < 2 ^ 64) : (putN n).length ≤ 10 := by
  rw [putN_len n h]
  have := bitLen_le64 n
  omega

/-- What is read of the bytes l, behind i bytes that told acc: the number, how many bytes it has, and the word (0: read; 3: it ends too early; 4: no form). -/
def getL : List UInt8 → Nat → Nat → Nat × Nat × Nat
  | [], i, _ => if i = 10 then (0, 0, 4) else (0, 0, 3)
  | c :: t, i, acc =>
    if i = 10 then (0, 0, 4)
    else if 128 ≤ c.toNat then getL t (i + 1) (acc + c.toNat % 128 * 128 ^ i)
    else if (0 < i ∧ c.toNat = 0) ∨ (i = 9 ∧ 1 < c.toNat) then (0, 0, 4)
    else (acc + c.toNat * 128 ^ i, i + 1, 0)

theorem getL_ten (l : List UInt8) (acc : Nat) : getL l 10 acc = (0, 0, 4) := by cases l <;> simp [getL]
theorem getL_end {l : List UInt8} {i acc : Nat} (h : l = []) (hi : i < 10) : getL l i acc = (0, 0, 3) := by subst h; simp [getL]; omega
theorem getL_on {l t : List UInt8} {c : UInt8} {i acc : Nat} (h : l = c :: t) (hi : i < 10) (hc : 128 ≤ c.toNat) : getL l i acc = getL t (i + 1) (acc + c.toNat % 128 * 128 ^ i) := by
  subst h; rw [getL, if_neg (by omega), if_pos hc]
theorem getL_bad {l t : List UInt8} {c : UInt8} {i acc : Nat} (h : l = c :: t) (hi : i < 10) (hc : ¬ 128 ≤ c.toNat) (hb : (0 < i ∧ c.toNat = 0) ∨ (i = 9 ∧ 1 < c.toNat)) : getL l i acc = (0, 0, 4) := by
  subst h; rw [getL, if_neg (by omega), if_neg hc, if_pos hb]
theorem getL_ok {l t : List UInt8} {c : UInt8} {i acc : Nat} (h : l = c :: t) (hi : i < 10) (hc : ¬ 128 ≤ c.toNat) (hb : ¬ ((0 < i ∧ c.toNat = 0) ∨ (i = 9 ∧ 1 < c.toNat))) : getL l i acc = (acc + c.toNat * 128 ^ i, i + 1, 0) := by
  subst h; rw [getL, if_neg (by omega), if_neg hc, if_neg hb]

/-- The reading at a place: the number, the place behind it, the word. -/
def getAt (b : List UInt8) (at_ : Int) : Nat × Int × Nat :=
  if at_ < 0 ∨ (b.length : Int) < at_ then (0, 0, 9)
  else let r := getL (b.drop at_.toNat) 0 0; (r.1, if r.2.2 = 0 then at_ + r.2.1 else 0, r.2.2)

theorem drop_cons (b : List UInt8) (j : Nat) (h : j < b.length) : b.drop j = b[j] :: b.drop (j + 1) := List.drop_eq_getElem_cons h

/-- What is written of a number is read as it, whatever stands behind it. -/
theorem getL_putN (n : Nat) (rest : List UInt8) : ∀ (i acc : Nat), i + (putN n).length ≤ 10 → (i = 0 ∨ 0 < n) → (i + (putN n).length = 10 → n < 128 ^ (10 - i) / 64 ) →
    getL (putN n ++ rest) i acc = (acc + n * 128 ^ i, i + (putN n).length, 0) := by
  induction n using Nat.strongRecOn with
  | ind n ih =>
    intro i acc hi h0 h10
    by_cases hn : n < 128
    · have e : putN n = [UInt8.ofNat n] := putN_small hn
      rw [e] at hi h10 ⊢
      simp only [List.length_singleton, List.singleton_append] at hi h10 ⊢
      have ec : (UInt8.ofNat n).toNat = n := by simp; omega
      rw [getL_ok (c := UInt8.ofNat n) (t := rest) rfl (by omega) (by omega) (by
        rw [ec]
        intro h
        rcases h with h | ⟨h9, h1⟩
        · omega
        · subst h9
          have := h10 (by omega)
          simp at this
          omega), ec]
    · have e : putN n = UInt8.ofNat (n % 128 + 128) :: putN (n / 128) := putN_more hn
      have hp := putN_pos (n / 128)
      rw [e] at hi h10 ⊢
      simp only [List.length_cons, List.cons_append] at hi h10 ⊢
      have ec : (UInt8.ofNat (n % 128 + 128)).toNat = n % 128 + 128 := by simp; omega
      rw [getL_on (c := UInt8.ofNat (n % 128 + 128)) (t := putN (n / 128) ++ rest) rfl (by omega) (by omega), ec,
        ih (n / 128) (by omega) (i + 1) _ (by omega) (by right; omega) (by
          intro h
          have := h10 (by omega)
          have e10 : 10 - i = (10 - (i + 1)) + 1 := by omega
          rw [e10, Nat.pow_succ] at this
          rw [show 128 ^ (10 - (i + 1)) * 128 / 64 = 128 ^ (10 - (i + 1)) / 64 * 128 from ?_] at this
          · omega
          · obtain ⟨q, hq⟩ : ∃ q, 128 ^ (10 - (i + 1)) = 64 * q := by
              have : 1 ≤ 10 - (i + 1) := by omega
              obtain ⟨m, hm⟩ : ∃ m, 10 - (i + 1) = m + 1 := ⟨10 - (i + 1) - 1, by omega⟩
              exact ⟨128 ^ m * 2, by rw [hm, Nat.pow_succ]; omega⟩
            rw [hq]; omega)]
      have e1 : (n % 128 + 128) % 128 = n % 128 := by omega
      have e2 : n * 128 ^ i = n % 128 * 128 ^ i + n / 128 * 128 ^ (i + 1) := by
        have : n = n % 128 + n / 128 * 128 := by omega
        rw [Nat.pow_succ, ← Nat.mul_assoc, Nat.mul_right_comm, ← Nat.add_mul, ← this]
      rw [e1, e2]
      refine Prod.ext ?_ (Prod.ext ?_ rfl)
      · dsimp only; omega
      · dsimp only; omega

/-- The one of ten bytes at most, with 64 bits: from the first byte on. -/
theorem getL_back (n : Nat) (h : n < 2 ^ 64) (rest : List UInt8) : getL (putN n ++ rest) 0 0 = (n, (putN n).length, 0) := by
  have hl := putN_le10 n h
  rw [getL_putN n rest 0 0 (by omega) (.inl rfl) (fun _ => by omega)]
  simp

/-- Cut short it ends too early. -/
theorem getL_cut (n : Nat) : ∀ (i acc k : Nat), i + (putN n).length ≤ 10 → k < (putN n).length → getL ((putN n).take k) i acc = (0, 0, 3) := by
  induction n using Nat.strongRecOn with
  | ind n ih =>
    intro i acc k hi hk
    by_cases hn : n < 128
    · rw [putN_small hn] at hi hk ⊢
      simp only [List.length_singleton] at hi hk
      obtain rfl : k = 0 := by omega
      exact getL_end (by simp) (by omega)
    · rw [putN_more hn] at hi hk ⊢
      simp only [List.length_cons] at hi hk
      cases k with
      | zero => exact getL_end (by simp) (by omega)
      | succ k =>
        have ec : (UInt8.ofNat (n % 128 + 128)).toNat = n % 128 + 128 := by simp; omega
        rw [List.take_succ_cons, getL_on rfl (by omega) (by omega)]
        exact ih (n / 128) (by omega) (i + 1) _ k (by omega) (by omega)

/-- What is read as a number is just what is written of it. -/
theorem getL_least : ∀ (l : List UInt8) (i acc m k : Nat), getL l i acc = (m, k, 0) → i ≤ 9 → ∃ n, m = acc + n * 128 ^ i ∧ k = i + (putN n).length ∧ (putN n) = l.take (k - i) ∧ k - i ≤ l.length ∧ (0 < i → 0 < n) ∧ (n * 128 ^ i < 2 ^ 64)
  | [], i, acc, m, k, h, hi => by rw [getL_end rfl (by omega)] at h; simp at h
  | c :: t, i, acc, m, k, h, hi => by
    have hc := c.toNat_lt
    by_cases h1 : 128 ≤ c.toNat
    · rw [getL_on rfl (by omega) h1] at h
      by_cases h9 : i = 9
      · subst h9; rw [getL_ten] at h; simp at h
      · obtain ⟨n, e1, e2, e3, e4, e5, e6⟩ := getL_least t (i + 1) _ m k h (by omega)
        have hp := putN_pos n
        have n0 := e5 (by omega)
        have ep : putN (c.toNat % 128 + n * 128) = c :: putN n := by
          rw [putN_more (by omega), show (c.toNat % 128 + n * 128) / 128 = n by omega, show (c.toNat % 128 + n * 128) % 128 + 128 = c.toNat by omega]
          simp
        have em : (c.toNat % 128 + n * 128) * 128 ^ i = c.toNat % 128 * 128 ^ i + n * 128 ^ (i + 1) := by
          rw [Nat.add_mul, Nat.pow_succ, Nat.mul_assoc n, Nat.mul_comm 128]
        refine ⟨c.toNat % 128 + n * 128, by rw [em]; omega, by rw [ep, List.length_cons]; omega, ?_, by simp only [List.length_cons]; omega, by omega, ?_⟩
        · rw [ep, show k - i = (k - (i + 1)) + 1 by omega, List.take_succ_cons, e3]
        · rw [em]
          have hq : c.toNat % 128 * 128 ^ i < 128 ^ (i + 1) := by
            rw [Nat.pow_succ, Nat.mul_comm]
            exact Nat.mul_lt_mul_of_pos_left (by omega) (Nat.pow_pos (by omega))
          have hd : ∃ q, 2 ^ 64 = 128 ^ (i + 1) * q := by
            have hle : 7 * (i + 1) ≤ 64 := by omega
            refine ⟨2 ^ (64 - 7 * (i + 1)), ?_⟩
            rw [show (128 : Nat) = 2 ^ 7 from rfl, ← Nat.pow_mul, ← Nat.pow_add]
            congr 1; omega
          obtain ⟨q, hd⟩ := hd
          rw [hd] at e6 ⊢
          rw [Nat.mul_comm n] at e6 ⊢
          have hnq : n < q := Nat.lt_of_mul_lt_mul_left e6
          calc c.toNat % 128 * 128 ^ i + 128 ^ (i + 1) * n < 128 ^ (i + 1) + 128 ^ (i + 1) * n := by omega
            _ = 128 ^ (i + 1) * (n + 1) := by rw [Nat.mul_add, Nat.mul_one]; omega
            _ ≤ 128 ^ (i + 1) * q := Nat.mul_le_mul_left _ hnq
    · by_cases hb : (0 < i ∧ c.toNat = 0) ∨ (i = 9 ∧ 1 < c.toNat)
      · rw [getL_bad rfl (by omega) h1 hb] at h; simp at h
      · rw [getL_ok rfl (by omega) h1 hb] at h
        simp only [Prod.mk.injEq, and_true] at h
        obtain ⟨rfl, rfl⟩ := h
        have ep : putN c.toNat = [c] := by rw [putN_small (by omega)]; simp
        refine ⟨c.toNat, rfl, by rw [ep]; simp, by rw [ep, show i + 1 - i = 1 by omega]; simp, by simp, by omega, ?_⟩
        by_cases h9 : i = 9
        · subst h9
          have : c.toNat ≤ 1 := by omega
          have : c.toNat * 128 ^ 9 ≤ 1 * 128 ^ 9 := Nat.mul_le_mul_right _ this
          omega
        · have h8 : i ≤ 8 := by omega
          have h2 : 128 ^ i ≤ 128 ^ 8 := Nat.pow_le_pow_right (by omega) h8
          have : c.toNat * 128 ^ i ≤ 127 * 128 ^ 8 := Nat.mul_le_mul (by omega) h2
          omega

#print axioms getL_back
#print axioms getL_least
end Go.Proofs.Ytgihdfmeokbplaa
