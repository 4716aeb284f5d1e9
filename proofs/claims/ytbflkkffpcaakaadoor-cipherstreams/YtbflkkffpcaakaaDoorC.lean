/- Walks over the document's Root (cubes) and Prime. -/
import Derived.Test.YtbflkkffpcaakaaDoorB
namespace Go.Proofs.YtbflkkffpcaakaaDoor
open Go.RowKit
theorem root43 (p : Nat) (hp : p < 4294967296) : bitRoot 3 (p * 2 ^ (32 * 3)) 43 0 = rootN 3 p := by
  have h1 := rootN_ok 3 p (.inr rfl) hp
  have h2 := bitRoot_ok 3 (p * 2 ^ (32 * 3)) 43 0 (by simp) (by simp; omega)
  exact root_unique h2.1 h2.2 h1.1 h1.2
set_option maxRecDepth 100000 in
set_option maxHeartbeats 800000 in
theorem root_cu (p : Nat) (w : World) (hp : p < 4294967296) :
    Calls Tryd.prog 45 #[.int .u32 (p : Int), .bool true] w fun e w' => e = .returned (.int .u32 (rootW p true : Int)) ∧ w' = w := by
  have hst : RootRel 3 (p * 2 ^ (32 * 3)) (rootN 3 p) 43 0 := ⟨by omega, by omega, root43 p hp⟩
  have HP : Hid (p < 4294967296) := hp
  have hp' : p ≤ 4294967295 := by omega
  clear hp
  go_enter Tryd.func45, Tryd.ntmps45
  go_wp2
  go_loop [5, 6, 7] (fun x b o => ∃ k X : Nat, x = .int .u64 (X : Int) ∧ b = .int .u64 (bitOf k : Int) ∧ RootRel 3 (p * 2 ^ (32 * 3)) (rootN 3 p) k X) (fun _ b _ => (intOf b).toNat)
  case atStart => exact ⟨43, 0, rfl, rfl, hst⟩
  case round =>
    obtain ⟨k, X, rfl, rfl, hrel⟩ := hrel
    by_cases hk : 0 < k
    · have hnx := hrel.step hk
      have hbh := bitOf_half k hk
      have hbl := bitOf_le hrel.1
      have hbp := bitOf_pos hk
      have hxl : X ≤ 562949953421312 := by have := hrel.2.1; have := Nat.pow_pos (n := k) (show 0 < 2 by omega); omega
      obtain ⟨b, hb⟩ : ∃ b, bitOf k = b := ⟨_, rfl⟩
      rw [hb] at hnx hbh hbl hbp ⊢
      have hbl' : b ≤ 562949953421312 := by omega
      have HH : Hid (b / 2 = bitOf (k - 1)) := hbh
      clear hbh hbl hrel hb hst
      have HC : Hid (∀ w, Calls Tryd.prog 52 #[.int .u64 ((X : Int) + (b : Int)), .int .u64 (p : Int)] w fun e w' => e = .returned (.bool (decide ((X + b) ^ 3 ≤ p * 2 ^ (32 * 3)))) ∧ w' = w) := by
        intro w
        have := cube_any (X + b) p w (by omega) HP.out
        rwa [Int.natCast_add] at this
      by_cases ht : (X + b) ^ 3 ≤ p * 2 ^ (32 * 3)
      · rw [if_pos ht] at hnx
        rw [decide_eq_true ht] at HC
        clear ht
        go_wp2_with (go_at_call 52; refine (HC.out _).mono ?_; rintro e w' ⟨rfl, hw⟩; subst w')
        go_round
        case rel => exact ⟨k - 1, X + b, by go_num, by rw [← HH.out]; go_num, hnx⟩
        case measure => simp [intOf]; omega
      · rw [if_neg ht] at hnx
        rw [decide_eq_false ht] at HC
        clear ht
        go_wp2_with (go_at_call 52; refine (HC.out _).mono ?_; rintro e w' ⟨rfl, hw⟩; subst w')
        go_round
        case rel => exact ⟨k - 1, X, rfl, by rw [← HH.out]; go_num, hnx⟩
        case measure => simp [intOf]; omega
    · obtain rfl : k = 0 := by omega
      have HR : Hid (X = rootN 3 p) := hrel.2.2
      have hxl : X ≤ 562949953421312 := by have := hrel.2.1; omega
      have hb0 : bitOf 0 = 0 := rfl
      clear hrel hst
      go_wp2
      go_ret
      exact ⟨ret_int (by show _ = ((rootN 3 p % 4294967296 : Nat) : Int); rw [← HR.out]; omega), rfl⟩

theorem root_any (p : Nat) (c : Bool) (w : World) (hp : p < 4294967296) :
    Calls Tryd.prog 45 #[.int .u32 (p : Int), .bool c] w fun e w' => e = .returned (.int .u32 (rootW p c : Int)) ∧ w' = w := by
  cases c
  · exact root_sq p w hp
  · exact root_cu p w hp
/-- The prime of a number, or 0. -/
def primeI (i : Int) : Nat := if 0 ≤ i ∧ i ≤ 99 then primeN i.toNat else 0
set_option maxRecDepth 100000 in
set_option maxHeartbeats 800000 in
theorem prime_in (i : Nat) (w : World) (hi : i < 100) :
    Calls Tryd.prog 46 #[.int .i64 (i : Int)] w fun e w' => e = .returned (.int .u32 (primeN i : Int)) ∧ w' = w := by
  have hpi := (primes_ok ⟨i, hi⟩).2.2.2
  simp only at hpi
  have HI : Hid (primeN i ≤ 541) := hpi
  clear hpi
  have hd : decide ((i : Int) < 0) = false := by simp
  go_enter Tryd.func46, Tryd.ntmps46
  go_wp2
  go_loop [3, 4] (fun p n => ∃ P N : Nat, p = .int .u32 (P : Int) ∧ n = .int .i64 ((N : Int) - 1) ∧ 1 ≤ P ∧ P ≤ 541 ∧ N ≤ i + 1 ∧ cntW P = N ∧ (N = i + 1 → wholeB P = true)) (fun p _ => 542 - (intOf p).toNat)
  case atStart => exact ⟨1, 0, rfl, rfl, by omega, by omega, by omega, rfl, by omega⟩
  case round =>
    obtain ⟨P, N, rfl, rfl, h1, h2, h3, h4, h5⟩ := hrel
    by_cases hN : N ≤ i
    · have hlt : P < primeN i := below_prime hi (by omega)
      have h541 : P + 1 ≤ 541 := by have := HI.out; omega
      have hs := cntW_succ P h1
      have HC : Hid (∀ w, Calls Tryd.prog 51 #[.int .u32 ((P : Int) + 1)] w fun e w' => e = .returned (.bool (wholeB (P + 1))) ∧ w' = w) := by
        intro w
        have := whole_any (P + 1) w (by omega)
        rwa [Int.natCast_add] at this
      have hc1 : (N : Int) - 1 < (i : Int) := by omega
      by_cases hw : wholeB (P + 1) = true
      · rw [hw] at HC hs
        rw [if_pos rfl] at hs
        have HS : Hid (cntW (P + 1) = cntW P + 1) := hs
        have H4 : Hid (cntW P = N) := h4
        have HW : Hid (wholeB (P + 1) = true) := hw
        clear hs h4 h5 hlt hw
        go_wp2_with (go_at_call 51; refine (HC.out _).mono ?_; rintro e w' ⟨rfl, hw⟩; subst w')
        go_round
        case rel => exact ⟨P + 1, N + 1, by go_num, by go_num, by omega, by omega, by omega, by rw [HS.out, H4.out], fun _ => HW.out⟩
        case measure => simp [intOf]; omega
      · have hw' : wholeB (P + 1) = false := by simpa using hw
        rw [hw'] at HC hs
        rw [if_neg (by simp), Nat.add_zero] at hs
        have HS : Hid (cntW (P + 1) = cntW P) := hs
        have H4 : Hid (cntW P = N) := h4
        clear hs h4 h5 hlt hw hw'
        go_wp2_with (go_at_call 51; refine (HC.out _).mono ?_; rintro e w' ⟨rfl, hw⟩; subst w')
        go_round
        case rel => exact ⟨P + 1, N, by go_num, rfl, by omega, by omega, by omega, by rw [HS.out, H4.out], by omega⟩
        case measure => simp [intOf]; omega
    · obtain rfl : N = i + 1 := by omega
      have HW := h5 rfl
      have HP : Hid (P = primeN i) := by
        refine prime_of hi HW ?_ h4
        rcases Nat.lt_or_ge P 2 with h | h
        · obtain rfl : P = 1 := by omega
          simp [cntW] at h4
        · exact h
      have hc1 : ¬ ((i + 1 : Nat) : Int) - 1 < (i : Int) := by omega
      clear h4 h5 HW
      go_wp2
      go_ret
      exact ⟨ret_int (by rw [← HP.out]), rfl⟩
theorem prime_any (i : Int) (w : World) (h : -9223372036854775808 ≤ i ∧ i ≤ 9223372036854775807) :
    Calls Tryd.prog 46 #[.int .i64 i] w fun e w' => e = .returned (.int .u32 (primeI i : Int)) ∧ w' = w := by
  by_cases h0 : i < 0
  · have hd : decide (i < 0) = true := by simp [h0]
    have e : primeI i = 0 := by unfold primeI; rw [if_neg (by omega)]
    rw [e]
    clear e
    go_enter Tryd.func46, Tryd.ntmps46
    go_wp2
    go_ret
    exact ⟨rfl, rfl⟩
  · by_cases h1 : 99 < i
    · have hd : decide (i < 0) = false := by simp; omega
      have hd1 : decide (99 < i) = true := by simp [h1]
      have e : primeI i = 0 := by unfold primeI; rw [if_neg (by omega)]
      rw [e]
      clear e
      go_enter Tryd.func46, Tryd.ntmps46
      go_wp2
      go_ret
      exact ⟨rfl, rfl⟩
    · obtain ⟨n, rfl⟩ : ∃ n : Nat, i = n := ⟨i.toNat, by omega⟩
      have e : primeI n = primeN n := by unfold primeI; rw [if_pos (by omega)]; simp
      rw [e]
      exact prime_in n w (by omega)
end Go.Proofs.YtbflkkffpcaakaaDoor
