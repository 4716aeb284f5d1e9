/- Walks over the document's Root, Prime, turn. -/
import Derived.Test.YtbflkkffpcaakaaDoorA
namespace Go.Proofs.YtbflkkffpcaakaaDoor
open Go.RowKit

/-- The bit that is tried with k bits left. -/
def bitOf (k : Nat) : Nat := if k = 0 then 0 else 2 ^ (k - 1)
theorem bitOf_half (k : Nat) (h : 0 < k) : bitOf k / 2 = bitOf (k - 1) := by
  unfold bitOf
  rw [if_neg (by omega)]
  by_cases h1 : k = 1
  · subst h1; rfl
  · rw [if_neg (by omega)]
    obtain ⟨j, rfl⟩ : ∃ j, k = j + 2 := ⟨k - 2, by omega⟩
    show 2 ^ (j + 1) / 2 = 2 ^ j
    rw [Nat.pow_succ]; omega
theorem bitOf_le {k n : Nat} (h : k ≤ n) : bitOf k ≤ 2 ^ n := by
  unfold bitOf
  split
  · exact Nat.zero_le _
  · exact Nat.pow_le_pow_right (by omega) (by omega)
theorem bitOf_pos {k : Nat} (h : 0 < k) : 0 < bitOf k := by
  unfold bitOf; rw [if_neg (by omega)]; exact Nat.pow_pos (by omega)

/-- What the loop of Root holds with k bits left. -/
def RootRel (e N R k x : Nat) : Prop := k ≤ 49 ∧ x + 2 ^ k ≤ 2 ^ 49 ∧ bitRoot e N k x = R
theorem RootRel.step {e N R k x : Nat} (h : RootRel e N R k x) (hk : 0 < k) : RootRel e N R (k - 1) (if (x + bitOf k) ^ e ≤ N then x + bitOf k else x) := by
  obtain ⟨h1, h2, h3⟩ := h
  have hb : bitOf k = 2 ^ (k - 1) := by unfold bitOf; rw [if_neg (by omega)]
  have e1 : 2 ^ k = 2 ^ (k - 1) + 2 ^ (k - 1) := by
    obtain ⟨j, rfl⟩ : ∃ j, k = j + 1 := ⟨k - 1, by omega⟩
    show 2 ^ (j + 1) = 2 ^ j + 2 ^ j
    rw [Nat.pow_succ]; omega
  refine ⟨by omega, ?_, ?_⟩
  · rw [hb]; split <;> omega
  · rw [hb]
    obtain ⟨j, rfl⟩ : ∃ j, k = j + 1 := ⟨k - 1, by omega⟩
    exact h3

set_option maxRecDepth 100000 in
set_option maxHeartbeats 800000 in
theorem root_sq (p : Nat) (w : World) (hp : p < 4294967296) :
    Calls Tryd.prog 45 #[.int .u32 (p : Int), .bool false] w fun e w' => e = .returned (.int .u32 (rootW p false : Int)) ∧ w' = w := by
  have hst : RootRel 2 (p * 2 ^ (32 * 2)) (rootN 2 p) 49 0 := ⟨by omega, by omega, rfl⟩
  have HP : Hid (p < 4294967296) := hp
  have hp' : p ≤ 4294967295 := by omega
  clear hp
  go_enter Tryd.func45, Tryd.ntmps45
  go_wp2
  go_loop [5, 6, 7] (fun x b o => ∃ k X : Nat, x = .int .u64 (X : Int) ∧ b = .int .u64 (bitOf k : Int) ∧ RootRel 2 (p * 2 ^ (32 * 2)) (rootN 2 p) k X) (fun _ b _ => (intOf b).toNat)
  case atStart => exact ⟨49, 0, rfl, rfl, hst⟩
  case round =>
    obtain ⟨k, X, rfl, rfl, hrel⟩ := hrel
    by_cases hk : 0 < k
    · have hnx := hrel.step hk
      have hbh := bitOf_half k hk
      have hbl := bitOf_le hrel.1
      have hbp := bitOf_pos hk
      have hxl : X ≤ 562949953421312 := by have := hrel.2.1; have := Nat.pow_pos (n := k) (show 0 < 2 by omega); omega
      obtain ⟨b, hb⟩ : ∃ b, bitOf k = b := ⟨_, rfl⟩
      rw [hb] at hnx hbh hbl hbp ⊢
      have hbl' : b ≤ 562949953421312 := by omega
      have HH : Hid (b / 2 = bitOf (k - 1)) := hbh
      clear hbh hbl hrel hb hst
      have HC : Hid (∀ w, Calls Tryd.prog 53 #[.int .u64 ((X : Int) + (b : Int)), .int .u64 (p : Int)] w fun e w' => e = .returned (.bool (decide ((X + b) ^ 2 ≤ p * 2 ^ (32 * 2)))) ∧ w' = w) := by
        intro w
        have := below_any (X + b) p w (by omega)
        rwa [Int.natCast_add] at this
      by_cases ht : (X + b) ^ 2 ≤ p * 2 ^ (32 * 2)
      · rw [if_pos ht] at hnx
        rw [decide_eq_true ht] at HC
        clear ht
        go_wp2_with (go_at_call 53; refine (HC.out _).mono ?_; rintro e w' ⟨rfl, hw⟩; subst w')
        go_round
        case rel => exact ⟨k - 1, X + b, by go_num, by rw [← HH.out]; go_num, hnx⟩
        case measure => simp [intOf]; omega
      · rw [if_neg ht] at hnx
        rw [decide_eq_false ht] at HC
        clear ht
        go_wp2_with (go_at_call 53; refine (HC.out _).mono ?_; rintro e w' ⟨rfl, hw⟩; subst w')
        go_round
        case rel => exact ⟨k - 1, X, rfl, by rw [← HH.out]; go_num, hnx⟩
        case measure => simp [intOf]; omega
    · obtain rfl : k = 0 := by omega
      have HR : Hid (X = rootN 2 p) := hrel.2.2
      have hxl : X ≤ 562949953421312 := by have := hrel.2.1; omega
      have hb0 : bitOf 0 = 0 := rfl
      clear hrel hst
      go_wp2
      go_ret
      exact ⟨ret_int (by show _ = ((rootN 2 p % 4294967296 : Nat) : Int); rw [← HR.out]; omega), rfl⟩
end Go.Proofs.YtbflkkffpcaakaaDoor
