/- Walks over the program's Root. -/
import Derived.Test.YtmachfapcgjljabDoorG
import Derived.Laws.ShiftsVarLaws
namespace Go.Proofs.YtmachfapcgjljabDoor
open Go.RowKit
theorem root48 (e p : Nat) (he : e = 2 ∨ e = 3) (hp : p < 4294967296) : bitRoot e (p * 2 ^ (32 * e)) 48 0 = rootN e p := by
  have h1 := rootN_ok e p he hp
  have h2 := bitRoot_ok e (p * 2 ^ (32 * e)) 48 0 (by rcases he with rfl | rfl <;> simp) (by rcases he with rfl | rfl <;> simp <;> omega)
  exact root_unique h2.1 h2.2 h1.1 h1.2
theorem or_bit (X c : Nat) (h : X % 2 ^ (c + 1) = 0) : X ||| 2 ^ c = X + 2 ^ c := by
  obtain ⟨a, rfl⟩ : ∃ a, X = 2 ^ (c + 1) * a := ⟨X / 2 ^ (c + 1), by have := Nat.div_add_mod X (2 ^ (c + 1)); omega⟩
  exact (Nat.two_pow_add_eq_or_of_lt (Nat.pow_lt_pow_right (by omega) (by omega)) a).symm
theorem mod_bit (X c : Nat) (h : X % 2 ^ (c + 1) = 0) : X % 2 ^ c = 0 := by
  obtain ⟨a, rfl⟩ : ∃ a, X = 2 ^ (c + 1) * a := ⟨X / 2 ^ (c + 1), by have := Nat.div_add_mod X (2 ^ (c + 1)); omega⟩
  rw [Nat.pow_succ, Nat.mul_assoc, Nat.mul_mod_right]
theorem mod_bit' (X c : Nat) (h : X % 2 ^ (c + 1) = 0) : (X + 2 ^ c) % 2 ^ c = 0 := by
  rw [Nat.add_mod_right]; exact mod_bit X c h

set_option maxRecDepth 100000 in
set_option maxHeartbeats 800000 in
theorem root0_sq (p : Nat) (w : World) (hp : p < 4294967296) :
    Calls Tryd.prog 7 #[.int .u32 (p : Int), .bool false] w fun e w' => e = .returned (.int .u32 (rootW p false : Int)) ∧ w' = w := by
  have hst : RootRel 2 (p * 2 ^ (32 * 2)) (rootN 2 p) 48 0 := ⟨by omega, by omega, root48 2 p (by simp) hp⟩
  have HP : Hid (p < 4294967296) := hp
  have hp' : p ≤ 4294967295 := by omega
  clear hp
  go_enter Tryd.func7, Tryd.ntmps7
  go_wp2
  go_loop [6, 10] (fun x i => ∃ k X : Nat, k ≤ 48 ∧ x = .int .u64 (X : Int) ∧ i = .int .i64 ((48 - k : Nat) : Int) ∧ RootRel 2 (p * 2 ^ (32 * 2)) (rootN 2 p) k X ∧ X % 2 ^ k = 0) (fun _ i => 48 - (intOf i).toNat)
  case atStart => exact ⟨48, 0, by omega, rfl, rfl, hst, by simp⟩
  case round =>
    obtain ⟨k, X, hk48, rfl, rfl, hrel, hmod⟩ := hrel
    by_cases hk : 0 < k
    · have hnx := hrel.step hk
      have hxl : X ≤ 562949953421312 := by have := hrel.2.1; have := Nat.pow_pos (n := k) (show 0 < 2 by omega); omega
      obtain ⟨c, rfl⟩ : ∃ c, k = c + 1 := ⟨k - 1, by omega⟩
      have hor := or_bit X c hmod
      have hm0 := mod_bit X c hmod
      have hm1 := mod_bit' X c hmod
      have hbl : 2 ^ c ≤ 2 ^ 47 := Nat.pow_le_pow_right (by omega) (by omega)
      have hbk : bitOf (c + 1) = 2 ^ c := rfl
      rw [hbk] at hnx
      have hsh : IntKind.u64.wrap ((2 : Int) ^ c) = ((2 ^ c : Nat) : Int) := by
        have : ((2 : Int) ^ c) = ((2 ^ c : Nat) : Int) := by simp
        rw [IntKind.wrap_u64, this]; omega
      obtain ⟨b, hb⟩ : ∃ b, 2 ^ c = b := ⟨_, rfl⟩
      have HB : Hid (2 ^ c = b) := hb
      rw [hb] at hnx hbl hor hm0 hm1 hsh
      have hbl' : b ≤ 140737488355328 := by omega
      have hori : bits BinOp.or IntKind.u64 (X : Int) (b : Int) = ((X + b : Nat) : Int) := by
        rw [u64_or_nat X b (by omega) (by omega), hor]
      obtain ⟨j, hj⟩ : ∃ j, j = 48 - (c + 1) := ⟨_, rfl⟩
      have hcj : (47 : Int) - (j : Int) = (c : Int) := by omega
      have hc64 : (c : Int) ≤ 47 := by omega
      have HC : Hid (∀ w, Calls Tryd.prog 14 #[.int .u64 ((X + b : Nat) : Int), .int .u32 (p : Int)] w fun e w' => e = .returned (.bool (decide ((X + b) ^ 2 ≤ p * 2 ^ (32 * 2)))) ∧ w' = w) := fun w => square_any (X + b) p w (by omega) HP.out
      rw [← hj]
      have hj48 : j < 48 := by omega
      have HJ : Hid (j = 48 - (c + 1)) := hj
      obtain ⟨Y, hY⟩ : ∃ Y, Y = X + b := ⟨_, rfl⟩
      rw [← hY] at HC hori hnx hm1
      have HY : Hid (Y = X + b) := hY
      have hyl : Y ≤ 1125899906842624 := by omega
      clear hj hrel hst hb hor hbl hmod hbk hY
      by_cases ht : Y ^ 2 ≤ p * 2 ^ (32 * 2)
      · rw [if_pos ht] at hnx
        rw [decide_eq_true ht] at HC
        have HN : Hid (RootRel 2 (p * 2 ^ (32 * 2)) (rootN 2 p) c Y) := hnx
        clear ht hnx
        go_wp2_with (go_at_call 14; refine (HC.out _).mono ?_; rintro e w' ⟨rfl, hw⟩; subst w')
        go_round
        case rel => exact ⟨c, Y, by omega, by go_num, by have := HJ.out; go_num, HN.out, by rw [HB.out]; exact hm1⟩
        case measure => simp [intOf]; omega
      · rw [if_neg ht] at hnx
        rw [decide_eq_false ht] at HC
        have HN : Hid (RootRel 2 (p * 2 ^ (32 * 2)) (rootN 2 p) c X) := hnx
        clear ht hnx
        go_wp2_with (go_at_call 14; refine (HC.out _).mono ?_; rintro e w' ⟨rfl, hw⟩; subst w')
        go_round
        case rel => exact ⟨c, X, by omega, rfl, by have := HJ.out; go_num, HN.out, by rw [HB.out]; exact hm0⟩
        case measure => simp [intOf]; omega
    · obtain rfl : k = 0 := by omega
      have HR : Hid (X = rootN 2 p) := hrel.2.2
      have hxl : X ≤ 562949953421312 := by have := hrel.2.1; omega
      clear hrel hst hmod
      go_wp2
      go_ret
      exact ⟨ret_int (by show _ = ((rootN 2 p % 4294967296 : Nat) : Int); rw [← HR.out]; (try rw [IntKind.wrap_u32']); omega), rfl⟩

set_option maxRecDepth 100000 in
set_option maxHeartbeats 800000 in
theorem root0_cu (p : Nat) (w : World) (hp : p < 4294967296) :
    Calls Tryd.prog 7 #[.int .u32 (p : Int), .bool true] w fun e w' => e = .returned (.int .u32 (rootW p true : Int)) ∧ w' = w := by
  have hst : RootRel 3 (p * 2 ^ (32 * 3)) (rootN 3 p) 48 0 := ⟨by omega, by omega, root48 3 p (by simp) hp⟩
  have HP : Hid (p < 4294967296) := hp
  have hp' : p ≤ 4294967295 := by omega
  clear hp
  go_enter Tryd.func7, Tryd.ntmps7
  go_wp2
  go_loop [6, 10] (fun x i => ∃ k X : Nat, k ≤ 48 ∧ x = .int .u64 (X : Int) ∧ i = .int .i64 ((48 - k : Nat) : Int) ∧ RootRel 3 (p * 2 ^ (32 * 3)) (rootN 3 p) k X ∧ X % 2 ^ k = 0) (fun _ i => 48 - (intOf i).toNat)
  case atStart => exact ⟨48, 0, by omega, rfl, rfl, hst, by simp⟩
  case round =>
    obtain ⟨k, X, hk48, rfl, rfl, hrel, hmod⟩ := hrel
    by_cases hk : 0 < k
    · have hnx := hrel.step hk
      have hxl : X ≤ 562949953421312 := by have := hrel.2.1; have := Nat.pow_pos (n := k) (show 0 < 2 by omega); omega
      obtain ⟨c, rfl⟩ : ∃ c, k = c + 1 := ⟨k - 1, by omega⟩
      have hor := or_bit X c hmod
      have hm0 := mod_bit X c hmod
      have hm1 := mod_bit' X c hmod
      have hbl : 2 ^ c ≤ 2 ^ 47 := Nat.pow_le_pow_right (by omega) (by omega)
      have hbk : bitOf (c + 1) = 2 ^ c := rfl
      rw [hbk] at hnx
      have hsh : IntKind.u64.wrap ((2 : Int) ^ c) = ((2 ^ c : Nat) : Int) := by
        have : ((2 : Int) ^ c) = ((2 ^ c : Nat) : Int) := by simp
        rw [IntKind.wrap_u64, this]; omega
      obtain ⟨b, hb⟩ : ∃ b, 2 ^ c = b := ⟨_, rfl⟩
      have HB : Hid (2 ^ c = b) := hb
      rw [hb] at hnx hbl hor hm0 hm1 hsh
      have hbl' : b ≤ 140737488355328 := by omega
      have hori : bits BinOp.or IntKind.u64 (X : Int) (b : Int) = ((X + b : Nat) : Int) := by
        rw [u64_or_nat X b (by omega) (by omega), hor]
      obtain ⟨j, hj⟩ : ∃ j, j = 48 - (c + 1) := ⟨_, rfl⟩
      have hcj : (47 : Int) - (j : Int) = (c : Int) := by omega
      have hc64 : (c : Int) ≤ 47 := by omega
      have HC : Hid (∀ w, Calls Tryd.prog 15 #[.int .u64 ((X + b : Nat) : Int), .int .u32 (p : Int)] w fun e w' => e = .returned (.bool (decide ((X + b) ^ 3 ≤ p * 2 ^ (32 * 3)))) ∧ w' = w) := fun w => cubefits_any (X + b) p w (by omega) HP.out
      rw [← hj]
      have hj48 : j < 48 := by omega
      have HJ : Hid (j = 48 - (c + 1)) := hj
      obtain ⟨Y, hY⟩ : ∃ Y, Y = X + b := ⟨_, rfl⟩
      rw [← hY] at HC hori hnx hm1
      have HY : Hid (Y = X + b) := hY
      have hyl : Y ≤ 1125899906842624 := by omega
      clear hj hrel hst hb hor hbl hmod hbk hY
      by_cases ht : Y ^ 3 ≤ p * 2 ^ (32 * 3)
      · rw [if_pos ht] at hnx
        rw [decide_eq_true ht] at HC
        have HN : Hid (RootRel 3 (p * 2 ^ (32 * 3)) (rootN 3 p) c Y) := hnx
        clear ht hnx
        go_wp2_with (go_at_call 15; refine (HC.out _).mono ?_; rintro e w' ⟨rfl, hw⟩; subst w')
        go_round
        case rel => exact ⟨c, Y, by omega, by go_num, by have := HJ.out; go_num, HN.out, by rw [HB.out]; exact hm1⟩
        case measure => simp [intOf]; omega
      · rw [if_neg ht] at hnx
        rw [decide_eq_false ht] at HC
        have HN : Hid (RootRel 3 (p * 2 ^ (32 * 3)) (rootN 3 p) c X) := hnx
        clear ht hnx
        go_wp2_with (go_at_call 15; refine (HC.out _).mono ?_; rintro e w' ⟨rfl, hw⟩; subst w')
        go_round
        case rel => exact ⟨c, X, by omega, rfl, by have := HJ.out; go_num, HN.out, by rw [HB.out]; exact hm0⟩
        case measure => simp [intOf]; omega
    · obtain rfl : k = 0 := by omega
      have HR : Hid (X = rootN 3 p) := hrel.2.2
      have hxl : X ≤ 562949953421312 := by have := hrel.2.1; omega
      clear hrel hst hmod
      go_wp2
      go_ret
      exact ⟨ret_int (by show _ = ((rootN 3 p % 4294967296 : Nat) : Int); rw [← HR.out]; (try rw [IntKind.wrap_u32']); omega), rfl⟩

theorem root_is (p : Nat) (c : Bool) (w : World) (hp : p < 4294967296) :
    Calls Tryd.prog 7 #[.int .u32 (p : Int), .bool c] w fun e w' => e = .returned (.int .u32 (rootW p c : Int)) ∧ w' = w := by
  cases c
  · exact root0_sq p w hp
  · exact root0_cu p w hp
end Go.Proofs.YtmachfapcgjljabDoor
