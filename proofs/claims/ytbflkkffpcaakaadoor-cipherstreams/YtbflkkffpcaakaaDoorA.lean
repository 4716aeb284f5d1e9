/- Walks over the document's whole, Prime, product. -/
import Derived.Test.YtbflkkffpcaakaaDoorProg
import Derived.Test.YtbflkkffpcaakaaDoorM
import Derived.WalkKit
import Derived.WalkSpells
import Derived.WalkLawsBesides
import Derived.Laws.BitsAllLaws
import Derived.Laws.Bits64
namespace Go.Proofs.YtbflkkffpcaakaaDoor
open Go.RowKit

theorem ret_int {k : IntKind} {a b : Int} (h : a = b) : Ending.returned (.int k a) = .returned (.int k b) := by rw [h]
theorem ret_bool {a b : Bool} (h : a = b) : Ending.returned (.bool a) = .returned (.bool b) := by rw [h]
theorem ret_val {a b : Value} (h : a = b) : Ending.returned a = .returned b := by rw [h]

set_option maxRecDepth 100000 in
set_option maxHeartbeats 400000 in
theorem whole_any (p : Nat) (w : World) (hp : p ≤ 4294967295) : Calls Tryd.prog 51 #[.int .u32 (p : Int)] w fun e w' => e = .returned (.bool (wholeB p)) ∧ w' = w := by
  go_enter Tryd.func51, Tryd.ntmps51
  go_wp2
  go_loop [3] (fun d => ∃ k : Nat, 2 ≤ k ∧ (k ≤ p ∨ k = 2) ∧ d = .int .u32 (k : Int) ∧ wholeB p = wholeFrom p k (p + 2 - k)) (fun d => p + 2 - (intOf d).toNat)
  case atStart => exact ⟨2, by omega, by omega, rfl, rfl⟩
  case round =>
    obtain ⟨k, hk, hk2, rfl, hw⟩ := hrel
    have HW : Hid (wholeB p = wholeFrom p k (p + 2 - k)) := hw
    clear hw
    by_cases hlt : k < p
    · have hst := wholeFrom_step (f := p + 2 - k) hlt (by omega)
      by_cases hm : p % k = 0
      · have HR : Hid (wholeB p = false) := by rw [HW.out, hst, if_pos hm]; rfl
        have hmi : ((p : Int) % (k : Int)) = 0 := by omega
        clear hst
        go_wp2
        go_ret
        exact ⟨ret_bool HR.out.symm, rfl⟩
      · have HR : Hid (wholeB p = wholeFrom p (k + 1) (p + 2 - (k + 1))) := by rw [HW.out, hst, if_neg hm]; rfl
        have hmi : (((p : Int) % (k : Int)) == 0) = false := by simp; omega
        clear hst
        go_wp2
        go_round
        case rel => exact ⟨k + 1, by omega, by omega, by go_num, HR.out⟩
        case measure => simp [intOf]; omega
    · have HR : Hid (wholeB p = true) := by rw [HW.out, wholeFrom_end hlt]; rfl
      go_wp2
      go_ret
      exact ⟨ret_bool HR.out.symm, rfl⟩

theorem tup2 {x y x' y' : Int} (h : x = x') (h' : y = y') : Value.tuple #[.int .u64 x, .int .u64 y] = .tuple #[.int .u64 x', .int .u64 y'] := by rw [h, h']
theorem mul_bd {x y : Nat} (hx : x < 4294967296) (hy : y < 4294967296) : x * y ≤ 18446744065119617025 := Nat.mul_le_mul (show x ≤ 4294967295 by omega) (show y ≤ 4294967295 by omega)
theorem product_eq (a b a1 a0 b1 b0 c11 c10 c01 c00 : Nat) (ea : a = a1 * 4294967296 + a0) (eb : b = b1 * 4294967296 + b0) (e11 : a1 * b1 = c11) (e10 : a1 * b0 = c10) (e01 : a0 * b1 = c01) (e00 : a0 * b0 = c00) :
    a * b = c11 * 18446744073709551616 + (c10 + c01) * 4294967296 + c00 := by
  subst ea eb e11 e10 e01 e00
  have h1 : (a1 * 4294967296 + a0) * (b1 * 4294967296 + b0) = a1 * b1 * (4294967296 * 4294967296) + (a1 * b0 + a0 * b1) * 4294967296 + a0 * b0 := by
    simp only [Nat.add_mul, Nat.mul_add, Nat.mul_assoc, Nat.mul_comm, Nat.mul_left_comm]
    omega
  rw [h1]

set_option maxRecDepth 100000 in
set_option maxHeartbeats 400000 in
theorem product_any (a b : Nat) (w : World) (ha : a < 18446744073709551616) (hb : b < 18446744073709551616) :
    Calls Tryd.prog 58 #[.int .u64 (a : Int), .int .u64 (b : Int)] w fun e w' => e = .returned (.tuple #[.int .u64 ((a * b / 18446744073709551616 : Nat) : Int), .int .u64 ((a * b % 18446744073709551616 : Nat) : Int)]) ∧ w' = w := by
  obtain ⟨a1, ha1⟩ : ∃ x, x = a / 4294967296 := ⟨_, rfl⟩
  obtain ⟨a0, ha0⟩ : ∃ x, x = a % 4294967296 := ⟨_, rfl⟩
  obtain ⟨b1, hb1⟩ : ∃ x, x = b / 4294967296 := ⟨_, rfl⟩
  obtain ⟨b0, hb0⟩ : ∃ x, x = b % 4294967296 := ⟨_, rfl⟩
  obtain ⟨c11, e11⟩ : ∃ x, a1 * b1 = x := ⟨_, rfl⟩
  obtain ⟨c10, e10⟩ : ∃ x, a1 * b0 = x := ⟨_, rfl⟩
  obtain ⟨c01, e01⟩ : ∃ x, a0 * b1 = x := ⟨_, rfl⟩
  obtain ⟨c00, e00⟩ : ∃ x, a0 * b0 = x := ⟨_, rfl⟩
  have k11 : c11 ≤ 18446744065119617025 := by rw [← e11]; exact mul_bd (by omega) (by omega)
  have k10 : c10 ≤ 18446744065119617025 := by rw [← e10]; exact mul_bd (by omega) (by omega)
  have k01 : c01 ≤ 18446744065119617025 := by rw [← e01]; exact mul_bd (by omega) (by omega)
  have k00 : c00 ≤ 18446744065119617025 := by rw [← e00]; exact mul_bd (by omega) (by omega)
  have HP : Hid (a * b = c11 * 18446744073709551616 + (c10 + c01) * 4294967296 + c00) := product_eq a b a1 a0 b1 b0 c11 c10 c01 c00 (by omega) (by omega) e11 e10 e01 e00
  have hlt : a * b < 18446744073709551616 * 18446744073709551616 := Nat.mul_lt_mul'' ha hb
  have HT : Hid (c11 + (c10 + c00 / 4294967296) / 4294967296 + (c01 + (c10 + c00 / 4294967296) % 4294967296) / 4294967296 < 18446744073709551616) := by
    have := HP.out; simp only [Hid]; omega
  have r1 : (a : Int) / 4294967296 = (a1 : Int) := by omega
  have r2 : (a : Int) % 4294967296 = (a0 : Int) := by omega
  have r3 : (b : Int) / 4294967296 = (b1 : Int) := by omega
  have r4 : (b : Int) % 4294967296 = (b0 : Int) := by omega
  have m11 : (a1 : Int) * (b1 : Int) = (c11 : Int) := by rw [← e11]; simp
  have m10 : (a1 : Int) * (b0 : Int) = (c10 : Int) := by rw [← e10]; simp
  have m01 : (a0 : Int) * (b1 : Int) = (c01 : Int) := by rw [← e01]; simp
  have m00 : (a0 : Int) * (b0 : Int) = (c00 : Int) := by rw [← e00]; simp
  have ha' : a ≤ 18446744073709551615 := by omega
  have hb' : b ≤ 18446744073709551615 := by omega
  clear ha1 ha0 hb1 hb0 e11 e10 e01 e00 ha hb hlt
  go_enter Tryd.func58, Tryd.ntmps58
  go_wp2
  go_ret2
  exact ⟨ret_val (tup2 (by rw [HP.out]; omega) (by rw [HP.out]; omega)), rfl⟩

/-- The square of x isn't above p times 2^64. -/
theorem below_iff (x p : Nat) : (x * x / 18446744073709551616 < p ∨ (x * x / 18446744073709551616 = p ∧ x * x % 18446744073709551616 = 0)) ↔ x ^ 2 ≤ p * 2 ^ (32 * 2) := by
  rw [Nat.pow_two, show (2 : Nat) ^ (32 * 2) = 18446744073709551616 from rfl]
  generalize x * x = y
  omega

set_option maxRecDepth 100000 in
set_option maxHeartbeats 400000 in
theorem below_any (x p : Nat) (w : World) (hx : x < 18446744073709551616) :
    Calls Tryd.prog 53 #[.int .u64 (x : Int), .int .u64 (p : Int)] w fun e w' => e = .returned (.bool (decide (x ^ 2 ≤ p * 2 ^ (32 * 2)))) ∧ w' = w := by
  have HI : Hid _ := below_iff x p
  have HX : Hid (x < 18446744073709551616) := hx
  obtain ⟨hi, hhi⟩ : ∃ y, x * x / 18446744073709551616 = y := ⟨_, rfl⟩
  obtain ⟨lo, hlo⟩ : ∃ y, x * x % 18446744073709551616 = y := ⟨_, rfl⟩
  rw [hhi, hlo] at HI
  have HC : Hid (∀ w, Calls Tryd.prog 58 #[.int .u64 (x : Int), .int .u64 (x : Int)] w fun e w' => e = .returned (.tuple #[.int .u64 (hi : Int), .int .u64 (lo : Int)]) ∧ w' = w) := by
    intro w
    have := product_any x x w hx hx
    rw [hhi, hlo] at this
    exact this
  obtain ⟨B, hB⟩ : ∃ B, decide (x ^ 2 ≤ p * 2 ^ (32 * 2)) = B := ⟨_, rfl⟩
  have HB : Hid (decide (x ^ 2 ≤ p * 2 ^ (32 * 2)) = B) := hB
  rw [hB]
  have HE : Hid (B = (decide (hi < p) || (decide (hi = p) && decide (lo = 0)))) := by
    rw [← hB, Bool.eq_iff_iff]
    simp only [decide_eq_true_eq, Bool.or_eq_true, Bool.and_eq_true]
    exact HI.out.symm
  clear hB hhi hlo hx HI HB
  by_cases h1 : hi < p
  · go_enter Tryd.func53, Tryd.ntmps53
    go_wp2_with (go_at_call 58; refine (HC.out _).mono ?_; rintro e w' ⟨rfl, hw⟩; subst w')
    go_ret
    exact ⟨ret_bool (by rw [HE.out]; simp [h1]), rfl⟩
  · by_cases h2 : hi = p
    · subst h2
      go_enter Tryd.func53, Tryd.ntmps53
      go_wp2_with (go_at_call 58; refine (HC.out _).mono ?_; rintro e w' ⟨rfl, hw⟩; subst w')
      go_ret
      exact ⟨ret_bool (by rw [HE.out, Bool.eq_iff_iff]; simp; try omega), rfl⟩
    · go_enter Tryd.func53, Tryd.ntmps53
      go_wp2_with (go_at_call 58; refine (HC.out _).mono ?_; rintro e w' ⟨rfl, hw⟩; subst w')
      go_ret
      exact ⟨ret_bool (by rw [HE.out, Bool.eq_iff_iff]; simp; omega), rfl⟩

theorem cube_eq (x hi lo up low top mid : Nat) (h1 : x * x = hi * 18446744073709551616 + lo) (h2 : lo * x = up * 18446744073709551616 + low) (h3 : hi * x = top * 18446744073709551616 + mid) :
    x ^ 3 = top * 340282366920938463463374607431768211456 + (mid + up) * 18446744073709551616 + low := by
  have e : x ^ 3 = x * x * x := by rw [Nat.pow_succ, Nat.pow_two]
  rw [e, h1, Nat.add_mul, Nat.mul_right_comm, h3, h2]
  omega

set_option maxHeartbeats 400000 in
theorem cube1 (x p hi lo up low top mid : Nat) (w : World) (HC1 : Hid (∀ w, Calls Tryd.prog 58 #[.int .u64 (x : Int), .int .u64 (x : Int)] w fun e w' => e = .returned (.tuple #[.int .u64 (hi : Int), .int .u64 (lo : Int)]) ∧ w' = w)) (HC2 : Hid (∀ w, Calls Tryd.prog 58 #[.int .u64 (lo : Int), .int .u64 (x : Int)] w fun e w' => e = .returned (.tuple #[.int .u64 (up : Int), .int .u64 (low : Int)]) ∧ w' = w)) (HC3 : Hid (∀ w, Calls Tryd.prog 58 #[.int .u64 (hi : Int), .int .u64 (x : Int)] w fun e w' => e = .returned (.tuple #[.int .u64 (top : Int), .int .u64 (mid : Int)]) ∧ w' = w)) (h1 : 0 < top) :
    Calls Tryd.prog 52 #[.int .u64 (x : Int), .int .u64 (p : Int)] w fun e w' => e = .returned (.bool false) ∧ w' = w := by
  go_enter Tryd.func52, Tryd.ntmps52
  go_wp2_with fail
  refine (HC1.out _).mono ?_
  rintro e w' ⟨rfl, hw⟩
  subst w'
  go_wp2_with fail
  refine (HC2.out _).mono ?_
  rintro e w' ⟨rfl, hw⟩
  subst w'
  go_wp2_with fail
  refine (HC3.out _).mono ?_
  rintro e w' ⟨rfl, hw⟩
  subst w'
  go_wp2
  go_ret
  exact ⟨rfl, rfl⟩

set_option maxHeartbeats 400000 in
theorem cube2 (x p hi lo up low mid : Nat) (w : World) (HC1 : Hid (∀ w, Calls Tryd.prog 58 #[.int .u64 (x : Int), .int .u64 (x : Int)] w fun e w' => e = .returned (.tuple #[.int .u64 (hi : Int), .int .u64 (lo : Int)]) ∧ w' = w)) (HC2 : Hid (∀ w, Calls Tryd.prog 58 #[.int .u64 (lo : Int), .int .u64 (x : Int)] w fun e w' => e = .returned (.tuple #[.int .u64 (up : Int), .int .u64 (low : Int)]) ∧ w' = w)) (HC3 : Hid (∀ w, Calls Tryd.prog 58 #[.int .u64 (hi : Int), .int .u64 (x : Int)] w fun e w' => e = .returned (.tuple #[.int .u64 ((0 : Nat) : Int), .int .u64 (mid : Int)]) ∧ w' = w)) (V : Nat) (r1 : (18446744073709551615 : Int) - (up : Int) = (V : Int)) (h2 : V < mid) :
    Calls Tryd.prog 52 #[.int .u64 (x : Int), .int .u64 (p : Int)] w fun e w' => e = .returned (.bool false) ∧ w' = w := by
  go_enter Tryd.func52, Tryd.ntmps52
  go_wp2_with fail
  refine (HC1.out _).mono ?_
  rintro e w' ⟨rfl, hw⟩
  subst w'
  go_wp2_with fail
  refine (HC2.out _).mono ?_
  rintro e w' ⟨rfl, hw⟩
  subst w'
  go_wp2_with fail
  refine (HC3.out _).mono ?_
  rintro e w' ⟨rfl, hw⟩
  subst w'
  go_wp2
  go_ret
  exact ⟨rfl, rfl⟩

set_option maxHeartbeats 400000 in
theorem cube3 (x p hi lo up low mid : Nat) (w : World) (HC1 : Hid (∀ w, Calls Tryd.prog 58 #[.int .u64 (x : Int), .int .u64 (x : Int)] w fun e w' => e = .returned (.tuple #[.int .u64 (hi : Int), .int .u64 (lo : Int)]) ∧ w' = w)) (HC2 : Hid (∀ w, Calls Tryd.prog 58 #[.int .u64 (lo : Int), .int .u64 (x : Int)] w fun e w' => e = .returned (.tuple #[.int .u64 (up : Int), .int .u64 (low : Int)]) ∧ w' = w)) (HC3 : Hid (∀ w, Calls Tryd.prog 58 #[.int .u64 (hi : Int), .int .u64 (x : Int)] w fun e w' => e = .returned (.tuple #[.int .u64 ((0 : Nat) : Int), .int .u64 (mid : Int)]) ∧ w' = w)) (V S PP : Nat) (r1 : (18446744073709551615 : Int) - (up : Int) = (V : Int)) (r2 : (mid : Int) + (up : Int) = (S : Int)) (r3 : (p : Int) * 4294967296 = (PP : Int)) (kS : S ≤ 18446744073709551615) (kP : PP ≤ 18446744073709551615) (h3 : S < PP) :
    Calls Tryd.prog 52 #[.int .u64 (x : Int), .int .u64 (p : Int)] w fun e w' => e = .returned (.bool true) ∧ w' = w := by
  go_enter Tryd.func52, Tryd.ntmps52
  go_wp2_with fail
  refine (HC1.out _).mono ?_
  rintro e w' ⟨rfl, hw⟩
  subst w'
  go_wp2_with fail
  refine (HC2.out _).mono ?_
  rintro e w' ⟨rfl, hw⟩
  subst w'
  go_wp2_with fail
  refine (HC3.out _).mono ?_
  rintro e w' ⟨rfl, hw⟩
  subst w'
  go_wp2
  go_ret
  exact ⟨rfl, rfl⟩

set_option maxHeartbeats 400000 in
theorem cube4 (x p hi lo up low mid : Nat) (w : World) (HC1 : Hid (∀ w, Calls Tryd.prog 58 #[.int .u64 (x : Int), .int .u64 (x : Int)] w fun e w' => e = .returned (.tuple #[.int .u64 (hi : Int), .int .u64 (lo : Int)]) ∧ w' = w)) (HC2 : Hid (∀ w, Calls Tryd.prog 58 #[.int .u64 (lo : Int), .int .u64 (x : Int)] w fun e w' => e = .returned (.tuple #[.int .u64 (up : Int), .int .u64 (low : Int)]) ∧ w' = w)) (HC3 : Hid (∀ w, Calls Tryd.prog 58 #[.int .u64 (hi : Int), .int .u64 (x : Int)] w fun e w' => e = .returned (.tuple #[.int .u64 ((0 : Nat) : Int), .int .u64 (mid : Int)]) ∧ w' = w)) (V S PP : Nat) (r1 : (18446744073709551615 : Int) - (up : Int) = (V : Int)) (r2 : (mid : Int) + (up : Int) = (S : Int)) (r3 : (p : Int) * 4294967296 = (PP : Int)) (kS : S ≤ 18446744073709551615) (kP : PP ≤ 18446744073709551615) (h3 : ((S : Int) == (PP : Int)) = true) (h4 : ¬ S < PP) :
    Calls Tryd.prog 52 #[.int .u64 (x : Int), .int .u64 (p : Int)] w fun e w' => e = .returned (.bool (decide (low = 0))) ∧ w' = w := by
  go_enter Tryd.func52, Tryd.ntmps52
  go_wp2_with fail
  refine (HC1.out _).mono ?_
  rintro e w' ⟨rfl, hw⟩
  subst w'
  go_wp2_with fail
  refine (HC2.out _).mono ?_
  rintro e w' ⟨rfl, hw⟩
  subst w'
  go_wp2_with fail
  refine (HC3.out _).mono ?_
  rintro e w' ⟨rfl, hw⟩
  subst w'
  go_wp2
  go_ret
  exact ⟨ret_bool (by rw [Bool.eq_iff_iff]; simp; try omega), rfl⟩

set_option maxHeartbeats 400000 in
theorem cube5 (x p hi lo up low mid : Nat) (w : World) (HC1 : Hid (∀ w, Calls Tryd.prog 58 #[.int .u64 (x : Int), .int .u64 (x : Int)] w fun e w' => e = .returned (.tuple #[.int .u64 (hi : Int), .int .u64 (lo : Int)]) ∧ w' = w)) (HC2 : Hid (∀ w, Calls Tryd.prog 58 #[.int .u64 (lo : Int), .int .u64 (x : Int)] w fun e w' => e = .returned (.tuple #[.int .u64 (up : Int), .int .u64 (low : Int)]) ∧ w' = w)) (HC3 : Hid (∀ w, Calls Tryd.prog 58 #[.int .u64 (hi : Int), .int .u64 (x : Int)] w fun e w' => e = .returned (.tuple #[.int .u64 ((0 : Nat) : Int), .int .u64 (mid : Int)]) ∧ w' = w)) (V S PP : Nat) (r1 : (18446744073709551615 : Int) - (up : Int) = (V : Int)) (r2 : (mid : Int) + (up : Int) = (S : Int)) (r3 : (p : Int) * 4294967296 = (PP : Int)) (kS : S ≤ 18446744073709551615) (kP : PP ≤ 18446744073709551615) (h3 : ((S : Int) == (PP : Int)) = false) (h4 : ¬ S < PP) :
    Calls Tryd.prog 52 #[.int .u64 (x : Int), .int .u64 (p : Int)] w fun e w' => e = .returned (.bool false) ∧ w' = w := by
  go_enter Tryd.func52, Tryd.ntmps52
  go_wp2_with fail
  refine (HC1.out _).mono ?_
  rintro e w' ⟨rfl, hw⟩
  subst w'
  go_wp2_with fail
  refine (HC2.out _).mono ?_
  rintro e w' ⟨rfl, hw⟩
  subst w'
  go_wp2_with fail
  refine (HC3.out _).mono ?_
  rintro e w' ⟨rfl, hw⟩
  subst w'
  go_wp2
  go_ret
  exact ⟨ret_bool (by simp; try omega), rfl⟩


theorem cubeB1 (p up low top mid : Nat) (hp : p ≤ 4294967295) (h : 0 < top) : ¬ top * 340282366920938463463374607431768211456 + (mid + up) * 18446744073709551616 + low ≤ p * (4294967296 * 18446744073709551616) := by omega
theorem cubeB2 (p up low mid : Nat) (hp : p ≤ 4294967295) (h : ¬ mid + up ≤ 18446744073709551615) : ¬ 0 * 340282366920938463463374607431768211456 + (mid + up) * 18446744073709551616 + low ≤ p * (4294967296 * 18446744073709551616) := by omega
theorem cubeB3 (p up low mid : Nat) (hl : low < 18446744073709551616) (h : mid + up < p * 4294967296) : 0 * 340282366920938463463374607431768211456 + (mid + up) * 18446744073709551616 + low ≤ p * (4294967296 * 18446744073709551616) := by omega
theorem cubeB4 (p up low mid : Nat) (h : mid + up = p * 4294967296) : 0 * 340282366920938463463374607431768211456 + (mid + up) * 18446744073709551616 + low ≤ p * (4294967296 * 18446744073709551616) ↔ low = 0 := by omega
theorem cubeB5 (p up low mid : Nat) (h : p * 4294967296 < mid + up) : ¬ 0 * 340282366920938463463374607431768211456 + (mid + up) * 18446744073709551616 + low ≤ p * (4294967296 * 18446744073709551616) := by omega

theorem cube_any (x p : Nat) (w : World) (hx : x < 18446744073709551616) (hp : p < 4294967296) :
    Calls Tryd.prog 52 #[.int .u64 (x : Int), .int .u64 (p : Int)] w fun e w' => e = .returned (.bool (decide (x ^ 3 ≤ p * 2 ^ (32 * 3)))) ∧ w' = w := by
  obtain ⟨hi, hhi⟩ : ∃ y, x * x / 18446744073709551616 = y := ⟨_, rfl⟩
  obtain ⟨lo, hlo⟩ : ∃ y, x * x % 18446744073709551616 = y := ⟨_, rfl⟩
  have hlb : lo < 18446744073709551616 := by omega
  have hhb : hi < 18446744073709551616 := by
    rw [← hhi]; exact Nat.div_lt_of_lt_mul (Nat.mul_lt_mul'' hx hx)
  obtain ⟨up, hup⟩ : ∃ y, lo * x / 18446744073709551616 = y := ⟨_, rfl⟩
  obtain ⟨low, hlow⟩ : ∃ y, lo * x % 18446744073709551616 = y := ⟨_, rfl⟩
  obtain ⟨top, htop⟩ : ∃ y, hi * x / 18446744073709551616 = y := ⟨_, rfl⟩
  obtain ⟨mid, hmid⟩ : ∃ y, hi * x % 18446744073709551616 = y := ⟨_, rfl⟩
  have hub : up ≤ 18446744073709551615 := by
    have : up < 18446744073709551616 := by rw [← hup]; exact Nat.div_lt_of_lt_mul (Nat.mul_lt_mul'' hlb hx)
    omega
  have hmb : mid ≤ 18446744073709551615 := by omega
  have hlwb : low < 18446744073709551616 := by omega
  have hc := cube_eq x hi lo up low top mid (by omega) (by omega) (by omega)
  have HC1 : Hid (∀ w, Calls Tryd.prog 58 #[.int .u64 (x : Int), .int .u64 (x : Int)] w fun e w' => e = .returned (.tuple #[.int .u64 (hi : Int), .int .u64 (lo : Int)]) ∧ w' = w) := by
    intro w; have := product_any x x w hx hx; rw [hhi, hlo] at this; exact this
  have HC2 : Hid (∀ w, Calls Tryd.prog 58 #[.int .u64 (lo : Int), .int .u64 (x : Int)] w fun e w' => e = .returned (.tuple #[.int .u64 (up : Int), .int .u64 (low : Int)]) ∧ w' = w) := by
    intro w; have := product_any lo x w hlb hx; rw [hup, hlow] at this; exact this
  have HC3 : Hid (∀ w, Calls Tryd.prog 58 #[.int .u64 (hi : Int), .int .u64 (x : Int)] w fun e w' => e = .returned (.tuple #[.int .u64 (top : Int), .int .u64 (mid : Int)]) ∧ w' = w) := by
    intro w; have := product_any hi x w hhb hx; rw [htop, hmid] at this; exact this
  have hp' : p ≤ 4294967295 := by omega
  rw [hc, show (2 : Nat) ^ (32 * 3) = 4294967296 * 18446744073709551616 from rfl]
  clear hhi hlo hup hlow htop hmid hc hhb hlb hx hp
  by_cases h1 : 0 < top
  · rw [decide_eq_false (cubeB1 p up low top mid hp' h1)]
    exact cube1 x p hi lo up low top mid w HC1 HC2 HC3 h1
  · obtain rfl : top = 0 := by omega
    by_cases h2 : mid + up ≤ 18446744073709551615
    · have r1 : (18446744073709551615 : Int) - (up : Int) = ((18446744073709551615 - up : Nat) : Int) := by omega
      have r2 : (mid : Int) + (up : Int) = ((mid + up : Nat) : Int) := by omega
      have r3 : (p : Int) * 4294967296 = ((p * 4294967296 : Nat) : Int) := by omega
      rcases Nat.lt_trichotomy (mid + up) (p * 4294967296) with h3 | h3 | h3
      · rw [decide_eq_true (cubeB3 p up low mid hlwb h3)]
        exact cube3 x p hi lo up low mid w HC1 HC2 HC3 _ _ _ r1 r2 r3 h2 (by omega) h3
      · have := cube4 x p hi lo up low mid w HC1 HC2 HC3 _ _ _ r1 r2 r3 h2 (by omega) (by simp; omega) (by omega)
        rwa [← decide_eq_decide.2 (cubeB4 p up low mid h3)] at this
      · rw [decide_eq_false (cubeB5 p up low mid h3)]
        exact cube5 x p hi lo up low mid w HC1 HC2 HC3 _ _ _ r1 r2 r3 h2 (by omega) (by simp; omega) (by omega)
    · rw [decide_eq_false (cubeB2 p up low mid hp' h2)]
      have r1 : (18446744073709551615 : Int) - (up : Int) = ((18446744073709551615 - up : Nat) : Int) := by omega
      exact cube2 x p hi lo up low mid w HC1 HC2 HC3 _ r1 (by omega)
end Go.Proofs.YtbflkkffpcaakaaDoor
