/- Walks over math/bits.Mul64, Add64, and the program's notAbove, squareFits, cubeFits. -/
import Derived.Test.YtmachfapcgjljabDoorF
import Derived.Laws.Externs
namespace Go.Proofs.YtmachfapcgjljabDoor
open Go.RowKit
theorem and_mask (a : Nat) : a &&& 4294967295 = a % 4294967296 := Nat.and_two_pow_sub_one_eq_mod a 32

set_option maxRecDepth 100000 in
set_option maxHeartbeats 800000 in
theorem mul_any (a b : Nat) (w : World) (ha : a < 18446744073709551616) (hb : b < 18446744073709551616) :
    Calls Tryd.prog 19 #[.int .u64 (a : Int), .int .u64 (b : Int)] w fun e w' => e = .returned (.tuple #[.int .u64 ((a * b / 18446744073709551616 : Nat) : Int), .int .u64 ((a * b % 18446744073709551616 : Nat) : Int)]) ∧ w' = w := by
  obtain ⟨a1, ha1⟩ : ∃ x, x = a / 4294967296 := ⟨_, rfl⟩
  obtain ⟨a0, ha0⟩ : ∃ x, x = a % 4294967296 := ⟨_, rfl⟩
  obtain ⟨b1, hb1⟩ : ∃ x, x = b / 4294967296 := ⟨_, rfl⟩
  obtain ⟨b0, hb0⟩ : ∃ x, x = b % 4294967296 := ⟨_, rfl⟩
  obtain ⟨c11, e11⟩ : ∃ x, a1 * b1 = x := ⟨_, rfl⟩
  obtain ⟨c10, e10⟩ : ∃ x, a1 * b0 = x := ⟨_, rfl⟩
  obtain ⟨c01, e01⟩ : ∃ x, a0 * b1 = x := ⟨_, rfl⟩
  obtain ⟨c00, e00⟩ : ∃ x, a0 * b0 = x := ⟨_, rfl⟩
  obtain ⟨m, hm⟩ : ∃ x, a * b = x := ⟨_, rfl⟩
  have k11 : c11 ≤ 18446744065119617025 := by rw [← e11]; exact mul_bd (by omega) (by omega)
  have k10 : c10 ≤ 18446744065119617025 := by rw [← e10]; exact mul_bd (by omega) (by omega)
  have k01 : c01 ≤ 18446744065119617025 := by rw [← e01]; exact mul_bd (by omega) (by omega)
  have k00 : c00 ≤ 18446744065119617025 := by rw [← e00]; exact mul_bd (by omega) (by omega)
  have HP : Hid (m = c11 * 18446744073709551616 + (c10 + c01) * 4294967296 + c00) := hm ▸ product_eq a b a1 a0 b1 b0 c11 c10 c01 c00 (by omega) (by omega) e11 e10 e01 e00
  have hlt : m < 18446744073709551616 * 18446744073709551616 := hm ▸ Nat.mul_lt_mul'' ha hb
  obtain ⟨t, ht⟩ : ∃ x, x = c10 + c00 / 4294967296 := ⟨_, rfl⟩
  obtain ⟨t0, ht0⟩ : ∃ x, x = t % 4294967296 := ⟨_, rfl⟩
  obtain ⟨t1, ht1⟩ : ∃ x, x = t / 4294967296 := ⟨_, rfl⟩
  have HT : Hid (c11 + t1 + (t0 + c01) / 4294967296 < 18446744073709551616) := by
    have := HP.out; simp only [Hid]; omega
  have r1 : (a : Int) / 4294967296 = (a1 : Int) := by omega
  have r3 : (b : Int) / 4294967296 = (b1 : Int) := by omega
  have n1 : bits BinOp.and IntKind.u64 (a : Int) 4294967295 = (a0 : Int) := by
    have := u64_and_nat a 4294967295 (by omega) (by omega)
    rw [and_mask, ← ha0] at this; exact this
  have n2 : bits BinOp.and IntKind.u64 (b : Int) 4294967295 = (b0 : Int) := by
    have := u64_and_nat b 4294967295 (by omega) (by omega)
    rw [and_mask, ← hb0] at this; exact this
  have r5 : (c10 : Int) + (c00 : Int) / 4294967296 = (t : Int) := by omega
  have r6 : (t : Int) / 4294967296 = (t1 : Int) := by omega
  have n3 : bits BinOp.and IntKind.u64 (t : Int) 4294967295 = (t0 : Int) := by
    have := u64_and_nat t 4294967295 (by omega) (by omega)
    rw [and_mask, ← ht0] at this; exact this
  have m11 : (a1 : Int) * (b1 : Int) = (c11 : Int) := by rw [← e11]; simp
  have m10 : (a1 : Int) * (b0 : Int) = (c10 : Int) := by rw [← e10]; simp
  have m01 : (a0 : Int) * (b1 : Int) = (c01 : Int) := by rw [← e01]; simp
  have m00 : (a0 : Int) * (b0 : Int) = (c00 : Int) := by rw [← e00]; simp
  have mab : (a : Int) * (b : Int) = (m : Int) := by rw [← hm]; simp
  have ha' : a ≤ 18446744073709551615 := by omega
  have hb' : b ≤ 18446744073709551615 := by omega
  have HH : Hid (m / 18446744073709551616 = c11 + t1 + (t0 + c01) / 4294967296) := by
    have := HP.out; simp only [Hid]; omega
  have kt : t ≤ 18446744073709551615 := by omega
  have kt1 : t1 ≤ 4294967295 := by omega
  have kt0 : t0 ≤ 4294967295 := by omega
  rw [hm]
  clear ha1 ha0 hb1 hb0 e11 e10 e01 e00 ha hb hlt hm ht ht0 ht1 HP
  go_enter Tryd.func19, Tryd.ntmps19
  go_wp2
  go_ret2
  refine ⟨ret_val (tup2 (by have := HH.out; have := HT.out; omega) ?_), rfl⟩
  rw [IntKind.wrap_u64]; omega

set_option maxRecDepth 100000 in
set_option maxHeartbeats 400000 in
theorem notabove_any (hi lo p : Nat) (w : World) (B : Bool) (HE : Hid (B = (decide (hi < p) || (decide (hi = p) && decide (lo = 0))))) :
    Calls Tryd.prog 20 #[.int .u64 (hi : Int), .int .u64 (lo : Int), .int .u64 (p : Int)] w fun e w' => e = .returned (.bool B) ∧ w' = w := by
  by_cases h1 : hi < p
  · go_enter Tryd.func20, Tryd.ntmps20
    go_wp2
    go_ret
    exact ⟨ret_bool (by rw [HE.out]; simp [h1]), rfl⟩
  · by_cases h2 : hi = p
    · subst h2
      go_enter Tryd.func20, Tryd.ntmps20
      go_wp2
      go_ret
      exact ⟨ret_bool (by rw [HE.out, Bool.eq_iff_iff]; simp; try omega), rfl⟩
    · go_enter Tryd.func20, Tryd.ntmps20
      go_wp2
      go_ret
      exact ⟨ret_bool (by rw [HE.out, Bool.eq_iff_iff]; simp; omega), rfl⟩

set_option maxRecDepth 100000 in
set_option maxHeartbeats 400000 in
theorem square_any (x p : Nat) (w : World) (hx : x < 18446744073709551616) (hp : p < 4294967296) :
    Calls Tryd.prog 14 #[.int .u64 (x : Int), .int .u32 (p : Int)] w fun e w' => e = .returned (.bool (decide (x ^ 2 ≤ p * 2 ^ (32 * 2)))) ∧ w' = w := by
  have HI : Hid _ := below_iff x p
  obtain ⟨hi, hhi⟩ : ∃ y, x * x / 18446744073709551616 = y := ⟨_, rfl⟩
  obtain ⟨lo, hlo⟩ : ∃ y, x * x % 18446744073709551616 = y := ⟨_, rfl⟩
  rw [hhi, hlo] at HI
  have HC : Hid (∀ w, Calls Tryd.prog 19 #[.int .u64 (x : Int), .int .u64 (x : Int)] w fun e w' => e = .returned (.tuple #[.int .u64 (hi : Int), .int .u64 (lo : Int)]) ∧ w' = w) := by
    intro w
    have := mul_any x x w hx hx
    rw [hhi, hlo] at this
    exact this
  obtain ⟨B, hB⟩ : ∃ B, decide (x ^ 2 ≤ p * 2 ^ (32 * 2)) = B := ⟨_, rfl⟩
  rw [hB]
  have HE : Hid (B = (decide (hi < p) || (decide (hi = p) && decide (lo = 0)))) := by
    rw [← hB, Bool.eq_iff_iff]
    simp only [decide_eq_true_eq, Bool.or_eq_true, Bool.and_eq_true]
    exact HI.out.symm
  have HD : Hid (∀ w, Calls Tryd.prog 20 #[.int .u64 (hi : Int), .int .u64 (lo : Int), .int .u64 (p : Int)] w fun e w' => e = .returned (.bool B) ∧ w' = w) := fun w => notabove_any hi lo p w B HE
  clear hB hhi hlo hx HI HE
  go_enter Tryd.func14, Tryd.ntmps14
  go_wp2_with (first | (go_at_call 19; refine (HC.out _).mono ?_; rintro e w' ⟨rfl, hw⟩; subst w') | (go_at_call 20; refine (HD.out _).mono ?_; rintro e w' ⟨rfl, hw⟩; subst w'))
  go_ret
  exact ⟨rfl, rfl⟩

theorem add64_0 (x y : Int) (hx : 0 ≤ x) (hy : 0 ≤ y) (w : World) : (callFunc 21 #[.int .u64 x, .int .u64 y, .int .u64 0]).run Tryd.prog w =
    .ok (.value (.tuple #[.int .u64 ((x + y) % 18446744073709551616), .int .u64 ((x + y) / 18446744073709551616)])) w := by
  rw [run_callFunc_extern (P := Tryd.prog) (f := 21) (e := add64Entry) Tryd.func21 (by kernel_rfl) (by kernel_rfl) (by kernel_rfl) rfl, run_add64 x y 0 hx hy (by omega) (by omega)]
  simp

set_option maxRecDepth 100000 in
set_option maxHeartbeats 400000 in
theorem cubefits_no (x p hi lo up low top mid S C : Nat) (w : World) (HC1 : Hid (∀ w, Calls Tryd.prog 19 #[.int .u64 (x : Int), .int .u64 (x : Int)] w fun e w' => e = .returned (.tuple #[.int .u64 (hi : Int), .int .u64 (lo : Int)]) ∧ w' = w))
    (HC2 : Hid (∀ w, Calls Tryd.prog 19 #[.int .u64 (hi : Int), .int .u64 (x : Int)] w fun e w' => e = .returned (.tuple #[.int .u64 (top : Int), .int .u64 (mid : Int)]) ∧ w' = w))
    (HC3 : Hid (∀ w, Calls Tryd.prog 19 #[.int .u64 (lo : Int), .int .u64 (x : Int)] w fun e w' => e = .returned (.tuple #[.int .u64 (up : Int), .int .u64 (low : Int)]) ∧ w' = w))
    (hS : S = (mid + up) % 18446744073709551616) (hC : C = (mid + up) / 18446744073709551616)
    (h : 0 < top ∨ (¬ 0 < top ∧ 0 < C)) :
    Calls Tryd.prog 15 #[.int .u64 (x : Int), .int .u32 (p : Int)] w fun e w' => e = .returned (.bool false) ∧ w' = w := by
  have HA : Hid (∀ w, (callFunc 21 #[.int .u64 (mid : Int), .int .u64 (up : Int), .int .u64 0]).run Tryd.prog w = .ok (.value (.tuple #[.int .u64 (S : Int), .int .u64 (C : Int)])) w) := by
    intro w
    rw [add64_0 _ _ (by omega) (by omega) w, show ((mid : Int) + (up : Int)) % 18446744073709551616 = (S : Int) by omega, show ((mid : Int) + (up : Int)) / 18446744073709551616 = (C : Int) by omega]
  clear hS hC
  rcases h with h | ⟨h, h2⟩
  · have hd : decide (0 < (top : Int)) = true := by simp; omega
    go_enter Tryd.func15, Tryd.ntmps15
    go_wp2_with fail
    refine (HC1.out _).mono ?_
    rintro e w' ⟨rfl, hw⟩
    subst w'
    go_wp2_with fail
    refine (HC2.out _).mono ?_
    rintro e w' ⟨rfl, hw⟩
    subst w'
    go_wp2_with fail
    refine (HC3.out _).mono ?_
    rintro e w' ⟨rfl, hw⟩
    subst w'
    go_wp2_with (simp only [HA.out])
    go_ret
    exact ⟨rfl, rfl⟩
  · have hd : decide (0 < (top : Int)) = false := by simp; omega
    have hd2 : decide (0 < (C : Int)) = true := by simp; omega
    go_enter Tryd.func15, Tryd.ntmps15
    go_wp2_with fail
    refine (HC1.out _).mono ?_
    rintro e w' ⟨rfl, hw⟩
    subst w'
    go_wp2_with fail
    refine (HC2.out _).mono ?_
    rintro e w' ⟨rfl, hw⟩
    subst w'
    go_wp2_with fail
    refine (HC3.out _).mono ?_
    rintro e w' ⟨rfl, hw⟩
    subst w'
    go_wp2_with (simp only [HA.out])
    go_ret
    exact ⟨rfl, rfl⟩

set_option maxRecDepth 100000 in
set_option maxHeartbeats 400000 in
theorem cubefits_go (x p hi lo up low top mid S C q : Nat) (B : Bool) (w : World) (HC1 : Hid (∀ w, Calls Tryd.prog 19 #[.int .u64 (x : Int), .int .u64 (x : Int)] w fun e w' => e = .returned (.tuple #[.int .u64 (hi : Int), .int .u64 (lo : Int)]) ∧ w' = w))
    (HC2 : Hid (∀ w, Calls Tryd.prog 19 #[.int .u64 (hi : Int), .int .u64 (x : Int)] w fun e w' => e = .returned (.tuple #[.int .u64 (top : Int), .int .u64 (mid : Int)]) ∧ w' = w))
    (HC3 : Hid (∀ w, Calls Tryd.prog 19 #[.int .u64 (lo : Int), .int .u64 (x : Int)] w fun e w' => e = .returned (.tuple #[.int .u64 (up : Int), .int .u64 (low : Int)]) ∧ w' = w))
    (hS : S = (mid + up) % 18446744073709551616) (hC : C = (mid + up) / 18446744073709551616) (hq : q = p * 4294967296) (hp : p ≤ 4294967295)
    (HD : Hid (∀ w, Calls Tryd.prog 20 #[.int .u64 (S : Int), .int .u64 (low : Int), .int .u64 (q : Int)] w fun e w' => e = .returned (.bool B) ∧ w' = w))
    (h : top = 0) (h' : C = 0) :
    Calls Tryd.prog 15 #[.int .u64 (x : Int), .int .u32 (p : Int)] w fun e w' => e = .returned (.bool B) ∧ w' = w := by
  have HA : Hid (∀ w, (callFunc 21 #[.int .u64 (mid : Int), .int .u64 (up : Int), .int .u64 0]).run Tryd.prog w = .ok (.value (.tuple #[.int .u64 (S : Int), .int .u64 (C : Int)])) w) := by
    intro w
    rw [add64_0 _ _ (by omega) (by omega) w, show ((mid : Int) + (up : Int)) % 18446744073709551616 = (S : Int) by omega, show ((mid : Int) + (up : Int)) / 18446744073709551616 = (C : Int) by omega]
  have hqi : (p : Int) * 4294967296 = (q : Int) := by omega
  clear hS hC hq
  subst h
  subst h'
  go_enter Tryd.func15, Tryd.ntmps15
  go_wp2_with fail
  refine (HC1.out _).mono ?_
  rintro e w' ⟨rfl, hw⟩
  subst w'
  go_wp2_with fail
  refine (HC2.out _).mono ?_
  rintro e w' ⟨rfl, hw⟩
  subst w'
  go_wp2_with fail
  refine (HC3.out _).mono ?_
  rintro e w' ⟨rfl, hw⟩
  subst w'
  go_wp2_with (first | simp only [HA.out] | (go_at_call 20; refine (HD.out _).mono ?_; rintro e w' ⟨rfl, hw⟩; subst w'))
  go_ret
  exact ⟨rfl, rfl⟩

theorem cubefits_any (x p : Nat) (w : World) (hx : x < 18446744073709551616) (hp : p < 4294967296) :
    Calls Tryd.prog 15 #[.int .u64 (x : Int), .int .u32 (p : Int)] w fun e w' => e = .returned (.bool (decide (x ^ 3 ≤ p * 2 ^ (32 * 3)))) ∧ w' = w := by
  obtain ⟨hi, hhi⟩ : ∃ y, x * x / 18446744073709551616 = y := ⟨_, rfl⟩
  obtain ⟨lo, hlo⟩ : ∃ y, x * x % 18446744073709551616 = y := ⟨_, rfl⟩
  have hlb : lo < 18446744073709551616 := by omega
  have hhb : hi < 18446744073709551616 := by
    rw [← hhi]; exact Nat.div_lt_of_lt_mul (Nat.mul_lt_mul'' hx hx)
  obtain ⟨up, hup⟩ : ∃ y, lo * x / 18446744073709551616 = y := ⟨_, rfl⟩
  obtain ⟨low, hlow⟩ : ∃ y, lo * x % 18446744073709551616 = y := ⟨_, rfl⟩
  obtain ⟨top, htop⟩ : ∃ y, hi * x / 18446744073709551616 = y := ⟨_, rfl⟩
  obtain ⟨mid, hmid⟩ : ∃ y, hi * x % 18446744073709551616 = y := ⟨_, rfl⟩
  have hlwb : low < 18446744073709551616 := by omega
  have hc := cube_eq x hi lo up low top mid (by omega) (by omega) (by omega)
  have HC1 : Hid (∀ w, Calls Tryd.prog 19 #[.int .u64 (x : Int), .int .u64 (x : Int)] w fun e w' => e = .returned (.tuple #[.int .u64 (hi : Int), .int .u64 (lo : Int)]) ∧ w' = w) := by
    intro w; have := mul_any x x w hx hx; rw [hhi, hlo] at this; exact this
  have HC2 : Hid (∀ w, Calls Tryd.prog 19 #[.int .u64 (hi : Int), .int .u64 (x : Int)] w fun e w' => e = .returned (.tuple #[.int .u64 (top : Int), .int .u64 (mid : Int)]) ∧ w' = w) := by
    intro w; have := mul_any hi x w hhb hx; rw [htop, hmid] at this; exact this
  have HC3 : Hid (∀ w, Calls Tryd.prog 19 #[.int .u64 (lo : Int), .int .u64 (x : Int)] w fun e w' => e = .returned (.tuple #[.int .u64 (up : Int), .int .u64 (low : Int)]) ∧ w' = w) := by
    intro w; have := mul_any lo x w hlb hx; rw [hup, hlow] at this; exact this
  have hp' : p ≤ 4294967295 := by omega
  rw [hc, show (2 : Nat) ^ (32 * 3) = 4294967296 * 18446744073709551616 from rfl]
  clear hhi hlo hup hlow htop hmid hc hhb hlb hx hp
  by_cases h1 : 0 < top
  · rw [decide_eq_false (cubeB1 p up low top mid hp' h1)]
    exact cubefits_no x p hi lo up low top mid _ _ w HC1 HC2 HC3 rfl rfl (Or.inl h1)
  · by_cases h2 : mid + up ≤ 18446744073709551615
    · refine cubefits_go x p hi lo up low top mid _ _ _ _ w HC1 HC2 HC3 rfl rfl rfl hp' (fun w => notabove_any _ _ _ w _ ?_) (by omega) (by omega)
      show decide _ = _
      obtain rfl : top = 0 := by omega
      rw [Bool.eq_iff_iff]
      simp only [decide_eq_true_eq, Bool.or_eq_true, Bool.and_eq_true]
      omega
    · obtain rfl : top = 0 := by omega
      rw [decide_eq_false (cubeB2 p up low mid hp' h2)]
      exact cubefits_no x p hi lo up low 0 mid _ _ w HC1 HC2 HC3 rfl rfl (Or.inr ⟨by omega, by omega⟩)
end Go.Proofs.YtmachfapcgjljabDoor
