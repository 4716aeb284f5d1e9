/- The walk over the document's GetText. -/
import Derived.Test.YtbomopjngpnghaaW
import Derived.Lib.Strings
namespace Go.Proofs.Ytbomopjngpnghaa
open Go.RowKit

theorem strOf_extract (bs : List UInt8) (k n : Nat) : (strOf bs).extract k (k + n) = strOf ((bs.drop k).take n) := by
  apply ByteArray.ext
  apply Array.toList_inj.1
  rw [Lib.extract_data]
  simp [strOf]

theorem rgetS (bs : List UInt8) (p : Int) (n : Nat) (q : Int) (er : Nat) (hr : getAt bs p = (n, q, er)) (w : World) (h : bs.length ≤ 9223372036854775807) (hp : -9223372036854775808 ≤ p ∧ p ≤ 9223372036854775807) :
    Calls Try.prog 15 #[.string (strOf bs), .int .i64 p] w fun e w' => e = .returned (.tuple #[.int .u64 (n : Int), .int .i64 q, .int .i64 (er : Int)]) ∧ w' = w := rget3 bs p n q er hr w h hp

set_option maxHeartbeats 800000 in
theorem rgtext_any (bs : List UInt8) (p most : Int) (t : List UInt8) (q : Int) (er : Nat) (hr : textAt bs p most = (t, q, er)) (w : World) (h : bs.length ≤ 9223372036854775807) (hp : -9223372036854775808 ≤ p ∧ p ≤ 9223372036854775807) (hm : -9223372036854775808 ≤ most ∧ most ≤ 9223372036854775807) :
    Calls Try.prog 17 #[.string (strOf bs), .int .i64 p, .int .i64 most] w fun e w' => e = .returned (.tuple #[.string (strOf t), .int .i64 q, .int .i64 (er : Int)]) ∧ w' = w := by
  obtain ⟨n0, q0, er0, hr0⟩ : ∃ n q er, getAt bs p = (n, q, er) := ⟨_, _, _, rfl⟩
  have HR : Hid (getAt bs p = (n0, q0, er0)) := hr0
  have hsz := strOf_size bs
  by_cases he : er0 = 0
  · subst he
    obtain ⟨P, Q, rfl, rfl, hPQ, hQ, _, hn⟩ := getAt_ok hr0
    by_cases hx : max most 0 < (n0 : Int)
    · have hc : cntAt bs (P : Int) most = (0, 0, 2) := by unfold cntAt; rw [hr0]; simp only; rw [if_neg (by simp), if_pos hx]
      unfold textAt at hr
      rw [hc] at hr
      simp only at hr
      rw [if_pos (by decide)] at hr
      simp only [Prod.mk.injEq] at hr
      obtain ⟨rfl, rfl, rfl⟩ := hr
      clear hr0 hc
      by_cases h0 : most < 0
      all_goals
        go_enter Try.func17, Try.ntmps17
        go_wp2_with (go_at_call 15; refine (rgetS bs _ n0 Q 0 HR.out _ h hp).mono ?_; rintro e w' ⟨rfl, rfl⟩)
        go_ret3
        exact ⟨rfl, rfl⟩
    · have hc : cntAt bs (P : Int) most = (n0, (Q : Int), 0) := by unfold cntAt; rw [hr0]; simp only; rw [if_neg (by simp), if_neg hx]
      unfold textAt at hr
      rw [hc] at hr
      simp only at hr
      rw [if_neg (by simp)] at hr
      have hxm : (n0 : Int) ≤ max most 0 := by omega
      clear hr0 hc hx
      by_cases hy : (bs.length : Int) - (Q : Int) < (n0 : Int)
      · rw [if_pos hy] at hr
        simp only [Prod.mk.injEq] at hr
        obtain ⟨rfl, rfl, rfl⟩ := hr
        by_cases h0 : most < 0
        all_goals
          go_enter Try.func17, Try.ntmps17
          go_wp2_with (go_at_call 15; refine (rgetS bs _ n0 Q 0 HR.out _ h hp).mono ?_; rintro e w' ⟨rfl, rfl⟩)
          all_goals
            go_ret3
            exact ⟨rfl, rfl⟩
      · rw [if_neg hy] at hr
        simp only [Prod.mk.injEq, Int.toNat_natCast] at hr
        obtain ⟨rfl, rfl, rfl⟩ := hr
        have HE : Hid _ := strOf_extract bs Q n0
        by_cases h0 : most < 0
        all_goals
          go_enter Try.func17, Try.ntmps17
          go_wp2_with (go_at_call 15; refine (rgetS bs _ n0 Q 0 HR.out _ h hp).mono ?_; rintro e w' ⟨rfl, rfl⟩)
          all_goals
            go_ret3
            exact ⟨ret_val (by rw [← HE.out]; rfl), rfl⟩
  · have hc : cntAt bs p most = (0, 0, er0) := by unfold cntAt; rw [hr0]; simp only; rw [if_pos he]
    unfold textAt at hr
    rw [hc] at hr
    simp only at hr
    rw [if_pos he] at hr
    simp only [Prod.mk.injEq] at hr
    obtain ⟨rfl, rfl, rfl⟩ := hr
    have her' : ((er0 : Int) == 0) = false := by simp [he]
    clear hr0 hc
    go_enter Try.func17, Try.ntmps17
    go_wp2_with (go_at_call 15; refine (rgetS bs _ n0 q0 er0 HR.out _ h hp).mono ?_; rintro e w' ⟨rfl, rfl⟩)
    go_ret3
    exact ⟨rfl, rfl⟩
end Go.Proofs.Ytbomopjngpnghaa
