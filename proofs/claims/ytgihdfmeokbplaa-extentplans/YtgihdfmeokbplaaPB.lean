/- Walks over cmp.Compare and Plan's order. -/
import Derived.Test.YtgihdfmeokbplaaPA
namespace Go.Proofs.Ytgihdfmeokbplaa
open Go.RowKit Ex
def cmpI (x y : Int) : Int := if x < y then -1 else if y < x then 1 else 0
set_option maxHeartbeats 400000 in
theorem isNaN_any (x : Int) (w : World) : Calls Try.prog 68 #[.int .i64 x] w fun e w' => e = .returned (.bool false) ∧ w' = w := by
  go_enter Try.func68, Try.ntmps68
  go_wp2
  go_ret
  exact ⟨by simp, rfl⟩
set_option maxHeartbeats 1000000 in
theorem cmp_any (x y : Int) (w : World) : Calls Try.prog 47 #[.int .i64 x, .int .i64 y] w fun e w' => e = .returned (.int .i64 (cmpI x y)) ∧ w' = w := by
  have H1 := isNaN_any x w
  have H2 := isNaN_any y w
  unfold cmpI
  by_cases h1 : x < y
  · rw [if_pos h1]
    go_enter Try.func47, Try.ntmps47
    go_wp2_with fail
    refine H1.mono ?_
    rintro e V ⟨rfl, hV⟩
    subst V
    go_wp2_with fail
    refine H2.mono ?_
    rintro e V ⟨rfl, hV⟩
    subst V
    go_wp2
    go_ret
    exact ⟨rfl, rfl⟩
  · rw [if_neg h1]
    by_cases h2 : y < x
    · rw [if_pos h2]
      go_enter Try.func47, Try.ntmps47
      go_wp2_with fail
      refine H1.mono ?_
      rintro e V ⟨rfl, hV⟩
      subst V
      go_wp2_with fail
      refine H2.mono ?_
      rintro e V ⟨rfl, hV⟩
      subst V
      go_wp2
      go_ret
      exact ⟨rfl, rfl⟩
    · rw [if_neg h2]
      go_enter Try.func47, Try.ntmps47
      go_wp2_with fail
      refine H1.mono ?_
      rintro e V ⟨rfl, hV⟩
      subst V
      go_wp2_with fail
      refine H2.mono ?_
      rintro e V ⟨rfl, hV⟩
      subst V
      go_wp2
      go_ret
      exact ⟨rfl, rfl⟩
set_option maxHeartbeats 1000000 in
theorem planCmp_any (s x : Sp) (w : World) : Calls Try.prog 46 #[spA s, spA x] w fun e w' => e = .returned (.int .i64 (cmpI s.1 x.1)) ∧ Below w.heap.size w w' := by
  have HC : Hid (∀ V, Calls Try.prog 47 #[.int .i64 s.1, .int .i64 x.1] V fun e w' => e = .returned (.int .i64 (cmpI s.1 x.1)) ∧ w' = V) := fun V => cmp_any s.1 x.1 V
  unfold spA
  go_enter Try.func46, Try.ntmps46
  go_wp2_with fail
  refine (HC.out _).mono ?_
  rintro e V ⟨rfl, hV⟩
  subst V
  go_wp2
  go_ret
  exact ⟨rfl, ((Below.refl _ w).alloc (Nat.le_refl _) _).alloc (by simp) _⟩
end Go.Proofs.Ytgihdfmeokbplaa
