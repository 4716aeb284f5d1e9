/- The document's why (to the world), Start, Fuse. -/
import Derived.Test.YtaacedaehbaodaaGreatT
namespace Go.Proofs.YtaacedaehbaodaaGreat
open Go.RowKit Go.Shelf
def Dk.scode (D : Dk) : Nat := if D.up = true ∨ 0 < D.waits.length then 8 else 0
def Dk.sput (D : Dk) : Dk := if D.up = true ∨ 0 < D.waits.length then D else D.started
set_option maxRecDepth 100000 in
set_option maxHeartbeats 2000000 in
theorem rstart_any {w : World} {lb lc : Nat} {wa : Option Addr} {wc : Nat} {D : Dk} : Calls Tryz.prog 18 #[.agg #[.slice (some ⟨lb, 0, none⟩) D.kept.length lc, .slice wa D.waits.length wc, .int .i64 (D.fuse : Int), .int .i64 (D.writes : Int), .bool (!D.up)]] w fun e w' => e = .returned (.tuple #[.agg (rcells lb lc wa wc D.sput), .int .i64 (D.scode : Int)]) ∧ Below w.heap.size w w' := by
  unfold Dk.scode Dk.sput
  obtain ⟨N, hN⟩ : ∃ N, D.waits.length = N := ⟨_, rfl⟩
  cases hu : D.up
  · by_cases h0 : 0 < D.waits.length
    · rw [if_pos (.inr h0), if_pos (.inr h0)]
      unfold rcells
      rw [hu, Bool.not_false, hN]
      have k0 : (0 : Int) < (N : Int) := by omega
      go_enter Tryz.func18, Tryz.ntmps18
      go_wp2
      refine bodyPost_ret (v := .tuple #[.agg #[.slice (some ⟨lb, 0, none⟩) D.kept.length lc, .slice wa N wc, .int .i64 (D.fuse : Int), .int .i64 (D.writes : Int), .bool true], .int .i64 8]) ?_ rfl ⟨rfl, ?_⟩
      · simp [results, go_sem]
      · exact ((Below.refl _ w).alloc (Nat.le_refl _) _).alloc (by simp) _
    · have hno : ¬ (false = true ∨ 0 < D.waits.length) := by simp [h0]
      rw [if_neg hno, if_neg hno]
      unfold rcells Dk.started
      simp only [Bool.not_true, hN]
      rw [hN] at h0
      have k0 : N = 0 := by omega
      subst k0
      clear h0 hno
      rw [Bool.not_false]
      go_enter Tryz.func18, Tryz.ntmps18
      go_wp2
      refine bodyPost_ret (v := .tuple #[.agg #[.slice (some ⟨lb, 0, none⟩) D.kept.length lc, .slice wa 0 wc, .int .i64 (D.fuse : Int), .int .i64 (D.writes : Int), .bool false], .int .i64 0]) ?_ rfl ⟨rfl, ?_⟩
      · simp [results, go_sem]
      · exact ((Below.refl _ w).alloc (Nat.le_refl _) _).alloc (by simp) _
  · rw [if_pos (.inl rfl), if_pos (.inl rfl)]
    unfold rcells
    rw [hu, Bool.not_true]
    clear hN
    go_enter Tryz.func18, Tryz.ntmps18
    go_wp2
    refine bodyPost_ret (v := .tuple #[.agg #[.slice (some ⟨lb, 0, none⟩) D.kept.length lc, .slice wa D.waits.length wc, .int .i64 (D.fuse : Int), .int .i64 (D.writes : Int), .bool false], .int .i64 8]) ?_ rfl ⟨rfl, ?_⟩
    · simp [results, go_sem]
    · exact ((Below.refl _ w).alloc (Nat.le_refl _) _).alloc (by simp) _
set_option maxHeartbeats 1000000 in
/-- why, and the world behind it. -/
theorem why_exact {w : World} {lb lc : Nat} {wa : Option Addr} {wc : Nat} {D : Dk} (dn : Bool) (hdn : (!D.up) = dn) (a : Int) : Calls Tryz.prog 46 #[.agg #[.slice (some ⟨lb, 0, none⟩) D.kept.length lc, .slice wa D.waits.length wc, .int .i64 (D.fuse : Int), .int .i64 (D.writes : Int), .bool dn], .int .i64 a] w fun e w' => e = .returned (.int .i64 (D.reach a : Int)) ∧ w' = w.alloc (.cells #[.slice (some ⟨lb, 0, none⟩) D.kept.length lc, .slice wa D.waits.length wc, .int .i64 (D.fuse : Int), .int .i64 (D.writes : Int), .bool dn] 32) := by
  unfold Dk.reach
  cases hu : D.up
  · rw [hu, Bool.not_false] at hdn
    subst hdn
    go_enter Tryz.func46, Tryz.ntmps46
    go_wp2
    go_ret
    exact ⟨rfl, rfl⟩
  · rw [hu, Bool.not_true] at hdn
    subst hdn
    by_cases h1 : a < 0
    · go_enter Tryz.func46, Tryz.ntmps46
      go_wp2
      go_ret
      exact ⟨rfl, rfl⟩
    · by_cases h2 : (D.kept.length : Int) ≤ a
      · go_enter Tryz.func46, Tryz.ntmps46
        go_wp2
        go_ret
        exact ⟨rfl, rfl⟩
      · go_enter Tryz.func46, Tryz.ntmps46
        go_wp2
        go_ret
        exact ⟨rfl, rfl⟩
set_option maxRecDepth 100000 in
set_option maxHeartbeats 2000000 in
theorem rfuse_any {w : World} {lb lc : Nat} {wa : Option Addr} {wc : Nat} {D : Dk} (hn0 : 1 ≤ D.kept.length) (n : Int) : Calls Tryz.prog 15 #[.agg #[.slice (some ⟨lb, 0, none⟩) D.kept.length lc, .slice wa D.waits.length wc, .int .i64 (D.fuse : Int), .int .i64 (D.writes : Int), .bool (!D.up)], .int .i64 n] w fun e w' => e = .returned (.tuple #[.agg (rcells lb lc wa wc (D.fput n)), .int .i64 (D.fcode n : Int)]) ∧ Below w.heap.size w w' := by
  obtain ⟨dn, hdn⟩ : ∃ dn, (!D.up) = dn := ⟨_, rfl⟩
  have HW : Hid (∀ W, Calls Tryz.prog 46 #[.agg #[.slice (some ⟨lb, 0, none⟩) D.kept.length lc, .slice wa D.waits.length wc, .int .i64 (D.fuse : Int), .int .i64 (D.writes : Int), .bool dn], .int .i64 0] W fun e w' => e = .returned (.int .i64 (D.reach 0 : Int)) ∧ w' = W.alloc (.cells #[.slice (some ⟨lb, 0, none⟩) D.kept.length lc, .slice wa D.waits.length wc, .int .i64 (D.fuse : Int), .int .i64 (D.writes : Int), .bool dn] 32)) := fun W => why_exact dn hdn 0
  unfold Dk.fcode Dk.fput
  cases hu : D.up
  · have hr : D.reach 0 = 10 := by unfold Dk.reach; rw [hu]; rfl
    rw [hr] at HW
    rw [hu, Bool.not_false] at hdn
    subst hdn
    rw [Bool.not_false, if_neg (by simp)]
    unfold rcells
    rw [hu, Bool.not_false]
    go_enter Tryz.func15, Tryz.ntmps15
    go_wp2_with fail
    refine (HW.out _).mono ?_
    rintro e w2 ⟨rfl, hw2⟩
    subst w2
    go_wp2
    refine bodyPost_ret (v := .tuple #[.agg #[.slice (some ⟨lb, 0, none⟩) D.kept.length lc, .slice wa D.waits.length wc, .int .i64 (D.fuse : Int), .int .i64 (D.writes : Int), .bool true], .int .i64 10]) ?_ rfl ⟨rfl, ?_⟩
    · simp [results, go_sem]
    · exact (((Below.refl _ w).alloc (Nat.le_refl _) _).alloc (by simp) _).alloc (by simp; omega) _
  · have hr : D.reach 0 = 0 := by
      unfold Dk.reach
      rw [if_pos hu, if_neg (by omega)]
    rw [hr] at HW
    rw [hu, Bool.not_true] at hdn
    subst hdn
    rw [Bool.not_true]
    by_cases hn : n < 0
    · rw [if_neg (by omega)]
      unfold rcells
      rw [hu, Bool.not_true]
      simp only [if_true, hn]
      go_enter Tryz.func15, Tryz.ntmps15
      go_wp2_with fail
      refine (HW.out _).mono ?_
      rintro e w2 ⟨rfl, hw2⟩
      subst w2
      go_wp2
      refine bodyPost_ret (v := .tuple #[.agg #[.slice (some ⟨lb, 0, none⟩) D.kept.length lc, .slice wa D.waits.length wc, .int .i64 (D.fuse : Int), .int .i64 (D.writes : Int), .bool false], .int .i64 9]) ?_ rfl ⟨rfl, ?_⟩
      · simp [results, go_sem]
      · exact (((Below.refl _ w).alloc (Nat.le_refl _) _).alloc (by simp) _).alloc (by simp; omega) _
    · obtain ⟨m, rfl⟩ := Int.eq_ofNat_of_zero_le (show 0 ≤ n by omega)
      rw [if_pos ⟨rfl, by omega⟩]
      unfold rcells Dk.fused
      simp only [if_true, hn, if_false, hu, Bool.not_true]
      go_enter Tryz.func15, Tryz.ntmps15
      go_wp2_with fail
      refine (HW.out _).mono ?_
      rintro e w2 ⟨rfl, hw2⟩
      subst w2
      go_wp2
      refine bodyPost_ret (v := .tuple #[.agg #[.slice (some ⟨lb, 0, none⟩) D.kept.length lc, .slice wa D.waits.length wc, .int .i64 (m : Int), .int .i64 (D.writes : Int), .bool false], .int .i64 0]) ?_ rfl ⟨rfl, ?_⟩
      · simp [results, go_sem]
      · exact (((Below.refl _ w).alloc (Nat.le_refl _) _).alloc (by simp) _).alloc (by simp; omega) _
end Go.Proofs.YtaacedaehbaodaaGreat
