/- A reader in memory; walks over its number, text and entry. -/
import Derived.Test.YtkhidkilkbmpoaaDoorRM
import Derived.Test.YtkhidkilkbmpoaaDoorQV
namespace Go.Proofs.YtkhidkilkbmpoaaDoor
open Go.RowKit
/-- A reader's row. -/
def rdR (a : Option Addr) (len cap : Nat) (p : Int) (e : Nat) : Obj := .cells #[.slice a len cap, .int .i64 p, .int .i64 (e : Int)] 67 (0, 0)
theorem row3f {W : World} {g : Nat} {a b c : Value} {t : TypeId} (h : W.heap[g]? = some (.cells #[a, b, c] t (0, 0))) : W.cell? ⟨g, 0, none⟩ = some a ∧ W.cell? ⟨g, 1, none⟩ = some b ∧ W.cell? ⟨g, 2, none⟩ = some c ∧ W.frozen? ⟨g, 0, none⟩ = false ∧ W.frozen? ⟨g, 1, none⟩ = false ∧ W.frozen? ⟨g, 2, none⟩ = false := by
  obtain ⟨h0, h1, h2, hz⟩ := row3 h
  exact ⟨h0, h1, h2, hz 0, hz 1, hz 2⟩
set_option maxRecDepth 100000 in
set_option maxHeartbeats 2000000 in
theorem rdnum_any {w : World} {rb : Nat} {a : Option Addr} {len cap : Nat} {bs : List UInt8} {p : Int} {e : Nat} (h : w.heap[rb]? = some (rdR a len cap p e)) (hb : Bs w a len cap bs) (hp : inP bs p) : Calls Tryd.prog 58 #[.pointer (some ⟨rb, 0, none⟩)] w fun e' w' => e' = .returned (.int .i64 ((rdN bs p e).1 : Int)) ∧ w'.heap[rb]? = some (rdR a len cap (rdN bs p e).2.1 (rdN bs p e).2.2) ∧ Ex rb w w' := by
  unfold rdR at h
  obtain ⟨y0, y1, y2, f0, f1, f2⟩ := row3f h
  by_cases he : e = 0
  · subst he
    have hr : rdN bs p 0 = (min (getAt bs p).1 KP63, (getAt bs p).2.1, (getAt bs p).2.2) := by unfold rdN; rw [if_neg (by simp)]
    rw [hr]
    obtain ⟨n, q, er, hg⟩ : ∃ n q er, getAt bs p = (n, q, er) := ⟨_, _, _, rfl⟩
    have hn : n < 18446744073709551616 := by have := (getAt_plQ bs p).2.2; rw [hg] at this; exact this
    have HG : Hid (Calls Tryd.prog 77 #[.slice a len cap, .int .i64 p] w.drew fun e w' => e = .returned (.tuple #[.int .u64 (n : Int), .int .i64 q, .int .i64 (er : Int)]) ∧ w' = w.drew) := get3 a len cap bs p n q er hg w.drew hb ⟨hp.1, hp.2.1⟩
    rw [hg]
    simp only
    obtain ⟨m, hm⟩ : ∃ m, min n KP63 = m := ⟨_, rfl⟩
    have hmi : min (n : Int) 9223372036854775807 = (m : Int) := by unfold KP63 at hm; omega
    have hmb : m ≤ 9223372036854775807 := by unfold KP63 at hm; omega
    rw [hm]
    have wm : IntKind.i64.wrap (m : Int) = (m : Int) := by rw [IntKind.wrap_i64]; omega
    obtain ⟨V3, hV3⟩ : ∃ V3, w.drew.setCell ⟨rb, 1, none⟩ (.int .i64 q) = V3 := ⟨_, rfl⟩
    have h3 : V3.heap[rb]? = some (.cells #[.slice a len cap, .int .i64 q, .int .i64 ((0 : Nat) : Int)] 67 (0, 0)) := by rw [← hV3, heap_setCell_same w.drew _ _ _ _ _ h]; rfl
    obtain ⟨V4, hV4⟩ : ∃ V4, V3.setCell ⟨rb, 2, none⟩ (.int .i64 (er : Int)) = V4 := ⟨_, rfl⟩
    have h4 : V4.heap[rb]? = some (.cells #[.slice a len cap, .int .i64 q, .int .i64 (er : Int)] 67 (0, 0)) := by rw [← hV4, heap_setCell_same V3 _ _ _ _ _ h3]; rfl
    obtain ⟨s1, _, _, _, _, k2⟩ := row3f h3
    obtain ⟨s2, _⟩ := row3f h4
    have HE : Hid (V4.heap[rb]? = some (rdR a len cap q er) ∧ Ex rb w V4) := ⟨h4, by rw [← hV4, ← hV3]; exact ((Ex.refl rb w).drew.set _ _).set _ _⟩
    have z2 : V3.cell? ⟨rb, 2, none⟩ = some (.int .i64 ((0 : Nat) : Int)) := by rw [cell_of_row _ _ _ _ _ _ h3]; rfl
    clear hr hg hn hm h3 h4 h hb
    go_enter Tryd.func58, Tryd.ntmps58
    go_wp2
    refine wp_region_held_drew (S := fun W => W.cell? ⟨rb, 0, none⟩ = some (.slice a len cap)) (by kernel_rfl) (y0) (fun hHeld => ?_)
    refine wpAnyH_take (i := 0) (v := ?va_0) rfl (by kernel_rfl) (by kernel_rfl) (by kernel_rfl) (fun _ _ _ h => h) (Or.inl ⟨by first | kernel_rfl | rfl, ?ya_0⟩) hHeld ?ra_0
    case ya_0 => (intro W hSW; (try dsimp only at hSW); go_simp; (try with_reducible rfl))
    change wpAnyH _ _ _ _ _ _ _ (Act.put _ (some 10) _) _
    simp only [Act.put, List.setIfInBounds_toArray, List.set_cons_zero, List.set_cons_succ]
    refine wpAnyH_take (i := 1) (v := ?va_1) rfl (by kernel_rfl) (by kernel_rfl) (by kernel_rfl) (fun _ _ _ h => h) (Or.inl ⟨by first | kernel_rfl | rfl, ?ya_1⟩) hHeld ?ra_1
    case ya_1 => (intro W hSW; (try dsimp only at hSW); go_simp; (try with_reducible rfl))
    change wpAnyH _ _ _ _ _ _ _ (Act.put _ (some 11) _) _
    simp only [Act.put, List.setIfInBounds_toArray, List.set_cons_zero, List.set_cons_succ]
    refine wpAnyH_take (i := 2) (v := ?va_2) rfl (by kernel_rfl) (by kernel_rfl) (by kernel_rfl) (fun _ _ _ h => h) (Or.inl ⟨by first | kernel_rfl | rfl, ?ya_2⟩) hHeld ?ra_2
    case ya_2 => (intro W hSW; (try dsimp only at hSW); go_simp; (try with_reducible rfl))
    change wpAnyH _ _ _ _ _ _ _ (Act.put _ (some 12) _) _
    simp only [Act.put, List.setIfInBounds_toArray, List.set_cons_zero, List.set_cons_succ]
    refine wpAnyH_take (i := 3) (v := ?va_3) rfl (by kernel_rfl) (by kernel_rfl) (by kernel_rfl) (fun _ _ _ h => h) (Or.inl ⟨by first | kernel_rfl | rfl, ?ya_3⟩) hHeld ?ra_3
    case ya_3 => (intro W hSW; (try dsimp only at hSW); go_simp; (try with_reducible rfl))
    change wpAnyH _ _ _ _ _ _ _ (Act.put _ (some 13) _) _
    simp only [Act.put, List.setIfInBounds_toArray, List.set_cons_zero, List.set_cons_succ]
    refine wpAnyH_take (i := 4) (v := ?va_4) rfl (by kernel_rfl) (by kernel_rfl) (by kernel_rfl) (fun _ _ _ h => h) (Or.inl ⟨by first | kernel_rfl | rfl, ?ya_4⟩) hHeld ?ra_4
    case ya_4 => (intro W hSW; (try dsimp only at hSW); go_simp; (try with_reducible rfl))
    change wpAnyH _ _ _ _ _ _ _ (Act.put _ (some 14) _) _
    simp only [Act.put, List.setIfInBounds_toArray, List.set_cons_zero, List.set_cons_succ]
    refine wpAnyH_take (i := 5) (v := ?va_5) rfl (by kernel_rfl) (by kernel_rfl) (by kernel_rfl) (fun _ _ _ h => h) (Or.inl ⟨by first | kernel_rfl | rfl, ?ya_5⟩) hHeld ?ra_5
    case ya_5 => (intro W hSW; (try dsimp only at hSW); go_simp; (try with_reducible rfl))
    change wpAnyH _ _ _ _ _ _ _ (Act.put _ (some 15) _) _
    simp only [Act.put, List.setIfInBounds_toArray, List.set_cons_zero, List.set_cons_succ]
    refine wpAnyH_take (i := 6) (v := ?va_6) rfl (by kernel_rfl) (by kernel_rfl) (by kernel_rfl) (fun _ _ _ h => h) (Or.inl ⟨by first | kernel_rfl | rfl, ?ya_6⟩) hHeld ?ra_6
    case ya_6 => (intro W hSW; (try dsimp only at hSW); go_simp; (try with_reducible rfl))
    change wpAnyH _ _ _ _ _ _ _ (Act.put _ (some 16) _) _
    simp only [Act.put, List.setIfInBounds_toArray, List.set_cons_zero, List.set_cons_succ]
    refine wpAnyH_take (i := 7) (v := ?va_7) rfl (by kernel_rfl) (by kernel_rfl) (by kernel_rfl) (fun _ _ _ h => h) (Or.inl ⟨by first | kernel_rfl | rfl, ?ya_7⟩) hHeld ?ra_7
    case ya_7 => (intro W hSW; (try dsimp only at hSW); go_simp; (try with_reducible rfl))
    change wpAnyH _ _ _ _ _ _ _ (Act.put _ (some 17) _) _
    simp only [Act.put, List.setIfInBounds_toArray, List.set_cons_zero, List.set_cons_succ]
    refine wpAnyH_take (i := 8) (v := ?va_8) rfl (by kernel_rfl) (by kernel_rfl) (by kernel_rfl) (fun _ _ _ h => h) (Or.inl ⟨by first | kernel_rfl | rfl, ?ya_8⟩) hHeld ?ra_8
    case ya_8 => (intro W hSW; (try dsimp only at hSW); go_simp; (try with_reducible rfl))
    change wpAnyH _ _ _ _ _ _ _ (Act.put _ (some 18) _) _
    simp only [Act.put, List.setIfInBounds_toArray, List.set_cons_zero, List.set_cons_succ]
    refine wpAnyH_ready (rs := [9]) (by kernel_rfl) (by simp) ?_
    refine AllReadyH.cons rfl (fun K hK => ?_) AllReadyH.nil
    go_simp
    refine hK.out _ _ (y0) (fun hHeld => ?_)
    clear hK K
    try simp only [Act.put, List.setIfInBounds_toArray, List.set_cons_zero, List.set_cons_succ]
    refine wpAnyH_ready (rs := [10]) (by kernel_rfl) (by simp) ?_
    refine AllReadyH.cons rfl (fun K hK => ?_) AllReadyH.nil
    go_simp
    refine (HG.out).mono ?_
    rintro e V2 ⟨rfl, hV2⟩
    refine hK.out _ _ (by rw [hV2]; exact y0) (fun hHeld => ?_)
    clear hK K
    try simp only [Act.put, List.setIfInBounds_toArray, List.set_cons_zero, List.set_cons_succ]
    subst V2
    refine wpAnyH_take (i := 11) (v := ?va_11) rfl (by kernel_rfl) (by kernel_rfl) (by kernel_rfl) (fun _ _ _ h => h) (Or.inl ⟨by first | kernel_rfl | rfl, ?ya_11⟩) hHeld ?ra_11
    case ya_11 => (intro W hSW; (try dsimp only at hSW); go_simp; (try with_reducible rfl))
    change wpAnyH _ _ _ _ _ _ _ (Act.put _ (some 9) _) _
    simp only [Act.put, List.setIfInBounds_toArray, List.set_cons_zero, List.set_cons_succ]
    refine wpAnyH_take (i := 12) (v := ?va_12) rfl (by kernel_rfl) (by kernel_rfl) (by kernel_rfl) (fun _ _ _ h => h) (Or.inl ⟨by first | kernel_rfl | rfl, ?ya_12⟩) hHeld ?ra_12
    case ya_12 => (intro W hSW; (try dsimp only at hSW); go_simp; (try with_reducible rfl))
    change wpAnyH _ _ _ _ _ _ _ (Act.put _ (some 21) _) _
    simp only [Act.put, List.setIfInBounds_toArray, List.set_cons_zero, List.set_cons_succ]
    refine wpAnyH_take (i := 13) (v := ?va_13) rfl (by kernel_rfl) (by kernel_rfl) (by kernel_rfl) (fun _ _ _ h => h) (Or.inl ⟨by first | kernel_rfl | rfl, ?ya_13⟩) hHeld ?ra_13
    case ya_13 => (intro W hSW; (try dsimp only at hSW); go_simp; (try with_reducible rfl))
    change wpAnyH _ _ _ _ _ _ _ (Act.put _ (some 22) _) _
    simp only [Act.put, List.setIfInBounds_toArray, List.set_cons_zero, List.set_cons_succ]
    refine wpAnyH_take (i := 14) (v := ?va_14) rfl (by kernel_rfl) (by kernel_rfl) (by kernel_rfl) (fun _ _ _ h => h) (Or.inl ⟨by first | kernel_rfl | rfl, ?ya_14⟩) hHeld ?ra_14
    case ya_14 => (intro W hSW; (try dsimp only at hSW); go_simp; (try with_reducible rfl))
    change wpAnyH _ _ _ _ _ _ _ (Act.put _ (some 23) _) _
    simp only [Act.put, List.setIfInBounds_toArray, List.set_cons_zero, List.set_cons_succ]
    refine wpAnyH_take (i := 15) (v := ?va_15) rfl (by kernel_rfl) (by kernel_rfl) (by kernel_rfl) (fun _ _ _ h => h) (Or.inl ⟨by first | kernel_rfl | rfl, ?ya_15⟩) hHeld ?ra_15
    case ya_15 => (intro W hSW; (try dsimp only at hSW); go_simp; (try with_reducible rfl))
    change wpAnyH _ _ _ _ _ _ _ (Act.put _ (some 3) _) _
    simp only [Act.put, List.setIfInBounds_toArray, List.set_cons_zero, List.set_cons_succ]
    refine wpAnyH_take (i := 16) (v := ?va_16) rfl (by kernel_rfl) (by kernel_rfl) (by kernel_rfl) (fun _ _ _ h => h) (Or.inl ⟨by first | kernel_rfl | rfl, ?ya_16⟩) hHeld ?ra_16
    case ya_16 => (intro W hSW; (try dsimp only at hSW); go_simp; (try with_reducible rfl))
    change wpAnyH _ _ _ _ _ _ _ (Act.put _ (some 24) _) _
    simp only [Act.put, List.setIfInBounds_toArray, List.set_cons_zero, List.set_cons_succ]
    refine wpAnyH_take (i := 17) (v := ?va_17) rfl (by kernel_rfl) (by kernel_rfl) (by kernel_rfl) (fun _ _ _ h => h) (Or.inl ⟨by first | kernel_rfl | rfl, ?ya_17⟩) hHeld ?ra_17
    case ya_17 => (intro W hSW; (try dsimp only at hSW); go_simp; (try with_reducible rfl))
    change wpAnyH _ _ _ _ _ _ _ (Act.put _ (some 25) _) _
    simp only [Act.put, List.setIfInBounds_toArray, List.set_cons_zero, List.set_cons_succ]
    refine wpAnyH_ready (rs := [18]) (by kernel_rfl) (by simp) ?_
    refine AllReadyH.cons rfl (fun K hK => ?_) AllReadyH.nil
    go_simp
    refine hK.out _ _ (s1) (fun hHeld => ?_)
    clear hK K
    refine wpAnyH_take (i := 19) (v := ?va_19) rfl (by kernel_rfl) (by kernel_rfl) (by kernel_rfl) (fun _ _ _ h => h) (Or.inl ⟨by first | kernel_rfl | rfl, ?ya_19⟩) hHeld ?ra_19
    case ya_19 => (intro W hSW; (try dsimp only at hSW); go_simp; (try with_reducible rfl))
    change wpAnyH _ _ _ _ _ _ _ (Act.put _ (some 26) _) _
    simp only [Act.put, List.setIfInBounds_toArray, List.set_cons_zero, List.set_cons_succ]
    refine wpAnyH_take (i := 20) (v := ?va_20) rfl (by kernel_rfl) (by kernel_rfl) (by kernel_rfl) (fun _ _ _ h => h) (Or.inl ⟨by first | kernel_rfl | rfl, ?ya_20⟩) hHeld ?ra_20
    case ya_20 => (intro W hSW; (try dsimp only at hSW); go_simp; (try with_reducible rfl))
    change wpAnyH _ _ _ _ _ _ _ (Act.put _ (some 27) _) _
    simp only [Act.put, List.setIfInBounds_toArray, List.set_cons_zero, List.set_cons_succ]
    refine wpAnyH_ready (rs := [21]) (by kernel_rfl) (by simp) ?_
    refine AllReadyH.cons rfl (fun K hK => ?_) AllReadyH.nil
    go_simp
    refine hK.out _ _ (s2) (fun hHeld => ?_)
    clear hK K
    refine wpAnyH_done (by kernel_rfl) ?_ _
    go_wp2
    go_ret
    exact ⟨rfl, HE.out⟩
  · have hr : rdN bs p e = (0, p, e) := by unfold rdN; rw [if_pos he]
    rw [hr]
    have HE : Hid (w.heap[rb]? = some (rdR a len cap p e)) := h
    have ke : ¬ (e : Int) = 0 := by omega
    have kb : ((e : Int) == 0) = false := by simpa using ke
    have kn : ((e : Int) != 0) = true := by simpa using ke
    clear hr h hb
    go_enter Tryd.func58, Tryd.ntmps58
    go_wp2
    go_ret
    exact ⟨rfl, HE.out, Ex.refl _ _⟩
set_option maxRecDepth 100000 in
set_option maxHeartbeats 2000000 in
theorem rdtext_any {w : World} {rb : Nat} {a : Option Addr} {len cap : Nat} {bs : List UInt8} {p : Int} {e : Nat} (m : Nat) (hm : m ≤ 1000) (h : w.heap[rb]? = some (rdR a len cap p e)) (hb : Bs w a len cap bs) (hp : inP bs p) : Calls Tryd.prog 57 #[.pointer (some ⟨rb, 0, none⟩), .int .i64 (m : Int)] w fun e' w' => e' = .returned (.string (baOf (rdT bs p e m).1)) ∧ w'.heap[rb]? = some (rdR a len cap (rdT bs p e m).2.1 (rdT bs p e m).2.2) ∧ Ex rb w w' := by
  unfold rdR at h
  obtain ⟨y0, y1, y2, f0, f1, f2⟩ := row3f h
  by_cases he : e = 0
  · subst he
    have hr : rdT bs p 0 m = textAt bs p m := by unfold rdT; rw [if_neg (by simp)]
    rw [hr]
    obtain ⟨t, q, er, hg⟩ : ∃ n q er, textAt bs p (m : Int) = (n, q, er) := ⟨_, _, _, rfl⟩
    obtain ⟨X, hX⟩ : ∃ X, baOf t = X := ⟨_, rfl⟩
    have HG : Hid (Calls Tryd.prog 76 #[.slice a len cap, .int .i64 p, .int .i64 (m : Int)] w.drew fun e w' => e = .returned (.tuple #[.string X, .int .i64 q, .int .i64 (er : Int)]) ∧ w' = w.drew) := by rw [← hX]; exact gtext_any a len cap bs p (m : Int) t q er hg w.drew hb ⟨hp.1, hp.2.1⟩ (by omega)
    rw [hg]
    simp only
    rw [hX]
    obtain ⟨V3, hV3⟩ : ∃ V3, w.drew.setCell ⟨rb, 1, none⟩ (.int .i64 q) = V3 := ⟨_, rfl⟩
    have h3 : V3.heap[rb]? = some (.cells #[.slice a len cap, .int .i64 q, .int .i64 ((0 : Nat) : Int)] 67 (0, 0)) := by rw [← hV3, heap_setCell_same w.drew _ _ _ _ _ h]; rfl
    obtain ⟨V4, hV4⟩ : ∃ V4, V3.setCell ⟨rb, 2, none⟩ (.int .i64 (er : Int)) = V4 := ⟨_, rfl⟩
    have h4 : V4.heap[rb]? = some (.cells #[.slice a len cap, .int .i64 q, .int .i64 (er : Int)] 67 (0, 0)) := by rw [← hV4, heap_setCell_same V3 _ _ _ _ _ h3]; rfl
    obtain ⟨s1, _, _, _, _, k2⟩ := row3f h3
    obtain ⟨s2, _⟩ := row3f h4
    have HE : Hid (V4.heap[rb]? = some (rdR a len cap q er) ∧ Ex rb w V4) := ⟨h4, by rw [← hV4, ← hV3]; exact ((Ex.refl rb w).drew.set _ _).set _ _⟩
    have z2 : V3.cell? ⟨rb, 2, none⟩ = some (.int .i64 ((0 : Nat) : Int)) := by rw [cell_of_row _ _ _ _ _ _ h3]; rfl
    clear hr hg h3 h4 h hb hX
    go_enter Tryd.func57, Tryd.ntmps57
    go_wp2
    refine wp_region_held_drew (S := fun W => W.cell? ⟨rb, 0, none⟩ = some (.slice a len cap)) (by kernel_rfl) (y0) (fun hHeld => ?_)
    refine wpAnyH_take (i := 0) (v := ?vb_0) rfl (by kernel_rfl) (by kernel_rfl) (by kernel_rfl) (fun _ _ _ h => h) (Or.inl ⟨by first | kernel_rfl | rfl, ?yb_0⟩) hHeld ?rb_0
    case yb_0 => (intro W hSW; (try dsimp only at hSW); go_simp; (try with_reducible rfl))
    change wpAnyH _ _ _ _ _ _ _ (Act.put _ (some 12) _) _
    simp only [Act.put, List.setIfInBounds_toArray, List.set_cons_zero, List.set_cons_succ]
    refine wpAnyH_take (i := 1) (v := ?vb_1) rfl (by kernel_rfl) (by kernel_rfl) (by kernel_rfl) (fun _ _ _ h => h) (Or.inl ⟨by first | kernel_rfl | rfl, ?yb_1⟩) hHeld ?rb_1
    case yb_1 => (intro W hSW; (try dsimp only at hSW); go_simp; (try with_reducible rfl))
    change wpAnyH _ _ _ _ _ _ _ (Act.put _ (some 13) _) _
    simp only [Act.put, List.setIfInBounds_toArray, List.set_cons_zero, List.set_cons_succ]
    refine wpAnyH_take (i := 2) (v := ?vb_2) rfl (by kernel_rfl) (by kernel_rfl) (by kernel_rfl) (fun _ _ _ h => h) (Or.inl ⟨by first | kernel_rfl | rfl, ?yb_2⟩) hHeld ?rb_2
    case yb_2 => (intro W hSW; (try dsimp only at hSW); go_simp; (try with_reducible rfl))
    change wpAnyH _ _ _ _ _ _ _ (Act.put _ (some 14) _) _
    simp only [Act.put, List.setIfInBounds_toArray, List.set_cons_zero, List.set_cons_succ]
    refine wpAnyH_take (i := 3) (v := ?vb_3) rfl (by kernel_rfl) (by kernel_rfl) (by kernel_rfl) (fun _ _ _ h => h) (Or.inl ⟨by first | kernel_rfl | rfl, ?yb_3⟩) hHeld ?rb_3
    case yb_3 => (intro W hSW; (try dsimp only at hSW); go_simp; (try with_reducible rfl))
    change wpAnyH _ _ _ _ _ _ _ (Act.put _ (some 15) _) _
    simp only [Act.put, List.setIfInBounds_toArray, List.set_cons_zero, List.set_cons_succ]
    refine wpAnyH_take (i := 4) (v := ?vb_4) rfl (by kernel_rfl) (by kernel_rfl) (by kernel_rfl) (fun _ _ _ h => h) (Or.inl ⟨by first | kernel_rfl | rfl, ?yb_4⟩) hHeld ?rb_4
    case yb_4 => (intro W hSW; (try dsimp only at hSW); go_simp; (try with_reducible rfl))
    change wpAnyH _ _ _ _ _ _ _ (Act.put _ (some 16) _) _
    simp only [Act.put, List.setIfInBounds_toArray, List.set_cons_zero, List.set_cons_succ]
    refine wpAnyH_take (i := 5) (v := ?vb_5) rfl (by kernel_rfl) (by kernel_rfl) (by kernel_rfl) (fun _ _ _ h => h) (Or.inl ⟨by first | kernel_rfl | rfl, ?yb_5⟩) hHeld ?rb_5
    case yb_5 => (intro W hSW; (try dsimp only at hSW); go_simp; (try with_reducible rfl))
    change wpAnyH _ _ _ _ _ _ _ (Act.put _ (some 17) _) _
    simp only [Act.put, List.setIfInBounds_toArray, List.set_cons_zero, List.set_cons_succ]
    refine wpAnyH_take (i := 6) (v := ?vb_6) rfl (by kernel_rfl) (by kernel_rfl) (by kernel_rfl) (fun _ _ _ h => h) (Or.inl ⟨by first | kernel_rfl | rfl, ?yb_6⟩) hHeld ?rb_6
    case yb_6 => (intro W hSW; (try dsimp only at hSW); go_simp; (try with_reducible rfl))
    change wpAnyH _ _ _ _ _ _ _ (Act.put _ (some 18) _) _
    simp only [Act.put, List.setIfInBounds_toArray, List.set_cons_zero, List.set_cons_succ]
    refine wpAnyH_take (i := 7) (v := ?vb_7) rfl (by kernel_rfl) (by kernel_rfl) (by kernel_rfl) (fun _ _ _ h => h) (Or.inl ⟨by first | kernel_rfl | rfl, ?yb_7⟩) hHeld ?rb_7
    case yb_7 => (intro W hSW; (try dsimp only at hSW); go_simp; (try with_reducible rfl))
    change wpAnyH _ _ _ _ _ _ _ (Act.put _ (some 19) _) _
    simp only [Act.put, List.setIfInBounds_toArray, List.set_cons_zero, List.set_cons_succ]
    refine wpAnyH_take (i := 8) (v := ?vb_8) rfl (by kernel_rfl) (by kernel_rfl) (by kernel_rfl) (fun _ _ _ h => h) (Or.inl ⟨by first | kernel_rfl | rfl, ?yb_8⟩) hHeld ?rb_8
    case yb_8 => (intro W hSW; (try dsimp only at hSW); go_simp; (try with_reducible rfl))
    change wpAnyH _ _ _ _ _ _ _ (Act.put _ (some 20) _) _
    simp only [Act.put, List.setIfInBounds_toArray, List.set_cons_zero, List.set_cons_succ]
    refine wpAnyH_take (i := 10) (v := ?vb_10) rfl (by kernel_rfl) (by kernel_rfl) (by kernel_rfl) (fun _ _ _ h => h) (Or.inl ⟨by first | kernel_rfl | rfl, ?yb_10⟩) hHeld ?rb_10
    case yb_10 => (intro W hSW; (try dsimp only at hSW); go_simp; (try with_reducible rfl))
    change wpAnyH _ _ _ _ _ _ _ (Act.put _ (some 22) _) _
    simp only [Act.put, List.setIfInBounds_toArray, List.set_cons_zero, List.set_cons_succ]
    refine wpAnyH_ready (rs := [9]) (by kernel_rfl) (by simp) ?_
    refine AllReadyH.cons rfl (fun K hK => ?_) AllReadyH.nil
    go_simp
    refine hK.out _ _ (y0) (fun hHeld => ?_)
    clear hK K
    try simp only [Act.put, List.setIfInBounds_toArray, List.set_cons_zero, List.set_cons_succ]
    refine wpAnyH_ready (rs := [11]) (by kernel_rfl) (by simp) ?_
    refine AllReadyH.cons rfl (fun K hK => ?_) AllReadyH.nil
    go_simp
    refine (HG.out).mono ?_
    rintro e V2 ⟨rfl, hV2⟩
    refine hK.out _ _ (by rw [hV2]; exact y0) (fun hHeld => ?_)
    clear hK K
    try simp only [Act.put, List.setIfInBounds_toArray, List.set_cons_zero, List.set_cons_succ]
    subst V2
    refine wpAnyH_take (i := 12) (v := ?vb_12) rfl (by kernel_rfl) (by kernel_rfl) (by kernel_rfl) (fun _ _ _ h => h) (Or.inl ⟨by first | kernel_rfl | rfl, ?yb_12⟩) hHeld ?rb_12
    case yb_12 => (intro W hSW; (try dsimp only at hSW); go_simp; (try with_reducible rfl))
    change wpAnyH _ _ _ _ _ _ _ (Act.put _ (some 11) _) _
    simp only [Act.put, List.setIfInBounds_toArray, List.set_cons_zero, List.set_cons_succ]
    refine wpAnyH_take (i := 13) (v := ?vb_13) rfl (by kernel_rfl) (by kernel_rfl) (by kernel_rfl) (fun _ _ _ h => h) (Or.inl ⟨by first | kernel_rfl | rfl, ?yb_13⟩) hHeld ?rb_13
    case yb_13 => (intro W hSW; (try dsimp only at hSW); go_simp; (try with_reducible rfl))
    change wpAnyH _ _ _ _ _ _ _ (Act.put _ (some 24) _) _
    simp only [Act.put, List.setIfInBounds_toArray, List.set_cons_zero, List.set_cons_succ]
    refine wpAnyH_take (i := 14) (v := ?vb_14) rfl (by kernel_rfl) (by kernel_rfl) (by kernel_rfl) (fun _ _ _ h => h) (Or.inl ⟨by first | kernel_rfl | rfl, ?yb_14⟩) hHeld ?rb_14
    case yb_14 => (intro W hSW; (try dsimp only at hSW); go_simp; (try with_reducible rfl))
    change wpAnyH _ _ _ _ _ _ _ (Act.put _ (some 25) _) _
    simp only [Act.put, List.setIfInBounds_toArray, List.set_cons_zero, List.set_cons_succ]
    refine wpAnyH_take (i := 15) (v := ?vb_15) rfl (by kernel_rfl) (by kernel_rfl) (by kernel_rfl) (fun _ _ _ h => h) (Or.inl ⟨by first | kernel_rfl | rfl, ?yb_15⟩) hHeld ?rb_15
    case yb_15 => (intro W hSW; (try dsimp only at hSW); go_simp; (try with_reducible rfl))
    change wpAnyH _ _ _ _ _ _ _ (Act.put _ (some 26) _) _
    simp only [Act.put, List.setIfInBounds_toArray, List.set_cons_zero, List.set_cons_succ]
    refine wpAnyH_take (i := 16) (v := ?vb_16) rfl (by kernel_rfl) (by kernel_rfl) (by kernel_rfl) (fun _ _ _ h => h) (Or.inl ⟨by first | kernel_rfl | rfl, ?yb_16⟩) hHeld ?rb_16
    case yb_16 => (intro W hSW; (try dsimp only at hSW); go_simp; (try with_reducible rfl))
    change wpAnyH _ _ _ _ _ _ _ (Act.put _ (some 5) _) _
    simp only [Act.put, List.setIfInBounds_toArray, List.set_cons_zero, List.set_cons_succ]
    refine wpAnyH_take (i := 17) (v := ?vb_17) rfl (by kernel_rfl) (by kernel_rfl) (by kernel_rfl) (fun _ _ _ h => h) (Or.inl ⟨by first | kernel_rfl | rfl, ?yb_17⟩) hHeld ?rb_17
    case yb_17 => (intro W hSW; (try dsimp only at hSW); go_simp; (try with_reducible rfl))
    change wpAnyH _ _ _ _ _ _ _ (Act.put _ (some 27) _) _
    simp only [Act.put, List.setIfInBounds_toArray, List.set_cons_zero, List.set_cons_succ]
    refine wpAnyH_take (i := 18) (v := ?vb_18) rfl (by kernel_rfl) (by kernel_rfl) (by kernel_rfl) (fun _ _ _ h => h) (Or.inl ⟨by first | kernel_rfl | rfl, ?yb_18⟩) hHeld ?rb_18
    case yb_18 => (intro W hSW; (try dsimp only at hSW); go_simp; (try with_reducible rfl))
    change wpAnyH _ _ _ _ _ _ _ (Act.put _ (some 28) _) _
    simp only [Act.put, List.setIfInBounds_toArray, List.set_cons_zero, List.set_cons_succ]
    refine wpAnyH_ready (rs := [19]) (by kernel_rfl) (by simp) ?_
    refine AllReadyH.cons rfl (fun K hK => ?_) AllReadyH.nil
    go_simp
    refine hK.out _ _ (s1) (fun hHeld => ?_)
    clear hK K
    refine wpAnyH_take (i := 20) (v := ?vb_20) rfl (by kernel_rfl) (by kernel_rfl) (by kernel_rfl) (fun _ _ _ h => h) (Or.inl ⟨by first | kernel_rfl | rfl, ?yb_20⟩) hHeld ?rb_20
    case yb_20 => (intro W hSW; (try dsimp only at hSW); go_simp; (try with_reducible rfl))
    change wpAnyH _ _ _ _ _ _ _ (Act.put _ (some 29) _) _
    simp only [Act.put, List.setIfInBounds_toArray, List.set_cons_zero, List.set_cons_succ]
    refine wpAnyH_take (i := 21) (v := ?vb_21) rfl (by kernel_rfl) (by kernel_rfl) (by kernel_rfl) (fun _ _ _ h => h) (Or.inl ⟨by first | kernel_rfl | rfl, ?yb_21⟩) hHeld ?rb_21
    case yb_21 => (intro W hSW; (try dsimp only at hSW); go_simp; (try with_reducible rfl))
    change wpAnyH _ _ _ _ _ _ _ (Act.put _ (some 30) _) _
    simp only [Act.put, List.setIfInBounds_toArray, List.set_cons_zero, List.set_cons_succ]
    refine wpAnyH_ready (rs := [22]) (by kernel_rfl) (by simp) ?_
    refine AllReadyH.cons rfl (fun K hK => ?_) AllReadyH.nil
    go_simp
    refine hK.out _ _ (s2) (fun hHeld => ?_)
    clear hK K
    refine wpAnyH_done (by kernel_rfl) ?_ _
    go_wp2
    go_ret
    exact ⟨rfl, HE.out⟩
  · have hr : rdT bs p e m = ([], p, e) := by unfold rdT; rw [if_pos he]
    rw [hr]
    have HE : Hid (w.heap[rb]? = some (rdR a len cap p e)) := h
    have ke : ¬ (e : Int) = 0 := by omega
    have kb : ((e : Int) == 0) = false := by simpa using ke
    have kn : ((e : Int) != 0) = true := by simpa using ke
    clear hr h hb
    go_enter Tryd.func57, Tryd.ntmps57
    go_wp2
    go_ret
    exact ⟨rfl, HE.out, Ex.refl _ _⟩
theorem Bs.ex {w w' : World} {a : Option Addr} {len cap rb : Nat} {bs : List UInt8} (h : Bs w a len cap bs) (hx : Ex rb w w') (hne : (∀ ad, a = some ad → ad.block ≠ rb) ∨ bs = []) : Bs w' a len cap bs := by
  obtain ⟨h1, h2, h3, h4, h5⟩ := h
  refine ⟨h1, h2, h3, h4, fun ad had i hi => ?_⟩
  rcases hne with hne | hne
  rotate_left
  · rw [hne] at hi; simp at hi
  have hc := h5 ad had i hi
  have hlt := World.block_lt_of_cell? w _ hc
  have hb : (ad.add i).block = ad.block := by unfold Addr.add; split <;> rfl
  have e := hx.2 (ad.add i).block hlt (by rw [hb]; exact hne ad had)
  rw [World.cell?_of_block (w := w) e]
  exact hc
theorem res_1E {fn : Func} {p : Tmp} (h : fn.results = #[.cell p 36]) (tmps : Array Value) (w : World) (g : Nat) (cs : Array Value) (hp : tmps.getD p undef = .pointer (some ⟨g, 0, none⟩)) (hg : w.heap[g]? = some (.cells cs 36 (0, 0))) (hi : (Tryd.prog.info? 36).map (·.size) = some cs.size) :
    (results fn tmps).run Tryd.prog w = .ok (.agg cs) w := by
  have hp' : tmps[p]?.getD undef = .pointer (some ⟨g, 0, none⟩) := by simpa using hp
  have hl := run_loadVar_row (P := Tryd.prog) w g 36 36 cs (0, 0) _ hg Tryd.underlying36 rfl hi
  simp [results, h, hp', asAddr, hl]
theorem set5 {U : World} {g : Nat} {a b c d e : Value} {t : TypeId} (h : U.heap[g]? = some (.cells #[a, b, c, d, e] t (0, 0))) (x0 x1 x2 x3 x4 : Value) : (((((U.setCell ⟨g, 0, none⟩ x0).setCell ⟨g, 1, none⟩ x1).setCell ⟨g, 2, none⟩ x2).setCell ⟨g, 3, none⟩ x3).setCell ⟨g, 4, none⟩ x4).heap[g]? = some (.cells #[x0, x1, x2, x3, x4] t (0, 0)) := by
  have h1 : (U.setCell ⟨g, 0, none⟩ x0).heap[g]? = some (.cells #[x0, b, c, d, e] t (0, 0)) := by rw [heap_setCell_same _ _ _ _ _ _ h]; rfl
  have h2 : ((U.setCell ⟨g, 0, none⟩ x0).setCell ⟨g, 1, none⟩ x1).heap[g]? = some (.cells #[x0, x1, c, d, e] t (0, 0)) := by rw [heap_setCell_same _ _ _ _ _ _ h1]; rfl
  have h3 : (((U.setCell ⟨g, 0, none⟩ x0).setCell ⟨g, 1, none⟩ x1).setCell ⟨g, 2, none⟩ x2).heap[g]? = some (.cells #[x0, x1, x2, d, e] t (0, 0)) := by rw [heap_setCell_same _ _ _ _ _ _ h2]; rfl
  have h4 : ((((U.setCell ⟨g, 0, none⟩ x0).setCell ⟨g, 1, none⟩ x1).setCell ⟨g, 2, none⟩ x2).setCell ⟨g, 3, none⟩ x3).heap[g]? = some (.cells #[x0, x1, x2, x3, e] t (0, 0)) := by rw [heap_setCell_same _ _ _ _ _ _ h3]; rfl
  rw [heap_setCell_same _ _ _ _ _ _ h4]
  rfl
theorem other5s {rb j : Nat} {V : World} (h : j ≠ rb) (x0 x1 x2 x3 x4 : Value) : (((((V.setCell ⟨rb, 0, none⟩ x0).setCell ⟨rb, 1, none⟩ x1).setCell ⟨rb, 2, none⟩ x2).setCell ⟨rb, 3, none⟩ x3).setCell ⟨rb, 4, none⟩ x4).heap[j]? = V.heap[j]? := by
  rw [heap_setCell_other _ _ _ _ h, heap_setCell_other _ _ _ _ h, heap_setCell_other _ _ _ _ h, heap_setCell_other _ _ _ _ h, heap_setCell_other _ _ _ _ h]
set_option maxRecDepth 100000 in
set_option maxHeartbeats 4000000 in
theorem rdent_any {w : World} {rb : Nat} {a : Option Addr} {len cap : Nat} {bs : List UInt8} {p : Int} {e : Nat} (h : w.heap[rb]? = some (rdR a len cap p e)) (hb : Bs w a len cap bs) (hne : (∀ ad, a = some ad → ad.block ≠ rb) ∨ bs = []) (hp : inP bs p) : Calls Tryd.prog 59 #[.pointer (some ⟨rb, 0, none⟩)] w fun e' w' => e' = .returned (.agg #[.int .i64 (rdE bs p e).1.seq, .int .i64 (rdE bs p e).1.time, .int .i64 (rdE bs p e).1.kind, .string (rdE bs p e).1.path, .int .i64 (rdE bs p e).1.errno]) ∧ w'.heap[rb]? = some (rdR a len cap (rdE bs p e).2.1 (rdE bs p e).2.2) ∧ Ex rb w w' := by
  have hrl := lt_of_some h
  obtain ⟨n1, p1, e1, h1⟩ : ∃ n q x, rdN bs p e = (n, q, x) := ⟨_, _, _, rfl⟩
  obtain ⟨n2, p2, e2, h2⟩ : ∃ n q x, rdN bs p1 e1 = (n, q, x) := ⟨_, _, _, rfl⟩
  obtain ⟨n3, p3, e3, h3⟩ : ∃ n q x, rdN bs p2 e2 = (n, q, x) := ⟨_, _, _, rfl⟩
  obtain ⟨t, p4, e4, h4⟩ : ∃ n q x, rdT bs p3 e3 32 = (n, q, x) := ⟨_, _, _, rfl⟩
  obtain ⟨n5, p5, e5, h5⟩ : ∃ n q x, rdN bs p4 e4 = (n, q, x) := ⟨_, _, _, rfl⟩
  have i1 := rdN_in (e := e) hp
  rw [h1] at i1
  have i2 := rdN_in (e := e1) i1
  rw [h2] at i2
  have i3 := rdN_in (e := e2) i2
  rw [h3] at i3
  have i4 := rdT_in (m := 32) (e := e3) i3
  rw [h4] at i4
  simp only at i1 i2 i3 i4
  rw [rdE_by h1 h2 h3 h4 h5]
  simp only
  obtain ⟨X, hX⟩ : ∃ X, baOf t = X := ⟨_, rfl⟩
  rw [hX]
  obtain ⟨ab, hab⟩ : ∃ ab, w.heap.size = ab := ⟨_, rfl⟩
  obtain ⟨V1, hV1, r1, hb1⟩ := box_en (w := w) 0 0 0 ⟨#[]⟩ 0
  obtain ⟨cb, hcb⟩ : ∃ cb, V1.heap.size = cb := ⟨_, rfl⟩
  obtain ⟨V2, hV2, r2, hb2⟩ := box_en (w := V1) 0 0 0 ⟨#[]⟩ 0
  have hq1 : ab + 1 = cb := by rw [← hcb, ← hV1, ← hab]; simp
  rw [hab] at r1
  rw [hcb] at r2
  have ra2 : V2.heap[ab]? = some (.cells #[.int .i64 0, .int .i64 0, .int .i64 0, .string ⟨#[]⟩, .int .i64 0] 36 (0, 0)) := by rw [hb2.block ab (by omega)]; exact r1
  have hB2 : Below w.heap.size w V2 := hb1.trans (hb2.mono hb1.size)
  have x2 : Ex rb w V2 := Ex.of hB2
  have HX : Hid (∀ W, Ex rb w W → Bs W a len cap bs) := fun W hW => hb.ex hW hne
  have HI : Hid (rb < ab ∧ w.heap.size = ab ∧ ab + 1 = cb) := ⟨by omega, hab, hq1⟩
  have HNA : Hid (∀ W, W.heap[rb]? = some (rdR a len cap p e) → Ex rb w W → Calls Tryd.prog 58 #[.pointer (some ⟨rb, 0, none⟩)] W fun e' w' => e' = .returned (.int .i64 (n1 : Int)) ∧ w'.heap[rb]? = some (rdR a len cap p1 e1) ∧ Ex rb W w') := fun W g1 g2 => by
    have h9 := rdnum_any g1 (HX.out W g2) hp
    rw [h1] at h9
    exact h9
  have HNB : Hid (∀ W, W.heap[rb]? = some (rdR a len cap p1 e1) → Ex rb w W → Calls Tryd.prog 58 #[.pointer (some ⟨rb, 0, none⟩)] W fun e' w' => e' = .returned (.int .i64 (n2 : Int)) ∧ w'.heap[rb]? = some (rdR a len cap p2 e2) ∧ Ex rb W w') := fun W g1 g2 => by
    have h9 := rdnum_any g1 (HX.out W g2) i1
    rw [h2] at h9
    exact h9
  have HNC : Hid (∀ W, W.heap[rb]? = some (rdR a len cap p2 e2) → Ex rb w W → Calls Tryd.prog 58 #[.pointer (some ⟨rb, 0, none⟩)] W fun e' w' => e' = .returned (.int .i64 (n3 : Int)) ∧ w'.heap[rb]? = some (rdR a len cap p3 e3) ∧ Ex rb W w') := fun W g1 g2 => by
    have h9 := rdnum_any g1 (HX.out W g2) i2
    rw [h3] at h9
    exact h9
  have HND : Hid (∀ W, W.heap[rb]? = some (rdR a len cap p3 e3) → Ex rb w W → Calls Tryd.prog 57 #[.pointer (some ⟨rb, 0, none⟩), .int .i64 32] W fun e' w' => e' = .returned (.string X) ∧ w'.heap[rb]? = some (rdR a len cap p4 e4) ∧ Ex rb W w') := fun W g1 g2 => by
    have h9 := rdtext_any 32 (by omega) g1 (HX.out W g2) i3
    rw [show ((32 : Nat) : Int) = 32 from rfl, h4] at h9
    simp only at h9
    rw [hX] at h9
    exact h9
  have HNE : Hid (∀ W, W.heap[rb]? = some (rdR a len cap p4 e4) → Ex rb w W → Calls Tryd.prog 58 #[.pointer (some ⟨rb, 0, none⟩)] W fun e' w' => e' = .returned (.int .i64 (n5 : Int)) ∧ w'.heap[rb]? = some (rdR a len cap p5 e5) ∧ Ex rb W w') := fun W g1 g2 => by
    have h9 := rdnum_any g1 (HX.out W g2) i4
    rw [h5] at h9
    exact h9
  have HG := HNA.out V2 ((hB2.block rb hrl).trans h) x2
  have H2 : Hid (Ex rb w V2 ∧ V2.heap[ab]? = some (.cells #[.int .i64 0, .int .i64 0, .int .i64 0, .string ⟨#[]⟩, .int .i64 0] 36 (0, 0)) ∧ V2.heap[cb]? = some (.cells #[.int .i64 0, .int .i64 0, .int .i64 0, .string ⟨#[]⟩, .int .i64 0] 36 (0, 0))) := ⟨x2, ra2, r2⟩
  clear h hb hne h1 h2 h3 h4 h5 hX r1 r2 ra2 hb1 hb2 hB2 x2 i1 i2 i3 i4 hrl hp
  go_enter Tryd.func59, Tryd.ntmps59
  go_wp2_with fail
  refine HG.mono ?_
  rintro e' V3 ⟨rfl, hr, hx⟩
  clear HG
  have a0 := (hx.2 ab (lt_of_some H2.out.2.1) (by have := HI.out; omega)).trans H2.out.2.1
  have c0 := (hx.2 cb (lt_of_some H2.out.2.2) (by have := HI.out; omega)).trans H2.out.2.2
  obtain ⟨k0, k1, k2, k3, k4, kz⟩ := row5 c0
  have kf := kz 0
  obtain ⟨V4, hV4⟩ : ∃ x, V3.setCell ⟨cb, 0, none⟩ (.int .i64 (n1 : Int)) = x := ⟨_, rfl⟩
  have d0 : V4.heap[cb]? = some (.cells #[.int .i64 (n1 : Int), .int .i64 0, .int .i64 0, .string ⟨#[]⟩, .int .i64 0] 36 (0, 0)) := by rw [← hV4, heap_setCell_same _ _ _ _ _ _ c0]; rfl
  have o0 : ∀ k, k ≠ cb → V4.heap[k]? = V3.heap[k]? := fun k hk => by rw [← hV4, heap_setCell_other _ _ _ _ hk]
  have x0 : Ex rb w V4 := by rw [← hV4]; exact (H2.out.1.trans hx).setHi (by have := HI.out; omega) _ _
  have b0 := (o0 ab (by have := HI.out; omega)).trans a0
  have g0 := (o0 rb (by have := HI.out; omega)).trans hr
  have HG := HNB.out V4 g0 x0
  have H4 : Hid (Ex rb w V4 ∧ V4.heap[ab]? = some (.cells #[.int .i64 0, .int .i64 0, .int .i64 0, .string ⟨#[]⟩, .int .i64 0] 36 (0, 0)) ∧ V4.heap[cb]? = some (.cells #[.int .i64 (n1 : Int), .int .i64 0, .int .i64 0, .string ⟨#[]⟩, .int .i64 0] 36 (0, 0))) := ⟨x0, b0, d0⟩
  clear hr hx a0 c0 kz d0 o0 x0 b0 g0
  go_wp2_with fail
  refine HG.mono ?_
  rintro e' V5 ⟨rfl, hr, hx⟩
  clear HG
  have a1 := (hx.2 ab (lt_of_some H4.out.2.1) (by have := HI.out; omega)).trans H4.out.2.1
  have c1 := (hx.2 cb (lt_of_some H4.out.2.2) (by have := HI.out; omega)).trans H4.out.2.2
  obtain ⟨k0, k1, k2, k3, k4, kz⟩ := row5 c1
  have kf := kz 1
  obtain ⟨V6, hV6⟩ : ∃ x, V5.setCell ⟨cb, 1, none⟩ (.int .i64 (n2 : Int)) = x := ⟨_, rfl⟩
  have d1 : V6.heap[cb]? = some (.cells #[.int .i64 (n1 : Int), .int .i64 (n2 : Int), .int .i64 0, .string ⟨#[]⟩, .int .i64 0] 36 (0, 0)) := by rw [← hV6, heap_setCell_same _ _ _ _ _ _ c1]; rfl
  have o1 : ∀ k, k ≠ cb → V6.heap[k]? = V5.heap[k]? := fun k hk => by rw [← hV6, heap_setCell_other _ _ _ _ hk]
  have x1 : Ex rb w V6 := by rw [← hV6]; exact (H4.out.1.trans hx).setHi (by have := HI.out; omega) _ _
  have b1 := (o1 ab (by have := HI.out; omega)).trans a1
  have g1 := (o1 rb (by have := HI.out; omega)).trans hr
  have HG := HNC.out V6 g1 x1
  have H6 : Hid (Ex rb w V6 ∧ V6.heap[ab]? = some (.cells #[.int .i64 0, .int .i64 0, .int .i64 0, .string ⟨#[]⟩, .int .i64 0] 36 (0, 0)) ∧ V6.heap[cb]? = some (.cells #[.int .i64 (n1 : Int), .int .i64 (n2 : Int), .int .i64 0, .string ⟨#[]⟩, .int .i64 0] 36 (0, 0))) := ⟨x1, b1, d1⟩
  clear hr hx a1 c1 kz d1 o1 x1 b1 g1
  go_wp2_with fail
  refine HG.mono ?_
  rintro e' V7 ⟨rfl, hr, hx⟩
  clear HG
  have a2 := (hx.2 ab (lt_of_some H6.out.2.1) (by have := HI.out; omega)).trans H6.out.2.1
  have c2 := (hx.2 cb (lt_of_some H6.out.2.2) (by have := HI.out; omega)).trans H6.out.2.2
  obtain ⟨k0, k1, k2, k3, k4, kz⟩ := row5 c2
  have kf := kz 2
  obtain ⟨V8, hV8⟩ : ∃ x, V7.setCell ⟨cb, 2, none⟩ (.int .i64 (n3 : Int)) = x := ⟨_, rfl⟩
  have d2 : V8.heap[cb]? = some (.cells #[.int .i64 (n1 : Int), .int .i64 (n2 : Int), .int .i64 (n3 : Int), .string ⟨#[]⟩, .int .i64 0] 36 (0, 0)) := by rw [← hV8, heap_setCell_same _ _ _ _ _ _ c2]; rfl
  have o2 : ∀ k, k ≠ cb → V8.heap[k]? = V7.heap[k]? := fun k hk => by rw [← hV8, heap_setCell_other _ _ _ _ hk]
  have x2 : Ex rb w V8 := by rw [← hV8]; exact (H6.out.1.trans hx).setHi (by have := HI.out; omega) _ _
  have b2 := (o2 ab (by have := HI.out; omega)).trans a2
  have g2 := (o2 rb (by have := HI.out; omega)).trans hr
  have HG := HND.out V8 g2 x2
  have H8 : Hid (Ex rb w V8 ∧ V8.heap[ab]? = some (.cells #[.int .i64 0, .int .i64 0, .int .i64 0, .string ⟨#[]⟩, .int .i64 0] 36 (0, 0)) ∧ V8.heap[cb]? = some (.cells #[.int .i64 (n1 : Int), .int .i64 (n2 : Int), .int .i64 (n3 : Int), .string ⟨#[]⟩, .int .i64 0] 36 (0, 0))) := ⟨x2, b2, d2⟩
  clear hr hx a2 c2 kz d2 o2 x2 b2 g2
  go_wp2_with fail
  refine HG.mono ?_
  rintro e' V9 ⟨rfl, hr, hx⟩
  clear HG
  have a3 := (hx.2 ab (lt_of_some H8.out.2.1) (by have := HI.out; omega)).trans H8.out.2.1
  have c3 := (hx.2 cb (lt_of_some H8.out.2.2) (by have := HI.out; omega)).trans H8.out.2.2
  obtain ⟨k0, k1, k2, k3, k4, kz⟩ := row5 c3
  have kf := kz 3
  obtain ⟨V10, hV10⟩ : ∃ x, V9.setCell ⟨cb, 3, none⟩ (.string X) = x := ⟨_, rfl⟩
  have d3 : V10.heap[cb]? = some (.cells #[.int .i64 (n1 : Int), .int .i64 (n2 : Int), .int .i64 (n3 : Int), .string X, .int .i64 0] 36 (0, 0)) := by rw [← hV10, heap_setCell_same _ _ _ _ _ _ c3]; rfl
  have o3 : ∀ k, k ≠ cb → V10.heap[k]? = V9.heap[k]? := fun k hk => by rw [← hV10, heap_setCell_other _ _ _ _ hk]
  have x3 : Ex rb w V10 := by rw [← hV10]; exact (H8.out.1.trans hx).setHi (by have := HI.out; omega) _ _
  have b3 := (o3 ab (by have := HI.out; omega)).trans a3
  have g3 := (o3 rb (by have := HI.out; omega)).trans hr
  have HG := HNE.out V10 g3 x3
  have H10 : Hid (Ex rb w V10 ∧ V10.heap[ab]? = some (.cells #[.int .i64 0, .int .i64 0, .int .i64 0, .string ⟨#[]⟩, .int .i64 0] 36 (0, 0)) ∧ V10.heap[cb]? = some (.cells #[.int .i64 (n1 : Int), .int .i64 (n2 : Int), .int .i64 (n3 : Int), .string X, .int .i64 0] 36 (0, 0))) := ⟨x3, b3, d3⟩
  clear hr hx a3 c3 kz d3 o3 x3 b3 g3
  go_wp2_with fail
  refine HG.mono ?_
  rintro e' V11 ⟨rfl, hr, hx⟩
  clear HG
  have a4 := (hx.2 ab (lt_of_some H10.out.2.1) (by have := HI.out; omega)).trans H10.out.2.1
  have c4 := (hx.2 cb (lt_of_some H10.out.2.2) (by have := HI.out; omega)).trans H10.out.2.2
  obtain ⟨k0, k1, k2, k3, k4, kz⟩ := row5 c4
  have kf := kz 4
  obtain ⟨V12, hV12⟩ : ∃ x, V11.setCell ⟨cb, 4, none⟩ (.int .i64 (n5 : Int)) = x := ⟨_, rfl⟩
  have d4 : V12.heap[cb]? = some (.cells #[.int .i64 (n1 : Int), .int .i64 (n2 : Int), .int .i64 (n3 : Int), .string X, .int .i64 (n5 : Int)] 36 (0, 0)) := by rw [← hV12, heap_setCell_same _ _ _ _ _ _ c4]; rfl
  have o4 : ∀ k, k ≠ cb → V12.heap[k]? = V11.heap[k]? := fun k hk => by rw [← hV12, heap_setCell_other _ _ _ _ hk]
  have x4 : Ex rb w V12 := by rw [← hV12]; exact (H10.out.1.trans hx).setHi (by have := HI.out; omega) _ _
  have b4 := (o4 ab (by have := HI.out; omega)).trans a4
  have g4 := (o4 rb (by have := HI.out; omega)).trans hr
  obtain ⟨m0, m1, m2, m3, m4, _⟩ := row5 d4
  obtain ⟨q0, q1, q2, q3, q4, qz⟩ := row5 b4
  have qf0 := qz 0
  have qf1 := qz 1
  have qf2 := qz 2
  have qf3 := qz 3
  have qf4 := qz 4
  obtain ⟨W9, hW9⟩ : ∃ x, (((((V12.setCell ⟨ab, 0, none⟩ (.int .i64 (n1 : Int))).setCell ⟨ab, 1, none⟩ (.int .i64 (n2 : Int))).setCell ⟨ab, 2, none⟩ (.int .i64 (n3 : Int))).setCell ⟨ab, 3, none⟩ (.string X)).setCell ⟨ab, 4, none⟩ (.int .i64 (n5 : Int))) = x := ⟨_, rfl⟩
  have HE : Hid (W9.heap[ab]? = some (.cells #[.int .i64 (n1 : Int), .int .i64 (n2 : Int), .int .i64 (n3 : Int), .string X, .int .i64 (n5 : Int)] 36 (0, 0)) ∧ W9.heap[rb]? = some (rdR a len cap p5 e5) ∧ Ex rb w W9) := by
    refine ⟨by rw [← hW9]; exact set5 b4 _ _ _ _ _, ?_, ?_⟩
    · rw [← hW9, other5s (by have := HI.out; omega)]
      exact g4
    · rw [← hW9]
      have hle : w.heap.size ≤ ab := Nat.le_of_eq HI.out.2.1
      exact ((((x4.setHi hle _ _).setHi hle _ _).setHi hle _ _).setHi hle _ _).setHi hle _ _
  clear hr hx a4 c4 kz d4 o4 x4 b4 g4 qz
  go_wp2
  refine bodyPost_ret (v := .agg #[.int .i64 (n1 : Int), .int .i64 (n2 : Int), .int .i64 (n3 : Int), .string X, .int .i64 (n5 : Int)]) ?_ rfl ⟨rfl, HE.out.2⟩
  exact res_1E (fn := Tryd.f59) (p := 2) (by rfl) _ _ ab _ (by rfl) HE.out.1 infoE5
end Go.Proofs.YtkhidkilkbmpoaaDoor
