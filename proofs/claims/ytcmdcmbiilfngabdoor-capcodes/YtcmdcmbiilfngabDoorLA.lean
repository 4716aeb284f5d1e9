/- A reader in memory; walks over its number, text and caveat. -/
import Derived.Test.YtcmdcmbiilfngabDoorKH
import Derived.Test.YtcmdcmbiilfngabDoorNT
import Derived.BigQuiet
namespace Go.Proofs.YtcmdcmbiilfngabDoor
open Go.RowKit
/-- Nothing but the block g was changed. -/
def Ex (g : Nat) (w w' : World) : Prop := Below 0 w w' ∧ ∀ k, k < w.heap.size → k ≠ g → w'.heap[k]? = w.heap[k]?
theorem Ex.refl (g : Nat) (w : World) : Ex g w w := ⟨Below.refl _ _, fun _ _ _ => rfl⟩
theorem Ex.trans {g : Nat} {a b c : World} (h1 : Ex g a b) (h2 : Ex g b c) : Ex g a c := ⟨h1.1.trans (h2.1.mono (Nat.zero_le _)), fun k hk hg => (h2.2 k (Nat.lt_of_lt_of_le hk h1.1.size) hg).trans (h1.2 k hk hg)⟩
theorem Ex.drew {g : Nat} {a b : World} (h : Ex g a b) : Ex g a b.drew := ⟨h.1.drew, h.2⟩
theorem Ex.set {g : Nat} {a b : World} (h : Ex g a b) (o : Nat) (v : Value) : Ex g a (b.setCell ⟨g, o, none⟩ v) := ⟨h.1.setCell (Nat.zero_le _) _, fun k hk hg => by rw [heap_setCell_other _ _ _ _ hg]; exact h.2 k hk hg⟩
theorem Ex.of {g : Nat} {a b : World} (h : Below a.heap.size a b) : Ex g a b := ⟨h.mono (Nat.zero_le _), fun k hk _ => h.block k hk⟩
theorem Ex.below {g B : Nat} {a b : World} (h : Ex g a b) (hB : B ≤ g) (hs : B ≤ a.heap.size) : Below B a b := ⟨h.1.os, h.1.tape, h.1.output, h.1.size, fun k hk => h.2 k (by omega) (by omega)⟩
theorem getAt_pl (bs : List UInt8) (p : Int) : 0 ≤ (getAt bs p).2.1 ∧ (getAt bs p).2.1 ≤ bs.length ∧ (getAt bs p).1 < 18446744073709551616 := by
  by_cases h : (getAt bs p).2.2 = 0
  · obtain ⟨P, Q, h1, h2, h3, h4, _, h6⟩ := getAt_ok (bs := bs) (p := p) (n := (getAt bs p).1) (q := (getAt bs p).2.1) (Prod.ext rfl (Prod.ext rfl h))
    rw [h2]
    exact ⟨by omega, by omega, h6⟩
  · unfold getAt at h ⊢
    split
    · exact ⟨by simp, by simp, by simp⟩
    · next hb =>
      rw [if_neg hb] at h
      simp only at h ⊢
      rw [if_neg h]
      have := getL_no (bs.drop p.toNat) 0 0 h
      rw [this.1]
      exact ⟨by omega, by omega, by omega⟩
theorem cntAt_pl (bs : List UInt8) (p m : Int) : 0 ≤ (cntAt bs p m).2.1 ∧ (cntAt bs p m).2.1 ≤ bs.length := by
  unfold cntAt
  split
  · simp
  · split
    · simp
    · exact ⟨(getAt_pl bs p).1, (getAt_pl bs p).2.1⟩
theorem textAt_pl (bs : List UInt8) (p m : Int) : 0 ≤ (textAt bs p m).2.1 ∧ (textAt bs p m).2.1 ≤ bs.length := by
  have h := cntAt_pl bs p m
  unfold textAt
  split
  · simp
  · split
    · simp
    · simp only; omega
/-- A reader's row. -/
def rdR (a : Option Addr) (len cap : Nat) (p : Int) (e : Nat) : Obj := .cells #[.slice a len cap, .int .i64 p, .int .i64 (e : Int)] 46 (0, 0)
def KP63 : Nat := 9223372036854775807
/-- The next number; behind an error nought. -/
def rdN (bs : List UInt8) (p : Int) (e : Nat) : Nat × Int × Nat := if e ≠ 0 then (0, p, e) else (min (getAt bs p).1 KP63, (getAt bs p).2.1, (getAt bs p).2.2)
def rdT (bs : List UInt8) (p : Int) (e : Nat) (m : Int) : List UInt8 × Int × Nat := if e ≠ 0 then ([], p, e) else textAt bs p m
def rdC (bs : List UInt8) (p : Int) (e : Nat) : Cv × Int × Nat := (⟨baOf (rdT bs p e 32).1, ((rdN bs (rdT bs p e 32).2.1 (rdT bs p e 32).2.2).1 : Int), ((rdN bs (rdN bs (rdT bs p e 32).2.1 (rdT bs p e 32).2.2).2.1 (rdN bs (rdT bs p e 32).2.1 (rdT bs p e 32).2.2).2.2).1 : Int)⟩, (rdN bs (rdN bs (rdT bs p e 32).2.1 (rdT bs p e 32).2.2).2.1 (rdN bs (rdT bs p e 32).2.1 (rdT bs p e 32).2.2).2.2).2)
def inP (bs : List UInt8) (p : Int) : Prop := -9223372036854775808 ≤ p ∧ p ≤ 9223372036854775807 ∧ bs.length ≤ 9223372036854775807
theorem rdN_in {bs : List UInt8} {p : Int} {e : Nat} (h : inP bs p) : inP bs (rdN bs p e).2.1 := by
  unfold rdN
  split
  · exact h
  · have := getAt_pl bs p
    exact ⟨by simp only; omega, by simp only; have := h.2.2; omega, h.2.2⟩
theorem rdT_in {bs : List UInt8} {p m : Int} {e : Nat} (h : inP bs p) : inP bs (rdT bs p e m).2.1 := by
  unfold rdT
  split
  · exact h
  · have := textAt_pl bs p m
    exact ⟨by omega, by have := h.2.2; omega, h.2.2⟩
theorem rdC_in {bs : List UInt8} {p : Int} {e : Nat} (h : inP bs p) : inP bs (rdC bs p e).2.1 := rdN_in (rdN_in (rdT_in h))
set_option maxRecDepth 100000 in
set_option maxHeartbeats 2000000 in
theorem rdnum_any {w : World} {rb : Nat} {a : Option Addr} {len cap : Nat} {bs : List UInt8} {p : Int} {e : Nat} (h : w.heap[rb]? = some (rdR a len cap p e)) (hb : Bs w a len cap bs) (hp : inP bs p) : Calls Tryd.prog 16 #[.pointer (some ⟨rb, 0, none⟩)] w fun e' w' => e' = .returned (.int .i64 ((rdN bs p e).1 : Int)) ∧ w'.heap[rb]? = some (rdR a len cap (rdN bs p e).2.1 (rdN bs p e).2.2) ∧ Ex rb w w' := by
  unfold rdR at h
  obtain ⟨y0, y1, y2, f0, f1, f2⟩ := row3 h
  by_cases he : e = 0
  · subst he
    have hr : rdN bs p 0 = (min (getAt bs p).1 KP63, (getAt bs p).2.1, (getAt bs p).2.2) := by unfold rdN; rw [if_neg (by simp)]
    rw [hr]
    obtain ⟨n, q, er, hg⟩ : ∃ n q er, getAt bs p = (n, q, er) := ⟨_, _, _, rfl⟩
    have hn : n < 18446744073709551616 := by have := (getAt_pl bs p).2.2; rw [hg] at this; exact this
    have HG : Hid (Calls Tryd.prog 41 #[.slice a len cap, .int .i64 p] w.drew fun e w' => e = .returned (.tuple #[.int .u64 (n : Int), .int .i64 q, .int .i64 (er : Int)]) ∧ w' = w.drew) := get3 a len cap bs p n q er hg w.drew hb ⟨hp.1, hp.2.1⟩
    rw [hg]
    simp only
    obtain ⟨m, hm⟩ : ∃ m, min n KP63 = m := ⟨_, rfl⟩
    have hmi : min (n : Int) 9223372036854775807 = (m : Int) := by unfold KP63 at hm; omega
    have hmb : m ≤ 9223372036854775807 := by unfold KP63 at hm; omega
    rw [hm]
    have wm : IntKind.i64.wrap (m : Int) = (m : Int) := by rw [IntKind.wrap_i64]; omega
    obtain ⟨V3, hV3⟩ : ∃ V3, w.drew.setCell ⟨rb, 1, none⟩ (.int .i64 q) = V3 := ⟨_, rfl⟩
    have h3 : V3.heap[rb]? = some (.cells #[.slice a len cap, .int .i64 q, .int .i64 ((0 : Nat) : Int)] 46 (0, 0)) := by rw [← hV3, heap_setCell_same w.drew _ _ _ _ _ h]; rfl
    obtain ⟨V4, hV4⟩ : ∃ V4, V3.setCell ⟨rb, 2, none⟩ (.int .i64 (er : Int)) = V4 := ⟨_, rfl⟩
    have h4 : V4.heap[rb]? = some (.cells #[.slice a len cap, .int .i64 q, .int .i64 (er : Int)] 46 (0, 0)) := by rw [← hV4, heap_setCell_same V3 _ _ _ _ _ h3]; rfl
    obtain ⟨s1, _, _, _, _, k2⟩ := row3 h3
    obtain ⟨s2, _⟩ := row3 h4
    have HE : Hid (V4.heap[rb]? = some (rdR a len cap q er) ∧ Ex rb w V4) := ⟨h4, by rw [← hV4, ← hV3]; exact ((Ex.refl rb w).drew.set _ _).set _ _⟩
    have z2 : V3.cell? ⟨rb, 2, none⟩ = some (.int .i64 ((0 : Nat) : Int)) := by rw [cell_of_row _ _ _ _ _ _ h3]; rfl
    clear hr hg hn hm h3 h4 h hb
    go_enter Tryd.func16, Tryd.ntmps16
    go_wp2
    refine wp_region_held_drew (S := fun W => W.cell? ⟨rb, 0, none⟩ = some (.slice a len cap)) (by kernel_rfl) (y0) (fun hHeld => ?_)
    refine wpAnyH_take (i := 0) (v := ?va_0) rfl (by kernel_rfl) (by kernel_rfl) (by kernel_rfl) (fun _ _ _ h => h) (Or.inl ⟨by first | kernel_rfl | rfl, ?ya_0⟩) hHeld ?ra_0
    case ya_0 => (intro W hSW; (try dsimp only at hSW); go_simp; (try with_reducible rfl))
    change wpAnyH _ _ _ _ _ _ _ (Act.put _ (some 10) _) _
    simp only [Act.put, List.setIfInBounds_toArray, List.set_cons_zero, List.set_cons_succ]
    refine wpAnyH_take (i := 1) (v := ?va_1) rfl (by kernel_rfl) (by kernel_rfl) (by kernel_rfl) (fun _ _ _ h => h) (Or.inl ⟨by first | kernel_rfl | rfl, ?ya_1⟩) hHeld ?ra_1
    case ya_1 => (intro W hSW; (try dsimp only at hSW); go_simp; (try with_reducible rfl))
    change wpAnyH _ _ _ _ _ _ _ (Act.put _ (some 11) _) _
    simp only [Act.put, List.setIfInBounds_toArray, List.set_cons_zero, List.set_cons_succ]
    refine wpAnyH_take (i := 2) (v := ?va_2) rfl (by kernel_rfl) (by kernel_rfl) (by kernel_rfl) (fun _ _ _ h => h) (Or.inl ⟨by first | kernel_rfl | rfl, ?ya_2⟩) hHeld ?ra_2
    case ya_2 => (intro W hSW; (try dsimp only at hSW); go_simp; (try with_reducible rfl))
    change wpAnyH _ _ _ _ _ _ _ (Act.put _ (some 12) _) _
    simp only [Act.put, List.setIfInBounds_toArray, List.set_cons_zero, List.set_cons_succ]
    refine wpAnyH_take (i := 3) (v := ?va_3) rfl (by kernel_rfl) (by kernel_rfl) (by kernel_rfl) (fun _ _ _ h => h) (Or.inl ⟨by first | kernel_rfl | rfl, ?ya_3⟩) hHeld ?ra_3
    case ya_3 => (intro W hSW; (try dsimp only at hSW); go_simp; (try with_reducible rfl))
    change wpAnyH _ _ _ _ _ _ _ (Act.put _ (some 13) _) _
    simp only [Act.put, List.setIfInBounds_toArray, List.set_cons_zero, List.set_cons_succ]
    refine wpAnyH_take (i := 4) (v := ?va_4) rfl (by kernel_rfl) (by kernel_rfl) (by kernel_rfl) (fun _ _ _ h => h) (Or.inl ⟨by first | kernel_rfl | rfl, ?ya_4⟩) hHeld ?ra_4
    case ya_4 => (intro W hSW; (try dsimp only at hSW); go_simp; (try with_reducible rfl))
    change wpAnyH _ _ _ _ _ _ _ (Act.put _ (some 14) _) _
    simp only [Act.put, List.setIfInBounds_toArray, List.set_cons_zero, List.set_cons_succ]
    refine wpAnyH_take (i := 5) (v := ?va_5) rfl (by kernel_rfl) (by kernel_rfl) (by kernel_rfl) (fun _ _ _ h => h) (Or.inl ⟨by first | kernel_rfl | rfl, ?ya_5⟩) hHeld ?ra_5
    case ya_5 => (intro W hSW; (try dsimp only at hSW); go_simp; (try with_reducible rfl))
    change wpAnyH _ _ _ _ _ _ _ (Act.put _ (some 15) _) _
    simp only [Act.put, List.setIfInBounds_toArray, List.set_cons_zero, List.set_cons_succ]
    refine wpAnyH_take (i := 6) (v := ?va_6) rfl (by kernel_rfl) (by kernel_rfl) (by kernel_rfl) (fun _ _ _ h => h) (Or.inl ⟨by first | kernel_rfl | rfl, ?ya_6⟩) hHeld ?ra_6
    case ya_6 => (intro W hSW; (try dsimp only at hSW); go_simp; (try with_reducible rfl))
    change wpAnyH _ _ _ _ _ _ _ (Act.put _ (some 16) _) _
    simp only [Act.put, List.setIfInBounds_toArray, List.set_cons_zero, List.set_cons_succ]
    refine wpAnyH_take (i := 7) (v := ?va_7) rfl (by kernel_rfl) (by kernel_rfl) (by kernel_rfl) (fun _ _ _ h => h) (Or.inl ⟨by first | kernel_rfl | rfl, ?ya_7⟩) hHeld ?ra_7
    case ya_7 => (intro W hSW; (try dsimp only at hSW); go_simp; (try with_reducible rfl))
    change wpAnyH _ _ _ _ _ _ _ (Act.put _ (some 17) _) _
    simp only [Act.put, List.setIfInBounds_toArray, List.set_cons_zero, List.set_cons_succ]
    refine wpAnyH_take (i := 8) (v := ?va_8) rfl (by kernel_rfl) (by kernel_rfl) (by kernel_rfl) (fun _ _ _ h => h) (Or.inl ⟨by first | kernel_rfl | rfl, ?ya_8⟩) hHeld ?ra_8
    case ya_8 => (intro W hSW; (try dsimp only at hSW); go_simp; (try with_reducible rfl))
    change wpAnyH _ _ _ _ _ _ _ (Act.put _ (some 18) _) _
    simp only [Act.put, List.setIfInBounds_toArray, List.set_cons_zero, List.set_cons_succ]
    refine wpAnyH_ready (rs := [9]) (by kernel_rfl) (by simp) ?_
    refine AllReadyH.cons rfl (fun K hK => ?_) AllReadyH.nil
    go_simp
    refine hK.out _ _ (y0) (fun hHeld => ?_)
    clear hK K
    try simp only [Act.put, List.setIfInBounds_toArray, List.set_cons_zero, List.set_cons_succ]
    refine wpAnyH_ready (rs := [10]) (by kernel_rfl) (by simp) ?_
    refine AllReadyH.cons rfl (fun K hK => ?_) AllReadyH.nil
    go_simp
    refine (HG.out).mono ?_
    rintro e V2 ⟨rfl, hV2⟩
    refine hK.out _ _ (by rw [hV2]; exact y0) (fun hHeld => ?_)
    clear hK K
    try simp only [Act.put, List.setIfInBounds_toArray, List.set_cons_zero, List.set_cons_succ]
    subst V2
    refine wpAnyH_take (i := 11) (v := ?va_11) rfl (by kernel_rfl) (by kernel_rfl) (by kernel_rfl) (fun _ _ _ h => h) (Or.inl ⟨by first | kernel_rfl | rfl, ?ya_11⟩) hHeld ?ra_11
    case ya_11 => (intro W hSW; (try dsimp only at hSW); go_simp; (try with_reducible rfl))
    change wpAnyH _ _ _ _ _ _ _ (Act.put _ (some 9) _) _
    simp only [Act.put, List.setIfInBounds_toArray, List.set_cons_zero, List.set_cons_succ]
    refine wpAnyH_take (i := 12) (v := ?va_12) rfl (by kernel_rfl) (by kernel_rfl) (by kernel_rfl) (fun _ _ _ h => h) (Or.inl ⟨by first | kernel_rfl | rfl, ?ya_12⟩) hHeld ?ra_12
    case ya_12 => (intro W hSW; (try dsimp only at hSW); go_simp; (try with_reducible rfl))
    change wpAnyH _ _ _ _ _ _ _ (Act.put _ (some 21) _) _
    simp only [Act.put, List.setIfInBounds_toArray, List.set_cons_zero, List.set_cons_succ]
    refine wpAnyH_take (i := 13) (v := ?va_13) rfl (by kernel_rfl) (by kernel_rfl) (by kernel_rfl) (fun _ _ _ h => h) (Or.inl ⟨by first | kernel_rfl | rfl, ?ya_13⟩) hHeld ?ra_13
    case ya_13 => (intro W hSW; (try dsimp only at hSW); go_simp; (try with_reducible rfl))
    change wpAnyH _ _ _ _ _ _ _ (Act.put _ (some 22) _) _
    simp only [Act.put, List.setIfInBounds_toArray, List.set_cons_zero, List.set_cons_succ]
    refine wpAnyH_take (i := 14) (v := ?va_14) rfl (by kernel_rfl) (by kernel_rfl) (by kernel_rfl) (fun _ _ _ h => h) (Or.inl ⟨by first | kernel_rfl | rfl, ?ya_14⟩) hHeld ?ra_14
    case ya_14 => (intro W hSW; (try dsimp only at hSW); go_simp; (try with_reducible rfl))
    change wpAnyH _ _ _ _ _ _ _ (Act.put _ (some 23) _) _
    simp only [Act.put, List.setIfInBounds_toArray, List.set_cons_zero, List.set_cons_succ]
    refine wpAnyH_take (i := 15) (v := ?va_15) rfl (by kernel_rfl) (by kernel_rfl) (by kernel_rfl) (fun _ _ _ h => h) (Or.inl ⟨by first | kernel_rfl | rfl, ?ya_15⟩) hHeld ?ra_15
    case ya_15 => (intro W hSW; (try dsimp only at hSW); go_simp; (try with_reducible rfl))
    change wpAnyH _ _ _ _ _ _ _ (Act.put _ (some 3) _) _
    simp only [Act.put, List.setIfInBounds_toArray, List.set_cons_zero, List.set_cons_succ]
    refine wpAnyH_take (i := 16) (v := ?va_16) rfl (by kernel_rfl) (by kernel_rfl) (by kernel_rfl) (fun _ _ _ h => h) (Or.inl ⟨by first | kernel_rfl | rfl, ?ya_16⟩) hHeld ?ra_16
    case ya_16 => (intro W hSW; (try dsimp only at hSW); go_simp; (try with_reducible rfl))
    change wpAnyH _ _ _ _ _ _ _ (Act.put _ (some 24) _) _
    simp only [Act.put, List.setIfInBounds_toArray, List.set_cons_zero, List.set_cons_succ]
    refine wpAnyH_take (i := 17) (v := ?va_17) rfl (by kernel_rfl) (by kernel_rfl) (by kernel_rfl) (fun _ _ _ h => h) (Or.inl ⟨by first | kernel_rfl | rfl, ?ya_17⟩) hHeld ?ra_17
    case ya_17 => (intro W hSW; (try dsimp only at hSW); go_simp; (try with_reducible rfl))
    change wpAnyH _ _ _ _ _ _ _ (Act.put _ (some 25) _) _
    simp only [Act.put, List.setIfInBounds_toArray, List.set_cons_zero, List.set_cons_succ]
    refine wpAnyH_ready (rs := [18]) (by kernel_rfl) (by simp) ?_
    refine AllReadyH.cons rfl (fun K hK => ?_) AllReadyH.nil
    go_simp
    refine hK.out _ _ (s1) (fun hHeld => ?_)
    clear hK K
    refine wpAnyH_take (i := 19) (v := ?va_19) rfl (by kernel_rfl) (by kernel_rfl) (by kernel_rfl) (fun _ _ _ h => h) (Or.inl ⟨by first | kernel_rfl | rfl, ?ya_19⟩) hHeld ?ra_19
    case ya_19 => (intro W hSW; (try dsimp only at hSW); go_simp; (try with_reducible rfl))
    change wpAnyH _ _ _ _ _ _ _ (Act.put _ (some 26) _) _
    simp only [Act.put, List.setIfInBounds_toArray, List.set_cons_zero, List.set_cons_succ]
    refine wpAnyH_take (i := 20) (v := ?va_20) rfl (by kernel_rfl) (by kernel_rfl) (by kernel_rfl) (fun _ _ _ h => h) (Or.inl ⟨by first | kernel_rfl | rfl, ?ya_20⟩) hHeld ?ra_20
    case ya_20 => (intro W hSW; (try dsimp only at hSW); go_simp; (try with_reducible rfl))
    change wpAnyH _ _ _ _ _ _ _ (Act.put _ (some 27) _) _
    simp only [Act.put, List.setIfInBounds_toArray, List.set_cons_zero, List.set_cons_succ]
    refine wpAnyH_ready (rs := [21]) (by kernel_rfl) (by simp) ?_
    refine AllReadyH.cons rfl (fun K hK => ?_) AllReadyH.nil
    go_simp
    refine hK.out _ _ (s2) (fun hHeld => ?_)
    clear hK K
    refine wpAnyH_done (by kernel_rfl) ?_ _
    go_wp2
    go_ret
    exact ⟨rfl, HE.out⟩
  · have hr : rdN bs p e = (0, p, e) := by unfold rdN; rw [if_pos he]
    rw [hr]
    have HE : Hid (w.heap[rb]? = some (rdR a len cap p e)) := h
    have ke : ¬ (e : Int) = 0 := by omega
    have kb : ((e : Int) == 0) = false := by simpa using ke
    have kn : ((e : Int) != 0) = true := by simpa using ke
    clear hr h hb
    go_enter Tryd.func16, Tryd.ntmps16
    go_wp2
    go_ret
    exact ⟨rfl, HE.out, Ex.refl _ _⟩
set_option maxRecDepth 100000 in
set_option maxHeartbeats 2000000 in
theorem rdtext_any {w : World} {rb : Nat} {a : Option Addr} {len cap : Nat} {bs : List UInt8} {p : Int} {e : Nat} (m : Nat) (hm : m ≤ 1000) (h : w.heap[rb]? = some (rdR a len cap p e)) (hb : Bs w a len cap bs) (hp : inP bs p) : Calls Tryd.prog 18 #[.pointer (some ⟨rb, 0, none⟩), .int .i64 (m : Int)] w fun e' w' => e' = .returned (.string (baOf (rdT bs p e m).1)) ∧ w'.heap[rb]? = some (rdR a len cap (rdT bs p e m).2.1 (rdT bs p e m).2.2) ∧ Ex rb w w' := by
  unfold rdR at h
  obtain ⟨y0, y1, y2, f0, f1, f2⟩ := row3 h
  by_cases he : e = 0
  · subst he
    have hr : rdT bs p 0 m = textAt bs p m := by unfold rdT; rw [if_neg (by simp)]
    rw [hr]
    obtain ⟨t, q, er, hg⟩ : ∃ n q er, textAt bs p (m : Int) = (n, q, er) := ⟨_, _, _, rfl⟩
    obtain ⟨X, hX⟩ : ∃ X, baOf t = X := ⟨_, rfl⟩
    have HG : Hid (Calls Tryd.prog 42 #[.slice a len cap, .int .i64 p, .int .i64 (m : Int)] w.drew fun e w' => e = .returned (.tuple #[.string X, .int .i64 q, .int .i64 (er : Int)]) ∧ w' = w.drew) := by rw [← hX]; exact gtext_any a len cap bs p (m : Int) t q er hg w.drew hb ⟨hp.1, hp.2.1⟩ (by omega)
    rw [hg]
    simp only
    rw [hX]
    obtain ⟨V3, hV3⟩ : ∃ V3, w.drew.setCell ⟨rb, 1, none⟩ (.int .i64 q) = V3 := ⟨_, rfl⟩
    have h3 : V3.heap[rb]? = some (.cells #[.slice a len cap, .int .i64 q, .int .i64 ((0 : Nat) : Int)] 46 (0, 0)) := by rw [← hV3, heap_setCell_same w.drew _ _ _ _ _ h]; rfl
    obtain ⟨V4, hV4⟩ : ∃ V4, V3.setCell ⟨rb, 2, none⟩ (.int .i64 (er : Int)) = V4 := ⟨_, rfl⟩
    have h4 : V4.heap[rb]? = some (.cells #[.slice a len cap, .int .i64 q, .int .i64 (er : Int)] 46 (0, 0)) := by rw [← hV4, heap_setCell_same V3 _ _ _ _ _ h3]; rfl
    obtain ⟨s1, _, _, _, _, k2⟩ := row3 h3
    obtain ⟨s2, _⟩ := row3 h4
    have HE : Hid (V4.heap[rb]? = some (rdR a len cap q er) ∧ Ex rb w V4) := ⟨h4, by rw [← hV4, ← hV3]; exact ((Ex.refl rb w).drew.set _ _).set _ _⟩
    have z2 : V3.cell? ⟨rb, 2, none⟩ = some (.int .i64 ((0 : Nat) : Int)) := by rw [cell_of_row _ _ _ _ _ _ h3]; rfl
    clear hr hg h3 h4 h hb hX
    go_enter Tryd.func18, Tryd.ntmps18
    go_wp2
    refine wp_region_held_drew (S := fun W => W.cell? ⟨rb, 0, none⟩ = some (.slice a len cap)) (by kernel_rfl) (y0) (fun hHeld => ?_)
    refine wpAnyH_take (i := 0) (v := ?vb_0) rfl (by kernel_rfl) (by kernel_rfl) (by kernel_rfl) (fun _ _ _ h => h) (Or.inl ⟨by first | kernel_rfl | rfl, ?yb_0⟩) hHeld ?rb_0
    case yb_0 => (intro W hSW; (try dsimp only at hSW); go_simp; (try with_reducible rfl))
    change wpAnyH _ _ _ _ _ _ _ (Act.put _ (some 12) _) _
    simp only [Act.put, List.setIfInBounds_toArray, List.set_cons_zero, List.set_cons_succ]
    refine wpAnyH_take (i := 1) (v := ?vb_1) rfl (by kernel_rfl) (by kernel_rfl) (by kernel_rfl) (fun _ _ _ h => h) (Or.inl ⟨by first | kernel_rfl | rfl, ?yb_1⟩) hHeld ?rb_1
    case yb_1 => (intro W hSW; (try dsimp only at hSW); go_simp; (try with_reducible rfl))
    change wpAnyH _ _ _ _ _ _ _ (Act.put _ (some 13) _) _
    simp only [Act.put, List.setIfInBounds_toArray, List.set_cons_zero, List.set_cons_succ]
    refine wpAnyH_take (i := 2) (v := ?vb_2) rfl (by kernel_rfl) (by kernel_rfl) (by kernel_rfl) (fun _ _ _ h => h) (Or.inl ⟨by first | kernel_rfl | rfl, ?yb_2⟩) hHeld ?rb_2
    case yb_2 => (intro W hSW; (try dsimp only at hSW); go_simp; (try with_reducible rfl))
    change wpAnyH _ _ _ _ _ _ _ (Act.put _ (some 14) _) _
    simp only [Act.put, List.setIfInBounds_toArray, List.set_cons_zero, List.set_cons_succ]
    refine wpAnyH_take (i := 3) (v := ?vb_3) rfl (by kernel_rfl) (by kernel_rfl) (by kernel_rfl) (fun _ _ _ h => h) (Or.inl ⟨by first | kernel_rfl | rfl, ?yb_3⟩) hHeld ?rb_3
    case yb_3 => (intro W hSW; (try dsimp only at hSW); go_simp; (try with_reducible rfl))
    change wpAnyH _ _ _ _ _ _ _ (Act.put _ (some 15) _) _
    simp only [Act.put, List.setIfInBounds_toArray, List.set_cons_zero, List.set_cons_succ]
    refine wpAnyH_take (i := 4) (v := ?vb_4) rfl (by kernel_rfl) (by kernel_rfl) (by kernel_rfl) (fun _ _ _ h => h) (Or.inl ⟨by first | kernel_rfl | rfl, ?yb_4⟩) hHeld ?rb_4
    case yb_4 => (intro W hSW; (try dsimp only at hSW); go_simp; (try with_reducible rfl))
    change wpAnyH _ _ _ _ _ _ _ (Act.put _ (some 16) _) _
    simp only [Act.put, List.setIfInBounds_toArray, List.set_cons_zero, List.set_cons_succ]
    refine wpAnyH_take (i := 5) (v := ?vb_5) rfl (by kernel_rfl) (by kernel_rfl) (by kernel_rfl) (fun _ _ _ h => h) (Or.inl ⟨by first | kernel_rfl | rfl, ?yb_5⟩) hHeld ?rb_5
    case yb_5 => (intro W hSW; (try dsimp only at hSW); go_simp; (try with_reducible rfl))
    change wpAnyH _ _ _ _ _ _ _ (Act.put _ (some 17) _) _
    simp only [Act.put, List.setIfInBounds_toArray, List.set_cons_zero, List.set_cons_succ]
    refine wpAnyH_take (i := 6) (v := ?vb_6) rfl (by kernel_rfl) (by kernel_rfl) (by kernel_rfl) (fun _ _ _ h => h) (Or.inl ⟨by first | kernel_rfl | rfl, ?yb_6⟩) hHeld ?rb_6
    case yb_6 => (intro W hSW; (try dsimp only at hSW); go_simp; (try with_reducible rfl))
    change wpAnyH _ _ _ _ _ _ _ (Act.put _ (some 18) _) _
    simp only [Act.put, List.setIfInBounds_toArray, List.set_cons_zero, List.set_cons_succ]
    refine wpAnyH_take (i := 7) (v := ?vb_7) rfl (by kernel_rfl) (by kernel_rfl) (by kernel_rfl) (fun _ _ _ h => h) (Or.inl ⟨by first | kernel_rfl | rfl, ?yb_7⟩) hHeld ?rb_7
    case yb_7 => (intro W hSW; (try dsimp only at hSW); go_simp; (try with_reducible rfl))
    change wpAnyH _ _ _ _ _ _ _ (Act.put _ (some 19) _) _
    simp only [Act.put, List.setIfInBounds_toArray, List.set_cons_zero, List.set_cons_succ]
    refine wpAnyH_take (i := 8) (v := ?vb_8) rfl (by kernel_rfl) (by kernel_rfl) (by kernel_rfl) (fun _ _ _ h => h) (Or.inl ⟨by first | kernel_rfl | rfl, ?yb_8⟩) hHeld ?rb_8
    case yb_8 => (intro W hSW; (try dsimp only at hSW); go_simp; (try with_reducible rfl))
    change wpAnyH _ _ _ _ _ _ _ (Act.put _ (some 20) _) _
    simp only [Act.put, List.setIfInBounds_toArray, List.set_cons_zero, List.set_cons_succ]
    refine wpAnyH_take (i := 10) (v := ?vb_10) rfl (by kernel_rfl) (by kernel_rfl) (by kernel_rfl) (fun _ _ _ h => h) (Or.inl ⟨by first | kernel_rfl | rfl, ?yb_10⟩) hHeld ?rb_10
    case yb_10 => (intro W hSW; (try dsimp only at hSW); go_simp; (try with_reducible rfl))
    change wpAnyH _ _ _ _ _ _ _ (Act.put _ (some 22) _) _
    simp only [Act.put, List.setIfInBounds_toArray, List.set_cons_zero, List.set_cons_succ]
    refine wpAnyH_ready (rs := [9]) (by kernel_rfl) (by simp) ?_
    refine AllReadyH.cons rfl (fun K hK => ?_) AllReadyH.nil
    go_simp
    refine hK.out _ _ (y0) (fun hHeld => ?_)
    clear hK K
    try simp only [Act.put, List.setIfInBounds_toArray, List.set_cons_zero, List.set_cons_succ]
    refine wpAnyH_ready (rs := [11]) (by kernel_rfl) (by simp) ?_
    refine AllReadyH.cons rfl (fun K hK => ?_) AllReadyH.nil
    go_simp
    refine (HG.out).mono ?_
    rintro e V2 ⟨rfl, hV2⟩
    refine hK.out _ _ (by rw [hV2]; exact y0) (fun hHeld => ?_)
    clear hK K
    try simp only [Act.put, List.setIfInBounds_toArray, List.set_cons_zero, List.set_cons_succ]
    subst V2
    refine wpAnyH_take (i := 12) (v := ?vb_12) rfl (by kernel_rfl) (by kernel_rfl) (by kernel_rfl) (fun _ _ _ h => h) (Or.inl ⟨by first | kernel_rfl | rfl, ?yb_12⟩) hHeld ?rb_12
    case yb_12 => (intro W hSW; (try dsimp only at hSW); go_simp; (try with_reducible rfl))
    change wpAnyH _ _ _ _ _ _ _ (Act.put _ (some 11) _) _
    simp only [Act.put, List.setIfInBounds_toArray, List.set_cons_zero, List.set_cons_succ]
    refine wpAnyH_take (i := 13) (v := ?vb_13) rfl (by kernel_rfl) (by kernel_rfl) (by kernel_rfl) (fun _ _ _ h => h) (Or.inl ⟨by first | kernel_rfl | rfl, ?yb_13⟩) hHeld ?rb_13
    case yb_13 => (intro W hSW; (try dsimp only at hSW); go_simp; (try with_reducible rfl))
    change wpAnyH _ _ _ _ _ _ _ (Act.put _ (some 24) _) _
    simp only [Act.put, List.setIfInBounds_toArray, List.set_cons_zero, List.set_cons_succ]
    refine wpAnyH_take (i := 14) (v := ?vb_14) rfl (by kernel_rfl) (by kernel_rfl) (by kernel_rfl) (fun _ _ _ h => h) (Or.inl ⟨by first | kernel_rfl | rfl, ?yb_14⟩) hHeld ?rb_14
    case yb_14 => (intro W hSW; (try dsimp only at hSW); go_simp; (try with_reducible rfl))
    change wpAnyH _ _ _ _ _ _ _ (Act.put _ (some 25) _) _
    simp only [Act.put, List.setIfInBounds_toArray, List.set_cons_zero, List.set_cons_succ]
    refine wpAnyH_take (i := 15) (v := ?vb_15) rfl (by kernel_rfl) (by kernel_rfl) (by kernel_rfl) (fun _ _ _ h => h) (Or.inl ⟨by first | kernel_rfl | rfl, ?yb_15⟩) hHeld ?rb_15
    case yb_15 => (intro W hSW; (try dsimp only at hSW); go_simp; (try with_reducible rfl))
    change wpAnyH _ _ _ _ _ _ _ (Act.put _ (some 26) _) _
    simp only [Act.put, List.setIfInBounds_toArray, List.set_cons_zero, List.set_cons_succ]
    refine wpAnyH_take (i := 16) (v := ?vb_16) rfl (by kernel_rfl) (by kernel_rfl) (by kernel_rfl) (fun _ _ _ h => h) (Or.inl ⟨by first | kernel_rfl | rfl, ?yb_16⟩) hHeld ?rb_16
    case yb_16 => (intro W hSW; (try dsimp only at hSW); go_simp; (try with_reducible rfl))
    change wpAnyH _ _ _ _ _ _ _ (Act.put _ (some 5) _) _
    simp only [Act.put, List.setIfInBounds_toArray, List.set_cons_zero, List.set_cons_succ]
    refine wpAnyH_take (i := 17) (v := ?vb_17) rfl (by kernel_rfl) (by kernel_rfl) (by kernel_rfl) (fun _ _ _ h => h) (Or.inl ⟨by first | kernel_rfl | rfl, ?yb_17⟩) hHeld ?rb_17
    case yb_17 => (intro W hSW; (try dsimp only at hSW); go_simp; (try with_reducible rfl))
    change wpAnyH _ _ _ _ _ _ _ (Act.put _ (some 27) _) _
    simp only [Act.put, List.setIfInBounds_toArray, List.set_cons_zero, List.set_cons_succ]
    refine wpAnyH_take (i := 18) (v := ?vb_18) rfl (by kernel_rfl) (by kernel_rfl) (by kernel_rfl) (fun _ _ _ h => h) (Or.inl ⟨by first | kernel_rfl | rfl, ?yb_18⟩) hHeld ?rb_18
    case yb_18 => (intro W hSW; (try dsimp only at hSW); go_simp; (try with_reducible rfl))
    change wpAnyH _ _ _ _ _ _ _ (Act.put _ (some 28) _) _
    simp only [Act.put, List.setIfInBounds_toArray, List.set_cons_zero, List.set_cons_succ]
    refine wpAnyH_ready (rs := [19]) (by kernel_rfl) (by simp) ?_
    refine AllReadyH.cons rfl (fun K hK => ?_) AllReadyH.nil
    go_simp
    refine hK.out _ _ (s1) (fun hHeld => ?_)
    clear hK K
    refine wpAnyH_take (i := 20) (v := ?vb_20) rfl (by kernel_rfl) (by kernel_rfl) (by kernel_rfl) (fun _ _ _ h => h) (Or.inl ⟨by first | kernel_rfl | rfl, ?yb_20⟩) hHeld ?rb_20
    case yb_20 => (intro W hSW; (try dsimp only at hSW); go_simp; (try with_reducible rfl))
    change wpAnyH _ _ _ _ _ _ _ (Act.put _ (some 29) _) _
    simp only [Act.put, List.setIfInBounds_toArray, List.set_cons_zero, List.set_cons_succ]
    refine wpAnyH_take (i := 21) (v := ?vb_21) rfl (by kernel_rfl) (by kernel_rfl) (by kernel_rfl) (fun _ _ _ h => h) (Or.inl ⟨by first | kernel_rfl | rfl, ?yb_21⟩) hHeld ?rb_21
    case yb_21 => (intro W hSW; (try dsimp only at hSW); go_simp; (try with_reducible rfl))
    change wpAnyH _ _ _ _ _ _ _ (Act.put _ (some 30) _) _
    simp only [Act.put, List.setIfInBounds_toArray, List.set_cons_zero, List.set_cons_succ]
    refine wpAnyH_ready (rs := [22]) (by kernel_rfl) (by simp) ?_
    refine AllReadyH.cons rfl (fun K hK => ?_) AllReadyH.nil
    go_simp
    refine hK.out _ _ (s2) (fun hHeld => ?_)
    clear hK K
    refine wpAnyH_done (by kernel_rfl) ?_ _
    go_wp2
    go_ret
    exact ⟨rfl, HE.out⟩
  · have hr : rdT bs p e m = ([], p, e) := by unfold rdT; rw [if_pos he]
    rw [hr]
    have HE : Hid (w.heap[rb]? = some (rdR a len cap p e)) := h
    have ke : ¬ (e : Int) = 0 := by omega
    have kb : ((e : Int) == 0) = false := by simpa using ke
    have kn : ((e : Int) != 0) = true := by simpa using ke
    clear hr h hb
    go_enter Tryd.func18, Tryd.ntmps18
    go_wp2
    go_ret
    exact ⟨rfl, HE.out, Ex.refl _ _⟩
end Go.Proofs.YtcmdcmbiilfngabDoor
