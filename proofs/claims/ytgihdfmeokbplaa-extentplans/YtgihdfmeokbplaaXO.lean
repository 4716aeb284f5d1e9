/- Walks over Take and Give. -/
import Derived.Test.YtgihdfmeokbplaaXN
namespace Go.Proofs.Ytgihdfmeokbplaa
open Go.RowKit Ex
set_option maxHeartbeats 400000 in
theorem take_nil (s : Sp) (w : World) : Calls Try.prog 22 #[.pointer none, spA s] w fun e w' => e = .returned (.int .i64 1) ∧ Below w.heap.size w w' := by
  go_enter Try.func22, Try.ntmps22
  go_wp2
  go_ret
  exact ⟨rfl, (Below.refl _ w).alloc (Nat.le_refl _) _⟩
set_option maxHeartbeats 400000 in
theorem give_nil (s : Sp) (w : World) : Calls Try.prog 17 #[.pointer none, spA s] w fun e w' => e = .returned (.int .i64 1) ∧ Below w.heap.size w w' := by
  go_enter Try.func17, Try.ntmps17
  go_wp2
  go_ret
  exact ⟨rfl, (Below.refl _ w).alloc (Nat.le_refl _) _⟩
theorem ATo.of {w W w' : World} {S : Nat → Prop} {ab : Nat} {X X' : Ar} {v : Value} (h0 : AIs w S ab X) (hb : Below w.heap.size w W) (h : AIs w' (more S W w') ab X') (hu : Upd S W w') : ATo w S ab X' v (.returned v) w' := by
  refine ⟨rfl, h.mono (fun x hx => ?_) (fun x hx => ?_), (Upd.of_below hb).trans hu (fun x hx _ => hx)⟩
  · rcases hx with hx | hx
    · exact .inl hx
    · exact .inr ⟨Nat.le_trans hb.size hx.1, hx.2⟩
  · rcases hx with hx | hx
    · exact Nat.lt_of_lt_of_le (h0.bd x hx) (Nat.le_trans hb.size hu.size)
    · exact hx.2
set_option maxRecDepth 100000 in
set_option maxHeartbeats 8000000 in
theorem give_any {w : World} {S : Nat → Prop} {ab : Nat} {X : Ar} (h : AIs w S ab X) (s : Sp) : Calls Try.prog 17 #[.pointer (some ⟨ab, 0, none⟩), spA s] w (ATo w S ab (X.give s).1 (.int .i64 (X.give s).2)) := by
  have HA : Hid (AIs w S ab X ∧ X.Ok) := ⟨h, h.ok⟩
  obtain ⟨B, hB⟩ : ∃ B, w.heap.size = B := ⟨_, rfl⟩
  obtain ⟨W1, hW1⟩ : ∃ W1, w.alloc (.cells #[.int .i64 s.1, .int .i64 s.2] 37) = W1 := ⟨_, rfl⟩
  have hb1 : Below w.heap.size w W1 := by rw [← hW1]; exact (Below.refl _ w).alloc (Nat.le_refl _) _
  have d1 : W1.cell? ⟨B, 0, none⟩ = some (.int .i64 s.1) := by rw [← hW1, ← hB, cell_of_row _ w.heap.size _ _ _ _ (heap_alloc_new w _)]; rfl
  have d2 : W1.cell? ⟨B, 1, none⟩ = some (.int .i64 s.2) := by rw [← hW1, ← hB, cell_of_row _ w.heap.size _ _ _ _ (heap_alloc_new w _)]; rfl
  have HB1 : Hid (Below w.heap.size w W1) := hb1
  have HH := has_any (h.below hb1) s
  clear h hb1
  cases hh : X.has s with
  | false =>
    have HS : Hid (∀ V, Below w.heap.size w V → ATo w S ab (X.give s).1 (.int .i64 (X.give s).2) (.returned (.int .i64 9)) V) := fun V hV => by
      have e1 : X.give s = (X, 9) := by unfold Ar.give; rw [if_pos hh]
      rw [e1]; exact ATo.same HA.out.1 hV _
    rw [hh] at HH
    clear hh
    go_enter Try.func17, Try.ntmps17
    go_wp2_with fail
    refine HH.mono ?_
    rintro e V2 ⟨rfl, hV2⟩
    have HV2 : Hid (Below w.heap.size w V2) := HB1.out.trans (hV2.mono HB1.out.size)
    clear HH hV2
    go_wp2
    go_ret
    exact HS.out _ HV2.out
  | true =>
    rw [hh] at HH
    obtain ⟨q0, q1, q2⟩ := (X.has_iff s).1 hh
    have hz := HA.out.2.s2
    have HT : Hid (∀ V, Below w.heap.size w V → Calls Try.prog 39 #[.pointer (some ⟨ab, 0, none⟩), spA s] V fun e w' => e = .returned (.bool (takD X.hs s)) ∧ Below V.heap.size V w') := fun V hV => isTaken_any (HA.out.1.below hV) s ⟨by omega, by omega⟩
    cases ht : takD X.hs s with
    | false =>
      have HS : Hid (∀ V, Below w.heap.size w V → ATo w S ab (X.give s).1 (.int .i64 (X.give s).2) (.returned (.int .i64 8)) V) := fun V hV => by
        have e1 : X.give s = (X, 8) := by unfold Ar.give; rw [if_neg (by rw [hh]; simp), if_neg (by rw [ht]; simp)]
        rw [e1]; exact ATo.same HA.out.1 hV _
      rw [ht] at HT
      clear hh ht
      go_enter Try.func17, Try.ntmps17
      go_wp2_with fail
      refine HH.mono ?_
      rintro e V2 ⟨rfl, hV2⟩
      have HV2 : Hid (Below w.heap.size w V2) := HB1.out.trans (hV2.mono HB1.out.size)
      have e1 := keepc hV2 d1
      have e2 := keepc hV2 d2
      have HT2 := HT.out V2 HV2.out
      clear HH hV2
      go_wp2_with fail
      refine HT2.mono ?_
      rintro e V3 ⟨rfl, hV3⟩
      have HV3 : Hid (Below w.heap.size w V3) := HV2.out.trans (hV3.mono HV2.out.size)
      clear hV3 HT2
      go_wp2
      go_ret
      exact HS.out _ HV3.out
    | true =>
      obtain ⟨r, hr⟩ : ∃ r, findK X.hs s.1 = r := ⟨_, rfl⟩
      have e1 : X.give s = (⟨X.sz, joinL (X.hs.take r) (X.hs.drop r) s, X.nx⟩, 0) := by unfold Ar.give; rw [if_neg (by rw [hh]; simp), if_pos ht, hr]
      have hok : Ar.Ok ⟨X.sz, joinL (X.hs.take r) (X.hs.drop r) s, X.nx⟩ := by have h9 := (Ar.give_ok HA.out.2 s).1; rw [e1] at h9; exact h9
      have hrl : r ≤ X.hs.length := by rw [← hr]; exact findK_le _ _
      have HF : Hid (∀ V, Below w.heap.size w V → Calls Try.prog 41 #[.pointer (some ⟨ab, 0, none⟩), .int .i64 s.1] V fun e w' => e = .returned (.int .i64 (r : Int)) ∧ Below V.heap.size V w') := fun V hV => by have h9 := find_any (HA.out.1.below hV) s.1; rw [hr] at h9; exact h9
      have HJ : Hid (∀ V, Below w.heap.size w V → Calls Try.prog 40 #[.pointer (some ⟨ab, 0, none⟩), .int .i64 (r : Int), spA s] V fun e w' => e = .returned (.tuple #[]) ∧ ATo w S ab (X.give s).1 (.int .i64 (X.give s).2) (.returned (.int .i64 0)) w' ∧ ∀ o u, V.cell? ⟨B, o, none⟩ = some u → w'.cell? ⟨B, o, none⟩ = some u) := fun V hV => by
        refine (join_any (HA.out.1.below hV) hrl ⟨q0, q1, by omega⟩ hok).mono fun e w' h9 => ⟨h9.1, ?_, ?_⟩
        · rw [e1]; exact ATo.of HA.out.1 hV h9.2.1 h9.2.2
        · intro o u hu
          have hSB : ¬ S B := fun hS => by have := HA.out.1.bd B hS; omega
          exact (World.cell?_of_block (a := ⟨B, o, none⟩) (h9.2.2.block B (World.block_lt_of_cell? _ _ hu) hSB)).trans hu
      rw [ht] at HT
      clear hh ht hok hr e1
      go_enter Try.func17, Try.ntmps17
      go_wp2_with fail
      refine HH.mono ?_
      rintro e V2 ⟨rfl, hV2⟩
      have HV2 : Hid (Below w.heap.size w V2) := HB1.out.trans (hV2.mono HB1.out.size)
      have f1 := keepc hV2 d1
      have f2 := keepc hV2 d2
      have HT2 := HT.out V2 HV2.out
      clear HH hV2
      go_wp2_with fail
      refine HT2.mono ?_
      rintro e V3 ⟨rfl, hV3⟩
      have HV3 : Hid (Below w.heap.size w V3) := HV2.out.trans (hV3.mono HV2.out.size)
      have g1 := keepc hV3.drew f1
      have g2 := keepc hV3.drew f2
      clear hV3 HT2 f1 f2 d1 d2
      go_wp2
      refine wp_region_held_drew (S := fun V => V.cell? ⟨B, 0, none⟩ = some (.int .i64 s.1) ∧ V.cell? ⟨B, 1, none⟩ = some (.int .i64 s.2)) (by kernel_rfl) (⟨g1, g2⟩) (fun hHeld => ?_)
      refine wpAnyH_take (i := 0) (v := ?va0) rfl (by kernel_rfl) (by kernel_rfl) (by kernel_rfl) (fun _ _ _ h => h) (Or.inl ⟨by first | kernel_rfl | rfl, ?ya0⟩) hHeld ?ra0
      case ya0 => (intro W hSW; (try dsimp only at hSW); go_simp; (try with_reducible rfl))
      change wpAnyH _ _ _ _ _ _ _ (Act.put _ (some 15) _) _
      simp only [Act.put, List.setIfInBounds_toArray, List.set_cons_zero, List.set_cons_succ]
      refine wpAnyH_take (i := 1) (v := ?va1) rfl (by kernel_rfl) (by kernel_rfl) (by kernel_rfl) (fun _ _ _ h => h) (Or.inl ⟨by first | kernel_rfl | rfl, ?ya1⟩) hHeld ?ra1
      case ya1 => (intro W hSW; (try dsimp only at hSW); go_simp; (try with_reducible rfl))
      change wpAnyH _ _ _ _ _ _ _ (Act.put _ (some 16) _) _
      simp only [Act.put, List.setIfInBounds_toArray, List.set_cons_zero, List.set_cons_succ]
      refine wpAnyH_take (i := 2) (v := ?va2) rfl (by kernel_rfl) (by kernel_rfl) (by kernel_rfl) (fun _ _ _ h => h) (Or.inl ⟨by first | kernel_rfl | rfl, ?ya2⟩) hHeld ?ra2
      case ya2 => (intro W hSW; (try dsimp only at hSW); go_simp; (try with_reducible rfl))
      change wpAnyH _ _ _ _ _ _ _ (Act.put _ (some 17) _) _
      simp only [Act.put, List.setIfInBounds_toArray, List.set_cons_zero, List.set_cons_succ]
      refine wpAnyH_take (i := 3) (v := ?va3) rfl (by kernel_rfl) (by kernel_rfl) (by kernel_rfl) (fun _ _ _ h => h) (Or.inl ⟨by first | kernel_rfl | rfl, ?ya3⟩) hHeld ?ra3
      case ya3 => (intro W hSW; (try dsimp only at hSW); go_simp; (try with_reducible rfl))
      change wpAnyH _ _ _ _ _ _ _ (Act.put _ (some 18) _) _
      simp only [Act.put, List.setIfInBounds_toArray, List.set_cons_zero, List.set_cons_succ]
      refine wpAnyH_take (i := 5) (v := ?va5) rfl (by kernel_rfl) (by kernel_rfl) (by kernel_rfl) (fun _ _ _ h => h) (Or.inl ⟨by first | kernel_rfl | rfl, ?ya5⟩) hHeld ?ra5
      case ya5 => (intro W hSW; (try dsimp only at hSW); go_simp; (try with_reducible rfl))
      change wpAnyH _ _ _ _ _ _ _ (Act.put _ (some 20) _) _
      simp only [Act.put, List.setIfInBounds_toArray, List.set_cons_zero, List.set_cons_succ]
      refine wpAnyH_ready (rs := [4]) (by kernel_rfl) (by simp) ?_
      refine AllReadyH.cons rfl (fun K hK => ?_) AllReadyH.nil
      go_simp
      refine (HF.out _ HV3.out.drew).mono ?_
      rintro e V4 ⟨rfl, hV4⟩
      refine hK.out _ _ (⟨keepc hV4 hHeld.1, keepc hV4 hHeld.2⟩) (fun hHeld => ?_)
      clear hK K
      try simp only [Act.put, List.setIfInBounds_toArray, List.set_cons_zero, List.set_cons_succ]
      have HV4 : Hid (Below w.heap.size w V4) := HV3.out.drew.trans (hV4.mono HV3.out.size)
      refine wpAnyH_ready (rs := [6]) (by kernel_rfl) (by simp) ?_
      refine AllReadyH.cons rfl (fun K hK => ?_) AllReadyH.nil
      go_simp
      refine (HJ.out _ HV4.out).mono ?_
      rintro e V5 ⟨rfl, hto, hkc⟩
      refine hK.out _ _ (⟨hkc _ _ hHeld.1, hkc _ _ hHeld.2⟩) (fun hHeld => ?_)
      clear hK K
      try simp only [Act.put, List.setIfInBounds_toArray, List.set_cons_zero, List.set_cons_succ]
      refine wpAnyH_done (by kernel_rfl) ?_ _
      have HT5 : Hid (ATo w S ab (X.give s).1 (.int .i64 (X.give s).2) (.returned (.int .i64 0)) V5) := hto
      clear hHeld hto hkc hV4
      go_wp2
      go_ret
      exact HT5.out
set_option maxRecDepth 100000 in
set_option maxHeartbeats 8000000 in
theorem take_any {w : World} {S : Nat → Prop} {ab : Nat} {X : Ar} (h : AIs w S ab X) (s : Sp) : Calls Try.prog 22 #[.pointer (some ⟨ab, 0, none⟩), spA s] w (ATo w S ab (X.take s).1 (.int .i64 (X.take s).2)) := by
  have HA : Hid (AIs w S ab X ∧ X.Ok) := ⟨h, h.ok⟩
  obtain ⟨B, hB⟩ : ∃ B, w.heap.size = B := ⟨_, rfl⟩
  obtain ⟨W1, hW1⟩ : ∃ W1, w.alloc (.cells #[.int .i64 s.1, .int .i64 s.2] 37) = W1 := ⟨_, rfl⟩
  have hb1 : Below w.heap.size w W1 := by rw [← hW1]; exact (Below.refl _ w).alloc (Nat.le_refl _) _
  have d1 : W1.cell? ⟨B, 0, none⟩ = some (.int .i64 s.1) := by rw [← hW1, ← hB, cell_of_row _ w.heap.size _ _ _ _ (heap_alloc_new w _)]; rfl
  have d2 : W1.cell? ⟨B, 1, none⟩ = some (.int .i64 s.2) := by rw [← hW1, ← hB, cell_of_row _ w.heap.size _ _ _ _ (heap_alloc_new w _)]; rfl
  have HB1 : Hid (Below w.heap.size w W1) := hb1
  have HH := has_any (h.below hb1) s
  clear h hb1
  cases hh : X.has s with
  | false =>
    have HS : Hid (∀ V, Below w.heap.size w V → ATo w S ab (X.take s).1 (.int .i64 (X.take s).2) (.returned (.int .i64 9)) V) := fun V hV => by
      have e1 : X.take s = (X, 9) := by unfold Ar.take; rw [if_pos hh]
      rw [e1]; exact ATo.same HA.out.1 hV _
    rw [hh] at HH
    clear hh
    go_enter Try.func22, Try.ntmps22
    go_wp2_with fail
    refine HH.mono ?_
    rintro e V2 ⟨rfl, hV2⟩
    have HV2 : Hid (Below w.heap.size w V2) := HB1.out.trans (hV2.mono HB1.out.size)
    clear HH hV2
    go_wp2
    go_ret
    exact HS.out _ HV2.out
  | true =>
    rw [hh] at HH
    obtain ⟨q0, q1, q2⟩ := (X.has_iff s).1 hh
    have hz := HA.out.2.s2
    obtain ⟨r, hr⟩ : ∃ r, findK X.hs s.1 = r := ⟨_, rfl⟩
    have hrl : r ≤ X.hs.length := by rw [← hr]; exact findK_le _ _
    have HF : Hid (∀ V, Below w.heap.size w V → Calls Try.prog 41 #[.pointer (some ⟨ab, 0, none⟩), .int .i64 s.1] V fun e w' => e = .returned (.int .i64 (r : Int)) ∧ Below V.heap.size V w') := fun V hV => by have h9 := find_any (HA.out.1.below hV) s.1; rw [hr] at h9; exact h9
    obtain ⟨ha, hc, h⟩ := HA.out.1
    have hal : ab < w.heap.size := h.bd _ h.Sa
    have c1 := h.cells.2.1
    have hlen := h.ok.len
    have HSP : Hid (SpW w ha X.hs.length hc X.hs) := h.sp
    have hcap := h.sp.hcp
    obtain ⟨N, hN⟩ : ∃ N, X.hs.length = N := ⟨_, rfl⟩
    rw [hN] at c1 hlen HSP hcap hrl
    have HN : Hid (X.hs.length = N ∧ findK X.hs s.1 = r) := ⟨hN, hr⟩
    have HHH : Hid (X.has s = true) := hh
    clear h hN hr hh
    by_cases hlt : r < N
    rotate_left
    · obtain rfl : r = N := by omega
      have HS : Hid (∀ V, Below w.heap.size w V → ATo w S ab (X.take s).1 (.int .i64 (X.take s).2) (.returned (.int .i64 8)) V) := fun V hV => by
        have e1 : X.take s = (X, 8) := by
          unfold Ar.take
          rw [if_neg (by rw [HHH.out]; simp), if_neg (by rw [freD_none (by rw [HN.out.2]; exact List.getElem?_eq_none (by rw [HN.out.1]; exact Nat.le_refl _))]; simp)]
        rw [e1]; exact ATo.same HA.out.1 hV _
      go_enter Try.func22, Try.ntmps22
      go_wp2_with fail
      refine HH.mono ?_
      rintro e V2 ⟨rfl, hV2⟩
      have HV2 : Hid (Below w.heap.size w V2) := HB1.out.trans (hV2.mono HB1.out.size)
      have f1 := keepc hV2 d1
      have f2 := keepc hV2 d2
      have HF2 := HF.out V2 HV2.out
      clear HH hV2 d1 d2
      go_wp2_with fail
      refine HF2.mono ?_
      rintro e V3 ⟨rfl, hV3⟩
      have HV3 : Hid (Below w.heap.size w V3) := HV2.out.trans (hV3.mono HV2.out.size)
      have g0 : V3.drew.cell? ⟨ab, 1, none⟩ = some (.slice ha r hc) := keepc HV3.out.drew c1
      clear hV3 HF2 f1 f2
      go_wp2
      refine wp_region_held_drew (S := fun V => V.cell? ⟨ab, 1, none⟩ = some (.slice ha r hc)) (by kernel_rfl) (g0) (fun hHeld => ?_)
      refine wpAnyH_take (i := 0) (v := ?va0) rfl (by kernel_rfl) (by kernel_rfl) (by kernel_rfl) (fun _ _ _ h => h) (Or.inl ⟨by first | kernel_rfl | rfl, ?ya0⟩) hHeld ?ra0
      case ya0 => (intro W hSW; (try dsimp only at hSW); go_simp; (try with_reducible rfl))
      change wpAnyH _ _ _ _ _ _ _ (Act.put _ (some 16) _) _
      simp only [Act.put, List.setIfInBounds_toArray, List.set_cons_zero, List.set_cons_succ]
      refine wpAnyH_take (i := 1) (v := ?va1) rfl (by kernel_rfl) (by kernel_rfl) (by kernel_rfl) (fun _ _ _ h => h) (Or.inl ⟨by first | kernel_rfl | rfl, ?ya1⟩) hHeld ?ra1
      case ya1 => (intro W hSW; (try dsimp only at hSW); go_simp; (try with_reducible rfl))
      change wpAnyH _ _ _ _ _ _ _ (Act.put _ (some 17) _) _
      simp only [Act.put, List.setIfInBounds_toArray, List.set_cons_zero, List.set_cons_succ]
      refine wpAnyH_take (i := 2) (v := ?va2) rfl (by kernel_rfl) (by kernel_rfl) (by kernel_rfl) (fun _ _ _ h => h) (Or.inl ⟨by first | kernel_rfl | rfl, ?ya2⟩) hHeld ?ra2
      case ya2 => (intro W hSW; (try dsimp only at hSW); go_simp; (try with_reducible rfl))
      change wpAnyH _ _ _ _ _ _ _ (Act.put _ (some 18) _) _
      simp only [Act.put, List.setIfInBounds_toArray, List.set_cons_zero, List.set_cons_succ]
      refine wpAnyH_take (i := 3) (v := ?va3) rfl (by kernel_rfl) (by kernel_rfl) (by kernel_rfl) (fun _ _ _ h => h) (Or.inl ⟨by first | kernel_rfl | rfl, ?ya3⟩) hHeld ?ra3
      case ya3 => (intro W hSW; (try dsimp only at hSW); go_simp; (try with_reducible rfl))
      change wpAnyH _ _ _ _ _ _ _ (Act.put _ (some 19) _) _
      simp only [Act.put, List.setIfInBounds_toArray, List.set_cons_zero, List.set_cons_succ]
      refine wpAnyH_take (i := 4) (v := ?va4) rfl (by kernel_rfl) (by kernel_rfl) (by kernel_rfl) (fun _ _ _ h => h) (Or.inl ⟨by first | kernel_rfl | rfl, ?ya4⟩) hHeld ?ra4
      case ya4 => (intro W hSW; (try dsimp only at hSW); go_simp; (try with_reducible rfl))
      change wpAnyH _ _ _ _ _ _ _ (Act.put _ (some 20) _) _
      simp only [Act.put, List.setIfInBounds_toArray, List.set_cons_zero, List.set_cons_succ]
      refine wpAnyH_take (i := 5) (v := ?va5) rfl (by kernel_rfl) (by kernel_rfl) (by kernel_rfl) (fun _ _ _ h => h) (Or.inl ⟨by first | kernel_rfl | rfl, ?ya5⟩) hHeld ?ra5
      case ya5 => (intro W hSW; (try dsimp only at hSW); go_simp; (try with_reducible rfl))
      change wpAnyH _ _ _ _ _ _ _ (Act.put _ (some 21) _) _
      simp only [Act.put, List.setIfInBounds_toArray, List.set_cons_zero, List.set_cons_succ]
      refine wpAnyH_take (i := 6) (v := .bool true) rfl (by kernel_rfl) (by kernel_rfl) (by kernel_rfl) (fun _ _ _ h => h) (Or.inl ⟨by first | kernel_rfl | rfl, ?ya6⟩) hHeld ?ra6
      case ya6 => (intro W hSW; (try dsimp only at hSW); go_simp; (try with_reducible rfl))
      change wpAnyH _ _ _ _ _ _ _ (Act.put _ (some 22) _) _
      simp only [Act.put, List.setIfInBounds_toArray, List.set_cons_zero, List.set_cons_succ]
      refine wpAnyH_take (i := 7) (v := .bool true) rfl (by kernel_rfl) (by kernel_rfl) (by kernel_rfl) (fun _ _ _ h => h) (Or.inl ⟨by first | kernel_rfl | rfl, ?ya7⟩) hHeld ?ra7
      case ya7 => (intro W hSW; (try dsimp only at hSW); go_simp; (try with_reducible rfl))
      change wpAnyH _ _ _ _ _ _ _ (Act.put _ (some 23) _) _
      simp only [Act.put, List.setIfInBounds_toArray, List.set_cons_zero, List.set_cons_succ]
      refine wpAnyH_take (i := 8) (v := undef) rfl (by kernel_rfl) (by kernel_rfl) (by kernel_rfl) (fun _ _ _ h => h) (Or.inr ⟨by first | kernel_rfl | rfl, rfl⟩) hHeld ?_
      change wpAnyH _ _ _ _ _ _ _ (Act.put _ (some 24) _) _
      simp only [Act.put, List.setIfInBounds_toArray, List.set_cons_zero, List.set_cons_succ]
      refine wpAnyH_take (i := 9) (v := undef) rfl (by kernel_rfl) (by kernel_rfl) (by kernel_rfl) (fun _ _ _ h => h) (Or.inr ⟨by first | kernel_rfl | rfl, rfl⟩) hHeld ?_
      change wpAnyH _ _ _ _ _ _ _ (Act.put _ (some 25) _) _
      simp only [Act.put, List.setIfInBounds_toArray, List.set_cons_zero, List.set_cons_succ]
      refine wpAnyH_take (i := 10) (v := undef) rfl (by kernel_rfl) (by kernel_rfl) (by kernel_rfl) (fun _ _ _ h => h) (Or.inr ⟨by first | kernel_rfl | rfl, rfl⟩) hHeld ?_
      change wpAnyH _ _ _ _ _ _ _ (Act.put _ (some 26) _) _
      simp only [Act.put, List.setIfInBounds_toArray, List.set_cons_zero, List.set_cons_succ]
      refine wpAnyH_take (i := 11) (v := undef) rfl (by kernel_rfl) (by kernel_rfl) (by kernel_rfl) (fun _ _ _ h => h) (Or.inr ⟨by first | kernel_rfl | rfl, rfl⟩) hHeld ?_
      change wpAnyH _ _ _ _ _ _ _ (Act.put _ (some 27) _) _
      simp only [Act.put, List.setIfInBounds_toArray, List.set_cons_zero, List.set_cons_succ]
      refine wpAnyH_take (i := 12) (v := undef) rfl (by kernel_rfl) (by kernel_rfl) (by kernel_rfl) (fun _ _ _ h => h) (Or.inr ⟨by first | kernel_rfl | rfl, rfl⟩) hHeld ?_
      change wpAnyH _ _ _ _ _ _ _ (Act.put _ (some 28) _) _
      simp only [Act.put, List.setIfInBounds_toArray, List.set_cons_zero, List.set_cons_succ]
      refine wpAnyH_take (i := 13) (v := undef) rfl (by kernel_rfl) (by kernel_rfl) (by kernel_rfl) (fun _ _ _ h => h) (Or.inr ⟨by first | kernel_rfl | rfl, rfl⟩) hHeld ?_
      change wpAnyH _ _ _ _ _ _ _ (Act.put _ (some 29) _) _
      simp only [Act.put, List.setIfInBounds_toArray, List.set_cons_zero, List.set_cons_succ]
      refine wpAnyH_take (i := 14) (v := undef) rfl (by kernel_rfl) (by kernel_rfl) (by kernel_rfl) (fun _ _ _ h => h) (Or.inr ⟨by first | kernel_rfl | rfl, rfl⟩) hHeld ?_
      change wpAnyH _ _ _ _ _ _ _ (Act.put _ (some 30) _) _
      simp only [Act.put, List.setIfInBounds_toArray, List.set_cons_zero, List.set_cons_succ]
      refine wpAnyH_take (i := 15) (v := undef) rfl (by kernel_rfl) (by kernel_rfl) (by kernel_rfl) (fun _ _ _ h => h) (Or.inr ⟨by first | kernel_rfl | rfl, rfl⟩) hHeld ?_
      change wpAnyH _ _ _ _ _ _ _ (Act.put _ (some 31) _) _
      simp only [Act.put, List.setIfInBounds_toArray, List.set_cons_zero, List.set_cons_succ]
      refine wpAnyH_take (i := 16) (v := undef) rfl (by kernel_rfl) (by kernel_rfl) (by kernel_rfl) (fun _ _ _ h => h) (Or.inr ⟨by first | kernel_rfl | rfl, rfl⟩) hHeld ?_
      change wpAnyH _ _ _ _ _ _ _ (Act.put _ (some 32) _) _
      simp only [Act.put, List.setIfInBounds_toArray, List.set_cons_zero, List.set_cons_succ]
      refine wpAnyH_take (i := 17) (v := undef) rfl (by kernel_rfl) (by kernel_rfl) (by kernel_rfl) (fun _ _ _ h => h) (Or.inr ⟨by first | kernel_rfl | rfl, rfl⟩) hHeld ?_
      change wpAnyH _ _ _ _ _ _ _ (Act.put _ (some 33) _) _
      simp only [Act.put, List.setIfInBounds_toArray, List.set_cons_zero, List.set_cons_succ]
      refine wpAnyH_take (i := 18) (v := .bool true) rfl (by kernel_rfl) (by kernel_rfl) (by kernel_rfl) (fun _ _ _ h => h) (Or.inl ⟨by first | kernel_rfl | rfl, ?ya18⟩) hHeld ?ra18
      case ya18 => (intro W hSW; (try dsimp only at hSW); go_simp; (try with_reducible rfl))
      change wpAnyH _ _ _ _ _ _ _ (Act.put _ (some 34) _) _
      simp only [Act.put, List.setIfInBounds_toArray, List.set_cons_zero, List.set_cons_succ]
      refine wpAnyH_done (by kernel_rfl) ?_ _
      clear hHeld
      go_wp2
      go_ret
      exact HS.out _ HV3.out.drew
    · obtain ⟨q, hq⟩ : ∃ q, X.hs[r]? = some q := ⟨_, List.getElem?_eq_getElem (by rw [HN.out.1]; exact hlt)⟩
      have hm := HA.out.2.mem (List.mem_of_getElem? hq)
      obtain ⟨b, o, rfl, hbl, hcs⟩ := HSP.out.hat (by omega)
      obtain ⟨y1, y2⟩ := hcs r q hq
      have kr : (r : Int) < (N : Int) := by omega
      have HW : Hid (∀ V, Calls Try.prog 50 #[spA s, spA q] V fun e w' => e = .returned (.bool (freD X.hs s)) ∧ Below V.heap.size V w') := fun V => by
        rw [freD_some (by rw [HN.out.2]; exact hq)]
        exact within_any s q V ⟨by omega, by omega⟩ ⟨by omega, by omega⟩
      have HC : Hid (freD X.hs s = true → ∀ V, Below w.heap.size w V → Calls Try.prog 36 #[.pointer (some ⟨ab, 0, none⟩), .int .i64 (r : Int), spA s] V fun e w' => e = .returned (.tuple #[]) ∧ ATo w S ab (X.take s).1 (.int .i64 (X.take s).2) (.returned (.int .i64 0)) w') := fun hfd V hV => by
        have e1 : X.take s = (⟨X.sz, cutL X.hs r s, X.nx⟩, 0) := by unfold Ar.take; rw [if_neg (by rw [HHH.out]; simp), if_pos hfd, HN.out.2]
        rw [freD_some (by rw [HN.out.2]; exact hq), Bool.and_eq_true, decide_eq_true_eq, decide_eq_true_eq] at hfd
        refine (cut_any (HA.out.1.below hV) hq hfd.1 hfd.2 q1).mono fun e w' h9 => ⟨h9.1, ?_⟩
        rw [e1]; exact ATo.of HA.out.1 hV h9.2.1 h9.2.2
      have HSB : Hid (freD X.hs s = false → ∀ V, Below w.heap.size w V → ATo w S ab (X.take s).1 (.int .i64 (X.take s).2) (.returned (.int .i64 8)) V) := fun hfd V hV => by
        have e1 : X.take s = (X, 8) := by unfold Ar.take; rw [if_neg (by rw [HHH.out]; simp), if_neg (by rw [hfd]; simp)]
        rw [e1]; exact ATo.same HA.out.1 hV _
      clear hq hcs hm
      go_enter Try.func22, Try.ntmps22
      go_wp2_with fail
      refine HH.mono ?_
      rintro e V2 ⟨rfl, hV2⟩
      have HV2 : Hid (Below w.heap.size w V2) := HB1.out.trans (hV2.mono HB1.out.size)
      have f1 := keepc hV2 d1
      have f2 := keepc hV2 d2
      have HF2 := HF.out V2 HV2.out
      clear HH hV2 d1 d2
      go_wp2_with fail
      refine HF2.mono ?_
      rintro e V3 ⟨rfl, hV3⟩
      have HV3 : Hid (Below w.heap.size w V3) := HV2.out.trans (hV3.mono HV2.out.size)
      have g0 : V3.drew.cell? ⟨ab, 1, none⟩ = some (.slice (some ⟨b, o, none⟩) N hc) := keepc HV3.out.drew c1
      have g1 : V3.drew.cell? ⟨b, o + r * 2, none⟩ = some (.int .i64 q.1) := keepc HV3.out.drew y1
      have g2 : V3.drew.cell? ⟨b, o + r * 2 + 1, none⟩ = some (.int .i64 q.2) := keepc HV3.out.drew y2
      have g3 : V3.drew.cell? ⟨B, 0, none⟩ = some (.int .i64 s.1) := keepc hV3.drew f1
      have g4 : V3.drew.cell? ⟨B, 1, none⟩ = some (.int .i64 s.2) := keepc hV3.drew f2
      have kr2 : ¬ (r : Int) = (N : Int) := by omega
      clear hV3 HF2 f1 f2 c1 y1 y2
      go_wp2
      refine wp_region_held_drew (S := fun V => Hid (Below w.heap.size w V) ∧ V.cell? ⟨ab, 1, none⟩ = some (.slice (some ⟨b, o, none⟩) N hc) ∧ V.cell? ⟨b, o + r * 2, none⟩ = some (.int .i64 q.1) ∧ V.cell? ⟨b, o + r * 2 + 1, none⟩ = some (.int .i64 q.2) ∧ V.cell? ⟨B, 0, none⟩ = some (.int .i64 s.1) ∧ V.cell? ⟨B, 1, none⟩ = some (.int .i64 s.2)) (by kernel_rfl) (⟨HV3.out.drew, g0, g1, g2, g3, g4⟩) (fun hHeld => ?_)
      refine wpAnyH_take (i := 0) (v := ?vb0) rfl (by kernel_rfl) (by kernel_rfl) (by kernel_rfl) (fun _ _ _ h => h) (Or.inl ⟨by first | kernel_rfl | rfl, ?yb0⟩) hHeld ?rb0
      case yb0 => (intro W hSW; (try dsimp only at hSW); go_simp; (try with_reducible rfl))
      change wpAnyH _ _ _ _ _ _ _ (Act.put _ (some 16) _) _
      simp only [Act.put, List.setIfInBounds_toArray, List.set_cons_zero, List.set_cons_succ]
      refine wpAnyH_take (i := 1) (v := ?vb1) rfl (by kernel_rfl) (by kernel_rfl) (by kernel_rfl) (fun _ _ _ h => h) (Or.inl ⟨by first | kernel_rfl | rfl, ?yb1⟩) hHeld ?rb1
      case yb1 => (intro W hSW; (try dsimp only at hSW); go_simp; (try with_reducible rfl))
      change wpAnyH _ _ _ _ _ _ _ (Act.put _ (some 17) _) _
      simp only [Act.put, List.setIfInBounds_toArray, List.set_cons_zero, List.set_cons_succ]
      refine wpAnyH_take (i := 2) (v := ?vb2) rfl (by kernel_rfl) (by kernel_rfl) (by kernel_rfl) (fun _ _ _ h => h) (Or.inl ⟨by first | kernel_rfl | rfl, ?yb2⟩) hHeld ?rb2
      case yb2 => (intro W hSW; (try dsimp only at hSW); go_simp; (try with_reducible rfl))
      change wpAnyH _ _ _ _ _ _ _ (Act.put _ (some 18) _) _
      simp only [Act.put, List.setIfInBounds_toArray, List.set_cons_zero, List.set_cons_succ]
      refine wpAnyH_take (i := 3) (v := ?vb3) rfl (by kernel_rfl) (by kernel_rfl) (by kernel_rfl) (fun _ _ _ h => h) (Or.inl ⟨by first | kernel_rfl | rfl, ?yb3⟩) hHeld ?rb3
      case yb3 => (intro W hSW; (try dsimp only at hSW); go_simp; (try with_reducible rfl))
      change wpAnyH _ _ _ _ _ _ _ (Act.put _ (some 19) _) _
      simp only [Act.put, List.setIfInBounds_toArray, List.set_cons_zero, List.set_cons_succ]
      refine wpAnyH_take (i := 4) (v := ?vb4) rfl (by kernel_rfl) (by kernel_rfl) (by kernel_rfl) (fun _ _ _ h => h) (Or.inl ⟨by first | kernel_rfl | rfl, ?yb4⟩) hHeld ?rb4
      case yb4 => (intro W hSW; (try dsimp only at hSW); go_simp; (try with_reducible rfl))
      change wpAnyH _ _ _ _ _ _ _ (Act.put _ (some 20) _) _
      simp only [Act.put, List.setIfInBounds_toArray, List.set_cons_zero, List.set_cons_succ]
      refine wpAnyH_take (i := 5) (v := ?vb5) rfl (by kernel_rfl) (by kernel_rfl) (by kernel_rfl) (fun _ _ _ h => h) (Or.inl ⟨by first | kernel_rfl | rfl, ?yb5⟩) hHeld ?rb5
      case yb5 => (intro W hSW; (try dsimp only at hSW); go_simp; (try with_reducible rfl))
      change wpAnyH _ _ _ _ _ _ _ (Act.put _ (some 21) _) _
      simp only [Act.put, List.setIfInBounds_toArray, List.set_cons_zero, List.set_cons_succ]
      refine wpAnyH_take (i := 6) (v := .bool false) rfl (by kernel_rfl) (by kernel_rfl) (by kernel_rfl) (fun _ _ _ h => h) (Or.inl ⟨by first | kernel_rfl | rfl, ?yb6⟩) hHeld ?rb6
      case yb6 => (intro W hSW; (try dsimp only at hSW); go_simp; (try with_reducible rfl))
      change wpAnyH _ _ _ _ _ _ _ (Act.put _ (some 22) _) _
      simp only [Act.put, List.setIfInBounds_toArray, List.set_cons_zero, List.set_cons_succ]
      refine wpAnyH_take (i := 7) (v := .bool false) rfl (by kernel_rfl) (by kernel_rfl) (by kernel_rfl) (fun _ _ _ h => h) (Or.inl ⟨by first | kernel_rfl | rfl, ?yb7⟩) hHeld ?rb7
      case yb7 => (intro W hSW; (try dsimp only at hSW); go_simp; (try with_reducible rfl))
      change wpAnyH _ _ _ _ _ _ _ (Act.put _ (some 23) _) _
      simp only [Act.put, List.setIfInBounds_toArray, List.set_cons_zero, List.set_cons_succ]
      refine wpAnyH_take (i := 8) (v := ?vb8) rfl (by kernel_rfl) (by kernel_rfl) (by kernel_rfl) (fun _ _ _ h => h) (Or.inl ⟨by first | kernel_rfl | rfl, ?yb8⟩) hHeld ?rb8
      case yb8 => (intro W hSW; (try dsimp only at hSW); go_simp; (try with_reducible rfl))
      change wpAnyH _ _ _ _ _ _ _ (Act.put _ (some 24) _) _
      simp only [Act.put, List.setIfInBounds_toArray, List.set_cons_zero, List.set_cons_succ]
      refine wpAnyH_take (i := 9) (v := ?vb9) rfl (by kernel_rfl) (by kernel_rfl) (by kernel_rfl) (fun _ _ _ h => h) (Or.inl ⟨by first | kernel_rfl | rfl, ?yb9⟩) hHeld ?rb9
      case yb9 => (intro W hSW; (try dsimp only at hSW); go_simp; (try with_reducible rfl))
      change wpAnyH _ _ _ _ _ _ _ (Act.put _ (some 25) _) _
      simp only [Act.put, List.setIfInBounds_toArray, List.set_cons_zero, List.set_cons_succ]
      refine wpAnyH_take (i := 10) (v := ?vb10) rfl (by kernel_rfl) (by kernel_rfl) (by kernel_rfl) (fun _ _ _ h => h) (Or.inl ⟨by first | kernel_rfl | rfl, ?yb10⟩) hHeld ?rb10
      case yb10 => (intro W hSW; (try dsimp only at hSW); go_simp; (try with_reducible rfl))
      change wpAnyH _ _ _ _ _ _ _ (Act.put _ (some 26) _) _
      simp only [Act.put, List.setIfInBounds_toArray, List.set_cons_zero, List.set_cons_succ]
      refine wpAnyH_take (i := 11) (v := ?vb11) rfl (by kernel_rfl) (by kernel_rfl) (by kernel_rfl) (fun _ _ _ h => h) (Or.inl ⟨by first | kernel_rfl | rfl, ?yb11⟩) hHeld ?rb11
      case yb11 => (intro W hSW; (try dsimp only at hSW); go_simp; (try with_reducible rfl))
      change wpAnyH _ _ _ _ _ _ _ (Act.put _ (some 27) _) _
      simp only [Act.put, List.setIfInBounds_toArray, List.set_cons_zero, List.set_cons_succ]
      refine wpAnyH_take (i := 12) (v := ?vb12) rfl (by kernel_rfl) (by kernel_rfl) (by kernel_rfl) (fun _ _ _ h => h) (Or.inl ⟨by first | kernel_rfl | rfl, ?yb12⟩) hHeld ?rb12
      case yb12 => (intro W hSW; (try dsimp only at hSW); go_simp; (try with_reducible rfl))
      change wpAnyH _ _ _ _ _ _ _ (Act.put _ (some 28) _) _
      simp only [Act.put, List.setIfInBounds_toArray, List.set_cons_zero, List.set_cons_succ]
      refine wpAnyH_take (i := 13) (v := ?vb13) rfl (by kernel_rfl) (by kernel_rfl) (by kernel_rfl) (fun _ _ _ h => h) (Or.inl ⟨by first | kernel_rfl | rfl, ?yb13⟩) hHeld ?rb13
      case yb13 => (intro W hSW; (try dsimp only at hSW); go_simp; (try with_reducible rfl))
      change wpAnyH _ _ _ _ _ _ _ (Act.put _ (some 29) _) _
      simp only [Act.put, List.setIfInBounds_toArray, List.set_cons_zero, List.set_cons_succ]
      refine wpAnyH_take (i := 14) (v := ?vb14) rfl (by kernel_rfl) (by kernel_rfl) (by kernel_rfl) (fun _ _ _ h => h) (Or.inl ⟨by first | kernel_rfl | rfl, ?yb14⟩) hHeld ?rb14
      case yb14 => (intro W hSW; (try dsimp only at hSW); go_simp; (try with_reducible rfl))
      change wpAnyH _ _ _ _ _ _ _ (Act.put _ (some 30) _) _
      simp only [Act.put, List.setIfInBounds_toArray, List.set_cons_zero, List.set_cons_succ]
      refine wpAnyH_take (i := 15) (v := ?vb15) rfl (by kernel_rfl) (by kernel_rfl) (by kernel_rfl) (fun _ _ _ h => h) (Or.inl ⟨by first | kernel_rfl | rfl, ?yb15⟩) hHeld ?rb15
      case yb15 => (intro W hSW; (try dsimp only at hSW); go_simp; (try with_reducible rfl))
      change wpAnyH _ _ _ _ _ _ _ (Act.put _ (some 31) _) _
      simp only [Act.put, List.setIfInBounds_toArray, List.set_cons_zero, List.set_cons_succ]
      refine wpAnyH_ready (rs := [16]) (by kernel_rfl) (by simp) ?_
      refine AllReadyH.cons rfl (fun K hK => ?_) AllReadyH.nil
      go_simp
      refine (HW.out _).mono ?_
      rintro e V4 ⟨rfl, hV4⟩
      refine hK.out _ _ (⟨hHeld.1.out.trans (hV4.mono hHeld.1.out.size), keepc hV4 hHeld.2.1, keepc hV4 hHeld.2.2.1, keepc hV4 hHeld.2.2.2.1, keepc hV4 hHeld.2.2.2.2.1, keepc hV4 hHeld.2.2.2.2.2⟩) (fun hHeld => ?_)
      clear hK K
      try simp only [Act.put, List.setIfInBounds_toArray, List.set_cons_zero, List.set_cons_succ]
      refine wpAnyH_take (i := 17) (v := ?vb17) rfl (by kernel_rfl) (by kernel_rfl) (by kernel_rfl) (fun _ _ _ h => h) (Or.inl ⟨by first | kernel_rfl | rfl, ?yb17⟩) hHeld ?rb17
      case yb17 => (intro W hSW; (try dsimp only at hSW); go_simp; (try with_reducible rfl))
      change wpAnyH _ _ _ _ _ _ _ (Act.put _ (some 33) _) _
      simp only [Act.put, List.setIfInBounds_toArray, List.set_cons_zero, List.set_cons_succ]
      refine wpAnyH_take (i := 18) (v := ?vb18) rfl (by kernel_rfl) (by kernel_rfl) (by kernel_rfl) (fun _ _ _ h => h) (Or.inl ⟨by first | kernel_rfl | rfl, ?yb18⟩) hHeld ?rb18
      case yb18 => (intro W hSW; (try dsimp only at hSW); go_simp; (try with_reducible rfl))
      change wpAnyH _ _ _ _ _ _ _ (Act.put _ (some 34) _) _
      simp only [Act.put, List.setIfInBounds_toArray, List.set_cons_zero, List.set_cons_succ]
      refine wpAnyH_done (by kernel_rfl) ?_ _
      have HV4 : Hid (Below w.heap.size w V4) := hHeld.1
      have k3 : V4.cell? ⟨B, 0, none⟩ = some (.int .i64 s.1) := hHeld.2.2.2.2.1
      have k4 : V4.cell? ⟨B, 1, none⟩ = some (.int .i64 s.2) := hHeld.2.2.2.2.2
      clear hHeld hV4 g0 g1 g2 g3 g4
      cases hfd : freD X.hs s with
      | false =>
        have HS2 := HSB.out hfd V4 HV4.out
        have HS : Hid (ATo w S ab (X.take s).1 (.int .i64 (X.take s).2) (.returned (.int .i64 8)) V4) := HS2
        clear HS2 HSB HC hfd
        go_wp2
        go_ret
        exact HS.out
      | true =>
        have HC2 := HC.out hfd V4 HV4.out
        clear HSB HC hfd
        go_wp2_with fail
        refine HC2.mono ?_
        rintro e V5 ⟨rfl, hto⟩
        have HT5 : Hid (ATo w S ab (X.take s).1 (.int .i64 (X.take s).2) (.returned (.int .i64 0)) V5) := hto
        clear HC2 hto
        go_wp2
        go_ret
        exact HT5.out
end Go.Proofs.Ytgihdfmeokbplaa
