/- Walk over cut. -/
import Derived.Test.YtgihdfmeokbplaaXK
namespace Go.Proofs.Ytgihdfmeokbplaa
open Go.RowKit Ex
/-- Amid cut: the boxes of the extent and of the hole, and the row of what is left. -/
structure CutS (w V : World) (s h : Sp) (va : Option Addr) (m vc : Nat) (L1 : List Sp) : Prop where
  bel : Below w.heap.size w V
  cs : V.heap[w.heap.size]? = some (.cells #[.int .i64 s.1, .int .i64 s.2] 37 (0, 0))
  ch : V.heap[w.heap.size + 1]? = some (.cells #[.int .i64 h.1, .int .i64 h.2] 37 (0, 0))
  row : V.ownsRow 0 37 2 (.slice va m vc) m (spsV L1)
  fr : ∀ x, ob va = some x → w.heap.size + 2 ≤ x
theorem CutS.later {w V V' : World} {s h : Sp} {va : Option Addr} {m vc : Nat} {L1 : List Sp} (k : CutS w V s h va m vc L1) (hb : Below V.heap.size V V') : CutS w V' s h va m vc L1 :=
  ⟨k.bel.trans (hb.mono k.bel.size), (hb.block _ (lt_of_some k.cs)).trans k.cs, (hb.block _ (lt_of_some k.ch)).trans k.ch, own_keep k.row (fun x hx => hb.block x (k.row.lt x hx).2), k.fr⟩
theorem CutS.cells {w V : World} {s h : Sp} {va : Option Addr} {m vc : Nat} {L1 : List Sp} (k : CutS w V s h va m vc L1) : V.cell? ⟨w.heap.size, 0, none⟩ = some (.int .i64 s.1) ∧ V.cell? ⟨w.heap.size, 1, none⟩ = some (.int .i64 s.2) ∧ V.cell? ⟨w.heap.size + 1, 0, none⟩ = some (.int .i64 h.1) ∧ V.cell? ⟨w.heap.size + 1, 1, none⟩ = some (.int .i64 h.2) := by
  refine ⟨?_, ?_, ?_, ?_⟩
  · rw [cell_of_row V _ _ _ _ _ k.cs]; rfl
  · rw [cell_of_row V _ _ _ _ _ k.cs]; rfl
  · rw [cell_of_row V _ _ _ _ _ k.ch]; rfl
  · rw [cell_of_row V _ _ _ _ _ k.ch]; rfl
theorem CutS.app {w V V' : World} {s h q : Sp} {va : Option Addr} {m vc g cp : Nat} {L1 : List Sp} (k : CutS w V s h va m vc L1) (hown : V'.ownsRow 0 37 2 (.slice (some ⟨g, 0, none⟩) (m + 1) cp) (m + 1) (spsV L1 ++ [.int .i64 q.1, .int .i64 q.2])) (hgrow : V.grownBy V' (Value.slice va m vc).ownBlock) (hat : (Value.slice va m vc).ownBlock = some g ∨ g = V.heap.size) : CutS w V' s h (some ⟨g, 0, none⟩) (m + 1) cp (L1 ++ [q]) := by
  rw [ob_slice] at hgrow hat
  have hl2 := lt_of_some k.ch
  refine ⟨k.bel.grown hgrow k.bel.size (fun x hx => by have := k.fr x hx; omega), (hgrow.block _ (lt_of_some k.cs) (fun e => by have := k.fr _ e.symm; omega)).trans k.cs, (hgrow.block _ hl2 (fun e => by have := k.fr _ e.symm; omega)).trans k.ch, by rw [spsV_snoc]; exact hown, fun x hx => ?_⟩
  cases hx
  rcases hat with hat | hat
  · exact k.fr _ hat
  · show _ ≤ g; omega
theorem InV.of_own {V : World} {b m vc : Nat} {va : Option Addr} {L1 : List Sp} (h : V.ownsRow 0 37 2 (.slice va m vc) m (spsV L1)) (hm : 0 < m) (hne : ∀ x, ob va = some x → x ≠ b) : InV V b va m vc L1 := by
  refine ⟨by have := h.1; rw [spsV_len] at this; omega, .inr ⟨hm, ?_⟩⟩
  rcases h.2 with ⟨_, h0⟩ | ⟨g, cp, cur, e, _⟩
  · omega
  · cases e
    obtain ⟨L, h1, h2, h3, h4, h5⟩ := Blk.of h
    exact ⟨g, L, rfl, h1, hne g rfl, h3, by omega⟩
theorem InV.none_ (V : World) (b : Nat) : InV V b none 0 0 [] := ⟨rfl, .inl ⟨rfl, rfl, rfl⟩⟩
theorem leftL_eq (h s : Sp) : leftL h s = (if h.1 < s.1 then [(h.1, s.1 - h.1)] else []) ++ (if en s < en h then [(en s, en h - en s)] else []) := rfl
/-- An area whose holes are others. -/
theorem AL.change {w V V' V2 : World} {S : Nat → Prop} {ab : Nat} {ha : Option Addr} {hc : Nat} {X : Ar} (h : AL w S ab ha hc X) (hV : Below w.heap.size w V) {a' : Option Addr} {c' : Nat} {l : List Sp} (hok : Ar.Ok ⟨X.sz, l, X.nx⟩)
    (hrow : V'.ownsRow 0 37 2 (.slice a' l.length c') l.length (spsV l)) (hat : ∀ x, ob a' = some x → ob ha = some x ∨ V.heap.size ≤ x) (hu : Upd (fun x => ob ha = some x) V V') (h2 : V2 = V'.setCell ⟨ab, 1, none⟩ (.slice a' l.length c')) :
    AIs V2 (more S w V2) ab ⟨X.sz, l, X.nx⟩ ∧ Upd S w V2 := by
  subst h2
  have hal := h.bd _ h.Sa
  have hne : ob ha ≠ some ab := fun e => h.ne ab e rfl
  have hab : V'.heap[ab]? = some (.cells (arC X ha hc) 66 (0, 0)) := (hu.block ab (Nat.lt_of_lt_of_le hal hV.size) hne).trans ((hV.block ab hal).trans h.c)
  have hne' : ∀ x, ob a' = some x → x ≠ ab := fun x hx e => by
    subst e
    rcases hat x hx with h1 | h1
    · exact hne h1
    · have := hV.size; omega
  have hsz : V.heap.size ≤ V'.heap.size := hu.size
  refine ⟨⟨a', c', hok, ?_, ?_, hne', .inl h.Sa, fun x hx => ?_, fun x hx => ?_⟩, ?_⟩
  · rw [heap_setCell_same V' ab 1 _ _ _ hab]; rfl
  · refine own_keep hrow (fun x hx => ?_)
    rw [ob_slice] at hx
    exact heap_setCell_other _ _ _ _ (hne' x hx)
  · rcases hat x hx with h1 | h1
    · exact .inl (h.Sh x h1)
    · refine .inr ⟨Nat.le_trans hV.size h1, ?_⟩
      have := (hrow.lt x (by rw [ob_slice]; exact hx)).2
      simpa using this
  · rcases hx with hx | hx
    · have := h.bd x hx
      have := hV.size
      have : (V'.setCell ⟨ab, 1, none⟩ (.slice a' l.length c')).heap.size = V'.heap.size := by simp
      omega
    · exact hx.2
  · refine Upd.setCell ?_ (fun _ => h.Sa) _
    exact (Upd.of_below (S := S) hV).trans hu (fun x hx _ => h.Sh x hx)
set_option maxRecDepth 100000 in
set_option maxHeartbeats 8000000 in
theorem cut_any {w : World} {S : Nat → Prop} {ab : Nat} {X : Ar} (h : AIs w S ab X) {k : Nat} {q s : Sp} (hh : X.hs[k]? = some q) (h1 : q.1 ≤ s.1) (h2 : en s ≤ en q) (h3 : 1 ≤ s.2) :
    Calls Try.prog 36 #[.pointer (some ⟨ab, 0, none⟩), .int .i64 (k : Int), spA s] w fun e w' => e = .returned (.tuple #[]) ∧ AIs w' (more S w w') ab ⟨X.sz, cutL X.hs k s, X.nx⟩ ∧ Upd S w w' := by
  obtain ⟨ha, hc, h⟩ := h
  obtain ⟨c0, c1, c2⟩ := h.cells
  have hok := h.ok
  have hlen := hok.len
  have hm := sp_i64 hok (List.mem_of_getElem? hh)
  simp only [en] at h2
  have hkN := (List.getElem?_eq_some_iff.1 hh).1
  obtain ⟨b, rfl, hL⟩ : ∃ b, ha = some ⟨b, 0, none⟩ ∧ ∃ L, Blk w b L ∧ L.take (X.hs.length * 2) = spsV X.hs := by
    rcases h.h.2 with ⟨h5, h6⟩ | ⟨g, cp, cur, e, _⟩
    · omega
    · cases e
      obtain ⟨L, h7, _, h8, _⟩ := Blk.of h.h
      exact ⟨g, rfl, L, h7, h8⟩
  obtain ⟨L, hBL, hLt⟩ := hL
  have hat0 := spsV_at X.hs k q hh
  have hlk : ∀ j u, (spsV X.hs)[j]? = some u → L[j]? = some u := fun j u hu => by
    rw [← hLt, List.getElem?_take] at hu
    split at hu
    · exact hu
    · cases hu
  have d1 := hBL.cell (hlk _ _ hat0.1)
  have d2 := hBL.cell (hlk _ _ hat0.2)
  have hcl := cut_good hok.g hh h1 (by simp only [en]; omega) h3
  have HQ : Hid (X.hs[k]? = some q ∧ Ar.Ok ⟨X.sz, cutL X.hs k s, X.nx⟩) := ⟨hh, hok.s1, hok.s2, hcl.1, hok.n1, hok.n2⟩
  have HA : Hid (AL w S ab (some ⟨b, 0, none⟩) hc X) := h
  have hal : ab < w.heap.size := h.bd _ h.Sa
  have HB : Hid (ab < w.heap.size) := hal
  have HNE : Hid (¬ ob (some ⟨b, 0, none⟩) = some ab) := fun e => h.ne ab e rfl
  have hbl : b < w.heap.size := hBL.lt
  have hcap := h.sp.hcp
  obtain ⟨N, hN⟩ : ∃ N, X.hs.length = N := ⟨_, rfl⟩
  rw [hN] at c1 hlen hkN hcap
  have HN : Hid (X.hs.length = N) := hN
  have kk : (k : Int) < (N : Int) := by omega
  obtain ⟨i0, hi0, hz0, hzs, hzb⟩ := info_parts info37
  have HES : Hid (∀ V, Calls Try.prog 37 #[.agg #[.int .i64 s.1, .int .i64 s.2]] V fun e w' => e = .returned (.int .i64 (s.1 + s.2)) ∧ Below V.heap.size V w') := fun V => end_any s.1 s.2 V ⟨by omega, by omega⟩
  have HEQ : Hid (∀ V, Calls Try.prog 37 #[.agg #[.int .i64 q.1, .int .i64 q.2]] V fun e w' => e = .returned (.int .i64 (q.1 + q.2)) ∧ Below V.heap.size V w') := fun V => end_any q.1 q.2 V ⟨by omega, by omega⟩
  have HBT : Hid (∀ V, Calls Try.prog 53 #[.int .i64 (s.1 + s.2), .int .i64 (q.1 + q.2)] V fun e w' => e = .returned (.agg #[.int .i64 (s.1 + s.2), .int .i64 (q.1 + q.2 - (s.1 + s.2))]) ∧ Below V.heap.size V w') := fun V => between_any _ _ V ⟨by omega, by omega⟩
  have HBA : Hid (∀ V, Calls Try.prog 53 #[.int .i64 q.1, .int .i64 s.1] V fun e w' => e = .returned (.agg #[.int .i64 q.1, .int .i64 (s.1 - q.1)]) ∧ Below V.heap.size V w') := fun V => between_any _ _ V ⟨by omega, by omega⟩
  have hwk : IntKind.i64.wrap ((k : Int) + 1) = ((k + 1 : Nat) : Int) := by rw [IntKind.wrap_i64]; omega
  obtain ⟨B, hB⟩ : ∃ B, w.heap.size = B := ⟨_, rfl⟩
  obtain ⟨W0, hW0⟩ : ∃ W0, w.alloc (.cells #[.int .i64 s.1, .int .i64 s.2] 37) = W0 := ⟨_, rfl⟩
  obtain ⟨W1, hW1⟩ : ∃ W1, W0.alloc (.cells #[.int .i64 q.1, .int .i64 q.2] 37) = W1 := ⟨_, rfl⟩
  have hb0 : Below w.heap.size w W0 := by rw [← hW0]; exact (Below.refl _ w).alloc (Nat.le_refl _) _
  have hs0 : W0.heap.size = w.heap.size + 1 := by rw [← hW0]; simp
  have e0 : W0.heap[w.heap.size]? = some (.cells #[.int .i64 s.1, .int .i64 s.2] 37 (0, 0)) := by rw [← hW0]; exact heap_alloc_new w _
  have k0H : Hid (CutS w W1 s q none 0 0 []) := by
    refine ⟨by rw [← hW1]; exact hb0.alloc hb0.size _, ?_, ?_, World.ownsRow_nil _ _ _ _, fun x hx => by cases hx⟩
    · rw [← hW1, heap_alloc_old _ _ (lt_of_some e0)]; exact e0
    · have := heap_alloc_new W0 (.cells #[.int .i64 q.1, .int .i64 q.2] 37)
      rw [hs0] at this
      rw [← hW1]; exact this
  have g1 : W0.cell? ⟨ab, 1, none⟩ = some (.slice (some ⟨b, 0, none⟩) N hc) := keepc hb0 c1
  have g2 := keepc hb0 d1
  have g3 := keepc hb0 d2
  have k01 : W1.cell? ⟨B, 0, none⟩ = some (.int .i64 s.1) := by rw [← hB]; exact k0H.out.cells.1
  have k02 : W1.cell? ⟨B + 1, 0, none⟩ = some (.int .i64 q.1) := by rw [← hB]; exact k0H.out.cells.2.2.1
  rw [hB] at hs0
  clear h hok hBL hLt hat0 hlk hcl hN c0 c2 hh d1 d2 hb0 e0
  by_cases x1 : q.1 < s.1
  rotate_left
  · have x1n : ¬ q.1 < s.1 := by omega
    go_enter Try.func36, Try.ntmps36
    go_wp2
    clear k01 k02
    by_cases x2 : s.1 + s.2 < q.1 + q.2
    · skip
      obtain ⟨k01, k02, k03, k04⟩ := (k0H.out.later ((Below.refl _ W1).drew)).cells
      rw [hB] at k01 k02 k03 k04
      refine wp_region_held_drew (S := fun V => Hid (CutS w V s q (none) 0 0 ([])) ∧ V.cell? ⟨B, 0, none⟩ = some (.int .i64 s.1) ∧ V.cell? ⟨B, 1, none⟩ = some (.int .i64 s.2) ∧ V.cell? ⟨B + 1, 0, none⟩ = some (.int .i64 q.1) ∧ V.cell? ⟨B + 1, 1, none⟩ = some (.int .i64 q.2)) (by kernel_rfl) (⟨k0H.out.later ((Below.refl _ W1).drew), k01, k02, k03, k04⟩) (fun hHeld => ?_)
      refine wpAnyH_take (i := 0) (v := ?va0) rfl (by kernel_rfl) (by kernel_rfl) (by kernel_rfl) (fun _ _ _ h => h) (Or.inl ⟨by first | kernel_rfl | rfl, ?ya0⟩) hHeld ?ra0
      case ya0 => (intro W hSW; (try dsimp only at hSW); go_simp; (try with_reducible rfl))
      change wpAnyH _ _ _ _ _ _ _ (Act.put _ (some 28) _) _
      simp only [Act.put, List.setIfInBounds_toArray, List.set_cons_zero, List.set_cons_succ]
      refine wpAnyH_take (i := 2) (v := ?va2) rfl (by kernel_rfl) (by kernel_rfl) (by kernel_rfl) (fun _ _ _ h => h) (Or.inl ⟨by first | kernel_rfl | rfl, ?ya2⟩) hHeld ?ra2
      case ya2 => (intro W hSW; (try dsimp only at hSW); go_simp; (try with_reducible rfl))
      change wpAnyH _ _ _ _ _ _ _ (Act.put _ (some 30) _) _
      simp only [Act.put, List.setIfInBounds_toArray, List.set_cons_zero, List.set_cons_succ]
      refine wpAnyH_ready (rs := [1]) (by kernel_rfl) (by simp) ?_
      refine AllReadyH.cons rfl (fun K hK => ?_) AllReadyH.nil
      go_simp
      refine (HES.out _).mono ?_
      rintro e Va2 ⟨rfl, hVa2⟩
      refine hK.out _ _ (⟨hHeld.1.out.later hVa2, keepc hVa2 hHeld.2.1, keepc hVa2 hHeld.2.2.1, keepc hVa2 hHeld.2.2.2.1, keepc hVa2 hHeld.2.2.2.2⟩) (fun hHeld => ?_)
      clear hK K
      try simp only [Act.put, List.setIfInBounds_toArray, List.set_cons_zero, List.set_cons_succ]
      refine wpAnyH_ready (rs := [3]) (by kernel_rfl) (by simp) ?_
      refine AllReadyH.cons rfl (fun K hK => ?_) AllReadyH.nil
      go_simp
      refine (HEQ.out _).mono ?_
      rintro e Va3 ⟨rfl, hVa3⟩
      refine hK.out _ _ (⟨hHeld.1.out.later hVa3, keepc hVa3 hHeld.2.1, keepc hVa3 hHeld.2.2.1, keepc hVa3 hHeld.2.2.2.1, keepc hVa3 hHeld.2.2.2.2⟩) (fun hHeld => ?_)
      clear hK K
      try simp only [Act.put, List.setIfInBounds_toArray, List.set_cons_zero, List.set_cons_succ]
      refine wpAnyH_take (i := 4) (v := .bool true) rfl (by kernel_rfl) (by kernel_rfl) (by kernel_rfl) (fun _ _ _ h => h) (Or.inl ⟨by first | kernel_rfl | rfl, ?ya4⟩) hHeld ?ra4
      case ya4 => (intro W hSW; (try dsimp only at hSW); go_simp; (try with_reducible rfl))
      change wpAnyH _ _ _ _ _ _ _ (Act.put _ (some 32) _) _
      simp only [Act.put, List.setIfInBounds_toArray, List.set_cons_zero, List.set_cons_succ]
      refine wpAnyH_done (by kernel_rfl) ?_ _
      have aH : Hid (CutS w Va3 s q (none) 0 0 ([])) := hHeld.1
      clear hHeld k01 k02 k03 k04 hVa2 hVa3
      go_wp2
      obtain ⟨a1, a2, a3, a4⟩ := (aH.out.later ((Below.refl _ Va3).drew)).cells
      rw [hB] at a1 a2 a3 a4
      have kb1 : CutS w Va3.drew s q (none) 0 0 ([]) := aH.out.later ((Below.refl _ Va3).drew)
      refine wp_region_held_drew (S := fun V => V.cell? ⟨B, 0, none⟩ = some (.int .i64 s.1) ∧ V.cell? ⟨B, 1, none⟩ = some (.int .i64 s.2) ∧ V.cell? ⟨B + 1, 0, none⟩ = some (.int .i64 q.1) ∧ V.cell? ⟨B + 1, 1, none⟩ = some (.int .i64 q.2)) (by kernel_rfl) (⟨a1, a2, a3, a4⟩) (fun hHeld => ?_)
      refine wpAnyH_take (i := 0) (v := ?vb0) rfl (by kernel_rfl) (by kernel_rfl) (by kernel_rfl) (fun _ _ _ h => h) (Or.inl ⟨by first | kernel_rfl | rfl, ?yb0⟩) hHeld ?rb0
      case yb0 => (intro W hSW; (try dsimp only at hSW); go_simp; (try with_reducible rfl))
      change wpAnyH _ _ _ _ _ _ _ (Act.put _ (some 33) _) _
      simp only [Act.put, List.setIfInBounds_toArray, List.set_cons_zero, List.set_cons_succ]
      refine wpAnyH_take (i := 1) (v := ?vb1) rfl (by kernel_rfl) (by kernel_rfl) (by kernel_rfl) (fun _ _ _ h => h) (Or.inl ⟨by first | kernel_rfl | rfl, ?yb1⟩) hHeld ?rb1
      case yb1 => (intro W hSW; (try dsimp only at hSW); go_simp; (try with_reducible rfl))
      change wpAnyH _ _ _ _ _ _ _ (Act.put _ (some 34) _) _
      simp only [Act.put, List.setIfInBounds_toArray, List.set_cons_zero, List.set_cons_succ]
      refine wpAnyH_take (i := 3) (v := ?vb3) rfl (by kernel_rfl) (by kernel_rfl) (by kernel_rfl) (fun _ _ _ h => h) (Or.inl ⟨by first | kernel_rfl | rfl, ?yb3⟩) hHeld ?rb3
      case yb3 => (intro W hSW; (try dsimp only at hSW); go_simp; (try with_reducible rfl))
      change wpAnyH _ _ _ _ _ _ _ (Act.put _ (some 36) _) _
      simp only [Act.put, List.setIfInBounds_toArray, List.set_cons_zero, List.set_cons_succ]
      refine wpAnyH_ready (rs := [2]) (by kernel_rfl) (by simp) ?_
      refine AllReadyH.cons rfl (fun K hK => ?_) AllReadyH.nil
      go_simp
      refine (HES.out _).mono ?_
      rintro e Vb2 ⟨rfl, hVb2⟩; have kb2 : CutS w Vb2 s q (none) 0 0 ([]) := kb1.later hVb2
      refine hK.out _ _ (⟨keepc hVb2 hHeld.1, keepc hVb2 hHeld.2.1, keepc hVb2 hHeld.2.2.1, keepc hVb2 hHeld.2.2.2⟩) (fun hHeld => ?_)
      clear hK K
      try simp only [Act.put, List.setIfInBounds_toArray, List.set_cons_zero, List.set_cons_succ]
      refine wpAnyH_ready (rs := [4]) (by kernel_rfl) (by simp) ?_
      refine AllReadyH.cons rfl (fun K hK => ?_) AllReadyH.nil
      go_simp
      refine (HEQ.out _).mono ?_
      rintro e Vb3 ⟨rfl, hVb3⟩; have kb3 : CutS w Vb3 s q (none) 0 0 ([]) := kb2.later hVb3
      refine hK.out _ _ (⟨keepc hVb3 hHeld.1, keepc hVb3 hHeld.2.1, keepc hVb3 hHeld.2.2.1, keepc hVb3 hHeld.2.2.2⟩) (fun hHeld => ?_)
      clear hK K
      try simp only [Act.put, List.setIfInBounds_toArray, List.set_cons_zero, List.set_cons_succ]
      refine wpAnyH_ready (rs := [5]) (by kernel_rfl) (by simp) ?_
      refine AllReadyH.cons rfl (fun K hK => ?_) AllReadyH.nil
      go_simp
      refine (HBT.out _).mono ?_
      rintro e Vb4 ⟨rfl, hVb4⟩; have kb4 : CutS w Vb4 s q (none) 0 0 ([]) := kb3.later hVb4
      refine hK.out _ _ (⟨keepc hVb4 hHeld.1, keepc hVb4 hHeld.2.1, keepc hVb4 hHeld.2.2.1, keepc hVb4 hHeld.2.2.2⟩) (fun hHeld => ?_)
      clear hK K
      try simp only [Act.put, List.setIfInBounds_toArray, List.set_cons_zero, List.set_cons_succ]
      obtain ⟨C, hC⟩ : ∃ C, Vb4.heap.size = C := ⟨_, rfl⟩
      obtain ⟨W6, hW6⟩ : ∃ W6, Vb4.alloc (.cells #[.int .i64 (s.1 + s.2), .int .i64 (q.1 + q.2 - (s.1 + s.2))] 37) = W6 := ⟨_, rfl⟩
      have hb6 : Below Vb4.heap.size Vb4 W6 := by rw [← hW6]; exact (Below.refl _ _).alloc (Nat.le_refl _) _
      have h6 : W6.heap[C]? = some (.cells #[.int .i64 (s.1 + s.2), .int .i64 (q.1 + q.2 - (s.1 + s.2))] 37 (0, 0)) := by rw [← hW6, ← hC]; exact heap_alloc_new _ _
      have HO6 : Hid (CutS w W6 s q (none) 0 0 ([])) := kb4.later hb6
      have HN6 : Hid (∀ j u, [Value.int .i64 (s.1 + s.2), .int .i64 (q.1 + q.2 - (s.1 + s.2))][j]? = some u → W6.cell? ((⟨C, 0, none⟩ : Addr).add j) = some u) := World.news_of_block h6
      refine wpAnyH_ready (rs := [6]) (by kernel_rfl) (by simp) ?_
      refine AllReadyH.cons rfl (fun K hK => ?_) AllReadyH.nil
      go_simp
      refine hK.out _ _ (⟨keepc hb6 hHeld.1, keepc hb6 hHeld.2.1, keepc hb6 hHeld.2.2.1, keepc hb6 hHeld.2.2.2⟩) (fun hHeld => ?_)
      clear hK K
      try simp only [Act.put, List.setIfInBounds_toArray, List.set_cons_zero, List.set_cons_succ]
      refine wpAnyH_ready (rs := [7]) (by kernel_rfl) (by simp) ?_
      refine AllReadyH.cons rfl (fun K hK => ?_) AllReadyH.nil
      rw [if_pos (by rfl)]
      refine wp_append_lies W6 _ _ 33 rfl 0 37 i0 (.agg #[.int .i64 0, .int .i64 0]) 2 16 Try.underlying33 hi0 hz0 hzs hzb rfl (by decide) _ 0 (spsV ([])) rfl HO6.out.row ⟨C, 0, none⟩ 1 1 [.int .i64 (s.1 + s.2), .int .i64 (q.1 + q.2 - (s.1 + s.2))] rfl rfl HN6.out (by simp [Value.oneCell']) (by omega) (by unfold maxLen; omega) (by omega) (Nat.zero_le _) _ rfl ?_
      intro g cp w7 hown hgrow hat hlt; have HK7 : Hid (CutS w w7 s q (some ⟨g, 0, none⟩) (0 + 1) cp ([] ++ [(s.1 + s.2, q.1 + q.2 - (s.1 + s.2))])) := HO6.out.app hown hgrow hat; clear hown hgrow hat hlt; have HC7 := HK7.out.cells; rw [hB] at HC7
      refine hK.out _ _ (⟨HC7.1, HC7.2.1, HC7.2.2.1, HC7.2.2.2⟩) (fun hHeld => ?_)
      clear hK K
      change wpAnyH _ _ _ _ _ _ _ (Act.put _ (some 40) _) _
      simp only [Act.put, List.setIfInBounds_toArray, List.set_cons_zero, List.set_cons_succ]
      refine wpAnyH_take (i := 8) (v := ?vb8) rfl (by kernel_rfl) (by kernel_rfl) (by kernel_rfl) (fun _ _ _ h => h) (Or.inl ⟨by first | kernel_rfl | rfl, ?yb8⟩) hHeld ?rb8
      case yb8 => (intro W hSW; (try dsimp only at hSW); go_simp; (try with_reducible rfl))
      change wpAnyH _ _ _ _ _ _ _ (Act.put _ (some 7) _) _
      simp only [Act.put, List.setIfInBounds_toArray, List.set_cons_zero, List.set_cons_succ]
      refine wpAnyH_done (by kernel_rfl) ?_ _
      have bH : Hid (CutS w w7 s q (some ⟨g, 0, none⟩) (0 + 1) cp ([] ++ [(s.1 + s.2, q.1 + q.2 - (s.1 + s.2))])) := HK7
      clear hHeld a1 a2 a3 a4 hVb2 hVb3 hVb4 kb1 kb2 kb3 kb4 hC hW6 hb6 h6 HO6 HN6 HK7 HC7
      have HL : Hid (leftL q s = [] ++ [(s.1 + s.2, q.1 + q.2 - (s.1 + s.2))]) := by rw [leftL_eq, if_neg (show ¬ q.1 < s.1 by omega), if_pos (show en s < en q from x2)]; rfl
      have HRP := replace_any (w := w7) (b := b) (i := k) (j := k + 1) (own_keep HA.out.h (fun x hx => bH.out.bel.block x (by rw [ob_slice] at hx; exact HA.out.bd _ (HA.out.Sh x hx)))) (show InV w7 b (some ⟨g, 0, none⟩) (0 + 1) cp ([] ++ [(s.1 + s.2, q.1 + q.2 - (s.1 + s.2))]) from InV.of_own bH.out.row (by omega) (fun x hx => by have := bH.out.fr x hx; omega)) (by omega) (by rw [HN.out]; omega) (by rw [HN.out]; omega) (by omega) (by omega)
      rw [HN.out] at HRP
      have c9 : w7.cell? ⟨ab, 1, none⟩ = some (.slice (some ⟨b, 0, none⟩) N hc) := (bH.out.bel.cell (p := ⟨ab, 1, none⟩) HB.out).trans c1
      go_wp2_with fail
      refine HRP.mono ?_
      rintro e V8 ⟨a', c', rfl, hrow, hat, hu⟩
      have hal8 := hu.block ab (Nat.lt_of_lt_of_le HB.out bH.out.bel.size) (fun e => HNE.out e)
      have hal9 : V8.heap[ab]? = some (.cells (arC X (some ⟨b, 0, none⟩) hc) 66 (0, 0)) := hal8.trans ((bH.out.bel.block ab HB.out).trans HA.out.c)
      have f8 := frozen_of_row V8 ab 1 _ _ hal9
      have c8 : V8.cell? ⟨ab, 1, none⟩ = some (.slice (some ⟨b, 0, none⟩) X.hs.length hc) := by rw [cell_of_row V8 ab _ _ _ _ hal9]; rfl
      have HCH : Hid (∀ V2, V2 = V8.setCell ⟨ab, 1, none⟩ (.slice a' (X.hs.take k ++ ([] ++ [(s.1 + s.2, q.1 + q.2 - (s.1 + s.2))] ++ X.hs.drop (k + 1))).length c') → AIs V2 (more S w V2) ab ⟨X.sz, cutL X.hs k s, X.nx⟩ ∧ Upd S w V2) := by
        have e1 : cutL X.hs k s = X.hs.take k ++ ([] ++ [(s.1 + s.2, q.1 + q.2 - (s.1 + s.2))] ++ X.hs.drop (k + 1)) := by simp only [cutL, HQ.out.1, HL.out, List.append_assoc]
        rw [e1]
        exact fun V2 e2 => HA.out.change bH.out.bel (by rw [← e1]; exact HQ.out.2) hrow hat hu e2
      obtain ⟨ln, hln⟩ : ∃ ln, (X.hs.take k ++ ([] ++ [(s.1 + s.2, q.1 + q.2 - (s.1 + s.2))] ++ X.hs.drop (k + 1))).length = ln := ⟨_, rfl⟩
      rw [hln] at HCH
      try rw [hln]
      clear HRP hrow hat hu hal8 hal9 c9 hln
      go_wp2
      have HF := HCH.out _ rfl
      refine bodyPost_end (v := .tuple #[]) ?_ rfl ⟨rfl, HF.1, HF.2⟩
      simp [results, go_sem]
    · skip
      obtain ⟨k01, k02, k03, k04⟩ := (k0H.out.later ((Below.refl _ W1).drew)).cells
      rw [hB] at k01 k02 k03 k04
      refine wp_region_held_drew (S := fun V => Hid (CutS w V s q (none) 0 0 ([])) ∧ V.cell? ⟨B, 0, none⟩ = some (.int .i64 s.1) ∧ V.cell? ⟨B, 1, none⟩ = some (.int .i64 s.2) ∧ V.cell? ⟨B + 1, 0, none⟩ = some (.int .i64 q.1) ∧ V.cell? ⟨B + 1, 1, none⟩ = some (.int .i64 q.2)) (by kernel_rfl) (⟨k0H.out.later ((Below.refl _ W1).drew), k01, k02, k03, k04⟩) (fun hHeld => ?_)
      refine wpAnyH_take (i := 0) (v := ?vc0) rfl (by kernel_rfl) (by kernel_rfl) (by kernel_rfl) (fun _ _ _ h => h) (Or.inl ⟨by first | kernel_rfl | rfl, ?yc0⟩) hHeld ?rc0
      case yc0 => (intro W hSW; (try dsimp only at hSW); go_simp; (try with_reducible rfl))
      change wpAnyH _ _ _ _ _ _ _ (Act.put _ (some 28) _) _
      simp only [Act.put, List.setIfInBounds_toArray, List.set_cons_zero, List.set_cons_succ]
      refine wpAnyH_take (i := 2) (v := ?vc2) rfl (by kernel_rfl) (by kernel_rfl) (by kernel_rfl) (fun _ _ _ h => h) (Or.inl ⟨by first | kernel_rfl | rfl, ?yc2⟩) hHeld ?rc2
      case yc2 => (intro W hSW; (try dsimp only at hSW); go_simp; (try with_reducible rfl))
      change wpAnyH _ _ _ _ _ _ _ (Act.put _ (some 30) _) _
      simp only [Act.put, List.setIfInBounds_toArray, List.set_cons_zero, List.set_cons_succ]
      refine wpAnyH_ready (rs := [1]) (by kernel_rfl) (by simp) ?_
      refine AllReadyH.cons rfl (fun K hK => ?_) AllReadyH.nil
      go_simp
      refine (HES.out _).mono ?_
      rintro e Vc2 ⟨rfl, hVc2⟩
      refine hK.out _ _ (⟨hHeld.1.out.later hVc2, keepc hVc2 hHeld.2.1, keepc hVc2 hHeld.2.2.1, keepc hVc2 hHeld.2.2.2.1, keepc hVc2 hHeld.2.2.2.2⟩) (fun hHeld => ?_)
      clear hK K
      try simp only [Act.put, List.setIfInBounds_toArray, List.set_cons_zero, List.set_cons_succ]
      refine wpAnyH_ready (rs := [3]) (by kernel_rfl) (by simp) ?_
      refine AllReadyH.cons rfl (fun K hK => ?_) AllReadyH.nil
      go_simp
      refine (HEQ.out _).mono ?_
      rintro e Vc3 ⟨rfl, hVc3⟩
      refine hK.out _ _ (⟨hHeld.1.out.later hVc3, keepc hVc3 hHeld.2.1, keepc hVc3 hHeld.2.2.1, keepc hVc3 hHeld.2.2.2.1, keepc hVc3 hHeld.2.2.2.2⟩) (fun hHeld => ?_)
      clear hK K
      try simp only [Act.put, List.setIfInBounds_toArray, List.set_cons_zero, List.set_cons_succ]
      refine wpAnyH_take (i := 4) (v := .bool false) rfl (by kernel_rfl) (by kernel_rfl) (by kernel_rfl) (fun _ _ _ h => h) (Or.inl ⟨by first | kernel_rfl | rfl, ?yc4⟩) hHeld ?rc4
      case yc4 => (intro W hSW; (try dsimp only at hSW); go_simp; (try with_reducible rfl))
      change wpAnyH _ _ _ _ _ _ _ (Act.put _ (some 32) _) _
      simp only [Act.put, List.setIfInBounds_toArray, List.set_cons_zero, List.set_cons_succ]
      refine wpAnyH_done (by kernel_rfl) ?_ _
      have cH : Hid (CutS w Vc3 s q (none) 0 0 ([])) := hHeld.1
      clear hHeld k01 k02 k03 k04 hVc2 hVc3
      have HL : Hid (leftL q s = []) := by rw [leftL_eq, if_neg (show ¬ q.1 < s.1 by omega), if_neg (show ¬ en s < en q from x2)]; rfl
      have HRP := replace_any (w := Vc3) (b := b) (i := k) (j := k + 1) (own_keep HA.out.h (fun x hx => cH.out.bel.block x (by rw [ob_slice] at hx; exact HA.out.bd _ (HA.out.Sh x hx)))) (show InV Vc3 b (none) 0 0 ([]) from InV.none_ _ _) (by omega) (by rw [HN.out]; omega) (by rw [HN.out]; omega) (by omega) (by omega)
      rw [HN.out] at HRP
      have c9 : Vc3.cell? ⟨ab, 1, none⟩ = some (.slice (some ⟨b, 0, none⟩) N hc) := (cH.out.bel.cell (p := ⟨ab, 1, none⟩) HB.out).trans c1
      go_wp2_with fail
      refine HRP.mono ?_
      rintro e V8 ⟨a', c', rfl, hrow, hat, hu⟩
      have hal8 := hu.block ab (Nat.lt_of_lt_of_le HB.out cH.out.bel.size) (fun e => HNE.out e)
      have hal9 : V8.heap[ab]? = some (.cells (arC X (some ⟨b, 0, none⟩) hc) 66 (0, 0)) := hal8.trans ((cH.out.bel.block ab HB.out).trans HA.out.c)
      have f8 := frozen_of_row V8 ab 1 _ _ hal9
      have c8 : V8.cell? ⟨ab, 1, none⟩ = some (.slice (some ⟨b, 0, none⟩) X.hs.length hc) := by rw [cell_of_row V8 ab _ _ _ _ hal9]; rfl
      have HCH : Hid (∀ V2, V2 = V8.setCell ⟨ab, 1, none⟩ (.slice a' (X.hs.take k ++ ([] ++ X.hs.drop (k + 1))).length c') → AIs V2 (more S w V2) ab ⟨X.sz, cutL X.hs k s, X.nx⟩ ∧ Upd S w V2) := by
        have e1 : cutL X.hs k s = X.hs.take k ++ ([] ++ X.hs.drop (k + 1)) := by simp only [cutL, HQ.out.1, HL.out, List.append_assoc]
        rw [e1]
        exact fun V2 e2 => HA.out.change cH.out.bel (by rw [← e1]; exact HQ.out.2) hrow hat hu e2
      obtain ⟨ln, hln⟩ : ∃ ln, (X.hs.take k ++ ([] ++ X.hs.drop (k + 1))).length = ln := ⟨_, rfl⟩
      rw [hln] at HCH
      try rw [hln]
      clear HRP hrow hat hu hal8 hal9 c9 hln
      go_wp2
      have HF := HCH.out _ rfl
      refine bodyPost_end (v := .tuple #[]) ?_ rfl ⟨rfl, HF.1, HF.2⟩
      simp [results, go_sem]
  · have HLB : Hid (q.1 < s.1) := x1
    go_enter Try.func36, Try.ntmps36
    go_wp2_with fail
    refine (HBA.out _).mono ?_
    rintro e V1 ⟨rfl, hV1⟩
    clear k01 k02
    obtain ⟨C5, hC5⟩ : ∃ C, V1.heap.size = C := ⟨_, rfl⟩
    obtain ⟨W5, hW5⟩ : ∃ W5, V1.alloc (.cells #[.int .i64 q.1, .int .i64 (s.1 - q.1)] 37) = W5 := ⟨_, rfl⟩
    have hb5 : Below V1.heap.size V1 W5 := by rw [← hW5]; exact (Below.refl _ _).alloc (Nat.le_refl _) _
    have h5 : W5.heap[C5]? = some (.cells #[.int .i64 q.1, .int .i64 (s.1 - q.1)] 37 (0, 0)) := by rw [← hW5, ← hC5]; exact heap_alloc_new _ _
    have HO5 : Hid (CutS w W5 s q none 0 0 []) := (k0H.out.later hV1).later hb5
    have HN5 : Hid (∀ j u, [Value.int .i64 q.1, .int .i64 (s.1 - q.1)][j]? = some u → W5.cell? ((⟨C5, 0, none⟩ : Addr).add j) = some u) := World.news_of_block h5
    clear hV1 h5 hb5 g1 g2 g3 hs0 hW0 hW1
    go_wp2_with (at_builtin; refine wpList_append_lies _ rfl _ _ 33 rfl 0 37 i0 (.agg #[.int .i64 0, .int .i64 0]) 2 16 Try.underlying33 hi0 hz0 hzs hzb rfl (by decide) _ 0 (spsV []) rfl HO5.out.row ⟨C5, 0, none⟩ 1 1 [.int .i64 q.1, .int .i64 (s.1 - q.1)] rfl rfl HN5.out (by simp [Value.oneCell']) (by omega) (by unfold maxLen; omega) (by omega) (Nat.zero_le _) _ rfl ?_)
    intro g5 cp5 w5 hown hgrow hat hlt
    have k5H : Hid (CutS w w5 s q (some ⟨g5, 0, none⟩) (0 + 1) cp5 ([] ++ [(q.1, s.1 - q.1)])) := HO5.out.app hown hgrow hat
    have hd5 := k5H.out.cells
    rw [hB] at hd5
    obtain ⟨d51, d52, d53, d54⟩ := hd5
    clear hown hgrow hat hlt HO5 HN5 hC5 hW5
    go_wp2
    clear d51 d52 d53 d54
    by_cases x2 : s.1 + s.2 < q.1 + q.2
    · skip
      obtain ⟨k51, k52, k53, k54⟩ := (k5H.out.later ((Below.refl _ w5).drew)).cells
      rw [hB] at k51 k52 k53 k54
      refine wp_region_held_drew (S := fun V => Hid (CutS w V s q (some ⟨g5, 0, none⟩) (0 + 1) cp5 ([] ++ [(q.1, s.1 - q.1)])) ∧ V.cell? ⟨B, 0, none⟩ = some (.int .i64 s.1) ∧ V.cell? ⟨B, 1, none⟩ = some (.int .i64 s.2) ∧ V.cell? ⟨B + 1, 0, none⟩ = some (.int .i64 q.1) ∧ V.cell? ⟨B + 1, 1, none⟩ = some (.int .i64 q.2)) (by kernel_rfl) (⟨k5H.out.later ((Below.refl _ w5).drew), k51, k52, k53, k54⟩) (fun hHeld => ?_)
      refine wpAnyH_take (i := 0) (v := ?vd0) rfl (by kernel_rfl) (by kernel_rfl) (by kernel_rfl) (fun _ _ _ h => h) (Or.inl ⟨by first | kernel_rfl | rfl, ?yd0⟩) hHeld ?rd0
      case yd0 => (intro W hSW; (try dsimp only at hSW); go_simp; (try with_reducible rfl))
      change wpAnyH _ _ _ _ _ _ _ (Act.put _ (some 28) _) _
      simp only [Act.put, List.setIfInBounds_toArray, List.set_cons_zero, List.set_cons_succ]
      refine wpAnyH_take (i := 2) (v := ?vd2) rfl (by kernel_rfl) (by kernel_rfl) (by kernel_rfl) (fun _ _ _ h => h) (Or.inl ⟨by first | kernel_rfl | rfl, ?yd2⟩) hHeld ?rd2
      case yd2 => (intro W hSW; (try dsimp only at hSW); go_simp; (try with_reducible rfl))
      change wpAnyH _ _ _ _ _ _ _ (Act.put _ (some 30) _) _
      simp only [Act.put, List.setIfInBounds_toArray, List.set_cons_zero, List.set_cons_succ]
      refine wpAnyH_ready (rs := [1]) (by kernel_rfl) (by simp) ?_
      refine AllReadyH.cons rfl (fun K hK => ?_) AllReadyH.nil
      go_simp
      refine (HES.out _).mono ?_
      rintro e Vd2 ⟨rfl, hVd2⟩
      refine hK.out _ _ (⟨hHeld.1.out.later hVd2, keepc hVd2 hHeld.2.1, keepc hVd2 hHeld.2.2.1, keepc hVd2 hHeld.2.2.2.1, keepc hVd2 hHeld.2.2.2.2⟩) (fun hHeld => ?_)
      clear hK K
      try simp only [Act.put, List.setIfInBounds_toArray, List.set_cons_zero, List.set_cons_succ]
      refine wpAnyH_ready (rs := [3]) (by kernel_rfl) (by simp) ?_
      refine AllReadyH.cons rfl (fun K hK => ?_) AllReadyH.nil
      go_simp
      refine (HEQ.out _).mono ?_
      rintro e Vd3 ⟨rfl, hVd3⟩
      refine hK.out _ _ (⟨hHeld.1.out.later hVd3, keepc hVd3 hHeld.2.1, keepc hVd3 hHeld.2.2.1, keepc hVd3 hHeld.2.2.2.1, keepc hVd3 hHeld.2.2.2.2⟩) (fun hHeld => ?_)
      clear hK K
      try simp only [Act.put, List.setIfInBounds_toArray, List.set_cons_zero, List.set_cons_succ]
      refine wpAnyH_take (i := 4) (v := .bool true) rfl (by kernel_rfl) (by kernel_rfl) (by kernel_rfl) (fun _ _ _ h => h) (Or.inl ⟨by first | kernel_rfl | rfl, ?yd4⟩) hHeld ?rd4
      case yd4 => (intro W hSW; (try dsimp only at hSW); go_simp; (try with_reducible rfl))
      change wpAnyH _ _ _ _ _ _ _ (Act.put _ (some 32) _) _
      simp only [Act.put, List.setIfInBounds_toArray, List.set_cons_zero, List.set_cons_succ]
      refine wpAnyH_done (by kernel_rfl) ?_ _
      have dH : Hid (CutS w Vd3 s q (some ⟨g5, 0, none⟩) (0 + 1) cp5 ([] ++ [(q.1, s.1 - q.1)])) := hHeld.1
      clear hHeld k51 k52 k53 k54 hVd2 hVd3
      go_wp2
      obtain ⟨d1, d2, d3, d4⟩ := (dH.out.later ((Below.refl _ Vd3).drew)).cells
      rw [hB] at d1 d2 d3 d4
      have kf1 : CutS w Vd3.drew s q (some ⟨g5, 0, none⟩) (0 + 1) cp5 ([] ++ [(q.1, s.1 - q.1)]) := dH.out.later ((Below.refl _ Vd3).drew)
      refine wp_region_held_drew (S := fun V => V.cell? ⟨B, 0, none⟩ = some (.int .i64 s.1) ∧ V.cell? ⟨B, 1, none⟩ = some (.int .i64 s.2) ∧ V.cell? ⟨B + 1, 0, none⟩ = some (.int .i64 q.1) ∧ V.cell? ⟨B + 1, 1, none⟩ = some (.int .i64 q.2)) (by kernel_rfl) (⟨d1, d2, d3, d4⟩) (fun hHeld => ?_)
      refine wpAnyH_take (i := 0) (v := ?vf0) rfl (by kernel_rfl) (by kernel_rfl) (by kernel_rfl) (fun _ _ _ h => h) (Or.inl ⟨by first | kernel_rfl | rfl, ?yf0⟩) hHeld ?rf0
      case yf0 => (intro W hSW; (try dsimp only at hSW); go_simp; (try with_reducible rfl))
      change wpAnyH _ _ _ _ _ _ _ (Act.put _ (some 33) _) _
      simp only [Act.put, List.setIfInBounds_toArray, List.set_cons_zero, List.set_cons_succ]
      refine wpAnyH_take (i := 1) (v := ?vf1) rfl (by kernel_rfl) (by kernel_rfl) (by kernel_rfl) (fun _ _ _ h => h) (Or.inl ⟨by first | kernel_rfl | rfl, ?yf1⟩) hHeld ?rf1
      case yf1 => (intro W hSW; (try dsimp only at hSW); go_simp; (try with_reducible rfl))
      change wpAnyH _ _ _ _ _ _ _ (Act.put _ (some 34) _) _
      simp only [Act.put, List.setIfInBounds_toArray, List.set_cons_zero, List.set_cons_succ]
      refine wpAnyH_take (i := 3) (v := ?vf3) rfl (by kernel_rfl) (by kernel_rfl) (by kernel_rfl) (fun _ _ _ h => h) (Or.inl ⟨by first | kernel_rfl | rfl, ?yf3⟩) hHeld ?rf3
      case yf3 => (intro W hSW; (try dsimp only at hSW); go_simp; (try with_reducible rfl))
      change wpAnyH _ _ _ _ _ _ _ (Act.put _ (some 36) _) _
      simp only [Act.put, List.setIfInBounds_toArray, List.set_cons_zero, List.set_cons_succ]
      refine wpAnyH_ready (rs := [2]) (by kernel_rfl) (by simp) ?_
      refine AllReadyH.cons rfl (fun K hK => ?_) AllReadyH.nil
      go_simp
      refine (HES.out _).mono ?_
      rintro e Vf2 ⟨rfl, hVf2⟩; have kf2 : CutS w Vf2 s q (some ⟨g5, 0, none⟩) (0 + 1) cp5 ([] ++ [(q.1, s.1 - q.1)]) := kf1.later hVf2
      refine hK.out _ _ (⟨keepc hVf2 hHeld.1, keepc hVf2 hHeld.2.1, keepc hVf2 hHeld.2.2.1, keepc hVf2 hHeld.2.2.2⟩) (fun hHeld => ?_)
      clear hK K
      try simp only [Act.put, List.setIfInBounds_toArray, List.set_cons_zero, List.set_cons_succ]
      refine wpAnyH_ready (rs := [4]) (by kernel_rfl) (by simp) ?_
      refine AllReadyH.cons rfl (fun K hK => ?_) AllReadyH.nil
      go_simp
      refine (HEQ.out _).mono ?_
      rintro e Vf3 ⟨rfl, hVf3⟩; have kf3 : CutS w Vf3 s q (some ⟨g5, 0, none⟩) (0 + 1) cp5 ([] ++ [(q.1, s.1 - q.1)]) := kf2.later hVf3
      refine hK.out _ _ (⟨keepc hVf3 hHeld.1, keepc hVf3 hHeld.2.1, keepc hVf3 hHeld.2.2.1, keepc hVf3 hHeld.2.2.2⟩) (fun hHeld => ?_)
      clear hK K
      try simp only [Act.put, List.setIfInBounds_toArray, List.set_cons_zero, List.set_cons_succ]
      refine wpAnyH_ready (rs := [5]) (by kernel_rfl) (by simp) ?_
      refine AllReadyH.cons rfl (fun K hK => ?_) AllReadyH.nil
      go_simp
      refine (HBT.out _).mono ?_
      rintro e Vf4 ⟨rfl, hVf4⟩; have kf4 : CutS w Vf4 s q (some ⟨g5, 0, none⟩) (0 + 1) cp5 ([] ++ [(q.1, s.1 - q.1)]) := kf3.later hVf4
      refine hK.out _ _ (⟨keepc hVf4 hHeld.1, keepc hVf4 hHeld.2.1, keepc hVf4 hHeld.2.2.1, keepc hVf4 hHeld.2.2.2⟩) (fun hHeld => ?_)
      clear hK K
      try simp only [Act.put, List.setIfInBounds_toArray, List.set_cons_zero, List.set_cons_succ]
      obtain ⟨C, hC⟩ : ∃ C, Vf4.heap.size = C := ⟨_, rfl⟩
      obtain ⟨W6, hW6⟩ : ∃ W6, Vf4.alloc (.cells #[.int .i64 (s.1 + s.2), .int .i64 (q.1 + q.2 - (s.1 + s.2))] 37) = W6 := ⟨_, rfl⟩
      have hb6 : Below Vf4.heap.size Vf4 W6 := by rw [← hW6]; exact (Below.refl _ _).alloc (Nat.le_refl _) _
      have h6 : W6.heap[C]? = some (.cells #[.int .i64 (s.1 + s.2), .int .i64 (q.1 + q.2 - (s.1 + s.2))] 37 (0, 0)) := by rw [← hW6, ← hC]; exact heap_alloc_new _ _
      have HO6 : Hid (CutS w W6 s q (some ⟨g5, 0, none⟩) (0 + 1) cp5 ([] ++ [(q.1, s.1 - q.1)])) := kf4.later hb6
      have HN6 : Hid (∀ j u, [Value.int .i64 (s.1 + s.2), .int .i64 (q.1 + q.2 - (s.1 + s.2))][j]? = some u → W6.cell? ((⟨C, 0, none⟩ : Addr).add j) = some u) := World.news_of_block h6
      refine wpAnyH_ready (rs := [6]) (by kernel_rfl) (by simp) ?_
      refine AllReadyH.cons rfl (fun K hK => ?_) AllReadyH.nil
      go_simp
      refine hK.out _ _ (⟨keepc hb6 hHeld.1, keepc hb6 hHeld.2.1, keepc hb6 hHeld.2.2.1, keepc hb6 hHeld.2.2.2⟩) (fun hHeld => ?_)
      clear hK K
      try simp only [Act.put, List.setIfInBounds_toArray, List.set_cons_zero, List.set_cons_succ]
      refine wpAnyH_ready (rs := [7]) (by kernel_rfl) (by simp) ?_
      refine AllReadyH.cons rfl (fun K hK => ?_) AllReadyH.nil
      rw [if_pos (by rfl)]
      refine wp_append_lies W6 _ _ 33 rfl 0 37 i0 (.agg #[.int .i64 0, .int .i64 0]) 2 16 Try.underlying33 hi0 hz0 hzs hzb rfl (by decide) _ (0 + 1) (spsV ([] ++ [(q.1, s.1 - q.1)])) rfl HO6.out.row ⟨C, 0, none⟩ 1 1 [.int .i64 (s.1 + s.2), .int .i64 (q.1 + q.2 - (s.1 + s.2))] rfl rfl HN6.out (by simp [Value.oneCell']) (by omega) (by unfold maxLen; omega) (by omega) (Nat.zero_le _) _ rfl ?_
      intro g cp w7 hown hgrow hat hlt; have HK7 : Hid (CutS w w7 s q (some ⟨g, 0, none⟩) ((0 + 1) + 1) cp ([] ++ [(q.1, s.1 - q.1)] ++ [(s.1 + s.2, q.1 + q.2 - (s.1 + s.2))])) := HO6.out.app hown hgrow hat; clear hown hgrow hat hlt; have HC7 := HK7.out.cells; rw [hB] at HC7
      refine hK.out _ _ (⟨HC7.1, HC7.2.1, HC7.2.2.1, HC7.2.2.2⟩) (fun hHeld => ?_)
      clear hK K
      change wpAnyH _ _ _ _ _ _ _ (Act.put _ (some 40) _) _
      simp only [Act.put, List.setIfInBounds_toArray, List.set_cons_zero, List.set_cons_succ]
      refine wpAnyH_take (i := 8) (v := ?vf8) rfl (by kernel_rfl) (by kernel_rfl) (by kernel_rfl) (fun _ _ _ h => h) (Or.inl ⟨by first | kernel_rfl | rfl, ?yf8⟩) hHeld ?rf8
      case yf8 => (intro W hSW; (try dsimp only at hSW); go_simp; (try with_reducible rfl))
      change wpAnyH _ _ _ _ _ _ _ (Act.put _ (some 7) _) _
      simp only [Act.put, List.setIfInBounds_toArray, List.set_cons_zero, List.set_cons_succ]
      refine wpAnyH_done (by kernel_rfl) ?_ _
      have fH : Hid (CutS w w7 s q (some ⟨g, 0, none⟩) ((0 + 1) + 1) cp ([] ++ [(q.1, s.1 - q.1)] ++ [(s.1 + s.2, q.1 + q.2 - (s.1 + s.2))])) := HK7
      clear hHeld d1 d2 d3 d4 hVf2 hVf3 hVf4 kf1 kf2 kf3 kf4 hC hW6 hb6 h6 HO6 HN6 HK7 HC7
      have HL : Hid (leftL q s = [] ++ [(q.1, s.1 - q.1)] ++ [(s.1 + s.2, q.1 + q.2 - (s.1 + s.2))]) := by rw [leftL_eq, if_pos HLB.out, if_pos (show en s < en q from x2)]; rfl
      have HRP := replace_any (w := w7) (b := b) (i := k) (j := k + 1) (own_keep HA.out.h (fun x hx => fH.out.bel.block x (by rw [ob_slice] at hx; exact HA.out.bd _ (HA.out.Sh x hx)))) (show InV w7 b (some ⟨g, 0, none⟩) (0 + 1 + 1) cp ([] ++ [(q.1, s.1 - q.1)] ++ [(s.1 + s.2, q.1 + q.2 - (s.1 + s.2))]) from InV.of_own fH.out.row (by omega) (fun x hx => by have := fH.out.fr x hx; omega)) (by omega) (by rw [HN.out]; omega) (by rw [HN.out]; omega) (by omega) (by omega)
      rw [HN.out] at HRP
      have c9 : w7.cell? ⟨ab, 1, none⟩ = some (.slice (some ⟨b, 0, none⟩) N hc) := (fH.out.bel.cell (p := ⟨ab, 1, none⟩) HB.out).trans c1
      go_wp2_with fail
      refine HRP.mono ?_
      rintro e V8 ⟨a', c', rfl, hrow, hat, hu⟩
      have hal8 := hu.block ab (Nat.lt_of_lt_of_le HB.out fH.out.bel.size) (fun e => HNE.out e)
      have hal9 : V8.heap[ab]? = some (.cells (arC X (some ⟨b, 0, none⟩) hc) 66 (0, 0)) := hal8.trans ((fH.out.bel.block ab HB.out).trans HA.out.c)
      have f8 := frozen_of_row V8 ab 1 _ _ hal9
      have c8 : V8.cell? ⟨ab, 1, none⟩ = some (.slice (some ⟨b, 0, none⟩) X.hs.length hc) := by rw [cell_of_row V8 ab _ _ _ _ hal9]; rfl
      have HCH : Hid (∀ V2, V2 = V8.setCell ⟨ab, 1, none⟩ (.slice a' (X.hs.take k ++ ([] ++ [(q.1, s.1 - q.1)] ++ [(s.1 + s.2, q.1 + q.2 - (s.1 + s.2))] ++ X.hs.drop (k + 1))).length c') → AIs V2 (more S w V2) ab ⟨X.sz, cutL X.hs k s, X.nx⟩ ∧ Upd S w V2) := by
        have e1 : cutL X.hs k s = X.hs.take k ++ ([] ++ [(q.1, s.1 - q.1)] ++ [(s.1 + s.2, q.1 + q.2 - (s.1 + s.2))] ++ X.hs.drop (k + 1)) := by simp only [cutL, HQ.out.1, HL.out, List.append_assoc]
        rw [e1]
        exact fun V2 e2 => HA.out.change fH.out.bel (by rw [← e1]; exact HQ.out.2) hrow hat hu e2
      obtain ⟨ln, hln⟩ : ∃ ln, (X.hs.take k ++ ([] ++ [(q.1, s.1 - q.1)] ++ [(s.1 + s.2, q.1 + q.2 - (s.1 + s.2))] ++ X.hs.drop (k + 1))).length = ln := ⟨_, rfl⟩
      rw [hln] at HCH
      try rw [hln]
      clear HRP hrow hat hu hal8 hal9 c9 hln
      go_wp2
      have HF := HCH.out _ rfl
      refine bodyPost_end (v := .tuple #[]) ?_ rfl ⟨rfl, HF.1, HF.2⟩
      simp [results, go_sem]
    · skip
      obtain ⟨k51, k52, k53, k54⟩ := (k5H.out.later ((Below.refl _ w5).drew)).cells
      rw [hB] at k51 k52 k53 k54
      refine wp_region_held_drew (S := fun V => Hid (CutS w V s q (some ⟨g5, 0, none⟩) (0 + 1) cp5 ([] ++ [(q.1, s.1 - q.1)])) ∧ V.cell? ⟨B, 0, none⟩ = some (.int .i64 s.1) ∧ V.cell? ⟨B, 1, none⟩ = some (.int .i64 s.2) ∧ V.cell? ⟨B + 1, 0, none⟩ = some (.int .i64 q.1) ∧ V.cell? ⟨B + 1, 1, none⟩ = some (.int .i64 q.2)) (by kernel_rfl) (⟨k5H.out.later ((Below.refl _ w5).drew), k51, k52, k53, k54⟩) (fun hHeld => ?_)
      refine wpAnyH_take (i := 0) (v := ?vh0) rfl (by kernel_rfl) (by kernel_rfl) (by kernel_rfl) (fun _ _ _ h => h) (Or.inl ⟨by first | kernel_rfl | rfl, ?yh0⟩) hHeld ?rh0
      case yh0 => (intro W hSW; (try dsimp only at hSW); go_simp; (try with_reducible rfl))
      change wpAnyH _ _ _ _ _ _ _ (Act.put _ (some 28) _) _
      simp only [Act.put, List.setIfInBounds_toArray, List.set_cons_zero, List.set_cons_succ]
      refine wpAnyH_take (i := 2) (v := ?vh2) rfl (by kernel_rfl) (by kernel_rfl) (by kernel_rfl) (fun _ _ _ h => h) (Or.inl ⟨by first | kernel_rfl | rfl, ?yh2⟩) hHeld ?rh2
      case yh2 => (intro W hSW; (try dsimp only at hSW); go_simp; (try with_reducible rfl))
      change wpAnyH _ _ _ _ _ _ _ (Act.put _ (some 30) _) _
      simp only [Act.put, List.setIfInBounds_toArray, List.set_cons_zero, List.set_cons_succ]
      refine wpAnyH_ready (rs := [1]) (by kernel_rfl) (by simp) ?_
      refine AllReadyH.cons rfl (fun K hK => ?_) AllReadyH.nil
      go_simp
      refine (HES.out _).mono ?_
      rintro e Vh2 ⟨rfl, hVh2⟩
      refine hK.out _ _ (⟨hHeld.1.out.later hVh2, keepc hVh2 hHeld.2.1, keepc hVh2 hHeld.2.2.1, keepc hVh2 hHeld.2.2.2.1, keepc hVh2 hHeld.2.2.2.2⟩) (fun hHeld => ?_)
      clear hK K
      try simp only [Act.put, List.setIfInBounds_toArray, List.set_cons_zero, List.set_cons_succ]
      refine wpAnyH_ready (rs := [3]) (by kernel_rfl) (by simp) ?_
      refine AllReadyH.cons rfl (fun K hK => ?_) AllReadyH.nil
      go_simp
      refine (HEQ.out _).mono ?_
      rintro e Vh3 ⟨rfl, hVh3⟩
      refine hK.out _ _ (⟨hHeld.1.out.later hVh3, keepc hVh3 hHeld.2.1, keepc hVh3 hHeld.2.2.1, keepc hVh3 hHeld.2.2.2.1, keepc hVh3 hHeld.2.2.2.2⟩) (fun hHeld => ?_)
      clear hK K
      try simp only [Act.put, List.setIfInBounds_toArray, List.set_cons_zero, List.set_cons_succ]
      refine wpAnyH_take (i := 4) (v := .bool false) rfl (by kernel_rfl) (by kernel_rfl) (by kernel_rfl) (fun _ _ _ h => h) (Or.inl ⟨by first | kernel_rfl | rfl, ?yh4⟩) hHeld ?rh4
      case yh4 => (intro W hSW; (try dsimp only at hSW); go_simp; (try with_reducible rfl))
      change wpAnyH _ _ _ _ _ _ _ (Act.put _ (some 32) _) _
      simp only [Act.put, List.setIfInBounds_toArray, List.set_cons_zero, List.set_cons_succ]
      refine wpAnyH_done (by kernel_rfl) ?_ _
      have hH : Hid (CutS w Vh3 s q (some ⟨g5, 0, none⟩) (0 + 1) cp5 ([] ++ [(q.1, s.1 - q.1)])) := hHeld.1
      clear hHeld k51 k52 k53 k54 hVh2 hVh3
      have HL : Hid (leftL q s = [] ++ [(q.1, s.1 - q.1)]) := by rw [leftL_eq, if_pos HLB.out, if_neg (show ¬ en s < en q from x2)]; rfl
      have HRP := replace_any (w := Vh3) (b := b) (i := k) (j := k + 1) (own_keep HA.out.h (fun x hx => hH.out.bel.block x (by rw [ob_slice] at hx; exact HA.out.bd _ (HA.out.Sh x hx)))) (show InV Vh3 b (some ⟨g5, 0, none⟩) (0 + 1) cp5 ([] ++ [(q.1, s.1 - q.1)]) from InV.of_own hH.out.row (by omega) (fun x hx => by have := hH.out.fr x hx; omega)) (by omega) (by rw [HN.out]; omega) (by rw [HN.out]; omega) (by omega) (by omega)
      rw [HN.out] at HRP
      have c9 : Vh3.cell? ⟨ab, 1, none⟩ = some (.slice (some ⟨b, 0, none⟩) N hc) := (hH.out.bel.cell (p := ⟨ab, 1, none⟩) HB.out).trans c1
      go_wp2_with fail
      refine HRP.mono ?_
      rintro e V8 ⟨a', c', rfl, hrow, hat, hu⟩
      have hal8 := hu.block ab (Nat.lt_of_lt_of_le HB.out hH.out.bel.size) (fun e => HNE.out e)
      have hal9 : V8.heap[ab]? = some (.cells (arC X (some ⟨b, 0, none⟩) hc) 66 (0, 0)) := hal8.trans ((hH.out.bel.block ab HB.out).trans HA.out.c)
      have f8 := frozen_of_row V8 ab 1 _ _ hal9
      have c8 : V8.cell? ⟨ab, 1, none⟩ = some (.slice (some ⟨b, 0, none⟩) X.hs.length hc) := by rw [cell_of_row V8 ab _ _ _ _ hal9]; rfl
      have HCH : Hid (∀ V2, V2 = V8.setCell ⟨ab, 1, none⟩ (.slice a' (X.hs.take k ++ ([] ++ [(q.1, s.1 - q.1)] ++ X.hs.drop (k + 1))).length c') → AIs V2 (more S w V2) ab ⟨X.sz, cutL X.hs k s, X.nx⟩ ∧ Upd S w V2) := by
        have e1 : cutL X.hs k s = X.hs.take k ++ ([] ++ [(q.1, s.1 - q.1)] ++ X.hs.drop (k + 1)) := by simp only [cutL, HQ.out.1, HL.out, List.append_assoc]
        rw [e1]
        exact fun V2 e2 => HA.out.change hH.out.bel (by rw [← e1]; exact HQ.out.2) hrow hat hu e2
      obtain ⟨ln, hln⟩ : ∃ ln, (X.hs.take k ++ ([] ++ [(q.1, s.1 - q.1)] ++ X.hs.drop (k + 1))).length = ln := ⟨_, rfl⟩
      rw [hln] at HCH
      try rw [hln]
      clear HRP hrow hat hu hal8 hal9 c9 hln
      go_wp2
      have HF := HCH.out _ rfl
      refine bodyPost_end (v := .tuple #[]) ?_ rfl ⟨rfl, HF.1, HF.2⟩
      simp [results, go_sem]
end Go.Proofs.Ytgihdfmeokbplaa
