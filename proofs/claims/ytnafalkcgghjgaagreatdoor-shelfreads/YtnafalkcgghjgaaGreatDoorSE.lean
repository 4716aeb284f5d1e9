/- A walk over join. -/
import Derived.Test.YtnafalkcgghjgaaGreatDoorSC
import Derived.Deep.RegionHeld
namespace Go.Proofs.YtnafalkcgghjgaaGreatDoor
open Go.RowKit
/-- A row of leaves, owned, and their entries. -/
structure Lo (G : Nat → Prop) (base : Nat) (w : World) (g : Nat) (cap : Nat) (J : List Mf) : Prop where
  own : w.ownsRow base 85 3 (.slice (some ⟨g, 0, none⟩) J.length cap) J.length (mfV J)
  ent : Ents G w J
theorem Lo.lw {G : Nat → Prop} {base : Nat} {w : World} {g cap : Nat} {J : List Mf} (h : Lo G base w g cap J) (hG : ∀ x, base ≤ x → G x) : Lw G w (some ⟨g, 0, none⟩) J.length cap J := ⟨Rw.own h.own hG, h.ent⟩
theorem Lo.below {G : Nat → Prop} {base : Nat} {w w' : World} {g cap : Nat} {J : List Mf} (h : Lo G base w g cap J) (hb : Below w.heap.size w w') : Lo G base w' g cap J := ⟨own_keep h.own fun x hx => hb.block x (h.own.lt x hx).2, h.ent.below hb⟩
theorem leaf_news {w : World} {c : Nat} {m : Mf} (h : w.heap[c]? = some (.cells #[.int .i64 m.page, .slice m.a m.es.length m.es.length, .int .i64 (szL m.es : Int)] 85 (0, 0))) : Rw (fun _ => True) w 85 3 (some ⟨c, 0, none⟩) 1 1 (mfV [m]) := by
  refine ⟨by rw [mfV_len]; rfl, Nat.le_refl _, by unfold maxLen; omega, fun _ => ⟨c, 0, rfl, ⟨_, _, h⟩, trivial, fun j u hu => ?_⟩⟩
  rw [Nat.zero_add, cell_of_row _ c _ _ _ _ h]
  have e : mfV [m] = [.int .i64 m.page, .slice m.a m.es.length m.es.length, .int .i64 (szL m.es : Int)] := by simp [mfV, mfC]
  rw [e] at hu
  simpa using hu
/-- Rows of leaves grow, and entries stay. -/
theorem grown_ents {G : Nat → Prop} {w w' : World} {base : Nat} {a : Option Addr} {n cap : Nat} {xs : List Value} (ho : w.ownsRow base 85 3 (.slice a n cap) n xs) (hg : w.grownBy w' (ob a)) {J : List Mf} (he : Ents G w J) : Ents G w' J := by
  refine he.other fun b cur fr hb => hg.block b (lt_of_some hb) fun e => ?_
  rcases ho.2 with ⟨h2, _⟩ | ⟨g, c, cur', e2, _, hr, _⟩
  · cases h2; cases e
  · cases e2
    cases e
    rw [hr] at hb
    cases hb
/-- One more leaf. -/
theorem leaf_add {G : Nat → Prop} {base : Nat} {w : World} {a : Option Addr} {cap n : Nat} {J : List Mf} (ho : w.ownsRow base 85 3 (.slice a n cap) n (mfV J)) (he : Ents G w J) (hb : base ≤ w.heap.size) {c : Nat} {m : Mf}
    (hc : w.heap[c]? = some (.cells #[.int .i64 m.page, .slice m.a m.es.length m.es.length, .int .i64 (szL m.es : Int)] 85 (0, 0))) (hm : Pw G w m.a m.es.length m.es.length m.es) (hN : n ≤ 100000) :
    ∃ g' c' w', (∀ ty, (Builtin.append_ #[86, 86] ty #[.slice a n cap, .slice (some ⟨c, 0, none⟩) 1 1]).run Tryz.prog w = .ok (.slice (some ⟨g', 0, none⟩) (n + 1) c') w') ∧ Lo G base w' g' c' (J ++ [m]) ∧ (J ++ [m]).length = n + 1 ∧ w.grownBy w' (ob a) := by
  obtain ⟨a', c', w', hr, ho', hg, hat⟩ := addL_own w ho (leaf_news hc) (by omega) hb
  have hl : (J ++ [m]).length = n + 1 := by
    have := ho'.1
    rw [mfV_len] at this
    omega
  obtain ⟨g', cap', e, _, _⟩ := ho'.form (by omega)
  cases e
  refine ⟨g', c', w', hr, ⟨by rw [hl]; exact ho', (grown_ents ho hg he).app (grown_ents ho hg (J := [m]) (fun x hx => by simp only [List.mem_singleton] at hx; rw [hx]; exact hm))⟩, hl, hg⟩
theorem es_len (l : List Pr) : l.length ≤ szL l := by
  induction l with
  | nil => simp
  | cons p l ih => rw [szL_cons, List.length_cons]; unfold eSz; omega
theorem wrap_small (p : Nat) (h : p ≤ 1000000000) : IntKind.i64.wrap (p : Int) = (p : Int) := by
  rw [IntKind.wrap_i64]; omega
theorem own_putS {W : World} {base g cp n e sz : Nat} {xs : List Value} (h : W.ownsRow base e sz (.slice (some ⟨g, 0, none⟩) n cp) n xs) (t : Nat) (x : Value) : (W.setCell ⟨g, t, none⟩ x).ownsRow base e sz (.slice (some ⟨g, 0, none⟩) n cp) n (xs.set t x) := by
  obtain ⟨h1, h2⟩ := h
  refine ⟨by simpa using h1, ?_⟩
  rcases h2 with ⟨h2, _⟩ | ⟨g', cap', cur, e, hb, hr, h3, h4, h5, h6⟩
  · cases h2
  · cases e
    refine .inr ⟨g, cp, cur.setIfInBounds t x, rfl, hb, heap_setCell_same W g t _ _ _ hr, h3, h4, by simpa using h5, ?_⟩
    rw [Array.toList_setIfInBounds, List.take_set, h6]
theorem last_of {α : Type} (J : List α) (h : 0 < J.length) : ∃ I l, J = I ++ [l] := by
  rcases List.eq_nil_or_concat J with e | ⟨I, l, e⟩
  · rw [e] at h; simp at h
  · exact ⟨I, l, by simpa using e⟩
theorem mfV_last (I : List Mf) (l m : Mf) : ((((mfV (I ++ [l])).set (I.length * 3) (.int .i64 m.page)).set (I.length * 3 + 1) (.slice m.a m.es.length m.es.length)).set (I.length * 3 + 2) (.int .i64 (szL m.es : Int))) = mfV (I ++ [m]) := by
  rw [mfV_app, mfV_app]
  have h := mfV_len I
  have e : ∀ x, mfV [x] = [.int .i64 x.page, .slice x.a x.es.length x.es.length, .int .i64 (szL x.es : Int)] := fun x => by simp [mfV, mfC]
  rw [e, e]
  rw [List.set_append_right _ _ (by omega), List.set_append_right _ _ (by omega), List.set_append_right _ _ (by omega), h]
  simp
set_option maxRecDepth 100000 in
set_option maxHeartbeats 4000000 in
theorem join_any {G : Nat → Prop} {w : World} (hG : ∀ x, w.heap.size ≤ x → G x) (a : Option Addr) (n c : Nat) (L : List Mf) (h : Lw G w a n c L) (h1 : 1 ≤ n) (h2 : n ≤ 500) (hz : ∀ x ∈ lfs L, x.sz ≤ 1023) :
    Calls Tryz.prog 70 #[.slice a n c] w fun e w' => ∃ g cap J, e = .returned (.slice (some ⟨g, 0, none⟩) J.length cap) ∧ Lo G w.heap.size w' g cap J ∧ Jn (lfs L) n (lfs J) ∧ 0 < J.length ∧ J.length ≤ n ∧ Below w.heap.size w w' := by
  have hl := h.len
  have hcap : n ≤ c := h.1.2.1
  obtain ⟨x0, L', hL0⟩ : ∃ x L', L = x :: L' := by
    cases L with
    | nil => simp at hl; omega
    | cons x L' => exact ⟨x, L', rfl⟩
  obtain ⟨b, o, rfl, hb, _, hc⟩ := h.at (by omega)
  obtain ⟨d1, d2, d3⟩ := hc 0 x0 (by rw [hL0]; rfl)
  rw [Nat.zero_mul, Nat.add_zero] at d1 d2 d3
  have hoff : ∀ W, (Instr.sliceAt 86 (.slice (some ⟨b, o, none⟩) n c) (some (.int .i64 1)) none none).run Tryz.prog W = .ok (.slice (cutA (some ⟨b, o, none⟩) c 1 3) (n - 1) (c - 1)) W := off_lfs (some ⟨b, o, none⟩) n c 1 h1
  have HD : Hid (∀ W, Below w.heap.size w W → Lw G W (cutA (some ⟨b, o, none⟩) c 1 3) (n - 1) (c - 1) L') := fun W hW => by
    have := (h.below hW).drop 1 h1
    rw [hL0] at this
    exact this
  have HL : Hid (L = x0 :: L') := hL0
  have HG : Hid (∀ x, w.heap.size ≤ x → G x) := hG
  have HZ : Hid (∀ x ∈ lfs L, x.sz ≤ 1023) := hz
  have hl' : L'.length = n - 1 := by rw [hL0] at hl; simp at hl; omega
  obtain ⟨W1, hW1⟩ : ∃ W1, w.alloc (.cells #[.int .i64 x0.page, .slice x0.a x0.es.length x0.es.length, .int .i64 (szL x0.es : Int)] 85) = W1 := ⟨_, rfl⟩
  have HI : Hid (Lo G w.heap.size W1 w.heap.size 1 [x0] ∧ Jn (lfs L) 1 (lfs [x0]) ∧ Below w.heap.size w W1) := by
    rw [← hW1]
    have hB : Below w.heap.size w (w.alloc (.cells #[.int .i64 x0.page, .slice x0.a x0.es.length x0.es.length, .int .i64 (szL x0.es : Int)] 85)) := (Below.refl _ w).alloc (Nat.le_refl _) _
    refine ⟨⟨⟨by rw [mfV_len], .inr ⟨w.heap.size, 1, _, rfl, Nat.le_refl _, heap_alloc_new w _, Nat.le_refl _, by unfold maxLen; omega, rfl, ?_⟩⟩, ?_⟩, ?_, hB⟩
    · simp [mfV, mfC]
    · exact (h.2.below hB).sub fun m hm => by simp only [List.mem_singleton] at hm; rw [hm, hL0]; simp
    · rw [hL0]
      exact Jn.start (hz x0.lf (by rw [hL0]; simp [lfs]))
  obtain ⟨ra, hra⟩ : ∃ ra, cutA (some ⟨b, o, none⟩) c 1 3 = ra := ⟨_, rfl⟩
  rw [hra] at hoff HD
  obtain ⟨B, hB⟩ : ∃ B, w.heap.size = B := ⟨_, rfl⟩
  rw [hB] at HD HG HI
  obtain ⟨r, hr⟩ : ∃ r, n - 1 = r := ⟨_, rfl⟩
  rw [hr] at hoff HD hl'
  clear h hc hG hz hL0 hra
  go_enter Tryz.func70, Tryz.ntmps70
  go_wp2
  go_loopw [3, 14] (fun vj vi wr => ∃ (i g cap : Nat) (J : List Mf), i ≤ r ∧ vi = .int .i64 i ∧ vj = .slice (some ⟨g, 0, none⟩) J.length cap ∧ Lo G B wr g cap J ∧ Jn (lfs L) (i + 1) (lfs J) ∧ 0 < J.length ∧ J.length ≤ i + 1 ∧ Below B w wr) (fun _ vi _ => r - (intOf vi).toNat)
  case atStart => exact ⟨0, B, 1, [x0], by omega, rfl, by first | rfl | (rw [← hB]; rfl), HI.out.1, HI.out.2.1, by simp, by simp, HI.out.2.2⟩
  case round =>
    clear HI hW1 d1 d2 d3
    obtain ⟨i, g, cap, J, hi, rfl, rfl, hLo, hJn, hJ0, hJi, hbel⟩ := hrel
    by_cases hlt : i < r
    · have kk : (i : Int) < (r : Int) := by omega
      obtain ⟨I, l, hJ⟩ := last_of J hJ0
      obtain ⟨p, hp⟩ : ∃ p, I.length = p := ⟨_, rfl⟩
      have hJp : J.length = p + 1 := by rw [hJ, List.length_append, hp]; rfl
      have hm : L'[i]? = some L'[i] := List.getElem?_eq_getElem (by omega)
      obtain ⟨m, hmm⟩ : ∃ m, L'[i] = m := ⟨_, rfl⟩
      rw [hmm] at hm
      have hD := HD.out wr hbel
      obtain ⟨b', o', hra, hb', _, hc'⟩ := hD.at (by omega)
      obtain ⟨d1, d2, d3⟩ := hc' i m hm
      have hEm := hD.2 m (List.mem_of_getElem? hm)
      have hl3 : (mfV J)[p * 3]? = some (.int .i64 l.page) ∧ (mfV J)[p * 3 + 1]? = some (.slice l.a l.es.length l.es.length) ∧ (mfV J)[p * 3 + 2]? = some (.int .i64 (szL l.es : Int)) := by
        have hJl : J[p]? = some l := by rw [hJ, List.getElem?_append_right (by omega), hp]; simp
        have a0 := fm_at mfC_len hJl 0 (by omega)
        have a1 := fm_at mfC_len hJl 1 (by omega)
        have a2 := fm_at mfC_len hJl 2 (by omega)
        exact ⟨a0, a1, a2⟩
      have hgl : g < wr.heap.size := (hLo.own.lt g rfl).2
      have hElt : Pw G wr l.a l.es.length l.es.length l.es := hLo.ent l (by rw [hJ]; simp)
      have hszm : szL m.es ≤ 1023 := HZ.out m.lf (by rw [HL.out]; exact List.mem_map_of_mem (List.mem_cons_of_mem _ (List.mem_of_getElem? hm)))
      have hszl : szL l.es ≤ 1023 := hJn.sz l.lf (by rw [hJ]; simp [lfs])
      have HEL : Hid (m.es.length ≤ 1023 ∧ l.es.length ≤ 1023) := ⟨Nat.le_trans (es_len _) hszm, Nat.le_trans (es_len _) hszl⟩
      have HLX : Hid ((lfs L)[i + 1]? = some m.lf) := by show _ = _; rw [HL.out]; exact lfs_at (L := x0 :: L') (by simpa using hm)
      obtain ⟨mp, me, ma⟩ := m
      obtain ⟨lp, le, la⟩ := l
      simp only at d1 d2 d3 hEm hl3 hElt hszm hszl
      obtain ⟨mn, hmn⟩ : ∃ k, me.length = k := ⟨_, rfl⟩
      obtain ⟨ln, hln⟩ : ∃ k, le.length = k := ⟨_, rfl⟩
      obtain ⟨ms, hms⟩ : ∃ k, szL me = k := ⟨_, rfl⟩
      obtain ⟨ls, hls⟩ : ∃ k, szL le = k := ⟨_, rfl⟩
      rw [hmn] at d2 hEm
      rw [hln] at hl3 hElt
      rw [hms] at d3 hszm
      rw [hls] at hl3 hszl
      obtain ⟨u, hu⟩ : ∃ u, wr.heap.size = u := ⟨_, rfl⟩
      obtain ⟨V1, hV1⟩ : ∃ V1, wr.alloc (.cells #[.int .i64 mp, .slice ma mn mn, .int .i64 (ms : Int)] 85) = V1 := ⟨_, rfl⟩
      have hB1 : Below wr.heap.size wr V1 := by rw [← hV1]; exact (Below.refl _ wr).alloc (Nat.le_refl _) _
      obtain ⟨u2, hu2⟩ : ∃ u2, V1.heap.size = u2 := ⟨_, rfl⟩
      have hu12 : u2 = u + 1 := by rw [← hu2, ← hV1, ← hu]; simp
      have e0 : V1.cell? ⟨g, p * 3, none⟩ = some (.int .i64 lp) := by rw [hB1.cell (p := ⟨g, _, none⟩) hgl]; exact own_at hLo.own hl3.1
      have e1 : V1.cell? ⟨g, p * 3 + 1, none⟩ = some (.slice la ln ln) := by rw [hB1.cell (p := ⟨g, _, none⟩) hgl]; exact own_at hLo.own hl3.2.1
      have e2 : V1.cell? ⟨g, p * 3 + 2, none⟩ = some (.int .i64 (ls : Int)) := by rw [hB1.cell (p := ⟨g, _, none⟩) hgl]; exact own_at hLo.own hl3.2.2
      obtain ⟨V2, hV2⟩ : ∃ V2, V1.alloc (.cells #[.int .i64 lp, .slice la ln ln, .int .i64 (ls : Int)] 85) = V2 := ⟨_, rfl⟩
      have hB2 : Below V1.heap.size V1 V2 := by rw [← hV2]; exact (Below.refl _ V1).alloc (Nat.le_refl _) _
      have r1 : V1.heap[u]? = some (.cells #[.int .i64 mp, .slice ma mn mn, .int .i64 (ms : Int)] 85 (0, 0)) := by rw [← hV1, ← hu]; exact heap_alloc_new wr _
      have r2 : V2.heap[u2]? = some (.cells #[.int .i64 lp, .slice la ln ln, .int .i64 (ls : Int)] 85 (0, 0)) := by rw [← hV2, ← hu2]; exact heap_alloc_new V1 _
      have r1' : V2.heap[u]? = some (.cells #[.int .i64 mp, .slice ma mn mn, .int .i64 (ms : Int)] 85 (0, 0)) := by rw [hB2.block u (by omega)]; exact r1
      have y0 : V2.cell? ⟨u, 0, none⟩ = some (.int .i64 mp) := by rw [cell_of_row _ u _ _ _ _ r1']; rfl
      have y2 : V2.cell? ⟨u, 1, none⟩ = some (.slice ma mn mn) := by rw [cell_of_row _ u _ _ _ _ r1']; rfl
      have y3 : V2.cell? ⟨u, 2, none⟩ = some (.int .i64 (ms : Int)) := by rw [cell_of_row _ u _ _ _ _ r1']; rfl
      have z1 : V2.cell? ⟨u2, 0, none⟩ = some (.int .i64 lp) := by rw [cell_of_row _ u2 _ _ _ _ r2]; rfl
      have z2 : V2.cell? ⟨u2, 1, none⟩ = some (.slice la ln ln) := by rw [cell_of_row _ u2 _ _ _ _ r2]; rfl
      have z3 : V2.cell? ⟨u2, 2, none⟩ = some (.int .i64 (ls : Int)) := by rw [cell_of_row _ u2 _ _ _ _ r2]; rfl
      have hB02 : Below wr.heap.size wr V2 := hB1.trans (hB2.mono (by omega))
      have HV2 : Hid (Lo G B V2 g cap J ∧ Pw G V2 ma mn mn me ∧ Pw G V2 la ln ln le ∧ Below B w V2 ∧ B ≤ V2.heap.size) := ⟨hLo.below hB02, hEm.below hB02, hElt.below hB02, hbel.trans (hB02.mono (by rw [← hB]; exact hbel.size)), by have := hbel.size; have := hB02.size; omega⟩
      have HJN : Hid (Jn (lfs L) (i + 1) (lfs J)) := hJn
      have hmnb : mn ≤ 1023 ∧ ln ≤ 1023 := by
        have := HEL.out
        simp only [hmn, hln] at this
        exact this
      have hpi : (J.length : Int) - 1 = (p : Int) := by omega
      have hpl : (p : Int) < (J.length : Int) := by omega
      obtain ⟨q, hq⟩ : ∃ q, J.length = q := ⟨_, rfl⟩
      have HQ : Hid (J.length = q) := hq
      have HJ : Hid (J = I ++ [⟨lp, le, la⟩]) := hJ
      have HLN : Hid (me.length = mn ∧ le.length = ln ∧ szL me = ms ∧ szL le = ls ∧ I.length = p) := ⟨hmn, hln, hms, hls, hp⟩
      subst hra
      rw [hq] at hpi hpl hJp hJi ⊢
      have HQP : Hid (q = p + 1 ∧ u2 = u + 1) := ⟨hJp, hu12⟩
      clear hJp hu12
      clear hLo hJn hbel hEm hElt hD hc' hm hmm hB1 hB2 r1 r1' r2 hJ hq hmn hln hms hls hp hl3 hJ0
      by_cases hfit : ls + ms ≤ 1023
      · have kf : ¬ (1023 : Int) < (ls : Int) + (ms : Int) := by omega
        have HS : Hid (∀ V, Below V2.heap.size V2 V → V.cell? ⟨u2, 0, none⟩ = some (.int .i64 lp) ∧ V.cell? ⟨u2, 1, none⟩ = some (.slice la ln ln) ∧ V.cell? ⟨u, 1, none⟩ = some (.slice ma mn mn)) := fun V hV =>
          ⟨by rw [hV.cell (p := ⟨u2, 0, none⟩) (World.block_lt_of_cell? _ _ z1)]; exact z1, by rw [hV.cell (p := ⟨u2, 1, none⟩) (World.block_lt_of_cell? _ _ z2)]; exact z2, by rw [hV.cell (p := ⟨u, 1, none⟩) (World.block_lt_of_cell? _ _ y2)]; exact y2⟩
        have hmnb : mn ≤ 1023 ∧ ln ≤ 1023 := ⟨hmnb.1, hmnb.2⟩
        have hbd : Below V2.heap.size V2 V2.drew := (Below.refl _ _).drew
        obtain ⟨aA, cA, VA, hrA, hbA, hresA⟩ := addP_full V2.drew (HV2.out.2.2.1.below hbd) (HV2.out.2.1.below hbd) (by omega)
        have hbA2 : Below V2.heap.size V2 VA := hbd.trans hbA
        have hPA : Pw G VA aA (ln + mn) cA (le ++ me) := by
          rcases hresA with ⟨e1, e2, e3, e4⟩ | ⟨_, hown⟩
          · have hme : me = [] := List.eq_nil_of_length_eq_zero (by rw [HLN.out.1]; exact e1)
            rw [e2, e3, e4, hme, e1, List.append_nil, Nat.add_zero]
            exact HV2.out.2.2.1.below hbd
          · exact Rw.own hown (fun x hx => HG.out x (by have := HV2.out.2.2.2.2; have : V2.drew.heap.size = V2.heap.size := rfl; omega))
        have hss : szL (le ++ me) = ls + ms := by rw [szL_app, HLN.out.2.2.1, HLN.out.2.2.2.1]
        have HN := newLeaf_h hbA2 lp aA (ln + mn) cA (le ++ me) hPA (by rw [hss]; omega)
        rw [hss] at HN
        have HA : Hid (Below V2.heap.size V2 VA) := hbA2
        have HC5 : Hid (∀ V, Below V2.heap.size V2 V → V.cell? ⟨g, p * 3, none⟩ = some (.int .i64 lp) ∧ V.cell? ⟨g, p * 3 + 1, none⟩ = some (.slice la ln ln) ∧ V.cell? ⟨g, p * 3 + 2, none⟩ = some (.int .i64 (ls : Int)) ∧ V.frozen? ⟨g, p * 3, none⟩ = false ∧ V.frozen? ⟨g, p * 3 + 1, none⟩ = false ∧ V.frozen? ⟨g, p * 3 + 2, none⟩ = false) := fun V hV => by
          have hg1 : g < V1.heap.size := World.block_lt_of_cell? _ _ e0
          have h8 := (HV2.out.1.below hV)
          have f : ∀ t, V.frozen? ⟨g, t, none⟩ = false := fun t => own_fro h8.own t
          have hV1V : Below V1.heap.size V1 V := by
            have h7 : Below V1.heap.size V1 V2 := by rw [← hV2]; exact (Below.refl _ V1).alloc (Nat.le_refl _) _
            exact h7.trans (hV.mono h7.size)
          exact ⟨by rw [hV1V.cell (p := ⟨g, _, none⟩) hg1]; exact e0, by rw [hV1V.cell (p := ⟨g, _, none⟩) hg1]; exact e1, by rw [hV1V.cell (p := ⟨g, _, none⟩) hg1]; exact e2, f _, f _, f _⟩
        have hgu : g ≠ u ∧ g ≠ u2 := by
          have := HQP.out.2
          omega
        have HS3 : Hid (∀ V, Below V2.heap.size V2 V → ∀ x y z : Value, (((V.setCell ⟨g, p * 3, none⟩ x).setCell ⟨g, p * 3 + 1, none⟩ y).setCell ⟨g, p * 3 + 2, none⟩ z).cell? ⟨u2, 0, none⟩ = some (.int .i64 lp) ∧ (((V.setCell ⟨g, p * 3, none⟩ x).setCell ⟨g, p * 3 + 1, none⟩ y).setCell ⟨g, p * 3 + 2, none⟩ z).cell? ⟨u2, 1, none⟩ = some (.slice la ln ln) ∧ (((V.setCell ⟨g, p * 3, none⟩ x).setCell ⟨g, p * 3 + 1, none⟩ y).setCell ⟨g, p * 3 + 2, none⟩ z).cell? ⟨u, 1, none⟩ = some (.slice ma mn mn)) := fun V hV x y z => by
          have hh : ∀ k, k ≠ g → (((V.setCell ⟨g, p * 3, none⟩ x).setCell ⟨g, p * 3 + 1, none⟩ y).setCell ⟨g, p * 3 + 2, none⟩ z).heap[k]? = V.heap[k]? := fun k hk => by
            rw [Below.heap_setCell _ _ _ _ hk, Below.heap_setCell _ _ _ _ hk, Below.heap_setCell _ _ _ _ hk]
          obtain ⟨s1, s2, s3⟩ := HS.out V hV
          exact ⟨by rw [World.cell?_of_block (w := V) (hh u2 (fun e => hgu.2 e.symm))]; exact s1, by rw [World.cell?_of_block (w := V) (hh u2 (fun e => hgu.2 e.symm))]; exact s2, by rw [World.cell?_of_block (w := V) (hh u (fun e => hgu.1 e.symm))]; exact s3⟩
        have hwp : IntKind.i64.wrap (p : Int) = (p : Int) := wrap_small p (by have := HQP.out.1; omega)
        clear hbA hresA hbA2 hPA hss hbd
        go_wp2
        refine wp_region_held_drew (S := fun V => V.cell? ⟨u2, 0, none⟩ = some (.int .i64 lp) ∧ V.cell? ⟨u2, 1, none⟩ = some (.slice la ln ln) ∧ V.cell? ⟨u, 1, none⟩ = some (.slice ma mn mn)) (by kernel_rfl) (⟨z1, z2, y2⟩) (fun hHeld => ?_)
        refine wpAnyH_take (i := 0) (v := ?v0) rfl (by kernel_rfl) (by kernel_rfl) (by kernel_rfl) (fun _ _ _ h => h) (Or.inl ⟨by first | kernel_rfl | rfl, ?y0⟩) hHeld ?r0
        case y0 => (intro W hSW; (try dsimp only at hSW); go_simp; (try with_reducible rfl))
        change wpAnyH _ _ _ _ _ _ _ (Act.put _ (some 34) _) _
        simp only [Act.put, List.setIfInBounds_toArray, List.set_cons_zero, List.set_cons_succ]
        refine wpAnyH_take (i := 1) (v := ?v1) rfl (by kernel_rfl) (by kernel_rfl) (by kernel_rfl) (fun _ _ _ h => h) (Or.inl ⟨by first | kernel_rfl | rfl, ?y1⟩) hHeld ?r1
        case y1 => (intro W hSW; (try dsimp only at hSW); go_simp; (try with_reducible rfl))
        change wpAnyH _ _ _ _ _ _ _ (Act.put _ (some 35) _) _
        simp only [Act.put, List.setIfInBounds_toArray, List.set_cons_zero, List.set_cons_succ]
        refine wpAnyH_take (i := 2) (v := ?v2) rfl (by kernel_rfl) (by kernel_rfl) (by kernel_rfl) (fun _ _ _ h => h) (Or.inl ⟨by first | kernel_rfl | rfl, ?y2⟩) hHeld ?r2
        case y2 => (intro W hSW; (try dsimp only at hSW); go_simp; (try with_reducible rfl))
        change wpAnyH _ _ _ _ _ _ _ (Act.put _ (some 36) _) _
        simp only [Act.put, List.setIfInBounds_toArray, List.set_cons_zero, List.set_cons_succ]
        refine wpAnyH_take (i := 3) (v := ?v3) rfl (by kernel_rfl) (by kernel_rfl) (by kernel_rfl) (fun _ _ _ h => h) (Or.inl ⟨by first | kernel_rfl | rfl, ?y3⟩) hHeld ?r3
        case y3 => (intro W hSW; (try dsimp only at hSW); go_simp; (try with_reducible rfl))
        change wpAnyH _ _ _ _ _ _ _ (Act.put _ (some 37) _) _
        simp only [Act.put, List.setIfInBounds_toArray, List.set_cons_zero, List.set_cons_succ]
        refine wpAnyH_take (i := 4) (v := ?v4) rfl (by kernel_rfl) (by kernel_rfl) (by kernel_rfl) (fun _ _ _ h => h) (Or.inl ⟨by first | kernel_rfl | rfl, ?y4⟩) hHeld ?r4
        case y4 => (intro W hSW; (try dsimp only at hSW); go_simp; (try with_reducible rfl))
        change wpAnyH _ _ _ _ _ _ _ (Act.put _ (some 38) _) _
        simp only [Act.put, List.setIfInBounds_toArray, List.set_cons_zero, List.set_cons_succ]
        refine wpAnyH_take (i := 5) (v := ?v5) rfl (by kernel_rfl) (by kernel_rfl) (by kernel_rfl) (fun _ _ _ h => h) (Or.inl ⟨by first | kernel_rfl | rfl, ?y5⟩) hHeld ?r5
        case y5 => (intro W hSW; (try dsimp only at hSW); go_simp; (try with_reducible rfl))
        change wpAnyH _ _ _ _ _ _ _ (Act.put _ (some 39) _) _
        simp only [Act.put, List.setIfInBounds_toArray, List.set_cons_zero, List.set_cons_succ]
        refine wpAnyH_take (i := 6) (v := ?v6) rfl (by kernel_rfl) (by kernel_rfl) (by kernel_rfl) (fun _ _ _ h => h) (Or.inl ⟨by first | kernel_rfl | rfl, ?y6⟩) hHeld ?r6
        case y6 => (intro W hSW; (try dsimp only at hSW); go_simp; (try with_reducible rfl))
        change wpAnyH _ _ _ _ _ _ _ (Act.put _ (some 40) _) _
        simp only [Act.put, List.setIfInBounds_toArray, List.set_cons_zero, List.set_cons_succ]
        refine wpAnyH_take (i := 7) (v := ?v7) rfl (by kernel_rfl) (by kernel_rfl) (by kernel_rfl) (fun _ _ _ h => h) (Or.inl ⟨by first | kernel_rfl | rfl, ?y7⟩) hHeld ?r7
        case y7 => (intro W hSW; (try dsimp only at hSW); go_simp; (try with_reducible rfl))
        change wpAnyH _ _ _ _ _ _ _ (Act.put _ (some 41) _) _
        simp only [Act.put, List.setIfInBounds_toArray, List.set_cons_zero, List.set_cons_succ]
        refine wpAnyH_take (i := 8) (v := ?v8) rfl (by kernel_rfl) (by kernel_rfl) (by kernel_rfl) (fun _ _ _ h => h) (Or.inl ⟨by first | kernel_rfl | rfl, ?y8⟩) hHeld ?r8
        case y8 => (intro W hSW; (try dsimp only at hSW); go_simp; (try with_reducible rfl))
        change wpAnyH _ _ _ _ _ _ _ (Act.put _ (some 42) _) _
        simp only [Act.put, List.setIfInBounds_toArray, List.set_cons_zero, List.set_cons_succ]
        refine wpAnyH_take (i := 9) (v := ?v9) rfl (by kernel_rfl) (by kernel_rfl) (by kernel_rfl) (fun _ _ _ h => h) (Or.inl ⟨by first | kernel_rfl | rfl, ?y9⟩) hHeld ?r9
        case y9 => (intro W hSW; (try dsimp only at hSW); go_simp; (try with_reducible rfl))
        change wpAnyH _ _ _ _ _ _ _ (Act.put _ (some 43) _) _
        simp only [Act.put, List.setIfInBounds_toArray, List.set_cons_zero, List.set_cons_succ]
        refine wpAnyH_ready (rs := [10]) (by kernel_rfl) (by simp) ?_
        refine AllReadyH.cons rfl (fun K hK => ?_) AllReadyH.nil
        rw [if_pos (by rfl)]
        refine wp_app _ _ _ _ _ rfl rfl rfl (hrA _) ?_
        skip
        refine hK.out _ _ (HS.out _ HA.out) (fun hHeld => ?_)
        clear hK K
        change wpAnyH _ _ _ _ _ _ _ (Act.put _ (some 44) _) _
        simp only [Act.put, List.setIfInBounds_toArray, List.set_cons_zero, List.set_cons_succ]
        refine wpAnyH_ready (rs := [11]) (by kernel_rfl) (by simp) ?_
        refine AllReadyH.cons rfl (fun K hK => ?_) AllReadyH.nil
        go_simp
        refine (HN).mono ?_
        rintro e V5 ⟨a5, rfl, hp5, hb5, hb5'⟩; obtain ⟨t0, t1, t2, f0, f1, f2⟩ := HC5.out V5 hb5'
        refine hK.out _ _ (HS.out _ hb5') (fun hHeld => ?_)
        clear hK K
        try simp only [Act.put, List.setIfInBounds_toArray, List.set_cons_zero, List.set_cons_succ]
        refine wpAnyH_take (i := 12) (v := ?v12) rfl (by kernel_rfl) (by kernel_rfl) (by kernel_rfl) (fun _ _ _ h => h) (Or.inl ⟨by first | kernel_rfl | rfl, ?y12⟩) hHeld ?r12
        case y12 => (intro W hSW; (try dsimp only at hSW); go_simp; (try with_reducible rfl))
        change wpAnyH _ _ _ _ _ _ _ (Act.put _ (some 46) _) _
        simp only [Act.put, List.setIfInBounds_toArray, List.set_cons_zero, List.set_cons_succ]
        refine wpAnyH_ready (rs := [13]) (by kernel_rfl) (by simp) ?_
        refine AllReadyH.cons rfl (fun K hK => ?_) AllReadyH.nil
        go_simp
        refine hK.out _ _ (HS3.out V5 hb5' _ _ _) (fun hHeld => ?_)
        clear hK K
        refine wpAnyH_done (by kernel_rfl) ?_ _
        have HV5 : Hid (Pw G V5 a5 (ln + mn) (ln + mn) (le ++ me) ∧ Below V2.heap.size V2 V5) := ⟨hp5, hb5'⟩
        clear hp5 hb5 hb5' HN t0 t1 t2 f0 f1 f2 hHeld hrA
        go_wp2
        have hL5 := HV2.out.1.below HV5.out.2
        have ho := own_putS (own_putS (own_putS hL5.own (p * 3) (.int .i64 lp)) (p * 3 + 1) (.slice a5 (ln + mn) (ln + mn))) (p * 3 + 2) (.int .i64 ((ls : Int) + (ms : Int)))
        have hJq : (I ++ [(⟨lp, le ++ me, a5⟩ : Mf)]).length = q := by rw [← HQ.out, HJ.out]; simp
        have hlm : (le ++ me).length = ln + mn := by rw [List.length_append, HLN.out.1, HLN.out.2.1]
        have hother : ∀ (k : Nat), k ≠ g → ∀ x y z : Value, (((V5.setCell ⟨g, p * 3, none⟩ x).setCell ⟨g, p * 3 + 1, none⟩ y).setCell ⟨g, p * 3 + 2, none⟩ z).heap[k]? = V5.heap[k]? := fun k hk x y z => by
          rw [Below.heap_setCell _ _ _ _ hk, Below.heap_setCell _ _ _ _ hk, Below.heap_setCell _ _ _ _ hk]
        have hgt : ∃ cur, V5.heap[g]? = some (.cells cur 85 (0, 0)) := by
          rcases hL5.own.2 with ⟨h2, _⟩ | ⟨g2, c2, cur, e2, _, hr2, _⟩
          · cases h2
          · cases e2; exact ⟨cur, hr2⟩
        obtain ⟨curg, hcurg⟩ := hgt
        have hpair : ∀ (k : Nat) (cur : Array Value) (fr : Nat × Nat), V5.heap[k]? = some (Obj.cells cur 63 fr) → k ≠ g := fun k cur fr hk e => by rw [e, hcurg] at hk; cases hk
        refine ⟨⟨i + 1, g, cap, I ++ [⟨lp, le ++ me, a5⟩], by omega, by go_num, by rw [hJq], ⟨?_, ?_⟩, ?_, by rw [hJq]; have := HQP.out.1; omega, by rw [hJq]; omega, ?_⟩, by simp [intOf]; omega⟩
        · rw [hJq]
          rw [HQ.out, HJ.out, ← HLN.out.2.2.2.2] at ho
          have h6 := mfV_last I ⟨lp, le, la⟩ ⟨lp, le ++ me, a5⟩
          simp only [hlm, szL_app, HLN.out.2.2.1, HLN.out.2.2.2.1] at h6
          rw [HLN.out.2.2.2.2] at h6 ho
          rw [show ((ls : Int) + (ms : Int)) = ((ls + ms : Nat) : Int) by omega] at ho
          rw [h6] at ho
          simpa using ho
        · intro x hx
          rcases List.mem_append.1 hx with hx | hx
          · exact (hL5.ent x (by rw [HJ.out]; exact List.mem_append_left _ hx)).other fun k cur fr hk => hother k (hpair k cur fr hk) _ _ _
          · simp only [List.mem_singleton] at hx
            subst hx
            have := HV5.out.1.other (w' := (((V5.setCell ⟨g, p * 3, none⟩ (.int .i64 lp)).setCell ⟨g, p * 3 + 1, none⟩ (.slice a5 (ln + mn) (ln + mn))).setCell ⟨g, p * 3 + 2, none⟩ (.int .i64 ((ls : Int) + (ms : Int))))) fun k cur fr hk => hother k (hpair k cur fr hk) _ _ _
            simp only [hlm]
            simpa using this
        · have h9 := HJN.out
          rw [HJ.out, lfs_app] at h9
          rw [lfs_app]
          exact Jn.join h9 HLX.out (by show szL le + szL me ≤ 1023; rw [HLN.out.2.2.1, HLN.out.2.2.2.1]; omega)
        · have hBg : B ≤ g := (hL5.own.lt g rfl).1
          have := ((((HV2.out.2.2.2.1.trans (HV5.out.2.mono HV2.out.2.2.2.2)).setCell (p := ⟨g, p * 3, none⟩) hBg (.int .i64 lp)).setCell (p := ⟨g, p * 3 + 1, none⟩) hBg (.slice a5 (ln + mn) (ln + mn))).setCell (p := ⟨g, p * 3 + 2, none⟩) hBg (.int .i64 ((ls : Int) + (ms : Int))))
          simpa using this
      · have kf : (1023 : Int) < (ls : Int) + (ms : Int) := by omega
        obtain ⟨V3, hV3⟩ : ∃ V3, V2.alloc (.cells #[.int .i64 mp, .slice ma mn mn, .int .i64 (ms : Int)] 85) = V3 := ⟨_, rfl⟩
        have hB3 : Below V2.heap.size V2 V3 := by rw [← hV3]; exact (Below.refl _ V2).alloc (Nat.le_refl _) _
        have r3 : V3.heap[V2.heap.size]? = some (.cells #[.int .i64 mp, .slice ma mn mn, .int .i64 (ms : Int)] 85 (0, 0)) := by rw [← hV3]; exact heap_alloc_new V2 _
        have hL3 := HV2.out.1.below hB3
        obtain ⟨gA, cA, VA, hrA, hLoA, hlA, hgA⟩ := leaf_add (m := ⟨mp, me, ma⟩) (n := q) (by have := hL3.own; rw [HQ.out] at this; exact this) hL3.ent (by have := hB3.size; have := HV2.out.2.2.2.2; omega) (c := V2.heap.size) (by simp only [HLN.out.1, HLN.out.2.2.1]; exact r3) (by simp only [HLN.out.1]; exact HV2.out.2.1.below hB3) (by omega)
        have HE : Hid (Lo G B VA gA cA (J ++ [⟨mp, me, ma⟩]) ∧ (J ++ [(⟨mp, me, ma⟩ : Mf)]).length = q + 1 ∧ Below B w VA) := ⟨hLoA, hlA, (HV2.out.2.2.2.1.trans (hB3.mono HV2.out.2.2.2.2)).grown hgA (by have := hB3.size; have := HV2.out.2.2.2.2; omega) (fun k hk => (hL3.own.lt k (by rw [ob_slice]; exact hk)).1)⟩
        clear hB3 r3 hL3 hLoA hlA hgA
        go_wp2_with (at_builtin; refine wpList_app _ rfl _ _ _ _ rfl rfl rfl (hrA _) ?_)
        refine ⟨⟨i + 1, gA, cA, J ++ [⟨mp, me, ma⟩], by omega, by go_num, by rw [HE.out.2.1], HE.out.1, ?_, by rw [HE.out.2.1]; omega, by rw [HE.out.2.1]; omega, HE.out.2.2⟩, by simp [intOf]; omega⟩
        have h9 := HJN.out
        rw [HJ.out] at h9 ⊢
        rw [lfs_app] at h9
        rw [lfs_app, lfs_app]
        exact Jn.add h9 HLX.out (by show szL me ≤ 1023; rw [HLN.out.2.2.1]; exact hszm) (by show 1023 < szL le + szL me; rw [HLN.out.2.2.1, HLN.out.2.2.2.1]; omega)
    · obtain rfl : i = r := by omega
      have kk : ¬ (i : Int) < (i : Int) := by omega
      have HF : Hid (Lo G B wr g cap J ∧ Jn (lfs L) (i + 1) (lfs J) ∧ 0 < J.length ∧ J.length ≤ i + 1 ∧ Below B w wr) := ⟨hLo, hJn, hJ0, hJi, hbel⟩
      clear hLo hJn hbel
      go_wp2
      go_ret
      refine ⟨g, cap, J, rfl, HF.out.1, ?_, HF.out.2.2.1, by omega, HF.out.2.2.2.2⟩
      have := HF.out.2.1
      rwa [show i + 1 = n by omega] at this
end Go.Proofs.YtnafalkcgghjgaaGreatDoor
