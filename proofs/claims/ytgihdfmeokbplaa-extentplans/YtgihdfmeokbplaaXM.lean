/- Walk over join. -/
import Derived.Test.YtgihdfmeokbplaaXL
import Derived.Deep.Cut
namespace Go.Proofs.Ytgihdfmeokbplaa
open Go.RowKit Ex
theorem last_take {l : List Sp} {k : Nat} {p : Sp} (h : l[k]? = some p) : l.take (k + 1) = l.take k ++ [p] := by rw [List.take_add_one, h]; rfl
theorem touchA_zero (l : List Sp) (s : Sp) : touchA (l.take 0) s = false ∧ frA (l.take 0) s = s.1 ∧ cutAe (l.take 0) s = l.take 0 := by
  rw [List.take_zero]; exact ⟨rfl, rfl, rfl⟩
theorem touchA_succ {l : List Sp} {k : Nat} {p : Sp} (h : l[k]? = some p) (s : Sp) : touchA (l.take (k + 1)) s = decide (en p = s.1) := by
  rw [last_take h]; simp [touchA]
theorem sideA_touch {l : List Sp} {k : Nat} {p s : Sp} (h : l[k]? = some p) (ht : en p = s.1) : frA (l.take (k + 1)) s = p.1 ∧ cutAe (l.take (k + 1)) s = l.take k := by
  rw [last_take h]; exact ⟨by simp [frA, ht], by simp [cutAe, touchA, ht]⟩
theorem sideA_not {l : List Sp} {s : Sp} (h : touchA l s = false) : frA l s = s.1 ∧ cutAe l s = l := by
  refine ⟨?_, by simp [cutAe, h]⟩
  unfold touchA at h
  unfold frA
  cases e : l.getLast? with
  | none => rfl
  | some p =>
    rw [e] at h
    simp only [decide_eq_false_iff_not] at h
    simp [h]
theorem touchB_end {l : List Sp} {r : Nat} (h : l[r]? = none) (s : Sp) : touchB (l.drop r) s = false := by
  unfold touchB; rw [List.head?_drop, h]
theorem touchB_some {l : List Sp} {r : Nat} {p : Sp} (h : l[r]? = some p) (s : Sp) : touchB (l.drop r) s = decide (p.1 = en s) := by
  unfold touchB; rw [List.head?_drop, h]
theorem sideB_touch {l : List Sp} {r : Nat} {p s : Sp} (h : l[r]? = some p) (ht : p.1 = en s) : toB (l.drop r) s = en p ∧ cutBe (l.drop r) s = l.drop (r + 1) := by
  constructor
  · unfold toB; rw [List.head?_drop, h]; simp [ht]
  · rw [cutBe, touchB_some h, decide_eq_true ht, if_pos rfl, List.tail_drop]
theorem sideB_not {l : List Sp} {s : Sp} (h : touchB l s = false) : toB l s = en s ∧ cutBe l s = l := by
  refine ⟨?_, by simp [cutBe, h]⟩
  unfold touchB at h
  unfold toB
  cases e : l.head? with
  | none => rfl
  | some p =>
    rw [e] at h
    simp only [decide_eq_false_iff_not] at h
    simp [h]
/-- What stands behind the looks ahead and behind. -/
def RelA (w : World) (l : List Sp) (r : Nat) (s : Sp) (v6 v8 : Value) (wx : World) : Prop :=
  ∃ (f : Nat) (F : Int), v6 = .int .i64 (f : Int) ∧ v8 = .int .i64 F ∧ f ≤ r ∧ cutAe (l.take r) s = l.take f ∧ F = frA (l.take r) s ∧ (0 ≤ F ∧ F ≤ 1048576) ∧ Below w.heap.size w wx
def RelB (w : World) (l : List Sp) (r : Nat) (s : Sp) (v7 v9 : Value) (wx : World) : Prop :=
  ∃ (t : Nat) (T : Int), v7 = .int .i64 (t : Int) ∧ v9 = .int .i64 T ∧ r ≤ t ∧ t ≤ l.length ∧ cutBe (l.drop r) s = l.drop t ∧ T = toB (l.drop r) s ∧ (0 ≤ T ∧ T ≤ 1048576) ∧ Below w.heap.size w wx
def Flag (w : World) (b : Bool) (v : Value) (wx : World) : Prop := v = .bool b ∧ Below w.heap.size w wx
set_option maxRecDepth 100000 in
set_option maxHeartbeats 4000000 in
/-- Replace by one span, whatever is taken out. -/
theorem replace_one {w : World} {a : Option Addr} {n cap vb i j : Nat} {hs : List Sp} {v : Sp} (h : w.ownsRow 0 37 2 (.slice a n cap) n (spsV hs)) (hv : Blk w vb (spsV [v])) (hne : ∀ x, ob a = some x → vb ≠ x) (hij : i ≤ j) (hj : j ≤ n) (hn : n ≤ 900000) :
    Calls Try.prog 60 #[.slice a n cap, .int .i64 (i : Int), .int .i64 (j : Int), .slice (some ⟨vb, 0, none⟩) 1 1] w (RpTo w a (hs.take i ++ v :: hs.drop j)) := by
  rcases Nat.lt_or_ge i j with hl | hl
  · rcases h.2 with ⟨h2, h3⟩ | ⟨g, cp, cur, e, _⟩
    · omega
    · cases e
      have hin : InV w g (some ⟨vb, 0, none⟩) 1 1 [v] := ⟨rfl, .inr ⟨Nat.one_pos, vb, spsV [v], rfl, hv, hne g rfl, by rw [spsV_one1]; rfl, by rw [spsV_len]; exact Nat.le_refl _⟩⟩
      exact replace_any (m := 1) (vs := [v]) h hin hl hj hn (by omega) (fun e => absurd e (by omega))
  · obtain rfl : i = j := by omega
    have HI := insert_any h hv hne hj hn
    have hcp := (SpW.own h).hcp
    have hmx := (SpW.own h).hmx
    have hi2 : (i : Int) ≤ (cap : Int) := by omega
    obtain ⟨ln, hln⟩ : ∃ ln, (hs.take i ++ v :: hs.drop i).length = ln := ⟨_, rfl⟩
    unfold RpTo at HI ⊢
    rw [hln] at HI ⊢
    by_cases hci : cap = i
    · subst hci
      cases a with
      | none =>
        go_enter Try.func60, Try.ntmps60
        go_wp2_with fail
        refine HI.mono ?_
        rintro e V ⟨a', c', rfl, h1, h2, h3⟩
        have H1 : Hid _ := h1
        have H2 : Hid _ := h2
        have H3 : Hid _ := h3
        clear h1 h2 h3 hln h hv
        go_wp2
        go_ret
        exact ⟨a', c', rfl, H1.out, H2.out, H3.out⟩
      | some ad =>
        go_enter Try.func60, Try.ntmps60
        go_wp2_with fail
        refine HI.mono ?_
        rintro e V ⟨a', c', rfl, h1, h2, h3⟩
        have H1 : Hid _ := h1
        have H2 : Hid _ := h2
        have H3 : Hid _ := h3
        clear h1 h2 h3 hln h hv
        go_wp2
        go_ret
        exact ⟨a', c', rfl, H1.out, H2.out, H3.out⟩
    · cases a with
      | none => exact absurd ((SpW.own h).hnil rfl) (by omega)
      | some ad =>
        go_enter Try.func60, Try.ntmps60
        go_wp2_with fail
        refine HI.mono ?_
        rintro e V ⟨a', c', rfl, h1, h2, h3⟩
        have H1 : Hid _ := h1
        have H2 : Hid _ := h2
        have H3 : Hid _ := h3
        clear h1 h2 h3 hln h hv
        go_wp2
        go_ret
        exact ⟨a', c', rfl, H1.out, H2.out, H3.out⟩
set_option maxRecDepth 100000 in
set_option maxHeartbeats 8000000 in
theorem join_any {w : World} {S : Nat → Prop} {ab : Nat} {X : Ar} (h : AIs w S ab X) {r : Nat} (hr : r ≤ X.hs.length) {s : Sp} (hs0 : 0 ≤ s.1 ∧ 1 ≤ s.2 ∧ s.1 + s.2 ≤ 1048576) (hok2 : Ar.Ok ⟨X.sz, joinL (X.hs.take r) (X.hs.drop r) s, X.nx⟩) :
    Calls Try.prog 40 #[.pointer (some ⟨ab, 0, none⟩), .int .i64 (r : Int), spA s] w fun e w' => e = .returned (.tuple #[]) ∧ AIs w' (more S w w') ab ⟨X.sz, joinL (X.hs.take r) (X.hs.drop r) s, X.nx⟩ ∧ Upd S w w' := by
  obtain ⟨ha, hc, h⟩ := h
  obtain ⟨c0, c1, c2⟩ := h.cells
  have hlen := h.ok.len
  have hcap := h.sp.hcp
  have HA : Hid (AL w S ab ha hc X ∧ Ar.Ok ⟨X.sz, joinL (X.hs.take r) (X.hs.drop r) s, X.nx⟩) := ⟨h, hok2⟩
  have hal : ab < w.heap.size := h.bd _ h.Sa
  have HM : Hid (∀ (i : Nat) (q : Sp), X.hs[i]? = some q → 0 ≤ q.1 ∧ 1 ≤ q.2 ∧ q.1 + q.2 ≤ 1048576) := fun i q hq => sp_i64 h.ok (List.mem_of_getElem? hq)
  have HH : Hid (∀ (V : World), Below w.heap.size w V → V.cell? ⟨ab, 1, none⟩ = some (.slice ha X.hs.length hc) ∧ ∀ (i : Nat) (q : Sp), X.hs[i]? = some q → ∃ b o, ha = some ⟨b, o, none⟩ ∧ V.cell? ⟨b, o + i * 2, none⟩ = some (.int .i64 q.1) ∧ V.cell? ⟨b, o + i * 2 + 1, none⟩ = some (.int .i64 q.2)) := fun V hV => by
    refine ⟨(hV.cell (p := ⟨ab, 1, none⟩) hal).trans c1, fun i q hq => ?_⟩
    have hi := (List.getElem?_eq_some_iff.1 hq).1
    obtain ⟨b, o, e, hb, hcs⟩ := h.sp.hat (by omega)
    obtain ⟨e1, e2⟩ := hcs i q hq
    exact ⟨b, o, e, (hV.cell (p := ⟨b, o + i * 2, none⟩) hb).trans e1, (hV.cell (p := ⟨b, o + i * 2 + 1, none⟩) hb).trans e2⟩
  obtain ⟨N, hN⟩ : ∃ N, X.hs.length = N := ⟨_, rfl⟩
  rw [hN] at c1 hlen hcap hr HH
  have HN : Hid (X.hs.length = N) := hN
  have HES : Hid (∀ V, Calls Try.prog 37 #[.agg #[.int .i64 s.1, .int .i64 s.2]] V fun e w' => e = .returned (.int .i64 (s.1 + s.2)) ∧ Below V.heap.size V w') := fun V => end_any s.1 s.2 V ⟨by omega, by omega⟩
  have HEQ : Hid (∀ (i : Nat) (q : Sp), X.hs[i]? = some q → ∀ V, Calls Try.prog 37 #[.agg #[.int .i64 q.1, .int .i64 q.2]] V fun e w' => e = .returned (.int .i64 (q.1 + q.2)) ∧ Below V.heap.size V w') := fun i q hq V => end_any q.1 q.2 V (by have := HM.out i q hq; exact ⟨by omega, by omega⟩)
  obtain ⟨B, hB⟩ : ∃ B, w.heap.size = B := ⟨_, rfl⟩
  obtain ⟨W1, hW1⟩ : ∃ W1, w.alloc (.cells #[.int .i64 s.1, .int .i64 s.2] 37) = W1 := ⟨_, rfl⟩
  have hb1 : Below w.heap.size w W1 := by rw [← hW1]; exact (Below.refl _ w).alloc (Nat.le_refl _) _
  have d1 : W1.drew.cell? ⟨B, 0, none⟩ = some (.int .i64 s.1) := by show W1.cell? _ = _; rw [← hW1, ← hB, cell_of_row _ w.heap.size _ _ _ _ (heap_alloc_new w _)]; rfl
  have d2 : W1.drew.cell? ⟨B, 1, none⟩ = some (.int .i64 s.2) := by show W1.cell? _ = _; rw [← hW1, ← hB, cell_of_row _ w.heap.size _ _ _ _ (heap_alloc_new w _)]; rfl
  have HB1 : Hid (Below w.heap.size w W1.drew) := hb1.drew
  clear h hok2 hb1 c0 c1 c2 hN
  go_enter Try.func40, Try.ntmps40
  go_wp2
  try rw [hW1]
  refine wp_region_held_drew (S := fun V => Hid (Below w.heap.size w V) ∧ V.cell? ⟨B, 0, none⟩ = some (.int .i64 s.1) ∧ V.cell? ⟨B, 1, none⟩ = some (.int .i64 s.2)) (by kernel_rfl) (⟨HB1, d1, d2⟩) (fun hHeld => ?_)
  refine wpAnyH_take (i := 0) (v := ?va0) rfl (by kernel_rfl) (by kernel_rfl) (by kernel_rfl) (fun _ _ _ h => h) (Or.inl ⟨by first | kernel_rfl | rfl, ?ya0⟩) hHeld ?ra0
  case ya0 => (intro W hSW; (try dsimp only at hSW); go_simp; (try with_reducible rfl))
  change wpAnyH _ _ _ _ _ _ _ (Act.put _ (some 12) _) _
  simp only [Act.put, List.setIfInBounds_toArray, List.set_cons_zero, List.set_cons_succ]
  refine wpAnyH_take (i := 1) (v := ?va1) rfl (by kernel_rfl) (by kernel_rfl) (by kernel_rfl) (fun _ _ _ h => h) (Or.inl ⟨by first | kernel_rfl | rfl, ?ya1⟩) hHeld ?ra1
  case ya1 => (intro W hSW; (try dsimp only at hSW); go_simp; (try with_reducible rfl))
  change wpAnyH _ _ _ _ _ _ _ (Act.put _ (some 13) _) _
  simp only [Act.put, List.setIfInBounds_toArray, List.set_cons_zero, List.set_cons_succ]
  refine wpAnyH_take (i := 2) (v := ?va2) rfl (by kernel_rfl) (by kernel_rfl) (by kernel_rfl) (fun _ _ _ h => h) (Or.inl ⟨by first | kernel_rfl | rfl, ?ya2⟩) hHeld ?ra2
  case ya2 => (intro W hSW; (try dsimp only at hSW); go_simp; (try with_reducible rfl))
  change wpAnyH _ _ _ _ _ _ _ (Act.put _ (some 14) _) _
  simp only [Act.put, List.setIfInBounds_toArray, List.set_cons_zero, List.set_cons_succ]
  refine wpAnyH_ready (rs := [3]) (by kernel_rfl) (by simp) ?_
  refine AllReadyH.cons rfl (fun K hK => ?_) AllReadyH.nil
  go_simp
  refine (HES.out _).mono ?_
  rintro e V2 ⟨rfl, hV2⟩
  refine hK.out _ _ (⟨hHeld.1.out.trans (hV2.mono hHeld.1.out.size), keepc hV2 hHeld.2.1, keepc hV2 hHeld.2.2⟩) (fun hHeld => ?_)
  clear hK K
  try simp only [Act.put, List.setIfInBounds_toArray, List.set_cons_zero, List.set_cons_succ]
  refine wpAnyH_take (i := 4) (v := ?va4) rfl (by kernel_rfl) (by kernel_rfl) (by kernel_rfl) (fun _ _ _ h => h) (Or.inl ⟨by first | kernel_rfl | rfl, ?ya4⟩) hHeld ?ra4
  case ya4 => (intro W hSW; (try dsimp only at hSW); go_simp; (try with_reducible rfl))
  change wpAnyH _ _ _ _ _ _ _ (Act.put _ (some 8) _) _
  simp only [Act.put, List.setIfInBounds_toArray, List.set_cons_zero, List.set_cons_succ]
  refine wpAnyH_take (i := 5) (v := ?va5) rfl (by kernel_rfl) (by kernel_rfl) (by kernel_rfl) (fun _ _ _ h => h) (Or.inl ⟨by first | kernel_rfl | rfl, ?ya5⟩) hHeld ?ra5
  case ya5 => (intro W hSW; (try dsimp only at hSW); go_simp; (try with_reducible rfl))
  change wpAnyH _ _ _ _ _ _ _ (Act.put _ (some 9) _) _
  simp only [Act.put, List.setIfInBounds_toArray, List.set_cons_zero, List.set_cons_succ]
  refine wpAnyH_done (by kernel_rfl) ?_ _
  have HV2 : Hid (Below w.heap.size w V2) := hHeld.1
  clear hHeld d1 d2 HB1 hV2 hW1
  go_upto_region 3 with fail
  go_cut [30] from 10 (fun v30 wx => Flag w (touchA (X.hs.take r) s) v30 wx)
  case first =>
    obtain ⟨x1, x2⟩ := HH.out V2 HV2.out
    by_cases hr0 : r = 0
    · subst hr0
      have HT : Hid (touchA (X.hs.take 0) s = false) := (touchA_zero _ s).1
      clear x2
      go_wp2
      go_meet
      case rel => exact ⟨by rw [HT.out], HV2.out⟩
    · obtain ⟨k, rfl⟩ : ∃ k, r = k + 1 := ⟨r - 1, by omega⟩
      obtain ⟨p, hp⟩ : ∃ p, X.hs[k]? = some p := ⟨_, List.getElem?_eq_getElem (by rw [HN.out]; omega)⟩
      obtain ⟨b, o, rfl, y1, y2⟩ := x2 k p hp
      have HT : Hid (touchA (X.hs.take (k + 1)) s = decide (p.1 + p.2 = s.1)) := touchA_succ hp s
      have HE := HEQ.out k p hp
      have kk : ((k + 1 : Nat) : Int) - 1 = (k : Int) := by omega
      have kw : IntKind.i64.wrap ((k : Int) + 1 - 1) = (k : Int) := by rw [IntKind.wrap_i64]; omega
      have kl : (k : Int) < (N : Int) := by omega
      have k0 : (0 : Int) < (k : Int) + 1 := by omega
      clear x2 hp hr0
      go_wp2_with fail
      refine (HE _).mono ?_
      rintro e V3 ⟨rfl, hV3⟩
      have HV3 : Hid (Below w.heap.size w V3) := HV2.out.trans (hV3.mono HV2.out.size)
      clear hV3
      go_wp2
      go_meet
      case rel => exact ⟨by rw [HT.out]; rfl, HV3.out⟩
  case rest =>
  obtain ⟨rfl, hbc⟩ := hcut
  have HVa : Hid (Below w.heap.size w wc) := hbc
  clear hbc HV2
  go_upto_if 30 with fail
  go_cut [6, 8] from 10 (fun v6 v8 wx => RelA w X.hs r s v6 v8 wx)
  case first =>
    cases ht : touchA (X.hs.take r) s with
    | false =>
      have HT : Hid (RelA w X.hs r s (.int .i64 (r : Int)) (.int .i64 s.1) wc) := ⟨r, s.1, rfl, rfl, Nat.le_refl _, (sideA_not ht).2, (sideA_not ht).1.symm, ⟨by omega, by omega⟩, HVa.out⟩
      clear ht
      go_wp2
      go_meet
      case rel => exact HT.out
    | true =>
      have hr0 : r ≠ 0 := fun e => by rw [e, (touchA_zero X.hs s).1] at ht; cases ht
      obtain ⟨k, rfl⟩ : ∃ k, r = k + 1 := ⟨r - 1, by omega⟩
      obtain ⟨p, hp⟩ : ∃ p, X.hs[k]? = some p := ⟨_, List.getElem?_eq_getElem (by rw [HN.out]; omega)⟩
      have hte : en p = s.1 := by rw [touchA_succ hp] at ht; exact of_decide_eq_true ht
      obtain ⟨x1, x2⟩ := HH.out wc HVa.out
      obtain ⟨b, o, rfl, y1, y2⟩ := x2 k p hp
      have hm := HM.out k p hp
      have HT : Hid (RelA w X.hs (k + 1) s (.int .i64 (k : Int)) (.int .i64 p.1) wc) := ⟨k, p.1, rfl, rfl, by omega, (sideA_touch hp hte).2, (sideA_touch hp hte).1.symm, ⟨by omega, by omega⟩, HVa.out⟩
      have kw : IntKind.i64.wrap ((k : Int) + 1 - 1) = (k : Int) := by rw [IntKind.wrap_i64]; omega
      have kl : (k : Int) < (N : Int) := by omega
      clear x2 hp ht hte hm
      go_wp2
      go_meet
      case rel => exact HT.out
  case rest =>
  obtain ⟨f, F, rfl, rfl, hf1, hf2, hf3, hf4, hbc⟩ := hcut
  have HVb : Hid (Below w.heap.size w wc) := hbc
  have HF : Hid (cutAe (X.hs.take r) s = X.hs.take f ∧ F = frA (X.hs.take r) s) := ⟨hf2, hf3⟩
  clear hbc HVa hf2 hf3
  go_upto_region 6 with fail
  go_cut [59] from 10 (fun v59 wx => Flag w (touchB (X.hs.drop r) s) v59 wx)
  case first =>
    obtain ⟨x1, x2⟩ := HH.out wc HVb.out
    by_cases hrN : r < N
    · obtain ⟨p, hp⟩ : ∃ p, X.hs[r]? = some p := ⟨_, List.getElem?_eq_getElem (by rw [HN.out]; exact hrN)⟩
      obtain ⟨b, o, rfl, y1, y2⟩ := x2 r p hp
      have HT : Hid (touchB (X.hs.drop r) s = decide (p.1 = s.1 + s.2)) := touchB_some hp s
      have kl : (r : Int) < (N : Int) := by omega
      clear x2 hp
      go_wp2
      go_meet
      case rel => exact ⟨by rw [HT.out]; rfl, HVb.out⟩
    · have HT : Hid (touchB (X.hs.drop r) s = false) := touchB_end (List.getElem?_eq_none (by rw [HN.out]; omega)) s
      have kl : ¬ (r : Int) < (N : Int) := by omega
      clear x2
      go_wp2
      go_meet
      case rel => exact ⟨by rw [HT.out], HVb.out⟩
  case rest =>
  obtain ⟨rfl, hbc⟩ := hcut
  have HVc : Hid (Below w.heap.size w wc) := hbc
  clear hbc HVb
  go_upto_if 59 with fail
  go_cut [7, 9] from 10 (fun v7 v9 wx => RelB w X.hs r s v7 v9 wx)
  case first =>
    cases ht : touchB (X.hs.drop r) s with
    | false =>
      have HT : Hid (RelB w X.hs r s (.int .i64 (r : Int)) (.int .i64 (s.1 + s.2)) wc) := ⟨r, s.1 + s.2, rfl, rfl, Nat.le_refl _, by rw [HN.out]; exact hr, (sideB_not ht).2, (sideB_not ht).1.symm, ⟨by omega, by omega⟩, HVc.out⟩
      clear ht
      go_wp2
      go_meet
      case rel => exact HT.out
    | true =>
      have hrN : r < N := by
        refine Nat.lt_of_not_le fun e => ?_
        rw [touchB_end (List.getElem?_eq_none (by rw [HN.out]; exact e))] at ht
        cases ht
      obtain ⟨p, hp⟩ : ∃ p, X.hs[r]? = some p := ⟨_, List.getElem?_eq_getElem (by rw [HN.out]; exact hrN)⟩
      have hte : p.1 = en s := by rw [touchB_some hp] at ht; exact of_decide_eq_true ht
      obtain ⟨x1, x2⟩ := HH.out wc HVc.out
      obtain ⟨b, o, rfl, y1, y2⟩ := x2 r p hp
      have hm := HM.out r p hp
      have HT : Hid (∀ V, Below w.heap.size w V → RelB w X.hs r s (.int .i64 ((r + 1 : Nat) : Int)) (.int .i64 (p.1 + p.2)) V) := fun V hV => ⟨r + 1, p.1 + p.2, rfl, rfl, by omega, by rw [HN.out]; omega, (sideB_touch hp hte).2, (sideB_touch hp hte).1.symm, ⟨by omega, by omega⟩, hV⟩
      have HE := HEQ.out r p hp
      have kw : IntKind.i64.wrap ((r : Int) + 1) = ((r + 1 : Nat) : Int) := by rw [IntKind.wrap_i64]; omega
      have kl : (r : Int) < (N : Int) := by omega
      clear x2 hp ht hte hm
      go_wp2_with fail
      refine (HE _).mono ?_
      rintro e V3 ⟨rfl, hV3⟩
      have HV3 : Hid (Below w.heap.size w V3) := HVc.out.trans (hV3.mono HVc.out.size)
      clear hV3
      go_wp2
      go_meet
      case rel => exact HT.out _ HV3.out
  case rest =>
  obtain ⟨t, T, rfl, rfl, ht1, ht2, ht3, ht4, ht5, hbc⟩ := hcut
  have HVd : Hid (Below w.heap.size w wc) := hbc
  obtain ⟨wd, hwd⟩ : ∃ x, wc = x := ⟨_, rfl⟩
  have HJ : Hid (joinL (X.hs.take r) (X.hs.drop r) s = X.hs.take f ++ (F, T - F) :: X.hs.drop t) := by
    unfold joinL
    rw [HF.out.1, ← HF.out.2, ht3, ← ht4]
    exact rfl
  have HTN : Hid (f ≤ t ∧ t ≤ X.hs.length) := ⟨Nat.le_trans hf1 ht1, ht2⟩
  have HBT : Hid (∀ V, Calls Try.prog 53 #[.int .i64 F, .int .i64 T] V fun e w' => e = .returned (.agg #[.int .i64 F, .int .i64 (T - F)]) ∧ Below V.heap.size V w') := fun V => between_any F T V ⟨by omega, by omega⟩
  have x1 : wc.drew.cell? ⟨ab, 1, none⟩ = some (.slice ha N hc) := (HH.out wc.drew HVd.out.drew).1
  clear hbc HVc HF HM HES HEQ ht1 ht2 ht3 ht4 hf1 hf4 ht5 hwd
  have f1 : wc.drew.frozen? ⟨ab, 1, none⟩ = false := frozen_of_row wc.drew ab 1 _ _ ((HVd.out.drew.block ab hal).trans HA.out.1.c)
  go_wp2
  refine wp_region_held_drew (S := fun V => V.frozen? ⟨ab, 1, none⟩ = false) (by kernel_rfl) (f1) (fun hHeld => ?_)
  refine wpAnyH_take (i := 0) (v := ?vz0) rfl (by kernel_rfl) (by kernel_rfl) (by kernel_rfl) (fun _ _ _ h => h) (Or.inl ⟨by first | kernel_rfl | rfl, ?yz0⟩) hHeld ?rz0
  case yz0 => (intro W hSW; (try dsimp only at hSW); go_simp; (try with_reducible rfl))
  change wpAnyH _ _ _ _ _ _ _ (Act.put _ (some 70) _) _
  simp only [Act.put, List.setIfInBounds_toArray, List.set_cons_zero, List.set_cons_succ]
  refine wpAnyH_take (i := 1) (v := ?vz1) rfl (by kernel_rfl) (by kernel_rfl) (by kernel_rfl) (fun _ _ _ h => h) (Or.inl ⟨by first | kernel_rfl | rfl, ?yz1⟩) hHeld ?rz1
  case yz1 => (intro W hSW; (try dsimp only at hSW); go_simp; (try with_reducible rfl))
  change wpAnyH _ _ _ _ _ _ _ (Act.put _ (some 71) _) _
  simp only [Act.put, List.setIfInBounds_toArray, List.set_cons_zero, List.set_cons_succ]
  refine wpAnyH_take (i := 2) (v := ?vz2) rfl (by kernel_rfl) (by kernel_rfl) (by kernel_rfl) (fun _ _ _ h => h) (Or.inl ⟨by first | kernel_rfl | rfl, ?yz2⟩) hHeld ?rz2
  case yz2 => (intro W hSW; (try dsimp only at hSW); go_simp; (try with_reducible rfl))
  change wpAnyH _ _ _ _ _ _ _ (Act.put _ (some 72) _) _
  simp only [Act.put, List.setIfInBounds_toArray, List.set_cons_zero, List.set_cons_succ]
  refine wpAnyH_take (i := 3) (v := ?vz3) rfl (by kernel_rfl) (by kernel_rfl) (by kernel_rfl) (fun _ _ _ h => h) (Or.inl ⟨by first | kernel_rfl | rfl, ?yz3⟩) hHeld ?rz3
  case yz3 => (intro W hSW; (try dsimp only at hSW); go_simp; (try with_reducible rfl))
  change wpAnyH _ _ _ _ _ _ _ (Act.put _ (some 73) _) _
  simp only [Act.put, List.setIfInBounds_toArray, List.set_cons_zero, List.set_cons_succ]
  refine wpAnyH_take (i := 5) (v := ?vz5) rfl (by kernel_rfl) (by kernel_rfl) (by kernel_rfl) (fun _ _ _ h => h) (Or.inl ⟨by first | kernel_rfl | rfl, ?yz5⟩) hHeld ?rz5
  case yz5 => (intro W hSW; (try dsimp only at hSW); go_simp; (try with_reducible rfl))
  change wpAnyH _ _ _ _ _ _ _ (Act.put _ (some 75) _) _
  simp only [Act.put, List.setIfInBounds_toArray, List.set_cons_zero, List.set_cons_succ]
  refine wpAnyH_take (i := 6) (v := ?vz6) rfl (by kernel_rfl) (by kernel_rfl) (by kernel_rfl) (fun _ _ _ h => h) (Or.inl ⟨by first | kernel_rfl | rfl, ?yz6⟩) hHeld ?rz6
  case yz6 => (intro W hSW; (try dsimp only at hSW); go_simp; (try with_reducible rfl))
  change wpAnyH _ _ _ _ _ _ _ (Act.put _ (some 76) _) _
  simp only [Act.put, List.setIfInBounds_toArray, List.set_cons_zero, List.set_cons_succ]
  refine wpAnyH_take (i := 7) (v := ?vz7) rfl (by kernel_rfl) (by kernel_rfl) (by kernel_rfl) (fun _ _ _ h => h) (Or.inl ⟨by first | kernel_rfl | rfl, ?yz7⟩) hHeld ?rz7
  case yz7 => (intro W hSW; (try dsimp only at hSW); go_simp; (try with_reducible rfl))
  change wpAnyH _ _ _ _ _ _ _ (Act.put _ (some 77) _) _
  simp only [Act.put, List.setIfInBounds_toArray, List.set_cons_zero, List.set_cons_succ]
  refine wpAnyH_take (i := 8) (v := ?vz8) rfl (by kernel_rfl) (by kernel_rfl) (by kernel_rfl) (fun _ _ _ h => h) (Or.inl ⟨by first | kernel_rfl | rfl, ?yz8⟩) hHeld ?rz8
  case yz8 => (intro W hSW; (try dsimp only at hSW); go_simp; (try with_reducible rfl))
  change wpAnyH _ _ _ _ _ _ _ (Act.put _ (some 78) _) _
  simp only [Act.put, List.setIfInBounds_toArray, List.set_cons_zero, List.set_cons_succ]
  refine wpAnyH_ready (rs := [4, 9]) (by kernel_rfl) (by simp) ?_
  refine AllReadyH.cons rfl (fun K hK => ?_) (AllReadyH.cons rfl (fun K hK => ?_) AllReadyH.nil)
  · go_simp
    refine hK.out _ _ (hHeld) (fun hHeld => ?_)
    clear hK K
    try simp only [Act.put, List.setIfInBounds_toArray, List.set_cons_zero, List.set_cons_succ]
    refine wpAnyH_ready (rs := [9]) (by kernel_rfl) (by simp) ?_
    refine AllReadyH.cons rfl (fun K hK => ?_) AllReadyH.nil
    go_simp
    refine (HBT.out _).mono ?_
    rintro e V5 ⟨rfl, hV5⟩
    refine hK.out _ _ ((hV5.frozen (p := ⟨ab, 1, none⟩) (World.block_lt_of_cell? _ _ x1)).trans f1) (fun hHeld => ?_)
    clear hK K
    try simp only [Act.put, List.setIfInBounds_toArray, List.set_cons_zero, List.set_cons_succ]
    have HV5 : Hid (Below w.heap.size w V5) := HVd.out.drew.trans (hV5.mono HVd.out.size)
    obtain ⟨C, hC⟩ : ∃ C, V5.heap.size = C := ⟨_, rfl⟩
    obtain ⟨W6, hW6⟩ : ∃ W6, V5.alloc (.cells #[.int .i64 F, .int .i64 (T - F)] 37) = W6 := ⟨_, rfl⟩
    have hb6 : Below V5.heap.size V5 W6 := by rw [← hW6]; exact (Below.refl _ _).alloc (Nat.le_refl _) _
    have h6 : Blk W6 C (spsV [(F, T - F)]) := by rw [spsV_one1]; unfold Blk; rw [← hW6, ← hC]; exact heap_alloc_new _ _
    have HV6 : Hid (Below w.heap.size w W6) := HV5.out.trans (hb6.mono HV5.out.size)
    have hwC : w.heap.size ≤ C := by rw [← hC]; exact HV5.out.size
    have HRP := replace_one (w := W6) (i := f) (j := t) (own_keep HA.out.1.h (fun x hx => HV6.out.block x (by rw [ob_slice] at hx; exact HA.out.1.bd _ (HA.out.1.Sh x hx)))) h6 (fun x hx e => by have := HA.out.1.bd x (HA.out.1.Sh x hx); omega) HTN.out.1 HTN.out.2 (by rw [HN.out]; omega)
    rw [HN.out] at HRP
    have f6 : W6.frozen? ⟨ab, 1, none⟩ = false := frozen_of_row W6 ab 1 _ _ ((HV6.out.block ab hal).trans HA.out.1.c)
    clear hV5 hwC h6
    refine wpAnyH_ready (rs := [10]) (by kernel_rfl) (by simp) ?_
    refine AllReadyH.cons rfl (fun K hK => ?_) AllReadyH.nil
    go_simp
    refine hK.out _ _ (f6) (fun hHeld => ?_)
    clear hK K
    try simp only [Act.put, List.setIfInBounds_toArray, List.set_cons_zero, List.set_cons_succ]
    refine wpAnyH_ready (rs := [11]) (by kernel_rfl) (by simp) ?_
    refine AllReadyH.cons rfl (fun K hK => ?_) AllReadyH.nil
    go_simp
    refine (HRP).mono ?_
    rintro e V8 ⟨a', c', rfl, hrow, hat, hu⟩
    refine hK.out _ _ (frozen_of_row V8 ab 1 _ _ ((hu.block ab (Nat.lt_of_lt_of_le hal HV6.out.size) (fun e => HA.out.1.ne ab e rfl)).trans ((HV6.out.block ab hal).trans HA.out.1.c))) (fun hHeld => ?_)
    clear hK K
    try simp only [Act.put, List.setIfInBounds_toArray, List.set_cons_zero, List.set_cons_succ]
    refine wpAnyH_take (i := 12) (v := ?vy12) rfl (by kernel_rfl) (by kernel_rfl) (by kernel_rfl) (fun _ _ _ h => h) (Or.inl ⟨by first | kernel_rfl | rfl, ?yy12⟩) hHeld ?ry12
    case yy12 => (intro W hSW; (try dsimp only at hSW); go_simp; (try with_reducible rfl))
    change wpAnyH _ _ _ _ _ _ _ (Act.put _ (some 82) _) _
    simp only [Act.put, List.setIfInBounds_toArray, List.set_cons_zero, List.set_cons_succ]
    refine wpAnyH_take (i := 13) (v := ?vy13) rfl (by kernel_rfl) (by kernel_rfl) (by kernel_rfl) (fun _ _ _ h => h) (Or.inl ⟨by first | kernel_rfl | rfl, ?yy13⟩) hHeld ?ry13
    case yy13 => (intro W hSW; (try dsimp only at hSW); go_simp; (try with_reducible rfl))
    change wpAnyH _ _ _ _ _ _ _ (Act.put _ (some 83) _) _
    simp only [Act.put, List.setIfInBounds_toArray, List.set_cons_zero, List.set_cons_succ]
    have hal9 : V8.heap[ab]? = some (.cells (arC X ha hc) 66 (0, 0)) := (hu.block ab (Nat.lt_of_lt_of_le hal HV6.out.size) (fun e => HA.out.1.ne ab e rfl)).trans ((HV6.out.block ab hal).trans HA.out.1.c)
    have f8 := frozen_of_row V8 ab 1 _ _ hal9
    have c8 : V8.cell? ⟨ab, 1, none⟩ = some (.slice ha X.hs.length hc) := by rw [cell_of_row V8 ab _ _ _ _ hal9]; rfl
    have HCH : Hid (∀ V2, V2 = V8.setCell ⟨ab, 1, none⟩ (.slice a' (X.hs.take f ++ (F, T - F) :: X.hs.drop t).length c') → AIs V2 (more S w V2) ab ⟨X.sz, joinL (X.hs.take r) (X.hs.drop r) s, X.nx⟩ ∧ Upd S w V2) := by
      rw [HJ.out]
      exact fun V2 e2 => HA.out.1.change HV6.out (by rw [← HJ.out]; exact HA.out.2) hrow hat hu e2
    obtain ⟨ln, hln⟩ : ∃ ln, (X.hs.take f ++ (F, T - F) :: X.hs.drop t).length = ln := ⟨_, rfl⟩
    rw [hln] at HCH
    try rw [hln]
    have f9 : (V8.setCell ⟨ab, 1, none⟩ (.slice a' ln c')).frozen? ⟨ab, 1, none⟩ = false := frozen_of_row _ ab 1 _ _ (heap_setCell_same V8 ab 1 _ _ _ hal9)
    clear HRP hrow hat hu hal9 hln
    refine wpAnyH_ready (rs := [14]) (by kernel_rfl) (by simp) ?_
    refine AllReadyH.cons rfl (fun K hK => ?_) AllReadyH.nil
    go_simp
    refine hK.out _ _ (f9) (fun hHeld => ?_)
    clear hK K
    refine wpAnyH_done (by kernel_rfl) ?_ _
    have HF := HCH.out _ rfl
    clear hHeld
    go_wp2
    refine bodyPost_end (v := .tuple #[]) ?_ rfl ⟨rfl, HF.1, HF.2⟩
    simp [results, go_sem]
  · go_simp
    refine (HBT.out _).mono ?_
    rintro e V5 ⟨rfl, hV5⟩
    refine hK.out _ _ ((hV5.frozen (p := ⟨ab, 1, none⟩) (World.block_lt_of_cell? _ _ x1)).trans f1) (fun hHeld => ?_)
    clear hK K
    try simp only [Act.put, List.setIfInBounds_toArray, List.set_cons_zero, List.set_cons_succ]
    have x5 : V5.cell? ⟨ab, 1, none⟩ = some (.slice ha N hc) := keepc hV5 x1
    have HV5 : Hid (Below w.heap.size w V5) := HVd.out.drew.trans (hV5.mono HVd.out.size)
    obtain ⟨C, hC⟩ : ∃ C, V5.heap.size = C := ⟨_, rfl⟩
    obtain ⟨W6, hW6⟩ : ∃ W6, V5.alloc (.cells #[.int .i64 F, .int .i64 (T - F)] 37) = W6 := ⟨_, rfl⟩
    have hb6 : Below V5.heap.size V5 W6 := by rw [← hW6]; exact (Below.refl _ _).alloc (Nat.le_refl _) _
    have h6 : Blk W6 C (spsV [(F, T - F)]) := by rw [spsV_one1]; unfold Blk; rw [← hW6, ← hC]; exact heap_alloc_new _ _
    have HV6 : Hid (Below w.heap.size w W6) := HV5.out.trans (hb6.mono HV5.out.size)
    have hwC : w.heap.size ≤ C := by rw [← hC]; exact HV5.out.size
    have HRP := replace_one (w := W6) (i := f) (j := t) (own_keep HA.out.1.h (fun x hx => HV6.out.block x (by rw [ob_slice] at hx; exact HA.out.1.bd _ (HA.out.1.Sh x hx)))) h6 (fun x hx e => by have := HA.out.1.bd x (HA.out.1.Sh x hx); omega) HTN.out.1 HTN.out.2 (by rw [HN.out]; omega)
    rw [HN.out] at HRP
    have f6 : W6.frozen? ⟨ab, 1, none⟩ = false := frozen_of_row W6 ab 1 _ _ ((HV6.out.block ab hal).trans HA.out.1.c)
    clear hV5 hwC h6
    have x6 : W6.cell? ⟨ab, 1, none⟩ = some (.slice ha N hc) := keepc hb6 x5
    refine wpAnyH_ready (rs := [4, 10]) (by kernel_rfl) (by simp) ?_
    refine AllReadyH.cons rfl (fun K hK => ?_) (AllReadyH.cons rfl (fun K hK => ?_) AllReadyH.nil)
    · go_simp
      refine hK.out _ _ (hHeld) (fun hHeld => ?_)
      clear hK K
      try simp only [Act.put, List.setIfInBounds_toArray, List.set_cons_zero, List.set_cons_succ]
      refine wpAnyH_ready (rs := [10]) (by kernel_rfl) (by simp) ?_
      refine AllReadyH.cons rfl (fun K hK => ?_) AllReadyH.nil
      go_simp
      refine hK.out _ _ (f6) (fun hHeld => ?_)
      clear hK K
      try simp only [Act.put, List.setIfInBounds_toArray, List.set_cons_zero, List.set_cons_succ]
      refine wpAnyH_ready (rs := [11]) (by kernel_rfl) (by simp) ?_
      refine AllReadyH.cons rfl (fun K hK => ?_) AllReadyH.nil
      go_simp
      refine (HRP).mono ?_
      rintro e V8 ⟨a', c', rfl, hrow, hat, hu⟩
      refine hK.out _ _ (frozen_of_row V8 ab 1 _ _ ((hu.block ab (Nat.lt_of_lt_of_le hal HV6.out.size) (fun e => HA.out.1.ne ab e rfl)).trans ((HV6.out.block ab hal).trans HA.out.1.c))) (fun hHeld => ?_)
      clear hK K
      try simp only [Act.put, List.setIfInBounds_toArray, List.set_cons_zero, List.set_cons_succ]
      refine wpAnyH_take (i := 12) (v := ?vx12) rfl (by kernel_rfl) (by kernel_rfl) (by kernel_rfl) (fun _ _ _ h => h) (Or.inl ⟨by first | kernel_rfl | rfl, ?yx12⟩) hHeld ?rx12
      case yx12 => (intro W hSW; (try dsimp only at hSW); go_simp; (try with_reducible rfl))
      change wpAnyH _ _ _ _ _ _ _ (Act.put _ (some 82) _) _
      simp only [Act.put, List.setIfInBounds_toArray, List.set_cons_zero, List.set_cons_succ]
      refine wpAnyH_take (i := 13) (v := ?vx13) rfl (by kernel_rfl) (by kernel_rfl) (by kernel_rfl) (fun _ _ _ h => h) (Or.inl ⟨by first | kernel_rfl | rfl, ?yx13⟩) hHeld ?rx13
      case yx13 => (intro W hSW; (try dsimp only at hSW); go_simp; (try with_reducible rfl))
      change wpAnyH _ _ _ _ _ _ _ (Act.put _ (some 83) _) _
      simp only [Act.put, List.setIfInBounds_toArray, List.set_cons_zero, List.set_cons_succ]
      have hal9 : V8.heap[ab]? = some (.cells (arC X ha hc) 66 (0, 0)) := (hu.block ab (Nat.lt_of_lt_of_le hal HV6.out.size) (fun e => HA.out.1.ne ab e rfl)).trans ((HV6.out.block ab hal).trans HA.out.1.c)
      have f8 := frozen_of_row V8 ab 1 _ _ hal9
      have c8 : V8.cell? ⟨ab, 1, none⟩ = some (.slice ha X.hs.length hc) := by rw [cell_of_row V8 ab _ _ _ _ hal9]; rfl
      have HCH : Hid (∀ V2, V2 = V8.setCell ⟨ab, 1, none⟩ (.slice a' (X.hs.take f ++ (F, T - F) :: X.hs.drop t).length c') → AIs V2 (more S w V2) ab ⟨X.sz, joinL (X.hs.take r) (X.hs.drop r) s, X.nx⟩ ∧ Upd S w V2) := by
        rw [HJ.out]
        exact fun V2 e2 => HA.out.1.change HV6.out (by rw [← HJ.out]; exact HA.out.2) hrow hat hu e2
      obtain ⟨ln, hln⟩ : ∃ ln, (X.hs.take f ++ (F, T - F) :: X.hs.drop t).length = ln := ⟨_, rfl⟩
      rw [hln] at HCH
      try rw [hln]
      have f9 : (V8.setCell ⟨ab, 1, none⟩ (.slice a' ln c')).frozen? ⟨ab, 1, none⟩ = false := frozen_of_row _ ab 1 _ _ (heap_setCell_same V8 ab 1 _ _ _ hal9)
      clear HRP hrow hat hu hal9 hln
      refine wpAnyH_ready (rs := [14]) (by kernel_rfl) (by simp) ?_
      refine AllReadyH.cons rfl (fun K hK => ?_) AllReadyH.nil
      go_simp
      refine hK.out _ _ (f9) (fun hHeld => ?_)
      clear hK K
      refine wpAnyH_done (by kernel_rfl) ?_ _
      have HF := HCH.out _ rfl
      clear hHeld
      go_wp2
      refine bodyPost_end (v := .tuple #[]) ?_ rfl ⟨rfl, HF.1, HF.2⟩
      simp [results, go_sem]
    · go_simp
      refine hK.out _ _ (f6) (fun hHeld => ?_)
      clear hK K
      try simp only [Act.put, List.setIfInBounds_toArray, List.set_cons_zero, List.set_cons_succ]
      refine wpAnyH_ready (rs := [4]) (by kernel_rfl) (by simp) ?_
      refine AllReadyH.cons rfl (fun K hK => ?_) AllReadyH.nil
      go_simp
      refine hK.out _ _ (f6) (fun hHeld => ?_)
      clear hK K
      try simp only [Act.put, List.setIfInBounds_toArray, List.set_cons_zero, List.set_cons_succ]
      refine wpAnyH_ready (rs := [11]) (by kernel_rfl) (by simp) ?_
      refine AllReadyH.cons rfl (fun K hK => ?_) AllReadyH.nil
      go_simp
      refine (HRP).mono ?_
      rintro e V8 ⟨a', c', rfl, hrow, hat, hu⟩
      refine hK.out _ _ (frozen_of_row V8 ab 1 _ _ ((hu.block ab (Nat.lt_of_lt_of_le hal HV6.out.size) (fun e => HA.out.1.ne ab e rfl)).trans ((HV6.out.block ab hal).trans HA.out.1.c))) (fun hHeld => ?_)
      clear hK K
      try simp only [Act.put, List.setIfInBounds_toArray, List.set_cons_zero, List.set_cons_succ]
      refine wpAnyH_take (i := 12) (v := ?vv12) rfl (by kernel_rfl) (by kernel_rfl) (by kernel_rfl) (fun _ _ _ h => h) (Or.inl ⟨by first | kernel_rfl | rfl, ?yv12⟩) hHeld ?rv12
      case yv12 => (intro W hSW; (try dsimp only at hSW); go_simp; (try with_reducible rfl))
      change wpAnyH _ _ _ _ _ _ _ (Act.put _ (some 82) _) _
      simp only [Act.put, List.setIfInBounds_toArray, List.set_cons_zero, List.set_cons_succ]
      refine wpAnyH_take (i := 13) (v := ?vv13) rfl (by kernel_rfl) (by kernel_rfl) (by kernel_rfl) (fun _ _ _ h => h) (Or.inl ⟨by first | kernel_rfl | rfl, ?yv13⟩) hHeld ?rv13
      case yv13 => (intro W hSW; (try dsimp only at hSW); go_simp; (try with_reducible rfl))
      change wpAnyH _ _ _ _ _ _ _ (Act.put _ (some 83) _) _
      simp only [Act.put, List.setIfInBounds_toArray, List.set_cons_zero, List.set_cons_succ]
      have hal9 : V8.heap[ab]? = some (.cells (arC X ha hc) 66 (0, 0)) := (hu.block ab (Nat.lt_of_lt_of_le hal HV6.out.size) (fun e => HA.out.1.ne ab e rfl)).trans ((HV6.out.block ab hal).trans HA.out.1.c)
      have f8 := frozen_of_row V8 ab 1 _ _ hal9
      have c8 : V8.cell? ⟨ab, 1, none⟩ = some (.slice ha X.hs.length hc) := by rw [cell_of_row V8 ab _ _ _ _ hal9]; rfl
      have HCH : Hid (∀ V2, V2 = V8.setCell ⟨ab, 1, none⟩ (.slice a' (X.hs.take f ++ (F, T - F) :: X.hs.drop t).length c') → AIs V2 (more S w V2) ab ⟨X.sz, joinL (X.hs.take r) (X.hs.drop r) s, X.nx⟩ ∧ Upd S w V2) := by
        rw [HJ.out]
        exact fun V2 e2 => HA.out.1.change HV6.out (by rw [← HJ.out]; exact HA.out.2) hrow hat hu e2
      obtain ⟨ln, hln⟩ : ∃ ln, (X.hs.take f ++ (F, T - F) :: X.hs.drop t).length = ln := ⟨_, rfl⟩
      rw [hln] at HCH
      try rw [hln]
      have f9 : (V8.setCell ⟨ab, 1, none⟩ (.slice a' ln c')).frozen? ⟨ab, 1, none⟩ = false := frozen_of_row _ ab 1 _ _ (heap_setCell_same V8 ab 1 _ _ _ hal9)
      clear HRP hrow hat hu hal9 hln
      refine wpAnyH_ready (rs := [14]) (by kernel_rfl) (by simp) ?_
      refine AllReadyH.cons rfl (fun K hK => ?_) AllReadyH.nil
      go_simp
      refine hK.out _ _ (f9) (fun hHeld => ?_)
      clear hK K
      refine wpAnyH_done (by kernel_rfl) ?_ _
      have HF := HCH.out _ rfl
      clear hHeld
      go_wp2
      refine bodyPost_end (v := .tuple #[]) ?_ rfl ⟨rfl, HF.1, HF.2⟩
      simp [results, go_sem]
end Go.Proofs.Ytgihdfmeokbplaa
