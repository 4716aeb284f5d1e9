/- The document's WriteTo. -/
import Derived.Test.YtaacedaehbaodaaGreatV
namespace Go.Proofs.YtaacedaehbaodaaGreat
open Go.RowKit Go.Shelf
theorem info92 : (Tryz.prog.info? 95).map (fun i => (i.zero, i.size, i.bytes)) = some (some (.agg #[.int .i64 0, .string ByteArray.empty]), 2, 24) := by kernel_rfl
set_option maxRecDepth 100000 in
set_option maxHeartbeats 4000000 in
theorem rwrite_no {w : World} {lb lc : Nat} {wa : Option Addr} {wc : Nat} {D : Dk} (h : RefAt w lb lc wa wc D) (hfu : D.fuse = 0) (a : Nat) (s : ByteArray) (hu : D.up = true) (ha : a < D.kept.length) (hs : s.size = 256) (hw : D.writes < 1000000) :
    Calls Tryz.prog 34 #[.agg #[.slice (some ⟨lb, 0, none⟩) D.kept.length lc, .slice wa D.waits.length wc, .int .i64 (D.fuse : Int), .int .i64 (D.writes : Int), .bool (!D.up)], .int .i64 (a : Int), .string s] w fun e w' => ∃ lb' lc' wa' wc', e = .returned (.tuple #[.agg (rcells lb' lc' wa' wc' (D.wrote a s)), .int .i64 0]) ∧ RefAt w' lb' lc' wa' wc' (D.wrote a s) ∧ RefTo w w' lb wa lb' wa' := by
  obtain ⟨i0, hi, hz0, hz1, hz2⟩ := info_parts info92
  have hr0 : D.reach (a : Int) = 0 := by unfold Dk.reach; rw [if_pos hu, if_neg (by omega)]
  have HWY := fun W => why_exact (w := W) (lb := lb) (lc := lc) (wa := wa) (wc := wc) (D := D) false (by rw [hu]; rfl) (a : Int)
  have HH : Hid (RefAt w lb lc wa wc D) := h
  have hN6 : D.waits.length ≤ D.writes := h.ok.ww
  obtain ⟨N, hN⟩ : ∃ N, D.waits.length = N := ⟨_, rfl⟩
  obtain ⟨n, hn⟩ : ∃ n, D.kept.length = n := ⟨_, rfl⟩
  obtain ⟨b, hb⟩ : ∃ b, w.heap.size = b := ⟨_, rfl⟩
  obtain ⟨W1, hW1⟩ : ∃ W, w.alloc (.cells #[.slice (some ⟨lb, 0, none⟩) n lc, .slice wa N wc, .int .i64 0, .int .i64 (D.writes : Int), .bool false] 32) = W := ⟨_, rfl⟩
  obtain ⟨r, hr⟩ : ∃ r, W1.heap.size = r := ⟨_, rfl⟩
  obtain ⟨W2, hW2⟩ : ∃ W, W1.alloc (.cells #[.slice none 0 0, .slice none 0 0, .int .i64 0, .int .i64 0, .bool false] 32) = W := ⟨_, rfl⟩
  obtain ⟨W3, hW3⟩ : ∃ W, W2.alloc (.cells #[.slice (some ⟨lb, 0, none⟩) n lc, .slice wa N wc, .int .i64 0, .int .i64 (D.writes : Int), .bool false] 32) = W := ⟨_, rfl⟩
  have hb1 : Below w.heap.size w W1 := by rw [← hW1]; exact (Below.refl _ w).alloc (Nat.le_refl _) _
  have hb2 : Below W1.heap.size W1 W2 := by rw [← hW2]; exact (Below.refl _ W1).alloc (Nat.le_refl _) _
  have hb3 : Below W2.heap.size W2 W3 := by rw [← hW3]; exact (Below.refl _ W2).alloc (Nat.le_refl _) _
  have hrb1 : W1.heap[b]? = some (.cells #[.slice (some ⟨lb, 0, none⟩) n lc, .slice wa N wc, .int .i64 0, .int .i64 (D.writes : Int), .bool false] 32 (0, 0)) := by rw [← hW1, ← hb]; exact heap_alloc_new w _
  have hbr : b < r := by rw [← hr]; exact lt_of_some hrb1
  have hrr2 : W2.heap[r]? = some (.cells #[.slice none 0 0, .slice none 0 0, .int .i64 0, .int .i64 0, .bool false] 32 (0, 0)) := by rw [← hW2, ← hr]; exact heap_alloc_new W1 _
  have hr2 : r < W2.heap.size := lt_of_some hrr2
  have hrb3 : W3.heap[b]? = some (.cells #[.slice (some ⟨lb, 0, none⟩) n lc, .slice wa N wc, .int .i64 0, .int .i64 (D.writes : Int), .bool false] 32 (0, 0)) := (hb3.block b (by omega)).trans ((hb2.block b (by omega)).trans hrb1)
  have hrr3 : W3.heap[r]? = some (.cells #[.slice none 0 0, .slice none 0 0, .int .i64 0, .int .i64 0, .bool false] 32 (0, 0)) := (hb3.block r hr2).trans hrr2
  have hbw3 : Below w.heap.size w W3 := (hb1.trans (hb2.mono hb1.size)).trans (hb3.mono (Nat.le_trans hb1.size hb2.size))
  have hr3 : r < W3.heap.size := lt_of_some hrr3
  have d0 : W2.cell? ⟨b, 0, none⟩ = some (.slice (some ⟨lb, 0, none⟩) n lc) := by rw [cell_of_row _ b _ _ _ _ ((hb2.block b (by omega)).trans hrb1)]; rfl
  have d1 : W2.cell? ⟨b, 1, none⟩ = some (.slice wa N wc) := by rw [cell_of_row _ b _ _ _ _ ((hb2.block b (by omega)).trans hrb1)]; rfl
  have d2 : W2.cell? ⟨b, 2, none⟩ = some (.int .i64 0) := by rw [cell_of_row _ b _ _ _ _ ((hb2.block b (by omega)).trans hrb1)]; rfl
  have d3 : W2.cell? ⟨b, 3, none⟩ = some (.int .i64 (D.writes : Int)) := by rw [cell_of_row _ b _ _ _ _ ((hb2.block b (by omega)).trans hrb1)]; rfl
  have d4 : W2.cell? ⟨b, 4, none⟩ = some (.bool false) := by rw [cell_of_row _ b _ _ _ _ ((hb2.block b (by omega)).trans hrb1)]; rfl
  have e1 : W3.cell? ⟨b, 1, none⟩ = some (.slice wa N wc) := by rw [cell_of_row _ b _ _ _ _ hrb3]; rfl
  have hq3 := (h.below hbw3).q
  have hsz : (s.size : Int) = 256 := by omega
  rw [hN] at hq3 hN6
  have hfi : (D.fuse : Int) = 0 := by omega
  have HWY2 := HWY W2
  rw [hN, hn, hfi, hr0] at HWY2
  rw [hN, hn, hfi, hu, Bool.not_true]
  rw [hn] at ha
  have HZ : Hid (N = 0 → wa = none ∧ wc = 0) := by rw [← hN]; exact h.z
  have H3b : Hid _ := hrb3
  have H3r : Hid _ := hrr3
  have HW3 : Hid (Below w.heap.size w W3) := hbw3
  have HQ3 : Hid (W3.ownsRow 0 95 2 (.slice wa N wc) N (wtsV D.waits)) := hq3
  have hb3' : b < W3.heap.size := by omega
  clear h hb1 hb2 hb3 hrb1 hrr2 hrb3 hrr3 hbw3 hq3 HWY hfi hr2
  go_enter Tryz.func34, Tryz.ntmps34
  go_wp2_with fail
  refine HWY2.mono ?_
  rintro e w3 ⟨rfl, hw3⟩
  rw [hW3] at hw3
  subst w3
  clear HWY2 d0 d1 d2 d3 d4 hW1 hW2 hW3 hr
  by_cases hN0 : N = 0
  · subst hN0
    obtain ⟨rfl, rfl⟩ := HZ.out rfl
    have hwz : D.waits = [] := List.eq_nil_of_length_eq_zero hN
    have HWZ : Hid (D.waits = []) := hwz
    have hap : ∀ (ty : TypeId) (W : World), (Builtin.append_ #[30, 30] ty #[.slice none 0 0, .slice none 0 0]).run Tryz.prog W = .ok (.slice none 0 0) W := fun ty W => run_append_owned_none (P := Tryz.prog) (w := W) 0 30 ty 95 i0 2 Tryz.underlying30 hi _ 0 [] (World.ownsRow_nil _ _ _ _)
    obtain ⟨w4, hw4⟩ : ∃ w4, W3 = w4 := ⟨_, rfl⟩
    obtain ⟨lv, hlv⟩ : ∃ lv, Value.slice none 0 0 = lv := ⟨_, rfl⟩
    have HO4 : Hid (W3.ownsRow 0 95 2 (.slice none 0 0) 0 (wtsV D.waits)) := HQ3
    have HG4 : Hid (∀ y, (Value.slice none 0 0).ownBlock = some y → r < y) := by intro y hy; simp [Value.ownBlock] at hy
    clear hwz hw4 w4 hlv lv
    go_wp2_with (at_builtin; refine wpList_append_lies _ rfl _ _ 30 rfl 0 95 i0 (.agg #[.int .i64 0, .string ByteArray.empty]) 2 24 Tryz.underlying30 hi hz0 hz1 hz2 rfl (by decide) _ 0 (wtsV D.waits) rfl (HO4.out.alloc _) ⟨W3.heap.size, 0, none⟩ 1 1 [.int .i64 (a : Int), .string s] rfl rfl (World.news_of_block (heap_alloc_new W3 _)) (by simp [Value.oneCell']) (by omega) (by unfold maxLen; omega) (by omega) (Nat.zero_le _) _ rfl ?_)
    intro g' c' V hown hgrow hg hlt
    have HOV : Hid (V.ownsRow 0 95 2 (.slice (some ⟨g', 0, none⟩) (0 + 1) c') (0 + 1) (wtsV (D.wrote a s).waits)) := by
      show _
      rw [show (D.wrote a s).waits = D.waits ++ [(a, s)] from rfl, wtsV_snoc]
      exact hown
    have hgl : r < g' := by
      rcases hg with hg | hg
      · exact HG4.out g' hg
      · first | omega | (rw [hg]; simp; omega)
    have hV4 : ∀ x, x < W3.heap.size → (∀ y, (Value.slice none 0 0).ownBlock = some y → x ≠ y) → V.heap[x]? = W3.heap[x]? := fun x hx hne => by
      rw [hgrow.block x (by simp; omega) (fun e => hne x e.symm rfl), Below.heap_alloc _ _ _ hx]
    have hVb : V.heap[b]? = some (.cells #[.slice (some ⟨lb, 0, none⟩) n lc, .slice none 0 0, .int .i64 0, .int .i64 (D.writes : Int), .bool false] 32 (0, 0)) := by rw [hV4 b (by omega) (fun y hy => by have := HG4.out y hy; omega)]; exact H3b.out
    have hVr : V.heap[r]? = some (.cells #[.slice none 0 0, .slice none 0 0, .int .i64 0, .int .i64 0, .bool false] 32 (0, 0)) := by rw [hV4 r (by omega) (fun y hy => by have := HG4.out y hy; omega)]; exact H3r.out
    have HVw : Hid (Below w.heap.size w V) := by
      refine Below.grown (HW3.out.alloc HW3.out.size _) hgrow (by have := HW3.out.size; simp; omega) (fun k hk => ?_)
      have := HG4.out k hk
      omega
    clear hown hgrow hg hlt hV4
    have c0 : V.cell? ⟨b, 0, none⟩ = some (.slice (some ⟨lb, 0, none⟩) n lc) := by rw [cell_of_row _ b _ _ _ _ hVb]; rfl
    have c1 : V.cell? ⟨b, 1, none⟩ = some (.slice none 0 0) := by rw [cell_of_row _ b _ _ _ _ hVb]; rfl
    have c2 : V.cell? ⟨b, 2, none⟩ = some (.int .i64 0) := by rw [cell_of_row _ b _ _ _ _ hVb]; rfl
    have c3 : V.cell? ⟨b, 3, none⟩ = some (.int .i64 (D.writes : Int)) := by rw [cell_of_row _ b _ _ _ _ hVb]; rfl
    have c4 : V.cell? ⟨b, 4, none⟩ = some (.bool false) := by rw [cell_of_row _ b _ _ _ _ hVb]; rfl
    have fb : ∀ k, V.frozen? ⟨b, k, none⟩ = false := fun k => frozen_of_row V b k _ _ hVb
    have z0 : V.cell? ⟨r, 0, none⟩ = some (.slice none 0 0) := by rw [cell_of_row _ r _ _ _ _ hVr]; rfl
    have z1 : V.cell? ⟨r, 1, none⟩ = some (.slice none 0 0) := by rw [cell_of_row _ r _ _ _ _ hVr]; rfl
    have z2 : V.cell? ⟨r, 2, none⟩ = some (.int .i64 0) := by rw [cell_of_row _ r _ _ _ _ hVr]; rfl
    have z3 : V.cell? ⟨r, 3, none⟩ = some (.int .i64 0) := by rw [cell_of_row _ r _ _ _ _ hVr]; rfl
    have z4 : V.cell? ⟨r, 4, none⟩ = some (.bool false) := by rw [cell_of_row _ r _ _ _ _ hVr]; rfl
    have fr : ∀ k, V.frozen? ⟨r, k, none⟩ = false := fun k => frozen_of_row V r k _ _ hVr
    have nbr : ¬ b = r := by omega
    have nrb : ¬ r = b := by omega
    have kwr : (D.writes : Int) + 1 ≤ 1000000 := by omega
    clear hVb hVr
    go_wp2
    refine bodyPost_ret (v := .tuple #[.agg #[.slice (some ⟨lb, 0, none⟩) n lc, .slice (some ⟨g', 0, none⟩) (0 + 1) c', .int .i64 0, .int .i64 ((D.writes + 1 : Nat) : Int), .bool false], .int .i64 0]) ?_ rfl ⟨lb, lc, some ⟨g', 0, none⟩, c', ?_, ?_, .inl rfl, ?_, ?_⟩
    · simp [results, go_sem, z0, z1, z2, z3, z4]
    · rw [show rcells lb lc (some ⟨g', 0, none⟩) c' (D.wrote a s) = _ from rfl]
      simp [rcells, Dk.wrote, hn, hN, hfu]
    · have hD : (D.wrote a s).waits.length = 0 + 1 := by show (D.waits ++ [(a, s)]).length = _; rw [List.length_append, hN]; rfl
      refine ⟨HH.out.ok.wrote a s (by omega) (by omega), ?_, ?_, fun h => by omega⟩
      · refine own_keep HH.out.l (fun x hx => ?_)
        rw [ob_slice] at hx
        cases hx
        have n1 : lb ≠ b := by have := HH.out.lt.1; omega
        have n2 : lb ≠ r := by have := HH.out.lt.1; omega
        rw [heap_setCell_other _ _ _ _ n2, heap_setCell_other _ _ _ _ n2, heap_setCell_other _ _ _ _ n2, heap_setCell_other _ _ _ _ n2, heap_setCell_other _ _ _ _ n2, heap_setCell_other _ _ _ _ n1, heap_setCell_other _ _ _ _ n1]
        exact HVw.out.block lb HH.out.lt.1
      · rw [hD]
        refine own_keep HOV.out (fun x hx => ?_)
        rw [ob_slice] at hx
        cases hx
        have n1 : g' ≠ b := by omega
        have n2 : g' ≠ r := by omega
        rw [heap_setCell_other _ _ _ _ n2, heap_setCell_other _ _ _ _ n2, heap_setCell_other _ _ _ _ n2, heap_setCell_other _ _ _ _ n2, heap_setCell_other _ _ _ _ n2, heap_setCell_other _ _ _ _ n1, heap_setCell_other _ _ _ _ n1]
    · intro x hx
      cases hx
      right
      show _ ≤ g'
      omega
    · have hrb : b ≤ r := by omega
      have hwb : w.heap.size ≤ b := by omega
      have hwr : w.heap.size ≤ r := by omega
      have hvb := HVw.out
      first | exact (((((((hvb.setCell (p := ⟨b, _, none⟩) hwb _).setCell (p := ⟨b, _, none⟩) hwb _).setCell (p := ⟨r, _, none⟩) hwr _).setCell (p := ⟨r, _, none⟩) hwr _).setCell (p := ⟨r, _, none⟩) hwr _).setCell (p := ⟨r, _, none⟩) hwr _).setCell (p := ⟨r, _, none⟩) hwr _) | (rw [hb] at hvb; exact (((((((hvb.setCell (p := ⟨b, _, none⟩) (Nat.le_refl _) _).setCell (p := ⟨b, _, none⟩) (Nat.le_refl _) _).setCell (p := ⟨r, _, none⟩) hrb _).setCell (p := ⟨r, _, none⟩) hrb _).setCell (p := ⟨r, _, none⟩) hrb _).setCell (p := ⟨r, _, none⟩) hrb _).setCell (p := ⟨r, _, none⟩) hrb _))
  · obtain ⟨wb, hwb⟩ : ∃ wb, wa = some ⟨wb, 0, none⟩ := by
      rcases HQ3.out.2 with ⟨_, h2⟩ | ⟨g', cap', cur, e, _⟩
      · omega
      · cases e; exact ⟨g', rfl⟩
    subst hwb
    go_wp2_with (at_builtin; refine wpList_append_lies _ rfl _ _ 30 rfl 0 95 i0 (.agg #[.int .i64 0, .string ByteArray.empty]) 2 24 Tryz.underlying30 hi hz0 hz1 hz2 rfl (by decide) _ 0 [] rfl (World.ownsRow_nil _ _ _ _) ⟨wb, 0, none⟩ N wc (wtsV D.waits) rfl (by rw [wtsV_len, hN]) (fun j u hu => by rw [add_at, Nat.zero_add]; exact own_at HQ3.out hu) (wtsV_one _) (by omega) (by unfold maxLen; omega) (by omega) (Nat.zero_le _) _ rfl ?_)
    intro g4 c4' w4 hown hgrow hg hlt
    obtain rfl : g4 = W3.heap.size := by
      rcases hg with hg | hg
      · simp [Value.ownBlock] at hg
      · exact hg
    try simp only [Nat.zero_add, List.nil_append] at hown
    have h34 : ∀ x, x < W3.heap.size → w4.heap[x]? = W3.heap[x]? := fun x hx => hgrow.block x hx (by simp [Value.ownBlock])
    have hs4 : W3.heap.size < w4.heap.size := hlt
    obtain ⟨lv, hlv⟩ : ∃ lv, Value.slice (some ⟨W3.heap.size, 0, none⟩) N c4' = lv := ⟨_, rfl⟩
    have HO4 : Hid (w4.ownsRow 0 95 2 (.slice (some ⟨W3.heap.size, 0, none⟩) N c4') N (wtsV D.waits)) := hown
    have HG4 : Hid (∀ y, (Value.slice (some ⟨W3.heap.size, 0, none⟩) N c4').ownBlock = some y → r < y) := by
      intro y hy
      simp [Value.ownBlock] at hy
      omega
    have H4b : Hid _ := (h34 b (by omega)).trans H3b.out
    have H4r : Hid _ := (h34 r (by omega)).trans H3r.out
    have f1 : w4.cell? ⟨b, 1, none⟩ = some (.slice (some ⟨wb, 0, none⟩) N wc) := by rw [World.cell?_of_block (w := W3) (h34 b (by omega))]; exact e1
    have HW4 : Hid (Below w.heap.size w w4) := HW3.out.grown hgrow HW3.out.size (by intro k hk; simp [Value.ownBlock] at hk)
    have hb4 : b < w4.heap.size := by omega
    have hr4 : r < w4.heap.size := by omega
    clear hown hgrow hg hlt h34 hlv lv
    go_wp2_with (at_builtin; refine wpList_append_lies _ rfl _ _ 30 rfl 0 95 i0 (.agg #[.int .i64 0, .string ByteArray.empty]) 2 24 Tryz.underlying30 hi hz0 hz1 hz2 rfl (by decide) _ N (wtsV D.waits) rfl (HO4.out.alloc _) ⟨w4.heap.size, 0, none⟩ 1 1 [.int .i64 (a : Int), .string s] rfl rfl (World.news_of_block (heap_alloc_new w4 _)) (by simp [Value.oneCell']) (by omega) (by unfold maxLen; omega) (by omega) (Nat.zero_le _) _ rfl ?_)
    intro g' c' V hown hgrow hg hlt
    have HOV : Hid (V.ownsRow 0 95 2 (.slice (some ⟨g', 0, none⟩) (N + 1) c') (N + 1) (wtsV (D.wrote a s).waits)) := by
      show _
      rw [show (D.wrote a s).waits = D.waits ++ [(a, s)] from rfl, wtsV_snoc]
      exact hown
    have hgl : r < g' := by
      rcases hg with hg | hg
      · exact HG4.out g' hg
      · first | omega | (rw [hg]; simp; omega)
    have hV4 : ∀ x, x < w4.heap.size → (∀ y, (Value.slice (some ⟨W3.heap.size, 0, none⟩) N c4').ownBlock = some y → x ≠ y) → V.heap[x]? = w4.heap[x]? := fun x hx hne => by
      rw [hgrow.block x (by simp; omega) (fun e => hne x e.symm rfl), Below.heap_alloc _ _ _ hx]
    have hVb : V.heap[b]? = some (.cells #[.slice (some ⟨lb, 0, none⟩) n lc, .slice (some ⟨wb, 0, none⟩) N wc, .int .i64 0, .int .i64 (D.writes : Int), .bool false] 32 (0, 0)) := by rw [hV4 b (by omega) (fun y hy => by have := HG4.out y hy; omega)]; exact H4b.out
    have hVr : V.heap[r]? = some (.cells #[.slice none 0 0, .slice none 0 0, .int .i64 0, .int .i64 0, .bool false] 32 (0, 0)) := by rw [hV4 r (by omega) (fun y hy => by have := HG4.out y hy; omega)]; exact H4r.out
    have HVw : Hid (Below w.heap.size w V) := by
      refine Below.grown (HW4.out.alloc HW4.out.size _) hgrow (by have := HW4.out.size; simp; omega) (fun k hk => ?_)
      have := HG4.out k hk
      omega
    clear hown hgrow hg hlt hV4
    have c0 : V.cell? ⟨b, 0, none⟩ = some (.slice (some ⟨lb, 0, none⟩) n lc) := by rw [cell_of_row _ b _ _ _ _ hVb]; rfl
    have c1 : V.cell? ⟨b, 1, none⟩ = some (.slice (some ⟨wb, 0, none⟩) N wc) := by rw [cell_of_row _ b _ _ _ _ hVb]; rfl
    have c2 : V.cell? ⟨b, 2, none⟩ = some (.int .i64 0) := by rw [cell_of_row _ b _ _ _ _ hVb]; rfl
    have c3 : V.cell? ⟨b, 3, none⟩ = some (.int .i64 (D.writes : Int)) := by rw [cell_of_row _ b _ _ _ _ hVb]; rfl
    have c4 : V.cell? ⟨b, 4, none⟩ = some (.bool false) := by rw [cell_of_row _ b _ _ _ _ hVb]; rfl
    have fb : ∀ k, V.frozen? ⟨b, k, none⟩ = false := fun k => frozen_of_row V b k _ _ hVb
    have z0 : V.cell? ⟨r, 0, none⟩ = some (.slice none 0 0) := by rw [cell_of_row _ r _ _ _ _ hVr]; rfl
    have z1 : V.cell? ⟨r, 1, none⟩ = some (.slice none 0 0) := by rw [cell_of_row _ r _ _ _ _ hVr]; rfl
    have z2 : V.cell? ⟨r, 2, none⟩ = some (.int .i64 0) := by rw [cell_of_row _ r _ _ _ _ hVr]; rfl
    have z3 : V.cell? ⟨r, 3, none⟩ = some (.int .i64 0) := by rw [cell_of_row _ r _ _ _ _ hVr]; rfl
    have z4 : V.cell? ⟨r, 4, none⟩ = some (.bool false) := by rw [cell_of_row _ r _ _ _ _ hVr]; rfl
    have fr : ∀ k, V.frozen? ⟨r, k, none⟩ = false := fun k => frozen_of_row V r k _ _ hVr
    have nbr : ¬ b = r := by omega
    have nrb : ¬ r = b := by omega
    have kwr : (D.writes : Int) + 1 ≤ 1000000 := by omega
    clear hVb hVr
    go_wp2
    refine bodyPost_ret (v := .tuple #[.agg #[.slice (some ⟨lb, 0, none⟩) n lc, .slice (some ⟨g', 0, none⟩) (N + 1) c', .int .i64 0, .int .i64 ((D.writes + 1 : Nat) : Int), .bool false], .int .i64 0]) ?_ rfl ⟨lb, lc, some ⟨g', 0, none⟩, c', ?_, ?_, .inl rfl, ?_, ?_⟩
    · simp [results, go_sem, z0, z1, z2, z3, z4]
    · rw [show rcells lb lc (some ⟨g', 0, none⟩) c' (D.wrote a s) = _ from rfl]
      simp [rcells, Dk.wrote, hn, hN, hfu]
    · have hD : (D.wrote a s).waits.length = N + 1 := by show (D.waits ++ [(a, s)]).length = _; rw [List.length_append, hN]; rfl
      refine ⟨HH.out.ok.wrote a s (by omega) (by omega), ?_, ?_, fun h => by omega⟩
      · refine own_keep HH.out.l (fun x hx => ?_)
        rw [ob_slice] at hx
        cases hx
        have n1 : lb ≠ b := by have := HH.out.lt.1; omega
        have n2 : lb ≠ r := by have := HH.out.lt.1; omega
        rw [heap_setCell_other _ _ _ _ n2, heap_setCell_other _ _ _ _ n2, heap_setCell_other _ _ _ _ n2, heap_setCell_other _ _ _ _ n2, heap_setCell_other _ _ _ _ n2, heap_setCell_other _ _ _ _ n1, heap_setCell_other _ _ _ _ n1]
        exact HVw.out.block lb HH.out.lt.1
      · rw [hD]
        refine own_keep HOV.out (fun x hx => ?_)
        rw [ob_slice] at hx
        cases hx
        have n1 : g' ≠ b := by omega
        have n2 : g' ≠ r := by omega
        rw [heap_setCell_other _ _ _ _ n2, heap_setCell_other _ _ _ _ n2, heap_setCell_other _ _ _ _ n2, heap_setCell_other _ _ _ _ n2, heap_setCell_other _ _ _ _ n2, heap_setCell_other _ _ _ _ n1, heap_setCell_other _ _ _ _ n1]
    · intro x hx
      cases hx
      right
      show _ ≤ g'
      omega
    · have hrb : b ≤ r := by omega
      have hwb : w.heap.size ≤ b := by omega
      have hwr : w.heap.size ≤ r := by omega
      have hvb := HVw.out
      first | exact (((((((hvb.setCell (p := ⟨b, _, none⟩) hwb _).setCell (p := ⟨b, _, none⟩) hwb _).setCell (p := ⟨r, _, none⟩) hwr _).setCell (p := ⟨r, _, none⟩) hwr _).setCell (p := ⟨r, _, none⟩) hwr _).setCell (p := ⟨r, _, none⟩) hwr _).setCell (p := ⟨r, _, none⟩) hwr _) | (rw [hb] at hvb; exact (((((((hvb.setCell (p := ⟨b, _, none⟩) (Nat.le_refl _) _).setCell (p := ⟨b, _, none⟩) (Nat.le_refl _) _).setCell (p := ⟨r, _, none⟩) hrb _).setCell (p := ⟨r, _, none⟩) hrb _).setCell (p := ⟨r, _, none⟩) hrb _).setCell (p := ⟨r, _, none⟩) hrb _).setCell (p := ⟨r, _, none⟩) hrb _))
set_option maxRecDepth 100000 in
set_option maxHeartbeats 4000000 in
theorem rwrite_one {w : World} {lb lc : Nat} {wa : Option Addr} {wc : Nat} {D : Dk} (h : RefAt w lb lc wa wc D) (hfu : D.fuse = 1) (a : Nat) (s : ByteArray) (hu : D.up = true) (ha : a < D.kept.length) (hs : s.size = 256) (hw : D.writes < 1000000) :
    Calls Tryz.prog 34 #[.agg #[.slice (some ⟨lb, 0, none⟩) D.kept.length lc, .slice wa D.waits.length wc, .int .i64 (D.fuse : Int), .int .i64 (D.writes : Int), .bool (!D.up)], .int .i64 (a : Int), .string s] w fun e w' => ∃ lb' lc' wa' wc', e = .returned (.tuple #[.agg (rcells lb' lc' wa' wc' (D.wrote a s)), .int .i64 0]) ∧ RefAt w' lb' lc' wa' wc' (D.wrote a s) ∧ RefTo w w' lb wa lb' wa' := by
  obtain ⟨i0, hi, hz0, hz1, hz2⟩ := info_parts info92
  have hr0 : D.reach (a : Int) = 0 := by unfold Dk.reach; rw [if_pos hu, if_neg (by omega)]
  have HWY := fun W => why_exact (w := W) (lb := lb) (lc := lc) (wa := wa) (wc := wc) (D := D) false (by rw [hu]; rfl) (a : Int)
  have HH : Hid (RefAt w lb lc wa wc D) := h
  have hN6 : D.waits.length ≤ D.writes := h.ok.ww
  obtain ⟨N, hN⟩ : ∃ N, D.waits.length = N := ⟨_, rfl⟩
  obtain ⟨n, hn⟩ : ∃ n, D.kept.length = n := ⟨_, rfl⟩
  obtain ⟨b, hb⟩ : ∃ b, w.heap.size = b := ⟨_, rfl⟩
  obtain ⟨W1, hW1⟩ : ∃ W, w.alloc (.cells #[.slice (some ⟨lb, 0, none⟩) n lc, .slice wa N wc, .int .i64 1, .int .i64 (D.writes : Int), .bool false] 32) = W := ⟨_, rfl⟩
  obtain ⟨r, hr⟩ : ∃ r, W1.heap.size = r := ⟨_, rfl⟩
  obtain ⟨W2, hW2⟩ : ∃ W, W1.alloc (.cells #[.slice none 0 0, .slice none 0 0, .int .i64 0, .int .i64 0, .bool false] 32) = W := ⟨_, rfl⟩
  obtain ⟨W3, hW3⟩ : ∃ W, W2.alloc (.cells #[.slice (some ⟨lb, 0, none⟩) n lc, .slice wa N wc, .int .i64 1, .int .i64 (D.writes : Int), .bool false] 32) = W := ⟨_, rfl⟩
  have hb1 : Below w.heap.size w W1 := by rw [← hW1]; exact (Below.refl _ w).alloc (Nat.le_refl _) _
  have hb2 : Below W1.heap.size W1 W2 := by rw [← hW2]; exact (Below.refl _ W1).alloc (Nat.le_refl _) _
  have hb3 : Below W2.heap.size W2 W3 := by rw [← hW3]; exact (Below.refl _ W2).alloc (Nat.le_refl _) _
  have hrb1 : W1.heap[b]? = some (.cells #[.slice (some ⟨lb, 0, none⟩) n lc, .slice wa N wc, .int .i64 1, .int .i64 (D.writes : Int), .bool false] 32 (0, 0)) := by rw [← hW1, ← hb]; exact heap_alloc_new w _
  have hbr : b < r := by rw [← hr]; exact lt_of_some hrb1
  have hrr2 : W2.heap[r]? = some (.cells #[.slice none 0 0, .slice none 0 0, .int .i64 0, .int .i64 0, .bool false] 32 (0, 0)) := by rw [← hW2, ← hr]; exact heap_alloc_new W1 _
  have hr2 : r < W2.heap.size := lt_of_some hrr2
  have hrb3 : W3.heap[b]? = some (.cells #[.slice (some ⟨lb, 0, none⟩) n lc, .slice wa N wc, .int .i64 1, .int .i64 (D.writes : Int), .bool false] 32 (0, 0)) := (hb3.block b (by omega)).trans ((hb2.block b (by omega)).trans hrb1)
  have hrr3 : W3.heap[r]? = some (.cells #[.slice none 0 0, .slice none 0 0, .int .i64 0, .int .i64 0, .bool false] 32 (0, 0)) := (hb3.block r hr2).trans hrr2
  have hbw3 : Below w.heap.size w W3 := (hb1.trans (hb2.mono hb1.size)).trans (hb3.mono (Nat.le_trans hb1.size hb2.size))
  have hr3 : r < W3.heap.size := lt_of_some hrr3
  have d0 : W2.cell? ⟨b, 0, none⟩ = some (.slice (some ⟨lb, 0, none⟩) n lc) := by rw [cell_of_row _ b _ _ _ _ ((hb2.block b (by omega)).trans hrb1)]; rfl
  have d1 : W2.cell? ⟨b, 1, none⟩ = some (.slice wa N wc) := by rw [cell_of_row _ b _ _ _ _ ((hb2.block b (by omega)).trans hrb1)]; rfl
  have d2 : W2.cell? ⟨b, 2, none⟩ = some (.int .i64 1) := by rw [cell_of_row _ b _ _ _ _ ((hb2.block b (by omega)).trans hrb1)]; rfl
  have d3 : W2.cell? ⟨b, 3, none⟩ = some (.int .i64 (D.writes : Int)) := by rw [cell_of_row _ b _ _ _ _ ((hb2.block b (by omega)).trans hrb1)]; rfl
  have d4 : W2.cell? ⟨b, 4, none⟩ = some (.bool false) := by rw [cell_of_row _ b _ _ _ _ ((hb2.block b (by omega)).trans hrb1)]; rfl
  have e1 : W3.cell? ⟨b, 1, none⟩ = some (.slice wa N wc) := by rw [cell_of_row _ b _ _ _ _ hrb3]; rfl
  have hq3 := (h.below hbw3).q
  have hsz : (s.size : Int) = 256 := by omega
  rw [hN] at hq3 hN6
  have hfi : (D.fuse : Int) = 1 := by omega
  have HWY2 := HWY W2
  rw [hN, hn, hfi, hr0] at HWY2
  rw [hN, hn, hfi, hu, Bool.not_true]
  rw [hn] at ha
  have HZ : Hid (N = 0 → wa = none ∧ wc = 0) := by rw [← hN]; exact h.z
  have H3b : Hid _ := hrb3
  have H3r : Hid _ := hrr3
  have HW3 : Hid (Below w.heap.size w W3) := hbw3
  have HQ3 : Hid (W3.ownsRow 0 95 2 (.slice wa N wc) N (wtsV D.waits)) := hq3
  have hb3' : b < W3.heap.size := by omega
  clear h hb1 hb2 hb3 hrb1 hrr2 hrb3 hrr3 hbw3 hq3 HWY hfi hr2
  go_enter Tryz.func34, Tryz.ntmps34
  go_wp2_with fail
  refine HWY2.mono ?_
  rintro e w3 ⟨rfl, hw3⟩
  rw [hW3] at hw3
  subst w3
  clear HWY2 d0 d1 d2 d3 d4 hW1 hW2 hW3 hr
  by_cases hN0 : N = 0
  · subst hN0
    obtain ⟨rfl, rfl⟩ := HZ.out rfl
    have hwz : D.waits = [] := List.eq_nil_of_length_eq_zero hN
    have HWZ : Hid (D.waits = []) := hwz
    have hap : ∀ (ty : TypeId) (W : World), (Builtin.append_ #[30, 30] ty #[.slice none 0 0, .slice none 0 0]).run Tryz.prog W = .ok (.slice none 0 0) W := fun ty W => run_append_owned_none (P := Tryz.prog) (w := W) 0 30 ty 95 i0 2 Tryz.underlying30 hi _ 0 [] (World.ownsRow_nil _ _ _ _)
    obtain ⟨w4, hw4⟩ : ∃ w4, W3 = w4 := ⟨_, rfl⟩
    obtain ⟨lv, hlv⟩ : ∃ lv, Value.slice none 0 0 = lv := ⟨_, rfl⟩
    have HO4 : Hid (W3.ownsRow 0 95 2 (.slice none 0 0) 0 (wtsV D.waits)) := HQ3
    have HG4 : Hid (∀ y, (Value.slice none 0 0).ownBlock = some y → r < y) := by intro y hy; simp [Value.ownBlock] at hy
    clear hwz hw4 w4 hlv lv
    go_wp2_with (at_builtin; refine wpList_append_lies _ rfl _ _ 30 rfl 0 95 i0 (.agg #[.int .i64 0, .string ByteArray.empty]) 2 24 Tryz.underlying30 hi hz0 hz1 hz2 rfl (by decide) _ 0 (wtsV D.waits) rfl (HO4.out.alloc _) ⟨W3.heap.size, 0, none⟩ 1 1 [.int .i64 (a : Int), .string s] rfl rfl (World.news_of_block (heap_alloc_new W3 _)) (by simp [Value.oneCell']) (by omega) (by unfold maxLen; omega) (by omega) (Nat.zero_le _) _ rfl ?_)
    intro g' c' V hown hgrow hg hlt
    have HOV : Hid (V.ownsRow 0 95 2 (.slice (some ⟨g', 0, none⟩) (0 + 1) c') (0 + 1) (wtsV (D.wrote a s).waits)) := by
      show _
      rw [show (D.wrote a s).waits = D.waits ++ [(a, s)] from rfl, wtsV_snoc]
      exact hown
    have hgl : r < g' := by
      rcases hg with hg | hg
      · exact HG4.out g' hg
      · first | omega | (rw [hg]; simp; omega)
    have hV4 : ∀ x, x < W3.heap.size → (∀ y, (Value.slice none 0 0).ownBlock = some y → x ≠ y) → V.heap[x]? = W3.heap[x]? := fun x hx hne => by
      rw [hgrow.block x (by simp; omega) (fun e => hne x e.symm rfl), Below.heap_alloc _ _ _ hx]
    have hVb : V.heap[b]? = some (.cells #[.slice (some ⟨lb, 0, none⟩) n lc, .slice none 0 0, .int .i64 1, .int .i64 (D.writes : Int), .bool false] 32 (0, 0)) := by rw [hV4 b (by omega) (fun y hy => by have := HG4.out y hy; omega)]; exact H3b.out
    have hVr : V.heap[r]? = some (.cells #[.slice none 0 0, .slice none 0 0, .int .i64 0, .int .i64 0, .bool false] 32 (0, 0)) := by rw [hV4 r (by omega) (fun y hy => by have := HG4.out y hy; omega)]; exact H3r.out
    have HVw : Hid (Below w.heap.size w V) := by
      refine Below.grown (HW3.out.alloc HW3.out.size _) hgrow (by have := HW3.out.size; simp; omega) (fun k hk => ?_)
      have := HG4.out k hk
      omega
    clear hown hgrow hg hlt hV4
    have c0 : V.cell? ⟨b, 0, none⟩ = some (.slice (some ⟨lb, 0, none⟩) n lc) := by rw [cell_of_row _ b _ _ _ _ hVb]; rfl
    have c1 : V.cell? ⟨b, 1, none⟩ = some (.slice none 0 0) := by rw [cell_of_row _ b _ _ _ _ hVb]; rfl
    have c2 : V.cell? ⟨b, 2, none⟩ = some (.int .i64 1) := by rw [cell_of_row _ b _ _ _ _ hVb]; rfl
    have c3 : V.cell? ⟨b, 3, none⟩ = some (.int .i64 (D.writes : Int)) := by rw [cell_of_row _ b _ _ _ _ hVb]; rfl
    have c4 : V.cell? ⟨b, 4, none⟩ = some (.bool false) := by rw [cell_of_row _ b _ _ _ _ hVb]; rfl
    have fb : ∀ k, V.frozen? ⟨b, k, none⟩ = false := fun k => frozen_of_row V b k _ _ hVb
    have z0 : V.cell? ⟨r, 0, none⟩ = some (.slice none 0 0) := by rw [cell_of_row _ r _ _ _ _ hVr]; rfl
    have z1 : V.cell? ⟨r, 1, none⟩ = some (.slice none 0 0) := by rw [cell_of_row _ r _ _ _ _ hVr]; rfl
    have z2 : V.cell? ⟨r, 2, none⟩ = some (.int .i64 0) := by rw [cell_of_row _ r _ _ _ _ hVr]; rfl
    have z3 : V.cell? ⟨r, 3, none⟩ = some (.int .i64 0) := by rw [cell_of_row _ r _ _ _ _ hVr]; rfl
    have z4 : V.cell? ⟨r, 4, none⟩ = some (.bool false) := by rw [cell_of_row _ r _ _ _ _ hVr]; rfl
    have fr : ∀ k, V.frozen? ⟨r, k, none⟩ = false := fun k => frozen_of_row V r k _ _ hVr
    have nbr : ¬ b = r := by omega
    have nrb : ¬ r = b := by omega
    have kwr : (D.writes : Int) + 1 ≤ 1000000 := by omega
    clear hVb hVr
    go_wp2
    refine bodyPost_ret (v := .tuple #[.agg #[.slice (some ⟨lb, 0, none⟩) n lc, .slice (some ⟨g', 0, none⟩) (0 + 1) c', .int .i64 0, .int .i64 ((D.writes + 1 : Nat) : Int), .bool true], .int .i64 0]) ?_ rfl ⟨lb, lc, some ⟨g', 0, none⟩, c', ?_, ?_, .inl rfl, ?_, ?_⟩
    · simp [results, go_sem, z0, z1, z2, z3, z4]
    · rw [show rcells lb lc (some ⟨g', 0, none⟩) c' (D.wrote a s) = _ from rfl]
      simp [rcells, Dk.wrote, hn, hN, hfu]
    · have hD : (D.wrote a s).waits.length = 0 + 1 := by show (D.waits ++ [(a, s)]).length = _; rw [List.length_append, hN]; rfl
      refine ⟨HH.out.ok.wrote a s (by omega) (by omega), ?_, ?_, fun h => by omega⟩
      · refine own_keep HH.out.l (fun x hx => ?_)
        rw [ob_slice] at hx
        cases hx
        have n1 : lb ≠ b := by have := HH.out.lt.1; omega
        have n2 : lb ≠ r := by have := HH.out.lt.1; omega
        rw [heap_setCell_other _ _ _ _ n2, heap_setCell_other _ _ _ _ n2, heap_setCell_other _ _ _ _ n2, heap_setCell_other _ _ _ _ n2, heap_setCell_other _ _ _ _ n2, heap_setCell_other _ _ _ _ n1, heap_setCell_other _ _ _ _ n1, heap_setCell_other _ _ _ _ n1, heap_setCell_other _ _ _ _ n1]
        exact HVw.out.block lb HH.out.lt.1
      · rw [hD]
        refine own_keep HOV.out (fun x hx => ?_)
        rw [ob_slice] at hx
        cases hx
        have n1 : g' ≠ b := by omega
        have n2 : g' ≠ r := by omega
        rw [heap_setCell_other _ _ _ _ n2, heap_setCell_other _ _ _ _ n2, heap_setCell_other _ _ _ _ n2, heap_setCell_other _ _ _ _ n2, heap_setCell_other _ _ _ _ n2, heap_setCell_other _ _ _ _ n1, heap_setCell_other _ _ _ _ n1, heap_setCell_other _ _ _ _ n1, heap_setCell_other _ _ _ _ n1]
    · intro x hx
      cases hx
      right
      show _ ≤ g'
      omega
    · have hrb : b ≤ r := by omega
      have hwb : w.heap.size ≤ b := by omega
      have hwr : w.heap.size ≤ r := by omega
      have hvb := HVw.out
      first | exact (((((((((hvb.setCell (p := ⟨b, _, none⟩) hwb _).setCell (p := ⟨b, _, none⟩) hwb _).setCell (p := ⟨b, _, none⟩) hwb _).setCell (p := ⟨b, _, none⟩) hwb _).setCell (p := ⟨r, _, none⟩) hwr _).setCell (p := ⟨r, _, none⟩) hwr _).setCell (p := ⟨r, _, none⟩) hwr _).setCell (p := ⟨r, _, none⟩) hwr _).setCell (p := ⟨r, _, none⟩) hwr _) | (rw [hb] at hvb; exact (((((((((hvb.setCell (p := ⟨b, _, none⟩) (Nat.le_refl _) _).setCell (p := ⟨b, _, none⟩) (Nat.le_refl _) _).setCell (p := ⟨b, _, none⟩) (Nat.le_refl _) _).setCell (p := ⟨b, _, none⟩) (Nat.le_refl _) _).setCell (p := ⟨r, _, none⟩) hrb _).setCell (p := ⟨r, _, none⟩) hrb _).setCell (p := ⟨r, _, none⟩) hrb _).setCell (p := ⟨r, _, none⟩) hrb _).setCell (p := ⟨r, _, none⟩) hrb _))
  · obtain ⟨wb, hwb⟩ : ∃ wb, wa = some ⟨wb, 0, none⟩ := by
      rcases HQ3.out.2 with ⟨_, h2⟩ | ⟨g', cap', cur, e, _⟩
      · omega
      · cases e; exact ⟨g', rfl⟩
    subst hwb
    go_wp2_with (at_builtin; refine wpList_append_lies _ rfl _ _ 30 rfl 0 95 i0 (.agg #[.int .i64 0, .string ByteArray.empty]) 2 24 Tryz.underlying30 hi hz0 hz1 hz2 rfl (by decide) _ 0 [] rfl (World.ownsRow_nil _ _ _ _) ⟨wb, 0, none⟩ N wc (wtsV D.waits) rfl (by rw [wtsV_len, hN]) (fun j u hu => by rw [add_at, Nat.zero_add]; exact own_at HQ3.out hu) (wtsV_one _) (by omega) (by unfold maxLen; omega) (by omega) (Nat.zero_le _) _ rfl ?_)
    intro g4 c4' w4 hown hgrow hg hlt
    obtain rfl : g4 = W3.heap.size := by
      rcases hg with hg | hg
      · simp [Value.ownBlock] at hg
      · exact hg
    try simp only [Nat.zero_add, List.nil_append] at hown
    have h34 : ∀ x, x < W3.heap.size → w4.heap[x]? = W3.heap[x]? := fun x hx => hgrow.block x hx (by simp [Value.ownBlock])
    have hs4 : W3.heap.size < w4.heap.size := hlt
    obtain ⟨lv, hlv⟩ : ∃ lv, Value.slice (some ⟨W3.heap.size, 0, none⟩) N c4' = lv := ⟨_, rfl⟩
    have HO4 : Hid (w4.ownsRow 0 95 2 (.slice (some ⟨W3.heap.size, 0, none⟩) N c4') N (wtsV D.waits)) := hown
    have HG4 : Hid (∀ y, (Value.slice (some ⟨W3.heap.size, 0, none⟩) N c4').ownBlock = some y → r < y) := by
      intro y hy
      simp [Value.ownBlock] at hy
      omega
    have H4b : Hid _ := (h34 b (by omega)).trans H3b.out
    have H4r : Hid _ := (h34 r (by omega)).trans H3r.out
    have f1 : w4.cell? ⟨b, 1, none⟩ = some (.slice (some ⟨wb, 0, none⟩) N wc) := by rw [World.cell?_of_block (w := W3) (h34 b (by omega))]; exact e1
    have HW4 : Hid (Below w.heap.size w w4) := HW3.out.grown hgrow HW3.out.size (by intro k hk; simp [Value.ownBlock] at hk)
    have hb4 : b < w4.heap.size := by omega
    have hr4 : r < w4.heap.size := by omega
    clear hown hgrow hg hlt h34 hlv lv
    go_wp2_with (at_builtin; refine wpList_append_lies _ rfl _ _ 30 rfl 0 95 i0 (.agg #[.int .i64 0, .string ByteArray.empty]) 2 24 Tryz.underlying30 hi hz0 hz1 hz2 rfl (by decide) _ N (wtsV D.waits) rfl (HO4.out.alloc _) ⟨w4.heap.size, 0, none⟩ 1 1 [.int .i64 (a : Int), .string s] rfl rfl (World.news_of_block (heap_alloc_new w4 _)) (by simp [Value.oneCell']) (by omega) (by unfold maxLen; omega) (by omega) (Nat.zero_le _) _ rfl ?_)
    intro g' c' V hown hgrow hg hlt
    have HOV : Hid (V.ownsRow 0 95 2 (.slice (some ⟨g', 0, none⟩) (N + 1) c') (N + 1) (wtsV (D.wrote a s).waits)) := by
      show _
      rw [show (D.wrote a s).waits = D.waits ++ [(a, s)] from rfl, wtsV_snoc]
      exact hown
    have hgl : r < g' := by
      rcases hg with hg | hg
      · exact HG4.out g' hg
      · first | omega | (rw [hg]; simp; omega)
    have hV4 : ∀ x, x < w4.heap.size → (∀ y, (Value.slice (some ⟨W3.heap.size, 0, none⟩) N c4').ownBlock = some y → x ≠ y) → V.heap[x]? = w4.heap[x]? := fun x hx hne => by
      rw [hgrow.block x (by simp; omega) (fun e => hne x e.symm rfl), Below.heap_alloc _ _ _ hx]
    have hVb : V.heap[b]? = some (.cells #[.slice (some ⟨lb, 0, none⟩) n lc, .slice (some ⟨wb, 0, none⟩) N wc, .int .i64 1, .int .i64 (D.writes : Int), .bool false] 32 (0, 0)) := by rw [hV4 b (by omega) (fun y hy => by have := HG4.out y hy; omega)]; exact H4b.out
    have hVr : V.heap[r]? = some (.cells #[.slice none 0 0, .slice none 0 0, .int .i64 0, .int .i64 0, .bool false] 32 (0, 0)) := by rw [hV4 r (by omega) (fun y hy => by have := HG4.out y hy; omega)]; exact H4r.out
    have HVw : Hid (Below w.heap.size w V) := by
      refine Below.grown (HW4.out.alloc HW4.out.size _) hgrow (by have := HW4.out.size; simp; omega) (fun k hk => ?_)
      have := HG4.out k hk
      omega
    clear hown hgrow hg hlt hV4
    have c0 : V.cell? ⟨b, 0, none⟩ = some (.slice (some ⟨lb, 0, none⟩) n lc) := by rw [cell_of_row _ b _ _ _ _ hVb]; rfl
    have c1 : V.cell? ⟨b, 1, none⟩ = some (.slice (some ⟨wb, 0, none⟩) N wc) := by rw [cell_of_row _ b _ _ _ _ hVb]; rfl
    have c2 : V.cell? ⟨b, 2, none⟩ = some (.int .i64 1) := by rw [cell_of_row _ b _ _ _ _ hVb]; rfl
    have c3 : V.cell? ⟨b, 3, none⟩ = some (.int .i64 (D.writes : Int)) := by rw [cell_of_row _ b _ _ _ _ hVb]; rfl
    have c4 : V.cell? ⟨b, 4, none⟩ = some (.bool false) := by rw [cell_of_row _ b _ _ _ _ hVb]; rfl
    have fb : ∀ k, V.frozen? ⟨b, k, none⟩ = false := fun k => frozen_of_row V b k _ _ hVb
    have z0 : V.cell? ⟨r, 0, none⟩ = some (.slice none 0 0) := by rw [cell_of_row _ r _ _ _ _ hVr]; rfl
    have z1 : V.cell? ⟨r, 1, none⟩ = some (.slice none 0 0) := by rw [cell_of_row _ r _ _ _ _ hVr]; rfl
    have z2 : V.cell? ⟨r, 2, none⟩ = some (.int .i64 0) := by rw [cell_of_row _ r _ _ _ _ hVr]; rfl
    have z3 : V.cell? ⟨r, 3, none⟩ = some (.int .i64 0) := by rw [cell_of_row _ r _ _ _ _ hVr]; rfl
    have z4 : V.cell? ⟨r, 4, none⟩ = some (.bool false) := by rw [cell_of_row _ r _ _ _ _ hVr]; rfl
    have fr : ∀ k, V.frozen? ⟨r, k, none⟩ = false := fun k => frozen_of_row V r k _ _ hVr
    have nbr : ¬ b = r := by omega
    have nrb : ¬ r = b := by omega
    have kwr : (D.writes : Int) + 1 ≤ 1000000 := by omega
    clear hVb hVr
    go_wp2
    refine bodyPost_ret (v := .tuple #[.agg #[.slice (some ⟨lb, 0, none⟩) n lc, .slice (some ⟨g', 0, none⟩) (N + 1) c', .int .i64 0, .int .i64 ((D.writes + 1 : Nat) : Int), .bool true], .int .i64 0]) ?_ rfl ⟨lb, lc, some ⟨g', 0, none⟩, c', ?_, ?_, .inl rfl, ?_, ?_⟩
    · simp [results, go_sem, z0, z1, z2, z3, z4]
    · rw [show rcells lb lc (some ⟨g', 0, none⟩) c' (D.wrote a s) = _ from rfl]
      simp [rcells, Dk.wrote, hn, hN, hfu]
    · have hD : (D.wrote a s).waits.length = N + 1 := by show (D.waits ++ [(a, s)]).length = _; rw [List.length_append, hN]; rfl
      refine ⟨HH.out.ok.wrote a s (by omega) (by omega), ?_, ?_, fun h => by omega⟩
      · refine own_keep HH.out.l (fun x hx => ?_)
        rw [ob_slice] at hx
        cases hx
        have n1 : lb ≠ b := by have := HH.out.lt.1; omega
        have n2 : lb ≠ r := by have := HH.out.lt.1; omega
        rw [heap_setCell_other _ _ _ _ n2, heap_setCell_other _ _ _ _ n2, heap_setCell_other _ _ _ _ n2, heap_setCell_other _ _ _ _ n2, heap_setCell_other _ _ _ _ n2, heap_setCell_other _ _ _ _ n1, heap_setCell_other _ _ _ _ n1, heap_setCell_other _ _ _ _ n1, heap_setCell_other _ _ _ _ n1]
        exact HVw.out.block lb HH.out.lt.1
      · rw [hD]
        refine own_keep HOV.out (fun x hx => ?_)
        rw [ob_slice] at hx
        cases hx
        have n1 : g' ≠ b := by omega
        have n2 : g' ≠ r := by omega
        rw [heap_setCell_other _ _ _ _ n2, heap_setCell_other _ _ _ _ n2, heap_setCell_other _ _ _ _ n2, heap_setCell_other _ _ _ _ n2, heap_setCell_other _ _ _ _ n2, heap_setCell_other _ _ _ _ n1, heap_setCell_other _ _ _ _ n1, heap_setCell_other _ _ _ _ n1, heap_setCell_other _ _ _ _ n1]
    · intro x hx
      cases hx
      right
      show _ ≤ g'
      omega
    · have hrb : b ≤ r := by omega
      have hwb : w.heap.size ≤ b := by omega
      have hwr : w.heap.size ≤ r := by omega
      have hvb := HVw.out
      first | exact (((((((((hvb.setCell (p := ⟨b, _, none⟩) hwb _).setCell (p := ⟨b, _, none⟩) hwb _).setCell (p := ⟨b, _, none⟩) hwb _).setCell (p := ⟨b, _, none⟩) hwb _).setCell (p := ⟨r, _, none⟩) hwr _).setCell (p := ⟨r, _, none⟩) hwr _).setCell (p := ⟨r, _, none⟩) hwr _).setCell (p := ⟨r, _, none⟩) hwr _).setCell (p := ⟨r, _, none⟩) hwr _) | (rw [hb] at hvb; exact (((((((((hvb.setCell (p := ⟨b, _, none⟩) (Nat.le_refl _) _).setCell (p := ⟨b, _, none⟩) (Nat.le_refl _) _).setCell (p := ⟨b, _, none⟩) (Nat.le_refl _) _).setCell (p := ⟨b, _, none⟩) (Nat.le_refl _) _).setCell (p := ⟨r, _, none⟩) hrb _).setCell (p := ⟨r, _, none⟩) hrb _).setCell (p := ⟨r, _, none⟩) hrb _).setCell (p := ⟨r, _, none⟩) hrb _).setCell (p := ⟨r, _, none⟩) hrb _))
set_option maxRecDepth 100000 in
set_option maxHeartbeats 4000000 in
theorem rwrite_more {w : World} {lb lc : Nat} {wa : Option Addr} {wc : Nat} {D : Dk} (h : RefAt w lb lc wa wc D) (x y : Int) (kx1 : ¬ x = 1) (kx3 : 0 < x) (hy : x - 1 = y) (hfu : (D.fuse : Int) = x) (a : Nat) (s : ByteArray) (hu : D.up = true) (ha : a < D.kept.length) (hs : s.size = 256) (hw : D.writes < 1000000) :
    Calls Tryz.prog 34 #[.agg #[.slice (some ⟨lb, 0, none⟩) D.kept.length lc, .slice wa D.waits.length wc, .int .i64 (D.fuse : Int), .int .i64 (D.writes : Int), .bool (!D.up)], .int .i64 (a : Int), .string s] w fun e w' => ∃ lb' lc' wa' wc', e = .returned (.tuple #[.agg (rcells lb' lc' wa' wc' (D.wrote a s)), .int .i64 0]) ∧ RefAt w' lb' lc' wa' wc' (D.wrote a s) ∧ RefTo w w' lb wa lb' wa' := by
  obtain ⟨i0, hi, hz0, hz1, hz2⟩ := info_parts info92
  have hr0 : D.reach (a : Int) = 0 := by unfold Dk.reach; rw [if_pos hu, if_neg (by omega)]
  have HWY := fun W => why_exact (w := W) (lb := lb) (lc := lc) (wa := wa) (wc := wc) (D := D) false (by rw [hu]; rfl) (a : Int)
  have HH : Hid (RefAt w lb lc wa wc D) := h
  have hN6 : D.waits.length ≤ D.writes := h.ok.ww
  obtain ⟨N, hN⟩ : ∃ N, D.waits.length = N := ⟨_, rfl⟩
  obtain ⟨n, hn⟩ : ∃ n, D.kept.length = n := ⟨_, rfl⟩
  obtain ⟨b, hb⟩ : ∃ b, w.heap.size = b := ⟨_, rfl⟩
  obtain ⟨W1, hW1⟩ : ∃ W, w.alloc (.cells #[.slice (some ⟨lb, 0, none⟩) n lc, .slice wa N wc, .int .i64 x, .int .i64 (D.writes : Int), .bool false] 32) = W := ⟨_, rfl⟩
  obtain ⟨r, hr⟩ : ∃ r, W1.heap.size = r := ⟨_, rfl⟩
  obtain ⟨W2, hW2⟩ : ∃ W, W1.alloc (.cells #[.slice none 0 0, .slice none 0 0, .int .i64 0, .int .i64 0, .bool false] 32) = W := ⟨_, rfl⟩
  obtain ⟨W3, hW3⟩ : ∃ W, W2.alloc (.cells #[.slice (some ⟨lb, 0, none⟩) n lc, .slice wa N wc, .int .i64 x, .int .i64 (D.writes : Int), .bool false] 32) = W := ⟨_, rfl⟩
  have hb1 : Below w.heap.size w W1 := by rw [← hW1]; exact (Below.refl _ w).alloc (Nat.le_refl _) _
  have hb2 : Below W1.heap.size W1 W2 := by rw [← hW2]; exact (Below.refl _ W1).alloc (Nat.le_refl _) _
  have hb3 : Below W2.heap.size W2 W3 := by rw [← hW3]; exact (Below.refl _ W2).alloc (Nat.le_refl _) _
  have hrb1 : W1.heap[b]? = some (.cells #[.slice (some ⟨lb, 0, none⟩) n lc, .slice wa N wc, .int .i64 x, .int .i64 (D.writes : Int), .bool false] 32 (0, 0)) := by rw [← hW1, ← hb]; exact heap_alloc_new w _
  have hbr : b < r := by rw [← hr]; exact lt_of_some hrb1
  have hrr2 : W2.heap[r]? = some (.cells #[.slice none 0 0, .slice none 0 0, .int .i64 0, .int .i64 0, .bool false] 32 (0, 0)) := by rw [← hW2, ← hr]; exact heap_alloc_new W1 _
  have hr2 : r < W2.heap.size := lt_of_some hrr2
  have hrb3 : W3.heap[b]? = some (.cells #[.slice (some ⟨lb, 0, none⟩) n lc, .slice wa N wc, .int .i64 x, .int .i64 (D.writes : Int), .bool false] 32 (0, 0)) := (hb3.block b (by omega)).trans ((hb2.block b (by omega)).trans hrb1)
  have hrr3 : W3.heap[r]? = some (.cells #[.slice none 0 0, .slice none 0 0, .int .i64 0, .int .i64 0, .bool false] 32 (0, 0)) := (hb3.block r hr2).trans hrr2
  have hbw3 : Below w.heap.size w W3 := (hb1.trans (hb2.mono hb1.size)).trans (hb3.mono (Nat.le_trans hb1.size hb2.size))
  have hr3 : r < W3.heap.size := lt_of_some hrr3
  have d0 : W2.cell? ⟨b, 0, none⟩ = some (.slice (some ⟨lb, 0, none⟩) n lc) := by rw [cell_of_row _ b _ _ _ _ ((hb2.block b (by omega)).trans hrb1)]; rfl
  have d1 : W2.cell? ⟨b, 1, none⟩ = some (.slice wa N wc) := by rw [cell_of_row _ b _ _ _ _ ((hb2.block b (by omega)).trans hrb1)]; rfl
  have d2 : W2.cell? ⟨b, 2, none⟩ = some (.int .i64 x) := by rw [cell_of_row _ b _ _ _ _ ((hb2.block b (by omega)).trans hrb1)]; rfl
  have d3 : W2.cell? ⟨b, 3, none⟩ = some (.int .i64 (D.writes : Int)) := by rw [cell_of_row _ b _ _ _ _ ((hb2.block b (by omega)).trans hrb1)]; rfl
  have d4 : W2.cell? ⟨b, 4, none⟩ = some (.bool false) := by rw [cell_of_row _ b _ _ _ _ ((hb2.block b (by omega)).trans hrb1)]; rfl
  have e1 : W3.cell? ⟨b, 1, none⟩ = some (.slice wa N wc) := by rw [cell_of_row _ b _ _ _ _ hrb3]; rfl
  have hq3 := (h.below hbw3).q
  have hsz : (s.size : Int) = 256 := by omega
  rw [hN] at hq3 hN6
  have hfi : (D.fuse : Int) = x := by omega
  have HWY2 := HWY W2
  rw [hN, hn, hfi, hr0] at HWY2
  rw [hN, hn, hfi, hu, Bool.not_true]
  rw [hn] at ha
  have HZ : Hid (N = 0 → wa = none ∧ wc = 0) := by rw [← hN]; exact h.z
  have H3b : Hid _ := hrb3
  have H3r : Hid _ := hrr3
  have HW3 : Hid (Below w.heap.size w W3) := hbw3
  have HQ3 : Hid (W3.ownsRow 0 95 2 (.slice wa N wc) N (wtsV D.waits)) := hq3
  have hb3' : b < W3.heap.size := by omega
  clear h hb1 hb2 hb3 hrb1 hrr2 hrb3 hrr3 hbw3 hq3 HWY hfi hr2
  go_enter Tryz.func34, Tryz.ntmps34
  go_wp2_with fail
  refine HWY2.mono ?_
  rintro e w3 ⟨rfl, hw3⟩
  rw [hW3] at hw3
  subst w3
  clear HWY2 d0 d1 d2 d3 d4 hW1 hW2 hW3 hr
  by_cases hN0 : N = 0
  · subst hN0
    obtain ⟨rfl, rfl⟩ := HZ.out rfl
    have hwz : D.waits = [] := List.eq_nil_of_length_eq_zero hN
    have HWZ : Hid (D.waits = []) := hwz
    have hap : ∀ (ty : TypeId) (W : World), (Builtin.append_ #[30, 30] ty #[.slice none 0 0, .slice none 0 0]).run Tryz.prog W = .ok (.slice none 0 0) W := fun ty W => run_append_owned_none (P := Tryz.prog) (w := W) 0 30 ty 95 i0 2 Tryz.underlying30 hi _ 0 [] (World.ownsRow_nil _ _ _ _)
    obtain ⟨w4, hw4⟩ : ∃ w4, W3 = w4 := ⟨_, rfl⟩
    obtain ⟨lv, hlv⟩ : ∃ lv, Value.slice none 0 0 = lv := ⟨_, rfl⟩
    have HO4 : Hid (W3.ownsRow 0 95 2 (.slice none 0 0) 0 (wtsV D.waits)) := HQ3
    have HG4 : Hid (∀ y, (Value.slice none 0 0).ownBlock = some y → r < y) := by intro y hy; simp [Value.ownBlock] at hy
    clear hwz hw4 w4 hlv lv
    go_wp2_with (at_builtin; refine wpList_append_lies _ rfl _ _ 30 rfl 0 95 i0 (.agg #[.int .i64 0, .string ByteArray.empty]) 2 24 Tryz.underlying30 hi hz0 hz1 hz2 rfl (by decide) _ 0 (wtsV D.waits) rfl (HO4.out.alloc _) ⟨W3.heap.size, 0, none⟩ 1 1 [.int .i64 (a : Int), .string s] rfl rfl (World.news_of_block (heap_alloc_new W3 _)) (by simp [Value.oneCell']) (by omega) (by unfold maxLen; omega) (by omega) (Nat.zero_le _) _ rfl ?_)
    intro g' c' V hown hgrow hg hlt
    have HOV : Hid (V.ownsRow 0 95 2 (.slice (some ⟨g', 0, none⟩) (0 + 1) c') (0 + 1) (wtsV (D.wrote a s).waits)) := by
      show _
      rw [show (D.wrote a s).waits = D.waits ++ [(a, s)] from rfl, wtsV_snoc]
      exact hown
    have hgl : r < g' := by
      rcases hg with hg | hg
      · exact HG4.out g' hg
      · first | omega | (rw [hg]; simp; omega)
    have hV4 : ∀ x, x < W3.heap.size → (∀ y, (Value.slice none 0 0).ownBlock = some y → x ≠ y) → V.heap[x]? = W3.heap[x]? := fun x hx hne => by
      rw [hgrow.block x (by simp; omega) (fun e => hne x e.symm rfl), Below.heap_alloc _ _ _ hx]
    have hVb : V.heap[b]? = some (.cells #[.slice (some ⟨lb, 0, none⟩) n lc, .slice none 0 0, .int .i64 x, .int .i64 (D.writes : Int), .bool false] 32 (0, 0)) := by rw [hV4 b (by omega) (fun y hy => by have := HG4.out y hy; omega)]; exact H3b.out
    have hVr : V.heap[r]? = some (.cells #[.slice none 0 0, .slice none 0 0, .int .i64 0, .int .i64 0, .bool false] 32 (0, 0)) := by rw [hV4 r (by omega) (fun y hy => by have := HG4.out y hy; omega)]; exact H3r.out
    have HVw : Hid (Below w.heap.size w V) := by
      refine Below.grown (HW3.out.alloc HW3.out.size _) hgrow (by have := HW3.out.size; simp; omega) (fun k hk => ?_)
      have := HG4.out k hk
      omega
    clear hown hgrow hg hlt hV4
    have c0 : V.cell? ⟨b, 0, none⟩ = some (.slice (some ⟨lb, 0, none⟩) n lc) := by rw [cell_of_row _ b _ _ _ _ hVb]; rfl
    have c1 : V.cell? ⟨b, 1, none⟩ = some (.slice none 0 0) := by rw [cell_of_row _ b _ _ _ _ hVb]; rfl
    have c2 : V.cell? ⟨b, 2, none⟩ = some (.int .i64 x) := by rw [cell_of_row _ b _ _ _ _ hVb]; rfl
    have c3 : V.cell? ⟨b, 3, none⟩ = some (.int .i64 (D.writes : Int)) := by rw [cell_of_row _ b _ _ _ _ hVb]; rfl
    have c4 : V.cell? ⟨b, 4, none⟩ = some (.bool false) := by rw [cell_of_row _ b _ _ _ _ hVb]; rfl
    have fb : ∀ k, V.frozen? ⟨b, k, none⟩ = false := fun k => frozen_of_row V b k _ _ hVb
    have z0 : V.cell? ⟨r, 0, none⟩ = some (.slice none 0 0) := by rw [cell_of_row _ r _ _ _ _ hVr]; rfl
    have z1 : V.cell? ⟨r, 1, none⟩ = some (.slice none 0 0) := by rw [cell_of_row _ r _ _ _ _ hVr]; rfl
    have z2 : V.cell? ⟨r, 2, none⟩ = some (.int .i64 0) := by rw [cell_of_row _ r _ _ _ _ hVr]; rfl
    have z3 : V.cell? ⟨r, 3, none⟩ = some (.int .i64 0) := by rw [cell_of_row _ r _ _ _ _ hVr]; rfl
    have z4 : V.cell? ⟨r, 4, none⟩ = some (.bool false) := by rw [cell_of_row _ r _ _ _ _ hVr]; rfl
    have fr : ∀ k, V.frozen? ⟨r, k, none⟩ = false := fun k => frozen_of_row V r k _ _ hVr
    have nbr : ¬ b = r := by omega
    have nrb : ¬ r = b := by omega
    have kwr : (D.writes : Int) + 1 ≤ 1000000 := by omega
    have kx2 : (x == 1) = false := by simpa using kx1
    have kx4 : x ≤ 9223372036854775807 := by have := HH.out.ok.fu; omega
    have HFX : Hid (((D.fuse - 1 : Nat) : Int) = y ∧ ¬ D.fuse = 1) := by constructor <;> omega
    clear hfu
    clear hVb hVr
    go_wp2
    refine bodyPost_ret (v := .tuple #[.agg #[.slice (some ⟨lb, 0, none⟩) n lc, .slice (some ⟨g', 0, none⟩) (0 + 1) c', .int .i64 y, .int .i64 ((D.writes + 1 : Nat) : Int), .bool false], .int .i64 0]) ?_ rfl ⟨lb, lc, some ⟨g', 0, none⟩, c', ?_, ?_, .inl rfl, ?_, ?_⟩
    · simp [results, go_sem, z0, z1, z2, z3, z4]
    · rw [show rcells lb lc (some ⟨g', 0, none⟩) c' (D.wrote a s) = _ from rfl]
      simp [rcells, Dk.wrote, hn, hN, HFX.out.1, HFX.out.2]
    · have hD : (D.wrote a s).waits.length = 0 + 1 := by show (D.waits ++ [(a, s)]).length = _; rw [List.length_append, hN]; rfl
      refine ⟨HH.out.ok.wrote a s (by omega) (by omega), ?_, ?_, fun h => by omega⟩
      · refine own_keep HH.out.l (fun x hx => ?_)
        rw [ob_slice] at hx
        cases hx
        have n1 : lb ≠ b := by have := HH.out.lt.1; omega
        have n2 : lb ≠ r := by have := HH.out.lt.1; omega
        rw [heap_setCell_other _ _ _ _ n2, heap_setCell_other _ _ _ _ n2, heap_setCell_other _ _ _ _ n2, heap_setCell_other _ _ _ _ n2, heap_setCell_other _ _ _ _ n2, heap_setCell_other _ _ _ _ n1, heap_setCell_other _ _ _ _ n1, heap_setCell_other _ _ _ _ n1]
        exact HVw.out.block lb HH.out.lt.1
      · rw [hD]
        refine own_keep HOV.out (fun x hx => ?_)
        rw [ob_slice] at hx
        cases hx
        have n1 : g' ≠ b := by omega
        have n2 : g' ≠ r := by omega
        rw [heap_setCell_other _ _ _ _ n2, heap_setCell_other _ _ _ _ n2, heap_setCell_other _ _ _ _ n2, heap_setCell_other _ _ _ _ n2, heap_setCell_other _ _ _ _ n2, heap_setCell_other _ _ _ _ n1, heap_setCell_other _ _ _ _ n1, heap_setCell_other _ _ _ _ n1]
    · intro x hx
      cases hx
      right
      show _ ≤ g'
      omega
    · have hrb : b ≤ r := by omega
      have hwb : w.heap.size ≤ b := by omega
      have hwr : w.heap.size ≤ r := by omega
      have hvb := HVw.out
      first | exact ((((((((hvb.setCell (p := ⟨b, _, none⟩) hwb _).setCell (p := ⟨b, _, none⟩) hwb _).setCell (p := ⟨b, _, none⟩) hwb _).setCell (p := ⟨r, _, none⟩) hwr _).setCell (p := ⟨r, _, none⟩) hwr _).setCell (p := ⟨r, _, none⟩) hwr _).setCell (p := ⟨r, _, none⟩) hwr _).setCell (p := ⟨r, _, none⟩) hwr _) | (rw [hb] at hvb; exact ((((((((hvb.setCell (p := ⟨b, _, none⟩) (Nat.le_refl _) _).setCell (p := ⟨b, _, none⟩) (Nat.le_refl _) _).setCell (p := ⟨b, _, none⟩) (Nat.le_refl _) _).setCell (p := ⟨r, _, none⟩) hrb _).setCell (p := ⟨r, _, none⟩) hrb _).setCell (p := ⟨r, _, none⟩) hrb _).setCell (p := ⟨r, _, none⟩) hrb _).setCell (p := ⟨r, _, none⟩) hrb _))
  · obtain ⟨wb, hwb⟩ : ∃ wb, wa = some ⟨wb, 0, none⟩ := by
      rcases HQ3.out.2 with ⟨_, h2⟩ | ⟨g', cap', cur, e, _⟩
      · omega
      · cases e; exact ⟨g', rfl⟩
    subst hwb
    go_wp2_with (at_builtin; refine wpList_append_lies _ rfl _ _ 30 rfl 0 95 i0 (.agg #[.int .i64 0, .string ByteArray.empty]) 2 24 Tryz.underlying30 hi hz0 hz1 hz2 rfl (by decide) _ 0 [] rfl (World.ownsRow_nil _ _ _ _) ⟨wb, 0, none⟩ N wc (wtsV D.waits) rfl (by rw [wtsV_len, hN]) (fun j u hu => by rw [add_at, Nat.zero_add]; exact own_at HQ3.out hu) (wtsV_one _) (by omega) (by unfold maxLen; omega) (by omega) (Nat.zero_le _) _ rfl ?_)
    intro g4 c4' w4 hown hgrow hg hlt
    obtain rfl : g4 = W3.heap.size := by
      rcases hg with hg | hg
      · simp [Value.ownBlock] at hg
      · exact hg
    try simp only [Nat.zero_add, List.nil_append] at hown
    have h34 : ∀ x, x < W3.heap.size → w4.heap[x]? = W3.heap[x]? := fun x hx => hgrow.block x hx (by simp [Value.ownBlock])
    have hs4 : W3.heap.size < w4.heap.size := hlt
    obtain ⟨lv, hlv⟩ : ∃ lv, Value.slice (some ⟨W3.heap.size, 0, none⟩) N c4' = lv := ⟨_, rfl⟩
    have HO4 : Hid (w4.ownsRow 0 95 2 (.slice (some ⟨W3.heap.size, 0, none⟩) N c4') N (wtsV D.waits)) := hown
    have HG4 : Hid (∀ y, (Value.slice (some ⟨W3.heap.size, 0, none⟩) N c4').ownBlock = some y → r < y) := by
      intro y hy
      simp [Value.ownBlock] at hy
      omega
    have H4b : Hid _ := (h34 b (by omega)).trans H3b.out
    have H4r : Hid _ := (h34 r (by omega)).trans H3r.out
    have f1 : w4.cell? ⟨b, 1, none⟩ = some (.slice (some ⟨wb, 0, none⟩) N wc) := by rw [World.cell?_of_block (w := W3) (h34 b (by omega))]; exact e1
    have HW4 : Hid (Below w.heap.size w w4) := HW3.out.grown hgrow HW3.out.size (by intro k hk; simp [Value.ownBlock] at hk)
    have hb4 : b < w4.heap.size := by omega
    have hr4 : r < w4.heap.size := by omega
    clear hown hgrow hg hlt h34 hlv lv
    go_wp2_with (at_builtin; refine wpList_append_lies _ rfl _ _ 30 rfl 0 95 i0 (.agg #[.int .i64 0, .string ByteArray.empty]) 2 24 Tryz.underlying30 hi hz0 hz1 hz2 rfl (by decide) _ N (wtsV D.waits) rfl (HO4.out.alloc _) ⟨w4.heap.size, 0, none⟩ 1 1 [.int .i64 (a : Int), .string s] rfl rfl (World.news_of_block (heap_alloc_new w4 _)) (by simp [Value.oneCell']) (by omega) (by unfold maxLen; omega) (by omega) (Nat.zero_le _) _ rfl ?_)
    intro g' c' V hown hgrow hg hlt
    have HOV : Hid (V.ownsRow 0 95 2 (.slice (some ⟨g', 0, none⟩) (N + 1) c') (N + 1) (wtsV (D.wrote a s).waits)) := by
      show _
      rw [show (D.wrote a s).waits = D.waits ++ [(a, s)] from rfl, wtsV_snoc]
      exact hown
    have hgl : r < g' := by
      rcases hg with hg | hg
      · exact HG4.out g' hg
      · first | omega | (rw [hg]; simp; omega)
    have hV4 : ∀ x, x < w4.heap.size → (∀ y, (Value.slice (some ⟨W3.heap.size, 0, none⟩) N c4').ownBlock = some y → x ≠ y) → V.heap[x]? = w4.heap[x]? := fun x hx hne => by
      rw [hgrow.block x (by simp; omega) (fun e => hne x e.symm rfl), Below.heap_alloc _ _ _ hx]
    have hVb : V.heap[b]? = some (.cells #[.slice (some ⟨lb, 0, none⟩) n lc, .slice (some ⟨wb, 0, none⟩) N wc, .int .i64 x, .int .i64 (D.writes : Int), .bool false] 32 (0, 0)) := by rw [hV4 b (by omega) (fun y hy => by have := HG4.out y hy; omega)]; exact H4b.out
    have hVr : V.heap[r]? = some (.cells #[.slice none 0 0, .slice none 0 0, .int .i64 0, .int .i64 0, .bool false] 32 (0, 0)) := by rw [hV4 r (by omega) (fun y hy => by have := HG4.out y hy; omega)]; exact H4r.out
    have HVw : Hid (Below w.heap.size w V) := by
      refine Below.grown (HW4.out.alloc HW4.out.size _) hgrow (by have := HW4.out.size; simp; omega) (fun k hk => ?_)
      have := HG4.out k hk
      omega
    clear hown hgrow hg hlt hV4
    have c0 : V.cell? ⟨b, 0, none⟩ = some (.slice (some ⟨lb, 0, none⟩) n lc) := by rw [cell_of_row _ b _ _ _ _ hVb]; rfl
    have c1 : V.cell? ⟨b, 1, none⟩ = some (.slice (some ⟨wb, 0, none⟩) N wc) := by rw [cell_of_row _ b _ _ _ _ hVb]; rfl
    have c2 : V.cell? ⟨b, 2, none⟩ = some (.int .i64 x) := by rw [cell_of_row _ b _ _ _ _ hVb]; rfl
    have c3 : V.cell? ⟨b, 3, none⟩ = some (.int .i64 (D.writes : Int)) := by rw [cell_of_row _ b _ _ _ _ hVb]; rfl
    have c4 : V.cell? ⟨b, 4, none⟩ = some (.bool false) := by rw [cell_of_row _ b _ _ _ _ hVb]; rfl
    have fb : ∀ k, V.frozen? ⟨b, k, none⟩ = false := fun k => frozen_of_row V b k _ _ hVb
    have z0 : V.cell? ⟨r, 0, none⟩ = some (.slice none 0 0) := by rw [cell_of_row _ r _ _ _ _ hVr]; rfl
    have z1 : V.cell? ⟨r, 1, none⟩ = some (.slice none 0 0) := by rw [cell_of_row _ r _ _ _ _ hVr]; rfl
    have z2 : V.cell? ⟨r, 2, none⟩ = some (.int .i64 0) := by rw [cell_of_row _ r _ _ _ _ hVr]; rfl
    have z3 : V.cell? ⟨r, 3, none⟩ = some (.int .i64 0) := by rw [cell_of_row _ r _ _ _ _ hVr]; rfl
    have z4 : V.cell? ⟨r, 4, none⟩ = some (.bool false) := by rw [cell_of_row _ r _ _ _ _ hVr]; rfl
    have fr : ∀ k, V.frozen? ⟨r, k, none⟩ = false := fun k => frozen_of_row V r k _ _ hVr
    have nbr : ¬ b = r := by omega
    have nrb : ¬ r = b := by omega
    have kwr : (D.writes : Int) + 1 ≤ 1000000 := by omega
    have kx2 : (x == 1) = false := by simpa using kx1
    have kx4 : x ≤ 9223372036854775807 := by have := HH.out.ok.fu; omega
    have HFX : Hid (((D.fuse - 1 : Nat) : Int) = y ∧ ¬ D.fuse = 1) := by constructor <;> omega
    clear hfu
    clear hVb hVr
    go_wp2
    refine bodyPost_ret (v := .tuple #[.agg #[.slice (some ⟨lb, 0, none⟩) n lc, .slice (some ⟨g', 0, none⟩) (N + 1) c', .int .i64 y, .int .i64 ((D.writes + 1 : Nat) : Int), .bool false], .int .i64 0]) ?_ rfl ⟨lb, lc, some ⟨g', 0, none⟩, c', ?_, ?_, .inl rfl, ?_, ?_⟩
    · simp [results, go_sem, z0, z1, z2, z3, z4]
    · rw [show rcells lb lc (some ⟨g', 0, none⟩) c' (D.wrote a s) = _ from rfl]
      simp [rcells, Dk.wrote, hn, hN, HFX.out.1, HFX.out.2]
    · have hD : (D.wrote a s).waits.length = N + 1 := by show (D.waits ++ [(a, s)]).length = _; rw [List.length_append, hN]; rfl
      refine ⟨HH.out.ok.wrote a s (by omega) (by omega), ?_, ?_, fun h => by omega⟩
      · refine own_keep HH.out.l (fun x hx => ?_)
        rw [ob_slice] at hx
        cases hx
        have n1 : lb ≠ b := by have := HH.out.lt.1; omega
        have n2 : lb ≠ r := by have := HH.out.lt.1; omega
        rw [heap_setCell_other _ _ _ _ n2, heap_setCell_other _ _ _ _ n2, heap_setCell_other _ _ _ _ n2, heap_setCell_other _ _ _ _ n2, heap_setCell_other _ _ _ _ n2, heap_setCell_other _ _ _ _ n1, heap_setCell_other _ _ _ _ n1, heap_setCell_other _ _ _ _ n1]
        exact HVw.out.block lb HH.out.lt.1
      · rw [hD]
        refine own_keep HOV.out (fun x hx => ?_)
        rw [ob_slice] at hx
        cases hx
        have n1 : g' ≠ b := by omega
        have n2 : g' ≠ r := by omega
        rw [heap_setCell_other _ _ _ _ n2, heap_setCell_other _ _ _ _ n2, heap_setCell_other _ _ _ _ n2, heap_setCell_other _ _ _ _ n2, heap_setCell_other _ _ _ _ n2, heap_setCell_other _ _ _ _ n1, heap_setCell_other _ _ _ _ n1, heap_setCell_other _ _ _ _ n1]
    · intro x hx
      cases hx
      right
      show _ ≤ g'
      omega
    · have hrb : b ≤ r := by omega
      have hwb : w.heap.size ≤ b := by omega
      have hwr : w.heap.size ≤ r := by omega
      have hvb := HVw.out
      first | exact ((((((((hvb.setCell (p := ⟨b, _, none⟩) hwb _).setCell (p := ⟨b, _, none⟩) hwb _).setCell (p := ⟨b, _, none⟩) hwb _).setCell (p := ⟨r, _, none⟩) hwr _).setCell (p := ⟨r, _, none⟩) hwr _).setCell (p := ⟨r, _, none⟩) hwr _).setCell (p := ⟨r, _, none⟩) hwr _).setCell (p := ⟨r, _, none⟩) hwr _) | (rw [hb] at hvb; exact ((((((((hvb.setCell (p := ⟨b, _, none⟩) (Nat.le_refl _) _).setCell (p := ⟨b, _, none⟩) (Nat.le_refl _) _).setCell (p := ⟨b, _, none⟩) (Nat.le_refl _) _).setCell (p := ⟨r, _, none⟩) hrb _).setCell (p := ⟨r, _, none⟩) hrb _).setCell (p := ⟨r, _, none⟩) hrb _).setCell (p := ⟨r, _, none⟩) hrb _).setCell (p := ⟨r, _, none⟩) hrb _))
set_option maxRecDepth 100000 in
set_option maxHeartbeats 2000000 in
theorem rwrite_not {w : World} {lb lc : Nat} {wa : Option Addr} {wc : Nat} {D : Dk} (a : Int) (s : ByteArray) (c : Nat) (hc : (D.reach a = c ∧ ¬ c = 0) ∨ (D.reach a = 0 ∧ ¬ s.size = 256 ∧ c = 1)) :
    Calls Tryz.prog 34 #[.agg #[.slice (some ⟨lb, 0, none⟩) D.kept.length lc, .slice wa D.waits.length wc, .int .i64 (D.fuse : Int), .int .i64 (D.writes : Int), .bool (!D.up)], .int .i64 a, .string s] w fun e w' => e = .returned (.tuple #[.agg (rcells lb lc wa wc D), .int .i64 (c : Int)]) ∧ Below w.heap.size w w' := by
  obtain ⟨dn, hdn⟩ : ∃ dn, (!D.up) = dn := ⟨_, rfl⟩
  have HW : Hid (∀ W, Calls Tryz.prog 46 #[.agg #[.slice (some ⟨lb, 0, none⟩) D.kept.length lc, .slice wa D.waits.length wc, .int .i64 (D.fuse : Int), .int .i64 (D.writes : Int), .bool dn], .int .i64 a] W fun e w' => e = .returned (.int .i64 (D.reach a : Int)) ∧ w' = W.alloc (.cells #[.slice (some ⟨lb, 0, none⟩) D.kept.length lc, .slice wa D.waits.length wc, .int .i64 (D.fuse : Int), .int .i64 (D.writes : Int), .bool dn] 32)) := fun W => why_exact dn hdn a
  unfold rcells
  rw [hdn]
  clear hdn
  rcases hc with ⟨hr, hc0⟩ | ⟨hr, hs, rfl⟩
  · rw [hr] at HW
    have kc : ¬ (c : Int) = 0 := by omega
    clear hr
    go_enter Tryz.func34, Tryz.ntmps34
    go_wp2_with fail
    refine (HW.out _).mono ?_
    rintro e w2 ⟨rfl, hw2⟩
    subst w2
    go_wp2
    refine bodyPost_ret (v := .tuple #[.agg #[.slice (some ⟨lb, 0, none⟩) D.kept.length lc, .slice wa D.waits.length wc, .int .i64 (D.fuse : Int), .int .i64 (D.writes : Int), .bool dn], .int .i64 (c : Int)]) ?_ rfl ⟨rfl, ?_⟩
    · simp [results, go_sem]
    · exact (((Below.refl _ w).alloc (Nat.le_refl _) _).alloc (by simp) _).alloc (by simp; omega) _
  · rw [hr] at HW
    have ks : ¬ (s.size : Int) = 256 := by omega
    clear hr
    go_enter Tryz.func34, Tryz.ntmps34
    go_wp2_with fail
    refine (HW.out _).mono ?_
    rintro e w2 ⟨rfl, hw2⟩
    subst w2
    go_wp2
    refine bodyPost_ret (v := .tuple #[.agg #[.slice (some ⟨lb, 0, none⟩) D.kept.length lc, .slice wa D.waits.length wc, .int .i64 (D.fuse : Int), .int .i64 (D.writes : Int), .bool dn], .int .i64 1]) ?_ rfl ⟨rfl, ?_⟩
    · simp [results, go_sem]
    · exact (((Below.refl _ w).alloc (Nat.le_refl _) _).alloc (by simp) _).alloc (by simp; omega) _
/-- Whatever is to be written. -/
theorem rwrite_any {w : World} {lb lc : Nat} {wa : Option Addr} {wc : Nat} {D : Dk} (h : RefAt w lb lc wa wc D) (a : Int) (s : ByteArray) (hw : D.writes < 1000000) :
    Calls Tryz.prog 34 #[.agg #[.slice (some ⟨lb, 0, none⟩) D.kept.length lc, .slice wa D.waits.length wc, .int .i64 (D.fuse : Int), .int .i64 (D.writes : Int), .bool (!D.up)], .int .i64 a, .string s] w fun e w' => ∃ lb' lc' wa' wc', e = .returned (.tuple #[.agg (rcells lb' lc' wa' wc' (D.wput a s)), .int .i64 (D.wcode a s : Int)]) ∧ RefAt w' lb' lc' wa' wc' (D.wput a s) ∧ RefTo w w' lb wa lb' wa' := by
  unfold Dk.wcode Dk.wput
  by_cases hr : D.reach a = 0
  · rw [if_pos hr]
    by_cases hs : s.size = 256
    · rw [if_pos hs, if_pos ⟨hr, hs⟩]
      obtain ⟨hu, h0, h1⟩ := reach_zero hr
      obtain ⟨n, rfl⟩ := Int.eq_ofNat_of_zero_le h0
      by_cases f0 : D.fuse = 0
      · exact rwrite_no h f0 n s hu (by omega) hs hw
      · by_cases f1 : D.fuse = 1
        · exact rwrite_one h f1 n s hu (by omega) hs hw
        · exact rwrite_more h (D.fuse : Int) ((D.fuse : Int) - 1) (by omega) (by omega) rfl rfl n s hu (by omega) hs hw
    · rw [if_neg hs, if_neg (fun e => hs e.2)]
      refine (rwrite_not a s 1 (.inr ⟨hr, hs, rfl⟩)).mono ?_
      rintro e w' ⟨rfl, hb⟩
      exact ⟨lb, lc, wa, wc, rfl, h.below hb, RefTo.same hb⟩
  · rw [if_neg hr, if_neg (fun e => hr e.1)]
    refine (rwrite_not a s (D.reach a) (.inl ⟨rfl, hr⟩)).mono ?_
    rintro e w' ⟨rfl, hb⟩
    exact ⟨lb, lc, wa, wc, rfl, h.below hb, RefTo.same hb⟩
end Go.Proofs.YtaacedaehbaodaaGreat
