/- Walks over the document's Give, Alloc. -/
import Derived.Test.YtdgffocmdkadpaaGreatRE
namespace Go.Proofs.YtdgffocmdkadpaaGreat
open Go.RowKit Go.Shelf Pg
theorem res_rs3 {fn : Func} {p q u : Tmp} (h : fn.results = #[.cell p 42, .tmp q, .tmp u]) (tmps : Array Value) (w : World) (g : Nat) (rs : Array Value) (hz : rs.size = 7) (hp : tmps.getD p undef = .pointer (some ⟨g, 0, none⟩)) (hg : w.heap[g]? = some (.cells rs 42 (0, 0))) :
    (results fn tmps).run Tryz.prog w = .ok (.tuple #[.agg rs, tmps.getD q undef, tmps.getD u undef]) w := by
  have hp' : tmps[p]?.getD undef = .pointer (some ⟨g, 0, none⟩) := by simpa using hp
  simp [results, h, hp', asAddr, load_rs w g rs _ _ hg hz]
def RaTo (F : Nat → Prop) (n : Nat) (w : World) (e : Ending) (w' : World) : Prop := ∃ (v' : Value) (x c : Int), e = .returned (.tuple #[v', .int .i64 x, .int .i64 c]) ∧ DSt (mor F w w') w' n v' ∧ Below w.heap.size w w'
section
variable {F : Nat → Prop} {w : World} {n : Nat} {v : Value}
set_option maxRecDepth 100000 in
set_option maxHeartbeats 4000000 in
theorem rgive_any (h : DSt F w n v) (hF : ∀ x, F x → x < w.heap.size) (hn : 1 ≤ n) (hn2 : n ≤ 128) (id : Int) : Calls Tryz.prog 56 #[v, .int .i64 id] w fun e w' => RTo F n w e w' := by
  obtain ⟨rS, rfl, hrz, hro⟩ := h.agg
  obtain ⟨B, hB⟩ : ∃ B, w.heap.size = B := ⟨_, rfl⟩
  obtain ⟨W0, hW0⟩ : ∃ W0, w.alloc (.cells rS 42) = W0 := ⟨_, rfl⟩
  obtain ⟨W1, hW1⟩ : ∃ W1, W0.alloc (.cells #[.slice none 0 0, .slice none 0 0, .int .i64 0, .int .i64 0, .int .i64 0, .int .i64 0, .int .u64 0] 42) = W1 := ⟨_, rfl⟩
  have s0 : W0.heap.size = B + 1 := by rw [← hW0, ← hB]; simp
  have s1 : W1.heap.size = B + 2 := by rw [← hW1]; simp [s0]
  have b0 : Below B w W0 := by rw [← hW0, ← hB]; exact (Below.refl _ w).alloc (Nat.le_refl _) _
  have b1 : Below B w W1 := by rw [← hW1]; exact b0.alloc (by omega) _
  have q00 : W0.heap[B]? = some (.cells rS 42 (0, 0)) := by rw [← hW0, ← hB]; exact heap_alloc_new w _
  have q10 : W1.heap[B]? = some (.cells rS 42 (0, 0)) := by rw [← hW1, Below.heap_alloc _ _ _ (by omega)]; exact q00
  have q11 : W1.heap[B + 1]? = some (.cells z7 42 (0, 0)) := by rw [← hW1, ← s0]; exact heap_alloc_new W0 _
  have b1w : Below w.heap.size w W1 := by rw [hB]; exact b1
  have hD1 : DSt F W1 n (.agg rS) := h.below b1w
  have HWY := rwhy_any hD1 hn id
  have hl1 := load_rs W1 B _ _ _ q10 hrz
  have H1 : Hid (W1.heap[B]? = some (.cells rS 42 (0, 0)) ∧ W1.heap[B + 1]? = some (.cells z7 42 (0, 0)) ∧ Below B w W1 ∧ DSt F W1 n (.agg rS) ∧ W1.heap.size = B + 2 ∧ DSt F w n (.agg rS)) := ⟨q10, q11, b1, hD1, s1, h⟩
  have HRO : Hid (∀ u ∈ rS.toList, u.oneCell' = true) := hro
  have HF : Hid (∀ x, F x → x < w.heap.size) := hF
  clear q00 q10 q11 b0 b1 b1w hD1 h hF hro
  go_enter Tryz.func56, Tryz.ntmps56
  go_wp2_with (refine wpList_load_w (by kernel_rfl) _ _ rfl rfl hl1 ?_)
  refine HWY.mono ?_
  rintro e V2 ⟨c, rfl, hc, hb2⟩
  have q20 := (hb2.block B (lt_of_some H1.out.1)).trans H1.out.1
  have q21 := (hb2.block (B + 1) (lt_of_some H1.out.2.1)).trans H1.out.2.1
  have b2 : Below B w V2 := H1.out.2.2.1.trans (hb2.mono (by have := H1.out.2.2.2.2.1; omega))
  have s2 : B + 2 ≤ V2.heap.size := by have := H1.out.2.2.2.2.1; have := hb2.size; omega
  have hl2 := load_rs V2 B _ _ _ q20 hrz
  have hst := store_ds (W := V2) hrz HRO.out q21 rfl
  obtain ⟨V9, hV9⟩ : ∃ V9, V2.setRow (B + 1) rS = V9 := ⟨_, rfl⟩
  rw [hV9] at hst
  have HSAME : Hid (V9.heap[B + 1]? = some (.cells rS 42 (0, 0)) ∧ DSt (mor F w V9) V9 n (.agg rS) ∧ Below w.heap.size w V9) := by
    have b3 : Below w.heap.size w V9 := by rw [← hV9, hB]; exact setRow_below b2 (by omega) _
    exact ⟨by rw [← hV9]; exact setRow_heap V2 _ _ _ _ _ q21, H1.out.2.2.2.2.2.fr (Fr.below b3), b3⟩
  have H2 : Hid (V2.heap[B]? = some (.cells rS 42 (0, 0)) ∧ V2.heap[B + 1]? = some (.cells z7 42 (0, 0)) ∧ Below B w V2 ∧ B + 2 ≤ V2.heap.size ∧ DSt F V2 n (.agg rS)) := ⟨q20, q21, b2, s2, H1.out.2.2.2.1.below hb2⟩
  clear HWY hb2 q20 q21 b2 s2 hV9 hl1
  by_cases hc0 : c = 0
  · subst hc0
    obtain ⟨h1, h2⟩ := hc rfl
    obtain ⟨i, rfl⟩ := Int.eq_ofNat_of_zero_le (show 0 ≤ id by omega)
    have hin : i < n := by omega
    clear hc H1
    go_wp2
    go_loopw [7] (fun v wr => ∃ k : Nat, k ≤ 4 ∧ v = .int .i64 (k : Int) ∧ wr = V2) (fun v _ => 4 - (intOf v).toNat)
    case atStart => exact ⟨0, by omega, rfl, rfl⟩
    case round =>
      obtain ⟨k, hk, rfl, rfl⟩ := hrel
      by_cases hlt : k < 4
      · have kk : (k : Int) < 4 := by omega
        obtain ⟨_, y, hy⟩ := H2.out.2.2.2.2.point k hlt 0
        have ck : wr.cell? ⟨B, 2 + k, none⟩ = some (.int .i64 y) := by rw [cell_of_row wr B _ _ _ _ H2.out.1]; exact hy
        by_cases hyi : y = (i : Int)
        · subst hyi
          go_wp2_with (refine wpList_load_w (by kernel_rfl) _ _ rfl rfl hl2 ?_)
          exact bodyPost_ret (res_rs (p := 4) (q := 5) rfl _ _ (B + 1) _ hrz rfl HSAME.out.1) rfl ⟨.agg rS, 8, rfl, HSAME.out.2⟩
        · have kyb : (y == (i : Int)) = false := by simpa using hyi
          go_wp2
          exact ⟨⟨k + 1, by omega, by go_num, trivial⟩, by simp [intOf]; omega⟩
      · obtain rfl : k = 4 := by omega
        have kk : ¬ (4 : Int) < 4 := by omega
        clear hst HSAME hl2
        go_wp2
        refine wp_region_held_drew (S := fun W => W.heap[B]? = some (.cells rS 42 (0, 0))) (by kernel_rfl) (H2.out.1) (fun hHeld => ?_)
        refine wpAnyH_take (i := 1) (v := ?v1) rfl (by kernel_rfl) (by kernel_rfl) (by kernel_rfl) (fun _ _ _ h => h) (Or.inl ⟨by first | kernel_rfl | rfl, ?y1⟩) hHeld ?r1
        case y1 => (intro W hSW; (try dsimp only at hSW); go_simp; (try with_reducible rfl))
        change wpAnyH _ _ _ _ _ _ _ (Act.put _ (some 27) _) _
        simp only [Act.put, List.setIfInBounds_toArray, List.set_cons_zero, List.set_cons_succ]
        refine wpAnyH_take (i := 0) (v := .agg rS) rfl (by kernel_rfl) (by kernel_rfl) (by kernel_rfl) (fun _ _ _ h => h) (Or.inl ⟨by first | kernel_rfl | rfl, ?y0⟩) hHeld ?r0
        case y0 => (intro W hSW; exact yields_at _ _ rfl rfl (load_rs W B _ _ _ hSW hrz))
        change wpAnyH _ _ _ _ _ _ _ (Act.put _ (some 26) _) _
        simp only [Act.put, List.setIfInBounds_toArray, List.set_cons_zero, List.set_cons_succ]
        refine wpAnyH_ready (rs := [2]) (by kernel_rfl) (by simp) ?_
        refine AllReadyH.cons rfl (fun K hK => ?_) AllReadyH.nil
        go_simp
        refine (rblank_any wr.drew).mono ?_
        rintro e V3 ⟨rfl, hb3⟩
        refine hK.out _ _ ((hb3.block B (lt_of_some H2.out.1)).trans H2.out.1) (fun hHeld => ?_)
        clear hK K
        try simp only [Act.put, List.setIfInBounds_toArray, List.set_cons_zero, List.set_cons_succ]
        have hD3 : DSt F V3 n (.agg rS) := (H2.out.2.2.2.2.below (Below.refl _ wr).drew).below hb3
        have H3 : Hid (V3.heap[B]? = some (.cells rS 42 (0, 0)) ∧ V3.heap[B + 1]? = some (.cells z7 42 (0, 0)) ∧ Below B w V3 ∧ B + 2 ≤ V3.heap.size) := ⟨(hb3.block B (lt_of_some H2.out.1)).trans H2.out.1, (hb3.block (B + 1) (lt_of_some H2.out.2.1)).trans H2.out.2.1, (below_drew H2.out.2.2.1).trans (hb3.mono (show B ≤ wr.heap.size by have := H2.out.2.2.2.1; omega)), Nat.le_trans H2.out.2.2.2.1 (show wr.heap.size ≤ V3.heap.size from hb3.size)⟩
        have HWI := rwith_any hD3 hn hn2 i hin false zeroS
        clear hb3 hD3
        refine wpAnyH_ready (rs := [3]) (by kernel_rfl) (by simp) ?_
        refine AllReadyH.cons rfl (fun K hK => ?_) AllReadyH.nil
        go_simp
        refine (HWI).mono ?_
        rintro e V4 ⟨v', rfl, hD4, hb4⟩
        refine hK.out _ _ ((hb4.block B (lt_of_some H3.out.1)).trans H3.out.1) (fun hHeld => ?_)
        clear hK K
        try simp only [Act.put, List.setIfInBounds_toArray, List.set_cons_zero, List.set_cons_succ]
        obtain ⟨r', rfl, hrz', hro'⟩ := hD4.agg
        have q41 := (hb4.block (B + 1) (lt_of_some H3.out.2.1)).trans H3.out.2.1
        have q40 := (hb4.block B (lt_of_some H3.out.1)).trans H3.out.1
        have hst4 := store_ds (W := V4) hrz' hro' q41 rfl
        obtain ⟨V5, hV5⟩ : ∃ V5, V4.setRow (B + 1) r' = V5 := ⟨_, rfl⟩
        rw [hV5] at hst4
        have q50 : V5.heap[B]? = some (.cells rS 42 (0, 0)) := by rw [← hV5, setRow_other _ _ _ _ (by omega)]; exact q40
        have HE : Hid (V5.heap[B + 1]? = some (.cells r' 42 (0, 0)) ∧ DSt (mor F w V5) V5 n (.agg r') ∧ Below w.heap.size w V5) := by
          refine ⟨by rw [← hV5]; exact setRow_heap V4 _ _ _ _ _ q41, by rw [← hV5]; exact DSt.put HF.out hB H3.out.2.2.2 hD4, ?_⟩
          rw [← hV5, hB]
          exact setRow_below (H3.out.2.2.1.trans (hb4.mono (by have := H3.out.2.2.2; omega))) (by omega) _
        clear HWI hD4 hb4 q41 q40 hV5
        refine wpAnyH_ready (rs := [4]) (by kernel_rfl) (by simp) ?_
        refine AllReadyH.cons rfl (fun K hK => ?_) AllReadyH.nil
        go_simp
        refine hK.out _ _ (q50) (fun hHeld => ?_)
        clear hK K
        refine wpAnyH_take (i := 5) (v := ?v5) rfl (by kernel_rfl) (by kernel_rfl) (by kernel_rfl) (fun _ _ _ h => h) (Or.inl ⟨by first | kernel_rfl | rfl, ?y5⟩) hHeld ?r5
        case y5 => (intro W hSW; (try dsimp only at hSW); go_simp; (try with_reducible rfl))
        change wpAnyH _ _ _ _ _ _ _ (Act.put _ (some 5) _) _
        simp only [Act.put, List.setIfInBounds_toArray, List.set_cons_zero, List.set_cons_succ]
        refine wpAnyH_done (by kernel_rfl) ?_ _
        go_wp2
        exact bodyPost_ret (res_rs (p := 4) (q := 5) rfl _ _ (B + 1) _ hrz' rfl HE.out.1) rfl ⟨.agg r', 0, rfl, HE.out.2⟩
  · have kc0 : ¬ (c : Int) = 0 := by omega
    have kc0b : ((c : Int) == 0) = false := by simpa using hc0
    clear hc H1 H2
    go_wp2_with (refine wpList_load_w (by kernel_rfl) _ _ rfl rfl hl2 ?_)
    exact bodyPost_ret (res_rs (p := 4) (q := 5) rfl _ _ (B + 1) _ hrz rfl HSAME.out.1) rfl ⟨.agg rS, c, rfl, HSAME.out.2⟩
set_option maxRecDepth 100000 in
set_option maxHeartbeats 4000000 in
theorem ralloc_any (h : DSt F w n v) (hF : ∀ x, F x → x < w.heap.size) (hn : 1 ≤ n) (hn2 : n ≤ 128) : Calls Tryz.prog 55 #[v] w fun e w' => RaTo F n w e w' := by
  obtain ⟨rS, rfl, hrz, hro⟩ := h.agg
  obtain ⟨B, hB⟩ : ∃ B, w.heap.size = B := ⟨_, rfl⟩
  obtain ⟨W0, hW0⟩ : ∃ W0, w.alloc (.cells rS 42) = W0 := ⟨_, rfl⟩
  obtain ⟨W1, hW1⟩ : ∃ W1, W0.alloc (.cells #[.slice none 0 0, .slice none 0 0, .int .i64 0, .int .i64 0, .int .i64 0, .int .i64 0, .int .u64 0] 42) = W1 := ⟨_, rfl⟩
  have s0 : W0.heap.size = B + 1 := by rw [← hW0, ← hB]; simp
  have s1 : W1.heap.size = B + 2 := by rw [← hW1]; simp [s0]
  have b0 : Below B w W0 := by rw [← hW0, ← hB]; exact (Below.refl _ w).alloc (Nat.le_refl _) _
  have b1 : Below B w W1 := by rw [← hW1]; exact b0.alloc (by omega) _
  have q00 : W0.heap[B]? = some (.cells rS 42 (0, 0)) := by rw [← hW0, ← hB]; exact heap_alloc_new w _
  have q10 : W1.heap[B]? = some (.cells rS 42 (0, 0)) := by rw [← hW1, Below.heap_alloc _ _ _ (by omega)]; exact q00
  have q11 : W1.heap[B + 1]? = some (.cells z7 42 (0, 0)) := by rw [← hW1, ← s0]; exact heap_alloc_new W0 _
  have b1w : Below w.heap.size w W1 := by rw [hB]; exact b1
  have hD1 : DSt F W1 n (.agg rS) := h.below b1w
  have hl1 := load_rs W1 B _ _ _ q10 hrz
  have hst := store_ds (W := W1) hrz hro q11 rfl
  obtain ⟨V9, hV9⟩ : ∃ V9, W1.setRow (B + 1) rS = V9 := ⟨_, rfl⟩
  rw [hV9] at hst
  have HSAME : Hid (V9.heap[B + 1]? = some (.cells rS 42 (0, 0)) ∧ DSt (mor F w V9) V9 n (.agg rS) ∧ Below w.heap.size w V9) := by
    have b3 : Below w.heap.size w V9 := by rw [← hV9, hB]; exact setRow_below b1 (by omega) _
    exact ⟨by rw [← hV9]; exact setRow_heap W1 _ _ _ _ _ q11, h.fr (Fr.below b3), b3⟩
  have H2 : Hid (W1.heap[B]? = some (.cells rS 42 (0, 0)) ∧ W1.heap[B + 1]? = some (.cells z7 42 (0, 0)) ∧ Below B w W1 ∧ B + 2 ≤ W1.heap.size ∧ DSt F W1 n (.agg rS)) := ⟨q10, q11, b1, by omega, hD1⟩
  obtain ⟨ub, uo, uc, e0, _, hu1, hu2, huc⟩ := hD1.use hn
  have c0 : W1.cell? ⟨B, 0, none⟩ = some (.slice (some ⟨ub, uo, none⟩) n uc) := by rw [cell_of_row W1 B _ _ _ _ q10]; exact e0
  have HUC : Hid (∀ i, i < n → ∃ b, W1.cell? ⟨ub, uo + i, none⟩ = some (.bool b)) := huc
  have HF : Hid (∀ x, F x → x < w.heap.size) := hF
  clear q00 q10 q11 b0 b1 b1w hD1 h hF hro hV9 huc e0
  go_enter Tryz.func55, Tryz.ntmps55
  go_wp2
  go_loopw [5] (fun v wr => ∃ i : Nat, 1 ≤ i ∧ i ≤ n ∧ v = .int .i64 (i : Int) ∧ wr = W1) (fun v _ => n - (intOf v).toNat)
  case atStart => exact ⟨1, by omega, by omega, rfl, rfl⟩
  case round =>
    obtain ⟨i, hi1, hi, rfl, rfl⟩ := hrel
    by_cases hin : i < n
    · have kk : (i : Int) < (n : Int) := by omega
      obtain ⟨bb, cu⟩ := HUC.out i hin
      cases bb with
      | true =>
        go_wp2
        exact ⟨⟨i + 1, by omega, by omega, by go_num, trivial⟩, by simp [intOf]; omega⟩
      | false =>
        clear hst HSAME
        go_wp2
        refine wp_region_held_drew (S := fun W => W.heap[B]? = some (.cells rS 42 (0, 0))) (by kernel_rfl) (H2.out.1) (fun hHeld => ?_)
        refine wpAnyH_take (i := 1) (v := ?va_1) rfl (by kernel_rfl) (by kernel_rfl) (by kernel_rfl) (fun _ _ _ h => h) (Or.inl ⟨by first | kernel_rfl | rfl, ?ya_1⟩) hHeld ?ra_1
        case ya_1 => (intro W hSW; (try dsimp only at hSW); go_simp; (try with_reducible rfl))
        change wpAnyH _ _ _ _ _ _ _ (Act.put _ (some 20) _) _
        simp only [Act.put, List.setIfInBounds_toArray, List.set_cons_zero, List.set_cons_succ]
        refine wpAnyH_take (i := 4) (v := ?va_4) rfl (by kernel_rfl) (by kernel_rfl) (by kernel_rfl) (fun _ _ _ h => h) (Or.inl ⟨by first | kernel_rfl | rfl, ?ya_4⟩) hHeld ?ra_4
        case ya_4 => (intro W hSW; (try dsimp only at hSW); go_simp; (try with_reducible rfl))
        change wpAnyH _ _ _ _ _ _ _ (Act.put _ (some 23) _) _
        simp only [Act.put, List.setIfInBounds_toArray, List.set_cons_zero, List.set_cons_succ]
        refine wpAnyH_take (i := 0) (v := .agg rS) rfl (by kernel_rfl) (by kernel_rfl) (by kernel_rfl) (fun _ _ _ h => h) (Or.inl ⟨by first | kernel_rfl | rfl, ?ya_0⟩) hHeld ?ra_0
        case ya_0 => (intro W hSW; exact yields_at _ _ rfl rfl (load_rs W B _ _ _ hSW hrz))
        change wpAnyH _ _ _ _ _ _ _ (Act.put _ (some 19) _) _
        simp only [Act.put, List.setIfInBounds_toArray, List.set_cons_zero, List.set_cons_succ]
        refine wpAnyH_ready (rs := [2]) (by kernel_rfl) (by simp) ?_
        refine AllReadyH.cons rfl (fun K hK => ?_) AllReadyH.nil
        go_simp
        refine (rblank_any wr.drew).mono ?_
        rintro e V3 ⟨rfl, hb3⟩
        refine hK.out _ _ ((hb3.block B (lt_of_some H2.out.1)).trans H2.out.1) (fun hHeld => ?_)
        clear hK K
        try simp only [Act.put, List.setIfInBounds_toArray, List.set_cons_zero, List.set_cons_succ]
        have hD3 : DSt F V3 n (.agg rS) := (H2.out.2.2.2.2.below (Below.refl _ wr).drew).below hb3
        have H3 : Hid (V3.heap[B]? = some (.cells rS 42 (0, 0)) ∧ V3.heap[B + 1]? = some (.cells z7 42 (0, 0)) ∧ Below B w V3 ∧ B + 2 ≤ V3.heap.size) := ⟨(hb3.block B (lt_of_some H2.out.1)).trans H2.out.1, (hb3.block (B + 1) (lt_of_some H2.out.2.1)).trans H2.out.2.1, (below_drew H2.out.2.2.1).trans (hb3.mono (show B ≤ wr.heap.size by have := H2.out.2.2.2.1; omega)), Nat.le_trans H2.out.2.2.2.1 (show wr.heap.size ≤ V3.heap.size from hb3.size)⟩
        have HWI := rwith_any hD3 hn hn2 i hin true zeroS
        clear hb3 hD3
        refine wpAnyH_ready (rs := [3]) (by kernel_rfl) (by simp) ?_
        refine AllReadyH.cons rfl (fun K hK => ?_) AllReadyH.nil
        go_simp
        refine (HWI).mono ?_
        rintro e V4 ⟨v', rfl, hD4, hb4⟩
        refine hK.out _ _ ((hb4.block B (lt_of_some H3.out.1)).trans H3.out.1) (fun hHeld => ?_)
        clear hK K
        try simp only [Act.put, List.setIfInBounds_toArray, List.set_cons_zero, List.set_cons_succ]
        obtain ⟨r', rfl, hrz', hro'⟩ := hD4.agg
        have q41 := (hb4.block (B + 1) (lt_of_some H3.out.2.1)).trans H3.out.2.1
        have q40 := (hb4.block B (lt_of_some H3.out.1)).trans H3.out.1
        have hst4 := store_ds (W := V4) hrz' hro' q41 rfl
        obtain ⟨V5, hV5⟩ : ∃ V5, V4.setRow (B + 1) r' = V5 := ⟨_, rfl⟩
        rw [hV5] at hst4
        have q50 : V5.heap[B]? = some (.cells rS 42 (0, 0)) := by rw [← hV5, setRow_other _ _ _ _ (by omega)]; exact q40
        have HE : Hid (V5.heap[B + 1]? = some (.cells r' 42 (0, 0)) ∧ DSt (mor F w V5) V5 n (.agg r') ∧ Below w.heap.size w V5) := by
          refine ⟨by rw [← hV5]; exact setRow_heap V4 _ _ _ _ _ q41, by rw [← hV5]; exact DSt.put HF.out hB H3.out.2.2.2 hD4, ?_⟩
          rw [← hV5, hB]
          exact setRow_below (H3.out.2.2.1.trans (hb4.mono (by have := H3.out.2.2.2; omega))) (by omega) _
        clear HWI hD4 hb4 q41 q40 hV5
        refine wpAnyH_ready (rs := [5]) (by kernel_rfl) (by simp) ?_
        refine AllReadyH.cons rfl (fun K hK => ?_) AllReadyH.nil
        go_simp
        refine hK.out _ _ (q50) (fun hHeld => ?_)
        clear hK K
        refine wpAnyH_take (i := 6) (v := ?va_6) rfl (by kernel_rfl) (by kernel_rfl) (by kernel_rfl) (fun _ _ _ h => h) (Or.inl ⟨by first | kernel_rfl | rfl, ?ya_6⟩) hHeld ?ra_6
        case ya_6 => (intro W hSW; (try dsimp only at hSW); go_simp; (try with_reducible rfl))
        change wpAnyH _ _ _ _ _ _ _ (Act.put _ (some 3) _) _
        simp only [Act.put, List.setIfInBounds_toArray, List.set_cons_zero, List.set_cons_succ]
        refine wpAnyH_take (i := 7) (v := ?va_7) rfl (by kernel_rfl) (by kernel_rfl) (by kernel_rfl) (fun _ _ _ h => h) (Or.inl ⟨by first | kernel_rfl | rfl, ?ya_7⟩) hHeld ?ra_7
        case ya_7 => (intro W hSW; (try dsimp only at hSW); go_simp; (try with_reducible rfl))
        change wpAnyH _ _ _ _ _ _ _ (Act.put _ (some 4) _) _
        simp only [Act.put, List.setIfInBounds_toArray, List.set_cons_zero, List.set_cons_succ]
        refine wpAnyH_done (by kernel_rfl) ?_ _
        go_wp2
        exact bodyPost_ret (res_rs3 (p := 2) (q := 3) (u := 4) rfl _ _ (B + 1) _ hrz' rfl HE.out.1) rfl ⟨.agg r', (i : Int), 0, rfl, HE.out.2⟩
    · obtain rfl : i = n := by omega
      have kk : ¬ (i : Int) < (i : Int) := by omega
      go_wp2_with (refine wpList_load_w (by kernel_rfl) _ _ rfl rfl hl1 ?_)
      exact bodyPost_ret (res_rs3 (p := 2) (q := 3) (u := 4) rfl _ _ (B + 1) _ hrz rfl HSAME.out.1) rfl ⟨.agg rS, 0, 5, rfl, HSAME.out.2⟩
end
end Go.Proofs.YtdgffocmdkadpaaGreat
