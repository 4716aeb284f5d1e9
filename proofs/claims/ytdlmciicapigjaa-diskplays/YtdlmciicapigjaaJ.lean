/- Walks over Clone, New, and the statements' filled. -/
import Derived.Test.YtdlmciicapigjaaI
import Derived.Laws.BytesArg
import Derived.Laws.Tables
namespace Go.Proofs.Ytdlmciicapigjaa
open Go.RowKit Go.Shelf
/-- The blocks that were made from one world to another. -/
def fresh (w w' : World) : Nat → Prop := fun x => w.heap.size ≤ x ∧ x < w'.heap.size
set_option maxHeartbeats 400000 in
theorem clone_nil (w : World) : Calls Try.prog 19 #[.pointer none] w fun e w' => e = .returned (.pointer none) ∧ w' = w := by
  go_enter Try.func19, Try.ntmps19
  go_wp2
  go_ret
  exact ⟨rfl, rfl⟩
set_option maxRecDepth 100000 in
set_option maxHeartbeats 1000000 in
theorem clone_any {S : Nat → Prop} {g : Nat} {D : Dk} {w : World} (h : DiskIs w S g D) :
    Calls Try.prog 19 #[.pointer (some ⟨g, 0, none⟩)] w fun e w' => ∃ c, e = .returned (.pointer (some ⟨c, 0, none⟩)) ∧ DiskIs w' (fresh w w') c D ∧ Below w.heap.size w w' := by
  obtain ⟨kb, kc, sb, sc, wa, wc, h⟩ := h
  obtain ⟨c0, c1, c2, c3, c4, c5⟩ := h.cells
  have HL : Hid (Lies w S g kb kc sb sc wa wc D) := h
  have hgl : g < w.heap.size := h.bd _ h.Sg
  have hn2 := h.ok.n2
  have hN : D.waits.length ≤ 1000000 := by have := h.ok.ww; have := h.ok.wr; omega
  obtain ⟨c, hc⟩ : ∃ c, w.heap.size = c := ⟨_, rfl⟩
  obtain ⟨W1, hW1⟩ : ∃ W1, w.alloc (.cells (dcells kb kc sb sc wa wc D) 63) = W1 := ⟨_, rfl⟩
  have hb1 : Below w.heap.size w W1 := by rw [← hW1]; exact (Below.refl _ w).alloc (Nat.le_refl _) _
  have hr1 : W1.heap[c]? = some (.cells (dcells kb kc sb sc wa wc D) 63 (0, 0)) := by rw [← hW1, ← hc]; exact heap_alloc_new w _
  have hcl1 : c < W1.heap.size := lt_of_some hr1
  have cg0 : W1.cell? ⟨g, 0, none⟩ = some (.slice (some ⟨kb, 0, none⟩) D.kept.length kc) := by rw [hb1.cell hgl]; exact c0
  have HK := cloneS_any kb D.kept.length kc D.kept W1 (own_keep h.k (fun x hx => hb1.block x (by rw [ob_slice] at hx; cases hx; exact h.bd _ h.Sk))) (by omega)
  have hW1' : w.alloc (.cells #[.slice (some ⟨kb, 0, none⟩) D.kept.length kc, .slice (some ⟨sb, 0, none⟩) D.kept.length sc, .slice wa D.waits.length wc, .int .i64 (D.writes : Int), .int .i64 (D.fuse : Int), .bool D.up] 63) = W1 := hW1
  clear h hW1
  go_enter Try.func19, Try.ntmps19
  go_wp2_with fail
  refine HK.mono ?_
  rintro e w2 ⟨g1, k1, rfl, hg1, ho1, hb2⟩
  have hB2 : Below w.heap.size w w2 := hb1.trans (hb2.mono hb1.size)
  have hr2 : w2.heap[c]? = some (.cells (dcells kb kc sb sc wa wc D) 63 (0, 0)) := (hb2.block c hcl1).trans hr1
  have f2 := frozen_of_row w2 c 0 _ _ hr2
  have d2 : w2.cell? ⟨c, 0, none⟩ = some (.slice (some ⟨kb, 0, none⟩) D.kept.length kc) := by rw [cell_of_row _ c _ _ _ _ hr2]; rfl
  obtain ⟨W3, hW3⟩ : ∃ W3, w2.setCell ⟨c, 0, none⟩ (.slice (some ⟨g1, 0, none⟩) D.kept.length k1) = W3 := ⟨_, rfl⟩
  have hB3 : Below w.heap.size w W3 := by rw [← hW3]; exact hB2.setCell (by show _ ≤ c; omega) _
  have hr3 : W3.heap[c]? = some (.cells #[.slice (some ⟨g1, 0, none⟩) D.kept.length k1, .slice (some ⟨sb, 0, none⟩) D.kept.length sc, .slice wa D.waits.length wc, .int .i64 (D.writes : Int), .int .i64 (D.fuse : Int), .bool D.up] 63 (0, 0)) := by
    rw [← hW3, heap_setCell_same w2 c 0 _ _ _ hr2]; rfl
  have HO1 : Hid (W3.ownsRow 0 9 1 (.slice (some ⟨g1, 0, none⟩) D.kept.length k1) D.kept.length (strsV D.kept)) := by
    refine own_keep ho1 (fun x hx => ?_)
    rw [ob_slice] at hx
    cases hx
    rw [← hW3]
    exact heap_setCell_other _ _ _ _ (by show g1 ≠ c; omega)
  have hl1 : g1 < W3.heap.size := (HO1.out.lt g1 rfl).2
  have cg1 : W3.cell? ⟨g, 1, none⟩ = some (.slice (some ⟨sb, 0, none⟩) D.kept.length sc) := by rw [hB3.cell hgl]; exact c1
  have HS := cloneS_any sb D.kept.length sc D.seen W3 (own_keep HL.out.s (fun x hx => hB3.block x (by rw [ob_slice] at hx; cases hx; exact HL.out.bd _ HL.out.Ss))) (by omega)
  have hcl3 : c < W3.heap.size := lt_of_some hr3
  clear HK hb1 hr1 hr2 hb2 hB2 ho1 hW1'
  go_wp2_with fail
  refine HS.mono ?_
  rintro e w4 ⟨g2, k2, rfl, hg2, ho2, hb4⟩
  have hB4 : Below w.heap.size w w4 := hB3.trans (hb4.mono hB3.size)
  have hr4 := (hb4.block c hcl3).trans hr3
  have f4 := frozen_of_row w4 c 1 _ _ hr4
  have d4 : w4.cell? ⟨c, 1, none⟩ = some (.slice (some ⟨sb, 0, none⟩) D.kept.length sc) := by rw [cell_of_row _ c _ _ _ _ hr4]; rfl
  obtain ⟨W5, hW5⟩ : ∃ W5, w4.setCell ⟨c, 1, none⟩ (.slice (some ⟨g2, 0, none⟩) D.kept.length k2) = W5 := ⟨_, rfl⟩
  have hB5 : Below w.heap.size w W5 := by rw [← hW5]; exact hB4.setCell (by show _ ≤ c; omega) _
  have hr5 : W5.heap[c]? = some (.cells #[.slice (some ⟨g1, 0, none⟩) D.kept.length k1, .slice (some ⟨g2, 0, none⟩) D.kept.length k2, .slice wa D.waits.length wc, .int .i64 (D.writes : Int), .int .i64 (D.fuse : Int), .bool D.up] 63 (0, 0)) := by
    rw [← hW5, heap_setCell_same w4 c 1 _ _ _ hr4]; rfl
  have HO15 : Hid (W5.ownsRow 0 9 1 (.slice (some ⟨g1, 0, none⟩) D.kept.length k1) D.kept.length (strsV D.kept)) := by
    refine own_keep HO1.out (fun x hx => ?_)
    rw [ob_slice] at hx
    cases hx
    rw [← hW5, heap_setCell_other _ _ _ _ (by show g1 ≠ c; omega)]
    exact hb4.block g1 hl1
  have HO25 : Hid (W5.ownsRow 0 9 1 (.slice (some ⟨g2, 0, none⟩) D.kept.length k2) D.kept.length (strsV D.seen)) := by
    refine own_keep ho2 (fun x hx => ?_)
    rw [ob_slice] at hx
    cases hx
    rw [← hW5]
    exact heap_setCell_other _ _ _ _ (by show g2 ≠ c; omega)
  have hl15 : g1 < W5.heap.size := (HO15.out.lt g1 rfl).2
  have hl25 : g2 < W5.heap.size := (HO25.out.lt g2 rfl).2
  have hcl5 : c < W5.heap.size := lt_of_some hr5
  have cg2 : W5.cell? ⟨g, 2, none⟩ = some (.slice wa D.waits.length wc) := by rw [hB5.cell hgl]; exact c2
  have HWW := cloneW_any wa D.waits.length wc D.waits W5 (own_keep HL.out.q (fun x hx => hB5.block x (HL.out.bd _ (HL.out.Sw x (by rw [← ob_slice wa D.waits.length wc]; exact hx))))) hN
  clear HS hr3 hr4 hb4 hB4 ho2 HO1 hB3
  go_wp2_with fail
  refine HWW.mono ?_
  rintro e w6 ⟨a3, k3, rfl, hg3, ho3, hb6⟩
  have hr6 := (hb6.block c hcl5).trans hr5
  have f6 := frozen_of_row w6 c 2 _ _ hr6
  have d6 : w6.cell? ⟨c, 2, none⟩ = some (.slice wa D.waits.length wc) := by rw [cell_of_row _ c _ _ _ _ hr6]; rfl
  have HB7 : Hid (Below w.heap.size w (w6.setCell ⟨c, 2, none⟩ (.slice a3 D.waits.length k3))) := (hB5.trans (hb6.mono hB5.size)).setCell (by show _ ≤ c; omega) _
  have HF : Hid (Lies (w6.setCell ⟨c, 2, none⟩ (.slice a3 D.waits.length k3)) (fresh w (w6.setCell ⟨c, 2, none⟩ (.slice a3 D.waits.length k3))) c g1 k1 g2 k2 a3 k3 D) := by
    have hs6 : (w6.setCell ⟨c, 2, none⟩ (.slice a3 D.waits.length k3)).heap.size = w6.heap.size := by simp
    have hs56 : W5.heap.size ≤ w6.heap.size := hb6.size
    refine { ok := HL.out.ok, c := ?_, k := ?_, s := ?_, q := ?_, kg := by omega, sg := by omega, ks := by omega, wg := ?_, Sg := ?_, Sk := ?_, Ss := ?_, Sw := ?_, bd := fun x hx => hx.2 }
    · rw [heap_setCell_same w6 c 2 _ _ _ hr6]; rfl
    · refine own_keep HO15.out (fun x hx => ?_)
      rw [ob_slice] at hx
      cases hx
      rw [heap_setCell_other _ _ _ _ (by show g1 ≠ c; omega)]
      exact hb6.block g1 hl15
    · refine own_keep HO25.out (fun x hx => ?_)
      rw [ob_slice] at hx
      cases hx
      rw [heap_setCell_other _ _ _ _ (by show g2 ≠ c; omega)]
      exact hb6.block g2 hl25
    · refine own_keep ho3 (fun x hx => ?_)
      rw [ob_slice] at hx
      have := hg3 x hx
      exact heap_setCell_other _ _ _ _ (by show x ≠ c; omega)
    · intro x hx
      have := hg3 x hx
      omega
    · exact ⟨by omega, by rw [hs6]; omega⟩
    · exact ⟨by omega, by rw [hs6]; omega⟩
    · exact ⟨by omega, by rw [hs6]; omega⟩
    · intro x hx
      have h1 := hg3 x hx
      have h2 := (ho3.lt x (by rw [ob_slice]; exact hx)).2
      exact ⟨by omega, by rw [hs6]; exact h2⟩
  clear HWW hr5 hr6 hb6 ho3 HO15 HO25 hB5 hg3
  go_wp2
  go_ret
  exact ⟨c, rfl, ⟨_, _, _, _, _, _, HF.out⟩, HB7.out⟩
end Go.Proofs.Ytdlmciicapigjaa
