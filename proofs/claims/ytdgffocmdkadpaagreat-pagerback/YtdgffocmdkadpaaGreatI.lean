/- Walk over a Disk's Write. -/
import Derived.Test.YtdgffocmdkadpaaGreatH
namespace Go.Proofs.YtdgffocmdkadpaaGreat
open Go.RowKit Go.Shelf
theorem Upd.heap {S : Nat → Prop} {w V V' : World} (h : Upd S w V) (e1 : V'.heap = V.heap) (e2 : V'.os = V.os) (e3 : V'.tape = V.tape) (e4 : V'.output = V.output) : Upd S w V' :=
  ⟨e2.trans h.os, e3.trans h.tape, e4.trans h.output, by rw [e1]; exact h.size, fun k hk hs => by rw [e1]; exact h.block k hk hs⟩
def Dk.wait (D : Dk) (a : Nat) (s : ByteArray) : Dk := { D with waits := D.waits ++ [(a, s)], writes := D.writes + 1 }
theorem Dk.Ok.wait {D : Dk} (h : D.Ok) (a : Nat) (s : ByteArray) (ha : a < D.kept.length) (hw : D.writes < 1000000) : (D.wait a s).Ok := by
  obtain ⟨h1, h2, h3, h4, h5, h6⟩ := h
  refine ⟨h1, h2, ?_, h4, ?_, hw⟩
  · intro p hp
    simp only [Dk.wait, List.mem_append, List.mem_singleton] at hp
    rcases hp with hp | rfl
    · exact h3 p hp
    · exact ha
  · simp only [Dk.wait, List.length_append, List.length_singleton]; omega
/-- A write that waits, laid into memory. -/
theorem Lies.wait {w V w3 W6 : World} {S : Nat → Prop} {g kb kc sb sc : Nat} {wa : Option Addr} {wc : Nat} {D : Dk} (h : Lies V S g kb kc sb sc wa wc D) (a : Nat) (s : ByteArray) (ha : a < D.kept.length) (hw : D.writes < 1000000)
    (hwV : w.heap.size ≤ V.heap.size) (W2 : World) (hV : ∀ x, x < V.heap.size → W2.heap[x]? = V.heap[x]?) (hVs : V.heap.size ≤ W2.heap.size) (hgr : W2.grownBy w3 (ob wa)) (wb' wc' : Nat)
    (hown : w3.ownsRow 0 143 2 (.slice (some ⟨wb', 0, none⟩) (D.waits.length + 1) wc') (D.waits.length + 1) (wtsV D.waits ++ [.int .i64 (a : Int), .string s])) (hg : ob wa = some wb' ∨ wb' = W2.heap.size) (hlt : wb' < w3.heap.size)
    (hW : W6.heap = (((w3.setCell ⟨g, 2, none⟩ (.slice (some ⟨wb', 0, none⟩) (D.waits.length + 1) wc')).setCell ⟨sb, a, none⟩ (.string s)).setCell ⟨g, 3, none⟩ (.int .i64 ((D.writes + 1 : Nat) : Int))).heap) :
    Lies W6 (fun x => S x ∨ (w.heap.size ≤ x ∧ x < W6.heap.size)) g kb kc sb sc (some ⟨wb', 0, none⟩) wc' (D.wait a s) := by
  have hgl := h.bd _ h.Sg
  have hkl := h.bd _ h.Sk
  have hsl := h.bd _ h.Ss
  have hne : ∀ x, x < V.heap.size → ob wa ≠ some x → w3.heap[x]? = V.heap[x]? := fun x hx hn => (hgr.block x (by omega) (fun e => hn e.symm)).trans (hV x hx)
  have hg3 : w3.heap[g]? = some (.cells (dcells kb kc sb sc wa wc D) 122 (0, 0)) := (hne g hgl (fun e => (h.wg g e).1 rfl)).trans h.c
  have hk3 := hne kb hkl (fun e => (h.wg kb e).2.1 rfl)
  have hs3 := hne sb hsl (fun e => (h.wg sb e).2.2 rfl)
  have hw3 : wb' ≠ g ∧ wb' ≠ kb ∧ wb' ≠ sb := by
    rcases hg with hg | rfl
    · exact h.wg wb' hg
    · omega
  have hsz : W6.heap.size = w3.heap.size := by rw [hW]; simp
  have hV3 : V.heap.size ≤ w3.heap.size := Nat.le_trans hVs hgr.size
  have h4 : (w3.setCell ⟨g, 2, none⟩ (.slice (some ⟨wb', 0, none⟩) (D.waits.length + 1) wc')).heap[g]? = _ := heap_setCell_same w3 g 2 _ _ _ hg3
  refine { ok := h.ok.wait a s ha hw, c := ?_, k := ?_, s := ?_, q := ?_, kg := h.kg, sg := h.sg, ks := h.ks, wg := ?_, Sg := .inl h.Sg, Sk := .inl h.Sk, Ss := .inl h.Ss, Sw := ?_, bd := ?_ }
  · rw [hW, heap_setCell_same _ g 3 _ _ _ (by rw [heap_setCell_other _ _ _ _ (Ne.symm h.sg)]; exact h4)]
    simp [dcells, Dk.wait]
  · refine own_keep h.k (fun x hx => ?_)
    rw [ob_slice] at hx
    cases hx
    rw [hW, heap_setCell_other _ _ _ _ h.kg, heap_setCell_other _ _ _ _ h.ks, heap_setCell_other _ _ _ _ h.kg]
    exact hk3
  · have h0 : w3.ownsRow 0 9 1 (.slice (some ⟨sb, 0, none⟩) D.kept.length sc) D.kept.length (strsV D.seen) := own_keep h.s (fun x hx => by rw [ob_slice] at hx; cases hx; exact hs3)
    have h1 := own_put (own_keep (W' := w3.setCell ⟨g, 2, none⟩ (.slice (some ⟨wb', 0, none⟩) (D.waits.length + 1) wc')) h0 (fun x hx => by rw [ob_slice] at hx; cases hx; exact heap_setCell_other _ _ _ _ h.sg)) a (.string s)
    rw [strsV_set] at h1
    have e : (D.wait a s).seen = D.seen.set a s := over_snoc D.kept D.waits (a, s)
    rw [e]
    refine own_keep h1 (fun x hx => ?_)
    rw [ob_slice] at hx
    cases hx
    rw [hW, heap_setCell_other _ _ _ _ h.sg]
  · have e : (D.wait a s).waits.length = D.waits.length + 1 := by simp [Dk.wait]
    rw [e, show (D.wait a s).waits = D.waits ++ [(a, s)] from rfl, wtsV_snoc]
    refine own_keep hown (fun x hx => ?_)
    rw [ob_slice] at hx
    cases hx
    rw [hW, heap_setCell_other _ _ _ _ hw3.1, heap_setCell_other _ _ _ _ hw3.2.2, heap_setCell_other _ _ _ _ hw3.1]
  · intro x hx
    cases hx
    exact hw3
  · intro x hx
    cases hx
    rcases hg with hg | rfl
    · exact .inl (h.Sw wb' hg)
    · exact .inr ⟨by show _ ≤ W2.heap.size; omega, by rw [hsz]; exact hlt⟩
  · intro x hx
    rcases hx with hx | hx
    · have := h.bd x hx
      rw [hsz]; omega
    · exact hx.2
set_option maxHeartbeats 400000 in
theorem write_nil (a : Int) (s : ByteArray) (w : World) : Calls Tryz.prog 95 #[.pointer none, .int .i64 a, .string s] w fun e w' => e = .returned (.int .i64 1) ∧ w' = w := by
  have H := reach_nil a w
  go_enter Tryz.func95, Tryz.ntmps95
  go_wp2_with fail
  refine H.mono ?_
  rintro e w' ⟨rfl, rfl⟩
  go_wp2
  go_ret
  exact ⟨rfl, rfl⟩
set_option maxHeartbeats 400000 in
theorem write_bad {S : Nat → Prop} {g : Nat} {D : Dk} {w : World} (h : DiskIs w S g D) (a : Int) (s : ByteArray) (hr : ¬ D.reach a = 0) : Calls Tryz.prog 95 #[.pointer (some ⟨g, 0, none⟩), .int .i64 a, .string s] w fun e w' => e = .returned (.int .i64 (D.reach a : Int)) ∧ w' = w := by
  have H := reach_any h a
  have hr2 := reach_other hr
  generalize D.reach a = r at *
  have hne : ¬ (r : Int) = 0 := by omega
  clear h
  go_enter Tryz.func95, Tryz.ntmps95
  go_wp2_with fail
  refine H.mono ?_
  rintro e w' ⟨rfl, rfl⟩
  go_wp2
  go_ret
  exact ⟨rfl, rfl⟩
set_option maxHeartbeats 400000 in
theorem write_short {S : Nat → Prop} {g : Nat} {D : Dk} {w : World} (h : DiskIs w S g D) (a : Int) (s : ByteArray) (hr : D.reach a = 0) (hs : s.size ≠ 256) : Calls Tryz.prog 95 #[.pointer (some ⟨g, 0, none⟩), .int .i64 a, .string s] w fun e w' => e = .returned (.int .i64 1) ∧ w' = w := by
  have H := reach_any h a
  rw [hr] at H
  have hne : ¬ (s.size : Int) = 256 := by omega
  clear h
  go_enter Tryz.func95, Tryz.ntmps95
  go_wp2_with fail
  refine H.mono ?_
  rintro e w' ⟨rfl, rfl⟩
  go_wp2
  go_ret
  exact ⟨rfl, rfl⟩
set_option maxRecDepth 100000 in
set_option maxHeartbeats 2000000 in
theorem write_any {S : Nat → Prop} {g : Nat} {D : Dk} {w : World} (h : DiskIs w S g D) (a : Nat) (s : ByteArray) (hu : D.up = true) (ha : a < D.kept.length) (hs : s.size = 256) (hw : D.writes < 1000000) :
    Calls Tryz.prog 95 #[.pointer (some ⟨g, 0, none⟩), .int .i64 (a : Int), .string s] w fun e w' => e = .returned (.int .i64 0) ∧ DiskIs w' (more S w w') g (D.wrote a s) ∧ Upd S w w' := by
  have H := reach_any h (a : Int)
  have hr : D.reach (a : Int) = 0 := by unfold Dk.reach; rw [if_pos hu, if_neg (by omega)]
  rw [hr] at H
  have HSC := sclone_any s w (by omega)
  obtain ⟨kb, kc, sb, sc, wa, wc, h⟩ := h
  have HL : Hid (Lies w S g kb kc sb sc wa wc D) := h
  have hsz : (s.size : Int) = 256 := by omega
  have kan : (a : Int) < (D.kept.length : Int) := by omega
  have hwN : D.waits.length ≤ D.writes := h.ok.ww
  obtain ⟨i0, hi, hz0, hz1, hz2⟩ := info_parts info67
  clear h
  go_enter Tryz.func95, Tryz.ntmps95
  go_wp2_with fail
  refine H.mono ?_
  rintro e w1 ⟨rfl, hw1⟩
  subst w1
  clear H
  go_wp2_with fail
  refine HSC.mono ?_
  rintro e w0 ⟨rfl, hb0⟩
  clear HSC
  obtain ⟨b, hb⟩ : ∃ b, w0.heap.size = b := ⟨_, rfl⟩
  obtain ⟨W1, hW1⟩ : ∃ W1, w0.alloc (.cells #[.int .i64 (a : Int), .string s] 143) = W1 := ⟨_, rfl⟩
  have hb1 : Below w.heap.size w W1 := by rw [← hW1]; exact hb0.alloc hb0.size _
  have HL1 : Hid (Lies W1 S g kb kc sb sc wa wc D) := HL.out.keep (fun x hx => hb1.block x (HL.out.bd x hx))
  have hrow1 : W1.heap[b]? = some (.cells #[.int .i64 (a : Int), .string s] 143 (0, 0)) := by rw [← hW1, ← hb]; exact heap_alloc_new w0 _
  have hbl : b < W1.heap.size := lt_of_some hrow1
  have hwb : w.heap.size ≤ b := by rw [← hb]; exact hb0.size
  have ca1 : W1.drew.cell? ⟨b, 0, none⟩ = some (.int .i64 (a : Int)) := by
    show W1.cell? _ = _
    rw [cell_of_row _ b _ _ _ _ hrow1]; rfl
  have cb1 : W1.drew.cell? ⟨b, 1, none⟩ = some (.string s) := by
    show W1.cell? _ = _
    rw [cell_of_row _ b _ _ _ _ hrow1]; rfl
  obtain ⟨c, hc⟩ : ∃ c, W1.drew.heap.size = c := ⟨_, rfl⟩
  have hc' : W1.heap.size = c := hc
  obtain ⟨W2, hW2⟩ : ∃ W2, W1.drew.alloc (.cells #[.int .i64 (a : Int), .string s] 143) = W2 := ⟨_, rfl⟩
  have hb2 : Below W1.heap.size W1 W2 := by rw [← hW2]; exact (Below.refl _ W1).drew.alloc (Nat.le_refl _) _
  have hrow2 : W2.heap[c]? = some (.cells #[.int .i64 (a : Int), .string s] 143 (0, 0)) := by rw [← hW2, ← hc]; exact heap_alloc_new W1.drew _
  have ca2 : W2.cell? ⟨b, 0, none⟩ = some (.int .i64 (a : Int)) := by rw [hb2.cell hbl]; exact ca1
  have cb2 : W2.cell? ⟨b, 1, none⟩ = some (.string s) := by rw [hb2.cell hbl]; exact cb1
  obtain ⟨c0, c1, c2, c3, c4, c5⟩ := HL1.out.cells
  have c2d : W1.drew.cell? ⟨g, 2, none⟩ = some (.slice wa D.waits.length wc) := c2
  have hgl : g < W1.heap.size := HL1.out.bd _ HL1.out.Sg
  have hslt : sb < W1.heap.size := HL1.out.bd _ HL1.out.Ss
  have c22 : W2.cell? ⟨g, 2, none⟩ = some (.slice wa D.waits.length wc) := by rw [hb2.cell hgl]; exact c2
  have HO2 : Hid (W2.ownsRow 0 143 2 (.slice wa D.waits.length wc) D.waits.length (wtsV D.waits)) := own_keep HL1.out.q (fun x hx => hb2.block x (HL1.out.bd x (HL1.out.Sw x (by rw [← ob_slice wa D.waits.length wc]; exact hx))))
  have HNW : Hid (∀ j u, [Value.int .i64 (a : Int), .string s][j]? = some u → W2.cell? ((⟨c, 0, none⟩ : Addr).add j) = some u) := World.news_of_block hrow2
  have hgb : g ≠ b := by have := HL.out.bd _ HL.out.Sg; omega
  have hsb : sb ≠ b := by have := HL.out.bd _ HL.out.Ss; omega
  have hsg : sb ≠ g := HL.out.sg
  have HAP : Hid (∀ wb' wc' w3, w3.ownsRow 0 143 2 (.slice (some ⟨wb', 0, none⟩) (D.waits.length + 1) wc') (D.waits.length + 1) (wtsV D.waits ++ [.int .i64 (a : Int), .string s]) → W2.grownBy w3 (Value.slice wa D.waits.length wc).ownBlock → ((Value.slice wa D.waits.length wc).ownBlock = some wb' ∨ wb' = W2.heap.size) → wb' < w3.heap.size →
      w3.cell? ⟨g, 2, none⟩ = some (.slice wa D.waits.length wc) ∧ w3.frozen? ⟨g, 2, none⟩ = false ∧ w3.cell? ⟨b, 0, none⟩ = some (.int .i64 (a : Int)) ∧ w3.cell? ⟨b, 1, none⟩ = some (.string s) ∧
      Hid (∀ W4, W4 = w3.setCell ⟨g, 2, none⟩ (.slice (some ⟨wb', 0, none⟩) (D.waits.length + 1) wc') → True ∧ W4.drew.cell? ⟨g, 1, none⟩ = some (.slice (some ⟨sb, 0, none⟩) D.kept.length sc) ∧ W4.drew.cell? ⟨b, 1, none⟩ = some (.string s) ∧ W4.drew.frozen? ⟨sb, a, none⟩ = false ∧ (∃ old, W4.drew.cell? ⟨sb, a, none⟩ = some (.string old)) ∧
        (W4.setCell ⟨sb, a, none⟩ (.string s)).cell? ⟨g, 3, none⟩ = some (.int .i64 (D.writes : Int)) ∧ (W4.setCell ⟨sb, a, none⟩ (.string s)).frozen? ⟨g, 3, none⟩ = false ∧
        Hid (∀ W6 : World, W6.heap = ((W4.setCell ⟨sb, a, none⟩ (.string s)).setCell ⟨g, 3, none⟩ (.int .i64 ((D.writes : Int) + 1))).heap → W6.os = W4.os → W6.tape = W4.tape → W6.output = W4.output → Calls Tryz.prog 123 #[.pointer (some ⟨g, 0, none⟩)] W6 fun e w' => e = .returned (.tuple #[]) ∧ DiskIs w' (more S w w') g (D.wrote a s) ∧ Upd S w w'))) := by
    intro wb' wc' w3 hown hgrow hg hlt
    rw [ob_slice] at hgrow hg
    have hne : ∀ x, x < W1.heap.size → ob wa ≠ some x → w3.heap[x]? = W1.heap[x]? := fun x hx hn => (hgrow.block x (Nat.lt_of_lt_of_le hx hb2.size) (fun e => hn e.symm)).trans (hb2.block x hx)
    have hbn : ob wa ≠ some b := fun e => by have := HL.out.bd _ (HL.out.Sw b e); omega
    have hgn : ob wa ≠ some g := fun e => (HL.out.wg g e).1 rfl
    have hsn : ob wa ≠ some sb := fun e => (HL.out.wg sb e).2.2 rfl
    have eg := hne g hgl hgn
    have eb := hne b hbl hbn
    have es := hne sb hslt hsn
    refine ⟨(World.cell?_of_block (w := W1) eg).trans c2, (World.frozen?_of_block (w := W1) eg).trans (HL1.out.fro 2), (World.cell?_of_block (w := W1) eb).trans ca1, (World.cell?_of_block (w := W1) eb).trans cb1, ?_⟩
    rintro W4 rfl
    have hg3 : w3.heap[g]? = some (.cells (dcells kb kc sb sc wa wc D) 122 (0, 0)) := eg.trans HL1.out.c
    have h4 : (w3.setCell ⟨g, 2, none⟩ (.slice (some ⟨wb', 0, none⟩) (D.waits.length + 1) wc')).heap[g]? = _ := heap_setCell_same w3 g 2 _ _ _ hg3
    have h5 : ((w3.setCell ⟨g, 2, none⟩ (.slice (some ⟨wb', 0, none⟩) (D.waits.length + 1) wc')).setCell ⟨sb, a, none⟩ (.string s)).heap[g]? = _ := (heap_setCell_other _ _ _ _ (Ne.symm hsg)).trans h4
    refine ⟨trivial, ?_, ?_, ?_, ⟨D.seen.getD a ByteArray.empty, ?_⟩, ?_, ?_, ?_⟩
    · show (w3.setCell ⟨g, 2, none⟩ (.slice (some ⟨wb', 0, none⟩) (D.waits.length + 1) wc')).cell? _ = _
      rw [cell_of_row _ g _ _ _ _ h4]; rfl
    · show (w3.setCell ⟨g, 2, none⟩ (.slice (some ⟨wb', 0, none⟩) (D.waits.length + 1) wc')).cell? _ = _
      rw [World.cell?_setCell_far _ _ _ _ hgb]
      exact (World.cell?_of_block (w := W1) eb).trans cb1
    · show (w3.setCell ⟨g, 2, none⟩ (.slice (some ⟨wb', 0, none⟩) (D.waits.length + 1) wc')).frozen? _ = _
      rw [World.frozen?_setCell]
      exact (World.frozen?_of_block (w := W1) es).trans (own_fro HL1.out.s a)
    · show (w3.setCell ⟨g, 2, none⟩ (.slice (some ⟨wb', 0, none⟩) (D.waits.length + 1) wc')).cell? _ = _
      rw [World.cell?_setCell_far _ _ _ _ (Ne.symm hsg)]
      exact (World.cell?_of_block (w := W1) es).trans (HL1.out.seenAt a ha)
    · rw [cell_of_row _ g _ _ _ _ h5]; rfl
    · exact frozen_of_row _ g 3 _ _ h5
    · intro W6 hW6 o1 o2 o3
      have hlies := Lies.wait (w := w) (W6 := W6) HL1.out a s ha hw hb1.size W2 (fun x hx => hb2.block x hx) hb2.size hgrow wb' wc' hown hg hlt (by rw [hW6]; simp)
      have hu6 : Upd S w W6 := by
        have u1 : Upd S w W2 := Upd.of_below (hb1.trans (hb2.mono hb1.size))
        have u2 := u1.grown hgrow (fun k hk _ => HL.out.Sw k hk)
        have u3 := ((u2.setCell (p := ⟨g, 2, none⟩) (fun _ => HL.out.Sg) (.slice (some ⟨wb', 0, none⟩) (D.waits.length + 1) wc')).setCell (p := ⟨sb, a, none⟩) (fun _ => HL.out.Ss) (.string s)).setCell (p := ⟨g, 3, none⟩) (fun _ => HL.out.Sg) (.int .i64 ((D.writes : Int) + 1))
        exact u3.heap hW6 (o1.trans rfl) (o2.trans rfl) (o3.trans rfl)
      refine (burn_any hlies (by exact hu)).mono ?_
      rintro e w' ⟨rfl, h1, h2⟩
      refine ⟨rfl, ?_, hu6.trans h2 (fun x hx hlt => hx.elim id (fun h => by omega))⟩
      have hD : ({ D.wait a s with fuse := (D.wait a s).fuse - 1, up := decide ((D.wait a s).fuse ≠ 1) } : Dk) = D.wrote a s := rfl
      rw [hD] at h1
      exact DiskIs.mono ⟨_, _, _, _, _, _, h1⟩ (fun x hx => hx.elim .inl (fun h => .inr ⟨h.1, Nat.lt_of_lt_of_le h.2 h2.size⟩)) (fun x hx => hx.elim (fun h => Nat.lt_of_lt_of_le (HL.out.bd x h) (Nat.le_trans hu6.size h2.size)) (fun h => h.2))
  obtain ⟨N, hN⟩ : ∃ N, D.waits.length = N := ⟨_, rfl⟩
  obtain ⟨n, hn⟩ : ∃ n, D.kept.length = n := ⟨_, rfl⟩
  rw [hN] at HAP c22 c2d HO2 c2 hwN
  rw [hn] at HAP kan ha
  have kwr : (D.writes : Int) + 1 ≤ 1000000 := by omega
  clear c0 c1 c2 c3 c4 c5 hrow1 hrow2 hb0 hb1 hb2 HL1
  go_wp2
  try rw [hb]
  try rw [hW1]
  refine wp_region_held_drew (S := fun V => V.cell? ⟨b, 0, none⟩ = some (.int .i64 (a : Int)) ∧ V.cell? ⟨b, 1, none⟩ = some (.string s)) (by kernel_rfl) (⟨ca1, cb1⟩) (fun hHeld => ?_)
  refine wpAnyH_take (i := 0) (v := ?vp0) rfl (by kernel_rfl) (by kernel_rfl) (by kernel_rfl) (fun _ _ _ h => h) (Or.inl ⟨by first | kernel_rfl | rfl, ?yp0⟩) hHeld ?rp0
  case yp0 => (intro W hSW; (try dsimp only at hSW); go_simp; (try with_reducible rfl))
  change wpAnyH _ _ _ _ _ _ _ (Act.put _ (some 22) _) _
  simp only [Act.put, List.setIfInBounds_toArray, List.set_cons_zero, List.set_cons_succ]
  refine wpAnyH_take (i := 1) (v := ?vp1) rfl (by kernel_rfl) (by kernel_rfl) (by kernel_rfl) (fun _ _ _ h => h) (Or.inl ⟨by first | kernel_rfl | rfl, ?yp1⟩) hHeld ?rp1
  case yp1 => (intro W hSW; (try dsimp only at hSW); go_simp; (try with_reducible rfl))
  change wpAnyH _ _ _ _ _ _ _ (Act.put _ (some 23) _) _
  simp only [Act.put, List.setIfInBounds_toArray, List.set_cons_zero, List.set_cons_succ]
  refine wpAnyH_take (i := 2) (v := ?vp2) rfl (by kernel_rfl) (by kernel_rfl) (by kernel_rfl) (fun _ _ _ h => h) (Or.inl ⟨by first | kernel_rfl | rfl, ?yp2⟩) hHeld ?rp2
  case yp2 => (intro W hSW; (try dsimp only at hSW); go_simp; (try with_reducible rfl))
  change wpAnyH _ _ _ _ _ _ _ (Act.put _ (some 24) _) _
  simp only [Act.put, List.setIfInBounds_toArray, List.set_cons_zero, List.set_cons_succ]
  refine wpAnyH_take (i := 3) (v := ?vp3) rfl (by kernel_rfl) (by kernel_rfl) (by kernel_rfl) (fun _ _ _ h => h) (Or.inl ⟨by first | kernel_rfl | rfl, ?yp3⟩) hHeld ?rp3
  case yp3 => (intro W hSW; (try dsimp only at hSW); go_simp; (try with_reducible rfl))
  change wpAnyH _ _ _ _ _ _ _ (Act.put _ (some 25) _) _
  simp only [Act.put, List.setIfInBounds_toArray, List.set_cons_zero, List.set_cons_succ]
  refine wpAnyH_take (i := 5) (v := ?vp5) rfl (by kernel_rfl) (by kernel_rfl) (by kernel_rfl) (fun _ _ _ h => h) (Or.inl ⟨by first | kernel_rfl | rfl, ?yp5⟩) hHeld ?rp5
  case yp5 => (intro W hSW; (try dsimp only at hSW); go_simp; (try with_reducible rfl))
  change wpAnyH _ _ _ _ _ _ _ (Act.put _ (some 27) _) _
  simp only [Act.put, List.setIfInBounds_toArray, List.set_cons_zero, List.set_cons_succ]
  refine wpAnyH_ready (rs := [4, 6]) (by kernel_rfl) (by simp) ?_
  refine AllReadyH.cons rfl (fun K hK => ?_) (AllReadyH.cons rfl (fun K hK => ?_) AllReadyH.nil)
  · go_simp
    refine hK.out _ _ (hHeld) (fun hHeld => ?_)
    clear hK K
    try simp only [Act.put, List.setIfInBounds_toArray, List.set_cons_zero, List.set_cons_succ]
    refine wpAnyH_ready (rs := [6]) (by kernel_rfl) (by simp) ?_
    refine AllReadyH.cons rfl (fun K hK => ?_) AllReadyH.nil
    go_simp
    refine hK.out _ _ (⟨ca2, cb2⟩) (fun hHeld => ?_)
    clear hK K
    try simp only [Act.put, List.setIfInBounds_toArray, List.set_cons_zero, List.set_cons_succ]
    refine wpAnyH_ready (rs := [7]) (by kernel_rfl) (by simp) ?_
    refine AllReadyH.cons rfl (fun K hK => ?_) AllReadyH.nil
    rw [if_pos (by rfl)]
    refine wp_append_lies W2 _ _ 120 rfl 0 143 i0 (.agg #[.int .i64 0, .string ByteArray.empty]) 2 24 Tryz.underlying120 hi hz0 hz1 hz2 rfl (by decide) _ N (wtsV D.waits) rfl HO2.out ⟨c, 0, none⟩ 1 1 [.int .i64 (a : Int), .string s] rfl rfl HNW.out (by simp [Value.oneCell']) (by omega) (by unfold maxLen; omega) (by omega) (Nat.zero_le _) _ rfl ?_
    intro wb' wc' w3 hown hgrow hg hlt; obtain ⟨cg3, fg3, h31, h32, HNX⟩ := HAP.out wb' wc' w3 hown hgrow hg hlt; clear hown hgrow hg hlt
    refine hK.out _ _ (⟨h31, h32⟩) (fun hHeld => ?_)
    clear hK K
    change wpAnyH _ _ _ _ _ _ _ (Act.put _ (some 29) _) _
    simp only [Act.put, List.setIfInBounds_toArray, List.set_cons_zero, List.set_cons_succ]
    refine wpAnyH_take (i := 8) (v := ?vr8) rfl (by kernel_rfl) (by kernel_rfl) (by kernel_rfl) (fun _ _ _ h => h) (Or.inl ⟨by first | kernel_rfl | rfl, ?yr8⟩) hHeld ?rr8
    case yr8 => (intro W hSW; (try dsimp only at hSW); go_simp; (try with_reducible rfl))
    change wpAnyH _ _ _ _ _ _ _ (Act.put _ (some 30) _) _
    simp only [Act.put, List.setIfInBounds_toArray, List.set_cons_zero, List.set_cons_succ]
    refine wpAnyH_take (i := 9) (v := ?vr9) rfl (by kernel_rfl) (by kernel_rfl) (by kernel_rfl) (fun _ _ _ h => h) (Or.inl ⟨by first | kernel_rfl | rfl, ?yr9⟩) hHeld ?rr9
    case yr9 => (intro W hSW; (try dsimp only at hSW); go_simp; (try with_reducible rfl))
    change wpAnyH _ _ _ _ _ _ _ (Act.put _ (some 31) _) _
    simp only [Act.put, List.setIfInBounds_toArray, List.set_cons_zero, List.set_cons_succ]
    refine wpAnyH_ready (rs := [10]) (by kernel_rfl) (by simp) ?_
    refine AllReadyH.cons rfl (fun K hK => ?_) AllReadyH.nil
    go_simp
    refine hK.out _ _ (⟨by rw [World.cell?_setCell_far _ _ _ _ hgb]; exact h31, by rw [World.cell?_setCell_far _ _ _ _ hgb]; exact h32⟩) (fun hHeld => ?_)
    clear hK K
    refine wpAnyH_done (by kernel_rfl) ?_ _
    obtain ⟨W4, hW4⟩ : ∃ W4, w3.setCell ⟨g, 2, none⟩ (.slice (some ⟨wb', 0, none⟩) (N + 1) wc') = W4 := ⟨_, rfl⟩
    try rw [hW4]
    obtain ⟨HFA, c4g, c4b, f4s, ⟨old, c4s⟩, c53, f53, HBU⟩ := HNX.out W4 hW4.symm
    clear hHeld cg3 fg3 h31 h32 hW4 HNX
    go_wp2
    refine wp_region_held_drew (S := fun V => V.cell? ⟨g, 1, none⟩ = some (.slice (some ⟨sb, 0, none⟩) n sc) ∧ V.cell? ⟨b, 1, none⟩ = some (.string s)) (by kernel_rfl) (⟨c4g, c4b⟩) (fun hHeld => ?_)
    refine wpAnyH_take (i := 0) (v := ?vr80) rfl (by kernel_rfl) (by kernel_rfl) (by kernel_rfl) (fun _ _ _ h => h) (Or.inl ⟨by first | kernel_rfl | rfl, ?yr80⟩) hHeld ?rr80
    case yr80 => (intro W hSW; (try dsimp only at hSW); go_simp; (try with_reducible rfl))
    change wpAnyH _ _ _ _ _ _ _ (Act.put _ (some 32) _) _
    simp only [Act.put, List.setIfInBounds_toArray, List.set_cons_zero, List.set_cons_succ]
    refine wpAnyH_take (i := 1) (v := ?vr81) rfl (by kernel_rfl) (by kernel_rfl) (by kernel_rfl) (fun _ _ _ h => h) (Or.inl ⟨by first | kernel_rfl | rfl, ?yr81⟩) hHeld ?rr81
    case yr81 => (intro W hSW; (try dsimp only at hSW); go_simp; (try with_reducible rfl))
    change wpAnyH _ _ _ _ _ _ _ (Act.put _ (some 33) _) _
    simp only [Act.put, List.setIfInBounds_toArray, List.set_cons_zero, List.set_cons_succ]
    refine wpAnyH_take (i := 2) (v := ?vr82) rfl (by kernel_rfl) (by kernel_rfl) (by kernel_rfl) (fun _ _ _ h => h) (Or.inl ⟨by first | kernel_rfl | rfl, ?yr82⟩) hHeld ?rr82
    case yr82 => (intro W hSW; (try dsimp only at hSW); go_simp; (try with_reducible rfl))
    change wpAnyH _ _ _ _ _ _ _ (Act.put _ (some 34) _) _
    simp only [Act.put, List.setIfInBounds_toArray, List.set_cons_zero, List.set_cons_succ]
    refine wpAnyH_take (i := 3) (v := ?vr83) rfl (by kernel_rfl) (by kernel_rfl) (by kernel_rfl) (fun _ _ _ h => h) (Or.inl ⟨by first | kernel_rfl | rfl, ?yr83⟩) hHeld ?rr83
    case yr83 => (intro W hSW; (try dsimp only at hSW); go_simp; (try with_reducible rfl))
    change wpAnyH _ _ _ _ _ _ _ (Act.put _ (some 35) _) _
    simp only [Act.put, List.setIfInBounds_toArray, List.set_cons_zero, List.set_cons_succ]
    refine wpAnyH_take (i := 4) (v := ?vr84) rfl (by kernel_rfl) (by kernel_rfl) (by kernel_rfl) (fun _ _ _ h => h) (Or.inl ⟨by first | kernel_rfl | rfl, ?yr84⟩) hHeld ?rr84
    case yr84 => (intro W hSW; (try dsimp only at hSW); go_simp; (try with_reducible rfl))
    change wpAnyH _ _ _ _ _ _ _ (Act.put _ (some 36) _) _
    simp only [Act.put, List.setIfInBounds_toArray, List.set_cons_zero, List.set_cons_succ]
    refine wpAnyH_take (i := 5) (v := ?vr85) rfl (by kernel_rfl) (by kernel_rfl) (by kernel_rfl) (fun _ _ _ h => h) (Or.inl ⟨by first | kernel_rfl | rfl, ?yr85⟩) hHeld ?rr85
    case yr85 => (intro W hSW; (try dsimp only at hSW); go_simp; (try with_reducible rfl))
    change wpAnyH _ _ _ _ _ _ _ (Act.put _ (some 37) _) _
    simp only [Act.put, List.setIfInBounds_toArray, List.set_cons_zero, List.set_cons_succ]
    refine wpAnyH_take (i := 6) (v := ?vr86) rfl (by kernel_rfl) (by kernel_rfl) (by kernel_rfl) (fun _ _ _ h => h) (Or.inl ⟨by first | kernel_rfl | rfl, ?yr86⟩) hHeld ?rr86
    case yr86 => (intro W hSW; (try dsimp only at hSW); go_simp; (try with_reducible rfl))
    change wpAnyH _ _ _ _ _ _ _ (Act.put _ (some 38) _) _
    simp only [Act.put, List.setIfInBounds_toArray, List.set_cons_zero, List.set_cons_succ]
    refine wpAnyH_take (i := 7) (v := ?vr87) rfl (by kernel_rfl) (by kernel_rfl) (by kernel_rfl) (fun _ _ _ h => h) (Or.inl ⟨by first | kernel_rfl | rfl, ?yr87⟩) hHeld ?rr87
    case yr87 => (intro W hSW; (try dsimp only at hSW); go_simp; (try with_reducible rfl))
    change wpAnyH _ _ _ _ _ _ _ (Act.put _ (some 39) _) _
    simp only [Act.put, List.setIfInBounds_toArray, List.set_cons_zero, List.set_cons_succ]
    refine wpAnyH_ready (rs := [8]) (by kernel_rfl) (by simp) ?_
    refine AllReadyH.cons rfl (fun K hK => ?_) AllReadyH.nil
    go_simp
    refine hK.out _ _ (⟨by show (W4.setCell ⟨sb, a, none⟩ (.string s)).cell? _ = _; rw [World.cell?_setCell_far _ _ _ _ hsg]; exact c4g, by show (W4.setCell ⟨sb, a, none⟩ (.string s)).cell? _ = _; rw [World.cell?_setCell_far _ _ _ _ hsb]; exact c4b⟩) (fun hHeld => ?_)
    clear hK K
    refine wpAnyH_done (by kernel_rfl) ?_ _
    clear hHeld c4g c4b f4s c4s HFA
    go_wp2_with fail
    refine Calls.mono (HBU.out _ ?h1 ?h2 ?h3 ?h4) ?_
    case h1 => rfl
    case h2 => rfl
    case h3 => rfl
    case h4 => rfl
    rintro e w7 ⟨rfl, h7⟩
    have H7 : Hid _ := h7
    clear h7 HBU
    go_wp2
    go_ret
    exact ⟨rfl, H7.out⟩
  · go_simp
    refine hK.out _ _ (⟨ca2, cb2⟩) (fun hHeld => ?_)
    clear hK K
    try simp only [Act.put, List.setIfInBounds_toArray, List.set_cons_zero, List.set_cons_succ]
    refine wpAnyH_ready (rs := [4]) (by kernel_rfl) (by simp) ?_
    refine AllReadyH.cons rfl (fun K hK => ?_) AllReadyH.nil
    go_simp
    refine hK.out _ _ (hHeld) (fun hHeld => ?_)
    clear hK K
    try simp only [Act.put, List.setIfInBounds_toArray, List.set_cons_zero, List.set_cons_succ]
    refine wpAnyH_ready (rs := [7]) (by kernel_rfl) (by simp) ?_
    refine AllReadyH.cons rfl (fun K hK => ?_) AllReadyH.nil
    rw [if_pos (by rfl)]
    refine wp_append_lies W2 _ _ 120 rfl 0 143 i0 (.agg #[.int .i64 0, .string ByteArray.empty]) 2 24 Tryz.underlying120 hi hz0 hz1 hz2 rfl (by decide) _ N (wtsV D.waits) rfl HO2.out ⟨c, 0, none⟩ 1 1 [.int .i64 (a : Int), .string s] rfl rfl HNW.out (by simp [Value.oneCell']) (by omega) (by unfold maxLen; omega) (by omega) (Nat.zero_le _) _ rfl ?_
    intro wb' wc' w3 hown hgrow hg hlt; obtain ⟨cg3, fg3, h31, h32, HNX⟩ := HAP.out wb' wc' w3 hown hgrow hg hlt; clear hown hgrow hg hlt
    refine hK.out _ _ (⟨h31, h32⟩) (fun hHeld => ?_)
    clear hK K
    change wpAnyH _ _ _ _ _ _ _ (Act.put _ (some 29) _) _
    simp only [Act.put, List.setIfInBounds_toArray, List.set_cons_zero, List.set_cons_succ]
    refine wpAnyH_take (i := 8) (v := ?vt8) rfl (by kernel_rfl) (by kernel_rfl) (by kernel_rfl) (fun _ _ _ h => h) (Or.inl ⟨by first | kernel_rfl | rfl, ?yt8⟩) hHeld ?rt8
    case yt8 => (intro W hSW; (try dsimp only at hSW); go_simp; (try with_reducible rfl))
    change wpAnyH _ _ _ _ _ _ _ (Act.put _ (some 30) _) _
    simp only [Act.put, List.setIfInBounds_toArray, List.set_cons_zero, List.set_cons_succ]
    refine wpAnyH_take (i := 9) (v := ?vt9) rfl (by kernel_rfl) (by kernel_rfl) (by kernel_rfl) (fun _ _ _ h => h) (Or.inl ⟨by first | kernel_rfl | rfl, ?yt9⟩) hHeld ?rt9
    case yt9 => (intro W hSW; (try dsimp only at hSW); go_simp; (try with_reducible rfl))
    change wpAnyH _ _ _ _ _ _ _ (Act.put _ (some 31) _) _
    simp only [Act.put, List.setIfInBounds_toArray, List.set_cons_zero, List.set_cons_succ]
    refine wpAnyH_ready (rs := [10]) (by kernel_rfl) (by simp) ?_
    refine AllReadyH.cons rfl (fun K hK => ?_) AllReadyH.nil
    go_simp
    refine hK.out _ _ (⟨by rw [World.cell?_setCell_far _ _ _ _ hgb]; exact h31, by rw [World.cell?_setCell_far _ _ _ _ hgb]; exact h32⟩) (fun hHeld => ?_)
    clear hK K
    refine wpAnyH_done (by kernel_rfl) ?_ _
    obtain ⟨W4, hW4⟩ : ∃ W4, w3.setCell ⟨g, 2, none⟩ (.slice (some ⟨wb', 0, none⟩) (N + 1) wc') = W4 := ⟨_, rfl⟩
    try rw [hW4]
    obtain ⟨HFA, c4g, c4b, f4s, ⟨old, c4s⟩, c53, f53, HBU⟩ := HNX.out W4 hW4.symm
    clear hHeld cg3 fg3 h31 h32 hW4 HNX
    go_wp2
    refine wp_region_held_drew (S := fun V => V.cell? ⟨g, 1, none⟩ = some (.slice (some ⟨sb, 0, none⟩) n sc) ∧ V.cell? ⟨b, 1, none⟩ = some (.string s)) (by kernel_rfl) (⟨c4g, c4b⟩) (fun hHeld => ?_)
    refine wpAnyH_take (i := 0) (v := ?vt80) rfl (by kernel_rfl) (by kernel_rfl) (by kernel_rfl) (fun _ _ _ h => h) (Or.inl ⟨by first | kernel_rfl | rfl, ?yt80⟩) hHeld ?rt80
    case yt80 => (intro W hSW; (try dsimp only at hSW); go_simp; (try with_reducible rfl))
    change wpAnyH _ _ _ _ _ _ _ (Act.put _ (some 32) _) _
    simp only [Act.put, List.setIfInBounds_toArray, List.set_cons_zero, List.set_cons_succ]
    refine wpAnyH_take (i := 1) (v := ?vt81) rfl (by kernel_rfl) (by kernel_rfl) (by kernel_rfl) (fun _ _ _ h => h) (Or.inl ⟨by first | kernel_rfl | rfl, ?yt81⟩) hHeld ?rt81
    case yt81 => (intro W hSW; (try dsimp only at hSW); go_simp; (try with_reducible rfl))
    change wpAnyH _ _ _ _ _ _ _ (Act.put _ (some 33) _) _
    simp only [Act.put, List.setIfInBounds_toArray, List.set_cons_zero, List.set_cons_succ]
    refine wpAnyH_take (i := 2) (v := ?vt82) rfl (by kernel_rfl) (by kernel_rfl) (by kernel_rfl) (fun _ _ _ h => h) (Or.inl ⟨by first | kernel_rfl | rfl, ?yt82⟩) hHeld ?rt82
    case yt82 => (intro W hSW; (try dsimp only at hSW); go_simp; (try with_reducible rfl))
    change wpAnyH _ _ _ _ _ _ _ (Act.put _ (some 34) _) _
    simp only [Act.put, List.setIfInBounds_toArray, List.set_cons_zero, List.set_cons_succ]
    refine wpAnyH_take (i := 3) (v := ?vt83) rfl (by kernel_rfl) (by kernel_rfl) (by kernel_rfl) (fun _ _ _ h => h) (Or.inl ⟨by first | kernel_rfl | rfl, ?yt83⟩) hHeld ?rt83
    case yt83 => (intro W hSW; (try dsimp only at hSW); go_simp; (try with_reducible rfl))
    change wpAnyH _ _ _ _ _ _ _ (Act.put _ (some 35) _) _
    simp only [Act.put, List.setIfInBounds_toArray, List.set_cons_zero, List.set_cons_succ]
    refine wpAnyH_take (i := 4) (v := ?vt84) rfl (by kernel_rfl) (by kernel_rfl) (by kernel_rfl) (fun _ _ _ h => h) (Or.inl ⟨by first | kernel_rfl | rfl, ?yt84⟩) hHeld ?rt84
    case yt84 => (intro W hSW; (try dsimp only at hSW); go_simp; (try with_reducible rfl))
    change wpAnyH _ _ _ _ _ _ _ (Act.put _ (some 36) _) _
    simp only [Act.put, List.setIfInBounds_toArray, List.set_cons_zero, List.set_cons_succ]
    refine wpAnyH_take (i := 5) (v := ?vt85) rfl (by kernel_rfl) (by kernel_rfl) (by kernel_rfl) (fun _ _ _ h => h) (Or.inl ⟨by first | kernel_rfl | rfl, ?yt85⟩) hHeld ?rt85
    case yt85 => (intro W hSW; (try dsimp only at hSW); go_simp; (try with_reducible rfl))
    change wpAnyH _ _ _ _ _ _ _ (Act.put _ (some 37) _) _
    simp only [Act.put, List.setIfInBounds_toArray, List.set_cons_zero, List.set_cons_succ]
    refine wpAnyH_take (i := 6) (v := ?vt86) rfl (by kernel_rfl) (by kernel_rfl) (by kernel_rfl) (fun _ _ _ h => h) (Or.inl ⟨by first | kernel_rfl | rfl, ?yt86⟩) hHeld ?rt86
    case yt86 => (intro W hSW; (try dsimp only at hSW); go_simp; (try with_reducible rfl))
    change wpAnyH _ _ _ _ _ _ _ (Act.put _ (some 38) _) _
    simp only [Act.put, List.setIfInBounds_toArray, List.set_cons_zero, List.set_cons_succ]
    refine wpAnyH_take (i := 7) (v := ?vt87) rfl (by kernel_rfl) (by kernel_rfl) (by kernel_rfl) (fun _ _ _ h => h) (Or.inl ⟨by first | kernel_rfl | rfl, ?yt87⟩) hHeld ?rt87
    case yt87 => (intro W hSW; (try dsimp only at hSW); go_simp; (try with_reducible rfl))
    change wpAnyH _ _ _ _ _ _ _ (Act.put _ (some 39) _) _
    simp only [Act.put, List.setIfInBounds_toArray, List.set_cons_zero, List.set_cons_succ]
    refine wpAnyH_ready (rs := [8]) (by kernel_rfl) (by simp) ?_
    refine AllReadyH.cons rfl (fun K hK => ?_) AllReadyH.nil
    go_simp
    refine hK.out _ _ (⟨by show (W4.setCell ⟨sb, a, none⟩ (.string s)).cell? _ = _; rw [World.cell?_setCell_far _ _ _ _ hsg]; exact c4g, by show (W4.setCell ⟨sb, a, none⟩ (.string s)).cell? _ = _; rw [World.cell?_setCell_far _ _ _ _ hsb]; exact c4b⟩) (fun hHeld => ?_)
    clear hK K
    refine wpAnyH_done (by kernel_rfl) ?_ _
    clear hHeld c4g c4b f4s c4s HFA
    go_wp2_with fail
    refine Calls.mono (HBU.out _ ?h1 ?h2 ?h3 ?h4) ?_
    case h1 => rfl
    case h2 => rfl
    case h3 => rfl
    case h4 => rfl
    rintro e w7 ⟨rfl, h7⟩
    have H7 : Hid _ := h7
    clear h7 HBU
    go_wp2
    go_ret
    exact ⟨rfl, H7.out⟩
end Go.Proofs.YtdgffocmdkadpaaGreat
