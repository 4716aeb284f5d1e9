/- A walk over the document's Run. -/
import Derived.Test.YtaacedaehbaodaaGreatYC
import Derived.Test.YtaacedaehbaodaaGreatY
namespace Go.Proofs.YtaacedaehbaodaaGreat
open Go.RowKit Go.Shelf
theorem five_heap (V : World) (b : Nat) (c0 c1 c2 c3 c4 v0 v1 v2 v3 v4 : Value) (t : TypeId) (h : V.heap[b]? = some (.cells #[c0, c1, c2, c3, c4] t (0, 0))) :
    (((((V.setCell ⟨b, 0, none⟩ v0).setCell ⟨b, 1, none⟩ v1).setCell ⟨b, 2, none⟩ v2).setCell ⟨b, 3, none⟩ v3).setCell ⟨b, 4, none⟩ v4).heap[b]? = some (.cells #[v0, v1, v2, v3, v4] t (0, 0)) := by
  rw [heap_setCell_same _ b 4 _ _ _ (heap_setCell_same _ b 3 _ _ _ (heap_setCell_same _ b 2 _ _ _ (heap_setCell_same _ b 1 _ _ _ (heap_setCell_same V b 0 _ _ _ h))))]
  rfl
theorem five_other (V : World) (b x : Nat) (v0 v1 v2 v3 v4 : Value) (h : x ≠ b) : (((((V.setCell ⟨b, 0, none⟩ v0).setCell ⟨b, 1, none⟩ v1).setCell ⟨b, 2, none⟩ v2).setCell ⟨b, 3, none⟩ v3).setCell ⟨b, 4, none⟩ v4).heap[x]? = V.heap[x]? := by
  rw [heap_setCell_other _ _ _ _ h, heap_setCell_other _ _ _ _ h, heap_setCell_other _ _ _ _ h, heap_setCell_other _ _ _ _ h, heap_setCell_other _ _ _ _ h]
theorem five_below (V : World) (b : Nat) (v0 v1 v2 v3 v4 : Value) : Below b V (((((V.setCell ⟨b, 0, none⟩ v0).setCell ⟨b, 1, none⟩ v1).setCell ⟨b, 2, none⟩ v2).setCell ⟨b, 3, none⟩ v3).setCell ⟨b, 4, none⟩ v4) :=
  (((((Below.refl b V).setCell (p := ⟨b, _, none⟩) (Nat.le_refl _) _).setCell (p := ⟨b, _, none⟩) (Nat.le_refl _) _).setCell (p := ⟨b, _, none⟩) (Nat.le_refl _) _).setCell (p := ⟨b, _, none⟩) (Nat.le_refl _) _).setCell (p := ⟨b, _, none⟩) (Nat.le_refl _) _
/-- All five cells of it. -/
theorem five_below' {n : Nat} {w V : World} (h : Below n w V) (b : Nat) (hb : n ≤ b) (v0 v1 v2 v3 v4 : Value) : Below n w (((((V.setCell ⟨b, 0, none⟩ v0).setCell ⟨b, 1, none⟩ v1).setCell ⟨b, 2, none⟩ v2).setCell ⟨b, 3, none⟩ v3).setCell ⟨b, 4, none⟩ v4) :=
  ((((h.setCell hb _).setCell hb _).setCell hb _).setCell hb _).setCell hb _
theorem row_at {V : World} {b : Nat} {c0 c1 c2 c3 c4 : Value} {t : TypeId} (h : V.heap[b]? = some (.cells #[c0, c1, c2, c3, c4] t (0, 0))) :
    V.cell? ⟨b, 0, none⟩ = some c0 ∧ V.cell? ⟨b, 1, none⟩ = some c1 ∧ V.cell? ⟨b, 2, none⟩ = some c2 ∧ V.cell? ⟨b, 3, none⟩ = some c3 ∧ V.cell? ⟨b, 4, none⟩ = some c4 ∧ ∀ k, V.frozen? ⟨b, k, none⟩ = false := by
  refine ⟨?_, ?_, ?_, ?_, ?_, fun k => frozen_of_row V b k _ _ h⟩ <;> rw [cell_of_row V b _ _ _ _ h] <;> rfl
theorem flush_step (D : Dk) : D.lput = runS D [none] ∧ D.off = codeS D [none] := by
  unfold Dk.lput Dk.off runS codeS runS codeS doS
  cases D.up <;> simp
theorem write_step (D : Dk) (q : Nat) (s : ByteArray) (hq : q < D.kept.length) (hs : s.size = 256) : D.wput (q : Int) s = runS D [some (q, s)] ∧ D.wcode (q : Int) s = codeS D [some (q, s)] := by
  unfold Dk.wput Dk.wcode runS codeS runS codeS doS Dk.reach
  cases hu : D.up
  · simp
  · have h1 : ¬ ((q : Int) < 0 ∨ (D.kept.length : Int) ≤ (q : Int)) := by omega
    rw [if_pos rfl, if_neg h1, if_pos rfl, if_pos rfl, if_pos ⟨rfl, hs⟩, if_pos rfl, if_pos hs]
    exact ⟨rfl, rfl⟩
theorem RefTo.trans {w w1 w2 : World} {lb lb1 lb2 : Nat} {wa wa1 wa2 : Option Addr} (h : RefTo w w1 lb wa lb1 wa1) (k : RefTo w1 w2 lb1 wa1 lb2 wa2) : RefTo w w2 lb wa lb2 wa2 := by
  have hs := h.b.size
  refine ⟨?_, fun x hx => ?_, h.b.trans (k.b.mono hs)⟩
  · rcases k.l with e | e
    · rw [e]; exact h.l
    · exact .inr (by omega)
  · rcases k.q x hx with e | e
    · exact h.q x e
    · exact .inr (by omega)
/-- Behind i steps of Run. -/
structure RunAt (w : World) (B2 : Nat) (lb : Nat) (wa : Option Addr) (D1 : Dk) (lb1 lc1 : Nat) (wa1 : Option Addr) (wc1 : Nat) (wr : World) : Prop where
  bl : Below w.heap.size w wr
  h2 : wr.heap[B2]? = some (.cells #[.slice (some ⟨lb1, 0, none⟩) D1.kept.length lc1, .slice wa1 D1.waits.length wc1, .int .i64 (D1.fuse : Int), .int .i64 (D1.writes : Int), .bool (!D1.up)] 32 (0, 0))
  h4 : wr.heap[B2 + 1]? = some (.cells #[.slice none 0 0, .slice none 0 0, .int .i64 0, .int .i64 0, .bool false] 32 (0, 0))
  r : RefAt wr lb1 lc1 wa1 wc1 D1
  l : lb1 = lb ∨ B2 + 1 < lb1
  q : ∀ x, ob wa1 = some x → ob wa = some x ∨ B2 + 1 < x
set_option maxRecDepth 100000 in
set_option maxHeartbeats 4000000 in
theorem rrun_any {w : World} {lb lc : Nat} {wa : Option Addr} {wc : Nat} {D : Dk} (h : RefAt w lb lc wa wc D) (a : Option Addr) (len cap : Nat) (xs : List Stp) (hl : Ci w a len cap (xs.map stC)) (hok : ∀ q, some q ∈ xs → q.1 < D.kept.length ∧ q.2.size = 256) (hw : D.writes + xs.length < 1000000) :
    Calls Tryz.prog 12 #[.agg #[.slice (some ⟨lb, 0, none⟩) D.kept.length lc, .slice wa D.waits.length wc, .int .i64 (D.fuse : Int), .int .i64 (D.writes : Int), .bool (!D.up)], .slice a len cap] w fun e w' => ∃ lb' lc' wa' wc', e = .returned (.tuple #[.agg (rcells lb' lc' wa' wc' (runS D xs)), .int .i64 (codeS D xs : Int)]) ∧ RefAt w' lb' lc' wa' wc' (runS D xs) ∧ RefTo w w' lb wa lb' wa' := by
  have hll := hl.1
  rw [List.length_map] at hll
  have hcap := hl.2.1
  have hcap2 := hl.2.2.1
  have HL : Hid (Ci w a len cap (xs.map stC)) := hl
  have HOK : Hid (∀ q, some q ∈ xs → q.1 < D.kept.length ∧ q.2.size = 256) := hok
  obtain ⟨hlw, hqw⟩ := h.lt
  obtain ⟨B2, hB⟩ : ∃ B2, w.heap.size = B2 := ⟨_, rfl⟩
  obtain ⟨W1, hW1⟩ : ∃ W1, w.alloc (.cells #[.slice (some ⟨lb, 0, none⟩) D.kept.length lc, .slice wa D.waits.length wc, .int .i64 (D.fuse : Int), .int .i64 (D.writes : Int), .bool (!D.up)] 32) = W1 := ⟨_, rfl⟩
  obtain ⟨W2, hW2⟩ : ∃ W2, W1.alloc (.cells #[.slice none 0 0, .slice none 0 0, .int .i64 0, .int .i64 0, .bool false] 32) = W2 := ⟨_, rfl⟩
  have hs1 : W1.heap.size = B2 + 1 := by rw [← hW1, ← hB]; simp
  have HI : Hid (RunAt w B2 lb wa D lb lc wa wc W2) := by
    have hb2 : Below w.heap.size w W2 := by rw [← hW2, ← hW1]; exact ((Below.refl _ w).alloc (Nat.le_refl _) _).alloc (by simp) _
    refine ⟨hb2, ?_, ?_, h.below hb2, .inl rfl, fun x hx => .inl hx⟩
    · rw [← hW2, Below.heap_alloc _ _ _ (by omega), ← hW1, ← hB]; exact heap_alloc_new w _
    · rw [← hW2, ← hs1]; exact heap_alloc_new W1 _
  have hB2 : w.heap.size ≤ B2 := by omega
  clear h hl hok
  go_enter Tryz.func12, Tryz.ntmps12
  go_wp2
  go_loopw [6, 7] (fun ve vi wr => ∃ (i : Nat) (lb1 lc1 : Nat) (wa1 : Option Addr) (wc1 : Nat), i ≤ len ∧ vi = .int .i64 i ∧ ve = .int .i64 (codeS D (xs.take i) : Int) ∧ RunAt w B2 lb wa (runS D (xs.take i)) lb1 lc1 wa1 wc1 wr) (fun _ vi _ => len - (intOf vi).toNat)
  case atStart => exact ⟨0, lb, lc, wa, wc, by omega, rfl, rfl, HI.out⟩
  case round =>
    clear HI
    obtain ⟨i, lb1, lc1, wa1, wc1, hin, rfl, rfl, hA⟩ := hrel
    have hlen1 : (runS D (xs.take i)).kept.length = D.kept.length := runS_len _ _
    have hwr1 := runS_writes D (xs.take i)
    rw [List.length_take] at hwr1
    by_cases hgo : i < len ∧ codeS D (xs.take i) = 0
    · have k1 : (i : Int) < (len : Int) := by omega
      have hil : i < xs.length := by omega
      obtain ⟨x, hx⟩ : ∃ x, xs[i] = x := ⟨_, rfl⟩
      have hxm : x ∈ xs := by rw [← hx]; exact List.getElem_mem hil
      have HTK : Hid (xs.take (i + 1) = xs.take i ++ [x]) := by show _ = _; rw [List.take_succ_eq_append_getElem hil, hx]
      have hcode := hgo.2
      obtain ⟨D1, hD1⟩ : ∃ D1, runS D (xs.take i) = D1 := ⟨_, rfl⟩
      have HNX : Hid (codeS D (xs.take (i + 1)) = codeS D1 [x] ∧ runS D (xs.take (i + 1)) = runS D1 [x]) := by
        rw [HTK.out, codeS_app, runS_app D (xs.take i), if_pos hcode, if_pos hcode, hD1]
        exact ⟨rfl, rfl⟩
      rw [hcode]
      rw [hD1] at hA hlen1 hwr1
      obtain ⟨b, o, rfl, hb, hcell⟩ := HL.out.2.2.2 (by omega)
      have hci := hcell i (by rw [List.length_map]; exact hil)
      rw [List.getElem_map, hx] at hci
      have HB : Hid (Below w.heap.size w wr) := hA.bl
      have HA : Hid (RunAt w B2 lb wa D1 lb1 lc1 wa1 wc1 wr) := hA
      have hszr : B2 + 1 < wr.heap.size := lt_of_some hA.h4
      have hNL : (lb1 ≠ B2 ∧ lb1 ≠ B2 + 1) ∧ ∀ x, ob wa1 = some x → x ≠ B2 ∧ x ≠ B2 + 1 := by
        refine ⟨by rcases hA.l with e | e <;> omega, fun x hx => ?_⟩
        rcases hA.q x hx with e | e
        · have := hqw x e; omega
        · omega
      obtain ⟨y0, y1, y2, y3, y4, y5⟩ := row_at hA.h2
      have HH2 : Hid (∀ V, Below wr.heap.size wr V → V.heap[B2]? = some (.cells #[.slice (some ⟨lb1, 0, none⟩) D1.kept.length lc1, .slice wa1 D1.waits.length wc1, .int .i64 (D1.fuse : Int), .int .i64 (D1.writes : Int), .bool (!D1.up)] 32 (0, 0))) := fun V hV => (hV.block B2 (by omega)).trans HA.out.h2
      -- the next state, once the disk is laid into its box
      have HPUT : Hid (∀ (V : World) (D3 : Dk) (lb3 lc3 : Nat) (wa3 : Option Addr) (wc3 : Nat), RefAt V lb3 lc3 wa3 wc3 D3 → RefTo wr V lb1 wa1 lb3 wa3 → RunAt w B2 lb wa D3 lb3 lc3 wa3 wc3 (((((V.setCell ⟨B2, 0, none⟩ (.slice (some ⟨lb3, 0, none⟩) D3.kept.length lc3)).setCell ⟨B2, 1, none⟩ (.slice wa3 D3.waits.length wc3)).setCell ⟨B2, 2, none⟩ (.int .i64 (D3.fuse : Int))).setCell ⟨B2, 3, none⟩ (.int .i64 (D3.writes : Int))).setCell ⟨B2, 4, none⟩ (.bool (!D3.up)))) := by
        intro V D3 lb3 lc3 wa3 wc3 hr3 ht3
        have hV4 : V.heap[B2 + 1]? = _ := (ht3.b.block (B2 + 1) hszr).trans HA.out.h4
        have hl3 : lb3 = lb ∨ B2 + 1 < lb3 := by
          rcases ht3.l with e | e
          · rw [e]; exact HA.out.l
          · exact .inr (by omega)
        have hq3 : ∀ x, ob wa3 = some x → ob wa = some x ∨ B2 + 1 < x := fun x hx => by
          rcases ht3.q x hx with e | e
          · exact HA.out.q x e
          · exact .inr (by omega)
        refine ⟨five_below' (HB.out.trans (ht3.b.mono HB.out.size)) B2 hB2 _ _ _ _ _, five_heap V B2 _ _ _ _ _ _ _ _ _ _ _ (HH2.out V ht3.b), ?_, ?_, hl3, hq3⟩
        · rw [five_other _ _ _ _ _ _ _ _ (by omega)]; exact hV4
        · refine hr3.keep (five_other _ _ _ _ _ _ _ _ (by rcases hl3 with e | e <;> omega)) (fun x hx => five_other _ _ _ _ _ _ _ _ ?_)
          rcases hq3 x hx with e | e
          · have := hqw x e; omega
          · omega
      cases x with
      | none =>
        obtain ⟨c1, _⟩ := hci
        have c1 : wr.cell? ⟨b, o + i * 2, none⟩ = some (.int .i64 (-1)) := (HB.out.cell (p := ⟨b, o + i * 2, none⟩) hb).trans c1
        have HFL := rflush_any HA.out.r
        rw [(flush_step D1).1, (flush_step D1).2] at HFL
        obtain ⟨D3, hD3⟩ : ∃ D3, runS D1 [none] = D3 := ⟨_, rfl⟩
        obtain ⟨c3, hc3⟩ : ∃ c3, codeS D1 [none] = c3 := ⟨_, rfl⟩
        rw [hD3, hc3] at HFL HNX
        obtain ⟨kl, hkl⟩ : ∃ kl, D1.kept.length = kl := ⟨_, rfl⟩
        obtain ⟨wl, hwl⟩ : ∃ wl, D1.waits.length = wl := ⟨_, rfl⟩
        obtain ⟨dn, hdn⟩ : ∃ dn, (!D1.up) = dn := ⟨_, rfl⟩
        rw [hkl, hwl, hdn] at HFL
        rw [hkl] at y0
        rw [hwl] at y1
        rw [hdn] at y4
        clear hcell hA hgo hcode hD3 hc3 hD1 hkl hwl hdn hlen1 hwr1 hx
        go_wp2_with fail
        refine HFL.mono ?_
        rintro e V3 ⟨lb3, lc3, wa3, wc3, rfl, hr3, ht3⟩
        obtain ⟨z0, z1, z2, z3, z4, z5⟩ := row_at (HH2.out V3 ht3.b)
        have HN : Hid _ := HPUT.out V3 D3 lb3 lc3 wa3 wc3 hr3 ht3
        unfold rcells
        clear HFL hr3 ht3 HPUT y0 y1 y2 y3 y4 y5 HH2
        go_wp2
        exact ⟨⟨i + 1, lb3, lc3, wa3, wc3, by omega, by go_num, by rw [HNX.out.1], by rw [HNX.out.2]; exact HN.out⟩, by simp [intOf]; omega⟩
      | some qs =>
        obtain ⟨q, s⟩ := qs
        obtain ⟨hq1, hq2⟩ := HOK.out _ hxm
        simp only at hq1 hq2
        obtain ⟨c1, c2⟩ := hci
        have HSC : Hid (∀ V, Below w.heap.size w V → V.cell? ⟨b, o + i * 2, none⟩ = some (.int .i64 (q : Int)) ∧ V.cell? ⟨b, o + i * 2 + 1, none⟩ = some (.string s)) := fun V hV => ⟨by rw [hV.cell hb]; exact c1, by rw [hV.cell hb]; exact c2⟩
        have HWR := rwrite_any (w := wr.drew) (HA.out.r.below (Below.refl _ wr).drew) (q : Int) s (by omega)
        rw [(write_step D1 q s (by omega) hq2).1, (write_step D1 q s (by omega) hq2).2] at HWR
        obtain ⟨D3, hD3⟩ : ∃ D3, runS D1 [some (q, s)] = D3 := ⟨_, rfl⟩
        obtain ⟨c3, hc3⟩ : ∃ c3, codeS D1 [some (q, s)] = c3 := ⟨_, rfl⟩
        rw [hD3, hc3] at HWR HNX
        have c1 := (HSC.out wr HB.out).1
        have kq : ¬ (q : Int) < 0 := by omega
        obtain ⟨kl, hkl⟩ : ∃ kl, D1.kept.length = kl := ⟨_, rfl⟩
        obtain ⟨wl, hwl⟩ : ∃ wl, D1.waits.length = wl := ⟨_, rfl⟩
        obtain ⟨dn, hdn⟩ : ∃ dn, (!D1.up) = dn := ⟨_, rfl⟩
        unfold rcells at HWR
        rw [hkl, hwl, hdn] at HWR
        rw [hkl] at y0
        rw [hwl] at y1
        rw [hdn] at y4
        clear hcell hA hgo hcode hD3 hc3 hD1 c2 hkl hwl hdn hlen1 hwr1 hx
        go_wp2
        refine wp_region_held_drew (S := fun V => V.cell? ⟨b, o + i * 2, none⟩ = some (.int .i64 (q : Int)) ∧ V.cell? ⟨b, o + i * 2 + 1, none⟩ = some (.string s)) (by kernel_rfl) (HSC.out _ HB.out.drew) (fun hHeld => ?_)
        refine wpAnyH_take (i := 1) (v := ?vw1) rfl (by kernel_rfl) (by kernel_rfl) (by kernel_rfl) (fun _ _ _ h => h) (Or.inl ⟨by first | kernel_rfl | rfl, ?yw1⟩) hHeld ?rw1
        case yw1 => (intro W hSW; (try dsimp only at hSW); go_simp; (try with_reducible rfl))
        change wpAnyH _ _ _ _ _ _ _ (Act.put _ (some 31) _) _
        simp only [Act.put, List.setIfInBounds_toArray, List.set_cons_zero, List.set_cons_succ]
        refine wpAnyH_take (i := 2) (v := ?vw2) rfl (by kernel_rfl) (by kernel_rfl) (by kernel_rfl) (fun _ _ _ h => h) (Or.inl ⟨by first | kernel_rfl | rfl, ?yw2⟩) hHeld ?rw2
        case yw2 => (intro W hSW; (try dsimp only at hSW); go_simp; (try with_reducible rfl))
        change wpAnyH _ _ _ _ _ _ _ (Act.put _ (some 32) _) _
        simp only [Act.put, List.setIfInBounds_toArray, List.set_cons_zero, List.set_cons_succ]
        refine wpAnyH_take (i := 3) (v := ?vw3) rfl (by kernel_rfl) (by kernel_rfl) (by kernel_rfl) (fun _ _ _ h => h) (Or.inl ⟨by first | kernel_rfl | rfl, ?yw3⟩) hHeld ?rw3
        case yw3 => (intro W hSW; (try dsimp only at hSW); go_simp; (try with_reducible rfl))
        change wpAnyH _ _ _ _ _ _ _ (Act.put _ (some 33) _) _
        simp only [Act.put, List.setIfInBounds_toArray, List.set_cons_zero, List.set_cons_succ]
        refine wpAnyH_take (i := 4) (v := ?vw4) rfl (by kernel_rfl) (by kernel_rfl) (by kernel_rfl) (fun _ _ _ h => h) (Or.inl ⟨by first | kernel_rfl | rfl, ?yw4⟩) hHeld ?rw4
        case yw4 => (intro W hSW; (try dsimp only at hSW); go_simp; (try with_reducible rfl))
        change wpAnyH _ _ _ _ _ _ _ (Act.put _ (some 34) _) _
        simp only [Act.put, List.setIfInBounds_toArray, List.set_cons_zero, List.set_cons_succ]
        refine wpAnyH_take (i := 5) (v := ?vw5) rfl (by kernel_rfl) (by kernel_rfl) (by kernel_rfl) (fun _ _ _ h => h) (Or.inl ⟨by first | kernel_rfl | rfl, ?yw5⟩) hHeld ?rw5
        case yw5 => (intro W hSW; (try dsimp only at hSW); go_simp; (try with_reducible rfl))
        change wpAnyH _ _ _ _ _ _ _ (Act.put _ (some 35) _) _
        simp only [Act.put, List.setIfInBounds_toArray, List.set_cons_zero, List.set_cons_succ]
        refine wpAnyH_take (i := 6) (v := ?vw6) rfl (by kernel_rfl) (by kernel_rfl) (by kernel_rfl) (fun _ _ _ h => h) (Or.inl ⟨by first | kernel_rfl | rfl, ?yw6⟩) hHeld ?rw6
        case yw6 => (intro W hSW; (try dsimp only at hSW); go_simp; (try with_reducible rfl))
        change wpAnyH _ _ _ _ _ _ _ (Act.put _ (some 36) _) _
        simp only [Act.put, List.setIfInBounds_toArray, List.set_cons_zero, List.set_cons_succ]
        refine wpAnyH_take (i := 7) (v := ?vw7) rfl (by kernel_rfl) (by kernel_rfl) (by kernel_rfl) (fun _ _ _ h => h) (Or.inl ⟨by first | kernel_rfl | rfl, ?yw7⟩) hHeld ?rw7
        case yw7 => (intro W hSW; (try dsimp only at hSW); go_simp; (try with_reducible rfl))
        change wpAnyH _ _ _ _ _ _ _ (Act.put _ (some 37) _) _
        simp only [Act.put, List.setIfInBounds_toArray, List.set_cons_zero, List.set_cons_succ]
        refine wpAnyH_take (i := 8) (v := ?vw8) rfl (by kernel_rfl) (by kernel_rfl) (by kernel_rfl) (fun _ _ _ h => h) (Or.inl ⟨by first | kernel_rfl | rfl, ?yw8⟩) hHeld ?rw8
        case yw8 => (intro W hSW; (try dsimp only at hSW); go_simp; (try with_reducible rfl))
        change wpAnyH _ _ _ _ _ _ _ (Act.put _ (some 38) _) _
        simp only [Act.put, List.setIfInBounds_toArray, List.set_cons_zero, List.set_cons_succ]
        refine wpAnyH_take (i := 9) (v := ?vw9) rfl (by kernel_rfl) (by kernel_rfl) (by kernel_rfl) (fun _ _ _ h => h) (Or.inl ⟨by first | kernel_rfl | rfl, ?yw9⟩) hHeld ?rw9
        case yw9 => (intro W hSW; (try dsimp only at hSW); go_simp; (try with_reducible rfl))
        change wpAnyH _ _ _ _ _ _ _ (Act.put _ (some 39) _) _
        simp only [Act.put, List.setIfInBounds_toArray, List.set_cons_zero, List.set_cons_succ]
        refine wpAnyH_take (i := 10) (v := ?vw10) rfl (by kernel_rfl) (by kernel_rfl) (by kernel_rfl) (fun _ _ _ h => h) (Or.inl ⟨by first | kernel_rfl | rfl, ?yw10⟩) hHeld ?rw10
        case yw10 => (intro W hSW; (try dsimp only at hSW); go_simp; (try with_reducible rfl))
        change wpAnyH _ _ _ _ _ _ _ (Act.put _ (some 40) _) _
        simp only [Act.put, List.setIfInBounds_toArray, List.set_cons_zero, List.set_cons_succ]
        refine wpAnyH_ready (rs := [0]) (by kernel_rfl) (by simp) ?_
        refine AllReadyH.cons rfl (fun K hK => ?_) AllReadyH.nil
        go_simp
        refine hK.out _ _ (HSC.out _ HB.out.drew) (fun hHeld => ?_)
        clear hK K
        try simp only [Act.put, List.setIfInBounds_toArray, List.set_cons_zero, List.set_cons_succ]
        refine wpAnyH_ready (rs := [11]) (by kernel_rfl) (by simp) ?_
        refine AllReadyH.cons rfl (fun K hK => ?_) AllReadyH.nil
        go_simp
        refine (HWR).mono ?_
        rintro e V3 ⟨lb3, lc3, wa3, wc3, rfl, hr3, ht3⟩; have HB3 : Hid (Below w.heap.size w V3) := HB.out.drew.trans (ht3.b.mono HB.out.size); have HR3 : Hid (RefAt V3 lb3 lc3 wa3 wc3 D3 ∧ RefTo wr V3 lb1 wa1 lb3 wa3) := ⟨hr3, ht3.l, ht3.q, (Below.refl wr.heap.size wr).drew.trans ht3.b⟩; clear hr3 ht3
        refine hK.out _ _ (HSC.out _ HB3.out) (fun hHeld => ?_)
        clear hK K
        try simp only [Act.put, List.setIfInBounds_toArray, List.set_cons_zero, List.set_cons_succ]
        refine wpAnyH_take (i := 12) (v := ?vw12) rfl (by kernel_rfl) (by kernel_rfl) (by kernel_rfl) (fun _ _ _ h => h) (Or.inl ⟨by first | kernel_rfl | rfl, ?yw12⟩) hHeld ?rw12
        case yw12 => (intro W hSW; (try dsimp only at hSW); go_simp; (try with_reducible rfl))
        change wpAnyH _ _ _ _ _ _ _ (Act.put _ (some 29) _) _
        simp only [Act.put, List.setIfInBounds_toArray, List.set_cons_zero, List.set_cons_succ]
        refine wpAnyH_take (i := 13) (v := ?vw13) rfl (by kernel_rfl) (by kernel_rfl) (by kernel_rfl) (fun _ _ _ h => h) (Or.inl ⟨by first | kernel_rfl | rfl, ?yw13⟩) hHeld ?rw13
        case yw13 => (intro W hSW; (try dsimp only at hSW); go_simp; (try with_reducible rfl))
        change wpAnyH _ _ _ _ _ _ _ (Act.put _ (some 42) _) _
        simp only [Act.put, List.setIfInBounds_toArray, List.set_cons_zero, List.set_cons_succ]
        refine wpAnyH_take (i := 14) (v := ?vw14) rfl (by kernel_rfl) (by kernel_rfl) (by kernel_rfl) (fun _ _ _ h => h) (Or.inl ⟨by first | kernel_rfl | rfl, ?yw14⟩) hHeld ?rw14
        case yw14 => (intro W hSW; (try dsimp only at hSW); go_simp; (try with_reducible rfl))
        change wpAnyH _ _ _ _ _ _ _ (Act.put _ (some 43) _) _
        simp only [Act.put, List.setIfInBounds_toArray, List.set_cons_zero, List.set_cons_succ]
        obtain ⟨w0, w1, w2, w3', w4, w5⟩ := row_at (HH2.out V3 HR3.out.2.b)
        refine wpAnyH_ready (rs := [15]) (by kernel_rfl) (by simp) ?_
        refine AllReadyH.cons rfl (fun K hK => ?_) AllReadyH.nil
        go_simp
        refine hK.out _ _ (HSC.out _ (five_below' HB3.out B2 hB2 _ _ _ _ _)) (fun hHeld => ?_)
        clear hK K
        refine wpAnyH_take (i := 16) (v := ?vw16) rfl (by kernel_rfl) (by kernel_rfl) (by kernel_rfl) (fun _ _ _ h => h) (Or.inl ⟨by first | kernel_rfl | rfl, ?yw16⟩) hHeld ?rw16
        case yw16 => (intro W hSW; (try dsimp only at hSW); go_simp; (try with_reducible rfl))
        change wpAnyH _ _ _ _ _ _ _ (Act.put _ (some 6) _) _
        simp only [Act.put, List.setIfInBounds_toArray, List.set_cons_zero, List.set_cons_succ]
        refine wpAnyH_done (by kernel_rfl) ?_ _
        have HN : Hid _ := HPUT.out V3 D3 lb3 lc3 wa3 wc3 HR3.out.1 HR3.out.2
        clear hHeld HWR HPUT y0 y1 y2 y3 y4 y5 HH2 w0 w1 w2 w3' w4 w5
        go_wp2
        exact ⟨⟨i + 1, lb3, lc3, wa3, wc3, by omega, by go_num, by rw [HNX.out.1], by rw [HNX.out.2]; exact HN.out⟩, by simp [intOf]; omega⟩
    · have HE : Hid (codeS D xs = codeS D (xs.take i) ∧ runS D xs = runS D (xs.take i)) := by
        by_cases h1 : i < len
        · have hc : ¬ codeS D (xs.take i) = 0 := fun e => hgo ⟨h1, e⟩
          have hx := (List.take_append_drop i xs).symm
          have hc10 : codeS D (xs.take i) = 10 := (codeS_or D (xs.take i)).resolve_left hc
          refine ⟨?_, ?_⟩
          · conv => lhs; rw [hx]
            rw [codeS_app, if_neg hc, hc10]
          · conv => lhs; rw [hx]
            rw [runS_app, if_neg hc]
        · rw [List.take_of_length_le (by omega)]
          exact ⟨rfl, rfl⟩
      obtain ⟨D1, hD1⟩ : ∃ D1, runS D (xs.take i) = D1 := ⟨_, rfl⟩
      obtain ⟨c9, hc9⟩ : ∃ c9, codeS D (xs.take i) = c9 := ⟨_, rfl⟩
      rw [hD1, hc9] at HE
      rw [hD1] at hA
      rw [hc9]
      rw [hc9] at hgo
      obtain ⟨y0, y1, y2, y3, y4, y5⟩ := row_at hA.h2
      obtain ⟨u0, u1, u2, u3, u4, u5⟩ := row_at hA.h4
      have hszr : B2 + 1 < wr.heap.size := lt_of_some hA.h4
      have HFN : Hid (∀ V, V = (((((wr.setCell ⟨B2 + 1, 0, none⟩ (.slice (some ⟨lb1, 0, none⟩) D1.kept.length lc1)).setCell ⟨B2 + 1, 1, none⟩ (.slice wa1 D1.waits.length wc1)).setCell ⟨B2 + 1, 2, none⟩ (.int .i64 (D1.fuse : Int))).setCell ⟨B2 + 1, 3, none⟩ (.int .i64 (D1.writes : Int))).setCell ⟨B2 + 1, 4, none⟩ (.bool (!D1.up))) →
          (V.heap[B2 + 1]? = some (.cells #[.slice (some ⟨lb1, 0, none⟩) D1.kept.length lc1, .slice wa1 D1.waits.length wc1, .int .i64 (D1.fuse : Int), .int .i64 (D1.writes : Int), .bool (!D1.up)] 32 (0, 0)) ∧ RefAt V lb1 lc1 wa1 wc1 D1 ∧ RefTo w V lb wa lb1 wa1)) := by
        rintro V rfl
        refine ⟨five_heap wr (B2 + 1) _ _ _ _ _ _ _ _ _ _ _ hA.h4, hA.r.keep (five_other _ _ _ _ _ _ _ _ ?_) (fun x hx => five_other _ _ _ _ _ _ _ _ ?_), ⟨?_, fun x hx => ?_, five_below' hA.bl _ (by omega) _ _ _ _ _⟩⟩
        · rcases hA.l with e | e <;> omega
        · rcases hA.q x hx with e | e
          · have := hqw x e; omega
          · omega
        · rcases hA.l with e | e
          · exact .inl e
          · exact .inr (by omega)
        · rcases hA.q x hx with e | e
          · exact .inl e
          · exact .inr (by omega)
      clear hA hD1 hc9
      by_cases h1 : i < len
      · have k1 : (i : Int) < (len : Int) := by omega
        have k2 : ¬ c9 = 0 := fun e => hgo ⟨h1, e⟩
        have k3 : ¬ (c9 : Int) = 0 := by omega
        have k4 : ((c9 : Int) == 0) = false := by rw [beq_eq_false_iff_ne]; exact k3
        clear hgo
        go_wp2
        obtain ⟨V9, hV9⟩ : ∃ V9, (((((wr.setCell ⟨B2 + 1, 0, none⟩ (.slice (some ⟨lb1, 0, none⟩) D1.kept.length lc1)).setCell ⟨B2 + 1, 1, none⟩ (.slice wa1 D1.waits.length wc1)).setCell ⟨B2 + 1, 2, none⟩ (.int .i64 (D1.fuse : Int))).setCell ⟨B2 + 1, 3, none⟩ (.int .i64 (D1.writes : Int))).setCell ⟨B2 + 1, 4, none⟩ (.bool (!D1.up))) = V9 := ⟨_, rfl⟩
        rw [hV9]
        obtain ⟨g1, g2, g3⟩ := HFN.out V9 hV9.symm
        obtain ⟨z0, z1, z2, z3, z4, _⟩ := row_at g1
        refine bodyPost_ret (v := .tuple #[.agg #[.slice (some ⟨lb1, 0, none⟩) D1.kept.length lc1, .slice wa1 D1.waits.length wc1, .int .i64 (D1.fuse : Int), .int .i64 (D1.writes : Int), .bool (!D1.up)], .int .i64 (c9 : Int)]) ?_ rfl ⟨lb1, lc1, wa1, wc1, ?_, ?_, g3⟩
        · simp [results, go_sem, z0, z1, z2, z3, z4]
        · rw [HE.out.1, HE.out.2]; rfl
        · rw [HE.out.2]; exact g2
      · have k1 : ¬ (i : Int) < (len : Int) := by omega
        clear hgo
        go_wp2
        obtain ⟨V9, hV9⟩ : ∃ V9, (((((wr.setCell ⟨B2 + 1, 0, none⟩ (.slice (some ⟨lb1, 0, none⟩) D1.kept.length lc1)).setCell ⟨B2 + 1, 1, none⟩ (.slice wa1 D1.waits.length wc1)).setCell ⟨B2 + 1, 2, none⟩ (.int .i64 (D1.fuse : Int))).setCell ⟨B2 + 1, 3, none⟩ (.int .i64 (D1.writes : Int))).setCell ⟨B2 + 1, 4, none⟩ (.bool (!D1.up))) = V9 := ⟨_, rfl⟩
        rw [hV9]
        obtain ⟨g1, g2, g3⟩ := HFN.out V9 hV9.symm
        obtain ⟨z0, z1, z2, z3, z4, _⟩ := row_at g1
        refine bodyPost_ret (v := .tuple #[.agg #[.slice (some ⟨lb1, 0, none⟩) D1.kept.length lc1, .slice wa1 D1.waits.length wc1, .int .i64 (D1.fuse : Int), .int .i64 (D1.writes : Int), .bool (!D1.up)], .int .i64 (c9 : Int)]) ?_ rfl ⟨lb1, lc1, wa1, wc1, ?_, ?_, g3⟩
        · simp [results, go_sem, z0, z1, z2, z3, z4]
        · rw [HE.out.1, HE.out.2]; rfl
        · rw [HE.out.2]; exact g2
end Go.Proofs.YtaacedaehbaodaaGreat
