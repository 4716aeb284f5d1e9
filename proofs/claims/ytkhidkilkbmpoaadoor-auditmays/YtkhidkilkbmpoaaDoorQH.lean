/- A walk over the document's Of. -/
import Derived.Test.YtkhidkilkbmpoaaDoorQGB
import Derived.Test.YtkhidkilkbmpoaaDoorRF
namespace Go.Proofs.YtkhidkilkbmpoaaDoor
open Go.RowKit
/-- An audit that is handed on; its entries lie in new memory. -/
def OfTo (w : World) (r : Au) (e : Ending) (w' : World) : Prop := ∃ (a : Option Addr) (n c : Nat), e = .returned (.agg #[.string r.anchor, .int .i64 r.last, .slice a n c]) ∧ Nw w.heap.size w' a n c r.ents ∧ Below w.heap.size w w'
theorem num_take {l : List En} {i : Nat} {e : En} (h : l[i]? = some e) : numE (l.take (i + 1)) = numE (l.take i) ++ [e.at ((i : Int) + 1)] := by
  have hi := lt_of_get h
  rw [take_snocK h, numE_snoc, List.length_take, Nat.min_eq_left (by omega)]
theorem num_mem {l : List En} (h : ∀ e ∈ l, ∀ n : Int, 1 ≤ n → n ≤ 1000 → (e.at n).ok = true) (hl : l.length ≤ 900) : ∀ e ∈ numE l, e.ok = true := by
  intro e he
  obtain ⟨i, hi⟩ := List.getElem?_of_mem he
  unfold numE at hi
  rw [List.getElem?_mapIdx] at hi
  cases hx : l[i]? with
  | none => rw [hx] at hi; cases hi
  | some x =>
    rw [hx] at hi
    simp only [Option.map_some, Option.some.injEq] at hi
    rw [← hi]
    have := lt_of_get hx
    exact h x (List.mem_of_getElem? hx) _ (by omega) (by omega)
set_option maxRecDepth 100000 in
set_option maxHeartbeats 4000000 in
theorem rof_any {w : World} {a : Option Addr} {ln cp : Nat} {l : List En} (h : Ew w a ln cp l) (hl9 : ln ≤ 900) (hok : ∀ e ∈ numE l, e.ok = true) : Calls Tryd.prog 14 #[.slice a ln cp] w fun e w' => OfTo w (ofA l) e w' := by
  have hl := h.len
  obtain ⟨Z, hZ⟩ : ∃ Z, baOf zeros32 = Z := ⟨_, rfl⟩
  obtain ⟨Z2, hZ2⟩ : ∃ Z2, strOf (chA zeros32 ((numE l).take (ln - 8))) = Z2 := ⟨_, rfl⟩
  obtain ⟨rb, hrb⟩ : ∃ rb, w.heap.size = rb := ⟨_, rfl⟩
  obtain ⟨V1, hV1, r1, hb1⟩ := box_au 24 (w := w) ⟨#[]⟩ 0 none 0 0
  rw [hrb] at r1
  obtain ⟨mb, hmb⟩ : ∃ mb, V1.heap.size = mb := ⟨_, rfl⟩
  obtain ⟨V2, hV2⟩ : ∃ V2, V1.alloc (.cells zr32 5) = V2 := ⟨_, rfl⟩
  have hmk : (Instr.makeSlice 45 (.int .i64 32) (.int .i64 32)).run Tryd.prog V1 = .ok (.slice (some ⟨mb, 0, none⟩) 32 32) V2 := by rw [← hmb, ← hV2]; exact make32 V1
  have r2 : V2.heap[mb]? = some (.cells zr32 5 (0, 0)) := by rw [← hV2, ← hmb]; exact heap_alloc_new V1 _
  have hb2 : Below V1.heap.size V1 V2 := by rw [← hV2]; exact (Below.refl _ V1).alloc (Nat.le_refl _) _
  have hcv : (convert 45 9 (.slice (some ⟨mb, 0, none⟩) 32 32)).run Tryd.prog V2 = .ok (.string Z) V2 := by rw [← hZ]; exact conv32 r2
  obtain ⟨ob, hob⟩ : ∃ ob, V2.heap.size = ob := ⟨_, rfl⟩
  obtain ⟨U, hU, u7, hbU⟩ := box_au 24 (w := V2) Z (ln : Int) none 0 0
  rw [hob] at u7
  obtain ⟨_, _, j2, jz⟩ := row3 u7
  have jf2 := jz 2
  obtain ⟨V3, hV3⟩ : ∃ V3, U.setCell ⟨ob, 2, none⟩ (.slice none 0 0) = V3 := ⟨_, rfl⟩
  have u3 : V3.heap[ob]? = some (.cells #[.string Z, .int .i64 (ln : Int), .slice none 0 0] 24 (0, 0)) := by rw [← hV3, heap_setCell_same _ _ _ _ _ _ u7]; rfl
  have hb3 : Below V2.heap.size V2 V3 := by rw [← hV3]; exact hbU.setCell (Nat.le_of_eq hob) _
  have z3 := (hb3.block rb (by have := hb2.size; have := lt_of_some r1; omega)).trans ((hb2.block rb (lt_of_some r1)).trans r1)
  have hB3 : Below w.heap.size w V3 := (hb1.trans (hb2.mono hb1.size)).trans (hb3.mono (Nat.le_trans hb1.size hb2.size))
  have hq1 : rb + 1 = mb := by rw [← hmb, ← hV1, ← hrb]; simp
  have hq2 : mb + 1 = ob := by rw [← hob, ← hV2, ← hmb]; simp
  obtain ⟨B, hBs⟩ : ∃ B, V3.heap.size = B := ⟨_, rfl⟩
  have hob3 := lt_of_some u3
  have HB : Hid (Below w.heap.size w V3 ∧ w.heap.size = rb ∧ rb + 2 = ob ∧ ob < B ∧ V3.heap.size = B) := ⟨hB3, hrb, by omega, by omega, hBs⟩
  have HK : Hid (∀ W, Below V3.heap.size V3 W → W.heap[rb]? = some (.cells #[.string ⟨#[]⟩, .int .i64 0, .slice none 0 0] 24 (0, 0)) ∧ W.heap[ob]? = some (.cells #[.string Z, .int .i64 (ln : Int), .slice none 0 0] 24 (0, 0))) := fun W hW => ⟨(hW.block rb (lt_of_some z3)).trans z3, (hW.block ob (lt_of_some u3)).trans u3⟩
  have HR : Hid ((∀ W, Below V3.heap.size V3 W → Ew W a ln cp l) ∧ l.length = ln) := ⟨fun W hW => h.below (hB3.trans (hW.mono hB3.size)), hl⟩
  have HZ : Hid (baOf zeros32 = Z) := hZ
  have HZ2 : Hid (strOf (chA Z.data.toList ((numE l).take (ln - 8))) = Z2 ∧ ∀ e ∈ numE l, e.ok = true) := ⟨by rw [← hZ2, ← hZ]; rfl, hok⟩
  have HOF : Hid (ofA l = ⟨Z2, (ln : Int), (numE l).drop (ln - 8)⟩) := by
    show _ = _
    unfold ofA
    rw [hl, ← hZ2]
    rfl
  clear r1 hb1 r2 hb2 hb3 u7 jz hbU u3 z3 hB3 hq1 hq2 hBs h hl hZ hZ2 hok hob3
  go_enter Tryd.func14, Tryd.ntmps14
  go_wp2
  clear hmk hcv j2 jf2
  go_loopw [4, 5] (fun vl vi wr => ∃ (i c' : Nat) (a' : Option Addr), i ≤ ln ∧ vi = .int .i64 i ∧ vl = .slice a' i c' ∧ wr.ownsRow B 36 5 (.slice a' i c') i (enR (numE (l.take i))) ∧ Below V3.heap.size V3 wr) (fun _ vi _ => ln - (intOf vi).toNat)
  case atStart => exact ⟨0, 0, none, by omega, rfl, rfl, World.ownsRow_nil _ _ _ _, Below.refl _ _⟩
  case round =>
  obtain ⟨i, c', a', hi, rfl, rfl, hown, hbw⟩ := hrel
  by_cases hlt : i < ln
  · have kk : (i : Int) < (ln : Int) := by omega
    have w1 : IntKind.i64.wrap ((i : Int) + 1) = (i : Int) + 1 := by rw [IntKind.wrap_i64]; omega
    obtain ⟨ab, ao, rfl, _, hc⟩ := (HR.out.1 wr hbw).at (by omega)
    obtain ⟨⟨e0, e1, e2, e3, e4⟩, hci⟩ : ∃ c, l[i]? = some c := ⟨_, List.getElem?_eq_getElem (by have := HR.out.2; omega)⟩
    obtain ⟨d0, d1, d2, d3, d4⟩ := hc i _ hci
    simp only at d0 d1 d2 d3 d4
    obtain ⟨V4, hV4, r4, hb4⟩ := box_en (w := wr) e0 e1 e2 e3 e4
    obtain ⟨qb, hqb⟩ : ∃ qb, wr.heap.size = qb := ⟨_, rfl⟩
    rw [hqb] at r4
    obtain ⟨s0, _, _, _, _, sz⟩ := row5 r4
    have sf := sz 0
    obtain ⟨V5, hV5⟩ : ∃ V5, V4.setCell ⟨qb, 0, none⟩ (.int .i64 ((i : Int) + 1)) = V5 := ⟨_, rfl⟩
    have r5 : V5.heap[qb]? = some (.cells #[.int .i64 ((i : Int) + 1), .int .i64 e1, .int .i64 e2, .string e3, .int .i64 e4] 36 (0, 0)) := by rw [← hV5, heap_setCell_same _ _ _ _ _ _ r4]; rfl
    have hb5 : Below wr.heap.size wr V5 := by rw [← hV5]; exact hb4.setCell (Nat.le_of_eq hqb) _
    obtain ⟨x0, x1, x2, x3, x4, _⟩ := row5 r5
    obtain ⟨V6, hV6, r6, hb6⟩ := box_en (w := V5) ((i : Int) + 1) e1 e2 e3 e4
    obtain ⟨g6, hg6⟩ : ∃ g6, V5.heap.size = g6 := ⟨_, rfl⟩
    rw [hg6] at r6
    have hb56 : Below wr.heap.size wr V6 := hb5.trans (hb6.mono hb5.size)
    have ho6 := own_keep hown (W' := V6) (fun j hj => hb56.block j (hown.lt j hj).2)
    have hB6 : Below V3.heap.size V3 V6 := hbw.trans (hb56.mono hbw.size)
    obtain ⟨a7, c7, V7, hr7, ho7, hg7, _⟩ := addE_own V6 ho6 (enRow (p := ⟨(i : Int) + 1, e1, e2, e3, e4⟩) r6) (by omega) (by have := HB.out; have := hB6.size; omega)
    have HE : Hid (V7.ownsRow B 36 5 (.slice a7 (i + 1) c7) (i + 1) (enR (numE (l.take (i + 1)))) ∧ Below V3.heap.size V3 V7) := by
      refine ⟨?_, hB6.grown hg7 hB6.size (fun j hj => by have := (ho6.lt j (by rw [ob_slice]; exact hj)).1; have := HB.out; omega)⟩
      rw [num_take hci]
      exact ho7
    clear hc hci r4 hb4 sz r5 hb5 r6 hb6 hb56 ho6 hB6 ho7 hg7 hown hbw
    go_wp2_with (at_builtin; refine wpList_app V6 rfl _ _ _ _ rfl rfl rfl (hr7 _) ?_)
    exact ⟨⟨i + 1, c7, a7, by omega, by go_num, by first | rfl | go_num, HE.out⟩, by simp [intOf]; omega⟩
  · obtain rfl : i = ln := by omega
    obtain ⟨ln, rfl⟩ : ∃ x, x = i := ⟨_, rfl⟩
    have kk : ¬ (ln : Int) < (ln : Int) := by omega
    rw [List.take_of_length_le (by have := HR.out.2; omega)] at hown
    by_cases h8 : 8 < ln
    · have k8 : (8 : Int) < (ln : Int) := by omega
      obtain ⟨ct, hct⟩ : ∃ ct, ln - 8 = ct := ⟨_, rfl⟩
      have hctl : ct ≤ ln := by omega
      have wct : IntKind.i64.wrap ((ln : Int) - 8) = (ct : Int) := by rw [IntKind.wrap_i64]; omega
      rw [hct] at HZ2 HOF
      have HOK : Hid (strOf (chA Z.data.toList ((numE l).take ct)) = Z2 ∧ ∀ e ∈ numE l, e.ok = true) := HZ2.out
      have HOFX := HOF.out
      have HOF : Hid (ofA l = ⟨Z2, (ln : Int), (numE l).drop ct⟩ ∧ (ofA l).ents = (numE l).drop ct) := ⟨HOFX, by rw [HOFX]⟩
      clear hct HOFX
      obtain ⟨A1, hA1⟩ : ∃ x, cutA a' c' 0 5 = x := ⟨_, rfl⟩
      obtain ⟨A2, hA2⟩ : ∃ x, cutA a' c' ct 5 = x := ⟨_, rfl⟩
      obtain ⟨n2, hn2⟩ : ∃ x, ln - ct = x := ⟨_, rfl⟩
      obtain ⟨c2, hc2⟩ : ∃ x, c' - ct = x := ⟨_, rfl⟩
      have hlc : ln ≤ c' := (Ew.own hown).cap
      have hs1 : ∀ W, (Instr.sliceAt 22 (.slice a' ln c') none (some (.int .i64 (ct : Int))) none).run Tryd.prog W = .ok (.slice A1 ct c') W := fun W => by rw [← hA1]; exact pre_ents a' ln c' ct (by omega) W
      have hs2 : ∀ W, (Instr.sliceAt 22 (.slice a' ln c') (some (.int .i64 (ct : Int))) none none).run Tryd.prog W = .ok (.slice A2 n2 c2) W := fun W => by rw [← hA2, ← hn2, ← hc2]; exact off_ents a' ln c' ct (by omega) W
      have HW : Hid (Below V3.heap.size V3 wr ∧ wr.ownsRow B 36 5 (.slice a' ln c') ln (enR (numE l))) := ⟨hbw, hown⟩
      have ro := HK.out wr hbw
      obtain ⟨y0, y1, y2, _⟩ := row3 ro.2
      have HCH : Hid (Calls Tryd.prog 21 #[.string Z, .slice A1 ct c'] wr.drew fun e w' => e = .returned (.string Z2) ∧ Below wr.drew.heap.size wr.drew w') := by
        have h9 := rch_any Z wr.drew (((Ew.own hown).below (Below.refl _ wr).drew).pre ct (by omega)) (by omega) (by rw [← HZ.out]; decide) (fun e he => HOK.out.2 e (List.mem_of_mem_take he))
        unfold StTo at h9
        rw [hA1, HOK.out.1] at h9
        exact h9
      have HA2 : Hid (A2 = cutA a' c' ct 5 ∧ n2 = ln - ct ∧ c2 = c' - ct) := ⟨hA2.symm, hn2.symm, hc2.symm⟩
      clear hA1 hA2 hn2 hc2 hlc hown hbw ro
      go_wp2
      refine wp_region_held_drew (S := fun _ => True) (by kernel_rfl) (trivial) (fun hHeld => ?_)
      refine wpAnyH_take (i := 0) (v := ?va_0) rfl (by kernel_rfl) (by kernel_rfl) (by kernel_rfl) (fun _ _ _ h => h) (Or.inl ⟨by first | kernel_rfl | rfl, ?ya_0⟩) hHeld ?ra_0
      case ya_0 => (intro W hSW; (try dsimp only at hSW); go_simp; (try with_reducible rfl))
      change wpAnyH _ _ _ _ _ _ _ (Act.put _ (some 36) _) _
      simp only [Act.put, List.setIfInBounds_toArray, List.set_cons_zero, List.set_cons_succ]
      refine wpAnyH_take (i := 2) (v := ?va_2) rfl (by kernel_rfl) (by kernel_rfl) (by kernel_rfl) (fun _ _ _ h => h) (Or.inl ⟨by first | kernel_rfl | rfl, ?ya_2⟩) hHeld ?ra_2
      case ya_2 => (intro W hSW; (try dsimp only at hSW); go_simp; (try with_reducible rfl))
      change wpAnyH _ _ _ _ _ _ _ (Act.put _ (some 38) _) _
      simp only [Act.put, List.setIfInBounds_toArray, List.set_cons_zero, List.set_cons_succ]
      refine wpAnyH_take (i := 3) (v := ?va_3) rfl (by kernel_rfl) (by kernel_rfl) (by kernel_rfl) (fun _ _ _ h => h) (Or.inl ⟨by first | kernel_rfl | rfl, ?ya_3⟩) hHeld ?ra_3
      case ya_3 => (intro W hSW; (try dsimp only at hSW); go_simp; (try with_reducible rfl))
      change wpAnyH _ _ _ _ _ _ _ (Act.put _ (some 39) _) _
      simp only [Act.put, List.setIfInBounds_toArray, List.set_cons_zero, List.set_cons_succ]
      refine wpAnyH_take (i := 4) (v := ?va_4) rfl (by kernel_rfl) (by kernel_rfl) (by kernel_rfl) (fun _ _ _ h => h) (Or.inl ⟨by first | kernel_rfl | rfl, ?ya_4⟩) hHeld ?ra_4
      case ya_4 => (intro W hSW; (try dsimp only at hSW); go_simp; (try with_reducible rfl))
      change wpAnyH _ _ _ _ _ _ _ (Act.put _ (some 40) _) _
      simp only [Act.put, List.setIfInBounds_toArray, List.set_cons_zero, List.set_cons_succ]
      refine wpAnyH_ready (rs := [1]) (by kernel_rfl) (by simp) ?_
      refine AllReadyH.cons rfl (fun K hK => ?_) AllReadyH.nil
      go_simp
      refine hK.out _ _ (trivial) (fun hHeld => ?_)
      clear hK K
      try simp only [Act.put, List.setIfInBounds_toArray, List.set_cons_zero, List.set_cons_succ]
      refine wpAnyH_ready (rs := [5]) (by kernel_rfl) (by simp) ?_
      refine AllReadyH.cons rfl (fun K hK => ?_) AllReadyH.nil
      go_simp
      refine (HCH.out).mono ?_
      rintro e V8 ⟨rfl, hb8⟩
      refine hK.out _ _ (trivial) (fun hHeld => ?_)
      clear hK K
      try simp only [Act.put, List.setIfInBounds_toArray, List.set_cons_zero, List.set_cons_succ]
      have hb8' : Below wr.heap.size wr V8 := undrewN hb8
      have hB8 : Below V3.heap.size V3 V8 := HW.out.1.trans (hb8'.mono HW.out.1.size)
      have o8 : V8.ownsRow B 36 5 (.slice a' ln c') ln (enR (numE l)) := own_keep HW.out.2 (fun j hj => hb8'.block j (HW.out.2.lt j hj).2)
      have k8 := HK.out V8 hB8
      obtain ⟨v0, v1, v2, vz⟩ := row3 k8.2
      have vf0 := vz 0
      have vf2 := vz 2
      obtain ⟨V9, hV9⟩ : ∃ V9, V8.setCell ⟨ob, 0, none⟩ (.string Z2) = V9 := ⟨_, rfl⟩
      have u9 : V9.heap[ob]? = some (.cells #[.string Z2, .int .i64 (ln : Int), .slice none 0 0] 24 (0, 0)) := by rw [← hV9, heap_setCell_same _ _ _ _ _ _ k8.2]; rfl
      obtain ⟨u0, u1, u2, uz⟩ := row3 u9
      have uf2 := uz 2
      obtain ⟨V10, hV10⟩ : ∃ V10, V9.setCell ⟨ob, 2, none⟩ (.slice A2 n2 c2) = V10 := ⟨_, rfl⟩
      have u10 : V10.heap[ob]? = some (.cells #[.string Z2, .int .i64 (ln : Int), .slice A2 n2 c2] 24 (0, 0)) := by rw [← hV10, heap_setCell_same _ _ _ _ _ _ u9]; rfl
      have o10 : ∀ j, j ≠ ob → V10.heap[j]? = V8.heap[j]? := fun j hj => by rw [← hV10, ← hV9, heap_setCell_other _ _ _ _ hj, heap_setCell_other _ _ _ _ hj]
      have z10 := (o10 rb (by have := HB.out; omega)).trans k8.1
      have b10 : Below w.heap.size w V10 := by rw [← hV10, ← hV9]; exact ((HB.out.1.trans (hB8.mono HB.out.1.size)).setCell (show w.heap.size ≤ ob by have := HB.out; omega) _).setCell (show w.heap.size ≤ ob by have := HB.out; omega) _
      obtain ⟨t0, t1, t2, _⟩ := row3 u10
      obtain ⟨x0, x1, x2, fz⟩ := row3 z10
      have f0 := fz 0
      have f1 := fz 1
      have f2 := fz 2
      obtain ⟨W5, hW5⟩ : ∃ W5, ((V10.setCell ⟨rb, 0, none⟩ (.string Z2)).setCell ⟨rb, 1, none⟩ (.int .i64 (ln : Int))).setCell ⟨rb, 2, none⟩ (.slice A2 n2 c2) = W5 := ⟨_, rfl⟩
      have HE : Hid (OfTo w (ofA l) (.returned (.agg #[.string Z2, .int .i64 (ln : Int), .slice A2 n2 c2])) W5 ∧ W5.heap[rb]? = some (.cells #[.string Z2, .int .i64 (ln : Int), .slice A2 n2 c2] 24 (0, 0))) := by
        refine ⟨?_, by rw [← hW5]; exact set3 z10 _ _ _⟩
        refine ⟨A2, n2, c2, by rw [HOF.out.1], ?_, by rw [← hW5]; exact below3s b10 (Nat.le_of_eq HB.out.2.1) _ _ _⟩
        have o5 : W5.ownsRow B 36 5 (.slice a' ln c') ln (enR (numE l)) := own_keep o8 (fun j hj => by
          have hj9 := (o8.lt j hj).1
          rw [← hW5]
          exact (other3s (by have := HB.out; omega) _ _ _).trans (o10 j (by have := HB.out; omega)))
        rw [HOF.out.2, HA2.out.1, HA2.out.2.1, HA2.out.2.2]
        exact (Nw.own (base := w.heap.size) o5 (by have := HB.out; omega)).off ct (by omega)
      clear hb8 hb8' hB8 o8 k8 vz u9 uz u10 o10 z10 b10 fz
      refine wpAnyH_take (i := 6) (v := ?va_6) rfl (by kernel_rfl) (by kernel_rfl) (by kernel_rfl) (fun _ _ _ h => h) (Or.inl ⟨by first | kernel_rfl | rfl, ?ya_6⟩) hHeld ?ra_6
      case ya_6 => (intro W hSW; (try dsimp only at hSW); go_simp; (try with_reducible rfl))
      change wpAnyH _ _ _ _ _ _ _ (Act.put _ (some 42) _) _
      simp only [Act.put, List.setIfInBounds_toArray, List.set_cons_zero, List.set_cons_succ]
      refine wpAnyH_ready (rs := [7]) (by kernel_rfl) (by simp) ?_
      refine AllReadyH.cons rfl (fun K hK => ?_) AllReadyH.nil
      go_simp
      refine hK.out _ _ (trivial) (fun hHeld => ?_)
      clear hK K
      refine wpAnyH_done (by kernel_rfl) ?_ _
      clear v0 v1 v2 vf0 vf2 y0 y1 y2
      go_wp2
      refine bodyPost_ret (v := .agg #[.string Z2, .int .i64 (ln : Int), .slice A2 n2 c2]) ?_ rfl HE.out.1
      exact res_1R (fn := Tryd.f14) (p := 2) (by rfl) _ _ rb _ (by rfl) HE.out.2 infoRA
    · have k8 : ¬ (8 : Int) < (ln : Int) := by omega
      have hct : ln - 8 = 0 := by omega
      rw [hct] at HZ2 HOF
      have HOK : Hid (strOf (chA Z.data.toList ((numE l).take 0)) = Z2 ∧ ∀ e ∈ numE l, e.ok = true) := HZ2.out
      have HOFX := HOF.out
      have HOF : Hid (ofA l = ⟨Z2, (ln : Int), (numE l).drop 0⟩ ∧ (ofA l).ents = (numE l).drop 0) := ⟨HOFX, by rw [HOFX]⟩
      clear hct HOFX
      obtain ⟨A1, hA1⟩ : ∃ x, cutA a' c' 0 5 = x := ⟨_, rfl⟩
      obtain ⟨A2, hA2⟩ : ∃ x, cutA a' c' 0 5 = x := ⟨_, rfl⟩
      obtain ⟨n2, hn2⟩ : ∃ x, ln - 0 = x := ⟨_, rfl⟩
      obtain ⟨c2, hc2⟩ : ∃ x, c' - 0 = x := ⟨_, rfl⟩
      have hlc : ln ≤ c' := (Ew.own hown).cap
      have hs1 : ∀ W, (Instr.sliceAt 22 (.slice a' ln c') none (some (.int .i64 0)) none).run Tryd.prog W = .ok (.slice A1 0 c') W := fun W => by rw [← hA1]; exact pre_ents a' ln c' 0 (by omega) W
      have hs2 : ∀ W, (Instr.sliceAt 22 (.slice a' ln c') (some (.int .i64 0)) none none).run Tryd.prog W = .ok (.slice A2 n2 c2) W := fun W => by rw [← hA2, ← hn2, ← hc2]; exact off_ents a' ln c' 0 (by omega) W
      have HW : Hid (Below V3.heap.size V3 wr ∧ wr.ownsRow B 36 5 (.slice a' ln c') ln (enR (numE l))) := ⟨hbw, hown⟩
      have ro := HK.out wr hbw
      obtain ⟨y0, y1, y2, _⟩ := row3 ro.2
      have HCH : Hid (Calls Tryd.prog 21 #[.string Z, .slice A1 0 c'] wr.drew fun e w' => e = .returned (.string Z2) ∧ Below wr.drew.heap.size wr.drew w') := by
        have h9 := rch_any Z wr.drew (((Ew.own hown).below (Below.refl _ wr).drew).pre 0 (by omega)) (by omega) (by rw [← HZ.out]; decide) (fun e he => HOK.out.2 e (List.mem_of_mem_take he))
        unfold StTo at h9
        rw [hA1, HOK.out.1] at h9
        exact h9
      have HA2 : Hid (A2 = cutA a' c' 0 5 ∧ n2 = ln - 0 ∧ c2 = c' - 0) := ⟨hA2.symm, hn2.symm, hc2.symm⟩
      clear hA1 hA2 hn2 hc2 hlc hown hbw ro
      go_wp2
      refine wp_region_held_drew (S := fun _ => True) (by kernel_rfl) (trivial) (fun hHeld => ?_)
      refine wpAnyH_take (i := 0) (v := ?vb_0) rfl (by kernel_rfl) (by kernel_rfl) (by kernel_rfl) (fun _ _ _ h => h) (Or.inl ⟨by first | kernel_rfl | rfl, ?yb_0⟩) hHeld ?rb_0
      case yb_0 => (intro W hSW; (try dsimp only at hSW); go_simp; (try with_reducible rfl))
      change wpAnyH _ _ _ _ _ _ _ (Act.put _ (some 36) _) _
      simp only [Act.put, List.setIfInBounds_toArray, List.set_cons_zero, List.set_cons_succ]
      refine wpAnyH_take (i := 2) (v := ?vb_2) rfl (by kernel_rfl) (by kernel_rfl) (by kernel_rfl) (fun _ _ _ h => h) (Or.inl ⟨by first | kernel_rfl | rfl, ?yb_2⟩) hHeld ?rb_2
      case yb_2 => (intro W hSW; (try dsimp only at hSW); go_simp; (try with_reducible rfl))
      change wpAnyH _ _ _ _ _ _ _ (Act.put _ (some 38) _) _
      simp only [Act.put, List.setIfInBounds_toArray, List.set_cons_zero, List.set_cons_succ]
      refine wpAnyH_take (i := 3) (v := ?vb_3) rfl (by kernel_rfl) (by kernel_rfl) (by kernel_rfl) (fun _ _ _ h => h) (Or.inl ⟨by first | kernel_rfl | rfl, ?yb_3⟩) hHeld ?rb_3
      case yb_3 => (intro W hSW; (try dsimp only at hSW); go_simp; (try with_reducible rfl))
      change wpAnyH _ _ _ _ _ _ _ (Act.put _ (some 39) _) _
      simp only [Act.put, List.setIfInBounds_toArray, List.set_cons_zero, List.set_cons_succ]
      refine wpAnyH_take (i := 4) (v := ?vb_4) rfl (by kernel_rfl) (by kernel_rfl) (by kernel_rfl) (fun _ _ _ h => h) (Or.inl ⟨by first | kernel_rfl | rfl, ?yb_4⟩) hHeld ?rb_4
      case yb_4 => (intro W hSW; (try dsimp only at hSW); go_simp; (try with_reducible rfl))
      change wpAnyH _ _ _ _ _ _ _ (Act.put _ (some 40) _) _
      simp only [Act.put, List.setIfInBounds_toArray, List.set_cons_zero, List.set_cons_succ]
      refine wpAnyH_ready (rs := [1]) (by kernel_rfl) (by simp) ?_
      refine AllReadyH.cons rfl (fun K hK => ?_) AllReadyH.nil
      go_simp
      refine hK.out _ _ (trivial) (fun hHeld => ?_)
      clear hK K
      try simp only [Act.put, List.setIfInBounds_toArray, List.set_cons_zero, List.set_cons_succ]
      refine wpAnyH_ready (rs := [5]) (by kernel_rfl) (by simp) ?_
      refine AllReadyH.cons rfl (fun K hK => ?_) AllReadyH.nil
      go_simp
      refine (HCH.out).mono ?_
      rintro e V8 ⟨rfl, hb8⟩
      refine hK.out _ _ (trivial) (fun hHeld => ?_)
      clear hK K
      try simp only [Act.put, List.setIfInBounds_toArray, List.set_cons_zero, List.set_cons_succ]
      have hb8' : Below wr.heap.size wr V8 := undrewN hb8
      have hB8 : Below V3.heap.size V3 V8 := HW.out.1.trans (hb8'.mono HW.out.1.size)
      have o8 : V8.ownsRow B 36 5 (.slice a' ln c') ln (enR (numE l)) := own_keep HW.out.2 (fun j hj => hb8'.block j (HW.out.2.lt j hj).2)
      have k8 := HK.out V8 hB8
      obtain ⟨v0, v1, v2, vz⟩ := row3 k8.2
      have vf0 := vz 0
      have vf2 := vz 2
      obtain ⟨V9, hV9⟩ : ∃ V9, V8.setCell ⟨ob, 0, none⟩ (.string Z2) = V9 := ⟨_, rfl⟩
      have u9 : V9.heap[ob]? = some (.cells #[.string Z2, .int .i64 (ln : Int), .slice none 0 0] 24 (0, 0)) := by rw [← hV9, heap_setCell_same _ _ _ _ _ _ k8.2]; rfl
      obtain ⟨u0, u1, u2, uz⟩ := row3 u9
      have uf2 := uz 2
      obtain ⟨V10, hV10⟩ : ∃ V10, V9.setCell ⟨ob, 2, none⟩ (.slice A2 n2 c2) = V10 := ⟨_, rfl⟩
      have u10 : V10.heap[ob]? = some (.cells #[.string Z2, .int .i64 (ln : Int), .slice A2 n2 c2] 24 (0, 0)) := by rw [← hV10, heap_setCell_same _ _ _ _ _ _ u9]; rfl
      have o10 : ∀ j, j ≠ ob → V10.heap[j]? = V8.heap[j]? := fun j hj => by rw [← hV10, ← hV9, heap_setCell_other _ _ _ _ hj, heap_setCell_other _ _ _ _ hj]
      have z10 := (o10 rb (by have := HB.out; omega)).trans k8.1
      have b10 : Below w.heap.size w V10 := by rw [← hV10, ← hV9]; exact ((HB.out.1.trans (hB8.mono HB.out.1.size)).setCell (show w.heap.size ≤ ob by have := HB.out; omega) _).setCell (show w.heap.size ≤ ob by have := HB.out; omega) _
      obtain ⟨t0, t1, t2, _⟩ := row3 u10
      obtain ⟨x0, x1, x2, fz⟩ := row3 z10
      have f0 := fz 0
      have f1 := fz 1
      have f2 := fz 2
      obtain ⟨W5, hW5⟩ : ∃ W5, ((V10.setCell ⟨rb, 0, none⟩ (.string Z2)).setCell ⟨rb, 1, none⟩ (.int .i64 (ln : Int))).setCell ⟨rb, 2, none⟩ (.slice A2 n2 c2) = W5 := ⟨_, rfl⟩
      have HE : Hid (OfTo w (ofA l) (.returned (.agg #[.string Z2, .int .i64 (ln : Int), .slice A2 n2 c2])) W5 ∧ W5.heap[rb]? = some (.cells #[.string Z2, .int .i64 (ln : Int), .slice A2 n2 c2] 24 (0, 0))) := by
        refine ⟨?_, by rw [← hW5]; exact set3 z10 _ _ _⟩
        refine ⟨A2, n2, c2, by rw [HOF.out.1], ?_, by rw [← hW5]; exact below3s b10 (Nat.le_of_eq HB.out.2.1) _ _ _⟩
        have o5 : W5.ownsRow B 36 5 (.slice a' ln c') ln (enR (numE l)) := own_keep o8 (fun j hj => by
          have hj9 := (o8.lt j hj).1
          rw [← hW5]
          exact (other3s (by have := HB.out; omega) _ _ _).trans (o10 j (by have := HB.out; omega)))
        rw [HOF.out.2, HA2.out.1, HA2.out.2.1, HA2.out.2.2]
        exact (Nw.own (base := w.heap.size) o5 (by have := HB.out; omega)).off 0 (by omega)
      clear hb8 hb8' hB8 o8 k8 vz u9 uz u10 o10 z10 b10 fz
      refine wpAnyH_take (i := 6) (v := ?vb_6) rfl (by kernel_rfl) (by kernel_rfl) (by kernel_rfl) (fun _ _ _ h => h) (Or.inl ⟨by first | kernel_rfl | rfl, ?yb_6⟩) hHeld ?rb_6
      case yb_6 => (intro W hSW; (try dsimp only at hSW); go_simp; (try with_reducible rfl))
      change wpAnyH _ _ _ _ _ _ _ (Act.put _ (some 42) _) _
      simp only [Act.put, List.setIfInBounds_toArray, List.set_cons_zero, List.set_cons_succ]
      refine wpAnyH_ready (rs := [7]) (by kernel_rfl) (by simp) ?_
      refine AllReadyH.cons rfl (fun K hK => ?_) AllReadyH.nil
      go_simp
      refine hK.out _ _ (trivial) (fun hHeld => ?_)
      clear hK K
      refine wpAnyH_done (by kernel_rfl) ?_ _
      clear v0 v1 v2 vf0 vf2 y0 y1 y2
      go_wp2
      refine bodyPost_ret (v := .agg #[.string Z2, .int .i64 (ln : Int), .slice A2 n2 c2]) ?_ rfl HE.out.1
      exact res_1R (fn := Tryd.f14) (p := 2) (by rfl) _ _ rb _ (by rfl) HE.out.2 infoRA
end Go.Proofs.YtkhidkilkbmpoaaDoor
