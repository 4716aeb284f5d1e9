/- A walk over the document's Narrow. -/
import Derived.Test.YtcmdcmbiilfngaaDoorKH
namespace Go.Proofs.YtcmdcmbiilfngaaDoor
open Go.RowKit
set_option maxRecDepth 100000 in
set_option maxHeartbeats 4000000 in
theorem rnarrow_any (t n : Int) (s : ByteArray) {a : Option Addr} {ln cp : Nat} {l : List Cv} (c : Cv) (w : World) (h : Kw w a ln cp l) (hp : ∀ c ∈ l, c.path.size ≤ 9223372036854775807) (hcp : c.path.size ≤ 9223372036854775807) : Calls Tryd.prog 16 #[.agg #[.int .i64 t, .int .i64 n, .slice a ln cp, .string s], .agg #[.string c.path, .int .i64 c.rights, .int .i64 c.til]] w fun e w' => TkTo w (narrowT ⟨t, n, l, s⟩ c) e w' := by
  have hl := h.len
  have hmx := h.max
  obtain ⟨c1, c2, c3⟩ := c
  simp only at hcp ⊢
  obtain ⟨pb, hpb⟩ : ∃ pb, w.heap.size = pb := ⟨_, rfl⟩
  obtain ⟨V1, hV1, r1, hb1⟩ := box_tk (w := w) t n a ln cp s
  obtain ⟨qb, hqb⟩ : ∃ qb, V1.heap.size = qb := ⟨_, rfl⟩
  obtain ⟨V2, hV2, r2, hb2⟩ := box_cv (w := V1) c1 c2 c3
  obtain ⟨rb, hrb⟩ : ∃ rb, V2.heap.size = rb := ⟨_, rfl⟩
  obtain ⟨V3, hV3, r3, hb3⟩ := box_tk (w := V2) 0 0 none 0 0 ⟨#[]⟩
  have hq1 : pb + 1 = qb := by rw [← hqb, ← hV1, ← hpb]; simp
  have hq2 : qb + 1 = rb := by rw [← hrb, ← hV2, ← hqb]; simp
  rw [hpb] at r1
  rw [hqb] at r2
  rw [hrb] at r3
  have r1' : V3.heap[pb]? = some (.cells #[.int .i64 t, .int .i64 n, .slice a ln cp, .string s] 25 (0, 0)) := by
    rw [hb3.block pb (by omega), hb2.block pb (by omega)]
    exact r1
  have r2' : V3.heap[qb]? = some (.cells #[.string c1, .int .i64 c2, .int .i64 c3] 35 (0, 0)) := by
    rw [hb3.block qb (by omega)]
    exact r2
  have HK : Hid (∀ W, Below V3.heap.size V3 W → W.heap[pb]? = some (.cells #[.int .i64 t, .int .i64 n, .slice a ln cp, .string s] 25 (0, 0)) ∧ W.heap[qb]? = some (.cells #[.string c1, .int .i64 c2, .int .i64 c3] 35 (0, 0)) ∧ W.heap[rb]? = some (.cells #[.int .i64 0, .int .i64 0, .slice none 0 0, .string ⟨#[]⟩] 25 (0, 0))) := fun W hW => ⟨(hW.block pb (lt_of_some r1')).trans r1', (hW.block qb (lt_of_some r2')).trans r2', (hW.block rb (lt_of_some r3)).trans r3⟩
  have hB0 : Below w.heap.size w V3 := hb1.trans ((hb2.trans (hb3.mono hb2.size)).mono hb1.size)
  have HB : Hid (Below w.heap.size w V3 ∧ w.heap.size ≤ rb ∧ w.heap.size = pb ∧ pb + 1 = qb ∧ qb + 1 = rb ∧ V3.heap.size = rb + 1) := ⟨hB0, by omega, hpb, hq1, hq2, by rw [← hV3, ← hrb]; simp⟩
  obtain ⟨y0, y1, y2, y3, _⟩ := row4 (HK.out V3 (Below.refl _ _)).1
  have HM := rmay_any t n s (h.below hB0) hp
  have HR : Hid ((∀ W, Below V3.heap.size V3 W → Kw W a ln cp l) ∧ l.length = ln) := ⟨fun W hW => h.below (hB0.trans (hW.mono hB0.size)), hl⟩
  have HIC : Hid (∀ W, Calls Tryd.prog 34 #[.agg #[.string c1, .int .i64 c2, .int .i64 c3]] W fun e w' => e = .returned (.bool (⟨c1, c2, c3⟩ : Cv).ok) ∧ Below W.heap.size W w') := fun W => good12_any ⟨c1, c2, c3⟩ W hcp
  clear r1 r2 r3 r1' r2' hb1 hb2 hb3 hB0 h hl
  unfold YeTo at HM
  cases hm : mayT ⟨t, n, l, s⟩ with
  | false =>
    rw [hm] at HM
    have HX : Hid (narrowT ⟨t, n, l, s⟩ ⟨c1, c2, c3⟩ = (zeroT, 1)) := by show _ = _; unfold narrowT; rw [if_neg (fun h => by rw [hm] at h; exact absurd h.1 (by decide))]
    clear hm
    go_enter Tryd.func16, Tryd.ntmps16
    go_wp2_with fail
    refine HM.mono ?_
    rintro e V4 ⟨rfl, hB⟩
    clear HM
    obtain ⟨x0, x1, x2, x3, f0, f1, f2, f3⟩ := row4 (HK.out V4 hB).2.2
    obtain ⟨W5, hW5⟩ : ∃ W5, (((V4.setCell ⟨rb, 0, none⟩ (.int .i64 0)).setCell ⟨rb, 1, none⟩ (.int .i64 0)).setCell ⟨rb, 2, none⟩ (.slice none 0 0)).setCell ⟨rb, 3, none⟩ (.string ⟨#[]⟩) = W5 := ⟨_, rfl⟩
    have HE : Hid (TkTo w (narrowT ⟨t, n, l, s⟩ ⟨c1, c2, c3⟩) (.returned (.tuple #[.agg #[.int .i64 0, .int .i64 0, .slice none 0 0, .string ⟨#[]⟩], .int .i64 1])) W5 ∧ W5.heap[rb]? = some (.cells #[.int .i64 0, .int .i64 0, .slice none 0 0, .string ⟨#[]⟩] 25 (0, 0))) := by
      refine ⟨?_, by rw [← hW5]; exact set4 (HK.out V4 hB).2.2 _ _ _ _⟩
      rw [HX.out, ← hW5]
      exact TkTo.zero HB.out.2.1 (HB.out.1.trans (hB.mono HB.out.1.size)) 1
    clear hB
    go_wp2
    refine bodyPost_ret (v := .tuple #[.agg #[.int .i64 0, .int .i64 0, .slice none 0 0, .string ⟨#[]⟩], .int .i64 1]) ?_ rfl HE.out.1
    exact res_tk (fn := Tryd.f16) (p := 4) (q := 5) (by rfl) _ _ rb _ (by rfl) HE.out.2 infoT4
  | true =>
    rw [hm] at HM
    cases hc : (⟨c1, c2, c3⟩ : Cv).ok with
    | false =>
      rw [hc] at HIC
      have HX : Hid (narrowT ⟨t, n, l, s⟩ ⟨c1, c2, c3⟩ = (zeroT, 1)) := by show _ = _; unfold narrowT; rw [if_neg (fun h => by rw [hc] at h; exact absurd h.2 (by decide))]
      clear hm hc
      go_enter Tryd.func16, Tryd.ntmps16
      go_wp2_with fail
      refine HM.mono ?_
      rintro e V4 ⟨rfl, hb4⟩
      have HI4 := HIC.out V4
      obtain ⟨d0, d1, d2, _⟩ := row3 (HK.out V4 hb4).2.1
      have H4 : Hid (Below V3.heap.size V3 V4) := hb4
      clear HM hb4 y0 y1 y2 y3
      go_wp2_with fail
      refine HI4.mono ?_
      rintro e V5 ⟨rfl, hb5⟩
      have hB : Below V3.heap.size V3 V5 := H4.out.trans (hb5.mono H4.out.size)
      clear HI4 hb5 d0 d1 d2
      obtain ⟨x0, x1, x2, x3, f0, f1, f2, f3⟩ := row4 (HK.out V5 hB).2.2
      obtain ⟨W5, hW5⟩ : ∃ W5, (((V5.setCell ⟨rb, 0, none⟩ (.int .i64 0)).setCell ⟨rb, 1, none⟩ (.int .i64 0)).setCell ⟨rb, 2, none⟩ (.slice none 0 0)).setCell ⟨rb, 3, none⟩ (.string ⟨#[]⟩) = W5 := ⟨_, rfl⟩
      have HE : Hid (TkTo w (narrowT ⟨t, n, l, s⟩ ⟨c1, c2, c3⟩) (.returned (.tuple #[.agg #[.int .i64 0, .int .i64 0, .slice none 0 0, .string ⟨#[]⟩], .int .i64 1])) W5 ∧ W5.heap[rb]? = some (.cells #[.int .i64 0, .int .i64 0, .slice none 0 0, .string ⟨#[]⟩] 25 (0, 0))) := by
        refine ⟨?_, by rw [← hW5]; exact set4 (HK.out V5 hB).2.2 _ _ _ _⟩
        rw [HX.out, ← hW5]
        exact TkTo.zero HB.out.2.1 (HB.out.1.trans (hB.mono HB.out.1.size)) 1
      clear hB
      go_wp2
      refine bodyPost_ret (v := .tuple #[.agg #[.int .i64 0, .int .i64 0, .slice none 0 0, .string ⟨#[]⟩], .int .i64 1]) ?_ rfl HE.out.1
      exact res_tk (fn := Tryd.f16) (p := 4) (q := 5) (by rfl) _ _ rb _ (by rfl) HE.out.2 infoT4
    | true =>
      rw [hc] at HIC
      by_cases h8 : ln = 8
      · have k8 : (8 : Int) ≤ (ln : Int) := by omega
        have HX : Hid (narrowT ⟨t, n, l, s⟩ ⟨c1, c2, c3⟩ = (zeroT, 5)) := by show _ = _; unfold narrowT; rw [if_pos ⟨hm, hc⟩, if_pos (by simp only; rw [HR.out.2]; exact h8)]
        clear hm hc h8
        go_enter Tryd.func16, Tryd.ntmps16
        go_wp2_with fail
        refine HM.mono ?_
        rintro e V4 ⟨rfl, hb4⟩
        have HI4 := HIC.out V4
        obtain ⟨d0, d1, d2, _⟩ := row3 (HK.out V4 hb4).2.1
        have H4 : Hid (Below V3.heap.size V3 V4) := hb4
        clear HM hb4 y0 y1 y2 y3
        go_wp2_with fail
        refine HI4.mono ?_
        rintro e V5 ⟨rfl, hb5⟩
        have hB : Below V3.heap.size V3 V5 := H4.out.trans (hb5.mono H4.out.size)
        obtain ⟨y0, y1, y2, y3, _⟩ := row4 (HK.out V5 hB).1
        clear HI4 hb5 d0 d1 d2
        obtain ⟨x0, x1, x2, x3, f0, f1, f2, f3⟩ := row4 (HK.out V5 hB).2.2
        obtain ⟨W5, hW5⟩ : ∃ W5, (((V5.setCell ⟨rb, 0, none⟩ (.int .i64 0)).setCell ⟨rb, 1, none⟩ (.int .i64 0)).setCell ⟨rb, 2, none⟩ (.slice none 0 0)).setCell ⟨rb, 3, none⟩ (.string ⟨#[]⟩) = W5 := ⟨_, rfl⟩
        have HE : Hid (TkTo w (narrowT ⟨t, n, l, s⟩ ⟨c1, c2, c3⟩) (.returned (.tuple #[.agg #[.int .i64 0, .int .i64 0, .slice none 0 0, .string ⟨#[]⟩], .int .i64 5])) W5 ∧ W5.heap[rb]? = some (.cells #[.int .i64 0, .int .i64 0, .slice none 0 0, .string ⟨#[]⟩] 25 (0, 0))) := by
          refine ⟨?_, by rw [← hW5]; exact set4 (HK.out V5 hB).2.2 _ _ _ _⟩
          rw [HX.out, ← hW5]
          exact TkTo.zero HB.out.2.1 (HB.out.1.trans (hB.mono HB.out.1.size)) 5
        clear hB
        go_wp2
        refine bodyPost_ret (v := .tuple #[.agg #[.int .i64 0, .int .i64 0, .slice none 0 0, .string ⟨#[]⟩], .int .i64 5]) ?_ rfl HE.out.1
        exact res_tk (fn := Tryd.f16) (p := 4) (q := 5) (by rfl) _ _ rb _ (by rfl) HE.out.2 infoT4
      · have hmi := may_iff.1 hm
        have hoc := Cv.ok_iff.1 hc
        have hpc := ok_path hc
        simp only at hmi hoc hpc
        have hl8 : ln ≤ 8 := by rw [← HR.out.2]; exact hmi.2.1
        have k8 : ¬ (8 : Int) ≤ (ln : Int) := by omega
        have hs32 := hmi.2.2.1
        obtain ⟨X, hXe⟩ : ∃ X, strOf (⟨c1, c2, c3⟩ : Cv).bytes = X := ⟨_, rfl⟩
        have hXl : X.data.toList = (⟨c1, c2, c3⟩ : Cv).bytes := by rw [← hXe]; rfl
        have hXs : X.size ≤ 100 := by rw [← hXe, strOf_size]; exact cvbytes_len hc
        obtain ⟨Z, hZ⟩ : ∃ Z, strOf (sealL s.data.toList (⟨c1, c2, c3⟩ : Cv).bytes) = Z := ⟨_, rfl⟩
        have hnr : narrowT ⟨t, n, l, s⟩ ⟨c1, c2, c3⟩ = (⟨t, n, l ++ [⟨c1, c2, c3⟩], Z⟩, 0) := by unfold narrowT; rw [if_pos ⟨hm, hc⟩, if_neg (by simp only; rw [HR.out.2]; exact h8), hZ]
        rw [hnr]
        have HCB : Hid (∀ W, Calls Tryd.prog 28 #[.agg #[.string c1, .int .i64 c2, .int .i64 c3]] W fun e w' => e = .returned (.string X) ∧ Below W.heap.size W w') := fun W => by
          rw [← hXe]
          exact rbytes_any ⟨c1, c2, c3⟩ W (by simp only; omega) (by simp only; omega) (by simp only; omega)
        have HSE : Hid (∀ W, Calls Tryd.prog 35 #[.string s, .string X] W fun e w' => e = .returned (.string Z) ∧ Below W.heap.size W w') := fun W => by
          have h5 := refseal_any s X W (by omega) (by omega)
          rw [hXl, hZ] at h5
          exact h5
        clear hm hc hmi hoc hpc hXe hXl hXs hZ hnr h8 hp hcp
        go_enter Tryd.func16, Tryd.ntmps16
        go_wp2_with fail
        refine HM.mono ?_
        rintro e V4 ⟨rfl, hb4⟩
        have HI4 := HIC.out V4
        obtain ⟨d0, d1, d2, _⟩ := row3 (HK.out V4 hb4).2.1
        have H4 : Hid (Below V3.heap.size V3 V4) := hb4
        clear HM hb4 y0 y1 y2 y3
        go_wp2_with fail
        refine HI4.mono ?_
        rintro e V5 ⟨rfl, hb5⟩
        have hB5 : Below V3.heap.size V3 V5 := H4.out.trans (hb5.mono H4.out.size)
        clear HI4 hb5 d0 d1 d2
        obtain ⟨y0, y1, y2, y3, _⟩ := row4 (HK.out V5 hB5).1
        obtain ⟨a6, c6, V6, hr6, ho6, hg6, _⟩ := addK_own V5 (base := rb + 1) (l := []) (World.ownsRow_nil V5 (rb + 1) 35 3) (HR.out.1 V5 hB5) (by omega) (by have := hB5.size; have := HB.out; omega)
        rw [Nat.zero_add] at hr6 ho6
        rw [List.nil_append] at ho6
        have hB6 : Below V3.heap.size V3 V6 := hB5.grown hg6 hB5.size (fun j hj => by cases hj)
        have H6 : Hid (Below V3.heap.size V3 V6 ∧ V6.ownsRow (rb + 1) 35 3 (.slice a6 ln c6) ln (cvR l)) := ⟨hB6, ho6⟩
        clear hg6 ho6 hB5
        go_wp2_with (at_builtin; refine wpList_app V5 rfl _ _ _ _ rfl rfl rfl (hr6 _) ?_)
        clear hr6 y0 y1 y2 y3
        obtain ⟨V7, hV7⟩ : ∃ V7, V6.drew.alloc (.cells #[.string c1, .int .i64 c2, .int .i64 c3] 35) = V7 := ⟨_, rfl⟩
        obtain ⟨g7, hg7⟩ : ∃ g7, V6.heap.size = g7 := ⟨_, rfl⟩
        have r7 : V7.heap[g7]? = some (.cells #[.string c1, .int .i64 c2, .int .i64 c3] 35 (0, 0)) := by rw [← hV7, ← hg7]; exact heap_alloc_new V6.drew _
        have hb7 : Below V6.heap.size V6 V7 := by rw [← hV7]; exact (Below.refl _ V6).drew.alloc (Nat.le_refl _) _
        have hB7 : Below V3.heap.size V3 V7 := hB6.trans (hb7.mono hB6.size)
        have ho7 : V7.ownsRow (rb + 1) 35 3 (.slice a6 ln c6) ln (cvR l) := own_keep H6.out.2 (fun j hj => hb7.block j (H6.out.2.lt j hj).2)
        obtain ⟨a8, c8, V8, hr8, ho8, hg8, _⟩ := addK_own V7 ho7 (cvRow (p := ⟨c1, c2, c3⟩) r7) (by omega) (by have := hB7.size; have := HB.out; omega)
        have hB8 : Below V3.heap.size V3 V8 := hB7.grown hg8 hB7.size (fun j hj => by have := (ho7.lt j (by rw [ob_slice]; exact hj)).1; have := HB.out; omega)
        obtain ⟨n8, hn8⟩ : ∃ n8, ln + 1 = n8 := ⟨_, rfl⟩
        rw [hn8] at hr8 ho8
        have HQ : Hid (∀ W, Below V3.heap.size V3 W → (W.cell? ⟨pb, 0, none⟩ = some (.int .i64 t) ∧ W.cell? ⟨pb, 1, none⟩ = some (.int .i64 n) ∧ W.cell? ⟨pb, 3, none⟩ = some (.string s)) ∧ W.cell? ⟨qb, 0, none⟩ = some (.string c1) ∧ W.cell? ⟨qb, 1, none⟩ = some (.int .i64 c2) ∧ W.cell? ⟨qb, 2, none⟩ = some (.int .i64 c3)) := fun W hW => by
          obtain ⟨e0, e1, _, e3, _⟩ := row4 (HK.out W hW).1
          obtain ⟨f0, f1, f2, _⟩ := row3 (HK.out W hW).2.1
          exact ⟨⟨e0, e1, e3⟩, f0, f1, f2⟩
        have H8 : Hid (Below V3.heap.size V3 V8 ∧ V8.ownsRow (rb + 1) 35 3 (.slice a8 n8 c8) n8 (cvR (l ++ [⟨c1, c2, c3⟩])) ∧ Below V3.heap.size V3 V7) := ⟨hB8, ho8, hB7⟩
        clear r7 hb7 hB7 ho7 hg8 hB8 ho8 hB6 hn8
        refine wp_region_held_drew (S := fun W => (W.cell? ⟨pb, 0, none⟩ = some (.int .i64 t) ∧ W.cell? ⟨pb, 1, none⟩ = some (.int .i64 n) ∧ W.cell? ⟨pb, 3, none⟩ = some (.string s)) ∧ W.cell? ⟨qb, 0, none⟩ = some (.string c1) ∧ W.cell? ⟨qb, 1, none⟩ = some (.int .i64 c2) ∧ W.cell? ⟨qb, 2, none⟩ = some (.int .i64 c3)) (by kernel_rfl) (HQ.out V6.drew H6.out.1.drew) (fun hHeld => ?_)
        refine wpAnyH_take (i := 0) (v := ?va_0) rfl (by kernel_rfl) (by kernel_rfl) (by kernel_rfl) (fun _ _ _ h => h) (Or.inl ⟨by first | kernel_rfl | rfl, ?ya_0⟩) hHeld ?ra_0
        case ya_0 => (intro W hSW; (try dsimp only at hSW); go_simp; (try with_reducible rfl))
        change wpAnyH _ _ _ _ _ _ _ (Act.put _ (some 25) _) _
        simp only [Act.put, List.setIfInBounds_toArray, List.set_cons_zero, List.set_cons_succ]
        refine wpAnyH_take (i := 1) (v := ?va_1) rfl (by kernel_rfl) (by kernel_rfl) (by kernel_rfl) (fun _ _ _ h => h) (Or.inl ⟨by first | kernel_rfl | rfl, ?ya_1⟩) hHeld ?ra_1
        case ya_1 => (intro W hSW; (try dsimp only at hSW); go_simp; (try with_reducible rfl))
        change wpAnyH _ _ _ _ _ _ _ (Act.put _ (some 26) _) _
        simp only [Act.put, List.setIfInBounds_toArray, List.set_cons_zero, List.set_cons_succ]
        refine wpAnyH_take (i := 2) (v := ?va_2) rfl (by kernel_rfl) (by kernel_rfl) (by kernel_rfl) (fun _ _ _ h => h) (Or.inl ⟨by first | kernel_rfl | rfl, ?ya_2⟩) hHeld ?ra_2
        case ya_2 => (intro W hSW; (try dsimp only at hSW); go_simp; (try with_reducible rfl))
        change wpAnyH _ _ _ _ _ _ _ (Act.put _ (some 27) _) _
        simp only [Act.put, List.setIfInBounds_toArray, List.set_cons_zero, List.set_cons_succ]
        refine wpAnyH_take (i := 3) (v := ?va_3) rfl (by kernel_rfl) (by kernel_rfl) (by kernel_rfl) (fun _ _ _ h => h) (Or.inl ⟨by first | kernel_rfl | rfl, ?ya_3⟩) hHeld ?ra_3
        case ya_3 => (intro W hSW; (try dsimp only at hSW); go_simp; (try with_reducible rfl))
        change wpAnyH _ _ _ _ _ _ _ (Act.put _ (some 28) _) _
        simp only [Act.put, List.setIfInBounds_toArray, List.set_cons_zero, List.set_cons_succ]
        refine wpAnyH_take (i := 4) (v := ?va_4) rfl (by kernel_rfl) (by kernel_rfl) (by kernel_rfl) (fun _ _ _ h => h) (Or.inl ⟨by first | kernel_rfl | rfl, ?ya_4⟩) hHeld ?ra_4
        case ya_4 => (intro W hSW; (try dsimp only at hSW); go_simp; (try with_reducible rfl))
        change wpAnyH _ _ _ _ _ _ _ (Act.put _ (some 29) _) _
        simp only [Act.put, List.setIfInBounds_toArray, List.set_cons_zero, List.set_cons_succ]
        refine wpAnyH_take (i := 5) (v := ?va_5) rfl (by kernel_rfl) (by kernel_rfl) (by kernel_rfl) (fun _ _ _ h => h) (Or.inl ⟨by first | kernel_rfl | rfl, ?ya_5⟩) hHeld ?ra_5
        case ya_5 => (intro W hSW; (try dsimp only at hSW); go_simp; (try with_reducible rfl))
        change wpAnyH _ _ _ _ _ _ _ (Act.put _ (some 30) _) _
        simp only [Act.put, List.setIfInBounds_toArray, List.set_cons_zero, List.set_cons_succ]
        refine wpAnyH_take (i := 8) (v := ?va_8) rfl (by kernel_rfl) (by kernel_rfl) (by kernel_rfl) (fun _ _ _ h => h) (Or.inl ⟨by first | kernel_rfl | rfl, ?ya_8⟩) hHeld ?ra_8
        case ya_8 => (intro W hSW; (try dsimp only at hSW); go_simp; (try with_reducible rfl))
        change wpAnyH _ _ _ _ _ _ _ (Act.put _ (some 33) _) _
        simp only [Act.put, List.setIfInBounds_toArray, List.set_cons_zero, List.set_cons_succ]
        refine wpAnyH_take (i := 9) (v := ?va_9) rfl (by kernel_rfl) (by kernel_rfl) (by kernel_rfl) (fun _ _ _ h => h) (Or.inl ⟨by first | kernel_rfl | rfl, ?ya_9⟩) hHeld ?ra_9
        case ya_9 => (intro W hSW; (try dsimp only at hSW); go_simp; (try with_reducible rfl))
        change wpAnyH _ _ _ _ _ _ _ (Act.put _ (some 34) _) _
        simp only [Act.put, List.setIfInBounds_toArray, List.set_cons_zero, List.set_cons_succ]
        refine wpAnyH_take (i := 10) (v := ?va_10) rfl (by kernel_rfl) (by kernel_rfl) (by kernel_rfl) (fun _ _ _ h => h) (Or.inl ⟨by first | kernel_rfl | rfl, ?ya_10⟩) hHeld ?ra_10
        case ya_10 => (intro W hSW; (try dsimp only at hSW); go_simp; (try with_reducible rfl))
        change wpAnyH _ _ _ _ _ _ _ (Act.put _ (some 35) _) _
        simp only [Act.put, List.setIfInBounds_toArray, List.set_cons_zero, List.set_cons_succ]
        refine wpAnyH_ready (rs := [6]) (by kernel_rfl) (by simp) ?_
        refine AllReadyH.cons rfl (fun K hK => ?_) AllReadyH.nil
        go_simp
        refine hK.out _ _ (HQ.out V7 H8.out.2.2) (fun hHeld => ?_)
        clear hK K
        try simp only [Act.put, List.setIfInBounds_toArray, List.set_cons_zero, List.set_cons_succ]
        refine wpAnyH_ready (rs := [7]) (by kernel_rfl) (by simp) ?_
        refine AllReadyH.cons rfl (fun K hK => ?_) AllReadyH.nil
        rw [if_pos (by rfl)]
        refine wp_app V7 _ _ _ _ rfl rfl rfl (hr8 _) ?_
        skip
        refine hK.out _ _ (HQ.out V8 H8.out.1) (fun hHeld => ?_)
        clear hK K
        change wpAnyH _ _ _ _ _ _ _ (Act.put _ (some 32) _) _
        simp only [Act.put, List.setIfInBounds_toArray, List.set_cons_zero, List.set_cons_succ]
        refine wpAnyH_ready (rs := [11]) (by kernel_rfl) (by simp) ?_
        refine AllReadyH.cons rfl (fun K hK => ?_) AllReadyH.nil
        go_simp
        refine (HCB.out V8).mono ?_
        rintro e V9 ⟨rfl, hb9⟩
        refine hK.out _ _ (HQ.out V9 (H8.out.1.trans (hb9.mono H8.out.1.size))) (fun hHeld => ?_)
        clear hK K
        try simp only [Act.put, List.setIfInBounds_toArray, List.set_cons_zero, List.set_cons_succ]
        have H9 : Hid (Below V8.heap.size V8 V9) := hb9
        clear hb9
        refine wpAnyH_ready (rs := [12]) (by kernel_rfl) (by simp) ?_
        refine AllReadyH.cons rfl (fun K hK => ?_) AllReadyH.nil
        go_simp
        refine (HSE.out V9).mono ?_
        rintro e V10 ⟨rfl, hb10⟩
        refine hK.out _ _ (HQ.out V10 (H8.out.1.trans ((H9.out.trans (hb10.mono H9.out.size)).mono H8.out.1.size))) (fun hHeld => ?_)
        clear hK K
        try simp only [Act.put, List.setIfInBounds_toArray, List.set_cons_zero, List.set_cons_succ]
        have hb8 : Below V8.heap.size V8 V10 := H9.out.trans (hb10.mono H9.out.size)
        have hB10 : Below V3.heap.size V3 V10 := H8.out.1.trans (hb8.mono H8.out.1.size)
        have o10 : V10.ownsRow (rb + 1) 35 3 (.slice a8 n8 c8) n8 (cvR (l ++ [⟨c1, c2, c3⟩])) := own_keep H8.out.2.1 (fun j hj => hb8.block j (H8.out.2.1.lt j hj).2)
        have z10 := (HK.out V10 hB10).2.2
        obtain ⟨x0, x1, x2, x3, f0, f1, f2, f3⟩ := row4 z10
        obtain ⟨W5, hW5⟩ : ∃ W5, (((V10.setCell ⟨rb, 0, none⟩ (.int .i64 t)).setCell ⟨rb, 1, none⟩ (.int .i64 n)).setCell ⟨rb, 2, none⟩ (.slice a8 n8 c8)).setCell ⟨rb, 3, none⟩ (.string Z) = W5 := ⟨_, rfl⟩
        have HE : Hid (TkTo w (⟨t, n, l ++ [⟨c1, c2, c3⟩], Z⟩, 0) (.returned (.tuple #[.agg #[.int .i64 t, .int .i64 n, .slice a8 n8 c8, .string Z], .int .i64 0])) W5 ∧ W5.heap[rb]? = some (.cells #[.int .i64 t, .int .i64 n, .slice a8 n8 c8, .string Z] 25 (0, 0))) := by
          refine ⟨⟨a8, n8, c8, rfl, ?_, ?_⟩, by rw [← hW5]; exact set4 z10 _ _ _ _⟩
          · have h5 := own_base o10 (show w.heap.size ≤ rb + 1 by have := HB.out; omega)
            refine own_keep h5 (fun j hj => ?_)
            have := (o10.lt j hj).1
            rw [← hW5]
            exact other4s (by omega) _ _ _ _
          · rw [← hW5]
            exact below4s (HB.out.1.trans (hB10.mono HB.out.1.size)) (by have := HB.out; omega) _ _ _ _
        have HQ5 : Hid ((W5.cell? ⟨pb, 0, none⟩ = some (.int .i64 t) ∧ W5.cell? ⟨pb, 1, none⟩ = some (.int .i64 n) ∧ W5.cell? ⟨pb, 3, none⟩ = some (.string s)) ∧ W5.cell? ⟨qb, 0, none⟩ = some (.string c1) ∧ W5.cell? ⟨qb, 1, none⟩ = some (.int .i64 c2) ∧ W5.cell? ⟨qb, 2, none⟩ = some (.int .i64 c3)) := by
          have e : ∀ j, j ≠ rb → W5.heap[j]? = V10.heap[j]? := fun j hj => by rw [← hW5]; exact other4s hj _ _ _ _
          obtain ⟨e0, e1, _, e3, _⟩ := row4 ((e pb (by have := HB.out; omega)).trans (HK.out V10 hB10).1)
          obtain ⟨g0, g1, g2, _⟩ := row3 ((e qb (by have := HB.out; omega)).trans (HK.out V10 hB10).2.1)
          exact ⟨⟨e0, e1, e3⟩, g0, g1, g2⟩
        clear hb10 hb8 hB10 o10 z10
        refine wpAnyH_take (i := 13) (v := ?va_13) rfl (by kernel_rfl) (by kernel_rfl) (by kernel_rfl) (fun _ _ _ h => h) (Or.inl ⟨by first | kernel_rfl | rfl, ?ya_13⟩) hHeld ?ra_13
        case ya_13 => (intro W hSW; (try dsimp only at hSW); go_simp; (try with_reducible rfl))
        change wpAnyH _ _ _ _ _ _ _ (Act.put _ (some 38) _) _
        simp only [Act.put, List.setIfInBounds_toArray, List.set_cons_zero, List.set_cons_succ]
        refine wpAnyH_ready (rs := [14]) (by kernel_rfl) (by simp) ?_
        refine AllReadyH.cons rfl (fun K hK => ?_) AllReadyH.nil
        go_simp
        refine hK.out _ _ (HQ5.out) (fun hHeld => ?_)
        clear hK K
        refine wpAnyH_take (i := 15) (v := ?va_15) rfl (by kernel_rfl) (by kernel_rfl) (by kernel_rfl) (fun _ _ _ h => h) (Or.inl ⟨by first | kernel_rfl | rfl, ?ya_15⟩) hHeld ?ra_15
        case ya_15 => (intro W hSW; (try dsimp only at hSW); go_simp; (try with_reducible rfl))
        change wpAnyH _ _ _ _ _ _ _ (Act.put _ (some 5) _) _
        simp only [Act.put, List.setIfInBounds_toArray, List.set_cons_zero, List.set_cons_succ]
        refine wpAnyH_done (by kernel_rfl) ?_ _
        clear x0 x1 x2 x3 f0 f1 f2 f3
        go_wp2
        refine bodyPost_ret (v := .tuple #[.agg #[.int .i64 t, .int .i64 n, .slice a8 n8 c8, .string Z], .int .i64 0]) ?_ rfl HE.out.1
        exact res_tk (fn := Tryd.f16) (p := 4) (q := 5) (by rfl) _ _ rb _ (by rfl) HE.out.2 infoT4
end Go.Proofs.YtcmdcmbiilfngaaDoor
