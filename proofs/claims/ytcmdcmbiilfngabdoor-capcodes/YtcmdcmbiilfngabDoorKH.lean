/- A walk over Narrow. -/
import Derived.Test.YtcmdcmbiilfngabDoorKG
namespace Go.Proofs.YtcmdcmbiilfngabDoor
open Go.RowKit
theorem row4 {W : World} {g : Nat} {a b c d : Value} {t : TypeId} (h : W.heap[g]? = some (.cells #[a, b, c, d] t (0, 0))) : W.cell? ⟨g, 0, none⟩ = some a ∧ W.cell? ⟨g, 1, none⟩ = some b ∧ W.cell? ⟨g, 2, none⟩ = some c ∧ W.cell? ⟨g, 3, none⟩ = some d ∧ W.frozen? ⟨g, 0, none⟩ = false ∧ W.frozen? ⟨g, 1, none⟩ = false ∧ W.frozen? ⟨g, 2, none⟩ = false ∧ W.frozen? ⟨g, 3, none⟩ = false :=
  ⟨by rw [cell_of_row _ _ _ _ _ _ h]; rfl, by rw [cell_of_row _ _ _ _ _ _ h]; rfl, by rw [cell_of_row _ _ _ _ _ _ h]; rfl, by rw [cell_of_row _ _ _ _ _ _ h]; rfl, frozen_of_row _ _ _ _ _ h, frozen_of_row _ _ _ _ _ h, frozen_of_row _ _ _ _ _ h, frozen_of_row _ _ _ _ _ h⟩
theorem row3 {W : World} {g : Nat} {a b c : Value} {t : TypeId} (h : W.heap[g]? = some (.cells #[a, b, c] t (0, 0))) : W.cell? ⟨g, 0, none⟩ = some a ∧ W.cell? ⟨g, 1, none⟩ = some b ∧ W.cell? ⟨g, 2, none⟩ = some c ∧ W.frozen? ⟨g, 0, none⟩ = false ∧ W.frozen? ⟨g, 1, none⟩ = false ∧ W.frozen? ⟨g, 2, none⟩ = false :=
  ⟨by rw [cell_of_row _ _ _ _ _ _ h]; rfl, by rw [cell_of_row _ _ _ _ _ _ h]; rfl, by rw [cell_of_row _ _ _ _ _ _ h]; rfl, frozen_of_row _ _ _ _ _ h, frozen_of_row _ _ _ _ _ h, frozen_of_row _ _ _ _ _ h⟩
set_option maxRecDepth 100000 in
set_option maxHeartbeats 4000000 in
theorem narrow_any (t n : Int) (s : ByteArray) {a : Option Addr} {ln cp : Nat} {l : List Cv} (c : Cv) (w : World) (h : Kw w a ln cp l) (hp : ∀ c ∈ l, c.path.size ≤ 9223372036854775807) (hcp : c.path.size ≤ 9223372036854775807) (hL : Laid w) : Calls Tryd.prog 13 #[.agg #[.int .i64 t, .int .i64 n, .slice a ln cp, .string s], .agg #[.string c.path, .int .i64 c.rights, .int .i64 c.til]] w fun e w' => TkTo w (narrowT ⟨t, n, l, s⟩ c) e w' := by
  have hl := h.len
  have hmx := h.max
  obtain ⟨c1, c2, c3⟩ := c
  simp only at hcp ⊢
  obtain ⟨pb, hpb⟩ : ∃ pb, w.heap.size = pb := ⟨_, rfl⟩
  obtain ⟨V1, hV1, r1, hb1⟩ := box_tk (w := w) t n a ln cp s
  obtain ⟨qb, hqb⟩ : ∃ qb, V1.heap.size = qb := ⟨_, rfl⟩
  obtain ⟨V2, hV2, r2, hb2⟩ := box_cv (w := V1) c1 c2 c3
  obtain ⟨rb, hrb⟩ : ∃ rb, V2.heap.size = rb := ⟨_, rfl⟩
  obtain ⟨V3, hV3, r3, hb3⟩ := box_tk (w := V2) 0 0 none 0 0 ⟨#[]⟩
  have hq1 : pb + 1 = qb := by rw [← hqb, ← hV1, ← hpb]; simp
  have hq2 : qb + 1 = rb := by rw [← hrb, ← hV2, ← hqb]; simp
  rw [hpb] at r1
  rw [hqb] at r2
  rw [hrb] at r3
  have r1' : V3.heap[pb]? = some (.cells #[.int .i64 t, .int .i64 n, .slice a ln cp, .string s] 24 (0, 0)) := by
    rw [hb3.block pb (by omega), hb2.block pb (by omega)]
    exact r1
  have r2' : V3.heap[qb]? = some (.cells #[.string c1, .int .i64 c2, .int .i64 c3] 39 (0, 0)) := by
    rw [hb3.block qb (by omega)]
    exact r2
  have HK : Hid (∀ W, Below V3.heap.size V3 W → W.heap[pb]? = some (.cells #[.int .i64 t, .int .i64 n, .slice a ln cp, .string s] 24 (0, 0)) ∧ W.heap[qb]? = some (.cells #[.string c1, .int .i64 c2, .int .i64 c3] 39 (0, 0)) ∧ W.heap[rb]? = some (.cells #[.int .i64 0, .int .i64 0, .slice none 0 0, .string ⟨#[]⟩] 24 (0, 0))) := fun W hW => ⟨(hW.block pb (lt_of_some r1')).trans r1', (hW.block qb (lt_of_some r2')).trans r2', (hW.block rb (lt_of_some r3)).trans r3⟩
  have hB0 : Below w.heap.size w V3 := hb1.trans ((hb2.trans (hb3.mono hb2.size)).mono hb1.size)
  have HB : Hid (Below w.heap.size w V3 ∧ w.heap.size ≤ rb ∧ w.heap.size = pb ∧ pb + 1 = qb ∧ qb + 1 = rb ∧ V3.heap.size = rb + 1) := ⟨hB0, by omega, hpb, hq1, hq2, by rw [← hV3, ← hrb]; simp⟩
  obtain ⟨y0, y1, y2, y3, _⟩ := row4 (HK.out V3 (Below.refl _ _)).1
  have HM := cmay_any t n s (h.below hB0) hp
  have HR : Hid ((∀ W, Below V3.heap.size V3 W → Kw W a ln cp l) ∧ (∀ W, Below V3.heap.size V3 W → Laid W) ∧ l.length = ln) := ⟨fun W hW => h.below (hB0.trans (hW.mono hB0.size)), fun W hW => hL.below (hB0.trans (hW.mono hB0.size)), hl⟩
  have HIC : Hid (∀ W, Calls Tryd.prog 34 #[.agg #[.string c1, .int .i64 c2, .int .i64 c3]] W fun e w' => e = .returned (.bool (⟨c1, c2, c3⟩ : Cv).ok) ∧ Below W.heap.size W w') := fun W => iscav_any ⟨c1, c2, c3⟩ W hcp
  have HLW : Hid (Laid w) := hL
  clear r1 r2 r3 r1' r2' hb1 hb2 hb3 hB0 h hl hL
  unfold YeTo at HM
  cases hm : mayT ⟨t, n, l, s⟩ with
  | false =>
    rw [hm] at HM
    have HX : Hid (narrowT ⟨t, n, l, s⟩ ⟨c1, c2, c3⟩ = (zeroT, 1)) := by show _ = _; unfold narrowT; rw [if_neg (fun h => by rw [hm] at h; exact absurd h.1 (by decide))]
    clear hm
    go_enter Tryd.func13, Tryd.ntmps13
    go_wp2_with fail
    refine HM.mono ?_
    rintro e V4 ⟨rfl, hB⟩
    clear HM
    obtain ⟨x0, x1, x2, x3, f0, f1, f2, f3⟩ := row4 (HK.out V4 hB).2.2
    obtain ⟨W5, hW5⟩ : ∃ W5, (((V4.setCell ⟨rb, 0, none⟩ (.int .i64 0)).setCell ⟨rb, 1, none⟩ (.int .i64 0)).setCell ⟨rb, 2, none⟩ (.slice none 0 0)).setCell ⟨rb, 3, none⟩ (.string ⟨#[]⟩) = W5 := ⟨_, rfl⟩
    have HE : Hid (TkTo w (narrowT ⟨t, n, l, s⟩ ⟨c1, c2, c3⟩) (.returned (.tuple #[.agg #[.int .i64 0, .int .i64 0, .slice none 0 0, .string ⟨#[]⟩], .int .i64 1])) W5 ∧ W5.heap[rb]? = some (.cells #[.int .i64 0, .int .i64 0, .slice none 0 0, .string ⟨#[]⟩] 24 (0, 0))) := by
      refine ⟨?_, by rw [← hW5]; exact set4 (HK.out V4 hB).2.2 _ _ _ _⟩
      rw [HX.out, ← hW5]
      exact TkTo.zero HB.out.2.1 (HB.out.1.trans (hB.mono HB.out.1.size)) 1
    clear hB
    go_wp2
    refine bodyPost_ret (v := .tuple #[.agg #[.int .i64 0, .int .i64 0, .slice none 0 0, .string ⟨#[]⟩], .int .i64 1]) ?_ rfl HE.out.1
    exact res_tk (fn := Tryd.f13) (p := 4) (q := 5) (by rfl) _ _ rb _ (by rfl) HE.out.2 infoT4
  | true =>
    rw [hm] at HM
    cases hc : (⟨c1, c2, c3⟩ : Cv).ok with
    | false =>
      rw [hc] at HIC
      have HX : Hid (narrowT ⟨t, n, l, s⟩ ⟨c1, c2, c3⟩ = (zeroT, 1)) := by show _ = _; unfold narrowT; rw [if_neg (fun h => by rw [hc] at h; exact absurd h.2 (by decide))]
      clear hm hc
      go_enter Tryd.func13, Tryd.ntmps13
      go_wp2_with fail
      refine HM.mono ?_
      rintro e V4 ⟨rfl, hb4⟩
      have HI4 := HIC.out V4
      obtain ⟨d0, d1, d2, _⟩ := row3 (HK.out V4 hb4).2.1
      have H4 : Hid (Below V3.heap.size V3 V4) := hb4
      clear HM hb4 y0 y1 y2 y3
      go_wp2_with fail
      refine HI4.mono ?_
      rintro e V5 ⟨rfl, hb5⟩
      have hB : Below V3.heap.size V3 V5 := H4.out.trans (hb5.mono H4.out.size)
      clear HI4 hb5 d0 d1 d2
      obtain ⟨x0, x1, x2, x3, f0, f1, f2, f3⟩ := row4 (HK.out V5 hB).2.2
      obtain ⟨W5, hW5⟩ : ∃ W5, (((V5.setCell ⟨rb, 0, none⟩ (.int .i64 0)).setCell ⟨rb, 1, none⟩ (.int .i64 0)).setCell ⟨rb, 2, none⟩ (.slice none 0 0)).setCell ⟨rb, 3, none⟩ (.string ⟨#[]⟩) = W5 := ⟨_, rfl⟩
      have HE : Hid (TkTo w (narrowT ⟨t, n, l, s⟩ ⟨c1, c2, c3⟩) (.returned (.tuple #[.agg #[.int .i64 0, .int .i64 0, .slice none 0 0, .string ⟨#[]⟩], .int .i64 1])) W5 ∧ W5.heap[rb]? = some (.cells #[.int .i64 0, .int .i64 0, .slice none 0 0, .string ⟨#[]⟩] 24 (0, 0))) := by
        refine ⟨?_, by rw [← hW5]; exact set4 (HK.out V5 hB).2.2 _ _ _ _⟩
        rw [HX.out, ← hW5]
        exact TkTo.zero HB.out.2.1 (HB.out.1.trans (hB.mono HB.out.1.size)) 1
      clear hB
      go_wp2
      refine bodyPost_ret (v := .tuple #[.agg #[.int .i64 0, .int .i64 0, .slice none 0 0, .string ⟨#[]⟩], .int .i64 1]) ?_ rfl HE.out.1
      exact res_tk (fn := Tryd.f13) (p := 4) (q := 5) (by rfl) _ _ rb _ (by rfl) HE.out.2 infoT4
    | true =>
      rw [hc] at HIC
      by_cases h8 : ln = 8
      · have k8 : (ln : Int) = 8 := by omega
        have k8b : ((ln : Int) == 8) = true := by simpa using k8
        have HX : Hid (narrowT ⟨t, n, l, s⟩ ⟨c1, c2, c3⟩ = (zeroT, 5)) := by show _ = _; unfold narrowT; rw [if_pos ⟨hm, hc⟩, if_pos (by simp only; rw [HR.out.2.2]; exact h8)]
        clear hm hc h8
        go_enter Tryd.func13, Tryd.ntmps13
        go_wp2_with fail
        refine HM.mono ?_
        rintro e V4 ⟨rfl, hb4⟩
        have HI4 := HIC.out V4
        obtain ⟨d0, d1, d2, _⟩ := row3 (HK.out V4 hb4).2.1
        have H4 : Hid (Below V3.heap.size V3 V4) := hb4
        clear HM hb4 y0 y1 y2 y3
        go_wp2_with fail
        refine HI4.mono ?_
        rintro e V5 ⟨rfl, hb5⟩
        have hB : Below V3.heap.size V3 V5 := H4.out.trans (hb5.mono H4.out.size)
        obtain ⟨y0, y1, y2, y3, _⟩ := row4 (HK.out V5 hB).1
        clear HI4 hb5 d0 d1 d2
        obtain ⟨x0, x1, x2, x3, f0, f1, f2, f3⟩ := row4 (HK.out V5 hB).2.2
        obtain ⟨W5, hW5⟩ : ∃ W5, (((V5.setCell ⟨rb, 0, none⟩ (.int .i64 0)).setCell ⟨rb, 1, none⟩ (.int .i64 0)).setCell ⟨rb, 2, none⟩ (.slice none 0 0)).setCell ⟨rb, 3, none⟩ (.string ⟨#[]⟩) = W5 := ⟨_, rfl⟩
        have HE : Hid (TkTo w (narrowT ⟨t, n, l, s⟩ ⟨c1, c2, c3⟩) (.returned (.tuple #[.agg #[.int .i64 0, .int .i64 0, .slice none 0 0, .string ⟨#[]⟩], .int .i64 5])) W5 ∧ W5.heap[rb]? = some (.cells #[.int .i64 0, .int .i64 0, .slice none 0 0, .string ⟨#[]⟩] 24 (0, 0))) := by
          refine ⟨?_, by rw [← hW5]; exact set4 (HK.out V5 hB).2.2 _ _ _ _⟩
          rw [HX.out, ← hW5]
          exact TkTo.zero HB.out.2.1 (HB.out.1.trans (hB.mono HB.out.1.size)) 5
        clear hB
        go_wp2
        refine bodyPost_ret (v := .tuple #[.agg #[.int .i64 0, .int .i64 0, .slice none 0 0, .string ⟨#[]⟩], .int .i64 5]) ?_ rfl HE.out.1
        exact res_tk (fn := Tryd.f13) (p := 4) (q := 5) (by rfl) _ _ rb _ (by rfl) HE.out.2 infoT4
      · have k8 : ¬ (ln : Int) = 8 := by omega
        have k8b : ((ln : Int) == 8) = false := by simpa using k8
        have hmi := may_iff.1 hm
        have hoc := Cv.ok_iff.1 hc
        have hpc := ok_path hc
        simp only at hmi hoc hpc
        have hl8 : ln ≤ 8 := by rw [← HR.out.2.2]; exact hmi.2.1
        have hs32 := hmi.2.2.1
        obtain ⟨X, hXe⟩ : ∃ X, strOf (⟨c1, c2, c3⟩ : Cv).bytes = X := ⟨_, rfl⟩
        have hXl : X.data.toList = (⟨c1, c2, c3⟩ : Cv).bytes := by rw [← hXe]; rfl
        have hXs : X.size ≤ 100 := by rw [← hXe, strOf_size]; exact cvbytes_len hc
        obtain ⟨Z, hZ⟩ : ∃ Z, strOf (sealL s.data.toList (⟨c1, c2, c3⟩ : Cv).bytes) = Z := ⟨_, rfl⟩
        have hnr : narrowT ⟨t, n, l, s⟩ ⟨c1, c2, c3⟩ = (⟨t, n, l ++ [⟨c1, c2, c3⟩], Z⟩, 0) := by unfold narrowT; rw [if_pos ⟨hm, hc⟩, if_neg (by simp only; rw [HR.out.2.2]; exact h8), hZ]
        rw [hnr]
        have HCB : Hid (∀ W, Calls Tryd.prog 24 #[.agg #[.string c1, .int .i64 c2, .int .i64 c3]] W fun e w' => ByTo W (⟨c1, c2, c3⟩ : Cv).bytes e w') := fun W => cbytes_any ⟨c1, c2, c3⟩ W (by simp only; omega) (by simp only; omega) (by simp only; omega)
        have HSE : Hid (∀ W, Laid W → Calls Tryd.prog 36 #[.string s, .string X] W fun e w' => e = .returned (.string Z) ∧ Below W.heap.size W w') := fun W hW => by
          have h5 := seal_any s X W (by omega) (by omega) hW
          rw [hXl, hZ] at h5
          exact h5
        have HXE : Hid (strOf (⟨c1, c2, c3⟩ : Cv).bytes = X) := hXe
        clear hm hc hmi hoc hpc hXe hXl hXs hZ hnr h8 hp hcp
        go_enter Tryd.func13, Tryd.ntmps13
        go_wp2_with fail
        refine HM.mono ?_
        rintro e V4 ⟨rfl, hb4⟩
        have HI4 := HIC.out V4
        obtain ⟨d0, d1, d2, _⟩ := row3 (HK.out V4 hb4).2.1
        have H4 : Hid (Below V3.heap.size V3 V4) := hb4
        clear HM hb4 y0 y1 y2 y3
        go_wp2_with fail
        refine HI4.mono ?_
        rintro e V5 ⟨rfl, hb5⟩
        have hB5 : Below V3.heap.size V3 V5 := H4.out.trans (hb5.mono H4.out.size)
        clear HI4 hb5 d0 d1 d2
        obtain ⟨y0, y1, y2, y3, _⟩ := row4 (HK.out V5 hB5).1
        obtain ⟨d0, d1, d2, _⟩ := row3 (HK.out V5 hB5).2.1
        obtain ⟨V6, hV6, r6, hb6⟩ := box_cv (w := V5) c1 c2 c3
        obtain ⟨g6, hg6⟩ : ∃ g6, V5.heap.size = g6 := ⟨_, rfl⟩
        obtain ⟨V7, hV7⟩ : ∃ V7, V6.alloc (.cells #[.slice a ln cp, .slice (some ⟨g6, 0, none⟩) 1 1] 22) = V7 := ⟨_, rfl⟩
        obtain ⟨g7, hg7⟩ : ∃ g7, V6.heap.size = g7 := ⟨_, rfl⟩
        have hq67 : g6 + 1 = g7 := by rw [← hg7, ← hV6, ← hg6]; simp
        have r7 : V7.heap[g7]? = some (.cells #[.slice a ln cp, .slice (some ⟨g6, 0, none⟩) 1 1] 22 (0, 0)) := by rw [← hV7, ← hg7]; exact heap_alloc_new V6 _
        have hb7 : Below V6.heap.size V6 V7 := by rw [← hV7]; exact (Below.refl _ V6).alloc (Nat.le_refl _) _
        rw [hg6] at r6
        have hB7 : Below V3.heap.size V3 V7 := hB5.trans ((hb6.trans (hb7.mono hb6.size)).mono hB5.size)
        have hk2 : Kw V7 (some ⟨g6, 0, none⟩) 1 1 [⟨c1, c2, c3⟩] := cvRow ((hb7.block g6 (lt_of_some r6)).trans r6)
        have HCC := concat_two r7 (HR.out.1 V7 hB7) hk2 (by omega)
        have H7 : Hid (Below V3.heap.size V3 V7) := hB7
        clear r6 r7 hb6 hb7 hB7 hB5 hk2
        go_wp2_with fail
        refine HCC.mono ?_
        rintro e V8 ⟨a8, n8, c8, rfl, ho8, hb8⟩
        have hB8 : Below V3.heap.size V3 V8 := H7.out.trans (hb8.mono H7.out.size)
        clear HCC y0 y1 y2 y3 d0 d1 d2
        have hk8 := HK.out V8 hB8
        obtain ⟨y0, y1, y2, y3, _, _, u2, u3⟩ := row4 hk8.1
        obtain ⟨V9, hV9⟩ : ∃ V9, V8.setCell ⟨pb, 2, none⟩ (.slice a8 n8 c8) = V9 := ⟨_, rfl⟩
        have p9 : V9.heap[pb]? = some (.cells #[.int .i64 t, .int .i64 n, .slice a8 n8 c8, .string s] 24 (0, 0)) := by rw [← hV9, heap_setCell_same _ _ _ _ _ _ hk8.1]; rfl
        have q9 : V9.heap[qb]? = some (.cells #[.string c1, .int .i64 c2, .int .i64 c3] 39 (0, 0)) := by rw [← hV9, heap_setCell_other _ _ _ _ (by show qb ≠ pb; have := HB.out; omega)]; exact hk8.2.1
        have z9 : V9.heap[rb]? = some (.cells #[.int .i64 0, .int .i64 0, .slice none 0 0, .string ⟨#[]⟩] 24 (0, 0)) := by rw [← hV9, heap_setCell_other _ _ _ _ (by show rb ≠ pb; have := HB.out; omega)]; exact hk8.2.2
        have hB9 : Below w.heap.size w V9 := by
          rw [← hV9]
          exact (HB.out.1.trans (hB8.mono HB.out.1.size)).setCell (show w.heap.size ≤ pb from Nat.le_of_eq HB.out.2.2.1) _
        have ho9 : V9.ownsRow (rb + 1) 39 3 (.slice a8 n8 c8) n8 (cvR (l ++ [⟨c1, c2, c3⟩])) := by
          have h5 := own_base ho8 (show rb + 1 ≤ V7.heap.size by have := H7.out.size; have := HB.out; omega)
          refine own_keep h5 (fun j hj => ?_)
          have := (h5.lt j hj).1
          rw [← hV9, heap_setCell_other _ _ _ _ (by show j ≠ pb; have := HB.out; omega)]
        have H9 : Hid (V9.heap[pb]? = some (.cells #[.int .i64 t, .int .i64 n, .slice a8 n8 c8, .string s] 24 (0, 0)) ∧ V9.heap[qb]? = some (.cells #[.string c1, .int .i64 c2, .int .i64 c3] 39 (0, 0)) ∧ V9.heap[rb]? = some (.cells #[.int .i64 0, .int .i64 0, .slice none 0 0, .string ⟨#[]⟩] 24 (0, 0)) ∧ Below w.heap.size w V9 ∧ V9.ownsRow (rb + 1) 39 3 (.slice a8 n8 c8) n8 (cvR (l ++ [⟨c1, c2, c3⟩])) ∧ Laid V9) := ⟨p9, q9, z9, hB9, ho9, HLW.out.below hB9⟩
        clear ho8 hb8 hB8 hk8
        go_wp2
        clear y0 y1 y2 y3 u2 u3
        obtain ⟨y0, y1, y2, y3, _, _, _, u3⟩ := row4 p9
        have HQ : Hid (∀ W, Below V9.heap.size V9 W → W.cell? ⟨qb, 0, none⟩ = some (.string c1) ∧ W.cell? ⟨qb, 1, none⟩ = some (.int .i64 c2) ∧ W.cell? ⟨qb, 2, none⟩ = some (.int .i64 c3)) := fun W hW => by
          obtain ⟨e0, e1, e2, _⟩ := row3 ((hW.block qb (lt_of_some q9)).trans q9)
          exact ⟨e0, e1, e2⟩
        clear p9 q9 z9 hB9 ho9
        refine wp_region_held_drew (S := fun W => W.cell? ⟨qb, 0, none⟩ = some (.string c1) ∧ W.cell? ⟨qb, 1, none⟩ = some (.int .i64 c2) ∧ W.cell? ⟨qb, 2, none⟩ = some (.int .i64 c3)) (by kernel_rfl) (HQ.out V9.drew (Below.refl _ V9).drew) (fun hHeld => ?_)
        refine wpAnyH_take (i := 0) (v := ?va_0) rfl (by kernel_rfl) (by kernel_rfl) (by kernel_rfl) (fun _ _ _ h => h) (Or.inl ⟨by first | kernel_rfl | rfl, ?ya_0⟩) hHeld ?ra_0
        case ya_0 => (intro W hSW; (try dsimp only at hSW); go_simp; (try with_reducible rfl))
        change wpAnyH _ _ _ _ _ _ _ (Act.put _ (some 27) _) _
        simp only [Act.put, List.setIfInBounds_toArray, List.set_cons_zero, List.set_cons_succ]
        refine wpAnyH_take (i := 2) (v := ?va_2) rfl (by kernel_rfl) (by kernel_rfl) (by kernel_rfl) (fun _ _ _ h => h) (Or.inl ⟨by first | kernel_rfl | rfl, ?ya_2⟩) hHeld ?ra_2
        case ya_2 => (intro W hSW; (try dsimp only at hSW); go_simp; (try with_reducible rfl))
        change wpAnyH _ _ _ _ _ _ _ (Act.put _ (some 29) _) _
        simp only [Act.put, List.setIfInBounds_toArray, List.set_cons_zero, List.set_cons_succ]
        refine wpAnyH_ready (rs := [1, 3]) (by kernel_rfl) (by simp) ?_
        refine AllReadyH.cons rfl (fun K hK => ?_) (AllReadyH.cons rfl (fun K hK => ?_) AllReadyH.nil)
        · go_simp
          refine hK.out _ _ (HQ.out V9.drew (Below.refl _ V9).drew) (fun hHeld => ?_)
          clear hK K
          try simp only [Act.put, List.setIfInBounds_toArray, List.set_cons_zero, List.set_cons_succ]
          refine wpAnyH_ready (rs := [3]) (by kernel_rfl) (by simp) ?_
          refine AllReadyH.cons rfl (fun K hK => ?_) AllReadyH.nil
          go_simp
          refine (HCB.out V9.drew).mono ?_
          rintro e V10 ⟨a10, n10, c10, rfl, hbs10, hb10⟩
          refine hK.out _ _ (HQ.out V10 ((Below.refl _ V9).drew.trans hb10)) (fun hHeld => ?_)
          clear hK K
          try simp only [Act.put, List.setIfInBounds_toArray, List.set_cons_zero, List.set_cons_succ]
          have hcv : (convert 25 9 (.slice a10 n10 c10)).run Tryd.prog V10 = .ok (.string X) V10 := by rw [← HXE.out]; exact hbs10.conv
          have hB10 : Below V9.heap.size V9 V10 := (Below.refl _ V9).drew.trans hb10
          obtain ⟨j0, j1, j2, j3, _⟩ := row4 ((hB10.block pb (lt_of_some H9.out.1)).trans H9.out.1)
          have H10 : Hid (Below V9.heap.size V9 V10) := hB10
          clear hbs10 hb10 hB10
          refine wpAnyH_ready (rs := [4]) (by kernel_rfl) (by simp) ?_
          refine AllReadyH.cons rfl (fun K hK => ?_) AllReadyH.nil
          go_simp
          refine hK.out _ _ (HQ.out V10 H10.out) (fun hHeld => ?_)
          clear hK K
          try simp only [Act.put, List.setIfInBounds_toArray, List.set_cons_zero, List.set_cons_succ]
          refine wpAnyH_ready (rs := [5]) (by kernel_rfl) (by simp) ?_
          refine AllReadyH.cons rfl (fun K hK => ?_) AllReadyH.nil
          go_simp
          refine (HSE.out V10 (H9.out.2.2.2.2.2.below H10.out)).mono ?_
          rintro e V11 ⟨rfl, hb11⟩
          refine hK.out _ _ (HQ.out V11 (H10.out.trans (hb11.mono H10.out.size))) (fun hHeld => ?_)
          clear hK K
          try simp only [Act.put, List.setIfInBounds_toArray, List.set_cons_zero, List.set_cons_succ]
          have hB11 : Below V9.heap.size V9 V11 := H10.out.trans (hb11.mono H10.out.size)
          have p11 := (hB11.block pb (lt_of_some H9.out.1)).trans H9.out.1
          obtain ⟨l0, l1, l2, l3, _, _, _, m3⟩ := row4 p11
          obtain ⟨V12, hV12⟩ : ∃ V12, V11.setCell ⟨pb, 3, none⟩ (.string Z) = V12 := ⟨_, rfl⟩
          have p12 : V12.heap[pb]? = some (.cells #[.int .i64 t, .int .i64 n, .slice a8 n8 c8, .string Z] 24 (0, 0)) := by rw [← hV12, heap_setCell_same _ _ _ _ _ _ p11]; rfl
          have hot : ∀ j, j ≠ pb → V12.heap[j]? = V11.heap[j]? := fun j hj => by rw [← hV12, heap_setCell_other _ _ _ _ hj]
          have q12 := (hot qb (by have := HB.out; omega)).trans ((hB11.block qb (lt_of_some H9.out.2.1)).trans H9.out.2.1)
          have z12 := (hot rb (by have := HB.out; omega)).trans ((hB11.block rb (lt_of_some H9.out.2.2.1)).trans H9.out.2.2.1)
          have o12 : V12.ownsRow (rb + 1) 39 3 (.slice a8 n8 c8) n8 (cvR (l ++ [⟨c1, c2, c3⟩])) := own_keep H9.out.2.2.2.2.1 (fun j hj => by have := H9.out.2.2.2.2.1.lt j hj; rw [hot j (by have := HB.out; omega), hB11.block j this.2])
          have b12 : Below w.heap.size w V12 := by rw [← hV12]; exact (H9.out.2.2.2.1.trans (hB11.mono H9.out.2.2.2.1.size)).setCell (show w.heap.size ≤ pb from Nat.le_of_eq HB.out.2.2.1) _
          have HQ12 : Hid (V12.cell? ⟨qb, 0, none⟩ = some (.string c1) ∧ V12.cell? ⟨qb, 1, none⟩ = some (.int .i64 c2) ∧ V12.cell? ⟨qb, 2, none⟩ = some (.int .i64 c3)) := by obtain ⟨e0, e1, e2, _⟩ := row3 q12; exact ⟨e0, e1, e2⟩
          have H12 : Hid (V12.heap[pb]? = some (.cells #[.int .i64 t, .int .i64 n, .slice a8 n8 c8, .string Z] 24 (0, 0)) ∧ V12.heap[rb]? = some (.cells #[.int .i64 0, .int .i64 0, .slice none 0 0, .string ⟨#[]⟩] 24 (0, 0)) ∧ V12.ownsRow (rb + 1) 39 3 (.slice a8 n8 c8) n8 (cvR (l ++ [⟨c1, c2, c3⟩])) ∧ Below w.heap.size w V12) := ⟨p12, z12, o12, b12⟩
          clear hb11 hB11 p11 p12 hot q12 z12 o12 b12
          refine wpAnyH_take (i := 6) (v := ?vb_6) rfl (by kernel_rfl) (by kernel_rfl) (by kernel_rfl) (fun _ _ _ h => h) (Or.inl ⟨by first | kernel_rfl | rfl, ?yb_6⟩) hHeld ?rb_6
          case yb_6 => (intro W hSW; (try dsimp only at hSW); go_simp; (try with_reducible rfl))
          change wpAnyH _ _ _ _ _ _ _ (Act.put _ (some 33) _) _
          simp only [Act.put, List.setIfInBounds_toArray, List.set_cons_zero, List.set_cons_succ]
          refine wpAnyH_ready (rs := [7]) (by kernel_rfl) (by simp) ?_
          refine AllReadyH.cons rfl (fun K hK => ?_) AllReadyH.nil
          go_simp
          refine hK.out _ _ (HQ12.out) (fun hHeld => ?_)
          clear hK K
          refine wpAnyH_done (by kernel_rfl) ?_ _
          clear l0 l1 l2 l3 m3 hcv y0 y1 y2 y3
          try clear j0 j1 j2 j3
          obtain ⟨z0, z1, z2, z3, _⟩ := row4 H12.out.1
          obtain ⟨x0, x1, x2, x3, f0, f1, f2, f3⟩ := row4 H12.out.2.1
          obtain ⟨W5, hW5⟩ : ∃ W5, (((V12.setCell ⟨rb, 0, none⟩ (.int .i64 t)).setCell ⟨rb, 1, none⟩ (.int .i64 n)).setCell ⟨rb, 2, none⟩ (.slice a8 n8 c8)).setCell ⟨rb, 3, none⟩ (.string Z) = W5 := ⟨_, rfl⟩
          have HE : Hid (TkTo w (⟨t, n, l ++ [⟨c1, c2, c3⟩], Z⟩, 0) (.returned (.tuple #[.agg #[.int .i64 t, .int .i64 n, .slice a8 n8 c8, .string Z], .int .i64 0])) W5 ∧ W5.heap[rb]? = some (.cells #[.int .i64 t, .int .i64 n, .slice a8 n8 c8, .string Z] 24 (0, 0))) := by
            refine ⟨⟨a8, n8, c8, rfl, ?_, ?_⟩, by rw [← hW5]; exact set4 H12.out.2.1 _ _ _ _⟩
            · have h5 := own_base H12.out.2.2.1 (show w.heap.size ≤ rb + 1 by have := HB.out; omega)
              refine own_keep h5 (fun j hj => ?_)
              have := (H12.out.2.2.1.lt j hj).1
              rw [← hW5]
              exact other4s (by omega) _ _ _ _
            · rw [← hW5]
              exact below4s H12.out.2.2.2 (by have := HB.out; omega) _ _ _ _
          go_wp2
          refine bodyPost_ret (v := .tuple #[.agg #[.int .i64 t, .int .i64 n, .slice a8 n8 c8, .string Z], .int .i64 0]) ?_ rfl HE.out.1
          exact res_tk (fn := Tryd.f13) (p := 4) (q := 5) (by rfl) _ _ rb _ (by rfl) HE.out.2 infoT4
        · go_simp
          refine (HCB.out V9.drew).mono ?_
          rintro e V10 ⟨a10, n10, c10, rfl, hbs10, hb10⟩
          refine hK.out _ _ (HQ.out V10 ((Below.refl _ V9).drew.trans hb10)) (fun hHeld => ?_)
          clear hK K
          try simp only [Act.put, List.setIfInBounds_toArray, List.set_cons_zero, List.set_cons_succ]
          have hcv : (convert 25 9 (.slice a10 n10 c10)).run Tryd.prog V10 = .ok (.string X) V10 := by rw [← HXE.out]; exact hbs10.conv
          have hB10 : Below V9.heap.size V9 V10 := (Below.refl _ V9).drew.trans hb10
          obtain ⟨j0, j1, j2, j3, _⟩ := row4 ((hB10.block pb (lt_of_some H9.out.1)).trans H9.out.1)
          have H10 : Hid (Below V9.heap.size V9 V10) := hB10
          clear hbs10 hb10 hB10
          refine wpAnyH_ready (rs := [1, 4]) (by kernel_rfl) (by simp) ?_
          refine AllReadyH.cons rfl (fun K hK => ?_) (AllReadyH.cons rfl (fun K hK => ?_) AllReadyH.nil)
          · go_simp
            refine hK.out _ _ (HQ.out V10 H10.out) (fun hHeld => ?_)
            clear hK K
            try simp only [Act.put, List.setIfInBounds_toArray, List.set_cons_zero, List.set_cons_succ]
            refine wpAnyH_ready (rs := [4]) (by kernel_rfl) (by simp) ?_
            refine AllReadyH.cons rfl (fun K hK => ?_) AllReadyH.nil
            go_simp
            refine hK.out _ _ (HQ.out V10 H10.out) (fun hHeld => ?_)
            clear hK K
            try simp only [Act.put, List.setIfInBounds_toArray, List.set_cons_zero, List.set_cons_succ]
            refine wpAnyH_ready (rs := [5]) (by kernel_rfl) (by simp) ?_
            refine AllReadyH.cons rfl (fun K hK => ?_) AllReadyH.nil
            go_simp
            refine (HSE.out V10 (H9.out.2.2.2.2.2.below H10.out)).mono ?_
            rintro e V11 ⟨rfl, hb11⟩
            refine hK.out _ _ (HQ.out V11 (H10.out.trans (hb11.mono H10.out.size))) (fun hHeld => ?_)
            clear hK K
            try simp only [Act.put, List.setIfInBounds_toArray, List.set_cons_zero, List.set_cons_succ]
            have hB11 : Below V9.heap.size V9 V11 := H10.out.trans (hb11.mono H10.out.size)
            have p11 := (hB11.block pb (lt_of_some H9.out.1)).trans H9.out.1
            obtain ⟨l0, l1, l2, l3, _, _, _, m3⟩ := row4 p11
            obtain ⟨V12, hV12⟩ : ∃ V12, V11.setCell ⟨pb, 3, none⟩ (.string Z) = V12 := ⟨_, rfl⟩
            have p12 : V12.heap[pb]? = some (.cells #[.int .i64 t, .int .i64 n, .slice a8 n8 c8, .string Z] 24 (0, 0)) := by rw [← hV12, heap_setCell_same _ _ _ _ _ _ p11]; rfl
            have hot : ∀ j, j ≠ pb → V12.heap[j]? = V11.heap[j]? := fun j hj => by rw [← hV12, heap_setCell_other _ _ _ _ hj]
            have q12 := (hot qb (by have := HB.out; omega)).trans ((hB11.block qb (lt_of_some H9.out.2.1)).trans H9.out.2.1)
            have z12 := (hot rb (by have := HB.out; omega)).trans ((hB11.block rb (lt_of_some H9.out.2.2.1)).trans H9.out.2.2.1)
            have o12 : V12.ownsRow (rb + 1) 39 3 (.slice a8 n8 c8) n8 (cvR (l ++ [⟨c1, c2, c3⟩])) := own_keep H9.out.2.2.2.2.1 (fun j hj => by have := H9.out.2.2.2.2.1.lt j hj; rw [hot j (by have := HB.out; omega), hB11.block j this.2])
            have b12 : Below w.heap.size w V12 := by rw [← hV12]; exact (H9.out.2.2.2.1.trans (hB11.mono H9.out.2.2.2.1.size)).setCell (show w.heap.size ≤ pb from Nat.le_of_eq HB.out.2.2.1) _
            have HQ12 : Hid (V12.cell? ⟨qb, 0, none⟩ = some (.string c1) ∧ V12.cell? ⟨qb, 1, none⟩ = some (.int .i64 c2) ∧ V12.cell? ⟨qb, 2, none⟩ = some (.int .i64 c3)) := by obtain ⟨e0, e1, e2, _⟩ := row3 q12; exact ⟨e0, e1, e2⟩
            have H12 : Hid (V12.heap[pb]? = some (.cells #[.int .i64 t, .int .i64 n, .slice a8 n8 c8, .string Z] 24 (0, 0)) ∧ V12.heap[rb]? = some (.cells #[.int .i64 0, .int .i64 0, .slice none 0 0, .string ⟨#[]⟩] 24 (0, 0)) ∧ V12.ownsRow (rb + 1) 39 3 (.slice a8 n8 c8) n8 (cvR (l ++ [⟨c1, c2, c3⟩])) ∧ Below w.heap.size w V12) := ⟨p12, z12, o12, b12⟩
            clear hb11 hB11 p11 p12 hot q12 z12 o12 b12
            refine wpAnyH_take (i := 6) (v := ?vd_6) rfl (by kernel_rfl) (by kernel_rfl) (by kernel_rfl) (fun _ _ _ h => h) (Or.inl ⟨by first | kernel_rfl | rfl, ?yd_6⟩) hHeld ?rd_6
            case yd_6 => (intro W hSW; (try dsimp only at hSW); go_simp; (try with_reducible rfl))
            change wpAnyH _ _ _ _ _ _ _ (Act.put _ (some 33) _) _
            simp only [Act.put, List.setIfInBounds_toArray, List.set_cons_zero, List.set_cons_succ]
            refine wpAnyH_ready (rs := [7]) (by kernel_rfl) (by simp) ?_
            refine AllReadyH.cons rfl (fun K hK => ?_) AllReadyH.nil
            go_simp
            refine hK.out _ _ (HQ12.out) (fun hHeld => ?_)
            clear hK K
            refine wpAnyH_done (by kernel_rfl) ?_ _
            clear l0 l1 l2 l3 m3 hcv y0 y1 y2 y3
            try clear j0 j1 j2 j3
            obtain ⟨z0, z1, z2, z3, _⟩ := row4 H12.out.1
            obtain ⟨x0, x1, x2, x3, f0, f1, f2, f3⟩ := row4 H12.out.2.1
            obtain ⟨W5, hW5⟩ : ∃ W5, (((V12.setCell ⟨rb, 0, none⟩ (.int .i64 t)).setCell ⟨rb, 1, none⟩ (.int .i64 n)).setCell ⟨rb, 2, none⟩ (.slice a8 n8 c8)).setCell ⟨rb, 3, none⟩ (.string Z) = W5 := ⟨_, rfl⟩
            have HE : Hid (TkTo w (⟨t, n, l ++ [⟨c1, c2, c3⟩], Z⟩, 0) (.returned (.tuple #[.agg #[.int .i64 t, .int .i64 n, .slice a8 n8 c8, .string Z], .int .i64 0])) W5 ∧ W5.heap[rb]? = some (.cells #[.int .i64 t, .int .i64 n, .slice a8 n8 c8, .string Z] 24 (0, 0))) := by
              refine ⟨⟨a8, n8, c8, rfl, ?_, ?_⟩, by rw [← hW5]; exact set4 H12.out.2.1 _ _ _ _⟩
              · have h5 := own_base H12.out.2.2.1 (show w.heap.size ≤ rb + 1 by have := HB.out; omega)
                refine own_keep h5 (fun j hj => ?_)
                have := (H12.out.2.2.1.lt j hj).1
                rw [← hW5]
                exact other4s (by omega) _ _ _ _
              · rw [← hW5]
                exact below4s H12.out.2.2.2 (by have := HB.out; omega) _ _ _ _
            go_wp2
            refine bodyPost_ret (v := .tuple #[.agg #[.int .i64 t, .int .i64 n, .slice a8 n8 c8, .string Z], .int .i64 0]) ?_ rfl HE.out.1
            exact res_tk (fn := Tryd.f13) (p := 4) (q := 5) (by rfl) _ _ rb _ (by rfl) HE.out.2 infoT4
          · go_simp
            refine hK.out _ _ (HQ.out V10 H10.out) (fun hHeld => ?_)
            clear hK K
            try simp only [Act.put, List.setIfInBounds_toArray, List.set_cons_zero, List.set_cons_succ]
            refine wpAnyH_ready (rs := [1]) (by kernel_rfl) (by simp) ?_
            refine AllReadyH.cons rfl (fun K hK => ?_) AllReadyH.nil
            go_simp
            refine hK.out _ _ (HQ.out V10 H10.out) (fun hHeld => ?_)
            clear hK K
            try simp only [Act.put, List.setIfInBounds_toArray, List.set_cons_zero, List.set_cons_succ]
            refine wpAnyH_ready (rs := [5]) (by kernel_rfl) (by simp) ?_
            refine AllReadyH.cons rfl (fun K hK => ?_) AllReadyH.nil
            go_simp
            refine (HSE.out V10 (H9.out.2.2.2.2.2.below H10.out)).mono ?_
            rintro e V11 ⟨rfl, hb11⟩
            refine hK.out _ _ (HQ.out V11 (H10.out.trans (hb11.mono H10.out.size))) (fun hHeld => ?_)
            clear hK K
            try simp only [Act.put, List.setIfInBounds_toArray, List.set_cons_zero, List.set_cons_succ]
            have hB11 : Below V9.heap.size V9 V11 := H10.out.trans (hb11.mono H10.out.size)
            have p11 := (hB11.block pb (lt_of_some H9.out.1)).trans H9.out.1
            obtain ⟨l0, l1, l2, l3, _, _, _, m3⟩ := row4 p11
            obtain ⟨V12, hV12⟩ : ∃ V12, V11.setCell ⟨pb, 3, none⟩ (.string Z) = V12 := ⟨_, rfl⟩
            have p12 : V12.heap[pb]? = some (.cells #[.int .i64 t, .int .i64 n, .slice a8 n8 c8, .string Z] 24 (0, 0)) := by rw [← hV12, heap_setCell_same _ _ _ _ _ _ p11]; rfl
            have hot : ∀ j, j ≠ pb → V12.heap[j]? = V11.heap[j]? := fun j hj => by rw [← hV12, heap_setCell_other _ _ _ _ hj]
            have q12 := (hot qb (by have := HB.out; omega)).trans ((hB11.block qb (lt_of_some H9.out.2.1)).trans H9.out.2.1)
            have z12 := (hot rb (by have := HB.out; omega)).trans ((hB11.block rb (lt_of_some H9.out.2.2.1)).trans H9.out.2.2.1)
            have o12 : V12.ownsRow (rb + 1) 39 3 (.slice a8 n8 c8) n8 (cvR (l ++ [⟨c1, c2, c3⟩])) := own_keep H9.out.2.2.2.2.1 (fun j hj => by have := H9.out.2.2.2.2.1.lt j hj; rw [hot j (by have := HB.out; omega), hB11.block j this.2])
            have b12 : Below w.heap.size w V12 := by rw [← hV12]; exact (H9.out.2.2.2.1.trans (hB11.mono H9.out.2.2.2.1.size)).setCell (show w.heap.size ≤ pb from Nat.le_of_eq HB.out.2.2.1) _
            have HQ12 : Hid (V12.cell? ⟨qb, 0, none⟩ = some (.string c1) ∧ V12.cell? ⟨qb, 1, none⟩ = some (.int .i64 c2) ∧ V12.cell? ⟨qb, 2, none⟩ = some (.int .i64 c3)) := by obtain ⟨e0, e1, e2, _⟩ := row3 q12; exact ⟨e0, e1, e2⟩
            have H12 : Hid (V12.heap[pb]? = some (.cells #[.int .i64 t, .int .i64 n, .slice a8 n8 c8, .string Z] 24 (0, 0)) ∧ V12.heap[rb]? = some (.cells #[.int .i64 0, .int .i64 0, .slice none 0 0, .string ⟨#[]⟩] 24 (0, 0)) ∧ V12.ownsRow (rb + 1) 39 3 (.slice a8 n8 c8) n8 (cvR (l ++ [⟨c1, c2, c3⟩])) ∧ Below w.heap.size w V12) := ⟨p12, z12, o12, b12⟩
            clear hb11 hB11 p11 p12 hot q12 z12 o12 b12
            refine wpAnyH_take (i := 6) (v := ?ve_6) rfl (by kernel_rfl) (by kernel_rfl) (by kernel_rfl) (fun _ _ _ h => h) (Or.inl ⟨by first | kernel_rfl | rfl, ?ye_6⟩) hHeld ?re_6
            case ye_6 => (intro W hSW; (try dsimp only at hSW); go_simp; (try with_reducible rfl))
            change wpAnyH _ _ _ _ _ _ _ (Act.put _ (some 33) _) _
            simp only [Act.put, List.setIfInBounds_toArray, List.set_cons_zero, List.set_cons_succ]
            refine wpAnyH_ready (rs := [7]) (by kernel_rfl) (by simp) ?_
            refine AllReadyH.cons rfl (fun K hK => ?_) AllReadyH.nil
            go_simp
            refine hK.out _ _ (HQ12.out) (fun hHeld => ?_)
            clear hK K
            refine wpAnyH_done (by kernel_rfl) ?_ _
            clear l0 l1 l2 l3 m3 hcv y0 y1 y2 y3
            try clear j0 j1 j2 j3
            obtain ⟨z0, z1, z2, z3, _⟩ := row4 H12.out.1
            obtain ⟨x0, x1, x2, x3, f0, f1, f2, f3⟩ := row4 H12.out.2.1
            obtain ⟨W5, hW5⟩ : ∃ W5, (((V12.setCell ⟨rb, 0, none⟩ (.int .i64 t)).setCell ⟨rb, 1, none⟩ (.int .i64 n)).setCell ⟨rb, 2, none⟩ (.slice a8 n8 c8)).setCell ⟨rb, 3, none⟩ (.string Z) = W5 := ⟨_, rfl⟩
            have HE : Hid (TkTo w (⟨t, n, l ++ [⟨c1, c2, c3⟩], Z⟩, 0) (.returned (.tuple #[.agg #[.int .i64 t, .int .i64 n, .slice a8 n8 c8, .string Z], .int .i64 0])) W5 ∧ W5.heap[rb]? = some (.cells #[.int .i64 t, .int .i64 n, .slice a8 n8 c8, .string Z] 24 (0, 0))) := by
              refine ⟨⟨a8, n8, c8, rfl, ?_, ?_⟩, by rw [← hW5]; exact set4 H12.out.2.1 _ _ _ _⟩
              · have h5 := own_base H12.out.2.2.1 (show w.heap.size ≤ rb + 1 by have := HB.out; omega)
                refine own_keep h5 (fun j hj => ?_)
                have := (H12.out.2.2.1.lt j hj).1
                rw [← hW5]
                exact other4s (by omega) _ _ _ _
              · rw [← hW5]
                exact below4s H12.out.2.2.2 (by have := HB.out; omega) _ _ _ _
            go_wp2
            refine bodyPost_ret (v := .tuple #[.agg #[.int .i64 t, .int .i64 n, .slice a8 n8 c8, .string Z], .int .i64 0]) ?_ rfl HE.out.1
            exact res_tk (fn := Tryd.f13) (p := 4) (q := 5) (by rfl) _ _ rb _ (by rfl) HE.out.2 infoT4
end Go.Proofs.YtcmdcmbiilfngabDoor
