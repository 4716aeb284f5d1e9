/- A walk over the document's Add. -/
import Derived.Test.YtkhidkilkbmpoaaDoorQG
namespace Go.Proofs.YtkhidkilkbmpoaaDoor
open Go.RowKit
set_option maxRecDepth 100000 in
set_option maxHeartbeats 4000000 in
theorem radd_any (s : ByteArray) (n : Int) {a : Option Addr} {ln cp : Nat} {l : List En} (c : En) (w : World) (h : Ew w a ln cp l) : Calls Tryd.prog 19 #[.agg #[.string s, .int .i64 n, .slice a ln cp], .agg #[.int .i64 c.seq, .int .i64 c.time, .int .i64 c.kind, .string c.path, .int .i64 c.errno]] w fun e w' => AuTo w (addA ⟨s, n, l⟩ c) e w' := by
  obtain ⟨c0, c1, c2, c3, c4⟩ := c
  simp only
  have hl := h.len
  obtain ⟨pb, hpb⟩ : ∃ pb, w.heap.size = pb := ⟨_, rfl⟩
  obtain ⟨V1, hV1, r1, hb1⟩ := box_au 24 (w := w) s n a ln cp
  obtain ⟨V2, hV2, r2, hb2⟩ := box_en (w := V1) c0 c1 c2 c3 c4
  obtain ⟨V3, hV3, r3, hb3⟩ := box_au 24 (w := V2) ⟨#[]⟩ 0 none 0 0
  obtain ⟨qb, hqb⟩ : ∃ qb, V1.heap.size = qb := ⟨_, rfl⟩
  obtain ⟨rb, hrb⟩ : ∃ rb, V2.heap.size = rb := ⟨_, rfl⟩
  have hq1 : pb + 1 = qb := by rw [← hqb, ← hV1, ← hpb]; simp
  have hq2 : qb + 1 = rb := by rw [← hrb, ← hV2, ← hqb]; simp
  have hq3 : rb + 1 = V3.heap.size := by rw [← hV3, ← hrb]; simp
  rw [hpb] at r1
  rw [hqb] at r2
  rw [hrb] at r3
  have r2' := (hb3.block qb (by omega)).trans r2
  have r1' := (hb3.block pb (by omega)).trans ((hb2.block pb (by omega)).trans r1)
  have hB0 : Below w.heap.size w V3 := (hb1.trans (hb2.mono hb1.size)).trans (hb3.mono (by omega))
  have HB : Hid (Below w.heap.size w V3 ∧ w.heap.size = pb ∧ pb + 1 = qb ∧ qb + 1 = rb ∧ rb + 1 = V3.heap.size) := ⟨hB0, hpb, hq1, hq2, hq3⟩
  have HK : Hid (∀ W, Below V3.heap.size V3 W → W.heap[pb]? = some (.cells #[.string s, .int .i64 n, .slice a ln cp] 24 (0, 0)) ∧ W.heap[qb]? = some (.cells #[.int .i64 c0, .int .i64 c1, .int .i64 c2, .string c3, .int .i64 c4] 36 (0, 0)) ∧ W.heap[rb]? = some (.cells #[.string ⟨#[]⟩, .int .i64 0, .slice none 0 0] 24 (0, 0))) := fun W hW => ⟨(hW.block pb (lt_of_some r1')).trans r1', (hW.block qb (lt_of_some r2')).trans r2', (hW.block rb (lt_of_some r3)).trans r3⟩
  have HR : Hid ((∀ W, Below w.heap.size w W → Ew W a ln cp l) ∧ l.length = ln) := ⟨fun W hW => h.below hW, hl⟩
  have HM := rmay_any s n (h.below hB0)
  have HIC : Hid (∀ W, Calls Tryd.prog 22 #[.agg #[.int .i64 (n + 1), .int .i64 c1, .int .i64 c2, .string c3, .int .i64 c4]] W fun e w' => e = .returned (.bool (⟨n + 1, c1, c2, c3, c4⟩ : En).ok) ∧ Below W.heap.size W w') := fun W => rgood_any ⟨n + 1, c1, c2, c3, c4⟩ W
  obtain ⟨y0, y1, y2, _⟩ := row3 (HK.out V3 (Below.refl _ _)).1
  clear r1 r2 r3 r1' r2' hb1 hb2 hb3 hB0 h hl hq1 hq2 hq3
  unfold YeTo at HM
  cases hm : mayA ⟨s, n, l⟩ with
  | false =>
    rw [hm] at HM
    have HX : Hid (addA ⟨s, n, l⟩ ⟨c0, c1, c2, c3, c4⟩ = (zeroAu, 1)) := add_no (fun h => by rw [hm] at h; exact absurd h.1 (by decide))
    clear hm
    go_enter Tryd.func19, Tryd.ntmps19
    go_wp2_with fail
    refine HM.mono ?_
    rintro e V4 ⟨rfl, hb4⟩
    clear HM
    have hB := hb4
    have HW : Hid (Below w.heap.size w V4) := HB.out.1.trans (hb4.mono HB.out.1.size)
    clear hb4 y0 y1 y2
    have z5 := (HK.out V4 hB).2.2
    obtain ⟨x0, x1, x2, fz⟩ := row3 z5
    have f0 := fz 0
    have f1 := fz 1
    have f2 := fz 2
    obtain ⟨W5, hW5⟩ : ∃ W5, ((V4.setCell ⟨rb, 0, none⟩ (.string ⟨#[]⟩)).setCell ⟨rb, 1, none⟩ (.int .i64 0)).setCell ⟨rb, 2, none⟩ (.slice none 0 0) = W5 := ⟨_, rfl⟩
    have HE : Hid (AuTo w (addA ⟨s, n, l⟩ ⟨c0, c1, c2, c3, c4⟩) (.returned (.tuple #[.agg #[.string ⟨#[]⟩, .int .i64 0, .slice none 0 0], .int .i64 1])) W5 ∧ W5.heap[rb]? = some (.cells #[.string ⟨#[]⟩, .int .i64 0, .slice none 0 0] 24 (0, 0))) := by
      refine ⟨?_, by rw [← hW5]; exact set3 z5 _ _ _⟩
      rw [HX.out]
      refine ⟨none, 0, 0, rfl, Rw.zero _ _ _ _ _ _ (Nat.zero_le _), ?_⟩
      rw [← hW5]
      exact below3s HW.out (by have := HB.out; omega) _ _ _
    clear z5 fz hB
    go_wp2
    refine bodyPost_ret (v := .tuple #[.agg #[.string ⟨#[]⟩, .int .i64 0, .slice none 0 0], .int .i64 1]) ?_ rfl HE.out.1
    exact res_2R (fn := Tryd.f19) (p := 4) (q := 5) (by rfl) _ _ rb _ (by rfl) HE.out.2 infoRA
  | true =>
    rw [hm] at HM
    have hmi := mayA_iff.1 hm
    simp only at hmi
    by_cases hn : n = 2147483648
    · have HX : Hid (addA ⟨s, n, l⟩ ⟨c0, c1, c2, c3, c4⟩ = (zeroAu, 1)) := add_no (fun h => by have := (En.ok_iff.1 h.2).2.1; change n + 1 ≤ 2147483648 at this; omega)
      have bn : (n == 2147483648) = true := by simpa using hn
      clear hm hmi hn
      go_enter Tryd.func19, Tryd.ntmps19
      go_wp2_with fail
      refine HM.mono ?_
      rintro e V4 ⟨rfl, hb4⟩
      clear HM
      have hB := hb4
      have HW : Hid (Below w.heap.size w V4) := HB.out.1.trans (hb4.mono HB.out.1.size)
      clear y0 y1 y2
      obtain ⟨y0, y1, y2, _⟩ := row3 (HK.out V4 hb4).1
      clear hb4
      have z5 := (HK.out V4 hB).2.2
      obtain ⟨x0, x1, x2, fz⟩ := row3 z5
      have f0 := fz 0
      have f1 := fz 1
      have f2 := fz 2
      obtain ⟨W5, hW5⟩ : ∃ W5, ((V4.setCell ⟨rb, 0, none⟩ (.string ⟨#[]⟩)).setCell ⟨rb, 1, none⟩ (.int .i64 0)).setCell ⟨rb, 2, none⟩ (.slice none 0 0) = W5 := ⟨_, rfl⟩
      have HE : Hid (AuTo w (addA ⟨s, n, l⟩ ⟨c0, c1, c2, c3, c4⟩) (.returned (.tuple #[.agg #[.string ⟨#[]⟩, .int .i64 0, .slice none 0 0], .int .i64 1])) W5 ∧ W5.heap[rb]? = some (.cells #[.string ⟨#[]⟩, .int .i64 0, .slice none 0 0] 24 (0, 0))) := by
        refine ⟨?_, by rw [← hW5]; exact set3 z5 _ _ _⟩
        rw [HX.out]
        refine ⟨none, 0, 0, rfl, Rw.zero _ _ _ _ _ _ (Nat.zero_le _), ?_⟩
        rw [← hW5]
        exact below3s HW.out (by have := HB.out; omega) _ _ _
      clear z5 fz hB
      go_wp2
      refine bodyPost_ret (v := .tuple #[.agg #[.string ⟨#[]⟩, .int .i64 0, .slice none 0 0], .int .i64 1]) ?_ rfl HE.out.1
      exact res_2R (fn := Tryd.f19) (p := 4) (q := 5) (by rfl) _ _ rb _ (by rfl) HE.out.2 infoRA
    · have bn : (n == 2147483648) = false := by simpa using hn
      have wn : IntKind.i64.wrap (n + 1) = n + 1 := by rw [IntKind.wrap_i64]; omega
      have hln8 : ln ≤ 8 := by have := HR.out.2; omega
      cases hc : (⟨n + 1, c1, c2, c3, c4⟩ : En).ok with
      | false =>
        rw [hc] at HIC
        have HX : Hid (addA ⟨s, n, l⟩ ⟨c0, c1, c2, c3, c4⟩ = (zeroAu, 1)) := add_no (fun h => by have h2 : (⟨n + 1, c1, c2, c3, c4⟩ : En).ok = true := h.2; rw [hc] at h2; cases h2)
        clear hm hmi hc
        go_enter Tryd.func19, Tryd.ntmps19
        go_wp2_with fail
        refine HM.mono ?_
        rintro e V4 ⟨rfl, hb4⟩
        clear HM
        clear y0 y1 y2
        obtain ⟨y0, y1, y2, _⟩ := row3 (HK.out V4 hb4).1
        have H4 : Hid (Below V3.heap.size V3 V4) := hb4
        obtain ⟨_, k2, _⟩ := HK.out V4 hb4
        clear y0 y1 y2
        obtain ⟨y0, y1, y2, _⟩ := row3 (HK.out V4 hb4).1
        obtain ⟨_, _, _, _, _, gz⟩ := row5 k2
        obtain ⟨d0, d1, d2, d3, d4, _⟩ := row5 k2
        have g0 := gz 0
        obtain ⟨V5, hV5⟩ : ∃ V5, V4.setCell ⟨qb, 0, none⟩ (.int .i64 (n + 1)) = V5 := ⟨_, rfl⟩
        have q5 : V5.heap[qb]? = some (.cells #[.int .i64 (n + 1), .int .i64 c1, .int .i64 c2, .string c3, .int .i64 c4] 36 (0, 0)) := by rw [← hV5, heap_setCell_same _ _ _ _ _ _ k2]; rfl
        have o5 : ∀ j, j ≠ qb → V5.heap[j]? = V4.heap[j]? := fun j hj => by rw [← hV5, heap_setCell_other _ _ _ _ hj]
        have HB5 : Hid (Below w.heap.size w V5 ∧ rb + 1 ≤ V5.heap.size ∧ w.heap.size ≤ V5.heap.size) := by
          have h45 : V5.heap.size = V4.heap.size := by rw [← hV5]; simp
          refine ⟨?_, by have := HB.out; have := hb4.size; omega, by have := HB.out; have := hb4.size; omega⟩
          rw [← hV5]
          exact (HB.out.1.trans (hb4.mono HB.out.1.size)).setCell (show w.heap.size ≤ qb by have := HB.out; omega) _
        have HK5 : Hid (∀ W, Below V5.heap.size V5 W → (W.heap[pb]? = some (.cells #[.string s, .int .i64 n, .slice a ln cp] 24 (0, 0)) ∧ W.heap[qb]? = some (.cells #[.int .i64 (n + 1), .int .i64 c1, .int .i64 c2, .string c3, .int .i64 c4] 36 (0, 0)) ∧ W.heap[rb]? = some (.cells #[.string ⟨#[]⟩, .int .i64 0, .slice none 0 0] 24 (0, 0))) ∧ Below w.heap.size w W) := fun W hW => by
          have p5 := (o5 pb (by have := HB.out; omega)).trans (HK.out V4 hb4).1
          have z5 := (o5 rb (by have := HB.out; omega)).trans (HK.out V4 hb4).2.2
          exact ⟨⟨(hW.block pb (lt_of_some p5)).trans p5, (hW.block qb (lt_of_some q5)).trans q5, (hW.block rb (lt_of_some z5)).trans z5⟩, HB5.out.1.trans (hW.mono HB5.out.1.size)⟩
        obtain ⟨e0, e1, e2, e3, e4, _⟩ := row5 q5
        have HI5 := HIC.out V5
        clear gz k2 o5 q5 hb4
        go_wp2_with fail
        clear d0 d1 d2 d3 d4 e0 e1 e2 e3 e4 g0 y0 y1 y2
        refine HI5.mono ?_
        rintro e V6 ⟨rfl, hb6⟩
        clear HI5
        have hB := hb6
        have HW : Hid (Below w.heap.size w V6) := (HK5.out V6 hb6).2
        clear hb6
        have z5 := ((fun V h => (HK5.out V h).1) V6 hB).2.2
        obtain ⟨x0, x1, x2, fz⟩ := row3 z5
        have f0 := fz 0
        have f1 := fz 1
        have f2 := fz 2
        obtain ⟨W5, hW5⟩ : ∃ W5, ((V6.setCell ⟨rb, 0, none⟩ (.string ⟨#[]⟩)).setCell ⟨rb, 1, none⟩ (.int .i64 0)).setCell ⟨rb, 2, none⟩ (.slice none 0 0) = W5 := ⟨_, rfl⟩
        have HE : Hid (AuTo w (addA ⟨s, n, l⟩ ⟨c0, c1, c2, c3, c4⟩) (.returned (.tuple #[.agg #[.string ⟨#[]⟩, .int .i64 0, .slice none 0 0], .int .i64 1])) W5 ∧ W5.heap[rb]? = some (.cells #[.string ⟨#[]⟩, .int .i64 0, .slice none 0 0] 24 (0, 0))) := by
          refine ⟨?_, by rw [← hW5]; exact set3 z5 _ _ _⟩
          rw [HX.out]
          refine ⟨none, 0, 0, rfl, Rw.zero _ _ _ _ _ _ (Nat.zero_le _), ?_⟩
          rw [← hW5]
          exact below3s HW.out (by have := HB.out; omega) _ _ _
        clear z5 fz hB
        go_wp2
        refine bodyPost_ret (v := .tuple #[.agg #[.string ⟨#[]⟩, .int .i64 0, .slice none 0 0], .int .i64 1]) ?_ rfl HE.out.1
        exact res_2R (fn := Tryd.f19) (p := 4) (q := 5) (by rfl) _ _ rb _ (by rfl) HE.out.2 infoRA
      | true =>
        rw [hc] at HIC
        have hs32 := hmi.1
        have HOK : Hid (∀ e ∈ l ++ [(⟨n + 1, c1, c2, c3, c4⟩ : En)], e.ok = true) := fun e he => by
          rcases List.mem_append.1 he with he | he
          · exact run_ok hmi.2.2.2.2 e he
          · rw [List.mem_singleton.1 he]; exact hc
        have HAD : Hid (addA ⟨s, n, l⟩ ⟨c0, c1, c2, c3, c4⟩ = (cutAu s (n + 1) (l ++ [⟨n + 1, c1, c2, c3, c4⟩]), 0)) := add_yes hm hc
        clear hm hmi hc
        go_enter Tryd.func19, Tryd.ntmps19
        go_wp2_with fail
        refine HM.mono ?_
        rintro e V4 ⟨rfl, hb4⟩
        clear HM
        clear y0 y1 y2
        obtain ⟨y0, y1, y2, _⟩ := row3 (HK.out V4 hb4).1
        have H4 : Hid (Below V3.heap.size V3 V4) := hb4
        obtain ⟨_, k2, _⟩ := HK.out V4 hb4
        clear y0 y1 y2
        obtain ⟨y0, y1, y2, _⟩ := row3 (HK.out V4 hb4).1
        obtain ⟨_, _, _, _, _, gz⟩ := row5 k2
        obtain ⟨d0, d1, d2, d3, d4, _⟩ := row5 k2
        have g0 := gz 0
        obtain ⟨V5, hV5⟩ : ∃ V5, V4.setCell ⟨qb, 0, none⟩ (.int .i64 (n + 1)) = V5 := ⟨_, rfl⟩
        have q5 : V5.heap[qb]? = some (.cells #[.int .i64 (n + 1), .int .i64 c1, .int .i64 c2, .string c3, .int .i64 c4] 36 (0, 0)) := by rw [← hV5, heap_setCell_same _ _ _ _ _ _ k2]; rfl
        have o5 : ∀ j, j ≠ qb → V5.heap[j]? = V4.heap[j]? := fun j hj => by rw [← hV5, heap_setCell_other _ _ _ _ hj]
        have HB5 : Hid (Below w.heap.size w V5 ∧ rb + 1 ≤ V5.heap.size ∧ w.heap.size ≤ V5.heap.size) := by
          have h45 : V5.heap.size = V4.heap.size := by rw [← hV5]; simp
          refine ⟨?_, by have := HB.out; have := hb4.size; omega, by have := HB.out; have := hb4.size; omega⟩
          rw [← hV5]
          exact (HB.out.1.trans (hb4.mono HB.out.1.size)).setCell (show w.heap.size ≤ qb by have := HB.out; omega) _
        have HK5 : Hid (∀ W, Below V5.heap.size V5 W → (W.heap[pb]? = some (.cells #[.string s, .int .i64 n, .slice a ln cp] 24 (0, 0)) ∧ W.heap[qb]? = some (.cells #[.int .i64 (n + 1), .int .i64 c1, .int .i64 c2, .string c3, .int .i64 c4] 36 (0, 0)) ∧ W.heap[rb]? = some (.cells #[.string ⟨#[]⟩, .int .i64 0, .slice none 0 0] 24 (0, 0))) ∧ Below w.heap.size w W) := fun W hW => by
          have p5 := (o5 pb (by have := HB.out; omega)).trans (HK.out V4 hb4).1
          have z5 := (o5 rb (by have := HB.out; omega)).trans (HK.out V4 hb4).2.2
          exact ⟨⟨(hW.block pb (lt_of_some p5)).trans p5, (hW.block qb (lt_of_some q5)).trans q5, (hW.block rb (lt_of_some z5)).trans z5⟩, HB5.out.1.trans (hW.mono HB5.out.1.size)⟩
        obtain ⟨e0, e1, e2, e3, e4, _⟩ := row5 q5
        have HI5 := HIC.out V5
        clear gz k2 o5 q5 hb4
        go_wp2_with fail
        clear d0 d1 d2 d3 d4 e0 e1 e2 e3 e4 g0 y0 y1 y2
        refine HI5.mono ?_
        rintro e V6 ⟨rfl, hb6⟩
        clear HI5
        obtain ⟨y0, y1, y2, _⟩ := row3 (HK5.out V6 hb6).1.1
        obtain ⟨a7, c7, V7, hr7, ho7, hg7, _⟩ := addE_own V6 (base := V5.heap.size) (l := []) (World.ownsRow_nil V6 V5.heap.size 36 5) (HR.out.1 V6 (HK5.out V6 hb6).2) (by omega) hb6.size
        rw [Nat.zero_add] at hr7 ho7
        rw [List.nil_append] at ho7
        have hB7 : Below V5.heap.size V5 V7 := hb6.grown hg7 hb6.size (fun j hj => by cases hj)
        obtain ⟨V8, hV8⟩ : ∃ V8, V7.alloc (.cells #[.int .i64 (n + 1), .int .i64 c1, .int .i64 c2, .string c3, .int .i64 c4] 36) = V8 := ⟨_, rfl⟩
        obtain ⟨g8, hg8⟩ : ∃ g8, V7.heap.size = g8 := ⟨_, rfl⟩
        have r8 : V8.heap[g8]? = some (.cells #[.int .i64 (n + 1), .int .i64 c1, .int .i64 c2, .string c3, .int .i64 c4] 36 (0, 0)) := by rw [← hV8, ← hg8]; exact heap_alloc_new V7 _
        have hb8 : Below V7.heap.size V7 V8 := by rw [← hV8]; exact (Below.refl _ V7).alloc (Nat.le_refl _) _
        have hB8 : Below V5.heap.size V5 V8 := hB7.trans (hb8.mono hB7.size)
        have ho8 : V8.ownsRow V5.heap.size 36 5 (.slice a7 ln c7) ln (enR l) := own_keep ho7 (fun j hj => hb8.block j (ho7.lt j hj).2)
        obtain ⟨a9, c9, V9, hr9, ho9, hg9, _⟩ := addE_own V8 ho8 (enRow (p := ⟨n + 1, c1, c2, c3, c4⟩) r8) (by omega) hB8.size
        have hB9 : Below V5.heap.size V5 V9 := hB8.grown hg9 hB8.size (fun j hj => (ho8.lt j (by rw [ob_slice]; exact hj)).1)
        obtain ⟨n9, hn9⟩ : ∃ n9, ln + 1 = n9 := ⟨_, rfl⟩
        rw [hn9] at hr9 ho9
        have H9 : Hid (Below V5.heap.size V5 V9 ∧ V9.ownsRow V5.heap.size 36 5 (.slice a9 n9 c9) n9 (enR (l ++ [⟨n + 1, c1, c2, c3, c4⟩]))) := ⟨hB9, ho9⟩
        obtain ⟨d0, d1, d2, d3, d4, _⟩ := row5 (HK5.out V7 hB7).1.2.1
        obtain ⟨v0, v1, v2, _⟩ := row3 (HK5.out V9 hB9).1.1
        obtain ⟨u0, u1, u2, u3, u4, _⟩ := row5 (HK5.out V9 hB9).1.2.1
        have HN9 : Hid (1 ≤ n9 ∧ n9 ≤ c9 ∧ (l ++ [(⟨n + 1, c1, c2, c3, c4⟩ : En)]).length = n9) := ⟨by omega, (Ew.own ho9).cap, by have := HR.out.2; simp; omega⟩
        have hn9b : n9 ≤ 9 := by omega
        clear hg7 ho7 hb6 r8 hb8 hB8 ho8 hg9 hB9 ho9 hB7 hn9
        by_cases h8 : 8 < n9
        · have k9 : (8 : Int) < (n9 : Int) := by omega
          have hs1 : ∀ W, (Instr.sliceAt 22 (.slice a9 n9 c9) none (some (.int .i64 1)) none).run Tryd.prog W = .ok (.slice (cutA a9 c9 0 5) 1 c9) W := fun W => pre_ents a9 n9 c9 1 (by have := HN9.out; omega) W
          have hs2 : ∀ W, (Instr.sliceAt 22 (.slice a9 n9 c9) (some (.int .i64 1)) none none).run Tryd.prog W = .ok (.slice (cutA a9 c9 1 5) (n9 - 1) (c9 - 1)) W := fun W => off_ents a9 n9 c9 1 HN9.out.1 W
          obtain ⟨Z, hZ⟩ : ∃ Z, baOf (chA s.data.toList ((l ++ [(⟨n + 1, c1, c2, c3, c4⟩ : En)]).take 1)) = Z := ⟨_, rfl⟩
          have HCH : Hid (∀ W, Below V9.heap.size V9 W → Calls Tryd.prog 21 #[.string s, .slice (cutA a9 c9 0 5) 1 c9] W fun e w' => e = .returned (.string Z) ∧ Below W.heap.size W w') := fun W hW => by
            rw [← hZ]
            have h5 := rch_any s W (((Ew.own H9.out.2).below hW).pre 1 HN9.out.1) (by omega) (by omega) (fun e he => HOK.out e (List.mem_of_mem_take he))
            exact h5
          have HX : Hid (addA ⟨s, n, l⟩ ⟨c0, c1, c2, c3, c4⟩ = (⟨Z, n + 1, (l ++ [(⟨n + 1, c1, c2, c3, c4⟩ : En)]).drop 1⟩, 0)) := by
            show _ = _
            rw [HAD.out]
            unfold cutAu
            rw [if_pos (by rw [HN9.out.2.2]; exact h8), hZ]
          have HQ : Hid (∀ W, Below V5.heap.size V5 W → (W.cell? ⟨pb, 0, none⟩ = some (.string s)) ∧ W.cell? ⟨qb, 0, none⟩ = some (.int .i64 (n + 1))) := fun W hW => by
            obtain ⟨g0, _⟩ := row3 (HK5.out W hW).1.1
            obtain ⟨g1, _⟩ := row5 (HK5.out W hW).1.2.1
            exact ⟨g0, g1⟩
          clear hZ h8 hs32
          go_wp2_with (first | (at_builtin; refine wpList_app V6 rfl _ _ _ _ rfl rfl rfl (hr7 _) ?_) | (at_builtin; refine wpList_app V8 rfl _ _ _ _ rfl rfl rfl (hr9 _) ?_))
          clear hr7 hr9 y0 y1 y2 d0 d1 d2 d3 d4 u0 u1 u2 u3 u4 v0 v1 v2
          refine wp_region_held_drew (S := fun W => (W.cell? ⟨pb, 0, none⟩ = some (.string s)) ∧ W.cell? ⟨qb, 0, none⟩ = some (.int .i64 (n + 1))) (by kernel_rfl) (HQ.out V9.drew H9.out.1.drew) (fun hHeld => ?_)
          refine wpAnyH_take (i := 0) (v := ?vc_0) rfl (by kernel_rfl) (by kernel_rfl) (by kernel_rfl) (fun _ _ _ h => h) (Or.inl ⟨by first | kernel_rfl | rfl, ?yc_0⟩) hHeld ?rc_0
          case yc_0 => (intro W hSW; (try dsimp only at hSW); go_simp; (try with_reducible rfl))
          change wpAnyH _ _ _ _ _ _ _ (Act.put _ (some 35) _) _
          simp only [Act.put, List.setIfInBounds_toArray, List.set_cons_zero, List.set_cons_succ]
          refine wpAnyH_take (i := 1) (v := ?vc_1) rfl (by kernel_rfl) (by kernel_rfl) (by kernel_rfl) (fun _ _ _ h => h) (Or.inl ⟨by first | kernel_rfl | rfl, ?yc_1⟩) hHeld ?rc_1
          case yc_1 => (intro W hSW; (try dsimp only at hSW); go_simp; (try with_reducible rfl))
          change wpAnyH _ _ _ _ _ _ _ (Act.put _ (some 36) _) _
          simp only [Act.put, List.setIfInBounds_toArray, List.set_cons_zero, List.set_cons_succ]
          refine wpAnyH_take (i := 2) (v := ?vc_2) rfl (by kernel_rfl) (by kernel_rfl) (by kernel_rfl) (fun _ _ _ h => h) (Or.inl ⟨by first | kernel_rfl | rfl, ?yc_2⟩) hHeld ?rc_2
          case yc_2 => (intro W hSW; (try dsimp only at hSW); go_simp; (try with_reducible rfl))
          change wpAnyH _ _ _ _ _ _ _ (Act.put _ (some 37) _) _
          simp only [Act.put, List.setIfInBounds_toArray, List.set_cons_zero, List.set_cons_succ]
          refine wpAnyH_take (i := 3) (v := ?vc_3) rfl (by kernel_rfl) (by kernel_rfl) (by kernel_rfl) (fun _ _ _ h => h) (Or.inl ⟨by first | kernel_rfl | rfl, ?yc_3⟩) hHeld ?rc_3
          case yc_3 => (intro W hSW; (try dsimp only at hSW); go_simp; (try with_reducible rfl))
          change wpAnyH _ _ _ _ _ _ _ (Act.put _ (some 38) _) _
          simp only [Act.put, List.setIfInBounds_toArray, List.set_cons_zero, List.set_cons_succ]
          refine wpAnyH_take (i := 5) (v := ?vc_5) rfl (by kernel_rfl) (by kernel_rfl) (by kernel_rfl) (fun _ _ _ h => h) (Or.inl ⟨by first | kernel_rfl | rfl, ?yc_5⟩) hHeld ?rc_5
          case yc_5 => (intro W hSW; (try dsimp only at hSW); go_simp; (try with_reducible rfl))
          change wpAnyH _ _ _ _ _ _ _ (Act.put _ (some 40) _) _
          simp only [Act.put, List.setIfInBounds_toArray, List.set_cons_zero, List.set_cons_succ]
          refine wpAnyH_take (i := 6) (v := ?vc_6) rfl (by kernel_rfl) (by kernel_rfl) (by kernel_rfl) (fun _ _ _ h => h) (Or.inl ⟨by first | kernel_rfl | rfl, ?yc_6⟩) hHeld ?rc_6
          case yc_6 => (intro W hSW; (try dsimp only at hSW); go_simp; (try with_reducible rfl))
          change wpAnyH _ _ _ _ _ _ _ (Act.put _ (some 41) _) _
          simp only [Act.put, List.setIfInBounds_toArray, List.set_cons_zero, List.set_cons_succ]
          refine wpAnyH_take (i := 7) (v := ?vc_7) rfl (by kernel_rfl) (by kernel_rfl) (by kernel_rfl) (fun _ _ _ h => h) (Or.inl ⟨by first | kernel_rfl | rfl, ?yc_7⟩) hHeld ?rc_7
          case yc_7 => (intro W hSW; (try dsimp only at hSW); go_simp; (try with_reducible rfl))
          change wpAnyH _ _ _ _ _ _ _ (Act.put _ (some 42) _) _
          simp only [Act.put, List.setIfInBounds_toArray, List.set_cons_zero, List.set_cons_succ]
          refine wpAnyH_take (i := 8) (v := ?vc_8) rfl (by kernel_rfl) (by kernel_rfl) (by kernel_rfl) (fun _ _ _ h => h) (Or.inl ⟨by first | kernel_rfl | rfl, ?yc_8⟩) hHeld ?rc_8
          case yc_8 => (intro W hSW; (try dsimp only at hSW); go_simp; (try with_reducible rfl))
          change wpAnyH _ _ _ _ _ _ _ (Act.put _ (some 43) _) _
          simp only [Act.put, List.setIfInBounds_toArray, List.set_cons_zero, List.set_cons_succ]
          refine wpAnyH_ready (rs := [4]) (by kernel_rfl) (by simp) ?_
          refine AllReadyH.cons rfl (fun K hK => ?_) AllReadyH.nil
          go_simp
          refine (HCH.out V9.drew (Below.refl _ V9).drew).mono ?_
          rintro e V10 ⟨rfl, hb10⟩
          refine hK.out _ _ (HQ.out V10 (H9.out.1.trans ((undrewN hb10).mono H9.out.1.size))) (fun hHeld => ?_)
          clear hK K
          try simp only [Act.put, List.setIfInBounds_toArray, List.set_cons_zero, List.set_cons_succ]
          have hb9 : Below V9.heap.size V9 V10 := undrewN hb10
          have hB10 : Below V5.heap.size V5 V10 := H9.out.1.trans (hb9.mono H9.out.1.size)
          have o10 : V10.ownsRow V5.heap.size 36 5 (.slice a9 n9 c9) n9 (enR (l ++ [⟨n + 1, c1, c2, c3, c4⟩])) := own_keep H9.out.2 (fun j hj => hb9.block j (H9.out.2.lt j hj).2)
          have z10 := (HK5.out V10 hB10).1.2.2
          obtain ⟨x0, x1, x2, fz⟩ := row3 z10
          have f0 := fz 0
          have f1 := fz 1
          have f2 := fz 2
          obtain ⟨W5, hW5⟩ : ∃ W5, ((V10.setCell ⟨rb, 0, none⟩ (.string Z)).setCell ⟨rb, 1, none⟩ (.int .i64 (n + 1))).setCell ⟨rb, 2, none⟩ (.slice (cutA a9 c9 1 5) (n9 - 1) (c9 - 1)) = W5 := ⟨_, rfl⟩
          have e5 : ∀ j, j ≠ rb → W5.heap[j]? = V10.heap[j]? := fun j hj => by rw [← hW5]; exact other3s hj _ _ _
          have HE : Hid (AuTo w (addA ⟨s, n, l⟩ ⟨c0, c1, c2, c3, c4⟩) (.returned (.tuple #[.agg #[.string Z, .int .i64 (n + 1), .slice (cutA a9 c9 1 5) (n9 - 1) (c9 - 1)], .int .i64 0])) W5 ∧ W5.heap[rb]? = some (.cells #[.string Z, .int .i64 (n + 1), .slice (cutA a9 c9 1 5) (n9 - 1) (c9 - 1)] 24 (0, 0))) := by
            refine ⟨?_, by rw [← hW5]; exact set3 z10 _ _ _⟩
            rw [HX.out]
            refine ⟨_, _, _, rfl, ?_, ?_⟩
            · have o5 : W5.ownsRow V5.heap.size 36 5 (.slice a9 n9 c9) n9 (enR (l ++ [⟨n + 1, c1, c2, c3, c4⟩])) := own_keep o10 (fun j hj => e5 j (by have := (o10.lt j hj).1; have := HB5.out; omega))
              exact (Nw.own (base := w.heap.size) o5 HB5.out.2.2).off 1 HN9.out.1
            · rw [← hW5]
              exact below3s (HK5.out V10 hB10).2 (by have := HB.out; omega) _ _ _
          have HQ5 : Hid ((W5.cell? ⟨pb, 0, none⟩ = some (.string s)) ∧ W5.cell? ⟨qb, 0, none⟩ = some (.int .i64 (n + 1))) := by
            obtain ⟨g0, _⟩ := row3 ((e5 pb (by have := HB.out; omega)).trans (HK5.out V10 hB10).1.1)
            obtain ⟨g1, _⟩ := row5 ((e5 qb (by have := HB.out; omega)).trans (HK5.out V10 hB10).1.2.1)
            exact ⟨g0, g1⟩
          clear hb10 hb9 hB10 o10 z10 fz e5
          refine wpAnyH_take (i := 9) (v := ?vc_9) rfl (by kernel_rfl) (by kernel_rfl) (by kernel_rfl) (fun _ _ _ h => h) (Or.inl ⟨by first | kernel_rfl | rfl, ?yc_9⟩) hHeld ?rc_9
          case yc_9 => (intro W hSW; (try dsimp only at hSW); go_simp; (try with_reducible rfl))
          change wpAnyH _ _ _ _ _ _ _ (Act.put _ (some 44) _) _
          simp only [Act.put, List.setIfInBounds_toArray, List.set_cons_zero, List.set_cons_succ]
          refine wpAnyH_ready (rs := [10]) (by kernel_rfl) (by simp) ?_
          refine AllReadyH.cons rfl (fun K hK => ?_) AllReadyH.nil
          go_simp
          refine hK.out _ _ (HQ5.out) (fun hHeld => ?_)
          clear hK K
          refine wpAnyH_take (i := 11) (v := ?vc_11) rfl (by kernel_rfl) (by kernel_rfl) (by kernel_rfl) (fun _ _ _ h => h) (Or.inl ⟨by first | kernel_rfl | rfl, ?yc_11⟩) hHeld ?rc_11
          case yc_11 => (intro W hSW; (try dsimp only at hSW); go_simp; (try with_reducible rfl))
          change wpAnyH _ _ _ _ _ _ _ (Act.put _ (some 5) _) _
          simp only [Act.put, List.setIfInBounds_toArray, List.set_cons_zero, List.set_cons_succ]
          refine wpAnyH_done (by kernel_rfl) ?_ _
          clear x0 x1 x2 f0 f1 f2
          go_wp2
          refine bodyPost_ret (v := .tuple #[.agg #[.string Z, .int .i64 (n + 1), .slice (cutA a9 c9 1 5) (n9 - 1) (c9 - 1)], .int .i64 0]) ?_ rfl HE.out.1
          exact res_2R (fn := Tryd.f19) (p := 4) (q := 5) (by rfl) _ _ rb _ (by rfl) HE.out.2 infoRA
        · have k9 : ¬ (8 : Int) < (n9 : Int) := by omega
          have HX : Hid (addA ⟨s, n, l⟩ ⟨c0, c1, c2, c3, c4⟩ = (⟨s, n + 1, l ++ [(⟨n + 1, c1, c2, c3, c4⟩ : En)]⟩, 0)) := by
            show _ = _
            rw [HAD.out]
            unfold cutAu
            rw [if_neg (by rw [HN9.out.2.2]; exact h8)]
          have z9 := (HK5.out V9 H9.out.1).1.2.2
          obtain ⟨x0, x1, x2, fz⟩ := row3 z9
          have f0 := fz 0
          have f1 := fz 1
          have f2 := fz 2
          obtain ⟨W5, hW5⟩ : ∃ W5, ((V9.setCell ⟨rb, 0, none⟩ (.string s)).setCell ⟨rb, 1, none⟩ (.int .i64 (n + 1))).setCell ⟨rb, 2, none⟩ (.slice a9 n9 c9) = W5 := ⟨_, rfl⟩
          have HE : Hid (AuTo w (addA ⟨s, n, l⟩ ⟨c0, c1, c2, c3, c4⟩) (.returned (.tuple #[.agg #[.string s, .int .i64 (n + 1), .slice a9 n9 c9], .int .i64 0])) W5 ∧ W5.heap[rb]? = some (.cells #[.string s, .int .i64 (n + 1), .slice a9 n9 c9] 24 (0, 0))) := by
            refine ⟨?_, by rw [← hW5]; exact set3 z9 _ _ _⟩
            rw [HX.out]
            refine ⟨_, _, _, rfl, ?_, ?_⟩
            · refine Nw.own (own_keep H9.out.2 (fun j hj => ?_)) HB5.out.2.2
              rw [← hW5]
              exact other3s (by have := (H9.out.2.lt j hj).1; have := HB5.out; omega) _ _ _
            · rw [← hW5]
              exact below3s (HK5.out V9 H9.out.1).2 (by have := HB.out; omega) _ _ _
          clear h8 hs32 z9 fz
          go_wp2_with (first | (at_builtin; refine wpList_app V6 rfl _ _ _ _ rfl rfl rfl (hr7 _) ?_) | (at_builtin; refine wpList_app V8 rfl _ _ _ _ rfl rfl rfl (hr9 _) ?_))
          refine bodyPost_ret (v := .tuple #[.agg #[.string s, .int .i64 (n + 1), .slice a9 n9 c9], .int .i64 0]) ?_ rfl HE.out.1
          exact res_2R (fn := Tryd.f19) (p := 4) (q := 5) (by rfl) _ _ rb _ (by rfl) HE.out.2 infoRA
end Go.Proofs.YtkhidkilkbmpoaaDoor
