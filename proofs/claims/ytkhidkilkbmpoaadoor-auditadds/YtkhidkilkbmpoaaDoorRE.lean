/- A walk over the program's Add. -/
import Derived.Test.YtkhidkilkbmpoaaDoorRD
namespace Go.Proofs.YtkhidkilkbmpoaaDoor
open Go.RowKit
theorem full_ents (a : Option Addr) (len cap i : Nat) (hi : i ≤ len) (hc : len ≤ cap) (W : World) : (Instr.sliceAt 22 (.slice a len cap) (some (.int .i64 (i : Int))) (some (.int .i64 (len : Int))) (some (.int .i64 (len : Int)))).run Tryd.prog W = .ok (.slice (cutA a len i 5) (len - i) (len - i)) W := by
  have h1 := sizeEn W
  simp [Instr.sliceAt, Instr.slice, run_underlying Tryd.underlying22, Instr.sliceBounds, Instr.sliceBound, asIntOf, h1, hi, hc, cutA]
theorem Ew.tight {w : World} {a : Option Addr} {len cap : Nat} {l : List En} (h : Ew w a len cap l) : Ew w a len len l := ⟨h.1, Nat.le_refl _, Nat.le_trans h.2.1 h.2.2.1, h.2.2.2⟩
theorem addE_full (w : World) {a : Option Addr} {n : Nat} {l : List En} (h : Ew w a n n l) {a2 : Option Addr} {m c2 : Nat} {k : List En} (h2 : Ew w a2 m c2 k) (hm : 0 < m) (hN : n + m ≤ 1000000) :
    ∃ a' c' w', (∀ ty, (Builtin.append_ #[22, 22] ty #[.slice a n n, .slice a2 m c2]).run Tryd.prog w = .ok (.slice a' (n + m) c') w') ∧ Below w.heap.size w w' ∧ w'.ownsRow w.heap.size 36 5 (.slice a' (n + m) c') (n + m) (enR (l ++ k)) := by
  obtain ⟨i, hi, hz, hs, hbb⟩ := info_of infoEn
  rw [enR_app]
  obtain ⟨a', c', w', h3, h4, h5⟩ := app_full w 22 36 i _ 5 48 Tryd.underlying22 hi hz hs hbb rfl h h2 (enR_one k) hN (by omega)
  rcases h5 with ⟨h5, _⟩ | ⟨_, h5⟩
  · omega
  · exact ⟨a', c', w', h3, h4, h5⟩
/-- An audit and a word that are handed on; its entries are a row of its own. -/
def AoTo (w : World) (r : Au × Nat) (e : Ending) (w' : World) : Prop := ∃ (a : Option Addr) (n c : Nat), e = .returned (.tuple #[.agg #[.string r.1.anchor, .int .i64 r.1.last, .slice a n c], .int .i64 (r.2 : Int)]) ∧ w'.ownsRow w.heap.size 36 5 (.slice a n c) n (enR r.1.ents) ∧ Below w.heap.size w w'
set_option maxRecDepth 100000 in
set_option maxHeartbeats 4000000 in
theorem aadd_own (s : ByteArray) (n : Int) {a : Option Addr} {ln cp : Nat} {l : List En} (c : En) (w : World) (h : Ew w a ln cp l) (hL : Laid w) : Calls Tryd.prog 18 #[.agg #[.string s, .int .i64 n, .slice a ln cp], .agg #[.int .i64 c.seq, .int .i64 c.time, .int .i64 c.kind, .string c.path, .int .i64 c.errno]] w fun e w' => AoTo w (addA ⟨s, n, l⟩ c) e w' := by
  obtain ⟨c0, c1, c2, c3, c4⟩ := c
  simp only
  have hl := h.len
  have HLC : Hid (ln ≤ cp) := h.cap
  obtain ⟨v, hv⟩ : ∃ v, IntKind.i64.wrap (n + 1) = v := ⟨_, rfl⟩
  obtain ⟨pb, hpb⟩ : ∃ pb, w.heap.size = pb := ⟨_, rfl⟩
  obtain ⟨V1, hV1, r1, hb1⟩ := box_au 27 (w := w) s n a ln cp
  obtain ⟨V2, hV2, r2, hb2⟩ := box_en (w := V1) c0 c1 c2 c3 c4
  obtain ⟨V3, hV3, r3, hb3⟩ := box_au 27 (w := V2) ⟨#[]⟩ 0 none 0 0
  obtain ⟨qb, hqb⟩ : ∃ qb, V1.heap.size = qb := ⟨_, rfl⟩
  obtain ⟨rb, hrb⟩ : ∃ rb, V2.heap.size = rb := ⟨_, rfl⟩
  have hq1 : pb + 1 = qb := by rw [← hqb, ← hV1, ← hpb]; simp
  have hq2 : qb + 1 = rb := by rw [← hrb, ← hV2, ← hqb]; simp
  have hq3 : rb + 1 = V3.heap.size := by rw [← hV3, ← hrb]; simp
  rw [hpb] at r1
  rw [hqb] at r2
  rw [hrb] at r3
  have r2' := (hb3.block qb (by omega)).trans r2
  have r1' := (hb3.block pb (by omega)).trans ((hb2.block pb (by omega)).trans r1)
  have hB0 : Below w.heap.size w V3 := (hb1.trans (hb2.mono hb1.size)).trans (hb3.mono (by omega))
  obtain ⟨V4, hV4⟩ : ∃ V4, V3.setCell ⟨qb, 0, none⟩ (.int .i64 v) = V4 := ⟨_, rfl⟩
  have q4 : V4.heap[qb]? = some (.cells #[.int .i64 v, .int .i64 c1, .int .i64 c2, .string c3, .int .i64 c4] 36 (0, 0)) := by rw [← hV4, heap_setCell_same _ _ _ _ _ _ r2']; rfl
  have o4 : ∀ j, j ≠ qb → V4.heap[j]? = V3.heap[j]? := fun j hj => by rw [← hV4, heap_setCell_other _ _ _ _ hj]
  have p4 := (o4 pb (by omega)).trans r1'
  have z4 := (o4 rb (by omega)).trans r3
  have hB4 : Below w.heap.size w V4 := by rw [← hV4]; exact hB0.setCell (show w.heap.size ≤ qb by omega) _
  have h43 : V4.heap.size = V3.heap.size := by rw [← hV4]; simp
  have HB : Hid (Below w.heap.size w V4 ∧ w.heap.size = pb ∧ pb + 1 = qb ∧ qb + 1 = rb ∧ rb + 1 = V4.heap.size) := ⟨hB4, hpb, hq1, hq2, by omega⟩
  have HK : Hid (∀ W, Below V4.heap.size V4 W → (W.heap[pb]? = some (.cells #[.string s, .int .i64 n, .slice a ln cp] 27 (0, 0)) ∧ W.heap[qb]? = some (.cells #[.int .i64 v, .int .i64 c1, .int .i64 c2, .string c3, .int .i64 c4] 36 (0, 0)) ∧ W.heap[rb]? = some (.cells #[.string ⟨#[]⟩, .int .i64 0, .slice none 0 0] 27 (0, 0))) ∧ Below w.heap.size w W) := fun W hW => ⟨⟨(hW.block pb (lt_of_some p4)).trans p4, (hW.block qb (lt_of_some q4)).trans q4, (hW.block rb (lt_of_some z4)).trans z4⟩, hB4.trans (hW.mono hB4.size)⟩
  have HR : Hid ((∀ W, Below w.heap.size w W → Ew W a ln cp l) ∧ l.length = ln ∧ (∀ W, Below w.heap.size w W → Laid W)) := ⟨fun W hW => h.below hW, hl, fun W hW => hL.below hW⟩
  have HM := amay_any s n (h.below hB4)
  have HIC : Hid (∀ W, Calls Tryd.prog 32 #[.agg #[.int .i64 v, .int .i64 c1, .int .i64 c2, .string c3, .int .i64 c4]] W fun e w' => e = .returned (.bool (⟨v, c1, c2, c3, c4⟩ : En).ok) ∧ Below W.heap.size W w') := fun W => isent_any ⟨v, c1, c2, c3, c4⟩ W
  obtain ⟨_, i1, _⟩ := row3 r1'
  obtain ⟨i0, _, _, _, _, gz⟩ := row5 r2'
  have g0 := gz 0
  obtain ⟨y0, y1, y2, _⟩ := row3 p4
  obtain ⟨d0, d1, d2, d3, d4, _⟩ := row5 q4
  clear r1 r2 r3 r1' r2' hb1 hb2 hb3 hB0 h hL hl hq1 hq2 hq3 q4 o4 p4 z4 hB4 h43 gz
  unfold YeTo at HM
  cases hm : mayA ⟨s, n, l⟩ with
  | false =>
    rw [hm] at HM
    have HX : Hid (addA ⟨s, n, l⟩ ⟨c0, c1, c2, c3, c4⟩ = (zeroAu, 1)) := add_no (fun h => by rw [hm] at h; exact absurd h.1 (by decide))
    clear hm
    go_enter Tryd.func18, Tryd.ntmps18
    go_wp2_with fail
    refine HM.mono ?_
    rintro e V5 ⟨rfl, hb5⟩
    have H5 : Hid (Below V4.heap.size V4 V5) := hb5
    clear HM hb5 g0 y1 i0 y0 y2 d0 d1 d2 d3 d4
    have z5 := (HK.out V5 H5.out).1.2.2
    have hwz := (HK.out V5 H5.out).2
    obtain ⟨x0, x1, x2, fz⟩ := row3 z5
    have f0 := fz 0
    have f1 := fz 1
    have f2 := fz 2
    obtain ⟨W5, hW5⟩ : ∃ W5, ((V5.setCell ⟨rb, 0, none⟩ (.string ⟨#[]⟩)).setCell ⟨rb, 1, none⟩ (.int .i64 0)).setCell ⟨rb, 2, none⟩ (.slice none 0 0) = W5 := ⟨_, rfl⟩
    have HE : Hid (AoTo w (addA ⟨s, n, l⟩ ⟨c0, c1, c2, c3, c4⟩) (.returned (.tuple #[.agg #[.string ⟨#[]⟩, .int .i64 0, .slice none 0 0], .int .i64 1])) W5 ∧ W5.heap[rb]? = some (.cells #[.string ⟨#[]⟩, .int .i64 0, .slice none 0 0] 27 (0, 0))) := by
      refine ⟨?_, by rw [← hW5]; exact set3 z5 _ _ _⟩
      rw [HX.out]
      refine ⟨none, 0, 0, rfl, World.ownsRow_nil _ _ _ _, ?_⟩
      rw [← hW5]
      exact below3s hwz (by have := HB.out; omega) _ _ _
    clear z5 fz hwz
    go_wp2
    refine bodyPost_ret (v := .tuple #[.agg #[.string ⟨#[]⟩, .int .i64 0, .slice none 0 0], .int .i64 1]) ?_ rfl HE.out.1
    exact res_2P (fn := Tryd.f18) (p := 4) (q := 5) (by rfl) _ _ rb _ (by rfl) HE.out.2 infoPA
  | true =>
    rw [hm] at HM
    have hmi := mayA_iff.1 hm
    simp only at hmi
    have hvn : v = n + 1 := by rw [← hv, IntKind.wrap_i64]; omega
    subst hvn
    cases hc : (⟨n + 1, c1, c2, c3, c4⟩ : En).ok with
    | false =>
      rw [hc] at HIC
      have HX : Hid (addA ⟨s, n, l⟩ ⟨c0, c1, c2, c3, c4⟩ = (zeroAu, 1)) := add_no (fun h => by have h2 : (⟨n + 1, c1, c2, c3, c4⟩ : En).ok = true := h.2; rw [hc] at h2; cases h2)
      clear hm hmi hc
      go_enter Tryd.func18, Tryd.ntmps18
      go_wp2_with fail
      refine HM.mono ?_
      rintro e V5 ⟨rfl, hb5⟩
      have H5 : Hid (Below V4.heap.size V4 V5) := hb5
      clear HM hb5 g0 y1 i0 y0 y2 d0 d1 d2 d3 d4
      obtain ⟨d0, d1, d2, d3, d4, _⟩ := row5 (HK.out V5 H5.out).1.2.1
      have HI5 := HIC.out V5
      go_wp2_with fail
      refine HI5.mono ?_
      rintro e V6 ⟨rfl, hb6⟩
      have H6 : Hid (Below V4.heap.size V4 V6) := H5.out.trans (hb6.mono H5.out.size)
      clear HI5 hb6 d0 d1 d2 d3 d4
      have z5 := (HK.out V6 H6.out).1.2.2
      have hwz := (HK.out V6 H6.out).2
      obtain ⟨x0, x1, x2, fz⟩ := row3 z5
      have f0 := fz 0
      have f1 := fz 1
      have f2 := fz 2
      obtain ⟨W5, hW5⟩ : ∃ W5, ((V6.setCell ⟨rb, 0, none⟩ (.string ⟨#[]⟩)).setCell ⟨rb, 1, none⟩ (.int .i64 0)).setCell ⟨rb, 2, none⟩ (.slice none 0 0) = W5 := ⟨_, rfl⟩
      have HE : Hid (AoTo w (addA ⟨s, n, l⟩ ⟨c0, c1, c2, c3, c4⟩) (.returned (.tuple #[.agg #[.string ⟨#[]⟩, .int .i64 0, .slice none 0 0], .int .i64 1])) W5 ∧ W5.heap[rb]? = some (.cells #[.string ⟨#[]⟩, .int .i64 0, .slice none 0 0] 27 (0, 0))) := by
        refine ⟨?_, by rw [← hW5]; exact set3 z5 _ _ _⟩
        rw [HX.out]
        refine ⟨none, 0, 0, rfl, World.ownsRow_nil _ _ _ _, ?_⟩
        rw [← hW5]
        exact below3s hwz (by have := HB.out; omega) _ _ _
      clear z5 fz hwz
      go_wp2
      refine bodyPost_ret (v := .tuple #[.agg #[.string ⟨#[]⟩, .int .i64 0, .slice none 0 0], .int .i64 1]) ?_ rfl HE.out.1
      exact res_2P (fn := Tryd.f18) (p := 4) (q := 5) (by rfl) _ _ rb _ (by rfl) HE.out.2 infoPA
    | true =>
      rw [hc] at HIC
      have HAD : Hid (addA ⟨s, n, l⟩ ⟨c0, c1, c2, c3, c4⟩ = (cutAu s (n + 1) (l ++ [⟨n + 1, c1, c2, c3, c4⟩]), 0)) := add_yes hm hc
      have HSZ : Hid (s.size = 32 ∧ ∀ e ∈ l, e.ok = true) := ⟨hmi.1, run_ok hmi.2.2.2.2⟩
      have hln8 : ln ≤ 8 := by have := HR.out.2.1; omega
      clear hm hmi hc
      go_enter Tryd.func18, Tryd.ntmps18
      go_wp2_with fail
      refine HM.mono ?_
      rintro e V5 ⟨rfl, hb5⟩
      have H5 : Hid (Below V4.heap.size V4 V5) := hb5
      clear HM hb5 g0 y1 i0 y0 y2 d0 d1 d2 d3 d4
      obtain ⟨d0, d1, d2, d3, d4, _⟩ := row5 (HK.out V5 H5.out).1.2.1
      have HI5 := HIC.out V5
      go_wp2_with fail
      refine HI5.mono ?_
      rintro e V6 ⟨rfl, hb6⟩
      have H6 : Hid (Below V4.heap.size V4 V6) := H5.out.trans (hb6.mono H5.out.size)
      clear HI5 hb6 d0 d1 d2 d3 d4
      obtain ⟨ob, hob⟩ : ∃ ob, V6.heap.size = ob := ⟨_, rfl⟩
      obtain ⟨U, hU, u7, hbU⟩ := box_au 27 (w := V6) s (n + 1) none 0 0
      rw [hob] at u7
      obtain ⟨_, _, j2, jz⟩ := row3 u7
      have jf2 := jz 2
      obtain ⟨V7, hV7⟩ : ∃ V7, U.setCell ⟨ob, 2, none⟩ (.slice none 0 0) = V7 := ⟨_, rfl⟩
      have u8 : V7.heap[ob]? = some (.cells #[.string s, .int .i64 (n + 1), .slice none 0 0] 27 (0, 0)) := by rw [← hV7, heap_setCell_same _ _ _ _ _ _ u7]; rfl
      have hb7 : Below V6.heap.size V6 V7 := by rw [← hV7]; exact hbU.setCell (Nat.le_of_eq hob) _
      have hB7 : Below V4.heap.size V4 V7 := H6.out.trans (hb7.mono H6.out.size)
      have HOB : Hid (rb + 1 ≤ ob) := by have := HB.out; have := H6.out.size; show rb + 1 ≤ ob; omega
      have HO : Hid (∀ W, Below V7.heap.size V7 W → (W.heap[pb]? = some (.cells #[.string s, .int .i64 n, .slice a ln cp] 27 (0, 0)) ∧ W.heap[qb]? = some (.cells #[.int .i64 (n + 1), .int .i64 c1, .int .i64 c2, .string c3, .int .i64 c4] 36 (0, 0)) ∧ W.heap[rb]? = some (.cells #[.string ⟨#[]⟩, .int .i64 0, .slice none 0 0] 27 (0, 0)) ∧ W.heap[ob]? = some (.cells #[.string s, .int .i64 (n + 1), .slice none 0 0] 27 (0, 0))) ∧ Below w.heap.size w W) := fun W hW => by
        have h9 := HK.out W (hB7.trans (hW.mono hB7.size))
        exact ⟨⟨h9.1.1, h9.1.2.1, h9.1.2.2, (hW.block ob (lt_of_some u8)).trans u8⟩, h9.2⟩
      obtain ⟨y0, _, _, _⟩ := row3 (HK.out V6 H6.out).1.1
      obtain ⟨d0, _⟩ := row5 (HK.out V6 H6.out).1.2.1
      obtain ⟨_, _, y2, _⟩ := row3 (HO.out V7 (Below.refl _ _)).1.1
      clear u7 jz hbU u8 hb7 hB7
      by_cases h8 : ln = 8
      · have k8 : (ln : Int) = 8 := by omega
        have b8 : ((ln : Int) == 8) = true := by simpa using k8
        have k0 : (0 : Int) < (ln : Int) := by omega
        obtain ⟨ab, ao, rfl, _, _⟩ := (HR.out.1 V7 (HO.out V7 (Below.refl _ _)).2).at (by omega)
        obtain ⟨⟨e0, e1, e2, e3, e4⟩, he0⟩ : ∃ x, l[0]? = some x := ⟨_, List.getElem?_eq_getElem (by have := HR.out.2.1; omega)⟩
        have HC0 : Hid (l[0]? = some ⟨e0, e1, e2, e3, e4⟩) := he0
        obtain ⟨T, hT⟩ : ∃ T, strOf (⟨e0, e1, e2, e3, e4⟩ : En).bytes = T := ⟨_, rfl⟩
        have heok := HSZ.out.2 _ (List.mem_of_getElem? he0)
        have hle := ent_len heok
        have HET : Hid (∀ W, Calls Tryd.prog 33 #[.agg #[.int .i64 e0, .int .i64 e1, .int .i64 e2, .string e3, .int .i64 e4]] W fun e w' => e = .returned (.string T) ∧ Below W.heap.size W w') := fun W => by rw [← hT]; exact etext_any ⟨e0, e1, e2, e3, e4⟩ W heok
        obtain ⟨Z, hZ⟩ : ∃ Z, strOf (sealL s.data.toList (⟨e0, e1, e2, e3, e4⟩ : En).bytes) = Z := ⟨_, rfl⟩
        have HSL : Hid (∀ W, Below w.heap.size w W → Calls Tryd.prog 23 #[.string s, .string T] W fun e w' => e = .returned (.string Z) ∧ Below W.heap.size W w') := fun W hW => by
          have h9 := seal_any s T W (by rw [HSZ.out.1]; omega) (by rw [← hT, strOf_size]; omega) (HR.out.2.2 W hW)
          rw [← hZ]
          have hTl : T.data.toList = (⟨e0, e1, e2, e3, e4⟩ : En).bytes := by rw [← hT]; rfl
          rw [hTl] at h9
          exact h9
        have HX : Hid (addA ⟨s, n, l⟩ ⟨c0, c1, c2, c3, c4⟩ = (⟨Z, n + 1, l.drop 1 ++ [⟨n + 1, c1, c2, c3, c4⟩]⟩, 0)) := by
          show _ = _
          rw [HAD.out, cut_snoc (by have := HR.out.2.1; omega), if_pos (by have := HR.out.2.1; omega), take_one HC0.out, ← hZ]
          rfl
        have HO8 := HO
        have kln : 1 ≤ ln := by omega
        have kn0 : 0 < ln := by omega
        clear HO he0 hT heok hle hZ k8 h8
        have HG : Hid (∀ W, Below V7.heap.size V7 W → (W.cell? ⟨pb, 0, none⟩ = some (.string s) ∧ W.cell? ⟨pb, 2, none⟩ = some (.slice (some ⟨ab, ao, none⟩) ln cp)) ∧ (W.cell? ⟨ab, ao, none⟩ = some (.int .i64 e0) ∧ W.cell? ⟨ab, ao + 1, none⟩ = some (.int .i64 e1) ∧ W.cell? ⟨ab, ao + 2, none⟩ = some (.int .i64 e2) ∧ W.cell? ⟨ab, ao + 3, none⟩ = some (.string e3) ∧ W.cell? ⟨ab, ao + 4, none⟩ = some (.int .i64 e4))) := fun W hW => by
          have h9 := HO8.out W hW
          obtain ⟨g0, _, g2, _⟩ := row3 h9.1.1
          obtain ⟨ab', ao', he, _, hc'⟩ := (HR.out.1 W h9.2).at (by omega)
          obtain ⟨rfl, rfl⟩ : ab = ab' ∧ ao = ao' := by
            have := Option.some.inj he
            exact ⟨congrArg Addr.block this, congrArg Addr.off this⟩
          obtain ⟨k0, k1, k2, k3, k4⟩ := hc' 0 _ HC0.out
          simp only [Nat.zero_mul, Nat.add_zero] at k0 k1 k2 k3 k4
          exact ⟨⟨g0, g2⟩, k0, k1, k2, k3, k4⟩
        go_wp2
        refine wp_region_held_drew (S := fun W => (W.cell? ⟨pb, 0, none⟩ = some (.string s) ∧ W.cell? ⟨pb, 2, none⟩ = some (.slice (some ⟨ab, ao, none⟩) ln cp)) ∧ (W.cell? ⟨ab, ao, none⟩ = some (.int .i64 e0) ∧ W.cell? ⟨ab, ao + 1, none⟩ = some (.int .i64 e1) ∧ W.cell? ⟨ab, ao + 2, none⟩ = some (.int .i64 e2) ∧ W.cell? ⟨ab, ao + 3, none⟩ = some (.string e3) ∧ W.cell? ⟨ab, ao + 4, none⟩ = some (.int .i64 e4))) (by kernel_rfl) (HG.out V7.drew (Below.refl _ V7).drew) (fun hHeld => ?_)
        refine wpAnyH_take (i := 0) (v := ?vs_0) rfl (by kernel_rfl) (by kernel_rfl) (by kernel_rfl) (fun _ _ _ h => h) (Or.inl ⟨by first | kernel_rfl | rfl, ?ys_0⟩) hHeld ?rs_0
        case ys_0 => (intro W hSW; (try dsimp only at hSW); go_simp; (try with_reducible rfl))
        change wpAnyH _ _ _ _ _ _ _ (Act.put _ (some 30) _) _
        simp only [Act.put, List.setIfInBounds_toArray, List.set_cons_zero, List.set_cons_succ]
        refine wpAnyH_take (i := 1) (v := ?vs_1) rfl (by kernel_rfl) (by kernel_rfl) (by kernel_rfl) (fun _ _ _ h => h) (Or.inl ⟨by first | kernel_rfl | rfl, ?ys_1⟩) hHeld ?rs_1
        case ys_1 => (intro W hSW; (try dsimp only at hSW); go_simp; (try with_reducible rfl))
        change wpAnyH _ _ _ _ _ _ _ (Act.put _ (some 31) _) _
        simp only [Act.put, List.setIfInBounds_toArray, List.set_cons_zero, List.set_cons_succ]
        refine wpAnyH_take (i := 2) (v := ?vs_2) rfl (by kernel_rfl) (by kernel_rfl) (by kernel_rfl) (fun _ _ _ h => h) (Or.inl ⟨by first | kernel_rfl | rfl, ?ys_2⟩) hHeld ?rs_2
        case ys_2 => (intro W hSW; (try dsimp only at hSW); go_simp; (try with_reducible rfl))
        change wpAnyH _ _ _ _ _ _ _ (Act.put _ (some 32) _) _
        simp only [Act.put, List.setIfInBounds_toArray, List.set_cons_zero, List.set_cons_succ]
        refine wpAnyH_take (i := 3) (v := ?vs_3) rfl (by kernel_rfl) (by kernel_rfl) (by kernel_rfl) (fun _ _ _ h => h) (Or.inl ⟨by first | kernel_rfl | rfl, ?ys_3⟩) hHeld ?rs_3
        case ys_3 => (intro W hSW; (try dsimp only at hSW); go_simp; (try with_reducible rfl))
        change wpAnyH _ _ _ _ _ _ _ (Act.put _ (some 33) _) _
        simp only [Act.put, List.setIfInBounds_toArray, List.set_cons_zero, List.set_cons_succ]
        refine wpAnyH_take (i := 4) (v := ?vs_4) rfl (by kernel_rfl) (by kernel_rfl) (by kernel_rfl) (fun _ _ _ h => h) (Or.inl ⟨by first | kernel_rfl | rfl, ?ys_4⟩) hHeld ?rs_4
        case ys_4 => (intro W hSW; (try dsimp only at hSW); go_simp; (try with_reducible rfl))
        change wpAnyH _ _ _ _ _ _ _ (Act.put _ (some 34) _) _
        simp only [Act.put, List.setIfInBounds_toArray, List.set_cons_zero, List.set_cons_succ]
        refine wpAnyH_take (i := 5) (v := ?vs_5) rfl (by kernel_rfl) (by kernel_rfl) (by kernel_rfl) (fun _ _ _ h => h) (Or.inl ⟨by first | kernel_rfl | rfl, ?ys_5⟩) hHeld ?rs_5
        case ys_5 => (intro W hSW; (try dsimp only at hSW); go_simp; (try with_reducible rfl))
        change wpAnyH _ _ _ _ _ _ _ (Act.put _ (some 35) _) _
        simp only [Act.put, List.setIfInBounds_toArray, List.set_cons_zero, List.set_cons_succ]
        refine wpAnyH_ready (rs := [6]) (by kernel_rfl) (by simp) ?_
        refine AllReadyH.cons rfl (fun K hK => ?_) AllReadyH.nil
        go_simp
        refine (HET.out V7.drew).mono ?_
        rintro e V9 ⟨rfl, hb9⟩
        refine hK.out _ _ (HG.out V9 ((Below.refl _ V7).drew.trans hb9)) (fun hHeld => ?_)
        clear hK K
        try simp only [Act.put, List.setIfInBounds_toArray, List.set_cons_zero, List.set_cons_succ]
        have H9 : Hid (Below V7.heap.size V7 V9) := (Below.refl _ V7).drew.trans hb9
        clear hb9
        refine wpAnyH_ready (rs := [7]) (by kernel_rfl) (by simp) ?_
        refine AllReadyH.cons rfl (fun K hK => ?_) AllReadyH.nil
        go_simp
        refine (HSL.out V9 (HO8.out V9 H9.out).2).mono ?_
        rintro e V10 ⟨rfl, hb10⟩
        refine hK.out _ _ (HG.out V10 (H9.out.trans (hb10.mono H9.out.size))) (fun hHeld => ?_)
        clear hK K
        try simp only [Act.put, List.setIfInBounds_toArray, List.set_cons_zero, List.set_cons_succ]
        have hB10 : Below V7.heap.size V7 V10 := H9.out.trans (hb10.mono H9.out.size)
        have h10 := HO8.out V10 hB10
        obtain ⟨v0, v1, v2, vz⟩ := row3 h10.1.2.2.2
        have vf0 := vz 0
        obtain ⟨V11, hV11⟩ : ∃ V11, V10.setCell ⟨ob, 0, none⟩ (.string Z) = V11 := ⟨_, rfl⟩
        have o11 : ∀ j, j ≠ ob → V11.heap[j]? = V10.heap[j]? := fun j hj => by rw [← hV11, heap_setCell_other _ _ _ _ hj]
        have u11 : V11.heap[ob]? = some (.cells #[.string Z, .int .i64 (n + 1), .slice none 0 0] 27 (0, 0)) := by rw [← hV11, heap_setCell_same _ _ _ _ _ _ h10.1.2.2.2]; rfl
        have b11 : Below w.heap.size w V11 := by rw [← hV11]; exact h10.2.setCell (show w.heap.size ≤ ob by have := HB.out; have := HOB.out; omega) _
        have p11 := (o11 pb (by have := HB.out; have := HOB.out; omega)).trans h10.1.1
        have q11 := (o11 qb (by have := HB.out; have := HOB.out; omega)).trans h10.1.2.1
        have z11 := (o11 rb (by have := HB.out; have := HOB.out; omega)).trans h10.1.2.2.1
        have HO : Hid (∀ W, Below V11.heap.size V11 W → (W.heap[pb]? = some (.cells #[.string s, .int .i64 n, .slice (some ⟨ab, ao, none⟩) ln cp] 27 (0, 0)) ∧ W.heap[qb]? = some (.cells #[.int .i64 (n + 1), .int .i64 c1, .int .i64 c2, .string c3, .int .i64 c4] 36 (0, 0)) ∧ W.heap[rb]? = some (.cells #[.string ⟨#[]⟩, .int .i64 0, .slice none 0 0] 27 (0, 0)) ∧ W.heap[ob]? = some (.cells #[.string Z, .int .i64 (n + 1), .slice none 0 0] 27 (0, 0))) ∧ Below w.heap.size w W) := fun W hW => ⟨⟨(hW.block pb (lt_of_some p11)).trans p11, (hW.block qb (lt_of_some q11)).trans q11, (hW.block rb (lt_of_some z11)).trans z11, (hW.block ob (lt_of_some u11)).trans u11⟩, b11.trans (hW.mono b11.size)⟩
        have HG11 : Hid ((V11.cell? ⟨pb, 0, none⟩ = some (.string s) ∧ V11.cell? ⟨pb, 2, none⟩ = some (.slice (some ⟨ab, ao, none⟩) ln cp)) ∧ (V11.cell? ⟨ab, ao, none⟩ = some (.int .i64 e0) ∧ V11.cell? ⟨ab, ao + 1, none⟩ = some (.int .i64 e1) ∧ V11.cell? ⟨ab, ao + 2, none⟩ = some (.int .i64 e2) ∧ V11.cell? ⟨ab, ao + 3, none⟩ = some (.string e3) ∧ V11.cell? ⟨ab, ao + 4, none⟩ = some (.int .i64 e4))) := by
          obtain ⟨m0, _, m2, _⟩ := row3 p11
          obtain ⟨ab', ao', he, hlt', hc'⟩ := (HR.out.1 V11 b11).at (by omega)
          obtain ⟨rfl, rfl⟩ : ab = ab' ∧ ao = ao' := by
            have := Option.some.inj he
            exact ⟨congrArg Addr.block this, congrArg Addr.off this⟩
          obtain ⟨k0, k1, k2, k3, k4⟩ := hc' 0 _ HC0.out
          simp only [Nat.zero_mul, Nat.add_zero] at k0 k1 k2 k3 k4
          exact ⟨⟨m0, m2⟩, k0, k1, k2, k3, k4⟩
        clear hb10 hB10 h10 vz o11 u11 b11 p11 q11 z11
        refine wpAnyH_take (i := 8) (v := ?vs_8) rfl (by kernel_rfl) (by kernel_rfl) (by kernel_rfl) (fun _ _ _ h => h) (Or.inl ⟨by first | kernel_rfl | rfl, ?ys_8⟩) hHeld ?rs_8
        case ys_8 => (intro W hSW; (try dsimp only at hSW); go_simp; (try with_reducible rfl))
        change wpAnyH _ _ _ _ _ _ _ (Act.put _ (some 38) _) _
        simp only [Act.put, List.setIfInBounds_toArray, List.set_cons_zero, List.set_cons_succ]
        refine wpAnyH_ready (rs := [9]) (by kernel_rfl) (by simp) ?_
        refine AllReadyH.cons rfl (fun K hK => ?_) AllReadyH.nil
        go_simp
        refine hK.out _ _ (HG11.out) (fun hHeld => ?_)
        clear hK K
        refine wpAnyH_done (by kernel_rfl) ?_ _
        clear v0 v1 v2 vf0
        clear HO8
        obtain ⟨A2, hA2⟩ : ∃ x, cutA (some ⟨ab, ao, none⟩) ln 1 5 = x := ⟨_, rfl⟩
        obtain ⟨n2, hn2⟩ : ∃ x, ln - 1 = x := ⟨_, rfl⟩
        obtain ⟨n9, hn9⟩ : ∃ x, n2 + 1 = x := ⟨_, rfl⟩
        have hs2 : ∀ W, (Instr.sliceAt 22 (.slice (some ⟨ab, ao, none⟩) ln cp) (some (.int .i64 1)) (some (.int .i64 (ln : Int))) (some (.int .i64 (ln : Int)))).run Tryd.prog W = .ok (.slice A2 n2 n2) W := fun W => by rw [← hA2, ← hn2]; exact full_ents (some ⟨ab, ao, none⟩) ln cp 1 (by omega) HLC.out W
        have HQ : Hid (∀ W, Below V11.heap.size V11 W → (W.cell? ⟨pb, 2, none⟩ = some (.slice (some ⟨ab, ao, none⟩) ln cp) ∧ (W.cell? ⟨qb, 0, none⟩ = some (.int .i64 (n + 1)) ∧ W.cell? ⟨qb, 1, none⟩ = some (.int .i64 c1) ∧ W.cell? ⟨qb, 2, none⟩ = some (.int .i64 c2) ∧ W.cell? ⟨qb, 3, none⟩ = some (.string c3) ∧ W.cell? ⟨qb, 4, none⟩ = some (.int .i64 c4))) ∧ Ew W A2 n2 n2 (l.drop 1)) := fun W hW => by
          have h9 := HO.out W hW
          obtain ⟨_, _, g2, _⟩ := row3 h9.1.1
          obtain ⟨u0, u1, u2, u3, u4, _⟩ := row5 h9.1.2.1
          refine ⟨⟨g2, u0, u1, u2, u3, u4⟩, ?_⟩
          have h8 := (HR.out.1 W h9.2).tight.off 1 (by omega)
          rw [hA2, hn2] at h8
          exact h8
        obtain ⟨VB, hVB⟩ : ∃ VB, V11.drew.alloc (.cells #[.int .i64 (n + 1), .int .i64 c1, .int .i64 c2, .string c3, .int .i64 c4] 36) = VB := ⟨_, rfl⟩
        obtain ⟨gB, hgB⟩ : ∃ gB, V11.heap.size = gB := ⟨_, rfl⟩
        have rB : VB.heap[gB]? = some (.cells #[.int .i64 (n + 1), .int .i64 c1, .int .i64 c2, .string c3, .int .i64 c4] 36 (0, 0)) := by rw [← hVB, ← hgB]; exact heap_alloc_new V11.drew _
        have hbB : Below V11.heap.size V11 VB := by rw [← hVB]; exact (Below.refl _ V11).drew.alloc (Nat.le_refl _) _
        obtain ⟨aC, cC, VC, hrC, hbC, hoC⟩ := addE_full VB (HQ.out VB hbB).2 (enRow (p := ⟨n + 1, c1, c2, c3, c4⟩) rB) (by omega) (by omega)
        rw [hn9] at hrC hoC
        have hbXC : Below V11.heap.size V11 VC := hbB.trans (hbC.mono hbB.size)
        have zC := (HO.out VC hbXC).1.2.2.2
        obtain ⟨v0, v1, v2, vz⟩ := row3 zC
        have vf2 := vz 2
        obtain ⟨VD, hVD⟩ : ∃ VD, VC.setCell ⟨ob, 2, none⟩ (.slice aC n9 cC) = VD := ⟨_, rfl⟩
        have oD : ∀ j, j ≠ ob → VD.heap[j]? = VC.heap[j]? := fun j hj => by rw [← hVD, heap_setCell_other _ _ _ _ hj]
        have uD : VD.heap[ob]? = some (.cells #[.string Z, .int .i64 (n + 1), .slice aC n9 cC] 27 (0, 0)) := by rw [← hVD, heap_setCell_same _ _ _ _ _ _ zC]; rfl
        have bD : Below w.heap.size w VD := by rw [← hVD]; exact (HO.out VC hbXC).2.setCell (show w.heap.size ≤ ob by have := HB.out; have := HOB.out; omega) _
        have pD := (oD pb (by have := HB.out; have := HOB.out; omega)).trans (HO.out VC hbXC).1.1
        have qD := (oD qb (by have := HB.out; have := HOB.out; omega)).trans (HO.out VC hbXC).1.2.1
        have zD := (oD rb (by have := HB.out; have := HOB.out; omega)).trans (HO.out VC hbXC).1.2.2.1
        have HS5 : Hid (VD.cell? ⟨pb, 2, none⟩ = some (.slice (some ⟨ab, ao, none⟩) ln cp) ∧ (VD.cell? ⟨qb, 0, none⟩ = some (.int .i64 (n + 1)) ∧ VD.cell? ⟨qb, 1, none⟩ = some (.int .i64 c1) ∧ VD.cell? ⟨qb, 2, none⟩ = some (.int .i64 c2) ∧ VD.cell? ⟨qb, 3, none⟩ = some (.string c3) ∧ VD.cell? ⟨qb, 4, none⟩ = some (.int .i64 c4))) := by
          obtain ⟨_, _, g2, _⟩ := row3 pD
          obtain ⟨u0, u1, u2, u3, u4, _⟩ := row5 qD
          exact ⟨g2, u0, u1, u2, u3, u4⟩
        obtain ⟨t0, t1, t2, _⟩ := row3 uD
        obtain ⟨x0, x1, x2, fz⟩ := row3 zD
        have f0 := fz 0
        have f1 := fz 1
        have f2 := fz 2
        obtain ⟨W5, hW5⟩ : ∃ W5, ((VD.setCell ⟨rb, 0, none⟩ (.string Z)).setCell ⟨rb, 1, none⟩ (.int .i64 (n + 1))).setCell ⟨rb, 2, none⟩ (.slice aC n9 cC) = W5 := ⟨_, rfl⟩
        have HE : Hid (AoTo w (addA ⟨s, n, l⟩ ⟨c0, c1, c2, c3, c4⟩) (.returned (.tuple #[.agg #[.string Z, .int .i64 (n + 1), .slice aC n9 cC], .int .i64 0])) W5 ∧ W5.heap[rb]? = some (.cells #[.string Z, .int .i64 (n + 1), .slice aC n9 cC] 27 (0, 0))) := by
          refine ⟨?_, by rw [← hW5]; exact set3 zD _ _ _⟩
          rw [HX.out]
          refine ⟨aC, n9, cC, rfl, ?_, ?_⟩
          · refine own_base (own_keep hoC (fun j hj => ?_)) (show w.heap.size ≤ VB.heap.size by have := hbB.size; have := HB.out; have := HOB.out; have := (HO.out VB hbB).2.size; omega)
            have hj9 := (hoC.lt j hj).1
            have hob : ob < VB.heap.size := Nat.lt_of_lt_of_le (lt_of_some (HO.out V11 (Below.refl _ _)).1.2.2.2) hbB.size
            have hrb : rb < ob := by have := HB.out; have := HOB.out; omega
            rw [← hW5]
            exact (other3s (by omega) _ _ _).trans (oD j (by omega))
          · rw [← hW5]
            exact below3s bD (by have := HB.out; omega) _ _ _
        have HSX : Hid ((fun W => W.cell? ⟨pb, 2, none⟩ = some (.slice (some ⟨ab, ao, none⟩) ln cp) ∧ (W.cell? ⟨qb, 0, none⟩ = some (.int .i64 (n + 1)) ∧ W.cell? ⟨qb, 1, none⟩ = some (.int .i64 c1) ∧ W.cell? ⟨qb, 2, none⟩ = some (.int .i64 c2) ∧ W.cell? ⟨qb, 3, none⟩ = some (.string c3) ∧ W.cell? ⟨qb, 4, none⟩ = some (.int .i64 c4))) V11.drew ∧ (fun W => W.cell? ⟨pb, 2, none⟩ = some (.slice (some ⟨ab, ao, none⟩) ln cp) ∧ (W.cell? ⟨qb, 0, none⟩ = some (.int .i64 (n + 1)) ∧ W.cell? ⟨qb, 1, none⟩ = some (.int .i64 c1) ∧ W.cell? ⟨qb, 2, none⟩ = some (.int .i64 c2) ∧ W.cell? ⟨qb, 3, none⟩ = some (.string c3) ∧ W.cell? ⟨qb, 4, none⟩ = some (.int .i64 c4))) VB ∧ (fun W => W.cell? ⟨pb, 2, none⟩ = some (.slice (some ⟨ab, ao, none⟩) ln cp) ∧ (W.cell? ⟨qb, 0, none⟩ = some (.int .i64 (n + 1)) ∧ W.cell? ⟨qb, 1, none⟩ = some (.int .i64 c1) ∧ W.cell? ⟨qb, 2, none⟩ = some (.int .i64 c2) ∧ W.cell? ⟨qb, 3, none⟩ = some (.string c3) ∧ W.cell? ⟨qb, 4, none⟩ = some (.int .i64 c4))) VC) := ⟨(HQ.out V11.drew (Below.refl _ V11).drew).1, (HQ.out VB hbB).1, (HQ.out VC hbXC).1⟩
        clear hA2 hn2 hn9 rB hbB hbC hoC hbXC zC vz oD uD bD pD qD zD fz
        go_wp2
        refine wp_region_held_drew (S := fun W => W.cell? ⟨pb, 2, none⟩ = some (.slice (some ⟨ab, ao, none⟩) ln cp) ∧ (W.cell? ⟨qb, 0, none⟩ = some (.int .i64 (n + 1)) ∧ W.cell? ⟨qb, 1, none⟩ = some (.int .i64 c1) ∧ W.cell? ⟨qb, 2, none⟩ = some (.int .i64 c2) ∧ W.cell? ⟨qb, 3, none⟩ = some (.string c3) ∧ W.cell? ⟨qb, 4, none⟩ = some (.int .i64 c4))) (by kernel_rfl) (HSX.out.1) (fun hHeld => ?_)
        refine wpAnyH_take (i := 0) (v := ?vt_0) rfl (by kernel_rfl) (by kernel_rfl) (by kernel_rfl) (fun _ _ _ h => h) (Or.inl ⟨by first | kernel_rfl | rfl, ?yt_0⟩) hHeld ?rt_0
        case yt_0 => (intro W hSW; (try dsimp only at hSW); go_simp; (try with_reducible rfl))
        change wpAnyH _ _ _ _ _ _ _ (Act.put _ (some 39) _) _
        simp only [Act.put, List.setIfInBounds_toArray, List.set_cons_zero, List.set_cons_succ]
        refine wpAnyH_take (i := 1) (v := ?vt_1) rfl (by kernel_rfl) (by kernel_rfl) (by kernel_rfl) (fun _ _ _ h => h) (Or.inl ⟨by first | kernel_rfl | rfl, ?yt_1⟩) hHeld ?rt_1
        case yt_1 => (intro W hSW; (try dsimp only at hSW); go_simp; (try with_reducible rfl))
        change wpAnyH _ _ _ _ _ _ _ (Act.put _ (some 40) _) _
        simp only [Act.put, List.setIfInBounds_toArray, List.set_cons_zero, List.set_cons_succ]
        refine wpAnyH_take (i := 2) (v := ?vt_2) rfl (by kernel_rfl) (by kernel_rfl) (by kernel_rfl) (fun _ _ _ h => h) (Or.inl ⟨by first | kernel_rfl | rfl, ?yt_2⟩) hHeld ?rt_2
        case yt_2 => (intro W hSW; (try dsimp only at hSW); go_simp; (try with_reducible rfl))
        change wpAnyH _ _ _ _ _ _ _ (Act.put _ (some 41) _) _
        simp only [Act.put, List.setIfInBounds_toArray, List.set_cons_zero, List.set_cons_succ]
        refine wpAnyH_take (i := 3) (v := ?vt_3) rfl (by kernel_rfl) (by kernel_rfl) (by kernel_rfl) (fun _ _ _ h => h) (Or.inl ⟨by first | kernel_rfl | rfl, ?yt_3⟩) hHeld ?rt_3
        case yt_3 => (intro W hSW; (try dsimp only at hSW); go_simp; (try with_reducible rfl))
        change wpAnyH _ _ _ _ _ _ _ (Act.put _ (some 42) _) _
        simp only [Act.put, List.setIfInBounds_toArray, List.set_cons_zero, List.set_cons_succ]
        refine wpAnyH_take (i := 4) (v := ?vt_4) rfl (by kernel_rfl) (by kernel_rfl) (by kernel_rfl) (fun _ _ _ h => h) (Or.inl ⟨by first | kernel_rfl | rfl, ?yt_4⟩) hHeld ?rt_4
        case yt_4 => (intro W hSW; (try dsimp only at hSW); go_simp; (try with_reducible rfl))
        change wpAnyH _ _ _ _ _ _ _ (Act.put _ (some 43) _) _
        simp only [Act.put, List.setIfInBounds_toArray, List.set_cons_zero, List.set_cons_succ]
        refine wpAnyH_take (i := 5) (v := ?vt_5) rfl (by kernel_rfl) (by kernel_rfl) (by kernel_rfl) (fun _ _ _ h => h) (Or.inl ⟨by first | kernel_rfl | rfl, ?yt_5⟩) hHeld ?rt_5
        case yt_5 => (intro W hSW; (try dsimp only at hSW); go_simp; (try with_reducible rfl))
        change wpAnyH _ _ _ _ _ _ _ (Act.put _ (some 44) _) _
        simp only [Act.put, List.setIfInBounds_toArray, List.set_cons_zero, List.set_cons_succ]
        refine wpAnyH_take (i := 6) (v := ?vt_6) rfl (by kernel_rfl) (by kernel_rfl) (by kernel_rfl) (fun _ _ _ h => h) (Or.inl ⟨by first | kernel_rfl | rfl, ?yt_6⟩) hHeld ?rt_6
        case yt_6 => (intro W hSW; (try dsimp only at hSW); go_simp; (try with_reducible rfl))
        change wpAnyH _ _ _ _ _ _ _ (Act.put _ (some 45) _) _
        simp only [Act.put, List.setIfInBounds_toArray, List.set_cons_zero, List.set_cons_succ]
        refine wpAnyH_take (i := 7) (v := ?vt_7) rfl (by kernel_rfl) (by kernel_rfl) (by kernel_rfl) (fun _ _ _ h => h) (Or.inl ⟨by first | kernel_rfl | rfl, ?yt_7⟩) hHeld ?rt_7
        case yt_7 => (intro W hSW; (try dsimp only at hSW); go_simp; (try with_reducible rfl))
        change wpAnyH _ _ _ _ _ _ _ (Act.put _ (some 46) _) _
        simp only [Act.put, List.setIfInBounds_toArray, List.set_cons_zero, List.set_cons_succ]
        refine wpAnyH_take (i := 8) (v := ?vt_8) rfl (by kernel_rfl) (by kernel_rfl) (by kernel_rfl) (fun _ _ _ h => h) (Or.inl ⟨by first | kernel_rfl | rfl, ?yt_8⟩) hHeld ?rt_8
        case yt_8 => (intro W hSW; (try dsimp only at hSW); go_simp; (try with_reducible rfl))
        change wpAnyH _ _ _ _ _ _ _ (Act.put _ (some 47) _) _
        simp only [Act.put, List.setIfInBounds_toArray, List.set_cons_zero, List.set_cons_succ]
        refine wpAnyH_take (i := 9) (v := ?vt_9) rfl (by kernel_rfl) (by kernel_rfl) (by kernel_rfl) (fun _ _ _ h => h) (Or.inl ⟨by first | kernel_rfl | rfl, ?yt_9⟩) hHeld ?rt_9
        case yt_9 => (intro W hSW; (try dsimp only at hSW); go_simp; (try with_reducible rfl))
        change wpAnyH _ _ _ _ _ _ _ (Act.put _ (some 48) _) _
        simp only [Act.put, List.setIfInBounds_toArray, List.set_cons_zero, List.set_cons_succ]
        refine wpAnyH_take (i := 10) (v := ?vt_10) rfl (by kernel_rfl) (by kernel_rfl) (by kernel_rfl) (fun _ _ _ h => h) (Or.inl ⟨by first | kernel_rfl | rfl, ?yt_10⟩) hHeld ?rt_10
        case yt_10 => (intro W hSW; (try dsimp only at hSW); go_simp; (try with_reducible rfl))
        change wpAnyH _ _ _ _ _ _ _ (Act.put _ (some 49) _) _
        simp only [Act.put, List.setIfInBounds_toArray, List.set_cons_zero, List.set_cons_succ]
        refine wpAnyH_ready (rs := [11]) (by kernel_rfl) (by simp) ?_
        refine AllReadyH.cons rfl (fun K hK => ?_) AllReadyH.nil
        go_simp
        refine hK.out _ _ (HSX.out.2.1) (fun hHeld => ?_)
        clear hK K
        try simp only [Act.put, List.setIfInBounds_toArray, List.set_cons_zero, List.set_cons_succ]
        refine wpAnyH_ready (rs := [12]) (by kernel_rfl) (by simp) ?_
        refine AllReadyH.cons rfl (fun K hK => ?_) AllReadyH.nil
        rw [if_pos (by rfl)]
        refine wp_app VB _ _ _ _ rfl rfl rfl (hrC _) ?_
        skip
        refine hK.out _ _ (HSX.out.2.2) (fun hHeld => ?_)
        clear hK K
        change wpAnyH _ _ _ _ _ _ _ (Act.put _ (some 51) _) _
        simp only [Act.put, List.setIfInBounds_toArray, List.set_cons_zero, List.set_cons_succ]
        refine wpAnyH_take (i := 13) (v := ?vt_13) rfl (by kernel_rfl) (by kernel_rfl) (by kernel_rfl) (fun _ _ _ h => h) (Or.inl ⟨by first | kernel_rfl | rfl, ?yt_13⟩) hHeld ?rt_13
        case yt_13 => (intro W hSW; (try dsimp only at hSW); go_simp; (try with_reducible rfl))
        change wpAnyH _ _ _ _ _ _ _ (Act.put _ (some 52) _) _
        simp only [Act.put, List.setIfInBounds_toArray, List.set_cons_zero, List.set_cons_succ]
        refine wpAnyH_ready (rs := [14]) (by kernel_rfl) (by simp) ?_
        refine AllReadyH.cons rfl (fun K hK => ?_) AllReadyH.nil
        go_simp
        refine hK.out _ _ (HS5.out) (fun hHeld => ?_)
        clear hK K
        refine wpAnyH_done (by kernel_rfl) ?_ _
        clear v0 v1 v2 vf2
        go_wp2
        refine bodyPost_ret (v := .tuple #[.agg #[.string Z, .int .i64 (n + 1), .slice aC n9 cC], .int .i64 0]) ?_ rfl HE.out.1
        exact res_2P (fn := Tryd.f18) (p := 4) (q := 5) (by rfl) _ _ rb _ (by rfl) HE.out.2 infoPA
      · have k8 : ¬ (ln : Int) = 8 := by omega
        have b8 : ((ln : Int) == 8) = false := by simpa using k8
        have HX : Hid (addA ⟨s, n, l⟩ ⟨c0, c1, c2, c3, c4⟩ = (⟨s, n + 1, l.drop 0 ++ [⟨n + 1, c1, c2, c3, c4⟩]⟩, 0)) := by
          show _ = _
          rw [HAD.out, cut_snoc (by have := HR.out.2.1; omega), if_neg (by have := HR.out.2.1; omega), List.drop_zero]
        clear h8
        obtain ⟨A2, hA2⟩ : ∃ x, cutA a ln 0 5 = x := ⟨_, rfl⟩
        obtain ⟨n2, hn2⟩ : ∃ x, ln - 0 = x := ⟨_, rfl⟩
        obtain ⟨n9, hn9⟩ : ∃ x, n2 + 1 = x := ⟨_, rfl⟩
        have hs2 : ∀ W, (Instr.sliceAt 22 (.slice a ln cp) (some (.int .i64 0)) (some (.int .i64 (ln : Int))) (some (.int .i64 (ln : Int)))).run Tryd.prog W = .ok (.slice A2 n2 n2) W := fun W => by rw [← hA2, ← hn2]; exact full_ents a ln cp 0 (by omega) HLC.out W
        have HQ : Hid (∀ W, Below V7.heap.size V7 W → (W.cell? ⟨pb, 2, none⟩ = some (.slice a ln cp) ∧ (W.cell? ⟨qb, 0, none⟩ = some (.int .i64 (n + 1)) ∧ W.cell? ⟨qb, 1, none⟩ = some (.int .i64 c1) ∧ W.cell? ⟨qb, 2, none⟩ = some (.int .i64 c2) ∧ W.cell? ⟨qb, 3, none⟩ = some (.string c3) ∧ W.cell? ⟨qb, 4, none⟩ = some (.int .i64 c4))) ∧ Ew W A2 n2 n2 (l.drop 0)) := fun W hW => by
          have h9 := HO.out W hW
          obtain ⟨_, _, g2, _⟩ := row3 h9.1.1
          obtain ⟨u0, u1, u2, u3, u4, _⟩ := row5 h9.1.2.1
          refine ⟨⟨g2, u0, u1, u2, u3, u4⟩, ?_⟩
          have h8 := (HR.out.1 W h9.2).tight.off 0 (by omega)
          rw [hA2, hn2] at h8
          exact h8
        obtain ⟨VB, hVB⟩ : ∃ VB, V7.drew.alloc (.cells #[.int .i64 (n + 1), .int .i64 c1, .int .i64 c2, .string c3, .int .i64 c4] 36) = VB := ⟨_, rfl⟩
        obtain ⟨gB, hgB⟩ : ∃ gB, V7.heap.size = gB := ⟨_, rfl⟩
        have rB : VB.heap[gB]? = some (.cells #[.int .i64 (n + 1), .int .i64 c1, .int .i64 c2, .string c3, .int .i64 c4] 36 (0, 0)) := by rw [← hVB, ← hgB]; exact heap_alloc_new V7.drew _
        have hbB : Below V7.heap.size V7 VB := by rw [← hVB]; exact (Below.refl _ V7).drew.alloc (Nat.le_refl _) _
        obtain ⟨aC, cC, VC, hrC, hbC, hoC⟩ := addE_full VB (HQ.out VB hbB).2 (enRow (p := ⟨n + 1, c1, c2, c3, c4⟩) rB) (by omega) (by omega)
        rw [hn9] at hrC hoC
        have hbXC : Below V7.heap.size V7 VC := hbB.trans (hbC.mono hbB.size)
        have zC := (HO.out VC hbXC).1.2.2.2
        obtain ⟨v0, v1, v2, vz⟩ := row3 zC
        have vf2 := vz 2
        obtain ⟨VD, hVD⟩ : ∃ VD, VC.setCell ⟨ob, 2, none⟩ (.slice aC n9 cC) = VD := ⟨_, rfl⟩
        have oD : ∀ j, j ≠ ob → VD.heap[j]? = VC.heap[j]? := fun j hj => by rw [← hVD, heap_setCell_other _ _ _ _ hj]
        have uD : VD.heap[ob]? = some (.cells #[.string s, .int .i64 (n + 1), .slice aC n9 cC] 27 (0, 0)) := by rw [← hVD, heap_setCell_same _ _ _ _ _ _ zC]; rfl
        have bD : Below w.heap.size w VD := by rw [← hVD]; exact (HO.out VC hbXC).2.setCell (show w.heap.size ≤ ob by have := HB.out; have := HOB.out; omega) _
        have pD := (oD pb (by have := HB.out; have := HOB.out; omega)).trans (HO.out VC hbXC).1.1
        have qD := (oD qb (by have := HB.out; have := HOB.out; omega)).trans (HO.out VC hbXC).1.2.1
        have zD := (oD rb (by have := HB.out; have := HOB.out; omega)).trans (HO.out VC hbXC).1.2.2.1
        have HS5 : Hid (VD.cell? ⟨pb, 2, none⟩ = some (.slice a ln cp) ∧ (VD.cell? ⟨qb, 0, none⟩ = some (.int .i64 (n + 1)) ∧ VD.cell? ⟨qb, 1, none⟩ = some (.int .i64 c1) ∧ VD.cell? ⟨qb, 2, none⟩ = some (.int .i64 c2) ∧ VD.cell? ⟨qb, 3, none⟩ = some (.string c3) ∧ VD.cell? ⟨qb, 4, none⟩ = some (.int .i64 c4))) := by
          obtain ⟨_, _, g2, _⟩ := row3 pD
          obtain ⟨u0, u1, u2, u3, u4, _⟩ := row5 qD
          exact ⟨g2, u0, u1, u2, u3, u4⟩
        obtain ⟨t0, t1, t2, _⟩ := row3 uD
        obtain ⟨x0, x1, x2, fz⟩ := row3 zD
        have f0 := fz 0
        have f1 := fz 1
        have f2 := fz 2
        obtain ⟨W5, hW5⟩ : ∃ W5, ((VD.setCell ⟨rb, 0, none⟩ (.string s)).setCell ⟨rb, 1, none⟩ (.int .i64 (n + 1))).setCell ⟨rb, 2, none⟩ (.slice aC n9 cC) = W5 := ⟨_, rfl⟩
        have HE : Hid (AoTo w (addA ⟨s, n, l⟩ ⟨c0, c1, c2, c3, c4⟩) (.returned (.tuple #[.agg #[.string s, .int .i64 (n + 1), .slice aC n9 cC], .int .i64 0])) W5 ∧ W5.heap[rb]? = some (.cells #[.string s, .int .i64 (n + 1), .slice aC n9 cC] 27 (0, 0))) := by
          refine ⟨?_, by rw [← hW5]; exact set3 zD _ _ _⟩
          rw [HX.out]
          refine ⟨aC, n9, cC, rfl, ?_, ?_⟩
          · refine own_base (own_keep hoC (fun j hj => ?_)) (show w.heap.size ≤ VB.heap.size by have := hbB.size; have := HB.out; have := HOB.out; have := (HO.out VB hbB).2.size; omega)
            have hj9 := (hoC.lt j hj).1
            have hob : ob < VB.heap.size := Nat.lt_of_lt_of_le (lt_of_some (HO.out V7 (Below.refl _ _)).1.2.2.2) hbB.size
            have hrb : rb < ob := by have := HB.out; have := HOB.out; omega
            rw [← hW5]
            exact (other3s (by omega) _ _ _).trans (oD j (by omega))
          · rw [← hW5]
            exact below3s bD (by have := HB.out; omega) _ _ _
        have HSX : Hid ((fun W => W.cell? ⟨pb, 2, none⟩ = some (.slice a ln cp) ∧ (W.cell? ⟨qb, 0, none⟩ = some (.int .i64 (n + 1)) ∧ W.cell? ⟨qb, 1, none⟩ = some (.int .i64 c1) ∧ W.cell? ⟨qb, 2, none⟩ = some (.int .i64 c2) ∧ W.cell? ⟨qb, 3, none⟩ = some (.string c3) ∧ W.cell? ⟨qb, 4, none⟩ = some (.int .i64 c4))) V7.drew ∧ (fun W => W.cell? ⟨pb, 2, none⟩ = some (.slice a ln cp) ∧ (W.cell? ⟨qb, 0, none⟩ = some (.int .i64 (n + 1)) ∧ W.cell? ⟨qb, 1, none⟩ = some (.int .i64 c1) ∧ W.cell? ⟨qb, 2, none⟩ = some (.int .i64 c2) ∧ W.cell? ⟨qb, 3, none⟩ = some (.string c3) ∧ W.cell? ⟨qb, 4, none⟩ = some (.int .i64 c4))) VB ∧ (fun W => W.cell? ⟨pb, 2, none⟩ = some (.slice a ln cp) ∧ (W.cell? ⟨qb, 0, none⟩ = some (.int .i64 (n + 1)) ∧ W.cell? ⟨qb, 1, none⟩ = some (.int .i64 c1) ∧ W.cell? ⟨qb, 2, none⟩ = some (.int .i64 c2) ∧ W.cell? ⟨qb, 3, none⟩ = some (.string c3) ∧ W.cell? ⟨qb, 4, none⟩ = some (.int .i64 c4))) VC) := ⟨(HQ.out V7.drew (Below.refl _ V7).drew).1, (HQ.out VB hbB).1, (HQ.out VC hbXC).1⟩
        clear hA2 hn2 hn9 rB hbB hbC hoC hbXC zC vz oD uD bD pD qD zD fz
        go_wp2
        refine wp_region_held_drew (S := fun W => W.cell? ⟨pb, 2, none⟩ = some (.slice a ln cp) ∧ (W.cell? ⟨qb, 0, none⟩ = some (.int .i64 (n + 1)) ∧ W.cell? ⟨qb, 1, none⟩ = some (.int .i64 c1) ∧ W.cell? ⟨qb, 2, none⟩ = some (.int .i64 c2) ∧ W.cell? ⟨qb, 3, none⟩ = some (.string c3) ∧ W.cell? ⟨qb, 4, none⟩ = some (.int .i64 c4))) (by kernel_rfl) (HSX.out.1) (fun hHeld => ?_)
        refine wpAnyH_take (i := 0) (v := ?vu_0) rfl (by kernel_rfl) (by kernel_rfl) (by kernel_rfl) (fun _ _ _ h => h) (Or.inl ⟨by first | kernel_rfl | rfl, ?yu_0⟩) hHeld ?ru_0
        case yu_0 => (intro W hSW; (try dsimp only at hSW); go_simp; (try with_reducible rfl))
        change wpAnyH _ _ _ _ _ _ _ (Act.put _ (some 39) _) _
        simp only [Act.put, List.setIfInBounds_toArray, List.set_cons_zero, List.set_cons_succ]
        refine wpAnyH_take (i := 1) (v := ?vu_1) rfl (by kernel_rfl) (by kernel_rfl) (by kernel_rfl) (fun _ _ _ h => h) (Or.inl ⟨by first | kernel_rfl | rfl, ?yu_1⟩) hHeld ?ru_1
        case yu_1 => (intro W hSW; (try dsimp only at hSW); go_simp; (try with_reducible rfl))
        change wpAnyH _ _ _ _ _ _ _ (Act.put _ (some 40) _) _
        simp only [Act.put, List.setIfInBounds_toArray, List.set_cons_zero, List.set_cons_succ]
        refine wpAnyH_take (i := 2) (v := ?vu_2) rfl (by kernel_rfl) (by kernel_rfl) (by kernel_rfl) (fun _ _ _ h => h) (Or.inl ⟨by first | kernel_rfl | rfl, ?yu_2⟩) hHeld ?ru_2
        case yu_2 => (intro W hSW; (try dsimp only at hSW); go_simp; (try with_reducible rfl))
        change wpAnyH _ _ _ _ _ _ _ (Act.put _ (some 41) _) _
        simp only [Act.put, List.setIfInBounds_toArray, List.set_cons_zero, List.set_cons_succ]
        refine wpAnyH_take (i := 3) (v := ?vu_3) rfl (by kernel_rfl) (by kernel_rfl) (by kernel_rfl) (fun _ _ _ h => h) (Or.inl ⟨by first | kernel_rfl | rfl, ?yu_3⟩) hHeld ?ru_3
        case yu_3 => (intro W hSW; (try dsimp only at hSW); go_simp; (try with_reducible rfl))
        change wpAnyH _ _ _ _ _ _ _ (Act.put _ (some 42) _) _
        simp only [Act.put, List.setIfInBounds_toArray, List.set_cons_zero, List.set_cons_succ]
        refine wpAnyH_take (i := 4) (v := ?vu_4) rfl (by kernel_rfl) (by kernel_rfl) (by kernel_rfl) (fun _ _ _ h => h) (Or.inl ⟨by first | kernel_rfl | rfl, ?yu_4⟩) hHeld ?ru_4
        case yu_4 => (intro W hSW; (try dsimp only at hSW); go_simp; (try with_reducible rfl))
        change wpAnyH _ _ _ _ _ _ _ (Act.put _ (some 43) _) _
        simp only [Act.put, List.setIfInBounds_toArray, List.set_cons_zero, List.set_cons_succ]
        refine wpAnyH_take (i := 5) (v := ?vu_5) rfl (by kernel_rfl) (by kernel_rfl) (by kernel_rfl) (fun _ _ _ h => h) (Or.inl ⟨by first | kernel_rfl | rfl, ?yu_5⟩) hHeld ?ru_5
        case yu_5 => (intro W hSW; (try dsimp only at hSW); go_simp; (try with_reducible rfl))
        change wpAnyH _ _ _ _ _ _ _ (Act.put _ (some 44) _) _
        simp only [Act.put, List.setIfInBounds_toArray, List.set_cons_zero, List.set_cons_succ]
        refine wpAnyH_take (i := 6) (v := ?vu_6) rfl (by kernel_rfl) (by kernel_rfl) (by kernel_rfl) (fun _ _ _ h => h) (Or.inl ⟨by first | kernel_rfl | rfl, ?yu_6⟩) hHeld ?ru_6
        case yu_6 => (intro W hSW; (try dsimp only at hSW); go_simp; (try with_reducible rfl))
        change wpAnyH _ _ _ _ _ _ _ (Act.put _ (some 45) _) _
        simp only [Act.put, List.setIfInBounds_toArray, List.set_cons_zero, List.set_cons_succ]
        refine wpAnyH_take (i := 7) (v := ?vu_7) rfl (by kernel_rfl) (by kernel_rfl) (by kernel_rfl) (fun _ _ _ h => h) (Or.inl ⟨by first | kernel_rfl | rfl, ?yu_7⟩) hHeld ?ru_7
        case yu_7 => (intro W hSW; (try dsimp only at hSW); go_simp; (try with_reducible rfl))
        change wpAnyH _ _ _ _ _ _ _ (Act.put _ (some 46) _) _
        simp only [Act.put, List.setIfInBounds_toArray, List.set_cons_zero, List.set_cons_succ]
        refine wpAnyH_take (i := 8) (v := ?vu_8) rfl (by kernel_rfl) (by kernel_rfl) (by kernel_rfl) (fun _ _ _ h => h) (Or.inl ⟨by first | kernel_rfl | rfl, ?yu_8⟩) hHeld ?ru_8
        case yu_8 => (intro W hSW; (try dsimp only at hSW); go_simp; (try with_reducible rfl))
        change wpAnyH _ _ _ _ _ _ _ (Act.put _ (some 47) _) _
        simp only [Act.put, List.setIfInBounds_toArray, List.set_cons_zero, List.set_cons_succ]
        refine wpAnyH_take (i := 9) (v := ?vu_9) rfl (by kernel_rfl) (by kernel_rfl) (by kernel_rfl) (fun _ _ _ h => h) (Or.inl ⟨by first | kernel_rfl | rfl, ?yu_9⟩) hHeld ?ru_9
        case yu_9 => (intro W hSW; (try dsimp only at hSW); go_simp; (try with_reducible rfl))
        change wpAnyH _ _ _ _ _ _ _ (Act.put _ (some 48) _) _
        simp only [Act.put, List.setIfInBounds_toArray, List.set_cons_zero, List.set_cons_succ]
        refine wpAnyH_take (i := 10) (v := ?vu_10) rfl (by kernel_rfl) (by kernel_rfl) (by kernel_rfl) (fun _ _ _ h => h) (Or.inl ⟨by first | kernel_rfl | rfl, ?yu_10⟩) hHeld ?ru_10
        case yu_10 => (intro W hSW; (try dsimp only at hSW); go_simp; (try with_reducible rfl))
        change wpAnyH _ _ _ _ _ _ _ (Act.put _ (some 49) _) _
        simp only [Act.put, List.setIfInBounds_toArray, List.set_cons_zero, List.set_cons_succ]
        refine wpAnyH_ready (rs := [11]) (by kernel_rfl) (by simp) ?_
        refine AllReadyH.cons rfl (fun K hK => ?_) AllReadyH.nil
        go_simp
        refine hK.out _ _ (HSX.out.2.1) (fun hHeld => ?_)
        clear hK K
        try simp only [Act.put, List.setIfInBounds_toArray, List.set_cons_zero, List.set_cons_succ]
        refine wpAnyH_ready (rs := [12]) (by kernel_rfl) (by simp) ?_
        refine AllReadyH.cons rfl (fun K hK => ?_) AllReadyH.nil
        rw [if_pos (by rfl)]
        refine wp_app VB _ _ _ _ rfl rfl rfl (hrC _) ?_
        skip
        refine hK.out _ _ (HSX.out.2.2) (fun hHeld => ?_)
        clear hK K
        change wpAnyH _ _ _ _ _ _ _ (Act.put _ (some 51) _) _
        simp only [Act.put, List.setIfInBounds_toArray, List.set_cons_zero, List.set_cons_succ]
        refine wpAnyH_take (i := 13) (v := ?vu_13) rfl (by kernel_rfl) (by kernel_rfl) (by kernel_rfl) (fun _ _ _ h => h) (Or.inl ⟨by first | kernel_rfl | rfl, ?yu_13⟩) hHeld ?ru_13
        case yu_13 => (intro W hSW; (try dsimp only at hSW); go_simp; (try with_reducible rfl))
        change wpAnyH _ _ _ _ _ _ _ (Act.put _ (some 52) _) _
        simp only [Act.put, List.setIfInBounds_toArray, List.set_cons_zero, List.set_cons_succ]
        refine wpAnyH_ready (rs := [14]) (by kernel_rfl) (by simp) ?_
        refine AllReadyH.cons rfl (fun K hK => ?_) AllReadyH.nil
        go_simp
        refine hK.out _ _ (HS5.out) (fun hHeld => ?_)
        clear hK K
        refine wpAnyH_done (by kernel_rfl) ?_ _
        clear v0 v1 v2 vf2
        go_wp2
        refine bodyPost_ret (v := .tuple #[.agg #[.string s, .int .i64 (n + 1), .slice aC n9 cC], .int .i64 0]) ?_ rfl HE.out.1
        exact res_2P (fn := Tryd.f18) (p := 4) (q := 5) (by rfl) _ _ rb _ (by rfl) HE.out.2 infoPA
theorem aadd_any (s : ByteArray) (n : Int) {a : Option Addr} {ln cp : Nat} {l : List En} (c : En) (w : World) (h : Ew w a ln cp l) (hL : Laid w) : Calls Tryd.prog 18 #[.agg #[.string s, .int .i64 n, .slice a ln cp], .agg #[.int .i64 c.seq, .int .i64 c.time, .int .i64 c.kind, .string c.path, .int .i64 c.errno]] w fun e w' => AuTo w (addA ⟨s, n, l⟩ c) e w' := by
  refine (aadd_own s n c w h hL).mono ?_
  rintro e w' ⟨xa, xn, xc, h1, h2, h3⟩
  exact ⟨xa, xn, xc, h1, Nw.own h2 (Nat.le_refl _), h3⟩
end Go.Proofs.YtkhidkilkbmpoaaDoor
