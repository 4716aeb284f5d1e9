/- Walks over Meet. -/
import Derived.Test.YtcmdcmbiilfngaaDoorKJ
namespace Go.Proofs.YtcmdcmbiilfngaaDoor
open Go.RowKit
open Pt (placeL coversL meetL)
theorem and_both_fin : ∀ a b : Fin 8, bits BinOp.and IntKind.i64 (a.val : Int) (b.val : Int) = bothR (a.val : Int) (b.val : Int) := by decide +kernel
theorem and_both {a b : Int} (ha : 0 ≤ a ∧ a ≤ 7) (hb : 0 ≤ b ∧ b ≤ 7) : bits BinOp.and IntKind.i64 a b = bothR a b := by
  obtain ⟨n, rfl⟩ : ∃ n : Nat, a = (n : Int) := ⟨a.toNat, by omega⟩
  obtain ⟨m, rfl⟩ : ∃ m : Nat, b = (m : Int) := ⟨b.toNat, by omega⟩
  exact and_both_fin ⟨n, by omega⟩ ⟨m, by omega⟩
/-- A caveat and a word of yes or no that are handed on. -/
def MtTo (w : World) (r : Cv × Bool) (e : Ending) (w' : World) : Prop := e = .returned (.tuple #[.agg #[.string r.1.path, .int .i64 r.1.rights, .int .i64 r.1.til], .bool r.2]) ∧ Below w.heap.size w w'
theorem res_cv {fn : Func} {p q : Tmp} (h : fn.results = #[.cell p 35, .tmp q]) (tmps : Array Value) (w : World) (g : Nat) (cs : Array Value) (hp : tmps.getD p undef = .pointer (some ⟨g, 0, none⟩)) (hg : w.heap[g]? = some (.cells cs 35 (0, 0))) (hi : (Tryd.prog.info? 35).map (·.size) = some cs.size) :
    (results fn tmps).run Tryd.prog w = .ok (.tuple #[.agg cs, tmps.getD q undef]) w := by
  have hp' : tmps[p]?.getD undef = .pointer (some ⟨g, 0, none⟩) := by simpa using hp
  have hl := run_loadVar_row (P := Tryd.prog) w g 35 35 cs (0, 0) _ hg Tryd.underlying35 rfl hi
  simp [results, h, hp', asAddr, hl]
theorem set3 {U : World} {g : Nat} {a b c : Value} {t : TypeId} (h : U.heap[g]? = some (.cells #[a, b, c] t (0, 0))) (x0 x1 x2 : Value) : (((U.setCell ⟨g, 0, none⟩ x0).setCell ⟨g, 1, none⟩ x1).setCell ⟨g, 2, none⟩ x2).heap[g]? = some (.cells #[x0, x1, x2] t (0, 0)) := by
  have h1 : (U.setCell ⟨g, 0, none⟩ x0).heap[g]? = some (.cells #[x0, b, c] t (0, 0)) := by rw [heap_setCell_same _ _ _ _ _ _ h]; rfl
  have h2 : ((U.setCell ⟨g, 0, none⟩ x0).setCell ⟨g, 1, none⟩ x1).heap[g]? = some (.cells #[x0, x1, c] t (0, 0)) := by rw [heap_setCell_same _ _ _ _ _ _ h1]; rfl
  rw [heap_setCell_same _ _ _ _ _ _ h2]
  rfl
theorem below3s {B rb : Nat} {w V : World} (h : Below B w V) (hr : B ≤ rb) (x0 x1 x2 : Value) : Below B w (((V.setCell ⟨rb, 0, none⟩ x0).setCell ⟨rb, 1, none⟩ x1).setCell ⟨rb, 2, none⟩ x2) := ((h.setCell hr _).setCell hr _).setCell hr _
theorem other3s {rb j : Nat} {V : World} (h : j ≠ rb) (x0 x1 x2 : Value) : (((V.setCell ⟨rb, 0, none⟩ x0).setCell ⟨rb, 1, none⟩ x1).setCell ⟨rb, 2, none⟩ x2).heap[j]? = V.heap[j]? := by
  rw [heap_setCell_other _ _ _ _ h, heap_setCell_other _ _ _ _ h, heap_setCell_other _ _ _ _ h]
theorem meetT_none {t : Tk} (h : mayT t = false) : meetT t = (zeroC, false) := by unfold meetT; rw [if_neg (by rw [h]; decide)]
theorem meetT_no {t : Tk} (h : mayT t = true) (h2 : meetF t.cavs = none) : meetT t = (zeroC, false) := by unfold meetT; rw [if_pos h, h2]
theorem meetT_yes {t : Tk} {m : Cv} (h : mayT t = true) (h2 : meetF t.cavs = some m) : meetT t = (m, true) := by unfold meetT; rw [if_pos h, h2]
theorem meetF_take {l : List Cv} {i : Nat} {m c : Cv} (hi : l[i]? = some c) (h : meetF (l.take i) = some m) : meetF (l.take (i + 1)) = meetC m c := by rw [take_snocK hi, meetF_snoc, h]; rfl
theorem meetF_stop {l : List Cv} (i : Nat) (h : meetF (l.take i) = none) : meetF l = none := by
  have := meetF_none (l.drop i) (l.take i) h
  rwa [List.take_append_drop] at this
set_option maxRecDepth 100000 in
set_option maxHeartbeats 4000000 in
theorem cmeet_any {w : World} {a : Option Addr} {ln cp : Nat} {l : List Cv} (t n : Int) (s : ByteArray) (h : Kw w a ln cp l) (hp : ∀ c ∈ l, c.path.size ≤ 9223372036854775807) : Calls Tryd.prog 19 #[.agg #[.int .i64 t, .int .i64 n, .slice a ln cp, .string s]] w fun e w' => MtTo w (meetT ⟨t, n, l, s⟩) e w' := by
  have hl := h.len
  have hmx := h.max
  obtain ⟨pb, hpb⟩ : ∃ pb, w.heap.size = pb := ⟨_, rfl⟩
  obtain ⟨V1, hV1, r1, hb1⟩ := box_tk (w := w) t n a ln cp s
  obtain ⟨rb, hrb⟩ : ∃ rb, V1.heap.size = rb := ⟨_, rfl⟩
  obtain ⟨V2, hV2, r2, hb2⟩ := box_cv (w := V1) ⟨#[]⟩ 0 0
  have hq1 : pb + 1 = rb := by rw [← hrb, ← hV1, ← hpb]; simp
  rw [hpb] at r1
  rw [hrb] at r2
  have r1' : V2.heap[pb]? = some (.cells #[.int .i64 t, .int .i64 n, .slice a ln cp, .string s] 25 (0, 0)) := by
    rw [hb2.block pb (by omega)]
    exact r1
  have HK : Hid (∀ W, Below V2.heap.size V2 W → W.heap[pb]? = some (.cells #[.int .i64 t, .int .i64 n, .slice a ln cp, .string s] 25 (0, 0)) ∧ W.heap[rb]? = some (.cells #[.string ⟨#[]⟩, .int .i64 0, .int .i64 0] 35 (0, 0))) := fun W hW => ⟨(hW.block pb (lt_of_some r1')).trans r1', (hW.block rb (lt_of_some r2)).trans r2⟩
  have hB0 : Below w.heap.size w V2 := hb1.trans (hb2.mono hb1.size)
  have HB : Hid (Below w.heap.size w V2 ∧ w.heap.size ≤ rb ∧ w.heap.size = pb ∧ pb + 1 = rb ∧ V2.heap.size = rb + 1) := ⟨hB0, by omega, hpb, hq1, by rw [← hV2, ← hrb]; simp⟩
  have HM := cmay_any t n s (h.below hB0) hp
  have HR : Hid ((∀ W, Below V2.heap.size V2 W → Kw W a ln cp l) ∧ l.length = ln) := ⟨fun W hW => h.below (hB0.trans (hW.mono hB0.size)), hl⟩
  obtain ⟨y0, y1, y2, y3, _⟩ := row4 (HK.out V2 (Below.refl _ _)).1
  clear r1 r2 r1' hb1 hb2 hB0 h hl
  unfold YeTo at HM
  cases hm : mayT ⟨t, n, l, s⟩ with
  | false =>
    rw [hm] at HM
    have hno := meetT_none hm
    clear hm
    go_enter Tryd.func19, Tryd.ntmps19
    go_wp2_with fail
    refine HM.mono ?_
    rintro e V3 ⟨rfl, hb3⟩
    have hrow := (HK.out V3 hb3).2
    have hBk : Below w.heap.size w V3 := HB.out.1.trans (hb3.mono HB.out.1.size)
    clear HM hb3 y0 y1 y2 y3
    obtain ⟨x0, x1, x2, f0, f1, f2⟩ := row3 hrow
    obtain ⟨W5, hW5⟩ : ∃ W5, ((V3.setCell ⟨rb, 0, none⟩ (.string ⟨#[]⟩)).setCell ⟨rb, 1, none⟩ (.int .i64 0)).setCell ⟨rb, 2, none⟩ (.int .i64 0) = W5 := ⟨_, rfl⟩
    have HE : Hid (MtTo w (meetT ⟨t, n, l, s⟩) (.returned (.tuple #[.agg #[.string ⟨#[]⟩, .int .i64 0, .int .i64 0], .bool false])) W5 ∧ W5.heap[rb]? = some (.cells #[.string ⟨#[]⟩, .int .i64 0, .int .i64 0] 35 (0, 0))) := by
      refine ⟨?_, by rw [← hW5]; exact set3 hrow _ _ _⟩
      rw [hno, ← hW5]
      exact ⟨rfl, below3s hBk (by have := HB.out; omega) _ _ _⟩
    clear hrow hno hBk
    go_wp2
    refine bodyPost_ret (v := .tuple #[.agg #[.string ⟨#[]⟩, .int .i64 0, .int .i64 0], .bool false]) ?_ rfl HE.out.1
    exact res_cv (fn := Tryd.f19) (p := 2) (q := 3) (by rfl) _ _ rb _ (by rfl) HE.out.2 infoC3
  | true =>
    rw [hm] at HM
    have hmi := may_iff.1 hm
    simp only at hmi
    have hl8 : ln ≤ 8 := by rw [← HR.out.2]; exact hmi.2.1
    have HOK : Hid ((∀ c ∈ l, c.ok = true) ∧ mayT ⟨t, n, l, s⟩ = true) := ⟨hmi.2.2.2, hm⟩
    clear hm hmi
    go_enter Tryd.func19, Tryd.ntmps19
    go_wp2_with fail
    refine HM.mono ?_
    rintro e V3 ⟨rfl, hb3⟩
    obtain ⟨mb, hmb⟩ : ∃ mb, V3.heap.size = mb := ⟨_, rfl⟩
    obtain ⟨V4, hV4, r4, hb4⟩ := box_cv (w := V3) ⟨#[]⟩ 7 1099511627776
    rw [hmb] at r4
    have hB4 : Below V2.heap.size V2 V4 := hb3.trans (hb4.mono hb3.size)
    have H4 : Hid (Below V3.heap.size V3 V4 ∧ V4.heap[mb]? = some (.cells #[.string ⟨#[]⟩, .int .i64 7, .int .i64 1099511627776] 35 (0, 0)) ∧ Below V2.heap.size V2 V3 ∧ V3.heap.size = mb) := ⟨hb4, r4, hb3, hmb⟩
    clear HM y0 y1 y2 y3
    obtain ⟨y0, y1, y2, y3, _⟩ := row4 (HK.out V4 hB4).1
    clear hb3 hB4 hb4 r4
    go_wp2
    go_loopw [17] (fun v wr => ∃ (i : Nat) (m : Cv), i ≤ ln ∧ v = .int .i64 i ∧ meetF (l.take i) = some m ∧ m.ok = true ∧ wr.heap[mb]? = some (.cells #[.string m.path, .int .i64 m.rights, .int .i64 m.til] 35 (0, 0)) ∧ Below V3.heap.size V3 wr) (fun v _ => ln - (intOf v).toNat)
    case atStart => exact ⟨0, topC, by omega, rfl, rfl, top_ok, H4.out.2.1, H4.out.1⟩
    case round =>
    obtain ⟨i, m, hi, rfl, hmf, hmok, hrm, hbw⟩ := hrel
    clear y0 y1 y2 y3
    have hb2w : Below V2.heap.size V2 wr := H4.out.2.2.1.trans (hbw.mono H4.out.2.2.1.size)
    obtain ⟨y0, y1, y2, y3, _⟩ := row4 (HK.out wr hb2w).1
    obtain ⟨m1, m2, m3⟩ := m
    by_cases hlt : i < ln
    · have kk : (i : Int) < (ln : Int) := by omega
      obtain ⟨ab, ao, rfl, _, hc⟩ := (HR.out.1 wr hb2w).at (by omega)
      obtain ⟨⟨c1, c2, c3⟩, hci⟩ : ∃ c, l[i]? = some c := ⟨_, List.getElem?_eq_getElem (by have := HR.out.2; omega)⟩
      obtain ⟨d0, d1, d2⟩ := hc i _ hci
      have hcok := HOK.out.1 _ (List.mem_of_getElem? hci)
      have hco := Cv.ok_iff.1 hcok
      have hcp := ok_path hcok
      have hmo := Cv.ok_iff.1 hmok
      have hmp := ok_path hmok
      simp only at d0 d1 d2 hco hcp hmo hmp hrm
      obtain ⟨V5, hV5, r5, hb5⟩ := box_cv (w := wr) c1 c2 c3
      obtain ⟨qb, hqb⟩ : ∃ qb, wr.heap.size = qb := ⟨_, rfl⟩
      rw [hqb] at r5
      have rm5 := (hb5.block mb (lt_of_some hrm)).trans hrm
      obtain ⟨e0, e1, e2, _⟩ := row3 r5
      obtain ⟨g0, g1, g2, _⟩ := row3 rm5
      have HC := Pt.meet_any m1 c1 V5 (by omega) (by omega)
      have hmc := meetF_take hci hmf
      have hmq : mb < qb := by have := lt_of_some hrm; omega
      have hab : bits BinOp.and IntKind.i64 m2 c2 = bothR m2 c2 := and_both ⟨hmo.2.1, hmo.2.2.1⟩ ⟨hco.2.1, hco.2.2.1⟩
      have H5 : Hid (V5.heap[qb]? = some (.cells #[.string c1, .int .i64 c2, .int .i64 c3] 35 (0, 0)) ∧ V5.heap[mb]? = some (.cells #[.string m1, .int .i64 m2, .int .i64 m3] 35 (0, 0)) ∧ Below V3.heap.size V3 V5 ∧ mb < qb ∧ meetF (l.take (i + 1)) = meetC ⟨m1, m2, m3⟩ ⟨c1, c2, c3⟩ ∧ (⟨m1, m2, m3⟩ : Cv).ok = true ∧ (⟨c1, c2, c3⟩ : Cv).ok = true) := ⟨r5, rm5, hbw.trans (hb5.mono hbw.size), hmq, hmc, hmok, hcok⟩
      clear hc hci hcok hco hmo hmok hrm hbw hb2w hmf hb5 r5 rm5 hmc
      obtain ⟨P, hP⟩ : ∃ P, baOf (meetL m1.data.toList c1.data.toList).1 = P := ⟨_, rfl⟩
      have HC2 : Calls Tryd.prog 36 #[.string m1, .string c1] V5 fun e w' => e = .returned (.tuple #[.string P, .bool (meetL m1.data.toList c1.data.toList).2]) ∧ Below V5.heap.size V5 w' := by rw [← hP]; exact HC
      clear HC
      cases hme : (meetL m1.data.toList c1.data.toList).2 with
      | false =>
        rw [hme] at HC2
        have hno : meetT ⟨t, n, l, s⟩ = (zeroC, false) := meetT_no HOK.out.2 (meetF_stop (i + 1) (by rw [H5.out.2.2.2.2.1]; unfold meetC Cv.pl; simp only; rw [if_neg (by rw [hme]; decide)]))
        clear hme hP hab hmq
        go_wp2_with fail
        refine HC2.mono ?_
        rintro e V6 ⟨rfl, hb6⟩
        have hB6 : Below V2.heap.size V2 V6 := H4.out.2.2.1.trans ((H5.out.2.2.1.trans (hb6.mono H5.out.2.2.1.size)).mono H4.out.2.2.1.size)
        have hrow := (HK.out V6 hB6).2
        have hBk : Below w.heap.size w V6 := HB.out.1.trans (hB6.mono HB.out.1.size)
        clear HC2 hb6 hB6 y0 y1 y2 y3 d0 d1 d2 e0 e1 e2 g0 g1 g2
        obtain ⟨x0, x1, x2, f0, f1, f2⟩ := row3 hrow
        obtain ⟨W5, hW5⟩ : ∃ W5, ((V6.setCell ⟨rb, 0, none⟩ (.string ⟨#[]⟩)).setCell ⟨rb, 1, none⟩ (.int .i64 0)).setCell ⟨rb, 2, none⟩ (.int .i64 0) = W5 := ⟨_, rfl⟩
        have HE : Hid (MtTo w (meetT ⟨t, n, l, s⟩) (.returned (.tuple #[.agg #[.string ⟨#[]⟩, .int .i64 0, .int .i64 0], .bool false])) W5 ∧ W5.heap[rb]? = some (.cells #[.string ⟨#[]⟩, .int .i64 0, .int .i64 0] 35 (0, 0))) := by
          refine ⟨?_, by rw [← hW5]; exact set3 hrow _ _ _⟩
          rw [hno, ← hW5]
          exact ⟨rfl, below3s hBk (by have := HB.out; omega) _ _ _⟩
        clear hrow hno hBk
        go_wp2
        refine bodyPost_ret (v := .tuple #[.agg #[.string ⟨#[]⟩, .int .i64 0, .int .i64 0], .bool false]) ?_ rfl HE.out.1
        exact res_cv (fn := Tryd.f19) (p := 2) (q := 3) (by rfl) _ _ rb _ (by rfl) HE.out.2 infoC3
      | true =>
        rw [hme] at HC2
        have hms : meetC ⟨m1, m2, m3⟩ ⟨c1, c2, c3⟩ = some ⟨P, bothR m2 c2, min m3 c3⟩ := by unfold meetC Cv.pl; simp only; rw [if_pos hme, hP]
        have hok2 := (meetC_some H5.out.2.2.2.2.2.1 H5.out.2.2.2.2.2.2 hms).1
        obtain ⟨Q, hQ⟩ : ∃ Q, bothR m2 c2 = Q := ⟨_, rfl⟩
        rw [hQ] at hab hms hok2
        obtain ⟨U, hU⟩ : ∃ U, min m3 c3 = U := ⟨_, rfl⟩
        have HMS : Hid (meetF (l.take (i + 1)) = some ⟨P, Q, U⟩ ∧ (⟨P, Q, U⟩ : Cv).ok = true) := by rw [hU] at hms hok2; exact ⟨by rw [H5.out.2.2.2.2.1]; exact hms, hok2⟩
        have HU : Hid (min m3 c3 = U) := hU
        clear hme hP hms hok2 hQ hmq hU
        go_wp2_with fail
        refine HC2.mono ?_
        rintro e V6 ⟨rfl, hb6⟩
        have q6 := (hb6.block qb (lt_of_some H5.out.1)).trans H5.out.1
        have m6 := (hb6.block mb (lt_of_some H5.out.2.1)).trans H5.out.2.1
        clear e0 e1 e2 g0 g1 g2 d0 d1 d2 y0 y1 y2 y3
        obtain ⟨e0, e1, e2, _⟩ := row3 q6
        obtain ⟨g0, g1, g2, f0, f1, f2⟩ := row3 m6
        obtain ⟨W7, hW7⟩ : ∃ W7, ((V6.setCell ⟨mb, 0, none⟩ (.string P)).setCell ⟨mb, 1, none⟩ (.int .i64 Q)).setCell ⟨mb, 2, none⟩ (.int .i64 U) = W7 := ⟨_, rfl⟩
        have H7 : Hid (W7.heap[mb]? = some (.cells #[.string P, .int .i64 Q, .int .i64 U] 35 (0, 0)) ∧ Below V3.heap.size V3 W7) := by
          refine ⟨by rw [← hW7]; exact set3 m6 _ _ _, ?_⟩
          rw [← hW7]
          exact below3s (H5.out.2.2.1.trans (hb6.mono H5.out.2.2.1.size)) (Nat.le_of_eq H4.out.2.2.2) _ _ _
        have hU2 := HU.out
        clear HC2 hb6 q6 m6
        go_wp2
        exact ⟨⟨i + 1, ⟨P, Q, U⟩, by omega, by go_num, HMS.out.1, HMS.out.2, H7.out.1, H7.out.2⟩, by simp [intOf]; omega⟩
    · obtain rfl : i = ln := by omega
      have kk : ¬ (i : Int) < (i : Int) := by omega
      rw [List.take_of_length_le (by have := HR.out.2; omega)] at hmf
      simp only at hrm
      have hyes : meetT ⟨t, n, l, s⟩ = (⟨m1, m2, m3⟩, true) := meetT_yes HOK.out.2 hmf
      obtain ⟨g0, g1, g2, _⟩ := row3 hrm
      have hrow := (HK.out wr hb2w).2
      obtain ⟨x0, x1, x2, f0, f1, f2⟩ := row3 hrow
      obtain ⟨W5, hW5⟩ : ∃ W5, ((wr.setCell ⟨rb, 0, none⟩ (.string m1)).setCell ⟨rb, 1, none⟩ (.int .i64 m2)).setCell ⟨rb, 2, none⟩ (.int .i64 m3) = W5 := ⟨_, rfl⟩
      have HE : Hid (MtTo w (meetT ⟨t, n, l, s⟩) (.returned (.tuple #[.agg #[.string m1, .int .i64 m2, .int .i64 m3], .bool true])) W5 ∧ W5.heap[rb]? = some (.cells #[.string m1, .int .i64 m2, .int .i64 m3] 35 (0, 0))) := by
        refine ⟨⟨by rw [hyes], ?_⟩, by rw [← hW5]; exact set3 hrow _ _ _⟩
        rw [← hW5]
        exact below3s (HB.out.1.trans (hb2w.mono HB.out.1.size)) (by have := HB.out; omega) _ _ _
      clear hmf hmok hrm hbw hb2w hyes hrow y0 y1 y2 y3
      go_wp2
      refine bodyPost_ret (v := .tuple #[.agg #[.string m1, .int .i64 m2, .int .i64 m3], .bool true]) ?_ rfl HE.out.1
      exact res_cv (fn := Tryd.f19) (p := 2) (q := 3) (by rfl) _ _ rb _ (by rfl) HE.out.2 infoC3
end Go.Proofs.YtcmdcmbiilfngaaDoor
