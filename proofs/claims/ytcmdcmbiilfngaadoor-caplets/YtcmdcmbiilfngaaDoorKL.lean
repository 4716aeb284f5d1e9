/- Walks over the document's both and Meet. -/
import Derived.Test.YtcmdcmbiilfngaaDoorKK
namespace Go.Proofs.YtcmdcmbiilfngaaDoor
open Go.RowKit
open Pt (placeL coversL meetL)
def bitR (a b v : Int) : Int := if (hasR a v && hasR b v) = true then v else 0
/-- The rights that two have, of the first k. -/
def bothTo (a b : Int) : Nat → Int
  | 0 => 0
  | 1 => bitR a b 1
  | 2 => bitR a b 1 + bitR a b 2
  | _ => bitR a b 1 + bitR a b 2 + bitR a b 4
theorem bothTo_3 (a b : Int) : bothTo a b 3 = bothR a b := rfl
theorem bitR_r {a b v : Int} (hv : 0 ≤ v) : 0 ≤ bitR a b v ∧ bitR a b v ≤ v := by unfold bitR; split <;> omega
theorem tdm {a v : Int} (ha : 0 ≤ a) (hv : 0 ≤ v) : 0 ≤ Int.tdiv a v ∧ Int.tdiv a v ≤ a := by
  rw [Int.tdiv_eq_ediv_of_nonneg ha]
  exact ⟨Int.ediv_nonneg ha hv, Int.ediv_le_self _ ha⟩
theorem hasR_t {a v : Int} (ha : 0 ≤ a) (hv : 0 ≤ v) : hasR a v = decide (Int.tmod (Int.tdiv a v) 2 = 1) := by
  unfold hasR
  rw [Int.tmod_eq_emod_of_nonneg (tdm ha hv).1, Int.tdiv_eq_ediv_of_nonneg ha]
theorem tm2 {q : Int} (h : 0 ≤ q) : 0 ≤ Int.tmod q 2 ∧ Int.tmod q 2 ≤ 1 := by rw [Int.tmod_eq_emod_of_nonneg h]; omega
set_option maxRecDepth 100000 in
set_option maxHeartbeats 2000000 in
theorem both_any (a b : Int) (w : World) (ha : 0 ≤ a ∧ a ≤ 7) (hb : 0 ≤ b ∧ b ≤ 7) : Calls Tryd.prog 38 #[.int .i64 a, .int .i64 b] w fun e w' => e = .returned (.int .i64 (bothR a b)) ∧ w' = w := by
  have HE : Hid (bothTo a b 3 = bothR a b) := bothTo_3 a b
  go_enter Tryd.func38, Tryd.ntmps38
  go_wp2
  go_loop [5, 6] (fun vn vr => ∃ k : Nat, k ≤ 3 ∧ vn = .int .i64 (bothTo a b k) ∧ vr = .int .i64 ((2 ^ k : Nat) : Int)) (fun _ vr => 9 - (intOf vr).toNat)
  case atStart => exact ⟨0, by omega, rfl, rfl⟩
  case round =>
    obtain ⟨k, hk, rfl, rfl⟩ := hrel
    have hk4 : k = 0 ∨ k = 1 ∨ k = 2 ∨ k = 3 := by omega
    rcases hk4 with rfl | rfl | rfl | rfl
    · obtain ⟨N, hN⟩ : ∃ N, bothTo a b 0 = N := ⟨_, rfl⟩
      have hNr : 0 ≤ N ∧ N ≤ 7 := by
        rw [← hN]
        have h1 := bitR_r (a := a) (b := b) (v := 1) (by omega)
        have h2 := bitR_r (a := a) (b := b) (v := 2) (by omega)
        simp only [bothTo]
        omega
      rw [hN]
      have hst : bothTo a b 1 = N + bitR a b 1 := by rw [← hN]; simp [bothTo]
      have hea : hasR a 1 = decide (Int.tmod (Int.tdiv a 1) 2 = 1) := hasR_t ha.1 (by omega)
      have heb : hasR b 1 = decide (Int.tmod (Int.tdiv b 1) 2 = 1) := hasR_t hb.1 (by omega)
      have ra := tdm (v := 1) ha.1 (by omega)
      have rb := tdm (v := 1) hb.1 (by omega)
      obtain ⟨qa, hqa⟩ : ∃ q, Int.tdiv a 1 = q := ⟨_, rfl⟩
      obtain ⟨qb, hqb⟩ : ∃ q, Int.tdiv b 1 = q := ⟨_, rfl⟩
      rw [hqa] at hea ra
      rw [hqb] at heb rb
      have sa := tm2 ra.1
      have sb := tm2 rb.1
      obtain ⟨ma, hma⟩ : ∃ q, Int.tmod qa 2 = q := ⟨_, rfl⟩
      obtain ⟨mb, hmb⟩ : ∃ q, Int.tmod qb 2 = q := ⟨_, rfl⟩
      rw [hma] at hea sa
      rw [hmb] at heb sb
      have e2 : ((2 ^ 0 : Nat) : Int) = 1 := rfl
      rw [e2]
      clear e2
      by_cases h1 : ma = 1
      · by_cases h2 : mb = 1
        · have HS : Hid (bothTo a b 1 = N + 1) := by show _ = _; rw [hst]; unfold bitR; rw [hea, heb, decide_eq_true h1, decide_eq_true h2]; rfl
          clear hst hea heb hN
          go_wp2
          go_round
          case rel => exact ⟨1, by omega, by rw [HS.out], by first | rfl | go_num⟩
          case measure => simp [intOf]
        · have HS : Hid (bothTo a b 1 = N) := by show _ = _; rw [hst]; unfold bitR; rw [hea, heb, decide_eq_false h2, Bool.and_false]; simp
          have h2b : (mb == 1) = false := by simpa using h2
          clear hst hea heb hN
          go_wp2
          go_round
          case rel => exact ⟨1, by omega, by rw [HS.out], by first | rfl | go_num⟩
          case measure => simp [intOf]
      · have HS : Hid (bothTo a b 1 = N) := by show _ = _; rw [hst]; unfold bitR; rw [hea, heb, decide_eq_false h1, Bool.false_and]; simp
        have h1b : (ma == 1) = false := by simpa using h1
        clear hst hea heb hN
        go_wp2
        go_round
        case rel => exact ⟨1, by omega, by rw [HS.out], by first | rfl | go_num⟩
        case measure => simp [intOf]
    · obtain ⟨N, hN⟩ : ∃ N, bothTo a b 1 = N := ⟨_, rfl⟩
      have hNr : 0 ≤ N ∧ N ≤ 7 := by
        rw [← hN]
        have h1 := bitR_r (a := a) (b := b) (v := 1) (by omega)
        have h2 := bitR_r (a := a) (b := b) (v := 2) (by omega)
        simp only [bothTo]
        omega
      rw [hN]
      have hst : bothTo a b 2 = N + bitR a b 2 := by rw [← hN]; simp [bothTo]
      have hea : hasR a 2 = decide (Int.tmod (Int.tdiv a 2) 2 = 1) := hasR_t ha.1 (by omega)
      have heb : hasR b 2 = decide (Int.tmod (Int.tdiv b 2) 2 = 1) := hasR_t hb.1 (by omega)
      have ra := tdm (v := 2) ha.1 (by omega)
      have rb := tdm (v := 2) hb.1 (by omega)
      obtain ⟨qa, hqa⟩ : ∃ q, Int.tdiv a 2 = q := ⟨_, rfl⟩
      obtain ⟨qb, hqb⟩ : ∃ q, Int.tdiv b 2 = q := ⟨_, rfl⟩
      rw [hqa] at hea ra
      rw [hqb] at heb rb
      have sa := tm2 ra.1
      have sb := tm2 rb.1
      obtain ⟨ma, hma⟩ : ∃ q, Int.tmod qa 2 = q := ⟨_, rfl⟩
      obtain ⟨mb, hmb⟩ : ∃ q, Int.tmod qb 2 = q := ⟨_, rfl⟩
      rw [hma] at hea sa
      rw [hmb] at heb sb
      have e2 : ((2 ^ 1 : Nat) : Int) = 2 := rfl
      rw [e2]
      clear e2
      by_cases h1 : ma = 1
      · by_cases h2 : mb = 1
        · have HS : Hid (bothTo a b 2 = N + 2) := by show _ = _; rw [hst]; unfold bitR; rw [hea, heb, decide_eq_true h1, decide_eq_true h2]; rfl
          clear hst hea heb hN
          go_wp2
          go_round
          case rel => exact ⟨2, by omega, by rw [HS.out], by first | rfl | go_num⟩
          case measure => simp [intOf]
        · have HS : Hid (bothTo a b 2 = N) := by show _ = _; rw [hst]; unfold bitR; rw [hea, heb, decide_eq_false h2, Bool.and_false]; simp
          have h2b : (mb == 1) = false := by simpa using h2
          clear hst hea heb hN
          go_wp2
          go_round
          case rel => exact ⟨2, by omega, by rw [HS.out], by first | rfl | go_num⟩
          case measure => simp [intOf]
      · have HS : Hid (bothTo a b 2 = N) := by show _ = _; rw [hst]; unfold bitR; rw [hea, heb, decide_eq_false h1, Bool.false_and]; simp
        have h1b : (ma == 1) = false := by simpa using h1
        clear hst hea heb hN
        go_wp2
        go_round
        case rel => exact ⟨2, by omega, by rw [HS.out], by first | rfl | go_num⟩
        case measure => simp [intOf]
    · obtain ⟨N, hN⟩ : ∃ N, bothTo a b 2 = N := ⟨_, rfl⟩
      have hNr : 0 ≤ N ∧ N ≤ 7 := by
        rw [← hN]
        have h1 := bitR_r (a := a) (b := b) (v := 1) (by omega)
        have h2 := bitR_r (a := a) (b := b) (v := 2) (by omega)
        simp only [bothTo]
        omega
      rw [hN]
      have hst : bothTo a b 3 = N + bitR a b 4 := by rw [← hN]; simp [bothTo]
      have hea : hasR a 4 = decide (Int.tmod (Int.tdiv a 4) 2 = 1) := hasR_t ha.1 (by omega)
      have heb : hasR b 4 = decide (Int.tmod (Int.tdiv b 4) 2 = 1) := hasR_t hb.1 (by omega)
      have ra := tdm (v := 4) ha.1 (by omega)
      have rb := tdm (v := 4) hb.1 (by omega)
      obtain ⟨qa, hqa⟩ : ∃ q, Int.tdiv a 4 = q := ⟨_, rfl⟩
      obtain ⟨qb, hqb⟩ : ∃ q, Int.tdiv b 4 = q := ⟨_, rfl⟩
      rw [hqa] at hea ra
      rw [hqb] at heb rb
      have sa := tm2 ra.1
      have sb := tm2 rb.1
      obtain ⟨ma, hma⟩ : ∃ q, Int.tmod qa 2 = q := ⟨_, rfl⟩
      obtain ⟨mb, hmb⟩ : ∃ q, Int.tmod qb 2 = q := ⟨_, rfl⟩
      rw [hma] at hea sa
      rw [hmb] at heb sb
      have e2 : ((2 ^ 2 : Nat) : Int) = 4 := rfl
      rw [e2]
      clear e2
      by_cases h1 : ma = 1
      · by_cases h2 : mb = 1
        · have HS : Hid (bothTo a b 3 = N + 4) := by show _ = _; rw [hst]; unfold bitR; rw [hea, heb, decide_eq_true h1, decide_eq_true h2]; rfl
          clear hst hea heb hN
          go_wp2
          go_round
          case rel => exact ⟨3, by omega, by rw [HS.out], by first | rfl | go_num⟩
          case measure => simp [intOf]
        · have HS : Hid (bothTo a b 3 = N) := by show _ = _; rw [hst]; unfold bitR; rw [hea, heb, decide_eq_false h2, Bool.and_false]; simp
          have h2b : (mb == 1) = false := by simpa using h2
          clear hst hea heb hN
          go_wp2
          go_round
          case rel => exact ⟨3, by omega, by rw [HS.out], by first | rfl | go_num⟩
          case measure => simp [intOf]
      · have HS : Hid (bothTo a b 3 = N) := by show _ = _; rw [hst]; unfold bitR; rw [hea, heb, decide_eq_false h1, Bool.false_and]; simp
        have h1b : (ma == 1) = false := by simpa using h1
        clear hst hea heb hN
        go_wp2
        go_round
        case rel => exact ⟨3, by omega, by rw [HS.out], by first | rfl | go_num⟩
        case measure => simp [intOf]
    · have e2 : ((2 ^ 3 : Nat) : Int) = 8 := rfl
      rw [e2]
      clear e2
      obtain ⟨N, hN⟩ : ∃ N, bothTo a b 3 = N := ⟨_, rfl⟩
      have HN : Hid (N = bothR a b) := by show _ = _; rw [← hN]; exact HE.out
      rw [hN]
      clear hN HE
      go_wp2
      go_ret
      exact ⟨by rw [← HN.out]; rfl, rfl⟩
set_option maxRecDepth 100000 in
set_option maxHeartbeats 4000000 in
theorem rmeet_tk {w : World} {a : Option Addr} {ln cp : Nat} {l : List Cv} (t n : Int) (s : ByteArray) (h : Kw w a ln cp l) (hp : ∀ c ∈ l, c.path.size ≤ 9223372036854775807) : Calls Tryd.prog 20 #[.agg #[.int .i64 t, .int .i64 n, .slice a ln cp, .string s]] w fun e w' => MtTo w (meetT ⟨t, n, l, s⟩) e w' := by
  have hl := h.len
  have hmx := h.max
  obtain ⟨pb, hpb⟩ : ∃ pb, w.heap.size = pb := ⟨_, rfl⟩
  obtain ⟨V1, hV1, r1, hb1⟩ := box_tk (w := w) t n a ln cp s
  obtain ⟨rb, hrb⟩ : ∃ rb, V1.heap.size = rb := ⟨_, rfl⟩
  obtain ⟨V2, hV2, r2, hb2⟩ := box_cv (w := V1) ⟨#[]⟩ 0 0
  have hq1 : pb + 1 = rb := by rw [← hrb, ← hV1, ← hpb]; simp
  rw [hpb] at r1
  rw [hrb] at r2
  have r1' : V2.heap[pb]? = some (.cells #[.int .i64 t, .int .i64 n, .slice a ln cp, .string s] 25 (0, 0)) := by
    rw [hb2.block pb (by omega)]
    exact r1
  have HK : Hid (∀ W, Below V2.heap.size V2 W → W.heap[pb]? = some (.cells #[.int .i64 t, .int .i64 n, .slice a ln cp, .string s] 25 (0, 0)) ∧ W.heap[rb]? = some (.cells #[.string ⟨#[]⟩, .int .i64 0, .int .i64 0] 35 (0, 0))) := fun W hW => ⟨(hW.block pb (lt_of_some r1')).trans r1', (hW.block rb (lt_of_some r2)).trans r2⟩
  have hB0 : Below w.heap.size w V2 := hb1.trans (hb2.mono hb1.size)
  have HB : Hid (Below w.heap.size w V2 ∧ w.heap.size ≤ rb ∧ w.heap.size = pb ∧ pb + 1 = rb ∧ V2.heap.size = rb + 1) := ⟨hB0, by omega, hpb, hq1, by rw [← hV2, ← hrb]; simp⟩
  obtain ⟨mb, hmb⟩ : ∃ mb, V2.heap.size = mb := ⟨_, rfl⟩
  obtain ⟨V4, hV4, r4, hb4⟩ := box_cv (w := V2) ⟨#[]⟩ 7 1099511627776
  have hq2 : rb + 1 = mb := by rw [← hmb, ← hV2, ← hrb]; simp
  rw [hmb] at r4
  have HM := rmay_any t n s (h.below (hB0.trans (hb4.mono hB0.size))) hp
  have HR : Hid ((∀ W, Below V2.heap.size V2 W → Kw W a ln cp l) ∧ l.length = ln) := ⟨fun W hW => h.below (hB0.trans (hW.mono hB0.size)), hl⟩
  have H4 : Hid (Below V2.heap.size V2 V4 ∧ V4.heap[mb]? = some (.cells #[.string ⟨#[]⟩, .int .i64 7, .int .i64 1099511627776] 35 (0, 0)) ∧ V2.heap.size = mb) := ⟨hb4, r4, hmb⟩
  obtain ⟨y0, y1, y2, y3, _⟩ := row4 (HK.out V4 hb4).1
  clear r1 r2 r4 r1' hb1 hb2 hb4 hB0 h hl
  unfold YeTo at HM
  cases hm : mayT ⟨t, n, l, s⟩ with
  | false =>
    rw [hm] at HM
    have hno := meetT_none hm
    clear hm
    go_enter Tryd.func20, Tryd.ntmps20
    go_wp2_with fail
    refine HM.mono ?_
    rintro e V3 ⟨rfl, hb3⟩
    have hb3' : Below V2.heap.size V2 V3 := H4.out.1.trans (hb3.mono H4.out.1.size)
    have hrow := (HK.out V3 hb3').2
    have hBk : Below w.heap.size w V3 := HB.out.1.trans (hb3'.mono HB.out.1.size)
    clear HM hb3 hb3' y0 y1 y2 y3
    obtain ⟨x0, x1, x2, f0, f1, f2⟩ := row3 hrow
    obtain ⟨W5, hW5⟩ : ∃ W5, ((V3.setCell ⟨rb, 0, none⟩ (.string ⟨#[]⟩)).setCell ⟨rb, 1, none⟩ (.int .i64 0)).setCell ⟨rb, 2, none⟩ (.int .i64 0) = W5 := ⟨_, rfl⟩
    have HE : Hid (MtTo w (meetT ⟨t, n, l, s⟩) (.returned (.tuple #[.agg #[.string ⟨#[]⟩, .int .i64 0, .int .i64 0], .bool false])) W5 ∧ W5.heap[rb]? = some (.cells #[.string ⟨#[]⟩, .int .i64 0, .int .i64 0] 35 (0, 0))) := by
      refine ⟨?_, by rw [← hW5]; exact set3 hrow _ _ _⟩
      rw [hno, ← hW5]
      exact ⟨rfl, below3s hBk (by have := HB.out; omega) _ _ _⟩
    clear hrow hno hBk
    go_wp2
    refine bodyPost_ret (v := .tuple #[.agg #[.string ⟨#[]⟩, .int .i64 0, .int .i64 0], .bool false]) ?_ rfl HE.out.1
    exact res_cv (fn := Tryd.f20) (p := 2) (q := 3) (by rfl) _ _ rb _ (by rfl) HE.out.2 infoC3
  | true =>
    rw [hm] at HM
    have hmi := may_iff.1 hm
    simp only at hmi
    have hl8 : ln ≤ 8 := by rw [← HR.out.2]; exact hmi.2.1
    have HOK : Hid ((∀ c ∈ l, c.ok = true) ∧ mayT ⟨t, n, l, s⟩ = true) := ⟨hmi.2.2.2, hm⟩
    clear hm hmi
    go_enter Tryd.func20, Tryd.ntmps20
    go_wp2_with fail
    refine HM.mono ?_
    rintro e V3 ⟨rfl, hb3⟩
    have hb3' : Below V2.heap.size V2 V3 := H4.out.1.trans (hb3.mono H4.out.1.size)
    have HM3 : Hid (V3.heap[mb]? = some (.cells #[.string ⟨#[]⟩, .int .i64 7, .int .i64 1099511627776] 35 (0, 0)) ∧ Below V2.heap.size V2 V3) := ⟨(hb3.block mb (lt_of_some H4.out.2.1)).trans H4.out.2.1, hb3'⟩
    clear HM y0 y1 y2 y3
    obtain ⟨y0, y1, y2, y3, _⟩ := row4 (HK.out V3 hb3').1
    clear hb3 hb3'
    go_wp2
    go_loopw [5] (fun v wr => ∃ (i : Nat) (m : Cv), i ≤ ln ∧ v = .int .i64 i ∧ meetF (l.take i) = some m ∧ m.ok = true ∧ wr.heap[mb]? = some (.cells #[.string m.path, .int .i64 m.rights, .int .i64 m.til] 35 (0, 0)) ∧ Below V2.heap.size V2 wr) (fun v _ => ln - (intOf v).toNat)
    case atStart => exact ⟨0, topC, by omega, rfl, rfl, top_ok, HM3.out.1, HM3.out.2⟩
    case round =>
    obtain ⟨i, m, hi, rfl, hmf, hmok, hrm, hbw⟩ := hrel
    clear y0 y1 y2 y3
    have hb2w : Below V2.heap.size V2 wr := hbw
    obtain ⟨y0, y1, y2, y3, _⟩ := row4 (HK.out wr hb2w).1
    obtain ⟨m1, m2, m3⟩ := m
    by_cases hlt : i < ln
    · have kk : (i : Int) < (ln : Int) := by omega
      obtain ⟨ab, ao, rfl, _, hc⟩ := (HR.out.1 wr hb2w).at (by omega)
      obtain ⟨⟨c1, c2, c3⟩, hci⟩ : ∃ c, l[i]? = some c := ⟨_, List.getElem?_eq_getElem (by have := HR.out.2; omega)⟩
      obtain ⟨d0, d1, d2⟩ := hc i _ hci
      have hcok := HOK.out.1 _ (List.mem_of_getElem? hci)
      have hco := Cv.ok_iff.1 hcok
      have hcp := ok_path hcok
      have hmo := Cv.ok_iff.1 hmok
      have hmp := ok_path hmok
      simp only at d0 d1 d2 hco hcp hmo hmp hrm
      obtain ⟨V5, hV5, r5, hb5⟩ := box_cv (w := wr) c1 c2 c3
      obtain ⟨qb, hqb⟩ : ∃ qb, wr.heap.size = qb := ⟨_, rfl⟩
      rw [hqb] at r5
      have rm5 := (hb5.block mb (lt_of_some hrm)).trans hrm
      obtain ⟨e0, e1, e2, _⟩ := row3 r5
      obtain ⟨g0, g1, g2, _⟩ := row3 rm5
      have HC := Pt.rmeet_any m1 c1 V5 (by omega) (by omega)
      have hmc := meetF_take hci hmf
      have hmq : mb < qb := by have := lt_of_some hrm; omega
      have HBT : Hid (∀ W, Calls Tryd.prog 38 #[.int .i64 m2, .int .i64 c2] W fun e w' => e = .returned (.int .i64 (bothR m2 c2)) ∧ w' = W) := fun W => both_any m2 c2 W ⟨hmo.2.1, hmo.2.2.1⟩ ⟨hco.2.1, hco.2.2.1⟩
      have H5 : Hid (V5.heap[qb]? = some (.cells #[.string c1, .int .i64 c2, .int .i64 c3] 35 (0, 0)) ∧ V5.heap[mb]? = some (.cells #[.string m1, .int .i64 m2, .int .i64 m3] 35 (0, 0)) ∧ Below V2.heap.size V2 V5 ∧ mb < qb ∧ meetF (l.take (i + 1)) = meetC ⟨m1, m2, m3⟩ ⟨c1, c2, c3⟩ ∧ (⟨m1, m2, m3⟩ : Cv).ok = true ∧ (⟨c1, c2, c3⟩ : Cv).ok = true) := ⟨r5, rm5, hbw.trans (hb5.mono hbw.size), hmq, hmc, hmok, hcok⟩
      clear hc hci hcok hco hmo hmok hrm hbw hb2w hmf hb5 r5 rm5 hmc
      obtain ⟨P, hP⟩ : ∃ P, baOf (meetL m1.data.toList c1.data.toList).1 = P := ⟨_, rfl⟩
      have HC2 : Calls Tryd.prog 37 #[.string m1, .string c1] V5 fun e w' => e = .returned (.tuple #[.string P, .bool (meetL m1.data.toList c1.data.toList).2]) ∧ Below V5.heap.size V5 w' := by rw [← hP]; exact HC
      clear HC
      cases hme : (meetL m1.data.toList c1.data.toList).2 with
      | false =>
        rw [hme] at HC2
        have hno : meetT ⟨t, n, l, s⟩ = (zeroC, false) := meetT_no HOK.out.2 (meetF_stop (i + 1) (by rw [H5.out.2.2.2.2.1]; unfold meetC Cv.pl; simp only; rw [if_neg (by rw [hme]; decide)]))
        clear hme hP hmq
        go_wp2_with fail
        refine HC2.mono ?_
        rintro e V6 ⟨rfl, hb6⟩
        have hB6 : Below V2.heap.size V2 V6 := H5.out.2.2.1.trans (hb6.mono H5.out.2.2.1.size)
        have hrow := (HK.out V6 hB6).2
        have hBk : Below w.heap.size w V6 := HB.out.1.trans (hB6.mono HB.out.1.size)
        clear HC2 hb6 hB6 y0 y1 y2 y3 d0 d1 d2 e0 e1 e2 g0 g1 g2
        obtain ⟨x0, x1, x2, f0, f1, f2⟩ := row3 hrow
        obtain ⟨W5, hW5⟩ : ∃ W5, ((V6.setCell ⟨rb, 0, none⟩ (.string ⟨#[]⟩)).setCell ⟨rb, 1, none⟩ (.int .i64 0)).setCell ⟨rb, 2, none⟩ (.int .i64 0) = W5 := ⟨_, rfl⟩
        have HE : Hid (MtTo w (meetT ⟨t, n, l, s⟩) (.returned (.tuple #[.agg #[.string ⟨#[]⟩, .int .i64 0, .int .i64 0], .bool false])) W5 ∧ W5.heap[rb]? = some (.cells #[.string ⟨#[]⟩, .int .i64 0, .int .i64 0] 35 (0, 0))) := by
          refine ⟨?_, by rw [← hW5]; exact set3 hrow _ _ _⟩
          rw [hno, ← hW5]
          exact ⟨rfl, below3s hBk (by have := HB.out; omega) _ _ _⟩
        clear hrow hno hBk
        go_wp2
        refine bodyPost_ret (v := .tuple #[.agg #[.string ⟨#[]⟩, .int .i64 0, .int .i64 0], .bool false]) ?_ rfl HE.out.1
        exact res_cv (fn := Tryd.f20) (p := 2) (q := 3) (by rfl) _ _ rb _ (by rfl) HE.out.2 infoC3
      | true =>
        rw [hme] at HC2
        have hms : meetC ⟨m1, m2, m3⟩ ⟨c1, c2, c3⟩ = some ⟨P, bothR m2 c2, min m3 c3⟩ := by unfold meetC Cv.pl; simp only; rw [if_pos hme, hP]
        have hok2 := (meetC_some H5.out.2.2.2.2.2.1 H5.out.2.2.2.2.2.2 hms).1
        obtain ⟨Q, hQ⟩ : ∃ Q, bothR m2 c2 = Q := ⟨_, rfl⟩
        rw [hQ] at HBT hms hok2
        obtain ⟨U, hU⟩ : ∃ U, min m3 c3 = U := ⟨_, rfl⟩
        have HMS : Hid (meetF (l.take (i + 1)) = some ⟨P, Q, U⟩ ∧ (⟨P, Q, U⟩ : Cv).ok = true) := by rw [hU] at hms hok2; exact ⟨by rw [H5.out.2.2.2.2.1]; exact hms, hok2⟩
        have HU : Hid (min m3 c3 = U) := hU
        clear hme hP hms hok2 hQ hmq hU
        go_wp2_with fail
        refine HC2.mono ?_
        rintro e V6 ⟨rfl, hb6⟩
        have q6 := (hb6.block qb (lt_of_some H5.out.1)).trans H5.out.1
        have m6 := (hb6.block mb (lt_of_some H5.out.2.1)).trans H5.out.2.1
        clear e0 e1 e2 g0 g1 g2 d0 d1 d2 y0 y1 y2 y3
        obtain ⟨g0, g1, g2, f0, f1, f2⟩ := row3 m6
        obtain ⟨V7, hV7⟩ : ∃ V7, V6.setCell ⟨mb, 0, none⟩ (.string P) = V7 := ⟨_, rfl⟩
        have m7 : V7.heap[mb]? = some (.cells #[.string P, .int .i64 m2, .int .i64 m3] 35 (0, 0)) := by rw [← hV7, heap_setCell_same _ _ _ _ _ _ m6]; rfl
        have q7 : V7.heap[qb]? = some (.cells #[.string c1, .int .i64 c2, .int .i64 c3] 35 (0, 0)) := by rw [← hV7, heap_setCell_other _ _ _ _ (by show qb ≠ mb; have := H5.out.2.2.2.1; omega)]; exact q6
        have hB7 : Below V2.heap.size V2 V7 := by rw [← hV7]; exact (H5.out.2.2.1.trans (hb6.mono H5.out.2.2.1.size)).setCell (Nat.le_of_eq H4.out.2.2) _
        obtain ⟨j0, j1, j2, l0, l1, l2⟩ := row3 m7
        obtain ⟨k0, k1, k2, _⟩ := row3 q7
        have HBO := HBT.out V7
        have H7 : Hid (V7.heap[mb]? = some (.cells #[.string P, .int .i64 m2, .int .i64 m3] 35 (0, 0)) ∧ V7.heap[qb]? = some (.cells #[.string c1, .int .i64 c2, .int .i64 c3] 35 (0, 0)) ∧ Below V2.heap.size V2 V7) := ⟨m7, q7, hB7⟩
        clear HC2 hb6 q6 m6 m7 q7 hB7
        go_wp2_with fail
        refine HBO.mono ?_
        rintro e V8 ⟨rfl, hV8⟩
        subst V8
        clear HBO g0 g1 g2 f0 f1 f2
        obtain ⟨V9, hV9⟩ : ∃ V9, V7.setCell ⟨mb, 1, none⟩ (.int .i64 Q) = V9 := ⟨_, rfl⟩
        have m9 : V9.heap[mb]? = some (.cells #[.string P, .int .i64 Q, .int .i64 m3] 35 (0, 0)) := by rw [← hV9, heap_setCell_same _ _ _ _ _ _ H7.out.1]; rfl
        have q9 : V9.heap[qb]? = some (.cells #[.string c1, .int .i64 c2, .int .i64 c3] 35 (0, 0)) := by rw [← hV9, heap_setCell_other _ _ _ _ (by show qb ≠ mb; have := H5.out.2.2.2.1; omega)]; exact H7.out.2.1
        have hB9 : Below V2.heap.size V2 V9 := by rw [← hV9]; exact H7.out.2.2.setCell (Nat.le_of_eq H4.out.2.2) _
        obtain ⟨n0, n1, n2, _, _, o2⟩ := row3 m9
        obtain ⟨s0, s1, s2, _⟩ := row3 q9
        by_cases hcm : c3 < m3
        · have hcd : decide (c3 < m3) = true := decide_eq_true hcm
          obtain ⟨W7, hW7⟩ : ∃ W7, V9.setCell ⟨mb, 2, none⟩ (.int .i64 c3) = W7 := ⟨_, rfl⟩
          have H8 : Hid (W7.heap[mb]? = some (.cells #[.string P, .int .i64 Q, .int .i64 U] 35 (0, 0)) ∧ Below V2.heap.size V2 W7) := by
            refine ⟨?_, by rw [← hW7]; exact hB9.setCell (Nat.le_of_eq H4.out.2.2) _⟩
            have hU2 : U = c3 := by have := HU.out; omega
            rw [hU2, ← hW7, heap_setCell_same _ _ _ _ _ _ m9]
            rfl
          clear m9 q9 hB9
          go_wp2
          exact ⟨⟨i + 1, ⟨P, Q, U⟩, by omega, by go_num, HMS.out.1, HMS.out.2, H8.out.1, H8.out.2⟩, by simp [intOf]; omega⟩
        · have hcd : decide (c3 < m3) = false := decide_eq_false hcm
          have H8 : Hid (V9.heap[mb]? = some (.cells #[.string P, .int .i64 Q, .int .i64 U] 35 (0, 0)) ∧ Below V2.heap.size V2 V9) := by
            have hU2 : U = m3 := by have := HU.out; omega
            rw [hU2]
            exact ⟨m9, hB9⟩
          clear m9 q9 hB9
          go_wp2
          exact ⟨⟨i + 1, ⟨P, Q, U⟩, by omega, by go_num, HMS.out.1, HMS.out.2, H8.out.1, H8.out.2⟩, by simp [intOf]; omega⟩
    · obtain rfl : i = ln := by omega
      have kk : ¬ (i : Int) < (i : Int) := by omega
      rw [List.take_of_length_le (by have := HR.out.2; omega)] at hmf
      simp only at hrm
      have hyes : meetT ⟨t, n, l, s⟩ = (⟨m1, m2, m3⟩, true) := meetT_yes HOK.out.2 hmf
      obtain ⟨g0, g1, g2, _⟩ := row3 hrm
      have hrow := (HK.out wr hb2w).2
      obtain ⟨x0, x1, x2, f0, f1, f2⟩ := row3 hrow
      obtain ⟨W5, hW5⟩ : ∃ W5, ((wr.setCell ⟨rb, 0, none⟩ (.string m1)).setCell ⟨rb, 1, none⟩ (.int .i64 m2)).setCell ⟨rb, 2, none⟩ (.int .i64 m3) = W5 := ⟨_, rfl⟩
      have HE : Hid (MtTo w (meetT ⟨t, n, l, s⟩) (.returned (.tuple #[.agg #[.string m1, .int .i64 m2, .int .i64 m3], .bool true])) W5 ∧ W5.heap[rb]? = some (.cells #[.string m1, .int .i64 m2, .int .i64 m3] 35 (0, 0))) := by
        refine ⟨⟨by rw [hyes], ?_⟩, by rw [← hW5]; exact set3 hrow _ _ _⟩
        rw [← hW5]
        exact below3s (HB.out.1.trans (hb2w.mono HB.out.1.size)) (by have := HB.out; omega) _ _ _
      clear hmf hmok hrm hbw hb2w hyes hrow
      go_wp2
      refine bodyPost_ret (v := .tuple #[.agg #[.string m1, .int .i64 m2, .int .i64 m3], .bool true]) ?_ rfl HE.out.1
      exact res_cv (fn := Tryd.f20) (p := 2) (q := 3) (by rfl) _ _ rb _ (by rfl) HE.out.2 infoC3
end Go.Proofs.YtcmdcmbiilfngaaDoor
