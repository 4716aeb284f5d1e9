/- Walks over slices.Equal of entries, and over the program's Follows. -/
import Derived.Test.YtkhidkilkbmpoaaDoorRC
import Derived.Test.YtkhidkilkbmpoaaDoorQG
namespace Go.Proofs.YtkhidkilkbmpoaaDoor
open Go.RowKit
theorem strOf_inj {a b : List UInt8} (h : strOf a = strOf b) : a = b := by
  have := congrArg (fun x : ByteArray => x.data.toList) h
  simpa [strOf] using this
theorem Ew.off {w : World} {a : Option Addr} {len cap : Nat} {l : List En} (h : Ew w a len cap l) (j : Nat) (hj : j ≤ len) : Ew w (cutA a cap j 5) (len - j) (cap - j) (l.drop j) := by
  have h5 := Rw.drop h j hj
  unfold enR at h5
  rw [fm_drop enC_len] at h5
  exact h5
set_option maxRecDepth 100000 in
set_option maxHeartbeats 2000000 in
theorem sleq_any {w : World} {a : Option Addr} {ln cp : Nat} {l : List En} {b : Option Addr} {lm cq : Nat} {k : List En} (ha : Ew w a ln cp l) (hb : Ew w b lm cq k) : Calls Tryd.prog 40 #[.slice a ln cp, .slice b lm cq] w fun e w' => YeTo w (decide (l = k)) e w' := by
  have hla := ha.len
  have hlb := hb.len
  have hmx := ha.max
  have HR : Hid ((∀ W, Below w.heap.size w W → Ew W a ln cp l ∧ Ew W b lm cq k) ∧ l.length = ln ∧ k.length = lm) := ⟨fun W hW => ⟨ha.below hW, hb.below hW⟩, hla, hlb⟩
  clear ha hb
  by_cases h4 : ln = lm
  · subst h4
    clear hla hlb
    go_enter Tryd.func40, Tryd.ntmps40
    go_wp2
    go_loopw [13] (fun v wr => ∃ i : Nat, i ≤ ln ∧ v = .int .i64 i ∧ l.take i = k.take i ∧ Below w.heap.size w wr) (fun v _ => ln - (intOf v).toNat)
    case atStart => exact ⟨0, by omega, rfl, rfl, Below.refl _ _⟩
    case round =>
    obtain ⟨i, hi, rfl, htk, hbw⟩ := hrel
    by_cases hlt : i < ln
    · have kk : (i : Int) < (ln : Int) := by omega
      obtain ⟨h5, h6⟩ := HR.out.1 wr hbw
      obtain ⟨ab, ao, rfl, _, hc⟩ := h5.at (by omega)
      obtain ⟨bb, bo, rfl, _, hd⟩ := h6.at (by omega)
      obtain ⟨⟨p1, p2, p3, p4, p5⟩, hp⟩ : ∃ p, l[i]? = some p := ⟨_, List.getElem?_eq_getElem (by have := HR.out.2.1; omega)⟩
      obtain ⟨⟨q1, q2, q3, q4, q5⟩, hq⟩ : ∃ q, k[i]? = some q := ⟨_, List.getElem?_eq_getElem (by have := HR.out.2.2; omega)⟩
      obtain ⟨c1, c2, c3, c4, c5⟩ := hc i _ hp
      obtain ⟨d1, d2, d3, d4, d5⟩ := hd i _ hq
      simp only at c1 c2 c3 c4 c5 d1 d2 d3 d4 d5
      have he := fun W => eqin_en ⟨p1, p2, p3, p4, p5⟩ ⟨q1, q2, q3, q4, q5⟩ W
      simp only at he
      obtain ⟨y, hy⟩ : ∃ y, decide ((⟨p1, p2, p3, p4, p5⟩ : En) = ⟨q1, q2, q3, q4, q5⟩) = y := ⟨_, rfl⟩
      rw [hy] at he
      have HE : Hid (decide ((⟨p1, p2, p3, p4, p5⟩ : En) = ⟨q1, q2, q3, q4, q5⟩) = y ∧ l[i]? = some ⟨p1, p2, p3, p4, p5⟩ ∧ k[i]? = some ⟨q1, q2, q3, q4, q5⟩ ∧ l.take i = k.take i ∧ Below w.heap.size w wr) := ⟨hy, hp, hq, htk, hbw⟩
      clear hc hd hp hq hy htk hbw h5 h6
      cases y with
      | true =>
        go_wp2
        go_quiet (fail)
        go_wp2
        refine ⟨⟨i + 1, by omega, by go_num, ?_, below_drewK HE.out.2.2.2.2 _⟩, by simp [intOf]; omega⟩
        have h7 := of_decide_eq_true HE.out.1
        rw [take_snocK HE.out.2.1, take_snocK HE.out.2.2.1, HE.out.2.2.2.1, h7]
      | false =>
        have hne : ¬ l = k := fun e => by
          have h5 := HE.out.2.1
          rw [e, HE.out.2.2.1] at h5
          exact of_decide_eq_false HE.out.1 (Option.some.inj h5).symm
        have HF : Hid (∀ j, YeTo w (decide (l = k)) (.returned (.bool false)) (wr.drewN j)) := fun j => ⟨by rw [decide_eq_false hne], below_drewK HE.out.2.2.2.2 _⟩
        clear hne
        go_wp2
        go_quiet (fail)
        go_wp2
        go_ret
        exact HF.out _
    · obtain rfl : i = ln := by omega
      have kk : ¬ (i : Int) < (i : Int) := by omega
      have HE : Hid (YeTo w (decide (l = k)) (.returned (.bool true)) wr) := by
        refine ⟨?_, hbw⟩
        rw [List.take_of_length_le (by have := HR.out.2.1; omega), List.take_of_length_le (by have := HR.out.2.2; omega)] at htk
        rw [decide_eq_true htk]
      clear htk hbw
      go_wp2
      go_ret
      exact HE.out
  · have hne : ¬ l = k := fun e => by rw [e] at hla; omega
    have HE : Hid (YeTo w (decide (l = k)) (.returned (.bool false)) w) := ⟨by rw [decide_eq_false hne], Below.refl _ _⟩
    have k4 : ¬ (ln : Int) = (lm : Int) := by omega
    have k4b : ((ln : Int) == (lm : Int)) = false := by simpa using k4
    have k4m : ((ln : Int) != (lm : Int)) = true := by simpa using k4
    clear hne hla hlb
    go_enter Tryd.func40, Tryd.ntmps40
    go_wp2
    go_ret
    exact HE.out
set_option maxRecDepth 100000 in
set_option maxHeartbeats 4000000 in
theorem afol_any {w : World} {a : Option Addr} {ln cp : Nat} {l : List En} {b : Option Addr} {lm cq : Nat} {k : List En} (s : ByteArray) (n : Int) (r : ByteArray) (m : Int) (ha : Ew w a ln cp l) (hb : Ew w b lm cq k) (hL : Laid w) : Calls Tryd.prog 25 #[.agg #[.string s, .int .i64 n, .slice a ln cp], .agg #[.string r, .int .i64 m, .slice b lm cq]] w fun e w' => YeTo w (folA ⟨s, n, l⟩ ⟨r, m, k⟩) e w' := by
  have hla := ha.len
  have hlb := hb.len
  obtain ⟨pb, hpb⟩ : ∃ pb, w.heap.size = pb := ⟨_, rfl⟩
  obtain ⟨V1, hV1, r1, hb1⟩ := box_au 27 (w := w) s n a ln cp
  obtain ⟨qb, hqb⟩ : ∃ qb, V1.heap.size = qb := ⟨_, rfl⟩
  obtain ⟨V2, hV2, r2, hb2⟩ := box_au 27 (w := V1) r m b lm cq
  have hq1 : pb + 1 = qb := by rw [← hqb, ← hV1, ← hpb]; simp
  rw [hpb] at r1
  rw [hqb] at r2
  have r1' := (hb2.block pb (by omega)).trans r1
  have hB0 : Below w.heap.size w V2 := hb1.trans (hb2.mono hb1.size)
  have HK : Hid (∀ W, Below V2.heap.size V2 W → ((W.cell? ⟨pb, 0, none⟩ = some (.string s) ∧ W.cell? ⟨pb, 1, none⟩ = some (.int .i64 n) ∧ W.cell? ⟨pb, 2, none⟩ = some (.slice a ln cp)) ∧ (W.cell? ⟨qb, 0, none⟩ = some (.string r) ∧ W.cell? ⟨qb, 1, none⟩ = some (.int .i64 m) ∧ W.cell? ⟨qb, 2, none⟩ = some (.slice b lm cq))) ∧ Below w.heap.size w W) := fun W hW => by
    obtain ⟨x0, x1, x2, _⟩ := row3 ((hW.block pb (lt_of_some r1')).trans r1')
    obtain ⟨v0, v1, v2, _⟩ := row3 ((hW.block qb (lt_of_some r2)).trans r2)
    exact ⟨⟨⟨x0, x1, x2⟩, v0, v1, v2⟩, hB0.trans (hW.mono hB0.size)⟩
  obtain ⟨⟨⟨y0, y1, y2⟩, z0, z1, z2⟩, _⟩ := HK.out V2 (Below.refl _ _)
  have HR : Hid ((∀ W, Below w.heap.size w W → Ew W a ln cp l ∧ Ew W b lm cq k ∧ Laid W) ∧ l.length = ln ∧ k.length = lm) := ⟨fun W hW => ⟨ha.below hW, hb.below hW, hL.below hW⟩, hla, hlb⟩
  have HM1 := amay_any s n (ha.below hB0)
  have HMB : Hid (∀ W, Below w.heap.size w W → Calls Tryd.prog 15 #[.agg #[.string r, .int .i64 m, .slice b lm cq]] W fun e w' => e = .returned (.bool (mayA ⟨r, m, k⟩)) ∧ Below W.heap.size W w') := fun W hW => amay_any r m (hb.below hW)
  unfold YeTo at HM1
  clear r1 r2 r1' hb1 hb2 hB0 ha hb hL hla hlb
  cases hm1 : mayA ⟨s, n, l⟩ with
  | false =>
    rw [hm1] at HM1
    have HX : Hid (folA ⟨s, n, l⟩ ⟨r, m, k⟩ = false) := fol_no (fun h => by rw [hm1] at h; exact absurd h.1 (by decide))
    clear hm1
    go_enter Tryd.func25, Tryd.ntmps25
    go_wp2_with fail
    refine HM1.mono ?_
    rintro e V3 ⟨rfl, hb3⟩
    have H3 : Hid (Below V2.heap.size V2 V3) := hb3
    clear HM1 hb3
    have HE : Hid (YeTo w (folA ⟨s, n, l⟩ ⟨r, m, k⟩) (.returned (.bool false)) V3) := ⟨by rw [HX.out], (HK.out V3 H3.out).2⟩
    go_wp2
    go_ret
    exact HE.out
  | true =>
    rw [hm1] at HM1
    cases hm2 : mayA ⟨r, m, k⟩ with
    | false =>
      rw [hm2] at HMB
      have HX : Hid (folA ⟨s, n, l⟩ ⟨r, m, k⟩ = false) := fol_no (fun h => by rw [hm2] at h; exact absurd h.2.1 (by decide))
      clear hm1 hm2
      go_enter Tryd.func25, Tryd.ntmps25
      go_wp2_with fail
      refine HM1.mono ?_
      rintro e V3 ⟨rfl, hb3⟩
      have H3 : Hid (Below V2.heap.size V2 V3) := hb3
      clear HM1 hb3
      clear z0 z1 z2
      obtain ⟨⟨_, z0, z1, z2⟩, hw3⟩ := HK.out V3 H3.out
      have HM2 := HMB.out V3 hw3
      clear hw3 y0 y1 y2
      go_wp2_with fail
      refine HM2.mono ?_
      rintro e V4 ⟨rfl, hb4⟩
      have H4 : Hid (Below V2.heap.size V2 V4) := H3.out.trans (hb4.mono H3.out.size)
      clear HM2 hb4 z0 z1 z2
      obtain ⟨⟨⟨y0, y1, y2⟩, z0, z1, z2⟩, _⟩ := HK.out V4 H4.out
      have HE : Hid (YeTo w (folA ⟨s, n, l⟩ ⟨r, m, k⟩) (.returned (.bool false)) V4) := ⟨by rw [HX.out], (HK.out V4 H4.out).2⟩
      go_wp2
      go_ret
      exact HE.out
    | true =>
      rw [hm2] at HMB
      have hi1 := mayA_iff.1 hm1
      have hi2 := mayA_iff.1 hm2
      simp only at hi1 hi2
      by_cases hgt : m < n
      · have HX : Hid (folA ⟨s, n, l⟩ ⟨r, m, k⟩ = false) := fol_no (fun h => by have h9 : n ≤ m := h.2.2; omega)
        clear hm1 hm2 hi1 hi2
        go_enter Tryd.func25, Tryd.ntmps25
        go_wp2_with fail
        refine HM1.mono ?_
        rintro e V3 ⟨rfl, hb3⟩
        have H3 : Hid (Below V2.heap.size V2 V3) := hb3
        clear HM1 hb3
        clear z0 z1 z2
        obtain ⟨⟨_, z0, z1, z2⟩, hw3⟩ := HK.out V3 H3.out
        have HM2 := HMB.out V3 hw3
        clear hw3 y0 y1 y2
        go_wp2_with fail
        refine HM2.mono ?_
        rintro e V4 ⟨rfl, hb4⟩
        have H4 : Hid (Below V2.heap.size V2 V4) := H3.out.trans (hb4.mono H3.out.size)
        clear HM2 hb4 z0 z1 z2
        obtain ⟨⟨⟨y0, y1, y2⟩, z0, z1, z2⟩, _⟩ := HK.out V4 H4.out
        have HE : Hid (YeTo w (folA ⟨s, n, l⟩ ⟨r, m, k⟩) (.returned (.bool false)) V4) := ⟨by rw [HX.out], (HK.out V4 H4.out).2⟩
        go_wp2
        go_ret
        exact HE.out
      · have hlm8 : lm ≤ 8 := by have := HR.out.2.2; omega
        have hln8 : ln ≤ 8 := by have := HR.out.2.1; omega
        have w1 : IntKind.i64.wrap (m - (lm : Int)) = m - (lm : Int) := by rw [IntKind.wrap_i64]; omega
        by_cases hfar : n < m - (lm : Int)
        · have HX : Hid (folA ⟨s, n, l⟩ ⟨r, m, k⟩ = true) := fol_far hm1 hm2 (by show n ≤ m; omega) (by show n < m - (k.length : Int); rw [HR.out.2.2]; exact hfar)
          obtain ⟨v, hv⟩ : ∃ v, n - (m - (lm : Int)) = v := ⟨_, rfl⟩
          have w2 : IntKind.i64.wrap (n - (m - (lm : Int))) = v := by rw [IntKind.wrap_i64]; omega
          have kv : v < 0 := by omega
          clear hm1 hm2 hi1 hi2 hfar hv
          go_enter Tryd.func25, Tryd.ntmps25
          go_wp2_with fail
          refine HM1.mono ?_
          rintro e V3 ⟨rfl, hb3⟩
          have H3 : Hid (Below V2.heap.size V2 V3) := hb3
          clear HM1 hb3
          clear z0 z1 z2
          obtain ⟨⟨_, z0, z1, z2⟩, hw3⟩ := HK.out V3 H3.out
          have HM2 := HMB.out V3 hw3
          clear hw3 y0 y1 y2
          go_wp2_with fail
          refine HM2.mono ?_
          rintro e V4 ⟨rfl, hb4⟩
          have H4 : Hid (Below V2.heap.size V2 V4) := H3.out.trans (hb4.mono H3.out.size)
          clear HM2 hb4 z0 z1 z2
          obtain ⟨⟨⟨y0, y1, y2⟩, z0, z1, z2⟩, _⟩ := HK.out V4 H4.out
          have HE : Hid (YeTo w (folA ⟨s, n, l⟩ ⟨r, m, k⟩) (.returned (.bool true)) V4) := ⟨by rw [HX.out], (HK.out V4 H4.out).2⟩
          go_wp2
          go_ret
          exact HE.out
        · obtain ⟨c, hc⟩ : ∃ c : Nat, (c : Int) = n - (m - (lm : Int)) := ⟨(n - (m - (lm : Int))).toNat, by omega⟩
          obtain ⟨hca, hcb, hfo⟩ := fol_near (c := c) hm1 hm2 (show n ≤ m by omega) (by show (c : Int) = n - (m - (k.length : Int)); rw [HR.out.2.2]; exact hc)
          simp only at hca hcb hfo
          rw [HR.out.2.1] at hca hfo
          rw [HR.out.2.2] at hcb
          have hcb2 : c ≤ 8 := by omega
          have w2 : IntKind.i64.wrap (n - (m - (lm : Int))) = (c : Int) := by rw [IntKind.wrap_i64]; omega
          have kv : ¬ (c : Int) < 0 := by omega
          obtain ⟨d, hd⟩ : ∃ d, ln - c = d := ⟨_, rfl⟩
          rw [hd] at hfo
          have hdl : d ≤ ln := by omega
          have hlnd : ln - d = c := by omega
          have w3 : IntKind.i64.wrap ((ln : Int) - (c : Int)) = (d : Int) := by rw [IntKind.wrap_i64]; omega
          obtain ⟨A2, hA2⟩ : ∃ x, cutA a cp d 5 = x := ⟨_, rfl⟩
          obtain ⟨C2, hC2⟩ : ∃ x, cp - d = x := ⟨_, rfl⟩
          obtain ⟨B2, hB2⟩ : ∃ x, cutA b cq 0 5 = x := ⟨_, rfl⟩
          have hcq : lm ≤ cq := (HR.out.1 w (Below.refl _ _)).2.1.cap
          have hs1 : ∀ W, (Instr.sliceAt 22 (.slice b lm cq) none (some (.int .i64 (c : Int))) none).run Tryd.prog W = .ok (.slice B2 c cq) W := fun W => by rw [← hB2]; exact pre_ents b lm cq c (by omega) W
          have hs2 : ∀ W, (Instr.sliceAt 22 (.slice a ln cp) (some (.int .i64 (d : Int))) none none).run Tryd.prog W = .ok (.slice A2 c C2) W := fun W => by rw [← hA2, ← hC2, ← hlnd]; exact off_ents a ln cp d hdl W
          obtain ⟨eq, heq⟩ : ∃ x, decide (l.drop d = k.take c) = x := ⟨_, rfl⟩
          rw [heq] at hfo
          have HEW : Hid (∀ W, Below w.heap.size w W → Ew W A2 c C2 (l.drop d) ∧ Ew W B2 c cq (k.take c)) := fun W hW => by
            rw [← hA2, ← hC2, ← hB2]
            have h9 := (HR.out.1 W hW).1.off d hdl
            rw [hlnd] at h9
            exact ⟨h9, (HR.out.1 W hW).2.1.pre c hcb⟩
          have HQ0 : Hid (∀ W, Below w.heap.size w W → Calls Tryd.prog 40 #[.slice A2 c C2, .slice B2 c cq] W fun e w' => e = .returned (.bool eq) ∧ Below W.heap.size W w') := fun W hW => by
            rw [← heq]
            exact sleq_any (HEW.out W hW).1 (HEW.out W hW).2
          obtain ⟨Z1, hZ1⟩ : ∃ x, strOf (chA s.data.toList l) = x := ⟨_, rfl⟩
          obtain ⟨Z2, hZ2⟩ : ∃ x, strOf (chA r.data.toList (k.take c)) = x := ⟨_, rfl⟩
          have HD0 : Hid (∀ W, Below w.heap.size w W → Calls Tryd.prog 20 #[.agg #[.string s, .int .i64 n, .slice a ln cp]] W fun e w' => e = .returned (.string Z1) ∧ Below W.heap.size W w') := fun W hW => by
            have h9 := adig_any s n (HR.out.1 W hW).1 (HR.out.1 W hW).2.2
            have h8 : digA ⟨s, n, l⟩ = chA s.data.toList l := by unfold digA; rw [if_pos hm1]
            rw [h8] at h9
            unfold StTo at h9
            rw [hZ1] at h9
            exact h9
          have HC0 : Hid (∀ W, Below w.heap.size w W → Calls Tryd.prog 34 #[.string r, .slice B2 c cq] W fun e w' => e = .returned (.string Z2) ∧ Below W.heap.size W w') := fun W hW => by
            have h9 := ach_any r W (HEW.out W hW).2 (by omega) (by omega) (fun e he => run_ok hi2.2.2.2.2 e (List.mem_of_mem_take he)) (HR.out.1 W hW).2.2
            unfold StTo at h9
            rw [hZ2] at h9
            exact h9
          have hzz : decide (chA s.data.toList l = chA r.data.toList (k.take c)) = decide (Z1 = Z2) := by
            rw [← hZ1, ← hZ2, Bool.eq_iff_iff, decide_eq_true_eq, decide_eq_true_eq]
            exact ⟨fun h => by rw [h], fun h => strOf_inj h⟩
          rw [hzz] at hfo
          have HFO : Hid (folA ⟨s, n, l⟩ ⟨r, m, k⟩ = (eq && decide (Z1 = Z2))) := hfo
          clear hm1 hm2 hi1 hi2 hc hca hcb hfo hd hlnd hA2 hC2 hB2 hcq heq hZ1 hZ2 hzz
          cases eq with
          | false =>
            have HX : Hid (folA ⟨s, n, l⟩ ⟨r, m, k⟩ = false) := HFO.out
            go_enter Tryd.func25, Tryd.ntmps25
            go_wp2_with fail
            refine HM1.mono ?_
            rintro e V3 ⟨rfl, hb3⟩
            have H3 : Hid (Below V2.heap.size V2 V3) := hb3
            clear HM1 hb3
            clear z0 z1 z2
            obtain ⟨⟨_, z0, z1, z2⟩, hw3⟩ := HK.out V3 H3.out
            have HM2 := HMB.out V3 hw3
            clear hw3 y0 y1 y2
            go_wp2_with fail
            refine HM2.mono ?_
            rintro e V4 ⟨rfl, hb4⟩
            have H4 : Hid (Below V2.heap.size V2 V4) := H3.out.trans (hb4.mono H3.out.size)
            clear HM2 hb4 z0 z1 z2
            obtain ⟨⟨⟨y0, y1, y2⟩, z0, z1, z2⟩, _⟩ := HK.out V4 H4.out
            have HS : Hid (∀ W, Below V4.heap.size V4 W → ((W.cell? ⟨pb, 0, none⟩ = some (.string s) ∧ W.cell? ⟨pb, 1, none⟩ = some (.int .i64 n) ∧ W.cell? ⟨pb, 2, none⟩ = some (.slice a ln cp)) ∧ (W.cell? ⟨qb, 0, none⟩ = some (.string r) ∧ W.cell? ⟨qb, 1, none⟩ = some (.int .i64 m) ∧ W.cell? ⟨qb, 2, none⟩ = some (.slice b lm cq))) ∧ Below w.heap.size w W) := fun W hW => HK.out W (H4.out.trans (hW.mono H4.out.size))
            have HEQ : Hid (∀ W, Below V4.heap.size V4 W → Calls Tryd.prog 40 #[.slice A2 c C2, .slice B2 c cq] W fun e w' => e = .returned (.bool false) ∧ Below W.heap.size W w') := fun W hW => HQ0.out W (HS.out W hW).2
            have HDG : Hid (∀ W, Below V4.heap.size V4 W → Calls Tryd.prog 20 #[.agg #[.string s, .int .i64 n, .slice a ln cp]] W fun e w' => e = .returned (.string Z1) ∧ Below W.heap.size W w') := fun W hW => HD0.out W (HS.out W hW).2
            have HCH : Hid (∀ W, Below V4.heap.size V4 W → Calls Tryd.prog 34 #[.string r, .slice B2 c cq] W fun e w' => e = .returned (.string Z2) ∧ Below W.heap.size W w') := fun W hW => HC0.out W (HS.out W hW).2
            go_wp2
            refine wp_region_held_drew (S := fun W => (W.cell? ⟨pb, 0, none⟩ = some (.string s) ∧ W.cell? ⟨pb, 1, none⟩ = some (.int .i64 n) ∧ W.cell? ⟨pb, 2, none⟩ = some (.slice a ln cp)) ∧ (W.cell? ⟨qb, 0, none⟩ = some (.string r) ∧ W.cell? ⟨qb, 1, none⟩ = some (.int .i64 m) ∧ W.cell? ⟨qb, 2, none⟩ = some (.slice b lm cq))) (by kernel_rfl) ((HS.out V4.drew (Below.refl _ V4).drew).1) (fun hHeld => ?_)
            refine wpAnyH_take (i := 0) (v := ?va_0) rfl (by kernel_rfl) (by kernel_rfl) (by kernel_rfl) (fun _ _ _ h => h) (Or.inl ⟨by first | kernel_rfl | rfl, ?ya_0⟩) hHeld ?ra_0
            case ya_0 => (intro W hSW; (try dsimp only at hSW); go_simp; (try with_reducible rfl))
            change wpAnyH _ _ _ _ _ _ _ (Act.put _ (some 37) _) _
            simp only [Act.put, List.setIfInBounds_toArray, List.set_cons_zero, List.set_cons_succ]
            refine wpAnyH_take (i := 1) (v := ?va_1) rfl (by kernel_rfl) (by kernel_rfl) (by kernel_rfl) (fun _ _ _ h => h) (Or.inl ⟨by first | kernel_rfl | rfl, ?ya_1⟩) hHeld ?ra_1
            case ya_1 => (intro W hSW; (try dsimp only at hSW); go_simp; (try with_reducible rfl))
            change wpAnyH _ _ _ _ _ _ _ (Act.put _ (some 38) _) _
            simp only [Act.put, List.setIfInBounds_toArray, List.set_cons_zero, List.set_cons_succ]
            refine wpAnyH_take (i := 2) (v := ?va_2) rfl (by kernel_rfl) (by kernel_rfl) (by kernel_rfl) (fun _ _ _ h => h) (Or.inl ⟨by first | kernel_rfl | rfl, ?ya_2⟩) hHeld ?ra_2
            case ya_2 => (intro W hSW; (try dsimp only at hSW); go_simp; (try with_reducible rfl))
            change wpAnyH _ _ _ _ _ _ _ (Act.put _ (some 39) _) _
            simp only [Act.put, List.setIfInBounds_toArray, List.set_cons_zero, List.set_cons_succ]
            refine wpAnyH_take (i := 3) (v := ?va_3) rfl (by kernel_rfl) (by kernel_rfl) (by kernel_rfl) (fun _ _ _ h => h) (Or.inl ⟨by first | kernel_rfl | rfl, ?ya_3⟩) hHeld ?ra_3
            case ya_3 => (intro W hSW; (try dsimp only at hSW); go_simp; (try with_reducible rfl))
            change wpAnyH _ _ _ _ _ _ _ (Act.put _ (some 40) _) _
            simp only [Act.put, List.setIfInBounds_toArray, List.set_cons_zero, List.set_cons_succ]
            refine wpAnyH_take (i := 4) (v := ?va_4) rfl (by kernel_rfl) (by kernel_rfl) (by kernel_rfl) (fun _ _ _ h => h) (Or.inl ⟨by first | kernel_rfl | rfl, ?ya_4⟩) hHeld ?ra_4
            case ya_4 => (intro W hSW; (try dsimp only at hSW); go_simp; (try with_reducible rfl))
            change wpAnyH _ _ _ _ _ _ _ (Act.put _ (some 41) _) _
            simp only [Act.put, List.setIfInBounds_toArray, List.set_cons_zero, List.set_cons_succ]
            refine wpAnyH_take (i := 5) (v := ?va_5) rfl (by kernel_rfl) (by kernel_rfl) (by kernel_rfl) (fun _ _ _ h => h) (Or.inl ⟨by first | kernel_rfl | rfl, ?ya_5⟩) hHeld ?ra_5
            case ya_5 => (intro W hSW; (try dsimp only at hSW); go_simp; (try with_reducible rfl))
            change wpAnyH _ _ _ _ _ _ _ (Act.put _ (some 42) _) _
            simp only [Act.put, List.setIfInBounds_toArray, List.set_cons_zero, List.set_cons_succ]
            refine wpAnyH_take (i := 6) (v := ?va_6) rfl (by kernel_rfl) (by kernel_rfl) (by kernel_rfl) (fun _ _ _ h => h) (Or.inl ⟨by first | kernel_rfl | rfl, ?ya_6⟩) hHeld ?ra_6
            case ya_6 => (intro W hSW; (try dsimp only at hSW); go_simp; (try with_reducible rfl))
            change wpAnyH _ _ _ _ _ _ _ (Act.put _ (some 43) _) _
            simp only [Act.put, List.setIfInBounds_toArray, List.set_cons_zero, List.set_cons_succ]
            refine wpAnyH_take (i := 7) (v := ?va_7) rfl (by kernel_rfl) (by kernel_rfl) (by kernel_rfl) (fun _ _ _ h => h) (Or.inl ⟨by first | kernel_rfl | rfl, ?ya_7⟩) hHeld ?ra_7
            case ya_7 => (intro W hSW; (try dsimp only at hSW); go_simp; (try with_reducible rfl))
            change wpAnyH _ _ _ _ _ _ _ (Act.put _ (some 44) _) _
            simp only [Act.put, List.setIfInBounds_toArray, List.set_cons_zero, List.set_cons_succ]
            refine wpAnyH_take (i := 8) (v := ?va_8) rfl (by kernel_rfl) (by kernel_rfl) (by kernel_rfl) (fun _ _ _ h => h) (Or.inl ⟨by first | kernel_rfl | rfl, ?ya_8⟩) hHeld ?ra_8
            case ya_8 => (intro W hSW; (try dsimp only at hSW); go_simp; (try with_reducible rfl))
            change wpAnyH _ _ _ _ _ _ _ (Act.put _ (some 45) _) _
            simp only [Act.put, List.setIfInBounds_toArray, List.set_cons_zero, List.set_cons_succ]
            refine wpAnyH_ready (rs := [9]) (by kernel_rfl) (by simp) ?_
            refine AllReadyH.cons rfl (fun K hK => ?_) AllReadyH.nil
            go_simp
            refine (HEQ.out V4.drew (Below.refl _ V4).drew).mono ?_
            rintro e V5 ⟨rfl, hb5⟩
            refine hK.out _ _ ((HS.out V5 ((Below.refl _ V4).drew.trans hb5)).1) (fun hHeld => ?_)
            clear hK K
            try simp only [Act.put, List.setIfInBounds_toArray, List.set_cons_zero, List.set_cons_succ]
            have H5 : Hid (Below V4.heap.size V4 V5) := (Below.refl _ V4).drew.trans hb5
            clear hb5
            refine wpAnyH_take (i := 10) (v := ?va_10) rfl (by kernel_rfl) (by kernel_rfl) (by kernel_rfl) (fun _ _ _ h => h) (Or.inl ⟨by first | kernel_rfl | rfl, ?ya_10⟩) hHeld ?ra_10
            case ya_10 => (intro W hSW; (try dsimp only at hSW); go_simp; (try with_reducible rfl))
            change wpAnyH _ _ _ _ _ _ _ (Act.put _ (some 47) _) _
            simp only [Act.put, List.setIfInBounds_toArray, List.set_cons_zero, List.set_cons_succ]
            refine wpAnyH_take (i := 11) (v := undef) rfl (by kernel_rfl) (by kernel_rfl) (by kernel_rfl) (fun _ _ _ h => h) (Or.inr ⟨by first | kernel_rfl | rfl, rfl⟩) hHeld ?_
            change wpAnyH _ _ _ _ _ _ _ (Act.put _ (some 48) _) _
            simp only [Act.put, List.setIfInBounds_toArray, List.set_cons_zero, List.set_cons_succ]
            refine wpAnyH_take (i := 12) (v := undef) rfl (by kernel_rfl) (by kernel_rfl) (by kernel_rfl) (fun _ _ _ h => h) (Or.inr ⟨by first | kernel_rfl | rfl, rfl⟩) hHeld ?_
            change wpAnyH _ _ _ _ _ _ _ (Act.put _ (some 49) _) _
            simp only [Act.put, List.setIfInBounds_toArray, List.set_cons_zero, List.set_cons_succ]
            refine wpAnyH_take (i := 13) (v := undef) rfl (by kernel_rfl) (by kernel_rfl) (by kernel_rfl) (fun _ _ _ h => h) (Or.inr ⟨by first | kernel_rfl | rfl, rfl⟩) hHeld ?_
            change wpAnyH _ _ _ _ _ _ _ (Act.put _ (some 50) _) _
            simp only [Act.put, List.setIfInBounds_toArray, List.set_cons_zero, List.set_cons_succ]
            refine wpAnyH_take (i := 14) (v := undef) rfl (by kernel_rfl) (by kernel_rfl) (by kernel_rfl) (fun _ _ _ h => h) (Or.inr ⟨by first | kernel_rfl | rfl, rfl⟩) hHeld ?_
            change wpAnyH _ _ _ _ _ _ _ (Act.put _ (some 51) _) _
            simp only [Act.put, List.setIfInBounds_toArray, List.set_cons_zero, List.set_cons_succ]
            refine wpAnyH_take (i := 15) (v := undef) rfl (by kernel_rfl) (by kernel_rfl) (by kernel_rfl) (fun _ _ _ h => h) (Or.inr ⟨by first | kernel_rfl | rfl, rfl⟩) hHeld ?_
            change wpAnyH _ _ _ _ _ _ _ (Act.put _ (some 52) _) _
            simp only [Act.put, List.setIfInBounds_toArray, List.set_cons_zero, List.set_cons_succ]
            refine wpAnyH_take (i := 16) (v := undef) rfl (by kernel_rfl) (by kernel_rfl) (by kernel_rfl) (fun _ _ _ h => h) (Or.inr ⟨by first | kernel_rfl | rfl, rfl⟩) hHeld ?_
            change wpAnyH _ _ _ _ _ _ _ (Act.put _ (some 53) _) _
            simp only [Act.put, List.setIfInBounds_toArray, List.set_cons_zero, List.set_cons_succ]
            refine wpAnyH_take (i := 17) (v := undef) rfl (by kernel_rfl) (by kernel_rfl) (by kernel_rfl) (fun _ _ _ h => h) (Or.inr ⟨by first | kernel_rfl | rfl, rfl⟩) hHeld ?_
            change wpAnyH _ _ _ _ _ _ _ (Act.put _ (some 54) _) _
            simp only [Act.put, List.setIfInBounds_toArray, List.set_cons_zero, List.set_cons_succ]
            have HZ : Hid (Below w.heap.size w V5) := (HS.out V5 H5.out).2
            refine wpAnyH_take (i := 18) (v := ?va_18) rfl (by kernel_rfl) (by kernel_rfl) (by kernel_rfl) (fun _ _ _ h => h) (Or.inl ⟨by first | kernel_rfl | rfl, ?ya_18⟩) hHeld ?ra_18
            case ya_18 => (intro W hSW; (try dsimp only at hSW); go_simp; (try with_reducible rfl))
            change wpAnyH _ _ _ _ _ _ _ (Act.put _ (some 55) _) _
            simp only [Act.put, List.setIfInBounds_toArray, List.set_cons_zero, List.set_cons_succ]
            refine wpAnyH_take (i := 19) (v := ?va_19) rfl (by kernel_rfl) (by kernel_rfl) (by kernel_rfl) (fun _ _ _ h => h) (Or.inl ⟨by first | kernel_rfl | rfl, ?ya_19⟩) hHeld ?ra_19
            case ya_19 => (intro W hSW; (try dsimp only at hSW); go_simp; (try with_reducible rfl))
            change wpAnyH _ _ _ _ _ _ _ (Act.put _ (some 4) _) _
            simp only [Act.put, List.setIfInBounds_toArray, List.set_cons_zero, List.set_cons_succ]
            refine wpAnyH_done (by kernel_rfl) ?_ _
            have HE : Hid (∀ W, Below w.heap.size w W → YeTo w (folA ⟨s, n, l⟩ ⟨r, m, k⟩) (.returned (.bool false)) W) := fun W hW => ⟨by rw [HX.out], hW⟩
            go_wp2
            go_ret
            exact HE.out _ HZ.out
          | true =>
            by_cases hz : Z1 = Z2
            · subst hz
              have HX : Hid (folA ⟨s, n, l⟩ ⟨r, m, k⟩ = true) := by show _ = _; rw [HFO.out]; simp
              have hzt : (Z1.toList == Z1.toList) = true := by simp
              go_enter Tryd.func25, Tryd.ntmps25
              go_wp2_with fail
              refine HM1.mono ?_
              rintro e V3 ⟨rfl, hb3⟩
              have H3 : Hid (Below V2.heap.size V2 V3) := hb3
              clear HM1 hb3
              clear z0 z1 z2
              obtain ⟨⟨_, z0, z1, z2⟩, hw3⟩ := HK.out V3 H3.out
              have HM2 := HMB.out V3 hw3
              clear hw3 y0 y1 y2
              go_wp2_with fail
              refine HM2.mono ?_
              rintro e V4 ⟨rfl, hb4⟩
              have H4 : Hid (Below V2.heap.size V2 V4) := H3.out.trans (hb4.mono H3.out.size)
              clear HM2 hb4 z0 z1 z2
              obtain ⟨⟨⟨y0, y1, y2⟩, z0, z1, z2⟩, _⟩ := HK.out V4 H4.out
              have HS : Hid (∀ W, Below V4.heap.size V4 W → ((W.cell? ⟨pb, 0, none⟩ = some (.string s) ∧ W.cell? ⟨pb, 1, none⟩ = some (.int .i64 n) ∧ W.cell? ⟨pb, 2, none⟩ = some (.slice a ln cp)) ∧ (W.cell? ⟨qb, 0, none⟩ = some (.string r) ∧ W.cell? ⟨qb, 1, none⟩ = some (.int .i64 m) ∧ W.cell? ⟨qb, 2, none⟩ = some (.slice b lm cq))) ∧ Below w.heap.size w W) := fun W hW => HK.out W (H4.out.trans (hW.mono H4.out.size))
              have HEQ : Hid (∀ W, Below V4.heap.size V4 W → Calls Tryd.prog 40 #[.slice A2 c C2, .slice B2 c cq] W fun e w' => e = .returned (.bool true) ∧ Below W.heap.size W w') := fun W hW => HQ0.out W (HS.out W hW).2
              have HDG : Hid (∀ W, Below V4.heap.size V4 W → Calls Tryd.prog 20 #[.agg #[.string s, .int .i64 n, .slice a ln cp]] W fun e w' => e = .returned (.string Z1) ∧ Below W.heap.size W w') := fun W hW => HD0.out W (HS.out W hW).2
              have HCH : Hid (∀ W, Below V4.heap.size V4 W → Calls Tryd.prog 34 #[.string r, .slice B2 c cq] W fun e w' => e = .returned (.string Z1) ∧ Below W.heap.size W w') := fun W hW => HC0.out W (HS.out W hW).2
              go_wp2
              refine wp_region_held_drew (S := fun W => (W.cell? ⟨pb, 0, none⟩ = some (.string s) ∧ W.cell? ⟨pb, 1, none⟩ = some (.int .i64 n) ∧ W.cell? ⟨pb, 2, none⟩ = some (.slice a ln cp)) ∧ (W.cell? ⟨qb, 0, none⟩ = some (.string r) ∧ W.cell? ⟨qb, 1, none⟩ = some (.int .i64 m) ∧ W.cell? ⟨qb, 2, none⟩ = some (.slice b lm cq))) (by kernel_rfl) ((HS.out V4.drew (Below.refl _ V4).drew).1) (fun hHeld => ?_)
              refine wpAnyH_take (i := 0) (v := ?vb_0) rfl (by kernel_rfl) (by kernel_rfl) (by kernel_rfl) (fun _ _ _ h => h) (Or.inl ⟨by first | kernel_rfl | rfl, ?yb_0⟩) hHeld ?rb_0
              case yb_0 => (intro W hSW; (try dsimp only at hSW); go_simp; (try with_reducible rfl))
              change wpAnyH _ _ _ _ _ _ _ (Act.put _ (some 37) _) _
              simp only [Act.put, List.setIfInBounds_toArray, List.set_cons_zero, List.set_cons_succ]
              refine wpAnyH_take (i := 1) (v := ?vb_1) rfl (by kernel_rfl) (by kernel_rfl) (by kernel_rfl) (fun _ _ _ h => h) (Or.inl ⟨by first | kernel_rfl | rfl, ?yb_1⟩) hHeld ?rb_1
              case yb_1 => (intro W hSW; (try dsimp only at hSW); go_simp; (try with_reducible rfl))
              change wpAnyH _ _ _ _ _ _ _ (Act.put _ (some 38) _) _
              simp only [Act.put, List.setIfInBounds_toArray, List.set_cons_zero, List.set_cons_succ]
              refine wpAnyH_take (i := 2) (v := ?vb_2) rfl (by kernel_rfl) (by kernel_rfl) (by kernel_rfl) (fun _ _ _ h => h) (Or.inl ⟨by first | kernel_rfl | rfl, ?yb_2⟩) hHeld ?rb_2
              case yb_2 => (intro W hSW; (try dsimp only at hSW); go_simp; (try with_reducible rfl))
              change wpAnyH _ _ _ _ _ _ _ (Act.put _ (some 39) _) _
              simp only [Act.put, List.setIfInBounds_toArray, List.set_cons_zero, List.set_cons_succ]
              refine wpAnyH_take (i := 3) (v := ?vb_3) rfl (by kernel_rfl) (by kernel_rfl) (by kernel_rfl) (fun _ _ _ h => h) (Or.inl ⟨by first | kernel_rfl | rfl, ?yb_3⟩) hHeld ?rb_3
              case yb_3 => (intro W hSW; (try dsimp only at hSW); go_simp; (try with_reducible rfl))
              change wpAnyH _ _ _ _ _ _ _ (Act.put _ (some 40) _) _
              simp only [Act.put, List.setIfInBounds_toArray, List.set_cons_zero, List.set_cons_succ]
              refine wpAnyH_take (i := 4) (v := ?vb_4) rfl (by kernel_rfl) (by kernel_rfl) (by kernel_rfl) (fun _ _ _ h => h) (Or.inl ⟨by first | kernel_rfl | rfl, ?yb_4⟩) hHeld ?rb_4
              case yb_4 => (intro W hSW; (try dsimp only at hSW); go_simp; (try with_reducible rfl))
              change wpAnyH _ _ _ _ _ _ _ (Act.put _ (some 41) _) _
              simp only [Act.put, List.setIfInBounds_toArray, List.set_cons_zero, List.set_cons_succ]
              refine wpAnyH_take (i := 5) (v := ?vb_5) rfl (by kernel_rfl) (by kernel_rfl) (by kernel_rfl) (fun _ _ _ h => h) (Or.inl ⟨by first | kernel_rfl | rfl, ?yb_5⟩) hHeld ?rb_5
              case yb_5 => (intro W hSW; (try dsimp only at hSW); go_simp; (try with_reducible rfl))
              change wpAnyH _ _ _ _ _ _ _ (Act.put _ (some 42) _) _
              simp only [Act.put, List.setIfInBounds_toArray, List.set_cons_zero, List.set_cons_succ]
              refine wpAnyH_take (i := 6) (v := ?vb_6) rfl (by kernel_rfl) (by kernel_rfl) (by kernel_rfl) (fun _ _ _ h => h) (Or.inl ⟨by first | kernel_rfl | rfl, ?yb_6⟩) hHeld ?rb_6
              case yb_6 => (intro W hSW; (try dsimp only at hSW); go_simp; (try with_reducible rfl))
              change wpAnyH _ _ _ _ _ _ _ (Act.put _ (some 43) _) _
              simp only [Act.put, List.setIfInBounds_toArray, List.set_cons_zero, List.set_cons_succ]
              refine wpAnyH_take (i := 7) (v := ?vb_7) rfl (by kernel_rfl) (by kernel_rfl) (by kernel_rfl) (fun _ _ _ h => h) (Or.inl ⟨by first | kernel_rfl | rfl, ?yb_7⟩) hHeld ?rb_7
              case yb_7 => (intro W hSW; (try dsimp only at hSW); go_simp; (try with_reducible rfl))
              change wpAnyH _ _ _ _ _ _ _ (Act.put _ (some 44) _) _
              simp only [Act.put, List.setIfInBounds_toArray, List.set_cons_zero, List.set_cons_succ]
              refine wpAnyH_take (i := 8) (v := ?vb_8) rfl (by kernel_rfl) (by kernel_rfl) (by kernel_rfl) (fun _ _ _ h => h) (Or.inl ⟨by first | kernel_rfl | rfl, ?yb_8⟩) hHeld ?rb_8
              case yb_8 => (intro W hSW; (try dsimp only at hSW); go_simp; (try with_reducible rfl))
              change wpAnyH _ _ _ _ _ _ _ (Act.put _ (some 45) _) _
              simp only [Act.put, List.setIfInBounds_toArray, List.set_cons_zero, List.set_cons_succ]
              refine wpAnyH_ready (rs := [9]) (by kernel_rfl) (by simp) ?_
              refine AllReadyH.cons rfl (fun K hK => ?_) AllReadyH.nil
              go_simp
              refine (HEQ.out V4.drew (Below.refl _ V4).drew).mono ?_
              rintro e V5 ⟨rfl, hb5⟩
              refine hK.out _ _ ((HS.out V5 ((Below.refl _ V4).drew.trans hb5)).1) (fun hHeld => ?_)
              clear hK K
              try simp only [Act.put, List.setIfInBounds_toArray, List.set_cons_zero, List.set_cons_succ]
              have H5 : Hid (Below V4.heap.size V4 V5) := (Below.refl _ V4).drew.trans hb5
              clear hb5
              refine wpAnyH_take (i := 10) (v := ?vb_10) rfl (by kernel_rfl) (by kernel_rfl) (by kernel_rfl) (fun _ _ _ h => h) (Or.inl ⟨by first | kernel_rfl | rfl, ?yb_10⟩) hHeld ?rb_10
              case yb_10 => (intro W hSW; (try dsimp only at hSW); go_simp; (try with_reducible rfl))
              change wpAnyH _ _ _ _ _ _ _ (Act.put _ (some 47) _) _
              simp only [Act.put, List.setIfInBounds_toArray, List.set_cons_zero, List.set_cons_succ]
              refine wpAnyH_take (i := 11) (v := ?vb_11) rfl (by kernel_rfl) (by kernel_rfl) (by kernel_rfl) (fun _ _ _ h => h) (Or.inl ⟨by first | kernel_rfl | rfl, ?yb_11⟩) hHeld ?rb_11
              case yb_11 => (intro W hSW; (try dsimp only at hSW); go_simp; (try with_reducible rfl))
              change wpAnyH _ _ _ _ _ _ _ (Act.put _ (some 48) _) _
              simp only [Act.put, List.setIfInBounds_toArray, List.set_cons_zero, List.set_cons_succ]
              refine wpAnyH_take (i := 13) (v := ?vb_13) rfl (by kernel_rfl) (by kernel_rfl) (by kernel_rfl) (fun _ _ _ h => h) (Or.inl ⟨by first | kernel_rfl | rfl, ?yb_13⟩) hHeld ?rb_13
              case yb_13 => (intro W hSW; (try dsimp only at hSW); go_simp; (try with_reducible rfl))
              change wpAnyH _ _ _ _ _ _ _ (Act.put _ (some 50) _) _
              simp only [Act.put, List.setIfInBounds_toArray, List.set_cons_zero, List.set_cons_succ]
              refine wpAnyH_take (i := 14) (v := ?vb_14) rfl (by kernel_rfl) (by kernel_rfl) (by kernel_rfl) (fun _ _ _ h => h) (Or.inl ⟨by first | kernel_rfl | rfl, ?yb_14⟩) hHeld ?rb_14
              case yb_14 => (intro W hSW; (try dsimp only at hSW); go_simp; (try with_reducible rfl))
              change wpAnyH _ _ _ _ _ _ _ (Act.put _ (some 51) _) _
              simp only [Act.put, List.setIfInBounds_toArray, List.set_cons_zero, List.set_cons_succ]
              refine wpAnyH_take (i := 15) (v := ?vb_15) rfl (by kernel_rfl) (by kernel_rfl) (by kernel_rfl) (fun _ _ _ h => h) (Or.inl ⟨by first | kernel_rfl | rfl, ?yb_15⟩) hHeld ?rb_15
              case yb_15 => (intro W hSW; (try dsimp only at hSW); go_simp; (try with_reducible rfl))
              change wpAnyH _ _ _ _ _ _ _ (Act.put _ (some 52) _) _
              simp only [Act.put, List.setIfInBounds_toArray, List.set_cons_zero, List.set_cons_succ]
              refine wpAnyH_ready (rs := [12]) (by kernel_rfl) (by simp) ?_
              refine AllReadyH.cons rfl (fun K hK => ?_) AllReadyH.nil
              go_simp
              refine (HDG.out V5 H5.out).mono ?_
              rintro e V6 ⟨rfl, hb6⟩
              refine hK.out _ _ ((HS.out V6 (H5.out.trans (hb6.mono H5.out.size))).1) (fun hHeld => ?_)
              clear hK K
              try simp only [Act.put, List.setIfInBounds_toArray, List.set_cons_zero, List.set_cons_succ]
              have H6 : Hid (Below V4.heap.size V4 V6) := H5.out.trans (hb6.mono H5.out.size)
              clear hb6
              refine wpAnyH_ready (rs := [16]) (by kernel_rfl) (by simp) ?_
              refine AllReadyH.cons rfl (fun K hK => ?_) AllReadyH.nil
              go_simp
              refine (HCH.out V6 H6.out).mono ?_
              rintro e V7 ⟨rfl, hb7⟩
              refine hK.out _ _ ((HS.out V7 (H6.out.trans (hb7.mono H6.out.size))).1) (fun hHeld => ?_)
              clear hK K
              try simp only [Act.put, List.setIfInBounds_toArray, List.set_cons_zero, List.set_cons_succ]
              have HZ : Hid (Below w.heap.size w V7) := (HS.out V7 (H6.out.trans (hb7.mono H6.out.size))).2
              clear hb7
              refine wpAnyH_take (i := 17) (v := ?vb_17) rfl (by kernel_rfl) (by kernel_rfl) (by kernel_rfl) (fun _ _ _ h => h) (Or.inl ⟨by first | kernel_rfl | rfl, ?yb_17⟩) hHeld ?rb_17
              case yb_17 => (intro W hSW; (try dsimp only at hSW); go_simp; (try with_reducible rfl))
              change wpAnyH _ _ _ _ _ _ _ (Act.put _ (some 54) _) _
              simp only [Act.put, List.setIfInBounds_toArray, List.set_cons_zero, List.set_cons_succ]
              refine wpAnyH_take (i := 18) (v := ?vb_18) rfl (by kernel_rfl) (by kernel_rfl) (by kernel_rfl) (fun _ _ _ h => h) (Or.inl ⟨by first | kernel_rfl | rfl, ?yb_18⟩) hHeld ?rb_18
              case yb_18 => (intro W hSW; (try dsimp only at hSW); go_simp; (try with_reducible rfl))
              change wpAnyH _ _ _ _ _ _ _ (Act.put _ (some 55) _) _
              simp only [Act.put, List.setIfInBounds_toArray, List.set_cons_zero, List.set_cons_succ]
              refine wpAnyH_take (i := 19) (v := ?vb_19) rfl (by kernel_rfl) (by kernel_rfl) (by kernel_rfl) (fun _ _ _ h => h) (Or.inl ⟨by first | kernel_rfl | rfl, ?yb_19⟩) hHeld ?rb_19
              case yb_19 => (intro W hSW; (try dsimp only at hSW); go_simp; (try with_reducible rfl))
              change wpAnyH _ _ _ _ _ _ _ (Act.put _ (some 4) _) _
              simp only [Act.put, List.setIfInBounds_toArray, List.set_cons_zero, List.set_cons_succ]
              refine wpAnyH_done (by kernel_rfl) ?_ _
              have HE : Hid (∀ W, Below w.heap.size w W → YeTo w (folA ⟨s, n, l⟩ ⟨r, m, k⟩) (.returned (.bool true)) W) := fun W hW => ⟨by rw [HX.out], hW⟩
              go_wp2
              go_ret
              exact HE.out _ HZ.out
            · have HX : Hid (folA ⟨s, n, l⟩ ⟨r, m, k⟩ = false) := by show _ = _; rw [HFO.out]; simp [hz]
              have hzn := str_ne hz
              have hzb := str_nb hz
              clear hz
              go_enter Tryd.func25, Tryd.ntmps25
              go_wp2_with fail
              refine HM1.mono ?_
              rintro e V3 ⟨rfl, hb3⟩
              have H3 : Hid (Below V2.heap.size V2 V3) := hb3
              clear HM1 hb3
              clear z0 z1 z2
              obtain ⟨⟨_, z0, z1, z2⟩, hw3⟩ := HK.out V3 H3.out
              have HM2 := HMB.out V3 hw3
              clear hw3 y0 y1 y2
              go_wp2_with fail
              refine HM2.mono ?_
              rintro e V4 ⟨rfl, hb4⟩
              have H4 : Hid (Below V2.heap.size V2 V4) := H3.out.trans (hb4.mono H3.out.size)
              clear HM2 hb4 z0 z1 z2
              obtain ⟨⟨⟨y0, y1, y2⟩, z0, z1, z2⟩, _⟩ := HK.out V4 H4.out
              have HS : Hid (∀ W, Below V4.heap.size V4 W → ((W.cell? ⟨pb, 0, none⟩ = some (.string s) ∧ W.cell? ⟨pb, 1, none⟩ = some (.int .i64 n) ∧ W.cell? ⟨pb, 2, none⟩ = some (.slice a ln cp)) ∧ (W.cell? ⟨qb, 0, none⟩ = some (.string r) ∧ W.cell? ⟨qb, 1, none⟩ = some (.int .i64 m) ∧ W.cell? ⟨qb, 2, none⟩ = some (.slice b lm cq))) ∧ Below w.heap.size w W) := fun W hW => HK.out W (H4.out.trans (hW.mono H4.out.size))
              have HEQ : Hid (∀ W, Below V4.heap.size V4 W → Calls Tryd.prog 40 #[.slice A2 c C2, .slice B2 c cq] W fun e w' => e = .returned (.bool true) ∧ Below W.heap.size W w') := fun W hW => HQ0.out W (HS.out W hW).2
              have HDG : Hid (∀ W, Below V4.heap.size V4 W → Calls Tryd.prog 20 #[.agg #[.string s, .int .i64 n, .slice a ln cp]] W fun e w' => e = .returned (.string Z1) ∧ Below W.heap.size W w') := fun W hW => HD0.out W (HS.out W hW).2
              have HCH : Hid (∀ W, Below V4.heap.size V4 W → Calls Tryd.prog 34 #[.string r, .slice B2 c cq] W fun e w' => e = .returned (.string Z2) ∧ Below W.heap.size W w') := fun W hW => HC0.out W (HS.out W hW).2
              go_wp2
              refine wp_region_held_drew (S := fun W => (W.cell? ⟨pb, 0, none⟩ = some (.string s) ∧ W.cell? ⟨pb, 1, none⟩ = some (.int .i64 n) ∧ W.cell? ⟨pb, 2, none⟩ = some (.slice a ln cp)) ∧ (W.cell? ⟨qb, 0, none⟩ = some (.string r) ∧ W.cell? ⟨qb, 1, none⟩ = some (.int .i64 m) ∧ W.cell? ⟨qb, 2, none⟩ = some (.slice b lm cq))) (by kernel_rfl) ((HS.out V4.drew (Below.refl _ V4).drew).1) (fun hHeld => ?_)
              refine wpAnyH_take (i := 0) (v := ?vc_0) rfl (by kernel_rfl) (by kernel_rfl) (by kernel_rfl) (fun _ _ _ h => h) (Or.inl ⟨by first | kernel_rfl | rfl, ?yc_0⟩) hHeld ?rc_0
              case yc_0 => (intro W hSW; (try dsimp only at hSW); go_simp; (try with_reducible rfl))
              change wpAnyH _ _ _ _ _ _ _ (Act.put _ (some 37) _) _
              simp only [Act.put, List.setIfInBounds_toArray, List.set_cons_zero, List.set_cons_succ]
              refine wpAnyH_take (i := 1) (v := ?vc_1) rfl (by kernel_rfl) (by kernel_rfl) (by kernel_rfl) (fun _ _ _ h => h) (Or.inl ⟨by first | kernel_rfl | rfl, ?yc_1⟩) hHeld ?rc_1
              case yc_1 => (intro W hSW; (try dsimp only at hSW); go_simp; (try with_reducible rfl))
              change wpAnyH _ _ _ _ _ _ _ (Act.put _ (some 38) _) _
              simp only [Act.put, List.setIfInBounds_toArray, List.set_cons_zero, List.set_cons_succ]
              refine wpAnyH_take (i := 2) (v := ?vc_2) rfl (by kernel_rfl) (by kernel_rfl) (by kernel_rfl) (fun _ _ _ h => h) (Or.inl ⟨by first | kernel_rfl | rfl, ?yc_2⟩) hHeld ?rc_2
              case yc_2 => (intro W hSW; (try dsimp only at hSW); go_simp; (try with_reducible rfl))
              change wpAnyH _ _ _ _ _ _ _ (Act.put _ (some 39) _) _
              simp only [Act.put, List.setIfInBounds_toArray, List.set_cons_zero, List.set_cons_succ]
              refine wpAnyH_take (i := 3) (v := ?vc_3) rfl (by kernel_rfl) (by kernel_rfl) (by kernel_rfl) (fun _ _ _ h => h) (Or.inl ⟨by first | kernel_rfl | rfl, ?yc_3⟩) hHeld ?rc_3
              case yc_3 => (intro W hSW; (try dsimp only at hSW); go_simp; (try with_reducible rfl))
              change wpAnyH _ _ _ _ _ _ _ (Act.put _ (some 40) _) _
              simp only [Act.put, List.setIfInBounds_toArray, List.set_cons_zero, List.set_cons_succ]
              refine wpAnyH_take (i := 4) (v := ?vc_4) rfl (by kernel_rfl) (by kernel_rfl) (by kernel_rfl) (fun _ _ _ h => h) (Or.inl ⟨by first | kernel_rfl | rfl, ?yc_4⟩) hHeld ?rc_4
              case yc_4 => (intro W hSW; (try dsimp only at hSW); go_simp; (try with_reducible rfl))
              change wpAnyH _ _ _ _ _ _ _ (Act.put _ (some 41) _) _
              simp only [Act.put, List.setIfInBounds_toArray, List.set_cons_zero, List.set_cons_succ]
              refine wpAnyH_take (i := 5) (v := ?vc_5) rfl (by kernel_rfl) (by kernel_rfl) (by kernel_rfl) (fun _ _ _ h => h) (Or.inl ⟨by first | kernel_rfl | rfl, ?yc_5⟩) hHeld ?rc_5
              case yc_5 => (intro W hSW; (try dsimp only at hSW); go_simp; (try with_reducible rfl))
              change wpAnyH _ _ _ _ _ _ _ (Act.put _ (some 42) _) _
              simp only [Act.put, List.setIfInBounds_toArray, List.set_cons_zero, List.set_cons_succ]
              refine wpAnyH_take (i := 6) (v := ?vc_6) rfl (by kernel_rfl) (by kernel_rfl) (by kernel_rfl) (fun _ _ _ h => h) (Or.inl ⟨by first | kernel_rfl | rfl, ?yc_6⟩) hHeld ?rc_6
              case yc_6 => (intro W hSW; (try dsimp only at hSW); go_simp; (try with_reducible rfl))
              change wpAnyH _ _ _ _ _ _ _ (Act.put _ (some 43) _) _
              simp only [Act.put, List.setIfInBounds_toArray, List.set_cons_zero, List.set_cons_succ]
              refine wpAnyH_take (i := 7) (v := ?vc_7) rfl (by kernel_rfl) (by kernel_rfl) (by kernel_rfl) (fun _ _ _ h => h) (Or.inl ⟨by first | kernel_rfl | rfl, ?yc_7⟩) hHeld ?rc_7
              case yc_7 => (intro W hSW; (try dsimp only at hSW); go_simp; (try with_reducible rfl))
              change wpAnyH _ _ _ _ _ _ _ (Act.put _ (some 44) _) _
              simp only [Act.put, List.setIfInBounds_toArray, List.set_cons_zero, List.set_cons_succ]
              refine wpAnyH_take (i := 8) (v := ?vc_8) rfl (by kernel_rfl) (by kernel_rfl) (by kernel_rfl) (fun _ _ _ h => h) (Or.inl ⟨by first | kernel_rfl | rfl, ?yc_8⟩) hHeld ?rc_8
              case yc_8 => (intro W hSW; (try dsimp only at hSW); go_simp; (try with_reducible rfl))
              change wpAnyH _ _ _ _ _ _ _ (Act.put _ (some 45) _) _
              simp only [Act.put, List.setIfInBounds_toArray, List.set_cons_zero, List.set_cons_succ]
              refine wpAnyH_ready (rs := [9]) (by kernel_rfl) (by simp) ?_
              refine AllReadyH.cons rfl (fun K hK => ?_) AllReadyH.nil
              go_simp
              refine (HEQ.out V4.drew (Below.refl _ V4).drew).mono ?_
              rintro e V5 ⟨rfl, hb5⟩
              refine hK.out _ _ ((HS.out V5 ((Below.refl _ V4).drew.trans hb5)).1) (fun hHeld => ?_)
              clear hK K
              try simp only [Act.put, List.setIfInBounds_toArray, List.set_cons_zero, List.set_cons_succ]
              have H5 : Hid (Below V4.heap.size V4 V5) := (Below.refl _ V4).drew.trans hb5
              clear hb5
              refine wpAnyH_take (i := 10) (v := ?vc_10) rfl (by kernel_rfl) (by kernel_rfl) (by kernel_rfl) (fun _ _ _ h => h) (Or.inl ⟨by first | kernel_rfl | rfl, ?yc_10⟩) hHeld ?rc_10
              case yc_10 => (intro W hSW; (try dsimp only at hSW); go_simp; (try with_reducible rfl))
              change wpAnyH _ _ _ _ _ _ _ (Act.put _ (some 47) _) _
              simp only [Act.put, List.setIfInBounds_toArray, List.set_cons_zero, List.set_cons_succ]
              refine wpAnyH_take (i := 11) (v := ?vc_11) rfl (by kernel_rfl) (by kernel_rfl) (by kernel_rfl) (fun _ _ _ h => h) (Or.inl ⟨by first | kernel_rfl | rfl, ?yc_11⟩) hHeld ?rc_11
              case yc_11 => (intro W hSW; (try dsimp only at hSW); go_simp; (try with_reducible rfl))
              change wpAnyH _ _ _ _ _ _ _ (Act.put _ (some 48) _) _
              simp only [Act.put, List.setIfInBounds_toArray, List.set_cons_zero, List.set_cons_succ]
              refine wpAnyH_take (i := 13) (v := ?vc_13) rfl (by kernel_rfl) (by kernel_rfl) (by kernel_rfl) (fun _ _ _ h => h) (Or.inl ⟨by first | kernel_rfl | rfl, ?yc_13⟩) hHeld ?rc_13
              case yc_13 => (intro W hSW; (try dsimp only at hSW); go_simp; (try with_reducible rfl))
              change wpAnyH _ _ _ _ _ _ _ (Act.put _ (some 50) _) _
              simp only [Act.put, List.setIfInBounds_toArray, List.set_cons_zero, List.set_cons_succ]
              refine wpAnyH_take (i := 14) (v := ?vc_14) rfl (by kernel_rfl) (by kernel_rfl) (by kernel_rfl) (fun _ _ _ h => h) (Or.inl ⟨by first | kernel_rfl | rfl, ?yc_14⟩) hHeld ?rc_14
              case yc_14 => (intro W hSW; (try dsimp only at hSW); go_simp; (try with_reducible rfl))
              change wpAnyH _ _ _ _ _ _ _ (Act.put _ (some 51) _) _
              simp only [Act.put, List.setIfInBounds_toArray, List.set_cons_zero, List.set_cons_succ]
              refine wpAnyH_take (i := 15) (v := ?vc_15) rfl (by kernel_rfl) (by kernel_rfl) (by kernel_rfl) (fun _ _ _ h => h) (Or.inl ⟨by first | kernel_rfl | rfl, ?yc_15⟩) hHeld ?rc_15
              case yc_15 => (intro W hSW; (try dsimp only at hSW); go_simp; (try with_reducible rfl))
              change wpAnyH _ _ _ _ _ _ _ (Act.put _ (some 52) _) _
              simp only [Act.put, List.setIfInBounds_toArray, List.set_cons_zero, List.set_cons_succ]
              refine wpAnyH_ready (rs := [12]) (by kernel_rfl) (by simp) ?_
              refine AllReadyH.cons rfl (fun K hK => ?_) AllReadyH.nil
              go_simp
              refine (HDG.out V5 H5.out).mono ?_
              rintro e V6 ⟨rfl, hb6⟩
              refine hK.out _ _ ((HS.out V6 (H5.out.trans (hb6.mono H5.out.size))).1) (fun hHeld => ?_)
              clear hK K
              try simp only [Act.put, List.setIfInBounds_toArray, List.set_cons_zero, List.set_cons_succ]
              have H6 : Hid (Below V4.heap.size V4 V6) := H5.out.trans (hb6.mono H5.out.size)
              clear hb6
              refine wpAnyH_ready (rs := [16]) (by kernel_rfl) (by simp) ?_
              refine AllReadyH.cons rfl (fun K hK => ?_) AllReadyH.nil
              go_simp
              refine (HCH.out V6 H6.out).mono ?_
              rintro e V7 ⟨rfl, hb7⟩
              refine hK.out _ _ ((HS.out V7 (H6.out.trans (hb7.mono H6.out.size))).1) (fun hHeld => ?_)
              clear hK K
              try simp only [Act.put, List.setIfInBounds_toArray, List.set_cons_zero, List.set_cons_succ]
              have HZ : Hid (Below w.heap.size w V7) := (HS.out V7 (H6.out.trans (hb7.mono H6.out.size))).2
              clear hb7
              refine wpAnyH_take (i := 17) (v := ?vc_17) rfl (by kernel_rfl) (by kernel_rfl) (by kernel_rfl) (fun _ _ _ h => h) (Or.inl ⟨by first | kernel_rfl | rfl, ?yc_17⟩) hHeld ?rc_17
              case yc_17 => (intro W hSW; (try dsimp only at hSW); go_simp; (try with_reducible rfl))
              change wpAnyH _ _ _ _ _ _ _ (Act.put _ (some 54) _) _
              simp only [Act.put, List.setIfInBounds_toArray, List.set_cons_zero, List.set_cons_succ]
              refine wpAnyH_take (i := 18) (v := ?vc_18) rfl (by kernel_rfl) (by kernel_rfl) (by kernel_rfl) (fun _ _ _ h => h) (Or.inl ⟨by first | kernel_rfl | rfl, ?yc_18⟩) hHeld ?rc_18
              case yc_18 => (intro W hSW; (try dsimp only at hSW); go_simp; (try with_reducible rfl))
              change wpAnyH _ _ _ _ _ _ _ (Act.put _ (some 55) _) _
              simp only [Act.put, List.setIfInBounds_toArray, List.set_cons_zero, List.set_cons_succ]
              refine wpAnyH_take (i := 19) (v := ?vc_19) rfl (by kernel_rfl) (by kernel_rfl) (by kernel_rfl) (fun _ _ _ h => h) (Or.inl ⟨by first | kernel_rfl | rfl, ?yc_19⟩) hHeld ?rc_19
              case yc_19 => (intro W hSW; (try dsimp only at hSW); go_simp; (try with_reducible rfl))
              change wpAnyH _ _ _ _ _ _ _ (Act.put _ (some 4) _) _
              simp only [Act.put, List.setIfInBounds_toArray, List.set_cons_zero, List.set_cons_succ]
              refine wpAnyH_done (by kernel_rfl) ?_ _
              have HE : Hid (∀ W, Below w.heap.size w W → YeTo w (folA ⟨s, n, l⟩ ⟨r, m, k⟩) (.returned (.bool false)) W) := fun W hW => ⟨by rw [HX.out], hW⟩
              go_wp2
              go_ret
              exact HE.out _ HZ.out
end Go.Proofs.YtkhidkilkbmpoaaDoor
