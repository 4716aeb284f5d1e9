/- A walk over the document's Follows. -/
import Derived.Test.YtkhidkilkbmpoaaDoorRD
namespace Go.Proofs.YtkhidkilkbmpoaaDoor
open Go.RowKit
/-- One entry against others. -/
def pxB (x : En) (m : List En) : Bool := m.all fun y => !decide (x.seq = y.seq) || decide (x = y)
theorem pairs_snoc {l m : List En} {i : Nat} {x : En} (h : l[i]? = some x) : pairsB (l.take (i + 1)) m = (pairsB (l.take i) m && pxB x m) := by
  rw [take_snocK h]
  simp [pairsB, pxB]
theorem px_snoc {m : List En} {x y : En} {j : Nat} (h : m[j]? = some y) : pxB x (m.take (j + 1)) = (pxB x (m.take j) && (!decide (x.seq = y.seq) || decide (x = y))) := by
  rw [take_snocK h]
  simp [pxB]
theorem px_no {l m : List En} {x y : En} {i j : Nat} (hi : l[i]? = some x) (hj : m[j]? = some y) (hs : x.seq = y.seq) (hne : ¬ x = y) : pairsB l m = false := by
  cases h : pairsB l m with
  | false => rfl
  | true => exact absurd (pairs_iff.1 h x (List.mem_of_getElem? hi) y (List.mem_of_getElem? hj) hs) hne
theorem fol_tail {a b : Au} (ha : mayA a = true) (hb : mayA b = true) (hl : a.last ≤ b.last) (hp : pairsB a.ents b.ents = true) : folA a b = tailB a b := by
  unfold folA
  rw [ha, hb, decide_eq_true hl, hp]
  rfl
theorem fol_pairs {a b : Au} (hp : pairsB a.ents b.ents = false) : folA a b = false := by
  unfold folA
  rw [hp]
  simp
/-- None of those ahead. -/
def notYet (m lm n : Int) (j : Nat) : Prop := ∀ i : Nat, i < j → m - lm + (i : Int) ≠ n
set_option maxRecDepth 100000 in
set_option maxHeartbeats 8000000 in
theorem rfol_any {w : World} {a : Option Addr} {ln cp : Nat} {l : List En} {b : Option Addr} {lm cq : Nat} {k : List En} (s : ByteArray) (n : Int) (r : ByteArray) (m : Int) (ha : Ew w a ln cp l) (hb : Ew w b lm cq k) : Calls Tryd.prog 26 #[.agg #[.string s, .int .i64 n, .slice a ln cp], .agg #[.string r, .int .i64 m, .slice b lm cq]] w fun e w' => YeTo w (folA ⟨s, n, l⟩ ⟨r, m, k⟩) e w' := by
  have hla := ha.len
  have hlb := hb.len
  obtain ⟨pb, hpb⟩ : ∃ pb, w.heap.size = pb := ⟨_, rfl⟩
  obtain ⟨V1, hV1, r1, hb1⟩ := box_au 24 (w := w) s n a ln cp
  obtain ⟨qb, hqb⟩ : ∃ qb, V1.heap.size = qb := ⟨_, rfl⟩
  obtain ⟨V2, hV2, r2, hb2⟩ := box_au 24 (w := V1) r m b lm cq
  have hq1 : pb + 1 = qb := by rw [← hqb, ← hV1, ← hpb]; simp
  rw [hpb] at r1
  rw [hqb] at r2
  have r1' := (hb2.block pb (by omega)).trans r1
  have hB0 : Below w.heap.size w V2 := hb1.trans (hb2.mono hb1.size)
  have HK : Hid (∀ W, Below V2.heap.size V2 W → ((W.cell? ⟨pb, 0, none⟩ = some (.string s) ∧ W.cell? ⟨pb, 1, none⟩ = some (.int .i64 n) ∧ W.cell? ⟨pb, 2, none⟩ = some (.slice a ln cp)) ∧ (W.cell? ⟨qb, 0, none⟩ = some (.string r) ∧ W.cell? ⟨qb, 1, none⟩ = some (.int .i64 m) ∧ W.cell? ⟨qb, 2, none⟩ = some (.slice b lm cq))) ∧ Below w.heap.size w W) := fun W hW => by
    obtain ⟨x0, x1, x2, _⟩ := row3 ((hW.block pb (lt_of_some r1')).trans r1')
    obtain ⟨v0, v1, v2, _⟩ := row3 ((hW.block qb (lt_of_some r2)).trans r2)
    exact ⟨⟨⟨x0, x1, x2⟩, v0, v1, v2⟩, hB0.trans (hW.mono hB0.size)⟩
  obtain ⟨⟨⟨y0, y1, y2⟩, z0, z1, z2⟩, _⟩ := HK.out V2 (Below.refl _ _)
  have HR : Hid ((∀ W, Below w.heap.size w W → Ew W a ln cp l ∧ Ew W b lm cq k) ∧ l.length = ln ∧ k.length = lm) := ⟨fun W hW => ⟨ha.below hW, hb.below hW⟩, hla, hlb⟩
  have HM1 := rmay_any s n (ha.below hB0)
  have HMB : Hid (∀ W, Below w.heap.size w W → Calls Tryd.prog 17 #[.agg #[.string r, .int .i64 m, .slice b lm cq]] W fun e w' => e = .returned (.bool (mayA ⟨r, m, k⟩)) ∧ Below W.heap.size W w') := fun W hW => rmay_any r m (hb.below hW)
  unfold YeTo at HM1
  clear r1 r2 r1' hb1 hb2 hB0 ha hb hla hlb
  cases hm1 : mayA ⟨s, n, l⟩ with
  | false =>
    rw [hm1] at HM1
    have HX : Hid (folA ⟨s, n, l⟩ ⟨r, m, k⟩ = false) := fol_no (fun h => by rw [hm1] at h; exact absurd h.1 (by decide))
    clear hm1
    go_enter Tryd.func26, Tryd.ntmps26
    go_wp2_with fail
    refine HM1.mono ?_
    rintro e V3 ⟨rfl, hb3⟩
    have H3 : Hid (Below V2.heap.size V2 V3) := hb3
    clear HM1 hb3
    have HE : Hid (YeTo w (folA ⟨s, n, l⟩ ⟨r, m, k⟩) (.returned (.bool false)) V3) := ⟨by rw [HX.out], (HK.out V3 H3.out).2⟩
    go_wp2
    go_ret
    exact HE.out
  | true =>
    rw [hm1] at HM1
    cases hm2 : mayA ⟨r, m, k⟩ with
    | false =>
      rw [hm2] at HMB
      have HX : Hid (folA ⟨s, n, l⟩ ⟨r, m, k⟩ = false) := fol_no (fun h => by rw [hm2] at h; exact absurd h.2.1 (by decide))
      clear hm1 hm2
      go_enter Tryd.func26, Tryd.ntmps26
      go_wp2_with fail
      refine HM1.mono ?_
      rintro e V3 ⟨rfl, hb3⟩
      have H3 : Hid (Below V2.heap.size V2 V3) := hb3
      clear HM1 hb3
      clear z0 z1 z2
      obtain ⟨⟨_, z0, z1, z2⟩, hw3⟩ := HK.out V3 H3.out
      have HM2 := HMB.out V3 hw3
      clear hw3 y0 y1 y2
      go_wp2_with fail
      refine HM2.mono ?_
      rintro e V4 ⟨rfl, hb4⟩
      have H4 : Hid (Below V2.heap.size V2 V4) := H3.out.trans (hb4.mono H3.out.size)
      clear HM2 hb4 z0 z1 z2
      obtain ⟨⟨⟨y0, y1, y2⟩, z0, z1, z2⟩, _⟩ := HK.out V4 H4.out
      have HE : Hid (YeTo w (folA ⟨s, n, l⟩ ⟨r, m, k⟩) (.returned (.bool false)) V4) := ⟨by rw [HX.out], (HK.out V4 H4.out).2⟩
      go_wp2
      go_ret
      exact HE.out
    | true =>
      rw [hm2] at HMB
      have hi1 := mayA_iff.1 hm1
      have hi2 := mayA_iff.1 hm2
      simp only at hi1 hi2
      by_cases hgt : m < n
      · have HX : Hid (folA ⟨s, n, l⟩ ⟨r, m, k⟩ = false) := fol_no (fun h => by have h9 : n ≤ m := h.2.2; omega)
        clear hm1 hm2 hi1 hi2
        go_enter Tryd.func26, Tryd.ntmps26
        go_wp2_with fail
        refine HM1.mono ?_
        rintro e V3 ⟨rfl, hb3⟩
        have H3 : Hid (Below V2.heap.size V2 V3) := hb3
        clear HM1 hb3
        clear z0 z1 z2
        obtain ⟨⟨_, z0, z1, z2⟩, hw3⟩ := HK.out V3 H3.out
        have HM2 := HMB.out V3 hw3
        clear hw3 y0 y1 y2
        go_wp2_with fail
        refine HM2.mono ?_
        rintro e V4 ⟨rfl, hb4⟩
        have H4 : Hid (Below V2.heap.size V2 V4) := H3.out.trans (hb4.mono H3.out.size)
        clear HM2 hb4 z0 z1 z2
        obtain ⟨⟨⟨y0, y1, y2⟩, z0, z1, z2⟩, _⟩ := HK.out V4 H4.out
        have HE : Hid (YeTo w (folA ⟨s, n, l⟩ ⟨r, m, k⟩) (.returned (.bool false)) V4) := ⟨by rw [HX.out], (HK.out V4 H4.out).2⟩
        go_wp2
        go_ret
        exact HE.out
      · have hlm8 : lm ≤ 8 := by have := HR.out.2.2; omega
        have hln8 : ln ≤ 8 := by have := HR.out.2.1; omega
        have HMM : Hid (mayA ⟨s, n, l⟩ = true ∧ mayA ⟨r, m, k⟩ = true ∧ n ≤ m ∧ (∀ e ∈ l, e.ok = true) ∧ (∀ e ∈ k, e.ok = true) ∧ s.size = 32 ∧ r.size = 32 ∧ 0 ≤ n ∧ m ≤ 2147483648) := ⟨hm1, hm2, by omega, run_ok hi1.2.2.2.2, run_ok hi2.2.2.2.2, hi1.1, hi2.1, hi1.2.1, hi2.2.2.1⟩
        clear hm1 hm2 hi1 hi2
        go_enter Tryd.func26, Tryd.ntmps26
        go_wp2_with fail
        refine HM1.mono ?_
        rintro e V3 ⟨rfl, hb3⟩
        have H3 : Hid (Below V2.heap.size V2 V3) := hb3
        clear HM1 hb3
        clear z0 z1 z2
        obtain ⟨⟨_, z0, z1, z2⟩, hw3⟩ := HK.out V3 H3.out
        have HM2 := HMB.out V3 hw3
        clear hw3 y0 y1 y2
        go_wp2_with fail
        refine HM2.mono ?_
        rintro e V4 ⟨rfl, hb4⟩
        have H4 : Hid (Below V2.heap.size V2 V4) := H3.out.trans (hb4.mono H3.out.size)
        clear HM2 hb4 z0 z1 z2
        obtain ⟨⟨⟨y0, y1, y2⟩, z0, z1, z2⟩, _⟩ := HK.out V4 H4.out
        go_wp2
        go_loopw [5] (fun v wr => ∃ i : Nat, i ≤ ln ∧ v = .int .i64 i ∧ pairsB (l.take i) k = true ∧ Below V2.heap.size V2 wr) (fun v _ => ln - (intOf v).toNat)
        case atStart => exact ⟨0, by omega, rfl, rfl, H4.out⟩
        case round =>
        obtain ⟨i, hi, rfl, hpr, hbw⟩ := hrel
        clear y0 y1 y2 z0 z1 z2
        obtain ⟨⟨⟨y0, y1, y2⟩, z0, z1, z2⟩, hww⟩ := HK.out wr hbw
        by_cases hlt : i < ln
        · have kk : (i : Int) < (ln : Int) := by omega
          obtain ⟨⟨p1, p2, p3, p4, p5⟩, hp⟩ : ∃ p, l[i]? = some p := ⟨_, List.getElem?_eq_getElem (by have := HR.out.2.1; omega)⟩
          have HI : Hid (pairsB (l.take i) k = true ∧ l[i]? = some ⟨p1, p2, p3, p4, p5⟩ ∧ Below V2.heap.size V2 wr) := ⟨hpr, hp, hbw⟩
          clear hpr hp hbw hww
          obtain ⟨w1, hw1⟩ : ∃ x, x = wr := ⟨_, rfl⟩
          subst hw1
          go_wp2
          go_loopw [6] (fun v wr => ∃ j : Nat, j ≤ lm ∧ v = .int .i64 j ∧ pxB ⟨p1, p2, p3, p4, p5⟩ (k.take j) = true ∧ Below V2.heap.size V2 wr) (fun v _ => lm - (intOf v).toNat)
          case atStart => exact ⟨0, by omega, rfl, rfl, HI.out.2.2⟩
          case round =>
          obtain ⟨j, hj, rfl, hpx, hbw⟩ := hrel
          clear y0 y1 y2 z0 z1 z2
          obtain ⟨⟨⟨y0, y1, y2⟩, z0, z1, z2⟩, hww⟩ := HK.out wr hbw
          by_cases hjl : j < lm
          · have kj : (j : Int) < (lm : Int) := by omega
            obtain ⟨h5, h6⟩ := HR.out.1 wr hww
            obtain ⟨ab, ao, rfl, _, hc⟩ := h5.at (by omega)
            obtain ⟨bb, bo, rfl, _, hd⟩ := h6.at (by omega)
            obtain ⟨⟨q1, q2, q3, q4, q5⟩, hq⟩ : ∃ q, k[j]? = some q := ⟨_, List.getElem?_eq_getElem (by have := HR.out.2.2; omega)⟩
            obtain ⟨c1, c2, c3, c4, c5⟩ := hc i _ HI.out.2.1
            obtain ⟨d1, d2, d3, d4, d5⟩ := hd j _ hq
            simp only at c1 c2 c3 c4 c5 d1 d2 d3 d4 d5
            have he := fun W => eqin_en ⟨p1, p2, p3, p4, p5⟩ ⟨q1, q2, q3, q4, q5⟩ W
            simp only at he
            obtain ⟨y, hy⟩ : ∃ y, decide ((⟨p1, p2, p3, p4, p5⟩ : En) = ⟨q1, q2, q3, q4, q5⟩) = y := ⟨_, rfl⟩
            rw [hy] at he
            have HE : Hid (decide ((⟨p1, p2, p3, p4, p5⟩ : En) = ⟨q1, q2, q3, q4, q5⟩) = y ∧ k[j]? = some ⟨q1, q2, q3, q4, q5⟩ ∧ pxB ⟨p1, p2, p3, p4, p5⟩ (k.take j) = true ∧ Below V2.heap.size V2 wr ∧ Below w.heap.size w wr) := ⟨hy, hq, hpx, hbw, hww⟩
            clear hc hd hq hy hpx hbw hww h5 h6
            by_cases hsq : p1 = q1
            · have bsq : (p1 == q1) = true := by simpa using hsq
              have HSQ : Hid (p1 = q1) := hsq
              clear hsq
              cases y with
              | true =>
                go_wp2
                go_quiet (fail)
                go_wp2
                refine ⟨⟨j + 1, by omega, by go_num, ?_, below_drewK HE.out.2.2.2.1 _⟩, by simp [intOf]; omega⟩
                rw [px_snoc HE.out.2.1, HE.out.2.2.1, HE.out.1]
                simp
              | false =>
                have HX : Hid (folA ⟨s, n, l⟩ ⟨r, m, k⟩ = false) := fol_pairs (px_no HI.out.2.1 HE.out.2.1 HSQ.out (of_decide_eq_false HE.out.1))
                have HF : Hid (∀ j, YeTo w (folA ⟨s, n, l⟩ ⟨r, m, k⟩) (.returned (.bool false)) (wr.drewN j)) := fun j => ⟨by rw [HX.out], below_drewK HE.out.2.2.2.2 _⟩
                go_wp2
                go_quiet (fail)
                go_wp2
                go_ret
                exact HF.out _
            · have bsq : (p1 == q1) = false := by simpa using hsq
              have HSQ : Hid (¬ p1 = q1) := hsq
              clear hsq
              go_wp2
              go_quiet (fail)
              go_wp2
              refine ⟨⟨j + 1, by omega, by go_num, ?_, below_drewK HE.out.2.2.2.1 _⟩, by simp [intOf]; omega⟩
              rw [px_snoc HE.out.2.1, HE.out.2.2.1]
              simp [HSQ.out]
          · obtain rfl : j = lm := by omega
            have kj : ¬ (j : Int) < (j : Int) := by omega
            have HE : Hid (pairsB (l.take (i + 1)) k = true ∧ Below V2.heap.size V2 wr) := by
              refine ⟨?_, hbw⟩
              rw [List.take_of_length_le (by have := HR.out.2.2; omega)] at hpx
              rw [pairs_snoc HI.out.2.1, HI.out.1, hpx]
              rfl
            clear hpx hbw hww
            go_wp2
            exact ⟨⟨i + 1, by omega, by go_num, HE.out⟩, by simp [intOf]; omega⟩
        · obtain rfl : i = ln := by omega
          have kk : ¬ (i : Int) < (i : Int) := by omega
          rw [List.take_of_length_le (by have := HR.out.2.1; omega)] at hpr
          have HFT : Hid (folA ⟨s, n, l⟩ ⟨r, m, k⟩ = tailB ⟨s, n, l⟩ ⟨r, m, k⟩) := fol_tail HMM.out.1 HMM.out.2.1 HMM.out.2.2.1 hpr
          have HW : Hid (Below V2.heap.size V2 wr) := hbw
          clear hpr hbw hww
          obtain ⟨w1, hw1⟩ : ∃ x, x = wr := ⟨_, rfl⟩
          subst hw1
          go_wp2
          go_loopw [7] (fun v wr => ∃ j : Nat, j ≤ lm + 1 ∧ v = .int .i64 j ∧ notYet m (lm : Int) n j ∧ Below V2.heap.size V2 wr) (fun v _ => lm + 1 - (intOf v).toNat)
          case atStart => exact ⟨0, by omega, rfl, fun i hi => by omega, HW.out⟩
          case round =>
          obtain ⟨j, hj, rfl, hny, hbw⟩ := hrel
          clear y0 y1 y2 z0 z1 z2
          obtain ⟨⟨⟨y0, y1, y2⟩, z0, z1, z2⟩, hww⟩ := HK.out wr hbw
          by_cases hjl : j ≤ lm
          · have kj : (j : Int) ≤ (lm : Int) := by omega
            have wa : IntKind.i64.wrap (m - (lm : Int)) = m - (lm : Int) := by have := HMM.out; rw [IntKind.wrap_i64]; omega
            have wb : IntKind.i64.wrap (m - (lm : Int) + (j : Int)) = m - (lm : Int) + (j : Int) := by have := HMM.out; rw [IntKind.wrap_i64]; omega
            by_cases heq : m - (lm : Int) + (j : Int) = n
            · have beq : (m - (lm : Int) + (j : Int) == n) = true := by simpa using heq
              have hcq : lm ≤ cq := (HR.out.1 w (Below.refl _ _)).2.cap
              obtain ⟨B2, hB2⟩ : ∃ x, cutA b cq 0 5 = x := ⟨_, rfl⟩
              have hs1 : ∀ W, (Instr.sliceAt 22 (.slice b lm cq) none (some (.int .i64 (j : Int))) none).run Tryd.prog W = .ok (.slice B2 j cq) W := fun W => by rw [← hB2]; exact pre_ents b lm cq j (by omega) W
              obtain ⟨Z1, hZ1⟩ : ∃ x, strOf (chA s.data.toList l) = x := ⟨_, rfl⟩
              obtain ⟨Z2, hZ2⟩ : ∃ x, strOf (chA r.data.toList (k.take j)) = x := ⟨_, rfl⟩
              have HCA : Hid (∀ W, Below w.heap.size w W → Calls Tryd.prog 21 #[.string s, .slice a i cp] W fun e w' => e = .returned (.string Z1) ∧ Below W.heap.size W w') := fun W hW => by
                have h9 := rch_any s W (HR.out.1 W hW).1 (by omega) (by have := HMM.out; omega) HMM.out.2.2.2.1
                unfold StTo at h9
                rw [hZ1] at h9
                exact h9
              have HCB : Hid (∀ W, Below w.heap.size w W → Calls Tryd.prog 21 #[.string r, .slice B2 j cq] W fun e w' => e = .returned (.string Z2) ∧ Below W.heap.size W w') := fun W hW => by
                have h9 := rch_any r W ((HR.out.1 W hW).2.pre j hjl) (by omega) (by have := HMM.out; omega) (fun e he => HMM.out.2.2.2.2.1 e (List.mem_of_mem_take he))
                unfold StTo at h9
                rw [hB2, hZ2] at h9
                exact h9
              have hfo : folA ⟨s, n, l⟩ ⟨r, m, k⟩ = decide (Z1 = Z2) := by
                rw [HFT.out]
                unfold tailB
                simp only
                rw [HR.out.2.2, if_pos (by omega), show (n - (m - (lm : Int))).toNat = j by omega, ← hZ1, ← hZ2, Bool.eq_iff_iff, decide_eq_true_eq, decide_eq_true_eq]
                exact ⟨fun h => by rw [h], fun h => strOf_inj h⟩
              have HFO : Hid (folA ⟨s, n, l⟩ ⟨r, m, k⟩ = decide (Z1 = Z2)) := hfo
              have HS : Hid (∀ W, Below wr.heap.size wr W → ((W.cell? ⟨pb, 0, none⟩ = some (.string s) ∧ W.cell? ⟨pb, 1, none⟩ = some (.int .i64 n) ∧ W.cell? ⟨pb, 2, none⟩ = some (.slice a i cp)) ∧ (W.cell? ⟨qb, 0, none⟩ = some (.string r) ∧ W.cell? ⟨qb, 1, none⟩ = some (.int .i64 m) ∧ W.cell? ⟨qb, 2, none⟩ = some (.slice b lm cq))) ∧ Below w.heap.size w W) := fun W hW => HK.out W (hbw.trans (hW.mono hbw.size))
              clear heq hcq hB2 hZ1 hZ2 hfo hny hbw hww
              by_cases hz : Z1 = Z2
              · subst hz
                have HX : Hid (folA ⟨s, n, l⟩ ⟨r, m, k⟩ = true) := by show _ = _; rw [HFO.out]; simp
                have hzt : (Z1.toList == Z1.toList) = true := by simp
                go_wp2
                refine wp_region_held_drew (S := fun W => (W.cell? ⟨pb, 0, none⟩ = some (.string s) ∧ W.cell? ⟨pb, 1, none⟩ = some (.int .i64 n) ∧ W.cell? ⟨pb, 2, none⟩ = some (.slice a i cp)) ∧ (W.cell? ⟨qb, 0, none⟩ = some (.string r) ∧ W.cell? ⟨qb, 1, none⟩ = some (.int .i64 m) ∧ W.cell? ⟨qb, 2, none⟩ = some (.slice b lm cq))) (by kernel_rfl) ((HS.out wr.drew (Below.refl _ wr).drew).1) (fun hHeld => ?_)
                refine wpAnyH_take (i := 0) (v := ?va_0) rfl (by kernel_rfl) (by kernel_rfl) (by kernel_rfl) (fun _ _ _ h => h) (Or.inl ⟨by first | kernel_rfl | rfl, ?ya_0⟩) hHeld ?ra_0
                case ya_0 => (intro W hSW; (try dsimp only at hSW); go_simp; (try with_reducible rfl))
                change wpAnyH _ _ _ _ _ _ _ (Act.put _ (some 81) _) _
                simp only [Act.put, List.setIfInBounds_toArray, List.set_cons_zero, List.set_cons_succ]
                refine wpAnyH_take (i := 1) (v := ?va_1) rfl (by kernel_rfl) (by kernel_rfl) (by kernel_rfl) (fun _ _ _ h => h) (Or.inl ⟨by first | kernel_rfl | rfl, ?ya_1⟩) hHeld ?ra_1
                case ya_1 => (intro W hSW; (try dsimp only at hSW); go_simp; (try with_reducible rfl))
                change wpAnyH _ _ _ _ _ _ _ (Act.put _ (some 82) _) _
                simp only [Act.put, List.setIfInBounds_toArray, List.set_cons_zero, List.set_cons_succ]
                refine wpAnyH_take (i := 2) (v := ?va_2) rfl (by kernel_rfl) (by kernel_rfl) (by kernel_rfl) (fun _ _ _ h => h) (Or.inl ⟨by first | kernel_rfl | rfl, ?ya_2⟩) hHeld ?ra_2
                case ya_2 => (intro W hSW; (try dsimp only at hSW); go_simp; (try with_reducible rfl))
                change wpAnyH _ _ _ _ _ _ _ (Act.put _ (some 83) _) _
                simp only [Act.put, List.setIfInBounds_toArray, List.set_cons_zero, List.set_cons_succ]
                refine wpAnyH_take (i := 3) (v := ?va_3) rfl (by kernel_rfl) (by kernel_rfl) (by kernel_rfl) (fun _ _ _ h => h) (Or.inl ⟨by first | kernel_rfl | rfl, ?ya_3⟩) hHeld ?ra_3
                case ya_3 => (intro W hSW; (try dsimp only at hSW); go_simp; (try with_reducible rfl))
                change wpAnyH _ _ _ _ _ _ _ (Act.put _ (some 84) _) _
                simp only [Act.put, List.setIfInBounds_toArray, List.set_cons_zero, List.set_cons_succ]
                refine wpAnyH_take (i := 5) (v := ?va_5) rfl (by kernel_rfl) (by kernel_rfl) (by kernel_rfl) (fun _ _ _ h => h) (Or.inl ⟨by first | kernel_rfl | rfl, ?ya_5⟩) hHeld ?ra_5
                case ya_5 => (intro W hSW; (try dsimp only at hSW); go_simp; (try with_reducible rfl))
                change wpAnyH _ _ _ _ _ _ _ (Act.put _ (some 86) _) _
                simp only [Act.put, List.setIfInBounds_toArray, List.set_cons_zero, List.set_cons_succ]
                refine wpAnyH_take (i := 6) (v := ?va_6) rfl (by kernel_rfl) (by kernel_rfl) (by kernel_rfl) (fun _ _ _ h => h) (Or.inl ⟨by first | kernel_rfl | rfl, ?ya_6⟩) hHeld ?ra_6
                case ya_6 => (intro W hSW; (try dsimp only at hSW); go_simp; (try with_reducible rfl))
                change wpAnyH _ _ _ _ _ _ _ (Act.put _ (some 87) _) _
                simp only [Act.put, List.setIfInBounds_toArray, List.set_cons_zero, List.set_cons_succ]
                refine wpAnyH_take (i := 7) (v := ?va_7) rfl (by kernel_rfl) (by kernel_rfl) (by kernel_rfl) (fun _ _ _ h => h) (Or.inl ⟨by first | kernel_rfl | rfl, ?ya_7⟩) hHeld ?ra_7
                case ya_7 => (intro W hSW; (try dsimp only at hSW); go_simp; (try with_reducible rfl))
                change wpAnyH _ _ _ _ _ _ _ (Act.put _ (some 88) _) _
                simp only [Act.put, List.setIfInBounds_toArray, List.set_cons_zero, List.set_cons_succ]
                refine wpAnyH_take (i := 8) (v := ?va_8) rfl (by kernel_rfl) (by kernel_rfl) (by kernel_rfl) (fun _ _ _ h => h) (Or.inl ⟨by first | kernel_rfl | rfl, ?ya_8⟩) hHeld ?ra_8
                case ya_8 => (intro W hSW; (try dsimp only at hSW); go_simp; (try with_reducible rfl))
                change wpAnyH _ _ _ _ _ _ _ (Act.put _ (some 89) _) _
                simp only [Act.put, List.setIfInBounds_toArray, List.set_cons_zero, List.set_cons_succ]
                refine wpAnyH_take (i := 9) (v := ?va_9) rfl (by kernel_rfl) (by kernel_rfl) (by kernel_rfl) (fun _ _ _ h => h) (Or.inl ⟨by first | kernel_rfl | rfl, ?ya_9⟩) hHeld ?ra_9
                case ya_9 => (intro W hSW; (try dsimp only at hSW); go_simp; (try with_reducible rfl))
                change wpAnyH _ _ _ _ _ _ _ (Act.put _ (some 90) _) _
                simp only [Act.put, List.setIfInBounds_toArray, List.set_cons_zero, List.set_cons_succ]
                refine wpAnyH_take (i := 10) (v := ?va_10) rfl (by kernel_rfl) (by kernel_rfl) (by kernel_rfl) (fun _ _ _ h => h) (Or.inl ⟨by first | kernel_rfl | rfl, ?ya_10⟩) hHeld ?ra_10
                case ya_10 => (intro W hSW; (try dsimp only at hSW); go_simp; (try with_reducible rfl))
                change wpAnyH _ _ _ _ _ _ _ (Act.put _ (some 91) _) _
                simp only [Act.put, List.setIfInBounds_toArray, List.set_cons_zero, List.set_cons_succ]
                refine wpAnyH_ready (rs := [4]) (by kernel_rfl) (by simp) ?_
                refine AllReadyH.cons rfl (fun K hK => ?_) AllReadyH.nil
                go_simp
                refine (HCA.out wr.drew (HS.out wr.drew (Below.refl _ wr).drew).2).mono ?_
                rintro e V5 ⟨rfl, hb5⟩
                refine hK.out _ _ ((HS.out V5 ((Below.refl _ wr).drew.trans hb5)).1) (fun hHeld => ?_)
                clear hK K
                try simp only [Act.put, List.setIfInBounds_toArray, List.set_cons_zero, List.set_cons_succ]
                have H5 : Hid (Below wr.heap.size wr V5) := (Below.refl _ wr).drew.trans hb5
                clear hb5
                refine wpAnyH_ready (rs := [11]) (by kernel_rfl) (by simp) ?_
                refine AllReadyH.cons rfl (fun K hK => ?_) AllReadyH.nil
                go_simp
                refine (HCB.out V5 (HS.out V5 H5.out).2).mono ?_
                rintro e V6 ⟨rfl, hb6⟩
                refine hK.out _ _ ((HS.out V6 (H5.out.trans (hb6.mono H5.out.size))).1) (fun hHeld => ?_)
                clear hK K
                try simp only [Act.put, List.setIfInBounds_toArray, List.set_cons_zero, List.set_cons_succ]
                have HZ : Hid (Below w.heap.size w V6) := (HS.out V6 (H5.out.trans (hb6.mono H5.out.size))).2
                clear hb6
                refine wpAnyH_take (i := 12) (v := ?va_12) rfl (by kernel_rfl) (by kernel_rfl) (by kernel_rfl) (fun _ _ _ h => h) (Or.inl ⟨by first | kernel_rfl | rfl, ?ya_12⟩) hHeld ?ra_12
                case ya_12 => (intro W hSW; (try dsimp only at hSW); go_simp; (try with_reducible rfl))
                change wpAnyH _ _ _ _ _ _ _ (Act.put _ (some 93) _) _
                simp only [Act.put, List.setIfInBounds_toArray, List.set_cons_zero, List.set_cons_succ]
                refine wpAnyH_take (i := 13) (v := ?va_13) rfl (by kernel_rfl) (by kernel_rfl) (by kernel_rfl) (fun _ _ _ h => h) (Or.inl ⟨by first | kernel_rfl | rfl, ?ya_13⟩) hHeld ?ra_13
                case ya_13 => (intro W hSW; (try dsimp only at hSW); go_simp; (try with_reducible rfl))
                change wpAnyH _ _ _ _ _ _ _ (Act.put _ (some 4) _) _
                simp only [Act.put, List.setIfInBounds_toArray, List.set_cons_zero, List.set_cons_succ]
                refine wpAnyH_done (by kernel_rfl) ?_ _
                have HE : Hid (∀ W, Below w.heap.size w W → YeTo w (folA ⟨s, n, l⟩ ⟨r, m, k⟩) (.returned (.bool true)) W) := fun W hW => ⟨by rw [HX.out], hW⟩
                go_wp2
                go_ret
                exact HE.out _ HZ.out
              · have HX : Hid (folA ⟨s, n, l⟩ ⟨r, m, k⟩ = false) := by show _ = _; rw [HFO.out]; simp [hz]
                have hzn := str_ne hz
                have hzb := str_nb hz
                clear hz
                go_wp2
                refine wp_region_held_drew (S := fun W => (W.cell? ⟨pb, 0, none⟩ = some (.string s) ∧ W.cell? ⟨pb, 1, none⟩ = some (.int .i64 n) ∧ W.cell? ⟨pb, 2, none⟩ = some (.slice a i cp)) ∧ (W.cell? ⟨qb, 0, none⟩ = some (.string r) ∧ W.cell? ⟨qb, 1, none⟩ = some (.int .i64 m) ∧ W.cell? ⟨qb, 2, none⟩ = some (.slice b lm cq))) (by kernel_rfl) ((HS.out wr.drew (Below.refl _ wr).drew).1) (fun hHeld => ?_)
                refine wpAnyH_take (i := 0) (v := ?vb_0) rfl (by kernel_rfl) (by kernel_rfl) (by kernel_rfl) (fun _ _ _ h => h) (Or.inl ⟨by first | kernel_rfl | rfl, ?yb_0⟩) hHeld ?rb_0
                case yb_0 => (intro W hSW; (try dsimp only at hSW); go_simp; (try with_reducible rfl))
                change wpAnyH _ _ _ _ _ _ _ (Act.put _ (some 81) _) _
                simp only [Act.put, List.setIfInBounds_toArray, List.set_cons_zero, List.set_cons_succ]
                refine wpAnyH_take (i := 1) (v := ?vb_1) rfl (by kernel_rfl) (by kernel_rfl) (by kernel_rfl) (fun _ _ _ h => h) (Or.inl ⟨by first | kernel_rfl | rfl, ?yb_1⟩) hHeld ?rb_1
                case yb_1 => (intro W hSW; (try dsimp only at hSW); go_simp; (try with_reducible rfl))
                change wpAnyH _ _ _ _ _ _ _ (Act.put _ (some 82) _) _
                simp only [Act.put, List.setIfInBounds_toArray, List.set_cons_zero, List.set_cons_succ]
                refine wpAnyH_take (i := 2) (v := ?vb_2) rfl (by kernel_rfl) (by kernel_rfl) (by kernel_rfl) (fun _ _ _ h => h) (Or.inl ⟨by first | kernel_rfl | rfl, ?yb_2⟩) hHeld ?rb_2
                case yb_2 => (intro W hSW; (try dsimp only at hSW); go_simp; (try with_reducible rfl))
                change wpAnyH _ _ _ _ _ _ _ (Act.put _ (some 83) _) _
                simp only [Act.put, List.setIfInBounds_toArray, List.set_cons_zero, List.set_cons_succ]
                refine wpAnyH_take (i := 3) (v := ?vb_3) rfl (by kernel_rfl) (by kernel_rfl) (by kernel_rfl) (fun _ _ _ h => h) (Or.inl ⟨by first | kernel_rfl | rfl, ?yb_3⟩) hHeld ?rb_3
                case yb_3 => (intro W hSW; (try dsimp only at hSW); go_simp; (try with_reducible rfl))
                change wpAnyH _ _ _ _ _ _ _ (Act.put _ (some 84) _) _
                simp only [Act.put, List.setIfInBounds_toArray, List.set_cons_zero, List.set_cons_succ]
                refine wpAnyH_take (i := 5) (v := ?vb_5) rfl (by kernel_rfl) (by kernel_rfl) (by kernel_rfl) (fun _ _ _ h => h) (Or.inl ⟨by first | kernel_rfl | rfl, ?yb_5⟩) hHeld ?rb_5
                case yb_5 => (intro W hSW; (try dsimp only at hSW); go_simp; (try with_reducible rfl))
                change wpAnyH _ _ _ _ _ _ _ (Act.put _ (some 86) _) _
                simp only [Act.put, List.setIfInBounds_toArray, List.set_cons_zero, List.set_cons_succ]
                refine wpAnyH_take (i := 6) (v := ?vb_6) rfl (by kernel_rfl) (by kernel_rfl) (by kernel_rfl) (fun _ _ _ h => h) (Or.inl ⟨by first | kernel_rfl | rfl, ?yb_6⟩) hHeld ?rb_6
                case yb_6 => (intro W hSW; (try dsimp only at hSW); go_simp; (try with_reducible rfl))
                change wpAnyH _ _ _ _ _ _ _ (Act.put _ (some 87) _) _
                simp only [Act.put, List.setIfInBounds_toArray, List.set_cons_zero, List.set_cons_succ]
                refine wpAnyH_take (i := 7) (v := ?vb_7) rfl (by kernel_rfl) (by kernel_rfl) (by kernel_rfl) (fun _ _ _ h => h) (Or.inl ⟨by first | kernel_rfl | rfl, ?yb_7⟩) hHeld ?rb_7
                case yb_7 => (intro W hSW; (try dsimp only at hSW); go_simp; (try with_reducible rfl))
                change wpAnyH _ _ _ _ _ _ _ (Act.put _ (some 88) _) _
                simp only [Act.put, List.setIfInBounds_toArray, List.set_cons_zero, List.set_cons_succ]
                refine wpAnyH_take (i := 8) (v := ?vb_8) rfl (by kernel_rfl) (by kernel_rfl) (by kernel_rfl) (fun _ _ _ h => h) (Or.inl ⟨by first | kernel_rfl | rfl, ?yb_8⟩) hHeld ?rb_8
                case yb_8 => (intro W hSW; (try dsimp only at hSW); go_simp; (try with_reducible rfl))
                change wpAnyH _ _ _ _ _ _ _ (Act.put _ (some 89) _) _
                simp only [Act.put, List.setIfInBounds_toArray, List.set_cons_zero, List.set_cons_succ]
                refine wpAnyH_take (i := 9) (v := ?vb_9) rfl (by kernel_rfl) (by kernel_rfl) (by kernel_rfl) (fun _ _ _ h => h) (Or.inl ⟨by first | kernel_rfl | rfl, ?yb_9⟩) hHeld ?rb_9
                case yb_9 => (intro W hSW; (try dsimp only at hSW); go_simp; (try with_reducible rfl))
                change wpAnyH _ _ _ _ _ _ _ (Act.put _ (some 90) _) _
                simp only [Act.put, List.setIfInBounds_toArray, List.set_cons_zero, List.set_cons_succ]
                refine wpAnyH_take (i := 10) (v := ?vb_10) rfl (by kernel_rfl) (by kernel_rfl) (by kernel_rfl) (fun _ _ _ h => h) (Or.inl ⟨by first | kernel_rfl | rfl, ?yb_10⟩) hHeld ?rb_10
                case yb_10 => (intro W hSW; (try dsimp only at hSW); go_simp; (try with_reducible rfl))
                change wpAnyH _ _ _ _ _ _ _ (Act.put _ (some 91) _) _
                simp only [Act.put, List.setIfInBounds_toArray, List.set_cons_zero, List.set_cons_succ]
                refine wpAnyH_ready (rs := [4]) (by kernel_rfl) (by simp) ?_
                refine AllReadyH.cons rfl (fun K hK => ?_) AllReadyH.nil
                go_simp
                refine (HCA.out wr.drew (HS.out wr.drew (Below.refl _ wr).drew).2).mono ?_
                rintro e V5 ⟨rfl, hb5⟩
                refine hK.out _ _ ((HS.out V5 ((Below.refl _ wr).drew.trans hb5)).1) (fun hHeld => ?_)
                clear hK K
                try simp only [Act.put, List.setIfInBounds_toArray, List.set_cons_zero, List.set_cons_succ]
                have H5 : Hid (Below wr.heap.size wr V5) := (Below.refl _ wr).drew.trans hb5
                clear hb5
                refine wpAnyH_ready (rs := [11]) (by kernel_rfl) (by simp) ?_
                refine AllReadyH.cons rfl (fun K hK => ?_) AllReadyH.nil
                go_simp
                refine (HCB.out V5 (HS.out V5 H5.out).2).mono ?_
                rintro e V6 ⟨rfl, hb6⟩
                refine hK.out _ _ ((HS.out V6 (H5.out.trans (hb6.mono H5.out.size))).1) (fun hHeld => ?_)
                clear hK K
                try simp only [Act.put, List.setIfInBounds_toArray, List.set_cons_zero, List.set_cons_succ]
                have HZ : Hid (Below w.heap.size w V6) := (HS.out V6 (H5.out.trans (hb6.mono H5.out.size))).2
                clear hb6
                refine wpAnyH_take (i := 12) (v := ?vb_12) rfl (by kernel_rfl) (by kernel_rfl) (by kernel_rfl) (fun _ _ _ h => h) (Or.inl ⟨by first | kernel_rfl | rfl, ?yb_12⟩) hHeld ?rb_12
                case yb_12 => (intro W hSW; (try dsimp only at hSW); go_simp; (try with_reducible rfl))
                change wpAnyH _ _ _ _ _ _ _ (Act.put _ (some 93) _) _
                simp only [Act.put, List.setIfInBounds_toArray, List.set_cons_zero, List.set_cons_succ]
                refine wpAnyH_take (i := 13) (v := ?vb_13) rfl (by kernel_rfl) (by kernel_rfl) (by kernel_rfl) (fun _ _ _ h => h) (Or.inl ⟨by first | kernel_rfl | rfl, ?yb_13⟩) hHeld ?rb_13
                case yb_13 => (intro W hSW; (try dsimp only at hSW); go_simp; (try with_reducible rfl))
                change wpAnyH _ _ _ _ _ _ _ (Act.put _ (some 4) _) _
                simp only [Act.put, List.setIfInBounds_toArray, List.set_cons_zero, List.set_cons_succ]
                refine wpAnyH_done (by kernel_rfl) ?_ _
                have HE : Hid (∀ W, Below w.heap.size w W → YeTo w (folA ⟨s, n, l⟩ ⟨r, m, k⟩) (.returned (.bool false)) W) := fun W hW => ⟨by rw [HX.out], hW⟩
                go_wp2
                go_ret
                exact HE.out _ HZ.out
            · have beq : (m - (lm : Int) + (j : Int) == n) = false := by simpa using heq
              have HE : Hid (notYet m (lm : Int) n (j + 1) ∧ Below V2.heap.size V2 wr) := ⟨fun x hx => by
                by_cases hxj : x = j
                · rw [hxj]; exact heq
                · exact hny x (by omega), hbw⟩
              clear heq hny hbw hww
              go_wp2
              exact ⟨⟨j + 1, by omega, by go_num, HE.out⟩, by simp [intOf]; omega⟩
          · obtain rfl : j = lm + 1 := by omega
            have kj : ¬ ((lm + 1 : Nat) : Int) ≤ (lm : Int) := by omega
            have HE : Hid (YeTo w (folA ⟨s, n, l⟩ ⟨r, m, k⟩) (.returned (.bool true)) wr) := by
              refine ⟨?_, hww⟩
              rw [HFT.out]
              unfold tailB
              simp only
              rw [HR.out.2.2, if_neg (fun h => ?_)]
              have h9 := HMM.out
              exact hny (n - (m - (lm : Int))).toNat (by omega) (by omega)
            obtain ⟨lm1, hlm1⟩ : ∃ x, lm + 1 = x := ⟨_, rfl⟩
            rw [hlm1] at kj
            rw [hlm1]
            clear hny hbw hww hlm1
            go_wp2
            go_ret
            exact HE.out
end Go.Proofs.YtkhidkilkbmpoaaDoor
