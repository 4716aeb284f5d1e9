/- A walk over the document's Narrow. Walks over Lets, and over the document's Lets. -/
import Derived.Test.YtcmdcmbiilfngabDoorKH
namespace Go.Proofs.YtcmdcmbiilfngabDoor
open Go.RowKit
end Go.Proofs.YtcmdcmbiilfngabDoor
namespace Go.Proofs.YtcmdcmbiilfngabDoor
open Go.RowKit
open Pt (placeL coversL)
theorem and_fin : ∀ a : Fin 8, ((bits BinOp.and IntKind.i64 (a.val : Int) 1 == 0) = !hasR (a.val : Int) 1) ∧ ((bits BinOp.and IntKind.i64 (a.val : Int) 2 == 0) = !hasR (a.val : Int) 2) ∧ ((bits BinOp.and IntKind.i64 (a.val : Int) 4 == 0) = !hasR (a.val : Int) 4) := by decide +kernel
theorem and_has {a x : Int} (ha : 0 ≤ a ∧ a ≤ 7) (hx : rightB x = true) : (bits BinOp.and IntKind.i64 a x == 0) = !hasR a x := by
  obtain ⟨n, rfl⟩ : ∃ n : Nat, a = (n : Int) := ⟨a.toNat, by omega⟩
  obtain ⟨h1, h2, h4⟩ := and_fin ⟨n, by omega⟩
  unfold rightB at hx
  rcases of_decide_eq_true hx with rfl | rfl | rfl
  · exact h1
  · exact h2
  · exact h4
theorem lets_no {t : Tk} {x : Int} {p : List UInt8} {now : Int} {i : Nat} {c : Cv} (hi : t.cavs[i]? = some c) (hc : c.lets x p now = false) : letsT t x p now = false := by
  unfold letsT
  have : t.cavs.all (fun c => c.lets x p now) = false := by
    rw [List.all_eq_false]
    exact ⟨c, List.mem_of_getElem? hi, by simp [hc]⟩
  rw [this, Bool.and_false]
theorem lets_take {l : List Cv} {x : Int} {p : List UInt8} {now : Int} {i : Nat} {c : Cv} (hi : l[i]? = some c) (h : ∀ d ∈ l.take i, d.lets x p now = true) (hc : c.lets x p now = true) : ∀ d ∈ l.take (i + 1), d.lets x p now = true := by
  rw [take_snocK hi]
  intro d hd
  rcases List.mem_append.1 hd with hd | hd
  · exact h d hd
  · rw [List.mem_singleton.1 hd]; exact hc
set_option maxRecDepth 100000 in
set_option maxHeartbeats 4000000 in
theorem lets_any {w : World} {a : Option Addr} {ln cp : Nat} {l : List Cv} (t n : Int) (s : ByteArray) (x : Int) (p : ByteArray) (now : Int) (h : Kw w a ln cp l) (hp : ∀ c ∈ l, c.path.size ≤ 9223372036854775807) (hps : p.size ≤ 9223372036854775807) : Calls Tryd.prog 14 #[.agg #[.int .i64 t, .int .i64 n, .slice a ln cp, .string s], .int .i64 x, .string p, .int .i64 now] w fun e w' => YeTo w (letsT ⟨t, n, l, s⟩ x p.data.toList now) e w' := by
  have hl := h.len
  have hmx := h.max
  obtain ⟨pb, hpb⟩ : ∃ pb, w.heap.size = pb := ⟨_, rfl⟩
  obtain ⟨V1, hV1, r1, hb1⟩ := box_tk (w := w) t n a ln cp s
  rw [hpb] at r1
  have HK : Hid (∀ W, Below V1.heap.size V1 W → W.cell? ⟨pb, 0, none⟩ = some (.int .i64 t) ∧ W.cell? ⟨pb, 1, none⟩ = some (.int .i64 n) ∧ W.cell? ⟨pb, 2, none⟩ = some (.slice a ln cp) ∧ W.cell? ⟨pb, 3, none⟩ = some (.string s)) := fun W hW => by
    obtain ⟨e0, e1, e2, e3, _⟩ := row4 ((hW.block pb (lt_of_some r1)).trans r1)
    exact ⟨e0, e1, e2, e3⟩
  have HB : Hid (Below w.heap.size w V1) := hb1
  have HR : Hid ((∀ W, Below V1.heap.size V1 W → Kw W a ln cp l) ∧ l.length = ln) := ⟨fun W hW => h.below (hb1.trans (hW.mono hb1.size)), hl⟩
  have HPL : Hid (∀ W, Calls Tryd.prog 38 #[.string p] W fun e w' => e = .returned (.bool (placeL p.data.toList)) ∧ Below W.heap.size W w') := fun W => Pt.place_any p W hps
  have HMY : Hid (∀ W, Below V1.heap.size V1 W → Calls Tryd.prog 19 #[.agg #[.int .i64 t, .int .i64 n, .slice a ln cp, .string s]] W fun e w' => e = .returned (.bool (mayT ⟨t, n, l, s⟩)) ∧ Below W.heap.size W w') := fun W hW => cmay_any t n s (h.below (hb1.trans (hW.mono hb1.size))) hp
  have KN : Hid (∀ W, Below V1.heap.size V1 W → letsT ⟨t, n, l, s⟩ x p.data.toList now = false → YeTo w (letsT ⟨t, n, l, s⟩ x p.data.toList now) (.returned (.bool false)) W) := fun W hW hf => ⟨by rw [hf], HB.out.trans (hW.mono HB.out.size)⟩
  have HI := isright_any x V1
  clear r1 hb1 h hl
  cases hx : rightB x with
  | false =>
    rw [hx] at HI
    have HE : Hid (YeTo w (letsT ⟨t, n, l, s⟩ x p.data.toList now) (.returned (.bool false)) V1) := KN.out V1 (Below.refl _ _) (by unfold letsT; rw [hx]; rfl)
    clear hx
    go_enter Tryd.func14, Tryd.ntmps14
    go_wp2_with fail
    refine HI.mono ?_
    rintro e V9 ⟨rfl, hV9⟩
    subst V9
    clear HI
    go_wp2
    go_ret
    exact HE.out
  | true =>
    rw [hx] at HI
    have HXR : Hid (rightB x = true) := hx
    cases hpl : placeL p.data.toList with
    | false =>
      rw [hpl] at HPL
      have HP1 := HPL.out V1
      have hf : letsT ⟨t, n, l, s⟩ x p.data.toList now = false := by unfold letsT; rw [hpl]; simp
      clear hpl hx
      go_enter Tryd.func14, Tryd.ntmps14
      go_wp2_with fail
      refine HI.mono ?_
      rintro e V9 ⟨rfl, hV9⟩
      subst V9
      clear HI
      go_wp2_with fail
      refine HP1.mono ?_
      rintro e V2 ⟨rfl, hb2⟩
      have HE : Hid (YeTo w (letsT ⟨t, n, l, s⟩ x p.data.toList now) (.returned (.bool false)) V2) := KN.out V2 hb2 hf
      clear HP1 hb2 hf
      go_wp2
      go_ret
      exact HE.out
    | true =>
      rw [hpl] at HPL
      have HP1 := HPL.out V1
      cases hm : mayT ⟨t, n, l, s⟩ with
      | false =>
        rw [hm] at HMY
        have hf : letsT ⟨t, n, l, s⟩ x p.data.toList now = false := by unfold letsT; rw [hm]; simp
        clear hpl hm hx
        go_enter Tryd.func14, Tryd.ntmps14
        go_wp2_with fail
        refine HI.mono ?_
        rintro e V9 ⟨rfl, hV9⟩
        subst V9
        clear HI
        go_wp2_with fail
        refine HP1.mono ?_
        rintro e V2 ⟨rfl, hb2⟩
        have HM2 := HMY.out V2 hb2
        obtain ⟨y0, y1, y2, y3⟩ := HK.out V2 hb2
        have H2 : Hid (Below V1.heap.size V1 V2) := hb2
        clear HP1 hb2
        go_wp2_with fail
        refine HM2.mono ?_
        rintro e V3 ⟨rfl, hb3⟩
        have HE : Hid (YeTo w (letsT ⟨t, n, l, s⟩ x p.data.toList now) (.returned (.bool false)) V3) := KN.out V3 (H2.out.trans (hb3.mono H2.out.size)) hf
        clear HM2 hb3 hf y0 y1 y2 y3
        go_wp2
        go_ret
        exact HE.out
      | true =>
        rw [hm] at HMY
        have hmi := may_iff.1 hm
        simp only at hmi
        have HA : Hid (letsT ⟨t, n, l, s⟩ x p.data.toList now = (l.all fun c => c.lets x p.data.toList now)) := by show _ = _; unfold letsT; rw [HXR.out, hpl, hm]; rfl
        have HOK : Hid ((∀ c ∈ l, c.ok = true) ∧ (∀ c ∈ l, c.path.size ≤ 32)) := ⟨hmi.2.2.2, fun c hc => ok_path (hmi.2.2.2 c hc)⟩
        have HCO : Hid (∀ (q : ByteArray) W, q.size ≤ 32 → Calls Tryd.prog 39 #[.string q, .string p] W fun e w' => e = .returned (.bool (coversL q.data.toList p.data.toList)) ∧ Below W.heap.size W w') := fun q W hq => Pt.covers_any q p W (by omega) hps
        have hl8 : ln ≤ 8 := by rw [← HR.out.2]; exact hmi.2.1
        clear hpl hm hmi hx
        go_enter Tryd.func14, Tryd.ntmps14
        go_wp2_with fail
        refine HI.mono ?_
        rintro e V9 ⟨rfl, hV9⟩
        subst V9
        clear HI
        go_wp2_with fail
        refine HP1.mono ?_
        rintro e V2 ⟨rfl, hb2⟩
        have HM2 := HMY.out V2 hb2
        obtain ⟨y0, y1, y2, y3⟩ := HK.out V2 hb2
        have H2 : Hid (Below V1.heap.size V1 V2) := hb2
        clear HP1 hb2
        go_wp2_with fail
        refine HM2.mono ?_
        rintro e V3 ⟨rfl, hb3⟩
        have hB3 : Below V1.heap.size V1 V3 := H2.out.trans (hb3.mono H2.out.size)
        have H3 : Hid (Below V1.heap.size V1 V3) := hB3
        clear HM2 hb3 y0 y1 y2 y3
        obtain ⟨y0, y1, y2, y3⟩ := HK.out V3 hB3
        clear hB3
        go_wp2
        go_loopw [27] (fun v wr => ∃ i : Nat, i ≤ ln ∧ v = .int .i64 i ∧ (∀ c ∈ l.take i, c.lets x p.data.toList now = true) ∧ Below V1.heap.size V1 wr) (fun v _ => ln - (intOf v).toNat)
        case atStart => exact ⟨0, by omega, rfl, by simp, H3.out⟩
        case round =>
        obtain ⟨i, hi, rfl, hal, hbw⟩ := hrel
        clear y0 y1 y2 y3
        obtain ⟨y0, y1, y2, y3⟩ := HK.out wr hbw
        by_cases hlt : i < ln
        · have kk : (i : Int) < (ln : Int) := by omega
          obtain ⟨ab, ao, rfl, _, hc⟩ := (HR.out.1 wr hbw).at (by omega)
          obtain ⟨⟨c1, c2, c3⟩, hci⟩ : ∃ c, l[i]? = some c := ⟨_, List.getElem?_eq_getElem (by have := HR.out.2; omega)⟩
          obtain ⟨d0, d1, d2⟩ := hc i _ hci
          have hco := Cv.ok_iff.1 (HOK.out.1 _ (List.mem_of_getElem? hci))
          have hcp := HOK.out.2 _ (List.mem_of_getElem? hci)
          simp only at d0 d1 d2 hco hcp
          obtain ⟨V4, hV4, r4, hb4⟩ := box_cv (w := wr) c1 c2 c3
          obtain ⟨qb, hqb⟩ : ∃ qb, wr.heap.size = qb := ⟨_, rfl⟩
          rw [hqb] at r4
          have x0 : V4.cell? ⟨qb, 0, none⟩ = some (.string c1) := by rw [cell_of_row _ _ _ _ _ _ r4]; rfl
          have HC := HCO.out c1 V4 hcp
          have hB4 : Below V1.heap.size V1 V4 := hbw.trans (hb4.mono hbw.size)
          have H4 : Hid (V4.heap[qb]? = some (.cells #[.string c1, .int .i64 c2, .int .i64 c3] 39 (0, 0)) ∧ Below V1.heap.size V1 V4 ∧ (∀ c ∈ l.take i, c.lets x p.data.toList now = true) ∧ l[i]? = some ⟨c1, c2, c3⟩) := ⟨r4, hB4, hal, hci⟩
          have hbn : (bits BinOp.and IntKind.i64 c2 x == 0) = !hasR c2 x := and_has ⟨hco.2.1, hco.2.2.1⟩ HXR.out
          obtain ⟨q, hq⟩ : ∃ q, bits BinOp.and IntKind.i64 c2 x = q := ⟨_, rfl⟩
          rw [hq] at hbn
          have hle : (⟨c1, c2, c3⟩ : Cv).lets x p.data.toList now = (coversL c1.data.toList p.data.toList && hasR c2 x && decide (now ≤ c3)) := rfl
          clear r4 hb4 hB4 hal hci hc hbw hco
          cases hcv : coversL c1.data.toList p.data.toList with
          | false =>
            rw [hcv] at HC
            have hf : letsT ⟨t, n, l, s⟩ x p.data.toList now = false := lets_no (t := ⟨t, n, l, s⟩) H4.out.2.2.2 (by rw [hle, hcv]; rfl)
            clear hcv hle hbn hq
            go_wp2_with fail
            refine HC.mono ?_
            rintro e V5 ⟨rfl, hb5⟩
            have HE : Hid (YeTo w (letsT ⟨t, n, l, s⟩ x p.data.toList now) (.returned (.bool false)) V5) := KN.out V5 (H4.out.2.1.trans (hb5.mono H4.out.2.1.size)) hf
            clear HC hb5 hf
            go_wp2
            go_ret
            exact HE.out
          | true =>
            rw [hcv] at HC
            cases hhr : hasR c2 x with
            | false =>
              have hf : letsT ⟨t, n, l, s⟩ x p.data.toList now = false := lets_no (t := ⟨t, n, l, s⟩) H4.out.2.2.2 (by rw [hle, hcv, hhr]; rfl)
              rw [hhr] at hbn
              have hq0 : q = 0 := by simpa using hbn
              clear hcv hle hhr
              go_wp2_with fail
              refine HC.mono ?_
              rintro e V5 ⟨rfl, hb5⟩
              have HE : Hid (YeTo w (letsT ⟨t, n, l, s⟩ x p.data.toList now) (.returned (.bool false)) V5) := KN.out V5 (H4.out.2.1.trans (hb5.mono H4.out.2.1.size)) hf
              obtain ⟨z0, z1, z2, _⟩ := row3 ((hb5.block qb (lt_of_some H4.out.1)).trans H4.out.1)
              clear HC hb5 hf x0
              go_wp2
              go_ret
              exact HE.out
            | true =>
              rw [hhr] at hbn
              have hq0 : ¬ q = 0 := by simpa using hbn
              by_cases hnow : now ≤ c3
              · have kn : ¬ c3 < now := by omega
                have kd : decide (c3 < now) = false := decide_eq_false kn
                have hct : (⟨c1, c2, c3⟩ : Cv).lets x p.data.toList now = true := by rw [hle, hcv, hhr, decide_eq_true hnow]; rfl
                have HAL : Hid (∀ c ∈ l.take (i + 1), c.lets x p.data.toList now = true) := lets_take H4.out.2.2.2 H4.out.2.2.1 hct
                clear hcv hle hhr hct hnow
                go_wp2_with fail
                refine HC.mono ?_
                rintro e V5 ⟨rfl, hb5⟩
                obtain ⟨z0, z1, z2, _⟩ := row3 ((hb5.block qb (lt_of_some H4.out.1)).trans H4.out.1)
                have H5 : Hid (Below V1.heap.size V1 V5) := H4.out.2.1.trans (hb5.mono H4.out.2.1.size)
                clear HC hb5 x0
                go_wp2
                exact ⟨⟨i + 1, by omega, by go_num, HAL.out, H5.out⟩, by simp [intOf]; omega⟩
              · have kn : c3 < now := by omega
                have kd : decide (c3 < now) = true := decide_eq_true kn
                have hf : letsT ⟨t, n, l, s⟩ x p.data.toList now = false := lets_no (t := ⟨t, n, l, s⟩) H4.out.2.2.2 (by rw [hle, hcv, hhr, decide_eq_false hnow]; rfl)
                clear hcv hle hhr hnow
                go_wp2_with fail
                refine HC.mono ?_
                rintro e V5 ⟨rfl, hb5⟩
                have HE : Hid (YeTo w (letsT ⟨t, n, l, s⟩ x p.data.toList now) (.returned (.bool false)) V5) := KN.out V5 (H4.out.2.1.trans (hb5.mono H4.out.2.1.size)) hf
                obtain ⟨z0, z1, z2, _⟩ := row3 ((hb5.block qb (lt_of_some H4.out.1)).trans H4.out.1)
                clear HC hb5 hf x0
                go_wp2
                go_ret
                exact HE.out
        · obtain rfl : i = ln := by omega
          have kk : ¬ (i : Int) < (i : Int) := by omega
          have HE : Hid (YeTo w (letsT ⟨t, n, l, s⟩ x p.data.toList now) (.returned (.bool true)) wr) := by
            refine ⟨?_, HB.out.trans (hbw.mono HB.out.size)⟩
            rw [List.take_of_length_le (by have := HR.out.2; omega)] at hal
            rw [HA.out, List.all_eq_true.2 hal]
          clear hal hbw
          go_wp2
          go_ret
          exact HE.out
end Go.Proofs.YtcmdcmbiilfngabDoor
