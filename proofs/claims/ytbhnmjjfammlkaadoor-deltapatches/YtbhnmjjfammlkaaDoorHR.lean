/- A walk over Check. -/
import Derived.Test.YtbhnmjjfammlkaaDoorHI
namespace Go.Proofs.YtbhnmjjfammlkaaDoor
open Go.RowKit
/-- What Check tells. -/
def ckI (b : Bool) : Int := if b then 0 else 1
def CkTo (w : World) (b : Bool) (e : Ending) (w' : World) : Prop := e = .returned (.int .i64 (ckI b)) ∧ Below w.heap.size w w'
theorem well_eq {l : List Pc} {i : Nat} {p : Pc} (h : l[i]? = some p) : wellAt l i = ((blkB p || bytB p) && (p.copy || decide (i = 0) || (match l[i - 1]? with | none => true | some q => q.copy))) := by
  unfold wellAt
  rw [h]
  simp only
  rw [ok_or]
  rfl
theorem blk_copy {p : Pc} (h : blkB p = true) : p.copy = true := by
  obtain ⟨a, n, s⟩ := p
  cases a <;> simp [blkB] at h ⊢
theorem byt_copy {p : Pc} (h : bytB p = true) : p.copy = false := by
  obtain ⟨a, n, s⟩ := p
  cases a <;> simp [bytB] at h ⊢
theorem well_copy {l : List Pc} {k : Nat} {q : Pc} (h : wellAt l k = true) (hq : l[k]? = some q) (hb : bytB q = false) : q.copy = true := by
  rw [well_eq hq, hb, Bool.or_false, Bool.and_eq_true] at h
  exact blk_copy h.1
set_option maxRecDepth 100000 in
set_option maxHeartbeats 4000000 in
theorem dcheck_any {G : Nat → Prop} {w : World} {a : Option Addr} {n c : Nat} {l : List Pc} (h : Hw G w a n c l) : Calls Tryd.prog 16 #[.slice a n c] w fun e w' => CkTo w (mayP l) e w' := by
  have hl := h.len
  have hmx := h.max
  by_cases hn : 1024 < n
  · have kn : (1024 : Int) < (n : Int) := by omega
    have HE : Hid (CkTo w (mayP l) (.returned (.int .i64 1)) w) := by
      refine ⟨?_, Below.refl _ _⟩
      have : mayP l = false := by
        cases hm : mayP l with
        | false => rfl
        | true => have := ((may_iff l).1 hm).1; omega
      rw [this]
      rfl
    go_enter Tryd.func16, Tryd.ntmps16
    go_wp2
    go_ret
    exact HE.out
  · have kn : ¬ (1024 : Int) < (n : Int) := by omega
    have HA : Hid (∀ W, Below w.heap.size w W → Hw G W a n c l) := fun W hW => h.below hW
    clear h
    go_enter Tryd.func16, Tryd.ntmps16
    go_wp2
    go_loopw [10] (fun v wr => ∃ i : Nat, i ≤ n ∧ v = .int .i64 i ∧ (∀ j, j < i → wellAt l j = true) ∧ Below w.heap.size w wr) (fun v _ => n - (intOf v).toNat)
    case atStart => exact ⟨0, by omega, rfl, (fun j hj => by omega), Below.refl _ _⟩
    case round =>
      obtain ⟨i, hi, rfl, hwl, hbw⟩ := hrel
      by_cases hlt : i < n
      · have kk : (i : Int) < (n : Int) := by omega
        obtain ⟨ab, ao, rfl, hab, hc⟩ := (HA.out wr hbw).at (by omega)
        obtain ⟨p, hp⟩ : ∃ p, l[i]? = some p := ⟨_, List.getElem?_eq_getElem (by omega)⟩
        have hwe := well_eq hp
        obtain ⟨c1, c2, c3⟩ := hc i _ hp
        obtain ⟨V1, hV1, r1, hB1⟩ := box_pc (w := wr) p.copy p.n p.data
        obtain ⟨pb, hpb⟩ : ∃ pb, wr.heap.size = pb := ⟨_, rfl⟩
        have HPB : Hid (wr.heap.size = pb) := hpb
        rw [hpb] at r1
        have hpbl := lt_of_some r1
        have HX : Hid (∀ V, Below V1.heap.size V1 V → V.cell? ⟨pb, 0, none⟩ = some (.bool p.copy) ∧ V.cell? ⟨pb, 1, none⟩ = some (.int .i64 p.n) ∧ V.cell? ⟨pb, 2, none⟩ = some (.string p.data)) := fun V hV => by
          have r2 := (hV.block pb hpbl).trans r1
          exact ⟨by rw [cell_of_row _ _ _ _ _ _ r2]; rfl, by rw [cell_of_row _ _ _ _ _ _ r2]; rfl, by rw [cell_of_row _ _ _ _ _ _ r2]; rfl⟩
        obtain ⟨x0, x1, x2⟩ := HX.out V1 (Below.refl _ _)
        have hbw1 : Below w.heap.size w V1 := hbw.trans (hB1.mono hbw.size)
        have NO : Hid (wellAt l i = false → ∀ V, Below V1.heap.size V1 V → CkTo w (mayP l) (.returned (.int .i64 1)) V) := fun hh V hV => by
          refine ⟨?_, hbw1.trans (hV.mono hbw1.size)⟩
          rw [may_not hp hh]
          rfl
        have YES : Hid (wellAt l i = true → ∀ V, Below V1.heap.size V1 V → (∀ j, j < i + 1 → wellAt l j = true) ∧ Below w.heap.size w V) := fun hh V hV => by
          refine ⟨fun j hj => ?_, hbw1.trans (hV.mono hbw1.size)⟩
          by_cases e : j = i
          · rw [e]; exact hh
          · exact hwl j (by omega)
        have HPV : Hid (∀ k, k + 1 = i → ∃ q, l[k]? = some q ∧ wellAt l k = true ∧ ∀ V, Below V1.heap.size V1 V → V.cell? ⟨ab, ao + k * 3, none⟩ = some (.bool q.copy) ∧ V.cell? ⟨ab, ao + k * 3 + 1, none⟩ = some (.int .i64 q.n) ∧ V.cell? ⟨ab, ao + k * 3 + 2, none⟩ = some (.string q.data)) := fun k hk => by
          obtain ⟨q, hq⟩ : ∃ q, l[k]? = some q := ⟨_, List.getElem?_eq_getElem (by omega)⟩
          refine ⟨q, hq, hwl k (by omega), fun V hV => ?_⟩
          obtain ⟨d1, d2, d3⟩ := hc k q hq
          have hb5 := hB1.trans (hV.mono hB1.size)
          exact ⟨by rw [hb5.cell hab]; exact d1, by rw [hb5.cell hab]; exact d2, by rw [hb5.cell hab]; exact d3⟩
        have HIB := isblock_any p V1
        have HIY : Hid (∀ V, Calls Tryd.prog 40 #[.agg #[.bool p.copy, .int .i64 p.n, .string p.data]] V fun e w' => e = .returned (.bool (bytB p)) ∧ Below V.heap.size V w') := fun V => isbytes_any p V
        have hbc := @blk_copy p
        have hyc := @byt_copy p
        have hbn := @blk_not p
        obtain ⟨b1, e1⟩ : ∃ b, blkB p = b := ⟨_, rfl⟩
        obtain ⟨b2, e2⟩ : ∃ b, bytB p = b := ⟨_, rfl⟩
        rw [e1] at HIB hwe hbc hbn
        rw [e2] at HIY hwe hyc hbn
        obtain ⟨p1, p2, p3⟩ := p
        simp only at *
        clear hc hp hwl hbw hB1 r1 hbw1 e1 e2 hpbl
        go_wp2_with fail
        refine HIB.mono ?_
        rintro e V2 ⟨rfl, hb2⟩
        have H2 : Hid (Below V1.heap.size V1 V2) := hb2
        obtain ⟨y0, y1, y2⟩ := HX.out V2 hb2
        have HIY2 := HIY.out V2
        clear HIB hb2
        cases b1 with
        | true =>
          have hb2f := hbn rfl
          have hcp := hbc rfl
          subst hb2f hcp
          have HE := YES.out (by rw [hwe]; simp)
          clear YES NO hwe HPV HIY
          by_cases e0 : 0 < i
          · have k0 : (0 : Int) < (i : Int) := by omega
            go_wp2_with fail
            refine HIY2.mono ?_
            rintro e V3 ⟨rfl, hb3⟩
            have H3 : Hid ((∀ j, j < i + 1 → wellAt l j = true) ∧ Below w.heap.size w V3) := HE V3 (H2.out.trans (hb3.mono H2.out.size))
            clear HIY2 hb3 HE
            go_wp2
            exact ⟨⟨i + 1, by omega, by go_num, H3.out⟩, by simp [intOf]; omega⟩
          · have k0 : ¬ (0 : Int) < (i : Int) := by omega
            have H3 : Hid ((∀ j, j < i + 1 → wellAt l j = true) ∧ Below w.heap.size w V2) := HE V2 H2.out
            clear HIY2 HE
            go_wp2
            exact ⟨⟨i + 1, by omega, by go_num, H3.out⟩, by simp [intOf]; omega⟩
        | false =>
          clear hbn hbc
          go_wp2_with fail
          refine HIY2.mono ?_
          rintro e V3 ⟨rfl, hb3⟩
          have H3 : Hid (Below V1.heap.size V1 V3) := H2.out.trans (hb3.mono H2.out.size)
          have HIY3 := HIY.out V3
          obtain ⟨y0, y1, y2⟩ := HX.out V3 H3.out
          clear HIY2 hb3 H2
          cases b2 with
          | false =>
            have HE := NO.out (by rw [hwe]; simp) V3 H3.out
            have HE : Hid _ := HE
            clear YES NO hwe HPV HIY HIY3
            go_wp2
            go_ret
            exact HE.out
          | true =>
            have hcp := hyc rfl
            subst hcp
            by_cases e0 : 0 < i
            · have k0 : (0 : Int) < (i : Int) := by omega
              obtain ⟨k, hk⟩ : ∃ k, k + 1 = i := ⟨i - 1, by omega⟩
              obtain ⟨q, hq, hwk, hqc⟩ := HPV.out k hk
              have ks : (i : Int) - 1 = (k : Int) := by omega
              have kn2 : (k : Int) < (n : Int) := by omega
              have hik : i - 1 = k := by omega
              rw [hik, hq] at hwe
              simp only at hwe
              have hwq := fun h => well_copy hwk hq h
              have hcq := @byt_copy q
              have HIQ : Hid (∀ V, Calls Tryd.prog 40 #[.agg #[.bool q.copy, .int .i64 q.n, .string q.data]] V fun e w' => e = .returned (.bool (bytB q)) ∧ Below V.heap.size V w') := fun V => isbytes_any q V
              obtain ⟨b3, e3⟩ : ∃ b, bytB q = b := ⟨_, rfl⟩
              rw [e3] at HIQ hwq hcq
              have HQC : Hid _ := hqc
              obtain ⟨q1, q2, q3⟩ := q
              simp only at *
              have wk1 : IntKind.i64.wrap (k : Int) = (k : Int) := by rw [IntKind.wrap_i64]; omega
              clear HPV hk hq hwk hqc hik e3 HIY
              go_wp2_with fail
              refine HIY3.mono ?_
              rintro e V4 ⟨rfl, hb4⟩
              have H4 : Hid (Below V1.heap.size V1 V4) := H3.out.trans (hb4.mono H3.out.size)
              obtain ⟨d0, d1, d2⟩ := HQC.out V4 H4.out
              have HIQ4 := HIQ.out V4
              clear HIY3 hb4 H3 HIQ HQC
              go_wp2_with fail
              refine HIQ4.mono ?_
              rintro e V5 ⟨rfl, hb5⟩
              have H5 : Hid (Below V1.heap.size V1 V5) := H4.out.trans (hb5.mono H4.out.size)
              clear HIQ4 hb5 H4
              cases b3 with
              | true =>
                have HE := NO.out (by rw [hwe, hcq rfl]; simp; omega) V5 H5.out
                have HE : Hid _ := HE
                clear YES NO hwe
                go_wp2
                go_ret
                exact HE.out
              | false =>
                have HE := YES.out (by rw [hwe, hwq rfl]; simp) V5 H5.out
                have HE : Hid _ := HE
                clear YES NO hwe
                go_wp2
                exact ⟨⟨i + 1, by omega, by go_num, HE.out⟩, by simp [intOf]; omega⟩
            · have k0 : ¬ (0 : Int) < (i : Int) := by omega
              have HE := YES.out (by rw [hwe, decide_eq_true (show i = 0 by omega)]; simp) V3 H3.out
              have HE : Hid _ := HE
              clear YES NO hwe HPV HIY HIY3
              go_wp2
              exact ⟨⟨i + 1, by omega, by go_num, HE.out⟩, by simp [intOf]; omega⟩
      · obtain rfl : i = n := by omega
        have kk : ¬ (i : Int) < (i : Int) := by omega
        have HE : Hid (CkTo w (mayP l) (.returned (.int .i64 0)) wr) := by
          refine ⟨?_, hbw⟩
          rw [(may_iff l).2 ⟨by omega, fun j hj => hwl j (by omega)⟩]
          rfl
        clear hwl hbw
        go_wp2
        go_ret
        exact HE.out
end Go.Proofs.YtbhnmjjfammlkaaDoor
