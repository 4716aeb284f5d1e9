/- For every number of pages and every puts: changes that may not be are refused, and nothing is written; the order of those that may be makes no difference. No condition. -/
import Derived.Test.YtaacedaehbaodaaRows
import Derived.Test.YtaacedaehbaodaaJL
import Derived.WalkKit
import Derived.ProofKit
import Derived.OpenShut
import Derived.ShutString
import Derived.ChangeOld
import Derived.Below
namespace Go.Proofs.Ytaacedaehbaodaa.journalRefuses
open Go.ChangeShapes Go.WideShapes Go.ChangeAt Go.RowKit
theorem own : ownKnob Try.prog.godebug = none := by kernel_rfl
theorem laidOut : laidOutB Try.prog = true := by kernel_rfl

set_option maxRecDepth 100000 in
set_option maxHeartbeats 2000000 in
theorem walk (x0 : Int) (_z0 : -9223372036854775808 ≤ x0 ∧ x0 ≤ 9223372036854775807) (a1 : Option Addr) (len1 cap1 : Nat) (l1 : List PutV) (w : World) (w1 : Ps w a1 len1 cap1 l1) :
    Calls Try.prog 6 #[.int .i64 x0, .slice a1 len1 cap1] w fun e w' => e = .returned (.bool true) ∧ Below w.heap.size w w' := by
  have HLV : Hid (∀ W, Below w.heap.size w W → Calls Try.prog 14 #[] W fun e w' => e = .returned (.bool true) ∧ Below w.heap.size w w') := fun W hW => lives_h hW
  have HPS : Hid (Ps w a1 len1 cap1 l1) := w1
  clear w1
  by_cases hx : x0 < 1 ∨ 6 < x0
  · have HO := opened_none x0 none 0 0 w hx
    clear hx
    go_enter Try.func6, Try.ntmps6
    go_wp2_with (go_at_call 16; refine HO.mono ?_; rintro e V1 ⟨rfl, hV⟩; subst V1)
    clear HO
    refine (HLV.out _ (Below.refl _ _)).mono ?_
    rintro e w9 ⟨rfl, hb9⟩
    go_wp2
    go_ret
    exact ⟨rfl, hb9⟩
  · obtain ⟨n, rfl⟩ := Int.eq_ofNat_of_zero_le (show 0 ≤ x0 by omega)
    have hn1 : 1 ≤ n := by omega
    have hn6 : n ≤ 6 := by omega
    have HO := opened_any n hn1 hn6 none 0 0 [] w w (Below.refl _ _) (Ps.nil w)
    clear hx
    go_enter Try.func6, Try.ntmps6
    go_wp2_with fail
    refine HO.mono ?_
    rintro e V1 ⟨g, jb, rfl, D, S, hG, _, hD, ho, _, _⟩
    have HO2 := opened_any n hn1 hn6 none 0 0 [] V1 V1 (Below.refl _ _) (Ps.nil V1)
    have HO1 : Hid (Own1 w V1 S g jb n D) := ho
    have hD0 := hD rfl
    clear HO ho hD
    go_wp2_with fail
    refine HO2.mono ?_
    rintro e V2 ⟨c, kb, rfl, C, T, hGC, _, hC, hoC, hT, hkb⟩
    have hC0 := hC rfl
    obtain rfl : C = D := by rw [hC0, hD0]
    have HG : Hid (Good n C ∧ C.writes = 0) := ⟨hG, by rw [hD0]; rfl⟩
    have HT : Hid (Two w V2 S g jb C T c kb C n) := by
      have ha := HO1.out.below hoC.bl
      have hbd := HO1.out.d.bd
      have hbl := HO1.out.bl.size
      refine ⟨ha, ⟨ha.bl, hoC.d, hoC.j, hoC.nj, fun x hx => Nat.le_trans hbl (hT x hx), Nat.le_trans hbl hkb⟩, fun x hx ht => ?_, fun ht => ?_, fun hs => ?_⟩
      · have := hbd x hx; have := hT x ht; omega
      · have := HO1.out.j.lt; have := hT _ ht; omega
      · have := hbd _ hs; omega
    clear HO1 HO2 hoC hT hkb hC hC0 hD0 hG hGC
    by_cases h12 : 12 < len1
    · have k12 : (12 : Int) < (len1 : Int) := by omega
      go_wp2_with fail
      refine (HLV.out _ HT.out.a.bl).mono ?_
      rintro e w9 ⟨rfl, hb9⟩
      go_wp2
      go_ret
      exact ⟨rfl, hb9⟩
    · have k12 : ¬ (12 : Int) < (len1 : Int) := by omega
      have hmin : min len1 12 = len1 := by omega
      have hll := HPS.out.1
      have HC := changes_any a1 len1 cap1 l1 (HPS.out.below HT.out.a.bl)
      rw [hmin, List.take_of_length_le (by omega)] at HC
      obtain ⟨l, hl⟩ : ∃ l, chL l1 = l := ⟨_, rfl⟩
      have hlen : l.length = len1 := by rw [← hl, ← hll]; simp [chL]
      rw [hl] at HC
      clear hmin hl
      go_wp2_with fail
      refine HC.mono ?_
      rintro e V3 ⟨aa, ca, ab, cb, rfl, hoa, hob, hb3⟩
      have HT3 : Hid (Two w V3 S g jb C T c kb C n) := HT.out.below hb3
      have HCA : Hid (Ci V3 aa len1 ca l ∧ (∀ x, ob aa = some x → x < V3.heap.size ∧ V2.heap.size ≤ x)) := ⟨Ci.own hoa hlen, fun x hx => ⟨(hoa.lt x (by rw [ob_slice]; exact hx)).2, (hoa.lt x (by rw [ob_slice]; exact hx)).1⟩⟩
      have HCB : Hid (Ci V3 ab len1 cb l) := Ci.own hob hlen
      have hsz23 := hb3.size
      have HSB : Hid ((∀ x, S x → x < V2.heap.size) ∧ (∀ x, T x → x < V2.heap.size)) := ⟨HT.out.a.d.bd, HT.out.b.d.bd⟩
      obtain ⟨i0, hi, hz0, hz1, hz2⟩ := info_parts info57
      have kl : (len1 : Int) - 1 = (len1 : Int) - 1 := rfl
      clear HC hoa hob hb3 HT
      go_wp2
      go_loopw [11, 12] (fun vb vi wr => ∃ (r m : Nat) (ak : Option Addr) (ck : Nat), r + m = len1 ∧ vi = .int .i64 ((r : Int) - 1) ∧ vb = .slice ak m ck ∧ wr.ownsRow V3.heap.size 57 2 vb m (chiV (l.drop r).reverse) ∧ Below V3.heap.size V3 wr) (fun _ vi _ => ((intOf vi) + 1).toNat)
      case atStart => exact ⟨len1, 0, none, 0, rfl, by go_num, rfl, by rw [List.drop_of_length_le (by omega)]; exact World.ownsRow_nil _ _ _ _, Below.refl _ _⟩
      case round =>
        obtain ⟨r, m, ak, ck, hrm, rfl, rfl, hown, hbel⟩ := hrel
        cases r with
        | zero =>
          obtain rfl : m = len1 := by omega
          have HE : Hid (Ci wr ak m ck l.reverse ∧ (∀ x, ob ak = some x → x < wr.heap.size ∧ V3.heap.size ≤ x) ∧ Below V3.heap.size V3 wr) := by
            rw [List.drop_zero] at hown
            exact ⟨Ci.own hown (by rw [List.length_reverse, hlen]), fun x hx => ⟨(hown.lt x (by rw [ob_slice]; exact hx)).2, (hown.lt x (by rw [ob_slice]; exact hx)).1⟩, hbel⟩
          have kz : ((0 : Nat) : Int) - 1 = -1 := by omega
          have hT4 := HT3.out.below HE.out.2.2
          have HWH := why_any n ab m cb l (HCB.out.below HE.out.2.2)
          have HT4 : Hid (Two w wr S g jb C T c kb C n) := hT4
          have hsz34 := HE.out.2.2.size
          clear hown hbel hT4 hrm
          go_wp2_with fail
          refine HWH.mono ?_
          rintro e V5 ⟨rfl, hb5⟩
          have hT5 := HT4.out.below hb5
          have hsz45 := hb5.size
          have HC1 := commit_any hT5.a.d hT5.a.j hT5.a.nj (by omega) (by rw [HG.out.1.ln]; omega) aa m ca l ((HCA.out.1.below HE.out.2.2).below hb5) (fun x hx => by have := (HCA.out.2 x hx).1; omega) (by omega) (by have := HG.out.2; omega)
          obtain ⟨g1, g2, g3, g4⟩ := HG.out.1.commit (by omega) l
          rw [g1] at HC1
          have HCK5 : Hid (Ci V5 ak m ck l.reverse ∧ ∀ x, ob ak = some x → x < V5.heap.size ∧ V3.heap.size ≤ x) := ⟨HE.out.1.below hb5, fun x hx => ⟨Nat.lt_of_lt_of_le (HE.out.2.1 x hx).1 hsz45, (HE.out.2.1 x hx).2⟩⟩
          have HT5 : Hid (Two w V5 S g jb C T c kb C n) := hT5
          obtain ⟨ck0, hck0⟩ : ∃ ck0, chk n l = ck0 := ⟨_, rfl⟩
          rw [hck0] at HC1
          rw [hck0]
          clear HWH hT5 hb5 g1
          go_wp2_with fail
          refine HC1.mono ?_
          rintro e V6 ⟨rfl, hm6⟩
          obtain ⟨S6, hT6, hu6⟩ := HT5.out.onA hm6
          have hCK6 : Ci V6 ak m ck l.reverse := HCK5.out.1.mut hu6 (fun x hx hs => by have := (HCK5.out.2 x hx).2; have := HSB.out.1 x hs; omega)
          have hsz56 := hu6.size
          have HC2 := commit_any hT6.b.d hT6.b.j hT6.b.nj (by omega) (by rw [HG.out.1.ln]; omega) ak m ck l.reverse hCK6 (fun x hx => by have := (HCK5.out.2 x hx).1; omega) (by omega) (by have := HG.out.2; omega)
          obtain ⟨r1, r2, r3, r4⟩ := HG.out.1.commit (by omega) l.reverse
          rw [r1] at HC2
          have HT6 : Hid (Two w V6 S6 g jb (comDisk n C l) T c kb C n) := hT6
          clear HC1 hm6 hT6 hu6 hCK6 HT5 HCK5 r1
          by_cases h0 : ck0 = 0
          · subst h0
            have hrv : chk n l.reverse = 0 := (chk_reverse n l).2 hck0
            rw [hrv] at HC2
            have HPQ : Hid (pgs n (comDisk n C l.reverse).kept = pgs n (comDisk n C l).kept ∧ (comDisk n C l.reverse).writes = (comDisk n C l).writes) := by
              refine ⟨?_, ?_⟩
              · rw [com_pages HG.out.1 (by omega) l hck0, com_pages HG.out.1 (by omega) l.reverse hrv, srtC_reverse hck0]
              · rw [com_writes HG.out.1 l hck0, com_writes HG.out.1 l.reverse hrv, List.length_reverse]
                congr 1
                simp
            obtain ⟨D1, hD1⟩ : ∃ D1, comDisk n C l = D1 := ⟨_, rfl⟩
            obtain ⟨D2, hD2⟩ : ∃ D2, comDisk n C l.reverse = D2 := ⟨_, rfl⟩
            rw [hD1] at g2 g3 HT6
            rw [hD1, hD2] at HPQ
            rw [hD2] at r2 r3 HC2
            clear hD1 hD2 hrv g4 r4
            go_wp2_with fail
            refine HC2.mono ?_
            rintro e V7 ⟨rfl, hm7⟩
            obtain ⟨T7, hT7⟩ := HT6.out.onB hm7
            have HP1 := pagesOf_any hT7.a.d hT7.a.j (by omega) (by rw [g2.ln]; omega) g2.up g2.sz.seen
            rw [g2.seen] at HP1
            have HT7 : Hid (Two w V7 S6 g jb D1 T7 c kb D2 n) := hT7
            clear HC2 hm7 hT7 HT6
            go_wp2_with fail
            refine HP1.mono ?_
            rintro e V8 ⟨p1, c1, rfl, ho8, hb8⟩
            have hT8 := HT7.out.below hb8
            have HP2 := pagesOf_any hT8.b.d hT8.b.j (by omega) (by rw [r2.ln]; omega) r2.up r2.sz.seen
            rw [r2.seen, HPQ.out.1] at HP2
            have HS8 : Hid (Ss V8 p1 n c1 (pgs n D1.kept)) := Ss.own ho8 (pgs_len _ _)
            have HT8 : Hid (Two w V8 S6 g jb D1 T7 c kb D2 n) := hT8
            clear HP1 ho8 hb8 hT8 HT7
            go_wp2_with fail
            refine HP2.mono ?_
            rintro e V9 ⟨p2, c2, rfl, ho9, hb9⟩
            have HSM := same_any p1 n c1 _ (HS8.out.below hb9) p2 n c2 _ (Ss.own ho9 (pgs_len _ _))
            rw [decide_eq_true rfl] at HSM
            have HT9 : Hid (Two w V9 S6 g jb D1 T7 c kb D2 n) := HT8.out.below hb9
            clear HP2 ho9 hb9 HT8
            go_wp2_with fail
            refine HSM.mono ?_
            rintro e V10 ⟨rfl, hb10⟩
            have hT10 := HT9.out.below hb10
            have HW1 := writes_any hT10.a.d
            have HW2 := writes_any hT10.b.d
            rw [HPQ.out.2] at HW2
            have HWT := waits_any hT10.a.d
            rw [g2.wt] at HWT
            have HB10 : Hid (Below w.heap.size w V10) := hT10.a.bl
            clear HSM hb10 hT10 HT9 g2 r2 g3 r3 HPQ HG HS8
            go_wp2_with fail
            refine HW1.mono ?_
            rintro e V11 ⟨rfl, hV⟩
            subst V11
            go_wp2_with fail
            refine HW2.mono ?_
            rintro e V11 ⟨rfl, hV⟩
            subst V11
            clear HW1 HW2
            go_wp2_with fail
            refine HWT.mono ?_
            rintro e V11 ⟨rfl, hV⟩
            subst V11
            clear HWT
            go_wp2_with fail
            refine (HLV.out _ HB10.out).mono ?_
            rintro e w9 ⟨rfl, hb9⟩
            go_wp2
            go_ret
            exact ⟨rfl, hb9⟩
          · have k0 : ¬ (ck0 : Int) = 0 := by omega
            obtain ⟨cr, hcr⟩ : ∃ cr, chk n l.reverse = cr := ⟨_, rfl⟩
            have hcr0 : ¬ (cr : Int) = 0 := by
              intro e
              have : chk n l.reverse = 0 := by omega
              have := (chk_reverse n l).1 this
              omega
            have hcrn : ((cr : Int) != 0) = true := by rw [bne_iff_ne]; exact hcr0
            have hD0 : comDisk n C l = C := by unfold comDisk; rw [if_neg (fun e => h0 (by rw [← hck0]; exact e.1))]
            have HWR := writes_any HT6.out.a.d
            rw [hD0, HG.out.2] at HWR
            rw [hcr] at HC2
            rw [hD0] at HT6
            clear hck0 h0 hcr hD0 g2 g3 g4 r2 r3 r4
            go_wp2_with fail
            refine HWR.mono ?_
            rintro e V7 ⟨rfl, hV⟩
            subst V7
            clear HWR
            go_wp2_with fail
            refine HC2.mono ?_
            rintro e V7 ⟨rfl, hm7⟩
            obtain ⟨T7, hT7⟩ := HT6.out.onB hm7
            have HB7 : Hid (Below w.heap.size w V7) := hT7.a.bl
            clear HC2 hm7 hT7 HT6
            go_wp2_with fail
            refine (HLV.out _ HB7.out).mono ?_
            rintro e w9 ⟨rfl, hb9⟩
            go_wp2
            go_ret
            exact ⟨rfl, hb9⟩
        | succ q =>
          have kq : ((q + 1 : Nat) : Int) - 1 = (q : Int) := by omega
          have hql : q < l.length := by omega
          obtain ⟨b, o, rfl, hb, hcell⟩ := HCA.out.1.2.2.2 (by omega)
          obtain ⟨c1, c2⟩ := hcell q hql
          have HDR := drop_rev l q hql
          obtain ⟨⟨p, s⟩, hps⟩ : ∃ x, l[q] = x := ⟨_, rfl⟩
          rw [hps] at c1 c2 HDR
          simp only at c1 c2
          rw [← hbel.cell (p := ⟨b, o + q * 2, none⟩) hb] at c1
          rw [← hbel.cell (p := ⟨b, o + q * 2 + 1, none⟩) hb] at c2
          have kqn : (q : Int) < (len1 : Int) := by omega
          have HB : Hid (Below V3.heap.size V3 wr) := hbel
          have HO : Hid (wr.ownsRow V3.heap.size 57 2 (.slice ak m ck) m (chiV (l.drop (q + 1)).reverse)) := hown
          have HD : Hid ((l.drop q).reverse = (l.drop (q + 1)).reverse ++ [(p, s)]) := HDR
          have hcap := HCA.out.1.2.1
          have hcap2 := HCA.out.1.2.2.1
          have hbs := hbel.size
          have HRM : Hid (q + 1 + m = len1) := hrm
          clear hcell hown hbel HDR hps
          go_wp2_with (at_builtin; refine wpList_append_lies _ rfl _ _ 44 rfl V3.heap.size 57 i0 (.agg #[.int .i64 0, .string ByteArray.empty]) 2 24 Try.underlying44 hi hz0 hz1 hz2 rfl (by decide) _ m (chiV (l.drop (q + 1)).reverse) rfl (HO.out.alloc _) ⟨wr.heap.size, 0, none⟩ 1 1 [.int .i64 p, .string s] rfl rfl (World.news_of_block (heap_alloc_new wr _)) (by simp [Value.oneCell']) (by omega) (by unfold maxLen; omega) (by omega) (by simp; omega) _ rfl ?_)
          intro g3 c3 w3 hown' hgrow3 hg3 hlt3
          have HO3 : Hid (w3.ownsRow V3.heap.size 57 2 (.slice (some ⟨g3, 0, none⟩) (m + 1) c3) (m + 1) (chiV (l.drop q).reverse)) := by
            rw [HD.out, chiV_snoc]
            exact hown'
          have HB3 : Hid (Below V3.heap.size V3 w3) := Below.grown (HB.out.alloc HB.out.size _) hgrow3 (by simp; omega) (fun j hj => (HO.out.lt _ hj).1)
          clear hown' hgrow3 hg3 hlt3 HO HB
          go_wp2
          exact ⟨⟨q, m + 1, _, _, by have := HRM.out; omega, by go_num, rfl, HO3.out, HB3.out⟩, by simp [intOf]⟩

set_option linter.unusedVariables false in
set_option maxRecDepth 100000 in
theorem lifted (os : _root_.Go.Os) (started : os.Started) (H : Type) (enc : TypeId × Value → H) :
    ReturnsInHanded {} Try.checked os 6 .any (Rows.journalRefusesSpec.pre6 enc Try.prog Try.f6 Rows.journalRefusesRow.domain false) (Rows.journalRefusesSpec.post enc Try.prog Try.f6 false true false false) := by
  refine returnsInHanded_of_change (C := Try.checked) own started (by kernel_rfl) Try.func6
    (ChangeSpec.witness6 (enc := enc) (C := Try.checked) false ⟨#[], #[.int .i64 0, .slice none 0 0], []⟩ 8 (by kernel_rfl) (by kernel_rfl) (by kernel_rfl) (by kernel_rfl)) ?_
  intro W base args ds gs before hval0 hW hcnd _
  have hval : ∀ (j : Nat) t v, Try.f6.params[j]? = some t → args[j]? = some v → Value.okWide Try.prog W .any base t v := hval0
  have hW' := hW
  obtain ⟨p, q, hA0, hV, rfl, hfz, hnd⟩ := hW
  have hA : DataW.TrodAll enc Try.prog W 0 (fun _ => true) true Try.f6.params.toList args.toList ds p := hA0
  rw [Try.params6] at hA hval
  obtain ⟨v0, vs0, d0, ds0, p0, q0, hargs, rfl, rfl, h0, r0⟩ := trodAll_cons hA
  obtain ⟨v1, vs1, d1, ds1, p1, q1, rfl, rfl, rfl, h1, r1⟩ := trodAll_cons r0
  obtain ⟨rfl, rfl, rfl⟩ := trodAll_nil r1
  obtain rfl : args = #[v0, v1] := by cases args; simp_all
  obtain ⟨rfl, rfl⟩ := trodVars_none hV
  obtain ⟨x0, rfl, rfl, rfl, w0⟩ := open_int Try.underlying3 (hval 0 3 v0 rfl rfl) h0
  have k1 := h1
  have lt1 : ∀ x ∈ p1, x.block < W.heap.size := by obtain ⟨m, hm⟩ := k1; exact DataW.trod_lt m _ _ _ hm
  obtain ⟨a1, len1, cap1, rfl⟩ := okWide_slice Try.underlying36 (hval 1 36 v1 rfl rfl)
  obtain ⟨l1, w1⟩ : ∃ l, Ps W a1 len1 cap1 l := by
    obtain ⟨fuel, hf⟩ := h1
    exact puts_of (by simpa [Value.cells] using hf)
  clear hA0 hval0
  refine (walk x0 (wf_i64 w0) a1 len1 cap1 l1 W w1).mono fun e W' ⟨he, bel⟩ => ?_
  subst he
  exact ⟨_, rfl, _, _, _, [], _, [], hW', trodAll_mk1 (shut_bool Try.underlying4 _), (trodAll_cons_mk (shut_int Try.underlying3 w0) (trodAll_cons_mk (Below.trod laidOut (by kernel_rfl) (of_decide_eq_true (by kernel_rfl)) k1 bel lt1) trodAll_mk0)), rfl, bel.frame _, fun h => by cases h⟩

theorem over : Rows.journalRefusesRow.holds Try.pinned (OpenSpec.ofChange Rows.journalRefusesSpec) :=
  OpenClaim.holds_of_wide 6 Try.f6 rfl rfl rfl rfl rfl rfl rfl ⟨rfl, rfl, rfl, rfl, rfl⟩ rfl rfl rfl rfl rfl (by kernel_rfl) Try.func6 (by kernel_rfl)
    (of_decide_eq_true (by kernel_rfl)) (by unfold Func.isWrapper; first | (rw [if_pos (by decide +kernel)]; kernel_rfl) | (rw [if_neg (by decide +kernel)]; exact ⟨rfl, rfl⟩))
    (fun os started H enc _ => lifted os started H enc)

end Go.Proofs.Ytaacedaehbaodaa.journalRefuses
namespace Go.Proofs.Ytaacedaehbaodaa
/-- The given statement. -/
theorem journalRefuses_holds : Rows.JournalRefusesSaid := journalRefuses.over
#print axioms journalRefuses_holds
end Go.Proofs.Ytaacedaehbaodaa
