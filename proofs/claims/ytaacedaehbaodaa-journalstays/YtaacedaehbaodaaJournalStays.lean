/- For every number of pages, every puts that are committed one after the other and every picks: what was committed is there behind any failure, and opening the store again three times changes nothing. No condition. -/
import Derived.Test.YtaacedaehbaodaaRows
import Derived.Test.YtaacedaehbaodaaJK
import Derived.WalkKit
import Derived.ProofKit
import Derived.OpenShut
import Derived.ShutString
import Derived.ChangeOld
import Derived.Below
namespace Go.Proofs.Ytaacedaehbaodaa.journalStays
open Go.ChangeShapes Go.WideShapes Go.ChangeAt Go.RowKit
theorem own : ownKnob Try.prog.godebug = none := by kernel_rfl
theorem laidOut : laidOutB Try.prog = true := by kernel_rfl

set_option maxRecDepth 100000 in
set_option maxHeartbeats 2000000 in
theorem walk (x0 : Int) (_z0 : -9223372036854775808 ≤ x0 ∧ x0 ≤ 9223372036854775807) (a1 : Option Addr) (len1 cap1 : Nat) (l1 : List PutV) (a2 : Option Addr) (len2 cap2 : Nat) (l2 : List Bool) (w : World) (w1 : Ps w a1 len1 cap1 l1) (w2 : Bls w a2 len2 cap2 l2) :
    Calls Try.prog 5 #[.int .i64 x0, .slice a1 len1 cap1, .slice a2 len2 cap2] w fun e w' => e = .returned (.bool true) ∧ Below w.heap.size w w' := by
  have HLV : Hid (∀ W, Below w.heap.size w W → Calls Try.prog 14 #[] W fun e w' => e = .returned (.bool true) ∧ Below w.heap.size w w') := fun W hW => lives_h hW
  have HBL : Hid (Bls w a2 len2 cap2 l2) := w2
  have HPS : Hid (Ps w a1 len1 cap1 l1) := w1
  clear w1 w2
  by_cases hx : x0 < 1 ∨ 6 < x0
  · have HO := opened_none x0 a1 len1 cap1 w hx
    clear hx
    go_enter Try.func5, Try.ntmps5
    go_wp2_with fail
    refine HO.mono ?_
    rintro e V1 ⟨rfl, hV⟩
    subst V1
    clear HO
    go_wp2_with fail
    refine (HLV.out _ (Below.refl _ _)).mono ?_
    rintro e w9 ⟨rfl, hb9⟩
    go_wp2
    go_ret
    exact ⟨rfl, hb9⟩
  · obtain ⟨n, rfl⟩ := Int.eq_ofNat_of_zero_le (show 0 ≤ x0 by omega)
    have hn1 : 1 ≤ n := by omega
    have hn6 : n ≤ 6 := by omega
    have HO := opened_any n hn1 hn6 a1 len1 cap1 l1 w w (Below.refl _ _) HPS.out
    clear hx
    go_enter Try.func5, Try.ntmps5
    go_wp2_with fail
    refine HO.mono ?_
    rintro e V1 ⟨g, jb, rfl, D, S, hG, hwr, _, ho, hS, _⟩
    clear HO
    by_cases h300 : 300 < len2
    · have k300 : (300 : Int) < (len2 : Int) := by omega
      have HB : Hid (Below w.heap.size w V1) := ho.bl
      clear ho hS hG
      go_wp2_with fail
      refine (HLV.out _ HB.out).mono ?_
      rintro e w9 ⟨rfl, hb9⟩
      go_wp2
      go_ret
      exact ⟨rfl, hb9⟩
    · have k300 : ¬ (300 : Int) < (len2 : Int) := by omega
      have HPG := pagesOf_any ho.d ho.j (by omega) (by rw [hG.ln]; omega) hG.up hG.sz.seen
      rw [hG.seen] at HPG
      have HH : Hid (Own1 w V1 S g jb n D) := ho
      have HG : Hid (Good n D ∧ D.writes ≤ 80) := ⟨hG, hwr⟩
      clear ho hG hS
      go_wp2_with fail
      refine HPG.mono ?_
      rintro e V2 ⟨aw, cw, rfl, hown, hb2⟩
      obtain ⟨L, hL⟩ : ∃ L, pgs n D.kept = L := ⟨_, rfl⟩
      rw [hL] at hown
      have hLl : L.length = n := by rw [← hL]; exact pgs_len _ _
      have HI : Hid (∃ D S, Good n D ∧ D.writes ≤ 80 ∧ pgs n D.kept = L ∧ Kept w V2 S g D aw n cw L) := by
        refine ⟨D, S, HG.out.1, HG.out.2, hL, HH.out.bl.trans (hb2.mono HH.out.bl.size), HH.out.d.below hb2, HH.out.s0, Ss.own hown hLl, fun x hx hs => ?_⟩
        have h1 := (hown.lt x (by rw [ob_slice]; exact hx)).1
        have h2 := HH.out.d.bd x hs
        omega
      clear HPG hown hb2 HH HG hL
      go_wp2
      go_loopw [10] (fun v wr => ∃ i : Nat, i ≤ 3 ∧ v = .int .i64 i ∧ ∃ D S, Good n D ∧ D.writes ≤ 80 ∧ pgs n D.kept = L ∧ Kept w wr S g D aw n cw L) (fun v _ => 3 - (intOf v).toNat)
      case atStart => exact ⟨0, by omega, rfl, HI.out⟩
      case round =>
        clear HI hwr
        obtain ⟨i, hi, rfl, D, S, hG, hwr, hpg, hK⟩ := hrel
        by_cases hlt : i < 3
        · have kk : (i : Int) < 3 := by omega
          have HF := fail_m hK.d a2 len2 cap2 l2 HBL.out hK.bl hK.s0
          obtain ⟨hG2, hke, hwe⟩ := hG.restart (pickOf l2)
          have HK : Hid (Kept w wr S g D aw n cw L) := hK
          have hfw : (D.failed (pickOf l2)).waits = [] := rfl
          have hfu : (D.failed (pickOf l2)).up = false := rfl
          obtain ⟨DF, hDF⟩ : ∃ DF, D.failed (pickOf l2) = DF := ⟨_, rfl⟩
          rw [hDF] at HF hfw hfu hG2 hke hwe
          obtain ⟨D2, hD2⟩ : ∃ D2, DF.started = D2 := ⟨_, rfl⟩
          rw [hD2] at hG2 hke hwe
          have HG2 : Hid (Good n D2 ∧ D2.writes ≤ 80 ∧ pgs n D2.kept = L) := ⟨hG2, by omega, by rw [hke]; exact hpg⟩
          clear hK hG hpg hwr hDF hG2 hke hwe
          go_wp2_with fail
          refine HF.mono ?_
          rintro e V3 ⟨rfl, hm3⟩
          obtain ⟨S3, hK3⟩ := HK.out.mut (by omega) hm3
          have HST := start_m hK3.d hfu hfw
          rw [hD2] at HST
          have HK3 : Hid (Kept w V3 S3 g DF aw n cw L) := hK3
          clear HF hm3 hK3 HK hD2
          go_wp2_with fail
          refine HST.mono ?_
          rintro e V4 ⟨rfl, hm4⟩
          obtain ⟨S4, hK4⟩ := HK3.out.mut (by omega) hm4
          have hg2 := HG2.out.1
          have hw2 := HG2.out.2.1
          have HO := open_any (n := n) hK4.d hn1 (by omega) (by rw [hg2.ln]; omega) hg2.up hg2.wt hg2.sz.k (by omega)
          rw [rec_tidy hg2.td] at HO
          have HO : Calls Try.prog 10 #[.pointer (some ⟨g, 0, none⟩), .int .i64 (n : Int)] V4 fun e w' => e = .returned (.tuple #[.pointer (some ⟨V4.heap.size, 0, none⟩), .int .i64 0]) ∧ Jat w' V4.heap.size g n ∧ ∃ S', DiskIs w' S' g D2 ∧ Upd S4 V4 w' ∧ (∀ x, S' x → S4 x ∨ V4.heap.size ≤ x) ∧ ¬ S' V4.heap.size := HO
          have HK4 : Hid (Kept w V4 S4 g D2 aw n cw L) := hK4
          clear HST hm4 hK4 HK3 hg2 hw2
          go_wp2_with fail
          refine HO.mono ?_
          rintro e V5 ⟨rfl, hj5, S5, hd5, hu5, hs5, _⟩
          have hK5 := HK4.out.turn (by omega) hd5 hu5 hs5
          have hg2 := HG2.out.1
          have HPG := pagesOf_any hK5.d hj5 (by omega) (by rw [hg2.ln]; omega) hg2.up hg2.sz.seen
          rw [hg2.seen, HG2.out.2.2] at HPG
          have HK5 : Hid (Kept w V5 S5 g D2 aw n cw L) := hK5
          clear HO hK5 HK4 hd5 hu5 hs5 hg2
          go_wp2_with fail
          refine HPG.mono ?_
          rintro e V6 ⟨ap, cp, rfl, hown6, hb6⟩
          have hK6 := HK5.out.below hb6
          have HSM := same_any ap n cp L (Ss.own hown6 hLl) aw n cw L hK6.r
          rw [decide_eq_true rfl] at HSM
          have HK6 : Hid (Kept w V6 S5 g D2 aw n cw L) := hK6
          clear HPG hown6 hb6 hK6 HK5
          go_wp2_with fail
          refine HSM.mono ?_
          rintro e V7 ⟨rfl, hb7⟩
          have HN : Hid (∃ D S, Good n D ∧ D.writes ≤ 80 ∧ pgs n D.kept = L ∧ Kept w V7 S g D aw n cw L) := ⟨D2, S5, HG2.out.1, HG2.out.2.1, HG2.out.2.2, HK6.out.below hb7⟩
          clear HSM hb7 HK6 HG2
          go_wp2
          exact ⟨⟨i + 1, by omega, by go_num, HN.out⟩, by simp [intOf]; omega⟩
        · obtain rfl : i = 3 := by omega
          have kk : ¬ (3 : Int) < 3 := by omega
          have HB : Hid (Below w.heap.size w wr) := hK.bl
          clear hK hG hpg
          go_wp2_with fail
          refine (HLV.out _ HB.out).mono ?_
          rintro e w9 ⟨rfl, hb9⟩
          go_wp2
          go_ret
          exact ⟨rfl, hb9⟩

set_option linter.unusedVariables false in
set_option maxRecDepth 100000 in
theorem lifted (os : _root_.Go.Os) (started : os.Started) (H : Type) (enc : TypeId × Value → H) :
    ReturnsInHanded {} Try.checked os 5 .any (Rows.journalStaysSpec.pre6 enc Try.prog Try.f5 Rows.journalStaysRow.domain false) (Rows.journalStaysSpec.post enc Try.prog Try.f5 false true false false) := by
  refine returnsInHanded_of_change (C := Try.checked) own started (by kernel_rfl) Try.func5
    (ChangeSpec.witness6 (enc := enc) (C := Try.checked) false ⟨#[], #[.int .i64 0, .slice none 0 0, .slice none 0 0], []⟩ 8 (by kernel_rfl) (by kernel_rfl) (by kernel_rfl) (by kernel_rfl)) ?_
  intro W base args ds gs before hval0 hW hcnd _
  have hval : ∀ (j : Nat) t v, Try.f5.params[j]? = some t → args[j]? = some v → Value.okWide Try.prog W .any base t v := hval0
  have hW' := hW
  obtain ⟨p, q, hA0, hV, rfl, hfz, hnd⟩ := hW
  have hA : DataW.TrodAll enc Try.prog W 0 (fun _ => true) true Try.f5.params.toList args.toList ds p := hA0
  rw [Try.params5] at hA hval
  obtain ⟨v0, vs0, d0, ds0, p0, q0, hargs, rfl, rfl, h0, r0⟩ := trodAll_cons hA
  obtain ⟨v1, vs1, d1, ds1, p1, q1, rfl, rfl, rfl, h1, r1⟩ := trodAll_cons r0
  obtain ⟨v2, vs2, d2, ds2, p2, q2, rfl, rfl, rfl, h2, r2⟩ := trodAll_cons r1
  obtain ⟨rfl, rfl, rfl⟩ := trodAll_nil r2
  obtain rfl : args = #[v0, v1, v2] := by cases args; simp_all
  obtain ⟨rfl, rfl⟩ := trodVars_none hV
  obtain ⟨x0, rfl, rfl, rfl, w0⟩ := open_int Try.underlying3 (hval 0 3 v0 rfl rfl) h0
  have k1 := h1
  have lt1 : ∀ x ∈ p1, x.block < W.heap.size := by obtain ⟨m, hm⟩ := k1; exact DataW.trod_lt m _ _ _ hm
  obtain ⟨a1, len1, cap1, rfl⟩ := okWide_slice Try.underlying36 (hval 1 36 v1 rfl rfl)
  obtain ⟨l1, w1⟩ : ∃ l, Ps W a1 len1 cap1 l := by
    obtain ⟨fuel, hf⟩ := h1
    exact puts_of (by simpa [Value.cells] using hf)
  have k2 := h2
  have lt2 : ∀ x ∈ p2, x.block < W.heap.size := by obtain ⟨m, hm⟩ := k2; exact DataW.trod_lt m _ _ _ hm
  obtain ⟨a2, len2, cap2, rfl⟩ := okWide_slice Try.underlying37 (hval 2 37 v2 rfl rfl)
  obtain ⟨l2, w2⟩ : ∃ l, Bls W a2 len2 cap2 l := by
    obtain ⟨fuel, hf⟩ := h2
    exact bools_of (by simpa [Value.cells] using hf)
  clear hA0 hval0
  refine (walk x0 (wf_i64 w0) a1 len1 cap1 l1 a2 len2 cap2 l2 W w1 w2).mono fun e W' ⟨he, bel⟩ => ?_
  subst he
  exact ⟨_, rfl, _, _, _, [], _, [], hW', trodAll_mk1 (shut_bool Try.underlying4 _), (trodAll_cons_mk (shut_int Try.underlying3 w0) (trodAll_cons_mk (Below.trod laidOut (by kernel_rfl) (of_decide_eq_true (by kernel_rfl)) k1 bel lt1) (trodAll_cons_mk (Below.trod laidOut (by kernel_rfl) (of_decide_eq_true (by kernel_rfl)) k2 bel lt2) trodAll_mk0))), rfl, bel.frame _, fun h => by cases h⟩

theorem over : Rows.journalStaysRow.holds Try.pinned (OpenSpec.ofChange Rows.journalStaysSpec) :=
  OpenClaim.holds_of_wide 5 Try.f5 rfl rfl rfl rfl rfl rfl rfl ⟨rfl, rfl, rfl, rfl, rfl⟩ rfl rfl rfl rfl rfl (by kernel_rfl) Try.func5 (by kernel_rfl)
    (of_decide_eq_true (by kernel_rfl)) (by unfold Func.isWrapper; first | (rw [if_pos (by decide +kernel)]; kernel_rfl) | (rw [if_neg (by decide +kernel)]; exact ⟨rfl, rfl⟩))
    (fun os started H enc _ => lifted os started H enc)

end Go.Proofs.Ytaacedaehbaodaa.journalStays
namespace Go.Proofs.Ytaacedaehbaodaa
/-- The given statement. -/
theorem journalStays_holds : Rows.JournalStaysSaid := journalStays.over
#print axioms journalStays_holds
end Go.Proofs.Ytaacedaehbaodaa
