/- Proved: for every key, text and size the law DeltaSame returns true (of a text that is the basis itself nothing but blocks is left, without a basis nothing but bytes); where the package's two tables begin as the program's text lays them. -/
import Derived.Test.YtbhnmjjfammlkaaDoorHQ
import Derived.Test.YtbhnmjjfammlkaaDoorCards
import Derived.Test.YtbhnmjjfammlkaaDoorTie
import Derived.WalkKit
import Derived.ProofKit
import Derived.OpenShut
import Derived.ShutString
import Derived.ChangeOld
import Derived.Below
import Derived.LaidMore
import Derived.Stop.Joined
import Derived.SevenTiedAt
namespace Go.Proofs.YtbhnmjjfammlkaaDoor.deltaSame
open Go.ChangeShapes Go.WideShapes Go.ChangeAt Go.WideMaps Go.WideElems Go.RowKit
open Go.ChangeMaps (open_string shut_string)

set_option maxRecDepth 100000 in
set_option maxHeartbeats 2000000 in
theorem walk (s0 : ByteArray) (_z0 : s0.size ≤ 140737488351232) (s1 : ByteArray) (_z1 : s1.size ≤ 140737488351232) (x2 : Int) (_z2 : -9223372036854775808 ≤ x2 ∧ x2 ≤ 9223372036854775807) (w : World)  (hL : Laid w) :
    Calls Tryd.prog 6 #[.string s0, .string s1, .int .i64 x2] w fun e w' => e = .returned (.bool true) ∧ Below w.heap.size w w' := by
  have HLV : Hid (∀ V, Below w.heap.size w V → Calls Tryd.prog 9 #[] V fun e w' => e = .returned (.bool true) ∧ Below w.heap.size w w') := fun V hV => (lives_any V (hL.below hV)).mono fun e w' h => ⟨h.1, hV.trans (h.2.mono hV.size)⟩
  by_cases h1 : 100 < s0.size
  · have k1 : (100 : Int) < (s0.size : Int) := by omega
    clear hL
    go_enter Tryd.func6, Tryd.ntmps6
    go_wp2_with fail
    refine (HLV.out _ (Below.refl _ _)).mono ?_
    rintro e V ⟨rfl, hb⟩
    go_wp2
    go_ret
    exact ⟨rfl, hb⟩
  · have k1 : ¬ (100 : Int) < (s0.size : Int) := by omega
    by_cases h2 : 300 < s1.size
    · have k2 : (300 : Int) < (s1.size : Int) := by omega
      clear hL
      go_enter Tryd.func6, Tryd.ntmps6
      go_wp2_with fail
      refine (HLV.out _ (Below.refl _ _)).mono ?_
      rintro e V ⟨rfl, hb⟩
      go_wp2
      go_ret
      exact ⟨rfl, hb⟩
    · have k2 : ¬ (300 : Int) < (s1.size : Int) := by omega
      by_cases h3 : x2 < 1
      · clear hL
        go_enter Tryd.func6, Tryd.ntmps6
        go_wp2_with fail
        refine (HLV.out _ (Below.refl _ _)).mono ?_
        rintro e V ⟨rfl, hb⟩
        go_wp2
        go_ret
        exact ⟨rfl, hb⟩
      · by_cases h4 : 128 < x2
        · clear hL
          go_enter Tryd.func6, Tryd.ntmps6
          go_wp2_with fail
          refine (HLV.out _ (Below.refl _ _)).mono ?_
          rintro e V ⟨rfl, hb⟩
          go_wp2
          go_ret
          exact ⟨rfl, hb⟩
        · obtain ⟨z, rfl⟩ : ∃ z : Nat, x2 = (z : Int) := ⟨x2.toNat, by omega⟩
          have hz1 : 1 ≤ z := by omega
          have hz2 : z ≤ 128 := by omega
          have hl : s1.data.toList.length = s1.size := Array.length_toList
          have HS := signs_short s0 s1 z w (by omega) hz1 hz2 (by omega) hL
          have HLa : Hid (∀ V, Calls Tryd.prog 19 #[.string s1, .int .i64 (z : Int)] V fun e w' => e = .returned (.int .i64 (lastL s1.data.toList z : Int)) ∧ w' = V) := fun V => last_any s1 z V hz1 hz2 (by omega)
          have HM2 : Hid (∀ V, Below w.heap.size w V → Calls Tryd.prog 10 #[.string s0, .slice none 0 0, .int .i64 (z : Int), .int .i64 0, .string s1] V fun e w' => MkTo V (bytP s1.data.toList) 0 e w') := fun V hV => by
            have h5 := make_any (w := V) (a := none) (n := 0) (c := 0) (L := []) (Rw.zero (fun _ => True) V 65 2 none 0 (by unfold maxLen; omega)) (fun s hs => by cases hs) s0 s1 z 0 hz1 hz2 (by omega) (by omega) (by omega) (by omega) (by omega) (hL.below hV)
            have e : makeL s0 [] z 0 s1 = bytP s1.data.toList := by
              unfold makeL
              rw [make_none (fun t => nextP_nil t), List.nil_append]
            rw [e] at h5
            exact h5
          have hsm := sameP (sg := sgL s0) (b := s1.data.toList) (s := z) hz1
          have hcl := cnt_le (b := s1.data.toList) hz1
          have hlc := last_cnt (b := s1.data.toList) hz1
          have hll := last_le (b := s1.data.toList) hz1
          obtain ⟨la, hla⟩ : ∃ la, lastL s1.data.toList z = la := ⟨_, rfl⟩
          have HM1 : Hid (∀ V a n c, Below w.heap.size w V → Gw (fun _ => True) V a n c (sigsL (sgL s0) s1.data.toList z) → n = cntL s1.data.toList z → Calls Tryd.prog 10 #[.string s0, .slice a n c, .int .i64 (z : Int), .int .i64 (la : Int), .string s1] V fun e w' => MkTo V (makeP (nextP (sgL s0) (sigsL (sgL s0) s1.data.toList z) z (lastL s1.data.toList z)) [] s1.data.toList) 0 e w') := fun V a n c hV hg hn => by
            rw [hla]
            exact make_any hg (sigs_weak s0 _ z) s0 s1 z la hz1 hz2 (by omega) (by omega) (by omega) (by omega) (by omega) (hL.below hV)
          rw [hla] at HLa
          obtain ⟨P, hP⟩ : ∃ P, makeP (nextP (sgL s0) (sigsL (sgL s0) s1.data.toList z) z (lastL s1.data.toList z)) [] s1.data.toList = P := ⟨_, rfl⟩
          rw [hP] at hsm HM1
          have HP : Hid (costP P = 0 ∧ P.length = cntL s1.data.toList z ∧ cntL s1.data.toList z ≤ 300) := ⟨cost_all (fun p hp => (hsm.1 p hp).2), hsm.2, by omega⟩
          clear hsm hP hlc hll hla hcl hL hl
          go_enter Tryd.func6, Tryd.ntmps6
          go_wp2_with fail
          refine HS.mono ?_
          rintro e V1 ⟨ga, gn, gc, rfl, hgw, hgn, hb1⟩
          have HL1 := HLa.out V1
          have HM11 := HM1.out V1 ga gn gc hb1 hgw hgn
          have H1 : Hid (Below w.heap.size w V1 ∧ gn = cntL s1.data.toList z) := ⟨hb1, hgn⟩
          clear HS hgw hb1 hgn HLa HM1
          go_wp2_with fail
          refine HL1.mono ?_
          rintro e V ⟨rfl, hV⟩
          subst V
          clear HL1
          go_wp2_with fail
          refine HM11.mono ?_
          rintro e V2 ⟨pa, pn, pc, rfl, hown, hb2⟩
          have hB2 : Below w.heap.size w V2 := H1.out.1.trans (hb2.mono H1.out.1.size)
          have hhw : Hw (fun _ => True) V2 pa pn pc P := Rw.own hown (fun _ _ => trivial)
          have hpl := hhw.len
          have H2 : Hid (Hw (fun _ => True) V2 pa pn pc P ∧ Below w.heap.size w V2) := ⟨hhw, hB2⟩
          have hpn : pn = gn := by have := HP.out; have := H1.out.2; omega
          have hp3 : pn ≤ 300 := by have := HP.out; omega
          subst hpn
          have HM22 := HM2.out V2 hB2
          clear HM11 hown hb2 hB2 hhw hpl HM2 H1
          go_wp2_with fail
          refine HM22.mono ?_
          rintro e V3 ⟨qa, qn, qc, rfl, hown, hb3⟩
          have hB3 : Below w.heap.size w V3 := H2.out.2.trans (hb3.mono H2.out.2.size)
          have hhw : Hw (fun _ => True) V3 qa qn qc (bytP s1.data.toList) := Rw.own hown (fun _ _ => trivial)
          have HC1 := cost_any (H2.out.1.below hb3) (by have := HP.out; omega) (by omega)
          rw [HP.out.1] at HC1
          have H3 : Hid (Hw (fun _ => True) V3 qa qn qc (bytP s1.data.toList) ∧ Below w.heap.size w V3) := ⟨hhw, hB3⟩
          have hpp : ((pn : Int) == (pn : Int)) = true := by simp
          have hql := hhw.len
          clear HM22 hown hb3 hB3 hhw H2
          by_cases h0 : s1.size = 0
          · have hb0 := bytP_empty h0
            have hq0 : qn = 0 := by rw [hb0] at hql; exact hql.symm
            subst hq0
            have HC2 : Hid (∀ V, Below V3.heap.size V3 V → Calls Tryd.prog 22 #[.slice qa 0 qc] V fun e w' => e = .returned (.int .i64 0) ∧ Below V.heap.size V w') := fun V hV => by
              have h6 := cost_any (H3.out.1.below hV) (by rw [hb0]; decide) (by omega)
              rw [hb0] at h6
              exact h6
            have kz : (0 : Int) = (s1.size : Int) := by omega
            have kz2 : ((0 : Int) == (s1.size : Int)) = true := by simp [h0]
            have km : min (s1.size : Int) 1 = 0 := by omega
            clear h0 hb0 hql
            go_wp2_with fail
            refine HC1.mono ?_
            rintro e V4 ⟨rfl, hb4⟩
            have HC22 := HC2.out V4 hb4
            have H4 : Hid (Below w.heap.size w V4) := H3.out.2.trans (hb4.mono H3.out.2.size)
            clear HC1 HC2 hb4
            go_wp2_with fail
            refine HC22.mono ?_
            rintro e V5 ⟨rfl, hb5⟩
            have H5 : Hid (Below w.heap.size w V5) := H4.out.trans (hb5.mono H4.out.size)
            clear HC22 hb5
            go_wp2_with fail
            refine (HLV.out _ (H5.out)).mono ?_
            rintro e V ⟨rfl, hb⟩
            go_wp2
            go_ret
            exact ⟨rfl, hb⟩
          · have hb0 := bytP_some h0
            have hq0 : qn = 1 := by rw [hb0] at hql; exact hql.symm
            subst hq0
            have hcs : costP [(⟨false, 0, s1⟩ : Pc)] = s1.size := by simp [costP]
            have HC2 : Hid (∀ V, Below V3.heap.size V3 V → Calls Tryd.prog 22 #[.slice qa 1 qc] V fun e w' => e = .returned (.int .i64 (s1.size : Int)) ∧ Below V.heap.size V w') := fun V hV => by
              have h6 := cost_any (H3.out.1.below hV) (by rw [hb0, hcs]; omega) (by omega)
              rw [hb0, hcs] at h6
              exact h6
            obtain ⟨ab, ao, rfl, hab, hc⟩ := H3.out.1.at (by omega)
            have c3 := (hc 0 ⟨false, 0, s1⟩ (by rw [hb0]; rfl)).2.2
            simp only [Nat.zero_mul, Nat.add_zero] at c3
            have HC3 : Hid (∀ V, Below V3.heap.size V3 V → V.cell? ⟨ab, ao + 2, none⟩ = some (.string s1)) := fun V hV => by rw [hV.cell hab]; exact c3
            have kss : ((s1.size : Int) == (s1.size : Int)) = true := by simp
            have km : min (s1.size : Int) 1 = 1 := by omega
            have hbe : (s1.toList == s1.toList) = true := by simp
            clear h0 hb0 hql hcs hc c3
            go_wp2_with fail
            refine HC1.mono ?_
            rintro e V4 ⟨rfl, hb4⟩
            have HC22 := HC2.out V4 hb4
            have H4 : Hid (Below w.heap.size w V4 ∧ Below V3.heap.size V3 V4) := ⟨H3.out.2.trans (hb4.mono H3.out.2.size), hb4⟩
            clear HC1 HC2 hb4
            go_wp2_with fail
            refine HC22.mono ?_
            rintro e V5 ⟨rfl, hb5⟩
            have H5 : Hid (Below w.heap.size w V5) := H4.out.1.trans (hb5.mono H4.out.1.size)
            have c5 := HC3.out V5 (H4.out.2.trans (hb5.mono H4.out.2.size))
            clear HC22 hb5
            go_wp2_with fail
            refine (HLV.out _ (H5.out)).mono ?_
            rintro e V ⟨rfl, hb⟩
            go_wp2
            go_ret
            exact ⟨rfl, hb⟩

set_option linter.unusedVariables false in
set_option maxRecDepth 100000 in
theorem lifted (os : Os) (started : os.Started) (H : Type) (enc : TypeId × Value → H) :
    ReturnsInHanded {} Tryd.checked os 6 .any (fun w args => (Rows.deltaSameSpec.pre enc Tryd.prog Tryd.f6 [] false w args ∧ laidMetH Tryd.prog laid2 w) ∧ sizedMet enc Tryd.prog Tryd.f6 (OpenSpec.ofChange Rows.deltaSameSpec) false w args) (Rows.deltaSameSpec.post enc Tryd.prog Tryd.f6 false true false false) := by
  refine returnsInHanded_of_change_and (C := Tryd.checked) (X := fun w _ => laidMetH Tryd.prog laid2 w) (fun _ _ _ hh h => h.of_heap hh) own started (by kernel_rfl) Tryd.func6
    (ChangeSpec.witness_shaped (enc := enc) (C := Tryd.checked) (os := os) (X := fun w _ => laidMetH Tryd.prog laid2 w) false (World.doorLaid Tryd.prog 19 os) #[.string ByteArray.empty, .string ByteArray.empty, .int .i64 0] 8 rfl (World.shaped_of_RefB (by kernel_rfl) (by kernel_rfl)) (by kernel_rfl) (by kernel_rfl) (by kernel_rfl) (door_met os _)) ?_
  intro W base args ds gs before hval0 hW _ hsz0 hL _
  have hval : ∀ (j : Nat) t v, Tryd.f6.params[j]? = some t → args[j]? = some v → Value.okWide Tryd.prog W .any base t v := hval0
  have hsz : (DataW.weightsEach Tryd.prog (Tryd.f6.params.toList ++ Rows.deltaSameSpec.plain.varTypes Tryd.prog) (ds ++ gs)).all (· ≤ reachBytes) = true := hsz0
  have hW' := hW
  obtain ⟨p, q, hA0, hV, rfl, hfz, hnd⟩ := hW
  have hA : DataW.TrodAll enc Tryd.prog W 0 (fun _ => true) true Tryd.f6.params.toList args.toList ds p := hA0
  rw [Tryd.params6] at hA hval hsz
  obtain ⟨v0, vs0, d0, ds0, p0, q0, hargs, rfl, rfl, h0, r0⟩ := trodAll_cons hA
  obtain ⟨v1, vs1, d1, ds1, p1, q1, rfl, rfl, rfl, h1, r1⟩ := trodAll_cons r0
  obtain ⟨v2, vs2, d2, ds2, p2, q2, rfl, rfl, rfl, h2, r2⟩ := trodAll_cons r1
  obtain ⟨rfl, rfl, rfl⟩ := trodAll_nil r2
  obtain rfl : args = #[v0, v1, v2] := by cases args; simp_all
  obtain ⟨rfl, rfl⟩ := trodVars_none hV
  obtain ⟨s0, rfl, rfl, rfl, w0⟩ := open_string Tryd.underlying9 (hval 0 9 v0 rfl rfl) h0
  have z0 : s0.size ≤ 140737488351232 := by
    have := sized_string hsz (j := 0) (t := 9) rfl rfl
    simpa [reachBytes] using this
  obtain ⟨s1, rfl, rfl, rfl, w1⟩ := open_string Tryd.underlying9 (hval 1 9 v1 rfl rfl) h1
  have z1 : s1.size ≤ 140737488351232 := by
    have := sized_string hsz (j := 1) (t := 9) rfl rfl
    simpa [reachBytes] using this
  obtain ⟨x2, rfl, rfl, rfl, w2⟩ := open_int Tryd.underlying3 (hval 2 3 v2 rfl rfl) h2
  clear hA0 hval0 hsz hsz0
  refine (walk s0 z0 s1 z1 x2 (wf_i64 w2) W  (of_laid hL)).mono fun e W' ⟨he, bel⟩ => ?_
  subst he
  exact ⟨_, rfl, _, _, _, [], _, [], hW', trodAll_mk1 (shut_bool Tryd.underlying4 _), (trodAll_cons_mk (shut_string Tryd.underlying9 w0) (trodAll_cons_mk (shut_string Tryd.underlying9 w1) (trodAll_cons_mk (shut_int Tryd.underlying3 w2) trodAll_mk0))), rfl, bel.frame _, fun h => by cases h⟩

theorem over : Rows.deltaSameRow.holds Tryd.pinned (OpenSpec.ofChange Rows.deltaSameSpec) :=
  OpenClaim.holds_of_wide 6 Tryd.f6 rfl rfl rfl rfl rfl rfl rfl ⟨rfl, rfl, rfl, rfl, rfl⟩ rfl rfl rfl rfl rfl (by kernel_rfl) Tryd.func6 (by kernel_rfl)
    (of_decide_eq_true (by kernel_rfl)) (by unfold Func.isWrapper; first | (rw [if_pos (by decide +kernel)]; kernel_rfl) | (rw [if_neg (by decide +kernel)]; exact ⟨rfl, rfl⟩))
    (fun os started H enc _ => lifted os started H enc)

end Go.Proofs.YtbhnmjjfammlkaaDoor.deltaSame
namespace Go.Proofs.YtbhnmjjfammlkaaDoor
/-- The given statement. -/
theorem deltaSame_holds : Rows.DeltaSameCardSaid :=
  Claim7.holds_tied_plain_at .later [] [.data, .data] true (true, "27943a41a17194b98194b1148f1bcb5bf0b2dad1c028dfa582421bd3b0c29b3b") false
    deltaSame.over (fun _ h => by cases h) (by kernel_rfl) (fun _ h => by cases h) deltaSame_row_tie rfl ⟨rfl, rfl⟩ (by kernel_rfl) rfl
    (fun f fn hf hfn => by
      obtain rfl : f = 6 := Option.some.inj ((show Tryd.prog.funcNamed "strongroom/strongroomlaw11.DeltaSame" = some 6 by kernel_rfl).symm.trans hf) |>.symm
      obtain rfl : fn = Tryd.f6 := (Option.some.inj (Tryd.func6.symm.trans hfn)).symm
      exact ⟨by kernel_rfl, fun j t ht => by
        rw [Tryd.params6] at ht
        rcases j with _ | _ | _ | j
        · obtain rfl : t = 9 := by simpa using ht.symm
          exact (show Tryd.prog.wantsStandIn 9 = false by kernel_rfl)
        · obtain rfl : t = 9 := by simpa using ht.symm
          exact (show Tryd.prog.wantsStandIn 9 = false by kernel_rfl)
        · obtain rfl : t = 3 := by simpa using ht.symm
          exact (show Tryd.prog.wantsStandIn 3 = false by kernel_rfl)
        · simp at ht
      ⟩)
    (by kernel_rfl)
#print axioms deltaSame_holds
end Go.Proofs.YtbhnmjjfammlkaaDoor
