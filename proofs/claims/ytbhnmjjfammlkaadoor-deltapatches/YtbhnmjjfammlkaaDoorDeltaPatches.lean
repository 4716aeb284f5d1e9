/- Proved: for every basis, size and pieces the law DeltaPatches returns true, the pieces as they were (what they make of the basis, whether they may be, or why they make nothing, are the document's); where the package's two tables begin as the program's text lays them. -/
import Derived.Test.YtbhnmjjfammlkaaDoorHZ
import Derived.Test.YtbhnmjjfammlkaaDoorShelf
import Derived.Test.YtbhnmjjfammlkaaDoorCards
import Derived.Test.YtbhnmjjfammlkaaDoorTie
import Derived.WalkKit
import Derived.ProofKit
import Derived.OpenShut
import Derived.ShutString
import Derived.ChangeOld
import Derived.Below
import Derived.LaidMore
import Derived.Stop.Joined
import Derived.SevenTiedAt
namespace Go.Proofs.YtbhnmjjfammlkaaDoor.deltaPatches
open Go.ChangeShapes Go.WideShapes Go.ChangeAt Go.WideMaps Go.WideElems Go.RowKit
open Go.ChangeMaps (open_string shut_string)

set_option maxRecDepth 100000 in
set_option maxHeartbeats 2000000 in
theorem walk (s0 : ByteArray) (_z0 : s0.size ≤ 140737488351232) (x1 : Int) (_z1 : -9223372036854775808 ≤ x1 ∧ x1 ≤ 9223372036854775807) (a2 : Option Addr) (len2 cap2 : Nat) (ss2 : List Pc) (z2 : ∀ p ∈ ss2, -9223372036854775808 ≤ p.n ∧ p.n ≤ 9223372036854775807 ∧ p.data.size ≤ 140737488351232) (w : World) (w2 : Hs w a2 len2 cap2 ss2) (hL : Laid w) :
    Calls Tryd.prog 4 #[.string s0, .int .i64 x1, .slice a2 len2 cap2] w fun e w' => e = .returned (.bool true) ∧ Below w.heap.size w w' := by
  have HLV : Hid (∀ V, Below w.heap.size w V → Calls Tryd.prog 9 #[] V fun e w' => e = .returned (.bool true) ∧ Below w.heap.size w w') := fun V hV => (lives_any V (hL.below hV)).mono fun e w' h => ⟨h.1, hV.trans (h.2.mono hV.size)⟩
  have HF := few_any (l := ss2) w2 (fun p hp => (z2 p hp).2.2)
  obtain ⟨fb, hfb⟩ : ∃ fb, fewP ss2 = fb := ⟨_, rfl⟩
  rw [hfb] at HF
  have HW0 : Hid (∀ V, Below w.heap.size w V → Hw (fun _ => True) V a2 len2 cap2 ss2) := fun V hV => Hw.below w2 hV
  clear hL w2
  by_cases h3 : 3000 < s0.size
  · have k3 : (3000 : Int) < (s0.size : Int) := by omega
    clear hfb HF
    go_enter Tryd.func4, Tryd.ntmps4
    go_wp2_with fail
    refine (HLV.out _ (Below.refl _ _)).mono ?_
    rintro e V ⟨rfl, hb⟩
    go_wp2
    go_ret
    exact ⟨rfl, hb⟩
  · have k3 : ¬ (3000 : Int) < (s0.size : Int) := by omega
    cases fb with
    | false =>
      clear hfb
      go_enter Tryd.func4, Tryd.ntmps4
      go_wp2_with fail
      refine HF.mono ?_
      rintro e V1 ⟨rfl, hb1⟩
      have H1 : Hid (Below w.heap.size w V1) := hb1
      clear HF hb1
      go_wp2_with fail
      refine (HLV.out _ (H1.out)).mono ?_
      rintro e V ⟨rfl, hb⟩
      go_wp2
      go_ret
      exact ⟨rfl, hb⟩
    | true =>
      have hfw : costP ss2 ≤ 5000 := by
        unfold fewP at hfb
        simp only [Bool.and_eq_true, decide_eq_true_eq] at hfb
        exact hfb.2
      have hps : ∀ p ∈ ss2, p.data.size ≤ 100000 := fun p hp => by have := cost_mem hp; omega
      obtain ⟨⟨R1, R2⟩, hR⟩ : ∃ R, patchF s0 x1 ss2 = R := ⟨_, rfl⟩
      have HP : Hid (∀ V, Below w.heap.size w V → Calls Tryd.prog 14 #[.string s0, .int .i64 x1, .slice a2 len2 cap2] V fun e w' => e = .returned (.tuple #[.string R1, .int .i64 R2]) ∧ Below V.heap.size V w') := fun V hV => by
        have h5 := dpatch_any (HW0.out V hV) s0 x1 (by omega) (fun p hp => by have := hps p hp; omega)
        rw [hR] at h5
        exact h5
      have HQ : Hid (∀ V, Below w.heap.size w V → Calls Tryd.prog 15 #[.string s0, .int .i64 x1, .slice a2 len2 cap2] V fun e w' => e = .returned (.tuple #[.string R1, .int .i64 R2]) ∧ Below V.heap.size V w') := fun V hV => by
        have h5 := rpatch_any (HW0.out V hV) s0 x1 (by omega) hps
        rw [hR] at h5
        exact h5
      have hre : (R1.toList == R1.toList) = true := by simp
      have hr2 : (R2 == R2) = true := by simp
      clear hfb hfw hps hR
      go_enter Tryd.func4, Tryd.ntmps4
      go_wp2_with fail
      refine HF.mono ?_
      rintro e V1 ⟨rfl, hb1⟩
      have HP1 := HP.out V1 hb1
      have H1 : Hid (Below w.heap.size w V1) := hb1
      clear HF hb1 HP
      go_wp2_with fail
      refine HP1.mono ?_
      rintro e V2 ⟨rfl, hb2⟩
      have hB2 : Below w.heap.size w V2 := H1.out.trans (hb2.mono H1.out.size)
      have HQ2 := HQ.out V2 hB2
      have H2 : Hid (Below w.heap.size w V2) := hB2
      clear HP1 hb2 hB2 H1 HQ
      go_wp2_with fail
      refine HQ2.mono ?_
      rintro e V3 ⟨rfl, hb3⟩
      have hB3 : Below w.heap.size w V3 := H2.out.trans (hb3.mono H2.out.size)
      have HCK := dcheck_any (HW0.out V3 hB3)
      have HMY : Hid (∀ V, Below w.heap.size w V → Calls Tryd.prog 17 #[.slice a2 len2 cap2] V fun e w' => e = .returned (.bool (mayP ss2)) ∧ Below V.heap.size V w') := fun V hV => may_any (HW0.out V hV)
      have H3 : Hid (Below w.heap.size w V3) := hB3
      clear HQ2 hb3 hB3 H2
      obtain ⟨mb, hmb⟩ : ∃ mb, mayP ss2 = mb := ⟨_, rfl⟩
      rw [hmb] at HCK HMY
      clear hmb
      cases mb with
      | false =>
        go_wp2_with fail
        refine HCK.mono ?_
        rintro e V4 ⟨rfl, hb4⟩
        have e1 : ckI false = 1 := rfl
        rw [e1]
        have hB4 : Below w.heap.size w V4 := H3.out.trans (hb4.mono H3.out.size)
        have HM4 := HMY.out V4 hB4
        have H4 : Hid (Below w.heap.size w V4) := hB4
        clear HCK hb4 hB4 HMY e1
        go_wp2_with fail
        refine HM4.mono ?_
        rintro e V5 ⟨rfl, hb5⟩
        have H5 : Hid (Below w.heap.size w V5) := H4.out.trans (hb5.mono H4.out.size)
        clear HM4 hb5
        go_wp2_with fail
        refine (HLV.out _ (H5.out)).mono ?_
        rintro e V ⟨rfl, hb⟩
        go_wp2
        go_ret
        exact ⟨rfl, hb⟩
      | true =>
        go_wp2_with fail
        refine HCK.mono ?_
        rintro e V4 ⟨rfl, hb4⟩
        have e1 : ckI true = 0 := rfl
        rw [e1]
        have hB4 : Below w.heap.size w V4 := H3.out.trans (hb4.mono H3.out.size)
        have HM4 := HMY.out V4 hB4
        have H4 : Hid (Below w.heap.size w V4) := hB4
        clear HCK hb4 hB4 HMY e1
        go_wp2_with fail
        refine HM4.mono ?_
        rintro e V5 ⟨rfl, hb5⟩
        have H5 : Hid (Below w.heap.size w V5) := H4.out.trans (hb5.mono H4.out.size)
        clear HM4 hb5
        go_wp2_with fail
        refine (HLV.out _ (H5.out)).mono ?_
        rintro e V ⟨rfl, hb⟩
        go_wp2
        go_ret
        exact ⟨rfl, hb⟩

set_option linter.unusedVariables false in
set_option maxRecDepth 100000 in
theorem lifted (os : Os) (started : os.Started) (H : Type) (enc : TypeId × Value → H) :
    ReturnsInHanded {} Tryd.checked os 4 .any (fun w args => (Rows.deltaPatchesSpec.pre enc Tryd.prog Tryd.f4 [] false w args ∧ laidMetH Tryd.prog laid2 w) ∧ sizedMet enc Tryd.prog Tryd.f4 (OpenSpec.ofChange Rows.deltaPatchesSpec) false w args) (Rows.deltaPatchesSpec.post enc Tryd.prog Tryd.f4 false true false false) := by
  refine returnsInHanded_of_change_and (C := Tryd.checked) (X := fun w _ => laidMetH Tryd.prog laid2 w) (fun _ _ _ hh h => h.of_heap hh) own started (by kernel_rfl) Tryd.func4
    (ChangeSpec.witness_shaped (enc := enc) (C := Tryd.checked) (os := os) (X := fun w _ => laidMetH Tryd.prog laid2 w) false (World.doorLaid Tryd.prog 19 os) #[.string ByteArray.empty, .int .i64 0, .slice none 0 0] 8 rfl (World.shaped_of_RefB (by kernel_rfl) (by kernel_rfl)) (by kernel_rfl) (by kernel_rfl) (by kernel_rfl) (door_met os _)) ?_
  intro W base args ds gs before hval0 hW _ hsz0 hL _
  have hval : ∀ (j : Nat) t v, Tryd.f4.params[j]? = some t → args[j]? = some v → Value.okWide Tryd.prog W .any base t v := hval0
  have hsz : (DataW.weightsEach Tryd.prog (Tryd.f4.params.toList ++ Rows.deltaPatchesSpec.plain.varTypes Tryd.prog) (ds ++ gs)).all (· ≤ reachBytes) = true := hsz0
  have hW' := hW
  obtain ⟨p, q, hA0, hV, rfl, hfz, hnd⟩ := hW
  have hA : DataW.TrodAll enc Tryd.prog W 0 (fun _ => true) true Tryd.f4.params.toList args.toList ds p := hA0
  rw [Tryd.params4] at hA hval hsz
  obtain ⟨v0, vs0, d0, ds0, p0, q0, hargs, rfl, rfl, h0, r0⟩ := trodAll_cons hA
  obtain ⟨v1, vs1, d1, ds1, p1, q1, rfl, rfl, rfl, h1, r1⟩ := trodAll_cons r0
  obtain ⟨v2, vs2, d2, ds2, p2, q2, rfl, rfl, rfl, h2, r2⟩ := trodAll_cons r1
  obtain ⟨rfl, rfl, rfl⟩ := trodAll_nil r2
  obtain rfl : args = #[v0, v1, v2] := by cases args; simp_all
  obtain ⟨rfl, rfl⟩ := trodVars_none hV
  obtain ⟨s0, rfl, rfl, rfl, w0⟩ := open_string Tryd.underlying9 (hval 0 9 v0 rfl rfl) h0
  have z0 : s0.size ≤ 140737488351232 := by
    have := sized_string hsz (j := 0) (t := 9) rfl rfl
    simpa [reachBytes] using this
  obtain ⟨x1, rfl, rfl, rfl, w1⟩ := open_int Tryd.underlying3 (hval 1 3 v1 rfl rfl) h1
  have k2 := h2
  have lt2 : ∀ x ∈ p2, x.block < W.heap.size := by obtain ⟨m, hm⟩ := k2; exact DataW.trod_lt m _ _ _ hm
  obtain ⟨a2, len2, cap2, rfl⟩ := okWide_slice Tryd.underlying26 (hval 2 26 v2 rfl rfl)
  obtain ⟨ss2, w2, z2⟩ : ∃ ss, Hs W a2 len2 cap2 ss ∧ ∀ p ∈ ss, -9223372036854775808 ≤ p.n ∧ p.n ≤ 9223372036854775807 ∧ p.data.size ≤ 140737488351232 := by
    obtain ⟨fuel, hf⟩ := h2
    exact pieces_of (j := 2) (by simpa [Value.cells] using hf) hsz rfl rfl
  clear hA0 hval0 hsz hsz0
  refine (walk s0 z0 x1 (wf_i64 w1) a2 len2 cap2 ss2 z2 W w2 (of_laid hL)).mono fun e W' ⟨he, bel⟩ => ?_
  subst he
  exact ⟨_, rfl, _, _, _, [], _, [], hW', trodAll_mk1 (shut_bool Tryd.underlying4 _), (trodAll_cons_mk (shut_string Tryd.underlying9 w0) (trodAll_cons_mk (shut_int Tryd.underlying3 w1) (trodAll_cons_mk (Below.trod laidOut (by kernel_rfl) (of_decide_eq_true (by kernel_rfl)) k2 bel lt2) trodAll_mk0))), rfl, bel.frame _, fun h => by cases h⟩

theorem over : Rows.deltaPatchesRow.holds Tryd.pinned (OpenSpec.ofChange Rows.deltaPatchesSpec) :=
  OpenClaim.holds_of_wide 4 Tryd.f4 rfl rfl rfl rfl rfl rfl rfl ⟨rfl, rfl, rfl, rfl, rfl⟩ rfl rfl rfl rfl rfl (by kernel_rfl) Tryd.func4 (by kernel_rfl)
    (of_decide_eq_true (by kernel_rfl)) (by unfold Func.isWrapper; first | (rw [if_pos (by decide +kernel)]; kernel_rfl) | (rw [if_neg (by decide +kernel)]; exact ⟨rfl, rfl⟩))
    (fun os started H enc _ => lifted os started H enc)

end Go.Proofs.YtbhnmjjfammlkaaDoor.deltaPatches
namespace Go.Proofs.YtbhnmjjfammlkaaDoor
/-- The given statement. -/
theorem deltaPatches_holds : Rows.DeltaPatchesCardSaid :=
  Claim7.holds_tied_plain_at .later [] [.data, .data] true (true, "27943a41a17194b98194b1148f1bcb5bf0b2dad1c028dfa582421bd3b0c29b3b") false
    deltaPatches.over (fun _ h => by cases h) (by kernel_rfl) (fun _ h => by cases h) deltaPatches_row_tie rfl ⟨rfl, rfl⟩ (by kernel_rfl) rfl
    (fun f fn hf hfn => by
      obtain rfl : f = 4 := Option.some.inj ((show Tryd.prog.funcNamed "strongroom/strongroomlaw11.DeltaPatches" = some 4 by kernel_rfl).symm.trans hf) |>.symm
      obtain rfl : fn = Tryd.f4 := (Option.some.inj (Tryd.func4.symm.trans hfn)).symm
      exact ⟨by kernel_rfl, fun j t ht => by
        rw [Tryd.params4] at ht
        rcases j with _ | _ | _ | j
        · obtain rfl : t = 9 := by simpa using ht.symm
          exact (show Tryd.prog.wantsStandIn 9 = false by kernel_rfl)
        · obtain rfl : t = 3 := by simpa using ht.symm
          exact (show Tryd.prog.wantsStandIn 3 = false by kernel_rfl)
        · obtain rfl : t = 26 := by simpa using ht.symm
          exact (show Tryd.prog.wantsStandIn 26 = false by kernel_rfl)
        · simp at ht
      ⟩)
    (by kernel_rfl)
#print axioms deltaPatches_holds
end Go.Proofs.YtbhnmjjfammlkaaDoor
