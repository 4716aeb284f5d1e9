/- Proved: for every key, message and seal, the law MacChecks returns true; where the package's two tables begin as the program's text lays them. -/
import Derived.Test.YtdchaecfinfomaaDoorDA
import Derived.Test.YtdchaecfinfomaaDoorCE
import Derived.Test.YtdchaecfinfomaaDoorCards
import Derived.Test.YtdchaecfinfomaaDoorTie
import Derived.WalkKit
import Derived.ProofKit
import Derived.OpenShut
import Derived.ShutString
import Derived.ChangeOld
import Derived.Below
import Derived.LaidMore
import Derived.Stop.Joined
import Derived.SevenTiedAt
namespace Go.Proofs.YtdchaecfinfomaaDoor.macChecks
open Go.ChangeShapes Go.WideShapes Go.ChangeAt Go.WideMaps Go.WideElems Go.RowKit
open Go.ChangeMaps (open_string shut_string)

set_option maxRecDepth 100000 in
set_option maxHeartbeats 2000000 in
theorem walk (s0 : ByteArray) (z0 : s0.size ≤ 140737488351232) (s1 : ByteArray) (z1 : s1.size ≤ 140737488351232) (s2 : ByteArray) (z2 : s2.size ≤ 140737488351232) (w : World)  (hL : Laid w) :
    Calls Tryd.prog 4 #[.string s0, .string s1, .string s2] w fun e w' => e = .returned (.bool true) ∧ Below w.heap.size w w' := by
  have HLV : Hid (∀ W, Below w.heap.size w W → Calls Tryd.prog 10 #[] W fun e w' => e = .returned (.bool true) ∧ Below w.heap.size w w') := by
    intro W hW
    refine (lives_any W (hL.below hW)).mono ?_
    rintro e w' ⟨rfl, hb⟩
    exact ⟨rfl, hW.trans (hb.mono hW.size)⟩
  have HB1 : Hid (Below w.heap.size w (w.alloc (.cells #[.string s0, .string s1, .string s2] 9))) := (Below.refl _ w).alloc (Nat.le_refl _) _
  have HSM := small_any 3 3 _ _ _ (Ss.three w s0 s1 s2) (fun i h => by
    match i, h with
    | 0, _ => exact z0
    | 1, _ => exact z1
    | 2, _ => exact z2)
  by_cases hT : tot [s0, s1, s2] ≤ 3000
  · rw [show decide (3 ≤ 20 ∧ tot [s0, s1, s2] ≤ 3000) = true by simp [hT]] at HSM
    have hTs : s0.size + (s1.size + s2.size) ≤ 3000 := by simpa [tot] using hT
    obtain ⟨O, hO⟩ : ∃ O, strOf (sealL s0.data.toList s1.data.toList) = O := ⟨_, rfl⟩
    have HSE : Hid (∀ W, Below w.heap.size w W → Calls Tryd.prog 11 #[.string s0, .string s1] W fun e w' => e = .returned (.string O) ∧ Below w.heap.size w w') := by
      intro W hW
      rw [← hO]
      refine (seal_any s0 s1 W (by omega) (by omega) (hL.below hW)).mono ?_
      rintro e w' ⟨rfl, hb⟩
      exact ⟨rfl, hW.trans (hb.mono hW.size)⟩
    have HCK : Hid (∀ (S : ByteArray) (W : World), Below w.heap.size w W → Calls Tryd.prog 13 #[.string s0, .string s1, .string S] W fun e w' => e = .returned (.bool (decide (S = O))) ∧ Below w.heap.size w w') := by
      intro S W hW
      have e : decide (S = O) = decide (S.data.toList = sealL s0.data.toList s1.data.toList) := by
        rw [decide_eq_decide, ← hO]
        exact ⟨fun h => by rw [h, strOf_list], fun h => by rw [← h, strOf_of]⟩
      rw [e]
      refine (check_any s0 s1 S W (by omega) (by omega) (hL.below hW)).mono ?_
      rintro e w' ⟨rfl, hb⟩
      exact ⟨rfl, hW.trans (hb.mono hW.size)⟩
    have HC1 : Hid (∀ W, Below w.heap.size w W → Calls Tryd.prog 13 #[.string s0, .string s1, .string O] W fun e w' => e = .returned (.bool true) ∧ Below w.heap.size w w') := by
      intro W hW
      have := HCK.out O W hW
      rwa [show decide (O = O) = true by simp] at this
    clear hO hT hTs hL
    go_enter Tryd.func4, Tryd.ntmps4
    go_wp2_with fail
    refine HSM.mono ?_
    rintro e w2 ⟨rfl, hw2⟩
    subst w2
    clear HSM
    go_wp2_with fail
    refine (HSE.out _ HB1.out).mono ?_
    rintro e w3 ⟨rfl, hB3⟩
    have HC3 := HC1.out w3 hB3
    go_wp2_with fail
    refine HC3.mono ?_
    rintro e w4 ⟨rfl, hB4⟩
    have HC4 := HCK.out s2 w4 hB4
    by_cases hq : s2 = O
    · rw [show decide (s2 = O) = true by simp [hq]] at HC4
      subst hq
      clear HCK HC1
      go_wp2_with fail
      refine HC4.mono ?_
      rintro e w5 ⟨rfl, hB5⟩
      have HL5 := HLV.out w5 hB5
      go_wp2_with fail
      refine HL5.mono ?_
      rintro e w6 ⟨rfl, hB6⟩
      go_wp2
      go_ret
      exact ⟨rfl, hB6⟩
    · rw [show decide (s2 = O) = false by simp [hq]] at HC4
      have hq1 := str_ne hq
      have hq2 := str_nb hq
      clear HCK HC1
      go_wp2_with fail
      refine HC4.mono ?_
      rintro e w5 ⟨rfl, hB5⟩
      have HL5 := HLV.out w5 hB5
      go_wp2_with fail
      refine HL5.mono ?_
      rintro e w6 ⟨rfl, hB6⟩
      go_wp2
      go_ret
      exact ⟨rfl, hB6⟩
  · rw [show decide (3 ≤ 20 ∧ tot [s0, s1, s2] ≤ 3000) = false by simp [hT]] at HSM
    clear hT hL
    go_enter Tryd.func4, Tryd.ntmps4
    go_wp2_with fail
    refine HSM.mono ?_
    rintro e w2 ⟨rfl, hw2⟩
    subst w2
    clear HSM
    go_wp2_with fail
    refine (HLV.out _ HB1.out).mono ?_
    rintro e w3 ⟨rfl, hB3⟩
    go_wp2
    go_ret
    exact ⟨rfl, hB3⟩

set_option linter.unusedVariables false in
set_option maxRecDepth 100000 in
theorem lifted (os : Os) (started : os.Started) (H : Type) (enc : TypeId × Value → H) :
    ReturnsInHanded {} Tryd.checked os 4 .any (fun w args => (Rows.macChecksSpec.pre enc Tryd.prog Tryd.f4 [] false w args ∧ laidMetH Tryd.prog laid2 w) ∧ sizedMet enc Tryd.prog Tryd.f4 (OpenSpec.ofChange Rows.macChecksSpec) false w args) (Rows.macChecksSpec.post enc Tryd.prog Tryd.f4 false true false false) := by
  refine returnsInHanded_of_change_and (C := Tryd.checked) (X := fun w _ => laidMetH Tryd.prog laid2 w) (fun _ _ _ hh h => h.of_heap hh) own started (by kernel_rfl) Tryd.func4
    (ChangeSpec.witness_shaped (enc := enc) (C := Tryd.checked) (os := os) (X := fun w _ => laidMetH Tryd.prog laid2 w) false (World.doorLaid Tryd.prog 19 os) #[.string ByteArray.empty, .string ByteArray.empty, .string ByteArray.empty] 8 rfl (World.shaped_of_RefB (by kernel_rfl) (by kernel_rfl)) (by kernel_rfl) (by kernel_rfl) (by kernel_rfl) (door_met os _)) ?_
  intro W base args ds gs before hval0 hW _ hsz0 hL _
  have hval : ∀ (j : Nat) t v, Tryd.f4.params[j]? = some t → args[j]? = some v → Value.okWide Tryd.prog W .any base t v := hval0
  have hsz : (DataW.weightsEach Tryd.prog (Tryd.f4.params.toList ++ Rows.macChecksSpec.plain.varTypes Tryd.prog) (ds ++ gs)).all (· ≤ reachBytes) = true := hsz0
  have hW' := hW
  obtain ⟨p, q, hA0, hV, rfl, hfz, hnd⟩ := hW
  have hA : DataW.TrodAll enc Tryd.prog W 0 (fun _ => true) true Tryd.f4.params.toList args.toList ds p := hA0
  rw [Tryd.params4] at hA hval hsz
  obtain ⟨v0, vs0, d0, ds0, p0, q0, hargs, rfl, rfl, h0, r0⟩ := trodAll_cons hA
  obtain ⟨v1, vs1, d1, ds1, p1, q1, rfl, rfl, rfl, h1, r1⟩ := trodAll_cons r0
  obtain ⟨v2, vs2, d2, ds2, p2, q2, rfl, rfl, rfl, h2, r2⟩ := trodAll_cons r1
  obtain ⟨rfl, rfl, rfl⟩ := trodAll_nil r2
  obtain rfl : args = #[v0, v1, v2] := by cases args; simp_all
  obtain ⟨rfl, rfl⟩ := trodVars_none hV
  obtain ⟨s0, rfl, rfl, rfl, w0⟩ := open_string Tryd.underlying9 (hval 0 9 v0 rfl rfl) h0
  have z0 : s0.size ≤ 140737488351232 := by
    have := sized_string hsz (j := 0) (t := 9) rfl rfl
    simpa [reachBytes] using this
  obtain ⟨s1, rfl, rfl, rfl, w1⟩ := open_string Tryd.underlying9 (hval 1 9 v1 rfl rfl) h1
  have z1 : s1.size ≤ 140737488351232 := by
    have := sized_string hsz (j := 1) (t := 9) rfl rfl
    simpa [reachBytes] using this
  obtain ⟨s2, rfl, rfl, rfl, w2⟩ := open_string Tryd.underlying9 (hval 2 9 v2 rfl rfl) h2
  have z2 : s2.size ≤ 140737488351232 := by
    have := sized_string hsz (j := 2) (t := 9) rfl rfl
    simpa [reachBytes] using this
  clear hA0 hval0 hsz hsz0
  refine (walk s0 z0 s1 z1 s2 z2 W  (of_laid hL)).mono fun e W' ⟨he, bel⟩ => ?_
  subst he
  exact ⟨_, rfl, _, _, _, [], _, [], hW', trodAll_mk1 (shut_bool Tryd.underlying4 _), (trodAll_cons_mk (shut_string Tryd.underlying9 w0) (trodAll_cons_mk (shut_string Tryd.underlying9 w1) (trodAll_cons_mk (shut_string Tryd.underlying9 w2) trodAll_mk0))), rfl, bel.frame _, fun h => by cases h⟩

theorem over : Rows.macChecksRow.holds Tryd.pinned (OpenSpec.ofChange Rows.macChecksSpec) :=
  OpenClaim.holds_of_wide 4 Tryd.f4 rfl rfl rfl rfl rfl rfl rfl ⟨rfl, rfl, rfl, rfl, rfl⟩ rfl rfl rfl rfl rfl (by kernel_rfl) Tryd.func4 (by kernel_rfl)
    (of_decide_eq_true (by kernel_rfl)) (by unfold Func.isWrapper; first | (rw [if_pos (by decide +kernel)]; kernel_rfl) | (rw [if_neg (by decide +kernel)]; exact ⟨rfl, rfl⟩))
    (fun os started H enc _ => lifted os started H enc)

end Go.Proofs.YtdchaecfinfomaaDoor.macChecks
namespace Go.Proofs.YtdchaecfinfomaaDoor
/-- The given statement. -/
theorem macChecks_holds : Rows.MacChecksCardSaid :=
  Claim7.holds_tied_plain_at .later [] [.data, .data] true (true, "c658b8018e16d1ca0ab3317147dca27a9dd2439dcb40cbecf31092fcc5f8289c") false
    macChecks.over (fun _ h => by cases h) (by kernel_rfl) (fun _ h => by cases h) macChecks_row_tie rfl ⟨rfl, rfl⟩ (by kernel_rfl) rfl
    (fun f fn hf hfn => by
      obtain rfl : f = 4 := Option.some.inj ((show Tryd.prog.funcNamed "strongroom/strongroomlaw03.MacChecks" = some 4 by kernel_rfl).symm.trans hf) |>.symm
      obtain rfl : fn = Tryd.f4 := (Option.some.inj (Tryd.func4.symm.trans hfn)).symm
      exact ⟨by kernel_rfl, fun j t ht => by
        rw [Tryd.params4] at ht
        rcases j with _ | _ | _ | j
        · obtain rfl : t = 9 := by simpa using ht.symm
          exact (show Tryd.prog.wantsStandIn 9 = false by kernel_rfl)
        · obtain rfl : t = 9 := by simpa using ht.symm
          exact (show Tryd.prog.wantsStandIn 9 = false by kernel_rfl)
        · obtain rfl : t = 9 := by simpa using ht.symm
          exact (show Tryd.prog.wantsStandIn 9 = false by kernel_rfl)
        · simp at ht
      ⟩)
    (by kernel_rfl)
#print axioms macChecks_holds
end Go.Proofs.YtdchaecfinfomaaDoor
