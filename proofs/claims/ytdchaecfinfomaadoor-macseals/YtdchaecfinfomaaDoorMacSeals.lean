/- Proved: for every key and message, the law MacSeals returns true; where the package's two tables begin as the program's text lays them. -/
import Derived.Test.YtdchaecfinfomaaDoorDA
import Derived.Test.YtdchaecfinfomaaDoorEA
import Derived.Test.YtdchaecfinfomaaDoorCards
import Derived.Test.YtdchaecfinfomaaDoorTie
import Derived.WalkKit
import Derived.ProofKit
import Derived.OpenShut
import Derived.ShutString
import Derived.ChangeOld
import Derived.Below
import Derived.LaidMore
import Derived.Stop.Joined
import Derived.SevenTiedAt
namespace Go.Proofs.YtdchaecfinfomaaDoor.macSeals
open Go.ChangeShapes Go.WideShapes Go.ChangeAt Go.WideMaps Go.WideElems Go.RowKit
open Go.ChangeMaps (open_string shut_string)

set_option maxRecDepth 100000 in
set_option maxHeartbeats 2000000 in
theorem walk (s0 : ByteArray) (z0 : s0.size ≤ 140737488351232) (s1 : ByteArray) (z1 : s1.size ≤ 140737488351232) (w : World)  (hL : Laid w) :
    Calls Tryd.prog 3 #[.string s0, .string s1] w fun e w' => e = .returned (.bool true) ∧ Below w.heap.size w w' := by
  have HLV : Hid (∀ W, Below w.heap.size w W → Calls Tryd.prog 10 #[] W fun e w' => e = .returned (.bool true) ∧ Below w.heap.size w w') := by
    intro W hW
    refine (lives_any W (hL.below hW)).mono ?_
    rintro e w' ⟨rfl, hb⟩
    exact ⟨rfl, hW.trans (hb.mono hW.size)⟩
  have HB1 : Hid (Below w.heap.size w (w.alloc (.cells #[.string s0, .string s1] 9))) := (Below.refl _ w).alloc (Nat.le_refl _) _
  have HSM := small_any 2 2 _ _ _ (Ss.two w s0 s1) (fun i h => by
    match i, h with
    | 0, _ => exact z0
    | 1, _ => exact z1)
  by_cases hT : tot [s0, s1] ≤ 3000
  · rw [show decide (2 ≤ 20 ∧ tot [s0, s1] ≤ 3000) = true by simp [hT]] at HSM
    have hTs : s0.size + s1.size ≤ 3000 := by simpa [tot] using hT
    obtain ⟨O, hO⟩ : ∃ O, strOf (sealL s0.data.toList s1.data.toList) = O := ⟨_, rfl⟩
    have HSE : Hid (∀ W, Below w.heap.size w W → Calls Tryd.prog 11 #[.string s0, .string s1] W fun e w' => e = .returned (.string O) ∧ Below w.heap.size w w') := by
      intro W hW
      rw [← hO]
      refine (seal_any s0 s1 W (by omega) (by omega) (hL.below hW)).mono ?_
      rintro e w' ⟨rfl, hb⟩
      exact ⟨rfl, hW.trans (hb.mono hW.size)⟩
    have HRE : Hid (∀ W, Below w.heap.size w W → Calls Tryd.prog 12 #[.string s0, .string s1] W fun e w' => e = .returned (.string O) ∧ Below w.heap.size w w') := by
      intro W hW
      rw [← hO]
      refine (refseal_any s0 s1 W (by omega) (by omega)).mono ?_
      rintro e w' ⟨rfl, hb⟩
      exact ⟨rfl, hW.trans (hb.mono hW.size)⟩
    clear hO hT hTs hL
    go_enter Tryd.func3, Tryd.ntmps3
    go_wp2_with fail
    refine HSM.mono ?_
    rintro e w2 ⟨rfl, hw2⟩
    subst w2
    clear HSM
    go_wp2_with fail
    refine (HSE.out _ HB1.out).mono ?_
    rintro e w3 ⟨rfl, hB3⟩
    have HR3 := HRE.out w3 hB3
    go_wp2_with fail
    refine (HR3).mono ?_
    rintro e w4 ⟨rfl, hB4⟩
    have HL4 := HLV.out w4 hB4
    go_wp2_with fail
    refine (HL4).mono ?_
    rintro e w5 ⟨rfl, hB5⟩
    go_wp2
    go_ret
    exact ⟨rfl, hB5⟩
  · rw [show decide (2 ≤ 20 ∧ tot [s0, s1] ≤ 3000) = false by simp [hT]] at HSM
    clear hT hL
    go_enter Tryd.func3, Tryd.ntmps3
    go_wp2_with fail
    refine HSM.mono ?_
    rintro e w2 ⟨rfl, hw2⟩
    subst w2
    clear HSM
    go_wp2_with fail
    refine (HLV.out _ HB1.out).mono ?_
    rintro e w3 ⟨rfl, hB3⟩
    go_wp2
    go_ret
    exact ⟨rfl, hB3⟩

set_option linter.unusedVariables false in
set_option maxRecDepth 100000 in
theorem lifted (os : Os) (started : os.Started) (H : Type) (enc : TypeId × Value → H) :
    ReturnsInHanded {} Tryd.checked os 3 .any (fun w args => (Rows.macSealsSpec.pre enc Tryd.prog Tryd.f3 [] false w args ∧ laidMetH Tryd.prog laid2 w) ∧ sizedMet enc Tryd.prog Tryd.f3 (OpenSpec.ofChange Rows.macSealsSpec) false w args) (Rows.macSealsSpec.post enc Tryd.prog Tryd.f3 false true false false) := by
  refine returnsInHanded_of_change_and (C := Tryd.checked) (X := fun w _ => laidMetH Tryd.prog laid2 w) (fun _ _ _ hh h => h.of_heap hh) own started (by kernel_rfl) Tryd.func3
    (ChangeSpec.witness_shaped (enc := enc) (C := Tryd.checked) (os := os) (X := fun w _ => laidMetH Tryd.prog laid2 w) false (World.doorLaid Tryd.prog 19 os) #[.string ByteArray.empty, .string ByteArray.empty] 8 rfl (World.shaped_of_RefB (by kernel_rfl) (by kernel_rfl)) (by kernel_rfl) (by kernel_rfl) (by kernel_rfl) (door_met os _)) ?_
  intro W base args ds gs before hval0 hW _ hsz0 hL _
  have hval : ∀ (j : Nat) t v, Tryd.f3.params[j]? = some t → args[j]? = some v → Value.okWide Tryd.prog W .any base t v := hval0
  have hsz : (DataW.weightsEach Tryd.prog (Tryd.f3.params.toList ++ Rows.macSealsSpec.plain.varTypes Tryd.prog) (ds ++ gs)).all (· ≤ reachBytes) = true := hsz0
  have hW' := hW
  obtain ⟨p, q, hA0, hV, rfl, hfz, hnd⟩ := hW
  have hA : DataW.TrodAll enc Tryd.prog W 0 (fun _ => true) true Tryd.f3.params.toList args.toList ds p := hA0
  rw [Tryd.params3] at hA hval hsz
  obtain ⟨v0, vs0, d0, ds0, p0, q0, hargs, rfl, rfl, h0, r0⟩ := trodAll_cons hA
  obtain ⟨v1, vs1, d1, ds1, p1, q1, rfl, rfl, rfl, h1, r1⟩ := trodAll_cons r0
  obtain ⟨rfl, rfl, rfl⟩ := trodAll_nil r1
  obtain rfl : args = #[v0, v1] := by cases args; simp_all
  obtain ⟨rfl, rfl⟩ := trodVars_none hV
  obtain ⟨s0, rfl, rfl, rfl, w0⟩ := open_string Tryd.underlying9 (hval 0 9 v0 rfl rfl) h0
  have z0 : s0.size ≤ 140737488351232 := by
    have := sized_string hsz (j := 0) (t := 9) rfl rfl
    simpa [reachBytes] using this
  obtain ⟨s1, rfl, rfl, rfl, w1⟩ := open_string Tryd.underlying9 (hval 1 9 v1 rfl rfl) h1
  have z1 : s1.size ≤ 140737488351232 := by
    have := sized_string hsz (j := 1) (t := 9) rfl rfl
    simpa [reachBytes] using this
  clear hA0 hval0 hsz hsz0
  refine (walk s0 z0 s1 z1 W  (of_laid hL)).mono fun e W' ⟨he, bel⟩ => ?_
  subst he
  exact ⟨_, rfl, _, _, _, [], _, [], hW', trodAll_mk1 (shut_bool Tryd.underlying4 _), (trodAll_cons_mk (shut_string Tryd.underlying9 w0) (trodAll_cons_mk (shut_string Tryd.underlying9 w1) trodAll_mk0)), rfl, bel.frame _, fun h => by cases h⟩

theorem over : Rows.macSealsRow.holds Tryd.pinned (OpenSpec.ofChange Rows.macSealsSpec) :=
  OpenClaim.holds_of_wide 3 Tryd.f3 rfl rfl rfl rfl rfl rfl rfl ⟨rfl, rfl, rfl, rfl, rfl⟩ rfl rfl rfl rfl rfl (by kernel_rfl) Tryd.func3 (by kernel_rfl)
    (of_decide_eq_true (by kernel_rfl)) (by unfold Func.isWrapper; first | (rw [if_pos (by decide +kernel)]; kernel_rfl) | (rw [if_neg (by decide +kernel)]; exact ⟨rfl, rfl⟩))
    (fun os started H enc _ => lifted os started H enc)

end Go.Proofs.YtdchaecfinfomaaDoor.macSeals
namespace Go.Proofs.YtdchaecfinfomaaDoor
/-- The given statement. -/
theorem macSeals_holds : Rows.MacSealsCardSaid :=
  Claim7.holds_tied_plain_at .later [] [.data, .data] true (true, "c658b8018e16d1ca0ab3317147dca27a9dd2439dcb40cbecf31092fcc5f8289c") false
    macSeals.over (fun _ h => by cases h) (by kernel_rfl) (fun _ h => by cases h) macSeals_row_tie rfl ⟨rfl, rfl⟩ (by kernel_rfl) rfl
    (fun f fn hf hfn => by
      obtain rfl : f = 3 := Option.some.inj ((show Tryd.prog.funcNamed "strongroom/strongroomlaw03.MacSeals" = some 3 by kernel_rfl).symm.trans hf) |>.symm
      obtain rfl : fn = Tryd.f3 := (Option.some.inj (Tryd.func3.symm.trans hfn)).symm
      exact ⟨by kernel_rfl, fun j t ht => by
        rw [Tryd.params3] at ht
        rcases j with _ | _ | j
        · obtain rfl : t = 9 := by simpa using ht.symm
          exact (show Tryd.prog.wantsStandIn 9 = false by kernel_rfl)
        · obtain rfl : t = 9 := by simpa using ht.symm
          exact (show Tryd.prog.wantsStandIn 9 = false by kernel_rfl)
        · simp at ht
      ⟩)
    (by kernel_rfl)
#print axioms macSeals_holds
end Go.Proofs.YtdchaecfinfomaaDoor
