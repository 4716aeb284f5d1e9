/- Proved: for every key, label and n, the law MacDerives returns true; where the package's two tables begin as the program's text lays them. -/
import Derived.Test.YtdchaecfinfomaaDoorDA
import Derived.Test.YtdchaecfinfomaaDoorEB
import Derived.Test.YtdchaecfinfomaaDoorCards
import Derived.Test.YtdchaecfinfomaaDoorTie
import Derived.WalkKit
import Derived.ProofKit
import Derived.OpenShut
import Derived.ShutString
import Derived.ChangeOld
import Derived.Below
import Derived.LaidMore
import Derived.Stop.Joined
import Derived.SevenTiedAt
namespace Go.Proofs.YtdchaecfinfomaaDoor.macDerives
open Go.ChangeShapes Go.WideShapes Go.ChangeAt Go.WideMaps Go.WideElems Go.RowKit
open Go.ChangeMaps (open_string shut_string)

set_option maxRecDepth 100000 in
set_option maxHeartbeats 2000000 in
theorem walk (s0 : ByteArray) (z0 : s0.size ≤ 140737488351232) (s1 : ByteArray) (z1 : s1.size ≤ 140737488351232) (x2 : Int) (z2 : -9223372036854775808 ≤ x2 ∧ x2 ≤ 9223372036854775807) (w : World)  (hL : Laid w) :
    Calls Tryd.prog 6 #[.string s0, .string s1, .int .i64 x2] w fun e w' => e = .returned (.bool true) ∧ Below w.heap.size w w' := by
  have HLV : Hid (∀ W, Below w.heap.size w W → Calls Tryd.prog 10 #[] W fun e w' => e = .returned (.bool true) ∧ Below w.heap.size w w') := by
    intro W hW
    refine (lives_any W (hL.below hW)).mono ?_
    rintro e w' ⟨rfl, hb⟩
    exact ⟨rfl, hW.trans (hb.mono hW.size)⟩
  have HB1 : Hid (Below w.heap.size w (w.alloc (.cells #[.string s0, .string s1] 9))) := (Below.refl _ w).alloc (Nat.le_refl _) _
  have HSM := small_any 2 2 _ _ _ (Ss.two w s0 s1) (fun i h => by
    match i, h with
    | 0, _ => exact z0
    | 1, _ => exact z1)
  by_cases hT : tot [s0, s1] ≤ 3000
  case neg =>
    rw [show decide (2 ≤ 20 ∧ tot [s0, s1] ≤ 3000) = false by simp [hT]] at HSM
    clear hL
    go_enter Tryd.func6, Tryd.ntmps6
    go_wp2_with fail
    refine HSM.mono ?_
    rintro e w2 ⟨rfl, hw2⟩
    subst w2
    clear HSM
    go_wp2_with fail
    refine (HLV.out _ HB1.out).mono ?_
    rintro e w3 ⟨rfl, hB3⟩
    go_wp2
    go_ret
    exact ⟨rfl, hB3⟩
  rw [show decide (2 ≤ 20 ∧ tot [s0, s1] ≤ 3000) = true by simp [hT]] at HSM
  have hTs : s0.size + s1.size ≤ 3000 := by simpa [tot] using hT
  clear hT
  by_cases hmid : 700 < x2 ∧ x2 ≤ 8160
  · obtain ⟨m1, m2⟩ := hmid
    clear hTs
    clear hL
    go_enter Tryd.func6, Tryd.ntmps6
    go_wp2_with fail
    refine HSM.mono ?_
    rintro e w2 ⟨rfl, hw2⟩
    subst w2
    clear HSM
    go_wp2_with fail
    refine (HLV.out _ HB1.out).mono ?_
    rintro e w3 ⟨rfl, hB3⟩
    go_wp2
    go_ret
    exact ⟨rfl, hB3⟩
  by_cases hout : x2 < 0 ∨ 8160 < x2
  · have hE : ∀ W, Below w.heap.size w W → Calls Tryd.prog 14 #[.string s0, .string s1, .int .i64 x2] W fun e w' => e = .returned (.tuple #[.string ⟨#[]⟩, .int .i64 9]) ∧ Below W.heap.size W w' := by
      intro W _
      refine (derive_out s0 s1 x2 W hout).mono ?_
      rintro e w' ⟨rfl, rfl⟩
      exact ⟨rfl, Below.refl _ _⟩
    have hE2 : ∀ W, Below w.heap.size w W → Calls Tryd.prog 15 #[.string s0, .string s1, .int .i64 x2] W fun e w' => e = .returned (.tuple #[.string ⟨#[]⟩, .int .i64 9]) ∧ Below W.heap.size W w' := by
      intro W _
      refine (refderive_out s0 s1 x2 W hout).mono ?_
      rintro e w' ⟨rfl, rfl⟩
      exact ⟨rfl, Below.refl _ _⟩
    by_cases hneg : x2 < 0
    · have m1 : ¬ 700 < x2 := by omega
      have HD1 : Hid (∀ W, Below w.heap.size w W → Calls Tryd.prog 14 #[.string s0, .string s1, .int .i64 x2] W fun e w' => e = .returned (.tuple #[.string ⟨#[]⟩, .int .i64 9]) ∧ Below w.heap.size w w') := by
        intro W hW
        refine (hE W hW).mono ?_
        rintro e w' ⟨rfl, hb⟩
        exact ⟨rfl, hW.trans (hb.mono hW.size)⟩
      have HD2 : Hid (∀ W, Below w.heap.size w W → Calls Tryd.prog 15 #[.string s0, .string s1, .int .i64 x2] W fun e w' => e = .returned (.tuple #[.string ⟨#[]⟩, .int .i64 9]) ∧ Below w.heap.size w w') := by
        intro W hW
        refine (hE2 W hW).mono ?_
        rintro e w' ⟨rfl, hb⟩
        exact ⟨rfl, hW.trans (hb.mono hW.size)⟩
      clear hE hE2 hout hmid
      clear hL hTs
      go_enter Tryd.func6, Tryd.ntmps6
      go_wp2_with fail
      refine HSM.mono ?_
      rintro e w2 ⟨rfl, hw2⟩
      subst w2
      clear HSM
      go_wp2_with fail
      refine (HD1.out _ HB1.out).mono ?_
      rintro e w3 ⟨rfl, hB3⟩
      have HR3 := HD2.out w3 hB3
      go_wp2_with fail
      refine (HR3).mono ?_
      rintro e w4 ⟨rfl, hB4⟩
      have HL4 := HLV.out w4 hB4
      go_wp2_with fail
      refine (HL4).mono ?_
      rintro e w5 ⟨rfl, hB5⟩
      go_wp2
      go_ret
      exact ⟨rfl, hB5⟩
    · have m1 : 700 < x2 := by omega
      have m2 : ¬ x2 ≤ 8160 := by omega
      have HD1 : Hid (∀ W, Below w.heap.size w W → Calls Tryd.prog 14 #[.string s0, .string s1, .int .i64 x2] W fun e w' => e = .returned (.tuple #[.string ⟨#[]⟩, .int .i64 9]) ∧ Below w.heap.size w w') := by
        intro W hW
        refine (hE W hW).mono ?_
        rintro e w' ⟨rfl, hb⟩
        exact ⟨rfl, hW.trans (hb.mono hW.size)⟩
      have HD2 : Hid (∀ W, Below w.heap.size w W → Calls Tryd.prog 15 #[.string s0, .string s1, .int .i64 x2] W fun e w' => e = .returned (.tuple #[.string ⟨#[]⟩, .int .i64 9]) ∧ Below w.heap.size w w') := by
        intro W hW
        refine (hE2 W hW).mono ?_
        rintro e w' ⟨rfl, hb⟩
        exact ⟨rfl, hW.trans (hb.mono hW.size)⟩
      clear hE hE2 hout hmid hneg
      clear hL hTs
      go_enter Tryd.func6, Tryd.ntmps6
      go_wp2_with fail
      refine HSM.mono ?_
      rintro e w2 ⟨rfl, hw2⟩
      subst w2
      clear HSM
      go_wp2_with fail
      refine (HD1.out _ HB1.out).mono ?_
      rintro e w3 ⟨rfl, hB3⟩
      have HR3 := HD2.out w3 hB3
      go_wp2_with fail
      refine (HR3).mono ?_
      rintro e w4 ⟨rfl, hB4⟩
      have HL4 := HLV.out w4 hB4
      go_wp2_with fail
      refine (HL4).mono ?_
      rintro e w5 ⟨rfl, hB5⟩
      go_wp2
      go_ret
      exact ⟨rfl, hB5⟩
  · obtain ⟨n, hn⟩ : ∃ n : Nat, (n : Int) = x2 := ⟨x2.toNat, by omega⟩
    subst hn
    obtain ⟨D, hD⟩ : ∃ D, strOf (derived s0.data.toList s1.data.toList n) = D := ⟨_, rfl⟩
    have m1 : ¬ (700 : Int) < (n : Int) := by omega
    have HD1 : Hid (∀ W, Below w.heap.size w W → Calls Tryd.prog 14 #[.string s0, .string s1, .int .i64 (n : Int)] W fun e w' => e = .returned (.tuple #[.string D, .int .i64 0]) ∧ Below w.heap.size w w') := by
      intro W hW
      rw [← hD]
      refine (derive_any s0 s1 n W (by omega) (by omega) (by omega) (hL.below hW)).mono ?_
      rintro e w' ⟨rfl, hb⟩
      exact ⟨rfl, hW.trans (hb.mono hW.size)⟩
    have HD2 : Hid (∀ W, Below w.heap.size w W → Calls Tryd.prog 15 #[.string s0, .string s1, .int .i64 (n : Int)] W fun e w' => e = .returned (.tuple #[.string D, .int .i64 0]) ∧ Below w.heap.size w w') := by
      intro W hW
      rw [← hD]
      refine (refderive_any s0 s1 n W (by omega) (by omega) (by omega)).mono ?_
      rintro e w' ⟨rfl, hb⟩
      exact ⟨rfl, hW.trans (hb.mono hW.size)⟩
    clear hD hout hmid
    clear hL hTs
    go_enter Tryd.func6, Tryd.ntmps6
    go_wp2_with fail
    refine HSM.mono ?_
    rintro e w2 ⟨rfl, hw2⟩
    subst w2
    clear HSM
    go_wp2_with fail
    refine (HD1.out _ HB1.out).mono ?_
    rintro e w3 ⟨rfl, hB3⟩
    have HR3 := HD2.out w3 hB3
    go_wp2_with fail
    refine (HR3).mono ?_
    rintro e w4 ⟨rfl, hB4⟩
    have HL4 := HLV.out w4 hB4
    go_wp2_with fail
    refine (HL4).mono ?_
    rintro e w5 ⟨rfl, hB5⟩
    go_wp2
    go_ret
    exact ⟨rfl, hB5⟩

set_option linter.unusedVariables false in
set_option maxRecDepth 100000 in
theorem lifted (os : Os) (started : os.Started) (H : Type) (enc : TypeId × Value → H) :
    ReturnsInHanded {} Tryd.checked os 6 .any (fun w args => (Rows.macDerivesSpec.pre enc Tryd.prog Tryd.f6 [] false w args ∧ laidMetH Tryd.prog laid2 w) ∧ sizedMet enc Tryd.prog Tryd.f6 (OpenSpec.ofChange Rows.macDerivesSpec) false w args) (Rows.macDerivesSpec.post enc Tryd.prog Tryd.f6 false true false false) := by
  refine returnsInHanded_of_change_and (C := Tryd.checked) (X := fun w _ => laidMetH Tryd.prog laid2 w) (fun _ _ _ hh h => h.of_heap hh) own started (by kernel_rfl) Tryd.func6
    (ChangeSpec.witness_shaped (enc := enc) (C := Tryd.checked) (os := os) (X := fun w _ => laidMetH Tryd.prog laid2 w) false (World.doorLaid Tryd.prog 19 os) #[.string ByteArray.empty, .string ByteArray.empty, .int .i64 0] 8 rfl (World.shaped_of_RefB (by kernel_rfl) (by kernel_rfl)) (by kernel_rfl) (by kernel_rfl) (by kernel_rfl) (door_met os _)) ?_
  intro W base args ds gs before hval0 hW _ hsz0 hL _
  have hval : ∀ (j : Nat) t v, Tryd.f6.params[j]? = some t → args[j]? = some v → Value.okWide Tryd.prog W .any base t v := hval0
  have hsz : (DataW.weightsEach Tryd.prog (Tryd.f6.params.toList ++ Rows.macDerivesSpec.plain.varTypes Tryd.prog) (ds ++ gs)).all (· ≤ reachBytes) = true := hsz0
  have hW' := hW
  obtain ⟨p, q, hA0, hV, rfl, hfz, hnd⟩ := hW
  have hA : DataW.TrodAll enc Tryd.prog W 0 (fun _ => true) true Tryd.f6.params.toList args.toList ds p := hA0
  rw [Tryd.params6] at hA hval hsz
  obtain ⟨v0, vs0, d0, ds0, p0, q0, hargs, rfl, rfl, h0, r0⟩ := trodAll_cons hA
  obtain ⟨v1, vs1, d1, ds1, p1, q1, rfl, rfl, rfl, h1, r1⟩ := trodAll_cons r0
  obtain ⟨v2, vs2, d2, ds2, p2, q2, rfl, rfl, rfl, h2, r2⟩ := trodAll_cons r1
  obtain ⟨rfl, rfl, rfl⟩ := trodAll_nil r2
  obtain rfl : args = #[v0, v1, v2] := by cases args; simp_all
  obtain ⟨rfl, rfl⟩ := trodVars_none hV
  obtain ⟨s0, rfl, rfl, rfl, w0⟩ := open_string Tryd.underlying9 (hval 0 9 v0 rfl rfl) h0
  have z0 : s0.size ≤ 140737488351232 := by
    have := sized_string hsz (j := 0) (t := 9) rfl rfl
    simpa [reachBytes] using this
  obtain ⟨s1, rfl, rfl, rfl, w1⟩ := open_string Tryd.underlying9 (hval 1 9 v1 rfl rfl) h1
  have z1 : s1.size ≤ 140737488351232 := by
    have := sized_string hsz (j := 1) (t := 9) rfl rfl
    simpa [reachBytes] using this
  obtain ⟨x2, rfl, rfl, rfl, w2⟩ := open_int Tryd.underlying3 (hval 2 3 v2 rfl rfl) h2
  clear hA0 hval0 hsz hsz0
  refine (walk s0 z0 s1 z1 x2 (wf_i64 w2) W  (of_laid hL)).mono fun e W' ⟨he, bel⟩ => ?_
  subst he
  exact ⟨_, rfl, _, _, _, [], _, [], hW', trodAll_mk1 (shut_bool Tryd.underlying4 _), (trodAll_cons_mk (shut_string Tryd.underlying9 w0) (trodAll_cons_mk (shut_string Tryd.underlying9 w1) (trodAll_cons_mk (shut_int Tryd.underlying3 w2) trodAll_mk0))), rfl, bel.frame _, fun h => by cases h⟩

theorem over : Rows.macDerivesRow.holds Tryd.pinned (OpenSpec.ofChange Rows.macDerivesSpec) :=
  OpenClaim.holds_of_wide 6 Tryd.f6 rfl rfl rfl rfl rfl rfl rfl ⟨rfl, rfl, rfl, rfl, rfl⟩ rfl rfl rfl rfl rfl (by kernel_rfl) Tryd.func6 (by kernel_rfl)
    (of_decide_eq_true (by kernel_rfl)) (by unfold Func.isWrapper; first | (rw [if_pos (by decide +kernel)]; kernel_rfl) | (rw [if_neg (by decide +kernel)]; exact ⟨rfl, rfl⟩))
    (fun os started H enc _ => lifted os started H enc)

end Go.Proofs.YtdchaecfinfomaaDoor.macDerives
namespace Go.Proofs.YtdchaecfinfomaaDoor
/-- The given statement. -/
theorem macDerives_holds : Rows.MacDerivesCardSaid :=
  Claim7.holds_tied_plain_at .later [] [.data, .data] true (true, "c658b8018e16d1ca0ab3317147dca27a9dd2439dcb40cbecf31092fcc5f8289c") false
    macDerives.over (fun _ h => by cases h) (by kernel_rfl) (fun _ h => by cases h) macDerives_row_tie rfl ⟨rfl, rfl⟩ (by kernel_rfl) rfl
    (fun f fn hf hfn => by
      obtain rfl : f = 6 := Option.some.inj ((show Tryd.prog.funcNamed "strongroom/strongroomlaw03.MacDerives" = some 6 by kernel_rfl).symm.trans hf) |>.symm
      obtain rfl : fn = Tryd.f6 := (Option.some.inj (Tryd.func6.symm.trans hfn)).symm
      exact ⟨by kernel_rfl, fun j t ht => by
        rw [Tryd.params6] at ht
        rcases j with _ | _ | _ | j
        · obtain rfl : t = 9 := by simpa using ht.symm
          exact (show Tryd.prog.wantsStandIn 9 = false by kernel_rfl)
        · obtain rfl : t = 9 := by simpa using ht.symm
          exact (show Tryd.prog.wantsStandIn 9 = false by kernel_rfl)
        · obtain rfl : t = 3 := by simpa using ht.symm
          exact (show Tryd.prog.wantsStandIn 3 = false by kernel_rfl)
        · simp at ht
      ⟩)
    (by kernel_rfl)
#print axioms macDerives_holds
end Go.Proofs.YtdchaecfinfomaaDoor
