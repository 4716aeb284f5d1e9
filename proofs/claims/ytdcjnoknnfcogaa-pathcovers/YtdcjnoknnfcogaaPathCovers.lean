/- Proved: for every a and b, the law PathCovers returns true. No condition: every input that can be read as data. -/
import Derived.Test.YtdcjnoknnfcogaaRows
import Derived.Test.YtdcjnoknnfcogaaHR
import Derived.WalkKit
import Derived.ProofKit
import Derived.OpenShut
import Derived.ShutString
import Derived.ChangeOld
import Derived.SizedLaws
import Derived.Below
namespace Go.Proofs.Ytdcjnoknnfcogaa.pathCovers
open Go.ChangeShapes Go.WideShapes Go.ChangeAt Go.RowKit
open Go.ChangeMaps (open_string shut_string)
theorem own : ownKnob Try.prog.godebug = none := by kernel_rfl
theorem laidOut : laidOutB Try.prog = true := by kernel_rfl

set_option maxRecDepth 100000 in
set_option maxHeartbeats 2000000 in
theorem walk (s0 : ByteArray) (z0 : s0.size ≤ 9223372036854775807) (s1 : ByteArray) (z1 : s1.size ≤ 9223372036854775807) (w : World)  :
    Calls Try.prog 5 #[.string s0, .string s1] w fun e w' => e = .returned (.bool true) ∧ Below w.heap.size w w' := by
  have HSH := short2 s0 s1 w z0 z1
  have HLV := lives_h (w := w)
  have HM := meet_h (w := w) s0 s1 z0 z1
  have HRM := rmeet_h (w := w) s0 s1 z0 z1
  have HC := covers_h (w := w) s0 s1 z0 z1
  have HRC := rcovers_h (w := w) s0 s1 z0 z1
  generalize (meetL s0.data.toList s1.data.toList).2 = ok at *
  generalize (meetL s0.data.toList s1.data.toList).1 = m at *
  generalize strOf m = M at *
  generalize coversL s0.data.toList s1.data.toList = cv at *
  cases hsh : shortB [s0, s1] with
  | false =>
    rw [hsh] at HSH
    clear hsh
    go_enter Try.func5, Try.ntmps5
    go_wp2_with fail
    refine HSH.mono ?_
    rintro e w0 ⟨rfl, hw0⟩
    subst w0
    have hB0 : Below w.heap.size w (w.alloc (.cells #[.string s0, .string s1] 9)) := (Below.refl _ _).alloc (Nat.le_refl _) _
    clear HSH
    have HC1 := HLV.out _ hB0
    go_wp2_with fail
    refine HC1.mono ?_
    rintro e w1 ⟨rfl, hB1⟩
    clear HC1
    go_wp2
    go_ret
    exact ⟨rfl, hB1⟩
  | true =>
    rw [hsh] at HSH
    clear hsh
    cases cv <;> cases ok
    all_goals
      go_enter Try.func5, Try.ntmps5
      go_wp2_with fail
      refine HSH.mono ?_
      rintro e w0 ⟨rfl, hw0⟩
      subst w0
      have hB0 : Below w.heap.size w (w.alloc (.cells #[.string s0, .string s1] 9)) := (Below.refl _ _).alloc (Nat.le_refl _) _
      clear HSH
      have HC1 := HM.out _ hB0
      go_wp2_with fail
      refine HC1.mono ?_
      rintro e w1 ⟨rfl, hB1⟩
      clear HC1
      have HC2 := HRM.out _ hB1
      go_wp2_with fail
      refine HC2.mono ?_
      rintro e w2 ⟨rfl, hB2⟩
      clear HC2
      have HC3 := HC.out _ hB2
      go_wp2_with fail
      refine HC3.mono ?_
      rintro e w3 ⟨rfl, hB3⟩
      clear HC3
      have HC4 := HRC.out _ hB3
      go_wp2_with fail
      refine HC4.mono ?_
      rintro e w4 ⟨rfl, hB4⟩
      clear HC4
      have HC5 := HLV.out _ hB4
      go_wp2_with fail
      refine HC5.mono ?_
      rintro e w5 ⟨rfl, hB5⟩
      clear HC5
      go_wp2
      go_ret
      exact ⟨rfl, hB5⟩

set_option linter.unusedVariables false in
set_option maxRecDepth 100000 in
theorem lifted (os : Os) (started : os.Started) (H : Type) (enc : TypeId × Value → H) :
    ReturnsInHanded {} Try.checked os 5 .any (Rows.pathCoversSpec.pre6 enc Try.prog Try.f5 Rows.pathCoversRow.domain false) (Rows.pathCoversSpec.post enc Try.prog Try.f5 false true false false) := by
  refine returnsInHanded_of_change_sized (C := Try.checked) own started (by kernel_rfl) Try.func5
    (ChangeSpec.witness6 (enc := enc) (C := Try.checked) false ⟨#[], #[.string ByteArray.empty, .string ByteArray.empty], []⟩ 8 (by kernel_rfl) (by kernel_rfl) (by kernel_rfl) (by kernel_rfl)) ?_
  intro W base args ds gs before hval0 hW hcnd hsz0 _
  have hval : ∀ (j : Nat) t v, Try.f5.params[j]? = some t → args[j]? = some v → Value.okWide Try.prog W .any base t v := hval0
  have hsz : (DataW.weightsEach Try.prog (Try.f5.params.toList ++ Rows.pathCoversSpec.plain.varTypes Try.prog) (ds ++ gs)).all (· ≤ reachBytes) = true := hsz0
  have hW' := hW
  obtain ⟨p, q, hA0, hV, rfl, hfz, hnd⟩ := hW
  have hA : DataW.TrodAll enc Try.prog W 0 (fun _ => true) true Try.f5.params.toList args.toList ds p := hA0
  rw [Try.params5] at hA hval hsz
  obtain ⟨v0, vs0, d0, ds0, p0, q0, hargs, rfl, rfl, h0, r0⟩ := trodAll_cons hA
  obtain ⟨v1, vs1, d1, ds1, p1, q1, rfl, rfl, rfl, h1, r1⟩ := trodAll_cons r0
  obtain ⟨rfl, rfl, rfl⟩ := trodAll_nil r1
  obtain rfl : args = #[v0, v1] := by cases args; simp_all
  obtain ⟨rfl, rfl⟩ := trodVars_none hV
  obtain ⟨s0, rfl, rfl, rfl, w0⟩ := open_string Try.underlying9 (hval 0 9 v0 rfl rfl) h0
  have z0 : s0.size ≤ 9223372036854775807 := by
    have := sized_string hsz (j := 0) (t := 9) rfl rfl
    simp [reachBytes] at this
    omega
  obtain ⟨s1, rfl, rfl, rfl, w1⟩ := open_string Try.underlying9 (hval 1 9 v1 rfl rfl) h1
  have z1 : s1.size ≤ 9223372036854775807 := by
    have := sized_string hsz (j := 1) (t := 9) rfl rfl
    simp [reachBytes] at this
    omega
  clear hA0 hval0 hsz hsz0
  refine (walk s0 z0 s1 z1 W ).mono fun e W' ⟨he, bel⟩ => ?_
  subst he
  exact ⟨_, rfl, _, _, _, [], _, [], hW', trodAll_mk1 (shut_bool Try.underlying4 _), (trodAll_cons_mk (shut_string Try.underlying9 w0) (trodAll_cons_mk (shut_string Try.underlying9 w1) trodAll_mk0)), rfl, bel.frame _, fun h => by cases h⟩

theorem over : Rows.pathCoversRow.holds Try.pinned (OpenSpec.ofChange Rows.pathCoversSpec) :=
  OpenClaim.holds_of_wide 5 Try.f5 rfl rfl rfl rfl rfl rfl rfl ⟨rfl, rfl, rfl, rfl, rfl⟩ rfl rfl rfl rfl rfl (by kernel_rfl) Try.func5 (by kernel_rfl)
    (of_decide_eq_true (by kernel_rfl)) (by unfold Func.isWrapper; first | (rw [if_pos (by decide +kernel)]; kernel_rfl) | (rw [if_neg (by decide +kernel)]; exact ⟨rfl, rfl⟩))
    (fun os started H enc _ => lifted os started H enc)

end Go.Proofs.Ytdcjnoknnfcogaa.pathCovers
namespace Go.Proofs.Ytdcjnoknnfcogaa
/-- The given statement. -/
theorem pathCovers_holds : Rows.PathCoversSaid := pathCovers.over
#print axioms pathCovers_holds
end Go.Proofs.Ytdcjnoknnfcogaa
