/- Proved: for every a, b and c, the law PathMeets returns true. No condition: every input that can be read as data. -/
import Derived.Test.YtdcjnoknnfcogabRows
import Derived.Test.YtdcjnoknnfcogabH
import Derived.WalkKit
import Derived.ProofKit
import Derived.OpenShut
import Derived.ShutString
import Derived.ChangeOld
import Derived.SizedLaws
import Derived.Below
namespace Go.Proofs.Ytdcjnoknnfcogab.pathMeets
open Go.ChangeShapes Go.WideShapes Go.ChangeAt Go.RowKit
open Go.ChangeMaps (open_string shut_string)
theorem own : ownKnob Try.prog.godebug = none := by kernel_rfl
theorem laidOut : laidOutB Try.prog = true := by kernel_rfl

set_option maxRecDepth 100000 in
set_option maxHeartbeats 2000000 in
theorem walk (s0 : ByteArray) (z0 : s0.size ≤ 9223372036854775807) (s1 : ByteArray) (z1 : s1.size ≤ 9223372036854775807) (s2 : ByteArray) (z2 : s2.size ≤ 9223372036854775807) (w : World)  :
    Calls Try.prog 4 #[.string s0, .string s1, .string s2] w fun e w' => e = .returned (.bool true) ∧ Below w.heap.size w w' := by
  have HSH := short3 s0 s1 s2 w z0 z1 z2
  have HLV := lives_h (w := w)
  have HAB := meet_h (w := w) s0 s1 z0 z1
  have HBA := meet_h (w := w) s1 s0 z1 z0
  rw [meet_sym s1.data.toList s0.data.toList] at HBA
  have HAC := covers_h (w := w) s0 s2 z0 z2
  have HBC := covers_h (w := w) s1 s2 z1 z2
  have hmc := meet_covers (a := s0.data.toList) (b := s1.data.toList)
  have hmb := meet_both (a := s0.data.toList) (b := s1.data.toList) (c := s2.data.toList)
  have hms : (strOf (meetL s0.data.toList s1.data.toList).1).size ≤ 9223372036854775807 := by
    rw [strOf_size]
    unfold meetL
    split
    · rw [len_size]; exact z1
    · split
      · rw [len_size]; exact z0
      · simp
  have HAM := covers_h (w := w) s0 (strOf (meetL s0.data.toList s1.data.toList).1) z0 hms
  have HBM := covers_h (w := w) s1 (strOf (meetL s0.data.toList s1.data.toList).1) z1 hms
  have HMC := covers_h (w := w) (strOf (meetL s0.data.toList s1.data.toList).1) s2 hms z2
  rw [strOf_list] at HAM HBM HMC
  generalize (meetL s0.data.toList s1.data.toList).2 = ok at *
  generalize (meetL s0.data.toList s1.data.toList).1 = m at *
  generalize strOf m = M at *
  generalize coversL s0.data.toList s2.data.toList = ac at *
  generalize coversL s1.data.toList s2.data.toList = bc at *
  cases hsh : shortB [s0, s1, s2] with
  | false =>
    rw [hsh] at HSH
    clear hsh hmc hmb
    go_enter Try.func4, Try.ntmps4
    go_wp2_with fail
    refine HSH.mono ?_
    rintro e w0 ⟨rfl, hw0⟩
    subst w0
    have hB0 : Below w.heap.size w (w.alloc (.cells #[.string s0, .string s1, .string s2] 9)) := (Below.refl _ _).alloc (Nat.le_refl _) _
    clear HSH
    have HC1 := HLV.out _ hB0
    go_wp2_with fail
    refine HC1.mono ?_
    rintro e w1 ⟨rfl, hB1⟩
    clear HC1
    go_wp2
    go_ret
    exact ⟨rfl, hB1⟩
  | true =>
    rw [hsh] at HSH
    clear hsh
    cases ok with
    | false =>
      clear hmc
      cases ac with
      | false =>
        clear hmb
        go_enter Try.func4, Try.ntmps4
        go_wp2_with fail
        refine HSH.mono ?_
        rintro e w0 ⟨rfl, hw0⟩
        subst w0
        have hB0 : Below w.heap.size w (w.alloc (.cells #[.string s0, .string s1, .string s2] 9)) := (Below.refl _ _).alloc (Nat.le_refl _) _
        clear HSH
        have HC1 := HAB.out _ hB0
        go_wp2_with fail
        refine HC1.mono ?_
        rintro e w1 ⟨rfl, hB1⟩
        clear HC1
        have HC2 := HBA.out _ hB1
        go_wp2_with fail
        refine HC2.mono ?_
        rintro e w2 ⟨rfl, hB2⟩
        clear HC2
        have HC3 := HAC.out _ hB2
        go_wp2_with fail
        refine HC3.mono ?_
        rintro e w3 ⟨rfl, hB3⟩
        clear HC3
        have HC4 := HLV.out _ hB3
        go_wp2_with fail
        refine HC4.mono ?_
        rintro e w4 ⟨rfl, hB4⟩
        clear HC4
        go_wp2
        go_ret
        exact ⟨rfl, hB4⟩
      | true =>
        cases bc with
        | false =>
          clear hmb
          go_enter Try.func4, Try.ntmps4
          go_wp2_with fail
          refine HSH.mono ?_
          rintro e w0 ⟨rfl, hw0⟩
          subst w0
          have hB0 : Below w.heap.size w (w.alloc (.cells #[.string s0, .string s1, .string s2] 9)) := (Below.refl _ _).alloc (Nat.le_refl _) _
          clear HSH
          have HC1 := HAB.out _ hB0
          go_wp2_with fail
          refine HC1.mono ?_
          rintro e w1 ⟨rfl, hB1⟩
          clear HC1
          have HC2 := HBA.out _ hB1
          go_wp2_with fail
          refine HC2.mono ?_
          rintro e w2 ⟨rfl, hB2⟩
          clear HC2
          have HC3 := HAC.out _ hB2
          go_wp2_with fail
          refine HC3.mono ?_
          rintro e w3 ⟨rfl, hB3⟩
          clear HC3
          have HC4 := HBC.out _ hB3
          go_wp2_with fail
          refine HC4.mono ?_
          rintro e w4 ⟨rfl, hB4⟩
          clear HC4
          have HC5 := HLV.out _ hB4
          go_wp2_with fail
          refine HC5.mono ?_
          rintro e w5 ⟨rfl, hB5⟩
          clear HC5
          go_wp2
          go_ret
          exact ⟨rfl, hB5⟩
        | true => exact absurd (hmb rfl rfl).1 (by simp)
    | true =>
      obtain ⟨h1, h2⟩ := hmc rfl
      rw [h1] at HAM
      rw [h2] at HBM
      clear hmc h1 h2
      cases ac with
      | false =>
        clear hmb
        go_enter Try.func4, Try.ntmps4
        go_wp2_with fail
        refine HSH.mono ?_
        rintro e w0 ⟨rfl, hw0⟩
        subst w0
        have hB0 : Below w.heap.size w (w.alloc (.cells #[.string s0, .string s1, .string s2] 9)) := (Below.refl _ _).alloc (Nat.le_refl _) _
        clear HSH
        have HC1 := HAB.out _ hB0
        go_wp2_with fail
        refine HC1.mono ?_
        rintro e w1 ⟨rfl, hB1⟩
        clear HC1
        have HC2 := HBA.out _ hB1
        go_wp2_with fail
        refine HC2.mono ?_
        rintro e w2 ⟨rfl, hB2⟩
        clear HC2
        have HC3 := HAM.out _ hB2
        go_wp2_with fail
        refine HC3.mono ?_
        rintro e w3 ⟨rfl, hB3⟩
        clear HC3
        have HC4 := HBM.out _ hB3
        go_wp2_with fail
        refine HC4.mono ?_
        rintro e w4 ⟨rfl, hB4⟩
        clear HC4
        have HC5 := HAC.out _ hB4
        go_wp2_with fail
        refine HC5.mono ?_
        rintro e w5 ⟨rfl, hB5⟩
        clear HC5
        have HC6 := HLV.out _ hB5
        go_wp2_with fail
        refine HC6.mono ?_
        rintro e w6 ⟨rfl, hB6⟩
        clear HC6
        go_wp2
        go_ret
        exact ⟨rfl, hB6⟩
      | true =>
        cases bc with
        | false =>
          clear hmb
          go_enter Try.func4, Try.ntmps4
          go_wp2_with fail
          refine HSH.mono ?_
          rintro e w0 ⟨rfl, hw0⟩
          subst w0
          have hB0 : Below w.heap.size w (w.alloc (.cells #[.string s0, .string s1, .string s2] 9)) := (Below.refl _ _).alloc (Nat.le_refl _) _
          clear HSH
          have HC1 := HAB.out _ hB0
          go_wp2_with fail
          refine HC1.mono ?_
          rintro e w1 ⟨rfl, hB1⟩
          clear HC1
          have HC2 := HBA.out _ hB1
          go_wp2_with fail
          refine HC2.mono ?_
          rintro e w2 ⟨rfl, hB2⟩
          clear HC2
          have HC3 := HAM.out _ hB2
          go_wp2_with fail
          refine HC3.mono ?_
          rintro e w3 ⟨rfl, hB3⟩
          clear HC3
          have HC4 := HBM.out _ hB3
          go_wp2_with fail
          refine HC4.mono ?_
          rintro e w4 ⟨rfl, hB4⟩
          clear HC4
          have HC5 := HAC.out _ hB4
          go_wp2_with fail
          refine HC5.mono ?_
          rintro e w5 ⟨rfl, hB5⟩
          clear HC5
          have HC6 := HBC.out _ hB5
          go_wp2_with fail
          refine HC6.mono ?_
          rintro e w6 ⟨rfl, hB6⟩
          clear HC6
          have HC7 := HLV.out _ hB6
          go_wp2_with fail
          refine HC7.mono ?_
          rintro e w7 ⟨rfl, hB7⟩
          clear HC7
          go_wp2
          go_ret
          exact ⟨rfl, hB7⟩
        | true =>
          have h3 := (hmb rfl rfl).2
          rw [h3] at HMC
          clear hmb h3
          go_enter Try.func4, Try.ntmps4
          go_wp2_with fail
          refine HSH.mono ?_
          rintro e w0 ⟨rfl, hw0⟩
          subst w0
          have hB0 : Below w.heap.size w (w.alloc (.cells #[.string s0, .string s1, .string s2] 9)) := (Below.refl _ _).alloc (Nat.le_refl _) _
          clear HSH
          have HC1 := HAB.out _ hB0
          go_wp2_with fail
          refine HC1.mono ?_
          rintro e w1 ⟨rfl, hB1⟩
          clear HC1
          have HC2 := HBA.out _ hB1
          go_wp2_with fail
          refine HC2.mono ?_
          rintro e w2 ⟨rfl, hB2⟩
          clear HC2
          have HC3 := HAM.out _ hB2
          go_wp2_with fail
          refine HC3.mono ?_
          rintro e w3 ⟨rfl, hB3⟩
          clear HC3
          have HC4 := HBM.out _ hB3
          go_wp2_with fail
          refine HC4.mono ?_
          rintro e w4 ⟨rfl, hB4⟩
          clear HC4
          have HC5 := HAC.out _ hB4
          go_wp2_with fail
          refine HC5.mono ?_
          rintro e w5 ⟨rfl, hB5⟩
          clear HC5
          have HC6 := HBC.out _ hB5
          go_wp2_with fail
          refine HC6.mono ?_
          rintro e w6 ⟨rfl, hB6⟩
          clear HC6
          have HC7 := HMC.out _ hB6
          go_wp2_with fail
          refine HC7.mono ?_
          rintro e w7 ⟨rfl, hB7⟩
          clear HC7
          have HC8 := HLV.out _ hB7
          go_wp2_with fail
          refine HC8.mono ?_
          rintro e w8 ⟨rfl, hB8⟩
          clear HC8
          go_wp2
          go_ret
          exact ⟨rfl, hB8⟩

set_option linter.unusedVariables false in
set_option maxRecDepth 100000 in
theorem lifted (os : Os) (started : os.Started) (H : Type) (enc : TypeId × Value → H) :
    ReturnsInHanded {} Try.checked os 4 .any (Rows.pathMeetsSpec.pre6 enc Try.prog Try.f4 Rows.pathMeetsRow.domain false) (Rows.pathMeetsSpec.post enc Try.prog Try.f4 false true false false) := by
  refine returnsInHanded_of_change_sized (C := Try.checked) own started (by kernel_rfl) Try.func4
    (ChangeSpec.witness6 (enc := enc) (C := Try.checked) false ⟨#[], #[.string ByteArray.empty, .string ByteArray.empty, .string ByteArray.empty], []⟩ 8 (by kernel_rfl) (by kernel_rfl) (by kernel_rfl) (by kernel_rfl)) ?_
  intro W base args ds gs before hval0 hW hcnd hsz0 _
  have hval : ∀ (j : Nat) t v, Try.f4.params[j]? = some t → args[j]? = some v → Value.okWide Try.prog W .any base t v := hval0
  have hsz : (DataW.weightsEach Try.prog (Try.f4.params.toList ++ Rows.pathMeetsSpec.plain.varTypes Try.prog) (ds ++ gs)).all (· ≤ reachBytes) = true := hsz0
  have hW' := hW
  obtain ⟨p, q, hA0, hV, rfl, hfz, hnd⟩ := hW
  have hA : DataW.TrodAll enc Try.prog W 0 (fun _ => true) true Try.f4.params.toList args.toList ds p := hA0
  rw [Try.params4] at hA hval hsz
  obtain ⟨v0, vs0, d0, ds0, p0, q0, hargs, rfl, rfl, h0, r0⟩ := trodAll_cons hA
  obtain ⟨v1, vs1, d1, ds1, p1, q1, rfl, rfl, rfl, h1, r1⟩ := trodAll_cons r0
  obtain ⟨v2, vs2, d2, ds2, p2, q2, rfl, rfl, rfl, h2, r2⟩ := trodAll_cons r1
  obtain ⟨rfl, rfl, rfl⟩ := trodAll_nil r2
  obtain rfl : args = #[v0, v1, v2] := by cases args; simp_all
  obtain ⟨rfl, rfl⟩ := trodVars_none hV
  obtain ⟨s0, rfl, rfl, rfl, w0⟩ := open_string Try.underlying9 (hval 0 9 v0 rfl rfl) h0
  have z0 : s0.size ≤ 9223372036854775807 := by
    have := sized_string hsz (j := 0) (t := 9) rfl rfl
    simp [reachBytes] at this
    omega
  obtain ⟨s1, rfl, rfl, rfl, w1⟩ := open_string Try.underlying9 (hval 1 9 v1 rfl rfl) h1
  have z1 : s1.size ≤ 9223372036854775807 := by
    have := sized_string hsz (j := 1) (t := 9) rfl rfl
    simp [reachBytes] at this
    omega
  obtain ⟨s2, rfl, rfl, rfl, w2⟩ := open_string Try.underlying9 (hval 2 9 v2 rfl rfl) h2
  have z2 : s2.size ≤ 9223372036854775807 := by
    have := sized_string hsz (j := 2) (t := 9) rfl rfl
    simp [reachBytes] at this
    omega
  clear hA0 hval0 hsz hsz0
  refine (walk s0 z0 s1 z1 s2 z2 W ).mono fun e W' ⟨he, bel⟩ => ?_
  subst he
  exact ⟨_, rfl, _, _, _, [], _, [], hW', trodAll_mk1 (shut_bool Try.underlying4 _), (trodAll_cons_mk (shut_string Try.underlying9 w0) (trodAll_cons_mk (shut_string Try.underlying9 w1) (trodAll_cons_mk (shut_string Try.underlying9 w2) trodAll_mk0))), rfl, bel.frame _, fun h => by cases h⟩

theorem over : Rows.pathMeetsRow.holds Try.pinned (OpenSpec.ofChange Rows.pathMeetsSpec) :=
  OpenClaim.holds_of_wide 4 Try.f4 rfl rfl rfl rfl rfl rfl rfl ⟨rfl, rfl, rfl, rfl, rfl⟩ rfl rfl rfl rfl rfl (by kernel_rfl) Try.func4 (by kernel_rfl)
    (of_decide_eq_true (by kernel_rfl)) (by unfold Func.isWrapper; first | (rw [if_pos (by decide +kernel)]; kernel_rfl) | (rw [if_neg (by decide +kernel)]; exact ⟨rfl, rfl⟩))
    (fun os started H enc _ => lifted os started H enc)

end Go.Proofs.Ytdcjnoknnfcogab.pathMeets
namespace Go.Proofs.Ytdcjnoknnfcogab
/-- The given statement. -/
theorem pathMeets_holds : Rows.PathMeetsSaid := pathMeets.over
#print axioms pathMeets_holds
end Go.Proofs.Ytdcjnoknnfcogab
