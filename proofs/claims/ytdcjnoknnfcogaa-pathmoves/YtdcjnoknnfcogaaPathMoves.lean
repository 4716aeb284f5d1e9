/- Proved: for every p, from and to, the law PathMoves returns true. No condition: every input that can be read as data. -/
import Derived.Test.YtdcjnoknnfcogaaRows
import Derived.Test.YtdcjnoknnfcogaaH
import Derived.Test.YtdcjnoknnfcogaaRC
import Derived.WalkKit
import Derived.ProofKit
import Derived.OpenShut
import Derived.ShutString
import Derived.ChangeOld
import Derived.SizedLaws
import Derived.Below
namespace Go.Proofs.Ytdcjnoknnfcogaa.pathMoves
open Go.ChangeShapes Go.WideShapes Go.ChangeAt Go.RowKit
open Go.ChangeMaps (open_string shut_string)
theorem own : ownKnob Try.prog.godebug = none := by kernel_rfl
theorem laidOut : laidOutB Try.prog = true := by kernel_rfl

set_option maxRecDepth 100000 in
set_option maxHeartbeats 2000000 in
theorem walk (s0 : ByteArray) (z0 : s0.size ≤ 9223372036854775807) (s1 : ByteArray) (z1 : s1.size ≤ 9223372036854775807) (s2 : ByteArray) (z2 : s2.size ≤ 9223372036854775807) (w : World)  :
    Calls Try.prog 6 #[.string s0, .string s1, .string s2] w fun e w' => e = .returned (.bool true) ∧ Below w.heap.size w w' := by
  have HSH := short3 s0 s1 s2 w z0 z1 z2
  have HLV := lives_h (w := w)
  have HM := moved_h (w := w) s0 s1 s2 z0 z1 z2
  have HRM : Hid (∀ W, Below w.heap.size w W → Calls Try.prog 29 #[.string s0, .string s1, .string s2] W fun e w' => e = .returned (.tuple #[.string (strOf (movedL s0.data.toList s1.data.toList s2.data.toList).1), .int .i64 ((movedL s0.data.toList s1.data.toList s2.data.toList).2 : Int)]) ∧ Below w.heap.size w w') := later fun W => rmoved_any s0 s1 s2 W z0 z1 z2
  generalize (movedL s0.data.toList s1.data.toList s2.data.toList).2 = er at *
  generalize strOf (movedL s0.data.toList s1.data.toList s2.data.toList).1 = M at *
  cases hsh : shortB [s0, s1, s2] with
  | false =>
    rw [hsh] at HSH
    clear hsh
    go_enter Try.func6, Try.ntmps6
    go_wp2_with fail
    refine HSH.mono ?_
    rintro e w0 ⟨rfl, hw0⟩
    subst w0
    have hB0 : Below w.heap.size w (w.alloc (.cells #[.string s0, .string s1, .string s2] 9)) := (Below.refl _ _).alloc (Nat.le_refl _) _
    clear HSH
    have HC1 := HLV.out _ hB0
    go_wp2_with fail
    refine HC1.mono ?_
    rintro e w1 ⟨rfl, hB1⟩
    clear HC1
    go_wp2
    go_ret
    exact ⟨rfl, hB1⟩
  | true =>
    rw [hsh] at HSH
    clear hsh
    go_enter Try.func6, Try.ntmps6
    go_wp2_with fail
    refine HSH.mono ?_
    rintro e w0 ⟨rfl, hw0⟩
    subst w0
    have hB0 : Below w.heap.size w (w.alloc (.cells #[.string s0, .string s1, .string s2] 9)) := (Below.refl _ _).alloc (Nat.le_refl _) _
    clear HSH
    have HC1 := HM.out _ hB0
    go_wp2_with fail
    refine HC1.mono ?_
    rintro e w1 ⟨rfl, hB1⟩
    clear HC1
    have HC2 := HRM.out _ hB1
    go_wp2_with fail
    refine HC2.mono ?_
    rintro e w2 ⟨rfl, hB2⟩
    clear HC2
    have HC3 := HLV.out _ hB2
    go_wp2_with fail
    refine HC3.mono ?_
    rintro e w3 ⟨rfl, hB3⟩
    clear HC3
    go_wp2
    go_ret
    exact ⟨rfl, hB3⟩

set_option linter.unusedVariables false in
set_option maxRecDepth 100000 in
theorem lifted (os : Os) (started : os.Started) (H : Type) (enc : TypeId × Value → H) :
    ReturnsInHanded {} Try.checked os 6 .any (Rows.pathMovesSpec.pre6 enc Try.prog Try.f6 Rows.pathMovesRow.domain false) (Rows.pathMovesSpec.post enc Try.prog Try.f6 false true false false) := by
  refine returnsInHanded_of_change_sized (C := Try.checked) own started (by kernel_rfl) Try.func6
    (ChangeSpec.witness6 (enc := enc) (C := Try.checked) false ⟨#[], #[.string ByteArray.empty, .string ByteArray.empty, .string ByteArray.empty], []⟩ 8 (by kernel_rfl) (by kernel_rfl) (by kernel_rfl) (by kernel_rfl)) ?_
  intro W base args ds gs before hval0 hW hcnd hsz0 _
  have hval : ∀ (j : Nat) t v, Try.f6.params[j]? = some t → args[j]? = some v → Value.okWide Try.prog W .any base t v := hval0
  have hsz : (DataW.weightsEach Try.prog (Try.f6.params.toList ++ Rows.pathMovesSpec.plain.varTypes Try.prog) (ds ++ gs)).all (· ≤ reachBytes) = true := hsz0
  have hW' := hW
  obtain ⟨p, q, hA0, hV, rfl, hfz, hnd⟩ := hW
  have hA : DataW.TrodAll enc Try.prog W 0 (fun _ => true) true Try.f6.params.toList args.toList ds p := hA0
  rw [Try.params6] at hA hval hsz
  obtain ⟨v0, vs0, d0, ds0, p0, q0, hargs, rfl, rfl, h0, r0⟩ := trodAll_cons hA
  obtain ⟨v1, vs1, d1, ds1, p1, q1, rfl, rfl, rfl, h1, r1⟩ := trodAll_cons r0
  obtain ⟨v2, vs2, d2, ds2, p2, q2, rfl, rfl, rfl, h2, r2⟩ := trodAll_cons r1
  obtain ⟨rfl, rfl, rfl⟩ := trodAll_nil r2
  obtain rfl : args = #[v0, v1, v2] := by cases args; simp_all
  obtain ⟨rfl, rfl⟩ := trodVars_none hV
  obtain ⟨s0, rfl, rfl, rfl, w0⟩ := open_string Try.underlying9 (hval 0 9 v0 rfl rfl) h0
  have z0 : s0.size ≤ 9223372036854775807 := by
    have := sized_string hsz (j := 0) (t := 9) rfl rfl
    simp [reachBytes] at this
    omega
  obtain ⟨s1, rfl, rfl, rfl, w1⟩ := open_string Try.underlying9 (hval 1 9 v1 rfl rfl) h1
  have z1 : s1.size ≤ 9223372036854775807 := by
    have := sized_string hsz (j := 1) (t := 9) rfl rfl
    simp [reachBytes] at this
    omega
  obtain ⟨s2, rfl, rfl, rfl, w2⟩ := open_string Try.underlying9 (hval 2 9 v2 rfl rfl) h2
  have z2 : s2.size ≤ 9223372036854775807 := by
    have := sized_string hsz (j := 2) (t := 9) rfl rfl
    simp [reachBytes] at this
    omega
  clear hA0 hval0 hsz hsz0
  refine (walk s0 z0 s1 z1 s2 z2 W ).mono fun e W' ⟨he, bel⟩ => ?_
  subst he
  exact ⟨_, rfl, _, _, _, [], _, [], hW', trodAll_mk1 (shut_bool Try.underlying4 _), (trodAll_cons_mk (shut_string Try.underlying9 w0) (trodAll_cons_mk (shut_string Try.underlying9 w1) (trodAll_cons_mk (shut_string Try.underlying9 w2) trodAll_mk0))), rfl, bel.frame _, fun h => by cases h⟩

theorem over : Rows.pathMovesRow.holds Try.pinned (OpenSpec.ofChange Rows.pathMovesSpec) :=
  OpenClaim.holds_of_wide 6 Try.f6 rfl rfl rfl rfl rfl rfl rfl ⟨rfl, rfl, rfl, rfl, rfl⟩ rfl rfl rfl rfl rfl (by kernel_rfl) Try.func6 (by kernel_rfl)
    (of_decide_eq_true (by kernel_rfl)) (by unfold Func.isWrapper; first | (rw [if_pos (by decide +kernel)]; kernel_rfl) | (rw [if_neg (by decide +kernel)]; exact ⟨rfl, rfl⟩))
    (fun os started H enc _ => lifted os started H enc)

end Go.Proofs.Ytdcjnoknnfcogaa.pathMoves
namespace Go.Proofs.Ytdcjnoknnfcogaa
/-- The given statement. -/
theorem pathMoves_holds : Rows.PathMovesSaid := pathMoves.over
#print axioms pathMoves_holds
end Go.Proofs.Ytdcjnoknnfcogaa
