/- Proved: for every s, the law PathTells returns true. No condition: every input that can be read as data. -/
import Derived.Test.YtdcjnoknnfcogaaRows
import Derived.Test.YtdcjnoknnfcogaaHR
import Derived.WalkKit
import Derived.ProofKit
import Derived.OpenShut
import Derived.ShutString
import Derived.ChangeOld
import Derived.SizedLaws
import Derived.Below
namespace Go.Proofs.Ytdcjnoknnfcogaa.pathTells
open Go.ChangeShapes Go.WideShapes Go.ChangeAt Go.RowKit
open Go.ChangeMaps (open_string shut_string)
theorem own : ownKnob Try.prog.godebug = none := by kernel_rfl
theorem laidOut : laidOutB Try.prog = true := by kernel_rfl

set_option maxRecDepth 100000 in
set_option maxHeartbeats 2000000 in
theorem walk (s0 : ByteArray) (z0 : s0.size ≤ 9223372036854775807) (w : World)  :
    Calls Try.prog 3 #[.string s0] w fun e w' => e = .returned (.bool true) ∧ Below w.heap.size w w' := by
  have HSH := short1 s0 w z0
  have HLV := lives_h (w := w)
  have HN := name_h (w := w) s0 z0
  have HRN := rname_h (w := w) s0 z0
  have HG := good_h (w := w) s0 z0
  have HRG := rgood_h (w := w) s0 z0
  have HP := place_h (w := w) s0 z0
  have HRP := rplace_h (w := w) s0 z0
  have HT := parts_h (w := w) s0 z0
  have HRT := rparts_h (w := w) s0 z0
  have HA := above_h (w := w) s0 z0
  have HRA := rabove_h (w := w) s0 z0
  have HSA : Hid (∀ (a1 a2 : Option Addr) (c1 c2 : Nat) (W : World), Below w.heap.size w W → Ss W a1 (partsL s0.data.toList).length c1 ((partsL s0.data.toList).map strOf) → Ss W a2 (partsL s0.data.toList).length c2 ((partsL s0.data.toList).map strOf) → Calls Try.prog 17 #[.slice a1 (partsL s0.data.toList).length c1, .slice a2 (partsL s0.data.toList).length c2] W fun e w' => e = .returned (.bool true) ∧ Below w.heap.size w w') := by
    intro a1 a2 c1 c2 W hW h1 h2
    refine (same_any a1 a2 _ c1 c2 _ W h1 h2).mono ?_
    rintro e w' ⟨rfl, hb⟩
    exact ⟨rfl, hW.trans (hb.mono hW.size)⟩
  generalize (partsL s0.data.toList).map strOf = ss at *
  generalize (partsL s0.data.toList).length = N at *
  generalize strOf (aboveL s0.data.toList) = A at *
  generalize nameL s0.data.toList = bn at *
  generalize goodL s0.data.toList = bg at *
  generalize placeL s0.data.toList = bp at *
  cases hsh : shortB [s0] with
  | false =>
    rw [hsh] at HSH
    clear hsh
    go_enter Try.func3, Try.ntmps3
    go_wp2_with fail
    refine HSH.mono ?_
    rintro e w0 ⟨rfl, hw0⟩
    subst w0
    have hB0 : Below w.heap.size w (w.alloc (.cells #[.string s0] 9)) := (Below.refl _ _).alloc (Nat.le_refl _) _
    clear HSH
    have HC1 := HLV.out _ hB0
    go_wp2_with fail
    refine HC1.mono ?_
    rintro e w1 ⟨rfl, hB1⟩
    clear HC1
    go_wp2
    go_ret
    exact ⟨rfl, hB1⟩
  | true =>
    rw [hsh] at HSH
    clear hsh
    go_enter Try.func3, Try.ntmps3
    go_wp2_with fail
    refine HSH.mono ?_
    rintro e w0 ⟨rfl, hw0⟩
    subst w0
    have hB0 : Below w.heap.size w (w.alloc (.cells #[.string s0] 9)) := (Below.refl _ _).alloc (Nat.le_refl _) _
    clear HSH
    have HC1 := HN.out _ hB0
    go_wp2_with fail
    refine HC1.mono ?_
    rintro e w1 ⟨rfl, hB1⟩
    clear HC1
    have HC2 := HRN.out _ hB1
    go_wp2_with fail
    refine HC2.mono ?_
    rintro e w2 ⟨rfl, hB2⟩
    clear HC2
    have HC3 := HG.out _ hB2
    go_wp2_with fail
    refine HC3.mono ?_
    rintro e w3 ⟨rfl, hB3⟩
    clear HC3
    have HC4 := HRG.out _ hB3
    go_wp2_with fail
    refine HC4.mono ?_
    rintro e w4 ⟨rfl, hB4⟩
    clear HC4
    have HC5 := HP.out _ hB4
    go_wp2_with fail
    refine HC5.mono ?_
    rintro e w5 ⟨rfl, hB5⟩
    clear HC5
    have HC6 := HRP.out _ hB5
    go_wp2_with fail
    refine HC6.mono ?_
    rintro e w6 ⟨rfl, hB6⟩
    clear HC6
    have HC7 := HT.out _ hB6
    go_wp2_with fail
    refine HC7.mono ?_
    rintro e w7 ⟨la, lc, rfl, hs7, hB7⟩
    clear HC7
    have HC8 := HRT.out _ hB7
    go_wp2_with fail
    refine HC8.mono ?_
    rintro e w8 ⟨lb, ld, rfl, hs8, hb78, hB8⟩
    have hs78 := hs7.on hb78
    clear HC8
    have HC9 := HSA.out la lb lc ld _ hB8 hs78 hs8
    clear hs7 hs8 hs78 hb78
    go_wp2_with fail
    refine HC9.mono ?_
    rintro e w9 ⟨rfl, hB9⟩
    clear HC9
    have HC10 := HA.out _ hB9
    go_wp2_with fail
    refine HC10.mono ?_
    rintro e w10 ⟨rfl, hB10⟩
    clear HC10
    have HC11 := HRA.out _ hB10
    go_wp2_with fail
    refine HC11.mono ?_
    rintro e w11 ⟨rfl, hB11⟩
    clear HC11
    have HC12 := HLV.out _ hB11
    go_wp2_with fail
    refine HC12.mono ?_
    rintro e w12 ⟨rfl, hB12⟩
    clear HC12
    go_wp2
    go_ret
    exact ⟨rfl, hB12⟩

set_option linter.unusedVariables false in
set_option maxRecDepth 100000 in
theorem lifted (os : Os) (started : os.Started) (H : Type) (enc : TypeId × Value → H) :
    ReturnsInHanded {} Try.checked os 3 .any (Rows.pathTellsSpec.pre6 enc Try.prog Try.f3 Rows.pathTellsRow.domain false) (Rows.pathTellsSpec.post enc Try.prog Try.f3 false true false false) := by
  refine returnsInHanded_of_change_sized (C := Try.checked) own started (by kernel_rfl) Try.func3
    (ChangeSpec.witness6 (enc := enc) (C := Try.checked) false ⟨#[], #[.string ByteArray.empty], []⟩ 8 (by kernel_rfl) (by kernel_rfl) (by kernel_rfl) (by kernel_rfl)) ?_
  intro W base args ds gs before hval0 hW hcnd hsz0 _
  have hval : ∀ (j : Nat) t v, Try.f3.params[j]? = some t → args[j]? = some v → Value.okWide Try.prog W .any base t v := hval0
  have hsz : (DataW.weightsEach Try.prog (Try.f3.params.toList ++ Rows.pathTellsSpec.plain.varTypes Try.prog) (ds ++ gs)).all (· ≤ reachBytes) = true := hsz0
  have hW' := hW
  obtain ⟨p, q, hA0, hV, rfl, hfz, hnd⟩ := hW
  have hA : DataW.TrodAll enc Try.prog W 0 (fun _ => true) true Try.f3.params.toList args.toList ds p := hA0
  rw [Try.params3] at hA hval hsz
  obtain ⟨v0, vs0, d0, ds0, p0, q0, hargs, rfl, rfl, h0, r0⟩ := trodAll_cons hA
  obtain ⟨rfl, rfl, rfl⟩ := trodAll_nil r0
  obtain rfl : args = #[v0] := by cases args; simp_all
  obtain ⟨rfl, rfl⟩ := trodVars_none hV
  obtain ⟨s0, rfl, rfl, rfl, w0⟩ := open_string Try.underlying9 (hval 0 9 v0 rfl rfl) h0
  have z0 : s0.size ≤ 9223372036854775807 := by
    have := sized_string hsz (j := 0) (t := 9) rfl rfl
    simp [reachBytes] at this
    omega
  clear hA0 hval0 hsz hsz0
  refine (walk s0 z0 W ).mono fun e W' ⟨he, bel⟩ => ?_
  subst he
  exact ⟨_, rfl, _, _, _, [], _, [], hW', trodAll_mk1 (shut_bool Try.underlying4 _), (trodAll_cons_mk (shut_string Try.underlying9 w0) trodAll_mk0), rfl, bel.frame _, fun h => by cases h⟩

theorem over : Rows.pathTellsRow.holds Try.pinned (OpenSpec.ofChange Rows.pathTellsSpec) :=
  OpenClaim.holds_of_wide 3 Try.f3 rfl rfl rfl rfl rfl rfl rfl ⟨rfl, rfl, rfl, rfl, rfl⟩ rfl rfl rfl rfl rfl (by kernel_rfl) Try.func3 (by kernel_rfl)
    (of_decide_eq_true (by kernel_rfl)) (by unfold Func.isWrapper; first | (rw [if_pos (by decide +kernel)]; kernel_rfl) | (rw [if_neg (by decide +kernel)]; exact ⟨rfl, rfl⟩))
    (fun os started H enc _ => lifted os started H enc)

end Go.Proofs.Ytdcjnoknnfcogaa.pathTells
namespace Go.Proofs.Ytdcjnoknnfcogaa
/-- The given statement. -/
theorem pathTells_holds : Rows.PathTellsSaid := pathTells.over
#print axioms pathTells_holds
end Go.Proofs.Ytdcjnoknnfcogaa
