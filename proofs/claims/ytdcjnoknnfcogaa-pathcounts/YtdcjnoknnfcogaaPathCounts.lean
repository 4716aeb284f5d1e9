/- Proved: for every p, the law PathCounts returns true. No condition: every input that can be read as data. -/
import Derived.Test.YtdcjnoknnfcogaaRows
import Derived.Test.YtdcjnoknnfcogaaH
import Derived.Test.YtdcjnoknnfcogaaDA
import Derived.WalkKit
import Derived.ProofKit
import Derived.OpenShut
import Derived.ShutString
import Derived.ChangeOld
import Derived.SizedLaws
import Derived.Below
namespace Go.Proofs.Ytdcjnoknnfcogaa.pathCounts
open Go.ChangeShapes Go.WideShapes Go.ChangeAt Go.RowKit
open Go.ChangeMaps (open_string shut_string)
theorem own : ownKnob Try.prog.godebug = none := by kernel_rfl
theorem laidOut : laidOutB Try.prog = true := by kernel_rfl

set_option maxRecDepth 100000 in
set_option maxHeartbeats 2000000 in
theorem walk (s0 : ByteArray) (z0 : s0.size ≤ 9223372036854775807) (w : World)  :
    Calls Try.prog 8 #[.string s0] w fun e w' => e = .returned (.bool true) ∧ Below w.heap.size w w' := by
  have HSH := short1 s0 w z0
  have HLV := lives_h (w := w)
  have HG := good_h (w := w) s0 z0
  cases hsh : shortB [s0] with
  | false =>
    rw [hsh] at HSH
    clear hsh
    go_enter Try.func8, Try.ntmps8
    go_wp2_with fail
    refine HSH.mono ?_
    rintro e w0 ⟨rfl, hw0⟩
    subst w0
    have hB0 : Below w.heap.size w (w.alloc (.cells #[.string s0] 9)) := (Below.refl _ _).alloc (Nat.le_refl _) _
    clear HSH
    have HC1 := HLV.out _ hB0
    go_wp2_with fail
    refine HC1.mono ?_
    rintro e w1 ⟨rfl, hB1⟩
    clear HC1
    go_wp2
    go_ret
    exact ⟨rfl, hB1⟩
  | true =>
    rw [hsh] at HSH
    clear hsh
    cases hg : goodL s0.data.toList with
    | false =>
      rw [hg] at HG
      clear hg
      go_enter Try.func8, Try.ntmps8
      go_wp2_with fail
      refine HSH.mono ?_
      rintro e w0 ⟨rfl, hw0⟩
      subst w0
      have hB0 : Below w.heap.size w (w.alloc (.cells #[.string s0] 9)) := (Below.refl _ _).alloc (Nat.le_refl _) _
      clear HSH
      have HC1 := HG.out _ hB0
      go_wp2_with fail
      refine HC1.mono ?_
      rintro e w1 ⟨rfl, hB1⟩
      clear HC1
      have HC2 := HLV.out _ hB1
      go_wp2_with fail
      refine HC2.mono ?_
      rintro e w2 ⟨rfl, hB2⟩
      clear HC2
      go_wp2
      go_ret
      exact ⟨rfl, hB2⟩
    | true =>
      rw [hg] at HG
      obtain ⟨N, hN⟩ : ∃ N, (cutL s0.data.toList).length = N := ⟨_, rfl⟩
      have hN33 : N ≤ 33 := by
        have := cut_count s0.data.toList
        have h32 := good_size hg
        rw [len_size] at this
        omega
      have HPP := parts_h (w := w) s0 z0
      rw [parts_good hg, hN] at HPP
      -- what a round wants
      have HQ : Hid (∀ k : Nat, k ≤ N → ∃ Q : ByteArray, Q = strOf (glueL ((cutL s0.data.toList).take k)) ∧ (∀ W, Below w.heap.size w W → Calls Try.prog 26 #[.string Q, .string s0] W fun e w' => e = .returned (.bool true) ∧ Below w.heap.size w w') ∧ (k = 0 → Q = ⟨#[]⟩) ∧ (0 < k → Q.toList.isEmpty = false ∧ ¬ Q.toList = [] ∧ ∃ Q', Q' = strOf (glueL ((cutL s0.data.toList).take (k - 1))) ∧ ∀ W, Below w.heap.size w W → Calls Try.prog 20 #[.string Q] W fun e w' => e = .returned (.string Q') ∧ Below w.heap.size w w')) := by
        intro k hk
        have hsz : (strOf (glueL ((cutL s0.data.toList).take k))).size ≤ 9223372036854775807 := by
          rw [strOf_size]
          by_cases h0 : k = 0
          · subst h0; simp [glueL]
          · have := (good_iff.1 (glue_take_good hg k (by omega)).1).1; omega
        refine ⟨_, rfl, ?_, ?_, ?_⟩
        · have := (covers_h (w := w) (strOf (glueL ((cutL s0.data.toList).take k))) s0 hsz z0).out
          rw [strOf_list, glue_take_covers hg k] at this
          exact this
        · rintro rfl; rfl
        · intro h0
          have hne : (strOf (glueL ((cutL s0.data.toList).take k))).data.toList ≠ [] := good_ne (glue_take_good hg k h0).1
          refine ⟨toList_nil hne, toList_ne hne, _, rfl, ?_⟩
          intro W hW
          have := above_any (strOf (glueL ((cutL s0.data.toList).take k))) W hsz
          rw [strOf_list, show k = (k - 1) + 1 by omega, above_take hg (k - 1) (by omega), show k - 1 + 1 = k by omega] at this
          refine this.mono ?_
          rintro e w' ⟨rfl, hb⟩
          exact ⟨rfl, hW.trans (hb.mono hW.size)⟩
      have HS0 : Hid (s0 = strOf (glueL ((cutL s0.data.toList).take N))) := by
        show _ = _
        rw [← hN, List.take_length, glue_cut, strOf_of]
      clear hg hN
      go_enter Try.func8, Try.ntmps8
      go_wp2_with fail
      refine HSH.mono ?_
      rintro e w0 ⟨rfl, hw0⟩
      subst w0
      have hB0 : Below w.heap.size w (w.alloc (.cells #[.string s0] 9)) := (Below.refl _ _).alloc (Nat.le_refl _) _
      clear HSH
      have HC1 := HG.out _ hB0
      go_wp2_with fail
      refine HC1.mono ?_
      rintro e w1 ⟨rfl, hB1⟩
      clear HC1
      go_wp2_with fail
      go_loopw [3, 4] (fun n q wr => ∃ k m : Nat, k + m = N ∧ n = .int .i64 (k : Int) ∧ q = .string (strOf (glueL ((cutL s0.data.toList).take m))) ∧ Below w.heap.size w wr) (fun n _ _ => 100 - (intOf n).toNat)
      case atStart => exact ⟨0, N, by omega, rfl, by rw [← HS0.out], hB1⟩
      case round =>
        obtain ⟨k, m, hkm, rfl, rfl, hB2⟩ := hrel
        obtain ⟨Q, hQ, hcov, hzero, hpos⟩ := HQ.out m (by omega)
        rw [← hQ]
        have HCV : Hid (∀ W, Below w.heap.size w W → Calls Try.prog 26 #[.string Q, .string s0] W fun e w' => e = .returned (.bool true) ∧ Below w.heap.size w w') := hcov
        have k40 : ¬ (40 : Int) < (k : Int) := by omega
        by_cases h0 : m = 0
        · subst h0
          obtain rfl := hzero rfl
          obtain rfl : k = N := by omega
          have hkk : (k : Int) + 1 = (k : Int) + 1 := rfl
          clear HQ hQ hcov hzero hpos hkk
          have HC3 := HCV.out _ hB2
          go_wp2_with fail
          refine HC3.mono ?_
          rintro e w3 ⟨rfl, hB3⟩
          clear HC3
          have HC4 := HPP.out _ hB3
          go_wp2_with fail
          refine HC4.mono ?_
          rintro e w4 ⟨la, lc, rfl, hss, hB4⟩
          clear HC4 hss
          have HC5 := HLV.out _ hB4
          go_wp2_with fail
          refine HC5.mono ?_
          rintro e w5 ⟨rfl, hB5⟩
          clear HC5
          go_wp2
          go_ret
          exact ⟨rfl, hB5⟩
        · obtain ⟨e1, e2, Q', hQ', hab⟩ := hpos (by omega)
          have HAB : Hid (∀ W, Below w.heap.size w W → Calls Try.prog 20 #[.string Q] W fun e w' => e = .returned (.string Q') ∧ Below w.heap.size w w') := hab
          have HQ' : Hid (Q' = strOf (glueL ((cutL s0.data.toList).take (m - 1)))) := hQ'
          clear HQ hQ hcov hzero hpos hab hQ'
          have HC3 := HCV.out _ hB2
          go_wp2_with fail
          refine HC3.mono ?_
          rintro e w3 ⟨rfl, hB3⟩
          clear HC3
          have HC4 := HAB.out _ hB3
          go_wp2_with fail
          refine HC4.mono ?_
          rintro e w4 ⟨rfl, hB4⟩
          clear HC4
          go_wp2
          go_roundw
          case rel => exact ⟨k + 1, m - 1, by omega, by go_num, by rw [HQ'.out], hB4⟩
          case measure => simp [intOf]; omega

set_option linter.unusedVariables false in
set_option maxRecDepth 100000 in
theorem lifted (os : Os) (started : os.Started) (H : Type) (enc : TypeId × Value → H) :
    ReturnsInHanded {} Try.checked os 8 .any (Rows.pathCountsSpec.pre6 enc Try.prog Try.f8 Rows.pathCountsRow.domain false) (Rows.pathCountsSpec.post enc Try.prog Try.f8 false true false false) := by
  refine returnsInHanded_of_change_sized (C := Try.checked) own started (by kernel_rfl) Try.func8
    (ChangeSpec.witness6 (enc := enc) (C := Try.checked) false ⟨#[], #[.string ByteArray.empty], []⟩ 8 (by kernel_rfl) (by kernel_rfl) (by kernel_rfl) (by kernel_rfl)) ?_
  intro W base args ds gs before hval0 hW hcnd hsz0 _
  have hval : ∀ (j : Nat) t v, Try.f8.params[j]? = some t → args[j]? = some v → Value.okWide Try.prog W .any base t v := hval0
  have hsz : (DataW.weightsEach Try.prog (Try.f8.params.toList ++ Rows.pathCountsSpec.plain.varTypes Try.prog) (ds ++ gs)).all (· ≤ reachBytes) = true := hsz0
  have hW' := hW
  obtain ⟨p, q, hA0, hV, rfl, hfz, hnd⟩ := hW
  have hA : DataW.TrodAll enc Try.prog W 0 (fun _ => true) true Try.f8.params.toList args.toList ds p := hA0
  rw [Try.params8] at hA hval hsz
  obtain ⟨v0, vs0, d0, ds0, p0, q0, hargs, rfl, rfl, h0, r0⟩ := trodAll_cons hA
  obtain ⟨rfl, rfl, rfl⟩ := trodAll_nil r0
  obtain rfl : args = #[v0] := by cases args; simp_all
  obtain ⟨rfl, rfl⟩ := trodVars_none hV
  obtain ⟨s0, rfl, rfl, rfl, w0⟩ := open_string Try.underlying9 (hval 0 9 v0 rfl rfl) h0
  have z0 : s0.size ≤ 9223372036854775807 := by
    have := sized_string hsz (j := 0) (t := 9) rfl rfl
    simp [reachBytes] at this
    omega
  clear hA0 hval0 hsz hsz0
  refine (walk s0 z0 W ).mono fun e W' ⟨he, bel⟩ => ?_
  subst he
  exact ⟨_, rfl, _, _, _, [], _, [], hW', trodAll_mk1 (shut_bool Try.underlying4 _), (trodAll_cons_mk (shut_string Try.underlying9 w0) trodAll_mk0), rfl, bel.frame _, fun h => by cases h⟩

theorem over : Rows.pathCountsRow.holds Try.pinned (OpenSpec.ofChange Rows.pathCountsSpec) :=
  OpenClaim.holds_of_wide 8 Try.f8 rfl rfl rfl rfl rfl rfl rfl ⟨rfl, rfl, rfl, rfl, rfl⟩ rfl rfl rfl rfl rfl (by kernel_rfl) Try.func8 (by kernel_rfl)
    (of_decide_eq_true (by kernel_rfl)) (by unfold Func.isWrapper; first | (rw [if_pos (by decide +kernel)]; kernel_rfl) | (rw [if_neg (by decide +kernel)]; exact ⟨rfl, rfl⟩))
    (fun os started H enc _ => lifted os started H enc)

end Go.Proofs.Ytdcjnoknnfcogaa.pathCounts
namespace Go.Proofs.Ytdcjnoknnfcogaa
/-- The given statement. -/
theorem pathCounts_holds : Rows.PathCountsSaid := pathCounts.over
#print axioms pathCounts_holds
end Go.Proofs.Ytdcjnoknnfcogaa
