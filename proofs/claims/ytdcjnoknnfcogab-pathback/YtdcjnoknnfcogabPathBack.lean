/- Proved: for every p, from and to, the law PathBack returns true. No condition: every input that can be read as data. -/
import Derived.Test.YtdcjnoknnfcogabRows
import Derived.Test.YtdcjnoknnfcogabH
import Derived.WalkKit
import Derived.ProofKit
import Derived.OpenShut
import Derived.ShutString
import Derived.ChangeOld
import Derived.SizedLaws
import Derived.Below
namespace Go.Proofs.Ytdcjnoknnfcogab.pathBack
open Go.ChangeShapes Go.WideShapes Go.ChangeAt Go.RowKit
open Go.ChangeMaps (open_string shut_string)
theorem own : ownKnob Try.prog.godebug = none := by kernel_rfl
theorem laidOut : laidOutB Try.prog = true := by kernel_rfl

set_option maxRecDepth 100000 in
set_option maxHeartbeats 2000000 in
theorem walk (s0 : ByteArray) (z0 : s0.size ≤ 9223372036854775807) (s1 : ByteArray) (z1 : s1.size ≤ 9223372036854775807) (s2 : ByteArray) (z2 : s2.size ≤ 9223372036854775807) (w : World)  :
    Calls Try.prog 3 #[.string s0, .string s1, .string s2] w fun e w' => e = .returned (.bool true) ∧ Below w.heap.size w w' := by
  have HSH := short3 s0 s1 s2 w z0 z1 z2
  have HLV := lives_h (w := w)
  have HM := moved_h (w := w) s0 s1 s2 z0 z1 z2
  cases hsh : shortB [s0, s1, s2] with
  | false =>
    rw [hsh] at HSH
    clear hsh
    go_enter Try.func3, Try.ntmps3
    go_wp2_with fail
    refine HSH.mono ?_
    rintro e w0 ⟨rfl, hw0⟩
    subst w0
    have hB0 : Below w.heap.size w (w.alloc (.cells #[.string s0, .string s1, .string s2] 9)) := (Below.refl _ _).alloc (Nat.le_refl _) _
    clear HSH
    have HC1 := HLV.out _ hB0
    go_wp2_with fail
    refine HC1.mono ?_
    rintro e w1 ⟨rfl, hB1⟩
    clear HC1
    go_wp2
    go_ret
    exact ⟨rfl, hB1⟩
  | true =>
    rw [hsh] at HSH
    clear hsh
    obtain ⟨q, er, hmv⟩ : ∃ q er, movedL s0.data.toList s1.data.toList s2.data.toList = (q, er) := ⟨_, _, rfl⟩
    rw [hmv] at HM
    by_cases her : er = 0
    · subst her
      obtain ⟨hback, hcov, hgq, hgp, hgf, hgt, hlen⟩ := moved_back hmv
      have hqs : (strOf q).size ≤ 9223372036854775807 := by rw [strOf_size]; have := (good_iff.1 hgq).1; omega
      have HMB := moved_h (w := w) (strOf q) s2 s1 hqs z2 z1
      have HCQ := covers_h (w := w) s2 (strOf q) z2 hqs
      have HGQ := good_h (w := w) (strOf q) hqs
      have HPQ := parts_h (w := w) (strOf q) hqs
      have HPT := parts_h (w := w) s2 z2
      have HPP := parts_h (w := w) s0 z0
      have HPF := parts_h (w := w) s1 z1
      rw [strOf_list] at HMB HCQ HGQ HPQ
      rw [hback, strOf_of] at HMB
      rw [hcov] at HCQ
      rw [hgq] at HGQ
      rw [parts_good hgq] at HPQ
      rw [parts_good hgt] at HPT
      rw [parts_good hgp] at HPP
      rw [parts_good hgf] at HPF
      have c1 := cut_count q
      have c2 := cut_count s0.data.toList
      have c3 := cut_count s1.data.toList
      have c4 := cut_count s2.data.toList
      have g1 := (good_iff.1 hgq).1
      have g2 := (good_iff.1 hgp).1
      have g3 := (good_iff.1 hgf).1
      have g4 := (good_iff.1 hgt).1
      generalize (cutL q).length = nq at *
      generalize (cutL s0.data.toList).length = np at *
      generalize (cutL s1.data.toList).length = nf at *
      generalize (cutL s2.data.toList).length = nt at *
      have b1 : nq ≤ 33 := by omega
      have b2 : np ≤ 33 := by omega
      have b3 : nf ≤ 33 := by omega
      have b4 : nt ≤ 33 := by omega
      have heq : (nq : Int) - (nt : Int) = (np : Int) - (nf : Int) := by omega
      generalize strOf q = Q at *
      clear hback hcov hgq hgp hgf hgt hmv hqs c1 c2 c3 c4 g1 g2 g3 g4 hlen
      go_enter Try.func3, Try.ntmps3
      go_wp2_with fail
      refine HSH.mono ?_
      rintro e w0 ⟨rfl, hw0⟩
      subst w0
      have hB0 : Below w.heap.size w (w.alloc (.cells #[.string s0, .string s1, .string s2] 9)) := (Below.refl _ _).alloc (Nat.le_refl _) _
      clear HSH
      have HC1 := HM.out _ hB0
      go_wp2_with fail
      refine HC1.mono ?_
      rintro e w1 ⟨rfl, hB1⟩
      clear HC1
      have HC2 := HMB.out _ hB1
      go_wp2_with fail
      refine HC2.mono ?_
      rintro e w2 ⟨rfl, hB2⟩
      clear HC2
      have HC3 := HCQ.out _ hB2
      go_wp2_with fail
      refine HC3.mono ?_
      rintro e w3 ⟨rfl, hB3⟩
      clear HC3
      have HC4 := HGQ.out _ hB3
      go_wp2_with fail
      refine HC4.mono ?_
      rintro e w4 ⟨rfl, hB4⟩
      clear HC4
      have HC5 := HPQ.out _ hB4
      go_wp2_with fail
      refine HC5.mono ?_
      rintro e w5 ⟨la5, lc5, rfl, hss, hB5⟩
      clear HC5 hss
      have HC6 := HPT.out _ hB5
      go_wp2_with fail
      refine HC6.mono ?_
      rintro e w6 ⟨la6, lc6, rfl, hss, hB6⟩
      clear HC6 hss
      have HC7 := HPP.out _ hB6
      go_wp2_with fail
      refine HC7.mono ?_
      rintro e w7 ⟨la7, lc7, rfl, hss, hB7⟩
      clear HC7 hss
      have HC8 := HPF.out _ hB7
      go_wp2_with fail
      refine HC8.mono ?_
      rintro e w8 ⟨la8, lc8, rfl, hss, hB8⟩
      clear HC8 hss
      have HC9 := HLV.out _ hB8
      go_wp2_with fail
      refine HC9.mono ?_
      rintro e w9 ⟨rfl, hB9⟩
      clear HC9
      go_wp2
      go_ret
      exact ⟨rfl, hB9⟩
    · obtain rfl := moved_bad hmv her
      have he1 : ((er : Int) == 0) = false := by simp; omega
      have he2 : ¬ (er : Int) = 0 := by omega
      rw [show strOf (([] : List UInt8), er).1 = ⟨#[]⟩ from rfl] at HM
      clear hmv her
      go_enter Try.func3, Try.ntmps3
      go_wp2_with fail
      refine HSH.mono ?_
      rintro e w0 ⟨rfl, hw0⟩
      subst w0
      have hB0 : Below w.heap.size w (w.alloc (.cells #[.string s0, .string s1, .string s2] 9)) := (Below.refl _ _).alloc (Nat.le_refl _) _
      clear HSH
      have HC1 := HM.out _ hB0
      go_wp2_with fail
      refine HC1.mono ?_
      rintro e w1 ⟨rfl, hB1⟩
      clear HC1
      have HC2 := HLV.out _ hB1
      go_wp2_with fail
      refine HC2.mono ?_
      rintro e w2 ⟨rfl, hB2⟩
      clear HC2
      go_wp2
      go_ret
      exact ⟨rfl, hB2⟩

set_option linter.unusedVariables false in
set_option maxRecDepth 100000 in
theorem lifted (os : Os) (started : os.Started) (H : Type) (enc : TypeId × Value → H) :
    ReturnsInHanded {} Try.checked os 3 .any (Rows.pathBackSpec.pre6 enc Try.prog Try.f3 Rows.pathBackRow.domain false) (Rows.pathBackSpec.post enc Try.prog Try.f3 false true false false) := by
  refine returnsInHanded_of_change_sized (C := Try.checked) own started (by kernel_rfl) Try.func3
    (ChangeSpec.witness6 (enc := enc) (C := Try.checked) false ⟨#[], #[.string ByteArray.empty, .string ByteArray.empty, .string ByteArray.empty], []⟩ 8 (by kernel_rfl) (by kernel_rfl) (by kernel_rfl) (by kernel_rfl)) ?_
  intro W base args ds gs before hval0 hW hcnd hsz0 _
  have hval : ∀ (j : Nat) t v, Try.f3.params[j]? = some t → args[j]? = some v → Value.okWide Try.prog W .any base t v := hval0
  have hsz : (DataW.weightsEach Try.prog (Try.f3.params.toList ++ Rows.pathBackSpec.plain.varTypes Try.prog) (ds ++ gs)).all (· ≤ reachBytes) = true := hsz0
  have hW' := hW
  obtain ⟨p, q, hA0, hV, rfl, hfz, hnd⟩ := hW
  have hA : DataW.TrodAll enc Try.prog W 0 (fun _ => true) true Try.f3.params.toList args.toList ds p := hA0
  rw [Try.params3] at hA hval hsz
  obtain ⟨v0, vs0, d0, ds0, p0, q0, hargs, rfl, rfl, h0, r0⟩ := trodAll_cons hA
  obtain ⟨v1, vs1, d1, ds1, p1, q1, rfl, rfl, rfl, h1, r1⟩ := trodAll_cons r0
  obtain ⟨v2, vs2, d2, ds2, p2, q2, rfl, rfl, rfl, h2, r2⟩ := trodAll_cons r1
  obtain ⟨rfl, rfl, rfl⟩ := trodAll_nil r2
  obtain rfl : args = #[v0, v1, v2] := by cases args; simp_all
  obtain ⟨rfl, rfl⟩ := trodVars_none hV
  obtain ⟨s0, rfl, rfl, rfl, w0⟩ := open_string Try.underlying9 (hval 0 9 v0 rfl rfl) h0
  have z0 : s0.size ≤ 9223372036854775807 := by
    have := sized_string hsz (j := 0) (t := 9) rfl rfl
    simp [reachBytes] at this
    omega
  obtain ⟨s1, rfl, rfl, rfl, w1⟩ := open_string Try.underlying9 (hval 1 9 v1 rfl rfl) h1
  have z1 : s1.size ≤ 9223372036854775807 := by
    have := sized_string hsz (j := 1) (t := 9) rfl rfl
    simp [reachBytes] at this
    omega
  obtain ⟨s2, rfl, rfl, rfl, w2⟩ := open_string Try.underlying9 (hval 2 9 v2 rfl rfl) h2
  have z2 : s2.size ≤ 9223372036854775807 := by
    have := sized_string hsz (j := 2) (t := 9) rfl rfl
    simp [reachBytes] at this
    omega
  clear hA0 hval0 hsz hsz0
  refine (walk s0 z0 s1 z1 s2 z2 W ).mono fun e W' ⟨he, bel⟩ => ?_
  subst he
  exact ⟨_, rfl, _, _, _, [], _, [], hW', trodAll_mk1 (shut_bool Try.underlying4 _), (trodAll_cons_mk (shut_string Try.underlying9 w0) (trodAll_cons_mk (shut_string Try.underlying9 w1) (trodAll_cons_mk (shut_string Try.underlying9 w2) trodAll_mk0))), rfl, bel.frame _, fun h => by cases h⟩

theorem over : Rows.pathBackRow.holds Try.pinned (OpenSpec.ofChange Rows.pathBackSpec) :=
  OpenClaim.holds_of_wide 3 Try.f3 rfl rfl rfl rfl rfl rfl rfl ⟨rfl, rfl, rfl, rfl, rfl⟩ rfl rfl rfl rfl rfl (by kernel_rfl) Try.func3 (by kernel_rfl)
    (of_decide_eq_true (by kernel_rfl)) (by unfold Func.isWrapper; first | (rw [if_pos (by decide +kernel)]; kernel_rfl) | (rw [if_neg (by decide +kernel)]; exact ⟨rfl, rfl⟩))
    (fun os started H enc _ => lifted os started H enc)

end Go.Proofs.Ytdcjnoknnfcogab.pathBack
namespace Go.Proofs.Ytdcjnoknnfcogab
/-- The given statement. -/
theorem pathBack_holds : Rows.PathBackSaid := pathBack.over
#print axioms pathBack_holds
end Go.Proofs.Ytdcjnoknnfcogab
