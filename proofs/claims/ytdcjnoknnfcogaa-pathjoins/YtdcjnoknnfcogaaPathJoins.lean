/- Proved: for every l and p, the law PathJoins returns true, l as it was. No condition: every input that can be read as data. -/
import Derived.Test.YtdcjnoknnfcogaaRows
import Derived.Test.YtdcjnoknnfcogaaH
import Derived.Test.YtdcjnoknnfcogaaJ
import Derived.Test.YtdcjnoknnfcogaaJS
import Derived.WalkKit
import Derived.ProofKit
import Derived.OpenShut
import Derived.ShutString
import Derived.ChangeOld
import Derived.SizedLaws
import Derived.Below
namespace Go.Proofs.Ytdcjnoknnfcogaa.pathJoins
open Go.ChangeShapes Go.WideShapes Go.ChangeAt Go.RowKit
open Go.ChangeMaps (open_string shut_string)
theorem own : ownKnob Try.prog.godebug = none := by kernel_rfl
theorem laidOut : laidOutB Try.prog = true := by kernel_rfl

set_option maxRecDepth 100000 in
set_option maxHeartbeats 2000000 in
theorem walk (a0 : Option Addr) (len0 cap0 : Nat) (ss0 : List ByteArray) (z0 : ∀ i (h : i < ss0.length), (ss0[i]).size ≤ 9223372036854775807) (s1 : ByteArray) (z1 : s1.size ≤ 9223372036854775807) (w : World) (w0 : Ss w a0 len0 cap0 ss0) :
    Calls Try.prog 4 #[.slice a0 len0 cap0, .string s1] w fun e w' => e = .returned (.bool true) ∧ Below w.heap.size w w' := by
  have HLV := lives_h (w := w)
  have hlm : len0 ≤ 9223372036854775807 := Nat.le_trans w0.2.1 w0.2.2.1
  by_cases h100 : 100 < len0
  · have hi : (100 : Int) < (len0 : Int) := by omega
    clear w0
    go_enter Try.func4, Try.ntmps4
    have hB0 : Below w.heap.size w w := Below.refl _ _
    have HC1 := HLV.out _ hB0
    go_wp2_with fail
    refine HC1.mono ?_
    rintro e w1 ⟨rfl, hB1⟩
    clear HC1
    go_wp2
    go_ret
    exact ⟨rfl, hB1⟩
  have hi : ¬ (100 : Int) < (len0 : Int) := by omega
  have HSL := short_any a0 len0 cap0 ss0 w w0 z0
  cases hsl : shortB ss0 with
  | false =>
    rw [hsl] at HSL
    clear hsl w0
    go_enter Try.func4, Try.ntmps4
    go_wp2_with fail
    refine HSL.mono ?_
    rintro e w0 ⟨rfl, hw0⟩
    subst w0
    have hB0 : Below w.heap.size w w := Below.refl _ _
    have HC1 := HLV.out _ hB0
    go_wp2_with fail
    refine HC1.mono ?_
    rintro e w1 ⟨rfl, hB1⟩
    clear HC1
    go_wp2
    go_ret
    exact ⟨rfl, hB1⟩
  | true =>
    rw [hsl] at HSL
    have HSH := short1 s1 w z1
    cases hsh : shortB [s1] with
    | false =>
      rw [hsh] at HSH
      clear hsl hsh w0
      go_enter Try.func4, Try.ntmps4
      go_wp2_with fail
      refine HSL.mono ?_
      rintro e w0 ⟨rfl, hw0⟩
      subst w0
      go_wp2_with fail
      refine HSH.mono ?_
      rintro e w0 ⟨rfl, hw0⟩
      subst w0
      have hB0 : Below w.heap.size w (w.alloc (.cells #[.string s1] 9)) := (Below.refl _ _).alloc (Nat.le_refl _) _
      have HC1 := HLV.out _ hB0
      go_wp2_with fail
      refine HC1.mono ?_
      rintro e w1 ⟨rfl, hB1⟩
      clear HC1
      go_wp2
      go_ret
      exact ⟨rfl, hB1⟩
    | true =>
      rw [hsh] at HSH
      obtain ⟨ts, hts⟩ : ∃ ts : List (List UInt8), ss0.map (fun s => s.data.toList) = ts := ⟨_, rfl⟩
      have hss : ts.map strOf = ss0 := by rw [← hts, List.map_map, show (strOf ∘ fun s : ByteArray => s.data.toList) = id from rfl, List.map_id]
      have hsz : ∀ x ∈ ts, x.length ≤ 2000 := by
        intro x hx
        rw [← hts] at hx
        obtain ⟨y, hy, rfl⟩ := List.mem_map.1 hx
        rw [len_size]
        unfold shortB at hsl
        rw [List.all_eq_true] at hsl
        simpa using hsl y hy
      have w0' : Ss w a0 len0 cap0 (ts.map strOf) := by rw [hss]; exact w0
      have HJ : Hid (∀ W, Below w.heap.size w W → Calls Try.prog 22 #[.slice a0 len0 cap0] W fun e w' => e = .returned (.tuple #[.string (strOf (joinL ts).1), .int .i64 ((joinL ts).2 : Int)]) ∧ Below w.heap.size w w') := by
        intro W hW
        refine (join_any sjoin a0 len0 cap0 ts W (w0'.on hW) hsz (by omega)).mono ?_
        rintro e w' ⟨rfl, hb⟩
        exact ⟨rfl, hW.trans (hb.mono hW.size)⟩
      have HRJ : Hid (∀ W, Below w.heap.size w W → Calls Try.prog 23 #[.slice a0 len0 cap0] W fun e w' => e = .returned (.tuple #[.string (strOf (joinL ts).1), .int .i64 ((joinL ts).2 : Int)]) ∧ Below w.heap.size w w') := by
        intro W hW
        refine (rjoin_any a0 len0 cap0 ts W (w0'.on hW) hsz (by omega)).mono ?_
        rintro e w' ⟨rfl, rfl⟩
        exact ⟨rfl, hW⟩
      have HPP := parts_h (w := w) s1 z1
      have HG := good_h (w := w) s1 z1
      have HJP : Hid (∀ la lc W, Below w.heap.size w W → Ss W la (partsL s1.data.toList).length lc ((partsL s1.data.toList).map strOf) → Calls Try.prog 22 #[.slice la (partsL s1.data.toList).length lc] W fun e w' => e = .returned (.tuple #[.string (strOf (joinL (partsL s1.data.toList)).1), .int .i64 ((joinL (partsL s1.data.toList)).2 : Int)]) ∧ Below w.heap.size w w') := by
        intro la lc W hW hS
        refine (join_any sjoin la _ lc _ W hS ?_ ?_).mono ?_
        · intro x hx
          unfold partsL at hx
          split at hx
          · rename_i hg
            have h1 := cut_sizes _ _ hx
            have h2 := good_size hg
            rw [len_size] at h1
            omega
          · simp at hx
        · unfold partsL
          split
          · rename_i hg
            have h1 := cut_count s1.data.toList
            have h2 := good_size hg
            rw [len_size] at h1
            omega
          · simp
        · rintro e w' ⟨rfl, hb⟩
          exact ⟨rfl, hW.trans (hb.mono hW.size)⟩
      have hjy := join_parts s1.data.toList
      have hjn := join_none s1.data.toList
      generalize joinL ts = jr at HJ HRJ
      obtain ⟨jl, je⟩ := jr
      generalize strOf (jl, je).1 = J at HJ HRJ
      cases hg : goodL s1.data.toList with
      | true =>
        rw [hjy hg, strOf_of] at HJP
        rw [hg] at HG
        generalize (partsL s1.data.toList).map strOf = ps at HPP HJP
        generalize (partsL s1.data.toList).length = N at HPP HJP
        clear hg hjy hjn hsl hsh w0 w0' hss hsz hts z0 z1
        go_enter Try.func4, Try.ntmps4
        go_wp2_with fail
        refine HSL.mono ?_
        rintro e w0 ⟨rfl, hw0⟩
        subst w0
        go_wp2_with fail
        refine HSH.mono ?_
        rintro e w0 ⟨rfl, hw0⟩
        subst w0
        have hB0 : Below w.heap.size w (w.alloc (.cells #[.string s1] 9)) := (Below.refl _ _).alloc (Nat.le_refl _) _
        have HC1 := HJ.out _ hB0
        go_wp2_with fail
        refine HC1.mono ?_
        rintro e w1 ⟨rfl, hB1⟩
        clear HC1
        have HC2 := HRJ.out _ hB1
        go_wp2_with fail
        refine HC2.mono ?_
        rintro e w2 ⟨rfl, hB2⟩
        clear HC2
        have HC3 := HPP.out _ hB2
        go_wp2_with fail
        refine HC3.mono ?_
        rintro e w3 ⟨la, lc, rfl, hs3, hB3⟩
        have HC4 := HJP.out la lc _ hB3 hs3
        clear HC3 hs3
        go_wp2_with fail
        refine HC4.mono ?_
        rintro e w4 ⟨rfl, hB4⟩
        clear HC4
        have HC5 := HG.out _ hB4
        go_wp2_with fail
        refine HC5.mono ?_
        rintro e w5 ⟨rfl, hB5⟩
        clear HC5
        have HC6 := HLV.out _ hB5
        go_wp2_with fail
        refine HC6.mono ?_
        rintro e w6 ⟨rfl, hB6⟩
        clear HC6
        go_wp2
        go_ret
        exact ⟨rfl, hB6⟩
      | false =>
        rw [hjn hg, show strOf (([] : List UInt8), 1).1 = ⟨#[]⟩ from rfl] at HJP
        rw [hg] at HG
        generalize (partsL s1.data.toList).map strOf = ps at HPP HJP
        generalize (partsL s1.data.toList).length = N at HPP HJP
        clear hg hjy hjn hsl hsh w0 w0' hss hsz hts z0 z1
        go_enter Try.func4, Try.ntmps4
        go_wp2_with fail
        refine HSL.mono ?_
        rintro e w0 ⟨rfl, hw0⟩
        subst w0
        go_wp2_with fail
        refine HSH.mono ?_
        rintro e w0 ⟨rfl, hw0⟩
        subst w0
        have hB0 : Below w.heap.size w (w.alloc (.cells #[.string s1] 9)) := (Below.refl _ _).alloc (Nat.le_refl _) _
        have HC1 := HJ.out _ hB0
        go_wp2_with fail
        refine HC1.mono ?_
        rintro e w1 ⟨rfl, hB1⟩
        clear HC1
        have HC2 := HRJ.out _ hB1
        go_wp2_with fail
        refine HC2.mono ?_
        rintro e w2 ⟨rfl, hB2⟩
        clear HC2
        have HC3 := HPP.out _ hB2
        go_wp2_with fail
        refine HC3.mono ?_
        rintro e w3 ⟨la, lc, rfl, hs3, hB3⟩
        have HC4 := HJP.out la lc _ hB3 hs3
        clear HC3 hs3
        go_wp2_with fail
        refine HC4.mono ?_
        rintro e w4 ⟨rfl, hB4⟩
        clear HC4
        have HC5 := HG.out _ hB4
        go_wp2_with fail
        refine HC5.mono ?_
        rintro e w5 ⟨rfl, hB5⟩
        clear HC5
        have HC6 := HLV.out _ hB5
        go_wp2_with fail
        refine HC6.mono ?_
        rintro e w6 ⟨rfl, hB6⟩
        clear HC6
        go_wp2
        go_ret
        exact ⟨rfl, hB6⟩

set_option linter.unusedVariables false in
set_option maxRecDepth 100000 in
theorem lifted (os : Os) (started : os.Started) (H : Type) (enc : TypeId × Value → H) :
    ReturnsInHanded {} Try.checked os 4 .any (Rows.pathJoinsSpec.pre6 enc Try.prog Try.f4 Rows.pathJoinsRow.domain false) (Rows.pathJoinsSpec.post enc Try.prog Try.f4 false true false false) := by
  refine returnsInHanded_of_change_sized (C := Try.checked) own started (by kernel_rfl) Try.func4
    (ChangeSpec.witness6 (enc := enc) (C := Try.checked) false ⟨#[], #[.slice none 0 0, .string ByteArray.empty], []⟩ 8 (by kernel_rfl) (by kernel_rfl) (by kernel_rfl) (by kernel_rfl)) ?_
  intro W base args ds gs before hval0 hW hcnd hsz0 _
  have hval : ∀ (j : Nat) t v, Try.f4.params[j]? = some t → args[j]? = some v → Value.okWide Try.prog W .any base t v := hval0
  have hsz : (DataW.weightsEach Try.prog (Try.f4.params.toList ++ Rows.pathJoinsSpec.plain.varTypes Try.prog) (ds ++ gs)).all (· ≤ reachBytes) = true := hsz0
  have hW' := hW
  obtain ⟨p, q, hA0, hV, rfl, hfz, hnd⟩ := hW
  have hA : DataW.TrodAll enc Try.prog W 0 (fun _ => true) true Try.f4.params.toList args.toList ds p := hA0
  rw [Try.params4] at hA hval hsz
  obtain ⟨v0, vs0, d0, ds0, p0, q0, hargs, rfl, rfl, h0, r0⟩ := trodAll_cons hA
  obtain ⟨v1, vs1, d1, ds1, p1, q1, rfl, rfl, rfl, h1, r1⟩ := trodAll_cons r0
  obtain ⟨rfl, rfl, rfl⟩ := trodAll_nil r1
  obtain rfl : args = #[v0, v1] := by cases args; simp_all
  obtain ⟨rfl, rfl⟩ := trodVars_none hV
  have k0 := h0
  have lt0 : ∀ x ∈ p0, x.block < W.heap.size := by obtain ⟨m, hm⟩ := k0; exact DataW.trod_lt m _ _ _ hm
  obtain ⟨a0, len0, cap0, rfl⟩ := okWide_slice Try.underlying26 (hval 0 26 v0 rfl rfl)
  obtain ⟨ss0, w0, z0⟩ : ∃ ss, Ss W a0 len0 cap0 ss ∧ ∀ i (h : i < ss.length), (ss[i]).size ≤ 9223372036854775807 := by
    obtain ⟨fuel, hf⟩ := h0
    exact strs_of (j := 0) (by simpa [Value.cells] using hf) hsz rfl rfl
  obtain ⟨s1, rfl, rfl, rfl, w1⟩ := open_string Try.underlying9 (hval 1 9 v1 rfl rfl) h1
  have z1 : s1.size ≤ 9223372036854775807 := by
    have := sized_string hsz (j := 1) (t := 9) rfl rfl
    simp [reachBytes] at this
    omega
  clear hA0 hval0 hsz hsz0
  refine (walk a0 len0 cap0 ss0 z0 s1 z1 W w0).mono fun e W' ⟨he, bel⟩ => ?_
  subst he
  exact ⟨_, rfl, _, _, _, [], _, [], hW', trodAll_mk1 (shut_bool Try.underlying4 _), (trodAll_cons_mk (Below.trod laidOut (by kernel_rfl) (of_decide_eq_true (by kernel_rfl)) k0 bel lt0) (trodAll_cons_mk (shut_string Try.underlying9 w1) trodAll_mk0)), rfl, bel.frame _, fun h => by cases h⟩

theorem over : Rows.pathJoinsRow.holds Try.pinned (OpenSpec.ofChange Rows.pathJoinsSpec) :=
  OpenClaim.holds_of_wide 4 Try.f4 rfl rfl rfl rfl rfl rfl rfl ⟨rfl, rfl, rfl, rfl, rfl⟩ rfl rfl rfl rfl rfl (by kernel_rfl) Try.func4 (by kernel_rfl)
    (of_decide_eq_true (by kernel_rfl)) (by unfold Func.isWrapper; first | (rw [if_pos (by decide +kernel)]; kernel_rfl) | (rw [if_neg (by decide +kernel)]; exact ⟨rfl, rfl⟩))
    (fun os started H enc _ => lifted os started H enc)

end Go.Proofs.Ytdcjnoknnfcogaa.pathJoins
namespace Go.Proofs.Ytdcjnoknnfcogaa
/-- The given statement. -/
theorem pathJoins_holds : Rows.PathJoinsSaid := pathJoins.over
#print axioms pathJoins_holds
end Go.Proofs.Ytdcjnoknnfcogaa
