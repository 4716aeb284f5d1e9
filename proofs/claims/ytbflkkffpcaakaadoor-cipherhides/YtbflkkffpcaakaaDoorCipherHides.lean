/- Proved: for every key, nonce and text the law CipherHides returns true, what was handed in as it was; where the packages' tables begin as the program's text lays them. -/
import Derived.Test.YtbflkkffpcaakaaDoorWU
import Derived.Test.YtbflkkffpcaakaaDoorCards
import Derived.Test.YtbflkkffpcaakaaDoorTie
import Derived.WalkKit
import Derived.ProofKit
import Derived.OpenShut
import Derived.ShutString
import Derived.ChangeOld
import Derived.Below
import Derived.LaidMore
import Derived.Lay
import Derived.Stop.Joined
import Derived.SevenTiedAt
namespace Go.Proofs.YtbflkkffpcaakaaDoor.cipherHides
open Go.ChangeShapes Go.WideShapes Go.ChangeAt Go.WideMaps Go.WideElems Go.RowKit
open Go.ChangeMaps (open_string shut_string)

set_option maxRecDepth 100000 in
set_option maxHeartbeats 4000000 in
theorem walk (s0 : ByteArray) (z0 : s0.size ≤ 140737488351232) (s1 : ByteArray) (_z1 : s1.size ≤ 140737488351232) (s2 : ByteArray) (_z2 : s2.size ≤ 140737488351232) (w : World)  (hL : Laid w) :
    Calls Tryd.prog 5 #[.string s0, .string s1, .string s2] w fun e w' => e = .returned (.bool true) ∧ Below w.heap.size w w' := by
  have HLV : Hid (∀ V, Below w.heap.size w V → Calls Tryd.prog 11 #[] V fun e w' => e = .returned (.bool true) ∧ Below V.heap.size V w') := fun V hV => lives_any V (hL.below hV)
  have HSH : Hid (Calls Tryd.prog 15 #[.agg #[.string s0, .string s1, .string s2, .string ⟨#[]⟩]] w fun e w' => e = .returned (.bool (decide (∀ s ∈ [s0, s1, s2, ⟨#[]⟩], s.size ≤ 1000))) ∧ Below w.heap.size w w') := short_any [s0, s1, s2, ⟨#[]⟩] w rfl
  by_cases hsh : ∀ s ∈ [s0, s1, s2, (⟨#[]⟩ : ByteArray)], s.size ≤ 1000
  rotate_left
  · rw [decide_eq_false hsh] at HSH
    clear hsh hL z0
    go_enter Tryd.func5, Tryd.ntmps5
    go_wp2_with fail
    refine HSH.out.mono ?_
    rintro e V0 ⟨rfl, hb0⟩
    have HB0 : Hid (Below w.heap.size w V0) := hb0
    clear HSH hb0
    go_wp2_with fail
    have HLX := HLV.out V0 HB0.out
    go_wp2_with fail
    refine HLX.mono ?_
    rintro e VZ ⟨rfl, hbZ⟩
    have HZ : Hid (Below w.heap.size w VZ) := (HB0.out).trans (hbZ.mono (HB0.out).size)
    clear HLX hbZ
    go_wp2
    go_ret
    exact ⟨rfl, HZ.out⟩
  rw [decide_eq_true hsh] at HSH
  have z0' : s0.size ≤ 1000 := hsh s0 (by simp)
  have z1' : s1.size ≤ 1000 := hsh s1 (by simp)
  have z2' : s2.size ≤ 1000 := hsh s2 (by simp)
  have HL : Hid (∀ V, Below w.heap.size w V → Laid V) := fun V hV => hL.below hV
  clear hsh hL
  by_cases hr : s0.size = 32 ∧ s1.size = 12
  rotate_left
  · have HC : Hid (∀ V, Calls Tryd.prog 16 #[.string s0, .string s1, .string s2] V fun e w' => e = .returned (.tuple #[.string ByteArray.empty, .int .i64 1]) ∧ w' = V) := fun V => hide_bad s0 s1 s2 V hr z0
    have HY : Hid (∀ V, Calls Tryd.prog 13 #[.string s0, .string s1] V fun e w' => e = .returned (.bool false) ∧ w' = V) := fun V => right_no s0 s1 V hr z0
    clear hr
    go_enter Tryd.func5, Tryd.ntmps5
    go_wp2_with fail
    refine HSH.out.mono ?_
    rintro e V0 ⟨rfl, hb0⟩
    have HB0 : Hid (Below w.heap.size w V0) := hb0
    clear HSH hb0
    have HC0 := HC.out V0
    have HY0 := HY.out V0
    clear HC HY
    go_wp2_with fail
    refine HC0.mono ?_
    rintro e V ⟨rfl, hb⟩
    subst V
    clear HC0
    go_wp2_with fail
    refine HY0.mono ?_
    rintro e V ⟨rfl, hb⟩
    subst V
    clear HY0
    have HLX := HLV.out V0 HB0.out
    go_wp2_with fail
    refine HLX.mono ?_
    rintro e VZ ⟨rfl, hbZ⟩
    have HZ : Hid (Below w.heap.size w VZ) := (HB0.out).trans (hbZ.mono (HB0.out).size)
    clear HLX hbZ
    go_wp2
    go_ret
    exact ⟨rfl, HZ.out⟩
  obtain ⟨f, hf⟩ : ∃ f, firstL s0.data.toList s1.data.toList = f := ⟨_, rfl⟩
  obtain ⟨D, hD⟩ : ∃ D, strOf (hideL f 0 s2.data.toList) = D := ⟨_, rfl⟩
  have hDs : D.size = s2.size := by rw [← hD, strOf_size, hideL_len, lenL]
  have HC : Hid (∀ V, Below w.heap.size w V → Calls Tryd.prog 16 #[.string s0, .string s1, .string s2] V fun e w' => e = .returned (.tuple #[.string D, .int .i64 0]) ∧ Below V.heap.size V w') := fun V hV => by
    rw [← hD, ← hf]; exact hide_any s0 s1 s2 V hr.1 hr.2 (by omega) (HL.out V hV)
  have HA : Hid (∀ V, Below w.heap.size w V → Calls Tryd.prog 16 #[.string s0, .string s1, .string D] V fun e w' => e = .returned (.tuple #[.string s2, .int .i64 0]) ∧ Below V.heap.size V w') := fun V hV => by
    have h := hide_any s0 s1 D V hr.1 hr.2 (by omega) (HL.out V hV)
    have e1 : D.data.toList = hideL f 0 s2.data.toList := by rw [← hD, strOf_list]
    rw [hf, e1, hideL_back, show strOf s2.data.toList = s2 by apply ByteArray.ext; simp [strOf]] at h
    exact h
  have HR : Hid (∀ V, Calls Tryd.prog 17 #[.string s0, .string s1, .string s2] V fun e w' => e = .returned (.string D) ∧ Below V.heap.size V w') := fun V => by
    rw [← hD, ← hf]; exact rhide_any s0 s1 s2 V hr.1 hr.2 (by omega)
  have HY : Hid (∀ V, Calls Tryd.prog 13 #[.string s0, .string s1] V fun e w' => e = .returned (.bool true) ∧ w' = V) := fun V => right_yes s0 s1 V hr.1 hr.2
  have hoo : (D.toList == D.toList) = true := by simp
  have hss : (s2.toList == s2.toList) = true := by simp
  clear hD hf hDs hr
  go_enter Tryd.func5, Tryd.ntmps5
  go_wp2_with fail
  refine HSH.out.mono ?_
  rintro e V0 ⟨rfl, hb0⟩
  have HB0 : Hid (Below w.heap.size w V0) := hb0
  clear HSH hb0
  have HC0 := HC.out V0 HB0.out
  clear HC
  go_wp2_with fail
  refine HC0.mono ?_
  rintro e V1 ⟨rfl, hb1⟩
  have HB1 : Hid (Below w.heap.size w V1) := HB0.out.trans (hb1.mono HB0.out.size)
  have HY1 := HY.out V1
  clear HC0 hb1 HY
  go_wp2_with fail
  refine HY1.mono ?_
  rintro e V ⟨rfl, hb⟩
  subst V
  have HA1 := HA.out V1 HB1.out
  clear HY1 HA
  go_wp2_with fail
  refine HA1.mono ?_
  rintro e V2 ⟨rfl, hb2⟩
  have HB2 : Hid (Below w.heap.size w V2) := HB1.out.trans (hb2.mono HB1.out.size)
  have HR2 := HR.out V2
  clear HA1 hb2 HR
  go_wp2_with fail
  refine HR2.mono ?_
  rintro e V3 ⟨rfl, hb3⟩
  have HB3 : Hid (Below w.heap.size w V3) := HB2.out.trans (hb3.mono HB2.out.size)
  clear HR2 hb3
  have HLX := HLV.out V3 HB3.out
  go_wp2_with fail
  refine HLX.mono ?_
  rintro e VZ ⟨rfl, hbZ⟩
  have HZ : Hid (Below w.heap.size w VZ) := (HB3.out).trans (hbZ.mono (HB3.out).size)
  clear HLX hbZ
  go_wp2
  go_ret
  exact ⟨rfl, HZ.out⟩

set_option linter.unusedVariables false in
set_option maxRecDepth 100000 in
theorem lifted (os : Os) (started : os.Started) (H : Type) (enc : TypeId × Value → H) :
    ReturnsInHanded {} Tryd.checked os 5 .any (fun w args => (Rows.cipherHidesSpec.pre enc Tryd.prog Tryd.f5 [] false w args ∧ laidMetH Tryd.prog Rows.cipherHidesRow.laid w) ∧ sizedMet enc Tryd.prog Tryd.f5 (OpenSpec.ofChange Rows.cipherHidesSpec) false w args) (Rows.cipherHidesSpec.post enc Tryd.prog Tryd.f5 false true false false) := by
  refine returnsInHanded_of_change_and (C := Tryd.checked) (X := fun w _ => laidMetH Tryd.prog Rows.cipherHidesRow.laid w) (fun _ _ _ hh h => h.of_heap hh) own started (by kernel_rfl) Tryd.func5
    (ChangeSpec.witness_shaped (enc := enc) (C := Tryd.checked) (os := os) (X := fun w _ => laidMetH Tryd.prog Rows.cipherHidesRow.laid w) false (World.laidAll Tryd.prog os Rows.cipherHidesRow.laid) #[.string ByteArray.empty, .string ByteArray.empty, .string ByteArray.empty] 8 (World.laidAll_os _ _ _)
      (World.shaped_of_ZipB (by kernel_rfl) (by kernel_rfl)) (by kernel_rfl) (by kernel_rfl) (by kernel_rfl)
      (by rw [MakeChecks.laidMetH_plain _ _ _ (by kernel_rfl)]; exact laidMet_laidAll _ (by kernel_rfl) (by kernel_rfl))) ?_
  intro W base args ds gs before hval0 hW _ hsz0 hL _
  have hval : ∀ (j : Nat) t v, Tryd.f5.params[j]? = some t → args[j]? = some v → Value.okWide Tryd.prog W .any base t v := hval0
  have hsz : (DataW.weightsEach Tryd.prog (Tryd.f5.params.toList ++ Rows.cipherHidesSpec.plain.varTypes Tryd.prog) (ds ++ gs)).all (· ≤ reachBytes) = true := hsz0
  have hW' := hW
  obtain ⟨p, q, hA0, hV, rfl, hfz, hnd⟩ := hW
  have hA : DataW.TrodAll enc Tryd.prog W 0 (fun _ => true) true Tryd.f5.params.toList args.toList ds p := hA0
  rw [Tryd.params5] at hA hval hsz
  obtain ⟨v0, vs0, d0, ds0, p0, q0, hargs, rfl, rfl, h0, r0⟩ := trodAll_cons hA
  obtain ⟨v1, vs1, d1, ds1, p1, q1, rfl, rfl, rfl, h1, r1⟩ := trodAll_cons r0
  obtain ⟨v2, vs2, d2, ds2, p2, q2, rfl, rfl, rfl, h2, r2⟩ := trodAll_cons r1
  obtain ⟨rfl, rfl, rfl⟩ := trodAll_nil r2
  obtain rfl : args = #[v0, v1, v2] := by cases args; simp_all
  obtain ⟨rfl, rfl⟩ := trodVars_none hV
  obtain ⟨s0, rfl, rfl, rfl, w0⟩ := open_string Tryd.underlying9 (hval 0 9 v0 rfl rfl) h0
  have z0 : s0.size ≤ 140737488351232 := by
    have := sized_string hsz (j := 0) (t := 9) rfl rfl
    simpa [reachBytes] using this
  obtain ⟨s1, rfl, rfl, rfl, w1⟩ := open_string Tryd.underlying9 (hval 1 9 v1 rfl rfl) h1
  have z1 : s1.size ≤ 140737488351232 := by
    have := sized_string hsz (j := 1) (t := 9) rfl rfl
    simpa [reachBytes] using this
  obtain ⟨s2, rfl, rfl, rfl, w2⟩ := open_string Tryd.underlying9 (hval 2 9 v2 rfl rfl) h2
  have z2 : s2.size ≤ 140737488351232 := by
    have := sized_string hsz (j := 2) (t := 9) rfl rfl
    simpa [reachBytes] using this
  clear hA0 hval0 hsz hsz0
  refine (walk s0 z0 s1 z1 s2 z2 W  (of_laid hL)).mono fun e W' ⟨he, bel⟩ => ?_
  subst he
  exact ⟨_, rfl, _, _, _, [], _, [], hW', trodAll_mk1 (shut_bool Tryd.underlying4 _), (trodAll_cons_mk (shut_string Tryd.underlying9 w0) (trodAll_cons_mk (shut_string Tryd.underlying9 w1) (trodAll_cons_mk (shut_string Tryd.underlying9 w2) trodAll_mk0))), rfl, bel.frame _, fun h => by cases h⟩

theorem over : Rows.cipherHidesRow.holds Tryd.pinned (OpenSpec.ofChange Rows.cipherHidesSpec) :=
  OpenClaim.holds_of_wide 5 Tryd.f5 rfl rfl rfl rfl rfl rfl rfl ⟨rfl, rfl, rfl, rfl, rfl⟩ rfl rfl rfl rfl rfl (by kernel_rfl) Tryd.func5 (by kernel_rfl)
    (of_decide_eq_true (by kernel_rfl)) (by unfold Func.isWrapper; first | (rw [if_pos (by decide +kernel)]; kernel_rfl) | (rw [if_neg (by decide +kernel)]; exact ⟨rfl, rfl⟩))
    (fun os started H enc _ => lifted os started H enc)

end Go.Proofs.YtbflkkffpcaakaaDoor.cipherHides
namespace Go.Proofs.YtbflkkffpcaakaaDoor
/-- The given statement. -/
theorem cipherHides_holds : Rows.CipherHidesCardSaid :=
  Claim7.holds_tied_plain_at .later [] [.data, .data, .data] true (true, "5ccb16b7e0cb60b80580de2bab98876517c1699cf189ae00d24e90f07a20ea85") false
    cipherHides.over (fun _ h => by cases h) (by kernel_rfl) (fun _ h => by cases h) cipherHides_row_tie rfl ⟨rfl, rfl⟩ (by kernel_rfl) rfl
    (fun f fn hf hfn => by
      obtain rfl : f = 5 := Option.some.inj ((show Tryd.prog.funcNamed "strongroom/strongroomlaw19.CipherHides" = some 5 by kernel_rfl).symm.trans hf) |>.symm
      obtain rfl : fn = Tryd.f5 := (Option.some.inj (Tryd.func5.symm.trans hfn)).symm
      exact ⟨by kernel_rfl, fun j t ht => by
        rw [Tryd.params5] at ht
        rcases j with _ | _ | _ | j
        · obtain rfl : t = 9 := by simpa using ht.symm
          exact (show Tryd.prog.wantsStandIn 9 = false by kernel_rfl)
        · obtain rfl : t = 9 := by simpa using ht.symm
          exact (show Tryd.prog.wantsStandIn 9 = false by kernel_rfl)
        · obtain rfl : t = 9 := by simpa using ht.symm
          exact (show Tryd.prog.wantsStandIn 9 = false by kernel_rfl)
        · simp at ht
      ⟩)
    (by kernel_rfl)
#print axioms cipherHides_holds
end Go.Proofs.YtbflkkffpcaakaaDoor
