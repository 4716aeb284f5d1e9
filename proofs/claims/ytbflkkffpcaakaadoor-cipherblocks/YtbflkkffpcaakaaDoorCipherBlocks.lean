/- Proved: for every key, every nonce and every number the law CipherBlocks returns true, what was handed in as it was; where the packages' tables begin as the program's text lays them. -/
import Derived.Test.YtbflkkffpcaakaaDoorWU
import Derived.Test.YtbflkkffpcaakaaDoorCards
import Derived.Test.YtbflkkffpcaakaaDoorTie
import Derived.WalkKit
import Derived.ProofKit
import Derived.OpenShut
import Derived.ShutString
import Derived.ChangeOld
import Derived.Below
import Derived.LaidMore
import Derived.Lay
import Derived.Stop.Joined
import Derived.SevenTiedAt
namespace Go.Proofs.YtbflkkffpcaakaaDoor.cipherBlocks
open Go.ChangeShapes Go.WideShapes Go.ChangeAt Go.WideMaps Go.WideElems Go.RowKit
open Go.ChangeMaps (open_string shut_string)

set_option maxRecDepth 100000 in
set_option maxHeartbeats 4000000 in
theorem walk (s0 : ByteArray) (z0 : s0.size ≤ 140737488351232) (s1 : ByteArray) (z1 : s1.size ≤ 140737488351232) (x2 : Nat) (z2 : x2 < 4294967296) (w : World)  (hL : Laid w) :
    Calls Tryd.prog 4 #[.string s0, .string s1, .int .u32 (x2 : Int)] w fun e w' => e = .returned (.bool true) ∧ Below w.heap.size w w' := by
  have HLV : Hid (∀ V, Below w.heap.size w V → Calls Tryd.prog 11 #[] V fun e w' => e = .returned (.bool true) ∧ Below V.heap.size V w') := fun V hV => lives_any V (hL.below hV)
  by_cases hz : 1000 < s0.size ∨ 1000 < s1.size
  · obtain ⟨N0, hN0⟩ : ∃ N, s0.size = N := ⟨_, rfl⟩
    obtain ⟨N1, hN1⟩ : ∃ N, s1.size = N := ⟨_, rfl⟩
    rw [hN0] at hz z0
    rw [hN1] at hz z1
    have HB0 : Hid (Below w.heap.size w w) := Below.refl _ _
    by_cases h0 : 1000 < N0
    · have k0 : (1000 : Int) < (N0 : Int) := by omega
      clear hz hL h0
      go_enter Tryd.func4, Tryd.ntmps4
      go_wp2_with fail
      have HLX := HLV.out w HB0.out
      go_wp2_with fail
      refine HLX.mono ?_
      rintro e VZ ⟨rfl, hbZ⟩
      have HZ : Hid (Below w.heap.size w VZ) := (HB0.out).trans (hbZ.mono (HB0.out).size)
      clear HLX hbZ
      go_wp2
      go_ret
      exact ⟨rfl, HZ.out⟩
    · have k0 : ¬ (1000 : Int) < (N0 : Int) := by omega
      have k1 : (1000 : Int) < (N1 : Int) := by omega
      clear hz hL h0
      go_enter Tryd.func4, Tryd.ntmps4
      go_wp2_with fail
      have HLX := HLV.out w HB0.out
      go_wp2_with fail
      refine HLX.mono ?_
      rintro e VZ ⟨rfl, hbZ⟩
      have HZ : Hid (Below w.heap.size w VZ) := (HB0.out).trans (hbZ.mono (HB0.out).size)
      clear HLX hbZ
      go_wp2
      go_ret
      exact ⟨rfl, HZ.out⟩
  · have k0 : ¬ (1000 : Int) < (s0.size : Int) := by omega
    have k1 : ¬ (1000 : Int) < (s1.size : Int) := by omega
    by_cases hr : s0.size = 32 ∧ s1.size = 12
    · have HC := cblock_any s0 s1 x2 w hr.1 hr.2 z2 hL
      obtain ⟨D, hD⟩ : ∃ D, strOf (blockL ((firstL s0.data.toList s1.data.toList).set 12 x2)) = D := ⟨_, rfl⟩
      have HR : Hid (∀ V, Calls Tryd.prog 14 #[.string s0, .string s1, .int .u32 (x2 : Int)] V fun e w' => e = .returned (.string D) ∧ Below V.heap.size V w') := fun V => by rw [← hD]; exact rblock_any s0 s1 x2 V hr.1 hr.2 z2
      have HY := fun V => right_yes s0 s1 V hr.1 hr.2
      rw [hD] at HC
      have hdd : (D.toList == D.toList) = true := by simp
      clear hz hL hD hr
      go_enter Tryd.func4, Tryd.ntmps4
      go_wp2_with fail
      refine HC.mono ?_
      rintro e V ⟨rfl, hb⟩
      have HB : Hid (Below w.heap.size w V) := hb
      have HY2 := HY V
      clear HC hb HY
      go_wp2_with fail
      refine HY2.mono ?_
      rintro e V' ⟨rfl, hV'⟩
      subst V'
      have HR2 := HR.out V
      clear HY2 HR
      go_wp2_with fail
      refine HR2.mono ?_
      rintro e V2 ⟨rfl, hb2⟩
      have HB2 : Hid (Below w.heap.size w V2) := HB.out.trans (hb2.mono HB.out.size)
      clear HR2 hb2
      have HLX := HLV.out V2 HB2.out
      go_wp2_with fail
      refine HLX.mono ?_
      rintro e VZ ⟨rfl, hbZ⟩
      have HZ : Hid (Below w.heap.size w VZ) := (HB2.out).trans (hbZ.mono (HB2.out).size)
      clear HLX hbZ
      go_wp2
      go_ret
      exact ⟨rfl, HZ.out⟩
    · have HC := block_bad s0 s1 x2 w hr z0
      have HY := right_no s0 s1 w hr z0
      have HB : Hid (Below w.heap.size w w) := Below.refl _ _
      clear hz hL hr
      go_enter Tryd.func4, Tryd.ntmps4
      go_wp2_with fail
      refine HC.mono ?_
      rintro e V ⟨rfl, hb⟩
      subst V
      clear HC
      go_wp2_with fail
      refine HY.mono ?_
      rintro e V ⟨rfl, hb⟩
      subst V
      clear HY
      have HLX := HLV.out w HB.out
      go_wp2_with fail
      refine HLX.mono ?_
      rintro e VZ ⟨rfl, hbZ⟩
      have HZ : Hid (Below w.heap.size w VZ) := (HB.out).trans (hbZ.mono (HB.out).size)
      clear HLX hbZ
      go_wp2
      go_ret
      exact ⟨rfl, HZ.out⟩

set_option linter.unusedVariables false in
set_option maxRecDepth 100000 in
theorem lifted (os : Os) (started : os.Started) (H : Type) (enc : TypeId × Value → H) :
    ReturnsInHanded {} Tryd.checked os 4 .any (fun w args => (Rows.cipherBlocksSpec.pre enc Tryd.prog Tryd.f4 [] false w args ∧ laidMetH Tryd.prog Rows.cipherBlocksRow.laid w) ∧ sizedMet enc Tryd.prog Tryd.f4 (OpenSpec.ofChange Rows.cipherBlocksSpec) false w args) (Rows.cipherBlocksSpec.post enc Tryd.prog Tryd.f4 false true false false) := by
  refine returnsInHanded_of_change_and (C := Tryd.checked) (X := fun w _ => laidMetH Tryd.prog Rows.cipherBlocksRow.laid w) (fun _ _ _ hh h => h.of_heap hh) own started (by kernel_rfl) Tryd.func4
    (ChangeSpec.witness_shaped (enc := enc) (C := Tryd.checked) (os := os) (X := fun w _ => laidMetH Tryd.prog Rows.cipherBlocksRow.laid w) false (World.laidAll Tryd.prog os Rows.cipherBlocksRow.laid) #[.string ByteArray.empty, .string ByteArray.empty, .int .u32 0] 8 (World.laidAll_os _ _ _)
      (World.shaped_of_ZipB (by kernel_rfl) (by kernel_rfl)) (by kernel_rfl) (by kernel_rfl) (by kernel_rfl)
      (by rw [MakeChecks.laidMetH_plain _ _ _ (by kernel_rfl)]; exact laidMet_laidAll _ (by kernel_rfl) (by kernel_rfl))) ?_
  intro W base args ds gs before hval0 hW _ hsz0 hL _
  have hval : ∀ (j : Nat) t v, Tryd.f4.params[j]? = some t → args[j]? = some v → Value.okWide Tryd.prog W .any base t v := hval0
  have hsz : (DataW.weightsEach Tryd.prog (Tryd.f4.params.toList ++ Rows.cipherBlocksSpec.plain.varTypes Tryd.prog) (ds ++ gs)).all (· ≤ reachBytes) = true := hsz0
  have hW' := hW
  obtain ⟨p, q, hA0, hV, rfl, hfz, hnd⟩ := hW
  have hA : DataW.TrodAll enc Tryd.prog W 0 (fun _ => true) true Tryd.f4.params.toList args.toList ds p := hA0
  rw [Tryd.params4] at hA hval hsz
  obtain ⟨v0, vs0, d0, ds0, p0, q0, hargs, rfl, rfl, h0, r0⟩ := trodAll_cons hA
  obtain ⟨v1, vs1, d1, ds1, p1, q1, rfl, rfl, rfl, h1, r1⟩ := trodAll_cons r0
  obtain ⟨v2, vs2, d2, ds2, p2, q2, rfl, rfl, rfl, h2, r2⟩ := trodAll_cons r1
  obtain ⟨rfl, rfl, rfl⟩ := trodAll_nil r2
  obtain rfl : args = #[v0, v1, v2] := by cases args; simp_all
  obtain ⟨rfl, rfl⟩ := trodVars_none hV
  obtain ⟨s0, rfl, rfl, rfl, w0⟩ := open_string Tryd.underlying9 (hval 0 9 v0 rfl rfl) h0
  have z0 : s0.size ≤ 140737488351232 := by
    have := sized_string hsz (j := 0) (t := 9) rfl rfl
    simpa [reachBytes] using this
  obtain ⟨s1, rfl, rfl, rfl, w1⟩ := open_string Tryd.underlying9 (hval 1 9 v1 rfl rfl) h1
  have z1 : s1.size ≤ 140737488351232 := by
    have := sized_string hsz (j := 1) (t := 9) rfl rfl
    simpa [reachBytes] using this
  obtain ⟨y2, rfl, rfl, rfl, w2⟩ := open_int Tryd.underlying22 (hval 2 22 v2 rfl rfl) h2
  have u2 := wf_u32 w2
  obtain ⟨x2, rfl⟩ := Int.eq_ofNat_of_zero_le u2.1
  have z2 : x2 < 4294967296 := by omega
  clear hA0 hval0 hsz hsz0
  refine (walk s0 z0 s1 z1 x2 z2 W  (of_laid hL)).mono fun e W' ⟨he, bel⟩ => ?_
  subst he
  exact ⟨_, rfl, _, _, _, [], _, [], hW', trodAll_mk1 (shut_bool Tryd.underlying4 _), (trodAll_cons_mk (shut_string Tryd.underlying9 w0) (trodAll_cons_mk (shut_string Tryd.underlying9 w1) (trodAll_cons_mk (shut_int Tryd.underlying22 w2) trodAll_mk0))), rfl, bel.frame _, fun h => by cases h⟩

theorem over : Rows.cipherBlocksRow.holds Tryd.pinned (OpenSpec.ofChange Rows.cipherBlocksSpec) :=
  OpenClaim.holds_of_wide 4 Tryd.f4 rfl rfl rfl rfl rfl rfl rfl ⟨rfl, rfl, rfl, rfl, rfl⟩ rfl rfl rfl rfl rfl (by kernel_rfl) Tryd.func4 (by kernel_rfl)
    (of_decide_eq_true (by kernel_rfl)) (by unfold Func.isWrapper; first | (rw [if_pos (by decide +kernel)]; kernel_rfl) | (rw [if_neg (by decide +kernel)]; exact ⟨rfl, rfl⟩))
    (fun os started H enc _ => lifted os started H enc)

end Go.Proofs.YtbflkkffpcaakaaDoor.cipherBlocks
namespace Go.Proofs.YtbflkkffpcaakaaDoor
/-- The given statement. -/
theorem cipherBlocks_holds : Rows.CipherBlocksCardSaid :=
  Claim7.holds_tied_plain_at .later [] [.data, .data, .data] true (true, "5ccb16b7e0cb60b80580de2bab98876517c1699cf189ae00d24e90f07a20ea85") false
    cipherBlocks.over (fun _ h => by cases h) (by kernel_rfl) (fun _ h => by cases h) cipherBlocks_row_tie rfl ⟨rfl, rfl⟩ (by kernel_rfl) rfl
    (fun f fn hf hfn => by
      obtain rfl : f = 4 := Option.some.inj ((show Tryd.prog.funcNamed "strongroom/strongroomlaw19.CipherBlocks" = some 4 by kernel_rfl).symm.trans hf) |>.symm
      obtain rfl : fn = Tryd.f4 := (Option.some.inj (Tryd.func4.symm.trans hfn)).symm
      exact ⟨by kernel_rfl, fun j t ht => by
        rw [Tryd.params4] at ht
        rcases j with _ | _ | _ | j
        · obtain rfl : t = 9 := by simpa using ht.symm
          exact (show Tryd.prog.wantsStandIn 9 = false by kernel_rfl)
        · obtain rfl : t = 9 := by simpa using ht.symm
          exact (show Tryd.prog.wantsStandIn 9 = false by kernel_rfl)
        · obtain rfl : t = 22 := by simpa using ht.symm
          exact (show Tryd.prog.wantsStandIn 22 = false by kernel_rfl)
        · simp at ht
      ⟩)
    (by kernel_rfl)
#print axioms cipherBlocks_holds
end Go.Proofs.YtbflkkffpcaakaaDoor
