/- Proved: for all four texts the law CipherSeals returns true, what was handed in as it was; where the packages' tables begin as the program's text lays them. -/
import Derived.Test.YtbflkkffpcaakaaDoorWU
import Derived.Test.YtbflkkffpcaakaaDoorCards
import Derived.Test.YtbflkkffpcaakaaDoorTie
import Derived.WalkKit
import Derived.ProofKit
import Derived.OpenShut
import Derived.ShutString
import Derived.ChangeOld
import Derived.Below
import Derived.LaidMore
import Derived.Lay
import Derived.Stop.Joined
import Derived.SevenTiedAt
namespace Go.Proofs.YtbflkkffpcaakaaDoor.cipherSeals
open Go.ChangeShapes Go.WideShapes Go.ChangeAt Go.WideMaps Go.WideElems Go.RowKit
open Go.ChangeMaps (open_string shut_string)

set_option maxRecDepth 100000 in
set_option maxHeartbeats 4000000 in
theorem walk (s0 t0 u0 x0 : ByteArray) (w : World)  (hL : Laid w) :
    Calls Tryd.prog 7 #[.agg #[.string s0, .string t0, .string u0, .string x0]] w fun e w' => e = .returned (.bool true) ∧ Below w.heap.size w w' := by
  have HLV : Hid (∀ V, Below w.heap.size w V → Calls Tryd.prog 11 #[] V fun e w' => e = .returned (.bool true) ∧ Below V.heap.size V w') := fun V hV => lives_any V (hL.below hV)
  obtain ⟨B, hB⟩ : ∃ B, w.heap.size = B := ⟨_, rfl⟩
  obtain ⟨W1, hW1⟩ : ∃ W, w.alloc (.cells #[.string s0, .string t0, .string u0, .string x0] 34) = W := ⟨_, rfl⟩
  have hr1 : W1.heap[B]? = some (.cells #[.string s0, .string t0, .string u0, .string x0] 34 (0, 0)) := by rw [← hW1, ← hB]; exact heap_alloc_new _ _
  have HR : Hid (W1.heap[B]? = some (.cells #[.string s0, .string t0, .string u0, .string x0] 34 (0, 0))) := hr1
  have HB : Hid (Below w.heap.size w W1) := by rw [← hW1]; exact (Below.refl _ w).alloc (Nat.le_refl _) _
  have HBX : Hid (∀ V, Below W1.heap.size W1 V → V.cell? ⟨B, 0, none⟩ = some (.string s0) ∧ V.cell? ⟨B, 1, none⟩ = some (.string t0) ∧ V.cell? ⟨B, 2, none⟩ = some (.string u0) ∧ V.cell? ⟨B, 3, none⟩ = some (.string x0)) := fun V hV => by
    have hr : V.heap[B]? = some (.cells #[.string s0, .string t0, .string u0, .string x0] 34 (0, 0)) := (hV.block B (lt_of_some hr1)).trans hr1
    refine ⟨?_, ?_, ?_, ?_⟩ <;> (rw [cell_of_row _ _ _ _ _ _ hr]; rfl)
  have HWW : Hid (∀ V, Below W1.heap.size W1 V → Below w.heap.size w V) := fun V hV => HB.out.trans (hV.mono HB.out.size)
  have HSH : Hid (Calls Tryd.prog 15 #[.agg #[.string s0, .string t0, .string u0, .string x0]] W1 fun e w' => e = .returned (.bool (decide (∀ s ∈ [s0, t0, u0, x0], s.size ≤ 1000))) ∧ Below W1.heap.size W1 w') := short_any [s0, t0, u0, x0] W1 rfl
  have hi4 : (Tryd.prog.info? 34).map (·.size) = some (#[.string s0, .string t0, .string u0, .string x0] : Array Value).size := by kernel_rfl
  have HI4 : Hid ((Tryd.prog.info? 34).map (·.size) = some (#[.string s0, .string t0, .string u0, .string x0] : Array Value).size) := hi4
  clear hi4
  by_cases hsh : ∀ s ∈ [s0, t0, u0, x0], s.size ≤ 1000
  rotate_left
  · rw [decide_eq_false hsh] at HSH
    clear hsh hL hr1
    go_enter Tryd.func7, Tryd.ntmps7
    go_wp2_with (refine wpList_load_row rfl 34 _ rfl B rfl 34 #[.string s0, .string t0, .string u0, .string x0] (0, 0) _ HR.out Tryd.underlying34 rfl HI4.out ?_)
    refine HSH.out.mono ?_
    rintro e V ⟨rfl, hb⟩
    have HV : Hid (Below w.heap.size w V) := HWW.out V hb
    clear HSH hb
    go_wp2_with fail
    have HLX := HLV.out V HV.out
    go_wp2_with fail
    refine HLX.mono ?_
    rintro e VZ ⟨rfl, hbZ⟩
    have HZ : Hid (Below w.heap.size w VZ) := (HV.out).trans (hbZ.mono (HV.out).size)
    clear HLX hbZ
    go_wp2
    go_ret
    exact ⟨rfl, HZ.out⟩
  rw [decide_eq_true hsh] at HSH
  have z0 : s0.size ≤ 1000 := hsh s0 (by simp)
  have z1 : t0.size ≤ 1000 := hsh t0 (by simp)
  have z2 : u0.size ≤ 1000 := hsh u0 (by simp)
  have z3 : x0.size ≤ 1000 := hsh x0 (by simp)
  have HL : Hid (∀ V, Below w.heap.size w V → Laid V) := fun V hV => hL.below hV
  clear hsh hL hr1
  by_cases h12 : t0.size = 12
  rotate_left
  · obtain ⟨N, hN⟩ : ∃ N, t0.size = N := ⟨_, rfl⟩
    have HC : Hid (∀ V, Calls Tryd.prog 20 #[.string s0, .string t0, .string u0, .string x0] V fun e w' => e = .returned (.tuple #[.string ByteArray.empty, .int .i64 1]) ∧ w' = V) := fun V => cseal_bad s0 t0 u0 x0 V h12
    rw [hN] at h12 z1
    have k12 : ¬ (N : Int) = 12 := by omega
    have k12b : ((N : Int) == 12) = false := by simpa using k12
    clear h12
    go_enter Tryd.func7, Tryd.ntmps7
    go_wp2_with (refine wpList_load_row rfl 34 _ rfl B rfl 34 #[.string s0, .string t0, .string u0, .string x0] (0, 0) _ HR.out Tryd.underlying34 rfl HI4.out ?_)
    refine HSH.out.mono ?_
    rintro e V0 ⟨rfl, hb0⟩
    have HB0 : Hid (Below W1.heap.size W1 V0) := hb0
    clear HSH hb0
    obtain ⟨y0, y1, y2, y3⟩ := HBX.out V0 (HB0.out)
    have HC0 := HC.out V0
    clear HC
    go_wp2_with fail
    refine HC0.mono ?_
    rintro e V1 ⟨rfl, hb1⟩
    subst V1
    have HV0 : Hid (Below w.heap.size w V0) := HWW.out V0 HB0.out
    clear HC0
    have HLX := HLV.out V0 HV0.out
    go_wp2_with fail
    refine HLX.mono ?_
    rintro e VZ ⟨rfl, hbZ⟩
    have HZ : Hid (Below w.heap.size w VZ) := (HV0.out).trans (hbZ.mono (HV0.out).size)
    clear HLX hbZ
    go_wp2
    go_ret
    exact ⟨rfl, HZ.out⟩
  obtain ⟨D, hD⟩ : ∃ D, strOf (shutL s0.data.toList t0.data.toList u0.data.toList x0.data.toList) = D := ⟨_, rfl⟩
  have HC : Hid (∀ V, Below w.heap.size w V → Calls Tryd.prog 20 #[.string s0, .string t0, .string u0, .string x0] V fun e w' => e = .returned (.tuple #[.string D, .int .i64 0]) ∧ Below V.heap.size V w') := fun V hV => by
    rw [← hD]; exact cseal_any s0 t0 u0 x0 V (by omega) h12 (by omega) (by omega) (HL.out V hV)
  have hDs : D.size = x0.size + 16 := by rw [← hD, strOf_size, shutL_len, lenL]
  have HO : Hid (∀ V, Below w.heap.size w V → Calls Tryd.prog 21 #[.string s0, .string t0, .string u0, .string D] V fun e w' => e = .returned (.tuple #[.string x0, .int .i64 0]) ∧ Below V.heap.size V w') := fun V hV => by
    have h := copen_any s0 t0 u0 D V (by omega) (by omega) (by omega) (by omega) (HL.out V hV)
    have h9 := shut_right s0.data.toList t0.data.toList u0.data.toList x0.data.toList
    have e1 : D.data.toList = shutL s0.data.toList t0.data.toList u0.data.toList x0.data.toList := by rw [← hD, strOf_list]
    have h16 : 16 ≤ (shutL s0.data.toList t0.data.toList u0.data.toList x0.data.toList).length := by rw [shutL_len]; omega
    have h12' : t0.data.toList.length = 12 := by rw [lenL]; exact h12
    rw [e1] at h
    unfold openT openE at h
    rw [if_pos ⟨h12', h16, h9⟩, if_pos h12', if_pos h16, if_pos h9, shut_take, hidL_back] at h
    rw [show strOf x0.data.toList = x0 by apply ByteArray.ext; simp [strOf]] at h
    exact h
  have HD : Hid (∀ V, Calls Tryd.prog 22 #[.string s0, .string t0, .string u0, .string x0] V fun e w' => e = .returned (.string D) ∧ Below V.heap.size V w') := fun V => by
    rw [← hD]; exact rshut_any s0 t0 u0 x0 V (by omega) h12 (by omega) (by omega)
  have hoo : (D.toList == D.toList) = true := by simp
  have hxx : (x0.toList == x0.toList) = true := by simp
  clear hD hDs
  go_enter Tryd.func7, Tryd.ntmps7
  go_wp2_with (refine wpList_load_row rfl 34 _ rfl B rfl 34 #[.string s0, .string t0, .string u0, .string x0] (0, 0) _ HR.out Tryd.underlying34 rfl HI4.out ?_)
  refine HSH.out.mono ?_
  rintro e V0 ⟨rfl, hb0⟩
  have HB0 : Hid (Below W1.heap.size W1 V0) := hb0
  clear HSH hb0
  obtain ⟨y0, y1, y2, y3⟩ := HBX.out V0 (HB0.out)
  have HC0 := HC.out V0 (HWW.out V0 HB0.out)
  clear HC
  go_wp2_with fail
  refine HC0.mono ?_
  rintro e V1 ⟨rfl, hb1⟩
  have HB1 : Hid (Below W1.heap.size W1 V1) := HB0.out.trans (hb1.mono HB0.out.size)
  clear HC0 hb1 y0 y1 y2 y3
  obtain ⟨y0, y1, y2, y3⟩ := HBX.out V1 (HB1.out)
  have HO1 := HO.out V1 (HWW.out V1 HB1.out)
  clear HO
  go_wp2_with fail
  refine HO1.mono ?_
  rintro e V2 ⟨rfl, hb2⟩
  have HB2 : Hid (Below W1.heap.size W1 V2) := HB1.out.trans (hb2.mono HB1.out.size)
  clear HO1 hb2 y0 y1 y2 y3
  obtain ⟨y0, y1, y2, y3⟩ := HBX.out V2 (HB2.out)
  have HD2 := HD.out V2
  clear HD
  go_wp2_with fail
  refine HD2.mono ?_
  rintro e V3 ⟨rfl, hb3⟩
  have HB3 : Hid (Below W1.heap.size W1 V3) := HB2.out.trans (hb3.mono HB2.out.size)
  have HV3 : Hid (Below w.heap.size w V3) := HWW.out V3 HB3.out
  clear HD2 hb3 y0 y1 y2 y3
  obtain ⟨y0, y1, y2, y3⟩ := HBX.out V3 (HB3.out)
  have HLX := HLV.out V3 HV3.out
  go_wp2_with fail
  refine HLX.mono ?_
  rintro e VZ ⟨rfl, hbZ⟩
  have HZ : Hid (Below w.heap.size w VZ) := (HV3.out).trans (hbZ.mono (HV3.out).size)
  clear HLX hbZ
  go_wp2
  go_ret
  exact ⟨rfl, HZ.out⟩

set_option linter.unusedVariables false in
set_option maxRecDepth 100000 in
theorem lifted (os : Os) (started : os.Started) (H : Type) (enc : TypeId × Value → H) :
    ReturnsInHanded {} Tryd.checked os 7 .any (fun w args => (Rows.cipherSealsSpec.pre enc Tryd.prog Tryd.f7 [] false w args ∧ laidMetH Tryd.prog Rows.cipherSealsRow.laid w) ∧ sizedMet enc Tryd.prog Tryd.f7 (OpenSpec.ofChange Rows.cipherSealsSpec) false w args) (Rows.cipherSealsSpec.post enc Tryd.prog Tryd.f7 false true false false) := by
  refine returnsInHanded_of_change_and (C := Tryd.checked) (X := fun w _ => laidMetH Tryd.prog Rows.cipherSealsRow.laid w) (fun _ _ _ hh h => h.of_heap hh) own started (by kernel_rfl) Tryd.func7
    (ChangeSpec.witness_shaped (enc := enc) (C := Tryd.checked) (os := os) (X := fun w _ => laidMetH Tryd.prog Rows.cipherSealsRow.laid w) false (World.laidAll Tryd.prog os Rows.cipherSealsRow.laid) #[.agg #[.string ByteArray.empty, .string ByteArray.empty, .string ByteArray.empty, .string ByteArray.empty]] 8 (World.laidAll_os _ _ _)
      (World.shaped_of_ZipB (by kernel_rfl) (by kernel_rfl)) (by kernel_rfl) (by kernel_rfl) (by kernel_rfl)
      (by rw [MakeChecks.laidMetH_plain _ _ _ (by kernel_rfl)]; exact laidMet_laidAll _ (by kernel_rfl) (by kernel_rfl))) ?_
  intro W base args ds gs before hval0 hW _ hsz0 hL _
  have hval : ∀ (j : Nat) t v, Tryd.f7.params[j]? = some t → args[j]? = some v → Value.okWide Tryd.prog W .any base t v := hval0
  have hsz : (DataW.weightsEach Tryd.prog (Tryd.f7.params.toList ++ Rows.cipherSealsSpec.plain.varTypes Tryd.prog) (ds ++ gs)).all (· ≤ reachBytes) = true := hsz0
  have hW' := hW
  obtain ⟨p, q, hA0, hV, rfl, hfz, hnd⟩ := hW
  have hA : DataW.TrodAll enc Tryd.prog W 0 (fun _ => true) true Tryd.f7.params.toList args.toList ds p := hA0
  rw [Tryd.params7] at hA hval hsz
  obtain ⟨v0, vs0, d0, ds0, p0, q0, hargs, rfl, rfl, h0, r0⟩ := trodAll_cons hA
  obtain ⟨rfl, rfl, rfl⟩ := trodAll_nil r0
  obtain rfl : args = #[v0] := by cases args; simp_all
  obtain ⟨rfl, rfl⟩ := trodVars_none hV
  have k0 := h0
  have lt0 : ∀ x ∈ p0, x.block < W.heap.size := by obtain ⟨m, hm⟩ := k0; exact DataW.trod_lt m _ _ _ hm
  obtain ⟨s0, t0, u0, x0, rfl, zs0, zt0, zu0, zx0⟩ := strs4_of (j := 0) (hval 0 34 v0 rfl rfl) h0 hsz rfl rfl
  clear hA0 hval0 hsz hsz0
  refine (walk s0 t0 u0 x0 W  (of_laid hL)).mono fun e W' ⟨he, bel⟩ => ?_
  subst he
  exact ⟨_, rfl, _, _, _, [], _, [], hW', trodAll_mk1 (shut_bool Tryd.underlying4 _), (trodAll_cons_mk (Below.trod laidOut (by kernel_rfl) (of_decide_eq_true (by kernel_rfl)) k0 bel lt0) trodAll_mk0), rfl, bel.frame _, fun h => by cases h⟩

theorem over : Rows.cipherSealsRow.holds Tryd.pinned (OpenSpec.ofChange Rows.cipherSealsSpec) :=
  OpenClaim.holds_of_wide 7 Tryd.f7 rfl rfl rfl rfl rfl rfl rfl ⟨rfl, rfl, rfl, rfl, rfl⟩ rfl rfl rfl rfl rfl (by kernel_rfl) Tryd.func7 (by kernel_rfl)
    (of_decide_eq_true (by kernel_rfl)) (by unfold Func.isWrapper; first | (rw [if_pos (by decide +kernel)]; kernel_rfl) | (rw [if_neg (by decide +kernel)]; exact ⟨rfl, rfl⟩))
    (fun os started H enc _ => lifted os started H enc)

end Go.Proofs.YtbflkkffpcaakaaDoor.cipherSeals
namespace Go.Proofs.YtbflkkffpcaakaaDoor
/-- The given statement. -/
theorem cipherSeals_holds : Rows.CipherSealsCardSaid :=
  Claim7.holds_tied_plain_at .later [] [.data, .data, .data] true (true, "5ccb16b7e0cb60b80580de2bab98876517c1699cf189ae00d24e90f07a20ea85") false
    cipherSeals.over (fun _ h => by cases h) (by kernel_rfl) (fun _ h => by cases h) cipherSeals_row_tie rfl ⟨rfl, rfl⟩ (by kernel_rfl) rfl
    (fun f fn hf hfn => by
      obtain rfl : f = 7 := Option.some.inj ((show Tryd.prog.funcNamed "strongroom/strongroomlaw19.CipherSeals" = some 7 by kernel_rfl).symm.trans hf) |>.symm
      obtain rfl : fn = Tryd.f7 := (Option.some.inj (Tryd.func7.symm.trans hfn)).symm
      exact ⟨by kernel_rfl, fun j t ht => by
        rw [Tryd.params7] at ht
        rcases j with _ | j
        · obtain rfl : t = 34 := by simpa using ht.symm
          exact (show Tryd.prog.wantsStandIn 34 = false by kernel_rfl)
        · simp at ht
      ⟩)
    (by kernel_rfl)
#print axioms cipherSeals_holds
end Go.Proofs.YtbflkkffpcaakaaDoor
