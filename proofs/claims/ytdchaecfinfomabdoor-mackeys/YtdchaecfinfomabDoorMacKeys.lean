/- Proved: for every key, message and count of noughts, the law MacKeys returns true; where the package's two tables begin as the program's text lays them. -/
import Derived.Test.YtdchaecfinfomabDoorDA
import Derived.Test.YtdchaecfinfomabDoorCards
import Derived.Test.YtdchaecfinfomabDoorTie
import Derived.WalkKit
import Derived.ProofKit
import Derived.OpenShut
import Derived.ShutString
import Derived.ChangeOld
import Derived.Below
import Derived.LaidMore
import Derived.Stop.Joined
import Derived.SevenTiedAt
namespace Go.Proofs.YtdchaecfinfomabDoor.macKeys
open Go.ChangeShapes Go.WideShapes Go.ChangeAt Go.WideMaps Go.WideElems Go.RowKit
open Go.ChangeMaps (open_string shut_string)
theorem block_long (k : List UInt8) (h : 64 < k.length) : blockOf (digest k) = blockOf k := by
  have e : keyOf (digest k) = keyOf k := by
    unfold keyOf
    rw [if_neg (by rw [digest_len]; omega), if_pos h]
  unfold blockOf
  rw [e]
theorem block_noughts (k : List UInt8) (n : Nat) (h : k.length + n ≤ 64) : blockOf (k ++ List.replicate n 0) = blockOf k := by
  have e1 : keyOf (k ++ List.replicate n 0) = k ++ List.replicate n 0 := by unfold keyOf; rw [if_neg (by simp; omega)]
  have e2 : keyOf k = k := by unfold keyOf; rw [if_neg (by omega)]
  unfold blockOf
  rw [e1, e2, List.append_assoc, List.replicate_append_replicate]
  congr 2
  simp; omega
theorem make_noughts (w : World) (n : Nat) (hn : n ≤ 64) : (Instr.makeSlice 27 (.int .i64 (n : Int)) (.int .i64 (n : Int))).run Tryd.prog w = .ok (.slice (some ⟨w.heap.size, 0, none⟩) n n) (w.alloc (.cells (u8v (List.replicate n 0)) 5)) := by
  have := run_make (P := Tryd.prog) w 27 5 _ (.int .u8 0) Tryd.underlying27 rfl rfl .i64 .i64 (n : Int) (n : Int) (by omega) (by omega) (by show (1 : Int) * _ ≤ _; omega) (by omega)
  rw [this, Int.toNat_natCast, ← u8v_made, show Tryd.prog.types[5].size = 1 from rfl, Nat.mul_one]
  rfl

set_option maxRecDepth 100000 in
set_option maxHeartbeats 2000000 in
theorem walk (s0 : ByteArray) (z0 : s0.size ≤ 140737488351232) (s1 : ByteArray) (z1 : s1.size ≤ 140737488351232) (x2 : Int) (z2 : -9223372036854775808 ≤ x2 ∧ x2 ≤ 9223372036854775807) (w : World)  (hL : Laid w) :
    Calls Tryd.prog 3 #[.string s0, .string s1, .int .i64 x2] w fun e w' => e = .returned (.bool true) ∧ Below w.heap.size w w' := by
  have HLV : Hid (∀ W, Below w.heap.size w W → Calls Tryd.prog 5 #[] W fun e w' => e = .returned (.bool true) ∧ Below w.heap.size w w') := by
    intro W hW
    refine (lives_any W (hL.below hW)).mono ?_
    rintro e w' ⟨rfl, hb⟩
    exact ⟨rfl, hW.trans (hb.mono hW.size)⟩
  have HB1 : Hid (Below w.heap.size w (w.alloc (.cells #[.string s0, .string s1] 9))) := (Below.refl _ w).alloc (Nat.le_refl _) _
  have HSM := small_any 2 2 _ _ _ (Ss.two w s0 s1) (fun i h => by
    match i, h with
    | 0, _ => exact z0
    | 1, _ => exact z1)
  by_cases hT : tot [s0, s1] ≤ 3000
  case neg =>
    rw [show decide (2 ≤ 20 ∧ tot [s0, s1] ≤ 3000) = false by simp [hT]] at HSM
    clear hT
    clear hL
    go_enter Tryd.func3, Tryd.ntmps3
    go_wp2_with fail
    refine HSM.mono ?_
    rintro e w2 ⟨rfl, hw2⟩
    subst w2
    clear HSM
    go_wp2_with fail
    refine (HLV.out _ HB1.out).mono ?_
    rintro e w3 ⟨rfl, hB3⟩
    go_wp2
    go_ret
    exact ⟨rfl, hB3⟩
  rw [show decide (2 ≤ 20 ∧ tot [s0, s1] ≤ 3000) = true by simp [hT]] at HSM
  have hTs : s0.size + s1.size ≤ 3000 := by simpa [tot] using hT
  clear hT
  by_cases q0 : x2 < 0
  · clear hTs
    clear hL
    go_enter Tryd.func3, Tryd.ntmps3
    go_wp2_with fail
    refine HSM.mono ?_
    rintro e w2 ⟨rfl, hw2⟩
    subst w2
    clear HSM
    go_wp2_with fail
    refine (HLV.out _ HB1.out).mono ?_
    rintro e w3 ⟨rfl, hB3⟩
    go_wp2
    go_ret
    exact ⟨rfl, hB3⟩
  by_cases q1 : 64 < x2
  · clear hTs
    clear hL
    go_enter Tryd.func3, Tryd.ntmps3
    go_wp2_with fail
    refine HSM.mono ?_
    rintro e w2 ⟨rfl, hw2⟩
    subst w2
    clear HSM
    go_wp2_with fail
    refine (HLV.out _ HB1.out).mono ?_
    rintro e w3 ⟨rfl, hB3⟩
    go_wp2
    go_ret
    exact ⟨rfl, hB3⟩
  obtain ⟨n, hn⟩ : ∃ n : Nat, (n : Int) = x2 := ⟨x2.toNat, by omega⟩
  subst hn
  have hkl : s0.data.toList.length = s0.size := by rw [Array.length_toList]; rfl
  obtain ⟨O, hO⟩ : ∃ O, strOf (sealL s0.data.toList s1.data.toList) = O := ⟨_, rfl⟩
  have HSE : Hid (∀ W, Below w.heap.size w W → Calls Tryd.prog 6 #[.string s0, .string s1] W fun e w' => e = .returned (.string O) ∧ Below w.heap.size w w') := by
      intro W hW
      rw [← hO]
      refine (seal_any s0 s1 W (by omega) (by omega) (hL.below hW)).mono ?_
      rintro e w' ⟨rfl, hb⟩
      exact ⟨rfl, hW.trans (hb.mono hW.size)⟩
  by_cases h64 : 64 < s0.size
  · have k64 : (64 : Int) < (s0.size : Int) := by omega
    obtain ⟨D, hD⟩ : ∃ D, strOf (digest s0.data.toList) = D := ⟨_, rfl⟩
    have hDs : D.size = 32 := by rw [← hD, strOf_size, digest_len]
    have HS2 : Hid (∀ W, Below w.heap.size w W → Calls Tryd.prog 6 #[.string D, .string s1] W fun e w' => e = .returned (.string O) ∧ Below w.heap.size w w') := by
      intro W hW
      have e : sealL D.data.toList s1.data.toList = sealL s0.data.toList s1.data.toList := by
        rw [← hD, strOf_list, sealL, sealL, block_long _ (by omega)]
      rw [← hO, ← e]
      refine (seal_any D s1 W (by omega) (by omega) (hL.below hW)).mono ?_
      rintro e w' ⟨rfl, hb⟩
      exact ⟨rfl, hW.trans (hb.mono hW.size)⟩
    have HSU : Hid (∀ w3, Below w.heap.size w w3 → ∃ cap W4, (convert 9 27 (.string s0)).run Tryd.prog w3 = .ok (.slice (some ⟨w3.heap.size, 0, none⟩) s0.size cap) W4 ∧ Calls Tryd.prog 7 #[.slice (some ⟨w3.heap.size, 0, none⟩) s0.size cap] W4 fun e w' => e = .returned (.string D) ∧ Below w.heap.size w w') := by
      intro w3 hB3
      obtain ⟨cap, W4, hcv, hc1, hc2, hB4, hs4, hcl⟩ := bytes_of w3 s0 (by omega)
      refine ⟨cap, W4, hcv, ?_⟩
      have hB := hB3.trans (hB4.mono hB3.size)
      rw [← hD]
      refine (sum_is (some ⟨w3.heap.size, 0, none⟩) s0.size cap s0.data.toList W4 ⟨hkl, hc1, hc2, fun _ => ⟨w3.heap.size, 0, rfl, hs4, fun i hi => by rw [Nat.zero_add]; exact hcl i hi⟩⟩ (by omega) (hL.below hB)).mono ?_
      rintro e w' ⟨rfl, hb⟩
      exact ⟨rfl, hB.trans (hb.mono hB.size)⟩
    clear hL hO hD hTs hkl
    go_enter Tryd.func3, Tryd.ntmps3
    go_wp2_with fail
    refine HSM.mono ?_
    rintro e w2 ⟨rfl, hw2⟩
    subst w2
    clear HSM
    go_wp2_with fail
    refine (HSE.out _ HB1.out).mono ?_
    rintro e w3 ⟨rfl, hB3⟩
    obtain ⟨cap, W4, hcv, HS4⟩ := HSU.out w3 hB3
    go_wp2_with fail
    refine (HS4).mono ?_
    rintro e w5 ⟨rfl, hB5⟩
    have HS5 := HS2.out w5 hB5
    go_wp2_with fail
    refine (HS5).mono ?_
    rintro e w6 ⟨rfl, hB6⟩
    have HL6 := HLV.out w6 hB6
    go_wp2_with fail
    refine (HL6).mono ?_
    rintro e w7 ⟨rfl, hB7⟩
    go_wp2
    go_ret
    exact ⟨rfl, hB7⟩
  have k64 : ¬ (64 : Int) < (s0.size : Int) := by omega
  by_cases hsum : 64 < s0.size + n
  · have ksum : (64 : Int) < (s0.size : Int) + (n : Int) := by omega
    clear hL hO hTs hkl
    go_enter Tryd.func3, Tryd.ntmps3
    go_wp2_with fail
    refine HSM.mono ?_
    rintro e w2 ⟨rfl, hw2⟩
    subst w2
    clear HSM
    go_wp2_with fail
    refine (HSE.out _ HB1.out).mono ?_
    rintro e w3 ⟨rfl, hB3⟩
    have HL3 := HLV.out w3 hB3
    go_wp2_with fail
    refine (HL3).mono ?_
    rintro e w4 ⟨rfl, hB4⟩
    go_wp2
    go_ret
    exact ⟨rfl, hB4⟩
  · have ksum : ¬ (64 : Int) < (s0.size : Int) + (n : Int) := by omega
    obtain ⟨Z, hZ⟩ : ∃ Z, strOf (List.replicate n 0) = Z := ⟨_, rfl⟩
    have hZs : Z.size = n := by rw [← hZ, strOf_size]; simp
    have HS2 : Hid (∀ W, Below w.heap.size w W → Calls Tryd.prog 6 #[.string (s0 ++ Z), .string s1] W fun e w' => e = .returned (.string O) ∧ Below w.heap.size w w') := by
      intro W hW
      have e0 : (s0 ++ Z).data.toList = s0.data.toList ++ List.replicate n 0 := by rw [← hZ]; simp [strOf]
      have e : sealL (s0 ++ Z).data.toList s1.data.toList = sealL s0.data.toList s1.data.toList := by
        rw [e0, sealL, sealL, block_noughts _ _ (by omega)]
      rw [← hO, ← e]
      refine (seal_any (s0 ++ Z) s1 W (by rw [ByteArray.size_append]; omega) (by omega) (hL.below hW)).mono ?_
      rintro e w' ⟨rfl, hb⟩
      exact ⟨rfl, hW.trans (hb.mono hW.size)⟩
    have HMK : Hid (∀ w3, Below w.heap.size w w3 → (Instr.makeSlice 27 (.int .i64 (n : Int)) (.int .i64 (n : Int))).run Tryd.prog w3 = .ok (.slice (some ⟨w3.heap.size, 0, none⟩) n n) (w3.alloc (.cells (u8v (List.replicate n 0)) 5)) ∧ (convert 27 9 (.slice (some ⟨w3.heap.size, 0, none⟩) n n)).run Tryd.prog (w3.alloc (.cells (u8v (List.replicate n 0)) 5)) = .ok (.string Z) (w3.alloc (.cells (u8v (List.replicate n 0)) 5)) ∧ Below w.heap.size w (w3.alloc (.cells (u8v (List.replicate n 0)) 5))) := by
      intro w3 hB3
      refine ⟨make_noughts w3 n (by omega), ?_, hB3.alloc hB3.size _⟩
      rw [← hZ]
      exact conv_row _ w3.heap.size 0 n n (List.replicate n 0) (by simp) (fun i hi => by rw [Nat.zero_add]; exact (PadW.start w3 (List.replicate n 0)).cell i (by simpa using hi))
    clear hL hO hZ hTs hkl
    go_enter Tryd.func3, Tryd.ntmps3
    go_wp2_with fail
    refine HSM.mono ?_
    rintro e w2 ⟨rfl, hw2⟩
    subst w2
    clear HSM
    go_wp2_with fail
    refine (HSE.out _ HB1.out).mono ?_
    rintro e w3 ⟨rfl, hB3⟩
    obtain ⟨hmk, hcv, hB4⟩ := HMK.out w3 hB3
    have HS4 := HS2.out _ hB4
    clear hB4 HMK HS2
    generalize u8v (List.replicate n 0) = zz at hmk hcv HS4
    go_wp2_with fail
    refine (HS4).mono ?_
    rintro e w5 ⟨rfl, hB5⟩
    have HL5 := HLV.out w5 hB5
    go_wp2_with fail
    refine (HL5).mono ?_
    rintro e w6 ⟨rfl, hB6⟩
    go_wp2
    go_ret
    exact ⟨rfl, hB6⟩

set_option linter.unusedVariables false in
set_option maxRecDepth 100000 in
theorem lifted (os : Os) (started : os.Started) (H : Type) (enc : TypeId × Value → H) :
    ReturnsInHanded {} Tryd.checked os 3 .any (fun w args => (Rows.macKeysSpec.pre enc Tryd.prog Tryd.f3 [] false w args ∧ laidMetH Tryd.prog laid2 w) ∧ sizedMet enc Tryd.prog Tryd.f3 (OpenSpec.ofChange Rows.macKeysSpec) false w args) (Rows.macKeysSpec.post enc Tryd.prog Tryd.f3 false true false false) := by
  refine returnsInHanded_of_change_and (C := Tryd.checked) (X := fun w _ => laidMetH Tryd.prog laid2 w) (fun _ _ _ hh h => h.of_heap hh) own started (by kernel_rfl) Tryd.func3
    (ChangeSpec.witness_shaped (enc := enc) (C := Tryd.checked) (os := os) (X := fun w _ => laidMetH Tryd.prog laid2 w) false (World.doorLaid Tryd.prog 19 os) #[.string ByteArray.empty, .string ByteArray.empty, .int .i64 0] 8 rfl (World.shaped_of_RefB (by kernel_rfl) (by kernel_rfl)) (by kernel_rfl) (by kernel_rfl) (by kernel_rfl) (door_met os _)) ?_
  intro W base args ds gs before hval0 hW _ hsz0 hL _
  have hval : ∀ (j : Nat) t v, Tryd.f3.params[j]? = some t → args[j]? = some v → Value.okWide Tryd.prog W .any base t v := hval0
  have hsz : (DataW.weightsEach Tryd.prog (Tryd.f3.params.toList ++ Rows.macKeysSpec.plain.varTypes Tryd.prog) (ds ++ gs)).all (· ≤ reachBytes) = true := hsz0
  have hW' := hW
  obtain ⟨p, q, hA0, hV, rfl, hfz, hnd⟩ := hW
  have hA : DataW.TrodAll enc Tryd.prog W 0 (fun _ => true) true Tryd.f3.params.toList args.toList ds p := hA0
  rw [Tryd.params3] at hA hval hsz
  obtain ⟨v0, vs0, d0, ds0, p0, q0, hargs, rfl, rfl, h0, r0⟩ := trodAll_cons hA
  obtain ⟨v1, vs1, d1, ds1, p1, q1, rfl, rfl, rfl, h1, r1⟩ := trodAll_cons r0
  obtain ⟨v2, vs2, d2, ds2, p2, q2, rfl, rfl, rfl, h2, r2⟩ := trodAll_cons r1
  obtain ⟨rfl, rfl, rfl⟩ := trodAll_nil r2
  obtain rfl : args = #[v0, v1, v2] := by cases args; simp_all
  obtain ⟨rfl, rfl⟩ := trodVars_none hV
  obtain ⟨s0, rfl, rfl, rfl, w0⟩ := open_string Tryd.underlying9 (hval 0 9 v0 rfl rfl) h0
  have z0 : s0.size ≤ 140737488351232 := by
    have := sized_string hsz (j := 0) (t := 9) rfl rfl
    simpa [reachBytes] using this
  obtain ⟨s1, rfl, rfl, rfl, w1⟩ := open_string Tryd.underlying9 (hval 1 9 v1 rfl rfl) h1
  have z1 : s1.size ≤ 140737488351232 := by
    have := sized_string hsz (j := 1) (t := 9) rfl rfl
    simpa [reachBytes] using this
  obtain ⟨x2, rfl, rfl, rfl, w2⟩ := open_int Tryd.underlying3 (hval 2 3 v2 rfl rfl) h2
  clear hA0 hval0 hsz hsz0
  refine (walk s0 z0 s1 z1 x2 (wf_i64 w2) W  (of_laid hL)).mono fun e W' ⟨he, bel⟩ => ?_
  subst he
  exact ⟨_, rfl, _, _, _, [], _, [], hW', trodAll_mk1 (shut_bool Tryd.underlying4 _), (trodAll_cons_mk (shut_string Tryd.underlying9 w0) (trodAll_cons_mk (shut_string Tryd.underlying9 w1) (trodAll_cons_mk (shut_int Tryd.underlying3 w2) trodAll_mk0))), rfl, bel.frame _, fun h => by cases h⟩

theorem over : Rows.macKeysRow.holds Tryd.pinned (OpenSpec.ofChange Rows.macKeysSpec) :=
  OpenClaim.holds_of_wide 3 Tryd.f3 rfl rfl rfl rfl rfl rfl rfl ⟨rfl, rfl, rfl, rfl, rfl⟩ rfl rfl rfl rfl rfl (by kernel_rfl) Tryd.func3 (by kernel_rfl)
    (of_decide_eq_true (by kernel_rfl)) (by unfold Func.isWrapper; first | (rw [if_pos (by decide +kernel)]; kernel_rfl) | (rw [if_neg (by decide +kernel)]; exact ⟨rfl, rfl⟩))
    (fun os started H enc _ => lifted os started H enc)

end Go.Proofs.YtdchaecfinfomabDoor.macKeys
namespace Go.Proofs.YtdchaecfinfomabDoor
/-- The given statement. -/
theorem macKeys_holds : Rows.MacKeysCardSaid :=
  Claim7.holds_tied_plain_at .later [] [.data, .data] true (true, "26cc81bc889eb67ebce13c48761633297c36b4957d82833cf98947df7684fcb7") false
    macKeys.over (fun _ h => by cases h) (by kernel_rfl) (fun _ h => by cases h) macKeys_row_tie rfl ⟨rfl, rfl⟩ (by kernel_rfl) rfl
    (fun f fn hf hfn => by
      obtain rfl : f = 3 := Option.some.inj ((show Tryd.prog.funcNamed "strongroom/strongroomlaw03.MacKeys" = some 3 by kernel_rfl).symm.trans hf) |>.symm
      obtain rfl : fn = Tryd.f3 := (Option.some.inj (Tryd.func3.symm.trans hfn)).symm
      exact ⟨by kernel_rfl, fun j t ht => by
        rw [Tryd.params3] at ht
        rcases j with _ | _ | _ | j
        · obtain rfl : t = 9 := by simpa using ht.symm
          exact (show Tryd.prog.wantsStandIn 9 = false by kernel_rfl)
        · obtain rfl : t = 9 := by simpa using ht.symm
          exact (show Tryd.prog.wantsStandIn 9 = false by kernel_rfl)
        · obtain rfl : t = 3 := by simpa using ht.symm
          exact (show Tryd.prog.wantsStandIn 3 = false by kernel_rfl)
        · simp at ht
      ⟩)
    (by kernel_rfl)
#print axioms macKeys_holds
end Go.Proofs.YtdchaecfinfomabDoor
