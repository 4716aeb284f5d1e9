/- Proved: for every two texts, place and byte, the law MacTurned returns true, the texts as they were; where the package's two tables begin as the program's text lays them. -/
import Derived.Test.YtdchaecfinfomaaDoorFA
import Derived.Test.YtdchaecfinfomaaDoorCards
import Derived.Test.YtdchaecfinfomaaDoorTie
import Derived.WalkKit
import Derived.ProofKit
import Derived.OpenShut
import Derived.ShutString
import Derived.ChangeOld
import Derived.Below
import Derived.LaidMore
import Derived.Stop.Joined
import Derived.SevenTiedAt
namespace Go.Proofs.YtdchaecfinfomaaDoor.macTurned
open Go.ChangeShapes Go.WideShapes Go.ChangeAt Go.WideMaps Go.WideElems Go.RowKit
open Go.ChangeMaps (open_string shut_string)

set_option maxRecDepth 100000 in
set_option maxHeartbeats 2000000 in
theorem walk (s0 t0 : ByteArray) (z0 : s0.size ≤ 140737488351232) (y0 : t0.size ≤ 140737488351232) (x1 : Int) (_z1 : -9223372036854775808 ≤ x1 ∧ x1 ≤ 9223372036854775807) (x2 : Int) (z2 : 0 ≤ x2 ∧ x2 ≤ 255) (w : World)  (hL : Laid w) :
    Calls Tryd.prog 5 #[.agg #[.string s0, .string t0], .int .i64 x1, .int .u8 x2] w fun e w' => e = .returned (.bool true) ∧ Below w.heap.size w w' := by
  have HLV : Hid (∀ W, Below w.heap.size w W → Calls Tryd.prog 10 #[] W fun e w' => e = .returned (.bool true) ∧ Below w.heap.size w w') := by
    intro W hW
    refine (lives_any W (hL.below hW)).mono ?_
    rintro e w' ⟨rfl, hb⟩
    exact ⟨rfl, hW.trans (hb.mono hW.size)⟩
  have hs0 : (w.alloc (.cells #[.string s0, .string t0] 28)).drew.heap.size = w.heap.size + 1 := by simp
  have HB0 : Below w.heap.size w (w.alloc (.cells #[.string s0, .string t0] 28)) := (Below.refl _ w).alloc (Nat.le_refl _) _
  have HB1 : Hid (Below w.heap.size w ((w.alloc (.cells #[.string s0, .string t0] 28)).drew.alloc (.cells #[.string s0, .string t0] 9))) := HB0.drew.alloc (by rw [hs0]; omega) _
  have HC : Hid ((w.alloc (.cells #[.string s0, .string t0] 28)).cell? ⟨w.heap.size, 0, none⟩ = some (.string s0) ∧ (w.alloc (.cells #[.string s0, .string t0] 28)).cell? ⟨w.heap.size, 1, none⟩ = some (.string t0)) := by
    constructor
    · rw [cell_of_row _ w.heap.size 0 _ _ _ (heap_alloc_new w _)]; rfl
    · rw [cell_of_row _ w.heap.size 1 _ _ _ (heap_alloc_new w _)]; rfl
  have HSM := small_any 2 2 _ _ _ (Ss.two (w.alloc (.cells #[.string s0, .string t0] 28)).drew s0 t0) (fun i h => by
    match i, h with
    | 0, _ => exact z0
    | 1, _ => exact y0)
  rw [hs0] at HSM
  clear HB0 hs0
  by_cases hT : tot [s0, t0] ≤ 3000
  case neg =>
    rw [show decide (2 ≤ 20 ∧ tot [s0, t0] ≤ 3000) = false by simp [hT]] at HSM
    clear hT hL
    go_enter Tryd.func5, Tryd.ntmps5
    go_wp2
    refine wp_region_held_drew (S := fun W => W.cell? ⟨w.heap.size, 0, none⟩ = some (.string s0) ∧ W.cell? ⟨w.heap.size, 1, none⟩ = some (.string t0)) (by kernel_rfl) (HC.out) (fun hHeld => ?_)
    refine wpAnyH_take (i := 0) (v := ?vq_0) rfl (by kernel_rfl) (by kernel_rfl) (by kernel_rfl) (fun _ _ _ h => h) (Or.inl ⟨by kernel_rfl, ?yq_0⟩) hHeld ?rq_0
    case yq_0 => (intro W hSW; have hSW1 := hSW.1; have hSW2 := hSW.2; clear hSW; go_simp; (try with_reducible rfl))
    change wpAnyH _ _ _ _ _ _ _ (Act.put _ (some 11) _) _
    simp only [Act.put, List.setIfInBounds_toArray, List.set_cons_zero, List.set_cons_succ]
    refine wpAnyH_take (i := 1) (v := ?vq_1) rfl (by kernel_rfl) (by kernel_rfl) (by kernel_rfl) (fun _ _ _ h => h) (Or.inl ⟨by kernel_rfl, ?yq_1⟩) hHeld ?rq_1
    case yq_1 => (intro W hSW; have hSW1 := hSW.1; have hSW2 := hSW.2; clear hSW; go_simp; (try with_reducible rfl))
    change wpAnyH _ _ _ _ _ _ _ (Act.put _ (some 12) _) _
    simp only [Act.put, List.setIfInBounds_toArray, List.set_cons_zero, List.set_cons_succ]
    refine wpAnyH_take (i := 2) (v := ?vq_2) rfl (by kernel_rfl) (by kernel_rfl) (by kernel_rfl) (fun _ _ _ h => h) (Or.inl ⟨by kernel_rfl, ?yq_2⟩) hHeld ?rq_2
    case yq_2 => (intro W hSW; have hSW1 := hSW.1; have hSW2 := hSW.2; clear hSW; go_simp; (try with_reducible rfl))
    change wpAnyH _ _ _ _ _ _ _ (Act.put _ (some 13) _) _
    simp only [Act.put, List.setIfInBounds_toArray, List.set_cons_zero, List.set_cons_succ]
    refine wpAnyH_take (i := 3) (v := ?vq_3) rfl (by kernel_rfl) (by kernel_rfl) (by kernel_rfl) (fun _ _ _ h => h) (Or.inl ⟨by kernel_rfl, ?yq_3⟩) hHeld ?rq_3
    case yq_3 => (intro W hSW; have hSW1 := hSW.1; have hSW2 := hSW.2; clear hSW; go_simp; (try with_reducible rfl))
    change wpAnyH _ _ _ _ _ _ _ (Act.put _ (some 14) _) _
    simp only [Act.put, List.setIfInBounds_toArray, List.set_cons_zero, List.set_cons_succ]
    refine wpAnyH_take (i := 4) (v := ?vq_4) rfl (by kernel_rfl) (by kernel_rfl) (by kernel_rfl) (fun _ _ _ h => h) (Or.inl ⟨by kernel_rfl, ?yq_4⟩) hHeld ?rq_4
    case yq_4 => (intro W hSW; have hSW1 := hSW.1; have hSW2 := hSW.2; clear hSW; go_simp; (try with_reducible rfl))
    change wpAnyH _ _ _ _ _ _ _ (Act.put _ (some 7) _) _
    simp only [Act.put, List.setIfInBounds_toArray, List.set_cons_zero, List.set_cons_succ]
    refine wpAnyH_take (i := 5) (v := ?vq_5) rfl (by kernel_rfl) (by kernel_rfl) (by kernel_rfl) (fun _ _ _ h => h) (Or.inl ⟨by kernel_rfl, ?yq_5⟩) hHeld ?rq_5
    case yq_5 => (intro W hSW; have hSW1 := hSW.1; have hSW2 := hSW.2; clear hSW; go_simp; (try with_reducible rfl))
    change wpAnyH _ _ _ _ _ _ _ (Act.put _ (some 8) _) _
    simp only [Act.put, List.setIfInBounds_toArray, List.set_cons_zero, List.set_cons_succ]
    refine wpAnyH_done (by kernel_rfl) ?_ _
    go_wp2_with fail
    refine HSM.mono ?_
    rintro e w2 ⟨rfl, hw2⟩
    subst w2
    clear HSM
    go_wp2_with fail
    refine (HLV.out _ HB1.out).mono ?_
    rintro e w3 ⟨rfl, hB3⟩
    go_wp2
    go_ret
    exact ⟨rfl, hB3⟩
  rw [show decide (2 ≤ 20 ∧ tot [s0, t0] ≤ 3000) = true by simp [hT]] at HSM
  have hTs : s0.size + t0.size ≤ 3000 := by simpa [tot] using hT
  clear hT
  obtain ⟨T, hTe⟩ : ∃ T, sealL s0.data.toList t0.data.toList = T := ⟨_, rfl⟩
  have hTl : T.length = 32 := by rw [← hTe, sealL_len]
  obtain ⟨O, hO⟩ : ∃ O, strOf T = O := ⟨_, rfl⟩
  have hOs : O.size = 32 := by rw [← hO, strOf_size, hTl]
  have HSE : Hid (∀ W, Below w.heap.size w W → Calls Tryd.prog 11 #[.string s0, .string t0] W fun e w' => e = .returned (.string O) ∧ Below w.heap.size w w') := by
      intro W hW
      rw [← hO, ← hTe]
      refine (seal_any s0 t0 W (by omega) (by omega) (hL.below hW)).mono ?_
      rintro e w' ⟨rfl, hb⟩
      exact ⟨rfl, hW.trans (hb.mono hW.size)⟩
  have HCK : Hid (∀ (X : ByteArray) (b : Bool) (W : World), decide (X.data.toList = T) = b → Below w.heap.size w W → Calls Tryd.prog 13 #[.string s0, .string t0, .string X] W fun e w' => e = .returned (.bool b) ∧ Below w.heap.size w w') := by
    intro X b W hX hW
    rw [← hX, ← hTe]
    refine (check_any s0 t0 X W (by omega) (by omega) (hL.below hW)).mono ?_
    rintro e w' ⟨rfl, hb⟩
    exact ⟨rfl, hW.trans (hb.mono hW.size)⟩
  obtain ⟨c, hc⟩ : ∃ c : Nat, (c : Int) = x2 := ⟨x2.toNat, by omega⟩
  subst hc
  have hc8 : c < 256 := by omega
  obtain ⟨q, hq⟩ : ∃ q, Int.tmod x1 32 = q := ⟨_, rfl⟩
  have hq1 : -32 < q ∧ q < 32 := by
    rw [← hq]
    constructor
    · have := Int.lt_tmod_of_pos x1 (b := 32) (by omega); omega
    · exact Int.tmod_lt_of_pos x1 (by omega)
  have hqw : IntKind.i64.wrap (Int.tmod x1 32) = q := by rw [hq, IntKind.wrap_i64]; omega
  -- what follows once the place p is known
  have HP : Hid (∀ p : Nat, p < 32 → ∃ (A B : ByteArray) (y zz : Nat), A.size = p ∧ B.size = 31 - p ∧ y < 256 ∧ zz < 256 ∧ (∀ W, (Instr.sliceAt 9 (.string O) none (some (.int .i64 (p : Int))) none).run Tryd.prog W = .ok (.string A) W) ∧
      (∀ W, (Instr.index 9 (.string O) (.int .i64 (p : Int))).run Tryd.prog W = .ok (.int .u8 (y : Int)) W) ∧ bits BinOp.xor IntKind.u8 (y : Int) (c : Int) = (zz : Int) ∧ (∀ W, (Instr.sliceAt 9 (.string O) (some (.int .i64 ((p + 1 : Nat) : Int))) none none).run Tryd.prog W = .ok (.string B) W) ∧
      decide ((A ++ strOf [UInt8.ofNat zz] ++ B).data.toList = T) = decide (c = 0) ∧ decide (A.data.toList = T) = false ∧ decide ((O ++ strOf [UInt8.ofNat c]).data.toList = T) = false) := by
    intro p hp
    have eA : O.extract 0 p = strOf (T.take p) := by rw [← hO, strOf_upto]
    have eB : O.extract (p + 1) O.size = strOf (T.drop (p + 1)) := by rw [← hO, strOf_from]
    have hy8 : (T.getD p 0).toNat < 256 := UInt8.toNat_lt _
    refine ⟨strOf (T.take p), strOf (T.drop (p + 1)), (T.getD p 0).toNat, (T.getD p 0).toNat ^^^ c, by rw [strOf_size, List.length_take]; omega, by rw [strOf_size, List.length_drop]; omega, hy8, Nat.xor_lt_two_pow (n := 8) hy8 hc8, ?_, ?_, u8_xor_nat _ _ hy8 hc8, ?_, ?_, ?_, ?_⟩
    · intro W; rw [← eA]; exact sslice_to O p (by omega) W
    · exact str_at O p _ (by omega) (by rw [← hO, strOf_list])
    · intro W; rw [← eB]; exact sslice_from O (p + 1) (by omega) W
    · rw [decide_eq_decide, ← turn_list T p c _ _ (by omega) hc8 rfl rfl]
      have e : (strOf (T.take p) ++ strOf [UInt8.ofNat ((T.getD p 0).toNat ^^^ c)] ++ strOf (T.drop (p + 1))).data.toList = T.take p ++ [UInt8.ofNat ((T.getD p 0).toNat ^^^ c)] ++ T.drop (p + 1) := by
        rw [← strOf_append, ← strOf_append, strOf_list]
      rw [e]
    · rw [decide_eq_false_iff_not, strOf_list]
      intro h
      have := congrArg List.length h
      rw [List.length_take] at this
      omega
    · rw [decide_eq_false_iff_not, ← hO, ← strOf_append, strOf_list]
      intro h
      have := congrArg List.length h
      simp at this
  clear hTe hO hTl hL hTs
  by_cases hneg : q < 0
  · obtain ⟨p, hpe⟩ : ∃ p : Nat, (p : Int) = q + 32 := ⟨(q + 32).toNat, by omega⟩
    have hp : p < 32 := by omega
    have hqp : q + 32 = (p : Int) := hpe.symm
    have hqpw : IntKind.i64.wrap (q + 32) = (p : Int) := by rw [IntKind.wrap_i64]; omega
    clear hpe
    obtain ⟨A, B, y, zz, hAs, hBs, hy8, hz8, hsA, hix, hxr, hsB, hd1, hd2, hd3⟩ := HP.out p hp
    obtain ⟨p1, hp1⟩ : ∃ p1, p1 = p + 1 := ⟨_, rfl⟩
    rw [← hp1] at hsB
    have hpw : IntKind.i64.wrap (p1 : Int) = (p1 : Int) := by rw [IntKind.wrap_i64]; omega
    have hpi : (p : Int) + 1 = (p1 : Int) := by omega
    obtain ⟨r, hr⟩ : ∃ r, r = 31 - p := ⟨_, rfl⟩
    rw [← hr] at hBs
    have hcat1 : ¬ 9223372036854775807 < p + 1 := by omega
    have hcat2 : ¬ 9223372036854775807 < p + 1 + r := by omega
    clear hr
    have hz1 : (strOf [UInt8.ofNat zz]).size = 1 := rfl
    have hc1 : (strOf [UInt8.ofNat c]).size = 1 := rfl
    have HP1 : Hid (p1 = p + 1) := hp1
    have HD1 : Hid (decide ((A ++ strOf [UInt8.ofNat zz] ++ B).data.toList = T) = decide (c = 0)) := hd1
    have HD2 : Hid (decide (A.data.toList = T) = false) := hd2
    have HD3 : Hid (decide ((O ++ strOf [UInt8.ofNat c]).data.toList = T) = false) := hd3
    clear hp1 HP hd1 hd2 hd3
    go_enter Tryd.func5, Tryd.ntmps5
    go_wp2
    refine wp_region_held_drew (S := fun W => W.cell? ⟨w.heap.size, 0, none⟩ = some (.string s0) ∧ W.cell? ⟨w.heap.size, 1, none⟩ = some (.string t0)) (by kernel_rfl) (HC.out) (fun hHeld => ?_)
    refine wpAnyH_take (i := 0) (v := ?vr_0) rfl (by kernel_rfl) (by kernel_rfl) (by kernel_rfl) (fun _ _ _ h => h) (Or.inl ⟨by kernel_rfl, ?yr_0⟩) hHeld ?rr_0
    case yr_0 => (intro W hSW; have hSW1 := hSW.1; have hSW2 := hSW.2; clear hSW; go_simp; (try with_reducible rfl))
    change wpAnyH _ _ _ _ _ _ _ (Act.put _ (some 11) _) _
    simp only [Act.put, List.setIfInBounds_toArray, List.set_cons_zero, List.set_cons_succ]
    refine wpAnyH_take (i := 1) (v := ?vr_1) rfl (by kernel_rfl) (by kernel_rfl) (by kernel_rfl) (fun _ _ _ h => h) (Or.inl ⟨by kernel_rfl, ?yr_1⟩) hHeld ?rr_1
    case yr_1 => (intro W hSW; have hSW1 := hSW.1; have hSW2 := hSW.2; clear hSW; go_simp; (try with_reducible rfl))
    change wpAnyH _ _ _ _ _ _ _ (Act.put _ (some 12) _) _
    simp only [Act.put, List.setIfInBounds_toArray, List.set_cons_zero, List.set_cons_succ]
    refine wpAnyH_take (i := 2) (v := ?vr_2) rfl (by kernel_rfl) (by kernel_rfl) (by kernel_rfl) (fun _ _ _ h => h) (Or.inl ⟨by kernel_rfl, ?yr_2⟩) hHeld ?rr_2
    case yr_2 => (intro W hSW; have hSW1 := hSW.1; have hSW2 := hSW.2; clear hSW; go_simp; (try with_reducible rfl))
    change wpAnyH _ _ _ _ _ _ _ (Act.put _ (some 13) _) _
    simp only [Act.put, List.setIfInBounds_toArray, List.set_cons_zero, List.set_cons_succ]
    refine wpAnyH_take (i := 3) (v := ?vr_3) rfl (by kernel_rfl) (by kernel_rfl) (by kernel_rfl) (fun _ _ _ h => h) (Or.inl ⟨by kernel_rfl, ?yr_3⟩) hHeld ?rr_3
    case yr_3 => (intro W hSW; have hSW1 := hSW.1; have hSW2 := hSW.2; clear hSW; go_simp; (try with_reducible rfl))
    change wpAnyH _ _ _ _ _ _ _ (Act.put _ (some 14) _) _
    simp only [Act.put, List.setIfInBounds_toArray, List.set_cons_zero, List.set_cons_succ]
    refine wpAnyH_take (i := 4) (v := ?vr_4) rfl (by kernel_rfl) (by kernel_rfl) (by kernel_rfl) (fun _ _ _ h => h) (Or.inl ⟨by kernel_rfl, ?yr_4⟩) hHeld ?rr_4
    case yr_4 => (intro W hSW; have hSW1 := hSW.1; have hSW2 := hSW.2; clear hSW; go_simp; (try with_reducible rfl))
    change wpAnyH _ _ _ _ _ _ _ (Act.put _ (some 7) _) _
    simp only [Act.put, List.setIfInBounds_toArray, List.set_cons_zero, List.set_cons_succ]
    refine wpAnyH_take (i := 5) (v := ?vr_5) rfl (by kernel_rfl) (by kernel_rfl) (by kernel_rfl) (fun _ _ _ h => h) (Or.inl ⟨by kernel_rfl, ?yr_5⟩) hHeld ?rr_5
    case yr_5 => (intro W hSW; have hSW1 := hSW.1; have hSW2 := hSW.2; clear hSW; go_simp; (try with_reducible rfl))
    change wpAnyH _ _ _ _ _ _ _ (Act.put _ (some 8) _) _
    simp only [Act.put, List.setIfInBounds_toArray, List.set_cons_zero, List.set_cons_succ]
    refine wpAnyH_done (by kernel_rfl) ?_ _
    go_wp2_with fail
    refine HSM.mono ?_
    rintro e w2 ⟨rfl, hw2⟩
    subst w2
    clear HSM
    go_wp2_with fail
    refine (HSE.out _ HB1.out).mono ?_
    rintro e w3 ⟨rfl, hB3⟩
    go_wp2
    refine wp_region_held_drew (S := fun _ => True) (by kernel_rfl) (trivial) (fun hHeld => ?_)
    refine wpAnyH_take (i := 0) (v := ?vs_0) rfl (by kernel_rfl) (by kernel_rfl) (by kernel_rfl) (fun _ _ _ h => h) (Or.inl ⟨by kernel_rfl, ?ys_0⟩) hHeld ?rs_0
    case ys_0 => (intro W hSW; (try dsimp only at hSW); go_simp; (try with_reducible rfl))
    change wpAnyH _ _ _ _ _ _ _ (Act.put _ (some 33) _) _
    simp only [Act.put, List.setIfInBounds_toArray, List.set_cons_zero, List.set_cons_succ]
    refine wpAnyH_take (i := 1) (v := ?vs_1) rfl (by kernel_rfl) (by kernel_rfl) (by kernel_rfl) (fun _ _ _ h => h) (Or.inl ⟨by kernel_rfl, ?ys_1⟩) hHeld ?rs_1
    case ys_1 => (intro W hSW; (try dsimp only at hSW); go_simp; (try with_reducible rfl))
    change wpAnyH _ _ _ _ _ _ _ (Act.put _ (some 34) _) _
    simp only [Act.put, List.setIfInBounds_toArray, List.set_cons_zero, List.set_cons_succ]
    refine wpAnyH_take (i := 2) (v := ?vs_2) rfl (by kernel_rfl) (by kernel_rfl) (by kernel_rfl) (fun _ _ _ h => h) (Or.inl ⟨by kernel_rfl, ?ys_2⟩) hHeld ?rs_2
    case ys_2 => (intro W hSW; (try dsimp only at hSW); go_simp; (try with_reducible rfl))
    change wpAnyH _ _ _ _ _ _ _ (Act.put _ (some 35) _) _
    simp only [Act.put, List.setIfInBounds_toArray, List.set_cons_zero, List.set_cons_succ]
    refine wpAnyH_take (i := 3) (v := ?vs_3) rfl (by kernel_rfl) (by kernel_rfl) (by kernel_rfl) (fun _ _ _ h => h) (Or.inl ⟨by kernel_rfl, ?ys_3⟩) hHeld ?rs_3
    case ys_3 => (intro W hSW; (try dsimp only at hSW); go_simp; (try with_reducible rfl))
    change wpAnyH _ _ _ _ _ _ _ (Act.put _ (some 36) _) _
    simp only [Act.put, List.setIfInBounds_toArray, List.set_cons_zero, List.set_cons_succ]
    refine wpAnyH_take (i := 4) (v := ?vs_4) rfl (by kernel_rfl) (by kernel_rfl) (by kernel_rfl) (fun _ _ _ h => h) (Or.inl ⟨by kernel_rfl, ?ys_4⟩) hHeld ?rs_4
    case ys_4 => (intro W hSW; (try dsimp only at hSW); go_simp; (try with_reducible rfl))
    change wpAnyH _ _ _ _ _ _ _ (Act.put _ (some 37) _) _
    simp only [Act.put, List.setIfInBounds_toArray, List.set_cons_zero, List.set_cons_succ]
    refine wpAnyH_take (i := 5) (v := ?vs_5) rfl (by kernel_rfl) (by kernel_rfl) (by kernel_rfl) (fun _ _ _ h => h) (Or.inl ⟨by kernel_rfl, ?ys_5⟩) hHeld ?rs_5
    case ys_5 => (intro W hSW; (try dsimp only at hSW); go_simp; (try with_reducible rfl))
    change wpAnyH _ _ _ _ _ _ _ (Act.put _ (some 38) _) _
    simp only [Act.put, List.setIfInBounds_toArray, List.set_cons_zero, List.set_cons_succ]
    refine wpAnyH_take (i := 6) (v := ?vs_6) rfl (by kernel_rfl) (by kernel_rfl) (by kernel_rfl) (fun _ _ _ h => h) (Or.inl ⟨by kernel_rfl, ?ys_6⟩) hHeld ?rs_6
    case ys_6 => (intro W hSW; (try dsimp only at hSW); go_simp; (try with_reducible rfl))
    change wpAnyH _ _ _ _ _ _ _ (Act.put _ (some 39) _) _
    simp only [Act.put, List.setIfInBounds_toArray, List.set_cons_zero, List.set_cons_succ]
    refine wpAnyH_take (i := 7) (v := ?vs_7) rfl (by kernel_rfl) (by kernel_rfl) (by kernel_rfl) (fun _ _ _ h => h) (Or.inl ⟨by kernel_rfl, ?ys_7⟩) hHeld ?rs_7
    case ys_7 => (intro W hSW; (try dsimp only at hSW); go_simp; (try with_reducible rfl))
    change wpAnyH _ _ _ _ _ _ _ (Act.put _ (some 40) _) _
    simp only [Act.put, List.setIfInBounds_toArray, List.set_cons_zero, List.set_cons_succ]
    refine wpAnyH_take (i := 11) (v := ?vs_11) rfl (by kernel_rfl) (by kernel_rfl) (by kernel_rfl) (fun _ _ _ h => h) (Or.inl ⟨by kernel_rfl, ?ys_11⟩) hHeld ?rs_11
    case ys_11 => (intro W hSW; (try dsimp only at hSW); go_simp; (try with_reducible rfl))
    change wpAnyH _ _ _ _ _ _ _ (Act.put _ (some 44) _) _
    simp only [Act.put, List.setIfInBounds_toArray, List.set_cons_zero, List.set_cons_succ]
    refine wpAnyH_take (i := 12) (v := ?vs_12) rfl (by kernel_rfl) (by kernel_rfl) (by kernel_rfl) (fun _ _ _ h => h) (Or.inl ⟨by kernel_rfl, ?ys_12⟩) hHeld ?rs_12
    case ys_12 => (intro W hSW; (try dsimp only at hSW); go_simp; (try with_reducible rfl))
    change wpAnyH _ _ _ _ _ _ _ (Act.put _ (some 45) _) _
    simp only [Act.put, List.setIfInBounds_toArray, List.set_cons_zero, List.set_cons_succ]
    refine wpAnyH_take (i := 13) (v := ?vs_13) rfl (by kernel_rfl) (by kernel_rfl) (by kernel_rfl) (fun _ _ _ h => h) (Or.inl ⟨by kernel_rfl, ?ys_13⟩) hHeld ?rs_13
    case ys_13 => (intro W hSW; (try dsimp only at hSW); go_simp; (try with_reducible rfl))
    change wpAnyH _ _ _ _ _ _ _ (Act.put _ (some 46) _) _
    simp only [Act.put, List.setIfInBounds_toArray, List.set_cons_zero, List.set_cons_succ]
    refine wpAnyH_take (i := 14) (v := ?vs_14) rfl (by kernel_rfl) (by kernel_rfl) (by kernel_rfl) (fun _ _ _ h => h) (Or.inl ⟨by kernel_rfl, ?ys_14⟩) hHeld ?rs_14
    case ys_14 => (intro W hSW; (try dsimp only at hSW); go_simp; (try with_reducible rfl))
    change wpAnyH _ _ _ _ _ _ _ (Act.put _ (some 47) _) _
    simp only [Act.put, List.setIfInBounds_toArray, List.set_cons_zero, List.set_cons_succ]
    refine wpAnyH_ready (rs := [8]) (by kernel_rfl) (by simp) ?_
    refine AllReadyH.cons rfl (fun K hK => ?_) AllReadyH.nil
    go_simp
    refine hK.out _ _ (trivial) (fun hHeld => ?_)
    clear hK K
    refine wpAnyH_strengthen (S' := fun (W : World) => W.cell? ⟨w3.heap.size, 0, none⟩ = some (Value.int .u8 (zz : Int))) (fun _ _ => trivial) ?_
    have hHeld : (fun (W : World) => W.cell? ⟨w3.heap.size, 0, none⟩ = some (Value.int .u8 (zz : Int))) (w3.drew.alloc (.cells #[.int .u8 (zz : Int)] 5)) := by show World.cell? _ _ = _; rw [cell_of_row _ w3.heap.size 0 _ _ _ (heap_alloc_new w3.drew _)]; rfl
    refine wpAnyH_take (i := 9) (v := ?vs_9) rfl (by kernel_rfl) (by kernel_rfl) (by kernel_rfl) (fun _ _ _ h => h) (Or.inl ⟨by kernel_rfl, ?ys_9⟩) hHeld ?rs_9
    case ys_9 => (intro W hSW; have hcw := conv_one W w3.heap.size 1 zz hSW; go_simp; (try with_reducible rfl))
    change wpAnyH _ _ _ _ _ _ _ (Act.put _ (some 42) _) _
    simp only [Act.put, List.setIfInBounds_toArray, List.set_cons_zero, List.set_cons_succ]
    refine wpAnyH_take (i := 10) (v := ?vs_10) rfl (by kernel_rfl) (by kernel_rfl) (by kernel_rfl) (fun _ _ _ h => h) (Or.inl ⟨by kernel_rfl, ?ys_10⟩) hHeld ?rs_10
    case ys_10 => (intro W hSW; (try dsimp only at hSW); go_simp; (try with_reducible rfl))
    change wpAnyH _ _ _ _ _ _ _ (Act.put _ (some 43) _) _
    simp only [Act.put, List.setIfInBounds_toArray, List.set_cons_zero, List.set_cons_succ]
    refine wpAnyH_take (i := 15) (v := ?vs_15) rfl (by kernel_rfl) (by kernel_rfl) (by kernel_rfl) (fun _ _ _ h => h) (Or.inl ⟨by kernel_rfl, ?ys_15⟩) hHeld ?rs_15
    case ys_15 => (intro W hSW; (try dsimp only at hSW); go_simp; (try with_reducible rfl))
    change wpAnyH _ _ _ _ _ _ _ (Act.put _ (some 48) _) _
    simp only [Act.put, List.setIfInBounds_toArray, List.set_cons_zero, List.set_cons_succ]
    refine wpAnyH_take (i := 16) (v := ?vs_16) rfl (by kernel_rfl) (by kernel_rfl) (by kernel_rfl) (fun _ _ _ h => h) (Or.inl ⟨by kernel_rfl, ?ys_16⟩) hHeld ?rs_16
    case ys_16 => (intro W hSW; (try dsimp only at hSW); go_simp; (try with_reducible rfl))
    change wpAnyH _ _ _ _ _ _ _ (Act.put _ (some 10) _) _
    simp only [Act.put, List.setIfInBounds_toArray, List.set_cons_zero, List.set_cons_succ]
    refine wpAnyH_done (by kernel_rfl) ?_ _
    have hB3' : Below w.heap.size w (w3.drew.alloc (.cells #[.int .u8 (zz : Int)] 5)) := hB3.drew.alloc hB3.size _
    have HK := HCK.out (A ++ strOf [UInt8.ofNat zz] ++ B) (decide (c = 0)) _ HD1.out hB3'
    clear hB3'
    by_cases h0 : c = 0
    · have k0 : ((c : Int) == 0) = true := by simp; omega
      rw [show decide (c = 0) = true by simp [h0]] at HK
      clear h0
      go_wp2_with fail
      refine (HK).mono ?_
      rintro e w5 ⟨rfl, hB5⟩
      have HK5 := HCK.out A false w5 HD2.out hB5
      go_wp2_with fail
      refine (HK5).mono ?_
      rintro e w6 ⟨rfl, hB6⟩
      have hcv6 := fun (W : World) => conv_one W w6.heap.size 1 c
      have HK6 := HCK.out (O ++ strOf [UInt8.ofNat c]) false (w6.alloc (.cells #[.int .u8 (c : Int)] 5)) HD3.out (hB6.alloc hB6.size _)
      go_wp2_with fail
      refine (HK6).mono ?_
      rintro e w7 ⟨rfl, hB7⟩
      have HL7 := HLV.out w7 hB7
      go_wp2_with fail
      refine (HL7).mono ?_
      rintro e w8 ⟨rfl, hB8⟩
      go_wp2
      go_ret
      exact ⟨rfl, hB8⟩
    · have k0 : ((c : Int) == 0) = false := by simp; omega
      rw [show decide (c = 0) = false by simp [h0]] at HK
      clear h0
      go_wp2_with fail
      refine (HK).mono ?_
      rintro e w5 ⟨rfl, hB5⟩
      have HK5 := HCK.out A false w5 HD2.out hB5
      go_wp2_with fail
      refine (HK5).mono ?_
      rintro e w6 ⟨rfl, hB6⟩
      have hcv6 := fun (W : World) => conv_one W w6.heap.size 1 c
      have HK6 := HCK.out (O ++ strOf [UInt8.ofNat c]) false (w6.alloc (.cells #[.int .u8 (c : Int)] 5)) HD3.out (hB6.alloc hB6.size _)
      go_wp2_with fail
      refine (HK6).mono ?_
      rintro e w7 ⟨rfl, hB7⟩
      have HL7 := HLV.out w7 hB7
      go_wp2_with fail
      refine (HL7).mono ?_
      rintro e w8 ⟨rfl, hB8⟩
      go_wp2
      go_ret
      exact ⟨rfl, hB8⟩
  · obtain ⟨p, hpe⟩ : ∃ p : Nat, (p : Int) = q := ⟨q.toNat, by omega⟩
    have hp : p < 32 := by omega
    have hpn : ¬ (p : Int) < 0 := by omega
    subst hpe
    obtain ⟨A, B, y, zz, hAs, hBs, hy8, hz8, hsA, hix, hxr, hsB, hd1, hd2, hd3⟩ := HP.out p hp
    obtain ⟨p1, hp1⟩ : ∃ p1, p1 = p + 1 := ⟨_, rfl⟩
    rw [← hp1] at hsB
    have hpw : IntKind.i64.wrap (p1 : Int) = (p1 : Int) := by rw [IntKind.wrap_i64]; omega
    have hpi : (p : Int) + 1 = (p1 : Int) := by omega
    obtain ⟨r, hr⟩ : ∃ r, r = 31 - p := ⟨_, rfl⟩
    rw [← hr] at hBs
    have hcat1 : ¬ 9223372036854775807 < p + 1 := by omega
    have hcat2 : ¬ 9223372036854775807 < p + 1 + r := by omega
    clear hr
    have hz1 : (strOf [UInt8.ofNat zz]).size = 1 := rfl
    have hc1 : (strOf [UInt8.ofNat c]).size = 1 := rfl
    have HP1 : Hid (p1 = p + 1) := hp1
    have HD1 : Hid (decide ((A ++ strOf [UInt8.ofNat zz] ++ B).data.toList = T) = decide (c = 0)) := hd1
    have HD2 : Hid (decide (A.data.toList = T) = false) := hd2
    have HD3 : Hid (decide ((O ++ strOf [UInt8.ofNat c]).data.toList = T) = false) := hd3
    clear hp1 HP hd1 hd2 hd3
    go_enter Tryd.func5, Tryd.ntmps5
    go_wp2
    refine wp_region_held_drew (S := fun W => W.cell? ⟨w.heap.size, 0, none⟩ = some (.string s0) ∧ W.cell? ⟨w.heap.size, 1, none⟩ = some (.string t0)) (by kernel_rfl) (HC.out) (fun hHeld => ?_)
    refine wpAnyH_take (i := 0) (v := ?vt_0) rfl (by kernel_rfl) (by kernel_rfl) (by kernel_rfl) (fun _ _ _ h => h) (Or.inl ⟨by kernel_rfl, ?yt_0⟩) hHeld ?rt_0
    case yt_0 => (intro W hSW; have hSW1 := hSW.1; have hSW2 := hSW.2; clear hSW; go_simp; (try with_reducible rfl))
    change wpAnyH _ _ _ _ _ _ _ (Act.put _ (some 11) _) _
    simp only [Act.put, List.setIfInBounds_toArray, List.set_cons_zero, List.set_cons_succ]
    refine wpAnyH_take (i := 1) (v := ?vt_1) rfl (by kernel_rfl) (by kernel_rfl) (by kernel_rfl) (fun _ _ _ h => h) (Or.inl ⟨by kernel_rfl, ?yt_1⟩) hHeld ?rt_1
    case yt_1 => (intro W hSW; have hSW1 := hSW.1; have hSW2 := hSW.2; clear hSW; go_simp; (try with_reducible rfl))
    change wpAnyH _ _ _ _ _ _ _ (Act.put _ (some 12) _) _
    simp only [Act.put, List.setIfInBounds_toArray, List.set_cons_zero, List.set_cons_succ]
    refine wpAnyH_take (i := 2) (v := ?vt_2) rfl (by kernel_rfl) (by kernel_rfl) (by kernel_rfl) (fun _ _ _ h => h) (Or.inl ⟨by kernel_rfl, ?yt_2⟩) hHeld ?rt_2
    case yt_2 => (intro W hSW; have hSW1 := hSW.1; have hSW2 := hSW.2; clear hSW; go_simp; (try with_reducible rfl))
    change wpAnyH _ _ _ _ _ _ _ (Act.put _ (some 13) _) _
    simp only [Act.put, List.setIfInBounds_toArray, List.set_cons_zero, List.set_cons_succ]
    refine wpAnyH_take (i := 3) (v := ?vt_3) rfl (by kernel_rfl) (by kernel_rfl) (by kernel_rfl) (fun _ _ _ h => h) (Or.inl ⟨by kernel_rfl, ?yt_3⟩) hHeld ?rt_3
    case yt_3 => (intro W hSW; have hSW1 := hSW.1; have hSW2 := hSW.2; clear hSW; go_simp; (try with_reducible rfl))
    change wpAnyH _ _ _ _ _ _ _ (Act.put _ (some 14) _) _
    simp only [Act.put, List.setIfInBounds_toArray, List.set_cons_zero, List.set_cons_succ]
    refine wpAnyH_take (i := 4) (v := ?vt_4) rfl (by kernel_rfl) (by kernel_rfl) (by kernel_rfl) (fun _ _ _ h => h) (Or.inl ⟨by kernel_rfl, ?yt_4⟩) hHeld ?rt_4
    case yt_4 => (intro W hSW; have hSW1 := hSW.1; have hSW2 := hSW.2; clear hSW; go_simp; (try with_reducible rfl))
    change wpAnyH _ _ _ _ _ _ _ (Act.put _ (some 7) _) _
    simp only [Act.put, List.setIfInBounds_toArray, List.set_cons_zero, List.set_cons_succ]
    refine wpAnyH_take (i := 5) (v := ?vt_5) rfl (by kernel_rfl) (by kernel_rfl) (by kernel_rfl) (fun _ _ _ h => h) (Or.inl ⟨by kernel_rfl, ?yt_5⟩) hHeld ?rt_5
    case yt_5 => (intro W hSW; have hSW1 := hSW.1; have hSW2 := hSW.2; clear hSW; go_simp; (try with_reducible rfl))
    change wpAnyH _ _ _ _ _ _ _ (Act.put _ (some 8) _) _
    simp only [Act.put, List.setIfInBounds_toArray, List.set_cons_zero, List.set_cons_succ]
    refine wpAnyH_done (by kernel_rfl) ?_ _
    go_wp2_with fail
    refine HSM.mono ?_
    rintro e w2 ⟨rfl, hw2⟩
    subst w2
    clear HSM
    go_wp2_with fail
    refine (HSE.out _ HB1.out).mono ?_
    rintro e w3 ⟨rfl, hB3⟩
    go_wp2
    refine wp_region_held_drew (S := fun _ => True) (by kernel_rfl) (trivial) (fun hHeld => ?_)
    refine wpAnyH_take (i := 0) (v := ?vu_0) rfl (by kernel_rfl) (by kernel_rfl) (by kernel_rfl) (fun _ _ _ h => h) (Or.inl ⟨by kernel_rfl, ?yu_0⟩) hHeld ?ru_0
    case yu_0 => (intro W hSW; (try dsimp only at hSW); go_simp; (try with_reducible rfl))
    change wpAnyH _ _ _ _ _ _ _ (Act.put _ (some 33) _) _
    simp only [Act.put, List.setIfInBounds_toArray, List.set_cons_zero, List.set_cons_succ]
    refine wpAnyH_take (i := 1) (v := ?vu_1) rfl (by kernel_rfl) (by kernel_rfl) (by kernel_rfl) (fun _ _ _ h => h) (Or.inl ⟨by kernel_rfl, ?yu_1⟩) hHeld ?ru_1
    case yu_1 => (intro W hSW; (try dsimp only at hSW); go_simp; (try with_reducible rfl))
    change wpAnyH _ _ _ _ _ _ _ (Act.put _ (some 34) _) _
    simp only [Act.put, List.setIfInBounds_toArray, List.set_cons_zero, List.set_cons_succ]
    refine wpAnyH_take (i := 2) (v := ?vu_2) rfl (by kernel_rfl) (by kernel_rfl) (by kernel_rfl) (fun _ _ _ h => h) (Or.inl ⟨by kernel_rfl, ?yu_2⟩) hHeld ?ru_2
    case yu_2 => (intro W hSW; (try dsimp only at hSW); go_simp; (try with_reducible rfl))
    change wpAnyH _ _ _ _ _ _ _ (Act.put _ (some 35) _) _
    simp only [Act.put, List.setIfInBounds_toArray, List.set_cons_zero, List.set_cons_succ]
    refine wpAnyH_take (i := 3) (v := ?vu_3) rfl (by kernel_rfl) (by kernel_rfl) (by kernel_rfl) (fun _ _ _ h => h) (Or.inl ⟨by kernel_rfl, ?yu_3⟩) hHeld ?ru_3
    case yu_3 => (intro W hSW; (try dsimp only at hSW); go_simp; (try with_reducible rfl))
    change wpAnyH _ _ _ _ _ _ _ (Act.put _ (some 36) _) _
    simp only [Act.put, List.setIfInBounds_toArray, List.set_cons_zero, List.set_cons_succ]
    refine wpAnyH_take (i := 4) (v := ?vu_4) rfl (by kernel_rfl) (by kernel_rfl) (by kernel_rfl) (fun _ _ _ h => h) (Or.inl ⟨by kernel_rfl, ?yu_4⟩) hHeld ?ru_4
    case yu_4 => (intro W hSW; (try dsimp only at hSW); go_simp; (try with_reducible rfl))
    change wpAnyH _ _ _ _ _ _ _ (Act.put _ (some 37) _) _
    simp only [Act.put, List.setIfInBounds_toArray, List.set_cons_zero, List.set_cons_succ]
    refine wpAnyH_take (i := 5) (v := ?vu_5) rfl (by kernel_rfl) (by kernel_rfl) (by kernel_rfl) (fun _ _ _ h => h) (Or.inl ⟨by kernel_rfl, ?yu_5⟩) hHeld ?ru_5
    case yu_5 => (intro W hSW; (try dsimp only at hSW); go_simp; (try with_reducible rfl))
    change wpAnyH _ _ _ _ _ _ _ (Act.put _ (some 38) _) _
    simp only [Act.put, List.setIfInBounds_toArray, List.set_cons_zero, List.set_cons_succ]
    refine wpAnyH_take (i := 6) (v := ?vu_6) rfl (by kernel_rfl) (by kernel_rfl) (by kernel_rfl) (fun _ _ _ h => h) (Or.inl ⟨by kernel_rfl, ?yu_6⟩) hHeld ?ru_6
    case yu_6 => (intro W hSW; (try dsimp only at hSW); go_simp; (try with_reducible rfl))
    change wpAnyH _ _ _ _ _ _ _ (Act.put _ (some 39) _) _
    simp only [Act.put, List.setIfInBounds_toArray, List.set_cons_zero, List.set_cons_succ]
    refine wpAnyH_take (i := 7) (v := ?vu_7) rfl (by kernel_rfl) (by kernel_rfl) (by kernel_rfl) (fun _ _ _ h => h) (Or.inl ⟨by kernel_rfl, ?yu_7⟩) hHeld ?ru_7
    case yu_7 => (intro W hSW; (try dsimp only at hSW); go_simp; (try with_reducible rfl))
    change wpAnyH _ _ _ _ _ _ _ (Act.put _ (some 40) _) _
    simp only [Act.put, List.setIfInBounds_toArray, List.set_cons_zero, List.set_cons_succ]
    refine wpAnyH_take (i := 11) (v := ?vu_11) rfl (by kernel_rfl) (by kernel_rfl) (by kernel_rfl) (fun _ _ _ h => h) (Or.inl ⟨by kernel_rfl, ?yu_11⟩) hHeld ?ru_11
    case yu_11 => (intro W hSW; (try dsimp only at hSW); go_simp; (try with_reducible rfl))
    change wpAnyH _ _ _ _ _ _ _ (Act.put _ (some 44) _) _
    simp only [Act.put, List.setIfInBounds_toArray, List.set_cons_zero, List.set_cons_succ]
    refine wpAnyH_take (i := 12) (v := ?vu_12) rfl (by kernel_rfl) (by kernel_rfl) (by kernel_rfl) (fun _ _ _ h => h) (Or.inl ⟨by kernel_rfl, ?yu_12⟩) hHeld ?ru_12
    case yu_12 => (intro W hSW; (try dsimp only at hSW); go_simp; (try with_reducible rfl))
    change wpAnyH _ _ _ _ _ _ _ (Act.put _ (some 45) _) _
    simp only [Act.put, List.setIfInBounds_toArray, List.set_cons_zero, List.set_cons_succ]
    refine wpAnyH_take (i := 13) (v := ?vu_13) rfl (by kernel_rfl) (by kernel_rfl) (by kernel_rfl) (fun _ _ _ h => h) (Or.inl ⟨by kernel_rfl, ?yu_13⟩) hHeld ?ru_13
    case yu_13 => (intro W hSW; (try dsimp only at hSW); go_simp; (try with_reducible rfl))
    change wpAnyH _ _ _ _ _ _ _ (Act.put _ (some 46) _) _
    simp only [Act.put, List.setIfInBounds_toArray, List.set_cons_zero, List.set_cons_succ]
    refine wpAnyH_take (i := 14) (v := ?vu_14) rfl (by kernel_rfl) (by kernel_rfl) (by kernel_rfl) (fun _ _ _ h => h) (Or.inl ⟨by kernel_rfl, ?yu_14⟩) hHeld ?ru_14
    case yu_14 => (intro W hSW; (try dsimp only at hSW); go_simp; (try with_reducible rfl))
    change wpAnyH _ _ _ _ _ _ _ (Act.put _ (some 47) _) _
    simp only [Act.put, List.setIfInBounds_toArray, List.set_cons_zero, List.set_cons_succ]
    refine wpAnyH_ready (rs := [8]) (by kernel_rfl) (by simp) ?_
    refine AllReadyH.cons rfl (fun K hK => ?_) AllReadyH.nil
    go_simp
    refine hK.out _ _ (trivial) (fun hHeld => ?_)
    clear hK K
    refine wpAnyH_strengthen (S' := fun (W : World) => W.cell? ⟨w3.heap.size, 0, none⟩ = some (Value.int .u8 (zz : Int))) (fun _ _ => trivial) ?_
    have hHeld : (fun (W : World) => W.cell? ⟨w3.heap.size, 0, none⟩ = some (Value.int .u8 (zz : Int))) (w3.drew.alloc (.cells #[.int .u8 (zz : Int)] 5)) := by show World.cell? _ _ = _; rw [cell_of_row _ w3.heap.size 0 _ _ _ (heap_alloc_new w3.drew _)]; rfl
    refine wpAnyH_take (i := 9) (v := ?vu_9) rfl (by kernel_rfl) (by kernel_rfl) (by kernel_rfl) (fun _ _ _ h => h) (Or.inl ⟨by kernel_rfl, ?yu_9⟩) hHeld ?ru_9
    case yu_9 => (intro W hSW; have hcw := conv_one W w3.heap.size 1 zz hSW; go_simp; (try with_reducible rfl))
    change wpAnyH _ _ _ _ _ _ _ (Act.put _ (some 42) _) _
    simp only [Act.put, List.setIfInBounds_toArray, List.set_cons_zero, List.set_cons_succ]
    refine wpAnyH_take (i := 10) (v := ?vu_10) rfl (by kernel_rfl) (by kernel_rfl) (by kernel_rfl) (fun _ _ _ h => h) (Or.inl ⟨by kernel_rfl, ?yu_10⟩) hHeld ?ru_10
    case yu_10 => (intro W hSW; (try dsimp only at hSW); go_simp; (try with_reducible rfl))
    change wpAnyH _ _ _ _ _ _ _ (Act.put _ (some 43) _) _
    simp only [Act.put, List.setIfInBounds_toArray, List.set_cons_zero, List.set_cons_succ]
    refine wpAnyH_take (i := 15) (v := ?vu_15) rfl (by kernel_rfl) (by kernel_rfl) (by kernel_rfl) (fun _ _ _ h => h) (Or.inl ⟨by kernel_rfl, ?yu_15⟩) hHeld ?ru_15
    case yu_15 => (intro W hSW; (try dsimp only at hSW); go_simp; (try with_reducible rfl))
    change wpAnyH _ _ _ _ _ _ _ (Act.put _ (some 48) _) _
    simp only [Act.put, List.setIfInBounds_toArray, List.set_cons_zero, List.set_cons_succ]
    refine wpAnyH_take (i := 16) (v := ?vu_16) rfl (by kernel_rfl) (by kernel_rfl) (by kernel_rfl) (fun _ _ _ h => h) (Or.inl ⟨by kernel_rfl, ?yu_16⟩) hHeld ?ru_16
    case yu_16 => (intro W hSW; (try dsimp only at hSW); go_simp; (try with_reducible rfl))
    change wpAnyH _ _ _ _ _ _ _ (Act.put _ (some 10) _) _
    simp only [Act.put, List.setIfInBounds_toArray, List.set_cons_zero, List.set_cons_succ]
    refine wpAnyH_done (by kernel_rfl) ?_ _
    have hB3' : Below w.heap.size w (w3.drew.alloc (.cells #[.int .u8 (zz : Int)] 5)) := hB3.drew.alloc hB3.size _
    have HK := HCK.out (A ++ strOf [UInt8.ofNat zz] ++ B) (decide (c = 0)) _ HD1.out hB3'
    clear hB3'
    by_cases h0 : c = 0
    · have k0 : ((c : Int) == 0) = true := by simp; omega
      rw [show decide (c = 0) = true by simp [h0]] at HK
      clear h0
      go_wp2_with fail
      refine (HK).mono ?_
      rintro e w5 ⟨rfl, hB5⟩
      have HK5 := HCK.out A false w5 HD2.out hB5
      go_wp2_with fail
      refine (HK5).mono ?_
      rintro e w6 ⟨rfl, hB6⟩
      have hcv6 := fun (W : World) => conv_one W w6.heap.size 1 c
      have HK6 := HCK.out (O ++ strOf [UInt8.ofNat c]) false (w6.alloc (.cells #[.int .u8 (c : Int)] 5)) HD3.out (hB6.alloc hB6.size _)
      go_wp2_with fail
      refine (HK6).mono ?_
      rintro e w7 ⟨rfl, hB7⟩
      have HL7 := HLV.out w7 hB7
      go_wp2_with fail
      refine (HL7).mono ?_
      rintro e w8 ⟨rfl, hB8⟩
      go_wp2
      go_ret
      exact ⟨rfl, hB8⟩
    · have k0 : ((c : Int) == 0) = false := by simp; omega
      rw [show decide (c = 0) = false by simp [h0]] at HK
      clear h0
      go_wp2_with fail
      refine (HK).mono ?_
      rintro e w5 ⟨rfl, hB5⟩
      have HK5 := HCK.out A false w5 HD2.out hB5
      go_wp2_with fail
      refine (HK5).mono ?_
      rintro e w6 ⟨rfl, hB6⟩
      have hcv6 := fun (W : World) => conv_one W w6.heap.size 1 c
      have HK6 := HCK.out (O ++ strOf [UInt8.ofNat c]) false (w6.alloc (.cells #[.int .u8 (c : Int)] 5)) HD3.out (hB6.alloc hB6.size _)
      go_wp2_with fail
      refine (HK6).mono ?_
      rintro e w7 ⟨rfl, hB7⟩
      have HL7 := HLV.out w7 hB7
      go_wp2_with fail
      refine (HL7).mono ?_
      rintro e w8 ⟨rfl, hB8⟩
      go_wp2
      go_ret
      exact ⟨rfl, hB8⟩

set_option linter.unusedVariables false in
set_option maxRecDepth 100000 in
theorem lifted (os : Os) (started : os.Started) (H : Type) (enc : TypeId × Value → H) :
    ReturnsInHanded {} Tryd.checked os 5 .any (fun w args => (Rows.macTurnedSpec.pre enc Tryd.prog Tryd.f5 [] false w args ∧ laidMetH Tryd.prog laid2 w) ∧ sizedMet enc Tryd.prog Tryd.f5 (OpenSpec.ofChange Rows.macTurnedSpec) false w args) (Rows.macTurnedSpec.post enc Tryd.prog Tryd.f5 false true false false) := by
  refine returnsInHanded_of_change_and (C := Tryd.checked) (X := fun w _ => laidMetH Tryd.prog laid2 w) (fun _ _ _ hh h => h.of_heap hh) own started (by kernel_rfl) Tryd.func5
    (ChangeSpec.witness_shaped (enc := enc) (C := Tryd.checked) (os := os) (X := fun w _ => laidMetH Tryd.prog laid2 w) false (World.doorLaid Tryd.prog 19 os) #[.agg #[.string ByteArray.empty, .string ByteArray.empty], .int .i64 0, .int .u8 0] 8 rfl (World.shaped_of_RefB (by kernel_rfl) (by kernel_rfl)) (by kernel_rfl) (by kernel_rfl) (by kernel_rfl) (door_met os _)) ?_
  intro W base args ds gs before hval0 hW _ hsz0 hL _
  have hval : ∀ (j : Nat) t v, Tryd.f5.params[j]? = some t → args[j]? = some v → Value.okWide Tryd.prog W .any base t v := hval0
  have hsz : (DataW.weightsEach Tryd.prog (Tryd.f5.params.toList ++ Rows.macTurnedSpec.plain.varTypes Tryd.prog) (ds ++ gs)).all (· ≤ reachBytes) = true := hsz0
  have hW' := hW
  obtain ⟨p, q, hA0, hV, rfl, hfz, hnd⟩ := hW
  have hA : DataW.TrodAll enc Tryd.prog W 0 (fun _ => true) true Tryd.f5.params.toList args.toList ds p := hA0
  rw [Tryd.params5] at hA hval hsz
  obtain ⟨v0, vs0, d0, ds0, p0, q0, hargs, rfl, rfl, h0, r0⟩ := trodAll_cons hA
  obtain ⟨v1, vs1, d1, ds1, p1, q1, rfl, rfl, rfl, h1, r1⟩ := trodAll_cons r0
  obtain ⟨v2, vs2, d2, ds2, p2, q2, rfl, rfl, rfl, h2, r2⟩ := trodAll_cons r1
  obtain ⟨rfl, rfl, rfl⟩ := trodAll_nil r2
  obtain rfl : args = #[v0, v1, v2] := by cases args; simp_all
  obtain ⟨rfl, rfl⟩ := trodVars_none hV
  have k0 := h0
  have lt0 : ∀ x ∈ p0, x.block < W.heap.size := by obtain ⟨m, hm⟩ := k0; exact DataW.trod_lt m _ _ _ hm
  obtain ⟨s0, t0, rfl, z0, y0⟩ := strs2_of (j := 0) (hval 0 28 v0 rfl rfl) h0 hsz rfl rfl
  obtain ⟨x1, rfl, rfl, rfl, w1⟩ := open_int Tryd.underlying3 (hval 1 3 v1 rfl rfl) h1
  obtain ⟨x2, rfl, rfl, rfl, w2⟩ := open_int Tryd.underlying5 (hval 2 5 v2 rfl rfl) h2
  clear hA0 hval0 hsz hsz0
  refine (walk s0 t0 z0 y0 x1 (wf_i64 w1) x2 (wf_u8 w2) W  (of_laid hL)).mono fun e W' ⟨he, bel⟩ => ?_
  subst he
  exact ⟨_, rfl, _, _, _, [], _, [], hW', trodAll_mk1 (shut_bool Tryd.underlying4 _), (trodAll_cons_mk (Below.trod laidOut (by kernel_rfl) (of_decide_eq_true (by kernel_rfl)) k0 bel lt0) (trodAll_cons_mk (shut_int Tryd.underlying3 w1) (trodAll_cons_mk (shut_int Tryd.underlying5 w2) trodAll_mk0))), rfl, bel.frame _, fun h => by cases h⟩

theorem over : Rows.macTurnedRow.holds Tryd.pinned (OpenSpec.ofChange Rows.macTurnedSpec) :=
  OpenClaim.holds_of_wide 5 Tryd.f5 rfl rfl rfl rfl rfl rfl rfl ⟨rfl, rfl, rfl, rfl, rfl⟩ rfl rfl rfl rfl rfl (by kernel_rfl) Tryd.func5 (by kernel_rfl)
    (of_decide_eq_true (by kernel_rfl)) (by unfold Func.isWrapper; first | (rw [if_pos (by decide +kernel)]; kernel_rfl) | (rw [if_neg (by decide +kernel)]; exact ⟨rfl, rfl⟩))
    (fun os started H enc _ => lifted os started H enc)

end Go.Proofs.YtdchaecfinfomaaDoor.macTurned
namespace Go.Proofs.YtdchaecfinfomaaDoor
/-- The given statement. -/
theorem macTurned_holds : Rows.MacTurnedCardSaid :=
  Claim7.holds_tied_plain_at .later [] [.data, .data] true (true, "c658b8018e16d1ca0ab3317147dca27a9dd2439dcb40cbecf31092fcc5f8289c") false
    macTurned.over (fun _ h => by cases h) (by kernel_rfl) (fun _ h => by cases h) macTurned_row_tie rfl ⟨rfl, rfl⟩ (by kernel_rfl) rfl
    (fun f fn hf hfn => by
      obtain rfl : f = 5 := Option.some.inj ((show Tryd.prog.funcNamed "strongroom/strongroomlaw03.MacTurned" = some 5 by kernel_rfl).symm.trans hf) |>.symm
      obtain rfl : fn = Tryd.f5 := (Option.some.inj (Tryd.func5.symm.trans hfn)).symm
      exact ⟨by kernel_rfl, fun j t ht => by
        rw [Tryd.params5] at ht
        rcases j with _ | _ | _ | j
        · obtain rfl : t = 28 := by simpa using ht.symm
          exact (show Tryd.prog.wantsStandIn 28 = false by kernel_rfl)
        · obtain rfl : t = 3 := by simpa using ht.symm
          exact (show Tryd.prog.wantsStandIn 3 = false by kernel_rfl)
        · obtain rfl : t = 5 := by simpa using ht.symm
          exact (show Tryd.prog.wantsStandIn 5 = false by kernel_rfl)
        · simp at ht
      ⟩)
    (by kernel_rfl)
#print axioms macTurned_holds
end Go.Proofs.YtdchaecfinfomaaDoor
