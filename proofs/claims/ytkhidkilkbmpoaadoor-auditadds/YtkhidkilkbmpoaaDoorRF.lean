/- Walks over the program's New and the statements' lives. -/
import Derived.Test.YtkhidkilkbmpoaaDoorRE
import Derived.Test.YtkhidkilkbmpoaaDoorShelf
namespace Go.Proofs.YtkhidkilkbmpoaaDoor
open Go.RowKit
/-- Thirty-two noughts that are made. -/
def zr32 : Array Value := madeCells #[Value.int .u8 0] 32
set_option maxRecDepth 100000 in
theorem make32 (w : World) : (Instr.makeSlice 45 (.int .i64 32) (.int .i64 32)).run Tryd.prog w = .ok (.slice (some ⟨w.heap.size, 0, none⟩) 32 32) (w.alloc (.cells zr32 5)) := by
  have := run_make (P := Tryd.prog) w 45 5 _ (.int .u8 0) Tryd.underlying45 rfl rfl .i64 .i64 32 32 (by omega) (by omega) (by show (1 : Int) * _ ≤ _; omega) (by omega)
  rw [this]
  rfl
theorem conv32 {w : World} {g : Nat} (h : w.heap[g]? = some (.cells zr32 5 (0, 0))) : (convert 45 9 (.slice (some ⟨g, 0, none⟩) 32 32)).run Tryd.prog w = .ok (.string (baOf zeros32)) w := by
  refine conv_row w g 0 32 32 zeros32 (by simp [zeros32]) (fun i hi => ?_)
  rw [cell_of_row _ g _ _ _ _ h, Nat.zero_add]
  unfold zr32 madeCells zeros32
  rw [List.getD_eq_getElem?_getD, List.getElem?_replicate, if_pos hi]
  simp [hi, Nat.mod_one]
theorem rep32 : (⟨(Lib.repeatL [0] 32).toArray⟩ : ByteArray) = baOf zeros32 := by decide
set_option maxRecDepth 100000 in
set_option maxHeartbeats 1000000 in
theorem anew_any (w : World) : Calls Tryd.prog 11 #[] w fun e w' => e = .returned (.agg #[.string (baOf zeros32), .int .i64 0, .slice none 0 0]) ∧ Below w.heap.size w w' := by
  obtain ⟨Z, hZ⟩ : ∃ Z, baOf zeros32 = Z := ⟨_, rfl⟩
  obtain ⟨rb, hrb⟩ : ∃ rb, w.heap.size = rb := ⟨_, rfl⟩
  obtain ⟨V1, hV1, r1, hb1⟩ := box_au 27 (w := w) ⟨#[]⟩ 0 none 0 0
  rw [hrb] at r1
  have HN : Calls Tryd.prog 31 #[.string ⟨#[0]⟩, .int .i64 32] V1 fun e w' => e = .returned (.string Z) ∧ Below V1.heap.size V1 w' := by
    have h9 := Tryd.strings_Repeat ⟨#[0]⟩ 32 V1 (by omega) (by show 1 * 32 ≤ _; omega)
    rw [← hZ, ← rep32]
    exact h9
  rw [hZ]
  have HB : Hid (Below w.heap.size w V1 ∧ V1.heap[rb]? = some (.cells #[.string ⟨#[]⟩, .int .i64 0, .slice none 0 0] 27 (0, 0)) ∧ w.heap.size = rb) := ⟨hb1, r1, hrb⟩
  clear r1 hb1 hZ
  go_enter Tryd.func11, Tryd.ntmps11
  go_wp2_with fail
  refine HN.mono ?_
  rintro e V2 ⟨rfl, hb2⟩
  have z5 := (hb2.block rb (lt_of_some HB.out.2.1)).trans HB.out.2.1
  obtain ⟨x0, x1, x2, fz⟩ := row3 z5
  have f0 := fz 0
  have f1 := fz 1
  have f2 := fz 2
  obtain ⟨W5, hW5⟩ : ∃ W5, ((V2.setCell ⟨rb, 0, none⟩ (.string Z)).setCell ⟨rb, 1, none⟩ (.int .i64 0)).setCell ⟨rb, 2, none⟩ (.slice none 0 0) = W5 := ⟨_, rfl⟩
  have HE : Hid (Below w.heap.size w W5 ∧ W5.heap[rb]? = some (.cells #[.string Z, .int .i64 0, .slice none 0 0] 27 (0, 0))) := by
    rw [← hW5]
    exact ⟨below3s (HB.out.1.trans (hb2.mono HB.out.1.size)) (Nat.le_of_eq HB.out.2.2) _ _ _, set3 z5 _ _ _⟩
  clear z5 fz hb2 HN
  go_wp2
  refine bodyPost_ret (v := .agg #[.string Z, .int .i64 0, .slice none 0 0]) ?_ rfl ⟨rfl, HE.out.1⟩
  exact res_1P (fn := Tryd.f11) (p := 0) (by rfl) _ _ rb _ (by rfl) HE.out.2 infoPA
def en1 : En := ⟨1, 3, 1, ⟨#[97]⟩, 0⟩
theorem en1_ok : en1.ok = true := by decide
theorem add1 : addA ⟨baOf zeros32, 0, []⟩ ⟨0, 3, 1, ⟨#[97]⟩, 0⟩ = (⟨baOf zeros32, 1, [en1]⟩, 0) := by
  have h := add_yes (a := newAu) (e := ⟨0, 3, 1, ⟨#[97]⟩, 0⟩) new_may en1_ok
  exact h
theorem may1 : mayA ⟨baOf zeros32, 1, [en1]⟩ = true := by
  have h := (add_facts (a := newAu) (e := ⟨0, 3, 1, ⟨#[97]⟩, 0⟩) new_may en1_ok).1
  exact h
set_option maxRecDepth 100000 in
set_option maxHeartbeats 4000000 in
theorem lives_any (w : World) (hL : Laid w) : Calls Tryd.prog 10 #[] w fun e w' => e = .returned (.bool true) ∧ Below w.heap.size w w' := by
  have HN := anew_any w
  obtain ⟨Z, hZ⟩ : ∃ Z, baOf zeros32 = Z := ⟨_, rfl⟩
  obtain ⟨D, hD⟩ : ∃ D, strOf (sealL zeros32 en1.bytes) = D := ⟨_, rfl⟩
  obtain ⟨T, hT⟩ : ∃ T, strOf en1.bytes = T := ⟨_, rfl⟩
  have HAD : Hid (∀ W, Below w.heap.size w W → Calls Tryd.prog 18 #[.agg #[.string Z, .int .i64 0, .slice none 0 0], .agg #[.int .i64 0, .int .i64 3, .int .i64 1, .string ⟨#[97]⟩, .int .i64 0]] W fun e w' => AuTo W (⟨Z, 1, [en1]⟩, 0) e w') := fun W hW => by
    have h9 := aadd_any Z 0 (l := []) ⟨0, 3, 1, ⟨#[97]⟩, 0⟩ W (Ew.nil W) (hL.below hW)
    rw [← hZ, add1] at h9
    rw [← hZ]
    exact h9
  have HT : Hid (∀ W, Calls Tryd.prog 24 #[.agg #[.int .i64 1, .int .i64 3, .int .i64 1, .string ⟨#[97]⟩, .int .i64 0]] W fun e w' => e = .returned (.string T) ∧ Below W.heap.size W w') := fun W => by rw [← hT]; exact rbytes_any en1 W en1_ok
  have hle := ent_len en1_ok
  have HL : Hid (∀ W, Below w.heap.size w W → Calls Tryd.prog 23 #[.string Z, .string T] W fun e w' => e = .returned (.string D) ∧ Below W.heap.size W w') := fun W hW => by
    have h9 := seal_any Z T W (by rw [← hZ]; show (baOf zeros32).size ≤ _; decide) (by rw [← hT, strOf_size]; omega) (hL.below hW)
    rw [show Z.data.toList = zeros32 by rw [← hZ]; rfl, show T.data.toList = en1.bytes by rw [← hT]; rfl, hD] at h9
    exact h9
  have HG : Hid (∀ W (a : Option Addr) (c : Nat), Below w.heap.size w W → Ew W a 1 c [en1] → Calls Tryd.prog 20 #[.agg #[.string Z, .int .i64 1, .slice a 1 c]] W fun e w' => e = .returned (.string D) ∧ Below W.heap.size W w') := fun W a c hW h => by
    have h9 := adig_any (baOf zeros32) 1 h (hL.below hW)
    have h8 : digA ⟨baOf zeros32, 1, [en1]⟩ = sealL zeros32 en1.bytes := by unfold digA; rw [if_pos may1]; rfl
    rw [h8] at h9
    unfold StTo at h9
    rw [hD, hZ] at h9
    exact h9
  rw [hZ] at HN
  have HZ : Hid (baOf zeros32 = Z) := hZ
  clear hL hD hT hle
  go_enter Tryd.func10, Tryd.ntmps10
  go_wp2_with fail
  refine HN.mono ?_
  rintro e V1 ⟨rfl, hb1⟩
  have HA := HAD.out V1 hb1
  have H1 : Hid (Below w.heap.size w V1) := hb1
  clear HN hb1 HAD
  go_wp2_with fail
  refine HA.mono ?_
  rintro e V2 ⟨a2, n2, c2, rfl, hnw, hb2⟩
  simp only at hnw ⊢
  obtain rfl : n2 = 1 := hnw.ew.len.symm
  obtain ⟨eb, eo, rfl, _, _⟩ := hnw.ew.at (by omega)
  obtain ⟨ab, hab⟩ : ∃ ab, V2.heap.size = ab := ⟨_, rfl⟩
  obtain ⟨V3, hV3, r3, hb3⟩ := box_au 27 (w := V2) Z 1 (some ⟨eb, eo, none⟩) 1 c2
  rw [hab] at r3
  have hB3 : Below w.heap.size w V3 := (H1.out.trans (hb2.mono H1.out.size)).trans (hb3.mono (Nat.le_trans H1.out.size hb2.size))
  have hE3 : ∀ W, Below V3.heap.size V3 W → Ew W (some ⟨eb, eo, none⟩) 1 c2 [en1] := fun W hW => hnw.ew.below (hb3.trans (hW.mono hb3.size))
  have HS : Hid (∀ W, Below V3.heap.size V3 W → ((W.cell? ⟨ab, 0, none⟩ = some (.string Z) ∧ W.cell? ⟨ab, 1, none⟩ = some (.int .i64 1) ∧ W.cell? ⟨ab, 2, none⟩ = some (.slice (some ⟨eb, eo, none⟩) 1 c2)) ∧ (W.cell? ⟨eb, eo, none⟩ = some (.int .i64 1) ∧ W.cell? ⟨eb, eo + 1, none⟩ = some (.int .i64 3) ∧ W.cell? ⟨eb, eo + 2, none⟩ = some (.int .i64 1) ∧ W.cell? ⟨eb, eo + 3, none⟩ = some (.string ⟨#[97]⟩) ∧ W.cell? ⟨eb, eo + 4, none⟩ = some (.int .i64 0))) ∧ Below w.heap.size w W) := fun W hW => by
    obtain ⟨x0, x1, x2, _⟩ := row3 ((hW.block ab (lt_of_some r3)).trans r3)
    obtain ⟨ab', ao', he, _, hc'⟩ := (hE3 W hW).at (by omega)
    obtain ⟨rfl, rfl⟩ : eb = ab' ∧ eo = ao' := by
      have := Option.some.inj he
      exact ⟨congrArg Addr.block this, congrArg Addr.off this⟩
    obtain ⟨k0, k1, k2, k3, k4⟩ := hc' 0 en1 rfl
    simp only [Nat.zero_mul, Nat.add_zero, en1] at k0 k1 k2 k3 k4
    exact ⟨⟨⟨x0, x1, x2⟩, k0, k1, k2, k3, k4⟩, hB3.trans (hW.mono hB3.size)⟩
  have HD : Hid (∀ W, Below V3.heap.size V3 W → Calls Tryd.prog 20 #[.agg #[.string Z, .int .i64 1, .slice (some ⟨eb, eo, none⟩) 1 c2]] W fun e w' => e = .returned (.string D) ∧ Below W.heap.size W w') := fun W hW => HG.out W _ _ (HS.out W hW).2 (hE3 W hW)
  have conv32 : ∀ {W : World} {g : Nat}, W.heap[g]? = some (.cells zr32 5 (0, 0)) → (convert 45 9 (.slice (some ⟨g, 0, none⟩) 32 32)).run Tryd.prog W = .ok (.string Z) W := fun h => by rw [← HZ.out]; exact conv32 h
  have HC32 : Hid (∀ (W : World) (g : Nat), W.heap[g]? = some (.cells zr32 5 (0, 0)) → (convert 45 9 (.slice (some ⟨g, 0, none⟩) 32 32)).run Tryd.prog W = .ok (.string Z) W) := fun W g h => conv32 h
  have hdd : (D.toList == D.toList) = true := by simp
  clear HA hnw hb2 r3 hb3 hB3 hE3 HG hZ conv32
  go_wp2
  refine wp_region_held_drew (S := fun W => ((W.cell? ⟨ab, 0, none⟩ = some (.string Z) ∧ W.cell? ⟨ab, 1, none⟩ = some (.int .i64 1) ∧ W.cell? ⟨ab, 2, none⟩ = some (.slice (some ⟨eb, eo, none⟩) 1 c2)) ∧ (W.cell? ⟨eb, eo, none⟩ = some (.int .i64 1) ∧ W.cell? ⟨eb, eo + 1, none⟩ = some (.int .i64 3) ∧ W.cell? ⟨eb, eo + 2, none⟩ = some (.int .i64 1) ∧ W.cell? ⟨eb, eo + 3, none⟩ = some (.string ⟨#[97]⟩) ∧ W.cell? ⟨eb, eo + 4, none⟩ = some (.int .i64 0)))) (by kernel_rfl) ((HS.out V3.drew (Below.refl _ V3).drew).1) (fun hHeld => ?_)
  refine wpAnyH_take (i := 0) (v := ?va_0) rfl (by kernel_rfl) (by kernel_rfl) (by kernel_rfl) (fun _ _ _ h => h) (Or.inl ⟨by first | kernel_rfl | rfl, ?ya_0⟩) hHeld ?ra_0
  case ya_0 => (intro W hSW; (try dsimp only at hSW); go_simp; (try with_reducible rfl))
  change wpAnyH _ _ _ _ _ _ _ (Act.put _ (some 9) _) _
  simp only [Act.put, List.setIfInBounds_toArray, List.set_cons_zero, List.set_cons_succ]
  refine wpAnyH_take (i := 1) (v := ?va_1) rfl (by kernel_rfl) (by kernel_rfl) (by kernel_rfl) (fun _ _ _ h => h) (Or.inl ⟨by first | kernel_rfl | rfl, ?ya_1⟩) hHeld ?ra_1
  case ya_1 => (intro W hSW; (try dsimp only at hSW); go_simp; (try with_reducible rfl))
  change wpAnyH _ _ _ _ _ _ _ (Act.put _ (some 10) _) _
  simp only [Act.put, List.setIfInBounds_toArray, List.set_cons_zero, List.set_cons_succ]
  refine wpAnyH_take (i := 2) (v := ?va_2) rfl (by kernel_rfl) (by kernel_rfl) (by kernel_rfl) (fun _ _ _ h => h) (Or.inl ⟨by first | kernel_rfl | rfl, ?ya_2⟩) hHeld ?ra_2
  case ya_2 => (intro W hSW; (try dsimp only at hSW); go_simp; (try with_reducible rfl))
  change wpAnyH _ _ _ _ _ _ _ (Act.put _ (some 11) _) _
  simp only [Act.put, List.setIfInBounds_toArray, List.set_cons_zero, List.set_cons_succ]
  refine wpAnyH_take (i := 3) (v := ?va_3) rfl (by kernel_rfl) (by kernel_rfl) (by kernel_rfl) (fun _ _ _ h => h) (Or.inl ⟨by first | kernel_rfl | rfl, ?ya_3⟩) hHeld ?ra_3
  case ya_3 => (intro W hSW; (try dsimp only at hSW); go_simp; (try with_reducible rfl))
  change wpAnyH _ _ _ _ _ _ _ (Act.put _ (some 12) _) _
  simp only [Act.put, List.setIfInBounds_toArray, List.set_cons_zero, List.set_cons_succ]
  refine wpAnyH_take (i := 4) (v := ?va_4) rfl (by kernel_rfl) (by kernel_rfl) (by kernel_rfl) (fun _ _ _ h => h) (Or.inl ⟨by first | kernel_rfl | rfl, ?ya_4⟩) hHeld ?ra_4
  case ya_4 => (intro W hSW; (try dsimp only at hSW); go_simp; (try with_reducible rfl))
  change wpAnyH _ _ _ _ _ _ _ (Act.put _ (some 13) _) _
  simp only [Act.put, List.setIfInBounds_toArray, List.set_cons_zero, List.set_cons_succ]
  refine wpAnyH_take (i := 5) (v := ?va_5) rfl (by kernel_rfl) (by kernel_rfl) (by kernel_rfl) (fun _ _ _ h => h) (Or.inl ⟨by first | kernel_rfl | rfl, ?ya_5⟩) hHeld ?ra_5
  case ya_5 => (intro W hSW; (try dsimp only at hSW); go_simp; (try with_reducible rfl))
  change wpAnyH _ _ _ _ _ _ _ (Act.put _ (some 14) _) _
  simp only [Act.put, List.setIfInBounds_toArray, List.set_cons_zero, List.set_cons_succ]
  refine wpAnyH_take (i := 6) (v := ?va_6) rfl (by kernel_rfl) (by kernel_rfl) (by kernel_rfl) (fun _ _ _ h => h) (Or.inl ⟨by first | kernel_rfl | rfl, ?ya_6⟩) hHeld ?ra_6
  case ya_6 => (intro W hSW; (try dsimp only at hSW); go_simp; (try with_reducible rfl))
  change wpAnyH _ _ _ _ _ _ _ (Act.put _ (some 15) _) _
  simp only [Act.put, List.setIfInBounds_toArray, List.set_cons_zero, List.set_cons_succ]
  refine wpAnyH_take (i := 7) (v := ?va_7) rfl (by kernel_rfl) (by kernel_rfl) (by kernel_rfl) (fun _ _ _ h => h) (Or.inl ⟨by first | kernel_rfl | rfl, ?ya_7⟩) hHeld ?ra_7
  case ya_7 => (intro W hSW; (try dsimp only at hSW); go_simp; (try with_reducible rfl))
  change wpAnyH _ _ _ _ _ _ _ (Act.put _ (some 16) _) _
  simp only [Act.put, List.setIfInBounds_toArray, List.set_cons_zero, List.set_cons_succ]
  refine wpAnyH_take (i := 8) (v := ?va_8) rfl (by kernel_rfl) (by kernel_rfl) (by kernel_rfl) (fun _ _ _ h => h) (Or.inl ⟨by first | kernel_rfl | rfl, ?ya_8⟩) hHeld ?ra_8
  case ya_8 => (intro W hSW; (try dsimp only at hSW); go_simp; (try with_reducible rfl))
  change wpAnyH _ _ _ _ _ _ _ (Act.put _ (some 17) _) _
  simp only [Act.put, List.setIfInBounds_toArray, List.set_cons_zero, List.set_cons_succ]
  refine wpAnyH_take (i := 9) (v := ?va_9) rfl (by kernel_rfl) (by kernel_rfl) (by kernel_rfl) (fun _ _ _ h => h) (Or.inl ⟨by first | kernel_rfl | rfl, ?ya_9⟩) hHeld ?ra_9
  case ya_9 => (intro W hSW; (try dsimp only at hSW); go_simp; (try with_reducible rfl))
  change wpAnyH _ _ _ _ _ _ _ (Act.put _ (some 18) _) _
  simp only [Act.put, List.setIfInBounds_toArray, List.set_cons_zero, List.set_cons_succ]
  refine wpAnyH_take (i := 10) (v := ?va_10) rfl (by kernel_rfl) (by kernel_rfl) (by kernel_rfl) (fun _ _ _ h => h) (Or.inl ⟨by first | kernel_rfl | rfl, ?ya_10⟩) hHeld ?ra_10
  case ya_10 => (intro W hSW; (try dsimp only at hSW); go_simp; (try with_reducible rfl))
  change wpAnyH _ _ _ _ _ _ _ (Act.put _ (some 19) _) _
  simp only [Act.put, List.setIfInBounds_toArray, List.set_cons_zero, List.set_cons_succ]
  refine wpAnyH_take (i := 11) (v := ?va_11) rfl (by kernel_rfl) (by kernel_rfl) (by kernel_rfl) (fun _ _ _ h => h) (Or.inl ⟨by first | kernel_rfl | rfl, ?ya_11⟩) hHeld ?ra_11
  case ya_11 => (intro W hSW; (try dsimp only at hSW); go_simp; (try with_reducible rfl))
  change wpAnyH _ _ _ _ _ _ _ (Act.put _ (some 20) _) _
  simp only [Act.put, List.setIfInBounds_toArray, List.set_cons_zero, List.set_cons_succ]
  refine wpAnyH_take (i := 12) (v := ?va_12) rfl (by kernel_rfl) (by kernel_rfl) (by kernel_rfl) (fun _ _ _ h => h) (Or.inl ⟨by first | kernel_rfl | rfl, ?ya_12⟩) hHeld ?ra_12
  case ya_12 => (intro W hSW; (try dsimp only at hSW); go_simp; (try with_reducible rfl))
  change wpAnyH _ _ _ _ _ _ _ (Act.put _ (some 21) _) _
  simp only [Act.put, List.setIfInBounds_toArray, List.set_cons_zero, List.set_cons_succ]
  refine wpAnyH_take (i := 13) (v := ?va_13) rfl (by kernel_rfl) (by kernel_rfl) (by kernel_rfl) (fun _ _ _ h => h) (Or.inl ⟨by first | kernel_rfl | rfl, ?ya_13⟩) hHeld ?ra_13
  case ya_13 => (intro W hSW; (try dsimp only at hSW); go_simp; (try with_reducible rfl))
  change wpAnyH _ _ _ _ _ _ _ (Act.put _ (some 22) _) _
  simp only [Act.put, List.setIfInBounds_toArray, List.set_cons_zero, List.set_cons_succ]
  refine wpAnyH_take (i := 14) (v := ?va_14) rfl (by kernel_rfl) (by kernel_rfl) (by kernel_rfl) (fun _ _ _ h => h) (Or.inl ⟨by first | kernel_rfl | rfl, ?ya_14⟩) hHeld ?ra_14
  case ya_14 => (intro W hSW; (try dsimp only at hSW); go_simp; (try with_reducible rfl))
  change wpAnyH _ _ _ _ _ _ _ (Act.put _ (some 23) _) _
  simp only [Act.put, List.setIfInBounds_toArray, List.set_cons_zero, List.set_cons_succ]
  refine wpAnyH_take (i := 18) (v := ?va_18) rfl (by kernel_rfl) (by kernel_rfl) (by kernel_rfl) (fun _ _ _ h => h) (Or.inl ⟨by first | kernel_rfl | rfl, ?ya_18⟩) hHeld ?ra_18
  case ya_18 => (intro W hSW; (try dsimp only at hSW); go_simp; (try with_reducible rfl))
  change wpAnyH _ _ _ _ _ _ _ (Act.put _ (some 27) _) _
  simp only [Act.put, List.setIfInBounds_toArray, List.set_cons_zero, List.set_cons_succ]
  refine wpAnyH_take (i := 19) (v := ?va_19) rfl (by kernel_rfl) (by kernel_rfl) (by kernel_rfl) (fun _ _ _ h => h) (Or.inl ⟨by first | kernel_rfl | rfl, ?ya_19⟩) hHeld ?ra_19
  case ya_19 => (intro W hSW; (try dsimp only at hSW); go_simp; (try with_reducible rfl))
  change wpAnyH _ _ _ _ _ _ _ (Act.put _ (some 28) _) _
  simp only [Act.put, List.setIfInBounds_toArray, List.set_cons_zero, List.set_cons_succ]
  refine wpAnyH_take (i := 20) (v := ?va_20) rfl (by kernel_rfl) (by kernel_rfl) (by kernel_rfl) (fun _ _ _ h => h) (Or.inl ⟨by first | kernel_rfl | rfl, ?ya_20⟩) hHeld ?ra_20
  case ya_20 => (intro W hSW; (try dsimp only at hSW); go_simp; (try with_reducible rfl))
  change wpAnyH _ _ _ _ _ _ _ (Act.put _ (some 29) _) _
  simp only [Act.put, List.setIfInBounds_toArray, List.set_cons_zero, List.set_cons_succ]
  refine wpAnyH_take (i := 21) (v := ?va_21) rfl (by kernel_rfl) (by kernel_rfl) (by kernel_rfl) (fun _ _ _ h => h) (Or.inl ⟨by first | kernel_rfl | rfl, ?ya_21⟩) hHeld ?ra_21
  case ya_21 => (intro W hSW; (try dsimp only at hSW); go_simp; (try with_reducible rfl))
  change wpAnyH _ _ _ _ _ _ _ (Act.put _ (some 30) _) _
  simp only [Act.put, List.setIfInBounds_toArray, List.set_cons_zero, List.set_cons_succ]
  have HV3 : Hid (Below V3.heap.size V3 V3.drew) := (Below.refl _ V3).drew
  obtain ⟨mb, hmb⟩ : ∃ mb, V3.drew.heap.size = mb := ⟨_, rfl⟩
  obtain ⟨X3, hX3⟩ : ∃ X, V3.drew.alloc (.cells zr32 5) = X := ⟨_, rfl⟩
  have hmk : (Instr.makeSlice 45 (.int .i64 32) (.int .i64 32)).run Tryd.prog V3.drew = .ok (.slice (some ⟨mb, 0, none⟩) 32 32) X3 := by rw [← hmb, ← hX3]; exact make32 V3.drew
  refine wpAnyH_ready (rs := [15, 16]) (by kernel_rfl) (by simp) ?_
  refine AllReadyH.cons rfl (fun K hK => ?_) (AllReadyH.cons rfl (fun K hK => ?_) AllReadyH.nil)
  · go_simp
    refine (HD.out V3.drew HV3.out).mono ?_
    rintro e V4 ⟨rfl, hbV4⟩
    refine hK.out _ _ ((HS.out V4 (HV3.out.trans hbV4)).1) (fun hHeld => ?_)
    clear hK K
    try simp only [Act.put, List.setIfInBounds_toArray, List.set_cons_zero, List.set_cons_succ]
    have HV4 : Hid (Below V3.heap.size V3 V4) := HV3.out.trans hbV4
    clear hmk hX3 hmb X3 mb
    obtain ⟨mb, hmb⟩ : ∃ mb, V4.heap.size = mb := ⟨_, rfl⟩
    obtain ⟨X4, hX4⟩ : ∃ X, V4.alloc (.cells zr32 5) = X := ⟨_, rfl⟩
    have hmk : (Instr.makeSlice 45 (.int .i64 32) (.int .i64 32)).run Tryd.prog V4 = .ok (.slice (some ⟨mb, 0, none⟩) 32 32) X4 := by rw [← hmb, ← hX4]; exact make32 V4
    refine wpAnyH_ready (rs := [16, 22]) (by kernel_rfl) (by simp) ?_
    refine AllReadyH.cons rfl (fun K hK => ?_) (AllReadyH.cons rfl (fun K hK => ?_) AllReadyH.nil)
    · go_simp
      refine hK.out _ _ (by rw [← hX4]; exact (HS.out _ (HV4.out.alloc HV4.out.size _)).1) (fun hHeld => ?_)
      clear hK K
      try simp only [Act.put, List.setIfInBounds_toArray, List.set_cons_zero, List.set_cons_succ]
      have rX4 : X4.heap[mb]? = some (.cells zr32 5 (0, 0)) := by rw [← hX4, ← hmb]; exact heap_alloc_new _ _
      have GX4 : Hid (Below V3.heap.size V3 X4) := by rw [← hX4]; exact (HV4.out).alloc ((HV4.out).size) _
      have HM : Hid (∀ W, Below X4.heap.size X4 W → ((W.cell? ⟨ab, 0, none⟩ = some (.string Z) ∧ W.cell? ⟨ab, 1, none⟩ = some (.int .i64 1) ∧ W.cell? ⟨ab, 2, none⟩ = some (.slice (some ⟨eb, eo, none⟩) 1 c2)) ∧ (W.cell? ⟨eb, eo, none⟩ = some (.int .i64 1) ∧ W.cell? ⟨eb, eo + 1, none⟩ = some (.int .i64 3) ∧ W.cell? ⟨eb, eo + 2, none⟩ = some (.int .i64 1) ∧ W.cell? ⟨eb, eo + 3, none⟩ = some (.string ⟨#[97]⟩) ∧ W.cell? ⟨eb, eo + 4, none⟩ = some (.int .i64 0))) ∧ (convert 45 9 (.slice (some ⟨mb, 0, none⟩) 32 32)).run Tryd.prog W = .ok (.string Z) W) := fun W hW => ⟨(HS.out W (GX4.out.trans (hW.mono GX4.out.size))).1, HC32.out _ _ ((hW.block mb (lt_of_some rX4)).trans rX4)⟩
      refine wpAnyH_strengthen (S' := fun W => ((W.cell? ⟨ab, 0, none⟩ = some (.string Z) ∧ W.cell? ⟨ab, 1, none⟩ = some (.int .i64 1) ∧ W.cell? ⟨ab, 2, none⟩ = some (.slice (some ⟨eb, eo, none⟩) 1 c2)) ∧ (W.cell? ⟨eb, eo, none⟩ = some (.int .i64 1) ∧ W.cell? ⟨eb, eo + 1, none⟩ = some (.int .i64 3) ∧ W.cell? ⟨eb, eo + 2, none⟩ = some (.int .i64 1) ∧ W.cell? ⟨eb, eo + 3, none⟩ = some (.string ⟨#[97]⟩) ∧ W.cell? ⟨eb, eo + 4, none⟩ = some (.int .i64 0))) ∧ (convert 45 9 (.slice (some ⟨mb, 0, none⟩) 32 32)).run Tryd.prog W = .ok (.string Z) W) (fun W h => h.1) ?_
      have hHeld : (fun W => ((W.cell? ⟨ab, 0, none⟩ = some (.string Z) ∧ W.cell? ⟨ab, 1, none⟩ = some (.int .i64 1) ∧ W.cell? ⟨ab, 2, none⟩ = some (.slice (some ⟨eb, eo, none⟩) 1 c2)) ∧ (W.cell? ⟨eb, eo, none⟩ = some (.int .i64 1) ∧ W.cell? ⟨eb, eo + 1, none⟩ = some (.int .i64 3) ∧ W.cell? ⟨eb, eo + 2, none⟩ = some (.int .i64 1) ∧ W.cell? ⟨eb, eo + 3, none⟩ = some (.string ⟨#[97]⟩) ∧ W.cell? ⟨eb, eo + 4, none⟩ = some (.int .i64 0))) ∧ (convert 45 9 (.slice (some ⟨mb, 0, none⟩) 32 32)).run Tryd.prog W = .ok (.string Z) W) X4 := HM.out X4 (Below.refl _ _)
      refine wpAnyH_take (i := 17) (v := ?vc_17) rfl (by kernel_rfl) (by kernel_rfl) (by kernel_rfl) (fun _ _ _ h => h) (Or.inl ⟨by first | kernel_rfl | rfl, ?yc_17⟩) hHeld ?rc_17
      case yc_17 => (intro W hSW; (try dsimp only at hSW); go_simp; (try with_reducible rfl))
      change wpAnyH _ _ _ _ _ _ _ (Act.put _ (some 26) _) _
      simp only [Act.put, List.setIfInBounds_toArray, List.set_cons_zero, List.set_cons_succ]
      have HX4 := GX4
      refine wpAnyH_ready (rs := [22]) (by kernel_rfl) (by simp) ?_
      refine AllReadyH.cons rfl (fun K hK => ?_) AllReadyH.nil
      go_simp
      refine (HT.out X4).mono ?_
      rintro e V6 ⟨rfl, hbV6⟩
      refine hK.out _ _ (HM.out V6 hbV6) (fun hHeld => ?_)
      clear hK K
      try simp only [Act.put, List.setIfInBounds_toArray, List.set_cons_zero, List.set_cons_succ]
      have HV6 : Hid (Below V3.heap.size V3 V6) := HX4.out.trans (hbV6.mono HX4.out.size)
      refine wpAnyH_ready (rs := [23]) (by kernel_rfl) (by simp) ?_
      refine AllReadyH.cons rfl (fun K hK => ?_) AllReadyH.nil
      go_simp
      refine (HL.out V6 (HS.out V6 HV6.out).2).mono ?_
      rintro e V7 ⟨rfl, hbV7⟩
      refine hK.out _ _ (HM.out V7 (hbV6.trans (hbV7.mono hbV6.size))) (fun hHeld => ?_)
      clear hK K
      try simp only [Act.put, List.setIfInBounds_toArray, List.set_cons_zero, List.set_cons_succ]
      have HV7 : Hid (Below V3.heap.size V3 V7) := HV6.out.trans (hbV7.mono HV6.out.size)
      have HE : Hid (Below w.heap.size w V7) := (HS.out V7 HV7.out).2
      refine wpAnyH_take (i := 24) (v := ?vc_24) rfl (by kernel_rfl) (by kernel_rfl) (by kernel_rfl) (fun _ _ _ h => h) (Or.inl ⟨by first | kernel_rfl | rfl, ?yc_24⟩) hHeld ?rc_24
      case yc_24 => (intro W hSW; (try dsimp only at hSW); go_simp; (try with_reducible rfl))
      change wpAnyH _ _ _ _ _ _ _ (Act.put _ (some 33) _) _
      simp only [Act.put, List.setIfInBounds_toArray, List.set_cons_zero, List.set_cons_succ]
      refine wpAnyH_take (i := 25) (v := ?vc_25) rfl (by kernel_rfl) (by kernel_rfl) (by kernel_rfl) (fun _ _ _ h => h) (Or.inl ⟨by first | kernel_rfl | rfl, ?yc_25⟩) hHeld ?rc_25
      case yc_25 => (intro W hSW; (try dsimp only at hSW); go_simp; (try with_reducible rfl))
      change wpAnyH _ _ _ _ _ _ _ (Act.put _ (some 34) _) _
      simp only [Act.put, List.setIfInBounds_toArray, List.set_cons_zero, List.set_cons_succ]
      refine wpAnyH_take (i := 26) (v := ?vc_26) rfl (by kernel_rfl) (by kernel_rfl) (by kernel_rfl) (fun _ _ _ h => h) (Or.inl ⟨by first | kernel_rfl | rfl, ?yc_26⟩) hHeld ?rc_26
      case yc_26 => (intro W hSW; (try dsimp only at hSW); go_simp; (try with_reducible rfl))
      change wpAnyH _ _ _ _ _ _ _ (Act.put _ (some 0) _) _
      simp only [Act.put, List.setIfInBounds_toArray, List.set_cons_zero]
      refine wpAnyH_done (by kernel_rfl) ?_ _
      go_wp2
      go_ret
      exact ⟨rfl, HE.out⟩
    · go_simp
      refine (HT.out V4).mono ?_
      rintro e V5 ⟨rfl, hbV5⟩
      refine hK.out _ _ ((HS.out V5 (HV4.out.trans (hbV5.mono HV4.out.size))).1) (fun hHeld => ?_)
      clear hK K
      try simp only [Act.put, List.setIfInBounds_toArray, List.set_cons_zero, List.set_cons_succ]
      have HV5 : Hid (Below V3.heap.size V3 V5) := (HV4.out.trans (hbV5.mono HV4.out.size))
      clear hmk hX4 hmb X4 mb
      obtain ⟨mb, hmb⟩ : ∃ mb, V5.heap.size = mb := ⟨_, rfl⟩
      obtain ⟨X5, hX5⟩ : ∃ X, V5.alloc (.cells zr32 5) = X := ⟨_, rfl⟩
      have hmk : (Instr.makeSlice 45 (.int .i64 32) (.int .i64 32)).run Tryd.prog V5 = .ok (.slice (some ⟨mb, 0, none⟩) 32 32) X5 := by rw [← hmb, ← hX5]; exact make32 V5
      refine wpAnyH_ready (rs := [16]) (by kernel_rfl) (by simp) ?_
      refine AllReadyH.cons rfl (fun K hK => ?_) AllReadyH.nil
      go_simp
      refine hK.out _ _ (by rw [← hX5]; exact (HS.out _ (HV5.out.alloc HV5.out.size _)).1) (fun hHeld => ?_)
      clear hK K
      try simp only [Act.put, List.setIfInBounds_toArray, List.set_cons_zero, List.set_cons_succ]
      have rX5 : X5.heap[mb]? = some (.cells zr32 5 (0, 0)) := by rw [← hX5, ← hmb]; exact heap_alloc_new _ _
      have GX5 : Hid (Below V3.heap.size V3 X5) := by rw [← hX5]; exact (HV5.out).alloc ((HV5.out).size) _
      have HM : Hid (∀ W, Below X5.heap.size X5 W → ((W.cell? ⟨ab, 0, none⟩ = some (.string Z) ∧ W.cell? ⟨ab, 1, none⟩ = some (.int .i64 1) ∧ W.cell? ⟨ab, 2, none⟩ = some (.slice (some ⟨eb, eo, none⟩) 1 c2)) ∧ (W.cell? ⟨eb, eo, none⟩ = some (.int .i64 1) ∧ W.cell? ⟨eb, eo + 1, none⟩ = some (.int .i64 3) ∧ W.cell? ⟨eb, eo + 2, none⟩ = some (.int .i64 1) ∧ W.cell? ⟨eb, eo + 3, none⟩ = some (.string ⟨#[97]⟩) ∧ W.cell? ⟨eb, eo + 4, none⟩ = some (.int .i64 0))) ∧ (convert 45 9 (.slice (some ⟨mb, 0, none⟩) 32 32)).run Tryd.prog W = .ok (.string Z) W) := fun W hW => ⟨(HS.out W (GX5.out.trans (hW.mono GX5.out.size))).1, HC32.out _ _ ((hW.block mb (lt_of_some rX5)).trans rX5)⟩
      refine wpAnyH_strengthen (S' := fun W => ((W.cell? ⟨ab, 0, none⟩ = some (.string Z) ∧ W.cell? ⟨ab, 1, none⟩ = some (.int .i64 1) ∧ W.cell? ⟨ab, 2, none⟩ = some (.slice (some ⟨eb, eo, none⟩) 1 c2)) ∧ (W.cell? ⟨eb, eo, none⟩ = some (.int .i64 1) ∧ W.cell? ⟨eb, eo + 1, none⟩ = some (.int .i64 3) ∧ W.cell? ⟨eb, eo + 2, none⟩ = some (.int .i64 1) ∧ W.cell? ⟨eb, eo + 3, none⟩ = some (.string ⟨#[97]⟩) ∧ W.cell? ⟨eb, eo + 4, none⟩ = some (.int .i64 0))) ∧ (convert 45 9 (.slice (some ⟨mb, 0, none⟩) 32 32)).run Tryd.prog W = .ok (.string Z) W) (fun W h => h.1) ?_
      have hHeld : (fun W => ((W.cell? ⟨ab, 0, none⟩ = some (.string Z) ∧ W.cell? ⟨ab, 1, none⟩ = some (.int .i64 1) ∧ W.cell? ⟨ab, 2, none⟩ = some (.slice (some ⟨eb, eo, none⟩) 1 c2)) ∧ (W.cell? ⟨eb, eo, none⟩ = some (.int .i64 1) ∧ W.cell? ⟨eb, eo + 1, none⟩ = some (.int .i64 3) ∧ W.cell? ⟨eb, eo + 2, none⟩ = some (.int .i64 1) ∧ W.cell? ⟨eb, eo + 3, none⟩ = some (.string ⟨#[97]⟩) ∧ W.cell? ⟨eb, eo + 4, none⟩ = some (.int .i64 0))) ∧ (convert 45 9 (.slice (some ⟨mb, 0, none⟩) 32 32)).run Tryd.prog W = .ok (.string Z) W) X5 := HM.out X5 (Below.refl _ _)
      refine wpAnyH_take (i := 17) (v := ?vd_17) rfl (by kernel_rfl) (by kernel_rfl) (by kernel_rfl) (fun _ _ _ h => h) (Or.inl ⟨by first | kernel_rfl | rfl, ?yd_17⟩) hHeld ?rd_17
      case yd_17 => (intro W hSW; (try dsimp only at hSW); go_simp; (try with_reducible rfl))
      change wpAnyH _ _ _ _ _ _ _ (Act.put _ (some 26) _) _
      simp only [Act.put, List.setIfInBounds_toArray, List.set_cons_zero, List.set_cons_succ]
      have HX5 := GX5
      refine wpAnyH_ready (rs := [23]) (by kernel_rfl) (by simp) ?_
      refine AllReadyH.cons rfl (fun K hK => ?_) AllReadyH.nil
      go_simp
      refine (HL.out X5 (HS.out X5 HX5.out).2).mono ?_
      rintro e V7 ⟨rfl, hbV7⟩
      refine hK.out _ _ (HM.out V7 hbV7) (fun hHeld => ?_)
      clear hK K
      try simp only [Act.put, List.setIfInBounds_toArray, List.set_cons_zero, List.set_cons_succ]
      have HV7 : Hid (Below V3.heap.size V3 V7) := HX5.out.trans (hbV7.mono HX5.out.size)
      have HE : Hid (Below w.heap.size w V7) := (HS.out V7 HV7.out).2
      refine wpAnyH_take (i := 24) (v := ?vd_24) rfl (by kernel_rfl) (by kernel_rfl) (by kernel_rfl) (fun _ _ _ h => h) (Or.inl ⟨by first | kernel_rfl | rfl, ?yd_24⟩) hHeld ?rd_24
      case yd_24 => (intro W hSW; (try dsimp only at hSW); go_simp; (try with_reducible rfl))
      change wpAnyH _ _ _ _ _ _ _ (Act.put _ (some 33) _) _
      simp only [Act.put, List.setIfInBounds_toArray, List.set_cons_zero, List.set_cons_succ]
      refine wpAnyH_take (i := 25) (v := ?vd_25) rfl (by kernel_rfl) (by kernel_rfl) (by kernel_rfl) (fun _ _ _ h => h) (Or.inl ⟨by first | kernel_rfl | rfl, ?yd_25⟩) hHeld ?rd_25
      case yd_25 => (intro W hSW; (try dsimp only at hSW); go_simp; (try with_reducible rfl))
      change wpAnyH _ _ _ _ _ _ _ (Act.put _ (some 34) _) _
      simp only [Act.put, List.setIfInBounds_toArray, List.set_cons_zero, List.set_cons_succ]
      refine wpAnyH_take (i := 26) (v := ?vd_26) rfl (by kernel_rfl) (by kernel_rfl) (by kernel_rfl) (fun _ _ _ h => h) (Or.inl ⟨by first | kernel_rfl | rfl, ?yd_26⟩) hHeld ?rd_26
      case yd_26 => (intro W hSW; (try dsimp only at hSW); go_simp; (try with_reducible rfl))
      change wpAnyH _ _ _ _ _ _ _ (Act.put _ (some 0) _) _
      simp only [Act.put, List.setIfInBounds_toArray, List.set_cons_zero]
      refine wpAnyH_done (by kernel_rfl) ?_ _
      go_wp2
      go_ret
      exact ⟨rfl, HE.out⟩
  · go_simp
    refine hK.out _ _ (by rw [← hX3]; exact (HS.out _ (HV3.out.alloc HV3.out.size _)).1) (fun hHeld => ?_)
    clear hK K
    try simp only [Act.put, List.setIfInBounds_toArray, List.set_cons_zero, List.set_cons_succ]
    have rX3 : X3.heap[mb]? = some (.cells zr32 5 (0, 0)) := by rw [← hX3, ← hmb]; exact heap_alloc_new _ _
    have GX3 : Hid (Below V3.heap.size V3 X3) := by rw [← hX3]; exact (HV3.out).alloc ((HV3.out).size) _
    have HM : Hid (∀ W, Below X3.heap.size X3 W → ((W.cell? ⟨ab, 0, none⟩ = some (.string Z) ∧ W.cell? ⟨ab, 1, none⟩ = some (.int .i64 1) ∧ W.cell? ⟨ab, 2, none⟩ = some (.slice (some ⟨eb, eo, none⟩) 1 c2)) ∧ (W.cell? ⟨eb, eo, none⟩ = some (.int .i64 1) ∧ W.cell? ⟨eb, eo + 1, none⟩ = some (.int .i64 3) ∧ W.cell? ⟨eb, eo + 2, none⟩ = some (.int .i64 1) ∧ W.cell? ⟨eb, eo + 3, none⟩ = some (.string ⟨#[97]⟩) ∧ W.cell? ⟨eb, eo + 4, none⟩ = some (.int .i64 0))) ∧ (convert 45 9 (.slice (some ⟨mb, 0, none⟩) 32 32)).run Tryd.prog W = .ok (.string Z) W) := fun W hW => ⟨(HS.out W (GX3.out.trans (hW.mono GX3.out.size))).1, HC32.out _ _ ((hW.block mb (lt_of_some rX3)).trans rX3)⟩
    refine wpAnyH_strengthen (S' := fun W => ((W.cell? ⟨ab, 0, none⟩ = some (.string Z) ∧ W.cell? ⟨ab, 1, none⟩ = some (.int .i64 1) ∧ W.cell? ⟨ab, 2, none⟩ = some (.slice (some ⟨eb, eo, none⟩) 1 c2)) ∧ (W.cell? ⟨eb, eo, none⟩ = some (.int .i64 1) ∧ W.cell? ⟨eb, eo + 1, none⟩ = some (.int .i64 3) ∧ W.cell? ⟨eb, eo + 2, none⟩ = some (.int .i64 1) ∧ W.cell? ⟨eb, eo + 3, none⟩ = some (.string ⟨#[97]⟩) ∧ W.cell? ⟨eb, eo + 4, none⟩ = some (.int .i64 0))) ∧ (convert 45 9 (.slice (some ⟨mb, 0, none⟩) 32 32)).run Tryd.prog W = .ok (.string Z) W) (fun W h => h.1) ?_
    have hHeld : (fun W => ((W.cell? ⟨ab, 0, none⟩ = some (.string Z) ∧ W.cell? ⟨ab, 1, none⟩ = some (.int .i64 1) ∧ W.cell? ⟨ab, 2, none⟩ = some (.slice (some ⟨eb, eo, none⟩) 1 c2)) ∧ (W.cell? ⟨eb, eo, none⟩ = some (.int .i64 1) ∧ W.cell? ⟨eb, eo + 1, none⟩ = some (.int .i64 3) ∧ W.cell? ⟨eb, eo + 2, none⟩ = some (.int .i64 1) ∧ W.cell? ⟨eb, eo + 3, none⟩ = some (.string ⟨#[97]⟩) ∧ W.cell? ⟨eb, eo + 4, none⟩ = some (.int .i64 0))) ∧ (convert 45 9 (.slice (some ⟨mb, 0, none⟩) 32 32)).run Tryd.prog W = .ok (.string Z) W) X3 := HM.out X3 (Below.refl _ _)
    refine wpAnyH_take (i := 17) (v := ?ve_17) rfl (by kernel_rfl) (by kernel_rfl) (by kernel_rfl) (fun _ _ _ h => h) (Or.inl ⟨by first | kernel_rfl | rfl, ?ye_17⟩) hHeld ?re_17
    case ye_17 => (intro W hSW; (try dsimp only at hSW); go_simp; (try with_reducible rfl))
    change wpAnyH _ _ _ _ _ _ _ (Act.put _ (some 26) _) _
    simp only [Act.put, List.setIfInBounds_toArray, List.set_cons_zero, List.set_cons_succ]
    have HX3 := GX3
    refine wpAnyH_ready (rs := [15]) (by kernel_rfl) (by simp) ?_
    refine AllReadyH.cons rfl (fun K hK => ?_) AllReadyH.nil
    go_simp
    refine (HD.out X3 HX3.out).mono ?_
    rintro e V5 ⟨rfl, hbV5⟩
    refine hK.out _ _ (HM.out V5 hbV5) (fun hHeld => ?_)
    clear hK K
    try simp only [Act.put, List.setIfInBounds_toArray, List.set_cons_zero, List.set_cons_succ]
    have HV5 : Hid (Below V3.heap.size V3 V5) := HX3.out.trans (hbV5.mono HX3.out.size)
    refine wpAnyH_ready (rs := [22]) (by kernel_rfl) (by simp) ?_
    refine AllReadyH.cons rfl (fun K hK => ?_) AllReadyH.nil
    go_simp
    refine (HT.out V5).mono ?_
    rintro e V6 ⟨rfl, hbV6⟩
    refine hK.out _ _ (HM.out V6 (hbV5.trans (hbV6.mono hbV5.size))) (fun hHeld => ?_)
    clear hK K
    try simp only [Act.put, List.setIfInBounds_toArray, List.set_cons_zero, List.set_cons_succ]
    have HV6 : Hid (Below V3.heap.size V3 V6) := HV5.out.trans (hbV6.mono HV5.out.size)
    have hbX6 := hbV5.trans (hbV6.mono hbV5.size)
    refine wpAnyH_ready (rs := [23]) (by kernel_rfl) (by simp) ?_
    refine AllReadyH.cons rfl (fun K hK => ?_) AllReadyH.nil
    go_simp
    refine (HL.out V6 (HS.out V6 HV6.out).2).mono ?_
    rintro e V7 ⟨rfl, hbV7⟩
    refine hK.out _ _ (HM.out V7 (hbX6.trans (hbV7.mono hbX6.size))) (fun hHeld => ?_)
    clear hK K
    try simp only [Act.put, List.setIfInBounds_toArray, List.set_cons_zero, List.set_cons_succ]
    have HV7 : Hid (Below V3.heap.size V3 V7) := HV6.out.trans (hbV7.mono HV6.out.size)
    have HE : Hid (Below w.heap.size w V7) := (HS.out V7 HV7.out).2
    refine wpAnyH_take (i := 24) (v := ?ve_24) rfl (by kernel_rfl) (by kernel_rfl) (by kernel_rfl) (fun _ _ _ h => h) (Or.inl ⟨by first | kernel_rfl | rfl, ?ye_24⟩) hHeld ?re_24
    case ye_24 => (intro W hSW; (try dsimp only at hSW); go_simp; (try with_reducible rfl))
    change wpAnyH _ _ _ _ _ _ _ (Act.put _ (some 33) _) _
    simp only [Act.put, List.setIfInBounds_toArray, List.set_cons_zero, List.set_cons_succ]
    refine wpAnyH_take (i := 25) (v := ?ve_25) rfl (by kernel_rfl) (by kernel_rfl) (by kernel_rfl) (fun _ _ _ h => h) (Or.inl ⟨by first | kernel_rfl | rfl, ?ye_25⟩) hHeld ?re_25
    case ye_25 => (intro W hSW; (try dsimp only at hSW); go_simp; (try with_reducible rfl))
    change wpAnyH _ _ _ _ _ _ _ (Act.put _ (some 34) _) _
    simp only [Act.put, List.setIfInBounds_toArray, List.set_cons_zero, List.set_cons_succ]
    refine wpAnyH_take (i := 26) (v := ?ve_26) rfl (by kernel_rfl) (by kernel_rfl) (by kernel_rfl) (fun _ _ _ h => h) (Or.inl ⟨by first | kernel_rfl | rfl, ?ye_26⟩) hHeld ?re_26
    case ye_26 => (intro W hSW; (try dsimp only at hSW); go_simp; (try with_reducible rfl))
    change wpAnyH _ _ _ _ _ _ _ (Act.put _ (some 0) _) _
    simp only [Act.put, List.setIfInBounds_toArray, List.set_cons_zero]
    refine wpAnyH_done (by kernel_rfl) ?_ _
    go_wp2
    go_ret
    exact ⟨rfl, HE.out⟩
end Go.Proofs.YtkhidkilkbmpoaaDoor
