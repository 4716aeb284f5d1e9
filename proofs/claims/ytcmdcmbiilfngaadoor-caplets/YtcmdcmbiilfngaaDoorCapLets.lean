/- Proved: for every token, right, time and path the law CapLets returns true, what was handed in as it was (what any token lets, and where its caveats meet, are the document's); where the package's two tables begin as the program's text lays them. -/
import Derived.Test.YtcmdcmbiilfngaaDoorDB
import Derived.Test.YtcmdcmbiilfngaaDoorKL
import Derived.Test.YtcmdcmbiilfngaaDoorKR
import Derived.Test.YtcmdcmbiilfngaaDoorCards
import Derived.Test.YtcmdcmbiilfngaaDoorTie
import Derived.WalkKit
import Derived.ProofKit
import Derived.OpenShut
import Derived.ShutString
import Derived.ChangeOld
import Derived.Below
import Derived.LaidMore
import Derived.Stop.Joined
import Derived.SevenTiedAt
namespace Go.Proofs.YtcmdcmbiilfngaaDoor.capLets
open Go.ChangeShapes Go.WideShapes Go.ChangeAt Go.WideMaps Go.WideElems Go.RowKit
open Go.ChangeMaps (open_string shut_string)

set_option maxRecDepth 100000 in
set_option maxHeartbeats 2000000 in
theorem walk (t0 n0 : Int) (a0 : Option Addr) (len0 cap0 : Nat) (s0 : ByteArray) (l0 : List Cv) (c0 : ∀ c ∈ l0, c.In) (z0 : s0.size ≤ 140737488351232) (_y0 : -9223372036854775808 ≤ t0 ∧ t0 ≤ 9223372036854775807) (_x0 : -9223372036854775808 ≤ n0 ∧ n0 ≤ 9223372036854775807) (x1 y1 : Int) (_z1 : -9223372036854775808 ≤ x1 ∧ x1 ≤ 9223372036854775807) (_u1 : -9223372036854775808 ≤ y1 ∧ y1 ≤ 9223372036854775807) (s2 : ByteArray) (z2 : s2.size ≤ 140737488351232) (w : World) (w0 : Kw w a0 len0 cap0 l0) (hL : Laid w) :
    Calls Tryd.prog 5 #[.agg #[.int .i64 t0, .int .i64 n0, .slice a0 len0 cap0, .string s0], .agg #[.int .i64 x1, .int .i64 y1], .string s2] w fun e w' => e = .returned (.bool true) ∧ Below w.heap.size w w' := by
  have HLV : Hid (∀ V, Below w.heap.size w V → Calls Tryd.prog 9 #[] V fun e w' => e = .returned (.bool true) ∧ Below w.heap.size w w') := fun V hV => (lives_any V (hL.below hV)).mono fun e w' h => ⟨h.1, hV.trans (h.2.mono hV.size)⟩
  have HLV2 : Hid (∀ V, Below w.heap.size w V → Calls Tryd.prog 9 #[] V fun e w' => e = .returned (.bool true) ∧ Below V.heap.size V w') := fun V hV => lives_any V (hL.below hV)
  obtain ⟨pb, hpb⟩ : ∃ pb, w.heap.size = pb := ⟨_, rfl⟩
  obtain ⟨V1, hV1, r1, hb1⟩ := box_tk (w := w) t0 n0 a0 len0 cap0 s0
  obtain ⟨qb, hqb⟩ : ∃ qb, V1.heap.size = qb := ⟨_, rfl⟩
  obtain ⟨V2, hV2⟩ : ∃ V2, V1.alloc (.cells #[.int .i64 x1, .int .i64 y1] 39) = V2 := ⟨_, rfl⟩
  have hq1 : pb + 1 = qb := by rw [← hqb, ← hV1, ← hpb]; simp
  have r2 : V2.heap[qb]? = some (.cells #[.int .i64 x1, .int .i64 y1] 39 (0, 0)) := by rw [← hV2, ← hqb]; exact heap_alloc_new V1 _
  have hb2 : Below V1.heap.size V1 V2 := by rw [← hV2]; exact (Below.refl _ V1).alloc (Nat.le_refl _) _
  rw [hpb] at r1
  have r1' : V2.heap[pb]? = some (.cells #[.int .i64 t0, .int .i64 n0, .slice a0 len0 cap0, .string s0] 25 (0, 0)) := by
    rw [hb2.block pb (by omega)]
    exact r1
  have hB2 : Below w.heap.size w V2 := hb1.trans (hb2.mono hb1.size)
  have z0' : V2.cell? ⟨qb, 0, none⟩ = some (.int .i64 x1) := by rw [cell_of_row _ _ _ _ _ _ r2]; rfl
  have z1' : V2.cell? ⟨qb, 1, none⟩ = some (.int .i64 y1) := by rw [cell_of_row _ _ _ _ _ _ r2]; rfl
  have HK : Hid (∀ W, Below V2.heap.size V2 W → (W.cell? ⟨pb, 0, none⟩ = some (.int .i64 t0) ∧ W.cell? ⟨pb, 1, none⟩ = some (.int .i64 n0) ∧ W.cell? ⟨pb, 2, none⟩ = some (.slice a0 len0 cap0) ∧ W.cell? ⟨pb, 3, none⟩ = some (.string s0)) ∧ Below w.heap.size w W) := fun W hW => by
    obtain ⟨e0, e1, e2, e3, _⟩ := row4 ((hW.block pb (lt_of_some r1')).trans r1')
    exact ⟨⟨e0, e1, e2, e3⟩, hB2.trans (hW.mono hB2.size)⟩
  have hcp : ∀ c ∈ l0, c.path.size ≤ 140737488351232 := fun c hc => (c0 c hc).2.2
  have hcq : ∀ c ∈ l0, c.path.size ≤ 9223372036854775807 := fun c hc => by have := hcp c hc; omega
  have HSM : Hid (∀ W, Below V2.heap.size V2 W → Calls Tryd.prog 14 #[.agg #[.int .i64 t0, .int .i64 n0, .slice a0 len0 cap0, .string s0]] W fun e w' => e = .returned (.bool (smallT l0 s0)) ∧ Below W.heap.size W w') := fun W hW => small_tk t0 n0 s0 (w0.below (HK.out W hW).2) z0 hcp
  obtain ⟨⟨⟨m1, m2, m3⟩, mq⟩, hmt⟩ : ∃ r, meetT ⟨t0, n0, l0, s0⟩ = r := ⟨_, rfl⟩
  have HME : Hid (∀ W, Below w.heap.size w W → Calls Tryd.prog 19 #[.agg #[.int .i64 t0, .int .i64 n0, .slice a0 len0 cap0, .string s0]] W fun e w' => e = .returned (.tuple #[.agg #[.string m1, .int .i64 m2, .int .i64 m3], .bool mq]) ∧ Below W.heap.size W w') := fun W hW => by
    have h5 := cmeet_any t0 n0 s0 (w0.below hW) hcq
    rw [hmt] at h5
    exact h5
  have HRM : Hid (∀ W, Below w.heap.size w W → Calls Tryd.prog 20 #[.agg #[.int .i64 t0, .int .i64 n0, .slice a0 len0 cap0, .string s0]] W fun e w' => e = .returned (.tuple #[.agg #[.string m1, .int .i64 m2, .int .i64 m3], .bool mq]) ∧ Below W.heap.size W w') := fun W hW => by
    have h5 := rmeet_tk t0 n0 s0 (w0.below hW) hcq
    rw [hmt] at h5
    exact h5
  obtain ⟨lt, hlt⟩ : ∃ lt, letsT ⟨t0, n0, l0, s0⟩ x1 s2.data.toList y1 = lt := ⟨_, rfl⟩
  have HLT : Hid (∀ W, Below w.heap.size w W → Calls Tryd.prog 21 #[.agg #[.int .i64 t0, .int .i64 n0, .slice a0 len0 cap0, .string s0], .int .i64 x1, .string s2, .int .i64 y1] W fun e w' => e = .returned (.bool lt) ∧ Below W.heap.size W w') := fun W hW => by
    have h5 := lets_any t0 n0 s0 x1 s2 y1 (w0.below hW) hcq (by omega)
    rw [hlt] at h5
    exact h5
  have HRL : Hid (∀ W, Below w.heap.size w W → Calls Tryd.prog 22 #[.agg #[.int .i64 t0, .int .i64 n0, .slice a0 len0 cap0, .string s0], .int .i64 x1, .string s2, .int .i64 y1] W fun e w' => e = .returned (.bool lt) ∧ Below W.heap.size W w') := fun W hW => by
    have h5 := rlets_any t0 n0 s0 x1 s2 y1 (w0.below hW) hcq (by omega)
    rw [hlt] at h5
    exact h5
  clear r1 r2 r1' hb1 hb2 hB2 hmt hlt hcp hcq w0 hL c0
  obtain ⟨⟨y0, y1', y2, y3⟩, _⟩ := HK.out V2 (Below.refl _ _)
  cases hsm : smallT l0 s0 with
  | false =>
    rw [hsm] at HSM
    clear hsm
    go_enter Tryd.func5, Tryd.ntmps5
    go_wp2
    go_quiet (fail)
    go_wp2_with fail
    refine (HSM.out _ (below_drewK (Below.refl _ V2) _)).mono ?_
    rintro e V3 ⟨rfl, hb3⟩
    have hB3 : Below V2.heap.size V2 V3 := (below_drewK (Below.refl _ V2) _).trans hb3
    clear hb3 z0' z1' y0 y1' y2 y3
    have H3 : Hid (Below w.heap.size w V3) := (HK.out V3 hB3).2
    clear hB3
    go_wp2_with fail
    refine (HLV.out _ (H3.out)).mono ?_
    rintro e VZ ⟨rfl, hbZ⟩
    go_wp2
    go_ret
    exact ⟨rfl, hbZ⟩
  | true =>
    rw [hsm] at HSM
    clear hsm
    by_cases h2 : 1000 < s2.size
    · have k2 : (1000 : Int) < (s2.size : Int) := by omega
      go_enter Tryd.func5, Tryd.ntmps5
      go_wp2
      go_quiet (fail)
      go_wp2_with fail
      refine (HSM.out _ (below_drewK (Below.refl _ V2) _)).mono ?_
      rintro e V3 ⟨rfl, hb3⟩
      have hB3 : Below V2.heap.size V2 V3 := (below_drewK (Below.refl _ V2) _).trans hb3
      clear hb3 z0' z1' y0 y1' y2 y3
      have H3 : Hid (Below w.heap.size w V3) := (HK.out V3 hB3).2
      clear hB3
      go_wp2_with fail
      refine (HLV.out _ (H3.out)).mono ?_
      rintro e VZ ⟨rfl, hbZ⟩
      go_wp2
      go_ret
      exact ⟨rfl, hbZ⟩
    · have k2 : ¬ (1000 : Int) < (s2.size : Int) := by omega
      go_enter Tryd.func5, Tryd.ntmps5
      go_wp2
      go_quiet (fail)
      go_wp2_with fail
      refine (HSM.out _ (below_drewK (Below.refl _ V2) _)).mono ?_
      rintro e V3 ⟨rfl, hb3⟩
      have hB3 : Below V2.heap.size V2 V3 := (below_drewK (Below.refl _ V2) _).trans hb3
      clear hb3 z0' z1' y0 y1' y2 y3
      obtain ⟨⟨y0, y1', y2, y3⟩, hw3⟩ := HK.out V3 hB3
      have HM3 := HME.out V3 hw3
      have H3 : Hid (Below V2.heap.size V2 V3) := hB3
      clear hB3 hw3
      go_wp2_with fail
      refine HM3.mono ?_
      rintro e V4 ⟨rfl, hb4⟩
      obtain ⟨V5, hV5, r5, hb5⟩ := box_cv (w := V4) m1 m2 m3
      obtain ⟨mb, hmb⟩ : ∃ mb, V4.heap.size = mb := ⟨_, rfl⟩
      rw [hmb] at r5
      have hB5 : Below V2.heap.size V2 V5 := (H3.out.trans (hb4.mono H3.out.size)).trans (hb5.mono (Nat.le_trans H3.out.size hb4.size))
      clear HM3 hb4 hb5 y0 y1' y2 y3
      obtain ⟨⟨y0, y1', y2, y3⟩, hw5⟩ := HK.out V5 hB5
      have HM5 := HRM.out V5 hw5
      have H5 : Hid (Below V2.heap.size V2 V5 ∧ V5.heap[mb]? = some (.cells #[.string m1, .int .i64 m2, .int .i64 m3] 35 (0, 0))) := ⟨hB5, r5⟩
      clear hB5 hw5 r5
      go_wp2_with fail
      refine HM5.mono ?_
      rintro e V6 ⟨rfl, hb6⟩
      obtain ⟨V8, hV8, r8, hb8⟩ := box_cv (w := V6) m1 m2 m3
      obtain ⟨nb, hnb⟩ : ∃ nb, V6.heap.size = nb := ⟨_, rfl⟩
      rw [hnb] at r8
      have hb58 : Below V5.heap.size V5 V8 := hb6.trans (hb8.mono hb6.size)
      have hB8 : Below V2.heap.size V2 V8 := H5.out.1.trans (hb58.mono H5.out.1.size)
      have m8 := (hb58.block mb (lt_of_some H5.out.2)).trans H5.out.2
      have HS : Hid (∀ W, Below V8.heap.size V8 W → (W.cell? ⟨pb, 0, none⟩ = some (.int .i64 t0) ∧ W.cell? ⟨pb, 1, none⟩ = some (.int .i64 n0) ∧ W.cell? ⟨pb, 2, none⟩ = some (.slice a0 len0 cap0) ∧ W.cell? ⟨pb, 3, none⟩ = some (.string s0)) ∧ (W.cell? ⟨mb, 0, none⟩ = some (.string m1) ∧ W.cell? ⟨mb, 1, none⟩ = some (.int .i64 m2) ∧ W.cell? ⟨mb, 2, none⟩ = some (.int .i64 m3)) ∧ W.cell? ⟨nb, 0, none⟩ = some (.string m1) ∧ W.cell? ⟨nb, 1, none⟩ = some (.int .i64 m2) ∧ W.cell? ⟨nb, 2, none⟩ = some (.int .i64 m3)) := fun W hW => by
        obtain ⟨e0, e1, e2, _⟩ := row3 ((hW.block mb (lt_of_some m8)).trans m8)
        obtain ⟨f0, f1, f2, _⟩ := row3 ((hW.block nb (lt_of_some r8)).trans r8)
        exact ⟨(HK.out W (hB8.trans (hW.mono hB8.size))).1, ⟨e0, e1, e2⟩, f0, f1, f2⟩
      have H8 : Hid (Below w.heap.size w V8) := (HK.out V8 hB8).2
      have he := fun W => eqin_cv ⟨m1, m2, m3⟩ ⟨m1, m2, m3⟩ W
      rw [decide_eq_true rfl] at he
      simp only at he
      have hll : (lt == lt) = true := by simp
      have hqq : (mq == mq) = true := by simp
      clear HM5 hb6 hb8 r8 hb58 hB8 m8 y0 y1' y2 y3
      go_wp2
      refine wp_region_held_drew (S := fun W => (W.cell? ⟨pb, 0, none⟩ = some (.int .i64 t0) ∧ W.cell? ⟨pb, 1, none⟩ = some (.int .i64 n0) ∧ W.cell? ⟨pb, 2, none⟩ = some (.slice a0 len0 cap0) ∧ W.cell? ⟨pb, 3, none⟩ = some (.string s0)) ∧ (W.cell? ⟨mb, 0, none⟩ = some (.string m1) ∧ W.cell? ⟨mb, 1, none⟩ = some (.int .i64 m2) ∧ W.cell? ⟨mb, 2, none⟩ = some (.int .i64 m3)) ∧ W.cell? ⟨nb, 0, none⟩ = some (.string m1) ∧ W.cell? ⟨nb, 1, none⟩ = some (.int .i64 m2) ∧ W.cell? ⟨nb, 2, none⟩ = some (.int .i64 m3)) (by kernel_rfl) (HS.out V8.drew (Below.refl _ V8).drew) (fun hHeld => ?_)
      refine wpAnyH_take (i := 0) (v := ?va_0) rfl (by kernel_rfl) (by kernel_rfl) (by kernel_rfl) (fun _ _ _ h => h) (Or.inl ⟨by first | kernel_rfl | rfl, ?ya_0⟩) hHeld ?ra_0
      case ya_0 => (intro W hSW; (try dsimp only at hSW); go_simp; (try with_reducible rfl))
      change wpAnyH _ _ _ _ _ _ _ (Act.put _ (some 36) _) _
      simp only [Act.put, List.setIfInBounds_toArray, List.set_cons_zero, List.set_cons_succ]
      refine wpAnyH_take (i := 1) (v := ?va_1) rfl (by kernel_rfl) (by kernel_rfl) (by kernel_rfl) (fun _ _ _ h => h) (Or.inl ⟨by first | kernel_rfl | rfl, ?ya_1⟩) hHeld ?ra_1
      case ya_1 => (intro W hSW; (try dsimp only at hSW); go_simp; (try with_reducible rfl))
      change wpAnyH _ _ _ _ _ _ _ (Act.put _ (some 37) _) _
      simp only [Act.put, List.setIfInBounds_toArray, List.set_cons_zero, List.set_cons_succ]
      refine wpAnyH_take (i := 2) (v := ?va_2) rfl (by kernel_rfl) (by kernel_rfl) (by kernel_rfl) (fun _ _ _ h => h) (Or.inl ⟨by first | kernel_rfl | rfl, ?ya_2⟩) hHeld ?ra_2
      case ya_2 => (intro W hSW; (try dsimp only at hSW); go_simp; (try with_reducible rfl))
      change wpAnyH _ _ _ _ _ _ _ (Act.put _ (some 38) _) _
      simp only [Act.put, List.setIfInBounds_toArray, List.set_cons_zero, List.set_cons_succ]
      refine wpAnyH_take (i := 3) (v := ?va_3) rfl (by kernel_rfl) (by kernel_rfl) (by kernel_rfl) (fun _ _ _ h => h) (Or.inl ⟨by first | kernel_rfl | rfl, ?ya_3⟩) hHeld ?ra_3
      case ya_3 => (intro W hSW; (try dsimp only at hSW); go_simp; (try with_reducible rfl))
      change wpAnyH _ _ _ _ _ _ _ (Act.put _ (some 39) _) _
      simp only [Act.put, List.setIfInBounds_toArray, List.set_cons_zero, List.set_cons_succ]
      refine wpAnyH_take (i := 5) (v := ?va_5) rfl (by kernel_rfl) (by kernel_rfl) (by kernel_rfl) (fun _ _ _ h => h) (Or.inl ⟨by first | kernel_rfl | rfl, ?ya_5⟩) hHeld ?ra_5
      case ya_5 => (intro W hSW; (try dsimp only at hSW); go_simp; (try with_reducible rfl))
      change wpAnyH _ _ _ _ _ _ _ (Act.put _ (some 41) _) _
      simp only [Act.put, List.setIfInBounds_toArray, List.set_cons_zero, List.set_cons_succ]
      refine wpAnyH_take (i := 6) (v := ?va_6) rfl (by kernel_rfl) (by kernel_rfl) (by kernel_rfl) (fun _ _ _ h => h) (Or.inl ⟨by first | kernel_rfl | rfl, ?ya_6⟩) hHeld ?ra_6
      case ya_6 => (intro W hSW; (try dsimp only at hSW); go_simp; (try with_reducible rfl))
      change wpAnyH _ _ _ _ _ _ _ (Act.put _ (some 42) _) _
      simp only [Act.put, List.setIfInBounds_toArray, List.set_cons_zero, List.set_cons_succ]
      refine wpAnyH_take (i := 7) (v := ?va_7) rfl (by kernel_rfl) (by kernel_rfl) (by kernel_rfl) (fun _ _ _ h => h) (Or.inl ⟨by first | kernel_rfl | rfl, ?ya_7⟩) hHeld ?ra_7
      case ya_7 => (intro W hSW; (try dsimp only at hSW); go_simp; (try with_reducible rfl))
      change wpAnyH _ _ _ _ _ _ _ (Act.put _ (some 43) _) _
      simp only [Act.put, List.setIfInBounds_toArray, List.set_cons_zero, List.set_cons_succ]
      refine wpAnyH_take (i := 8) (v := ?va_8) rfl (by kernel_rfl) (by kernel_rfl) (by kernel_rfl) (fun _ _ _ h => h) (Or.inl ⟨by first | kernel_rfl | rfl, ?ya_8⟩) hHeld ?ra_8
      case ya_8 => (intro W hSW; (try dsimp only at hSW); go_simp; (try with_reducible rfl))
      change wpAnyH _ _ _ _ _ _ _ (Act.put _ (some 44) _) _
      simp only [Act.put, List.setIfInBounds_toArray, List.set_cons_zero, List.set_cons_succ]
      refine wpAnyH_ready (rs := [4]) (by kernel_rfl) (by simp) ?_
      refine AllReadyH.cons rfl (fun K hK => ?_) AllReadyH.nil
      go_simp
      refine (HLT.out V8.drew (H8.out.drew)).mono ?_
      rintro e V9 ⟨rfl, hb9⟩
      refine hK.out _ _ (HS.out V9 ((Below.refl _ V8).drew.trans hb9)) (fun hHeld => ?_)
      clear hK K
      try simp only [Act.put, List.setIfInBounds_toArray, List.set_cons_zero, List.set_cons_succ]
      have H9 : Hid (Below V8.heap.size V8 V9) := (Below.refl _ V8).drew.trans hb9
      clear hb9
      refine wpAnyH_ready (rs := [9]) (by kernel_rfl) (by simp) ?_
      refine AllReadyH.cons rfl (fun K hK => ?_) AllReadyH.nil
      go_simp
      refine (HRL.out V9 (H8.out.trans (H9.out.mono H8.out.size))).mono ?_
      rintro e V10 ⟨rfl, hb10⟩
      refine hK.out _ _ (HS.out V10 (H9.out.trans (hb10.mono H9.out.size))) (fun hHeld => ?_)
      clear hK K
      try simp only [Act.put, List.setIfInBounds_toArray, List.set_cons_zero, List.set_cons_succ]
      have H10 : Hid (Below V8.heap.size V8 V10) := H9.out.trans (hb10.mono H9.out.size)
      clear hb10
      refine wpAnyH_take (i := 10) (v := ?va_10) rfl (by kernel_rfl) (by kernel_rfl) (by kernel_rfl) (fun _ _ _ h => h) (Or.inl ⟨by first | kernel_rfl | rfl, ?ya_10⟩) hHeld ?ra_10
      case ya_10 => (intro W hSW; (try dsimp only at hSW); go_simp; (try with_reducible rfl))
      change wpAnyH _ _ _ _ _ _ _ (Act.put _ (some 46) _) _
      simp only [Act.put, List.setIfInBounds_toArray, List.set_cons_zero, List.set_cons_succ]
      refine wpAnyH_take (i := 11) (v := ?va_11) rfl (by kernel_rfl) (by kernel_rfl) (by kernel_rfl) (fun _ _ _ h => h) (Or.inl ⟨by first | kernel_rfl | rfl, ?ya_11⟩) hHeld ?ra_11
      case ya_11 => (intro W hSW; (try dsimp only at hSW); go_simp; (try with_reducible rfl))
      change wpAnyH _ _ _ _ _ _ _ (Act.put _ (some 47) _) _
      simp only [Act.put, List.setIfInBounds_toArray, List.set_cons_zero, List.set_cons_succ]
      refine wpAnyH_take (i := 12) (v := ?va_12) rfl (by kernel_rfl) (by kernel_rfl) (by kernel_rfl) (fun _ _ _ h => h) (Or.inl ⟨by first | kernel_rfl | rfl, ?ya_12⟩) hHeld ?ra_12
      case ya_12 => (intro W hSW; (try dsimp only at hSW); go_simp; (try with_reducible rfl))
      change wpAnyH _ _ _ _ _ _ _ (Act.put _ (some 48) _) _
      simp only [Act.put, List.setIfInBounds_toArray, List.set_cons_zero, List.set_cons_succ]
      refine wpAnyH_take (i := 13) (v := ?va_13) rfl (by kernel_rfl) (by kernel_rfl) (by kernel_rfl) (fun _ _ _ h => h) (Or.inl ⟨by first | kernel_rfl | rfl, ?ya_13⟩) hHeld ?ra_13
      case ya_13 => (intro W hSW; (try dsimp only at hSW); go_simp; (try with_reducible rfl))
      change wpAnyH _ _ _ _ _ _ _ (Act.put _ (some 49) _) _
      simp only [Act.put, List.setIfInBounds_toArray, List.set_cons_zero, List.set_cons_succ]
      refine wpAnyH_take (i := 14) (v := ?va_14) rfl (by kernel_rfl) (by kernel_rfl) (by kernel_rfl) (fun _ _ _ h => h) (Or.inl ⟨by first | kernel_rfl | rfl, ?ya_14⟩) hHeld ?ra_14
      case ya_14 => (intro W hSW; (try dsimp only at hSW); go_simp; (try with_reducible rfl))
      change wpAnyH _ _ _ _ _ _ _ (Act.put _ (some 50) _) _
      simp only [Act.put, List.setIfInBounds_toArray, List.set_cons_zero, List.set_cons_succ]
      refine wpAnyH_take (i := 15) (v := ?va_15) rfl (by kernel_rfl) (by kernel_rfl) (by kernel_rfl) (fun _ _ _ h => h) (Or.inl ⟨by first | kernel_rfl | rfl, ?ya_15⟩) hHeld ?ra_15
      case ya_15 => (intro W hSW; (try dsimp only at hSW); go_simp; (try with_reducible rfl))
      change wpAnyH _ _ _ _ _ _ _ (Act.put _ (some 51) _) _
      simp only [Act.put, List.setIfInBounds_toArray, List.set_cons_zero, List.set_cons_succ]
      refine wpAnyH_take (i := 16) (v := ?va_16) rfl (by kernel_rfl) (by kernel_rfl) (by kernel_rfl) (fun _ _ _ h => h) (Or.inl ⟨by first | kernel_rfl | rfl, ?ya_16⟩) hHeld ?ra_16
      case ya_16 => (intro W hSW; (try dsimp only at hSW); go_simp; (try with_reducible rfl))
      change wpAnyH _ _ _ _ _ _ _ (Act.put _ (some 52) _) _
      simp only [Act.put, List.setIfInBounds_toArray, List.set_cons_zero, List.set_cons_succ]
      refine wpAnyH_take (i := 17) (v := ?va_17) rfl (by kernel_rfl) (by kernel_rfl) (by kernel_rfl) (fun _ _ _ h => h) (Or.inl ⟨by first | kernel_rfl | rfl, ?ya_17⟩) hHeld ?ra_17
      case ya_17 => (intro W hSW; (try dsimp only at hSW); go_simp; (try with_reducible rfl))
      change wpAnyH _ _ _ _ _ _ _ (Act.put _ (some 53) _) _
      simp only [Act.put, List.setIfInBounds_toArray, List.set_cons_zero, List.set_cons_succ]
      refine wpAnyH_take (i := 18) (v := ?va_18) rfl (by kernel_rfl) (by kernel_rfl) (by kernel_rfl) (fun _ _ _ h => h) (Or.inl ⟨by first | kernel_rfl | rfl, ?ya_18⟩) hHeld ?ra_18
      case ya_18 => (intro W hSW; (try dsimp only at hSW); go_simp; (try with_reducible rfl))
      change wpAnyH _ _ _ _ _ _ _ (Act.put _ (some 54) _) _
      simp only [Act.put, List.setIfInBounds_toArray, List.set_cons_zero, List.set_cons_succ]
      refine wpAnyH_take (i := 19) (v := ?va_19) rfl (by kernel_rfl) (by kernel_rfl) (by kernel_rfl) (fun _ _ _ h => h) (Or.inl ⟨by first | kernel_rfl | rfl, ?ya_19⟩) hHeld ?ra_19
      case ya_19 => (intro W hSW; (try dsimp only at hSW); go_simp; (try with_reducible rfl))
      change wpAnyH _ _ _ _ _ _ _ (Act.put _ (some 55) _) _
      simp only [Act.put, List.setIfInBounds_toArray, List.set_cons_zero, List.set_cons_succ]
      refine wpAnyH_take (i := 20) (v := ?va_20) rfl (by kernel_rfl) (by kernel_rfl) (by kernel_rfl) (fun _ _ _ h => h) (Or.inl ⟨by first | kernel_rfl | rfl, ?ya_20⟩) hHeld ?ra_20
      case ya_20 => (intro W hSW; (try dsimp only at hSW); go_simp; (try with_reducible rfl))
      change wpAnyH _ _ _ _ _ _ _ (Act.put _ (some 56) _) _
      simp only [Act.put, List.setIfInBounds_toArray, List.set_cons_zero, List.set_cons_succ]
      refine wpAnyH_take (i := 21) (v := ?va_21) rfl (by kernel_rfl) (by kernel_rfl) (by kernel_rfl) (fun _ _ _ h => h) (Or.inl ⟨by first | kernel_rfl | rfl, ?ya_21⟩) hHeld ?ra_21
      case ya_21 => (intro W hSW; (try dsimp only at hSW); go_simp; (try with_reducible rfl))
      change wpAnyH _ _ _ _ _ _ _ (Act.put _ (some 57) _) _
      simp only [Act.put, List.setIfInBounds_toArray, List.set_cons_zero, List.set_cons_succ]
      refine wpAnyH_ready (rs := [22]) (by kernel_rfl) (by simp) ?_
      refine AllReadyH.cons rfl (fun K hK => ?_) AllReadyH.nil
      go_simp
      refine (HLV2.out V10 (H8.out.trans (H10.out.mono H8.out.size))).mono ?_
      rintro e V11 ⟨rfl, hb11⟩
      refine hK.out _ _ (HS.out V11 (H10.out.trans (hb11.mono H10.out.size))) (fun hHeld => ?_)
      clear hK K
      try simp only [Act.put, List.setIfInBounds_toArray, List.set_cons_zero, List.set_cons_succ]
      have H11 : Hid (Below w.heap.size w V11) := H8.out.trans ((H10.out.trans (hb11.mono H10.out.size)).mono H8.out.size)
      clear hb11
      refine wpAnyH_take (i := 23) (v := ?va_23) rfl (by kernel_rfl) (by kernel_rfl) (by kernel_rfl) (fun _ _ _ h => h) (Or.inl ⟨by first | kernel_rfl | rfl, ?ya_23⟩) hHeld ?ra_23
      case ya_23 => (intro W hSW; (try dsimp only at hSW); go_simp; (try with_reducible rfl))
      change wpAnyH _ _ _ _ _ _ _ (Act.put _ (some 59) _) _
      simp only [Act.put, List.setIfInBounds_toArray, List.set_cons_zero, List.set_cons_succ]
      refine wpAnyH_take (i := 24) (v := ?va_24) rfl (by kernel_rfl) (by kernel_rfl) (by kernel_rfl) (fun _ _ _ h => h) (Or.inl ⟨by first | kernel_rfl | rfl, ?ya_24⟩) hHeld ?ra_24
      case ya_24 => (intro W hSW; (try dsimp only at hSW); go_simp; (try with_reducible rfl))
      change wpAnyH _ _ _ _ _ _ _ (Act.put _ (some 6) _) _
      simp only [Act.put, List.setIfInBounds_toArray, List.set_cons_zero, List.set_cons_succ]
      refine wpAnyH_done (by kernel_rfl) ?_ _
      go_wp2
      go_ret
      exact ⟨rfl, H11.out⟩

set_option linter.unusedVariables false in
set_option maxRecDepth 100000 in
theorem lifted (os : Os) (started : os.Started) (H : Type) (enc : TypeId × Value → H) :
    ReturnsInHanded {} Tryd.checked os 5 .any (fun w args => (Rows.capLetsSpec.pre enc Tryd.prog Tryd.f5 [] false w args ∧ laidMetH Tryd.prog laid2 w) ∧ sizedMet enc Tryd.prog Tryd.f5 (OpenSpec.ofChange Rows.capLetsSpec) false w args) (Rows.capLetsSpec.post enc Tryd.prog Tryd.f5 false true false false) := by
  refine returnsInHanded_of_change_and (C := Tryd.checked) (X := fun w _ => laidMetH Tryd.prog laid2 w) (fun _ _ _ hh h => h.of_heap hh) own started (by kernel_rfl) Tryd.func5
    (ChangeSpec.witness_shaped (enc := enc) (C := Tryd.checked) (os := os) (X := fun w _ => laidMetH Tryd.prog laid2 w) false (World.doorLaid Tryd.prog 19 os) #[.agg #[.int .i64 0, .int .i64 0, .slice none 0 0, .string ByteArray.empty], .agg #[.int .i64 0, .int .i64 0], .string ByteArray.empty] 8 rfl (World.shaped_of_RefB (by kernel_rfl) (by kernel_rfl)) (by kernel_rfl) (by kernel_rfl) (by kernel_rfl) (door_met os _)) ?_
  intro W base args ds gs before hval0 hW _ hsz0 hL _
  have hval : ∀ (j : Nat) t v, Tryd.f5.params[j]? = some t → args[j]? = some v → Value.okWide Tryd.prog W .any base t v := hval0
  have hsz : (DataW.weightsEach Tryd.prog (Tryd.f5.params.toList ++ Rows.capLetsSpec.plain.varTypes Tryd.prog) (ds ++ gs)).all (· ≤ reachBytes) = true := hsz0
  have hW' := hW
  obtain ⟨p, q, hA0, hV, rfl, hfz, hnd⟩ := hW
  have hA : DataW.TrodAll enc Tryd.prog W 0 (fun _ => true) true Tryd.f5.params.toList args.toList ds p := hA0
  rw [Tryd.params5] at hA hval hsz
  obtain ⟨v0, vs0, d0, ds0, p0, q0, hargs, rfl, rfl, h0, r0⟩ := trodAll_cons hA
  obtain ⟨v1, vs1, d1, ds1, p1, q1, rfl, rfl, rfl, h1, r1⟩ := trodAll_cons r0
  obtain ⟨v2, vs2, d2, ds2, p2, q2, rfl, rfl, rfl, h2, r2⟩ := trodAll_cons r1
  obtain ⟨rfl, rfl, rfl⟩ := trodAll_nil r2
  obtain rfl : args = #[v0, v1, v2] := by cases args; simp_all
  obtain ⟨rfl, rfl⟩ := trodVars_none hV
  have k0 := h0
  have lt0 : ∀ x ∈ p0, x.block < W.heap.size := by obtain ⟨m, hm⟩ := k0; exact DataW.trod_lt m _ _ _ hm
  obtain ⟨t0, n0, a0, len0, cap0, s0, l0, rfl, w0, c0, z0, y0, x0⟩ := tok_arg (j := 0) (hval 0 25 v0 rfl rfl) h0 hsz rfl rfl
  have k1 := h1
  have lt1 : ∀ x ∈ p1, x.block < W.heap.size := by obtain ⟨m, hm⟩ := k1; exact DataW.trod_lt m _ _ _ hm
  obtain ⟨x1, y1, rfl, w1, u1⟩ := ints2_of (hval 1 39 v1 rfl rfl) h1
  obtain ⟨s2, rfl, rfl, rfl, w2⟩ := open_string Tryd.underlying9 (hval 2 9 v2 rfl rfl) h2
  have z2 : s2.size ≤ 140737488351232 := by
    have := sized_string hsz (j := 2) (t := 9) rfl rfl
    simpa [reachBytes] using this
  clear hA0 hval0 hsz hsz0
  refine (walk t0 n0 a0 len0 cap0 s0 l0 c0 z0 y0 x0 x1 y1 (wf_i64 w1) (wf_i64 u1) s2 z2 W w0 (of_laid hL)).mono fun e W' ⟨he, bel⟩ => ?_
  subst he
  exact ⟨_, rfl, _, _, _, [], _, [], hW', trodAll_mk1 (shut_bool Tryd.underlying4 _), (trodAll_cons_mk (Below.trod laidOut (by kernel_rfl) (of_decide_eq_true (by kernel_rfl)) k0 bel lt0) (trodAll_cons_mk (Below.trod laidOut (by kernel_rfl) (of_decide_eq_true (by kernel_rfl)) k1 bel lt1) (trodAll_cons_mk (shut_string Tryd.underlying9 w2) trodAll_mk0))), rfl, bel.frame _, fun h => by cases h⟩

theorem over : Rows.capLetsRow.holds Tryd.pinned (OpenSpec.ofChange Rows.capLetsSpec) :=
  OpenClaim.holds_of_wide 5 Tryd.f5 rfl rfl rfl rfl rfl rfl rfl ⟨rfl, rfl, rfl, rfl, rfl⟩ rfl rfl rfl rfl rfl (by kernel_rfl) Tryd.func5 (by kernel_rfl)
    (of_decide_eq_true (by kernel_rfl)) (by unfold Func.isWrapper; first | (rw [if_pos (by decide +kernel)]; kernel_rfl) | (rw [if_neg (by decide +kernel)]; exact ⟨rfl, rfl⟩))
    (fun os started H enc _ => lifted os started H enc)

end Go.Proofs.YtcmdcmbiilfngaaDoor.capLets
namespace Go.Proofs.YtcmdcmbiilfngaaDoor
/-- The given statement. -/
theorem capLets_holds : Rows.CapLetsCardSaid :=
  Claim7.holds_tied_plain_at .later [] [.data, .data] true (true, "b19a03ae824dc2f6810aeb81173081118005215afdce10c70f77b3db14f8911f") false
    capLets.over (fun _ h => by cases h) (by kernel_rfl) (fun _ h => by cases h) capLets_row_tie rfl ⟨rfl, rfl⟩ (by kernel_rfl) rfl
    (fun f fn hf hfn => by
      obtain rfl : f = 5 := Option.some.inj ((show Tryd.prog.funcNamed "strongroom/strongroomlaw12.CapLets" = some 5 by kernel_rfl).symm.trans hf) |>.symm
      obtain rfl : fn = Tryd.f5 := (Option.some.inj (Tryd.func5.symm.trans hfn)).symm
      exact ⟨by kernel_rfl, fun j t ht => by
        rw [Tryd.params5] at ht
        rcases j with _ | _ | _ | j
        · obtain rfl : t = 25 := by simpa using ht.symm
          exact (show Tryd.prog.wantsStandIn 25 = false by kernel_rfl)
        · obtain rfl : t = 39 := by simpa using ht.symm
          exact (show Tryd.prog.wantsStandIn 39 = false by kernel_rfl)
        · obtain rfl : t = 9 := by simpa using ht.symm
          exact (show Tryd.prog.wantsStandIn 9 = false by kernel_rfl)
        · simp at ht
      ⟩)
    (by kernel_rfl)
#print axioms capLets_holds
end Go.Proofs.YtcmdcmbiilfngaaDoor
