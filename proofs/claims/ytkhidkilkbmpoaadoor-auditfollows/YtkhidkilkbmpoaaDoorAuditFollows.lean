/- Proved: for any two audits the law AuditFollows returns true, what was handed in as it was (whether any audit follows any other one is the document's; each that may be follows itself); where the package's two tables begin as the program's text lays them. -/
import Derived.Test.YtkhidkilkbmpoaaDoorRM
import Derived.Test.YtkhidkilkbmpoaaDoorQI
import Derived.Test.YtkhidkilkbmpoaaDoorCards
import Derived.Test.YtkhidkilkbmpoaaDoorTie
import Derived.WalkKit
import Derived.ProofKit
import Derived.OpenShut
import Derived.ShutString
import Derived.ChangeOld
import Derived.Below
import Derived.LaidMore
import Derived.Stop.Joined
import Derived.SevenTiedAt
namespace Go.Proofs.YtkhidkilkbmpoaaDoor.auditFollows
open Go.ChangeShapes Go.WideShapes Go.ChangeAt Go.WideMaps Go.WideElems Go.RowKit
open Go.ChangeMaps (open_string shut_string)

set_option maxRecDepth 100000 in
set_option maxHeartbeats 8000000 in
theorem walk (s0 : ByteArray) (n0 : Int) (a0 : Option Addr) (len0 cap0 : Nat) (l0 : List En) (c0 : ∀ c ∈ l0, c.In) (z0 : s0.size ≤ 140737488351232) (_x0 : -9223372036854775808 ≤ n0 ∧ n0 ≤ 9223372036854775807) (s1 : ByteArray) (n1 : Int) (a1 : Option Addr) (len1 cap1 : Nat) (l1 : List En) (c1 : ∀ c ∈ l1, c.In) (z1 : s1.size ≤ 140737488351232) (_x1 : -9223372036854775808 ≤ n1 ∧ n1 ≤ 9223372036854775807) (w : World) (w0 : Ew w a0 len0 cap0 l0) (w1 : Ew w a1 len1 cap1 l1) (hL : Laid w) :
    Calls Tryd.prog 7 #[.agg #[.string s0, .int .i64 n0, .slice a0 len0 cap0], .agg #[.string s1, .int .i64 n1, .slice a1 len1 cap1]] w fun e w' => e = .returned (.bool true) ∧ Below w.heap.size w w' := by
  have HLV : Hid (∀ V, Below w.heap.size w V → Calls Tryd.prog 10 #[] V fun e w' => e = .returned (.bool true) ∧ Below V.heap.size V w') := fun V hV => lives_any V (hL.below hV)
  obtain ⟨pb, hpb⟩ : ∃ pb, w.heap.size = pb := ⟨_, rfl⟩
  obtain ⟨V1, hV1, r1, hb1⟩ := box_au 24 (w := w) s0 n0 a0 len0 cap0
  obtain ⟨qb, hqb⟩ : ∃ qb, V1.heap.size = qb := ⟨_, rfl⟩
  obtain ⟨V2, hV2, r2, hb2⟩ := box_au 24 (w := V1) s1 n1 a1 len1 cap1
  rw [hpb] at r1
  rw [hqb] at r2
  have r12 := (hb2.block pb (lt_of_some r1)).trans r1
  have hB2 : Below w.heap.size w V2 := hb1.trans (hb2.mono hb1.size)
  have HK : Hid (∀ W, Below V2.heap.size V2 W → ((W.cell? ⟨pb, 0, none⟩ = some (.string s0) ∧ W.cell? ⟨pb, 1, none⟩ = some (.int .i64 n0) ∧ W.cell? ⟨pb, 2, none⟩ = some (.slice a0 len0 cap0)) ∧ (W.cell? ⟨qb, 0, none⟩ = some (.string s1) ∧ W.cell? ⟨qb, 1, none⟩ = some (.int .i64 n1) ∧ W.cell? ⟨qb, 2, none⟩ = some (.slice a1 len1 cap1))) ∧ Below w.heap.size w W) := fun W hW => by
    obtain ⟨e0, e1, e2, _⟩ := row3 ((hW.block pb (lt_of_some r12)).trans r12)
    obtain ⟨f0, f1, f2, _⟩ := row3 ((hW.block qb (lt_of_some r2)).trans r2)
    exact ⟨⟨⟨e0, e1, e2⟩, f0, f1, f2⟩, hB2.trans (hW.mono hB2.size)⟩
  obtain ⟨⟨⟨y0, y1, y2⟩, _⟩, _⟩ := HK.out V2 (Below.refl _ _)
  have HSM := small_au s0 n0 (w0.below hB2) z0 (fun c hc => (c0 c hc).2.2.2.2)
  unfold YeTo at HSM
  have HSN : Hid (∀ W, Below w.heap.size w W → Calls Tryd.prog 9 #[.agg #[.string s1, .int .i64 n1, .slice a1 len1 cap1]] W fun e w' => e = .returned (.bool (smallA l1 s1)) ∧ Below W.heap.size W w') := fun W hW => small_au s1 n1 (w1.below hW) z1 (fun c hc => (c1 c hc).2.2.2.2)
  cases hsm : smallA l0 s0 with
  | false =>
    rw [hsm] at HSM
    clear hsm hL w0 w1 c0 c1 r1 r2 r12 hb1 hb2 hB2
    go_enter Tryd.func7, Tryd.ntmps7
    go_wp2_with fail
    refine HSM.mono ?_
    rintro e V3 ⟨rfl, hb3⟩
    have HB : Hid (Below w.heap.size w V3) := (HK.out V3 hb3).2
    clear HSM hb3 y0 y1 y2
    have HLX := HLV.out V3 HB.out
    go_wp2_with fail
    refine HLX.mono ?_
    rintro e VZ ⟨rfl, hbZ⟩
    have HZ : Hid (Below w.heap.size w VZ) := HB.out.trans (hbZ.mono HB.out.size)
    clear HLX hbZ
    go_wp2
    go_ret
    exact ⟨rfl, HZ.out⟩
  | true =>
    rw [hsm] at HSM
    cases hsn : smallA l1 s1 with
    | false =>
      rw [hsn] at HSN
      clear hsm hsn hL w0 w1 c0 c1 r1 r2 r12 hb1 hb2 hB2
      go_enter Tryd.func7, Tryd.ntmps7
      go_wp2_with fail
      refine HSM.mono ?_
      rintro e V3 ⟨rfl, hb3⟩
      obtain ⟨⟨_, x0, x1, x2⟩, hw3⟩ := HK.out V3 hb3
      have HS3 := HSN.out V3 hw3
      have HB0 : Hid (Below w.heap.size w V3) := hw3
      clear HSM hb3 hw3 y0 y1 y2
      go_wp2_with fail
      refine HS3.mono ?_
      rintro e V4 ⟨rfl, hb4⟩
      have HB : Hid (Below w.heap.size w V4) := HB0.out.trans (hb4.mono HB0.out.size)
      clear HS3 hb4 x0 x1 x2
      have HLX := HLV.out V4 HB.out
      go_wp2_with fail
      refine HLX.mono ?_
      rintro e VZ ⟨rfl, hbZ⟩
      have HZ : Hid (Below w.heap.size w VZ) := HB.out.trans (hbZ.mono HB.out.size)
      clear HLX hbZ
      go_wp2
      go_ret
      exact ⟨rfl, HZ.out⟩
    | true =>
      rw [hsn] at HSN
      have hsmi := small_iff.1 hsm
      have hsni := small_iff.1 hsn
      have hl0 := w0.len
      have hl1 := w1.len
      have HMI0 : Hid (∀ W, Below w.heap.size w W → Calls Tryd.prog 16 #[.agg #[.string s0, .int .i64 n0, .slice a0 len0 cap0]] W fun e w' => ∃ (a' : Option Addr) (c' : Nat), e = .returned (.agg #[.string s0, .int .i64 n0, .slice a' len0 c']) ∧ w'.ownsRow W.heap.size 36 5 (.slice a' len0 c') len0 (enR l0) ∧ Below W.heap.size W w') := fun W hW => mine_any s0 n0 (w0.below hW) (by omega)
      have HMI1 : Hid (∀ W, Below w.heap.size w W → Calls Tryd.prog 16 #[.agg #[.string s1, .int .i64 n1, .slice a1 len1 cap1]] W fun e w' => ∃ (a' : Option Addr) (c' : Nat), e = .returned (.agg #[.string s1, .int .i64 n1, .slice a' len1 c']) ∧ w'.ownsRow W.heap.size 36 5 (.slice a' len1 c') len1 (enR l1) ∧ Below W.heap.size W w') := fun W hW => mine_any s1 n1 (w1.below hW) (by omega)
      obtain ⟨fo, hfo⟩ : ∃ x, folA ⟨s0, n0, l0⟩ ⟨s1, n1, l1⟩ = x := ⟨_, rfl⟩
      obtain ⟨my, hmy⟩ : ∃ x, mayA ⟨s0, n0, l0⟩ = x := ⟨_, rfl⟩
      have HAF : Hid (∀ W, Below w.heap.size w W → ∀ (ma : Option Addr) (mc : Nat) (ka : Option Addr) (kc : Nat), Ew W ma len0 mc l0 → Ew W ka len1 kc l1 → Calls Tryd.prog 25 #[.agg #[.string s0, .int .i64 n0, .slice ma len0 mc], .agg #[.string s1, .int .i64 n1, .slice ka len1 kc]] W fun e w' => e = .returned (.bool fo) ∧ Below W.heap.size W w') := fun W hW ma mc ka kc h h' => by
        have h9 := afol_any s0 n0 s1 n1 h h' (hL.below hW)
        rw [hfo] at h9
        exact h9
      have HAS : Hid (∀ W, Below w.heap.size w W → ∀ (ma : Option Addr) (mc : Nat) (ka : Option Addr) (kc : Nat), Ew W ma len0 mc l0 → Ew W ka len0 kc l0 → Calls Tryd.prog 25 #[.agg #[.string s0, .int .i64 n0, .slice ma len0 mc], .agg #[.string s0, .int .i64 n0, .slice ka len0 kc]] W fun e w' => e = .returned (.bool my) ∧ Below W.heap.size W w') := fun W hW ma mc ka kc h h' => by
        have h9 := afol_any s0 n0 s0 n0 h h' (hL.below hW)
        rw [fol_self, hmy] at h9
        exact h9
      have HRF : Hid (∀ W, Below w.heap.size w W → Calls Tryd.prog 26 #[.agg #[.string s0, .int .i64 n0, .slice a0 len0 cap0], .agg #[.string s1, .int .i64 n1, .slice a1 len1 cap1]] W fun e w' => e = .returned (.bool fo) ∧ Below W.heap.size W w') := fun W hW => by
        have h9 := rfol_any s0 n0 s1 n1 (w0.below hW) (w1.below hW)
        rw [hfo] at h9
        exact h9
      have HRM : Hid (∀ W, Below w.heap.size w W → Calls Tryd.prog 17 #[.agg #[.string s0, .int .i64 n0, .slice a0 len0 cap0]] W fun e w' => e = .returned (.bool my) ∧ Below W.heap.size W w') := fun W hW => by
        have h9 := rmay_any s0 n0 (w0.below hW)
        rw [hmy] at h9
        exact h9
      have hff : (fo == fo) = true := by simp
      have hmm : (my == my) = true := by simp
      clear hsm hsn hsmi hsni hl0 hl1 hL w0 w1 c0 c1 r1 r2 r12 hb1 hb2 hB2 hfo hmy
      go_enter Tryd.func7, Tryd.ntmps7
      go_wp2_with fail
      refine HSM.mono ?_
      rintro e V3 ⟨rfl, hb3⟩
      obtain ⟨⟨_, x0, x1, x2⟩, hw3⟩ := HK.out V3 hb3
      have HS3 := HSN.out V3 hw3
      have H3 : Hid (Below V2.heap.size V2 V3) := hb3
      clear HSM hb3 hw3 y0 y1 y2
      go_wp2_with fail
      refine HS3.mono ?_
      rintro e V4 ⟨rfl, hb4⟩
      have H4 : Hid (Below V2.heap.size V2 V4) := H3.out.trans (hb4.mono H3.out.size)
      have HS : Hid (∀ W, Below V4.heap.size V4 W → ((W.cell? ⟨pb, 0, none⟩ = some (.string s0) ∧ W.cell? ⟨pb, 1, none⟩ = some (.int .i64 n0) ∧ W.cell? ⟨pb, 2, none⟩ = some (.slice a0 len0 cap0)) ∧ (W.cell? ⟨qb, 0, none⟩ = some (.string s1) ∧ W.cell? ⟨qb, 1, none⟩ = some (.int .i64 n1) ∧ W.cell? ⟨qb, 2, none⟩ = some (.slice a1 len1 cap1))) ∧ Below w.heap.size w W) := fun W hW => HK.out W (H4.out.trans (hW.mono H4.out.size))
      clear HS3 hb4 x0 x1 x2
      go_wp2
      refine wp_region_held_drew (S := fun W => (W.cell? ⟨pb, 0, none⟩ = some (.string s0) ∧ W.cell? ⟨pb, 1, none⟩ = some (.int .i64 n0) ∧ W.cell? ⟨pb, 2, none⟩ = some (.slice a0 len0 cap0)) ∧ (W.cell? ⟨qb, 0, none⟩ = some (.string s1) ∧ W.cell? ⟨qb, 1, none⟩ = some (.int .i64 n1) ∧ W.cell? ⟨qb, 2, none⟩ = some (.slice a1 len1 cap1))) (by kernel_rfl) ((HS.out V4.drew (Below.refl _ V4).drew).1) (fun hHeld => ?_)
      have Ha_0 : Hid (Below V4.heap.size V4 V4.drew) := (Below.refl _ V4).drew
      refine wpAnyH_take (i := 0) (v := ?va_0) rfl (by kernel_rfl) (by kernel_rfl) (by kernel_rfl) (fun _ _ _ h => h) (Or.inl ⟨by first | kernel_rfl | rfl, ?ya_0⟩) hHeld ?ra_0
      case ya_0 => (intro W hSW; (try dsimp only at hSW); go_simp; (try with_reducible rfl))
      change wpAnyH _ _ _ _ _ _ _ (Act.put _ (some 14) _) _
      simp only [Act.put, List.setIfInBounds_toArray, List.set_cons_zero, List.set_cons_succ]
      refine wpAnyH_take (i := 2) (v := ?va_2) rfl (by kernel_rfl) (by kernel_rfl) (by kernel_rfl) (fun _ _ _ h => h) (Or.inl ⟨by first | kernel_rfl | rfl, ?ya_2⟩) hHeld ?ra_2
      case ya_2 => (intro W hSW; (try dsimp only at hSW); go_simp; (try with_reducible rfl))
      change wpAnyH _ _ _ _ _ _ _ (Act.put _ (some 16) _) _
      simp only [Act.put, List.setIfInBounds_toArray, List.set_cons_zero, List.set_cons_succ]
      refine wpAnyH_take (i := 5) (v := ?va_5) rfl (by kernel_rfl) (by kernel_rfl) (by kernel_rfl) (fun _ _ _ h => h) (Or.inl ⟨by first | kernel_rfl | rfl, ?ya_5⟩) hHeld ?ra_5
      case ya_5 => (intro W hSW; (try dsimp only at hSW); go_simp; (try with_reducible rfl))
      change wpAnyH _ _ _ _ _ _ _ (Act.put _ (some 19) _) _
      simp only [Act.put, List.setIfInBounds_toArray, List.set_cons_zero, List.set_cons_succ]
      refine wpAnyH_take (i := 6) (v := ?va_6) rfl (by kernel_rfl) (by kernel_rfl) (by kernel_rfl) (fun _ _ _ h => h) (Or.inl ⟨by first | kernel_rfl | rfl, ?ya_6⟩) hHeld ?ra_6
      case ya_6 => (intro W hSW; (try dsimp only at hSW); go_simp; (try with_reducible rfl))
      change wpAnyH _ _ _ _ _ _ _ (Act.put _ (some 20) _) _
      simp only [Act.put, List.setIfInBounds_toArray, List.set_cons_zero, List.set_cons_succ]
      refine wpAnyH_ready (rs := [1]) (by kernel_rfl) (by simp) ?_
      refine AllReadyH.cons rfl (fun K hK => ?_) AllReadyH.nil
      go_simp
      refine (HMI0.out V4.drew (HS.out V4.drew Ha_0.out).2).mono ?_
      rintro e X1 ⟨ma, mc, rfl, hown, hbX1⟩
      refine hK.out _ _ ((HS.out X1 (Ha_0.out.trans (hbX1.mono Ha_0.out.size))).1) (fun hHeld => ?_)
      clear hK K
      try simp only [Act.put, List.setIfInBounds_toArray, List.set_cons_zero, List.set_cons_succ]
      have HX1 : Hid (Below V4.heap.size V4 X1) := (Ha_0.out.trans (hbX1.mono Ha_0.out.size))
      have HOX1 : Hid (∀ W, Below X1.heap.size X1 W → Ew W ma len0 mc l0) := fun W hW => (Ew.own hown).below hW
      have HBX1 : Hid (Below V4.drew.heap.size V4.drew X1) := hbX1
      clear hown hbX1
      refine wpAnyH_ready (rs := [3]) (by kernel_rfl) (by simp) ?_
      refine AllReadyH.cons rfl (fun K hK => ?_) AllReadyH.nil
      go_simp
      refine (HMI1.out X1 (HS.out X1 HX1.out).2).mono ?_
      rintro e X2 ⟨ka, kc, rfl, hown, hbX2⟩
      refine hK.out _ _ ((HS.out X2 (HX1.out.trans (hbX2.mono HX1.out.size))).1) (fun hHeld => ?_)
      clear hK K
      try simp only [Act.put, List.setIfInBounds_toArray, List.set_cons_zero, List.set_cons_succ]
      have HX2 : Hid (Below V4.heap.size V4 X2) := (HX1.out.trans (hbX2.mono HX1.out.size))
      have HOX2 : Hid (∀ W, Below X2.heap.size X2 W → Ew W ka len1 kc l1) := fun W hW => (Ew.own hown).below hW
      have HBX2 : Hid (Below X1.heap.size X1 X2) := hbX2
      clear hown hbX2
      have HF2 : Hid (Calls Tryd.prog 25 #[.agg #[.string s0, .int .i64 n0, .slice ma len0 mc], .agg #[.string s1, .int .i64 n1, .slice ka len1 kc]] X2 fun e w' => e = .returned (.bool fo) ∧ Below X2.heap.size X2 w') := HAF.out X2 (HS.out X2 HX2.out).2 ma mc ka kc (HOX1.out X2 HBX2.out) (HOX2.out X2 (Below.refl _ _))
      refine wpAnyH_ready (rs := [4]) (by kernel_rfl) (by simp) ?_
      refine AllReadyH.cons rfl (fun K hK => ?_) AllReadyH.nil
      go_simp
      refine (HF2.out).mono ?_
      rintro e X3 ⟨rfl, hbX3⟩
      refine hK.out _ _ ((HS.out X3 (HX2.out.trans (hbX3.mono HX2.out.size))).1) (fun hHeld => ?_)
      clear hK K
      try simp only [Act.put, List.setIfInBounds_toArray, List.set_cons_zero, List.set_cons_succ]
      have HX3 : Hid (Below V4.heap.size V4 X3) := (HX2.out.trans (hbX3.mono HX2.out.size))
      clear hbX3
      refine wpAnyH_ready (rs := [7]) (by kernel_rfl) (by simp) ?_
      refine AllReadyH.cons rfl (fun K hK => ?_) AllReadyH.nil
      go_simp
      refine (HRF.out X3 (HS.out X3 HX3.out).2).mono ?_
      rintro e X4 ⟨rfl, hbX4⟩
      refine hK.out _ _ ((HS.out X4 (HX3.out.trans (hbX4.mono HX3.out.size))).1) (fun hHeld => ?_)
      clear hK K
      try simp only [Act.put, List.setIfInBounds_toArray, List.set_cons_zero, List.set_cons_succ]
      have HX4 : Hid (Below V4.heap.size V4 X4) := (HX3.out.trans (hbX4.mono HX3.out.size))
      clear hbX4
      refine wpAnyH_take (i := 8) (v := ?va_8) rfl (by kernel_rfl) (by kernel_rfl) (by kernel_rfl) (fun _ _ _ h => h) (Or.inl ⟨by first | kernel_rfl | rfl, ?ya_8⟩) hHeld ?ra_8
      case ya_8 => (intro W hSW; (try dsimp only at hSW); go_simp; (try with_reducible rfl))
      change wpAnyH _ _ _ _ _ _ _ (Act.put _ (some 22) _) _
      simp only [Act.put, List.setIfInBounds_toArray, List.set_cons_zero, List.set_cons_succ]
      refine wpAnyH_take (i := 9) (v := ?va_9) rfl (by kernel_rfl) (by kernel_rfl) (by kernel_rfl) (fun _ _ _ h => h) (Or.inl ⟨by first | kernel_rfl | rfl, ?ya_9⟩) hHeld ?ra_9
      case ya_9 => (intro W hSW; (try dsimp only at hSW); go_simp; (try with_reducible rfl))
      change wpAnyH _ _ _ _ _ _ _ (Act.put _ (some 23) _) _
      simp only [Act.put, List.setIfInBounds_toArray, List.set_cons_zero, List.set_cons_succ]
      refine wpAnyH_take (i := 10) (v := ?va_10) rfl (by kernel_rfl) (by kernel_rfl) (by kernel_rfl) (fun _ _ _ h => h) (Or.inl ⟨by first | kernel_rfl | rfl, ?ya_10⟩) hHeld ?ra_10
      case ya_10 => (intro W hSW; (try dsimp only at hSW); go_simp; (try with_reducible rfl))
      change wpAnyH _ _ _ _ _ _ _ (Act.put _ (some 24) _) _
      simp only [Act.put, List.setIfInBounds_toArray, List.set_cons_zero, List.set_cons_succ]
      refine wpAnyH_take (i := 12) (v := ?va_12) rfl (by kernel_rfl) (by kernel_rfl) (by kernel_rfl) (fun _ _ _ h => h) (Or.inl ⟨by first | kernel_rfl | rfl, ?ya_12⟩) hHeld ?ra_12
      case ya_12 => (intro W hSW; (try dsimp only at hSW); go_simp; (try with_reducible rfl))
      change wpAnyH _ _ _ _ _ _ _ (Act.put _ (some 26) _) _
      simp only [Act.put, List.setIfInBounds_toArray, List.set_cons_zero, List.set_cons_succ]
      refine wpAnyH_take (i := 15) (v := ?va_15) rfl (by kernel_rfl) (by kernel_rfl) (by kernel_rfl) (fun _ _ _ h => h) (Or.inl ⟨by first | kernel_rfl | rfl, ?ya_15⟩) hHeld ?ra_15
      case ya_15 => (intro W hSW; (try dsimp only at hSW); go_simp; (try with_reducible rfl))
      change wpAnyH _ _ _ _ _ _ _ (Act.put _ (some 29) _) _
      simp only [Act.put, List.setIfInBounds_toArray, List.set_cons_zero, List.set_cons_succ]
      refine wpAnyH_ready (rs := [11]) (by kernel_rfl) (by simp) ?_
      refine AllReadyH.cons rfl (fun K hK => ?_) AllReadyH.nil
      go_simp
      refine (HMI0.out X4 (HS.out X4 HX4.out).2).mono ?_
      rintro e X5 ⟨pa, pc, rfl, hown, hbX5⟩
      refine hK.out _ _ ((HS.out X5 (HX4.out.trans (hbX5.mono HX4.out.size))).1) (fun hHeld => ?_)
      clear hK K
      try simp only [Act.put, List.setIfInBounds_toArray, List.set_cons_zero, List.set_cons_succ]
      have HX5 : Hid (Below V4.heap.size V4 X5) := (HX4.out.trans (hbX5.mono HX4.out.size))
      have HOX5 : Hid (∀ W, Below X5.heap.size X5 W → Ew W pa len0 pc l0) := fun W hW => (Ew.own hown).below hW
      have HBX5 : Hid (Below X4.heap.size X4 X5) := hbX5
      clear hown hbX5
      refine wpAnyH_ready (rs := [13]) (by kernel_rfl) (by simp) ?_
      refine AllReadyH.cons rfl (fun K hK => ?_) AllReadyH.nil
      go_simp
      refine (HMI0.out X5 (HS.out X5 HX5.out).2).mono ?_
      rintro e X6 ⟨qa, qc, rfl, hown, hbX6⟩
      refine hK.out _ _ ((HS.out X6 (HX5.out.trans (hbX6.mono HX5.out.size))).1) (fun hHeld => ?_)
      clear hK K
      try simp only [Act.put, List.setIfInBounds_toArray, List.set_cons_zero, List.set_cons_succ]
      have HX6 : Hid (Below V4.heap.size V4 X6) := (HX5.out.trans (hbX6.mono HX5.out.size))
      have HOX6 : Hid (∀ W, Below X6.heap.size X6 W → Ew W qa len0 qc l0) := fun W hW => (Ew.own hown).below hW
      have HBX6 : Hid (Below X5.heap.size X5 X6) := hbX6
      clear hown hbX6
      have HF6 : Hid (Calls Tryd.prog 25 #[.agg #[.string s0, .int .i64 n0, .slice pa len0 pc], .agg #[.string s0, .int .i64 n0, .slice qa len0 qc]] X6 fun e w' => e = .returned (.bool my) ∧ Below X6.heap.size X6 w') := HAS.out X6 (HS.out X6 HX6.out).2 pa pc qa qc (HOX5.out X6 HBX6.out) (HOX6.out X6 (Below.refl _ _))
      refine wpAnyH_ready (rs := [14]) (by kernel_rfl) (by simp) ?_
      refine AllReadyH.cons rfl (fun K hK => ?_) AllReadyH.nil
      go_simp
      refine (HF6.out).mono ?_
      rintro e X7 ⟨rfl, hbX7⟩
      refine hK.out _ _ ((HS.out X7 (HX6.out.trans (hbX7.mono HX6.out.size))).1) (fun hHeld => ?_)
      clear hK K
      try simp only [Act.put, List.setIfInBounds_toArray, List.set_cons_zero, List.set_cons_succ]
      have HX7 : Hid (Below V4.heap.size V4 X7) := (HX6.out.trans (hbX7.mono HX6.out.size))
      clear hbX7
      refine wpAnyH_ready (rs := [16]) (by kernel_rfl) (by simp) ?_
      refine AllReadyH.cons rfl (fun K hK => ?_) AllReadyH.nil
      go_simp
      refine (HRM.out X7 (HS.out X7 HX7.out).2).mono ?_
      rintro e X8 ⟨rfl, hbX8⟩
      refine hK.out _ _ ((HS.out X8 (HX7.out.trans (hbX8.mono HX7.out.size))).1) (fun hHeld => ?_)
      clear hK K
      try simp only [Act.put, List.setIfInBounds_toArray, List.set_cons_zero, List.set_cons_succ]
      have HX8 : Hid (Below V4.heap.size V4 X8) := (HX7.out.trans (hbX8.mono HX7.out.size))
      clear hbX8
      refine wpAnyH_take (i := 17) (v := ?va_17) rfl (by kernel_rfl) (by kernel_rfl) (by kernel_rfl) (fun _ _ _ h => h) (Or.inl ⟨by first | kernel_rfl | rfl, ?ya_17⟩) hHeld ?ra_17
      case ya_17 => (intro W hSW; (try dsimp only at hSW); go_simp; (try with_reducible rfl))
      change wpAnyH _ _ _ _ _ _ _ (Act.put _ (some 31) _) _
      simp only [Act.put, List.setIfInBounds_toArray, List.set_cons_zero, List.set_cons_succ]
      refine wpAnyH_take (i := 18) (v := ?va_18) rfl (by kernel_rfl) (by kernel_rfl) (by kernel_rfl) (fun _ _ _ h => h) (Or.inl ⟨by first | kernel_rfl | rfl, ?ya_18⟩) hHeld ?ra_18
      case ya_18 => (intro W hSW; (try dsimp only at hSW); go_simp; (try with_reducible rfl))
      change wpAnyH _ _ _ _ _ _ _ (Act.put _ (some 32) _) _
      simp only [Act.put, List.setIfInBounds_toArray, List.set_cons_zero, List.set_cons_succ]
      refine wpAnyH_take (i := 19) (v := ?va_19) rfl (by kernel_rfl) (by kernel_rfl) (by kernel_rfl) (fun _ _ _ h => h) (Or.inl ⟨by first | kernel_rfl | rfl, ?ya_19⟩) hHeld ?ra_19
      case ya_19 => (intro W hSW; (try dsimp only at hSW); go_simp; (try with_reducible rfl))
      change wpAnyH _ _ _ _ _ _ _ (Act.put _ (some 33) _) _
      simp only [Act.put, List.setIfInBounds_toArray, List.set_cons_zero, List.set_cons_succ]
      refine wpAnyH_ready (rs := [20]) (by kernel_rfl) (by simp) ?_
      refine AllReadyH.cons rfl (fun K hK => ?_) AllReadyH.nil
      go_simp
      refine (HLV.out X8 (HS.out X8 HX8.out).2).mono ?_
      rintro e X9 ⟨rfl, hbX9⟩
      refine hK.out _ _ ((HS.out X9 (HX8.out.trans (hbX9.mono HX8.out.size))).1) (fun hHeld => ?_)
      clear hK K
      try simp only [Act.put, List.setIfInBounds_toArray, List.set_cons_zero, List.set_cons_succ]
      have HX9 : Hid (Below V4.heap.size V4 X9) := (HX8.out.trans (hbX9.mono HX8.out.size))
      clear hbX9
      refine wpAnyH_take (i := 21) (v := ?va_21) rfl (by kernel_rfl) (by kernel_rfl) (by kernel_rfl) (fun _ _ _ h => h) (Or.inl ⟨by first | kernel_rfl | rfl, ?ya_21⟩) hHeld ?ra_21
      case ya_21 => (intro W hSW; (try dsimp only at hSW); go_simp; (try with_reducible rfl))
      change wpAnyH _ _ _ _ _ _ _ (Act.put _ (some 35) _) _
      simp only [Act.put, List.setIfInBounds_toArray, List.set_cons_zero, List.set_cons_succ]
      refine wpAnyH_take (i := 22) (v := ?va_22) rfl (by kernel_rfl) (by kernel_rfl) (by kernel_rfl) (fun _ _ _ h => h) (Or.inl ⟨by first | kernel_rfl | rfl, ?ya_22⟩) hHeld ?ra_22
      case ya_22 => (intro W hSW; (try dsimp only at hSW); go_simp; (try with_reducible rfl))
      change wpAnyH _ _ _ _ _ _ _ (Act.put _ (some 4) _) _
      simp only [Act.put, List.setIfInBounds_toArray, List.set_cons_zero, List.set_cons_succ]
      refine wpAnyH_done (by kernel_rfl) ?_ _
      have HZ : Hid (Below w.heap.size w X9) := (HS.out X9 HX9.out).2
      go_wp2
      go_ret
      exact ⟨rfl, HZ.out⟩

set_option linter.unusedVariables false in
set_option maxRecDepth 100000 in
theorem lifted (os : Os) (started : os.Started) (H : Type) (enc : TypeId × Value → H) :
    ReturnsInHanded {} Tryd.checked os 7 .any (fun w args => (Rows.auditFollowsSpec.pre enc Tryd.prog Tryd.f7 [] false w args ∧ laidMetH Tryd.prog laid2 w) ∧ sizedMet enc Tryd.prog Tryd.f7 (OpenSpec.ofChange Rows.auditFollowsSpec) false w args) (Rows.auditFollowsSpec.post enc Tryd.prog Tryd.f7 false true false false) := by
  refine returnsInHanded_of_change_and (C := Tryd.checked) (X := fun w _ => laidMetH Tryd.prog laid2 w) (fun _ _ _ hh h => h.of_heap hh) own started (by kernel_rfl) Tryd.func7
    (ChangeSpec.witness_shaped (enc := enc) (C := Tryd.checked) (os := os) (X := fun w _ => laidMetH Tryd.prog laid2 w) false (World.doorLaid Tryd.prog 19 os) #[.agg #[.string ByteArray.empty, .int .i64 0, .slice none 0 0], .agg #[.string ByteArray.empty, .int .i64 0, .slice none 0 0]] 8 rfl (World.shaped_of_RefB (by kernel_rfl) (by kernel_rfl)) (by kernel_rfl) (by kernel_rfl) (by kernel_rfl) (door_met os _)) ?_
  intro W base args ds gs before hval0 hW _ hsz0 hL _
  have hval : ∀ (j : Nat) t v, Tryd.f7.params[j]? = some t → args[j]? = some v → Value.okWide Tryd.prog W .any base t v := hval0
  have hsz : (DataW.weightsEach Tryd.prog (Tryd.f7.params.toList ++ Rows.auditFollowsSpec.plain.varTypes Tryd.prog) (ds ++ gs)).all (· ≤ reachBytes) = true := hsz0
  have hW' := hW
  obtain ⟨p, q, hA0, hV, rfl, hfz, hnd⟩ := hW
  have hA : DataW.TrodAll enc Tryd.prog W 0 (fun _ => true) true Tryd.f7.params.toList args.toList ds p := hA0
  rw [Tryd.params7] at hA hval hsz
  obtain ⟨v0, vs0, d0, ds0, p0, q0, hargs, rfl, rfl, h0, r0⟩ := trodAll_cons hA
  obtain ⟨v1, vs1, d1, ds1, p1, q1, rfl, rfl, rfl, h1, r1⟩ := trodAll_cons r0
  obtain ⟨rfl, rfl, rfl⟩ := trodAll_nil r1
  obtain rfl : args = #[v0, v1] := by cases args; simp_all
  obtain ⟨rfl, rfl⟩ := trodVars_none hV
  have k0 := h0
  have lt0 : ∀ x ∈ p0, x.block < W.heap.size := by obtain ⟨m, hm⟩ := k0; exact DataW.trod_lt m _ _ _ hm
  obtain ⟨s0, n0, a0, len0, cap0, l0, rfl, w0, c0, z0, x0⟩ := aud_arg (j := 0) (hval 0 24 v0 rfl rfl) h0 hsz rfl rfl
  have k1 := h1
  have lt1 : ∀ x ∈ p1, x.block < W.heap.size := by obtain ⟨m, hm⟩ := k1; exact DataW.trod_lt m _ _ _ hm
  obtain ⟨s1, n1, a1, len1, cap1, l1, rfl, w1, c1, z1, x1⟩ := aud_arg (j := 1) (hval 1 24 v1 rfl rfl) h1 hsz rfl rfl
  clear hA0 hval0 hsz hsz0
  refine (walk s0 n0 a0 len0 cap0 l0 c0 z0 x0 s1 n1 a1 len1 cap1 l1 c1 z1 x1 W w0 w1 (of_laid hL)).mono fun e W' ⟨he, bel⟩ => ?_
  subst he
  exact ⟨_, rfl, _, _, _, [], _, [], hW', trodAll_mk1 (shut_bool Tryd.underlying4 _), (trodAll_cons_mk (Below.trod laidOut (by kernel_rfl) (of_decide_eq_true (by kernel_rfl)) k0 bel lt0) (trodAll_cons_mk (Below.trod laidOut (by kernel_rfl) (of_decide_eq_true (by kernel_rfl)) k1 bel lt1) trodAll_mk0)), rfl, bel.frame _, fun h => by cases h⟩

theorem over : Rows.auditFollowsRow.holds Tryd.pinned (OpenSpec.ofChange Rows.auditFollowsSpec) :=
  OpenClaim.holds_of_wide 7 Tryd.f7 rfl rfl rfl rfl rfl rfl rfl ⟨rfl, rfl, rfl, rfl, rfl⟩ rfl rfl rfl rfl rfl (by kernel_rfl) Tryd.func7 (by kernel_rfl)
    (of_decide_eq_true (by kernel_rfl)) (by unfold Func.isWrapper; first | (rw [if_pos (by decide +kernel)]; kernel_rfl) | (rw [if_neg (by decide +kernel)]; exact ⟨rfl, rfl⟩))
    (fun os started H enc _ => lifted os started H enc)

end Go.Proofs.YtkhidkilkbmpoaaDoor.auditFollows
namespace Go.Proofs.YtkhidkilkbmpoaaDoor
/-- The given statement. -/
theorem auditFollows_holds : Rows.AuditFollowsCardSaid :=
  Claim7.holds_tied_plain_at .later [] [.data, .data] true (true, "c0eea24fd7221e3afb955dddc54761337ed5996520cfcdb0e8757455c9d47393") false
    auditFollows.over (fun _ h => by cases h) (by kernel_rfl) (fun _ h => by cases h) auditFollows_row_tie rfl ⟨rfl, rfl⟩ (by kernel_rfl) rfl
    (fun f fn hf hfn => by
      obtain rfl : f = 7 := Option.some.inj ((show Tryd.prog.funcNamed "strongroom/strongroomlaw13.AuditFollows" = some 7 by kernel_rfl).symm.trans hf) |>.symm
      obtain rfl : fn = Tryd.f7 := (Option.some.inj (Tryd.func7.symm.trans hfn)).symm
      exact ⟨by kernel_rfl, fun j t ht => by
        rw [Tryd.params7] at ht
        rcases j with _ | _ | j
        · obtain rfl : t = 24 := by simpa using ht.symm
          exact (show Tryd.prog.wantsStandIn 24 = false by kernel_rfl)
        · obtain rfl : t = 24 := by simpa using ht.symm
          exact (show Tryd.prog.wantsStandIn 24 = false by kernel_rfl)
        · simp at ht
      ⟩)
    (by kernel_rfl)
#print axioms auditFollows_holds
end Go.Proofs.YtkhidkilkbmpoaaDoor
