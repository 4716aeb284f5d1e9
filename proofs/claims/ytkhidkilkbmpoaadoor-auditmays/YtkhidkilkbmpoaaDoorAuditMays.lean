/- Proved: for every audit the law AuditMays returns true, what was handed in as it was (what a new audit is, and which may be, are the document's); where the package's two tables begin as the program's text lays them. -/
import Derived.Test.YtkhidkilkbmpoaaDoorRJ
import Derived.Test.YtkhidkilkbmpoaaDoorQH
import Derived.Test.YtkhidkilkbmpoaaDoorCards
import Derived.Test.YtkhidkilkbmpoaaDoorTie
import Derived.WalkKit
import Derived.ProofKit
import Derived.OpenShut
import Derived.ShutString
import Derived.ChangeOld
import Derived.Below
import Derived.LaidMore
import Derived.Stop.Joined
import Derived.SevenTiedAt
namespace Go.Proofs.YtkhidkilkbmpoaaDoor.auditMays
open Go.ChangeShapes Go.WideShapes Go.ChangeAt Go.WideMaps Go.WideElems Go.RowKit
open Go.ChangeMaps (open_string shut_string)

set_option maxRecDepth 100000 in
set_option maxHeartbeats 8000000 in
theorem walk (s0 : ByteArray) (n0 : Int) (a0 : Option Addr) (len0 cap0 : Nat) (l0 : List En) (c0 : ∀ c ∈ l0, c.In) (z0 : s0.size ≤ 140737488351232) (_x0 : -9223372036854775808 ≤ n0 ∧ n0 ≤ 9223372036854775807) (w : World) (w0 : Ew w a0 len0 cap0 l0) (hL : Laid w) :
    Calls Tryd.prog 3 #[.agg #[.string s0, .int .i64 n0, .slice a0 len0 cap0]] w fun e w' => e = .returned (.bool true) ∧ Below w.heap.size w w' := by
  have HLV : Hid (∀ V, Below w.heap.size w V → Calls Tryd.prog 10 #[] V fun e w' => e = .returned (.bool true) ∧ Below V.heap.size V w') := fun V hV => lives_any V (hL.below hV)
  obtain ⟨pb, hpb⟩ : ∃ pb, w.heap.size = pb := ⟨_, rfl⟩
  obtain ⟨V1, hV1, r1, hb1⟩ := box_au 24 (w := w) s0 n0 a0 len0 cap0
  rw [hpb] at r1
  have HK : Hid (∀ W, Below V1.heap.size V1 W → (W.cell? ⟨pb, 0, none⟩ = some (.string s0) ∧ W.cell? ⟨pb, 1, none⟩ = some (.int .i64 n0) ∧ W.cell? ⟨pb, 2, none⟩ = some (.slice a0 len0 cap0)) ∧ Below w.heap.size w W) := fun W hW => by
    obtain ⟨e0, e1, e2, _⟩ := row3 ((hW.block pb (lt_of_some r1)).trans r1)
    exact ⟨⟨e0, e1, e2⟩, hb1.trans (hW.mono hb1.size)⟩
  obtain ⟨⟨y0, y1, y2⟩, _⟩ := HK.out V1 (Below.refl _ _)
  have HSM := small_au s0 n0 (w0.below hb1) z0 (fun c hc => (c0 c hc).2.2.2.2)
  unfold YeTo at HSM
  cases hsm : smallA l0 s0 with
  | false =>
    rw [hsm] at HSM
    clear hsm hL w0 c0 r1 hb1
    go_enter Tryd.func3, Tryd.ntmps3
    go_wp2_with fail
    refine HSM.mono ?_
    rintro e V2 ⟨rfl, hb2⟩
    have HB : Hid (Below w.heap.size w V2) := (HK.out V2 hb2).2
    clear HSM hb2 y0 y1 y2
    have HLX := HLV.out V2 HB.out
    go_wp2_with fail
    refine HLX.mono ?_
    rintro e VZ ⟨rfl, hbZ⟩
    have HZ : Hid (Below w.heap.size w VZ) := HB.out.trans (hbZ.mono HB.out.size)
    clear HLX hbZ
    go_wp2
    go_ret
    exact ⟨rfl, HZ.out⟩
  | true =>
    rw [hsm] at HSM
    have hsmi := small_iff.1 hsm
    have hl0 := w0.len
    obtain ⟨Z, hZ⟩ : ∃ Z, baOf zeros32 = Z := ⟨_, rfl⟩
    obtain ⟨my, hmy⟩ : ∃ my, mayA ⟨s0, n0, l0⟩ = my := ⟨_, rfl⟩
    have HMY : Hid (mayA ⟨s0, n0, l0⟩ = my) := hmy
    have HMR : Hid (∀ W, Below w.heap.size w W → Calls Tryd.prog 17 #[.agg #[.string s0, .int .i64 n0, .slice a0 len0 cap0]] W fun e w' => e = .returned (.bool my) ∧ Below W.heap.size W w') := fun W hW => by
      have h9 := rmay_any s0 n0 (w0.below hW)
      rw [hmy] at h9
      exact h9
    have HMI : Hid (∀ W, Below w.heap.size w W → Calls Tryd.prog 16 #[.agg #[.string s0, .int .i64 n0, .slice a0 len0 cap0]] W fun e w' => ∃ (a' : Option Addr) (c' : Nat), e = .returned (.agg #[.string s0, .int .i64 n0, .slice a' len0 c']) ∧ w'.ownsRow W.heap.size 36 5 (.slice a' len0 c') len0 (enR l0) ∧ Below W.heap.size W w') := fun W hW => mine_any s0 n0 (w0.below hW) (by omega)
    have HTH : Hid (∀ W, Calls Tryd.prog 13 #[.agg #[.string Z, .int .i64 0, .slice none 0 0]] W fun e w' => e = .returned (.agg #[.string Z, .int .i64 0, .slice none 0 0]) ∧ Below W.heap.size W w') := fun W => theirs_any Z 0 none 0 0
    have HOF : Hid (∀ W, Calls Tryd.prog 14 #[.slice none 0 0] W fun e w' => ∃ (a : Option Addr) (n c : Nat), e = .returned (.agg #[.string Z, .int .i64 0, .slice a n c]) ∧ Nw W.heap.size w' a n c newAu.ents ∧ Below W.heap.size W w') := fun W => by
      have h9 := rof_any (Ew.nil W) (by omega) (fun e he => by cases he)
      rw [of_nil] at h9
      rw [← hZ]
      exact h9
    have HMN : Hid (∀ W, Calls Tryd.prog 15 #[.agg #[.string Z, .int .i64 0, .slice none 0 0]] W fun e w' => e = .returned (.bool true) ∧ Below W.heap.size W w') := fun W => by
      have h9 := amay_any Z 0 (Ew.nil W)
      rw [← hZ, show mayA ⟨baOf zeros32, 0, []⟩ = true from new_may] at h9
      rw [← hZ]
      exact h9
    have HNW : Hid (∀ W, Calls Tryd.prog 11 #[] W fun e w' => e = .returned (.agg #[.string Z, .int .i64 0, .slice none 0 0]) ∧ Below W.heap.size W w') := fun W => by rw [← hZ]; exact anew_any W
    have hmm : (my == my) = true := by simp
    clear hsm hsmi hl0 hL w0 c0 r1 hb1 hZ hmy
    go_enter Tryd.func3, Tryd.ntmps3
    go_wp2_with fail
    refine HSM.mono ?_
    rintro e V2 ⟨rfl, hb2⟩
    have H2 : Hid (Below V1.heap.size V1 V2) := hb2
    have HN2 := HNW.out V2
    clear HSM hb2 y0 y1 y2
    go_wp2_with fail
    refine HN2.mono ?_
    rintro e V3 ⟨rfl, hb3⟩
    obtain ⟨tb, htb⟩ : ∃ tb, V3.heap.size = tb := ⟨_, rfl⟩
    obtain ⟨U, hU, u3, hbU⟩ := box_au 27 (w := V3) Z 0 none 0 0
    rw [htb] at u3
    obtain ⟨_, j1, j2, jz⟩ := row3 u3
    have jf1 := jz 1
    have jf2 := jz 2
    obtain ⟨U2, hU2⟩ : ∃ U2, U.setCell ⟨tb, 1, none⟩ (.int .i64 0) = U2 := ⟨_, rfl⟩
    have u3' : U2.heap[tb]? = some (.cells #[.string Z, .int .i64 0, .slice none 0 0] 27 (0, 0)) := by rw [← hU2, heap_setCell_same _ _ _ _ _ _ u3]; rfl
    obtain ⟨_, _, m2, mz⟩ := row3 u3'
    have mf2 := mz 2
    obtain ⟨V4, hV4⟩ : ∃ V4, U2.setCell ⟨tb, 2, none⟩ (.slice none 0 0) = V4 := ⟨_, rfl⟩
    have u4 : V4.heap[tb]? = some (.cells #[.string Z, .int .i64 0, .slice none 0 0] 27 (0, 0)) := by rw [← hV4, heap_setCell_same _ _ _ _ _ _ u3']; rfl
    have hb34 : Below V3.heap.size V3 V4 := by rw [← hV4, ← hU2]; exact (hbU.setCell (Nat.le_of_eq htb) _).setCell (Nat.le_of_eq htb) _
    have hb23 : Below V2.heap.size V2 V4 := hb3.trans (hb34.mono hb3.size)
    have hB4 : Below V1.heap.size V1 V4 := H2.out.trans (hb23.mono H2.out.size)
    have HS : Hid (∀ W, Below V4.heap.size V4 W → ((W.cell? ⟨pb, 0, none⟩ = some (.string s0) ∧ W.cell? ⟨pb, 1, none⟩ = some (.int .i64 n0) ∧ W.cell? ⟨pb, 2, none⟩ = some (.slice a0 len0 cap0)) ∧ (W.cell? ⟨tb, 0, none⟩ = some (.string Z) ∧ W.cell? ⟨tb, 1, none⟩ = some (.int .i64 0) ∧ W.cell? ⟨tb, 2, none⟩ = some (.slice none 0 0))) ∧ Below w.heap.size w W) := fun W hW => by
      have h8 := HK.out W (hB4.trans (hW.mono hB4.size))
      obtain ⟨e0, e1, e2, _⟩ := row3 ((hW.block tb (lt_of_some u4)).trans u4)
      exact ⟨⟨h8.1, e0, e1, e2⟩, h8.2⟩
    clear HN2 hb3 u3 jz hbU u3' mz u4 hb34 hb23 hB4
    go_wp2
    refine wp_region_held_drew (S := fun W => (W.cell? ⟨pb, 0, none⟩ = some (.string s0) ∧ W.cell? ⟨pb, 1, none⟩ = some (.int .i64 n0) ∧ W.cell? ⟨pb, 2, none⟩ = some (.slice a0 len0 cap0)) ∧ (W.cell? ⟨tb, 0, none⟩ = some (.string Z) ∧ W.cell? ⟨tb, 1, none⟩ = some (.int .i64 0) ∧ W.cell? ⟨tb, 2, none⟩ = some (.slice none 0 0))) (by kernel_rfl) ((HS.out V4.drew (Below.refl _ V4).drew).1) (fun hHeld => ?_)
    have Ha_0 : Hid (Below V4.heap.size V4 V4.drew) := (Below.refl _ V4).drew
    refine wpAnyH_take (i := 0) (v := ?va_0) rfl (by kernel_rfl) (by kernel_rfl) (by kernel_rfl) (fun _ _ _ h => h) (Or.inl ⟨by first | kernel_rfl | rfl, ?ya_0⟩) hHeld ?ra_0
    case ya_0 => (intro W hSW; (try dsimp only at hSW); go_simp; (try with_reducible rfl))
    change wpAnyH _ _ _ _ _ _ _ (Act.put _ (some 9) _) _
    simp only [Act.put, List.setIfInBounds_toArray, List.set_cons_zero, List.set_cons_succ]
    refine wpAnyH_ready (rs := [1]) (by kernel_rfl) (by simp) ?_
    refine AllReadyH.cons rfl (fun K hK => ?_) AllReadyH.nil
    go_simp
    refine (HTH.out V4.drew).mono ?_
    rintro e V5 ⟨rfl, hbV5⟩
    refine hK.out _ _ ((HS.out V5 (Ha_0.out.trans (hbV5.mono Ha_0.out.size))).1) (fun hHeld => ?_)
    clear hK K
    try simp only [Act.put, List.setIfInBounds_toArray, List.set_cons_zero, List.set_cons_succ]
    have HV5 : Hid (Below V4.heap.size V4 V5) := (Ha_0.out.trans (hbV5.mono Ha_0.out.size))
    clear hbV5
    refine wpAnyH_ready (rs := [2]) (by kernel_rfl) (by simp) ?_
    refine AllReadyH.cons rfl (fun K hK => ?_) AllReadyH.nil
    go_simp
    refine (HOF.out V5).mono ?_
    rintro e V6 ⟨oa, on, oc, rfl, hno, hbV6⟩
    refine hK.out _ _ ((HS.out V6 (HV5.out.trans (hbV6.mono HV5.out.size))).1) (fun hHeld => ?_)
    clear hK K
    try simp only [Act.put, List.setIfInBounds_toArray, List.set_cons_zero, List.set_cons_succ]
    have HV6 : Hid (Below V4.heap.size V4 V6) := (HV5.out.trans (hbV6.mono HV5.out.size))
    have HSM2 : Hid (∀ W, Below V6.heap.size V6 W → Calls Tryd.prog 12 #[.agg #[.string Z, .int .i64 0, .slice none 0 0], .agg #[.string Z, .int .i64 0, .slice oa on oc]] W fun e w' => e = .returned (.bool true) ∧ Below W.heap.size W w') := fun W hW => by
      have h9 := same_au Z 0 Z 0 (Ew.nil W) (hno.ew.below hW)
      rw [show sameA ⟨Z, 0, []⟩ ⟨Z, 0, newAu.ents⟩ = true from sameA_self _] at h9
      exact h9
    clear hbV6 hno
    refine wpAnyH_ready (rs := [3]) (by kernel_rfl) (by simp) ?_
    refine AllReadyH.cons rfl (fun K hK => ?_) AllReadyH.nil
    go_simp
    refine (HSM2.out V6 (Below.refl _ _)).mono ?_
    rintro e V7 ⟨rfl, hbV7⟩
    refine hK.out _ _ ((HS.out V7 (HV6.out.trans (hbV7.mono HV6.out.size))).1) (fun hHeld => ?_)
    clear hK K
    try simp only [Act.put, List.setIfInBounds_toArray, List.set_cons_zero, List.set_cons_succ]
    have HV7 : Hid (Below V4.heap.size V4 V7) := (HV6.out.trans (hbV7.mono HV6.out.size))
    clear hbV7
    refine wpAnyH_take (i := 4) (v := ?va_4) rfl (by kernel_rfl) (by kernel_rfl) (by kernel_rfl) (fun _ _ _ h => h) (Or.inl ⟨by first | kernel_rfl | rfl, ?ya_4⟩) hHeld ?ra_4
    case ya_4 => (intro W hSW; (try dsimp only at hSW); go_simp; (try with_reducible rfl))
    change wpAnyH _ _ _ _ _ _ _ (Act.put _ (some 13) _) _
    simp only [Act.put, List.setIfInBounds_toArray, List.set_cons_zero, List.set_cons_succ]
    refine wpAnyH_take (i := 5) (v := ?va_5) rfl (by kernel_rfl) (by kernel_rfl) (by kernel_rfl) (fun _ _ _ h => h) (Or.inl ⟨by first | kernel_rfl | rfl, ?ya_5⟩) hHeld ?ra_5
    case ya_5 => (intro W hSW; (try dsimp only at hSW); go_simp; (try with_reducible rfl))
    change wpAnyH _ _ _ _ _ _ _ (Act.put _ (some 14) _) _
    simp only [Act.put, List.setIfInBounds_toArray, List.set_cons_zero, List.set_cons_succ]
    refine wpAnyH_ready (rs := [6]) (by kernel_rfl) (by simp) ?_
    refine AllReadyH.cons rfl (fun K hK => ?_) AllReadyH.nil
    go_simp
    refine (HMN.out V7).mono ?_
    rintro e V8 ⟨rfl, hbV8⟩
    refine hK.out _ _ ((HS.out V8 (HV7.out.trans (hbV8.mono HV7.out.size))).1) (fun hHeld => ?_)
    clear hK K
    try simp only [Act.put, List.setIfInBounds_toArray, List.set_cons_zero, List.set_cons_succ]
    have HV8 : Hid (Below V4.heap.size V4 V8) := (HV7.out.trans (hbV8.mono HV7.out.size))
    clear hbV8
    refine wpAnyH_take (i := 7) (v := ?va_7) rfl (by kernel_rfl) (by kernel_rfl) (by kernel_rfl) (fun _ _ _ h => h) (Or.inl ⟨by first | kernel_rfl | rfl, ?ya_7⟩) hHeld ?ra_7
    case ya_7 => (intro W hSW; (try dsimp only at hSW); go_simp; (try with_reducible rfl))
    change wpAnyH _ _ _ _ _ _ _ (Act.put _ (some 16) _) _
    simp only [Act.put, List.setIfInBounds_toArray, List.set_cons_zero, List.set_cons_succ]
    refine wpAnyH_take (i := 8) (v := ?va_8) rfl (by kernel_rfl) (by kernel_rfl) (by kernel_rfl) (fun _ _ _ h => h) (Or.inl ⟨by first | kernel_rfl | rfl, ?ya_8⟩) hHeld ?ra_8
    case ya_8 => (intro W hSW; (try dsimp only at hSW); go_simp; (try with_reducible rfl))
    change wpAnyH _ _ _ _ _ _ _ (Act.put _ (some 17) _) _
    simp only [Act.put, List.setIfInBounds_toArray, List.set_cons_zero, List.set_cons_succ]
    refine wpAnyH_take (i := 9) (v := ?va_9) rfl (by kernel_rfl) (by kernel_rfl) (by kernel_rfl) (fun _ _ _ h => h) (Or.inl ⟨by first | kernel_rfl | rfl, ?ya_9⟩) hHeld ?ra_9
    case ya_9 => (intro W hSW; (try dsimp only at hSW); go_simp; (try with_reducible rfl))
    change wpAnyH _ _ _ _ _ _ _ (Act.put _ (some 18) _) _
    simp only [Act.put, List.setIfInBounds_toArray, List.set_cons_zero, List.set_cons_succ]
    refine wpAnyH_take (i := 12) (v := ?va_12) rfl (by kernel_rfl) (by kernel_rfl) (by kernel_rfl) (fun _ _ _ h => h) (Or.inl ⟨by first | kernel_rfl | rfl, ?ya_12⟩) hHeld ?ra_12
    case ya_12 => (intro W hSW; (try dsimp only at hSW); go_simp; (try with_reducible rfl))
    change wpAnyH _ _ _ _ _ _ _ (Act.put _ (some 21) _) _
    simp only [Act.put, List.setIfInBounds_toArray, List.set_cons_zero, List.set_cons_succ]
    refine wpAnyH_ready (rs := [10]) (by kernel_rfl) (by simp) ?_
    refine AllReadyH.cons rfl (fun K hK => ?_) AllReadyH.nil
    go_simp
    refine (HMI.out V8 (HS.out V8 HV8.out).2).mono ?_
    rintro e V9 ⟨ma, mc, rfl, hown, hbV9⟩
    refine hK.out _ _ ((HS.out V9 (HV8.out.trans (hbV9.mono HV8.out.size))).1) (fun hHeld => ?_)
    clear hK K
    try simp only [Act.put, List.setIfInBounds_toArray, List.set_cons_zero, List.set_cons_succ]
    have HV9 : Hid (Below V4.heap.size V4 V9) := (HV8.out.trans (hbV9.mono HV8.out.size))
    have HM9 : Hid (∀ W, Below V9.heap.size V9 W → Calls Tryd.prog 15 #[.agg #[.string s0, .int .i64 n0, .slice ma len0 mc]] W fun e w' => e = .returned (.bool my) ∧ Below W.heap.size W w') := fun W hW => by
      have h9 := amay_any s0 n0 ((Ew.own hown).below hW)
      rw [HMY.out] at h9
      exact h9
    clear hbV9 hown
    refine wpAnyH_ready (rs := [11]) (by kernel_rfl) (by simp) ?_
    refine AllReadyH.cons rfl (fun K hK => ?_) AllReadyH.nil
    go_simp
    refine (HM9.out V9 (Below.refl _ _)).mono ?_
    rintro e V10 ⟨rfl, hbV10⟩
    refine hK.out _ _ ((HS.out V10 (HV9.out.trans (hbV10.mono HV9.out.size))).1) (fun hHeld => ?_)
    clear hK K
    try simp only [Act.put, List.setIfInBounds_toArray, List.set_cons_zero, List.set_cons_succ]
    have HV10 : Hid (Below V4.heap.size V4 V10) := (HV9.out.trans (hbV10.mono HV9.out.size))
    clear hbV10
    refine wpAnyH_ready (rs := [13]) (by kernel_rfl) (by simp) ?_
    refine AllReadyH.cons rfl (fun K hK => ?_) AllReadyH.nil
    go_simp
    refine (HMR.out V10 (HS.out V10 HV10.out).2).mono ?_
    rintro e V11 ⟨rfl, hbV11⟩
    refine hK.out _ _ ((HS.out V11 (HV10.out.trans (hbV11.mono HV10.out.size))).1) (fun hHeld => ?_)
    clear hK K
    try simp only [Act.put, List.setIfInBounds_toArray, List.set_cons_zero, List.set_cons_succ]
    have HV11 : Hid (Below V4.heap.size V4 V11) := (HV10.out.trans (hbV11.mono HV10.out.size))
    clear hbV11
    refine wpAnyH_take (i := 14) (v := ?va_14) rfl (by kernel_rfl) (by kernel_rfl) (by kernel_rfl) (fun _ _ _ h => h) (Or.inl ⟨by first | kernel_rfl | rfl, ?ya_14⟩) hHeld ?ra_14
    case ya_14 => (intro W hSW; (try dsimp only at hSW); go_simp; (try with_reducible rfl))
    change wpAnyH _ _ _ _ _ _ _ (Act.put _ (some 23) _) _
    simp only [Act.put, List.setIfInBounds_toArray, List.set_cons_zero, List.set_cons_succ]
    refine wpAnyH_take (i := 15) (v := ?va_15) rfl (by kernel_rfl) (by kernel_rfl) (by kernel_rfl) (fun _ _ _ h => h) (Or.inl ⟨by first | kernel_rfl | rfl, ?ya_15⟩) hHeld ?ra_15
    case ya_15 => (intro W hSW; (try dsimp only at hSW); go_simp; (try with_reducible rfl))
    change wpAnyH _ _ _ _ _ _ _ (Act.put _ (some 24) _) _
    simp only [Act.put, List.setIfInBounds_toArray, List.set_cons_zero, List.set_cons_succ]
    refine wpAnyH_take (i := 16) (v := ?va_16) rfl (by kernel_rfl) (by kernel_rfl) (by kernel_rfl) (fun _ _ _ h => h) (Or.inl ⟨by first | kernel_rfl | rfl, ?ya_16⟩) hHeld ?ra_16
    case ya_16 => (intro W hSW; (try dsimp only at hSW); go_simp; (try with_reducible rfl))
    change wpAnyH _ _ _ _ _ _ _ (Act.put _ (some 25) _) _
    simp only [Act.put, List.setIfInBounds_toArray, List.set_cons_zero, List.set_cons_succ]
    refine wpAnyH_ready (rs := [17]) (by kernel_rfl) (by simp) ?_
    refine AllReadyH.cons rfl (fun K hK => ?_) AllReadyH.nil
    go_simp
    refine (HLV.out V11 (HS.out V11 HV11.out).2).mono ?_
    rintro e V12 ⟨rfl, hbV12⟩
    refine hK.out _ _ ((HS.out V12 (HV11.out.trans (hbV12.mono HV11.out.size))).1) (fun hHeld => ?_)
    clear hK K
    try simp only [Act.put, List.setIfInBounds_toArray, List.set_cons_zero, List.set_cons_succ]
    have HV12 : Hid (Below V4.heap.size V4 V12) := (HV11.out.trans (hbV12.mono HV11.out.size))
    clear hbV12
    refine wpAnyH_take (i := 18) (v := ?va_18) rfl (by kernel_rfl) (by kernel_rfl) (by kernel_rfl) (fun _ _ _ h => h) (Or.inl ⟨by first | kernel_rfl | rfl, ?ya_18⟩) hHeld ?ra_18
    case ya_18 => (intro W hSW; (try dsimp only at hSW); go_simp; (try with_reducible rfl))
    change wpAnyH _ _ _ _ _ _ _ (Act.put _ (some 27) _) _
    simp only [Act.put, List.setIfInBounds_toArray, List.set_cons_zero, List.set_cons_succ]
    refine wpAnyH_take (i := 19) (v := ?va_19) rfl (by kernel_rfl) (by kernel_rfl) (by kernel_rfl) (fun _ _ _ h => h) (Or.inl ⟨by first | kernel_rfl | rfl, ?ya_19⟩) hHeld ?ra_19
    case ya_19 => (intro W hSW; (try dsimp only at hSW); go_simp; (try with_reducible rfl))
    change wpAnyH _ _ _ _ _ _ _ (Act.put _ (some 2) _) _
    simp only [Act.put, List.setIfInBounds_toArray, List.set_cons_zero, List.set_cons_succ]
    refine wpAnyH_done (by kernel_rfl) ?_ _
    have HZ : Hid (Below w.heap.size w V12) := (HS.out V12 HV12.out).2
    go_wp2
    go_ret
    exact ⟨rfl, HZ.out⟩

set_option linter.unusedVariables false in
set_option maxRecDepth 100000 in
theorem lifted (os : Os) (started : os.Started) (H : Type) (enc : TypeId × Value → H) :
    ReturnsInHanded {} Tryd.checked os 3 .any (fun w args => (Rows.auditMaysSpec.pre enc Tryd.prog Tryd.f3 [] false w args ∧ laidMetH Tryd.prog laid2 w) ∧ sizedMet enc Tryd.prog Tryd.f3 (OpenSpec.ofChange Rows.auditMaysSpec) false w args) (Rows.auditMaysSpec.post enc Tryd.prog Tryd.f3 false true false false) := by
  refine returnsInHanded_of_change_and (C := Tryd.checked) (X := fun w _ => laidMetH Tryd.prog laid2 w) (fun _ _ _ hh h => h.of_heap hh) own started (by kernel_rfl) Tryd.func3
    (ChangeSpec.witness_shaped (enc := enc) (C := Tryd.checked) (os := os) (X := fun w _ => laidMetH Tryd.prog laid2 w) false (World.doorLaid Tryd.prog 19 os) #[.agg #[.string ByteArray.empty, .int .i64 0, .slice none 0 0]] 8 rfl (World.shaped_of_RefB (by kernel_rfl) (by kernel_rfl)) (by kernel_rfl) (by kernel_rfl) (by kernel_rfl) (door_met os _)) ?_
  intro W base args ds gs before hval0 hW _ hsz0 hL _
  have hval : ∀ (j : Nat) t v, Tryd.f3.params[j]? = some t → args[j]? = some v → Value.okWide Tryd.prog W .any base t v := hval0
  have hsz : (DataW.weightsEach Tryd.prog (Tryd.f3.params.toList ++ Rows.auditMaysSpec.plain.varTypes Tryd.prog) (ds ++ gs)).all (· ≤ reachBytes) = true := hsz0
  have hW' := hW
  obtain ⟨p, q, hA0, hV, rfl, hfz, hnd⟩ := hW
  have hA : DataW.TrodAll enc Tryd.prog W 0 (fun _ => true) true Tryd.f3.params.toList args.toList ds p := hA0
  rw [Tryd.params3] at hA hval hsz
  obtain ⟨v0, vs0, d0, ds0, p0, q0, hargs, rfl, rfl, h0, r0⟩ := trodAll_cons hA
  obtain ⟨rfl, rfl, rfl⟩ := trodAll_nil r0
  obtain rfl : args = #[v0] := by cases args; simp_all
  obtain ⟨rfl, rfl⟩ := trodVars_none hV
  have k0 := h0
  have lt0 : ∀ x ∈ p0, x.block < W.heap.size := by obtain ⟨m, hm⟩ := k0; exact DataW.trod_lt m _ _ _ hm
  obtain ⟨s0, n0, a0, len0, cap0, l0, rfl, w0, c0, z0, x0⟩ := aud_arg (j := 0) (hval 0 24 v0 rfl rfl) h0 hsz rfl rfl
  clear hA0 hval0 hsz hsz0
  refine (walk s0 n0 a0 len0 cap0 l0 c0 z0 x0 W w0 (of_laid hL)).mono fun e W' ⟨he, bel⟩ => ?_
  subst he
  exact ⟨_, rfl, _, _, _, [], _, [], hW', trodAll_mk1 (shut_bool Tryd.underlying4 _), (trodAll_cons_mk (Below.trod laidOut (by kernel_rfl) (of_decide_eq_true (by kernel_rfl)) k0 bel lt0) trodAll_mk0), rfl, bel.frame _, fun h => by cases h⟩

theorem over : Rows.auditMaysRow.holds Tryd.pinned (OpenSpec.ofChange Rows.auditMaysSpec) :=
  OpenClaim.holds_of_wide 3 Tryd.f3 rfl rfl rfl rfl rfl rfl rfl ⟨rfl, rfl, rfl, rfl, rfl⟩ rfl rfl rfl rfl rfl (by kernel_rfl) Tryd.func3 (by kernel_rfl)
    (of_decide_eq_true (by kernel_rfl)) (by unfold Func.isWrapper; first | (rw [if_pos (by decide +kernel)]; kernel_rfl) | (rw [if_neg (by decide +kernel)]; exact ⟨rfl, rfl⟩))
    (fun os started H enc _ => lifted os started H enc)

end Go.Proofs.YtkhidkilkbmpoaaDoor.auditMays
namespace Go.Proofs.YtkhidkilkbmpoaaDoor
/-- The given statement. -/
theorem auditMays_holds : Rows.AuditMaysCardSaid :=
  Claim7.holds_tied_plain_at .later [] [.data, .data] true (true, "c0eea24fd7221e3afb955dddc54761337ed5996520cfcdb0e8757455c9d47393") false
    auditMays.over (fun _ h => by cases h) (by kernel_rfl) (fun _ h => by cases h) auditMays_row_tie rfl ⟨rfl, rfl⟩ (by kernel_rfl) rfl
    (fun f fn hf hfn => by
      obtain rfl : f = 3 := Option.some.inj ((show Tryd.prog.funcNamed "strongroom/strongroomlaw13.AuditMays" = some 3 by kernel_rfl).symm.trans hf) |>.symm
      obtain rfl : fn = Tryd.f3 := (Option.some.inj (Tryd.func3.symm.trans hfn)).symm
      exact ⟨by kernel_rfl, fun j t ht => by
        rw [Tryd.params3] at ht
        rcases j with _ | j
        · obtain rfl : t = 24 := by simpa using ht.symm
          exact (show Tryd.prog.wantsStandIn 24 = false by kernel_rfl)
        · simp at ht
      ⟩)
    (by kernel_rfl)
#print axioms auditMays_holds
end Go.Proofs.YtkhidkilkbmpoaaDoor
