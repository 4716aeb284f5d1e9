/- Proved: for all caveats, a caveat, a right, a time and a path the law CapLess returns true, what was handed in as it was (a token that is narrowed lets just what it let and the caveat lets, and is sealed right); where the package's two tables begin as the program's text lays them. -/
import Derived.Test.YtcmdcmbiilfngaaDoorKR
import Derived.Test.YtcmdcmbiilfngaaDoorKC
import Derived.Test.YtcmdcmbiilfngaaDoorCards
import Derived.Test.YtcmdcmbiilfngaaDoorTie
import Derived.WalkKit
import Derived.ProofKit
import Derived.OpenShut
import Derived.ShutString
import Derived.ChangeOld
import Derived.Below
import Derived.LaidMore
import Derived.Stop.Joined
import Derived.SevenTiedAt
namespace Go.Proofs.YtcmdcmbiilfngaaDoor.capLess
open Go.ChangeShapes Go.WideShapes Go.ChangeAt Go.WideMaps Go.WideElems Go.RowKit
open Go.ChangeMaps (open_string shut_string)

set_option maxRecDepth 100000 in
set_option maxHeartbeats 2000000 in
theorem walk (a0 : Option Addr) (len0 cap0 : Nat) (l0 : List Cv) (c0 : ∀ c ∈ l0, c.In) (c1 : Cv) (z1 : c1.In) (x2 y2 : Int) (s2 : ByteArray) (_w2 : -9223372036854775808 ≤ x2 ∧ x2 ≤ 9223372036854775807) (_u2 : -9223372036854775808 ≤ y2 ∧ y2 ≤ 9223372036854775807) (z2 : s2.size ≤ 140737488351232) (w : World) (w0 : Kw w a0 len0 cap0 l0) (hL : Laid w) :
    Calls Tryd.prog 8 #[.slice a0 len0 cap0, .agg #[.string c1.path, .int .i64 c1.rights, .int .i64 c1.til], .agg #[.int .i64 x2, .int .i64 y2, .string s2]] w fun e w' => e = .returned (.bool true) ∧ Below w.heap.size w w' := by
  have HLV : Hid (∀ V, Below w.heap.size w V → Calls Tryd.prog 9 #[] V fun e w' => e = .returned (.bool true) ∧ Below w.heap.size w w') := fun V hV => (lives_any V (hL.below hV)).mono fun e w' h => ⟨h.1, hV.trans (h.2.mono hV.size)⟩
  have HLV2 : Hid (∀ V, Below w.heap.size w V → Calls Tryd.prog 9 #[] V fun e w' => e = .returned (.bool true) ∧ Below V.heap.size V w') := fun V hV => lives_any V (hL.below hV)
  obtain ⟨p1, r1', u1⟩ := c1
  simp only at z1 ⊢
  have z1p := z1.2.2
  simp only at z1p
  obtain ⟨cb, hcb⟩ : ∃ cb, w.heap.size = cb := ⟨_, rfl⟩
  obtain ⟨V1, hV1, rr1, hb1⟩ := box_cv (w := w) p1 r1' u1
  obtain ⟨qb, hqb⟩ : ∃ qb, V1.heap.size = qb := ⟨_, rfl⟩
  obtain ⟨V2, hV2⟩ : ∃ V2, V1.alloc (.cells #[.int .i64 x2, .int .i64 y2, .string s2] 51) = V2 := ⟨_, rfl⟩
  have hq1 : cb + 1 = qb := by rw [← hqb, ← hV1, ← hcb]; simp
  have rr2 : V2.heap[qb]? = some (.cells #[.int .i64 x2, .int .i64 y2, .string s2] 51 (0, 0)) := by rw [← hV2, ← hqb]; exact heap_alloc_new V1 _
  have hb2 : Below V1.heap.size V1 V2 := by rw [← hV2]; exact (Below.refl _ V1).alloc (Nat.le_refl _) _
  obtain ⟨ab, hab⟩ : ∃ ab, V2.heap.size = ab := ⟨_, rfl⟩
  have hq2 : qb + 1 = ab := by rw [← hab, ← hV2, ← hqb]; simp
  rw [hcb] at rr1
  have rc2 : V2.heap[cb]? = some (.cells #[.string p1, .int .i64 r1', .int .i64 u1] 35 (0, 0)) := by rw [hb2.block cb (by omega)]; exact rr1
  obtain ⟨V3, hV3⟩ : ∃ V3, V2.drew.alloc (.cells #[.int .i64 0, .int .i64 0] 39) = V3 := ⟨_, rfl⟩
  have rr3 : V3.heap[ab]? = some (.cells #[.int .i64 0, .int .i64 0] 39 (0, 0)) := by rw [← hV3, ← hab]; exact heap_alloc_new V2.drew _
  have hb3 : Below V2.heap.size V2 V3 := by rw [← hV3]; exact (Below.refl _ V2).drew.alloc (Nat.le_refl _) _
  obtain ⟨V4, hV4⟩ : ∃ V4, (V3.setCell ⟨ab, 0, none⟩ (.int .i64 x2)).setCell ⟨ab, 1, none⟩ (.int .i64 y2) = V4 := ⟨_, rfl⟩
  have rr4 : V4.heap[ab]? = some (.cells #[.int .i64 x2, .int .i64 y2] 39 (0, 0)) := by
    have h1 : (V3.setCell ⟨ab, 0, none⟩ (.int .i64 x2)).heap[ab]? = some (.cells #[.int .i64 x2, .int .i64 0] 39 (0, 0)) := by rw [heap_setCell_same _ _ _ _ _ _ rr3]; rfl
    rw [← hV4, heap_setCell_same _ _ _ _ _ _ h1]
    rfl
  have hb4 : Below V2.heap.size V2 V4 := by rw [← hV4]; exact (hb3.setCell (Nat.le_of_eq hab) _).setCell (Nat.le_of_eq hab) _
  have hB2 : Below w.heap.size w V2 := hb1.trans (hb2.mono hb1.size)
  have hB4 : Below w.heap.size w V4 := hB2.trans (hb4.mono hB2.size)
  have a0' : V3.cell? ⟨ab, 0, none⟩ = some (.int .i64 0) := by rw [cell_of_row _ _ _ _ _ _ rr3]; rfl
  have a1' : V3.cell? ⟨ab, 1, none⟩ = some (.int .i64 0) := by rw [cell_of_row _ _ _ _ _ _ rr3]; rfl
  have f0' := frozen_of_row V3 ab 0 _ _ rr3
  have f1' := frozen_of_row V3 ab 1 _ _ rr3
  have HQ : Hid (∀ W, Below V2.heap.size V2 W → W.cell? ⟨qb, 0, none⟩ = some (.int .i64 x2) ∧ W.cell? ⟨qb, 1, none⟩ = some (.int .i64 y2) ∧ W.cell? ⟨qb, 2, none⟩ = some (.string s2)) := fun W hW => by
    obtain ⟨e0, e1, e2, _⟩ := row3 ((hW.block qb (lt_of_some rr2)).trans rr2)
    exact ⟨e0, e1, e2⟩
  have HQ2 : Hid (V2.drew.cell? ⟨qb, 0, none⟩ = some (.int .i64 x2) ∧ V2.drew.cell? ⟨qb, 1, none⟩ = some (.int .i64 y2) ∧ V2.drew.cell? ⟨qb, 2, none⟩ = some (.string s2)) := HQ.out V2.drew (Below.refl _ V2).drew
  have HQ3 : Hid (V3.cell? ⟨qb, 0, none⟩ = some (.int .i64 x2) ∧ V3.cell? ⟨qb, 1, none⟩ = some (.int .i64 y2) ∧ V3.cell? ⟨qb, 2, none⟩ = some (.string s2)) := HQ.out V3 hb3
  have HQ4 : Hid (V4.cell? ⟨qb, 0, none⟩ = some (.int .i64 x2) ∧ V4.cell? ⟨qb, 1, none⟩ = some (.int .i64 y2) ∧ V4.cell? ⟨qb, 2, none⟩ = some (.string s2)) := HQ.out V4 hb4
  have rc4 := (hb4.block cb (by omega)).trans rc2
  have HK : Hid (∀ W, Below V4.heap.size V4 W → (W.cell? ⟨cb, 0, none⟩ = some (.string p1) ∧ W.cell? ⟨cb, 1, none⟩ = some (.int .i64 r1') ∧ W.cell? ⟨cb, 2, none⟩ = some (.int .i64 u1)) ∧ (W.cell? ⟨ab, 0, none⟩ = some (.int .i64 x2) ∧ W.cell? ⟨ab, 1, none⟩ = some (.int .i64 y2)) ∧ Below w.heap.size w W) := fun W hW => by
    obtain ⟨e0, e1, e2, _⟩ := row3 ((hW.block cb (lt_of_some rc4)).trans rc4)
    have h5 := (hW.block ab (lt_of_some rr4)).trans rr4
    exact ⟨⟨e0, e1, e2⟩, ⟨by rw [cell_of_row _ _ _ _ _ _ h5]; rfl, by rw [cell_of_row _ _ _ _ _ _ h5]; rfl⟩, hB4.trans (hW.mono hB4.size)⟩
  have hln := w0.len
  have hlm := w0.max
  have hcap : len0 ≤ cap0 := w0.2.1
  obtain ⟨j, hj⟩ : ∃ j, min len0 7 = j := ⟨_, rfl⟩
  have hjm : min (len0 : Int) 7 = (j : Int) := by omega
  have hsl := pre_cavs a0 len0 cap0 j (by omega)
  obtain ⟨a', ha'⟩ : ∃ a', cutA a0 cap0 0 3 = a' := ⟨_, rfl⟩
  rw [ha'] at hsl
  obtain ⟨l, hl⟩ : ∃ l, l0.take j = l := ⟨_, rfl⟩
  have hl7 : l.length ≤ 7 := by rw [← hl, List.length_take]; omega
  have hlp : ∀ c ∈ l, c.path.size ≤ 9223372036854775807 := fun c hc => by
    have := (c0 c (List.mem_of_mem_take (by rw [hl]; exact hc))).2.2
    omega
  obtain ⟨⟨⟨t1, t2, t3, t4⟩, tq⟩, hmd⟩ : ∃ r, madeT (⟨#[115]⟩ : ByteArray).data.toList 2 7 l = r := ⟨_, rfl⟩
  have HMD := made_any ⟨#[115]⟩ 2 7 (l := l) (a := a') (ln := j) (cp := cap0) (w := V4) (by have hk := (w0.below hB4).pre j (by omega); rw [ha', hl] at hk; exact hk) hlp (by decide) (hL.below hB4)
  rw [hmd] at HMD
  have HLW : Hid (Laid w) := hL
  have H4 : Hid (Below w.heap.size w V4) := hB4
  clear rr1 rr2 rr3 rr4 rc2 rc4 hb1 hb2 hb3 hb4 hB2 hB4 hL w0 c0 hl hlp hj hln ha' HQ
  cases hmb : madeB 2 7 l with
  | false =>
    have hq : tq = false := by unfold madeT at hmd; rw [if_neg (by rw [hmb]; decide)] at hmd; exact (Prod.mk.inj hmd).2.symm
    subst hq
    clear hmb hmd
    go_enter Tryd.func8, Tryd.ntmps8
    go_wp2
    refine wp_region_held_drew (S := fun W => W.cell? ⟨qb, 0, none⟩ = some (.int .i64 x2) ∧ W.cell? ⟨qb, 1, none⟩ = some (.int .i64 y2) ∧ W.cell? ⟨qb, 2, none⟩ = some (.string s2)) (by kernel_rfl) (HQ2.out) (fun hHeld => ?_)
    refine wpAnyH_take (i := 0) (v := ?vq0_0) rfl (by kernel_rfl) (by kernel_rfl) (by kernel_rfl) (fun _ _ _ h => h) (Or.inl ⟨by first | kernel_rfl | rfl, ?yq0_0⟩) hHeld ?rq0_0
    case yq0_0 => (intro W hSW; (try dsimp only at hSW); go_simp; (try with_reducible rfl))
    change wpAnyH _ _ _ _ _ _ _ (Act.put _ (some 17) _) _
    simp only [Act.put, List.setIfInBounds_toArray, List.set_cons_zero, List.set_cons_succ]
    refine wpAnyH_take (i := 1) (v := ?vq0_1) rfl (by kernel_rfl) (by kernel_rfl) (by kernel_rfl) (fun _ _ _ h => h) (Or.inl ⟨by first | kernel_rfl | rfl, ?yq0_1⟩) hHeld ?rq0_1
    case yq0_1 => (intro W hSW; (try dsimp only at hSW); go_simp; (try with_reducible rfl))
    change wpAnyH _ _ _ _ _ _ _ (Act.put _ (some 18) _) _
    simp only [Act.put, List.setIfInBounds_toArray, List.set_cons_zero, List.set_cons_succ]
    refine wpAnyH_take (i := 2) (v := ?vq0_2) rfl (by kernel_rfl) (by kernel_rfl) (by kernel_rfl) (fun _ _ _ h => h) (Or.inl ⟨by first | kernel_rfl | rfl, ?yq0_2⟩) hHeld ?rq0_2
    case yq0_2 => (intro W hSW; (try dsimp only at hSW); go_simp; (try with_reducible rfl))
    change wpAnyH _ _ _ _ _ _ _ (Act.put _ (some 19) _) _
    simp only [Act.put, List.setIfInBounds_toArray, List.set_cons_zero, List.set_cons_succ]
    refine wpAnyH_take (i := 3) (v := ?vq0_3) rfl (by kernel_rfl) (by kernel_rfl) (by kernel_rfl) (fun _ _ _ h => h) (Or.inl ⟨by first | kernel_rfl | rfl, ?yq0_3⟩) hHeld ?rq0_3
    case yq0_3 => (intro W hSW; (try dsimp only at hSW); go_simp; (try with_reducible rfl))
    change wpAnyH _ _ _ _ _ _ _ (Act.put _ (some 20) _) _
    simp only [Act.put, List.setIfInBounds_toArray, List.set_cons_zero, List.set_cons_succ]
    refine wpAnyH_ready (rs := [4]) (by kernel_rfl) (by simp) ?_
    refine AllReadyH.cons rfl (fun K hK => ?_) AllReadyH.nil
    go_simp
    refine hK.out _ _ (HQ3.out) (fun hHeld => ?_)
    clear hK K
    try simp only [Act.put, List.setIfInBounds_toArray, List.set_cons_zero, List.set_cons_succ]
    refine wpAnyH_ready (rs := [5]) (by kernel_rfl) (by simp) ?_
    refine AllReadyH.cons rfl (fun K hK => ?_) AllReadyH.nil
    go_simp
    refine hK.out _ _ (HQ4.out) (fun hHeld => ?_)
    clear hK K
    refine wpAnyH_take (i := 6) (v := ?vq0_6) rfl (by kernel_rfl) (by kernel_rfl) (by kernel_rfl) (fun _ _ _ h => h) (Or.inl ⟨by first | kernel_rfl | rfl, ?yq0_6⟩) hHeld ?rq0_6
    case yq0_6 => (intro W hSW; (try dsimp only at hSW); go_simp; (try with_reducible rfl))
    change wpAnyH _ _ _ _ _ _ _ (Act.put _ (some 8) _) _
    simp only [Act.put, List.setIfInBounds_toArray, List.set_cons_zero, List.set_cons_succ]
    refine wpAnyH_done (by kernel_rfl) ?_ _
    clear a0' a1' f0' f1'
    go_wp2_with fail
    refine HMD.mono ?_
    rintro e V5 ⟨ta, tn, tc, rfl, hkt, hb5⟩
    simp only at hkt ⊢
    obtain ⟨V6, hV6, r6, hb6⟩ := box_tk (w := V5) t1 t2 ta tn tc t4
    obtain ⟨tb, htb⟩ : ∃ tb, V5.heap.size = tb := ⟨_, rfl⟩
    rw [htb] at r6
    have hb46 : Below V4.heap.size V4 V6 := hb5.trans (hb6.mono hb5.size)
    have HT : Hid (∀ W, Below V6.heap.size V6 W → (W.cell? ⟨tb, 0, none⟩ = some (.int .i64 t1) ∧ W.cell? ⟨tb, 1, none⟩ = some (.int .i64 t2) ∧ W.cell? ⟨tb, 2, none⟩ = some (.slice ta tn tc) ∧ W.cell? ⟨tb, 3, none⟩ = some (.string t4)) ∧ Kw W ta tn tc t3 ∧ Below V4.heap.size V4 W) := fun W hW => by
      obtain ⟨e0, e1, e2, e3, _⟩ := row4 ((hW.block tb (lt_of_some r6)).trans r6)
      exact ⟨⟨e0, e1, e2, e3⟩, (hkt.below hb6).below hW, hb46.trans (hW.mono hb46.size)⟩
    have H6 : Hid (Below w.heap.size w V6) := (HK.out V6 hb46).2.2
    obtain ⟨⟨d0, d1, d2⟩, _, _⟩ := HK.out V6 hb46
    clear HMD hkt hb5 r6 hb6 hb46 hsl
    go_wp2_with fail
    refine (HLV.out _ (H6.out)).mono ?_
    rintro e VZ ⟨rfl, hbZ⟩
    go_wp2
    go_ret
    exact ⟨rfl, hbZ⟩
  | true =>
    have hmd2 : madeT (⟨#[115]⟩ : ByteArray).data.toList 2 7 l = (madeR (⟨#[115]⟩ : ByteArray).data.toList 2 7 l, true) := by unfold madeT; rw [if_pos hmb]
    rw [hmd2] at hmd
    obtain ⟨htk, hq⟩ := Prod.mk.inj hmd
    subst hq
    by_cases h2 : 1000 < s2.size
    · have k2 : (1000 : Int) < (s2.size : Int) := by omega
      clear hmb hmd hmd2 htk
      go_enter Tryd.func8, Tryd.ntmps8
      go_wp2
      refine wp_region_held_drew (S := fun W => W.cell? ⟨qb, 0, none⟩ = some (.int .i64 x2) ∧ W.cell? ⟨qb, 1, none⟩ = some (.int .i64 y2) ∧ W.cell? ⟨qb, 2, none⟩ = some (.string s2)) (by kernel_rfl) (HQ2.out) (fun hHeld => ?_)
      refine wpAnyH_take (i := 0) (v := ?vq1_0) rfl (by kernel_rfl) (by kernel_rfl) (by kernel_rfl) (fun _ _ _ h => h) (Or.inl ⟨by first | kernel_rfl | rfl, ?yq1_0⟩) hHeld ?rq1_0
      case yq1_0 => (intro W hSW; (try dsimp only at hSW); go_simp; (try with_reducible rfl))
      change wpAnyH _ _ _ _ _ _ _ (Act.put _ (some 17) _) _
      simp only [Act.put, List.setIfInBounds_toArray, List.set_cons_zero, List.set_cons_succ]
      refine wpAnyH_take (i := 1) (v := ?vq1_1) rfl (by kernel_rfl) (by kernel_rfl) (by kernel_rfl) (fun _ _ _ h => h) (Or.inl ⟨by first | kernel_rfl | rfl, ?yq1_1⟩) hHeld ?rq1_1
      case yq1_1 => (intro W hSW; (try dsimp only at hSW); go_simp; (try with_reducible rfl))
      change wpAnyH _ _ _ _ _ _ _ (Act.put _ (some 18) _) _
      simp only [Act.put, List.setIfInBounds_toArray, List.set_cons_zero, List.set_cons_succ]
      refine wpAnyH_take (i := 2) (v := ?vq1_2) rfl (by kernel_rfl) (by kernel_rfl) (by kernel_rfl) (fun _ _ _ h => h) (Or.inl ⟨by first | kernel_rfl | rfl, ?yq1_2⟩) hHeld ?rq1_2
      case yq1_2 => (intro W hSW; (try dsimp only at hSW); go_simp; (try with_reducible rfl))
      change wpAnyH _ _ _ _ _ _ _ (Act.put _ (some 19) _) _
      simp only [Act.put, List.setIfInBounds_toArray, List.set_cons_zero, List.set_cons_succ]
      refine wpAnyH_take (i := 3) (v := ?vq1_3) rfl (by kernel_rfl) (by kernel_rfl) (by kernel_rfl) (fun _ _ _ h => h) (Or.inl ⟨by first | kernel_rfl | rfl, ?yq1_3⟩) hHeld ?rq1_3
      case yq1_3 => (intro W hSW; (try dsimp only at hSW); go_simp; (try with_reducible rfl))
      change wpAnyH _ _ _ _ _ _ _ (Act.put _ (some 20) _) _
      simp only [Act.put, List.setIfInBounds_toArray, List.set_cons_zero, List.set_cons_succ]
      refine wpAnyH_ready (rs := [4]) (by kernel_rfl) (by simp) ?_
      refine AllReadyH.cons rfl (fun K hK => ?_) AllReadyH.nil
      go_simp
      refine hK.out _ _ (HQ3.out) (fun hHeld => ?_)
      clear hK K
      try simp only [Act.put, List.setIfInBounds_toArray, List.set_cons_zero, List.set_cons_succ]
      refine wpAnyH_ready (rs := [5]) (by kernel_rfl) (by simp) ?_
      refine AllReadyH.cons rfl (fun K hK => ?_) AllReadyH.nil
      go_simp
      refine hK.out _ _ (HQ4.out) (fun hHeld => ?_)
      clear hK K
      refine wpAnyH_take (i := 6) (v := ?vq1_6) rfl (by kernel_rfl) (by kernel_rfl) (by kernel_rfl) (fun _ _ _ h => h) (Or.inl ⟨by first | kernel_rfl | rfl, ?yq1_6⟩) hHeld ?rq1_6
      case yq1_6 => (intro W hSW; (try dsimp only at hSW); go_simp; (try with_reducible rfl))
      change wpAnyH _ _ _ _ _ _ _ (Act.put _ (some 8) _) _
      simp only [Act.put, List.setIfInBounds_toArray, List.set_cons_zero, List.set_cons_succ]
      refine wpAnyH_done (by kernel_rfl) ?_ _
      clear a0' a1' f0' f1'
      go_wp2_with fail
      refine HMD.mono ?_
      rintro e V5 ⟨ta, tn, tc, rfl, hkt, hb5⟩
      simp only at hkt ⊢
      obtain ⟨V6, hV6, r6, hb6⟩ := box_tk (w := V5) t1 t2 ta tn tc t4
      obtain ⟨tb, htb⟩ : ∃ tb, V5.heap.size = tb := ⟨_, rfl⟩
      rw [htb] at r6
      have hb46 : Below V4.heap.size V4 V6 := hb5.trans (hb6.mono hb5.size)
      have HT : Hid (∀ W, Below V6.heap.size V6 W → (W.cell? ⟨tb, 0, none⟩ = some (.int .i64 t1) ∧ W.cell? ⟨tb, 1, none⟩ = some (.int .i64 t2) ∧ W.cell? ⟨tb, 2, none⟩ = some (.slice ta tn tc) ∧ W.cell? ⟨tb, 3, none⟩ = some (.string t4)) ∧ Kw W ta tn tc t3 ∧ Below V4.heap.size V4 W) := fun W hW => by
        obtain ⟨e0, e1, e2, e3, _⟩ := row4 ((hW.block tb (lt_of_some r6)).trans r6)
        exact ⟨⟨e0, e1, e2, e3⟩, (hkt.below hb6).below hW, hb46.trans (hW.mono hb46.size)⟩
      have H6 : Hid (Below w.heap.size w V6) := (HK.out V6 hb46).2.2
      obtain ⟨⟨d0, d1, d2⟩, _, _⟩ := HK.out V6 hb46
      clear HMD hkt hb5 r6 hb6 hb46 hsl
      go_wp2_with fail
      refine (HLV.out _ (H6.out)).mono ?_
      rintro e VZ ⟨rfl, hbZ⟩
      go_wp2
      go_ret
      exact ⟨rfl, hbZ⟩
    · have k2 : ¬ (1000 : Int) < (s2.size : Int) := by omega
      have k2d : decide ((1000 : Int) < (s2.size : Int)) = false := decide_eq_false k2
      by_cases h1 : 1000 < p1.size
      · have k1 : (1000 : Int) < (p1.size : Int) := by omega
        clear hmb hmd hmd2 htk
        go_enter Tryd.func8, Tryd.ntmps8
        go_wp2
        refine wp_region_held_drew (S := fun W => W.cell? ⟨qb, 0, none⟩ = some (.int .i64 x2) ∧ W.cell? ⟨qb, 1, none⟩ = some (.int .i64 y2) ∧ W.cell? ⟨qb, 2, none⟩ = some (.string s2)) (by kernel_rfl) (HQ2.out) (fun hHeld => ?_)
        refine wpAnyH_take (i := 0) (v := ?vq2_0) rfl (by kernel_rfl) (by kernel_rfl) (by kernel_rfl) (fun _ _ _ h => h) (Or.inl ⟨by first | kernel_rfl | rfl, ?yq2_0⟩) hHeld ?rq2_0
        case yq2_0 => (intro W hSW; (try dsimp only at hSW); go_simp; (try with_reducible rfl))
        change wpAnyH _ _ _ _ _ _ _ (Act.put _ (some 17) _) _
        simp only [Act.put, List.setIfInBounds_toArray, List.set_cons_zero, List.set_cons_succ]
        refine wpAnyH_take (i := 1) (v := ?vq2_1) rfl (by kernel_rfl) (by kernel_rfl) (by kernel_rfl) (fun _ _ _ h => h) (Or.inl ⟨by first | kernel_rfl | rfl, ?yq2_1⟩) hHeld ?rq2_1
        case yq2_1 => (intro W hSW; (try dsimp only at hSW); go_simp; (try with_reducible rfl))
        change wpAnyH _ _ _ _ _ _ _ (Act.put _ (some 18) _) _
        simp only [Act.put, List.setIfInBounds_toArray, List.set_cons_zero, List.set_cons_succ]
        refine wpAnyH_take (i := 2) (v := ?vq2_2) rfl (by kernel_rfl) (by kernel_rfl) (by kernel_rfl) (fun _ _ _ h => h) (Or.inl ⟨by first | kernel_rfl | rfl, ?yq2_2⟩) hHeld ?rq2_2
        case yq2_2 => (intro W hSW; (try dsimp only at hSW); go_simp; (try with_reducible rfl))
        change wpAnyH _ _ _ _ _ _ _ (Act.put _ (some 19) _) _
        simp only [Act.put, List.setIfInBounds_toArray, List.set_cons_zero, List.set_cons_succ]
        refine wpAnyH_take (i := 3) (v := ?vq2_3) rfl (by kernel_rfl) (by kernel_rfl) (by kernel_rfl) (fun _ _ _ h => h) (Or.inl ⟨by first | kernel_rfl | rfl, ?yq2_3⟩) hHeld ?rq2_3
        case yq2_3 => (intro W hSW; (try dsimp only at hSW); go_simp; (try with_reducible rfl))
        change wpAnyH _ _ _ _ _ _ _ (Act.put _ (some 20) _) _
        simp only [Act.put, List.setIfInBounds_toArray, List.set_cons_zero, List.set_cons_succ]
        refine wpAnyH_ready (rs := [4]) (by kernel_rfl) (by simp) ?_
        refine AllReadyH.cons rfl (fun K hK => ?_) AllReadyH.nil
        go_simp
        refine hK.out _ _ (HQ3.out) (fun hHeld => ?_)
        clear hK K
        try simp only [Act.put, List.setIfInBounds_toArray, List.set_cons_zero, List.set_cons_succ]
        refine wpAnyH_ready (rs := [5]) (by kernel_rfl) (by simp) ?_
        refine AllReadyH.cons rfl (fun K hK => ?_) AllReadyH.nil
        go_simp
        refine hK.out _ _ (HQ4.out) (fun hHeld => ?_)
        clear hK K
        refine wpAnyH_take (i := 6) (v := ?vq2_6) rfl (by kernel_rfl) (by kernel_rfl) (by kernel_rfl) (fun _ _ _ h => h) (Or.inl ⟨by first | kernel_rfl | rfl, ?yq2_6⟩) hHeld ?rq2_6
        case yq2_6 => (intro W hSW; (try dsimp only at hSW); go_simp; (try with_reducible rfl))
        change wpAnyH _ _ _ _ _ _ _ (Act.put _ (some 8) _) _
        simp only [Act.put, List.setIfInBounds_toArray, List.set_cons_zero, List.set_cons_succ]
        refine wpAnyH_done (by kernel_rfl) ?_ _
        clear a0' a1' f0' f1'
        go_wp2_with fail
        refine HMD.mono ?_
        rintro e V5 ⟨ta, tn, tc, rfl, hkt, hb5⟩
        simp only at hkt ⊢
        obtain ⟨V6, hV6, r6, hb6⟩ := box_tk (w := V5) t1 t2 ta tn tc t4
        obtain ⟨tb, htb⟩ : ∃ tb, V5.heap.size = tb := ⟨_, rfl⟩
        rw [htb] at r6
        have hb46 : Below V4.heap.size V4 V6 := hb5.trans (hb6.mono hb5.size)
        have HT : Hid (∀ W, Below V6.heap.size V6 W → (W.cell? ⟨tb, 0, none⟩ = some (.int .i64 t1) ∧ W.cell? ⟨tb, 1, none⟩ = some (.int .i64 t2) ∧ W.cell? ⟨tb, 2, none⟩ = some (.slice ta tn tc) ∧ W.cell? ⟨tb, 3, none⟩ = some (.string t4)) ∧ Kw W ta tn tc t3 ∧ Below V4.heap.size V4 W) := fun W hW => by
          obtain ⟨e0, e1, e2, e3, _⟩ := row4 ((hW.block tb (lt_of_some r6)).trans r6)
          exact ⟨⟨e0, e1, e2, e3⟩, (hkt.below hb6).below hW, hb46.trans (hW.mono hb46.size)⟩
        have H6 : Hid (Below w.heap.size w V6) := (HK.out V6 hb46).2.2
        obtain ⟨⟨d0, d1, d2⟩, _, _⟩ := HK.out V6 hb46
        clear HMD hkt hb5 r6 hb6 hb46 hsl
        go_wp2_with fail
        refine (HLV.out _ (H6.out)).mono ?_
        rintro e VZ ⟨rfl, hbZ⟩
        go_wp2
        go_ret
        exact ⟨rfl, hbZ⟩
      · have k1 : ¬ (1000 : Int) < (p1.size : Int) := by omega
        have hcq : ∀ c ∈ t3, c.path.size ≤ 9223372036854775807 := by
          have h3 : t3 = l := (congrArg Tk.cavs htk).symm
          intro c hc
          rw [h3] at hc
          have := ok_path ((madeB_iff.1 hmb).2.2 c hc)
          omega
        have HNR : Hid (∀ (W : World) (xa : Option Addr) (xn xc : Nat), Kw W xa xn xc t3 → Laid W → Calls Tryd.prog 15 #[.agg #[.int .i64 t1, .int .i64 t2, .slice xa xn xc, .string t4], .agg #[.string p1, .int .i64 r1', .int .i64 u1]] W fun e w' => TkTo W (narrowT ⟨t1, t2, t3, t4⟩ ⟨p1, r1', u1⟩) e w') := fun W xa xn xc hk hW => narrow_any t1 t2 t4 ⟨p1, r1', u1⟩ W hk hcq (by simp only; omega) hW
        have hmay : mayT ⟨t1, t2, t3, t4⟩ = true := by rw [← htk]; exact madeR_may hmb
        cases hco : (⟨p1, r1', u1⟩ : Cv).ok with
        | false =>
          have hnr : narrowT ⟨t1, t2, t3, t4⟩ ⟨p1, r1', u1⟩ = (zeroT, 1) := by unfold narrowT; rw [if_neg (fun h => by rw [hco] at h; exact absurd h.2 (by decide))]
          obtain ⟨⟨⟨r1, r2, r3, r4⟩, re⟩, hrr⟩ : ∃ r, narrowT ⟨t1, t2, t3, t4⟩ ⟨p1, r1', u1⟩ = r := ⟨_, rfl⟩
          rw [hrr] at HNR
          rw [hnr] at hrr
          have hre := (Prod.mk.inj hrr).2
          have kre : (re : Int) = 1 := by omega
          clear hmb hmd hmd2 htk hcq hmay hco hnr hrr hre
          go_enter Tryd.func8, Tryd.ntmps8
          go_wp2
          refine wp_region_held_drew (S := fun W => W.cell? ⟨qb, 0, none⟩ = some (.int .i64 x2) ∧ W.cell? ⟨qb, 1, none⟩ = some (.int .i64 y2) ∧ W.cell? ⟨qb, 2, none⟩ = some (.string s2)) (by kernel_rfl) (HQ2.out) (fun hHeld => ?_)
          refine wpAnyH_take (i := 0) (v := ?vq3_0) rfl (by kernel_rfl) (by kernel_rfl) (by kernel_rfl) (fun _ _ _ h => h) (Or.inl ⟨by first | kernel_rfl | rfl, ?yq3_0⟩) hHeld ?rq3_0
          case yq3_0 => (intro W hSW; (try dsimp only at hSW); go_simp; (try with_reducible rfl))
          change wpAnyH _ _ _ _ _ _ _ (Act.put _ (some 17) _) _
          simp only [Act.put, List.setIfInBounds_toArray, List.set_cons_zero, List.set_cons_succ]
          refine wpAnyH_take (i := 1) (v := ?vq3_1) rfl (by kernel_rfl) (by kernel_rfl) (by kernel_rfl) (fun _ _ _ h => h) (Or.inl ⟨by first | kernel_rfl | rfl, ?yq3_1⟩) hHeld ?rq3_1
          case yq3_1 => (intro W hSW; (try dsimp only at hSW); go_simp; (try with_reducible rfl))
          change wpAnyH _ _ _ _ _ _ _ (Act.put _ (some 18) _) _
          simp only [Act.put, List.setIfInBounds_toArray, List.set_cons_zero, List.set_cons_succ]
          refine wpAnyH_take (i := 2) (v := ?vq3_2) rfl (by kernel_rfl) (by kernel_rfl) (by kernel_rfl) (fun _ _ _ h => h) (Or.inl ⟨by first | kernel_rfl | rfl, ?yq3_2⟩) hHeld ?rq3_2
          case yq3_2 => (intro W hSW; (try dsimp only at hSW); go_simp; (try with_reducible rfl))
          change wpAnyH _ _ _ _ _ _ _ (Act.put _ (some 19) _) _
          simp only [Act.put, List.setIfInBounds_toArray, List.set_cons_zero, List.set_cons_succ]
          refine wpAnyH_take (i := 3) (v := ?vq3_3) rfl (by kernel_rfl) (by kernel_rfl) (by kernel_rfl) (fun _ _ _ h => h) (Or.inl ⟨by first | kernel_rfl | rfl, ?yq3_3⟩) hHeld ?rq3_3
          case yq3_3 => (intro W hSW; (try dsimp only at hSW); go_simp; (try with_reducible rfl))
          change wpAnyH _ _ _ _ _ _ _ (Act.put _ (some 20) _) _
          simp only [Act.put, List.setIfInBounds_toArray, List.set_cons_zero, List.set_cons_succ]
          refine wpAnyH_ready (rs := [4]) (by kernel_rfl) (by simp) ?_
          refine AllReadyH.cons rfl (fun K hK => ?_) AllReadyH.nil
          go_simp
          refine hK.out _ _ (HQ3.out) (fun hHeld => ?_)
          clear hK K
          try simp only [Act.put, List.setIfInBounds_toArray, List.set_cons_zero, List.set_cons_succ]
          refine wpAnyH_ready (rs := [5]) (by kernel_rfl) (by simp) ?_
          refine AllReadyH.cons rfl (fun K hK => ?_) AllReadyH.nil
          go_simp
          refine hK.out _ _ (HQ4.out) (fun hHeld => ?_)
          clear hK K
          refine wpAnyH_take (i := 6) (v := ?vq3_6) rfl (by kernel_rfl) (by kernel_rfl) (by kernel_rfl) (fun _ _ _ h => h) (Or.inl ⟨by first | kernel_rfl | rfl, ?yq3_6⟩) hHeld ?rq3_6
          case yq3_6 => (intro W hSW; (try dsimp only at hSW); go_simp; (try with_reducible rfl))
          change wpAnyH _ _ _ _ _ _ _ (Act.put _ (some 8) _) _
          simp only [Act.put, List.setIfInBounds_toArray, List.set_cons_zero, List.set_cons_succ]
          refine wpAnyH_done (by kernel_rfl) ?_ _
          clear a0' a1' f0' f1'
          go_wp2_with fail
          refine HMD.mono ?_
          rintro e V5 ⟨ta, tn, tc, rfl, hkt, hb5⟩
          simp only at hkt ⊢
          obtain ⟨V6, hV6, r6, hb6⟩ := box_tk (w := V5) t1 t2 ta tn tc t4
          obtain ⟨tb, htb⟩ : ∃ tb, V5.heap.size = tb := ⟨_, rfl⟩
          rw [htb] at r6
          have hb46 : Below V4.heap.size V4 V6 := hb5.trans (hb6.mono hb5.size)
          have HT : Hid (∀ W, Below V6.heap.size V6 W → (W.cell? ⟨tb, 0, none⟩ = some (.int .i64 t1) ∧ W.cell? ⟨tb, 1, none⟩ = some (.int .i64 t2) ∧ W.cell? ⟨tb, 2, none⟩ = some (.slice ta tn tc) ∧ W.cell? ⟨tb, 3, none⟩ = some (.string t4)) ∧ Kw W ta tn tc t3 ∧ Below V4.heap.size V4 W) := fun W hW => by
            obtain ⟨e0, e1, e2, e3, _⟩ := row4 ((hW.block tb (lt_of_some r6)).trans r6)
            exact ⟨⟨e0, e1, e2, e3⟩, (hkt.below hb6).below hW, hb46.trans (hW.mono hb46.size)⟩
          have H6 : Hid (Below w.heap.size w V6) := (HK.out V6 hb46).2.2
          obtain ⟨⟨d0, d1, d2⟩, _, _⟩ := HK.out V6 hb46
          clear HMD hkt hb5 r6 hb6 hb46 hsl
          obtain ⟨⟨y0, y1', y2', y3⟩, hk6, _⟩ := HT.out V6 (Below.refl _ _)
          have HN6 := HNR.out V6 ta tn tc hk6 (HLW.out.below H6.out)
          clear hk6
          go_wp2_with fail
          refine HN6.mono ?_
          rintro e V7 ⟨ua, un, uc, rfl, ho7, hb7⟩
          simp only at ho7 ⊢
          obtain ⟨V8, hV8, r8, hb8⟩ := box_tk (w := V7) r1 r2 ua un uc r4
          have H8 : Hid (Below w.heap.size w V8) := H6.out.trans ((hb7.trans (hb8.mono hb7.size)).mono H6.out.size)
          clear HN6 ho7 hb7 r8 hb8 d0 d1 d2 y0 y1' y2' y3
          go_wp2_with fail
          refine (HLV.out _ (H8.out)).mono ?_
          rintro e VZ ⟨rfl, hbZ⟩
          go_wp2
          go_ret
          exact ⟨rfl, hbZ⟩
        | true =>
          obtain ⟨hnr, hb1c, hlt, hck⟩ := less_made (k := (⟨#[115]⟩ : ByteArray).data.toList) hmb hl7 hco x2 s2.data.toList y2
          have hcp := ok_path hco
          simp only at hcp
          have hb2c : madeB 2 7 (l ++ [⟨p1, r1', u1⟩]) = true := by
            have h9 := madeB_iff.1 hmb
            refine madeB_iff.2 ⟨h9.1, by simp; omega, fun d hd => ?_⟩
            rcases List.mem_append.1 hd with hd | hd
            · exact h9.2.2 d hd
            · rw [List.mem_singleton.1 hd]; exact hco
          rw [htk] at hnr hlt
          obtain ⟨⟨r1, r2, r3, r4⟩, hur⟩ : ∃ r, madeR (⟨#[115]⟩ : ByteArray).data.toList 2 7 (l ++ [⟨p1, r1', u1⟩]) = r := ⟨_, rfl⟩
          have h3u : ∀ c ∈ r3, c.path.size ≤ 9223372036854775807 := by
            have h3 : r3 = l ++ [⟨p1, r1', u1⟩] := (congrArg Tk.cavs hur).symm
            intro c hc
            rw [h3] at hc
            have := ok_path ((madeB_iff.1 hb2c).2.2 c hc)
            omega
          rw [hur] at hnr hlt hck
          rw [hnr] at HNR
          obtain ⟨oz, hoz⟩ : ∃ oz, (madeR (⟨#[115]⟩ : ByteArray).data.toList 2 7 [⟨p1, r1', u1⟩]).sig = oz := ⟨_, rfl⟩
          have hmr : madeR (⟨#[115]⟩ : ByteArray).data.toList 2 7 [⟨p1, r1', u1⟩] = ⟨2, 7, [⟨p1, r1', u1⟩], oz⟩ := by rw [← hoz]; rfl
          rw [hmr] at hlt
          have HM2 : Hid (∀ (g : Nat) W, Laid W → W.heap[g]? = some (.cells #[.string p1, .int .i64 r1', .int .i64 u1] 35 (0, 0)) → Calls Tryd.prog 23 #[.string ⟨#[115]⟩, .int .i64 2, .int .i64 7, .slice (some ⟨g, 0, none⟩) 1 1] W fun e w' => MdTo W (⟨2, 7, [⟨p1, r1', u1⟩], oz⟩, true) e w') := fun g W hW hg => by
            have h5 := made_any ⟨#[115]⟩ 2 7 (cvRow (p := ⟨p1, r1', u1⟩) hg) (fun d hd => by rw [List.mem_singleton.1 hd]; show p1.size ≤ _; omega) (by decide) hW
            have e : madeT (⟨#[115]⟩ : ByteArray).data.toList 2 7 [⟨p1, r1', u1⟩] = (madeR (⟨#[115]⟩ : ByteArray).data.toList 2 7 [⟨p1, r1', u1⟩], true) := by unfold madeT; rw [if_pos hb1c]
            rw [e, hmr] at h5
            exact h5
          obtain ⟨lt, hlt1⟩ : ∃ b, letsT ⟨t1, t2, t3, t4⟩ x2 s2.data.toList y2 = b := ⟨_, rfl⟩
          obtain ⟨lo, hlo1⟩ : ∃ b, letsT ⟨2, 7, [⟨p1, r1', u1⟩], oz⟩ x2 s2.data.toList y2 = b := ⟨_, rfl⟩
          rw [hlt1, hlo1] at hlt
          have HLT0 : Hid (∀ (W : World) (xa : Option Addr) (xn xc : Nat), Kw W xa xn xc t3 → Calls Tryd.prog 21 #[.agg #[.int .i64 t1, .int .i64 t2, .slice xa xn xc, .string t4], .int .i64 x2, .string s2, .int .i64 y2] W fun e w' => e = .returned (.bool lt) ∧ Below W.heap.size W w') := fun W xa xn xc hk => by
            have h5 := lets_any t1 t2 t4 x2 s2 y2 hk hcq (by omega)
            rw [hlt1] at h5
            exact h5
          have HLO0 : Hid (∀ (W : World) (xa : Option Addr) (xn xc : Nat), Kw W xa xn xc [⟨p1, r1', u1⟩] → Calls Tryd.prog 21 #[.agg #[.int .i64 2, .int .i64 7, .slice xa xn xc, .string oz], .int .i64 x2, .string s2, .int .i64 y2] W fun e w' => e = .returned (.bool lo) ∧ Below W.heap.size W w') := fun W xa xn xc hk => by
            have h5 := lets_any 2 7 oz x2 s2 y2 hk (fun d hd => by rw [List.mem_singleton.1 hd]; show p1.size ≤ _; omega) (by omega)
            rw [hlo1] at h5
            exact h5
          have HLU0 : Hid (∀ (W : World) (xa : Option Addr) (xn xc : Nat), Kw W xa xn xc r3 → Calls Tryd.prog 21 #[.agg #[.int .i64 r1, .int .i64 r2, .slice xa xn xc, .string r4], .int .i64 x2, .string s2, .int .i64 y2] W fun e w' => e = .returned (.bool (lt && lo)) ∧ Below W.heap.size W w') := fun W xa xn xc hk => by
            have h5 := lets_any r1 r2 r4 x2 s2 y2 hk h3u (by omega)
            rw [hlt] at h5
            exact h5
          have HCK0 : Hid (∀ (W : World) (xa : Option Addr) (xn xc : Nat), Kw W xa xn xc r3 → Laid W → Calls Tryd.prog 24 #[.string ⟨#[115]⟩, .agg #[.int .i64 r1, .int .i64 r2, .slice xa xn xc, .string r4]] W fun e w' => e = .returned (.bool true) ∧ Below W.heap.size W w') := fun W xa xn xc hk hW => by
            have h5 := check_tk ⟨#[115]⟩ r4 r1 r2 W hk h3u (by decide) hW
            rw [hck] at h5
            exact h5
          clear hmb hmd hmd2 htk hcq hmay hco hnr hb1c hlt hck hcp hb2c hur h3u hoz hmr hlt1 hlo1
          go_enter Tryd.func8, Tryd.ntmps8
          go_wp2
          refine wp_region_held_drew (S := fun W => W.cell? ⟨qb, 0, none⟩ = some (.int .i64 x2) ∧ W.cell? ⟨qb, 1, none⟩ = some (.int .i64 y2) ∧ W.cell? ⟨qb, 2, none⟩ = some (.string s2)) (by kernel_rfl) (HQ2.out) (fun hHeld => ?_)
          refine wpAnyH_take (i := 0) (v := ?vq4_0) rfl (by kernel_rfl) (by kernel_rfl) (by kernel_rfl) (fun _ _ _ h => h) (Or.inl ⟨by first | kernel_rfl | rfl, ?yq4_0⟩) hHeld ?rq4_0
          case yq4_0 => (intro W hSW; (try dsimp only at hSW); go_simp; (try with_reducible rfl))
          change wpAnyH _ _ _ _ _ _ _ (Act.put _ (some 17) _) _
          simp only [Act.put, List.setIfInBounds_toArray, List.set_cons_zero, List.set_cons_succ]
          refine wpAnyH_take (i := 1) (v := ?vq4_1) rfl (by kernel_rfl) (by kernel_rfl) (by kernel_rfl) (fun _ _ _ h => h) (Or.inl ⟨by first | kernel_rfl | rfl, ?yq4_1⟩) hHeld ?rq4_1
          case yq4_1 => (intro W hSW; (try dsimp only at hSW); go_simp; (try with_reducible rfl))
          change wpAnyH _ _ _ _ _ _ _ (Act.put _ (some 18) _) _
          simp only [Act.put, List.setIfInBounds_toArray, List.set_cons_zero, List.set_cons_succ]
          refine wpAnyH_take (i := 2) (v := ?vq4_2) rfl (by kernel_rfl) (by kernel_rfl) (by kernel_rfl) (fun _ _ _ h => h) (Or.inl ⟨by first | kernel_rfl | rfl, ?yq4_2⟩) hHeld ?rq4_2
          case yq4_2 => (intro W hSW; (try dsimp only at hSW); go_simp; (try with_reducible rfl))
          change wpAnyH _ _ _ _ _ _ _ (Act.put _ (some 19) _) _
          simp only [Act.put, List.setIfInBounds_toArray, List.set_cons_zero, List.set_cons_succ]
          refine wpAnyH_take (i := 3) (v := ?vq4_3) rfl (by kernel_rfl) (by kernel_rfl) (by kernel_rfl) (fun _ _ _ h => h) (Or.inl ⟨by first | kernel_rfl | rfl, ?yq4_3⟩) hHeld ?rq4_3
          case yq4_3 => (intro W hSW; (try dsimp only at hSW); go_simp; (try with_reducible rfl))
          change wpAnyH _ _ _ _ _ _ _ (Act.put _ (some 20) _) _
          simp only [Act.put, List.setIfInBounds_toArray, List.set_cons_zero, List.set_cons_succ]
          refine wpAnyH_ready (rs := [4]) (by kernel_rfl) (by simp) ?_
          refine AllReadyH.cons rfl (fun K hK => ?_) AllReadyH.nil
          go_simp
          refine hK.out _ _ (HQ3.out) (fun hHeld => ?_)
          clear hK K
          try simp only [Act.put, List.setIfInBounds_toArray, List.set_cons_zero, List.set_cons_succ]
          refine wpAnyH_ready (rs := [5]) (by kernel_rfl) (by simp) ?_
          refine AllReadyH.cons rfl (fun K hK => ?_) AllReadyH.nil
          go_simp
          refine hK.out _ _ (HQ4.out) (fun hHeld => ?_)
          clear hK K
          refine wpAnyH_take (i := 6) (v := ?vq4_6) rfl (by kernel_rfl) (by kernel_rfl) (by kernel_rfl) (fun _ _ _ h => h) (Or.inl ⟨by first | kernel_rfl | rfl, ?yq4_6⟩) hHeld ?rq4_6
          case yq4_6 => (intro W hSW; (try dsimp only at hSW); go_simp; (try with_reducible rfl))
          change wpAnyH _ _ _ _ _ _ _ (Act.put _ (some 8) _) _
          simp only [Act.put, List.setIfInBounds_toArray, List.set_cons_zero, List.set_cons_succ]
          refine wpAnyH_done (by kernel_rfl) ?_ _
          clear a0' a1' f0' f1'
          go_wp2_with fail
          refine HMD.mono ?_
          rintro e V5 ⟨ta, tn, tc, rfl, hkt, hb5⟩
          simp only at hkt ⊢
          obtain ⟨V6, hV6, r6, hb6⟩ := box_tk (w := V5) t1 t2 ta tn tc t4
          obtain ⟨tb, htb⟩ : ∃ tb, V5.heap.size = tb := ⟨_, rfl⟩
          rw [htb] at r6
          have hb46 : Below V4.heap.size V4 V6 := hb5.trans (hb6.mono hb5.size)
          have HT : Hid (∀ W, Below V6.heap.size V6 W → (W.cell? ⟨tb, 0, none⟩ = some (.int .i64 t1) ∧ W.cell? ⟨tb, 1, none⟩ = some (.int .i64 t2) ∧ W.cell? ⟨tb, 2, none⟩ = some (.slice ta tn tc) ∧ W.cell? ⟨tb, 3, none⟩ = some (.string t4)) ∧ Kw W ta tn tc t3 ∧ Below V4.heap.size V4 W) := fun W hW => by
            obtain ⟨e0, e1, e2, e3, _⟩ := row4 ((hW.block tb (lt_of_some r6)).trans r6)
            exact ⟨⟨e0, e1, e2, e3⟩, (hkt.below hb6).below hW, hb46.trans (hW.mono hb46.size)⟩
          have H6 : Hid (Below w.heap.size w V6) := (HK.out V6 hb46).2.2
          obtain ⟨⟨d0, d1, d2⟩, _, _⟩ := HK.out V6 hb46
          clear HMD hkt hb5 r6 hb6 hb46 hsl
          obtain ⟨⟨y0, y1', y2', y3⟩, hk6, _⟩ := HT.out V6 (Below.refl _ _)
          have HN6 := HNR.out V6 ta tn tc hk6 (HLW.out.below H6.out)
          clear hk6
          go_wp2_with fail
          refine HN6.mono ?_
          rintro e V7 ⟨ua, un, uc, rfl, ho7, hb7⟩
          simp only at ho7 ⊢
          obtain ⟨V8, hV8, r8, hb8⟩ := box_tk (w := V7) r1 r2 ua un uc r4
          obtain ⟨ub, hub⟩ : ∃ ub, V7.heap.size = ub := ⟨_, rfl⟩
          rw [hub] at r8
          have hb68 : Below V6.heap.size V6 V8 := hb7.trans (hb8.mono hb7.size)
          have HU : Hid (∀ W, Below V8.heap.size V8 W → (W.cell? ⟨ub, 0, none⟩ = some (.int .i64 r1) ∧ W.cell? ⟨ub, 1, none⟩ = some (.int .i64 r2) ∧ W.cell? ⟨ub, 2, none⟩ = some (.slice ua un uc) ∧ W.cell? ⟨ub, 3, none⟩ = some (.string r4)) ∧ Kw W ua un uc r3 ∧ Below V6.heap.size V6 W) := fun W hW => by
            obtain ⟨e0, e1, e2, e3, _⟩ := row4 ((hW.block ub (lt_of_some r8)).trans r8)
            exact ⟨⟨e0, e1, e2, e3⟩, ((Kw.own ho7).below hb8).below hW, hb68.trans (hW.mono hb68.size)⟩
          clear d0 d1 d2 y0 y1' y2' y3
          obtain ⟨⟨d0, d1, d2⟩, _, hw8⟩ := HK.out V8 (HT.out V8 hb68).2.2
          obtain ⟨V9, hV9, r9, hb9⟩ := box_cv (w := V8) p1 r1' u1
          obtain ⟨gb, hgb⟩ : ∃ gb, V8.heap.size = gb := ⟨_, rfl⟩
          have hgu : ub + 1 = gb := by rw [← hgb, ← hV8, ← hub]; simp
          rw [hgb] at r9
          have HM9 := HM2.out gb V9 (HLW.out.below (hw8.trans (hb9.mono hw8.size))) r9
          have H9 : Hid (Below V8.heap.size V8 V9) := hb9
          clear HN6 ho7 hb7 r8 hb8 hb68 hw8 r9 hb9
          go_wp2_with fail
          refine HM9.mono ?_
          rintro e VA ⟨oa, on, oc, rfl, hko, hbA⟩
          simp only at hko ⊢
          obtain ⟨VB, hVB, rB, hbB⟩ := box_tk (w := VA) 2 7 oa on oc oz
          obtain ⟨ob, hob⟩ : ∃ ob, VA.heap.size = ob := ⟨_, rfl⟩
          rw [hob] at rB
          have hb8B : Below V8.heap.size V8 VB := H9.out.trans ((hbA.trans (hbB.mono hbA.size)).mono H9.out.size)
          have hkoB := hko.below hbB
          have HW : Hid (∀ W, Below VB.heap.size VB W → Below V8.heap.size V8 W) := fun W hW => hb8B.trans (hW.mono hb8B.size)
          have HS : Hid (∀ W, Below VB.heap.size VB W → (W.cell? ⟨ub, 0, none⟩ = some (.int .i64 r1) ∧ W.cell? ⟨ub, 1, none⟩ = some (.int .i64 r2) ∧ W.cell? ⟨ub, 2, none⟩ = some (.slice ua un uc) ∧ W.cell? ⟨ub, 3, none⟩ = some (.string r4)) ∧ (W.cell? ⟨tb, 0, none⟩ = some (.int .i64 t1) ∧ W.cell? ⟨tb, 1, none⟩ = some (.int .i64 t2) ∧ W.cell? ⟨tb, 2, none⟩ = some (.slice ta tn tc) ∧ W.cell? ⟨tb, 3, none⟩ = some (.string t4)) ∧ (W.cell? ⟨ob, 0, none⟩ = some (.int .i64 2) ∧ W.cell? ⟨ob, 1, none⟩ = some (.int .i64 7) ∧ W.cell? ⟨ob, 2, none⟩ = some (.slice oa on oc) ∧ W.cell? ⟨ob, 3, none⟩ = some (.string oz))) := fun W hW => by
            obtain ⟨e0, e1, e2, e3, _⟩ := row4 ((hW.block ob (lt_of_some rB)).trans rB)
            have h8 := HU.out W (HW.out W hW)
            exact ⟨h8.1, (HT.out W h8.2.2).1, ⟨e0, e1, e2, e3⟩⟩
          have HLU : Hid (∀ W, Below VB.heap.size VB W → Calls Tryd.prog 21 #[.agg #[.int .i64 r1, .int .i64 r2, .slice ua un uc, .string r4], .int .i64 x2, .string s2, .int .i64 y2] W fun e w' => e = .returned (.bool (lt && lo)) ∧ Below W.heap.size W w') := fun W hW => HLU0.out W ua un uc (HU.out W (HW.out W hW)).2.1
          have HLT : Hid (∀ W, Below VB.heap.size VB W → Calls Tryd.prog 21 #[.agg #[.int .i64 t1, .int .i64 t2, .slice ta tn tc, .string t4], .int .i64 x2, .string s2, .int .i64 y2] W fun e w' => e = .returned (.bool lt) ∧ Below W.heap.size W w') := fun W hW => HLT0.out W ta tn tc (HT.out W (HU.out W (HW.out W hW)).2.2).2.1
          have HLO : Hid (∀ W, Below VB.heap.size VB W → Calls Tryd.prog 21 #[.agg #[.int .i64 2, .int .i64 7, .slice oa on oc, .string oz], .int .i64 x2, .string s2, .int .i64 y2] W fun e w' => e = .returned (.bool lo) ∧ Below W.heap.size W w') := fun W hW => HLO0.out W oa on oc (hkoB.below hW)
          have HBB0 : ∀ W, Below VB.heap.size VB W → Below w.heap.size w W := fun W hW => (HK.out W (HT.out W (HU.out W (HW.out W hW)).2.2).2.2).2.2
          have HCK : Hid (∀ W, Below VB.heap.size VB W → Calls Tryd.prog 24 #[.string ⟨#[115]⟩, .agg #[.int .i64 r1, .int .i64 r2, .slice ua un uc, .string r4]] W fun e w' => e = .returned (.bool true) ∧ Below W.heap.size W w') := fun W hW => HCK0.out W ua un uc (HU.out W (HW.out W hW)).2.1 (HLW.out.below (HBB0 W hW))
          have HBB : Hid (Below w.heap.size w VB) := HBB0 VB (Below.refl _ _)
          clear d0 d1 d2
          obtain ⟨_, ⟨a0', a1'⟩, _⟩ := HK.out VB (HT.out VB (HU.out VB (HW.out VB (Below.refl _ _))).2.2).2.2
          clear HM9 hko hbA rB hbB hb8B hkoB HBB0 HLU0 HLT0 HLO0 HCK0
          cases lt with
          | true =>
            have hll : (true && lo) = lo := rfl
            have hdd : (lo == lo) = true := by simp
            rw [hll] at HLU
            clear hll
            go_wp2
            go_quiet (fail)
            clear a0' a1'
            go_wp2
            refine wp_region_held_drew (S := fun W => (W.cell? ⟨ub, 0, none⟩ = some (.int .i64 r1) ∧ W.cell? ⟨ub, 1, none⟩ = some (.int .i64 r2) ∧ W.cell? ⟨ub, 2, none⟩ = some (.slice ua un uc) ∧ W.cell? ⟨ub, 3, none⟩ = some (.string r4)) ∧ (W.cell? ⟨tb, 0, none⟩ = some (.int .i64 t1) ∧ W.cell? ⟨tb, 1, none⟩ = some (.int .i64 t2) ∧ W.cell? ⟨tb, 2, none⟩ = some (.slice ta tn tc) ∧ W.cell? ⟨tb, 3, none⟩ = some (.string t4)) ∧ (W.cell? ⟨ob, 0, none⟩ = some (.int .i64 2) ∧ W.cell? ⟨ob, 1, none⟩ = some (.int .i64 7) ∧ W.cell? ⟨ob, 2, none⟩ = some (.slice oa on oc) ∧ W.cell? ⟨ob, 3, none⟩ = some (.string oz))) (by kernel_rfl) (HS.out (VB.drewN _).drew (below_drewK (Below.refl _ VB) _).drew) (fun hHeld => ?_)
            refine wpAnyH_take (i := 0) (v := ?va_0) rfl (by kernel_rfl) (by kernel_rfl) (by kernel_rfl) (fun _ _ _ h => h) (Or.inl ⟨by first | kernel_rfl | rfl, ?ya_0⟩) hHeld ?ra_0
            case ya_0 => (intro W hSW; (try dsimp only at hSW); go_simp; (try with_reducible rfl))
            change wpAnyH _ _ _ _ _ _ _ (Act.put _ (some 67) _) _
            simp only [Act.put, List.setIfInBounds_toArray, List.set_cons_zero, List.set_cons_succ]
            refine wpAnyH_take (i := 1) (v := ?va_1) rfl (by kernel_rfl) (by kernel_rfl) (by kernel_rfl) (fun _ _ _ h => h) (Or.inl ⟨by first | kernel_rfl | rfl, ?ya_1⟩) hHeld ?ra_1
            case ya_1 => (intro W hSW; (try dsimp only at hSW); go_simp; (try with_reducible rfl))
            change wpAnyH _ _ _ _ _ _ _ (Act.put _ (some 68) _) _
            simp only [Act.put, List.setIfInBounds_toArray, List.set_cons_zero, List.set_cons_succ]
            refine wpAnyH_take (i := 2) (v := ?va_2) rfl (by kernel_rfl) (by kernel_rfl) (by kernel_rfl) (fun _ _ _ h => h) (Or.inl ⟨by first | kernel_rfl | rfl, ?ya_2⟩) hHeld ?ra_2
            case ya_2 => (intro W hSW; (try dsimp only at hSW); go_simp; (try with_reducible rfl))
            change wpAnyH _ _ _ _ _ _ _ (Act.put _ (some 69) _) _
            simp only [Act.put, List.setIfInBounds_toArray, List.set_cons_zero, List.set_cons_succ]
            refine wpAnyH_take (i := 3) (v := ?va_3) rfl (by kernel_rfl) (by kernel_rfl) (by kernel_rfl) (fun _ _ _ h => h) (Or.inl ⟨by first | kernel_rfl | rfl, ?ya_3⟩) hHeld ?ra_3
            case ya_3 => (intro W hSW; (try dsimp only at hSW); go_simp; (try with_reducible rfl))
            change wpAnyH _ _ _ _ _ _ _ (Act.put _ (some 70) _) _
            simp only [Act.put, List.setIfInBounds_toArray, List.set_cons_zero, List.set_cons_succ]
            refine wpAnyH_take (i := 4) (v := ?va_4) rfl (by kernel_rfl) (by kernel_rfl) (by kernel_rfl) (fun _ _ _ h => h) (Or.inl ⟨by first | kernel_rfl | rfl, ?ya_4⟩) hHeld ?ra_4
            case ya_4 => (intro W hSW; (try dsimp only at hSW); go_simp; (try with_reducible rfl))
            change wpAnyH _ _ _ _ _ _ _ (Act.put _ (some 71) _) _
            simp only [Act.put, List.setIfInBounds_toArray, List.set_cons_zero, List.set_cons_succ]
            refine wpAnyH_take (i := 5) (v := ?va_5) rfl (by kernel_rfl) (by kernel_rfl) (by kernel_rfl) (fun _ _ _ h => h) (Or.inl ⟨by first | kernel_rfl | rfl, ?ya_5⟩) hHeld ?ra_5
            case ya_5 => (intro W hSW; (try dsimp only at hSW); go_simp; (try with_reducible rfl))
            change wpAnyH _ _ _ _ _ _ _ (Act.put _ (some 72) _) _
            simp only [Act.put, List.setIfInBounds_toArray, List.set_cons_zero, List.set_cons_succ]
            refine wpAnyH_take (i := 7) (v := ?va_7) rfl (by kernel_rfl) (by kernel_rfl) (by kernel_rfl) (fun _ _ _ h => h) (Or.inl ⟨by first | kernel_rfl | rfl, ?ya_7⟩) hHeld ?ra_7
            case ya_7 => (intro W hSW; (try dsimp only at hSW); go_simp; (try with_reducible rfl))
            change wpAnyH _ _ _ _ _ _ _ (Act.put _ (some 74) _) _
            simp only [Act.put, List.setIfInBounds_toArray, List.set_cons_zero, List.set_cons_succ]
            refine wpAnyH_take (i := 8) (v := ?va_8) rfl (by kernel_rfl) (by kernel_rfl) (by kernel_rfl) (fun _ _ _ h => h) (Or.inl ⟨by first | kernel_rfl | rfl, ?ya_8⟩) hHeld ?ra_8
            case ya_8 => (intro W hSW; (try dsimp only at hSW); go_simp; (try with_reducible rfl))
            change wpAnyH _ _ _ _ _ _ _ (Act.put _ (some 75) _) _
            simp only [Act.put, List.setIfInBounds_toArray, List.set_cons_zero, List.set_cons_succ]
            refine wpAnyH_take (i := 9) (v := ?va_9) rfl (by kernel_rfl) (by kernel_rfl) (by kernel_rfl) (fun _ _ _ h => h) (Or.inl ⟨by first | kernel_rfl | rfl, ?ya_9⟩) hHeld ?ra_9
            case ya_9 => (intro W hSW; (try dsimp only at hSW); go_simp; (try with_reducible rfl))
            change wpAnyH _ _ _ _ _ _ _ (Act.put _ (some 76) _) _
            simp only [Act.put, List.setIfInBounds_toArray, List.set_cons_zero, List.set_cons_succ]
            refine wpAnyH_take (i := 10) (v := ?va_10) rfl (by kernel_rfl) (by kernel_rfl) (by kernel_rfl) (fun _ _ _ h => h) (Or.inl ⟨by first | kernel_rfl | rfl, ?ya_10⟩) hHeld ?ra_10
            case ya_10 => (intro W hSW; (try dsimp only at hSW); go_simp; (try with_reducible rfl))
            change wpAnyH _ _ _ _ _ _ _ (Act.put _ (some 77) _) _
            simp only [Act.put, List.setIfInBounds_toArray, List.set_cons_zero, List.set_cons_succ]
            refine wpAnyH_ready (rs := [6]) (by kernel_rfl) (by simp) ?_
            refine AllReadyH.cons rfl (fun K hK => ?_) AllReadyH.nil
            go_simp
            refine (HLU.out (VB.drewN _).drew ((below_drewK (Below.refl _ VB) _).drew)).mono ?_
            rintro e VC ⟨rfl, hbC⟩
            refine hK.out _ _ (HS.out VC ((below_drewK (Below.refl _ VB) _).drew.trans hbC)) (fun hHeld => ?_)
            clear hK K
            try simp only [Act.put, List.setIfInBounds_toArray, List.set_cons_zero, List.set_cons_succ]
            have HC : Hid (Below VB.heap.size VB VC) := (below_drewK (Below.refl _ VB) _).drew.trans hbC
            clear hbC
            refine wpAnyH_ready (rs := [11]) (by kernel_rfl) (by simp) ?_
            refine AllReadyH.cons rfl (fun K hK => ?_) AllReadyH.nil
            go_simp
            refine (HLT.out VC HC.out).mono ?_
            rintro e VD ⟨rfl, hbD⟩
            refine hK.out _ _ (HS.out VD (HC.out.trans (hbD.mono HC.out.size))) (fun hHeld => ?_)
            clear hK K
            try simp only [Act.put, List.setIfInBounds_toArray, List.set_cons_zero, List.set_cons_succ]
            have HD : Hid (Below VB.heap.size VB VD) := HC.out.trans (hbD.mono HC.out.size)
            clear hbD
            refine wpAnyH_take (i := 12) (v := ?va_12) rfl (by kernel_rfl) (by kernel_rfl) (by kernel_rfl) (fun _ _ _ h => h) (Or.inl ⟨by first | kernel_rfl | rfl, ?ya_12⟩) hHeld ?ra_12
            case ya_12 => (intro W hSW; (try dsimp only at hSW); go_simp; (try with_reducible rfl))
            change wpAnyH _ _ _ _ _ _ _ (Act.put _ (some 79) _) _
            simp only [Act.put, List.setIfInBounds_toArray, List.set_cons_zero, List.set_cons_succ]
            refine wpAnyH_take (i := 13) (v := ?va_13) rfl (by kernel_rfl) (by kernel_rfl) (by kernel_rfl) (fun _ _ _ h => h) (Or.inl ⟨by first | kernel_rfl | rfl, ?ya_13⟩) hHeld ?ra_13
            case ya_13 => (intro W hSW; (try dsimp only at hSW); go_simp; (try with_reducible rfl))
            change wpAnyH _ _ _ _ _ _ _ (Act.put _ (some 80) _) _
            simp only [Act.put, List.setIfInBounds_toArray, List.set_cons_zero, List.set_cons_succ]
            refine wpAnyH_take (i := 14) (v := ?va_14) rfl (by kernel_rfl) (by kernel_rfl) (by kernel_rfl) (fun _ _ _ h => h) (Or.inl ⟨by first | kernel_rfl | rfl, ?ya_14⟩) hHeld ?ra_14
            case ya_14 => (intro W hSW; (try dsimp only at hSW); go_simp; (try with_reducible rfl))
            change wpAnyH _ _ _ _ _ _ _ (Act.put _ (some 81) _) _
            simp only [Act.put, List.setIfInBounds_toArray, List.set_cons_zero, List.set_cons_succ]
            refine wpAnyH_take (i := 15) (v := ?va_15) rfl (by kernel_rfl) (by kernel_rfl) (by kernel_rfl) (fun _ _ _ h => h) (Or.inl ⟨by first | kernel_rfl | rfl, ?ya_15⟩) hHeld ?ra_15
            case ya_15 => (intro W hSW; (try dsimp only at hSW); go_simp; (try with_reducible rfl))
            change wpAnyH _ _ _ _ _ _ _ (Act.put _ (some 82) _) _
            simp only [Act.put, List.setIfInBounds_toArray, List.set_cons_zero, List.set_cons_succ]
            refine wpAnyH_take (i := 16) (v := ?va_16) rfl (by kernel_rfl) (by kernel_rfl) (by kernel_rfl) (fun _ _ _ h => h) (Or.inl ⟨by first | kernel_rfl | rfl, ?ya_16⟩) hHeld ?ra_16
            case ya_16 => (intro W hSW; (try dsimp only at hSW); go_simp; (try with_reducible rfl))
            change wpAnyH _ _ _ _ _ _ _ (Act.put _ (some 83) _) _
            simp only [Act.put, List.setIfInBounds_toArray, List.set_cons_zero, List.set_cons_succ]
            refine wpAnyH_ready (rs := [17]) (by kernel_rfl) (by simp) ?_
            refine AllReadyH.cons rfl (fun K hK => ?_) AllReadyH.nil
            go_simp
            refine (HLO.out VD HD.out).mono ?_
            rintro e VE ⟨rfl, hbE⟩
            refine hK.out _ _ (HS.out VE (HD.out.trans (hbE.mono HD.out.size))) (fun hHeld => ?_)
            clear hK K
            try simp only [Act.put, List.setIfInBounds_toArray, List.set_cons_zero, List.set_cons_succ]
            have HEE : Hid (Below VB.heap.size VB VE) := HD.out.trans (hbE.mono HD.out.size)
            clear hbE
            refine wpAnyH_take (i := 18) (v := ?va_18) rfl (by kernel_rfl) (by kernel_rfl) (by kernel_rfl) (fun _ _ _ h => h) (Or.inl ⟨by first | kernel_rfl | rfl, ?ya_18⟩) hHeld ?ra_18
            case ya_18 => (intro W hSW; (try dsimp only at hSW); go_simp; (try with_reducible rfl))
            change wpAnyH _ _ _ _ _ _ _ (Act.put _ (some 85) _) _
            simp only [Act.put, List.setIfInBounds_toArray, List.set_cons_zero, List.set_cons_succ]
            refine wpAnyH_take (i := 19) (v := ?va_19) rfl (by kernel_rfl) (by kernel_rfl) (by kernel_rfl) (fun _ _ _ h => h) (Or.inl ⟨by first | kernel_rfl | rfl, ?ya_19⟩) hHeld ?ra_19
            case ya_19 => (intro W hSW; (try dsimp only at hSW); go_simp; (try with_reducible rfl))
            change wpAnyH _ _ _ _ _ _ _ (Act.put _ (some 86) _) _
            simp only [Act.put, List.setIfInBounds_toArray, List.set_cons_zero, List.set_cons_succ]
            refine wpAnyH_take (i := 20) (v := ?va_20) rfl (by kernel_rfl) (by kernel_rfl) (by kernel_rfl) (fun _ _ _ h => h) (Or.inl ⟨by first | kernel_rfl | rfl, ?ya_20⟩) hHeld ?ra_20
            case ya_20 => (intro W hSW; (try dsimp only at hSW); go_simp; (try with_reducible rfl))
            change wpAnyH _ _ _ _ _ _ _ (Act.put _ (some 87) _) _
            simp only [Act.put, List.setIfInBounds_toArray, List.set_cons_zero, List.set_cons_succ]
            refine wpAnyH_take (i := 21) (v := ?va_21) rfl (by kernel_rfl) (by kernel_rfl) (by kernel_rfl) (fun _ _ _ h => h) (Or.inl ⟨by first | kernel_rfl | rfl, ?ya_21⟩) hHeld ?ra_21
            case ya_21 => (intro W hSW; (try dsimp only at hSW); go_simp; (try with_reducible rfl))
            change wpAnyH _ _ _ _ _ _ _ (Act.put _ (some 88) _) _
            simp only [Act.put, List.setIfInBounds_toArray, List.set_cons_zero, List.set_cons_succ]
            refine wpAnyH_take (i := 22) (v := ?va_22) rfl (by kernel_rfl) (by kernel_rfl) (by kernel_rfl) (fun _ _ _ h => h) (Or.inl ⟨by first | kernel_rfl | rfl, ?ya_22⟩) hHeld ?ra_22
            case ya_22 => (intro W hSW; (try dsimp only at hSW); go_simp; (try with_reducible rfl))
            change wpAnyH _ _ _ _ _ _ _ (Act.put _ (some 89) _) _
            simp only [Act.put, List.setIfInBounds_toArray, List.set_cons_zero, List.set_cons_succ]
            refine wpAnyH_ready (rs := [23]) (by kernel_rfl) (by simp) ?_
            refine AllReadyH.cons rfl (fun K hK => ?_) AllReadyH.nil
            go_simp
            refine (HCK.out VE HEE.out).mono ?_
            rintro e VF ⟨rfl, hbF⟩
            refine hK.out _ _ (HS.out VF (HEE.out.trans (hbF.mono HEE.out.size))) (fun hHeld => ?_)
            clear hK K
            try simp only [Act.put, List.setIfInBounds_toArray, List.set_cons_zero, List.set_cons_succ]
            have HF : Hid (Below VB.heap.size VB VF) := HEE.out.trans (hbF.mono HEE.out.size)
            clear hbF
            refine wpAnyH_take (i := 24) (v := ?va_24) rfl (by kernel_rfl) (by kernel_rfl) (by kernel_rfl) (fun _ _ _ h => h) (Or.inl ⟨by first | kernel_rfl | rfl, ?ya_24⟩) hHeld ?ra_24
            case ya_24 => (intro W hSW; (try dsimp only at hSW); go_simp; (try with_reducible rfl))
            change wpAnyH _ _ _ _ _ _ _ (Act.put _ (some 91) _) _
            simp only [Act.put, List.setIfInBounds_toArray, List.set_cons_zero, List.set_cons_succ]
            refine wpAnyH_take (i := 25) (v := ?va_25) rfl (by kernel_rfl) (by kernel_rfl) (by kernel_rfl) (fun _ _ _ h => h) (Or.inl ⟨by first | kernel_rfl | rfl, ?ya_25⟩) hHeld ?ra_25
            case ya_25 => (intro W hSW; (try dsimp only at hSW); go_simp; (try with_reducible rfl))
            change wpAnyH _ _ _ _ _ _ _ (Act.put _ (some 92) _) _
            simp only [Act.put, List.setIfInBounds_toArray, List.set_cons_zero, List.set_cons_succ]
            refine wpAnyH_ready (rs := [26]) (by kernel_rfl) (by simp) ?_
            refine AllReadyH.cons rfl (fun K hK => ?_) AllReadyH.nil
            go_simp
            refine (HLV2.out VF (HBB.out.trans (HF.out.mono HBB.out.size))).mono ?_
            rintro e VG ⟨rfl, hbG⟩
            refine hK.out _ _ (HS.out VG (HF.out.trans (hbG.mono HF.out.size))) (fun hHeld => ?_)
            clear hK K
            try simp only [Act.put, List.setIfInBounds_toArray, List.set_cons_zero, List.set_cons_succ]
            have HG : Hid (Below w.heap.size w VG) := HBB.out.trans ((HF.out.trans (hbG.mono HF.out.size)).mono HBB.out.size)
            clear hbG
            refine wpAnyH_take (i := 27) (v := ?va_27) rfl (by kernel_rfl) (by kernel_rfl) (by kernel_rfl) (fun _ _ _ h => h) (Or.inl ⟨by first | kernel_rfl | rfl, ?ya_27⟩) hHeld ?ra_27
            case ya_27 => (intro W hSW; (try dsimp only at hSW); go_simp; (try with_reducible rfl))
            change wpAnyH _ _ _ _ _ _ _ (Act.put _ (some 94) _) _
            simp only [Act.put, List.setIfInBounds_toArray, List.set_cons_zero, List.set_cons_succ]
            refine wpAnyH_take (i := 28) (v := ?va_28) rfl (by kernel_rfl) (by kernel_rfl) (by kernel_rfl) (fun _ _ _ h => h) (Or.inl ⟨by first | kernel_rfl | rfl, ?ya_28⟩) hHeld ?ra_28
            case ya_28 => (intro W hSW; (try dsimp only at hSW); go_simp; (try with_reducible rfl))
            change wpAnyH _ _ _ _ _ _ _ (Act.put _ (some 6) _) _
            simp only [Act.put, List.setIfInBounds_toArray, List.set_cons_zero, List.set_cons_succ]
            refine wpAnyH_done (by kernel_rfl) ?_ _
            go_wp2
            go_ret
            exact ⟨rfl, HG.out⟩
          | false =>
            have hll : (false && lo) = false := rfl
            rw [hll] at HLU
            clear hll
            go_wp2
            go_quiet (fail)
            clear a0' a1'
            go_wp2
            refine wp_region_held_drew (S := fun W => (W.cell? ⟨ub, 0, none⟩ = some (.int .i64 r1) ∧ W.cell? ⟨ub, 1, none⟩ = some (.int .i64 r2) ∧ W.cell? ⟨ub, 2, none⟩ = some (.slice ua un uc) ∧ W.cell? ⟨ub, 3, none⟩ = some (.string r4)) ∧ (W.cell? ⟨tb, 0, none⟩ = some (.int .i64 t1) ∧ W.cell? ⟨tb, 1, none⟩ = some (.int .i64 t2) ∧ W.cell? ⟨tb, 2, none⟩ = some (.slice ta tn tc) ∧ W.cell? ⟨tb, 3, none⟩ = some (.string t4)) ∧ (W.cell? ⟨ob, 0, none⟩ = some (.int .i64 2) ∧ W.cell? ⟨ob, 1, none⟩ = some (.int .i64 7) ∧ W.cell? ⟨ob, 2, none⟩ = some (.slice oa on oc) ∧ W.cell? ⟨ob, 3, none⟩ = some (.string oz))) (by kernel_rfl) (HS.out (VB.drewN _).drew (below_drewK (Below.refl _ VB) _).drew) (fun hHeld => ?_)
            refine wpAnyH_take (i := 0) (v := ?vb_0) rfl (by kernel_rfl) (by kernel_rfl) (by kernel_rfl) (fun _ _ _ h => h) (Or.inl ⟨by first | kernel_rfl | rfl, ?yb_0⟩) hHeld ?rb_0
            case yb_0 => (intro W hSW; (try dsimp only at hSW); go_simp; (try with_reducible rfl))
            change wpAnyH _ _ _ _ _ _ _ (Act.put _ (some 67) _) _
            simp only [Act.put, List.setIfInBounds_toArray, List.set_cons_zero, List.set_cons_succ]
            refine wpAnyH_take (i := 1) (v := ?vb_1) rfl (by kernel_rfl) (by kernel_rfl) (by kernel_rfl) (fun _ _ _ h => h) (Or.inl ⟨by first | kernel_rfl | rfl, ?yb_1⟩) hHeld ?rb_1
            case yb_1 => (intro W hSW; (try dsimp only at hSW); go_simp; (try with_reducible rfl))
            change wpAnyH _ _ _ _ _ _ _ (Act.put _ (some 68) _) _
            simp only [Act.put, List.setIfInBounds_toArray, List.set_cons_zero, List.set_cons_succ]
            refine wpAnyH_take (i := 2) (v := ?vb_2) rfl (by kernel_rfl) (by kernel_rfl) (by kernel_rfl) (fun _ _ _ h => h) (Or.inl ⟨by first | kernel_rfl | rfl, ?yb_2⟩) hHeld ?rb_2
            case yb_2 => (intro W hSW; (try dsimp only at hSW); go_simp; (try with_reducible rfl))
            change wpAnyH _ _ _ _ _ _ _ (Act.put _ (some 69) _) _
            simp only [Act.put, List.setIfInBounds_toArray, List.set_cons_zero, List.set_cons_succ]
            refine wpAnyH_take (i := 3) (v := ?vb_3) rfl (by kernel_rfl) (by kernel_rfl) (by kernel_rfl) (fun _ _ _ h => h) (Or.inl ⟨by first | kernel_rfl | rfl, ?yb_3⟩) hHeld ?rb_3
            case yb_3 => (intro W hSW; (try dsimp only at hSW); go_simp; (try with_reducible rfl))
            change wpAnyH _ _ _ _ _ _ _ (Act.put _ (some 70) _) _
            simp only [Act.put, List.setIfInBounds_toArray, List.set_cons_zero, List.set_cons_succ]
            refine wpAnyH_take (i := 4) (v := ?vb_4) rfl (by kernel_rfl) (by kernel_rfl) (by kernel_rfl) (fun _ _ _ h => h) (Or.inl ⟨by first | kernel_rfl | rfl, ?yb_4⟩) hHeld ?rb_4
            case yb_4 => (intro W hSW; (try dsimp only at hSW); go_simp; (try with_reducible rfl))
            change wpAnyH _ _ _ _ _ _ _ (Act.put _ (some 71) _) _
            simp only [Act.put, List.setIfInBounds_toArray, List.set_cons_zero, List.set_cons_succ]
            refine wpAnyH_take (i := 5) (v := ?vb_5) rfl (by kernel_rfl) (by kernel_rfl) (by kernel_rfl) (fun _ _ _ h => h) (Or.inl ⟨by first | kernel_rfl | rfl, ?yb_5⟩) hHeld ?rb_5
            case yb_5 => (intro W hSW; (try dsimp only at hSW); go_simp; (try with_reducible rfl))
            change wpAnyH _ _ _ _ _ _ _ (Act.put _ (some 72) _) _
            simp only [Act.put, List.setIfInBounds_toArray, List.set_cons_zero, List.set_cons_succ]
            refine wpAnyH_take (i := 7) (v := ?vb_7) rfl (by kernel_rfl) (by kernel_rfl) (by kernel_rfl) (fun _ _ _ h => h) (Or.inl ⟨by first | kernel_rfl | rfl, ?yb_7⟩) hHeld ?rb_7
            case yb_7 => (intro W hSW; (try dsimp only at hSW); go_simp; (try with_reducible rfl))
            change wpAnyH _ _ _ _ _ _ _ (Act.put _ (some 74) _) _
            simp only [Act.put, List.setIfInBounds_toArray, List.set_cons_zero, List.set_cons_succ]
            refine wpAnyH_take (i := 8) (v := ?vb_8) rfl (by kernel_rfl) (by kernel_rfl) (by kernel_rfl) (fun _ _ _ h => h) (Or.inl ⟨by first | kernel_rfl | rfl, ?yb_8⟩) hHeld ?rb_8
            case yb_8 => (intro W hSW; (try dsimp only at hSW); go_simp; (try with_reducible rfl))
            change wpAnyH _ _ _ _ _ _ _ (Act.put _ (some 75) _) _
            simp only [Act.put, List.setIfInBounds_toArray, List.set_cons_zero, List.set_cons_succ]
            refine wpAnyH_take (i := 9) (v := ?vb_9) rfl (by kernel_rfl) (by kernel_rfl) (by kernel_rfl) (fun _ _ _ h => h) (Or.inl ⟨by first | kernel_rfl | rfl, ?yb_9⟩) hHeld ?rb_9
            case yb_9 => (intro W hSW; (try dsimp only at hSW); go_simp; (try with_reducible rfl))
            change wpAnyH _ _ _ _ _ _ _ (Act.put _ (some 76) _) _
            simp only [Act.put, List.setIfInBounds_toArray, List.set_cons_zero, List.set_cons_succ]
            refine wpAnyH_take (i := 10) (v := ?vb_10) rfl (by kernel_rfl) (by kernel_rfl) (by kernel_rfl) (fun _ _ _ h => h) (Or.inl ⟨by first | kernel_rfl | rfl, ?yb_10⟩) hHeld ?rb_10
            case yb_10 => (intro W hSW; (try dsimp only at hSW); go_simp; (try with_reducible rfl))
            change wpAnyH _ _ _ _ _ _ _ (Act.put _ (some 77) _) _
            simp only [Act.put, List.setIfInBounds_toArray, List.set_cons_zero, List.set_cons_succ]
            refine wpAnyH_ready (rs := [6]) (by kernel_rfl) (by simp) ?_
            refine AllReadyH.cons rfl (fun K hK => ?_) AllReadyH.nil
            go_simp
            refine (HLU.out (VB.drewN _).drew ((below_drewK (Below.refl _ VB) _).drew)).mono ?_
            rintro e VC ⟨rfl, hbC⟩
            refine hK.out _ _ (HS.out VC ((below_drewK (Below.refl _ VB) _).drew.trans hbC)) (fun hHeld => ?_)
            clear hK K
            try simp only [Act.put, List.setIfInBounds_toArray, List.set_cons_zero, List.set_cons_succ]
            have HC : Hid (Below VB.heap.size VB VC) := (below_drewK (Below.refl _ VB) _).drew.trans hbC
            clear hbC
            refine wpAnyH_ready (rs := [11]) (by kernel_rfl) (by simp) ?_
            refine AllReadyH.cons rfl (fun K hK => ?_) AllReadyH.nil
            go_simp
            refine (HLT.out VC HC.out).mono ?_
            rintro e VD ⟨rfl, hbD⟩
            refine hK.out _ _ (HS.out VD (HC.out.trans (hbD.mono HC.out.size))) (fun hHeld => ?_)
            clear hK K
            try simp only [Act.put, List.setIfInBounds_toArray, List.set_cons_zero, List.set_cons_succ]
            have HD : Hid (Below VB.heap.size VB VD) := HC.out.trans (hbD.mono HC.out.size)
            clear hbD
            refine wpAnyH_take (i := 12) (v := ?vb_12) rfl (by kernel_rfl) (by kernel_rfl) (by kernel_rfl) (fun _ _ _ h => h) (Or.inl ⟨by first | kernel_rfl | rfl, ?yb_12⟩) hHeld ?rb_12
            case yb_12 => (intro W hSW; (try dsimp only at hSW); go_simp; (try with_reducible rfl))
            change wpAnyH _ _ _ _ _ _ _ (Act.put _ (some 79) _) _
            simp only [Act.put, List.setIfInBounds_toArray, List.set_cons_zero, List.set_cons_succ]
            refine wpAnyH_take (i := 13) (v := undef) rfl (by kernel_rfl) (by kernel_rfl) (by kernel_rfl) (fun _ _ _ h => h) (Or.inr ⟨by first | kernel_rfl | rfl, rfl⟩) hHeld ?_
            change wpAnyH _ _ _ _ _ _ _ (Act.put _ (some 80) _) _
            simp only [Act.put, List.setIfInBounds_toArray, List.set_cons_zero, List.set_cons_succ]
            refine wpAnyH_take (i := 14) (v := undef) rfl (by kernel_rfl) (by kernel_rfl) (by kernel_rfl) (fun _ _ _ h => h) (Or.inr ⟨by first | kernel_rfl | rfl, rfl⟩) hHeld ?_
            change wpAnyH _ _ _ _ _ _ _ (Act.put _ (some 81) _) _
            simp only [Act.put, List.setIfInBounds_toArray, List.set_cons_zero, List.set_cons_succ]
            refine wpAnyH_take (i := 15) (v := undef) rfl (by kernel_rfl) (by kernel_rfl) (by kernel_rfl) (fun _ _ _ h => h) (Or.inr ⟨by first | kernel_rfl | rfl, rfl⟩) hHeld ?_
            change wpAnyH _ _ _ _ _ _ _ (Act.put _ (some 82) _) _
            simp only [Act.put, List.setIfInBounds_toArray, List.set_cons_zero, List.set_cons_succ]
            refine wpAnyH_take (i := 16) (v := undef) rfl (by kernel_rfl) (by kernel_rfl) (by kernel_rfl) (fun _ _ _ h => h) (Or.inr ⟨by first | kernel_rfl | rfl, rfl⟩) hHeld ?_
            change wpAnyH _ _ _ _ _ _ _ (Act.put _ (some 83) _) _
            simp only [Act.put, List.setIfInBounds_toArray, List.set_cons_zero, List.set_cons_succ]
            refine wpAnyH_take (i := 17) (v := undef) rfl (by kernel_rfl) (by kernel_rfl) (by kernel_rfl) (fun _ _ _ h => h) (Or.inr ⟨by first | kernel_rfl | rfl, rfl⟩) hHeld ?_
            change wpAnyH _ _ _ _ _ _ _ (Act.put _ (some 84) _) _
            simp only [Act.put, List.setIfInBounds_toArray, List.set_cons_zero, List.set_cons_succ]
            refine wpAnyH_take (i := 18) (v := ?vb_18) rfl (by kernel_rfl) (by kernel_rfl) (by kernel_rfl) (fun _ _ _ h => h) (Or.inl ⟨by first | kernel_rfl | rfl, ?yb_18⟩) hHeld ?rb_18
            case yb_18 => (intro W hSW; (try dsimp only at hSW); go_simp; (try with_reducible rfl))
            change wpAnyH _ _ _ _ _ _ _ (Act.put _ (some 85) _) _
            simp only [Act.put, List.setIfInBounds_toArray, List.set_cons_zero, List.set_cons_succ]
            refine wpAnyH_take (i := 19) (v := ?vb_19) rfl (by kernel_rfl) (by kernel_rfl) (by kernel_rfl) (fun _ _ _ h => h) (Or.inl ⟨by first | kernel_rfl | rfl, ?yb_19⟩) hHeld ?rb_19
            case yb_19 => (intro W hSW; (try dsimp only at hSW); go_simp; (try with_reducible rfl))
            change wpAnyH _ _ _ _ _ _ _ (Act.put _ (some 86) _) _
            simp only [Act.put, List.setIfInBounds_toArray, List.set_cons_zero, List.set_cons_succ]
            refine wpAnyH_take (i := 20) (v := ?vb_20) rfl (by kernel_rfl) (by kernel_rfl) (by kernel_rfl) (fun _ _ _ h => h) (Or.inl ⟨by first | kernel_rfl | rfl, ?yb_20⟩) hHeld ?rb_20
            case yb_20 => (intro W hSW; (try dsimp only at hSW); go_simp; (try with_reducible rfl))
            change wpAnyH _ _ _ _ _ _ _ (Act.put _ (some 87) _) _
            simp only [Act.put, List.setIfInBounds_toArray, List.set_cons_zero, List.set_cons_succ]
            refine wpAnyH_take (i := 21) (v := ?vb_21) rfl (by kernel_rfl) (by kernel_rfl) (by kernel_rfl) (fun _ _ _ h => h) (Or.inl ⟨by first | kernel_rfl | rfl, ?yb_21⟩) hHeld ?rb_21
            case yb_21 => (intro W hSW; (try dsimp only at hSW); go_simp; (try with_reducible rfl))
            change wpAnyH _ _ _ _ _ _ _ (Act.put _ (some 88) _) _
            simp only [Act.put, List.setIfInBounds_toArray, List.set_cons_zero, List.set_cons_succ]
            refine wpAnyH_take (i := 22) (v := ?vb_22) rfl (by kernel_rfl) (by kernel_rfl) (by kernel_rfl) (fun _ _ _ h => h) (Or.inl ⟨by first | kernel_rfl | rfl, ?yb_22⟩) hHeld ?rb_22
            case yb_22 => (intro W hSW; (try dsimp only at hSW); go_simp; (try with_reducible rfl))
            change wpAnyH _ _ _ _ _ _ _ (Act.put _ (some 89) _) _
            simp only [Act.put, List.setIfInBounds_toArray, List.set_cons_zero, List.set_cons_succ]
            refine wpAnyH_ready (rs := [23]) (by kernel_rfl) (by simp) ?_
            refine AllReadyH.cons rfl (fun K hK => ?_) AllReadyH.nil
            go_simp
            refine (HCK.out VD HD.out).mono ?_
            rintro e VF ⟨rfl, hbF⟩
            refine hK.out _ _ (HS.out VF (HD.out.trans (hbF.mono HD.out.size))) (fun hHeld => ?_)
            clear hK K
            try simp only [Act.put, List.setIfInBounds_toArray, List.set_cons_zero, List.set_cons_succ]
            have HF : Hid (Below VB.heap.size VB VF) := HD.out.trans (hbF.mono HD.out.size)
            clear hbF
            refine wpAnyH_take (i := 24) (v := ?vb_24) rfl (by kernel_rfl) (by kernel_rfl) (by kernel_rfl) (fun _ _ _ h => h) (Or.inl ⟨by first | kernel_rfl | rfl, ?yb_24⟩) hHeld ?rb_24
            case yb_24 => (intro W hSW; (try dsimp only at hSW); go_simp; (try with_reducible rfl))
            change wpAnyH _ _ _ _ _ _ _ (Act.put _ (some 91) _) _
            simp only [Act.put, List.setIfInBounds_toArray, List.set_cons_zero, List.set_cons_succ]
            refine wpAnyH_take (i := 25) (v := ?vb_25) rfl (by kernel_rfl) (by kernel_rfl) (by kernel_rfl) (fun _ _ _ h => h) (Or.inl ⟨by first | kernel_rfl | rfl, ?yb_25⟩) hHeld ?rb_25
            case yb_25 => (intro W hSW; (try dsimp only at hSW); go_simp; (try with_reducible rfl))
            change wpAnyH _ _ _ _ _ _ _ (Act.put _ (some 92) _) _
            simp only [Act.put, List.setIfInBounds_toArray, List.set_cons_zero, List.set_cons_succ]
            refine wpAnyH_ready (rs := [26]) (by kernel_rfl) (by simp) ?_
            refine AllReadyH.cons rfl (fun K hK => ?_) AllReadyH.nil
            go_simp
            refine (HLV2.out VF (HBB.out.trans (HF.out.mono HBB.out.size))).mono ?_
            rintro e VG ⟨rfl, hbG⟩
            refine hK.out _ _ (HS.out VG (HF.out.trans (hbG.mono HF.out.size))) (fun hHeld => ?_)
            clear hK K
            try simp only [Act.put, List.setIfInBounds_toArray, List.set_cons_zero, List.set_cons_succ]
            have HG : Hid (Below w.heap.size w VG) := HBB.out.trans ((HF.out.trans (hbG.mono HF.out.size)).mono HBB.out.size)
            clear hbG
            refine wpAnyH_take (i := 27) (v := ?vb_27) rfl (by kernel_rfl) (by kernel_rfl) (by kernel_rfl) (fun _ _ _ h => h) (Or.inl ⟨by first | kernel_rfl | rfl, ?yb_27⟩) hHeld ?rb_27
            case yb_27 => (intro W hSW; (try dsimp only at hSW); go_simp; (try with_reducible rfl))
            change wpAnyH _ _ _ _ _ _ _ (Act.put _ (some 94) _) _
            simp only [Act.put, List.setIfInBounds_toArray, List.set_cons_zero, List.set_cons_succ]
            refine wpAnyH_take (i := 28) (v := ?vb_28) rfl (by kernel_rfl) (by kernel_rfl) (by kernel_rfl) (fun _ _ _ h => h) (Or.inl ⟨by first | kernel_rfl | rfl, ?yb_28⟩) hHeld ?rb_28
            case yb_28 => (intro W hSW; (try dsimp only at hSW); go_simp; (try with_reducible rfl))
            change wpAnyH _ _ _ _ _ _ _ (Act.put _ (some 6) _) _
            simp only [Act.put, List.setIfInBounds_toArray, List.set_cons_zero, List.set_cons_succ]
            refine wpAnyH_done (by kernel_rfl) ?_ _
            go_wp2
            go_ret
            exact ⟨rfl, HG.out⟩

set_option linter.unusedVariables false in
set_option maxRecDepth 100000 in
theorem lifted (os : Os) (started : os.Started) (H : Type) (enc : TypeId × Value → H) :
    ReturnsInHanded {} Tryd.checked os 8 .any (fun w args => (Rows.capLessSpec.pre enc Tryd.prog Tryd.f8 [] false w args ∧ laidMetH Tryd.prog laid2 w) ∧ sizedMet enc Tryd.prog Tryd.f8 (OpenSpec.ofChange Rows.capLessSpec) false w args) (Rows.capLessSpec.post enc Tryd.prog Tryd.f8 false true false false) := by
  refine returnsInHanded_of_change_and (C := Tryd.checked) (X := fun w _ => laidMetH Tryd.prog laid2 w) (fun _ _ _ hh h => h.of_heap hh) own started (by kernel_rfl) Tryd.func8
    (ChangeSpec.witness_shaped (enc := enc) (C := Tryd.checked) (os := os) (X := fun w _ => laidMetH Tryd.prog laid2 w) false (World.doorLaid Tryd.prog 19 os) #[.slice none 0 0, .agg #[.string ByteArray.empty, .int .i64 0, .int .i64 0], .agg #[.int .i64 0, .int .i64 0, .string ByteArray.empty]] 8 rfl (World.shaped_of_RefB (by kernel_rfl) (by kernel_rfl)) (by kernel_rfl) (by kernel_rfl) (by kernel_rfl) (door_met os _)) ?_
  intro W base args ds gs before hval0 hW _ hsz0 hL _
  have hval : ∀ (j : Nat) t v, Tryd.f8.params[j]? = some t → args[j]? = some v → Value.okWide Tryd.prog W .any base t v := hval0
  have hsz : (DataW.weightsEach Tryd.prog (Tryd.f8.params.toList ++ Rows.capLessSpec.plain.varTypes Tryd.prog) (ds ++ gs)).all (· ≤ reachBytes) = true := hsz0
  have hW' := hW
  obtain ⟨p, q, hA0, hV, rfl, hfz, hnd⟩ := hW
  have hA : DataW.TrodAll enc Tryd.prog W 0 (fun _ => true) true Tryd.f8.params.toList args.toList ds p := hA0
  rw [Tryd.params8] at hA hval hsz
  obtain ⟨v0, vs0, d0, ds0, p0, q0, hargs, rfl, rfl, h0, r0⟩ := trodAll_cons hA
  obtain ⟨v1, vs1, d1, ds1, p1, q1, rfl, rfl, rfl, h1, r1⟩ := trodAll_cons r0
  obtain ⟨v2, vs2, d2, ds2, p2, q2, rfl, rfl, rfl, h2, r2⟩ := trodAll_cons r1
  obtain ⟨rfl, rfl, rfl⟩ := trodAll_nil r2
  obtain rfl : args = #[v0, v1, v2] := by cases args; simp_all
  obtain ⟨rfl, rfl⟩ := trodVars_none hV
  have k0 := h0
  have lt0 : ∀ x ∈ p0, x.block < W.heap.size := by obtain ⟨m, hm⟩ := k0; exact DataW.trod_lt m _ _ _ hm
  obtain ⟨a0, len0, cap0, rfl⟩ := okWide_slice Tryd.underlying23 (hval 0 23 v0 rfl rfl)
  obtain ⟨l0, w0, c0⟩ : ∃ l, Kw W a0 len0 cap0 l ∧ ∀ c ∈ l, c.In := by
    obtain ⟨fuel, hf⟩ := h0
    exact cavs_arg (j := 0) (by simpa [Value.cells] using hf) hsz rfl rfl
  have k1 := h1
  have lt1 : ∀ x ∈ p1, x.block < W.heap.size := by obtain ⟨m, hm⟩ := k1; exact DataW.trod_lt m _ _ _ hm
  obtain ⟨c1, rfl, z1⟩ := cav_arg (j := 1) (hval 1 35 v1 rfl rfl) h1 hsz rfl rfl
  have k2 := h2
  have lt2 : ∀ x ∈ p2, x.block < W.heap.size := by obtain ⟨m, hm⟩ := k2; exact DataW.trod_lt m _ _ _ hm
  obtain ⟨x2, y2, s2, rfl, w2, u2, z2⟩ := ask_arg (j := 2) (hval 2 51 v2 rfl rfl) h2 hsz rfl rfl
  clear hA0 hval0 hsz hsz0
  refine (walk a0 len0 cap0 l0 c0 c1 z1 x2 y2 s2 w2 u2 z2 W w0 (of_laid hL)).mono fun e W' ⟨he, bel⟩ => ?_
  subst he
  exact ⟨_, rfl, _, _, _, [], _, [], hW', trodAll_mk1 (shut_bool Tryd.underlying4 _), (trodAll_cons_mk (Below.trod laidOut (by kernel_rfl) (of_decide_eq_true (by kernel_rfl)) k0 bel lt0) (trodAll_cons_mk (Below.trod laidOut (by kernel_rfl) (of_decide_eq_true (by kernel_rfl)) k1 bel lt1) (trodAll_cons_mk (Below.trod laidOut (by kernel_rfl) (of_decide_eq_true (by kernel_rfl)) k2 bel lt2) trodAll_mk0))), rfl, bel.frame _, fun h => by cases h⟩

theorem over : Rows.capLessRow.holds Tryd.pinned (OpenSpec.ofChange Rows.capLessSpec) :=
  OpenClaim.holds_of_wide 8 Tryd.f8 rfl rfl rfl rfl rfl rfl rfl ⟨rfl, rfl, rfl, rfl, rfl⟩ rfl rfl rfl rfl rfl (by kernel_rfl) Tryd.func8 (by kernel_rfl)
    (of_decide_eq_true (by kernel_rfl)) (by unfold Func.isWrapper; first | (rw [if_pos (by decide +kernel)]; kernel_rfl) | (rw [if_neg (by decide +kernel)]; exact ⟨rfl, rfl⟩))
    (fun os started H enc _ => lifted os started H enc)

end Go.Proofs.YtcmdcmbiilfngaaDoor.capLess
namespace Go.Proofs.YtcmdcmbiilfngaaDoor
/-- The given statement. -/
theorem capLess_holds : Rows.CapLessCardSaid :=
  Claim7.holds_tied_plain_at .later [] [.data, .data] true (true, "b19a03ae824dc2f6810aeb81173081118005215afdce10c70f77b3db14f8911f") false
    capLess.over (fun _ h => by cases h) (by kernel_rfl) (fun _ h => by cases h) capLess_row_tie rfl ⟨rfl, rfl⟩ (by kernel_rfl) rfl
    (fun f fn hf hfn => by
      obtain rfl : f = 8 := Option.some.inj ((show Tryd.prog.funcNamed "strongroom/strongroomlaw12.CapLess" = some 8 by kernel_rfl).symm.trans hf) |>.symm
      obtain rfl : fn = Tryd.f8 := (Option.some.inj (Tryd.func8.symm.trans hfn)).symm
      exact ⟨by kernel_rfl, fun j t ht => by
        rw [Tryd.params8] at ht
        rcases j with _ | _ | _ | j
        · obtain rfl : t = 23 := by simpa using ht.symm
          exact (show Tryd.prog.wantsStandIn 23 = false by kernel_rfl)
        · obtain rfl : t = 35 := by simpa using ht.symm
          exact (show Tryd.prog.wantsStandIn 35 = false by kernel_rfl)
        · obtain rfl : t = 51 := by simpa using ht.symm
          exact (show Tryd.prog.wantsStandIn 51 = false by kernel_rfl)
        · simp at ht
      ⟩)
    (by kernel_rfl)
#print axioms capLess_holds
end Go.Proofs.YtcmdcmbiilfngaaDoor
