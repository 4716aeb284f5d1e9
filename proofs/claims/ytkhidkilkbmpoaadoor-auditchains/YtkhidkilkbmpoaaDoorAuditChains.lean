/- Proved: for every audit and every entry the law AuditChains returns true, what was handed in as it was (the theorem of stage 13: the digest of an audit that went on is the seal, by the digest ahead, of the new entry's bytes, whatever went; what goes on from it follows it); where the package's two tables begin as the program's text lays them. -/
import Derived.Test.YtkhidkilkbmpoaaDoorRM
import Derived.Test.YtkhidkilkbmpoaaDoorCards
import Derived.Test.YtkhidkilkbmpoaaDoorTie
import Derived.WalkKit
import Derived.Deep.Cut
import Derived.ProofKit
import Derived.OpenShut
import Derived.ShutString
import Derived.ChangeOld
import Derived.Below
import Derived.LaidMore
import Derived.Stop.Joined
import Derived.SevenTiedAt
namespace Go.Proofs.YtkhidkilkbmpoaaDoor.auditChains
open Go.ChangeShapes Go.WideShapes Go.ChangeAt Go.WideMaps Go.WideElems Go.RowKit
open Go.ChangeMaps (open_string shut_string)

set_option maxRecDepth 100000 in
set_option maxHeartbeats 8000000 in
theorem walk (s0 : ByteArray) (n0 : Int) (a0 : Option Addr) (len0 cap0 : Nat) (l0 : List En) (cA : ∀ c ∈ l0, c.In) (z0 : s0.size ≤ 140737488351232) (_x0 : -9223372036854775808 ≤ n0 ∧ n0 ≤ 9223372036854775807) (c1 : En) (z1 : c1.In) (w : World) (w0 : Ew w a0 len0 cap0 l0) (hL : Laid w) :
    Calls Tryd.prog 6 #[.agg #[.string s0, .int .i64 n0, .slice a0 len0 cap0], .agg #[.int .i64 c1.seq, .int .i64 c1.time, .int .i64 c1.kind, .string c1.path, .int .i64 c1.errno]] w fun e w' => e = .returned (.bool true) ∧ Below w.heap.size w w' := by
  have HLV : Hid (∀ V, Below w.heap.size w V → Calls Tryd.prog 10 #[] V fun e w' => e = .returned (.bool true) ∧ Below V.heap.size V w') := fun V hV => lives_any V (hL.below hV)
  obtain ⟨c0, c1, c2, c3, c4⟩ := c1
  obtain ⟨pb, hpb⟩ : ∃ pb, w.heap.size = pb := ⟨_, rfl⟩
  obtain ⟨V1, hV1, r1', hb1⟩ := box_au 24 (w := w) s0 n0 a0 len0 cap0
  obtain ⟨qb, hqb⟩ : ∃ qb, V1.heap.size = qb := ⟨_, rfl⟩
  obtain ⟨V2, hV2, r2', hb2⟩ := box_en (w := V1) c0 c1 c2 c3 c4
  rw [hpb] at r1'
  rw [hqb] at r2'
  have r12 := (hb2.block pb (lt_of_some r1')).trans r1'
  have hB2 : Below w.heap.size w V2 := hb1.trans (hb2.mono hb1.size)
  have HKK : Hid (∀ W, Below V2.heap.size V2 W → ((W.cell? ⟨pb, 0, none⟩ = some (.string s0) ∧ W.cell? ⟨pb, 1, none⟩ = some (.int .i64 n0) ∧ W.cell? ⟨pb, 2, none⟩ = some (.slice a0 len0 cap0)) ∧ (W.cell? ⟨qb, 0, none⟩ = some (.int .i64 c0) ∧ W.cell? ⟨qb, 1, none⟩ = some (.int .i64 c1) ∧ W.cell? ⟨qb, 2, none⟩ = some (.int .i64 c2) ∧ W.cell? ⟨qb, 3, none⟩ = some (.string c3) ∧ W.cell? ⟨qb, 4, none⟩ = some (.int .i64 c4))) ∧ Below w.heap.size w W) := fun W hW => by
    obtain ⟨e0, e1, e2, _⟩ := row3 ((hW.block pb (lt_of_some r12)).trans r12)
    obtain ⟨f0, f1, f2, f3, f4, _⟩ := row5 ((hW.block qb (lt_of_some r2')).trans r2')
    exact ⟨⟨⟨e0, e1, e2⟩, f0, f1, f2, f3, f4⟩, hB2.trans (hW.mono hB2.size)⟩
  obtain ⟨⟨⟨y0, y1, y2⟩, _⟩, _⟩ := HKK.out V2 (Below.refl _ _)
  have HSM := small_au s0 n0 (w0.below hB2) z0 (fun c hc => (cA c hc).2.2.2.2)
  unfold YeTo at HSM
  have hpz : c3.size ≤ 140737488351232 := z1.2.2.2.2
  cases hsm : smallA l0 s0 with
  | false =>
    rw [hsm] at HSM
    clear hsm hL w0 cA r1' r2' r12 hb1 hb2 hB2
    go_enter Tryd.func6, Tryd.ntmps6
    go_wp2_with fail
    refine HSM.mono ?_
    rintro e V3 ⟨rfl, hb3⟩
    have HB : Hid (Below w.heap.size w V3) := (HKK.out V3 hb3).2
    clear HSM hb3 y0 y1 y2
    have HLX := HLV.out V3 HB.out
    go_wp2_with fail
    refine HLX.mono ?_
    rintro e VZ ⟨rfl, hbZ⟩
    have HZ : Hid (Below w.heap.size w VZ) := HB.out.trans (hbZ.mono HB.out.size)
    clear HLX hbZ
    go_wp2
    go_ret
    exact ⟨rfl, HZ.out⟩
  | true =>
    rw [hsm] at HSM
    by_cases hpl : 1000 < c3.size
    · have kpl : (1000 : Int) < (c3.size : Int) := by omega
      clear hsm hL w0 cA r1' r2' r12 hb1 hb2 hB2
      go_enter Tryd.func6, Tryd.ntmps6
      go_wp2_with fail
      refine HSM.mono ?_
      rintro e V3 ⟨rfl, hb3⟩
      have HB : Hid (Below w.heap.size w V3) := (HKK.out V3 hb3).2
      clear y0 y1 y2
      obtain ⟨⟨_, _, _, _, y3, _⟩, _⟩ := HKK.out V3 hb3
      clear HSM hb3
      have HLX := HLV.out V3 HB.out
      go_wp2_with fail
      refine HLX.mono ?_
      rintro e VZ ⟨rfl, hbZ⟩
      have HZ : Hid (Below w.heap.size w VZ) := HB.out.trans (hbZ.mono HB.out.size)
      clear HLX hbZ
      go_wp2
      go_ret
      exact ⟨rfl, HZ.out⟩
    have kpl : ¬ (1000 : Int) < (c3.size : Int) := by omega
    have hsmi := small_iff.1 hsm
    have hl0 := w0.len
    obtain ⟨⟨r1, r2⟩, hr⟩ : ∃ r, addA ⟨s0, n0, l0⟩ ⟨c0, c1, c2, c3, c4⟩ = r := ⟨_, rfl⟩
    have HMI : Hid (∀ W, Below w.heap.size w W → Calls Tryd.prog 16 #[.agg #[.string s0, .int .i64 n0, .slice a0 len0 cap0]] W fun e w' => ∃ (a' : Option Addr) (c' : Nat), e = .returned (.agg #[.string s0, .int .i64 n0, .slice a' len0 c']) ∧ w'.ownsRow W.heap.size 36 5 (.slice a' len0 c') len0 (enR l0) ∧ Below W.heap.size W w') := fun W hW => mine_any s0 n0 (w0.below hW) (by omega)
    have HAD : Hid (∀ W, Below w.heap.size w W → ∀ (ma : Option Addr) (mc : Nat), Ew W ma len0 mc l0 → Calls Tryd.prog 18 #[.agg #[.string s0, .int .i64 n0, .slice ma len0 mc], .agg #[.int .i64 c0, .int .i64 c1, .int .i64 c2, .string c3, .int .i64 c4]] W fun e w' => ∃ (a : Option Addr) (n c : Nat), e = .returned (.tuple #[.agg #[.string r1.anchor, .int .i64 r1.last, .slice a n c], .int .i64 (r2 : Int)]) ∧ Nw W.heap.size w' a n c r1.ents ∧ Below W.heap.size W w') := fun W hW ma mc h => by
      have h9 := aadd_any s0 n0 ⟨c0, c1, c2, c3, c4⟩ W h (hL.below hW)
      rw [hr] at h9
      exact h9
    have HDM : Hid (∀ W, Below w.heap.size w W → ∀ (ma : Option Addr) (mc : Nat), Ew W ma len0 mc l0 → Calls Tryd.prog 20 #[.agg #[.string s0, .int .i64 n0, .slice ma len0 mc]] W fun e w' => e = .returned (.string (strOf (digA ⟨s0, n0, l0⟩))) ∧ Below W.heap.size W w') := fun W hW ma mc h => adig_any s0 n0 h (hL.below hW)
    have HLW : Hid (∀ W, Below w.heap.size w W → Laid W) := fun W hW => hL.below hW
    have HR : Hid (addA ⟨s0, n0, l0⟩ ⟨c0, c1, c2, c3, c4⟩ = (r1, r2)) := hr
    clear hsm hsmi hl0 hL w0 cA r1' r2' r12 hb1 hb2 hB2 hr
    go_enter Tryd.func6, Tryd.ntmps6
    go_wp2_with fail
    refine HSM.mono ?_
    rintro e V3 ⟨rfl, hb3⟩
    have H3 : Hid (Below V2.heap.size V2 V3) := hb3
    clear y0 y1 y2
    obtain ⟨⟨⟨y0, y1, y2⟩, x0, x1, x2, x3, x4⟩, _⟩ := HKK.out V3 hb3
    have HK : Hid (∀ W, Below V3.heap.size V3 W → ((W.cell? ⟨pb, 0, none⟩ = some (.string s0) ∧ W.cell? ⟨pb, 1, none⟩ = some (.int .i64 n0) ∧ W.cell? ⟨pb, 2, none⟩ = some (.slice a0 len0 cap0)) ∧ (W.cell? ⟨qb, 0, none⟩ = some (.int .i64 c0) ∧ W.cell? ⟨qb, 1, none⟩ = some (.int .i64 c1) ∧ W.cell? ⟨qb, 2, none⟩ = some (.int .i64 c2) ∧ W.cell? ⟨qb, 3, none⟩ = some (.string c3) ∧ W.cell? ⟨qb, 4, none⟩ = some (.int .i64 c4))) ∧ Below w.heap.size w W) := fun W hW => HKK.out W (H3.out.trans (hW.mono H3.out.size))
    clear HSM hb3
    go_upto_region 3 with fail
    go_cut [5, 6] from 7 (fun v5 v6 wx => BxTo 27 V3 (r1, r2) v5 v6 wx)
    case first =>
      refine wp_region_held_drew (S := fun W => (W.cell? ⟨pb, 0, none⟩ = some (.string s0) ∧ W.cell? ⟨pb, 1, none⟩ = some (.int .i64 n0) ∧ W.cell? ⟨pb, 2, none⟩ = some (.slice a0 len0 cap0)) ∧ (W.cell? ⟨qb, 0, none⟩ = some (.int .i64 c0) ∧ W.cell? ⟨qb, 1, none⟩ = some (.int .i64 c1) ∧ W.cell? ⟨qb, 2, none⟩ = some (.int .i64 c2) ∧ W.cell? ⟨qb, 3, none⟩ = some (.string c3) ∧ W.cell? ⟨qb, 4, none⟩ = some (.int .i64 c4))) (by kernel_rfl) ((HK.out V3.drew (Below.refl _ V3).drew).1) (fun hHeld => ?_)
      have H0 : Hid (Below V3.heap.size V3 V3.drew) := (Below.refl _ V3).drew
      refine wpAnyH_take (i := 0) (v := ?va_0) rfl (by kernel_rfl) (by kernel_rfl) (by kernel_rfl) (fun _ _ _ h => h) (Or.inl ⟨by first | kernel_rfl | rfl, ?ya_0⟩) hHeld ?ra_0
      case ya_0 => (intro W hSW; (try dsimp only at hSW); go_simp; (try with_reducible rfl))
      change wpAnyH _ _ _ _ _ _ _ (Act.put _ (some 18) _) _
      simp only [Act.put, List.setIfInBounds_toArray, List.set_cons_zero, List.set_cons_succ]
      refine wpAnyH_take (i := 2) (v := ?va_2) rfl (by kernel_rfl) (by kernel_rfl) (by kernel_rfl) (fun _ _ _ h => h) (Or.inl ⟨by first | kernel_rfl | rfl, ?ya_2⟩) hHeld ?ra_2
      case ya_2 => (intro W hSW; (try dsimp only at hSW); go_simp; (try with_reducible rfl))
      change wpAnyH _ _ _ _ _ _ _ (Act.put _ (some 20) _) _
      simp only [Act.put, List.setIfInBounds_toArray, List.set_cons_zero, List.set_cons_succ]
      obtain ⟨ub, hub⟩ : ∃ ub, V3.drew.heap.size = ub := ⟨_, rfl⟩
      obtain ⟨U0, hU0⟩ : ∃ U0, V3.drew.alloc (.cells #[.string ⟨#[]⟩, .int .i64 0, .slice none 0 0] 27) = U0 := ⟨_, rfl⟩
      have ru : U0.heap[ub]? = some (.cells #[.string ⟨#[]⟩, .int .i64 0, .slice none 0 0] 27 (0, 0)) := by rw [← hU0, ← hub]; exact heap_alloc_new _ _
      have HU : Hid (Below V3.heap.size V3 U0 ∧ V3.heap.size ≤ ub ∧ U0.heap[ub]? = some (.cells #[.string ⟨#[]⟩, .int .i64 0, .slice none 0 0] 27 (0, 0)) ∧ V3.drew.heap.size = ub ∧ Below V3.drew.heap.size V3.drew U0) := ⟨by rw [← hU0]; exact (H0.out).alloc (H0.out).size _, by rw [← hub]; exact (H0.out).size, ru, hub, by rw [← hU0]; exact (Below.refl _ _).alloc (Nat.le_refl _) _⟩
      clear ru
      refine wpAnyH_ready (rs := [1, 7]) (by kernel_rfl) (by simp) ?_
      refine AllReadyH.cons rfl (fun K hK => ?_) (AllReadyH.cons rfl (fun K hK => ?_) AllReadyH.nil)
      · clear HU hU0 hub U0 ub
        go_simp
        refine (HMI.out V3.drew (HK.out V3.drew (H0.out)).2).mono ?_
        rintro e V5 ⟨ma, mc, rfl, hown, hb5⟩
        refine hK.out _ _ ((HK.out V5 ((H0.out).trans (hb5.mono (H0.out).size))).1) (fun hHeld => ?_)
        clear hK K
        try simp only [Act.put, List.setIfInBounds_toArray, List.set_cons_zero, List.set_cons_succ]
        have H5 : Hid (Below V3.heap.size V3 V5 ∧ Ew V5 ma len0 mc l0) := ⟨(H0.out).trans (hb5.mono (H0.out).size), Ew.own hown⟩
        have H5b : Hid (Below V3.drew.heap.size V3.drew V5) := hb5
        clear hown hb5
        obtain ⟨ub, hub⟩ : ∃ ub, V5.heap.size = ub := ⟨_, rfl⟩
        obtain ⟨U0, hU0⟩ : ∃ U0, V5.alloc (.cells #[.string ⟨#[]⟩, .int .i64 0, .slice none 0 0] 27) = U0 := ⟨_, rfl⟩
        have ru : U0.heap[ub]? = some (.cells #[.string ⟨#[]⟩, .int .i64 0, .slice none 0 0] 27 (0, 0)) := by rw [← hU0, ← hub]; exact heap_alloc_new _ _
        have HU : Hid (Below V3.heap.size V3 U0 ∧ V3.heap.size ≤ ub ∧ U0.heap[ub]? = some (.cells #[.string ⟨#[]⟩, .int .i64 0, .slice none 0 0] 27 (0, 0)) ∧ V5.heap.size = ub ∧ Below V5.heap.size V5 U0) := ⟨by rw [← hU0]; exact (H5.out.1).alloc (H5.out.1).size _, by rw [← hub]; exact (H5.out.1).size, ru, hub, by rw [← hU0]; exact (Below.refl _ _).alloc (Nat.le_refl _) _⟩
        clear ru
        refine wpAnyH_ready (rs := [3, 7]) (by kernel_rfl) (by simp) ?_
        refine AllReadyH.cons rfl (fun K hK => ?_) (AllReadyH.cons rfl (fun K hK => ?_) AllReadyH.nil)
        · clear HU hU0 hub U0 ub
          go_simp
          refine (HAD.out V5 (HK.out V5 (H5.out.1)).2 ma mc (H5.out.2)).mono ?_
          rintro e V6 ⟨xa, xn, xc, rfl, hnw, hb6⟩
          refine hK.out _ _ ((HK.out V6 ((H5.out.1).trans (hb6.mono (H5.out.1).size))).1) (fun hHeld => ?_)
          clear hK K
          try simp only [Act.put, List.setIfInBounds_toArray, List.set_cons_zero, List.set_cons_succ]
          have H6 : Hid (Below V3.heap.size V3 V6 ∧ Nw V5.heap.size V6 xa xn xc r1.ents ∧ Below V5.heap.size V5 V6) := ⟨(H5.out.1).trans (hb6.mono (H5.out.1).size), hnw, hb6⟩
          clear hnw hb6
          refine wpAnyH_take (i := 4) (v := ?vc_4) rfl (by kernel_rfl) (by kernel_rfl) (by kernel_rfl) (fun _ _ _ h => h) (Or.inl ⟨by first | kernel_rfl | rfl, ?yc_4⟩) hHeld ?rc_4
          case yc_4 => (intro W hSW; (try dsimp only at hSW); go_simp; (try with_reducible rfl))
          change wpAnyH _ _ _ _ _ _ _ (Act.put _ (some 17) _) _
          simp only [Act.put, List.setIfInBounds_toArray, List.set_cons_zero, List.set_cons_succ]
          refine wpAnyH_take (i := 5) (v := ?vc_5) rfl (by kernel_rfl) (by kernel_rfl) (by kernel_rfl) (fun _ _ _ h => h) (Or.inl ⟨by first | kernel_rfl | rfl, ?yc_5⟩) hHeld ?rc_5
          case yc_5 => (intro W hSW; (try dsimp only at hSW); go_simp; (try with_reducible rfl))
          change wpAnyH _ _ _ _ _ _ _ (Act.put _ (some 22) _) _
          simp only [Act.put, List.setIfInBounds_toArray, List.set_cons_zero, List.set_cons_succ]
          refine wpAnyH_take (i := 6) (v := ?vc_6) rfl (by kernel_rfl) (by kernel_rfl) (by kernel_rfl) (fun _ _ _ h => h) (Or.inl ⟨by first | kernel_rfl | rfl, ?yc_6⟩) hHeld ?rc_6
          case yc_6 => (intro W hSW; (try dsimp only at hSW); go_simp; (try with_reducible rfl))
          change wpAnyH _ _ _ _ _ _ _ (Act.put _ (some 23) _) _
          simp only [Act.put, List.setIfInBounds_toArray, List.set_cons_zero, List.set_cons_succ]
          obtain ⟨ub, hub⟩ : ∃ ub, V6.heap.size = ub := ⟨_, rfl⟩
          obtain ⟨U0, hU0⟩ : ∃ U0, V6.alloc (.cells #[.string ⟨#[]⟩, .int .i64 0, .slice none 0 0] 27) = U0 := ⟨_, rfl⟩
          have ru : U0.heap[ub]? = some (.cells #[.string ⟨#[]⟩, .int .i64 0, .slice none 0 0] 27 (0, 0)) := by rw [← hU0, ← hub]; exact heap_alloc_new _ _
          have HU : Hid (Below V3.heap.size V3 U0 ∧ V3.heap.size ≤ ub ∧ U0.heap[ub]? = some (.cells #[.string ⟨#[]⟩, .int .i64 0, .slice none 0 0] 27 (0, 0)) ∧ V6.heap.size = ub ∧ Below V6.heap.size V6 U0) := ⟨by rw [← hU0]; exact (H6.out.1).alloc (H6.out.1).size _, by rw [← hub]; exact (H6.out.1).size, ru, hub, by rw [← hU0]; exact (Below.refl _ _).alloc (Nat.le_refl _) _⟩
          clear ru
          refine wpAnyH_ready (rs := [7]) (by kernel_rfl) (by simp) ?_
          refine AllReadyH.cons rfl (fun K hK => ?_) AllReadyH.nil
          go_simp
          refine hK.out _ _ ((HK.out U0 HU.out.1).1) (fun hHeld => ?_)
          clear hK K
          try simp only [Act.put, List.setIfInBounds_toArray, List.set_cons_zero, List.set_cons_succ]
          have rub := HU.out.2.2.1
          obtain ⟨v0, v1, v2, vz⟩ := row3 rub
          have vf0 := vz 0
          have vf1 := vz 1
          have vf2 := vz 2
          obtain ⟨W7, hW7⟩ : ∃ W7, ((U0.setCell ⟨ub, 0, none⟩ (.string r1.anchor)).setCell ⟨ub, 1, none⟩ (.int .i64 r1.last)).setCell ⟨ub, 2, none⟩ (.slice xa xn xc) = W7 := ⟨_, rfl⟩
          have HE : Hid (BxTo 27 V3 (r1, r2) (.pointer (some ⟨ub, 0, none⟩)) (.int .i64 (r2 : Int)) W7) := by
            rw [← hW7]
            exact BxTo.fill (t := 27) (V := V3) (r := (r1, r2)) rub (HU.out.1) HU.out.2.1 (Rw.keep (w := V6) (G := fun x => V5.heap.size ≤ x ∧ x < V6.heap.size) (Rw.mono H6.out.2.1 (fun x hx h9 => ⟨hx, h9⟩)) HU.out.2.2.2.2.size (fun b _ hb => HU.out.2.2.2.2.block b hb)) (fun x hx => ⟨Nat.le_trans H5.out.1.size hx.1, by have := HU.out.2.2.2.1; omega⟩)
          have HK7 : Hid ((W7.cell? ⟨pb, 0, none⟩ = some (.string s0) ∧ W7.cell? ⟨pb, 1, none⟩ = some (.int .i64 n0) ∧ W7.cell? ⟨pb, 2, none⟩ = some (.slice a0 len0 cap0)) ∧ (W7.cell? ⟨qb, 0, none⟩ = some (.int .i64 c0) ∧ W7.cell? ⟨qb, 1, none⟩ = some (.int .i64 c1) ∧ W7.cell? ⟨qb, 2, none⟩ = some (.int .i64 c2) ∧ W7.cell? ⟨qb, 3, none⟩ = some (.string c3) ∧ W7.cell? ⟨qb, 4, none⟩ = some (.int .i64 c4))) := (HK.out W7 (by obtain ⟨_, _, _, _, _, _, _, _, h9, _⟩ := HE.out; exact h9)).1
          clear rub vz
          refine wpAnyH_ready (rs := [8]) (by kernel_rfl) (by simp) ?_
          refine AllReadyH.cons rfl (fun K hK => ?_) AllReadyH.nil
          go_simp
          refine hK.out _ _ (HK7.out) (fun hHeld => ?_)
          clear hK K
          refine wpAnyH_take (i := 9) (v := ?vc_9) rfl (by kernel_rfl) (by kernel_rfl) (by kernel_rfl) (fun _ _ _ h => h) (Or.inl ⟨by first | kernel_rfl | rfl, ?yc_9⟩) hHeld ?rc_9
          case yc_9 => (intro W hSW; (try dsimp only at hSW); go_simp; (try with_reducible rfl))
          change wpAnyH _ _ _ _ _ _ _ (Act.put _ (some 6) _) _
          simp only [Act.put, List.setIfInBounds_toArray, List.set_cons_zero, List.set_cons_succ]
          refine wpAnyH_done (by kernel_rfl) ?_ _
          go_wp2_with fail
          go_meet
          case rel => exact HE.out
        · go_simp
          refine hK.out _ _ ((HK.out U0 HU.out.1).1) (fun hHeld => ?_)
          clear hK K
          try simp only [Act.put, List.setIfInBounds_toArray, List.set_cons_zero, List.set_cons_succ]
          refine wpAnyH_ready (rs := [3]) (by kernel_rfl) (by simp) ?_
          refine AllReadyH.cons rfl (fun K hK => ?_) AllReadyH.nil
          go_simp
          refine (HAD.out U0 (HK.out U0 (HU.out.1)).2 ma mc (H5.out.2.below HU.out.2.2.2.2)).mono ?_
          rintro e V6 ⟨xa, xn, xc, rfl, hnw, hb6⟩
          refine hK.out _ _ ((HK.out V6 ((HU.out.1).trans (hb6.mono (HU.out.1).size))).1) (fun hHeld => ?_)
          clear hK K
          try simp only [Act.put, List.setIfInBounds_toArray, List.set_cons_zero, List.set_cons_succ]
          have H6 : Hid (Below V3.heap.size V3 V6 ∧ Nw U0.heap.size V6 xa xn xc r1.ents ∧ Below U0.heap.size U0 V6) := ⟨(HU.out.1).trans (hb6.mono (HU.out.1).size), hnw, hb6⟩
          clear hnw hb6
          refine wpAnyH_take (i := 4) (v := ?vd_4) rfl (by kernel_rfl) (by kernel_rfl) (by kernel_rfl) (fun _ _ _ h => h) (Or.inl ⟨by first | kernel_rfl | rfl, ?yd_4⟩) hHeld ?rd_4
          case yd_4 => (intro W hSW; (try dsimp only at hSW); go_simp; (try with_reducible rfl))
          change wpAnyH _ _ _ _ _ _ _ (Act.put _ (some 17) _) _
          simp only [Act.put, List.setIfInBounds_toArray, List.set_cons_zero, List.set_cons_succ]
          refine wpAnyH_take (i := 5) (v := ?vd_5) rfl (by kernel_rfl) (by kernel_rfl) (by kernel_rfl) (fun _ _ _ h => h) (Or.inl ⟨by first | kernel_rfl | rfl, ?yd_5⟩) hHeld ?rd_5
          case yd_5 => (intro W hSW; (try dsimp only at hSW); go_simp; (try with_reducible rfl))
          change wpAnyH _ _ _ _ _ _ _ (Act.put _ (some 22) _) _
          simp only [Act.put, List.setIfInBounds_toArray, List.set_cons_zero, List.set_cons_succ]
          refine wpAnyH_take (i := 6) (v := ?vd_6) rfl (by kernel_rfl) (by kernel_rfl) (by kernel_rfl) (fun _ _ _ h => h) (Or.inl ⟨by first | kernel_rfl | rfl, ?yd_6⟩) hHeld ?rd_6
          case yd_6 => (intro W hSW; (try dsimp only at hSW); go_simp; (try with_reducible rfl))
          change wpAnyH _ _ _ _ _ _ _ (Act.put _ (some 23) _) _
          simp only [Act.put, List.setIfInBounds_toArray, List.set_cons_zero, List.set_cons_succ]
          have rub := (H6.out.2.2.block ub (lt_of_some HU.out.2.2.1)).trans HU.out.2.2.1
          obtain ⟨v0, v1, v2, vz⟩ := row3 rub
          have vf0 := vz 0
          have vf1 := vz 1
          have vf2 := vz 2
          obtain ⟨W7, hW7⟩ : ∃ W7, ((V6.setCell ⟨ub, 0, none⟩ (.string r1.anchor)).setCell ⟨ub, 1, none⟩ (.int .i64 r1.last)).setCell ⟨ub, 2, none⟩ (.slice xa xn xc) = W7 := ⟨_, rfl⟩
          have HE : Hid (BxTo 27 V3 (r1, r2) (.pointer (some ⟨ub, 0, none⟩)) (.int .i64 (r2 : Int)) W7) := by
            rw [← hW7]
            exact BxTo.fill (t := 27) (V := V3) (r := (r1, r2)) rub (H6.out.1) HU.out.2.1 (H6.out.2.1) (fun x hx => ⟨Nat.le_trans HU.out.1.size hx, by have := lt_of_some HU.out.2.2.1; omega⟩)
          have HK7 : Hid ((W7.cell? ⟨pb, 0, none⟩ = some (.string s0) ∧ W7.cell? ⟨pb, 1, none⟩ = some (.int .i64 n0) ∧ W7.cell? ⟨pb, 2, none⟩ = some (.slice a0 len0 cap0)) ∧ (W7.cell? ⟨qb, 0, none⟩ = some (.int .i64 c0) ∧ W7.cell? ⟨qb, 1, none⟩ = some (.int .i64 c1) ∧ W7.cell? ⟨qb, 2, none⟩ = some (.int .i64 c2) ∧ W7.cell? ⟨qb, 3, none⟩ = some (.string c3) ∧ W7.cell? ⟨qb, 4, none⟩ = some (.int .i64 c4))) := (HK.out W7 (by obtain ⟨_, _, _, _, _, _, _, _, h9, _⟩ := HE.out; exact h9)).1
          clear rub vz
          refine wpAnyH_ready (rs := [8]) (by kernel_rfl) (by simp) ?_
          refine AllReadyH.cons rfl (fun K hK => ?_) AllReadyH.nil
          go_simp
          refine hK.out _ _ (HK7.out) (fun hHeld => ?_)
          clear hK K
          refine wpAnyH_take (i := 9) (v := ?vd_9) rfl (by kernel_rfl) (by kernel_rfl) (by kernel_rfl) (fun _ _ _ h => h) (Or.inl ⟨by first | kernel_rfl | rfl, ?yd_9⟩) hHeld ?rd_9
          case yd_9 => (intro W hSW; (try dsimp only at hSW); go_simp; (try with_reducible rfl))
          change wpAnyH _ _ _ _ _ _ _ (Act.put _ (some 6) _) _
          simp only [Act.put, List.setIfInBounds_toArray, List.set_cons_zero, List.set_cons_succ]
          refine wpAnyH_done (by kernel_rfl) ?_ _
          go_wp2_with fail
          go_meet
          case rel => exact HE.out
      · go_simp
        refine hK.out _ _ ((HK.out U0 HU.out.1).1) (fun hHeld => ?_)
        clear hK K
        try simp only [Act.put, List.setIfInBounds_toArray, List.set_cons_zero, List.set_cons_succ]
        refine wpAnyH_ready (rs := [1]) (by kernel_rfl) (by simp) ?_
        refine AllReadyH.cons rfl (fun K hK => ?_) AllReadyH.nil
        go_simp
        refine (HMI.out U0 (HK.out U0 (HU.out.1)).2).mono ?_
        rintro e V5 ⟨ma, mc, rfl, hown, hb5⟩
        refine hK.out _ _ ((HK.out V5 ((HU.out.1).trans (hb5.mono (HU.out.1).size))).1) (fun hHeld => ?_)
        clear hK K
        try simp only [Act.put, List.setIfInBounds_toArray, List.set_cons_zero, List.set_cons_succ]
        have H5 : Hid (Below V3.heap.size V3 V5 ∧ Ew V5 ma len0 mc l0) := ⟨(HU.out.1).trans (hb5.mono (HU.out.1).size), Ew.own hown⟩
        have H5b : Hid (Below U0.heap.size U0 V5) := hb5
        clear hown hb5
        refine wpAnyH_ready (rs := [3]) (by kernel_rfl) (by simp) ?_
        refine AllReadyH.cons rfl (fun K hK => ?_) AllReadyH.nil
        go_simp
        refine (HAD.out V5 (HK.out V5 (H5.out.1)).2 ma mc (H5.out.2)).mono ?_
        rintro e V6 ⟨xa, xn, xc, rfl, hnw, hb6⟩
        refine hK.out _ _ ((HK.out V6 ((H5.out.1).trans (hb6.mono (H5.out.1).size))).1) (fun hHeld => ?_)
        clear hK K
        try simp only [Act.put, List.setIfInBounds_toArray, List.set_cons_zero, List.set_cons_succ]
        have H6 : Hid (Below V3.heap.size V3 V6 ∧ Nw V5.heap.size V6 xa xn xc r1.ents ∧ Below V5.heap.size V5 V6) := ⟨(H5.out.1).trans (hb6.mono (H5.out.1).size), hnw, hb6⟩
        clear hnw hb6
        refine wpAnyH_take (i := 4) (v := ?ve_4) rfl (by kernel_rfl) (by kernel_rfl) (by kernel_rfl) (fun _ _ _ h => h) (Or.inl ⟨by first | kernel_rfl | rfl, ?ye_4⟩) hHeld ?re_4
        case ye_4 => (intro W hSW; (try dsimp only at hSW); go_simp; (try with_reducible rfl))
        change wpAnyH _ _ _ _ _ _ _ (Act.put _ (some 17) _) _
        simp only [Act.put, List.setIfInBounds_toArray, List.set_cons_zero, List.set_cons_succ]
        refine wpAnyH_take (i := 5) (v := ?ve_5) rfl (by kernel_rfl) (by kernel_rfl) (by kernel_rfl) (fun _ _ _ h => h) (Or.inl ⟨by first | kernel_rfl | rfl, ?ye_5⟩) hHeld ?re_5
        case ye_5 => (intro W hSW; (try dsimp only at hSW); go_simp; (try with_reducible rfl))
        change wpAnyH _ _ _ _ _ _ _ (Act.put _ (some 22) _) _
        simp only [Act.put, List.setIfInBounds_toArray, List.set_cons_zero, List.set_cons_succ]
        refine wpAnyH_take (i := 6) (v := ?ve_6) rfl (by kernel_rfl) (by kernel_rfl) (by kernel_rfl) (fun _ _ _ h => h) (Or.inl ⟨by first | kernel_rfl | rfl, ?ye_6⟩) hHeld ?re_6
        case ye_6 => (intro W hSW; (try dsimp only at hSW); go_simp; (try with_reducible rfl))
        change wpAnyH _ _ _ _ _ _ _ (Act.put _ (some 23) _) _
        simp only [Act.put, List.setIfInBounds_toArray, List.set_cons_zero, List.set_cons_succ]
        have rub := (H6.out.2.2.block ub (Nat.lt_of_lt_of_le (lt_of_some HU.out.2.2.1) H5b.out.size)).trans ((H5b.out.block ub (lt_of_some HU.out.2.2.1)).trans HU.out.2.2.1)
        obtain ⟨v0, v1, v2, vz⟩ := row3 rub
        have vf0 := vz 0
        have vf1 := vz 1
        have vf2 := vz 2
        obtain ⟨W7, hW7⟩ : ∃ W7, ((V6.setCell ⟨ub, 0, none⟩ (.string r1.anchor)).setCell ⟨ub, 1, none⟩ (.int .i64 r1.last)).setCell ⟨ub, 2, none⟩ (.slice xa xn xc) = W7 := ⟨_, rfl⟩
        have HE : Hid (BxTo 27 V3 (r1, r2) (.pointer (some ⟨ub, 0, none⟩)) (.int .i64 (r2 : Int)) W7) := by
          rw [← hW7]
          exact BxTo.fill (t := 27) (V := V3) (r := (r1, r2)) rub (H6.out.1) HU.out.2.1 (H6.out.2.1) (fun x hx => ⟨Nat.le_trans H5.out.1.size hx, by have := lt_of_some HU.out.2.2.1; have := H5b.out.size; omega⟩)
        have HK7 : Hid ((W7.cell? ⟨pb, 0, none⟩ = some (.string s0) ∧ W7.cell? ⟨pb, 1, none⟩ = some (.int .i64 n0) ∧ W7.cell? ⟨pb, 2, none⟩ = some (.slice a0 len0 cap0)) ∧ (W7.cell? ⟨qb, 0, none⟩ = some (.int .i64 c0) ∧ W7.cell? ⟨qb, 1, none⟩ = some (.int .i64 c1) ∧ W7.cell? ⟨qb, 2, none⟩ = some (.int .i64 c2) ∧ W7.cell? ⟨qb, 3, none⟩ = some (.string c3) ∧ W7.cell? ⟨qb, 4, none⟩ = some (.int .i64 c4))) := (HK.out W7 (by obtain ⟨_, _, _, _, _, _, _, _, h9, _⟩ := HE.out; exact h9)).1
        clear rub vz
        refine wpAnyH_ready (rs := [8]) (by kernel_rfl) (by simp) ?_
        refine AllReadyH.cons rfl (fun K hK => ?_) AllReadyH.nil
        go_simp
        refine hK.out _ _ (HK7.out) (fun hHeld => ?_)
        clear hK K
        refine wpAnyH_take (i := 9) (v := ?ve_9) rfl (by kernel_rfl) (by kernel_rfl) (by kernel_rfl) (fun _ _ _ h => h) (Or.inl ⟨by first | kernel_rfl | rfl, ?ye_9⟩) hHeld ?re_9
        case ye_9 => (intro W hSW; (try dsimp only at hSW); go_simp; (try with_reducible rfl))
        change wpAnyH _ _ _ _ _ _ _ (Act.put _ (some 6) _) _
        simp only [Act.put, List.setIfInBounds_toArray, List.set_cons_zero, List.set_cons_succ]
        refine wpAnyH_done (by kernel_rfl) ?_ _
        go_wp2_with fail
        go_meet
        case rel => exact HE.out
    case rest =>
    obtain ⟨bb, ba, bn, bc, rfl, rfl, hrb, hnw, hbc, hbb⟩ := hcut
    simp only at hrb hnw
    clear y0 y1 y2 x0 x1 x2 x3 x4
    have HC : Hid (Below V3.heap.size V3 wc ∧ Ew wc ba bn bc r1.ents ∧ wc.heap[bb]? = some (.cells #[.string r1.anchor, .int .i64 r1.last, .slice ba bn bc] 27 (0, 0))) := ⟨hbc, hnw.ew, hrb⟩
    clear hrb hnw hbc hbb
    by_cases hok : mayA ⟨s0, n0, l0⟩ = true ∧ (En.at ⟨c0, c1, c2, c3, c4⟩ (n0 + 1)).ok = true
    rotate_left
    · have hno := add_no hok
      rw [HR.out] at hno
      obtain ⟨rfl, rfl⟩ := Prod.mk.inj hno
      have HMB := amay_any zeroAu.anchor zeroAu.last HC.out.2.1
      rw [show mayA ⟨zeroAu.anchor, zeroAu.last, zeroAu.ents⟩ = false from zero_not] at HMB
      unfold YeTo at HMB
      obtain ⟨k1, hk1⟩ : ∃ k, zeroAu.anchor = k := ⟨_, rfl⟩
      obtain ⟨m1, hm1⟩ : ∃ m, zeroAu.last = m := ⟨_, rfl⟩
      rw [hk1, hm1] at HMB
      obtain ⟨u0, u1, u2, _⟩ := row3 HC.out.2.2
      rw [hk1] at u0
      rw [hm1] at u1
      have HB0 : Hid (Below w.heap.size w wc) := (HK.out wc HC.out.1).2
      clear hok hno hk1 hm1
      go_wp2_with fail
      refine HMB.mono ?_
      rintro e X1 ⟨rfl, hbX1⟩
      have HB : Hid (Below w.heap.size w X1) := HB0.out.trans (hbX1.mono HB0.out.size)
      clear HMB hbX1 u0 u1 u2
      have HLX := HLV.out X1 HB.out
      go_wp2_with fail
      refine HLX.mono ?_
      rintro e VZ ⟨rfl, hbZ⟩
      have HZ : Hid (Below w.heap.size w VZ) := HB.out.trans (hbZ.mono HB.out.size)
      clear HLX hbZ
      go_wp2
      go_ret
      exact ⟨rfl, HZ.out⟩
    · obtain ⟨hm, he⟩ := hok
      obtain ⟨f1, f2⟩ := add_facts hm he
      obtain ⟨_, ll, f4, _⟩ := add_last hm he
      have f5 := fol_add hm he
      have f6 := (add_iff (a := ⟨s0, n0, l0⟩) (e := ⟨c0, c1, c2, c3, c4⟩)).2 ⟨hm, he⟩
      rw [HR.out] at f1 f2 f4 f5 f6
      simp only at f1 f2 f4 f5 f6
      subst f6
      obtain ⟨e0, e1, e2, e3, e4, hee⟩ : ∃ e0 e1 e2 e3 e4, En.at ⟨c0, c1, c2, c3, c4⟩ (n0 + 1) = ⟨e0, e1, e2, e3, e4⟩ := ⟨_, _, _, _, _, rfl⟩
      rw [hee] at f2 f4 he
      have hln := HC.out.2.1.len
      obtain ⟨nl, hnl⟩ : ∃ nl, ll.length = nl := ⟨_, rfl⟩
      have hbn : nl + 1 = bn := by rw [← hln, f4, ← hnl]; simp
      have hlast : r1.ents[nl]? = some ⟨e0, e1, e2, e3, e4⟩ := by rw [f4, ← hnl]; simp
      obtain ⟨eb, eo, rfl, _, _⟩ := HC.out.2.1.at (by omega)
      obtain ⟨⟨k1, m1, rl⟩, hr1⟩ : ∃ x, r1 = x := ⟨_, rfl⟩
      subst hr1
      simp only at f1 f2 f4 f5 hlast
      have hmax := HC.out.2.1.max
      have hfd : digA ⟨k1, m1, rl⟩ = sealL (digA ⟨s0, n0, l0⟩) (⟨e0, e1, e2, e3, e4⟩ : En).bytes := by
        unfold digA
        rw [if_pos f1, if_pos hm]
        exact f2
      have hd32 : (digA ⟨s0, n0, l0⟩).length = 32 := by
        unfold digA
        rw [if_pos hm]
        exact chA_len (by rw [Array.length_toList]; exact (mayA_iff.1 hm).1) _
      have hle := ent_len he
      obtain ⟨D0, hD0⟩ : ∃ D, strOf (digA ⟨s0, n0, l0⟩) = D := ⟨_, rfl⟩
      obtain ⟨D1, hD1⟩ : ∃ D, strOf (digA ⟨k1, m1, rl⟩) = D := ⟨_, rfl⟩
      obtain ⟨T1, hT1⟩ : ∃ T, strOf (⟨e0, e1, e2, e3, e4⟩ : En).bytes = T := ⟨_, rfl⟩
      rw [hD0] at HDM
      have HWC : Hid (∀ W, Below wc.heap.size wc W → Below V3.heap.size V3 W) := fun W hW => HC.out.1.trans (hW.mono HC.out.1.size)
      have HS : Hid (∀ W, Below wc.heap.size wc W → ((W.cell? ⟨pb, 0, none⟩ = some (.string s0) ∧ W.cell? ⟨pb, 1, none⟩ = some (.int .i64 n0) ∧ W.cell? ⟨pb, 2, none⟩ = some (.slice a0 len0 cap0)) ∧ (W.cell? ⟨bb, 0, none⟩ = some (.string k1) ∧ W.cell? ⟨bb, 1, none⟩ = some (.int .i64 m1) ∧ W.cell? ⟨bb, 2, none⟩ = some (.slice (some ⟨eb, eo, none⟩) bn bc)) ∧ (W.cell? ⟨eb, eo + nl * 5, none⟩ = some (.int .i64 e0) ∧ W.cell? ⟨eb, eo + nl * 5 + 1, none⟩ = some (.int .i64 e1) ∧ W.cell? ⟨eb, eo + nl * 5 + 2, none⟩ = some (.int .i64 e2) ∧ W.cell? ⟨eb, eo + nl * 5 + 3, none⟩ = some (.string e3) ∧ W.cell? ⟨eb, eo + nl * 5 + 4, none⟩ = some (.int .i64 e4))) ∧ Below w.heap.size w W) := fun W hW => by
        have h8 := HK.out W (HWC.out W hW)
        obtain ⟨u0, u1, u2, _⟩ := row3 ((hW.block bb (lt_of_some HC.out.2.2)).trans HC.out.2.2)
        obtain ⟨ab', ao', heq, _, hc'⟩ := (HC.out.2.1.below hW).at (by omega)
        obtain ⟨rfl, rfl⟩ : eb = ab' ∧ eo = ao' := by
          have := Option.some.inj heq
          exact ⟨congrArg Addr.block this, congrArg Addr.off this⟩
        obtain ⟨g0, g1, g2, g3, g4⟩ := hc' nl _ hlast
        exact ⟨⟨h8.1.1, ⟨u0, u1, u2⟩, g0, g1, g2, g3, g4⟩, h8.2⟩
      have HMB : Hid (∀ W, Below wc.heap.size wc W → Calls Tryd.prog 15 #[.agg #[.string k1, .int .i64 m1, .slice (some ⟨eb, eo, none⟩) bn bc]] W fun e w' => e = .returned (.bool true) ∧ Below W.heap.size W w') := fun W hW => by
        have h9 := amay_any k1 m1 (HC.out.2.1.below hW)
        rw [f1] at h9
        exact h9
      have HDB : Hid (∀ W, Below wc.heap.size wc W → Calls Tryd.prog 20 #[.agg #[.string k1, .int .i64 m1, .slice (some ⟨eb, eo, none⟩) bn bc]] W fun e w' => e = .returned (.string D1) ∧ Below W.heap.size W w') := fun W hW => by
        have h9 := adig_any k1 m1 (HC.out.2.1.below hW) (HLW.out W (HS.out W hW).2)
        unfold StTo at h9
        rw [hD1] at h9
        exact h9
      have HBY : Hid (∀ W, Calls Tryd.prog 24 #[.agg #[.int .i64 e0, .int .i64 e1, .int .i64 e2, .string e3, .int .i64 e4]] W fun e w' => e = .returned (.string T1) ∧ Below W.heap.size W w') := fun W => by rw [← hT1]; exact rbytes_any ⟨e0, e1, e2, e3, e4⟩ W he
      have HSL : Hid (∀ W, Below w.heap.size w W → Calls Tryd.prog 23 #[.string D0, .string T1] W fun e w' => e = .returned (.string D1) ∧ Below W.heap.size W w') := fun W hW => by
        have h9 := seal_any D0 T1 W (by rw [← hD0, strOf_size]; omega) (by rw [← hT1, strOf_size]; omega) (HLW.out W hW)
        rw [show D0.data.toList = digA ⟨s0, n0, l0⟩ by rw [← hD0]; rfl, show T1.data.toList = (⟨e0, e1, e2, e3, e4⟩ : En).bytes by rw [← hT1]; rfl, ← hfd, hD1] at h9
        exact h9
      have HFO : Hid (∀ W, Below wc.heap.size wc W → ∀ (ma : Option Addr) (mc : Nat), Ew W ma len0 mc l0 → Calls Tryd.prog 25 #[.agg #[.string s0, .int .i64 n0, .slice ma len0 mc], .agg #[.string k1, .int .i64 m1, .slice (some ⟨eb, eo, none⟩) bn bc]] W fun e w' => e = .returned (.bool true) ∧ Below W.heap.size W w') := fun W hW ma mc h => by
        have h9 := afol_any s0 n0 k1 m1 h (HC.out.2.1.below hW) (HLW.out W (HS.out W hW).2)
        rw [f5] at h9
        exact h9
      have hdd : (D1.toList == D1.toList) = true := by simp
      have hb0 : ((bn : Int) == 0) = false := by simp; omega
      have kb0 : ¬ (bn : Int) = 0 := by omega
      have wnl : IntKind.i64.wrap ((bn : Int) - 1) = (nl : Int) := by rw [IntKind.wrap_i64]; omega
      have knl : nl < bn := by omega
      have knl2 : (nl : Int) < (bn : Int) := by omega
      obtain ⟨u0, u1, u2, _⟩ := row3 HC.out.2.2
      simp only at u0 u1
      clear f1 f2 f4 f5 hm he hee hln hnl hbn hlast hmax hfd hd32 hle hD0 hD1 hT1
      · go_wp2
        clear u0 u1 u2
        refine wp_region_held_drew (S := fun W => (W.cell? ⟨pb, 0, none⟩ = some (.string s0) ∧ W.cell? ⟨pb, 1, none⟩ = some (.int .i64 n0) ∧ W.cell? ⟨pb, 2, none⟩ = some (.slice a0 len0 cap0)) ∧ (W.cell? ⟨bb, 0, none⟩ = some (.string k1) ∧ W.cell? ⟨bb, 1, none⟩ = some (.int .i64 m1) ∧ W.cell? ⟨bb, 2, none⟩ = some (.slice (some ⟨eb, eo, none⟩) bn bc)) ∧ (W.cell? ⟨eb, eo + nl * 5, none⟩ = some (.int .i64 e0) ∧ W.cell? ⟨eb, eo + nl * 5 + 1, none⟩ = some (.int .i64 e1) ∧ W.cell? ⟨eb, eo + nl * 5 + 2, none⟩ = some (.int .i64 e2) ∧ W.cell? ⟨eb, eo + nl * 5 + 3, none⟩ = some (.string e3) ∧ W.cell? ⟨eb, eo + nl * 5 + 4, none⟩ = some (.int .i64 e4))) (by kernel_rfl) ((HS.out wc.drew (Below.refl _ wc).drew).1) (fun hHeld => ?_)
        have Hq_0 : Hid (Below wc.heap.size wc wc.drew) := (Below.refl _ wc).drew
        refine wpAnyH_take (i := 0) (v := ?vq_0) rfl (by kernel_rfl) (by kernel_rfl) (by kernel_rfl) (fun _ _ _ h => h) (Or.inl ⟨by first | kernel_rfl | rfl, ?yq_0⟩) hHeld ?rq_0
        case yq_0 => (intro W hSW; (try dsimp only at hSW); go_simp; (try with_reducible rfl))
        change wpAnyH _ _ _ _ _ _ _ (Act.put _ (some 36) _) _
        simp only [Act.put, List.setIfInBounds_toArray, List.set_cons_zero, List.set_cons_succ]
        refine wpAnyH_ready (rs := [1]) (by kernel_rfl) (by simp) ?_
        refine AllReadyH.cons rfl (fun K hK => ?_) AllReadyH.nil
        go_simp
        refine (HMB.out wc.drew Hq_0.out).mono ?_
        rintro e X1 ⟨rfl, hbX1⟩
        refine hK.out _ _ ((HS.out X1 (Hq_0.out.trans (hbX1.mono Hq_0.out.size))).1) (fun hHeld => ?_)
        clear hK K
        try simp only [Act.put, List.setIfInBounds_toArray, List.set_cons_zero, List.set_cons_succ]
        have HX1 : Hid (Below wc.heap.size wc X1) := (Hq_0.out.trans (hbX1.mono Hq_0.out.size))
        clear hbX1
        refine wpAnyH_take (i := 2) (v := ?vq_2) rfl (by kernel_rfl) (by kernel_rfl) (by kernel_rfl) (fun _ _ _ h => h) (Or.inl ⟨by first | kernel_rfl | rfl, ?yq_2⟩) hHeld ?rq_2
        case yq_2 => (intro W hSW; (try dsimp only at hSW); go_simp; (try with_reducible rfl))
        change wpAnyH _ _ _ _ _ _ _ (Act.put _ (some 38) _) _
        simp only [Act.put, List.setIfInBounds_toArray, List.set_cons_zero, List.set_cons_succ]
        refine wpAnyH_take (i := 3) (v := ?vq_3) rfl (by kernel_rfl) (by kernel_rfl) (by kernel_rfl) (fun _ _ _ h => h) (Or.inl ⟨by first | kernel_rfl | rfl, ?yq_3⟩) hHeld ?rq_3
        case yq_3 => (intro W hSW; (try dsimp only at hSW); go_simp; (try with_reducible rfl))
        change wpAnyH _ _ _ _ _ _ _ (Act.put _ (some 39) _) _
        simp only [Act.put, List.setIfInBounds_toArray, List.set_cons_zero, List.set_cons_succ]
        refine wpAnyH_take (i := 5) (v := ?vq_5) rfl (by kernel_rfl) (by kernel_rfl) (by kernel_rfl) (fun _ _ _ h => h) (Or.inl ⟨by first | kernel_rfl | rfl, ?yq_5⟩) hHeld ?rq_5
        case yq_5 => (intro W hSW; (try dsimp only at hSW); go_simp; (try with_reducible rfl))
        change wpAnyH _ _ _ _ _ _ _ (Act.put _ (some 41) _) _
        simp only [Act.put, List.setIfInBounds_toArray, List.set_cons_zero, List.set_cons_succ]
        refine wpAnyH_take (i := 8) (v := ?vq_8) rfl (by kernel_rfl) (by kernel_rfl) (by kernel_rfl) (fun _ _ _ h => h) (Or.inl ⟨by first | kernel_rfl | rfl, ?yq_8⟩) hHeld ?rq_8
        case yq_8 => (intro W hSW; (try dsimp only at hSW); go_simp; (try with_reducible rfl))
        change wpAnyH _ _ _ _ _ _ _ (Act.put _ (some 44) _) _
        simp only [Act.put, List.setIfInBounds_toArray, List.set_cons_zero, List.set_cons_succ]
        refine wpAnyH_take (i := 9) (v := ?vq_9) rfl (by kernel_rfl) (by kernel_rfl) (by kernel_rfl) (fun _ _ _ h => h) (Or.inl ⟨by first | kernel_rfl | rfl, ?yq_9⟩) hHeld ?rq_9
        case yq_9 => (intro W hSW; (try dsimp only at hSW); go_simp; (try with_reducible rfl))
        change wpAnyH _ _ _ _ _ _ _ (Act.put _ (some 45) _) _
        simp only [Act.put, List.setIfInBounds_toArray, List.set_cons_zero, List.set_cons_succ]
        refine wpAnyH_take (i := 10) (v := ?vq_10) rfl (by kernel_rfl) (by kernel_rfl) (by kernel_rfl) (fun _ _ _ h => h) (Or.inl ⟨by first | kernel_rfl | rfl, ?yq_10⟩) hHeld ?rq_10
        case yq_10 => (intro W hSW; (try dsimp only at hSW); go_simp; (try with_reducible rfl))
        change wpAnyH _ _ _ _ _ _ _ (Act.put _ (some 46) _) _
        simp only [Act.put, List.setIfInBounds_toArray, List.set_cons_zero, List.set_cons_succ]
        refine wpAnyH_take (i := 11) (v := ?vq_11) rfl (by kernel_rfl) (by kernel_rfl) (by kernel_rfl) (fun _ _ _ h => h) (Or.inl ⟨by first | kernel_rfl | rfl, ?yq_11⟩) hHeld ?rq_11
        case yq_11 => (intro W hSW; (try dsimp only at hSW); go_simp; (try with_reducible rfl))
        change wpAnyH _ _ _ _ _ _ _ (Act.put _ (some 47) _) _
        simp only [Act.put, List.setIfInBounds_toArray, List.set_cons_zero, List.set_cons_succ]
        refine wpAnyH_take (i := 12) (v := ?vq_12) rfl (by kernel_rfl) (by kernel_rfl) (by kernel_rfl) (fun _ _ _ h => h) (Or.inl ⟨by first | kernel_rfl | rfl, ?yq_12⟩) hHeld ?rq_12
        case yq_12 => (intro W hSW; (try dsimp only at hSW); go_simp; (try with_reducible rfl))
        change wpAnyH _ _ _ _ _ _ _ (Act.put _ (some 48) _) _
        simp only [Act.put, List.setIfInBounds_toArray, List.set_cons_zero, List.set_cons_succ]
        refine wpAnyH_take (i := 13) (v := ?vq_13) rfl (by kernel_rfl) (by kernel_rfl) (by kernel_rfl) (fun _ _ _ h => h) (Or.inl ⟨by first | kernel_rfl | rfl, ?yq_13⟩) hHeld ?rq_13
        case yq_13 => (intro W hSW; (try dsimp only at hSW); go_simp; (try with_reducible rfl))
        change wpAnyH _ _ _ _ _ _ _ (Act.put _ (some 49) _) _
        simp only [Act.put, List.setIfInBounds_toArray, List.set_cons_zero, List.set_cons_succ]
        refine wpAnyH_take (i := 14) (v := ?vq_14) rfl (by kernel_rfl) (by kernel_rfl) (by kernel_rfl) (fun _ _ _ h => h) (Or.inl ⟨by first | kernel_rfl | rfl, ?yq_14⟩) hHeld ?rq_14
        case yq_14 => (intro W hSW; (try dsimp only at hSW); go_simp; (try with_reducible rfl))
        change wpAnyH _ _ _ _ _ _ _ (Act.put _ (some 50) _) _
        simp only [Act.put, List.setIfInBounds_toArray, List.set_cons_zero, List.set_cons_succ]
        refine wpAnyH_take (i := 15) (v := ?vq_15) rfl (by kernel_rfl) (by kernel_rfl) (by kernel_rfl) (fun _ _ _ h => h) (Or.inl ⟨by first | kernel_rfl | rfl, ?yq_15⟩) hHeld ?rq_15
        case yq_15 => (intro W hSW; (try dsimp only at hSW); go_simp; (try with_reducible rfl))
        change wpAnyH _ _ _ _ _ _ _ (Act.put _ (some 51) _) _
        simp only [Act.put, List.setIfInBounds_toArray, List.set_cons_zero, List.set_cons_succ]
        refine wpAnyH_ready (rs := [4]) (by kernel_rfl) (by simp) ?_
        refine AllReadyH.cons rfl (fun K hK => ?_) AllReadyH.nil
        go_simp
        refine (HDB.out X1 HX1.out).mono ?_
        rintro e X2 ⟨rfl, hbX2⟩
        refine hK.out _ _ ((HS.out X2 (HX1.out.trans (hbX2.mono HX1.out.size))).1) (fun hHeld => ?_)
        clear hK K
        try simp only [Act.put, List.setIfInBounds_toArray, List.set_cons_zero, List.set_cons_succ]
        have HX2 : Hid (Below wc.heap.size wc X2) := (HX1.out.trans (hbX2.mono HX1.out.size))
        clear hbX2
        refine wpAnyH_ready (rs := [6]) (by kernel_rfl) (by simp) ?_
        refine AllReadyH.cons rfl (fun K hK => ?_) AllReadyH.nil
        go_simp
        refine (HMI.out X2 (HS.out X2 HX2.out).2).mono ?_
        rintro e X3 ⟨ma, mc, rfl, hown, hbX3⟩
        refine hK.out _ _ ((HS.out X3 (HX2.out.trans (hbX3.mono HX2.out.size))).1) (fun hHeld => ?_)
        clear hK K
        try simp only [Act.put, List.setIfInBounds_toArray, List.set_cons_zero, List.set_cons_succ]
        have HX3 : Hid (Below wc.heap.size wc X3) := (HX2.out.trans (hbX3.mono HX2.out.size))
        have HD3 := HDM.out X3 (HS.out X3 (HX2.out.trans (hbX3.mono HX2.out.size))).2 ma mc (Ew.own hown)
        have HD3' : Hid (Calls Tryd.prog 20 #[.agg #[.string s0, .int .i64 n0, .slice ma len0 mc]] X3 fun e w' => e = .returned (.string D0) ∧ Below X3.heap.size X3 w') := HD3
        clear hown hbX3 HD3
        refine wpAnyH_ready (rs := [7]) (by kernel_rfl) (by simp) ?_
        refine AllReadyH.cons rfl (fun K hK => ?_) AllReadyH.nil
        go_simp
        refine (HD3'.out).mono ?_
        rintro e X4 ⟨rfl, hbX4⟩
        refine hK.out _ _ ((HS.out X4 (HX3.out.trans (hbX4.mono HX3.out.size))).1) (fun hHeld => ?_)
        clear hK K
        try simp only [Act.put, List.setIfInBounds_toArray, List.set_cons_zero, List.set_cons_succ]
        have HX4 : Hid (Below wc.heap.size wc X4) := (HX3.out.trans (hbX4.mono HX3.out.size))
        clear hbX4
        refine wpAnyH_ready (rs := [16]) (by kernel_rfl) (by simp) ?_
        refine AllReadyH.cons rfl (fun K hK => ?_) AllReadyH.nil
        go_simp
        refine (HBY.out X4).mono ?_
        rintro e X5 ⟨rfl, hbX5⟩
        refine hK.out _ _ ((HS.out X5 (HX4.out.trans (hbX5.mono HX4.out.size))).1) (fun hHeld => ?_)
        clear hK K
        try simp only [Act.put, List.setIfInBounds_toArray, List.set_cons_zero, List.set_cons_succ]
        have HX5 : Hid (Below wc.heap.size wc X5) := (HX4.out.trans (hbX5.mono HX4.out.size))
        clear hbX5
        refine wpAnyH_ready (rs := [17]) (by kernel_rfl) (by simp) ?_
        refine AllReadyH.cons rfl (fun K hK => ?_) AllReadyH.nil
        go_simp
        refine (HSL.out X5 (HS.out X5 HX5.out).2).mono ?_
        rintro e X6 ⟨rfl, hbX6⟩
        refine hK.out _ _ ((HS.out X6 (HX5.out.trans (hbX6.mono HX5.out.size))).1) (fun hHeld => ?_)
        clear hK K
        try simp only [Act.put, List.setIfInBounds_toArray, List.set_cons_zero, List.set_cons_succ]
        have HX6 : Hid (Below wc.heap.size wc X6) := (HX5.out.trans (hbX6.mono HX5.out.size))
        clear hbX6
        refine wpAnyH_take (i := 18) (v := ?vq_18) rfl (by kernel_rfl) (by kernel_rfl) (by kernel_rfl) (fun _ _ _ h => h) (Or.inl ⟨by first | kernel_rfl | rfl, ?yq_18⟩) hHeld ?rq_18
        case yq_18 => (intro W hSW; (try dsimp only at hSW); go_simp; (try with_reducible rfl))
        change wpAnyH _ _ _ _ _ _ _ (Act.put _ (some 54) _) _
        simp only [Act.put, List.setIfInBounds_toArray, List.set_cons_zero, List.set_cons_succ]
        refine wpAnyH_take (i := 19) (v := ?vq_19) rfl (by kernel_rfl) (by kernel_rfl) (by kernel_rfl) (fun _ _ _ h => h) (Or.inl ⟨by first | kernel_rfl | rfl, ?yq_19⟩) hHeld ?rq_19
        case yq_19 => (intro W hSW; (try dsimp only at hSW); go_simp; (try with_reducible rfl))
        change wpAnyH _ _ _ _ _ _ _ (Act.put _ (some 55) _) _
        simp only [Act.put, List.setIfInBounds_toArray, List.set_cons_zero, List.set_cons_succ]
        refine wpAnyH_take (i := 20) (v := ?vq_20) rfl (by kernel_rfl) (by kernel_rfl) (by kernel_rfl) (fun _ _ _ h => h) (Or.inl ⟨by first | kernel_rfl | rfl, ?yq_20⟩) hHeld ?rq_20
        case yq_20 => (intro W hSW; (try dsimp only at hSW); go_simp; (try with_reducible rfl))
        change wpAnyH _ _ _ _ _ _ _ (Act.put _ (some 56) _) _
        simp only [Act.put, List.setIfInBounds_toArray, List.set_cons_zero, List.set_cons_succ]
        refine wpAnyH_take (i := 21) (v := ?vq_21) rfl (by kernel_rfl) (by kernel_rfl) (by kernel_rfl) (fun _ _ _ h => h) (Or.inl ⟨by first | kernel_rfl | rfl, ?yq_21⟩) hHeld ?rq_21
        case yq_21 => (intro W hSW; (try dsimp only at hSW); go_simp; (try with_reducible rfl))
        change wpAnyH _ _ _ _ _ _ _ (Act.put _ (some 57) _) _
        simp only [Act.put, List.setIfInBounds_toArray, List.set_cons_zero, List.set_cons_succ]
        refine wpAnyH_take (i := 23) (v := ?vq_23) rfl (by kernel_rfl) (by kernel_rfl) (by kernel_rfl) (fun _ _ _ h => h) (Or.inl ⟨by first | kernel_rfl | rfl, ?yq_23⟩) hHeld ?rq_23
        case yq_23 => (intro W hSW; (try dsimp only at hSW); go_simp; (try with_reducible rfl))
        change wpAnyH _ _ _ _ _ _ _ (Act.put _ (some 59) _) _
        simp only [Act.put, List.setIfInBounds_toArray, List.set_cons_zero, List.set_cons_succ]
        refine wpAnyH_ready (rs := [22]) (by kernel_rfl) (by simp) ?_
        refine AllReadyH.cons rfl (fun K hK => ?_) AllReadyH.nil
        go_simp
        refine (HMI.out X6 (HS.out X6 HX6.out).2).mono ?_
        rintro e X7 ⟨ma2, mc2, rfl, hown, hbX7⟩
        refine hK.out _ _ ((HS.out X7 (HX6.out.trans (hbX7.mono HX6.out.size))).1) (fun hHeld => ?_)
        clear hK K
        try simp only [Act.put, List.setIfInBounds_toArray, List.set_cons_zero, List.set_cons_succ]
        have HX7 : Hid (Below wc.heap.size wc X7) := (HX6.out.trans (hbX7.mono HX6.out.size))
        have HF7 := HFO.out X7 (HX6.out.trans (hbX7.mono HX6.out.size)) ma2 mc2 (Ew.own hown)
        have HF7' : Hid (Calls Tryd.prog 25 #[.agg #[.string s0, .int .i64 n0, .slice ma2 len0 mc2], .agg #[.string k1, .int .i64 m1, .slice (some ⟨eb, eo, none⟩) bn bc]] X7 fun e w' => e = .returned (.bool true) ∧ Below X7.heap.size X7 w') := HF7
        clear hown hbX7 HF7
        refine wpAnyH_ready (rs := [24]) (by kernel_rfl) (by simp) ?_
        refine AllReadyH.cons rfl (fun K hK => ?_) AllReadyH.nil
        go_simp
        refine (HF7'.out).mono ?_
        rintro e X8 ⟨rfl, hbX8⟩
        refine hK.out _ _ ((HS.out X8 (HX7.out.trans (hbX8.mono HX7.out.size))).1) (fun hHeld => ?_)
        clear hK K
        try simp only [Act.put, List.setIfInBounds_toArray, List.set_cons_zero, List.set_cons_succ]
        have HX8 : Hid (Below wc.heap.size wc X8) := (HX7.out.trans (hbX8.mono HX7.out.size))
        clear hbX8
        refine wpAnyH_take (i := 25) (v := ?vq_25) rfl (by kernel_rfl) (by kernel_rfl) (by kernel_rfl) (fun _ _ _ h => h) (Or.inl ⟨by first | kernel_rfl | rfl, ?yq_25⟩) hHeld ?rq_25
        case yq_25 => (intro W hSW; (try dsimp only at hSW); go_simp; (try with_reducible rfl))
        change wpAnyH _ _ _ _ _ _ _ (Act.put _ (some 61) _) _
        simp only [Act.put, List.setIfInBounds_toArray, List.set_cons_zero, List.set_cons_succ]
        refine wpAnyH_take (i := 26) (v := ?vq_26) rfl (by kernel_rfl) (by kernel_rfl) (by kernel_rfl) (fun _ _ _ h => h) (Or.inl ⟨by first | kernel_rfl | rfl, ?yq_26⟩) hHeld ?rq_26
        case yq_26 => (intro W hSW; (try dsimp only at hSW); go_simp; (try with_reducible rfl))
        change wpAnyH _ _ _ _ _ _ _ (Act.put _ (some 62) _) _
        simp only [Act.put, List.setIfInBounds_toArray, List.set_cons_zero, List.set_cons_succ]
        refine wpAnyH_ready (rs := [27]) (by kernel_rfl) (by simp) ?_
        refine AllReadyH.cons rfl (fun K hK => ?_) AllReadyH.nil
        go_simp
        refine (HLV.out X8 (HS.out X8 HX8.out).2).mono ?_
        rintro e X9 ⟨rfl, hbX9⟩
        refine hK.out _ _ ((HS.out X9 (HX8.out.trans (hbX9.mono HX8.out.size))).1) (fun hHeld => ?_)
        clear hK K
        try simp only [Act.put, List.setIfInBounds_toArray, List.set_cons_zero, List.set_cons_succ]
        have HX9 : Hid (Below wc.heap.size wc X9) := (HX8.out.trans (hbX9.mono HX8.out.size))
        clear hbX9
        refine wpAnyH_take (i := 28) (v := ?vq_28) rfl (by kernel_rfl) (by kernel_rfl) (by kernel_rfl) (fun _ _ _ h => h) (Or.inl ⟨by first | kernel_rfl | rfl, ?yq_28⟩) hHeld ?rq_28
        case yq_28 => (intro W hSW; (try dsimp only at hSW); go_simp; (try with_reducible rfl))
        change wpAnyH _ _ _ _ _ _ _ (Act.put _ (some 64) _) _
        simp only [Act.put, List.setIfInBounds_toArray, List.set_cons_zero, List.set_cons_succ]
        refine wpAnyH_take (i := 29) (v := ?vq_29) rfl (by kernel_rfl) (by kernel_rfl) (by kernel_rfl) (fun _ _ _ h => h) (Or.inl ⟨by first | kernel_rfl | rfl, ?yq_29⟩) hHeld ?rq_29
        case yq_29 => (intro W hSW; (try dsimp only at hSW); go_simp; (try with_reducible rfl))
        change wpAnyH _ _ _ _ _ _ _ (Act.put _ (some 4) _) _
        simp only [Act.put, List.setIfInBounds_toArray, List.set_cons_zero, List.set_cons_succ]
        refine wpAnyH_done (by kernel_rfl) ?_ _
        have HZ : Hid (Below w.heap.size w X9) := (HS.out X9 HX9.out).2
        go_wp2
        go_ret
        exact ⟨rfl, HZ.out⟩

set_option linter.unusedVariables false in
set_option maxRecDepth 100000 in
theorem lifted (os : Os) (started : os.Started) (H : Type) (enc : TypeId × Value → H) :
    ReturnsInHanded {} Tryd.checked os 6 .any (fun w args => (Rows.auditChainsSpec.pre enc Tryd.prog Tryd.f6 [] false w args ∧ laidMetH Tryd.prog laid2 w) ∧ sizedMet enc Tryd.prog Tryd.f6 (OpenSpec.ofChange Rows.auditChainsSpec) false w args) (Rows.auditChainsSpec.post enc Tryd.prog Tryd.f6 false true false false) := by
  refine returnsInHanded_of_change_and (C := Tryd.checked) (X := fun w _ => laidMetH Tryd.prog laid2 w) (fun _ _ _ hh h => h.of_heap hh) own started (by kernel_rfl) Tryd.func6
    (ChangeSpec.witness_shaped (enc := enc) (C := Tryd.checked) (os := os) (X := fun w _ => laidMetH Tryd.prog laid2 w) false (World.doorLaid Tryd.prog 19 os) #[.agg #[.string ByteArray.empty, .int .i64 0, .slice none 0 0], .agg #[.int .i64 0, .int .i64 0, .int .i64 0, .string ByteArray.empty, .int .i64 0]] 8 rfl (World.shaped_of_RefB (by kernel_rfl) (by kernel_rfl)) (by kernel_rfl) (by kernel_rfl) (by kernel_rfl) (door_met os _)) ?_
  intro W base args ds gs before hval0 hW _ hsz0 hL _
  have hval : ∀ (j : Nat) t v, Tryd.f6.params[j]? = some t → args[j]? = some v → Value.okWide Tryd.prog W .any base t v := hval0
  have hsz : (DataW.weightsEach Tryd.prog (Tryd.f6.params.toList ++ Rows.auditChainsSpec.plain.varTypes Tryd.prog) (ds ++ gs)).all (· ≤ reachBytes) = true := hsz0
  have hW' := hW
  obtain ⟨p, q, hA0, hV, rfl, hfz, hnd⟩ := hW
  have hA : DataW.TrodAll enc Tryd.prog W 0 (fun _ => true) true Tryd.f6.params.toList args.toList ds p := hA0
  rw [Tryd.params6] at hA hval hsz
  obtain ⟨v0, vs0, d0, ds0, p0, q0, hargs, rfl, rfl, h0, r0⟩ := trodAll_cons hA
  obtain ⟨v1, vs1, d1, ds1, p1, q1, rfl, rfl, rfl, h1, r1⟩ := trodAll_cons r0
  obtain ⟨rfl, rfl, rfl⟩ := trodAll_nil r1
  obtain rfl : args = #[v0, v1] := by cases args; simp_all
  obtain ⟨rfl, rfl⟩ := trodVars_none hV
  have k0 := h0
  have lt0 : ∀ x ∈ p0, x.block < W.heap.size := by obtain ⟨m, hm⟩ := k0; exact DataW.trod_lt m _ _ _ hm
  obtain ⟨s0, n0, a0, len0, cap0, l0, rfl, w0, c0, z0, x0⟩ := aud_arg (j := 0) (hval 0 24 v0 rfl rfl) h0 hsz rfl rfl
  have k1 := h1
  have lt1 : ∀ x ∈ p1, x.block < W.heap.size := by obtain ⟨m, hm⟩ := k1; exact DataW.trod_lt m _ _ _ hm
  obtain ⟨c1, rfl, z1⟩ := ent_arg (j := 1) (hval 1 36 v1 rfl rfl) h1 hsz rfl rfl
  clear hA0 hval0 hsz hsz0
  refine (walk s0 n0 a0 len0 cap0 l0 c0 z0 x0 c1 z1 W w0 (of_laid hL)).mono fun e W' ⟨he, bel⟩ => ?_
  subst he
  exact ⟨_, rfl, _, _, _, [], _, [], hW', trodAll_mk1 (shut_bool Tryd.underlying4 _), (trodAll_cons_mk (Below.trod laidOut (by kernel_rfl) (of_decide_eq_true (by kernel_rfl)) k0 bel lt0) (trodAll_cons_mk (Below.trod laidOut (by kernel_rfl) (of_decide_eq_true (by kernel_rfl)) k1 bel lt1) trodAll_mk0)), rfl, bel.frame _, fun h => by cases h⟩

theorem over : Rows.auditChainsRow.holds Tryd.pinned (OpenSpec.ofChange Rows.auditChainsSpec) :=
  OpenClaim.holds_of_wide 6 Tryd.f6 rfl rfl rfl rfl rfl rfl rfl ⟨rfl, rfl, rfl, rfl, rfl⟩ rfl rfl rfl rfl rfl (by kernel_rfl) Tryd.func6 (by kernel_rfl)
    (of_decide_eq_true (by kernel_rfl)) (by unfold Func.isWrapper; first | (rw [if_pos (by decide +kernel)]; kernel_rfl) | (rw [if_neg (by decide +kernel)]; exact ⟨rfl, rfl⟩))
    (fun os started H enc _ => lifted os started H enc)

end Go.Proofs.YtkhidkilkbmpoaaDoor.auditChains
namespace Go.Proofs.YtkhidkilkbmpoaaDoor
/-- The given statement. -/
theorem auditChains_holds : Rows.AuditChainsCardSaid :=
  Claim7.holds_tied_plain_at .later [] [.data, .data] true (true, "c0eea24fd7221e3afb955dddc54761337ed5996520cfcdb0e8757455c9d47393") false
    auditChains.over (fun _ h => by cases h) (by kernel_rfl) (fun _ h => by cases h) auditChains_row_tie rfl ⟨rfl, rfl⟩ (by kernel_rfl) rfl
    (fun f fn hf hfn => by
      obtain rfl : f = 6 := Option.some.inj ((show Tryd.prog.funcNamed "strongroom/strongroomlaw13.AuditChains" = some 6 by kernel_rfl).symm.trans hf) |>.symm
      obtain rfl : fn = Tryd.f6 := (Option.some.inj (Tryd.func6.symm.trans hfn)).symm
      exact ⟨by kernel_rfl, fun j t ht => by
        rw [Tryd.params6] at ht
        rcases j with _ | _ | j
        · obtain rfl : t = 24 := by simpa using ht.symm
          exact (show Tryd.prog.wantsStandIn 24 = false by kernel_rfl)
        · obtain rfl : t = 36 := by simpa using ht.symm
          exact (show Tryd.prog.wantsStandIn 36 = false by kernel_rfl)
        · simp at ht
      ⟩)
    (by kernel_rfl)
#print axioms auditChains_holds
end Go.Proofs.YtkhidkilkbmpoaaDoor
