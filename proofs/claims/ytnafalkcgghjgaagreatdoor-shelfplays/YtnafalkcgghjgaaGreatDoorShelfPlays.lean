/- ShelfPlays: a table is the plain map, whatever is put, dropped, asked, committed, aborted and opened again. -/
import Derived.Test.YtnafalkcgghjgaaGreatDoorTI
import Derived.Test.YtnafalkcgghjgaaGreatDoorCards
import Derived.Test.YtnafalkcgghjgaaGreatDoorTie
import Derived.WalkKit
import Derived.ProofKit
import Derived.OpenShut
import Derived.ShutString
import Derived.ChangeOld
import Derived.Below
import Derived.LaidMore
import Derived.Lay
import Derived.Stop.Joined
import Derived.SevenTiedAt
namespace Go.Proofs.YtnafalkcgghjgaaGreatDoor.shelfPlays
open Go.ChangeShapes Go.WideShapes Go.ChangeAt Go.RowKit
theorem own : ownKnob Tryz.prog.godebug = none := by kernel_rfl
theorem laidOut : laidOutB Tryz.prog = true := by kernel_rfl

set_option maxRecDepth 100000 in
set_option maxHeartbeats 16000000 in
theorem walk (x0 : Int) (z0 : -9223372036854775808 ≤ x0 ∧ x0 ≤ 9223372036854775807) (a1 : Option Addr) (len1 cap1 : Nat) (l1 : List OV) (_y1 : len1 ≤ 140737488351232) (w : World) (w1 : Os w a1 len1 cap1 l1) :
    Calls Tryz.prog 3 #[.int .i64 x0, .slice a1 len1 cap1] w fun e w' => e = .returned (.bool true) ∧ Below w.heap.size w w' := by
  by_cases hx : x0 < 2 ∨ 12 < x0
  · have HO := opened_none x0 w hx
    have HLV := lives_h (Below.refl w.heap.size w)
    by_cases hx2 : x0 < 2
    · clear hx
      go_enter Tryz.func3, Tryz.ntmps3
      go_wp2_with fail
      refine HO.mono ?_
      rintro e V ⟨rfl, hV⟩
      subst V
      clear HO
      go_wp2_with fail
      refine HLV.mono ?_
      rintro e Z ⟨rfl, hbz⟩
      have HBZ : Hid (Below w.heap.size w Z) := hbz
      clear HLV hbz
      go_wp2
      go_ret
      exact ⟨rfl, HBZ.out⟩
    · have hx3 : 12 < x0 := by omega
      clear hx
      go_enter Tryz.func3, Tryz.ntmps3
      go_wp2_with fail
      refine HO.mono ?_
      rintro e V ⟨rfl, hV⟩
      subst V
      clear HO
      go_wp2_with fail
      refine HLV.mono ?_
      rintro e Z ⟨rfl, hbz⟩
      have HBZ : Hid (Below w.heap.size w Z) := hbz
      clear HLV hbz
      go_wp2
      go_ret
      exact ⟨rfl, HBZ.out⟩
  · obtain ⟨n, rfl⟩ : ∃ n : Nat, x0 = (n : Int) := Int.eq_ofNat_of_zero_le (by omega)
    have hn2 : 2 ≤ n := by omega
    have hn12 : n ≤ 12 := by omega
    have HO := opened_any n hn2 hn12 w
    have HOS : Hid (Os w a1 len1 cap1 l1) := w1
    clear hx z0 w1
    go_enter Tryz.func3, Tryz.ntmps3
    go_wp2_with fail
    refine HO.mono ?_
    rintro e V0 ⟨g, jb, sb0, FF, S, KK, rfl, ht, hl, hj, hb⟩
    have HP0 : Hid (Pl w V0 g jb n sb0 0 [] none 0 0 [] none 0 0 []) := by
      have hfl : flat (lfs KK) = [] := by rw [hl]; rfl
      refine ⟨FF, S, _, KK, KK, ht, hfl, hfl, Rw.zero _ _ _ _ _ _ (Nat.zero_le _), Rw.zero _ _ _ _ _ _ (Nat.zero_le _), Good.new n, ?_, Nat.zero_le _, hb⟩
      rw [hl]
      exact enc_empty (pages_new n (by omega))
    clear HO ht hl hj hb
    go_wp2
    go_loopw [7, 8, 9, 10] (fun vs vl vg vi wr => ∃ (i sb : Nat) (a : Option Addr) (la ca : Nat) (T : List Pr) (b : Option Addr) (lb cb : Nat) (G : List Pr), i ≤ len1 ∧ i ≤ 60 ∧ vi = .int .i64 i ∧ vs = .pointer (some ⟨sb, 0, none⟩) ∧ vl = .slice a la ca ∧ vg = .slice b lb cb ∧ Pl w wr g jb n sb i T a la ca T b lb cb G) (fun _ _ _ vi _ => 61 - (intOf vi).toNat)
    case atStart => exact ⟨0, sb0, none, 0, 0, [], none, 0, 0, [], by omega, by omega, rfl, rfl, rfl, rfl, HP0.out⟩
    case round =>
      clear HP0
      obtain ⟨i, sb, a, la, ca, T, b, lb, cb, G, hi1, hi2, rfl, rfl, rfl, rfl, hp⟩ := hrel
      by_cases hgo : i < len1 ∧ i < 60
      · have k1 : (i : Int) < (len1 : Int) := by omega
        have k2 : (i : Int) < 60 := by omega
        obtain ⟨b2, oo, ⟨kd, nn, lo, ke, ti, va⟩, rfl, hb2, hin, hcs⟩ := HOS.out.cells (i := i) hgo.1
        obtain ⟨e0, e1, e2, e3, e4, e5⟩ := hcs wr hp.on
        simp only at e0 e1 e2 e3 e4 e5
        have HIN : Hid (OV.In ⟨kd, nn, lo, ke, ti, va⟩) := hin
        obtain ⟨ob, hob⟩ : ∃ ob, wr.heap.size = ob := ⟨_, rfl⟩
        obtain ⟨W1, hW1⟩ : ∃ W1, wr.alloc (.cells #[.int .i64 kd, .int .i64 nn, .int .i64 lo, .string ke, .string ti, .string va] 31) = W1 := ⟨_, rfl⟩
        have hbw1 : Below wr.heap.size wr W1 := by rw [← hW1]; exact (Below.refl _ wr).alloc (Nat.le_refl _) _
        have r1 : W1.heap[ob]? = some (.cells #[.int .i64 kd, .int .i64 nn, .int .i64 lo, .string ke, .string ti, .string va] 31 (0, 0)) := by rw [← hW1, ← hob]; exact heap_alloc_new wr _
        have HPO1 : Hid (Plo w W1 g jb n sb i T a la ca T b lb cb G ob (.cells #[.int .i64 kd, .int .i64 nn, .int .i64 lo, .string ke, .string ti, .string va] 31 (0, 0))) := hp.plo hbw1 (by omega) r1
        have HLI : Calls Tryz.prog 10 #[.agg #[.int .i64 kd, .int .i64 nn, .int .i64 lo, .string ke, .string ti, .string va]] W1 fun e w' => e = .returned (.bool (decide (OV.w ⟨kd, nn, lo, ke, ti, va⟩ ≤ 2000))) ∧ Below W1.heap.size W1 w' := light_any ⟨kd, nn, lo, ke, ti, va⟩ hin W1
        obtain ⟨c0, c1, c2, c3, c4, c5⟩ : W1.cell? ⟨ob, 0, none⟩ = some (.int .i64 kd) ∧ W1.cell? ⟨ob, 1, none⟩ = some (.int .i64 nn) ∧ W1.cell? ⟨ob, 2, none⟩ = some (.int .i64 lo) ∧ W1.cell? ⟨ob, 3, none⟩ = some (.string ke) ∧ W1.cell? ⟨ob, 4, none⟩ = some (.string ti) ∧ W1.cell? ⟨ob, 5, none⟩ = some (.string va) := ⟨by rw [cell_of_row _ _ _ _ _ _ r1]; rfl, by rw [cell_of_row _ _ _ _ _ _ r1]; rfl, by rw [cell_of_row _ _ _ _ _ _ r1]; rfl, by rw [cell_of_row _ _ _ _ _ _ r1]; rfl, by rw [cell_of_row _ _ _ _ _ _ r1]; rfl, by rw [cell_of_row _ _ _ _ _ _ r1]; rfl⟩
        obtain ⟨q, hq⟩ : ∃ q, decide (OV.w ⟨kd, nn, lo, ke, ti, va⟩ ≤ 2000) = q := ⟨_, rfl⟩
        rw [hq] at HLI
        clear hq hcs hin hp hbw1 r1 hgo hb2
        go_wp2_with fail
        refine HLI.mono ?_
        rintro e V1 ⟨rfl, hb1⟩
        have HPO : Hid (Plo w V1 g jb n sb i T a la ca T b lb cb G ob (.cells #[.int .i64 kd, .int .i64 nn, .int .i64 lo, .string ke, .string ti, .string va] 31 (0, 0))) := HPO1.out.below hb1
        have r2 := HPO.out.blk
        have hobl : ob < V1.heap.size := lt_of_some r2
        have HPL : Hid (Pl w V1 g jb n sb i T a la ca T b lb cb G) := HPO.out.pl
        obtain ⟨d0, d1, d2, d3, d4, d5⟩ : V1.cell? ⟨ob, 0, none⟩ = some (.int .i64 kd) ∧ V1.cell? ⟨ob, 1, none⟩ = some (.int .i64 nn) ∧ V1.cell? ⟨ob, 2, none⟩ = some (.int .i64 lo) ∧ V1.cell? ⟨ob, 3, none⟩ = some (.string ke) ∧ V1.cell? ⟨ob, 4, none⟩ = some (.string ti) ∧ V1.cell? ⟨ob, 5, none⟩ = some (.string va) := ⟨by rw [cell_of_row _ _ _ _ _ _ r2]; rfl, by rw [cell_of_row _ _ _ _ _ _ r2]; rfl, by rw [cell_of_row _ _ _ _ _ _ r2]; rfl, by rw [cell_of_row _ _ _ _ _ _ r2]; rfl, by rw [cell_of_row _ _ _ _ _ _ r2]; rfl, by rw [cell_of_row _ _ _ _ _ _ r2]; rfl⟩
        clear HLI hb1 HPO1 r2 c0 c1 c2 c3 c4 c5 e0 e1 e2 e3 e4 e5 hW1 hob
        cases q with
        | false =>
          have HLV := lives_h HPL.out.on
          clear d0 d1 d2 d3 d4 d5
          go_wp2_with fail
          refine HLV.mono ?_
          rintro e Z ⟨rfl, hbz⟩
          have HBZ : Hid (Below w.heap.size w Z) := hbz
          clear HLV hbz
          go_wp2
          go_ret
          exact ⟨rfl, HBZ.out⟩
        | true =>
          by_cases hk0 : kd = 0
          · have kb0 : (kd == 0) = true := by rw [hk0]; rfl
            have HOC : Hid (∀ V : World, V.heap[ob]? = some (.cells #[.int .i64 kd, .int .i64 nn, .int .i64 lo, .string ke, .string ti, .string va] 31 (0, 0)) → V.cell? ⟨ob, 0, none⟩ = some (.int .i64 kd) ∧ V.cell? ⟨ob, 1, none⟩ = some (.int .i64 nn) ∧ V.cell? ⟨ob, 2, none⟩ = some (.int .i64 lo) ∧ V.cell? ⟨ob, 3, none⟩ = some (.string ke) ∧ V.cell? ⟨ob, 4, none⟩ = some (.string ti) ∧ V.cell? ⟨ob, 5, none⟩ = some (.string va)) := fun V hV => ⟨by rw [cell_of_row _ _ _ _ _ _ hV]; rfl, by rw [cell_of_row _ _ _ _ _ _ hV]; rfl, by rw [cell_of_row _ _ _ _ _ _ hV]; rfl, by rw [cell_of_row _ _ _ _ _ _ hV]; rfl, by rw [cell_of_row _ _ _ _ _ _ hV]; rfl, by rw [cell_of_row _ _ _ _ _ _ hV]; rfl⟩
            have HO1 : Hid (Plo w V1.drew g jb n sb i T a la ca T b lb cb G ob (.cells #[.int .i64 kd, .int .i64 nn, .int .i64 lo, .string ke, .string ti, .string va] 31 (0, 0))) := HPO.out.below (Below.refl _ _).drew
            obtain ⟨vv, hvv⟩ : ∃ vv, OV.val ⟨kd, nn, lo, ke, ti, va⟩ = vv := ⟨_, rfl⟩
            have HVA : Hid (Calls Tryz.prog 12 #[.agg #[.int .i64 kd, .int .i64 nn, .int .i64 lo, .string ke, .string ti, .string va]] V1.drew fun e w' => e = .returned (.string vv) ∧ Below V1.drew.heap.size V1.drew w') := by rw [← hvv]; exact value_any ⟨kd, nn, lo, ke, ti, va⟩ HIN.out V1.drew
            have HVS : Hid (vv.size ≤ 140737488351232) := by rw [← hvv]; exact val_le _ HIN.out
            have HKS : Hid (ke.size ≤ 140737488351232) := HIN.out.2.2.2.1
            have HCD : Hid ((fun V : World => V.cell? ⟨ob, 0, none⟩ = some (.int .i64 kd) ∧ V.cell? ⟨ob, 1, none⟩ = some (.int .i64 nn) ∧ V.cell? ⟨ob, 2, none⟩ = some (.int .i64 lo) ∧ V.cell? ⟨ob, 3, none⟩ = some (.string ke) ∧ V.cell? ⟨ob, 4, none⟩ = some (.string ti) ∧ V.cell? ⟨ob, 5, none⟩ = some (.string va)) V1.drew) := HOC.out _ HO1.out.blk
            have HKD : Hid (kd = 0) := hk0
            clear hvv hk0
            go_wp2
            refine wp_region_held_drew (S := fun V => V.cell? ⟨ob, 0, none⟩ = some (.int .i64 kd) ∧ V.cell? ⟨ob, 1, none⟩ = some (.int .i64 nn) ∧ V.cell? ⟨ob, 2, none⟩ = some (.int .i64 lo) ∧ V.cell? ⟨ob, 3, none⟩ = some (.string ke) ∧ V.cell? ⟨ob, 4, none⟩ = some (.string ti) ∧ V.cell? ⟨ob, 5, none⟩ = some (.string va)) (by kernel_rfl) (HCD.out) (fun hHeld => ?_)
            refine wpAnyH_take (i := 0) (v := ?vp0) rfl (by kernel_rfl) (by kernel_rfl) (by kernel_rfl) (fun _ _ _ h => h) (Or.inl ⟨by first | kernel_rfl | rfl, ?yp0⟩) hHeld ?rp0
            case yp0 => (intro W hSW; (try dsimp only at hSW); go_simp; (try with_reducible rfl))
            change wpAnyH _ _ _ _ _ _ _ (Act.put _ (some 61) _) _
            simp only [Act.put, List.setIfInBounds_toArray, List.set_cons_zero, List.set_cons_succ]
            refine wpAnyH_take (i := 1) (v := ?vp1) rfl (by kernel_rfl) (by kernel_rfl) (by kernel_rfl) (fun _ _ _ h => h) (Or.inl ⟨by first | kernel_rfl | rfl, ?yp1⟩) hHeld ?rp1
            case yp1 => (intro W hSW; (try dsimp only at hSW); go_simp; (try with_reducible rfl))
            change wpAnyH _ _ _ _ _ _ _ (Act.put _ (some 62) _) _
            simp only [Act.put, List.setIfInBounds_toArray, List.set_cons_zero, List.set_cons_succ]
            refine wpAnyH_take (i := 2) (v := ?vp2) rfl (by kernel_rfl) (by kernel_rfl) (by kernel_rfl) (fun _ _ _ h => h) (Or.inl ⟨by first | kernel_rfl | rfl, ?yp2⟩) hHeld ?rp2
            case yp2 => (intro W hSW; (try dsimp only at hSW); go_simp; (try with_reducible rfl))
            change wpAnyH _ _ _ _ _ _ _ (Act.put _ (some 63) _) _
            simp only [Act.put, List.setIfInBounds_toArray, List.set_cons_zero, List.set_cons_succ]
            refine wpAnyH_take (i := 3) (v := ?vp3) rfl (by kernel_rfl) (by kernel_rfl) (by kernel_rfl) (fun _ _ _ h => h) (Or.inl ⟨by first | kernel_rfl | rfl, ?yp3⟩) hHeld ?rp3
            case yp3 => (intro W hSW; (try dsimp only at hSW); go_simp; (try with_reducible rfl))
            change wpAnyH _ _ _ _ _ _ _ (Act.put _ (some 64) _) _
            simp only [Act.put, List.setIfInBounds_toArray, List.set_cons_zero, List.set_cons_succ]
            refine wpAnyH_take (i := 4) (v := ?vp4) rfl (by kernel_rfl) (by kernel_rfl) (by kernel_rfl) (fun _ _ _ h => h) (Or.inl ⟨by first | kernel_rfl | rfl, ?yp4⟩) hHeld ?rp4
            case yp4 => (intro W hSW; (try dsimp only at hSW); go_simp; (try with_reducible rfl))
            change wpAnyH _ _ _ _ _ _ _ (Act.put _ (some 65) _) _
            simp only [Act.put, List.setIfInBounds_toArray, List.set_cons_zero, List.set_cons_succ]
            refine wpAnyH_take (i := 5) (v := ?vp5) rfl (by kernel_rfl) (by kernel_rfl) (by kernel_rfl) (fun _ _ _ h => h) (Or.inl ⟨by first | kernel_rfl | rfl, ?yp5⟩) hHeld ?rp5
            case yp5 => (intro W hSW; (try dsimp only at hSW); go_simp; (try with_reducible rfl))
            change wpAnyH _ _ _ _ _ _ _ (Act.put _ (some 66) _) _
            simp only [Act.put, List.setIfInBounds_toArray, List.set_cons_zero, List.set_cons_succ]
            refine wpAnyH_ready (rs := [6]) (by kernel_rfl) (by simp) ?_
            refine AllReadyH.cons rfl (fun K hK => ?_) AllReadyH.nil
            go_simp
            refine (HVA.out).mono ?_
            rintro e V2 ⟨rfl, hb2⟩; have HO2 : Hid (Plo w V2 g jb n sb i T a la ca T b lb cb G ob (.cells #[.int .i64 kd, .int .i64 nn, .int .i64 lo, .string ke, .string ti, .string va] 31 (0, 0))) := HO1.out.below hb2; clear hb2
            refine hK.out _ _ (HOC.out _ HO2.out.blk) (fun hHeld => ?_)
            clear hK K
            try simp only [Act.put, List.setIfInBounds_toArray, List.set_cons_zero, List.set_cons_succ]
            refine wpAnyH_ready (rs := [7]) (by kernel_rfl) (by simp) ?_
            refine AllReadyH.cons rfl (fun K hK => ?_) AllReadyH.nil
            go_simp
            refine (pl_put HO2.out ke vv HKS.out HVS.out).mono ?_
            rintro e V3 ⟨pa, pn, pc, T3, rfl, ho3⟩; have HO3 : Hid (Plo w V3 g jb n sb i T3 pa pn pc T3 b lb cb G ob (.cells #[.int .i64 kd, .int .i64 nn, .int .i64 lo, .string ke, .string ti, .string va] 31 (0, 0))) := ho3; clear ho3
            refine hK.out _ _ (HOC.out _ HO3.out.blk) (fun hHeld => ?_)
            clear hK K
            try simp only [Act.put, List.setIfInBounds_toArray, List.set_cons_zero, List.set_cons_succ]
            refine wpAnyH_take (i := 8) (v := ?vp8) rfl (by kernel_rfl) (by kernel_rfl) (by kernel_rfl) (fun _ _ _ h => h) (Or.inl ⟨by first | kernel_rfl | rfl, ?yp8⟩) hHeld ?rp8
            case yp8 => (intro W hSW; (try dsimp only at hSW); go_simp; (try with_reducible rfl))
            change wpAnyH _ _ _ _ _ _ _ (Act.put _ (some 60) _) _
            simp only [Act.put, List.setIfInBounds_toArray, List.set_cons_zero, List.set_cons_succ]
            refine wpAnyH_take (i := 9) (v := ?vp9) rfl (by kernel_rfl) (by kernel_rfl) (by kernel_rfl) (fun _ _ _ h => h) (Or.inl ⟨by first | kernel_rfl | rfl, ?yp9⟩) hHeld ?rp9
            case yp9 => (intro W hSW; (try dsimp only at hSW); go_simp; (try with_reducible rfl))
            change wpAnyH _ _ _ _ _ _ _ (Act.put _ (some 69) _) _
            simp only [Act.put, List.setIfInBounds_toArray, List.set_cons_zero, List.set_cons_succ]
            refine wpAnyH_take (i := 10) (v := ?vp10) rfl (by kernel_rfl) (by kernel_rfl) (by kernel_rfl) (fun _ _ _ h => h) (Or.inl ⟨by first | kernel_rfl | rfl, ?yp10⟩) hHeld ?rp10
            case yp10 => (intro W hSW; (try dsimp only at hSW); go_simp; (try with_reducible rfl))
            change wpAnyH _ _ _ _ _ _ _ (Act.put _ (some 70) _) _
            simp only [Act.put, List.setIfInBounds_toArray, List.set_cons_zero, List.set_cons_succ]
            refine wpAnyH_take (i := 11) (v := ?vp11) rfl (by kernel_rfl) (by kernel_rfl) (by kernel_rfl) (fun _ _ _ h => h) (Or.inl ⟨by first | kernel_rfl | rfl, ?yp11⟩) hHeld ?rp11
            case yp11 => (intro W hSW; (try dsimp only at hSW); go_simp; (try with_reducible rfl))
            change wpAnyH _ _ _ _ _ _ _ (Act.put _ (some 8) _) _
            simp only [Act.put, List.setIfInBounds_toArray, List.set_cons_zero, List.set_cons_succ]
            refine wpAnyH_take (i := 12) (v := ?vp12) rfl (by kernel_rfl) (by kernel_rfl) (by kernel_rfl) (fun _ _ _ h => h) (Or.inl ⟨by first | kernel_rfl | rfl, ?yp12⟩) hHeld ?rp12
            case yp12 => (intro W hSW; (try dsimp only at hSW); go_simp; (try with_reducible rfl))
            change wpAnyH _ _ _ _ _ _ _ (Act.put _ (some 12) _) _
            simp only [Act.put, List.setIfInBounds_toArray, List.set_cons_zero, List.set_cons_succ]
            refine wpAnyH_done (by kernel_rfl) ?_ _
            have HK : Hid (Pl w V3 g jb n sb (i + 1) T3 pa pn pc T3 b lb cb G) := HO3.out.pl.next
            clear hHeld HO1 HO2 HO3 HVA HVS HKS HCD HOC
            have HLN := pl_len HK.out
            rw [HK.out.few.2.2.1] at HLN
            go_wp2_with fail
            refine HLN.mono ?_
            rintro e U1 ⟨rfl, hk, _⟩
            have HK1 : Hid (Pl w U1 g jb n sb (i + 1) T3 pa pn pc T3 b lb cb G) := hk
            have HSZ := pl_size HK1.out
            obtain ⟨z, hz⟩ : ∃ z, szL T3 = z := ⟨_, rfl⟩
            have HZ : Hid (szL T3 = z) := hz
            rw [hz] at HSZ
            clear HLN hk HK hz
            go_wp2_with fail
            refine HSZ.mono ?_
            rintro e U2 ⟨rfl, hk, _⟩
            have HK2 : Hid (Pl w U2 g jb n sb (i + 1) T3 pa pn pc T3 b lb cb G) := hk
            have HRS := pl_rsize HK2.out
            rw [HZ.out] at HRS
            clear HSZ hk HK1
            go_wp2_with fail
            refine HRS.mono ?_
            rintro e U3 ⟨rfl, hk, _⟩
            have HK3 : Hid (Pl w U3 g jb n sb (i + 1) T3 pa pn pc T3 b lb cb G) := hk
            have HAL := pl_all HK3.out
            clear HRS hk HK2
            go_wp2_with fail
            refine HAL.mono ?_
            rintro e U4 ⟨ra, rn, rc, rfl, hpr, hk, _⟩
            have HK4 : Hid (Pl w U4 g jb n sb (i + 1) T3 pa pn pc T3 b lb cb G) := hk
            have HSA := same_any hpr (pl_row_a hk)
            rw [decide_eq_true rfl] at HSA
            clear HAL hk HK3 hpr
            go_wp2_with fail
            refine HSA.mono ?_
            rintro e U5 ⟨rfl, hb5⟩
            have HK5 : Hid (Pl w U5 g jb n sb (i + 1) T3 pa pn pc T3 b lb cb G) := HK4.out.below hb5
            clear HSA hb5 HK4
            go_wp2
            exact ⟨⟨i + 1, sb, pa, pn, pc, T3, b, lb, cb, G, by omega, by omega, by go_num, rfl, rfl, rfl, HK5.out⟩, by simp [intOf]; omega⟩
          have kb0 : (kd == 0) = false := by simpa using hk0
          by_cases hk1 : kd = 1
          · have kb1 : (kd == 1) = true := by rw [hk1]; rfl
            have HKD : Hid (kd = 1) := hk1
            clear hk1
            have HRD := pl_rdrop HPL.out ke
            go_wp2_with fail
            refine HRD.mono ?_
            rintro e V2 ⟨da, dn, dc, rfl, hk2, hb2⟩
            have f3 : V2.cell? ⟨ob, 3, none⟩ = some (.string ke) := by rw [hb2.cell hobl]; exact d3
            have HDR := pl_drop ke hk2
            obtain ⟨it, hit⟩ : ∃ it, isT T ke = it := ⟨_, rfl⟩
            obtain ⟨T3, hT3⟩ : ∃ T3, dropT T ke = T3 := ⟨_, rfl⟩
            rw [hit, hT3] at HDR
            rw [hit]
            clear HRD hk2 hb2 hit hT3 d0 d1 d2 d3 d4 d5
            go_wp2_with fail
            refine HDR.mono ?_
            rintro e V3 ⟨rfl, hk3⟩
            have HK : Hid (Pl w V3 g jb n sb (i + 1) T3 da dn dc T3 b lb cb G) := hk3.next
            clear HDR hk3 f3
            have hitb : (it == it) = true := by simp
            have HLN := pl_len HK.out
            rw [HK.out.few.2.2.1] at HLN
            go_wp2_with fail
            refine HLN.mono ?_
            rintro e U1 ⟨rfl, hk, _⟩
            have HK1 : Hid (Pl w U1 g jb n sb (i + 1) T3 da dn dc T3 b lb cb G) := hk
            have HSZ := pl_size HK1.out
            obtain ⟨z, hz⟩ : ∃ z, szL T3 = z := ⟨_, rfl⟩
            have HZ : Hid (szL T3 = z) := hz
            rw [hz] at HSZ
            clear HLN hk HK hz
            go_wp2_with fail
            refine HSZ.mono ?_
            rintro e U2 ⟨rfl, hk, _⟩
            have HK2 : Hid (Pl w U2 g jb n sb (i + 1) T3 da dn dc T3 b lb cb G) := hk
            have HRS := pl_rsize HK2.out
            rw [HZ.out] at HRS
            clear HSZ hk HK1
            go_wp2_with fail
            refine HRS.mono ?_
            rintro e U3 ⟨rfl, hk, _⟩
            have HK3 : Hid (Pl w U3 g jb n sb (i + 1) T3 da dn dc T3 b lb cb G) := hk
            have HAL := pl_all HK3.out
            clear HRS hk HK2
            go_wp2_with fail
            refine HAL.mono ?_
            rintro e U4 ⟨ra, rn, rc, rfl, hpr, hk, _⟩
            have HK4 : Hid (Pl w U4 g jb n sb (i + 1) T3 da dn dc T3 b lb cb G) := hk
            have HSA := same_any hpr (pl_row_a hk)
            rw [decide_eq_true rfl] at HSA
            clear HAL hk HK3 hpr
            go_wp2_with fail
            refine HSA.mono ?_
            rintro e U5 ⟨rfl, hb5⟩
            have HK5 : Hid (Pl w U5 g jb n sb (i + 1) T3 da dn dc T3 b lb cb G) := HK4.out.below hb5
            clear HSA hb5 HK4
            go_wp2
            exact ⟨⟨i + 1, sb, da, dn, dc, T3, b, lb, cb, G, by omega, by omega, by go_num, rfl, rfl, rfl, HK5.out⟩, by simp [intOf]; omega⟩
          have kb1 : (kd == 1) = false := by simpa using hk1
          by_cases hk2 : kd = 2
          · have kb2 : (kd == 2) = true := by rw [hk2]; rfl
            have HKD : Hid (kd = 2) := hk2
            clear hk2
            have HG := pl_get HPL.out ke
            obtain ⟨it, hit⟩ : ∃ it, isT T ke = it := ⟨_, rfl⟩
            obtain ⟨gv, hgv⟩ : ∃ gv, (getT T ke).getD ByteArray.empty = gv := ⟨_, rfl⟩
            have HIG : Hid (isT T ke = it ∧ (getT T ke).getD ByteArray.empty = gv) := ⟨hit, hgv⟩
            rw [hit, hgv] at HG
            clear hit hgv
            go_wp2_with fail
            refine HG.mono ?_
            rintro e V2 ⟨rfl, hk2, hb2⟩
            have f3 : V2.cell? ⟨ob, 3, none⟩ = some (.string ke) := by rw [hb2.cell hobl]; exact d3
            have HRG := pl_rget hk2 ke
            rw [HIG.out.1, HIG.out.2] at HRG
            clear HG hk2 hb2 d0 d1 d2 d3 d4 d5
            go_wp2_with fail
            refine HRG.mono ?_
            rintro e V3 ⟨rfl, hk3, _⟩
            have HK : Hid (Pl w V3 g jb n sb (i + 1) T a la ca T b lb cb G) := hk3.next
            clear HRG hk3 f3
            have hitb : (it == it) = true := by simp
            have hgvb : (gv.toList == gv.toList) = true := by simp
            have HLN := pl_len HK.out
            rw [HK.out.few.2.2.1] at HLN
            go_wp2_with fail
            refine HLN.mono ?_
            rintro e U1 ⟨rfl, hk, _⟩
            have HK1 : Hid (Pl w U1 g jb n sb (i + 1) T a la ca T b lb cb G) := hk
            have HSZ := pl_size HK1.out
            obtain ⟨z, hz⟩ : ∃ z, szL T = z := ⟨_, rfl⟩
            have HZ : Hid (szL T = z) := hz
            rw [hz] at HSZ
            clear HLN hk HK hz
            go_wp2_with fail
            refine HSZ.mono ?_
            rintro e U2 ⟨rfl, hk, _⟩
            have HK2 : Hid (Pl w U2 g jb n sb (i + 1) T a la ca T b lb cb G) := hk
            have HRS := pl_rsize HK2.out
            rw [HZ.out] at HRS
            clear HSZ hk HK1
            go_wp2_with fail
            refine HRS.mono ?_
            rintro e U3 ⟨rfl, hk, _⟩
            have HK3 : Hid (Pl w U3 g jb n sb (i + 1) T a la ca T b lb cb G) := hk
            have HAL := pl_all HK3.out
            clear HRS hk HK2
            go_wp2_with fail
            refine HAL.mono ?_
            rintro e U4 ⟨ra, rn, rc, rfl, hpr, hk, _⟩
            have HK4 : Hid (Pl w U4 g jb n sb (i + 1) T a la ca T b lb cb G) := hk
            have HSA := same_any hpr (pl_row_a hk)
            rw [decide_eq_true rfl] at HSA
            clear HAL hk HK3 hpr
            go_wp2_with fail
            refine HSA.mono ?_
            rintro e U5 ⟨rfl, hb5⟩
            have HK5 : Hid (Pl w U5 g jb n sb (i + 1) T a la ca T b lb cb G) := HK4.out.below hb5
            clear HSA hb5 HK4
            go_wp2
            exact ⟨⟨i + 1, sb, a, la, ca, T, b, lb, cb, G, by omega, by omega, by go_num, rfl, rfl, rfl, HK5.out⟩, by simp [intOf]; omega⟩
          have kb2 : (kd == 2) = false := by simpa using hk2
          by_cases hk3 : kd = 3
          · have kb3 : (kd == 3) = true := by rw [hk3]; rfl
            have HKD : Hid (kd = 3) := hk3
            clear hk3
            have HCS : Hid (∀ V, Below V1.heap.size V1 V → V.cell? ⟨ob, 0, none⟩ = some (.int .i64 kd) ∧ V.cell? ⟨ob, 1, none⟩ = some (.int .i64 nn) ∧ V.cell? ⟨ob, 2, none⟩ = some (.int .i64 lo) ∧ V.cell? ⟨ob, 3, none⟩ = some (.string ke) ∧ V.cell? ⟨ob, 4, none⟩ = some (.string ti) ∧ V.cell? ⟨ob, 5, none⟩ = some (.string va)) := fun V hV => ⟨by rw [hV.cell hobl]; exact d0, by rw [hV.cell hobl]; exact d1, by rw [hV.cell hobl]; exact d2, by rw [hV.cell hobl]; exact d3, by rw [hV.cell hobl]; exact d4, by rw [hV.cell hobl]; exact d5⟩
            have HRA : Hid (Calls Tryz.prog 18 #[.pointer (some ⟨sb, 0, none⟩), .string ke, .string ti, .int .i64 nn] V1.drew fun e w' => ∃ (ra : Option Addr) (rn rc : Nat), e = .returned (.slice ra rn rc) ∧ Pw (fun _ => True) w' ra rn rc (rangeT T ke ti nn) ∧ Pl w w' g jb n sb i T a la ca T b lb cb G ∧ Below V1.drew.heap.size V1.drew w') := pl_range (HPL.out.below (Below.refl _ _).drew) ke ti nn
            go_wp2
            refine wp_region_held_drew (S := fun V => V.cell? ⟨ob, 0, none⟩ = some (.int .i64 kd) ∧ V.cell? ⟨ob, 1, none⟩ = some (.int .i64 nn) ∧ V.cell? ⟨ob, 2, none⟩ = some (.int .i64 lo) ∧ V.cell? ⟨ob, 3, none⟩ = some (.string ke) ∧ V.cell? ⟨ob, 4, none⟩ = some (.string ti) ∧ V.cell? ⟨ob, 5, none⟩ = some (.string va)) (by kernel_rfl) (HCS.out _ (Below.refl _ V1).drew) (fun hHeld => ?_)
            refine wpAnyH_take (i := 0) (v := ?vq0) rfl (by kernel_rfl) (by kernel_rfl) (by kernel_rfl) (fun _ _ _ h => h) (Or.inl ⟨by first | kernel_rfl | rfl, ?yq0⟩) hHeld ?rq0
            case yq0 => (intro W hSW; (try dsimp only at hSW); go_simp; (try with_reducible rfl))
            change wpAnyH _ _ _ _ _ _ _ (Act.put _ (some 113) _) _
            simp only [Act.put, List.setIfInBounds_toArray, List.set_cons_zero, List.set_cons_succ]
            refine wpAnyH_take (i := 1) (v := ?vq1) rfl (by kernel_rfl) (by kernel_rfl) (by kernel_rfl) (fun _ _ _ h => h) (Or.inl ⟨by first | kernel_rfl | rfl, ?yq1⟩) hHeld ?rq1
            case yq1 => (intro W hSW; (try dsimp only at hSW); go_simp; (try with_reducible rfl))
            change wpAnyH _ _ _ _ _ _ _ (Act.put _ (some 114) _) _
            simp only [Act.put, List.setIfInBounds_toArray, List.set_cons_zero, List.set_cons_succ]
            refine wpAnyH_take (i := 2) (v := ?vq2) rfl (by kernel_rfl) (by kernel_rfl) (by kernel_rfl) (fun _ _ _ h => h) (Or.inl ⟨by first | kernel_rfl | rfl, ?yq2⟩) hHeld ?rq2
            case yq2 => (intro W hSW; (try dsimp only at hSW); go_simp; (try with_reducible rfl))
            change wpAnyH _ _ _ _ _ _ _ (Act.put _ (some 115) _) _
            simp only [Act.put, List.setIfInBounds_toArray, List.set_cons_zero, List.set_cons_succ]
            refine wpAnyH_take (i := 3) (v := ?vq3) rfl (by kernel_rfl) (by kernel_rfl) (by kernel_rfl) (fun _ _ _ h => h) (Or.inl ⟨by first | kernel_rfl | rfl, ?yq3⟩) hHeld ?rq3
            case yq3 => (intro W hSW; (try dsimp only at hSW); go_simp; (try with_reducible rfl))
            change wpAnyH _ _ _ _ _ _ _ (Act.put _ (some 116) _) _
            simp only [Act.put, List.setIfInBounds_toArray, List.set_cons_zero, List.set_cons_succ]
            refine wpAnyH_take (i := 4) (v := ?vq4) rfl (by kernel_rfl) (by kernel_rfl) (by kernel_rfl) (fun _ _ _ h => h) (Or.inl ⟨by first | kernel_rfl | rfl, ?yq4⟩) hHeld ?rq4
            case yq4 => (intro W hSW; (try dsimp only at hSW); go_simp; (try with_reducible rfl))
            change wpAnyH _ _ _ _ _ _ _ (Act.put _ (some 117) _) _
            simp only [Act.put, List.setIfInBounds_toArray, List.set_cons_zero, List.set_cons_succ]
            refine wpAnyH_take (i := 5) (v := ?vq5) rfl (by kernel_rfl) (by kernel_rfl) (by kernel_rfl) (fun _ _ _ h => h) (Or.inl ⟨by first | kernel_rfl | rfl, ?yq5⟩) hHeld ?rq5
            case yq5 => (intro W hSW; (try dsimp only at hSW); go_simp; (try with_reducible rfl))
            change wpAnyH _ _ _ _ _ _ _ (Act.put _ (some 118) _) _
            simp only [Act.put, List.setIfInBounds_toArray, List.set_cons_zero, List.set_cons_succ]
            refine wpAnyH_take (i := 6) (v := ?vq6) rfl (by kernel_rfl) (by kernel_rfl) (by kernel_rfl) (fun _ _ _ h => h) (Or.inl ⟨by first | kernel_rfl | rfl, ?yq6⟩) hHeld ?rq6
            case yq6 => (intro W hSW; (try dsimp only at hSW); go_simp; (try with_reducible rfl))
            change wpAnyH _ _ _ _ _ _ _ (Act.put _ (some 119) _) _
            simp only [Act.put, List.setIfInBounds_toArray, List.set_cons_zero, List.set_cons_succ]
            refine wpAnyH_take (i := 8) (v := ?vq8) rfl (by kernel_rfl) (by kernel_rfl) (by kernel_rfl) (fun _ _ _ h => h) (Or.inl ⟨by first | kernel_rfl | rfl, ?yq8⟩) hHeld ?rq8
            case yq8 => (intro W hSW; (try dsimp only at hSW); go_simp; (try with_reducible rfl))
            change wpAnyH _ _ _ _ _ _ _ (Act.put _ (some 121) _) _
            simp only [Act.put, List.setIfInBounds_toArray, List.set_cons_zero, List.set_cons_succ]
            refine wpAnyH_take (i := 9) (v := ?vq9) rfl (by kernel_rfl) (by kernel_rfl) (by kernel_rfl) (fun _ _ _ h => h) (Or.inl ⟨by first | kernel_rfl | rfl, ?yq9⟩) hHeld ?rq9
            case yq9 => (intro W hSW; (try dsimp only at hSW); go_simp; (try with_reducible rfl))
            change wpAnyH _ _ _ _ _ _ _ (Act.put _ (some 122) _) _
            simp only [Act.put, List.setIfInBounds_toArray, List.set_cons_zero, List.set_cons_succ]
            refine wpAnyH_take (i := 10) (v := ?vq10) rfl (by kernel_rfl) (by kernel_rfl) (by kernel_rfl) (fun _ _ _ h => h) (Or.inl ⟨by first | kernel_rfl | rfl, ?yq10⟩) hHeld ?rq10
            case yq10 => (intro W hSW; (try dsimp only at hSW); go_simp; (try with_reducible rfl))
            change wpAnyH _ _ _ _ _ _ _ (Act.put _ (some 123) _) _
            simp only [Act.put, List.setIfInBounds_toArray, List.set_cons_zero, List.set_cons_succ]
            refine wpAnyH_take (i := 11) (v := ?vq11) rfl (by kernel_rfl) (by kernel_rfl) (by kernel_rfl) (fun _ _ _ h => h) (Or.inl ⟨by first | kernel_rfl | rfl, ?yq11⟩) hHeld ?rq11
            case yq11 => (intro W hSW; (try dsimp only at hSW); go_simp; (try with_reducible rfl))
            change wpAnyH _ _ _ _ _ _ _ (Act.put _ (some 124) _) _
            simp only [Act.put, List.setIfInBounds_toArray, List.set_cons_zero, List.set_cons_succ]
            refine wpAnyH_take (i := 12) (v := ?vq12) rfl (by kernel_rfl) (by kernel_rfl) (by kernel_rfl) (fun _ _ _ h => h) (Or.inl ⟨by first | kernel_rfl | rfl, ?yq12⟩) hHeld ?rq12
            case yq12 => (intro W hSW; (try dsimp only at hSW); go_simp; (try with_reducible rfl))
            change wpAnyH _ _ _ _ _ _ _ (Act.put _ (some 125) _) _
            simp only [Act.put, List.setIfInBounds_toArray, List.set_cons_zero, List.set_cons_succ]
            refine wpAnyH_take (i := 13) (v := ?vq13) rfl (by kernel_rfl) (by kernel_rfl) (by kernel_rfl) (fun _ _ _ h => h) (Or.inl ⟨by first | kernel_rfl | rfl, ?yq13⟩) hHeld ?rq13
            case yq13 => (intro W hSW; (try dsimp only at hSW); go_simp; (try with_reducible rfl))
            change wpAnyH _ _ _ _ _ _ _ (Act.put _ (some 126) _) _
            simp only [Act.put, List.setIfInBounds_toArray, List.set_cons_zero, List.set_cons_succ]
            refine wpAnyH_take (i := 14) (v := ?vq14) rfl (by kernel_rfl) (by kernel_rfl) (by kernel_rfl) (fun _ _ _ h => h) (Or.inl ⟨by first | kernel_rfl | rfl, ?yq14⟩) hHeld ?rq14
            case yq14 => (intro W hSW; (try dsimp only at hSW); go_simp; (try with_reducible rfl))
            change wpAnyH _ _ _ _ _ _ _ (Act.put _ (some 127) _) _
            simp only [Act.put, List.setIfInBounds_toArray, List.set_cons_zero, List.set_cons_succ]
            refine wpAnyH_ready (rs := [7]) (by kernel_rfl) (by simp) ?_
            refine AllReadyH.cons rfl (fun K hK => ?_) AllReadyH.nil
            go_simp
            refine (HRA.out).mono ?_
            rintro e V2 ⟨xa, xn, xc, rfl, hpx, hk2, hb2⟩; have HK2 : Hid (Pl w V2 g jb n sb i T a la ca T b lb cb G ∧ Pw (fun _ => True) V2 xa xn xc (rangeT T ke ti nn) ∧ Below V1.heap.size V1 V2) := ⟨hk2, hpx, (Below.refl _ V1).drew.trans hb2⟩; clear hpx hk2 hb2
            refine hK.out _ _ (HCS.out _ HK2.out.2.2) (fun hHeld => ?_)
            clear hK K
            try simp only [Act.put, List.setIfInBounds_toArray, List.set_cons_zero, List.set_cons_succ]
            refine wpAnyH_ready (rs := [15]) (by kernel_rfl) (by simp) ?_
            refine AllReadyH.cons rfl (fun K hK => ?_) AllReadyH.nil
            go_simp
            refine (pl_rrange HK2.out.1 ke ti nn).mono ?_
            rintro e V3 ⟨ya, yn, yc, rfl, hpy, hk3, hb3⟩; have HK3 : Hid (Pl w V3 g jb n sb i T a la ca T b lb cb G ∧ Pw (fun _ => True) V3 xa xn xc (rangeT T ke ti nn) ∧ Pw (fun _ => True) V3 ya yn yc (rangeT T ke ti nn) ∧ Below V1.heap.size V1 V3) := ⟨hk3, HK2.out.2.1.below hb3, hpy, HK2.out.2.2.trans (hb3.mono HK2.out.2.2.size)⟩; clear hpy hk3 hb3
            refine hK.out _ _ (HCS.out _ HK3.out.2.2.2) (fun hHeld => ?_)
            clear hK K
            try simp only [Act.put, List.setIfInBounds_toArray, List.set_cons_zero, List.set_cons_succ]
            refine wpAnyH_ready (rs := [16]) (by kernel_rfl) (by simp) ?_
            refine AllReadyH.cons rfl (fun K hK => ?_) AllReadyH.nil
            go_simp
            refine (same_any HK3.out.2.1 HK3.out.2.2.1).mono ?_
            rintro e V4 ⟨rfl, hb4⟩; have HK4 : Hid (Pl w V4 g jb n sb i T a la ca T b lb cb G ∧ Below V1.heap.size V1 V4) := ⟨HK3.out.1.below hb4, HK3.out.2.2.2.trans (hb4.mono HK3.out.2.2.2.size)⟩; clear hb4
            refine hK.out _ _ (HCS.out _ HK4.out.2) (fun hHeld => ?_)
            clear hK K
            refine wpAnyH_take (i := 17) (v := ?vq17) rfl (by kernel_rfl) (by kernel_rfl) (by kernel_rfl) (fun _ _ _ h => h) (Or.inl ⟨by first | kernel_rfl | rfl, ?yq17⟩) hHeld ?rq17
            case yq17 => (intro W hSW; (try dsimp only at hSW); go_simp; (try with_reducible rfl))
            change wpAnyH _ _ _ _ _ _ _ (Act.put _ (some 12) _) _
            simp only [Act.put, List.setIfInBounds_toArray, List.set_cons_zero, List.set_cons_succ]
            refine wpAnyH_done (by kernel_rfl) ?_ _
            have HK : Hid (Pl w V4 g jb n sb (i + 1) T a la ca T b lb cb G) := HK4.out.1.next
            clear hHeld HK2 HK3 HK4 HRA HCS d0 d1 d2 d3 d4 d5
            have HLN := pl_len HK.out
            rw [HK.out.few.2.2.1] at HLN
            go_wp2_with fail
            refine HLN.mono ?_
            rintro e U1 ⟨rfl, hk, _⟩
            have HK1 : Hid (Pl w U1 g jb n sb (i + 1) T a la ca T b lb cb G) := hk
            have HSZ := pl_size HK1.out
            obtain ⟨z, hz⟩ : ∃ z, szL T = z := ⟨_, rfl⟩
            have HZ : Hid (szL T = z) := hz
            rw [hz] at HSZ
            clear HLN hk HK hz
            go_wp2_with fail
            refine HSZ.mono ?_
            rintro e U2 ⟨rfl, hk, _⟩
            have HK2 : Hid (Pl w U2 g jb n sb (i + 1) T a la ca T b lb cb G) := hk
            have HRS := pl_rsize HK2.out
            rw [HZ.out] at HRS
            clear HSZ hk HK1
            go_wp2_with fail
            refine HRS.mono ?_
            rintro e U3 ⟨rfl, hk, _⟩
            have HK3 : Hid (Pl w U3 g jb n sb (i + 1) T a la ca T b lb cb G) := hk
            have HAL := pl_all HK3.out
            clear HRS hk HK2
            go_wp2_with fail
            refine HAL.mono ?_
            rintro e U4 ⟨ra, rn, rc, rfl, hpr, hk, _⟩
            have HK4 : Hid (Pl w U4 g jb n sb (i + 1) T a la ca T b lb cb G) := hk
            have HSA := same_any hpr (pl_row_a hk)
            rw [decide_eq_true rfl] at HSA
            clear HAL hk HK3 hpr
            go_wp2_with fail
            refine HSA.mono ?_
            rintro e U5 ⟨rfl, hb5⟩
            have HK5 : Hid (Pl w U5 g jb n sb (i + 1) T a la ca T b lb cb G) := HK4.out.below hb5
            clear HSA hb5 HK4
            go_wp2
            exact ⟨⟨i + 1, sb, a, la, ca, T, b, lb, cb, G, by omega, by omega, by go_num, rfl, rfl, rfl, HK5.out⟩, by simp [intOf]; omega⟩
          have kb3 : (kd == 3) = false := by simpa using hk3
          by_cases hk4 : kd = 4
          · have kb4 : (kd == 4) = true := by rw [hk4]; rfl
            have HKD : Hid (kd = 4) := hk4
            clear hk4
            have HCM := pl_commit HPL.out (by omega)
            clear d1 d2 d3 d4 d5
            go_wp2_with fail
            refine HCM.mono ?_
            rintro e V2 ⟨rfl, hk2⟩
            have HK : Hid (Pl w V2 g jb n sb (i + 1) T a la ca T a la ca T) := hk2
            clear HCM hk2 d0
            have HLN := pl_len HK.out
            rw [HK.out.few.2.2.1] at HLN
            go_wp2_with fail
            refine HLN.mono ?_
            rintro e U1 ⟨rfl, hk, _⟩
            have HK1 : Hid (Pl w U1 g jb n sb (i + 1) T a la ca T a la ca T) := hk
            have HSZ := pl_size HK1.out
            obtain ⟨z, hz⟩ : ∃ z, szL T = z := ⟨_, rfl⟩
            have HZ : Hid (szL T = z) := hz
            rw [hz] at HSZ
            clear HLN hk HK hz
            go_wp2_with fail
            refine HSZ.mono ?_
            rintro e U2 ⟨rfl, hk, _⟩
            have HK2 : Hid (Pl w U2 g jb n sb (i + 1) T a la ca T a la ca T) := hk
            have HRS := pl_rsize HK2.out
            rw [HZ.out] at HRS
            clear HSZ hk HK1
            go_wp2_with fail
            refine HRS.mono ?_
            rintro e U3 ⟨rfl, hk, _⟩
            have HK3 : Hid (Pl w U3 g jb n sb (i + 1) T a la ca T a la ca T) := hk
            have HAL := pl_all HK3.out
            clear HRS hk HK2
            go_wp2_with fail
            refine HAL.mono ?_
            rintro e U4 ⟨ra, rn, rc, rfl, hpr, hk, _⟩
            have HK4 : Hid (Pl w U4 g jb n sb (i + 1) T a la ca T a la ca T) := hk
            have HSA := same_any hpr (pl_row_a hk)
            rw [decide_eq_true rfl] at HSA
            clear HAL hk HK3 hpr
            go_wp2_with fail
            refine HSA.mono ?_
            rintro e U5 ⟨rfl, hb5⟩
            have HK5 : Hid (Pl w U5 g jb n sb (i + 1) T a la ca T a la ca T) := HK4.out.below hb5
            clear HSA hb5 HK4
            go_wp2
            exact ⟨⟨i + 1, sb, a, la, ca, T, a, la, ca, T, by omega, by omega, by go_num, rfl, rfl, rfl, HK5.out⟩, by simp [intOf]; omega⟩
          have kb4 : (kd == 4) = false := by simpa using hk4
          by_cases hk5 : kd = 5
          · have kb5 : (kd == 5) = true := by rw [hk5]; rfl
            have HKD : Hid (kd = 5) := hk5
            clear hk5
            have HAB := pl_abort HPL.out (by omega)
            clear d1 d2 d3 d4 d5
            go_wp2_with fail
            refine HAB.mono ?_
            rintro e V2 ⟨rfl, hk2⟩
            have HK : Hid (Pl w V2 g jb n sb (i + 1) G b lb cb G b lb cb G) := hk2.next
            clear HAB hk2 d0
            have HLN := pl_len HK.out
            rw [HK.out.few.2.2.1] at HLN
            go_wp2_with fail
            refine HLN.mono ?_
            rintro e U1 ⟨rfl, hk, _⟩
            have HK1 : Hid (Pl w U1 g jb n sb (i + 1) G b lb cb G b lb cb G) := hk
            have HSZ := pl_size HK1.out
            obtain ⟨z, hz⟩ : ∃ z, szL G = z := ⟨_, rfl⟩
            have HZ : Hid (szL G = z) := hz
            rw [hz] at HSZ
            clear HLN hk HK hz
            go_wp2_with fail
            refine HSZ.mono ?_
            rintro e U2 ⟨rfl, hk, _⟩
            have HK2 : Hid (Pl w U2 g jb n sb (i + 1) G b lb cb G b lb cb G) := hk
            have HRS := pl_rsize HK2.out
            rw [HZ.out] at HRS
            clear HSZ hk HK1
            go_wp2_with fail
            refine HRS.mono ?_
            rintro e U3 ⟨rfl, hk, _⟩
            have HK3 : Hid (Pl w U3 g jb n sb (i + 1) G b lb cb G b lb cb G) := hk
            have HAL := pl_all HK3.out
            clear HRS hk HK2
            go_wp2_with fail
            refine HAL.mono ?_
            rintro e U4 ⟨ra, rn, rc, rfl, hpr, hk, _⟩
            have HK4 : Hid (Pl w U4 g jb n sb (i + 1) G b lb cb G b lb cb G) := hk
            have HSA := same_any hpr (pl_row_a hk)
            rw [decide_eq_true rfl] at HSA
            clear HAL hk HK3 hpr
            go_wp2_with fail
            refine HSA.mono ?_
            rintro e U5 ⟨rfl, hb5⟩
            have HK5 : Hid (Pl w U5 g jb n sb (i + 1) G b lb cb G b lb cb G) := HK4.out.below hb5
            clear HSA hb5 HK4
            go_wp2
            exact ⟨⟨i + 1, sb, b, lb, cb, G, b, lb, cb, G, by omega, by omega, by go_num, rfl, rfl, rfl, HK5.out⟩, by simp [intOf]; omega⟩
          have kb5 : (kd == 5) = false := by simpa using hk5
          by_cases hk6 : kd = 6
          · have kb6 : (kd == 6) = true := by rw [hk6]; rfl
            have HKD : Hid (kd = 6) := hk6
            clear hk6
            have HOP := pl_open HPL.out
            clear d1 d2 d3 d4 d5
            go_wp2_with fail
            refine HOP.mono ?_
            rintro e V2 ⟨sb2, rfl, hk2⟩
            have HK : Hid (Pl w V2 g jb n sb2 (i + 1) G b lb cb G b lb cb G) := hk2.next
            clear HOP hk2 d0
            have HLN := pl_len HK.out
            rw [HK.out.few.2.2.1] at HLN
            go_wp2_with fail
            refine HLN.mono ?_
            rintro e U1 ⟨rfl, hk, _⟩
            have HK1 : Hid (Pl w U1 g jb n sb2 (i + 1) G b lb cb G b lb cb G) := hk
            have HSZ := pl_size HK1.out
            obtain ⟨z, hz⟩ : ∃ z, szL G = z := ⟨_, rfl⟩
            have HZ : Hid (szL G = z) := hz
            rw [hz] at HSZ
            clear HLN hk HK hz
            go_wp2_with fail
            refine HSZ.mono ?_
            rintro e U2 ⟨rfl, hk, _⟩
            have HK2 : Hid (Pl w U2 g jb n sb2 (i + 1) G b lb cb G b lb cb G) := hk
            have HRS := pl_rsize HK2.out
            rw [HZ.out] at HRS
            clear HSZ hk HK1
            go_wp2_with fail
            refine HRS.mono ?_
            rintro e U3 ⟨rfl, hk, _⟩
            have HK3 : Hid (Pl w U3 g jb n sb2 (i + 1) G b lb cb G b lb cb G) := hk
            have HAL := pl_all HK3.out
            clear HRS hk HK2
            go_wp2_with fail
            refine HAL.mono ?_
            rintro e U4 ⟨ra, rn, rc, rfl, hpr, hk, _⟩
            have HK4 : Hid (Pl w U4 g jb n sb2 (i + 1) G b lb cb G b lb cb G) := hk
            have HSA := same_any hpr (pl_row_a hk)
            rw [decide_eq_true rfl] at HSA
            clear HAL hk HK3 hpr
            go_wp2_with fail
            refine HSA.mono ?_
            rintro e U5 ⟨rfl, hb5⟩
            have HK5 : Hid (Pl w U5 g jb n sb2 (i + 1) G b lb cb G b lb cb G) := HK4.out.below hb5
            clear HSA hb5 HK4
            go_wp2
            exact ⟨⟨i + 1, sb2, b, lb, cb, G, b, lb, cb, G, by omega, by omega, by go_num, rfl, rfl, rfl, HK5.out⟩, by simp [intOf]; omega⟩
          have kb6 : (kd == 6) = false := by simpa using hk6
          have HK : Hid (Pl w V1 g jb n sb (i + 1) T a la ca T b lb cb G) := HPL.out.next
          clear d1 d2 d3 d4 d5
          have HLN := pl_len HK.out
          rw [HK.out.few.2.2.1] at HLN
          go_wp2_with fail
          refine HLN.mono ?_
          rintro e U1 ⟨rfl, hk, _⟩
          have HK1 : Hid (Pl w U1 g jb n sb (i + 1) T a la ca T b lb cb G) := hk
          have HSZ := pl_size HK1.out
          obtain ⟨z, hz⟩ : ∃ z, szL T = z := ⟨_, rfl⟩
          have HZ : Hid (szL T = z) := hz
          rw [hz] at HSZ
          clear HLN hk HK hz
          go_wp2_with fail
          refine HSZ.mono ?_
          rintro e U2 ⟨rfl, hk, _⟩
          have HK2 : Hid (Pl w U2 g jb n sb (i + 1) T a la ca T b lb cb G) := hk
          have HRS := pl_rsize HK2.out
          rw [HZ.out] at HRS
          clear HSZ hk HK1
          go_wp2_with fail
          refine HRS.mono ?_
          rintro e U3 ⟨rfl, hk, _⟩
          have HK3 : Hid (Pl w U3 g jb n sb (i + 1) T a la ca T b lb cb G) := hk
          have HAL := pl_all HK3.out
          clear HRS hk HK2
          go_wp2_with fail
          refine HAL.mono ?_
          rintro e U4 ⟨ra, rn, rc, rfl, hpr, hk, _⟩
          have HK4 : Hid (Pl w U4 g jb n sb (i + 1) T a la ca T b lb cb G) := hk
          have HSA := same_any hpr (pl_row_a hk)
          rw [decide_eq_true rfl] at HSA
          clear HAL hk HK3 hpr
          go_wp2_with fail
          refine HSA.mono ?_
          rintro e U5 ⟨rfl, hb5⟩
          have HK5 : Hid (Pl w U5 g jb n sb (i + 1) T a la ca T b lb cb G) := HK4.out.below hb5
          clear HSA hb5 HK4
          go_wp2
          exact ⟨⟨i + 1, sb, a, la, ca, T, b, lb, cb, G, by omega, by omega, by go_num, rfl, rfl, rfl, HK5.out⟩, by simp [intOf]; omega⟩
      · have HLV := lives_h hp.on
        clear hp
        by_cases hlt : i < len1
        · have k1 : (i : Int) < (len1 : Int) := by omega
          have k2 : ¬ (i : Int) < 60 := by omega
          go_wp2_with fail
          refine HLV.mono ?_
          rintro e Z ⟨rfl, hbz⟩
          have HBZ : Hid (Below w.heap.size w Z) := hbz
          clear HLV hbz
          go_wp2
          go_ret
          exact ⟨rfl, HBZ.out⟩
        · have k1 : ¬ (i : Int) < (len1 : Int) := by omega
          go_wp2_with fail
          refine HLV.mono ?_
          rintro e Z ⟨rfl, hbz⟩
          have HBZ : Hid (Below w.heap.size w Z) := hbz
          clear HLV hbz
          go_wp2
          go_ret
          exact ⟨rfl, HBZ.out⟩

set_option linter.unusedVariables false in
set_option maxRecDepth 100000 in
theorem lifted (os : _root_.Go.Os) (started : os.Started) (H : Type) (enc : TypeId × Value → H) :
    ReturnsInHanded {} Tryz.checked os 3 .any (fun w args => (Rows.shelfPlaysSpec.pre enc Tryz.prog Tryz.f3 Rows.shelfPlaysRow.domain false w args ∧ laidMetH Tryz.prog Rows.shelfPlaysRow.laid w) ∧ sizedMet enc Tryz.prog Tryz.f3 (OpenSpec.ofChange Rows.shelfPlaysSpec) false w args) (Rows.shelfPlaysSpec.post enc Tryz.prog Tryz.f3 false true false false) := by
  refine returnsInHanded_of_change_and (C := Tryz.checked) (X := fun w _ => laidMetH Tryz.prog Rows.shelfPlaysRow.laid w) (fun _ _ _ hh h => h.of_heap hh) own started (by kernel_rfl) Tryz.func3
    (ChangeSpec.witness_shaped (enc := enc) (C := Tryz.checked) (os := os) (X := fun w _ => laidMetH Tryz.prog Rows.shelfPlaysRow.laid w) false (World.laidAll Tryz.prog os Rows.shelfPlaysRow.laid) #[.int .i64 0, .slice none 0 0] 8 (World.laidAll_os _ _ _)
      (World.shaped_of_ZipB (by kernel_rfl) (by kernel_rfl)) (by kernel_rfl) (by kernel_rfl) (by kernel_rfl)
      (by rw [MakeChecks.laidMetH_plain _ _ _ (by kernel_rfl)]; exact laidMet_laidAll _ (by kernel_rfl) (by kernel_rfl))) ?_
  intro W base args ds gs before hval0 hW _ hsz0 hL _
  have hval : ∀ (j : Nat) t v, Tryz.f3.params[j]? = some t → args[j]? = some v → Value.okWide Tryz.prog W .any base t v := hval0
  have hsz : (DataW.weightsEach Tryz.prog (Tryz.f3.params.toList ++ Rows.shelfPlaysSpec.plain.varTypes Tryz.prog) (ds ++ gs)).all (· ≤ reachBytes) = true := hsz0
  have hW' := hW
  obtain ⟨p, q, hA0, hV, rfl, hfz, hnd⟩ := hW
  have hA : DataW.TrodAll enc Tryz.prog W 0 (fun _ => true) true Tryz.f3.params.toList args.toList ds p := hA0
  rw [Tryz.params3] at hA hval hsz
  obtain ⟨v0, vs0, d0, ds0, p0, q0, hargs, rfl, rfl, h0, r0⟩ := trodAll_cons hA
  obtain ⟨v1, vs1, d1, ds1, p1, q1, rfl, rfl, rfl, h1, r1⟩ := trodAll_cons r0
  obtain ⟨rfl, rfl, rfl⟩ := trodAll_nil r1
  obtain rfl : args = #[v0, v1] := by cases args; simp_all
  obtain ⟨rfl, rfl⟩ := trodVars_none hV
  obtain ⟨x0, rfl, rfl, rfl, w0⟩ := open_int Tryz.underlying3 (hval 0 3 v0 rfl rfl) h0
  have k1 := h1
  have lt1 : ∀ x ∈ p1, x.block < W.heap.size := by obtain ⟨m, hm⟩ := k1; exact DataW.trod_lt m _ _ _ hm
  obtain ⟨a1, len1, cap1, rfl⟩ := okWide_slice Tryz.underlying22 (hval 1 22 v1 rfl rfl)
  obtain ⟨l1, w1, y1⟩ : ∃ l, Os W a1 len1 cap1 l ∧ len1 ≤ 140737488351232 := by
    obtain ⟨fuel, hf⟩ := h1
    exact ops_in (j := 1) (by simpa [Value.cells] using hf) hsz rfl rfl
  clear hA0 hval0 hsz hsz0
  refine (walk x0 (wf_i64 w0) a1 len1 cap1 l1 y1 W w1).mono fun e W' ⟨he, bel⟩ => ?_
  subst he
  exact ⟨_, rfl, _, _, _, [], _, [], hW', trodAll_mk1 (shut_bool Tryz.underlying4 _), (trodAll_cons_mk (shut_int Tryz.underlying3 w0) (trodAll_cons_mk (Below.trod laidOut (by kernel_rfl) (of_decide_eq_true (by kernel_rfl)) k1 bel lt1) trodAll_mk0)), rfl, bel.frame _, fun h => by cases h⟩

theorem over : Rows.shelfPlaysRow.holds Tryz.pinned (OpenSpec.ofChange Rows.shelfPlaysSpec) :=
  OpenClaim.holds_of_wide 3 Tryz.f3 rfl rfl rfl rfl rfl rfl rfl ⟨rfl, rfl, rfl, rfl, rfl⟩ rfl rfl rfl rfl rfl (by kernel_rfl) Tryz.func3 (by kernel_rfl)
    (of_decide_eq_true (by kernel_rfl)) (by unfold Func.isWrapper; first | (rw [if_pos (by decide +kernel)]; kernel_rfl) | (rw [if_neg (by decide +kernel)]; exact ⟨rfl, rfl⟩))
    (fun os started H enc _ => lifted os started H enc)

end Go.Proofs.YtnafalkcgghjgaaGreatDoor.shelfPlays
namespace Go.Proofs.YtnafalkcgghjgaaGreatDoor
/-- The given statement. -/
theorem shelfPlays_holds : Rows.ShelfPlaysCardSaid :=
  Claim7.holds_tied_plain_at .later [] [.data, .pinned] true (true, "6fd85e21264fb8f5d6a7739dc9528525e97b2eb9f19e70d35414b6e16557796b") false
    shelfPlays.over (fun _ h => by cases h) (by kernel_rfl) (fun _ h => by cases h) shelfPlays_row_tie rfl ⟨rfl, rfl⟩ (by kernel_rfl) rfl
    (fun f fn hf hfn => by
      obtain rfl : f = 3 := Option.some.inj ((show Tryz.prog.funcNamed "strongroom/strongroomlaw08.ShelfPlays" = some 3 by kernel_rfl).symm.trans hf) |>.symm
      obtain rfl : fn = Tryz.f3 := (Option.some.inj (Tryz.func3.symm.trans hfn)).symm
      exact ⟨by kernel_rfl, fun j t ht => by
        rw [Tryz.params3] at ht
        rcases j with _ | _ | j
        · obtain rfl : t = 3 := by simpa using ht.symm
          exact (show Tryz.prog.wantsStandIn 3 = false by kernel_rfl)
        · obtain rfl : t = 22 := by simpa using ht.symm
          exact (show Tryz.prog.wantsStandIn 22 = false by kernel_rfl)
        · simp at ht
      ⟩)
    (by kernel_rfl)
#print axioms shelfPlays_holds
end Go.Proofs.YtnafalkcgghjgaaGreatDoor
