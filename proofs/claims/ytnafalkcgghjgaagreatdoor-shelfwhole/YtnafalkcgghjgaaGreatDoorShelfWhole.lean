/- ShelfWhole: behind a failure at any write of a Commit, whatever is picked, the table that is opened has all of the changes, or none; all, if it was told. -/
import Derived.Test.YtnafalkcgghjgaaGreatDoorTL
import Derived.Test.YtnafalkcgghjgaaGreatDoorCards
import Derived.Test.YtnafalkcgghjgaaGreatDoorTie
import Derived.WalkKit
import Derived.ProofKit
import Derived.OpenShut
import Derived.ShutString
import Derived.ChangeOld
import Derived.Below
import Derived.LaidMore
import Derived.Lay
import Derived.Stop.Joined
import Derived.SevenTiedAt
namespace Go.Proofs.YtnafalkcgghjgaaGreatDoor.shelfWhole
open Go.ChangeShapes Go.WideShapes Go.ChangeAt Go.RowKit
theorem own : ownKnob Tryz.prog.godebug = none := by kernel_rfl
theorem laidOut : laidOutB Tryz.prog = true := by kernel_rfl

set_option maxRecDepth 100000 in
set_option maxHeartbeats 16000000 in
theorem walk (x0 : TornV) (w : World) (w0 : x0.In w) :
    Calls Tryz.prog 4 #[x0.agg] w fun e w' => e = .returned (.bool true) ∧ Below w.heap.size w w' := by
  obtain ⟨pages, a, al, ac, la, p, pl, pc, lp, cut, k, kl, kc, bk⟩ := x0
  obtain ⟨z1, z2, z3, z4⟩ := w0
  simp only at z1 z2 z3 z4
  unfold TornV.agg
  simp only
  obtain ⟨bx, hbx⟩ : ∃ bx, w.heap.size = bx := ⟨_, rfl⟩
  obtain ⟨W1, hW1⟩ : ∃ W1, w.alloc (.cells #[.int .i64 pages, .slice a al ac, .slice p pl pc, .int .i64 cut, .slice k kl kc] 54) = W1 := ⟨_, rfl⟩
  have hr1 : W1.heap[bx]? = some (.cells #[.int .i64 pages, .slice a al ac, .slice p pl pc, .int .i64 cut, .slice k kl kc] 54 (0, 0)) := by rw [← hW1, ← hbx]; exact heap_alloc_new w _
  have hb1 : Below w.heap.size w W1 := by rw [← hW1]; exact (Below.refl _ w).alloc (Nat.le_refl _) _
  have HW : Hid (∀ V, Below W1.heap.size W1 V → Below w.heap.size w V) := fun V hV => hb1.trans (hV.mono hb1.size)
  have HX : Hid (∀ V, Below W1.heap.size W1 V → V.cell? ⟨bx, 0, none⟩ = some (.int .i64 pages) ∧ V.cell? ⟨bx, 1, none⟩ = some (.slice a al ac) ∧ V.cell? ⟨bx, 2, none⟩ = some (.slice p pl pc) ∧ V.cell? ⟨bx, 3, none⟩ = some (.int .i64 cut) ∧ V.cell? ⟨bx, 4, none⟩ = some (.slice k kl kc)) := fun V hV => by
    have hr := (hV.block bx (lt_of_some hr1)).trans hr1
    refine ⟨?_, ?_, ?_, ?_, ?_⟩ <;> rw [cell_of_row _ bx _ _ _ _ hr] <;> rfl
  have HIN : Hid (Os W1 a al ac la ∧ Os W1 p pl pc lp ∧ Bls W1 k kl kc bk) := ⟨z1.on hb1, z2.on hb1, z3.below hb1⟩
  obtain ⟨x0, x1, x2, x3, x4⟩ := HX.out W1 (Below.refl _ _)
  clear z1 z2 z3 hr1 hb1
  by_cases hx : pages < 2 ∨ 12 < pages
  · have HO := opened_none pages W1 hx
    have HLV := lives_h (Below.refl W1.heap.size W1)
    by_cases hx2 : pages < 2
    · clear hx
      go_enter Tryz.func4, Tryz.ntmps4
      go_wp2_with (go_at_call 8; refine HO.mono ?_; rintro e V1 ⟨rfl, hV⟩; subst V1)
      clear HO
      refine HLV.mono ?_
      rintro e Z ⟨rfl, hbz⟩
      have HBZ : Hid (Below w.heap.size w Z) := HW.out _ hbz
      clear HLV hbz
      go_wp2
      go_ret
      exact ⟨rfl, HBZ.out⟩
    · have hx3 : 12 < pages := by omega
      clear hx
      go_enter Tryz.func4, Tryz.ntmps4
      go_wp2_with (go_at_call 8; refine HO.mono ?_; rintro e V1 ⟨rfl, hV⟩; subst V1)
      clear HO
      refine HLV.mono ?_
      rintro e Z ⟨rfl, hbz⟩
      have HBZ : Hid (Below w.heap.size w Z) := HW.out _ hbz
      clear HLV hbz
      go_wp2
      go_ret
      exact ⟨rfl, HBZ.out⟩
  · obtain ⟨n, rfl⟩ : ∃ n : Nat, pages = (n : Int) := Int.eq_ofNat_of_zero_le (by omega)
    have hn2 : 2 ≤ n := by omega
    have hn12 : n ≤ 12 := by omega
    have kn2 : ¬ (n : Int) < 2 := by omega
    have kn12 : ¬ (12 : Int) < (n : Int) := by omega
    have HO := opened_any n hn2 hn12 W1
    clear hx
    go_enter Tryz.func4, Tryz.ntmps4
    go_wp2_with fail
    refine HO.mono ?_
    rintro e V1 ⟨g, jb, sb, FF, S, KK, rfl, ht, hl, hj, hb⟩
    have hk1 : KeptR W1 V1 S g (Dk.new (8 * n + 1) nought) sb jb n KK none 0 0 [] := ⟨FF, KK, ht, Rw.zero _ _ _ _ _ _ (Nat.zero_le _), hb⟩
    have hG : Good n (Dk.new (8 * n + 1) nought) := Good.new n
    have hw0 : (Dk.new (8 * n + 1) nought).writes = 0 := rfl
    obtain ⟨D, hD⟩ : ∃ D, Dk.new (8 * n + 1) nought = D := ⟨_, rfl⟩
    rw [hD] at hk1 hG hw0
    have HG : Hid (Good n D ∧ D.writes = 0) := ⟨hG, hw0⟩
    have HLV := lives_h hk1.on
    have HDN := doneR_any hk1 a al ac la HIN.out.1
    unfold DoneR at HDN
    obtain ⟨x0, x1, x2, x3, x4⟩ := HX.out V1 hk1.on
    clear HO ht hl hj hb hk1 hG hw0 hD
    by_cases hk3 : 300 < kl
    · have k1 : (300 : Int) < (kl : Int) := by omega
      clear HDN
      go_wp2_with fail
      refine HLV.mono ?_
      rintro e Z ⟨rfl, hbz⟩
      have HBZ : Hid (Below w.heap.size w Z) := HW.out _ hbz
      clear HLV hbz
      go_wp2
      go_ret
      exact ⟨rfl, HBZ.out⟩
    · have k1 : ¬ (300 : Int) < (kl : Int) := by omega
      by_cases hc0 : cut < 0
      · clear HDN
        go_wp2_with fail
        refine HLV.mono ?_
        rintro e Z ⟨rfl, hbz⟩
        have HBZ : Hid (Below w.heap.size w Z) := HW.out _ hbz
        clear HLV hbz
        go_wp2
        go_ret
        exact ⟨rfl, HBZ.out⟩
      · obtain ⟨cu, rfl⟩ : ∃ cu : Nat, cut = (cu : Int) := Int.eq_ofNat_of_zero_le (by omega)
        have kc0 : ¬ (cu : Int) < 0 := by omega
        clear HLV
        go_wp2_with fail
        refine HDN.mono ?_
        rintro e V2 ⟨y, rfl, hk2⟩
        have HLV := lives_h hk2.on
        obtain ⟨L, hwh⟩ := hk2.wh
        have HCM := wh_commit hwh (by rw [HG.out.1.ln]; exact Nat.le_refl _) HG.out.1.up (by rw [HG.out.1.seen]; exact HG.out.1.sz.k) (by have := HG.out.2; omega)
        have hgc := good_commit HG.out.1 (by omega) hwh.shapes.1
        rw [lfs_len] at hgc
        have hgc : comCode n D (chAll n D L) = 0 ∧ Good n (comDisk n D (chAll n D L)) ∧ (comDisk n D (chAll n D L)).writes ≤ D.writes + 8 * n + 2 ∧ Enc (pagesF n (comDisk n D (chAll n D L))) (lfs L) := hgc
        rw [if_pos hgc.1, hgc.1] at HCM
        obtain ⟨D1, hD1⟩ : ∃ D1, comDisk n D (chAll n D L) = D1 := ⟨_, rfl⟩
        rw [hD1] at hgc HCM
        have HG1 : Hid (Good n D1 ∧ D1.writes ≤ 200 ∧ Enc (pagesF n D1) (lfs L)) := ⟨hgc.2.1, by have := hgc.2.2.1; have := HG.out.2; omega, hgc.2.2.2⟩
        clear HDN hk2 hwh hgc hD1 HG x0 x1 x2 x3 x4
        cases y with
        | false =>
          clear HCM
          go_wp2_with fail
          refine HLV.mono ?_
          rintro e Z ⟨rfl, hbz⟩
          have HBZ : Hid (Below w.heap.size w Z) := HW.out _ hbz
          clear HLV hbz
          go_wp2
          go_ret
          exact ⟨rfl, HBZ.out⟩
        | true =>
          clear HLV
          go_wp2_with fail
          refine HCM.mono ?_
          rintro e V3 ⟨rfl, S3, hw3⟩
          have HAW := wh_all_a hw3
          clear HCM hw3
          go_wp2_with fail
          refine HAW.mono ?_
          rintro e V4 ⟨wa, wl, wc, rfl, hw4, _⟩
          obtain ⟨TW, hTW⟩ : ∃ TW, flat (lfs L) = TW := ⟨_, rfl⟩
          rw [hTW] at hw4
          have HTL : Hid (flat (lfs L) = TW) := hTW
          have HDN := doneR_any hw4.kept p pl pc lp HIN.out.2.1
          unfold DoneR at HDN
          obtain ⟨x0, x1, x2, x3, x4⟩ := HX.out V4 hw4.on
          clear HAW hw4 hTW
          go_wp2_with fail
          refine HDN.mono ?_
          rintro e V5 ⟨y, rfl, hk5⟩
          have HLV := lives_h hk5.on
          obtain ⟨L2, hw5⟩ := hk5.wh
          have HAN := wh_all_b hw5
          clear HDN hk5 hw5 x0 x1 x2 x3 x4
          cases y with
          | false =>
            clear HAN
            go_wp2_with fail
            refine HLV.mono ?_
            rintro e Z ⟨rfl, hbz⟩
            have HBZ : Hid (Below w.heap.size w Z) := HW.out _ hbz
            clear HLV hbz
            go_wp2
            go_ret
            exact ⟨rfl, HBZ.out⟩
          | true =>
            clear HLV
            go_wp2_with fail
            refine HAN.mono ?_
            rintro e V6 ⟨na, nl, nc, rfl, hw6, _⟩
            obtain ⟨TN, hTN⟩ : ∃ TN, flat (lfs L2) = TN := ⟨_, rfl⟩
            rw [hTN] at hw6
            have HTN : Hid (flat (lfs L2) = TN) := hTN
            have hfp : D1.fput (cu : Int) = D1.fused cu := by unfold Dk.fput; rw [if_pos ⟨HG1.out.1.up, by omega⟩]; rfl
            have hfc : D1.fcode (cu : Int) = 0 := by unfold Dk.fcode; rw [HG1.out.1.up]; simp
            have HFU := fuse_m hw6.disk.1 (cu : Int) (by omega)
            rw [hfp, hfc] at HFU
            obtain ⟨x0, x1, x2, x3, x4⟩ := HX.out V6 hw6.on
            have HW6 : Hid (Wh W1 V6 S3 g D1 sb jb n L2 L wa wl wc TW na nl nc TN) := hw6
            clear HAN hw6 hTN hfp hfc
            go_wp2_with fail
            refine HFU.mono ?_
            rintro e V7 ⟨rfl, hm7⟩
            obtain ⟨S7, hw7⟩ := HW6.out.mut hm7
            have hse : (D1.fused cu).seen = D1.kept := by rw [← HG1.out.1.seen]; rfl
            have HCM := wh_commit hw7 (by show _ ≤ D1.kept.length; rw [HG1.out.1.ln]; exact Nat.le_refl _) HG1.out.1.up (by rw [hse]; exact HG1.out.1.sz.k) (by show D1.writes + 200 < 1000000; have := HG1.out.2.1; omega)
            obtain ⟨q1, q2, _, _⟩ := hw7.shapes
            have HTO : Hid (∀ (pk : Nat → Bool) (D4 : Dk), D4 = ((comDisk n (D1.fused cu) (chAll n (D1.fused cu) L2)).failed pk).started → D4.up = true ∧ D4.waits = [] ∧ 8 * n + 1 ≤ D4.kept.length ∧ D4.Sz ∧ D4.writes ≤ 2000 ∧ codeS D4 (recS n D4.kept) = 0 ∧ Good n (runS D4 (recS n D4.kept)) ∧ (loadF n (pagesF n (runS D4 (recS n D4.kept))) = some (lfs L2) ∨ (¬ comCode n (D1.fused cu) (chAll n (D1.fused cu) L2) = 0 ∧ loadF n (pagesF n (runS D4 (recS n D4.kept))) = some (lfs L)))) := fun pk D4 h4 => by
              have h5 := torn_opened HG1.out.1 hn12 (by have := HG1.out.2.1; omega) q1 q2 HG1.out.2.2 cu pk (D4 := D4) (by rw [h4, lfs_len]; rfl)
              rw [lfs_len] at h5
              exact h5
            obtain ⟨cc, hcc⟩ : ∃ cc, comCode n (D1.fused cu) (chAll n (D1.fused cu) L2) = cc := ⟨_, rfl⟩
            obtain ⟨D2, hD2⟩ : ∃ D2, comDisk n (D1.fused cu) (chAll n (D1.fused cu) L2) = D2 := ⟨_, rfl⟩
            rw [hcc, hD2] at HTO HCM
            clear HFU hm7 hw7 HW6 hse q1 q2 hcc hD2 x0 x1 x2 x3 x4
            go_wp2_with fail
            refine HCM.mono ?_
            rintro e V8 ⟨rfl, S8, hw8⟩
            obtain ⟨K8, hK8⟩ : ∃ K8, (if cc = 0 then L2 else L) = K8 := ⟨_, rfl⟩
            rw [hK8] at hw8
            have HFA := fail_m hw8.disk.1 k kl kc bk HIN.out.2.2 hw8.on hw8.disk.2
            obtain ⟨x0, x1, x2, x3, x4⟩ := HX.out V8 hw8.on
            have HW8 : Hid (Wh W1 V8 S8 g D2 sb jb n L2 K8 wa wl wc TW na nl nc TN) := hw8
            clear HCM hw8 hK8
            go_wp2_with fail
            refine HFA.mono ?_
            rintro e V9 ⟨rfl, hm9⟩
            obtain ⟨S9, hw9⟩ := HW8.out.mut hm9
            have HST := start_m hw9.disk.1 rfl rfl
            have HW9 : Hid (Wh W1 V9 S9 g (D2.failed (pickOf bk)) sb jb n L2 K8 wa wl wc TW na nl nc TN) := hw9
            clear HFA hm9 hw9 HW8 x0 x1 x2 x3 x4
            go_wp2_with fail
            refine HST.mono ?_
            rintro e VA ⟨rfl, hmA⟩
            obtain ⟨SA, hwA⟩ := HW9.out.mut hmA
            obtain ⟨D4, hD4⟩ : ∃ D4, (D2.failed (pickOf bk)).started = D4 := ⟨_, rfl⟩
            rw [hD4] at hwA
            obtain ⟨t1, t2, t3, t4, t5, t6, t7, t8⟩ := HTO.out (pickOf bk) D4 hD4.symm
            have HJO := wh_jopen hwA t3 t1 t2 t4.k t5 t6
            obtain ⟨D5, hD5⟩ : ∃ D5, runS D4 (recS n D4.kept) = D5 := ⟨_, rfl⟩
            rw [hD5] at HJO t7 t8
            have HT : Hid (Good n D5 ∧ (loadF n (pagesF n D5) = some (lfs L2) ∨ (¬ cc = 0 ∧ loadF n (pagesF n D5) = some (lfs L)))) := ⟨t7, t8⟩
            obtain ⟨x0, x1, x2, x3, x4⟩ := HX.out VA hwA.on
            clear HST hmA hwA hD4 t1 t2 t3 t4 t5 t6 t7 t8 hD5 HTO HW9
            go_wp2_with fail
            refine HJO.mono ?_
            rintro e VB ⟨jb2, S5, rfl, hwj⟩
            have HWJ : Hid (Wj W1 VB S5 g D5 jb2 n wa wl wc TW na nl nc TN) := hwj
            clear HJO hwj x0 x1 x2 x3 x4
            rcases HT.out.2 with hld | ⟨hcc, hld⟩
            · have HSO := wj_open HWJ.out hn2 hn12 HT.out.1 hld
              clear hld HT
              go_wp2_with fail
              refine HSO.mono ?_
              rintro e VD ⟨sb2, L5, rfl, hwD, hL5⟩
              have HAL := wh_all hwD
              have HL5 : Hid (flat (lfs L5) = TN) := by show _ = _; rw [hL5]; exact HTN.out
              clear HSO hwD hL5
              go_wp2_with fail
              refine HAL.mono ?_
              rintro e VE ⟨ra, rn, rc, rfl, hpr, hkt⟩
              have HSM := same_any hpr hkt.rows.2
              rw [decide_eq_true HL5.out] at HSM
              have HKT : Hid (Below W1.heap.size W1 VE) := hkt.on
              clear HAL hpr hkt
              go_wp2_with fail
              refine HSM.mono ?_
              rintro e VF ⟨rfl, hbF⟩
              have HLV := lives_h (HKT.out.trans (hbF.mono HKT.out.size))
              clear HSM hbF HKT
              go_wp2_with fail
              refine HLV.mono ?_
              rintro e Z ⟨rfl, hbz⟩
              have HBZ : Hid (Below w.heap.size w Z) := HW.out _ hbz
              clear HLV hbz
              go_wp2
              go_ret
              exact ⟨rfl, HBZ.out⟩
            · have HSO := wj_open HWJ.out hn2 hn12 HT.out.1 hld
              have kcc : ¬ (cc : Int) = 0 := by omega
              have kcb : ((cc : Int) == 0) = false := by simpa using kcc
              have kcn : ((cc : Int) != 0) = true := by rw [bne_iff_ne]; exact kcc
              clear hld HT hcc
              go_wp2_with fail
              refine HSO.mono ?_
              rintro e VD ⟨sb2, L5, rfl, hwD, hL5⟩
              have HAL := wh_all hwD
              have HTW : Hid (flat (lfs L5) = TW) := by show _ = _; rw [hL5]; exact HTL.out
              clear HSO hwD hL5
              go_wp2_with fail
              refine HAL.mono ?_
              rintro e VE ⟨ra, rn, rc, rfl, hpr, hkt⟩
              have HSM := same_any hpr hkt.rows.2
              have HKT : Hid (Wh W1 VE S5 g D5 sb2 jb2 n L5 L5 wa wl wc TW na nl nc TN ∧ Pw (fun _ => True) VE ra rn rc TW) := ⟨hkt, by rw [← HTW.out]; exact hpr⟩
              obtain ⟨dd, hdd⟩ : ∃ dd, decide (flat (lfs L5) = TN) = dd := ⟨_, rfl⟩
              rw [hdd] at HSM
              clear HAL hpr hkt hdd
              go_wp2_with fail
              refine HSM.mono ?_
              rintro e VF ⟨rfl, hbF⟩
              have hkF := HKT.out.1.below hbF
              have HSM2 := same_any (HKT.out.2.below hbF) hkF.rows.1
              rw [decide_eq_true rfl] at HSM2
              have HKF : Hid (Below W1.heap.size W1 VF) := hkF.on
              clear HSM hbF HKT hkF
              cases dd with
              | true =>
                have HLV := lives_h HKF.out
                clear HSM2
                go_wp2_with fail
                refine HLV.mono ?_
                rintro e Z ⟨rfl, hbz⟩
                have HBZ : Hid (Below w.heap.size w Z) := HW.out _ hbz
                clear HLV hbz
                go_wp2
                go_ret
                exact ⟨rfl, HBZ.out⟩
              | false =>
                go_wp2_with fail
                refine HSM2.mono ?_
                rintro e VG ⟨rfl, hbG⟩
                have HLV := lives_h (HKF.out.trans (hbG.mono HKF.out.size))
                clear HSM2 hbG HKF
                go_wp2_with fail
                refine HLV.mono ?_
                rintro e Z ⟨rfl, hbz⟩
                have HBZ : Hid (Below w.heap.size w Z) := HW.out _ hbz
                clear HLV hbz
                go_wp2
                go_ret
                exact ⟨rfl, HBZ.out⟩

set_option linter.unusedVariables false in
set_option maxRecDepth 100000 in
theorem lifted (os : _root_.Go.Os) (started : os.Started) (H : Type) (enc : TypeId × Value → H) :
    ReturnsInHanded {} Tryz.checked os 4 .any (fun w args => (Rows.shelfWholeSpec.pre enc Tryz.prog Tryz.f4 Rows.shelfWholeRow.domain false w args ∧ laidMetH Tryz.prog Rows.shelfWholeRow.laid w) ∧ sizedMet enc Tryz.prog Tryz.f4 (OpenSpec.ofChange Rows.shelfWholeSpec) false w args) (Rows.shelfWholeSpec.post enc Tryz.prog Tryz.f4 false true false false) := by
  refine returnsInHanded_of_change_and (C := Tryz.checked) (X := fun w _ => laidMetH Tryz.prog Rows.shelfWholeRow.laid w) (fun _ _ _ hh h => h.of_heap hh) own started (by kernel_rfl) Tryz.func4
    (ChangeSpec.witness_shaped (enc := enc) (C := Tryz.checked) (os := os) (X := fun w _ => laidMetH Tryz.prog Rows.shelfWholeRow.laid w) false (World.laidAll Tryz.prog os Rows.shelfWholeRow.laid) #[.agg #[.int .i64 0, .slice none 0 0, .slice none 0 0, .int .i64 0, .slice none 0 0]] 8 (World.laidAll_os _ _ _)
      (World.shaped_of_ZipB (by kernel_rfl) (by kernel_rfl)) (by kernel_rfl) (by kernel_rfl) (by kernel_rfl)
      (by rw [MakeChecks.laidMetH_plain _ _ _ (by kernel_rfl)]; exact laidMet_laidAll _ (by kernel_rfl) (by kernel_rfl))) ?_
  intro W base args ds gs before hval0 hW _ hsz0 hL _
  have hval : ∀ (j : Nat) t v, Tryz.f4.params[j]? = some t → args[j]? = some v → Value.okWide Tryz.prog W .any base t v := hval0
  have hsz : (DataW.weightsEach Tryz.prog (Tryz.f4.params.toList ++ Rows.shelfWholeSpec.plain.varTypes Tryz.prog) (ds ++ gs)).all (· ≤ reachBytes) = true := hsz0
  have hW' := hW
  obtain ⟨p, q, hA0, hV, rfl, hfz, hnd⟩ := hW
  have hA : DataW.TrodAll enc Tryz.prog W 0 (fun _ => true) true Tryz.f4.params.toList args.toList ds p := hA0
  rw [Tryz.params4] at hA hval hsz
  obtain ⟨v0, vs0, d0, ds0, p0, q0, hargs, rfl, rfl, h0, r0⟩ := trodAll_cons hA
  obtain ⟨rfl, rfl, rfl⟩ := trodAll_nil r0
  obtain rfl : args = #[v0] := by cases args; simp_all
  obtain ⟨rfl, rfl⟩ := trodVars_none hV
  have k0 := h0
  have lt0 : ∀ x ∈ p0, x.block < W.heap.size := by obtain ⟨m, hm⟩ := k0; exact DataW.trod_lt m _ _ _ hm
  obtain ⟨x0, rfl, w0⟩ := torn_of (j := 0) (hval 0 54 v0 rfl rfl) h0 hsz rfl rfl
  clear hA0 hval0 hsz hsz0
  refine (walk x0 W w0).mono fun e W' ⟨he, bel⟩ => ?_
  subst he
  exact ⟨_, rfl, _, _, _, [], _, [], hW', trodAll_mk1 (shut_bool Tryz.underlying4 _), (trodAll_cons_mk (Below.trod laidOut (by kernel_rfl) (of_decide_eq_true (by kernel_rfl)) k0 bel lt0) trodAll_mk0), rfl, bel.frame _, fun h => by cases h⟩

theorem over : Rows.shelfWholeRow.holds Tryz.pinned (OpenSpec.ofChange Rows.shelfWholeSpec) :=
  OpenClaim.holds_of_wide 4 Tryz.f4 rfl rfl rfl rfl rfl rfl rfl ⟨rfl, rfl, rfl, rfl, rfl⟩ rfl rfl rfl rfl rfl (by kernel_rfl) Tryz.func4 (by kernel_rfl)
    (of_decide_eq_true (by kernel_rfl)) (by unfold Func.isWrapper; first | (rw [if_pos (by decide +kernel)]; kernel_rfl) | (rw [if_neg (by decide +kernel)]; exact ⟨rfl, rfl⟩))
    (fun os started H enc _ => lifted os started H enc)

end Go.Proofs.YtnafalkcgghjgaaGreatDoor.shelfWhole
namespace Go.Proofs.YtnafalkcgghjgaaGreatDoor
/-- The given statement. -/
theorem shelfWhole_holds : Rows.ShelfWholeCardSaid :=
  Claim7.holds_tied_plain_at .later [] [.data, .pinned] true (true, "6fd85e21264fb8f5d6a7739dc9528525e97b2eb9f19e70d35414b6e16557796b") false
    shelfWhole.over (fun _ h => by cases h) (by kernel_rfl) (fun _ h => by cases h) shelfWhole_row_tie rfl ⟨rfl, rfl⟩ (by kernel_rfl) rfl
    (fun f fn hf hfn => by
      obtain rfl : f = 4 := Option.some.inj ((show Tryz.prog.funcNamed "strongroom/strongroomlaw08.ShelfWhole" = some 4 by kernel_rfl).symm.trans hf) |>.symm
      obtain rfl : fn = Tryz.f4 := (Option.some.inj (Tryz.func4.symm.trans hfn)).symm
      exact ⟨by kernel_rfl, fun j t ht => by
        rw [Tryz.params4] at ht
        rcases j with _ | j
        · obtain rfl : t = 54 := by simpa using ht.symm
          exact (show Tryz.prog.wantsStandIn 54 = false by kernel_rfl)
        · simp at ht
      ⟩)
    (by kernel_rfl)
#print axioms shelfWhole_holds
end Go.Proofs.YtnafalkcgghjgaaGreatDoor
