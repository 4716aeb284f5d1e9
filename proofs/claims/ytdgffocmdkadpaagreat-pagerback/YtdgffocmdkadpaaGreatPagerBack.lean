/- Proved: for every number of pages and all steps ahead of a savepoint and behind it, the law PagerBack returns true, all as they were. No condition: every input that can be read as data. -/
import Derived.Test.YtdgffocmdkadpaaGreatRows
import Derived.Test.YtdgffocmdkadpaaGreatRY
import Derived.Deep.CutBlock
import Derived.WalkKit
import Derived.ProofKit
import Derived.OpenShut
import Derived.ShutString
import Derived.ChangeOld
import Derived.Below
namespace Go.Proofs.YtdgffocmdkadpaaGreat.pagerBack
open Go.ChangeShapes Go.WideShapes Go.ChangeAt Go.RowKit
theorem own : ownKnob Tryz.prog.godebug = none := by kernel_rfl
theorem laidOut : laidOutB Tryz.prog = true := by kernel_rfl
open Pg
set_option maxRecDepth 100000 in
set_option maxHeartbeats 40000000 in
theorem walk (x0 : Int) (z0 : -9223372036854775808 ≤ x0 ∧ x0 ≤ 9223372036854775807) (a1 : Option Addr) (len1 cap1 : Nat) (l1 : List OV) (a2 : Option Addr) (len2 cap2 : Nat) (l2 : List OV) (w : World) (w1 : Os w a1 len1 cap1 l1) (w2 : Os w a2 len2 cap2 l2) :
    Calls Tryz.prog 5 #[.int .i64 x0, .slice a1 len1 cap1, .slice a2 len2 cap2] w fun e w' => e = .returned (.bool true) ∧ Below w.heap.size w w' := by
  have HLV : Hid (∀ W, Below w.heap.size w W → Calls Tryz.prog 9 #[] W fun e w' => e = .returned (.bool true) ∧ Below w.heap.size w w') := fun W hW => lives_h hW
  have HOS : Hid (Os w a1 len1 cap1 l1) := w1
  have HO2 : Hid (Os w a2 len2 cap2 l2) := w2
  have hcp1 := w1.2.1
  have hcp2 := w1.2.2.1
  have hcp3 := w2.2.1
  have hcp4 := w2.2.2.1
  clear w1 w2
  by_cases hx : x0 < 2 ∨ 10 < x0
  · have HBB := begun_bad x0 w hx
    have HBX : Hid (Below w.heap.size w w) := Below.refl _ _
    by_cases hx2 : x0 < 2
    · clear hx
      go_enter Tryz.func5, Tryz.ntmps5
      go_wp2_with fail
      refine HBB.mono ?_
      rintro e V ⟨rfl, hV⟩
      subst V
      clear HBB
      go_wp2_with fail
      refine (HLV.out _ HBX.out).mono ?_
      rintro e w9 ⟨rfl, hb9⟩
      have HB9 : Hid (Below w.heap.size w w9) := hb9
      clear hb9
      go_wp2
      go_ret
      exact ⟨rfl, HB9.out⟩
    · have hx3 : 10 < x0 := by omega
      clear hx
      go_enter Tryz.func5, Tryz.ntmps5
      go_wp2_with fail
      refine HBB.mono ?_
      rintro e V ⟨rfl, hV⟩
      subst V
      clear HBB
      go_wp2_with fail
      refine (HLV.out _ HBX.out).mono ?_
      rintro e w9 ⟨rfl, hb9⟩
      have HB9 : Hid (Below w.heap.size w w9) := hb9
      clear hb9
      go_wp2
      go_ret
      exact ⟨rfl, HB9.out⟩
  obtain ⟨n, rfl⟩ := Int.eq_ofNat_of_zero_le (show 0 ≤ x0 by omega)
  have hn2 : 2 ≤ n := by omega
  have hn10 : n ≤ 10 := by omega
  have HBG := begun_any n w hn2 hn10
  clear hx z0
  go_enter Tryz.func5, Tryz.ntmps5
  go_wp2_with fail
  refine HBG.mono ?_
  rintro e V0 ⟨zb, g, jb, pb0, S0, FF0, gs0, ns0, pv0, ov0, rfl, hP0, hZ0, hF0, hb0⟩
  have H0 : Hid (PsE w.heap.size FF0 V0 g (dk0 n) pb0 jb n (px0 n) zb jb ∧ Below w.heap.size w V0) := ⟨⟨S0, gs0, ns0, pv0, ov0, hP0, hZ0, hF0 zb hZ0.f⟩, hb0⟩
  clear HBG hP0 hZ0 hF0 hb0
  go_upto_block 0 with fail
  go_cut [8] from 28 (fun _ wx => LpTo w g n zb jb wx)
  case first =>
    go_wp2_with fail
    go_loopw [8] (fun v8 wr => ∃ (i : Nat) (F1 : Nat → Prop) (D : Dk) (X : Px) (pb : Nat), i ≤ len1 ∧ i ≤ 40 ∧ v8 = .int .i64 (i : Int) ∧ PsE w.heap.size F1 wr g D pb jb n X zb jb ∧ Inv n i D X ∧ Below w.heap.size w wr) (fun v _ => len1 - (intOf v).toNat)
    case atStart => exact ⟨0, FF0, dk0 n, px0 n, pb0, by omega, by omega, rfl, H0.out.1, Inv.new n hn2, H0.out.2⟩
    case round =>
      clear H0
      obtain ⟨i, F1, D, X, pb, hi1, hi40, rfl, hps, hinv, hbw⟩ := hrel
      by_cases hgo : i < len1 ∧ i < 40
      · obtain ⟨hlt, hlt4⟩ := hgo
        have kk : (i : Int) < (len1 : Int) := by omega
        have kk4 : (i : Int) < 40 := by omega
        have kd1 : decide ((i : Int) < (len1 : Int)) = true := by simpa using kk
        have kd3 : decide ((i : Int) < 40) = true := by simpa using kk4
        obtain ⟨ab, ao, rfl, hfl, hld⟩ := (HOS.out.on hbw).load i hlt
        have hll : i < l1.length := by rw [HOS.out.1]; exact hlt
        have hld := hld hll
        have HST := step_any hps hinv (by omega) l1[i] (hfl hll) (fun _ => rfl)
        obtain ⟨o, ho⟩ : ∃ o, l1[i] = o := ⟨_, rfl⟩
        rw [ho] at hld HST
        have HBW : Hid (Below w.heap.size w wr) := hbw
        clear hps hinv hbw hfl ho
        go_wp2_with (refine wpList_load_w (by kernel_rfl) _ _ rfl rfl hld ?_)
        refine HST.mono ?_
        rintro e V1 ⟨b, D', X', pb', rfl, ⟨F', hps', _, hb'⟩, hinv', _, _, _⟩
        have HN : Hid (PsE w.heap.size F' V1 g D' pb' jb n X' zb jb ∧ Inv n (i + 1) D' X' ∧ Below w.heap.size w V1) := ⟨hps', hinv', HBW.out.trans hb'⟩
        clear HST hps' hb' hinv' hld
        go_wp2
        exact ⟨⟨i + 1, F', D', X', pb', by omega, by omega, by go_num, HN.out.1, HN.out.2.1, HN.out.2.2⟩, by simp [intOf]; omega⟩
      · have HX : Hid (PsE w.heap.size F1 wr g D pb jb n X zb jb ∧ Inv n i D X ∧ Below w.heap.size w wr) := ⟨hps, hinv, hbw⟩
        clear hps hinv hbw
        by_cases hle : i < len1
        · have kk : (i : Int) < (len1 : Int) := by omega
          have kk4 : ¬ (i : Int) < 40 := by omega
          have kd1 : decide ((i : Int) < (len1 : Int)) = true := by simpa using kk
          have kd3 : decide ((i : Int) < 40) = false := by simpa using kk4
          go_wp2
          go_meet
          case rel => exact ⟨i, F1, D, X, pb, hi40, HX.out⟩
        · have kk : ¬ (i : Int) < (len1 : Int) := by omega
          have kd1 : decide ((i : Int) < (len1 : Int)) = false := by simpa using kk
          go_wp2
          go_meet
          case rel => exact ⟨i, F1, D, X, pb, hi40, HX.out⟩
  case rest =>
  clear H0
  obtain ⟨i, F1, D, X, pb, hi40, hps0, hinv0, hbw0⟩ := hcut
  obtain ⟨wo, hwo⟩ : ∃ x, x = wc := ⟨_, rfl⟩
  subst hwo
  have HX : Hid (PsE w.heap.size F1 wo g D pb jb n X zb jb ∧ Inv n i D X ∧ Below w.heap.size w wo) := ⟨hps0, hinv0, hbw0⟩
  clear hps0 hinv0 hbw0
  obtain ⟨S1, gs1, ns1, pv1, ov1, hps⟩ := HX.out.1
  have hzh : w.heap.size ≤ zb := hps.h
  have hzl := hps.z.lt
  have HP : Hid (Ps w.heap.size F1 wo S1 g D pb jb n X zb jb gs1 ns1 pv1 ov1) := hps
  have HG : Hid (Asks n D) := HX.out.2.1.g.asks
  have HIV : Hid (Inv n i D X ∧ Below w.heap.size w wo ∧ X.Ok n) := ⟨HX.out.2.1, HX.out.2.2, hps.nn.1⟩
  have hc1 := hps.z.c
  have HCZ : Hid (∀ W : World, Below wo.heap.size wo W → W.cell? ⟨zb, 1, none⟩ = some (.pointer (some ⟨pb, 0, none⟩))) := fun W hW => by rw [hW.cell (show zb < _ from hzl)]; exact HP.out.z.cells.2.1
  clear hps HX hc1
  go_upto_region 8 with fail
  go_cut [9, 10] from 44 (fun v9 v10 wx => TwTo wo n (X.usedL n) (X.dataL n D n) X.now.h.root X.now.h.ser (X.chg n D) v9 v10 wx)
  case first =>
    refine wp_region_held_drew (S := fun W => W.cell? ⟨zb, 1, none⟩ = some (.pointer (some ⟨pb, 0, none⟩))) (by kernel_rfl) (HCZ.out _ (Below.refl _ wo).drew) (fun hHeld => ?_)
    refine wpAnyH_take (i := 0) (v := ?va0) rfl (by kernel_rfl) (by kernel_rfl) (by kernel_rfl) (fun _ _ _ h => h) (Or.inl ⟨by first | kernel_rfl | rfl, ?ya0⟩) hHeld ?ra0
    case ya0 => (intro W hSW; (try dsimp only at hSW); go_simp; (try with_reducible rfl))
    change wpAnyH _ _ _ _ _ _ _ (Act.put _ (some 44) _) _
    simp only [Act.put, List.setIfInBounds_toArray, List.set_cons_zero, List.set_cons_succ]
    refine wpAnyH_take (i := 1) (v := ?va1) rfl (by kernel_rfl) (by kernel_rfl) (by kernel_rfl) (fun _ _ _ h => h) (Or.inl ⟨by first | kernel_rfl | rfl, ?ya1⟩) hHeld ?ra1
    case ya1 => (intro W hSW; (try dsimp only at hSW); go_simp; (try with_reducible rfl))
    change wpAnyH _ _ _ _ _ _ _ (Act.put _ (some 45) _) _
    simp only [Act.put, List.setIfInBounds_toArray, List.set_cons_zero, List.set_cons_succ]
    refine wpAnyH_take (i := 2) (v := ?va2) rfl (by kernel_rfl) (by kernel_rfl) (by kernel_rfl) (fun _ _ _ h => h) (Or.inl ⟨by first | kernel_rfl | rfl, ?ya2⟩) hHeld ?ra2
    case ya2 => (intro W hSW; (try dsimp only at hSW); go_simp; (try with_reducible rfl))
    change wpAnyH _ _ _ _ _ _ _ (Act.put _ (some 46) _) _
    simp only [Act.put, List.setIfInBounds_toArray, List.set_cons_zero, List.set_cons_succ]
    refine wpAnyH_take (i := 3) (v := ?va3) rfl (by kernel_rfl) (by kernel_rfl) (by kernel_rfl) (fun _ _ _ h => h) (Or.inl ⟨by first | kernel_rfl | rfl, ?ya3⟩) hHeld ?ra3
    case ya3 => (intro W hSW; (try dsimp only at hSW); go_simp; (try with_reducible rfl))
    change wpAnyH _ _ _ _ _ _ _ (Act.put _ (some 47) _) _
    simp only [Act.put, List.setIfInBounds_toArray, List.set_cons_zero, List.set_cons_succ]
    refine wpAnyH_take (i := 5) (v := ?va5) rfl (by kernel_rfl) (by kernel_rfl) (by kernel_rfl) (fun _ _ _ h => h) (Or.inl ⟨by first | kernel_rfl | rfl, ?ya5⟩) hHeld ?ra5
    case ya5 => (intro W hSW; (try dsimp only at hSW); go_simp; (try with_reducible rfl))
    change wpAnyH _ _ _ _ _ _ _ (Act.put _ (some 49) _) _
    simp only [Act.put, List.setIfInBounds_toArray, List.set_cons_zero, List.set_cons_succ]
    refine wpAnyH_take (i := 6) (v := ?va6) rfl (by kernel_rfl) (by kernel_rfl) (by kernel_rfl) (fun _ _ _ h => h) (Or.inl ⟨by first | kernel_rfl | rfl, ?ya6⟩) hHeld ?ra6
    case ya6 => (intro W hSW; (try dsimp only at hSW); go_simp; (try with_reducible rfl))
    change wpAnyH _ _ _ _ _ _ _ (Act.put _ (some 50) _) _
    simp only [Act.put, List.setIfInBounds_toArray, List.set_cons_zero, List.set_cons_succ]
    refine wpAnyH_take (i := 7) (v := ?va7) rfl (by kernel_rfl) (by kernel_rfl) (by kernel_rfl) (fun _ _ _ h => h) (Or.inl ⟨by first | kernel_rfl | rfl, ?ya7⟩) hHeld ?ra7
    case ya7 => (intro W hSW; (try dsimp only at hSW); go_simp; (try with_reducible rfl))
    change wpAnyH _ _ _ _ _ _ _ (Act.put _ (some 51) _) _
    simp only [Act.put, List.setIfInBounds_toArray, List.set_cons_zero, List.set_cons_succ]
    refine wpAnyH_take (i := 8) (v := ?va8) rfl (by kernel_rfl) (by kernel_rfl) (by kernel_rfl) (fun _ _ _ h => h) (Or.inl ⟨by first | kernel_rfl | rfl, ?ya8⟩) hHeld ?ra8
    case ya8 => (intro W hSW; (try dsimp only at hSW); go_simp; (try with_reducible rfl))
    change wpAnyH _ _ _ _ _ _ _ (Act.put _ (some 52) _) _
    simp only [Act.put, List.setIfInBounds_toArray, List.set_cons_zero, List.set_cons_succ]
    refine wpAnyH_ready (rs := [4, 10]) (by kernel_rfl) (by simp) ?_
    refine AllReadyH.cons rfl (fun K hK => ?_) (AllReadyH.cons rfl (fun K hK => ?_) AllReadyH.nil)
    · have HBA : Hid (Below wo.heap.size wo wo.drew) := (Below.refl _ wo).drew
      go_simp
      refine (pstate_any (HP.out.p.below HBA.out) HG.out).mono ?_
      rintro e V1 ⟨ua, uc, da, dc, rfl, hu1, hd1, hb1⟩
      have HBB : Hid (Below wo.heap.size wo V1) := HBA.out.trans (hb1.mono HBA.out.size)
      refine hK.out _ _ (HCZ.out _ HBB.out) (fun hHeld => ?_)
      clear hK K
      try simp only [Act.put, List.setIfInBounds_toArray, List.set_cons_zero, List.set_cons_succ]
      refine wpAnyH_ready (rs := [9, 10]) (by kernel_rfl) (by simp) ?_
      refine AllReadyH.cons rfl (fun K hK => ?_) (AllReadyH.cons rfl (fun K hK => ?_) AllReadyH.nil)
      · go_simp
        refine (pchanged_any (HP.out.p.below HBB.out) HG.out).mono ?_
        rintro e V2 ⟨la, lc, rfl, hl2, hb2⟩
        have HBC : Hid (Below wo.heap.size wo V2) := HBB.out.trans (hb2.mono HBB.out.size)
        refine hK.out _ _ (HCZ.out _ HBC.out) (fun hHeld => ?_)
        clear hK K
        try simp only [Act.put, List.setIfInBounds_toArray, List.set_cons_zero, List.set_cons_succ]
        refine wpAnyH_ready (rs := [10]) (by kernel_rfl) (by simp) ?_
        refine AllReadyH.cons rfl (fun K hK => ?_) AllReadyH.nil
        obtain ⟨CC, hCC⟩ : ∃ C, V2.heap.size = C := ⟨_, rfl⟩
        obtain ⟨V3, hV3⟩ : ∃ V3, V2.alloc (.cells #[.slice none 0 0, .slice none 0 0, .int .i64 0, .int .i64 0, .int .i64 0, .int .i64 0, .int .u64 0] 42) = V3 := ⟨_, rfl⟩
        have HBD : Hid (Below wo.heap.size wo V3) := by show Below _ _ _; rw [← hV3]; exact HBC.out.alloc HBC.out.size _
        go_simp
        refine hK.out _ _ (HCZ.out _ HBD.out) (fun hHeld => ?_)
        clear hK K
        try simp only [Act.put, List.setIfInBounds_toArray, List.set_cons_zero, List.set_cons_succ]
        have HCE : Hid (V3.heap[CC]? = some (.cells #[.slice none 0 0, .slice none 0 0, .int .i64 0, .int .i64 0, .int .i64 0, .int .i64 0, .int .u64 0] 42 (0, 0)) ∧ wo.heap.size ≤ CC ∧ V3.ownsRow wo.heap.size 4 1 (.slice ua n uc) n (boolsV (X.usedL n)) ∧ V3.ownsRow wo.heap.size 9 1 (.slice da n dc) n (strsV (X.dataL n D n)) ∧ V3.ownsRow wo.heap.size 3 1 (.slice la (X.chg n D).length lc) (X.chg n D).length (intsV (X.chg n D)) ∧ (∀ k, (Value.slice ua n uc).ownBlock = some k → k ≠ CC) ∧ (∀ k, (Value.slice da n dc).ownBlock = some k → k ≠ CC) ∧ ∀ k, (Value.slice la (X.chg n D).length lc).ownBlock = some k → k ≠ CC) := by
          have z1 := HBB.out.size
          have z2 := hb2.size
          have z3 : V2.heap.size ≤ V3.heap.size := by rw [← hV3]; simp
          have g3 : ∀ x, x < V2.heap.size → V3.heap[x]? = V2.heap[x]? := fun x hx => by rw [← hV3]; exact Below.heap_alloc _ _ _ hx
          have za := HBA.out.size
          refine ⟨by rw [← hV3, ← hCC]; exact heap_alloc_new V2 _, by omega, own_base (own_keep hu1 (fun k hk => (g3 k (by have := (hu1.lt k hk).2; omega)).trans (hb2.block k (hu1.lt k hk).2))) za, own_base (own_keep hd1 (fun k hk => (g3 k (by have := (hd1.lt k hk).2; omega)).trans (hb2.block k (hd1.lt k hk).2))) za, own_base (own_keep hl2 (fun k hk => g3 k (hl2.lt k hk).2)) (by omega), fun k hk => by have := (hu1.lt k hk).2; omega, fun k hk => by have := (hd1.lt k hk).2; omega, fun k hk => by have := (hl2.lt k hk).2; omega⟩
        clear hu1 hd1 hl2 hb1 hb2 hV3 hCC
        have hst := rs_store (ua := ua) (uc := uc) (da := da) (dc := dc) (n := n) (r := X.now.h.root) (ser := X.now.h.ser) HCE.out.1 rfl
        obtain ⟨VE, hVE⟩ : ∃ VE, V3.setRow CC (rsA (.slice ua n uc) (.slice da n dc) X.now.h.root X.now.h.ser) = VE := ⟨_, rfl⟩
        obtain ⟨rs, hrs⟩ : ∃ rs, (rsA (.slice ua n uc) (.slice da n dc) X.now.h.root X.now.h.ser) = rs := ⟨_, rfl⟩
        rw [hVE, hrs] at hst
        have hrz : rs.size = 7 := by rw [← hrs]; rfl
        rw [hrs]
        have HE : Hid (TwTo wo n (X.usedL n) (X.dataL n D n) X.now.h.root X.now.h.ser (X.chg n D) (.pointer (some ⟨CC, 0, none⟩)) (.slice la (X.chg n D).length lc) VE) := by
          have hbe : Below wo.heap.size wo VE := by rw [← hVE]; exact setRow_below HBD.out HCE.out.2.1 _
          refine ⟨CC, la, lc, rfl, rfl, ⟨ua, uc, da, dc, by rw [← hVE]; exact setRow_heap _ _ _ _ _ _ HCE.out.1, HCE.out.2.1, ?_, ?_⟩, ?_, hbe⟩
          · exact (Rw.own (own_keep HCE.out.2.2.1 (fun k hk => by rw [← hVE]; exact setRow_other _ _ _ _ (HCE.out.2.2.2.2.2.1 k hk))) (fun x hx => hx))
          · exact (Rw.own (own_keep HCE.out.2.2.2.1 (fun k hk => by rw [← hVE]; exact setRow_other _ _ _ _ (HCE.out.2.2.2.2.2.2.1 k hk))) (fun x hx => hx))
          · exact (Rw.own (own_keep HCE.out.2.2.2.2.1 (fun k hk => by rw [← hVE]; exact setRow_other _ _ _ _ (HCE.out.2.2.2.2.2.2.2 k hk))) (fun x hx => hx))
        have HEC : Hid (VE.cell? ⟨zb, 1, none⟩ = some (.pointer (some ⟨pb, 0, none⟩))) := HCZ.out _ HE.out.choose_spec.choose_spec.choose_spec.2.2.2.2
        refine wpAnyH_ready (rs := [11]) (by kernel_rfl) (by simp) ?_
        refine AllReadyH.cons rfl (fun K hK => ?_) AllReadyH.nil
        go_simp
        refine hK.out _ _ (HEC.out) (fun hHeld => ?_)
        clear hK K
        refine wpAnyH_take (i := 12) (v := ?vc12) rfl (by kernel_rfl) (by kernel_rfl) (by kernel_rfl) (fun _ _ _ h => h) (Or.inl ⟨by first | kernel_rfl | rfl, ?yc12⟩) hHeld ?rc12
        case yc12 => (intro W hSW; (try dsimp only at hSW); go_simp; (try with_reducible rfl))
        change wpAnyH _ _ _ _ _ _ _ (Act.put _ (some 10) _) _
        simp only [Act.put, List.setIfInBounds_toArray, List.set_cons_zero, List.set_cons_succ]
        refine wpAnyH_done (by kernel_rfl) ?_ _
        go_wp2
        go_meet
        case rel => exact HE.out
      · obtain ⟨CC, hCC⟩ : ∃ C, V1.heap.size = C := ⟨_, rfl⟩
        obtain ⟨V3, hV3⟩ : ∃ V3, V1.alloc (.cells #[.slice none 0 0, .slice none 0 0, .int .i64 0, .int .i64 0, .int .i64 0, .int .i64 0, .int .u64 0] 42) = V3 := ⟨_, rfl⟩
        have HBD : Hid (Below wo.heap.size wo V3) := by show Below _ _ _; rw [← hV3]; exact HBB.out.alloc HBB.out.size _
        go_simp
        refine hK.out _ _ (HCZ.out _ HBD.out) (fun hHeld => ?_)
        clear hK K
        try simp only [Act.put, List.setIfInBounds_toArray, List.set_cons_zero, List.set_cons_succ]
        refine wpAnyH_ready (rs := [9]) (by kernel_rfl) (by simp) ?_
        refine AllReadyH.cons rfl (fun K hK => ?_) AllReadyH.nil
        have HBB : Hid (Below wo.heap.size wo V3) := HBD.out
        go_simp
        refine (pchanged_any (HP.out.p.below HBB.out) HG.out).mono ?_
        rintro e V2 ⟨la, lc, rfl, hl2, hb2⟩
        have HBC : Hid (Below wo.heap.size wo V2) := HBB.out.trans (hb2.mono HBB.out.size)
        refine hK.out _ _ (HCZ.out _ HBC.out) (fun hHeld => ?_)
        clear hK K
        try simp only [Act.put, List.setIfInBounds_toArray, List.set_cons_zero, List.set_cons_succ]
        have HCE : Hid (V2.heap[CC]? = some (.cells #[.slice none 0 0, .slice none 0 0, .int .i64 0, .int .i64 0, .int .i64 0, .int .i64 0, .int .u64 0] 42 (0, 0)) ∧ wo.heap.size ≤ CC ∧ V2.ownsRow wo.heap.size 4 1 (.slice ua n uc) n (boolsV (X.usedL n)) ∧ V2.ownsRow wo.heap.size 9 1 (.slice da n dc) n (strsV (X.dataL n D n)) ∧ V2.ownsRow wo.heap.size 3 1 (.slice la (X.chg n D).length lc) (X.chg n D).length (intsV (X.chg n D)) ∧ (∀ k, (Value.slice ua n uc).ownBlock = some k → k ≠ CC) ∧ (∀ k, (Value.slice da n dc).ownBlock = some k → k ≠ CC) ∧ ∀ k, (Value.slice la (X.chg n D).length lc).ownBlock = some k → k ≠ CC) := by
          have z1 := hb1.size
          have za := HBA.out.size
          have z3 : V3.heap.size = CC + 1 := by rw [← hV3, ← hCC]; simp
          have g3 : ∀ x, x < V1.heap.size → V2.heap[x]? = V1.heap[x]? := fun x hx => (hb2.block x (by omega)).trans (by rw [← hV3]; exact Below.heap_alloc _ _ _ hx)
          refine ⟨(hb2.block CC (by omega)).trans (by rw [← hV3, ← hCC]; exact heap_alloc_new V1 _), by omega, own_base (own_keep hu1 (fun k hk => g3 k (hu1.lt k hk).2)) za, own_base (own_keep hd1 (fun k hk => g3 k (hd1.lt k hk).2)) za, own_base hl2 (by omega), fun k hk => by have := (hu1.lt k hk).2; omega, fun k hk => by have := (hd1.lt k hk).2; omega, fun k hk => by have := (hl2.lt k hk).1; omega⟩
        clear hu1 hd1 hl2 hb1 hb2 hV3 hCC
        have hst := rs_store (ua := ua) (uc := uc) (da := da) (dc := dc) (n := n) (r := X.now.h.root) (ser := X.now.h.ser) HCE.out.1 rfl
        obtain ⟨VE, hVE⟩ : ∃ VE, V2.setRow CC (rsA (.slice ua n uc) (.slice da n dc) X.now.h.root X.now.h.ser) = VE := ⟨_, rfl⟩
        obtain ⟨rs, hrs⟩ : ∃ rs, (rsA (.slice ua n uc) (.slice da n dc) X.now.h.root X.now.h.ser) = rs := ⟨_, rfl⟩
        rw [hVE, hrs] at hst
        have hrz : rs.size = 7 := by rw [← hrs]; rfl
        rw [hrs]
        have HE : Hid (TwTo wo n (X.usedL n) (X.dataL n D n) X.now.h.root X.now.h.ser (X.chg n D) (.pointer (some ⟨CC, 0, none⟩)) (.slice la (X.chg n D).length lc) VE) := by
          have hbe : Below wo.heap.size wo VE := by rw [← hVE]; exact setRow_below HBC.out HCE.out.2.1 _
          refine ⟨CC, la, lc, rfl, rfl, ⟨ua, uc, da, dc, by rw [← hVE]; exact setRow_heap _ _ _ _ _ _ HCE.out.1, HCE.out.2.1, ?_, ?_⟩, ?_, hbe⟩
          · exact (Rw.own (own_keep HCE.out.2.2.1 (fun k hk => by rw [← hVE]; exact setRow_other _ _ _ _ (HCE.out.2.2.2.2.2.1 k hk))) (fun x hx => hx))
          · exact (Rw.own (own_keep HCE.out.2.2.2.1 (fun k hk => by rw [← hVE]; exact setRow_other _ _ _ _ (HCE.out.2.2.2.2.2.2.1 k hk))) (fun x hx => hx))
          · exact (Rw.own (own_keep HCE.out.2.2.2.2.1 (fun k hk => by rw [← hVE]; exact setRow_other _ _ _ _ (HCE.out.2.2.2.2.2.2.2 k hk))) (fun x hx => hx))
        have HEC : Hid (VE.cell? ⟨zb, 1, none⟩ = some (.pointer (some ⟨pb, 0, none⟩))) := HCZ.out _ HE.out.choose_spec.choose_spec.choose_spec.2.2.2.2
        refine wpAnyH_ready (rs := [11]) (by kernel_rfl) (by simp) ?_
        refine AllReadyH.cons rfl (fun K hK => ?_) AllReadyH.nil
        go_simp
        refine hK.out _ _ (HEC.out) (fun hHeld => ?_)
        clear hK K
        refine wpAnyH_take (i := 12) (v := ?vd12) rfl (by kernel_rfl) (by kernel_rfl) (by kernel_rfl) (fun _ _ _ h => h) (Or.inl ⟨by first | kernel_rfl | rfl, ?yd12⟩) hHeld ?rd12
        case yd12 => (intro W hSW; (try dsimp only at hSW); go_simp; (try with_reducible rfl))
        change wpAnyH _ _ _ _ _ _ _ (Act.put _ (some 10) _) _
        simp only [Act.put, List.setIfInBounds_toArray, List.set_cons_zero, List.set_cons_succ]
        refine wpAnyH_done (by kernel_rfl) ?_ _
        go_wp2
        go_meet
        case rel => exact HE.out
    · have HBZ : Hid (Below wo.heap.size wo wo.drew) := (Below.refl _ wo).drew
      obtain ⟨CC, hCC⟩ : ∃ C, wo.drew.heap.size = C := ⟨_, rfl⟩
      obtain ⟨V3, hV3⟩ : ∃ V3, wo.drew.alloc (.cells #[.slice none 0 0, .slice none 0 0, .int .i64 0, .int .i64 0, .int .i64 0, .int .i64 0, .int .u64 0] 42) = V3 := ⟨_, rfl⟩
      have HBA : Hid (Below wo.heap.size wo V3) := by show Below _ _ _; rw [← hV3]; exact HBZ.out.alloc HBZ.out.size _
      go_simp
      refine hK.out _ _ (HCZ.out _ HBA.out) (fun hHeld => ?_)
      clear hK K
      try simp only [Act.put, List.setIfInBounds_toArray, List.set_cons_zero, List.set_cons_succ]
      refine wpAnyH_ready (rs := [4]) (by kernel_rfl) (by simp) ?_
      refine AllReadyH.cons rfl (fun K hK => ?_) AllReadyH.nil
      go_simp
      refine (pstate_any (HP.out.p.below HBA.out) HG.out).mono ?_
      rintro e V1 ⟨ua, uc, da, dc, rfl, hu1, hd1, hb1⟩
      have HBB : Hid (Below wo.heap.size wo V1) := HBA.out.trans (hb1.mono HBA.out.size)
      refine hK.out _ _ (HCZ.out _ HBB.out) (fun hHeld => ?_)
      clear hK K
      try simp only [Act.put, List.setIfInBounds_toArray, List.set_cons_zero, List.set_cons_succ]
      refine wpAnyH_ready (rs := [9]) (by kernel_rfl) (by simp) ?_
      refine AllReadyH.cons rfl (fun K hK => ?_) AllReadyH.nil
      go_simp
      refine (pchanged_any (HP.out.p.below HBB.out) HG.out).mono ?_
      rintro e V2 ⟨la, lc, rfl, hl2, hb2⟩
      have HBC : Hid (Below wo.heap.size wo V2) := HBB.out.trans (hb2.mono HBB.out.size)
      refine hK.out _ _ (HCZ.out _ HBC.out) (fun hHeld => ?_)
      clear hK K
      try simp only [Act.put, List.setIfInBounds_toArray, List.set_cons_zero, List.set_cons_succ]
      have HCE : Hid (V2.heap[CC]? = some (.cells #[.slice none 0 0, .slice none 0 0, .int .i64 0, .int .i64 0, .int .i64 0, .int .i64 0, .int .u64 0] 42 (0, 0)) ∧ wo.heap.size ≤ CC ∧ V2.ownsRow wo.heap.size 4 1 (.slice ua n uc) n (boolsV (X.usedL n)) ∧ V2.ownsRow wo.heap.size 9 1 (.slice da n dc) n (strsV (X.dataL n D n)) ∧ V2.ownsRow wo.heap.size 3 1 (.slice la (X.chg n D).length lc) (X.chg n D).length (intsV (X.chg n D)) ∧ (∀ k, (Value.slice ua n uc).ownBlock = some k → k ≠ CC) ∧ (∀ k, (Value.slice da n dc).ownBlock = some k → k ≠ CC) ∧ ∀ k, (Value.slice la (X.chg n D).length lc).ownBlock = some k → k ≠ CC) := by
        have z1 := hb1.size
        have za := HBA.out.size
        have z0 : wo.heap.size = CC := hCC
        have z3 : V3.heap.size = CC + 1 := by rw [← hV3, ← hCC]; simp
        refine ⟨(hb2.block CC (by omega)).trans ((hb1.block CC (by omega)).trans (by rw [← hV3, ← hCC]; exact heap_alloc_new wo.drew _)), by omega, own_base (own_keep hu1 (fun k hk => hb2.block k (hu1.lt k hk).2)) za, own_base (own_keep hd1 (fun k hk => hb2.block k (hd1.lt k hk).2)) za, own_base hl2 (by omega), fun k hk => by have := (hu1.lt k hk).1; omega, fun k hk => by have := (hd1.lt k hk).1; omega, fun k hk => by have := (hl2.lt k hk).1; omega⟩
      clear hu1 hd1 hl2 hb1 hb2 hV3 hCC
      have hst := rs_store (ua := ua) (uc := uc) (da := da) (dc := dc) (n := n) (r := X.now.h.root) (ser := X.now.h.ser) HCE.out.1 rfl
      obtain ⟨VE, hVE⟩ : ∃ VE, V2.setRow CC (rsA (.slice ua n uc) (.slice da n dc) X.now.h.root X.now.h.ser) = VE := ⟨_, rfl⟩
      obtain ⟨rs, hrs⟩ : ∃ rs, (rsA (.slice ua n uc) (.slice da n dc) X.now.h.root X.now.h.ser) = rs := ⟨_, rfl⟩
      rw [hVE, hrs] at hst
      have hrz : rs.size = 7 := by rw [← hrs]; rfl
      rw [hrs]
      have HE : Hid (TwTo wo n (X.usedL n) (X.dataL n D n) X.now.h.root X.now.h.ser (X.chg n D) (.pointer (some ⟨CC, 0, none⟩)) (.slice la (X.chg n D).length lc) VE) := by
        have hbe : Below wo.heap.size wo VE := by rw [← hVE]; exact setRow_below HBC.out HCE.out.2.1 _
        refine ⟨CC, la, lc, rfl, rfl, ⟨ua, uc, da, dc, by rw [← hVE]; exact setRow_heap _ _ _ _ _ _ HCE.out.1, HCE.out.2.1, ?_, ?_⟩, ?_, hbe⟩
        · exact (Rw.own (own_keep HCE.out.2.2.1 (fun k hk => by rw [← hVE]; exact setRow_other _ _ _ _ (HCE.out.2.2.2.2.2.1 k hk))) (fun x hx => hx))
        · exact (Rw.own (own_keep HCE.out.2.2.2.1 (fun k hk => by rw [← hVE]; exact setRow_other _ _ _ _ (HCE.out.2.2.2.2.2.2.1 k hk))) (fun x hx => hx))
        · exact (Rw.own (own_keep HCE.out.2.2.2.2.1 (fun k hk => by rw [← hVE]; exact setRow_other _ _ _ _ (HCE.out.2.2.2.2.2.2.2 k hk))) (fun x hx => hx))
      have HEC : Hid (VE.cell? ⟨zb, 1, none⟩ = some (.pointer (some ⟨pb, 0, none⟩))) := HCZ.out _ HE.out.choose_spec.choose_spec.choose_spec.2.2.2.2
      refine wpAnyH_ready (rs := [11]) (by kernel_rfl) (by simp) ?_
      refine AllReadyH.cons rfl (fun K hK => ?_) AllReadyH.nil
      go_simp
      refine hK.out _ _ (HEC.out) (fun hHeld => ?_)
      clear hK K
      refine wpAnyH_take (i := 12) (v := ?ve12) rfl (by kernel_rfl) (by kernel_rfl) (by kernel_rfl) (fun _ _ _ h => h) (Or.inl ⟨by first | kernel_rfl | rfl, ?ye12⟩) hHeld ?re12
      case ye12 => (intro W hSW; (try dsimp only at hSW); go_simp; (try with_reducible rfl))
      change wpAnyH _ _ _ _ _ _ _ (Act.put _ (some 10) _) _
      simp only [Act.put, List.setIfInBounds_toArray, List.set_cons_zero, List.set_cons_succ]
      refine wpAnyH_done (by kernel_rfl) ?_ _
      go_wp2
      go_meet
      case rel => exact HE.out
  case rest =>
  obtain ⟨cb, la, lc, rfl, rfl, hwas, hli, hbc⟩ := hcut
  obtain ⟨wq, hwq⟩ : ∃ x, x = wc := ⟨_, rfl⟩
  subst hwq
  obtain ⟨ua, uc, da, dc, hcb, hcb0, hus, hds⟩ := hwas
  obtain ⟨rs, hrs⟩ : ∃ rs, (rsA (.slice ua n uc) (.slice da n dc) X.now.h.root X.now.h.ser) = rs := ⟨_, rfl⟩
  rw [hrs] at hcb
  have hrsz : rs.size = 7 := by rw [← hrs]; rfl
  have hps2 := HP.out.below hbc
  have hsub : ∀ x, wo.heap.size ≤ x → x < wq.heap.size → but zb (mor F1 wo wq) x := fun x h1 h2 => ⟨.inr ⟨h1, h2⟩, by omega⟩
  have HW2 : Hid (wq.heap[cb]? = some (.cells rs 42 (0, 0)) ∧ but zb (mor F1 wo wq) cb ∧ Rw (but zb (mor F1 wo wq)) wq 4 1 ua n uc (boolsV (X.usedL n)) ∧ Rw (but zb (mor F1 wo wq)) wq 9 1 da n dc (strsV (X.dataL n D n)) ∧ Rw (but zb (mor F1 wo wq)) wq 3 1 la (X.chg n D).length lc (intsV (X.chg n D)) ∧ (rsA (.slice ua n uc) (.slice da n dc) X.now.h.root X.now.h.ser) = rs) := ⟨hcb, hsub cb hcb0 (lt_of_some hcb), hus.mono hsub, hds.mono hsub, hli.mono hsub, hrs⟩
  have c12 := hps2.z.cells.2.1
  have HSV := psave_any hps2.p
  have HP2 : Hid (Ps w.heap.size (mor F1 wo wq) wq S1 g D pb jb n X zb jb gs1 ns1 pv1 ov1 ∧ Below w.heap.size w wq) := ⟨hps2, HIV.out.2.1.trans (hbc.mono HIV.out.2.1.size)⟩
  clear hcb hcb0 hus hds hli hbc hps2 hsub hrs HCZ
  go_wp2_with fail
  refine HSV.mono ?_
  rintro e V3 (⟨hlt16, rfl, hT⟩ | ⟨h16, rfl, hT⟩)
  rotate_left
  · have HBX : Hid (Below w.heap.size w V3) := by
      obtain ⟨_, _, _, _, hb⟩ := hT
      exact HP2.out.2.trans hb
    clear HSV hT
    go_wp2_with fail
    refine (HLV.out _ HBX.out).mono ?_
    rintro e w9 ⟨rfl, hb9⟩
    have HB9 : Hid (Below w.heap.size w w9) := hb9
    clear hb9
    go_wp2
    go_ret
    exact ⟨rfl, HB9.out⟩
  obtain ⟨F3, S3, hps3, hf3, hb3⟩ := HP2.out.1.pto hT
  have H3 : Hid (PsE w.heap.size F3 V3 g D pb jb n X.sav zb jb ∧ Inv n (i + 1) D X.sav ∧ Below w.heap.size w V3 ∧ Fr (but zb (mor F1 wo wq)) wq (but zb F3) V3) := ⟨⟨S3, _, _, _, _, hps3⟩, sav_inv HIV.out.1, HP2.out.2.trans hb3, hf3.but zb⟩
  obtain ⟨nn, hnn⟩ : ∃ nn, X.saves.length = nn := ⟨_, rfl⟩
  rw [hnn] at hlt16 ⊢
  have HNN : Hid (X.saves.length = nn) := hnn
  clear HSV hT hps3 hf3 hb3 hnn c12
  go_upto_block 2 with fail
  go_cut [13, 14] from 69 (fun _ _ wx => Lp2To w wq (but zb (mor F1 wo wq)) g D pb jb n X zb wx)
  case first =>
    go_wp2_with fail
    go_loopw [13] (fun v13 wr => ∃ (j : Nat) (F2 : Nat → Prop) (Y : Px), j ≤ len2 ∧ j ≤ 40 ∧ v13 = .int .i64 (j : Int) ∧ PsE w.heap.size F2 wr g D pb jb n Y zb jb ∧ Inv n (i + 1 + j) D Y ∧ Y.saves = X.saves ++ [X.now] ∧ Y.good = X.good ∧ Y.kept = X.kept ∧ Below w.heap.size w wr ∧ Fr (but zb (mor F1 wo wq)) wq (but zb F2) wr) (fun v _ => len2 - (intOf v).toNat)
    case atStart => exact ⟨0, F3, X.sav, by omega, by omega, rfl, H3.out.1, H3.out.2.1, rfl, rfl, rfl, H3.out.2.2.1, H3.out.2.2.2⟩
    case round =>
      clear H3
      obtain ⟨j, F2, Y, hj1, hj40, rfl, hps, hinv, hsv, hgd, hkp, hbw, hfr⟩ := hrel
      by_cases hgo2 : j < len2 ∧ j < 40
      · obtain ⟨hlt, hlt4⟩ := hgo2
        have kk : (j : Int) < (len2 : Int) := by omega
        have kk4 : (j : Int) < 40 := by omega
        have ke1 : decide ((j : Int) < (len2 : Int)) = true := by simpa using kk
        have ke3 : decide ((j : Int) < 40) = true := by simpa using kk4
        obtain ⟨ab, ao, rfl, hfl, hld⟩ := (HO2.out.on hbw).load j hlt
        have hll : j < l2.length := by rw [HO2.out.1]; exact hlt
        have hld := hld hll
        have hfl := hfl hll
        obtain ⟨o, ho⟩ : ∃ o, l2[j] = o := ⟨_, rfl⟩
        rw [ho] at hld hfl
        clear ho
        obtain ⟨kd, id, kx, lg, fl⟩ := o
        have hfl : fl < 256 := hfl
        unfold OV.agg at hld
        simp only at hld
        obtain ⟨C, hC⟩ : ∃ C, wr.heap.size = C := ⟨_, rfl⟩
        obtain ⟨W1, hW1⟩ : ∃ W1, wr.alloc (.cells #[.int .i64 kd, .int .i64 id, .int .i64 kx, .int .i64 lg, .int .u8 (fl : Int)] 57) = W1 := ⟨_, rfl⟩
        have hr1 : W1.heap[C]? = some (.cells (opA kd id kx lg fl) 57 (0, 0)) := by rw [← hW1, ← hC]; exact heap_alloc_new wr _
        have hb1 : Below wr.heap.size wr W1 := by rw [← hW1]; exact (Below.refl _ wr).alloc (Nat.le_refl _) _
        have hl1 := op_load hr1
        have ck : W1.cell? ⟨C, 0, none⟩ = some (.int .i64 kd) := by rw [cell_of_row W1 C _ _ _ _ hr1]; rfl
        obtain ⟨S9, gs9, ns9, pv9, ov9, hps9⟩ := hps
        have hps1 : PsE w.heap.size (mor F2 wr W1) W1 g D pb jb n Y zb jb := ⟨S9, gs9, ns9, pv9, ov9, hps9.below hb1⟩
        have HK : Hid (PsE w.heap.size (mor F2 wr W1) W1 g D pb jb n Y zb jb ∧ Inv n (i + 1 + j) D Y ∧ Y.saves = X.saves ++ [X.now] ∧ Y.good = X.good ∧ Y.kept = X.kept ∧ Below w.heap.size w W1 ∧ Fr (but zb (mor F1 wo wq)) wq (but zb (mor F2 wr W1)) W1) := ⟨hps1, hinv, hsv, hgd, hkp, hbw.trans (hb1.mono hbw.size), hfr.trans ((Fr.below hb1).but zb)⟩
        have HST := step_any (k := i + 1 + j) hps1 hinv (by omega) ⟨kd, id, kx, lg, fl⟩ hfl (fun _ => rfl)
        unfold OV.agg at HST
        simp only at HST
        unfold opA at hl1
        clear hps9 hps1 hinv hsv hgd hkp hbw hfr hfl hr1 hb1
        by_cases hk4 : kd < 4
        · go_wp2_with (first | (refine wpList_load_w (by kernel_rfl) _ _ rfl rfl hld ?_) | (refine wpList_load_w (by kernel_rfl) _ _ rfl rfl hl1 ?_))
          refine HST.mono ?_
          rintro e V1 ⟨b, D', X', pb', rfl, ⟨F', hps', hf', hb'⟩, hinv', e6, e4, e8⟩
          obtain ⟨rfl, hg', hk'⟩ := e6 (by omega)
          obtain rfl := e8 (by omega)
          have HN : Hid (PsE w.heap.size F' V1 g D' pb' jb n X' zb jb ∧ Inv n (i + 1 + (j + 1)) D' X' ∧ X'.saves = X.saves ++ [X.now] ∧ X'.good = X.good ∧ X'.kept = X.kept ∧ Below w.heap.size w V1 ∧ Fr (but zb (mor F1 wo wq)) wq (but zb F') V1) := ⟨hps', hinv', by rw [e4 hk4]; exact HK.out.2.2.1, by rw [hg']; exact HK.out.2.2.2.1, by rw [hk']; exact HK.out.2.2.2.2.1, HK.out.2.2.2.2.2.1.trans hb', HK.out.2.2.2.2.2.2.trans hf'⟩
          clear HST hps' hb' hf' hinv' hld hl1 e4 e6 e8 hg' hk' HK
          go_wp2
          exact ⟨⟨j + 1, F', X', by omega, by omega, by go_num, HN.out⟩, by simp [intOf]; omega⟩
        · have HN : Hid (PsE w.heap.size (mor F2 wr W1) W1 g D pb jb n Y zb jb ∧ Inv n (i + 1 + (j + 1)) D Y ∧ Y.saves = X.saves ++ [X.now] ∧ Y.good = X.good ∧ Y.kept = X.kept ∧ Below w.heap.size w W1 ∧ Fr (but zb (mor F1 wo wq)) wq (but zb (mor F2 wr W1)) W1) := ⟨HK.out.1, HK.out.2.1.mono (by omega), HK.out.2.2⟩
          clear HST hl1 HK
          go_wp2_with (refine wpList_load_w (by kernel_rfl) _ _ rfl rfl hld ?_)
          exact ⟨⟨j + 1, mor F2 wr W1, Y, by omega, by omega, by go_num, HN.out⟩, by simp [intOf]; omega⟩
      · have HX3 : Hid (PsE w.heap.size F2 wr g D pb jb n Y zb jb ∧ Y.saves = X.saves ++ [X.now] ∧ Y.good = X.good ∧ Y.kept = X.kept ∧ Below w.heap.size w wr ∧ Fr (but zb (mor F1 wo wq)) wq (but zb F2) wr) := ⟨hps, hsv, hgd, hkp, hbw, hfr⟩
        clear hps hinv hsv hgd hkp hbw hfr
        by_cases hle2 : j < len2
        · have kk : (j : Int) < (len2 : Int) := by omega
          have kk4 : ¬ (j : Int) < 40 := by omega
          have ke1 : decide ((j : Int) < (len2 : Int)) = true := by simpa using kk
          have ke3 : decide ((j : Int) < 40) = false := by simpa using kk4
          go_wp2
          go_meet
          case rel => exact ⟨F2, Y, HX3.out⟩
        · have kk : ¬ (j : Int) < (len2 : Int) := by omega
          have ke1 : decide ((j : Int) < (len2 : Int)) = false := by simpa using kk
          go_wp2
          go_meet
          case rel => exact ⟨F2, Y, HX3.out⟩
  case rest =>
  clear H3
  obtain ⟨F2, Y, hps, hsv, hgd, hkp, hbw, hfr⟩ := hcut
  obtain ⟨wr, hwr⟩ : ∃ x, x = wc := ⟨_, rfl⟩
  subst hwr
  obtain ⟨S9, gs9, ns9, pv9, ov9, hps9⟩ := hps
  have HQ : Hid (Pgr w.heap.size F2 wr S9 g D pb jb n Y ∧ Y.saves = X.saves ++ [X.now] ∧ Y.good = X.good ∧ Y.kept = X.kept ∧ Below w.heap.size w wr) := ⟨hps9.p, hsv, hgd, hkp, hbw⟩
  have hzc9 := hps9.z.c
  have hpp9 := hps9.z.cells.2.1
  have hzf := hps9.z.f
  have hw1 := (hfr.blk cb HW2.out.2.1 (lt_of_some HW2.out.1)).trans HW2.out.1
  have hcF := hfr.sub cb HW2.out.2.1
  have HSS : Hid (∀ {F' : Nat → Prop} (W : World), Fr F2 wr F' W → W.cell? ⟨zb, 1, none⟩ = some (.pointer (some ⟨pb, 0, none⟩)) ∧ W.heap[cb]? = some (.cells rs 42 (0, 0))) := fun W hW => ⟨by rw [cell_blk (hW.blk zb hzf (lt_of_some hzc9))]; exact hpp9, (hW.blk cb hcF.1 (lt_of_some hw1)).trans hw1⟩
  have hs1 : ∀ x, but zb F2 x → x < wr.heap.size → F2 x := fun x hx _ => hx.1
  have HWA : Hid ((rsA (.slice ua n uc) (.slice da n dc) X.now.h.root X.now.h.ser) = rs ∧ Rw F2 wr 4 1 ua n uc (boolsV (X.usedL n)) ∧ Rw F2 wr 9 1 da n dc (strsV (X.dataL n D n)) ∧ Rw F2 wr 3 1 la (X.chg n D).length lc (intsV (X.chg n D))) := ⟨HW2.out.2.2.2.2.2, (HW2.out.2.2.1.fr hfr).mono hs1, (HW2.out.2.2.2.1.fr hfr).mono hs1, (HW2.out.2.2.2.2.1.fr hfr).mono hs1⟩
  clear hps9 hsv hgd hkp hbw hfr hzc9 hpp9 hzf hw1 hcF hs1
  go_wp2
  refine wp_region_held_drew (S := fun W => W.cell? ⟨zb, 1, none⟩ = some (.pointer (some ⟨pb, 0, none⟩)) ∧ W.heap[cb]? = some (.cells rs 42 (0, 0))) (by kernel_rfl) (HSS.out _ (Fr.drew _ wr)) (fun hHeld => ?_)
  refine wpAnyH_take (i := 0) (v := ?vq0) rfl (by kernel_rfl) (by kernel_rfl) (by kernel_rfl) (fun _ _ _ h => h) (Or.inl ⟨by first | kernel_rfl | rfl, ?yq0⟩) hHeld ?rq0
  case yq0 => (intro W hSW; (try dsimp only at hSW); go_simp; (try with_reducible rfl))
  change wpAnyH _ _ _ _ _ _ _ (Act.put _ (some 89) _) _
  simp only [Act.put, List.setIfInBounds_toArray, List.set_cons_zero, List.set_cons_succ]
  refine wpAnyH_take (i := 1) (v := ?vq1) rfl (by kernel_rfl) (by kernel_rfl) (by kernel_rfl) (fun _ _ _ h => h) (Or.inl ⟨by first | kernel_rfl | rfl, ?yq1⟩) hHeld ?rq1
  case yq1 => (intro W hSW; (try dsimp only at hSW); go_simp; (try with_reducible rfl))
  change wpAnyH _ _ _ _ _ _ _ (Act.put _ (some 90) _) _
  simp only [Act.put, List.setIfInBounds_toArray, List.set_cons_zero, List.set_cons_succ]
  refine wpAnyH_take (i := 2) (v := ?vq2) rfl (by kernel_rfl) (by kernel_rfl) (by kernel_rfl) (fun _ _ _ h => h) (Or.inl ⟨by first | kernel_rfl | rfl, ?yq2⟩) hHeld ?rq2
  case yq2 => (intro W hSW; (try dsimp only at hSW); go_simp; (try with_reducible rfl))
  change wpAnyH _ _ _ _ _ _ _ (Act.put _ (some 91) _) _
  simp only [Act.put, List.setIfInBounds_toArray, List.set_cons_zero, List.set_cons_succ]
  refine wpAnyH_take (i := 3) (v := ?vq3) rfl (by kernel_rfl) (by kernel_rfl) (by kernel_rfl) (fun _ _ _ h => h) (Or.inl ⟨by first | kernel_rfl | rfl, ?yq3⟩) hHeld ?rq3
  case yq3 => (intro W hSW; (try dsimp only at hSW); go_simp; (try with_reducible rfl))
  change wpAnyH _ _ _ _ _ _ _ (Act.put _ (some 92) _) _
  simp only [Act.put, List.setIfInBounds_toArray, List.set_cons_zero, List.set_cons_succ]
  refine wpAnyH_take (i := 4) (v := ?vq4) rfl (by kernel_rfl) (by kernel_rfl) (by kernel_rfl) (fun _ _ _ h => h) (Or.inl ⟨by first | kernel_rfl | rfl, ?yq4⟩) hHeld ?rq4
  case yq4 => (intro W hSW; (try dsimp only at hSW); go_simp; (try with_reducible rfl))
  change wpAnyH _ _ _ _ _ _ _ (Act.put _ (some 93) _) _
  simp only [Act.put, List.setIfInBounds_toArray, List.set_cons_zero, List.set_cons_succ]
  have HB1 := pback_last (X0 := X) (HQ.out.1.below (Below.refl _ wr).drew) HQ.out.2.1 HQ.out.2.2.1 HQ.out.2.2.2.1
  rw [mor_drew, HNN.out] at HB1
  refine wpAnyH_ready (rs := [5]) (by kernel_rfl) (by simp) ?_
  refine AllReadyH.cons rfl (fun K hK => ?_) AllReadyH.nil
  go_simp
  refine (HB1).mono ?_
  rintro e V1 ⟨rfl, hT1⟩
  refine hK.out _ _ (HSS.out _ (((Fr.drew _ wr).trans hT1.choose_spec.choose_spec.2.1))) (fun hHeld => ?_)
  clear hK K
  try simp only [Act.put, List.setIfInBounds_toArray, List.set_cons_zero, List.set_cons_succ]
  obtain ⟨F1, S1, hp1, hf1, hb1⟩ := hT1
  have HB2 := pback_none hp1
  rw [HNN.out] at HB2
  have H1 : Hid (Fr F2 wr F1 V1 ∧ Below w.heap.size w V1) := ⟨(Fr.drew _ wr).trans hf1, HQ.out.2.2.2.2.drew.trans hb1⟩
  clear hp1 hf1 hb1 HB1
  refine wpAnyH_take (i := 6) (v := .bool true) rfl (by kernel_rfl) (by kernel_rfl) (by kernel_rfl) (fun _ _ _ h => h) (Or.inl ⟨by first | kernel_rfl | rfl, ?yq6⟩) hHeld ?rq6
  case yq6 => (intro W hSW; (try dsimp only at hSW); go_simp; (try with_reducible rfl))
  change wpAnyH _ _ _ _ _ _ _ (Act.put _ (some 95) _) _
  simp only [Act.put, List.setIfInBounds_toArray, List.set_cons_zero, List.set_cons_succ]
  refine wpAnyH_take (i := 7) (v := .bool true) rfl (by kernel_rfl) (by kernel_rfl) (by kernel_rfl) (fun _ _ _ h => h) (Or.inl ⟨by first | kernel_rfl | rfl, ?yq7⟩) hHeld ?rq7
  case yq7 => (intro W hSW; (try dsimp only at hSW); go_simp; (try with_reducible rfl))
  change wpAnyH _ _ _ _ _ _ _ (Act.put _ (some 96) _) _
  simp only [Act.put, List.setIfInBounds_toArray, List.set_cons_zero, List.set_cons_succ]
  refine wpAnyH_take (i := 8) (v := ?vq8) rfl (by kernel_rfl) (by kernel_rfl) (by kernel_rfl) (fun _ _ _ h => h) (Or.inl ⟨by first | kernel_rfl | rfl, ?yq8⟩) hHeld ?rq8
  case yq8 => (intro W hSW; (try dsimp only at hSW); go_simp; (try with_reducible rfl))
  change wpAnyH _ _ _ _ _ _ _ (Act.put _ (some 97) _) _
  simp only [Act.put, List.setIfInBounds_toArray, List.set_cons_zero, List.set_cons_succ]
  refine wpAnyH_take (i := 9) (v := ?vq9) rfl (by kernel_rfl) (by kernel_rfl) (by kernel_rfl) (fun _ _ _ h => h) (Or.inl ⟨by first | kernel_rfl | rfl, ?yq9⟩) hHeld ?rq9
  case yq9 => (intro W hSW; (try dsimp only at hSW); go_simp; (try with_reducible rfl))
  change wpAnyH _ _ _ _ _ _ _ (Act.put _ (some 98) _) _
  simp only [Act.put, List.setIfInBounds_toArray, List.set_cons_zero, List.set_cons_succ]
  refine wpAnyH_take (i := 10) (v := ?vq10) rfl (by kernel_rfl) (by kernel_rfl) (by kernel_rfl) (fun _ _ _ h => h) (Or.inl ⟨by first | kernel_rfl | rfl, ?yq10⟩) hHeld ?rq10
  case yq10 => (intro W hSW; (try dsimp only at hSW); go_simp; (try with_reducible rfl))
  change wpAnyH _ _ _ _ _ _ _ (Act.put _ (some 99) _) _
  simp only [Act.put, List.setIfInBounds_toArray, List.set_cons_zero, List.set_cons_succ]
  refine wpAnyH_take (i := 11) (v := ?vq11) rfl (by kernel_rfl) (by kernel_rfl) (by kernel_rfl) (fun _ _ _ h => h) (Or.inl ⟨by first | kernel_rfl | rfl, ?yq11⟩) hHeld ?rq11
  case yq11 => (intro W hSW; (try dsimp only at hSW); go_simp; (try with_reducible rfl))
  change wpAnyH _ _ _ _ _ _ _ (Act.put _ (some 100) _) _
  simp only [Act.put, List.setIfInBounds_toArray, List.set_cons_zero, List.set_cons_succ]
  refine wpAnyH_take (i := 12) (v := ?vq12) rfl (by kernel_rfl) (by kernel_rfl) (by kernel_rfl) (fun _ _ _ h => h) (Or.inl ⟨by first | kernel_rfl | rfl, ?yq12⟩) hHeld ?rq12
  case yq12 => (intro W hSW; (try dsimp only at hSW); go_simp; (try with_reducible rfl))
  change wpAnyH _ _ _ _ _ _ _ (Act.put _ (some 101) _) _
  simp only [Act.put, List.setIfInBounds_toArray, List.set_cons_zero, List.set_cons_succ]
  refine wpAnyH_ready (rs := [13]) (by kernel_rfl) (by simp) ?_
  refine AllReadyH.cons rfl (fun K hK => ?_) AllReadyH.nil
  go_simp
  refine (HB2).mono ?_
  rintro e V2 ⟨rfl, hT2⟩
  refine hK.out _ _ (HSS.out _ (H1.out.1.trans hT2.choose_spec.choose_spec.2.1)) (fun hHeld => ?_)
  clear hK K
  try simp only [Act.put, List.setIfInBounds_toArray, List.set_cons_zero, List.set_cons_succ]
  obtain ⟨F3, S3, hp3, hf3, hb3⟩ := hT2
  have H2 : Hid (Pgr w.heap.size F3 V2 S3 g D pb jb n X ∧ Fr F2 wr F3 V2 ∧ Below w.heap.size w V2) := ⟨hp3, H1.out.1.trans hf3, H1.out.2.trans hb3⟩
  have HS3 := pstate_any H2.out.1 HG.out
  clear hp3 hf3 hb3 HB2
  refine wpAnyH_take (i := 14) (v := .bool true) rfl (by kernel_rfl) (by kernel_rfl) (by kernel_rfl) (fun _ _ _ h => h) (Or.inl ⟨by first | kernel_rfl | rfl, ?yq14⟩) hHeld ?rq14
  case yq14 => (intro W hSW; (try dsimp only at hSW); go_simp; (try with_reducible rfl))
  change wpAnyH _ _ _ _ _ _ _ (Act.put _ (some 103) _) _
  simp only [Act.put, List.setIfInBounds_toArray, List.set_cons_zero, List.set_cons_succ]
  refine wpAnyH_take (i := 15) (v := .bool true) rfl (by kernel_rfl) (by kernel_rfl) (by kernel_rfl) (fun _ _ _ h => h) (Or.inl ⟨by first | kernel_rfl | rfl, ?yq15⟩) hHeld ?rq15
  case yq15 => (intro W hSW; (try dsimp only at hSW); go_simp; (try with_reducible rfl))
  change wpAnyH _ _ _ _ _ _ _ (Act.put _ (some 104) _) _
  simp only [Act.put, List.setIfInBounds_toArray, List.set_cons_zero, List.set_cons_succ]
  refine wpAnyH_take (i := 16) (v := .bool true) rfl (by kernel_rfl) (by kernel_rfl) (by kernel_rfl) (fun _ _ _ h => h) (Or.inl ⟨by first | kernel_rfl | rfl, ?yq16⟩) hHeld ?rq16
  case yq16 => (intro W hSW; (try dsimp only at hSW); go_simp; (try with_reducible rfl))
  change wpAnyH _ _ _ _ _ _ _ (Act.put _ (some 105) _) _
  simp only [Act.put, List.setIfInBounds_toArray, List.set_cons_zero, List.set_cons_succ]
  refine wpAnyH_take (i := 17) (v := ?vq17) rfl (by kernel_rfl) (by kernel_rfl) (by kernel_rfl) (fun _ _ _ h => h) (Or.inl ⟨by first | kernel_rfl | rfl, ?yq17⟩) hHeld ?rq17
  case yq17 => (intro W hSW; (try dsimp only at hSW); go_simp; (try with_reducible rfl))
  change wpAnyH _ _ _ _ _ _ _ (Act.put _ (some 106) _) _
  simp only [Act.put, List.setIfInBounds_toArray, List.set_cons_zero, List.set_cons_succ]
  refine wpAnyH_take (i := 18) (v := ?vq18) rfl (by kernel_rfl) (by kernel_rfl) (by kernel_rfl) (fun _ _ _ h => h) (Or.inl ⟨by first | kernel_rfl | rfl, ?yq18⟩) hHeld ?rq18
  case yq18 => (intro W hSW; (try dsimp only at hSW); go_simp; (try with_reducible rfl))
  change wpAnyH _ _ _ _ _ _ _ (Act.put _ (some 107) _) _
  simp only [Act.put, List.setIfInBounds_toArray, List.set_cons_zero, List.set_cons_succ]
  refine wpAnyH_take (i := 19) (v := ?vq19) rfl (by kernel_rfl) (by kernel_rfl) (by kernel_rfl) (fun _ _ _ h => h) (Or.inl ⟨by first | kernel_rfl | rfl, ?yq19⟩) hHeld ?rq19
  case yq19 => (intro W hSW; (try dsimp only at hSW); go_simp; (try with_reducible rfl))
  change wpAnyH _ _ _ _ _ _ _ (Act.put _ (some 108) _) _
  simp only [Act.put, List.setIfInBounds_toArray, List.set_cons_zero, List.set_cons_succ]
  refine wpAnyH_take (i := 20) (v := ?vq20) rfl (by kernel_rfl) (by kernel_rfl) (by kernel_rfl) (fun _ _ _ h => h) (Or.inl ⟨by first | kernel_rfl | rfl, ?yq20⟩) hHeld ?rq20
  case yq20 => (intro W hSW; (try dsimp only at hSW); go_simp; (try with_reducible rfl))
  change wpAnyH _ _ _ _ _ _ _ (Act.put _ (some 109) _) _
  simp only [Act.put, List.setIfInBounds_toArray, List.set_cons_zero, List.set_cons_succ]
  refine wpAnyH_take (i := 22) (v := .agg rs) rfl (by kernel_rfl) (by kernel_rfl) (by kernel_rfl) (fun _ _ _ h => h) (Or.inl ⟨by first | kernel_rfl | rfl, ?yq22⟩) hHeld ?rq22
  case yq22 => (intro W hSW; exact yields_at _ _ rfl rfl (load_rs W cb _ _ _ hSW.2 hrsz))
  change wpAnyH _ _ _ _ _ _ _ (Act.put _ (some 111) _) _
  simp only [Act.put, List.setIfInBounds_toArray, List.set_cons_zero, List.set_cons_succ]
  refine wpAnyH_ready (rs := [21]) (by kernel_rfl) (by simp) ?_
  refine AllReadyH.cons rfl (fun K hK => ?_) AllReadyH.nil
  go_simp
  refine (HS3).mono ?_
  rintro e V3 ⟨ua, uc, da, dc, rfl, hu3, hd3, hb3⟩
  refine hK.out _ _ (HSS.out _ (H2.out.2.1.trans (Fr.below hb3))) (fun hHeld => ?_)
  clear hK K
  try simp only [Act.put, List.setIfInBounds_toArray, List.set_cons_zero, List.set_cons_succ]
  have H3 : Hid (Pgr w.heap.size (mor F3 V2 V3) V3 S3 g D pb jb n X ∧ Fr F2 wr (mor F3 V2 V3) V3 ∧ Below w.heap.size w V3) := ⟨H2.out.1.below hb3, H2.out.2.1.trans (Fr.below hb3), H2.out.2.2.trans (hb3.mono H2.out.2.2.size)⟩
  have hsm := HWA.out.2.1.fr H3.out.2.1
  have hsd := HWA.out.2.2.1.fr H3.out.2.1
  have HSM := same_self (Rw.own (G := fun _ => True) hu3 (fun _ _ => trivial)) (Rw.own (G := fun _ => True) hd3 (fun _ _ => trivial)) hsm hsd (by omega) (by omega) X.now.h.root X.now.h.ser
  rw [HWA.out.1] at HSM
  clear HS3 hu3 hd3 hb3 hsm hsd
  refine wpAnyH_ready (rs := [23]) (by kernel_rfl) (by simp) ?_
  refine AllReadyH.cons rfl (fun K hK => ?_) AllReadyH.nil
  go_simp
  refine (HSM).mono ?_
  rintro e V4 ⟨rfl, hb4⟩
  refine hK.out _ _ (HSS.out _ (H3.out.2.1.trans (Fr.below hb4))) (fun hHeld => ?_)
  clear hK K
  try simp only [Act.put, List.setIfInBounds_toArray, List.set_cons_zero, List.set_cons_succ]
  have H4 : Hid (Pgr w.heap.size (mor (mor F3 V2 V3) V3 V4) V4 S3 g D pb jb n X ∧ Fr F2 wr (mor (mor F3 V2 V3) V3 V4) V4 ∧ Below w.heap.size w V4) := ⟨H3.out.1.below hb4, H3.out.2.1.trans (Fr.below hb4), H3.out.2.2.trans (hb4.mono H3.out.2.2.size)⟩
  have HCG := pchanged_any H4.out.1 HG.out
  clear HSM hb4
  refine wpAnyH_take (i := 24) (v := .bool true) rfl (by kernel_rfl) (by kernel_rfl) (by kernel_rfl) (fun _ _ _ h => h) (Or.inl ⟨by first | kernel_rfl | rfl, ?yq24⟩) hHeld ?rq24
  case yq24 => (intro W hSW; (try dsimp only at hSW); go_simp; (try with_reducible rfl))
  change wpAnyH _ _ _ _ _ _ _ (Act.put _ (some 113) _) _
  simp only [Act.put, List.setIfInBounds_toArray, List.set_cons_zero, List.set_cons_succ]
  refine wpAnyH_take (i := 25) (v := .bool true) rfl (by kernel_rfl) (by kernel_rfl) (by kernel_rfl) (fun _ _ _ h => h) (Or.inl ⟨by first | kernel_rfl | rfl, ?yq25⟩) hHeld ?rq25
  case yq25 => (intro W hSW; (try dsimp only at hSW); go_simp; (try with_reducible rfl))
  change wpAnyH _ _ _ _ _ _ _ (Act.put _ (some 114) _) _
  simp only [Act.put, List.setIfInBounds_toArray, List.set_cons_zero, List.set_cons_succ]
  refine wpAnyH_take (i := 26) (v := ?vq26) rfl (by kernel_rfl) (by kernel_rfl) (by kernel_rfl) (fun _ _ _ h => h) (Or.inl ⟨by first | kernel_rfl | rfl, ?yq26⟩) hHeld ?rq26
  case yq26 => (intro W hSW; (try dsimp only at hSW); go_simp; (try with_reducible rfl))
  change wpAnyH _ _ _ _ _ _ _ (Act.put _ (some 115) _) _
  simp only [Act.put, List.setIfInBounds_toArray, List.set_cons_zero, List.set_cons_succ]
  refine wpAnyH_take (i := 27) (v := ?vq27) rfl (by kernel_rfl) (by kernel_rfl) (by kernel_rfl) (fun _ _ _ h => h) (Or.inl ⟨by first | kernel_rfl | rfl, ?yq27⟩) hHeld ?rq27
  case yq27 => (intro W hSW; (try dsimp only at hSW); go_simp; (try with_reducible rfl))
  change wpAnyH _ _ _ _ _ _ _ (Act.put _ (some 116) _) _
  simp only [Act.put, List.setIfInBounds_toArray, List.set_cons_zero, List.set_cons_succ]
  refine wpAnyH_take (i := 28) (v := ?vq28) rfl (by kernel_rfl) (by kernel_rfl) (by kernel_rfl) (fun _ _ _ h => h) (Or.inl ⟨by first | kernel_rfl | rfl, ?yq28⟩) hHeld ?rq28
  case yq28 => (intro W hSW; (try dsimp only at hSW); go_simp; (try with_reducible rfl))
  change wpAnyH _ _ _ _ _ _ _ (Act.put _ (some 117) _) _
  simp only [Act.put, List.setIfInBounds_toArray, List.set_cons_zero, List.set_cons_succ]
  refine wpAnyH_take (i := 29) (v := ?vq29) rfl (by kernel_rfl) (by kernel_rfl) (by kernel_rfl) (fun _ _ _ h => h) (Or.inl ⟨by first | kernel_rfl | rfl, ?yq29⟩) hHeld ?rq29
  case yq29 => (intro W hSW; (try dsimp only at hSW); go_simp; (try with_reducible rfl))
  change wpAnyH _ _ _ _ _ _ _ (Act.put _ (some 118) _) _
  simp only [Act.put, List.setIfInBounds_toArray, List.set_cons_zero, List.set_cons_succ]
  refine wpAnyH_take (i := 31) (v := ?vq31) rfl (by kernel_rfl) (by kernel_rfl) (by kernel_rfl) (fun _ _ _ h => h) (Or.inl ⟨by first | kernel_rfl | rfl, ?yq31⟩) hHeld ?rq31
  case yq31 => (intro W hSW; (try dsimp only at hSW); go_simp; (try with_reducible rfl))
  change wpAnyH _ _ _ _ _ _ _ (Act.put _ (some 120) _) _
  simp only [Act.put, List.setIfInBounds_toArray, List.set_cons_zero, List.set_cons_succ]
  refine wpAnyH_ready (rs := [30]) (by kernel_rfl) (by simp) ?_
  refine AllReadyH.cons rfl (fun K hK => ?_) AllReadyH.nil
  go_simp
  refine (HCG).mono ?_
  rintro e V5 ⟨ka, kc, rfl, hl5, hb5⟩
  refine hK.out _ _ (HSS.out _ (H4.out.2.1.trans (Fr.below hb5))) (fun hHeld => ?_)
  clear hK K
  try simp only [Act.put, List.setIfInBounds_toArray, List.set_cons_zero, List.set_cons_succ]
  have H5 : Hid (Fr F2 wr (mor (mor (mor F3 V2 V3) V3 V4) V4 V5) V5 ∧ Below w.heap.size w V5) := ⟨H4.out.2.1.trans (Fr.below hb5), H4.out.2.2.trans (hb5.mono H4.out.2.2.size)⟩
  have hli := HWA.out.2.2.2.fr H5.out.1
  have HSI := rsameints_any (Rw.mono (Rw.own (G := fun _ => True) hl5 (fun _ _ => trivial)) (G' := fun _ => True) (fun _ _ _ => trivial)) (hli.mono (G' := fun _ => True) (fun _ _ _ => trivial)) (by have h1 := chg_len (X := X) (n := n) (D := D); omega)
  clear HCG hl5 hb5 hli
  refine wpAnyH_ready (rs := [32]) (by kernel_rfl) (by simp) ?_
  refine AllReadyH.cons rfl (fun K hK => ?_) AllReadyH.nil
  go_simp
  refine (HSI).mono ?_
  rintro e V6 ⟨rfl, hb6⟩
  refine hK.out _ _ (HSS.out _ (H5.out.1.trans (Fr.below hb6))) (fun hHeld => ?_)
  clear hK K
  try simp only [Act.put, List.setIfInBounds_toArray, List.set_cons_zero, List.set_cons_succ]
  have H6 : Hid (Fr F2 wr (mor (mor (mor (mor F3 V2 V3) V3 V4) V4 V5) V5 V6) V6 ∧ Below w.heap.size w V6) := ⟨H5.out.1.trans (Fr.below hb6), H5.out.2.trans (hb6.mono H5.out.2.size)⟩
  clear HSI hb6
  refine wpAnyH_take (i := 33) (v := .bool true) rfl (by kernel_rfl) (by kernel_rfl) (by kernel_rfl) (fun _ _ _ h => h) (Or.inl ⟨by first | kernel_rfl | rfl, ?yq33⟩) hHeld ?rq33
  case yq33 => (intro W hSW; (try dsimp only at hSW); go_simp; (try with_reducible rfl))
  change wpAnyH _ _ _ _ _ _ _ (Act.put _ (some 122) _) _
  simp only [Act.put, List.setIfInBounds_toArray, List.set_cons_zero, List.set_cons_succ]
  refine wpAnyH_take (i := 34) (v := .bool true) rfl (by kernel_rfl) (by kernel_rfl) (by kernel_rfl) (fun _ _ _ h => h) (Or.inl ⟨by first | kernel_rfl | rfl, ?yq34⟩) hHeld ?rq34
  case yq34 => (intro W hSW; (try dsimp only at hSW); go_simp; (try with_reducible rfl))
  change wpAnyH _ _ _ _ _ _ _ (Act.put _ (some 123) _) _
  simp only [Act.put, List.setIfInBounds_toArray, List.set_cons_zero, List.set_cons_succ]
  refine wpAnyH_ready (rs := [35]) (by kernel_rfl) (by simp) ?_
  refine AllReadyH.cons rfl (fun K hK => ?_) AllReadyH.nil
  go_simp
  refine (lives_any V6).mono ?_
  rintro e w9 ⟨rfl, hb9'⟩
  refine hK.out _ _ (HSS.out _ (H6.out.1.trans ⟨hb9'.size, fun _ h => h, fun x _ hl => hb9'.block x hl⟩)) (fun hHeld => ?_)
  clear hK K
  try simp only [Act.put, List.setIfInBounds_toArray, List.set_cons_zero, List.set_cons_succ]
  have HB9 : Hid (Below w.heap.size w w9) := H6.out.2.trans (hb9'.mono H6.out.2.size)
  clear hb9'
  refine wpAnyH_take (i := 36) (v := .bool true) rfl (by kernel_rfl) (by kernel_rfl) (by kernel_rfl) (fun _ _ _ h => h) (Or.inl ⟨by first | kernel_rfl | rfl, ?yq36⟩) hHeld ?rq36
  case yq36 => (intro W hSW; (try dsimp only at hSW); go_simp; (try with_reducible rfl))
  change wpAnyH _ _ _ _ _ _ _ (Act.put _ (some 125) _) _
  simp only [Act.put, List.setIfInBounds_toArray, List.set_cons_zero, List.set_cons_succ]
  refine wpAnyH_take (i := 37) (v := ?vq37) rfl (by kernel_rfl) (by kernel_rfl) (by kernel_rfl) (fun _ _ _ h => h) (Or.inl ⟨by first | kernel_rfl | rfl, ?yq37⟩) hHeld ?rq37
  case yq37 => (intro W hSW; (try dsimp only at hSW); go_simp; (try with_reducible rfl))
  change wpAnyH _ _ _ _ _ _ _ (Act.put _ (some 6) _) _
  simp only [Act.put, List.setIfInBounds_toArray, List.set_cons_zero, List.set_cons_succ]
  refine wpAnyH_done (by kernel_rfl) ?_ _
  go_wp2
  go_ret
  exact ⟨rfl, HB9.out⟩

set_option linter.unusedVariables false in
set_option maxRecDepth 100000 in
theorem lifted (os : _root_.Go.Os) (started : os.Started) (H : Type) (enc : TypeId × Value → H) :
    ReturnsInHanded {} Tryz.checked os 5 .any (Rows.pagerBackSpec.pre6 enc Tryz.prog Tryz.f5 Rows.pagerBackRow.domain false) (Rows.pagerBackSpec.post enc Tryz.prog Tryz.f5 false true false false) := by
  refine returnsInHanded_of_change (C := Tryz.checked) own started (by kernel_rfl) Tryz.func5
    (ChangeSpec.witness6 (enc := enc) (C := Tryz.checked) false ⟨#[], #[.int .i64 0, .slice none 0 0, .slice none 0 0], []⟩ 8 (by kernel_rfl) (by kernel_rfl) (by kernel_rfl) (by kernel_rfl)) ?_
  intro W base args ds gs before hval0 hW hcnd _
  have hval : ∀ (j : Nat) t v, Tryz.f5.params[j]? = some t → args[j]? = some v → Value.okWide Tryz.prog W .any base t v := hval0
  have hW' := hW
  obtain ⟨p, q, hA0, hV, rfl, hfz, hnd⟩ := hW
  have hA : DataW.TrodAll enc Tryz.prog W 0 (fun _ => true) true Tryz.f5.params.toList args.toList ds p := hA0
  rw [Tryz.params5] at hA hval
  obtain ⟨v0, vs0, d0, ds0, p0, q0, hargs, rfl, rfl, h0, r0⟩ := trodAll_cons hA
  obtain ⟨v1, vs1, d1, ds1, p1, q1, rfl, rfl, rfl, h1, r1⟩ := trodAll_cons r0
  obtain ⟨v2, vs2, d2, ds2, p2, q2, rfl, rfl, rfl, h2, r2⟩ := trodAll_cons r1
  obtain ⟨rfl, rfl, rfl⟩ := trodAll_nil r2
  obtain rfl : args = #[v0, v1, v2] := by cases args; simp_all
  obtain ⟨rfl, rfl⟩ := trodVars_none hV
  obtain ⟨x0, rfl, rfl, rfl, w0⟩ := open_int Tryz.underlying3 (hval 0 3 v0 rfl rfl) h0
  have k1 := h1
  have lt1 : ∀ x ∈ p1, x.block < W.heap.size := by obtain ⟨m, hm⟩ := k1; exact DataW.trod_lt m _ _ _ hm
  obtain ⟨a1, len1, cap1, rfl⟩ := okWide_slice Tryz.underlying46 (hval 1 46 v1 rfl rfl)
  obtain ⟨l1, w1⟩ : ∃ l, Os W a1 len1 cap1 l := by
    obtain ⟨fuel, hf⟩ := h1
    exact ops_of (by simpa [Value.cells] using hf)
  have k2 := h2
  have lt2 : ∀ x ∈ p2, x.block < W.heap.size := by obtain ⟨m, hm⟩ := k2; exact DataW.trod_lt m _ _ _ hm
  obtain ⟨a2, len2, cap2, rfl⟩ := okWide_slice Tryz.underlying46 (hval 2 46 v2 rfl rfl)
  obtain ⟨l2, w2⟩ : ∃ l, Os W a2 len2 cap2 l := by
    obtain ⟨fuel, hf⟩ := h2
    exact ops_of (by simpa [Value.cells] using hf)
  clear hA0 hval0
  refine (walk x0 (wf_i64 w0) a1 len1 cap1 l1 a2 len2 cap2 l2 W w1 w2).mono fun e W' ⟨he, bel⟩ => ?_
  subst he
  exact ⟨_, rfl, _, _, _, [], _, [], hW', trodAll_mk1 (shut_bool Tryz.underlying4 _), (trodAll_cons_mk (shut_int Tryz.underlying3 w0) (trodAll_cons_mk (Below.trod laidOut (by kernel_rfl) (of_decide_eq_true (by kernel_rfl)) k1 bel lt1) (trodAll_cons_mk (Below.trod laidOut (by kernel_rfl) (of_decide_eq_true (by kernel_rfl)) k2 bel lt2) trodAll_mk0))), rfl, bel.frame _, fun h => by cases h⟩

theorem over : Rows.pagerBackRow.holds Tryz.pinned (OpenSpec.ofChange Rows.pagerBackSpec) :=
  OpenClaim.holds_of_wide 5 Tryz.f5 rfl rfl rfl rfl rfl rfl rfl ⟨rfl, rfl, rfl, rfl, rfl⟩ rfl rfl rfl rfl rfl (by kernel_rfl) Tryz.func5 (by kernel_rfl)
    (of_decide_eq_true (by kernel_rfl)) (by unfold Func.isWrapper; first | (rw [if_pos (by decide +kernel)]; kernel_rfl) | (rw [if_neg (by decide +kernel)]; exact ⟨rfl, rfl⟩))
    (fun os started H enc _ => lifted os started H enc)

end Go.Proofs.YtdgffocmdkadpaaGreat.pagerBack
namespace Go.Proofs.YtdgffocmdkadpaaGreat
/-- The given statement. -/
theorem pagerBack_holds : Rows.PagerBackSaid := pagerBack.over
#print axioms pagerBack_holds
end Go.Proofs.YtdgffocmdkadpaaGreat
