/- Proved: for every Torn (number of pages, steps ahead, steps then, cut, picks) the law PagerWhole returns true, all as it was. No condition: every input that can be read as data. -/
import Derived.Test.YtdgffocmdkadpaaGreatRows
import Derived.Test.YtdgffocmdkadpaaGreatRZ
import Derived.Deep.CutBlock
import Derived.WalkKit
import Derived.ProofKit
import Derived.OpenShut
import Derived.ShutString
import Derived.ChangeOld
import Derived.Below
namespace Go.Proofs.YtdgffocmdkadpaaGreat.pagerWhole
open Go.ChangeShapes Go.WideShapes Go.ChangeAt Go.RowKit
theorem own : ownKnob Tryz.prog.godebug = none := by kernel_rfl
theorem laidOut : laidOutB Tryz.prog = true := by kernel_rfl
open Pg
set_option maxRecDepth 100000 in
set_option maxHeartbeats 80000000 in
theorem walk (x : TornV) (w : World) (w0 : x.In w) :
    Calls Tryz.prog 4 #[x.agg] w fun e w' => e = .returned (.bool true) ∧ Below w.heap.size w w' := by
  obtain ⟨pages, a, al, ac, la, p, pl, pc, lp, cut, k, kl, kc, bk⟩ := x
  obtain ⟨z1, z2, z3, z4⟩ := w0
  simp only at z1 z2 z3 z4
  unfold TornV.agg
  simp only
  have hcp1 := z1.2.1
  have hcp2 := z1.2.2.1
  have hcp3 := z2.2.1
  have hcp4 := z2.2.2.1
  have hcp5 := z3.2.1
  have hcp6 := z3.2.2.1
  obtain ⟨bx, hbx⟩ : ∃ bx, w.heap.size = bx := ⟨_, rfl⟩
  obtain ⟨W1, hW1⟩ : ∃ W1, w.alloc (.cells #[.int .i64 pages, .slice a al ac, .slice p pl pc, .int .i64 cut, .slice k kl kc] 48) = W1 := ⟨_, rfl⟩
  have hr1 : W1.heap[bx]? = some (.cells #[.int .i64 pages, .slice a al ac, .slice p pl pc, .int .i64 cut, .slice k kl kc] 48 (0, 0)) := by rw [← hW1, ← hbx]; exact heap_alloc_new w _
  have hb1 : Below w.heap.size w W1 := by rw [← hW1]; exact (Below.refl _ w).alloc (Nat.le_refl _) _
  have HW : Hid (∀ V, Below W1.heap.size W1 V → Below w.heap.size w V) := fun V hV => hb1.trans (hV.mono hb1.size)
  have HX : Hid (∀ V, Below W1.heap.size W1 V → V.cell? ⟨bx, 0, none⟩ = some (.int .i64 pages) ∧ V.cell? ⟨bx, 1, none⟩ = some (.slice a al ac) ∧ V.cell? ⟨bx, 2, none⟩ = some (.slice p pl pc) ∧ V.cell? ⟨bx, 3, none⟩ = some (.int .i64 cut) ∧ V.cell? ⟨bx, 4, none⟩ = some (.slice k kl kc)) := fun V hV => by
    have hr := (hV.block bx (lt_of_some hr1)).trans hr1
    refine ⟨?_, ?_, ?_, ?_, ?_⟩ <;> rw [cell_of_row _ bx _ _ _ _ hr] <;> rfl
  have HIN : Hid (Os W1 a al ac la ∧ Os W1 p pl pc lp ∧ Bls W1 k kl kc bk) := ⟨z1.on hb1, z2.on hb1, z3.below hb1⟩
  have HLV : Hid (∀ W, Below W1.heap.size W1 W → Calls Tryz.prog 9 #[] W fun e w' => e = .returned (.bool true) ∧ Below W1.heap.size W1 w') := fun W hW => lives_h hW
  obtain ⟨x0, x1, x2, x3, x4⟩ := HX.out W1 (Below.refl _ _)
  clear z1 z2 z3 hr1 hb1
  by_cases hx : pages < 2 ∨ 10 < pages
  · have HO := opened_bad pages W1 hx
    have HBX : Hid (Below W1.heap.size W1 W1) := Below.refl _ _
    by_cases hx2 : pages < 2
    · clear hx
      go_enter Tryz.func4, Tryz.ntmps4
      go_wp2_with fail
      refine HO.mono ?_
      rintro e V ⟨rfl, hV⟩
      subst V
      clear HO
      go_wp2_with fail
      refine (HLV.out _ HBX.out).mono ?_
      rintro e w9 ⟨rfl, hb9⟩
      have HB9 : Hid (Below w.heap.size w w9) := HW.out _ hb9
      clear hb9
      go_wp2
      go_ret
      exact ⟨rfl, HB9.out⟩
    · have hx3 : 10 < pages := by omega
      clear hx
      go_enter Tryz.func4, Tryz.ntmps4
      go_wp2_with fail
      refine HO.mono ?_
      rintro e V ⟨rfl, hV⟩
      subst V
      clear HO
      go_wp2_with fail
      refine (HLV.out _ HBX.out).mono ?_
      rintro e w9 ⟨rfl, hb9⟩
      have HB9 : Hid (Below w.heap.size w w9) := HW.out _ hb9
      clear hb9
      go_wp2
      go_ret
      exact ⟨rfl, HB9.out⟩
  obtain ⟨n, rfl⟩ := Int.eq_ofNat_of_zero_le (show 0 ≤ pages by omega)
  have hn2 : 2 ≤ n := by omega
  have hn10 : n ≤ 10 := by omega
  have HO := opened_any (fun _ => False) n W1 hn2 hn10 (fun x hx => hx.elim)
  have kn2 : ¬ (n : Int) < 2 := by omega
  have kn10 : ¬ (10 : Int) < (n : Int) := by omega
  clear hx
  go_enter Tryz.func4, Tryz.ntmps4
  go_wp2_with fail
  refine HO.mono ?_
  rintro e V1 ⟨g, jb, pb, S, rfl, hP1, hjl, hb1⟩
  have H1 : Hid (Pgr W1.heap.size (fun _ => False) V1 S g (dk0 n) pb jb n (px0 n) ∧ Below W1.heap.size W1 V1) := ⟨hP1, hb1⟩
  obtain ⟨x0, x1, x2, x3, x4⟩ := HX.out V1 hb1
  have HBX : Hid (Below W1.heap.size W1 V1) := hb1
  have HBG := begun_any n V1 hn2 hn10
  clear HO hP1 hjl hb1
  by_cases hk3 : 300 < kl
  · have k1 : (300 : Int) < (kl : Int) := by omega
    clear HBG
    go_wp2_with fail
    refine (HLV.out _ HBX.out).mono ?_
    rintro e w9 ⟨rfl, hb9⟩
    have HB9 : Hid (Below w.heap.size w w9) := HW.out _ hb9
    clear hb9
    go_wp2
    go_ret
    exact ⟨rfl, HB9.out⟩
  have k1 : ¬ (300 : Int) < (kl : Int) := by omega
  by_cases hc0 : cut < 0
  · clear HBG
    go_wp2_with fail
    refine (HLV.out _ HBX.out).mono ?_
    rintro e w9 ⟨rfl, hb9⟩
    have HB9 : Hid (Below w.heap.size w w9) := HW.out _ hb9
    clear hb9
    go_wp2
    go_ret
    exact ⟨rfl, HB9.out⟩
  obtain ⟨cu, rfl⟩ : ∃ cu : Nat, cut = (cu : Int) := Int.eq_ofNat_of_zero_le (by omega)
  have kc0 : ¬ (cu : Int) < 0 := by omega
  clear HBX
  go_wp2_with fail
  refine HBG.mono ?_
  rintro e V2 ⟨zb, g2, jz, pb2, S2, FF, gs0, ns0, pv0, ov0, rfl, hPb, hZb, hFb, hb2⟩
  have hL : ∀ x, FF x → x < V2.heap.size := by
    obtain ⟨_, kb, kc, mb, sa, sc, ss, hPl⟩ := hPb
    exact fun x hx => (hPl.fF x hx).2.2.2
  obtain ⟨hps3, hb3⟩ := pair_with H1.out.1 hb2 hZb hFb hL
  have c2 := hZb.cells.2.1
  have f2 := hZb.fro 1
  obtain ⟨V3, hV3⟩ : ∃ V3, V2.setCell ⟨zb, 1, none⟩ (.pointer (some ⟨pb, 0, none⟩)) = V3 := ⟨_, rfl⟩
  rw [hV3] at hps3 hb3
  have H3 : Hid (PsE W1.heap.size (mor (fun _ => False) V1 V2) V3 g (dk0 n) pb jb n (px0 n) zb jz ∧ Below W1.heap.size W1 V3) := ⟨hps3, H1.out.2.trans hb3⟩
  obtain ⟨F3, hF3⟩ : ∃ F3, mor (fun _ => False) V1 V2 = F3 := ⟨_, rfl⟩
  rw [hF3] at H3
  clear HBG hPb hZb hFb hb2 hL hps3 hb3 hF3 H1 x0 x1 x2 x3 x4
  go_upto_block 0 with fail
  go_cut [7] from 59 (fun _ wx => LwTo W1 g pb jb n zb jz wx)
  case first =>
    go_wp2_with fail
    go_loopw [7] (fun v7 wr => ∃ (i : Nat) (F1 : Nat → Prop) (D : Dk) (X : Px), i ≤ al ∧ i ≤ 40 ∧ v7 = .int .i64 (i : Int) ∧ PsE W1.heap.size F1 wr g D pb jb n X zb jz ∧ Inv n i D X ∧ Below W1.heap.size W1 wr) (fun v _ => al - (intOf v).toNat)
    case atStart => exact ⟨0, F3, dk0 n, px0 n, by omega, by omega, rfl, H3.out.1, Inv.new n hn2, H3.out.2⟩
    case round =>
      clear H3 c2 f2 hV3
      obtain ⟨i, F1, D, X, hi1, hi40, rfl, hps, hinv, hbw⟩ := hrel
      obtain ⟨x0, x1, x2, x3, x4⟩ := HX.out wr hbw
      by_cases hgo : i < al ∧ i < 40
      · obtain ⟨hlt, hlt4⟩ := hgo
        have kk : (i : Int) < (al : Int) := by omega
        have kk4 : (i : Int) < 40 := by omega
        have kd1 : decide ((i : Int) < (al : Int)) = true := by simpa using kk
        have kd3 : decide ((i : Int) < 40) = true := by simpa using kk4
        obtain ⟨ab, ao, rfl, hfl, hld⟩ := (HIN.out.1.on hbw).load i hlt
        have hll : i < la.length := by rw [HIN.out.1.1]; exact hlt
        have hld := hld hll
        have hck := (HIN.out.1.on hbw).kind i hll
        obtain ⟨o, ho⟩ : ∃ o, la[i] = o := ⟨_, rfl⟩
        have hfl := hfl hll
        rw [ho] at hld hck hfl
        obtain ⟨kd, hkd⟩ : ∃ kd, o.kind = kd := ⟨_, rfl⟩
        rw [hkd] at hck
        by_cases h8 : kd = 8
        · subst h8
          have HN : Hid (PsE W1.heap.size F1 wr g D pb jb n X zb jz ∧ Inv n (i + 1) D X ∧ Below W1.heap.size W1 wr) := ⟨hps, hinv.mono (by omega), hbw⟩
          clear hps hinv hbw ho hkd hld
          go_wp2
          exact ⟨⟨i + 1, F1, D, X, by omega, by omega, by go_num, HN.out.1, HN.out.2.1, HN.out.2.2⟩, by simp [intOf]; omega⟩
        · have k8 : (kd == 8) = false := by simpa using h8
          have k8b : (kd != 8) = true := by simp [bne, k8]
          have HST := step_any hps hinv (by omega) o hfl (fun h => absurd (hkd.symm.trans h) h8)
          have HBW : Hid (Below W1.heap.size W1 wr) := hbw
          have HKD : Hid (o.kind = kd ∧ ¬ kd = 8) := ⟨hkd, h8⟩
          clear hps hinv hbw ho hkd
          go_wp2_with (refine wpList_load_w (by kernel_rfl) _ _ rfl rfl hld ?_)
          refine HST.mono ?_
          rintro e V4 ⟨b, D', X', pb', rfl, ⟨F', hps', _, hb'⟩, hinv', _, _, e8⟩
          obtain rfl := e8 (by rw [HKD.out.1]; exact HKD.out.2)
          have HN : Hid (PsE W1.heap.size F' V4 g D' pb' jb n X' zb jz ∧ Inv n (i + 1) D' X' ∧ Below W1.heap.size W1 V4) := ⟨hps', hinv', HBW.out.trans hb'⟩
          clear HST hps' hb' hinv' hld e8
          go_wp2
          exact ⟨⟨i + 1, F', D', X', by omega, by omega, by go_num, HN.out.1, HN.out.2.1, HN.out.2.2⟩, by simp [intOf]; omega⟩
      · have HX1 : Hid (PsE W1.heap.size F1 wr g D pb jb n X zb jz ∧ Inv n i D X ∧ Below W1.heap.size W1 wr) := ⟨hps, hinv, hbw⟩
        clear hps hinv hbw
        by_cases hle : i < al
        · have kk : (i : Int) < (al : Int) := by omega
          have kk4 : ¬ (i : Int) < 40 := by omega
          have kd1 : decide ((i : Int) < (al : Int)) = true := by simpa using kk
          have kd3 : decide ((i : Int) < 40) = false := by simpa using kk4
          go_wp2
          go_meet
          case rel => exact ⟨i, F1, D, X, hi40, HX1.out⟩
        · have kk : ¬ (i : Int) < (al : Int) := by omega
          have kd1 : decide ((i : Int) < (al : Int)) = false := by simpa using kk
          go_wp2
          go_meet
          case rel => exact ⟨i, F1, D, X, hi40, HX1.out⟩
  case rest =>
  clear H3 c2 f2 hV3
  obtain ⟨i, F1, D, X, hi40, hps0, hinv0, hbw0⟩ := hcut
  obtain ⟨wo, hwo⟩ : ∃ x, x = wc := ⟨_, rfl⟩
  subst hwo
  have HX1 : Hid (PsE W1.heap.size F1 wo g D pb jb n X zb jz ∧ Inv n i D X ∧ Below W1.heap.size W1 wo) := ⟨hps0, hinv0, hbw0⟩
  clear hps0 hinv0 hbw0
  obtain ⟨S1, gs1, ns1, pv1, ov1, hps⟩ := HX1.out.1
  have hok := hps.nn.1
  obtain ⟨cg1, cg2, cg3, cg4⟩ := cm_good HX1.out.2.1 hok hn2 (by omega) (by omega)
  have hsr := HX1.out.2.1.s2
  have hwr := HX1.out.2.1.w
  have HCM := pcommit_any hps.p HX1.out.2.1.g.asks (by omega) (by omega) (fun _ => cg2.g.asks)
  have H4 : Hid (Ps W1.heap.size F1 wo S1 g D pb jb n X zb jz gs1 ns1 pv1 ov1 ∧ X.cmC n D = 0 ∧ Inv n (i + 1) (X.cmD n D) (X.cmX n D) ∧ (X.cmX n D).now = ⟨(X.cmX n D).good, Pm.none⟩ ∧ Below W1.heap.size W1 wo) := ⟨hps, cg1, cg2, cg3, HX1.out.2.2⟩
  clear hps hok cg1 cg2 cg3 cg4 hsr hwr HX1
  go_wp2_with fail
  refine HCM.mono ?_
  rintro e V4 ⟨rfl, hT⟩
  rw [H4.out.2.1]
  have hT2 : PTo W1.heap.size F1 wo g (X.cmD n D) pb jb n (X.cmX n D) V4 := by
    rcases hT with ⟨_, hT⟩ | ⟨hc, _⟩
    · exact hT
    · exact absurd H4.out.2.1 hc
  obtain ⟨F4, S4, hps4, _, hb4⟩ := H4.out.1.pto hT2
  obtain ⟨D1, hD1⟩ : ∃ D1, X.cmD n D = D1 := ⟨_, rfl⟩
  obtain ⟨X1, hX1⟩ : ∃ X1, X.cmX n D = X1 := ⟨_, rfl⟩
  have H5 : Hid (Ps W1.heap.size F4 V4 S4 g D1 pb jb n X1 zb jz gs1 ns1 pv1 ov1 ∧ Inv n (i + 1) D1 X1 ∧ X1.now = ⟨X1.good, Pm.none⟩ ∧ Below W1.heap.size W1 V4) := by
    rw [← hD1, ← hX1]
    exact ⟨hps4, H4.out.2.2.1, H4.out.2.2.2.1, H4.out.2.2.2.2.trans hb4⟩
  have HSA := pstate_any H5.out.1.p H5.out.2.1.g.asks
  clear HCM hT hT2 hps4 hb4 hD1 hX1 H4
  go_wp2_with fail
  refine HSA.mono ?_
  rintro e V5 ⟨ua, uc, da, dc, rfl, hu, hd, hb⟩
  obtain ⟨hstA, FA, hpsA, hwasA, hfrA, hblA, hszA⟩ := H5.out.1.told (r := X1.now.h.root) (ser := X1.now.h.ser) hu hd hb
  obtain ⟨CA, hCA⟩ : ∃ C, V5.heap.size = C := ⟨_, rfl⟩
  obtain ⟨qqA, hqqA⟩ : ∃ rs, (rsA (.slice ua n uc) (.slice da n dc) X1.now.h.root X1.now.h.ser) = rs := ⟨_, rfl⟩
  rw [hqqA]
  obtain ⟨UA, hUA⟩ : ∃ U, V5.alloc (.cells z7 42) = U := ⟨_, rfl⟩
  obtain ⟨YA, hYA⟩ : ∃ Y, UA.setRow CA qqA = Y := ⟨_, rfl⟩
  rw [hqqA, hCA, hUA, hYA] at hstA hpsA hwasA hfrA hblA
  have hUA : V5.alloc (.cells #[.slice none 0 0, .slice none 0 0, .int .i64 0, .int .i64 0, .int .i64 0, .int .i64 0, .int .u64 0] 42) = UA := hUA
  have hzA : qqA.size = 7 := by rw [← hqqA]; rfl
  have HA : Hid (PsE W1.heap.size FA YA g D1 pb jb n X1 zb jz ∧ Inv n (i + 1) D1 X1 ∧ WasX (but zb FA) YA CA n (X1.usedL n) (X1.dataL n D1 n) X1.now.h.root X1.now.h.ser ∧ Below W1.heap.size W1 YA ∧ X1.now = ⟨X1.good, Pm.none⟩) := ⟨⟨S4, gs1, ns1, pv1, ov1, hpsA⟩, H5.out.2.1, hwasA, H5.out.2.2.2.trans hblA, H5.out.2.2.1⟩
  clear HSA hu hd hb hpsA hwasA hfrA hblA hszA hqqA hYA H5
  have HN1 : Hid (X1.now = ⟨X1.good, Pm.none⟩) := HA.out.2.2.2.2
  go_upto_block 2 with fail
  go_cut [9] from 89 (fun _ wx => Lw2To W1 g D1 pb jb n X1 zb jz CA (i + 1) wx)
  case first =>
    go_wp2_with fail
    go_loopw [9] (fun v9 wr => ∃ (j : Nat) (F2 : Nat → Prop) (Y : Px), j ≤ pl ∧ j ≤ 40 ∧ v9 = .int .i64 (j : Int) ∧ PsE W1.heap.size F2 wr g D1 pb jb n Y zb jz ∧ Inv n (i + 1 + j) D1 Y ∧ Y.good = X1.good ∧ WasX (but zb F2) wr CA n (X1.usedL n) (X1.dataL n D1 n) X1.now.h.root X1.now.h.ser ∧ Below W1.heap.size W1 wr) (fun v _ => pl - (intOf v).toNat)
    case atStart => exact ⟨0, FA, X1, by omega, by omega, rfl, HA.out.1, HA.out.2.1, rfl, HA.out.2.2.1, HA.out.2.2.2.1⟩
    case round =>
      clear HA hUA hstA
      obtain ⟨j, F2, Y, hj1, hj40, rfl, hps, hinv, hgd, hwas, hbw⟩ := hrel
      obtain ⟨x0, x1, x2, x3, x4⟩ := HX.out wr hbw
      by_cases hgo2 : j < pl ∧ j < 40
      · obtain ⟨hlt, hlt4⟩ := hgo2
        have kk : (j : Int) < (pl : Int) := by omega
        have kk4 : (j : Int) < 40 := by omega
        have ke1 : decide ((j : Int) < (pl : Int)) = true := by simpa using kk
        have ke3 : decide ((j : Int) < 40) = true := by simpa using kk4
        obtain ⟨ab, ao, rfl, hfl, hld⟩ := (HIN.out.2.1.on hbw).load j hlt
        have hll : j < lp.length := by rw [HIN.out.2.1.1]; exact hlt
        have hld := hld hll
        have hck := (HIN.out.2.1.on hbw).kind j hll
        obtain ⟨o, ho⟩ : ∃ o, lp[j] = o := ⟨_, rfl⟩
        have hfl := hfl hll
        rw [ho] at hld hck hfl
        obtain ⟨kd, hkd⟩ : ∃ kd, o.kind = kd := ⟨_, rfl⟩
        rw [hkd] at hck
        by_cases h6 : kd < 6
        · have HST := step_any (k := i + 1 + j) hps hinv (by omega) o hfl (fun h => by omega)
          have HK : Hid (Y.good = X1.good ∧ WasX (but zb F2) wr CA n (X1.usedL n) (X1.dataL n D1 n) X1.now.h.root X1.now.h.ser ∧ Below W1.heap.size W1 wr ∧ o.kind = kd) := ⟨hgd, hwas, hbw, hkd⟩
          clear hps hinv hbw ho hkd hgd hwas
          go_wp2_with (refine wpList_load_w (by kernel_rfl) _ _ rfl rfl hld ?_)
          refine HST.mono ?_
          rintro e V6 ⟨b, D', X', pb', rfl, ⟨F', hps', hf', hb'⟩, hinv', e6, _, e8⟩
          obtain ⟨rfl, hg', _⟩ := e6 (by rw [HK.out.2.2.2]; exact h6)
          obtain rfl := e8 (by rw [HK.out.2.2.2]; omega)
          have HN : Hid (PsE W1.heap.size F' V6 g D' pb' jb n X' zb jz ∧ Inv n (i + 1 + (j + 1)) D' X' ∧ X'.good = X1.good ∧ WasX (but zb F') V6 CA n (X1.usedL n) (X1.dataL n D' n) X1.now.h.root X1.now.h.ser ∧ Below W1.heap.size W1 V6) := ⟨hps', hinv', by rw [hg']; exact HK.out.1, HK.out.2.1.fr hf', HK.out.2.2.1.trans hb'⟩
          clear HST hps' hb' hf' hinv' hld e6 e8 hg' HK
          go_wp2
          exact ⟨⟨j + 1, F', X', by omega, by omega, by go_num, HN.out⟩, by simp [intOf]; omega⟩
        · have HN : Hid (PsE W1.heap.size F2 wr g D1 pb jb n Y zb jz ∧ Inv n (i + 1 + (j + 1)) D1 Y ∧ Y.good = X1.good ∧ WasX (but zb F2) wr CA n (X1.usedL n) (X1.dataL n D1 n) X1.now.h.root X1.now.h.ser ∧ Below W1.heap.size W1 wr) := ⟨hps, hinv.mono (by omega), hgd, hwas, hbw⟩
          clear hps hinv hbw ho hkd hld hgd hwas
          go_wp2
          exact ⟨⟨j + 1, F2, Y, by omega, by omega, by go_num, HN.out⟩, by simp [intOf]; omega⟩
      · have HX2 : Hid (PsE W1.heap.size F2 wr g D1 pb jb n Y zb jz ∧ Inv n (i + 1 + j) D1 Y ∧ Y.good = X1.good ∧ WasX (but zb F2) wr CA n (X1.usedL n) (X1.dataL n D1 n) X1.now.h.root X1.now.h.ser ∧ Below W1.heap.size W1 wr) := ⟨hps, hinv, hgd, hwas, hbw⟩
        clear hps hinv hgd hwas hbw
        by_cases hle2 : j < pl
        · have kk : (j : Int) < (pl : Int) := by omega
          have kk4 : ¬ (j : Int) < 40 := by omega
          have ke1 : decide ((j : Int) < (pl : Int)) = true := by simpa using kk
          have ke3 : decide ((j : Int) < 40) = false := by simpa using kk4
          go_wp2
          go_meet
          case rel => exact ⟨j, F2, Y, hj40, HX2.out⟩
        · have kk : ¬ (j : Int) < (pl : Int) := by omega
          have ke1 : decide ((j : Int) < (pl : Int)) = false := by simpa using kk
          go_wp2
          go_meet
          case rel => exact ⟨j, F2, Y, hj40, HX2.out⟩
  case rest =>
  clear HA hUA hstA
  obtain ⟨j, F2, Y, hj40, hps0, hinv0, hgd0, hwas0, hbw0⟩ := hcut
  obtain ⟨wq, hwq⟩ : ∃ x, x = wc := ⟨_, rfl⟩
  subst hwq
  have HX2 : Hid (PsE W1.heap.size F2 wq g D1 pb jb n Y zb jz ∧ Inv n (i + 1 + j) D1 Y ∧ Y.good = X1.good ∧ WasX (but zb F2) wq CA n (X1.usedL n) (X1.dataL n D1 n) X1.now.h.root X1.now.h.ser ∧ Below W1.heap.size W1 wq) := ⟨hps0, hinv0, hgd0, hwas0, hbw0⟩
  clear hps0 hinv0 hgd0 hwas0 hbw0
  obtain ⟨S2, gs2, ns2, pv2, ov2, hps⟩ := HX2.out.1
  have HSA := pstate_any hps.p HX2.out.2.1.g.asks
  have H6 : Hid (Ps W1.heap.size F2 wq S2 g D1 pb jb n Y zb jz gs2 ns2 pv2 ov2) := hps
  clear hps
  go_wp2_with fail
  refine HSA.mono ?_
  rintro e V7 ⟨ua, uc, da, dc, rfl, hu, hd, hb⟩
  obtain ⟨hstB, FB, hpsB, hwasB, hfrB, hblB, hszB⟩ := H6.out.told (r := Y.now.h.root) (ser := Y.now.h.ser) hu hd hb
  obtain ⟨CB, hCB⟩ : ∃ C, V7.heap.size = C := ⟨_, rfl⟩
  obtain ⟨qqB, hqqB⟩ : ∃ rs, (rsA (.slice ua n uc) (.slice da n dc) Y.now.h.root Y.now.h.ser) = rs := ⟨_, rfl⟩
  rw [hqqB]
  obtain ⟨UB, hUB⟩ : ∃ U, V7.alloc (.cells z7 42) = U := ⟨_, rfl⟩
  obtain ⟨YB, hYB⟩ : ∃ Y, UB.setRow CB qqB = Y := ⟨_, rfl⟩
  rw [hqqB, hCB, hUB, hYB] at hstB hpsB hwasB hfrB hblB
  have hUB : V7.alloc (.cells #[.slice none 0 0, .slice none 0 0, .int .i64 0, .int .i64 0, .int .i64 0, .int .i64 0, .int .u64 0] 42) = UB := hUB
  have hzB : qqB.size = 7 := by rw [← hqqB]; rfl
  have HB : Hid (Ps W1.heap.size FB YB S2 g D1 pb jb n Y zb jz gs2 ns2 pv2 ov2 ∧ WasX (but zb FB) YB CB n (Y.usedL n) (Y.dataL n D1 n) Y.now.h.root Y.now.h.ser ∧ WasX (fun x => but zb FB x ∧ x ≠ CB) YB CA n (X1.usedL n) (X1.dataL n D1 n) X1.now.h.root X1.now.h.ser ∧ Below W1.heap.size W1 YB ∧ W1.heap.size ≤ CB) := ⟨hpsB, hwasB, HX2.out.2.2.2.1.lt.fr ⟨hfrB.sz, fun x hx => ⟨hfrB.sub x hx.1, by have := hx.2; omega⟩, fun x hx hl => hfrB.blk x hx.1 hl⟩, HX2.out.2.2.2.2.trans hblB, by have := HX2.out.2.2.2.2.size; omega⟩
  have HCG := pchanged_any HB.out.1.p HX2.out.2.1.g.asks
  clear HSA hu hd hb hpsB hwasB hfrB hblB hszB hqqB hYB H6
  go_wp2_with fail
  refine HCG.mono ?_
  rintro e V8 ⟨ga, gc, rfl, _, hb8⟩
  have hps8 := HB.out.1.below hb8
  obtain ⟨F8, hF8⟩ : ∃ F8, mor FB YB V8 = F8 := ⟨_, rfl⟩
  rw [hF8] at hps8
  have f8 : Fr (but zb FB) YB (but zb F8) V8 := by rw [← hF8]; exact (Fr.below hb8).but zb
  have f9 : Fr (fun x => but zb FB x ∧ x ≠ CB) YB (fun x => but zb F8 x ∧ x ≠ CB) V8 := ⟨f8.sz, fun x hx => ⟨f8.sub x hx.1, hx.2⟩, fun x hx hl => f8.blk x hx.1 hl⟩
  have H8 : Hid (Pgr W1.heap.size F8 V8 S2 g D1 pb jb n Y ∧ WasX (but zb F8) V8 CB n (Y.usedL n) (Y.dataL n D1 n) Y.now.h.root Y.now.h.ser ∧ WasX (fun x => but zb F8 x ∧ x ≠ CB) V8 CA n (X1.usedL n) (X1.dataL n D1 n) X1.now.h.root X1.now.h.ser ∧ Below W1.heap.size W1 V8 ∧ W1.heap.size ≤ CB) := ⟨hps8.p, HB.out.2.1.fr f8, HB.out.2.2.1.fr f9, HB.out.2.2.2.1.trans (hb8.mono HB.out.2.2.2.1.size), HB.out.2.2.2.2⟩
  have hser := HX2.out.2.1.s2
  have HIV : Hid (Inv n (i + 1 + j) D1 Y ∧ Y.good = X1.good ∧ Y.Ok n) := ⟨HX2.out.2.1, HX2.out.2.2.1, hps8.nn.1⟩
  clear HCG hb8 hps8 hF8 f8 f9 HB HX2 hstB hUB
  go_upto_if 119 with fail
  go_cut [] from 116 (fun wx => WnTo W1 F8 zb S2 g D1 pb jb n Y CB CA X1 wx)
  case first =>
    by_cases hch : Y.chg n D1 = []
    · have hl0 : (Y.chg n D1).length = 0 := by rw [hch]; rfl
      have HE : Hid (WnTo W1 F8 zb S2 g D1 pb jb n Y CB CA X1 V8) := ⟨H8.out.1, by rw [if_pos hch]; exact H8.out.2.1, H8.out.2.2.1, H8.out.2.2.2.1⟩
      have kl0 : ¬ (0 : Int) < ((Y.chg n D1).length : Int) := by omega
      clear hl0 hch
      go_wp2
      go_meet
      case rel => exact HE.out
    · have kl1 : (0 : Int) < ((Y.chg n D1).length : Int) := by
        have : (Y.chg n D1).length ≠ 0 := fun h => hch (List.eq_nil_of_length_eq_zero h)
        omega
      obtain ⟨wua, wuc, wda, wdc, hwc, hwg, hwu, hwd⟩ := H8.out.2.1
      obtain ⟨sr, hsr⟩ : ∃ sr, Y.now.h.ser = sr := ⟨_, rfl⟩
      have c6 : V8.cell? ⟨CB, 6, none⟩ = some (.int .u64 (sr : Int)) := by rw [cell_of_row V8 CB _ _ _ _ hwc, ← hsr]; rfl
      have f6 := frozen_of_row V8 CB 6 _ _ hwc
      rw [hsr] at hser
      have kw0 : (sr : Int) + 1 = ((sr + 1 : Nat) : Int) := by omega
      have kw : IntKind.u64.wrap ((sr : Int) + 1) = ((sr + 1 : Nat) : Int) := by rw [kw0]; exact wrap_u64n (by omega)
      clear kw0
      obtain ⟨s2, hs2⟩ : ∃ s2, sr + 1 = s2 := ⟨_, rfl⟩
      rw [hs2] at kw
      have HE : Hid (WnTo W1 F8 zb S2 g D1 pb jb n Y CB CA X1 (V8.setCell ⟨CB, 6, none⟩ (.int .u64 (s2 : Int)))) := by
        exact want_next H8.out.1 H8.out.2.1 H8.out.2.2.1 H8.out.2.2.2.1 H8.out.2.2.2.2 (by rw [if_neg hch, hsr, hs2])
      clear hwc hwg hwu hwd hsr hs2 hch
      go_wp2
      go_meet
      case rel => exact HE.out
  case rest =>
  obtain ⟨hps9, hwn9, hwa9, hb9⟩ := hcut
  obtain ⟨x0, x1, x2, x3, x4⟩ := HX.out wc hb9
  have hfp : D1.fput (cu : Int) = D1.fused cu := by unfold Dk.fput; rw [if_pos ⟨HIV.out.1.g.up, by omega⟩]; rfl
  have hfc : D1.fcode (cu : Int) = 0 := by unfold Dk.fcode; rw [HIV.out.1.g.up]; simp
  obtain ⟨_, kb9, kc9, mb9, sa9, sc9, ss9, hPl9⟩ := id hps9
  have HFU := fuse_m hPl9.disk (cu : Int) (by omega)
  rw [hfp, hfc] at HFU
  have H9 : Hid (Pgr W1.heap.size F8 wc S2 g D1 pb jb n Y ∧ WasX (but zb F8) wc CB n (Y.usedL n) (Y.dataL n D1 n) Y.now.h.root (if Y.chg n D1 = [] then Y.now.h.ser else Y.now.h.ser + 1) ∧ WasX (but zb F8) wc CA n (X1.usedL n) (X1.dataL n D1 n) X1.now.h.root X1.now.h.ser ∧ Below W1.heap.size W1 wc) := ⟨hps9, hwn9, hwa9.fr ⟨Nat.le_refl _, fun _ hx => hx.1, fun _ _ _ => rfl⟩, hb9⟩
  clear hps9 hwn9 hwa9 hb9 hPl9 hfp hfc H8
  go_wp2_with fail
  refine HFU.mono ?_
  rintro e VA ⟨rfl, hmA⟩
  obtain ⟨SA, hPA, hfA, hbA⟩ := H9.out.1.mut hmA
  have hwr := HIV.out.1.w
  have HCM := pcommit_any hPA (asks_fused HIV.out.1.g cu) (by show D1.writes + 200 < 1000000; omega) (by omega) (torn_asks HIV.out.1 HIV.out.2.2 hn2 (by omega) cu)
  have HTO : Hid (∀ (pk : Nat → Bool) (D4 : Dk), D4 = ((Y.cmD n (D1.fused cu)).failed pk).started → D4.up = true ∧ D4.waits = [] ∧ 8 * n + 1 ≤ D4.kept.length ∧ D4.Sz ∧ D4.writes ≤ 300000 ∧ codeS D4 (recS n D4.kept) = 0 ∧ Good n (runS D4 (recS n D4.kept)) ∧ (Whole n D1 Y (runS D4 (recS n D4.kept)) ∨ (Y.cmC n (D1.fused cu) ≠ 0 ∧ Before n D1 Y (runS D4 (recS n D4.kept))))) := fun pk D4 h4 => torn_px HIV.out.1 HIV.out.2.2 hn2 (by omega) (by omega) cu pk h4
  have HA9 : Hid (WasX (but zb F8) VA CB n (Y.usedL n) (Y.dataL n D1 n) Y.now.h.root (if Y.chg n D1 = [] then Y.now.h.ser else Y.now.h.ser + 1) ∧ WasX (but zb F8) VA CA n (X1.usedL n) (X1.dataL n D1 n) X1.now.h.root X1.now.h.ser ∧ Below W1.heap.size W1 VA ∧ ∀ x, but zb F8 x → F8 x) := ⟨H9.out.2.1.fr (hfA.but zb), H9.out.2.2.1.fr (hfA.but zb), H9.out.2.2.2.trans hbA, fun _ hx => hx.1⟩
  have HLT : Hid (∀ x, F8 x → x < VA.heap.size) := by
    obtain ⟨_, kb9, kc9, mb9, sa9, sc9, ss9, hPl9⟩ := hPA
    exact fun x hx => (hPl9.fF x hx).2.2.2
  clear HFU hmA hPA hfA hbA H9 x0 x1 x2 x3 x4
  go_wp2_with fail
  refine HCM.mono ?_
  rintro e VB hCM
  obtain ⟨rfl, SB, hdB, hSB, hnB, hfB, hbB⟩ := cm_broke hCM
  obtain ⟨cc, hcc⟩ : ∃ cc, Y.cmC n (D1.fused cu) = cc := ⟨_, rfl⟩
  obtain ⟨D2, hD2⟩ : ∃ D2, Y.cmD n (D1.fused cu) = D2 := ⟨_, rfl⟩
  obtain ⟨sn, hsn⟩ : ∃ sn, (if Y.chg n D1 = [] then Y.now.h.ser else Y.now.h.ser + 1) = sn := ⟨_, rfl⟩
  have qB : Dq W1 VB (but zb F8) SB g D2 n CA CB (X1.usedL n) (Y.usedL n) (X1.dataL n D1 n) (Y.dataL n D1 n) X1.now.h.root Y.now.h.root X1.now.h.ser sn := by
    rw [← hD2, ← hsn]
    exact ⟨hdB, hSB, fun x hx => ⟨hnB x hx.1, Nat.lt_of_lt_of_le (HLT.out x hx.1) hfB.sz⟩, HA9.out.2.1.fr (hfB.but zb), HA9.out.1.fr (hfB.but zb), HA9.out.2.2.1.trans hbB⟩
  rw [hcc, hD2] at HTO
  rw [hcc]
  have HSN : Hid ((if Y.chg n D1 = [] then Y.now.h.ser else Y.now.h.ser + 1) = sn) := hsn
  obtain ⟨x0, x1, x2, x3, x4⟩ := HX.out VB qB.on
  have HFA := fail_m qB.d k kl kc bk HIN.out.2.2 qB.on qB.hS
  have QB : Hid (Dq W1 VB (but zb F8) SB g D2 n CA CB (X1.usedL n) (Y.usedL n) (X1.dataL n D1 n) (Y.dataL n D1 n) X1.now.h.root Y.now.h.root X1.now.h.ser sn) := qB
  clear HCM hCM hdB hSB hnB hfB hbB hcc hD2 hsn qB HA9 HLT
  go_wp2_with fail
  refine HFA.mono ?_
  rintro e VC ⟨rfl, hmC⟩
  obtain ⟨SC, qC⟩ := QB.out.mut hmC
  have HST := start_m qC.d rfl rfl
  have QC : Hid (Dq W1 VC (but zb F8) SC g (D2.failed (pickOf bk)) n CA CB (X1.usedL n) (Y.usedL n) (X1.dataL n D1 n) (Y.dataL n D1 n) X1.now.h.root Y.now.h.root X1.now.h.ser sn) := qC
  clear HFA hmC qC QB x0 x1 x2 x3 x4
  go_wp2_with fail
  refine HST.mono ?_
  rintro e VD ⟨rfl, hmD⟩
  obtain ⟨SD, qD⟩ := QC.out.mut hmD
  obtain ⟨D4, hD4⟩ : ∃ D4, (D2.failed (pickOf bk)).started = D4 := ⟨_, rfl⟩
  rw [hD4] at qD
  obtain ⟨t1, t2, t3, t4, t5, t6, t7, t8⟩ := HTO.out (pickOf bk) D4 hD4.symm
  obtain ⟨Gh, hGh⟩ : ∃ Gh, parseH n (pgOf n (runS D4 (recS n D4.kept)) 0).data.toList = some Gh := by
    rcases t8 with t8 | t8
    · exact ⟨_, t8.1⟩
    · exact ⟨_, t8.2.1⟩
  have HJO := qD.open hn2 (by omega) t3 t1 t2 t4 t5 t6 t7 hGh
  obtain ⟨D5, hD5⟩ : ∃ D5, runS D4 (recS n D4.kept) = D5 := ⟨_, rfl⟩
  rw [hD5] at HJO t7 t8 hGh
  have HT : Hid (Good n D5 ∧ (Whole n D1 Y D5 ∨ (cc ≠ 0 ∧ Before n D1 Y D5)) ∧ parseH n (pgOf n D5 0).data.toList = some Gh) := ⟨t7, t8, hGh⟩
  obtain ⟨x0, x1, x2, x3, x4⟩ := HX.out VD qD.on
  clear HST hmD qD hD4 t1 t2 t3 t4 t5 t6 t7 t8 hD5 HTO QC hGh
  go_wp2_with fail
  refine HJO.mono ?_
  rintro e VE ⟨jb5, S5, rfl, qE, HPO⟩
  have QE : Hid (Dq W1 VE (but zb F8) S5 g D5 n CA CB (X1.usedL n) (Y.usedL n) (X1.dataL n D1 n) (Y.dataL n D1 n) X1.now.h.root Y.now.h.root X1.now.h.ser sn) := qE
  clear HJO qE x0 x1 x2 x3 x4
  go_wp2_with fail
  refine HPO.mono ?_
  rintro e VF ⟨pb5, rfl, hPF, hbF⟩
  have HSA := pstate_any hPF HT.out.1.asks
  have hGF : Fr (but zb F8) VE (but zb F8) VF := ⟨hbF.size, fun _ hx => hx, fun x _ hl => hbF.block x hl⟩
  have QF : Hid (WasX (but zb F8) VF CA n (X1.usedL n) (X1.dataL n D1 n) X1.now.h.root X1.now.h.ser ∧ WasX (but zb F8) VF CB n (Y.usedL n) (Y.dataL n D1 n) Y.now.h.root sn ∧ Below W1.heap.size W1 VF) := ⟨QE.out.a.fr hGF, QE.out.b.fr hGF, QE.out.on.trans (hbF.mono QE.out.on.size)⟩
  clear HPO hPF hbF hGF QE
  go_wp2_with fail
  refine HSA.mono ?_
  rintro e VG ⟨ua, uc, da, dc, rfl, hu, hd, hb⟩
  have eG : (pxOf n D5 Gh).now.h = Gh := rfl
  obtain ⟨hst5, hrC, hb5, hwas5⟩ := told_box (r := (pxOf n D5 Gh).now.h.root) (ser := (pxOf n D5 Gh).now.h.ser) hu hd hb
  obtain ⟨C5, hC5⟩ : ∃ C, VG.heap.size = C := ⟨_, rfl⟩
  obtain ⟨rs5, hrs5⟩ : ∃ rs, (rsA (.slice ua n uc) (.slice da n dc) (pxOf n D5 Gh).now.h.root (pxOf n D5 Gh).now.h.ser) = rs := ⟨_, rfl⟩
  rw [hrs5]
  obtain ⟨U5, hU5⟩ : ∃ U, VG.alloc (.cells z7 42) = U := ⟨_, rfl⟩
  obtain ⟨Y5, hY5⟩ : ∃ Y, U5.setRow C5 rs5 = Y := ⟨_, rfl⟩
  rw [hrs5, hC5, hU5, hY5] at hst5 hrC hb5 hwas5
  have hU5 : VG.alloc (.cells #[.slice none 0 0, .slice none 0 0, .int .i64 0, .int .i64 0, .int .i64 0, .int .i64 0, .int .u64 0] 42) = U5 := hU5
  have hz5 : rs5.size = 7 := by rw [← hrs5]; rfl
  have hG5 : Fr (but zb F8) VF (but zb F8) Y5 := ⟨hb5.size, fun _ hx => hx, fun x _ hl => hb5.block x hl⟩
  obtain ⟨aua, auc, ada, adc, hac, _, hau, had⟩ := QF.out.1.fr hG5
  obtain ⟨bua, buc, bda, bdc, hbc, _, hbu, hbd⟩ := QF.out.2.1.fr hG5
  obtain ⟨rsA1, hrsA1⟩ : ∃ rs, (rsA (.slice aua n auc) (.slice ada n adc) X1.now.h.root X1.now.h.ser) = rs := ⟨_, rfl⟩
  obtain ⟨rsB1, hrsB1⟩ : ∃ rs, (rsA (.slice bua n buc) (.slice bda n bdc) Y.now.h.root sn) = rs := ⟨_, rfl⟩
  rw [hrsA1] at hac
  rw [hrsB1] at hbc
  have lo5 := load_rs Y5 C5 _ _ _ hrC hz5
  have loA := load_rs Y5 CA _ _ _ hac (by rw [← hrsA1]; rfl)
  have loB := load_rs Y5 CB _ _ _ hbc (by rw [← hrsB1]; rfl)
  have HSM : Hid (Calls Tryz.prog 23 #[.agg rs5, .agg rsB1] Y5 fun e w' => SmTo n ((pxOf n D5 Gh).usedL n) (Y.usedL n) ((pxOf n D5 Gh).dataL n D5 n) (Y.dataL n D1 n) (fun j => ((pxOf n D5 Gh).now.h.root j : Int)) (fun j => (Y.now.h.root j : Int)) ((pxOf n D5 Gh).now.h.ser : Int) (sn : Int) Y5 e w') := by
    have := rsame_any hwas5.1 hwas5.2 hbu hbd (by omega) (by omega) (fun j => ((pxOf n D5 Gh).now.h.root j : Int)) (fun j => (Y.now.h.root j : Int)) ((pxOf n D5 Gh).now.h.ser : Int) (sn : Int)
    rw [← rsA_rsV, ← rsA_rsV, hrs5, hrsB1] at this
    exact this
  have HY5 : Hid (Below W1.heap.size W1 Y5) := QF.out.2.2.trans (hb5.mono QF.out.2.2.size)
  rcases HT.out.2.1 with hw | ⟨hcc, hbf⟩
  · have hal : AlikeS n ((pxOf n D5 Gh).usedL n) (Y.usedL n) ((pxOf n D5 Gh).dataL n D5 n) (Y.dataL n D1 n) (fun j => ((pxOf n D5 Gh).now.h.root j : Int)) (fun j => (Y.now.h.root j : Int)) ((pxOf n D5 Gh).now.h.ser : Int) (sn : Int) := by
      rw [← HSN.out]
      exact alike_whole hw (Option.some.inj (hw.1.symm.trans HT.out.2.2))
    have HSM2 : Calls Tryz.prog 23 #[.agg rs5, .agg rsB1] Y5 fun e w' => e = .returned (.bool true) ∧ Below Y5.heap.size Y5 w' := HSM.out.mono (fun e w' ⟨b, he, hb, hbw⟩ => ⟨by rw [he, hb hal], hbw⟩)
    clear HSA hu hd hb hrC hb5 hwas5 hrs5 hY5 hG5 hac hau had hbc hbu hbd hrsA1 hrsB1 hw hal HSM QF HT eG loA
    go_wp2_with (first | (refine wpList_load_w (by kernel_rfl) _ _ rfl rfl lo5 ?_) | (refine wpList_load_w (by kernel_rfl) _ _ rfl rfl loB ?_))
    refine HSM2.mono ?_
    rintro e VH ⟨rfl, hbH⟩
    have HBX : Hid (Below W1.heap.size W1 VH) := HY5.out.trans (hbH.mono HY5.out.size)
    clear HSM2 hbH HY5 lo5 loB hst5 hU5
    go_wp2_with fail
    refine (HLV.out _ HBX.out).mono ?_
    rintro e w9 ⟨rfl, hb9⟩
    have HB9 : Hid (Below w.heap.size w w9) := HW.out _ hb9
    clear hb9
    go_wp2
    go_ret
    exact ⟨rfl, HB9.out⟩
  · have hge : Gh = Y.good := Option.some.inj (HT.out.2.2.symm.trans hbf.1)
    have hal : AlikeS n ((pxOf n D5 Gh).usedL n) (X1.usedL n) ((pxOf n D5 Gh).dataL n D5 n) (X1.dataL n D1 n) (fun j => ((pxOf n D5 Gh).now.h.root j : Int)) (fun j => (X1.now.h.root j : Int)) ((pxOf n D5 Gh).now.h.ser : Int) (X1.now.h.ser : Int) := by
      rw [hge]
      exact alike_before hbf HIV.out.2.1 HN1.out
    have HS2 : Hid (∀ W : World, Below Y5.heap.size Y5 W → Calls Tryz.prog 23 #[.agg rs5, .agg rsA1] W fun e w' => e = .returned (.bool true) ∧ Below W.heap.size W w') := fun W hW => by
      have := rsame_any (hwas5.1.below hW) (hwas5.2.below hW) (hau.below hW) (had.below hW) (by omega) (by omega) (fun j => ((pxOf n D5 Gh).now.h.root j : Int)) (fun j => (X1.now.h.root j : Int)) ((pxOf n D5 Gh).now.h.ser : Int) (X1.now.h.ser : Int)
      rw [← rsA_rsV, ← rsA_rsV, hrs5, hrsA1] at this
      exact this.mono (fun e w' ⟨b, he, hb, hbw⟩ => ⟨by rw [he, hb hal], hbw⟩)
    have HLO : Hid (∀ W : World, Below Y5.heap.size Y5 W → (loadVar 42 ⟨C5, 0, none⟩).run Tryz.prog W = .ok (.agg rs5) W ∧ (loadVar 42 ⟨CA, 0, none⟩).run Tryz.prog W = .ok (.agg rsA1) W) := fun W hW => ⟨load_rs W C5 _ _ _ ((hW.block C5 (lt_of_some hrC)).trans hrC) hz5, load_rs W CA _ _ _ ((hW.block CA (lt_of_some hac)).trans hac) (by rw [← hrsA1]; rfl)⟩
    have kcc : ¬ (cc : Int) = 0 := by omega
    have kcb : ((cc : Int) == 0) = false := by simpa using kcc
    have kcn : ((cc : Int) != 0) = true := by rw [bne_iff_ne]; exact kcc
    have HSM := HSM.out
    clear HSA hu hd hb hrC hb5 hwas5 hrs5 hY5 hG5 hac hau had hbc hbu hbd hrsA1 hrsB1 hbf hge hal QF HT eG loA hcc
    go_wp2_with (first | (refine wpList_load_w (by kernel_rfl) _ _ rfl rfl lo5 ?_) | (refine wpList_load_w (by kernel_rfl) _ _ rfl rfl loB ?_))
    refine HSM.mono ?_
    rintro e VH ⟨b, rfl, _, hbH⟩
    have HBX : Hid (Below W1.heap.size W1 VH) := HY5.out.trans (hbH.mono HY5.out.size)
    cases b with
    | true =>
      clear HSM hbH HY5 lo5 loB hst5 hU5 HS2 HLO
      go_wp2_with fail
      refine (HLV.out _ HBX.out).mono ?_
      rintro e w9 ⟨rfl, hb9⟩
      have HB9 : Hid (Below w.heap.size w w9) := HW.out _ hb9
      clear hb9
      go_wp2
      go_ret
      exact ⟨rfl, HB9.out⟩
    | false =>
      obtain ⟨l1, l2⟩ := HLO.out VH hbH
      have HS3 := HS2.out VH hbH
      clear HSM hbH HY5 lo5 loB hst5 hU5 HS2 HLO
      go_wp2_with (first | (refine wpList_load_w (by kernel_rfl) _ _ rfl rfl l1 ?_) | (refine wpList_load_w (by kernel_rfl) _ _ rfl rfl l2 ?_))
      refine HS3.mono ?_
      rintro e VI ⟨rfl, hbI⟩
      have HBX : Hid (Below W1.heap.size W1 VI) := HBX.out.trans (hbI.mono HBX.out.size)
      clear HS3 hbI l1 l2
      go_wp2_with fail
      refine (HLV.out _ HBX.out).mono ?_
      rintro e w9 ⟨rfl, hb9⟩
      have HB9 : Hid (Below w.heap.size w w9) := HW.out _ hb9
      clear hb9
      go_wp2
      go_ret
      exact ⟨rfl, HB9.out⟩

set_option linter.unusedVariables false in
set_option maxRecDepth 100000 in
theorem lifted (os : _root_.Go.Os) (started : os.Started) (H : Type) (enc : TypeId × Value → H) :
    ReturnsInHanded {} Tryz.checked os 4 .any (Rows.pagerWholeSpec.pre6 enc Tryz.prog Tryz.f4 Rows.pagerWholeRow.domain false) (Rows.pagerWholeSpec.post enc Tryz.prog Tryz.f4 false true false false) := by
  refine returnsInHanded_of_change (C := Tryz.checked) own started (by kernel_rfl) Tryz.func4
    (ChangeSpec.witness6 (enc := enc) (C := Tryz.checked) false ⟨#[], #[.agg #[.int .i64 0, .slice none 0 0, .slice none 0 0, .int .i64 0, .slice none 0 0]], []⟩ 8 (by kernel_rfl) (by kernel_rfl) (by kernel_rfl) (by kernel_rfl)) ?_
  intro W base args ds gs before hval0 hW hcnd _
  have hval : ∀ (j : Nat) t v, Tryz.f4.params[j]? = some t → args[j]? = some v → Value.okWide Tryz.prog W .any base t v := hval0
  have hW' := hW
  obtain ⟨p, q, hA0, hV, rfl, hfz, hnd⟩ := hW
  have hA : DataW.TrodAll enc Tryz.prog W 0 (fun _ => true) true Tryz.f4.params.toList args.toList ds p := hA0
  rw [Tryz.params4] at hA hval
  obtain ⟨v0, vs0, d0, ds0, p0, q0, hargs, rfl, rfl, h0, r0⟩ := trodAll_cons hA
  obtain ⟨rfl, rfl, rfl⟩ := trodAll_nil r0
  obtain rfl : args = #[v0] := by cases args; simp_all
  obtain ⟨rfl, rfl⟩ := trodVars_none hV
  have k0 := h0
  have lt0 : ∀ x ∈ p0, x.block < W.heap.size := by obtain ⟨m, hm⟩ := k0; exact DataW.trod_lt m _ _ _ hm
  obtain ⟨x, rfl, w0⟩ := torn_of (hval 0 48 v0 rfl rfl) h0
  clear hA0 hval0
  refine (walk x W w0).mono fun e W' ⟨he, bel⟩ => ?_
  subst he
  exact ⟨_, rfl, _, _, _, [], _, [], hW', trodAll_mk1 (shut_bool Tryz.underlying4 _), (trodAll_cons_mk (Below.trod laidOut (by kernel_rfl) (of_decide_eq_true (by kernel_rfl)) k0 bel lt0) trodAll_mk0), rfl, bel.frame _, fun h => by cases h⟩

theorem over : Rows.pagerWholeRow.holds Tryz.pinned (OpenSpec.ofChange Rows.pagerWholeSpec) :=
  OpenClaim.holds_of_wide 4 Tryz.f4 rfl rfl rfl rfl rfl rfl rfl ⟨rfl, rfl, rfl, rfl, rfl⟩ rfl rfl rfl rfl rfl (by kernel_rfl) Tryz.func4 (by kernel_rfl)
    (of_decide_eq_true (by kernel_rfl)) (by unfold Func.isWrapper; first | (rw [if_pos (by decide +kernel)]; kernel_rfl) | (rw [if_neg (by decide +kernel)]; exact ⟨rfl, rfl⟩))
    (fun os started H enc _ => lifted os started H enc)

end Go.Proofs.YtdgffocmdkadpaaGreat.pagerWhole
namespace Go.Proofs.YtdgffocmdkadpaaGreat
/-- The given statement. -/
theorem pagerWhole_holds : Rows.PagerWholeSaid := pagerWhole.over
#print axioms pagerWhole_holds
end Go.Proofs.YtdgffocmdkadpaaGreat
