/- ShelfRanges: ranges of a table, put together of two that meet, cut short, and asked for one key, whatever was done to the table. -/
import Derived.Test.YtnafalkcgghjgaaGreatDoorTF
import Derived.Test.YtnafalkcgghjgaaGreatDoorCards
import Derived.Test.YtnafalkcgghjgaaGreatDoorTie
import Derived.WalkKit
import Derived.ProofKit
import Derived.OpenShut
import Derived.ShutString
import Derived.ChangeOld
import Derived.Below
import Derived.LaidMore
import Derived.Lay
import Derived.Stop.Joined
import Derived.SevenTiedAt
namespace Go.Proofs.YtnafalkcgghjgaaGreatDoor.shelfRanges
open Go.ChangeShapes Go.WideShapes Go.ChangeAt Go.RowKit
theorem own : ownKnob Tryz.prog.godebug = none := by kernel_rfl
theorem laidOut : laidOutB Tryz.prog = true := by kernel_rfl

set_option maxRecDepth 100000 in
set_option maxHeartbeats 8000000 in
theorem walk (a0 : Option Addr) (len0 cap0 : Nat) (l0 : List OV) (_y0 : len0 ≤ 140737488351232) (s1 t1 u1 : ByteArray) (zs1 : s1.size ≤ 140737488351232) (zt1 : t1.size ≤ 140737488351232) (zu1 : u1.size ≤ 140737488351232) (x2 : Int) (z2 : -9223372036854775808 ≤ x2 ∧ x2 ≤ 9223372036854775807) (w : World) (w0 : Os w a0 len0 cap0 l0) :
    Calls Tryz.prog 5 #[.slice a0 len0 cap0, .agg #[.string s1, .string t1, .string u1], .int .i64 x2] w fun e w' => e = .returned (.bool true) ∧ Below w.heap.size w w' := by
  obtain ⟨W0, hW0⟩ : ∃ W0, w.alloc (.cells #[.string s1, .string t1, .string u1] 61) = W0 := ⟨_, rfl⟩
  have hb0 : Below w.heap.size w W0 := by rw [← hW0]; exact (Below.refl _ w).alloc (Nat.le_refl _) _
  obtain ⟨bx, hbx⟩ : ∃ bx, w.heap.size = bx := ⟨_, rfl⟩
  have hlt : bx < W0.heap.size := by rw [← hW0, ← hbx]; simp
  have rx : W0.heap[bx]? = some (.cells #[.string s1, .string t1, .string u1] 61 (0, 0)) := by rw [← hW0, ← hbx]; exact heap_alloc_new w _
  have HC : Hid (∀ V, Below W0.heap.size W0 V → V.cell? ⟨bx, 0, none⟩ = some (.string s1) ∧ V.cell? ⟨bx, 1, none⟩ = some (.string t1) ∧ V.cell? ⟨bx, 2, none⟩ = some (.string u1)) := fun V hV =>
    ⟨by rw [hV.cell hlt, cell_of_row _ _ _ _ _ _ rx]; rfl, by rw [hV.cell hlt, cell_of_row _ _ _ _ _ _ rx]; rfl, by rw [hV.cell hlt, cell_of_row _ _ _ _ _ _ rx]; rfl⟩
  have HOS : Hid (Os W0 a0 len0 cap0 l0) := w0.on hb0
  have HO := opened_any 8 (by omega) (by omega) W0
  have HB0 : Hid (Below w.heap.size w W0) := hb0
  have HO : Calls Tryz.prog 8 #[.int .i64 8] W0 fun e w' => Opened 8 W0 e w' := HO
  clear w0 hb0 rx hlt
  go_enter Tryz.func5, Tryz.ntmps5
  go_wp2_with fail
  refine HO.mono ?_
  rintro e V1 ⟨g, jb, sb, FF, S, KK, rfl, ht, hl, hj, hb⟩
  have hkept : Kept W0 V1 S g (Dk.new (8 * 8 + 1) nought) sb jb 8 KK := ⟨FF, KK, ht, hb⟩
  obtain ⟨D, hD⟩ : ∃ D, Dk.new (8 * 8 + 1) nought = D := ⟨_, rfl⟩
  rw [hD] at hkept
  have HDN := done_any hkept a0 len0 cap0 l0 HOS.out
  unfold DoneTo at HDN
  clear HO ht hl hj hb hkept hD HOS hW0
  go_wp2_with fail
  refine HDN.mono ?_
  rintro e V2 ⟨y, rfl, hk2⟩
  have HLV := lives_h hk2.on
  obtain ⟨F2, L, ht2, hb2⟩ := hk2
  have HK2 : Hid (Kp W0 V2 S g D sb jb 8 L KK) := ⟨⟨F2, ht2⟩, hb2⟩
  obtain ⟨e0, e1, e2⟩ := HC.out V2 hb2
  clear HDN ht2 hb2
  cases y with
  | false =>
    clear e0 e1 e2
    go_wp2_with fail
    refine HLV.mono ?_
    rintro e Z ⟨rfl, hbz⟩
    have HBZ : Hid (Below w.heap.size w Z) := HB0.out.trans (hbz.mono HB0.out.size)
    clear HLV hbz
    go_wp2
    go_ret
    exact ⟨rfl, HBZ.out⟩
  | true =>
    by_cases hz : s1.size + t1.size + u1.size ≤ 2000
    · have hz1 : ¬ (2000 : Int) < (s1.size : Int) + (t1.size : Int) + (u1.size : Int) := by omega
      clear HLV
      obtain ⟨T, hT⟩ : ∃ T, flat (lfs L) = T := ⟨_, rfl⟩
      have HTT : Hid (flat (lfs L) = T) := hT
      have HRI : Hid (Rise T) := by show Rise T; rw [← hT]; exact HK2.out.shape.srt
      have htl : T.length ≤ 20000 := by rw [← hT]; exact HK2.out.total.2
      have HFU : Hid (∀ f t, rangeT T f t 100000 = midT T f t) := fun f t => range_full f t 100000 (by omega)
      have HR1 := kp_range HK2.out HTT.out s1 u1 100000
      rw [HFU.out] at HR1
      clear hT htl
      go_wp2_with fail
      refine HR1.mono ?_
      rintro e V3 ⟨xa, xn, xc, rfl, hpx, hxn, hk3, hb3⟩
      have HX3 : Hid (Pw (fun _ => True) V3 xa xn xc (midT T s1 u1)) := hpx
      have HR2 := kp_range hk3 HTT.out s1 u1 x2
      rw [range_mid, take_min] at HR2
      obtain ⟨e0, e1, e2⟩ := HC.out V3 hk3.2
      have hxl := hpx.len
      have hxm := hpx.max
      rw [hxl] at HR2
      obtain ⟨q, hq⟩ : ∃ q : Nat, max 0 (min x2 (xn : Int)) = (q : Int) := Int.eq_ofNat_of_zero_le (by omega)
      rw [hq, Int.toNat_natCast] at HR2
      have hqn : q ≤ xn := by omega
      have hpre := pre_prs xa xn xc q (by omega)
      obtain ⟨ca, hca⟩ : ∃ ca, cutA xa xc 0 2 = ca := ⟨_, rfl⟩
      rw [hca] at hpre
      have HXC : Hid (∀ W, Below V3.heap.size V3 W → Pw (fun _ => True) W ca q xc ((midT T s1 u1).take q)) := fun W hW => by rw [← hca]; exact (HX3.out.below hW).pre q (by omega)
      clear HR1 hpx hk3 hb3 HK2 hca
      go_wp2_with fail
      refine HR2.mono ?_
      rintro e V4 ⟨ya, yn, yc, rfl, hpy, hyn, hk4, hb4⟩
      have HSM := same_any hpy (HXC.out V4 hb4)
      rw [decide_eq_true rfl] at HSM
      have HK4 : Hid (Kp W0 V4 S g D sb jb 8 L KK) := hk4
      have HX4 : Hid (Pw (fun _ => True) V4 xa xn xc (midT T s1 u1)) := HX3.out.below hb4
      clear HR2 hpy hk4 hb4 HX3 HXC e0 e1 e2
      have hqm : min x2 (xn : Int) = x2 ∧ (max 0 x2 = (q : Int)) ∨ min x2 (xn : Int) = (xn : Int) ∧ (max 0 (xn : Int) = (q : Int)) := by omega
      go_wp2_with fail
      refine HSM.mono ?_
      rintro e V4b ⟨rfl, hb4b⟩
      have HK4b : Hid (Kp W0 V4b S g D sb jb 8 L KK) := HK4.out.below hb4b
      have HX4b : Hid (Pw (fun _ => True) V4b xa xn xc (midT T s1 u1)) := HX4.out.below hb4b
      clear HSM hb4b HK4 HX4 hpre hqm hq
      go_wp2
      go_loopw [13] (fun v wr => ∃ i : Nat, i ≤ xn ∧ v = .int .i64 i ∧ Kp W0 wr S g D sb jb 8 L KK ∧ Pw (fun _ => True) wr xa xn xc (midT T s1 u1)) (fun v _ => xn - (intOf v).toNat)
      case atStart => exact ⟨0, by omega, rfl, HK4b.out, HX4b.out⟩
      case round =>
        clear HK4b HX4b
        obtain ⟨i, hi, rfl, hk, hpx⟩ := hrel
        by_cases hlt : i < xn
        · have kk : (i : Int) < (xn : Int) := by omega
          obtain ⟨xb, xo, rfl, _, _, hc⟩ := hpx.at (by omega)
          have hp : (midT T s1 u1)[i]? = some (midT T s1 u1)[i] := List.getElem?_eq_getElem (by omega)
          obtain ⟨⟨p1, p2⟩, hpe⟩ : ∃ p, (midT T s1 u1)[i]'(by omega) = p := ⟨_, rfl⟩
          rw [hpe] at hp
          obtain ⟨c1, c2⟩ := hc i _ hp
          simp only at c1 c2
          obtain ⟨hm1, hm2, hm3⟩ := mid_mem (List.mem_of_getElem? hp)
          obtain ⟨gm1, gm2⟩ := get_mem HRI.out hm1
          simp only at gm1 gm2 hm2 hm3
          have HG := kp_get hk HTT.out p1
          rw [gm1, gm2, Option.getD_some] at HG
          have HPX : Hid (Pw (fun _ => True) wr (some ⟨xb, xo, none⟩) xn xc (midT T s1 u1)) := hpx
          have hgt := gtr_sl p1 u1
          rw [hm3] at hgt
          have hls : Op.bytesLess p1.toList s1.toList = false := hm2
          have HP : Hid ((midT T s1 u1)[i]? = some (p1, p2)) := hp
          clear hc hp hpe hm1 hm2 hm3 gm1 gm2 hk hpx
          go_wp2_with fail
          refine HG.mono ?_
          rintro e V5 ⟨rfl, hk5, hb5⟩
          have hpx5 := HPX.out.below hb5
          obtain ⟨xb', xo', hxe, _, _, hc⟩ := hpx5.at (by omega)
          cases hxe
          obtain ⟨c1, c2⟩ := hc i _ HP.out
          simp only at c1 c2
          obtain ⟨e0, e1, e2⟩ := HC.out V5 hk5.2
          have HE : Hid (Kp W0 V5 S g D sb jb 8 L KK ∧ Pw (fun _ => True) V5 (some ⟨xb, xo, none⟩) xn xc (midT T s1 u1)) := ⟨hk5, hpx5⟩
          by_cases h0 : i = 0
          · have k0 : decide ((0 : Int) < (i : Int)) = false := decide_eq_false (by omega)
            have k0n : decide (0 < i) = false := decide_eq_false (by omega)
            have HI0 : Hid (i = 0) := h0
            clear h0 hc HG hk5 hb5 hpx5 HPX
            go_wp2
            go_quiet (fail)
            go_wp2
            exact ⟨⟨i + 1, by omega, by go_num, HE.out.1.drewN _, HE.out.2.below (below_drewN (Below.refl _ _) _)⟩, by simp [intOf]; omega⟩
          · have k0 : decide ((0 : Int) < (i : Int)) = true := decide_eq_true (by omega)
            have k0n : decide (0 < i) = true := decide_eq_true (by omega)
            obtain ⟨i', hi'⟩ : ∃ i', i = i' + 1 := ⟨i - 1, by omega⟩
            have ki : (i : Int) - 1 = (i' : Int) := by omega
            have ki2 : (i' : Int) < (xn : Int) := by omega
            have hq1 : (midT T s1 u1)[i']? = some (midT T s1 u1)[i'] := List.getElem?_eq_getElem (by omega)
            obtain ⟨⟨q1, q2⟩, hqe⟩ : ∃ p, (midT T s1 u1)[i']'(by omega) = p := ⟨_, rfl⟩
            rw [hqe] at hq1
            obtain ⟨b1, b2⟩ := hc i' _ hq1
            simp only at b1 b2
            have hri := mid_rise HRI.out s1 u1
            have hge : Op.bytesLess q1.toList p1.toList = true := by
              have h5 := HP.out
              have h6 := List.pairwise_iff_getElem.1 hri i' i (by omega) (by omega) (by omega)
              rw [hqe] at h6
              rw [List.getElem?_eq_getElem (by omega)] at h5
              rw [Option.some.inj h5] at h6
              exact h6
            have HII : Hid (i = i' + 1) := hi'
            clear h0 hc HG hk5 hb5 hpx5 HPX hq1 hqe hri hi'
            go_wp2
            go_quiet (fail)
            go_wp2
            exact ⟨⟨i + 1, by omega, by go_num, HE.out.1.drewN _, HE.out.2.below (below_drewN (Below.refl _ _) _)⟩, by simp [intOf]; omega⟩
        · have kk : ¬ (i : Int) < (xn : Int) := by omega
          have HG1 := kp_get hk HTT.out t1
          have HXL : Hid (Pw (fun _ => True) wr xa xn xc (midT T s1 u1)) := hpx
          obtain ⟨e0, e1, e2⟩ := HC.out wr hk.2
          clear hk hpx
          cases hit : isT T t1 with
          | true =>
            have HON0 : Hid (rangeT T t1 t1 5 = [(t1, (getT T t1).getD ByteArray.empty)]) := by show _ = _; rw [one_range HRI.out t1, hit]; rfl
            have HMJ0 := fun (h1 : sl t1 s1 = false) (h2 : sl u1 t1 = false) => mid_join HRI.out h1 h2
            rw [hit] at HG1 HMJ0
            have HMJ1 : Hid (sl t1 s1 = false → sl u1 t1 = false → midT T s1 t1 ++ (if true = true then (midT T t1 u1).drop 1 else midT T t1 u1) = midT T s1 u1) := HMJ0
            have HON1 : Hid (sl u1 t1 = false → 1 ≤ (midT T t1 u1).length) := fun h2 => by
              have h3 := isT_at hit
              have h4 : (t1, (getT T t1).getD ByteArray.empty) ∈ midT T t1 u1 := by
                unfold midT
                rw [List.mem_filter]
                exact ⟨List.mem_of_getElem? h3, by simp [sl_irr, h2]⟩
              exact List.length_pos_of_mem h4
            clear hit HMJ0
            go_wp2_with fail
            refine HG1.mono ?_
            rintro e V5 ⟨rfl, hk5, hb5⟩
            have HX5 : Hid (Pw (fun _ => True) V5 xa xn xc (midT T s1 u1)) := HXL.out.below hb5
            have HRO := kp_range hk5 HTT.out t1 t1 5
            rw [HON0.out] at HRO
            obtain ⟨d0, d1, d2⟩ := HC.out V5 hk5.2
            clear HG1 hk5 hb5 HXL e0 e1 e2 HON0
            obtain ⟨gv, hgv⟩ : ∃ gv, (getT T t1).getD ByteArray.empty = gv := ⟨_, rfl⟩
            rw [hgv] at HRO ⊢
            clear hgv
            go_wp2_with fail
            refine HRO.mono ?_
            rintro e V6 ⟨oa, on, oc, rfl, hpo, hon, hk6, hb6⟩
            have HX6 : Hid (Pw (fun _ => True) V6 xa xn xc (midT T s1 u1)) := HX5.out.below hb6
            have HK6 : Hid (Kp W0 V6 S g D sb jb 8 L KK) := hk6
            have hol := hpo.len
            obtain rfl : on = 1 := hol.symm
            obtain ⟨ob, oo, rfl, _, _, hoc⟩ := hpo.at (by omega)
            obtain ⟨o1, o2⟩ := hoc 0 _ rfl
            simp only [Nat.zero_mul, Nat.add_zero] at o1 o2
            have heq := fun W => eqin_pair t1 gv t1 gv W
            rw [decide_eq_true (show t1 = t1 ∧ gv = gv from ⟨rfl, rfl⟩)] at heq
            clear hoc
            obtain ⟨e0, e1, e2⟩ := HC.out V6 hk6.2
            clear HRO hpo hk6 hb6 hol d0 d1 d2 HX5 hon
            go_wp2
            go_quiet (fail)
            rename_i nq
            obtain ⟨V6q, hV6q⟩ : ∃ V6q, V6.drewN nq = V6q := ⟨_, rfl⟩
            have HK6q : Hid (Kp W0 V6q S g D sb jb 8 L KK) := by show Kp _ _ _ _ _ _ _ _ _ _; rw [← hV6q]; exact HK6.out.drewN nq
            have HX6q : Hid (Pw (fun _ => True) V6q xa xn xc (midT T s1 u1)) := by show Pw _ _ _ _ _ _; rw [← hV6q]; exact HX6.out.below (below_drewN (Below.refl _ _) nq)
            clear HK6 HX6 e0 e1 e2
            rw [hV6q]
            clear hV6q
            obtain ⟨e0, e1, e2⟩ := HC.out V6q HK6q.out.2
            cases hs1 : sl t1 s1 with
            | true =>
              have hb1 : Op.bytesLess t1.toList s1.toList = true := hs1
              clear hs1
              have HLV := lives_h HK6q.out.2
              go_wp2_with fail
              refine HLV.mono ?_
              rintro e Z ⟨rfl, hbz⟩
              have HBZ : Hid (Below w.heap.size w Z) := HB0.out.trans (hbz.mono HB0.out.size)
              clear HLV hbz
              go_wp2
              go_ret
              exact ⟨rfl, HBZ.out⟩
            | false =>
              have hb1 : Op.bytesLess t1.toList s1.toList = false := hs1
              have hg1 := gtr_sl t1 u1
              cases hs2 : sl u1 t1 with
              | true =>
                rw [hs2] at hg1
                clear hs1 hs2
                have HLV := lives_h HK6q.out.2
                go_wp2_with fail
                refine HLV.mono ?_
                rintro e Z ⟨rfl, hbz⟩
                have HBZ : Hid (Below w.heap.size w Z) := HB0.out.trans (hbz.mono HB0.out.size)
                clear HLV hbz
                go_wp2
                go_ret
                exact ⟨rfl, HBZ.out⟩
              | false =>
                rw [hs2] at hg1
                have HMJ : Hid (midT T s1 t1 ++ (midT T t1 u1).drop 1 = midT T s1 u1 ∧ 1 ≤ (midT T t1 u1).length) := ⟨HMJ1.out hs1 hs2, HON1.out hs2⟩
                clear hs1 hs2 HMJ1 HON1
                go_wp2
                have HRA : Hid (Calls Tryz.prog 18 #[.pointer (some ⟨sb, 0, none⟩), .string s1, .string t1, .int .i64 100000] V6q.drew fun e w' => ∃ (ra : Option Addr) (rn rc : Nat), e = .returned (.slice ra rn rc) ∧ Pw (fun _ => True) w' ra rn rc (rangeT T s1 t1 100000) ∧ rn ≤ 20000 ∧ Kp W0 w' S g D sb jb 8 L KK ∧ Below V6q.drew.heap.size V6q.drew w') := kp_range HK6q.out.drew HTT.out s1 t1 100000
                clear e0 e1 e2
                refine wp_region_held_drew (S := fun V => V.cell? ⟨bx, 0, none⟩ = some (.string s1) ∧ V.cell? ⟨bx, 1, none⟩ = some (.string t1) ∧ V.cell? ⟨bx, 2, none⟩ = some (.string u1)) (by kernel_rfl) (HC.out _ (HK6q.out.drew).2) (fun hHeld => ?_)
                refine wpAnyH_take (i := 0) (v := ?vb0) rfl (by kernel_rfl) (by kernel_rfl) (by kernel_rfl) (fun _ _ _ h => h) (Or.inl ⟨by first | kernel_rfl | rfl, ?yb0⟩) hHeld ?rb0
                case yb0 => (intro W hSW; (try dsimp only at hSW); go_simp; (try with_reducible rfl))
                change wpAnyH _ _ _ _ _ _ _ (Act.put _ (some 187) _) _
                simp only [Act.put, List.setIfInBounds_toArray, List.set_cons_zero, List.set_cons_succ]
                refine wpAnyH_take (i := 1) (v := ?vb1) rfl (by kernel_rfl) (by kernel_rfl) (by kernel_rfl) (fun _ _ _ h => h) (Or.inl ⟨by first | kernel_rfl | rfl, ?yb1⟩) hHeld ?rb1
                case yb1 => (intro W hSW; (try dsimp only at hSW); go_simp; (try with_reducible rfl))
                change wpAnyH _ _ _ _ _ _ _ (Act.put _ (some 188) _) _
                simp only [Act.put, List.setIfInBounds_toArray, List.set_cons_zero, List.set_cons_succ]
                refine wpAnyH_take (i := 2) (v := ?vb2) rfl (by kernel_rfl) (by kernel_rfl) (by kernel_rfl) (fun _ _ _ h => h) (Or.inl ⟨by first | kernel_rfl | rfl, ?yb2⟩) hHeld ?rb2
                case yb2 => (intro W hSW; (try dsimp only at hSW); go_simp; (try with_reducible rfl))
                change wpAnyH _ _ _ _ _ _ _ (Act.put _ (some 189) _) _
                simp only [Act.put, List.setIfInBounds_toArray, List.set_cons_zero, List.set_cons_succ]
                refine wpAnyH_take (i := 3) (v := ?vb3) rfl (by kernel_rfl) (by kernel_rfl) (by kernel_rfl) (fun _ _ _ h => h) (Or.inl ⟨by first | kernel_rfl | rfl, ?yb3⟩) hHeld ?rb3
                case yb3 => (intro W hSW; (try dsimp only at hSW); go_simp; (try with_reducible rfl))
                change wpAnyH _ _ _ _ _ _ _ (Act.put _ (some 190) _) _
                simp only [Act.put, List.setIfInBounds_toArray, List.set_cons_zero, List.set_cons_succ]
                refine wpAnyH_take (i := 4) (v := ?vb4) rfl (by kernel_rfl) (by kernel_rfl) (by kernel_rfl) (fun _ _ _ h => h) (Or.inl ⟨by first | kernel_rfl | rfl, ?yb4⟩) hHeld ?rb4
                case yb4 => (intro W hSW; (try dsimp only at hSW); go_simp; (try with_reducible rfl))
                change wpAnyH _ _ _ _ _ _ _ (Act.put _ (some 191) _) _
                simp only [Act.put, List.setIfInBounds_toArray, List.set_cons_zero, List.set_cons_succ]
                refine wpAnyH_take (i := 6) (v := ?vb6) rfl (by kernel_rfl) (by kernel_rfl) (by kernel_rfl) (fun _ _ _ h => h) (Or.inl ⟨by first | kernel_rfl | rfl, ?yb6⟩) hHeld ?rb6
                case yb6 => (intro W hSW; (try dsimp only at hSW); go_simp; (try with_reducible rfl))
                change wpAnyH _ _ _ _ _ _ _ (Act.put _ (some 193) _) _
                simp only [Act.put, List.setIfInBounds_toArray, List.set_cons_zero, List.set_cons_succ]
                refine wpAnyH_take (i := 7) (v := ?vb7) rfl (by kernel_rfl) (by kernel_rfl) (by kernel_rfl) (fun _ _ _ h => h) (Or.inl ⟨by first | kernel_rfl | rfl, ?yb7⟩) hHeld ?rb7
                case yb7 => (intro W hSW; (try dsimp only at hSW); go_simp; (try with_reducible rfl))
                change wpAnyH _ _ _ _ _ _ _ (Act.put _ (some 194) _) _
                simp only [Act.put, List.setIfInBounds_toArray, List.set_cons_zero, List.set_cons_succ]
                refine wpAnyH_take (i := 8) (v := ?vb8) rfl (by kernel_rfl) (by kernel_rfl) (by kernel_rfl) (fun _ _ _ h => h) (Or.inl ⟨by first | kernel_rfl | rfl, ?yb8⟩) hHeld ?rb8
                case yb8 => (intro W hSW; (try dsimp only at hSW); go_simp; (try with_reducible rfl))
                change wpAnyH _ _ _ _ _ _ _ (Act.put _ (some 195) _) _
                simp only [Act.put, List.setIfInBounds_toArray, List.set_cons_zero, List.set_cons_succ]
                refine wpAnyH_take (i := 9) (v := ?vb9) rfl (by kernel_rfl) (by kernel_rfl) (by kernel_rfl) (fun _ _ _ h => h) (Or.inl ⟨by first | kernel_rfl | rfl, ?yb9⟩) hHeld ?rb9
                case yb9 => (intro W hSW; (try dsimp only at hSW); go_simp; (try with_reducible rfl))
                change wpAnyH _ _ _ _ _ _ _ (Act.put _ (some 196) _) _
                simp only [Act.put, List.setIfInBounds_toArray, List.set_cons_zero, List.set_cons_succ]
                refine wpAnyH_take (i := 10) (v := ?vb10) rfl (by kernel_rfl) (by kernel_rfl) (by kernel_rfl) (fun _ _ _ h => h) (Or.inl ⟨by first | kernel_rfl | rfl, ?yb10⟩) hHeld ?rb10
                case yb10 => (intro W hSW; (try dsimp only at hSW); go_simp; (try with_reducible rfl))
                change wpAnyH _ _ _ _ _ _ _ (Act.put _ (some 197) _) _
                simp only [Act.put, List.setIfInBounds_toArray, List.set_cons_zero, List.set_cons_succ]
                refine wpAnyH_ready (rs := [5]) (by kernel_rfl) (by simp) ?_
                refine AllReadyH.cons rfl (fun K hK => ?_) AllReadyH.nil
                go_simp
                refine (HRA.out).mono ?_
                rintro e V7 ⟨aa, an, ac, rfl, hpa, han, hk7, hb7⟩; have HPA : Hid (Pw (fun _ => True) V7 aa an ac (midT T s1 t1)) := HFU.out _ _ ▸ hpa; have HK7 : Hid (Kp W0 V7 S g D sb jb 8 L KK ∧ Pw (fun _ => True) V7 xa xn xc (midT T s1 u1)) := ⟨hk7, (HX6q.out.below (Below.refl _ _).drew).below hb7⟩; clear hpa hk7 hb7
                refine hK.out _ _ (HC.out _ HK7.out.1.2) (fun hHeld => ?_)
                clear hK K
                try simp only [Act.put, List.setIfInBounds_toArray, List.set_cons_zero, List.set_cons_succ]
                refine wpAnyH_ready (rs := [11]) (by kernel_rfl) (by simp) ?_
                refine AllReadyH.cons rfl (fun K hK => ?_) AllReadyH.nil
                go_simp
                refine (kp_range HK7.out.1 HTT.out t1 u1 100000).mono ?_
                rintro e V8 ⟨ba, bn, bc, rfl, hpb, hbn, hk8, hb8⟩; have HK8 : Hid (Kp W0 V8 S g D sb jb 8 L KK ∧ Pw (fun _ => True) V8 xa xn xc (midT T s1 u1) ∧ Pw (fun _ => True) V8 aa an ac (midT T s1 t1) ∧ Pw (fun _ => True) V8 ba bn bc (midT T t1 u1)) := ⟨hk8, HK7.out.2.below hb8, HPA.out.below hb8, HFU.out _ _ ▸ hpb⟩; clear hpb hk8 hb8 HK7 HPA
                refine hK.out _ _ (HC.out _ HK8.out.1.2) (fun hHeld => ?_)
                clear hK K
                try simp only [Act.put, List.setIfInBounds_toArray, List.set_cons_zero, List.set_cons_succ]
                refine wpAnyH_take (i := 12) (v := ?vb12) rfl (by kernel_rfl) (by kernel_rfl) (by kernel_rfl) (fun _ _ _ h => h) (Or.inl ⟨by first | kernel_rfl | rfl, ?yb12⟩) hHeld ?rb12
                case yb12 => (intro W hSW; (try dsimp only at hSW); go_simp; (try with_reducible rfl))
                change wpAnyH _ _ _ _ _ _ _ (Act.put _ (some 19) _) _
                simp only [Act.put, List.setIfInBounds_toArray, List.set_cons_zero, List.set_cons_succ]
                refine wpAnyH_take (i := 13) (v := ?vb13) rfl (by kernel_rfl) (by kernel_rfl) (by kernel_rfl) (fun _ _ _ h => h) (Or.inl ⟨by first | kernel_rfl | rfl, ?yb13⟩) hHeld ?rb13
                case yb13 => (intro W hSW; (try dsimp only at hSW); go_simp; (try with_reducible rfl))
                change wpAnyH _ _ _ _ _ _ _ (Act.put _ (some 20) _) _
                simp only [Act.put, List.setIfInBounds_toArray, List.set_cons_zero, List.set_cons_succ]
                refine wpAnyH_done (by kernel_rfl) ?_ _
                have hbn1 : 1 ≤ bn := by
                  have h1 := HK8.out.2.2.2.len
                  have h2 := HMJ.out.2
                  omega
                have hoff : ∀ W, (Instr.sliceAt 29 (.slice ba bn bc) (some (.int .i64 1)) none none).run Tryz.prog W = .ok (.slice (cutA ba bc 1 2) (bn - 1) (bc - 1)) W := fun W => off_prs ba bn bc 1 hbn1 W
                have hP := HK8.out.2.2.2.drop 1 hbn1
                obtain ⟨da, hda⟩ : ∃ da, cutA ba bc 1 2 = da := ⟨_, rfl⟩
                obtain ⟨dm, hdm⟩ : ∃ dm, bn - 1 = dm := ⟨_, rfl⟩
                obtain ⟨dc, hdc⟩ : ∃ dc, bc - 1 = dc := ⟨_, rfl⟩
                rw [hda, hdm, hdc] at hP hoff
                have hdm2 : dm ≤ 20000 := by omega
                have HPB : Hid (Pw (fun _ => True) V8 da dm dc ((midT T t1 u1).drop 1)) := hP
                clear hP hda hdm hdc hbn1
                obtain ⟨a9, c9, V9, hr9, ho9, hg9, _⟩ := addP_own (l := []) (n := 0) (c := 0) (a := none) V8 (World.ownsRow_nil V8 V8.heap.size 63 2) HK8.out.2.2.1 (by omega) (Nat.le_refl _)
                rw [List.nil_append] at ho9
                rw [Nat.zero_add] at hr9 ho9
                have hb9 : Below V8.heap.size V8 V9 := (Below.refl _ V8).grown hg9 (Nat.le_refl _) (fun z hz => by cases hz)
                obtain ⟨a10, c10, V10, hr10, ho10, hg10, _⟩ := addP_own V9 ho9 (HPB.out.below hb9) (by omega) hb9.size
                have hb10 : Below V8.heap.size V8 V10 := hb9.grown hg10 hb9.size (fun z hz => (ho9.lt z (by rw [ob_slice]; exact hz)).1)
                have HSM := same_any (own_pw ho10) (HK8.out.2.1.below hb10)
                rw [decide_eq_true HMJ.out.1] at HSM
                have HKX : Hid (Kp W0 V10 S g D sb jb 8 L KK) := HK8.out.1.below hb10
                clear ho9 hg9 ho10 hg10 hb9 hb10 HK8 HPB
                go_wp2_with ((at_builtin; first | refine wpList_app V8 rfl _ _ _ _ rfl rfl rfl (hr9 _) ?_ | refine wpList_app V9 rfl _ _ _ _ rfl rfl rfl (hr10 _) ?_))
                refine HSM.mono ?_
                rintro e V11 ⟨rfl, hb11⟩
                have HLV := lives_h (HKX.out.below hb11).2
                clear HSM hb11 HKX
                go_wp2_with fail
                refine HLV.mono ?_
                rintro e Z ⟨rfl, hbz⟩
                have HBZ : Hid (Below w.heap.size w Z) := HB0.out.trans (hbz.mono HB0.out.size)
                clear HLV hbz
                go_wp2
                go_ret
                exact ⟨rfl, HBZ.out⟩
          | false =>
            have HON0 : Hid (rangeT T t1 t1 5 = []) := by show _ = _; rw [one_range HRI.out t1, hit]; rfl
            have HMJ0 := fun (h1 : sl t1 s1 = false) (h2 : sl u1 t1 = false) => mid_join HRI.out h1 h2
            rw [hit] at HG1 HMJ0
            have HMJ1 : Hid (sl t1 s1 = false → sl u1 t1 = false → midT T s1 t1 ++ (if false = true then (midT T t1 u1).drop 1 else midT T t1 u1) = midT T s1 u1) := HMJ0
            have HON1 : Hid True := trivial
            clear hit HMJ0
            go_wp2_with fail
            refine HG1.mono ?_
            rintro e V5 ⟨rfl, hk5, hb5⟩
            have HX5 : Hid (Pw (fun _ => True) V5 xa xn xc (midT T s1 u1)) := HXL.out.below hb5
            have HRO := kp_range hk5 HTT.out t1 t1 5
            rw [HON0.out] at HRO
            obtain ⟨d0, d1, d2⟩ := HC.out V5 hk5.2
            clear HG1 hk5 hb5 HXL e0 e1 e2 HON0
            obtain ⟨gv, hgv⟩ : ∃ gv, (getT T t1).getD ByteArray.empty = gv := ⟨_, rfl⟩
            rw [hgv]
            clear hgv
            go_wp2_with fail
            refine HRO.mono ?_
            rintro e V6 ⟨oa, on, oc, rfl, hpo, hon, hk6, hb6⟩
            have HX6 : Hid (Pw (fun _ => True) V6 xa xn xc (midT T s1 u1)) := HX5.out.below hb6
            have HK6 : Hid (Kp W0 V6 S g D sb jb 8 L KK) := hk6
            have hol := hpo.len
            obtain rfl : on = 0 := hol.symm
            obtain ⟨e0, e1, e2⟩ := HC.out V6 hk6.2
            clear HRO hpo hk6 hb6 hol d0 d1 d2 HX5 hon
            go_wp2
            go_quiet (fail)
            rename_i nq
            obtain ⟨V6q, hV6q⟩ : ∃ V6q, V6.drewN nq = V6q := ⟨_, rfl⟩
            have HK6q : Hid (Kp W0 V6q S g D sb jb 8 L KK) := by show Kp _ _ _ _ _ _ _ _ _ _; rw [← hV6q]; exact HK6.out.drewN nq
            have HX6q : Hid (Pw (fun _ => True) V6q xa xn xc (midT T s1 u1)) := by show Pw _ _ _ _ _ _; rw [← hV6q]; exact HX6.out.below (below_drewN (Below.refl _ _) nq)
            clear HK6 HX6 e0 e1 e2
            rw [hV6q]
            clear hV6q
            obtain ⟨e0, e1, e2⟩ := HC.out V6q HK6q.out.2
            cases hs1 : sl t1 s1 with
            | true =>
              have hb1 : Op.bytesLess t1.toList s1.toList = true := hs1
              clear hs1
              have HLV := lives_h HK6q.out.2
              go_wp2_with fail
              refine HLV.mono ?_
              rintro e Z ⟨rfl, hbz⟩
              have HBZ : Hid (Below w.heap.size w Z) := HB0.out.trans (hbz.mono HB0.out.size)
              clear HLV hbz
              go_wp2
              go_ret
              exact ⟨rfl, HBZ.out⟩
            | false =>
              have hb1 : Op.bytesLess t1.toList s1.toList = false := hs1
              have hg1 := gtr_sl t1 u1
              cases hs2 : sl u1 t1 with
              | true =>
                rw [hs2] at hg1
                clear hs1 hs2
                have HLV := lives_h HK6q.out.2
                go_wp2_with fail
                refine HLV.mono ?_
                rintro e Z ⟨rfl, hbz⟩
                have HBZ : Hid (Below w.heap.size w Z) := HB0.out.trans (hbz.mono HB0.out.size)
                clear HLV hbz
                go_wp2
                go_ret
                exact ⟨rfl, HBZ.out⟩
              | false =>
                rw [hs2] at hg1
                have HMJ : Hid (midT T s1 t1 ++ midT T t1 u1 = midT T s1 u1) := HMJ1.out hs1 hs2
                clear hs1 hs2 HMJ1 HON1
                go_wp2
                have HRA : Hid (Calls Tryz.prog 18 #[.pointer (some ⟨sb, 0, none⟩), .string s1, .string t1, .int .i64 100000] V6q.drew fun e w' => ∃ (ra : Option Addr) (rn rc : Nat), e = .returned (.slice ra rn rc) ∧ Pw (fun _ => True) w' ra rn rc (rangeT T s1 t1 100000) ∧ rn ≤ 20000 ∧ Kp W0 w' S g D sb jb 8 L KK ∧ Below V6q.drew.heap.size V6q.drew w') := kp_range HK6q.out.drew HTT.out s1 t1 100000
                clear e0 e1 e2
                refine wp_region_held_drew (S := fun V => V.cell? ⟨bx, 0, none⟩ = some (.string s1) ∧ V.cell? ⟨bx, 1, none⟩ = some (.string t1) ∧ V.cell? ⟨bx, 2, none⟩ = some (.string u1)) (by kernel_rfl) (HC.out _ (HK6q.out.drew).2) (fun hHeld => ?_)
                refine wpAnyH_take (i := 0) (v := ?vc0) rfl (by kernel_rfl) (by kernel_rfl) (by kernel_rfl) (fun _ _ _ h => h) (Or.inl ⟨by first | kernel_rfl | rfl, ?yc0⟩) hHeld ?rc0
                case yc0 => (intro W hSW; (try dsimp only at hSW); go_simp; (try with_reducible rfl))
                change wpAnyH _ _ _ _ _ _ _ (Act.put _ (some 187) _) _
                simp only [Act.put, List.setIfInBounds_toArray, List.set_cons_zero, List.set_cons_succ]
                refine wpAnyH_take (i := 1) (v := ?vc1) rfl (by kernel_rfl) (by kernel_rfl) (by kernel_rfl) (fun _ _ _ h => h) (Or.inl ⟨by first | kernel_rfl | rfl, ?yc1⟩) hHeld ?rc1
                case yc1 => (intro W hSW; (try dsimp only at hSW); go_simp; (try with_reducible rfl))
                change wpAnyH _ _ _ _ _ _ _ (Act.put _ (some 188) _) _
                simp only [Act.put, List.setIfInBounds_toArray, List.set_cons_zero, List.set_cons_succ]
                refine wpAnyH_take (i := 2) (v := ?vc2) rfl (by kernel_rfl) (by kernel_rfl) (by kernel_rfl) (fun _ _ _ h => h) (Or.inl ⟨by first | kernel_rfl | rfl, ?yc2⟩) hHeld ?rc2
                case yc2 => (intro W hSW; (try dsimp only at hSW); go_simp; (try with_reducible rfl))
                change wpAnyH _ _ _ _ _ _ _ (Act.put _ (some 189) _) _
                simp only [Act.put, List.setIfInBounds_toArray, List.set_cons_zero, List.set_cons_succ]
                refine wpAnyH_take (i := 3) (v := ?vc3) rfl (by kernel_rfl) (by kernel_rfl) (by kernel_rfl) (fun _ _ _ h => h) (Or.inl ⟨by first | kernel_rfl | rfl, ?yc3⟩) hHeld ?rc3
                case yc3 => (intro W hSW; (try dsimp only at hSW); go_simp; (try with_reducible rfl))
                change wpAnyH _ _ _ _ _ _ _ (Act.put _ (some 190) _) _
                simp only [Act.put, List.setIfInBounds_toArray, List.set_cons_zero, List.set_cons_succ]
                refine wpAnyH_take (i := 4) (v := ?vc4) rfl (by kernel_rfl) (by kernel_rfl) (by kernel_rfl) (fun _ _ _ h => h) (Or.inl ⟨by first | kernel_rfl | rfl, ?yc4⟩) hHeld ?rc4
                case yc4 => (intro W hSW; (try dsimp only at hSW); go_simp; (try with_reducible rfl))
                change wpAnyH _ _ _ _ _ _ _ (Act.put _ (some 191) _) _
                simp only [Act.put, List.setIfInBounds_toArray, List.set_cons_zero, List.set_cons_succ]
                refine wpAnyH_take (i := 6) (v := ?vc6) rfl (by kernel_rfl) (by kernel_rfl) (by kernel_rfl) (fun _ _ _ h => h) (Or.inl ⟨by first | kernel_rfl | rfl, ?yc6⟩) hHeld ?rc6
                case yc6 => (intro W hSW; (try dsimp only at hSW); go_simp; (try with_reducible rfl))
                change wpAnyH _ _ _ _ _ _ _ (Act.put _ (some 193) _) _
                simp only [Act.put, List.setIfInBounds_toArray, List.set_cons_zero, List.set_cons_succ]
                refine wpAnyH_take (i := 7) (v := ?vc7) rfl (by kernel_rfl) (by kernel_rfl) (by kernel_rfl) (fun _ _ _ h => h) (Or.inl ⟨by first | kernel_rfl | rfl, ?yc7⟩) hHeld ?rc7
                case yc7 => (intro W hSW; (try dsimp only at hSW); go_simp; (try with_reducible rfl))
                change wpAnyH _ _ _ _ _ _ _ (Act.put _ (some 194) _) _
                simp only [Act.put, List.setIfInBounds_toArray, List.set_cons_zero, List.set_cons_succ]
                refine wpAnyH_take (i := 8) (v := ?vc8) rfl (by kernel_rfl) (by kernel_rfl) (by kernel_rfl) (fun _ _ _ h => h) (Or.inl ⟨by first | kernel_rfl | rfl, ?yc8⟩) hHeld ?rc8
                case yc8 => (intro W hSW; (try dsimp only at hSW); go_simp; (try with_reducible rfl))
                change wpAnyH _ _ _ _ _ _ _ (Act.put _ (some 195) _) _
                simp only [Act.put, List.setIfInBounds_toArray, List.set_cons_zero, List.set_cons_succ]
                refine wpAnyH_take (i := 9) (v := ?vc9) rfl (by kernel_rfl) (by kernel_rfl) (by kernel_rfl) (fun _ _ _ h => h) (Or.inl ⟨by first | kernel_rfl | rfl, ?yc9⟩) hHeld ?rc9
                case yc9 => (intro W hSW; (try dsimp only at hSW); go_simp; (try with_reducible rfl))
                change wpAnyH _ _ _ _ _ _ _ (Act.put _ (some 196) _) _
                simp only [Act.put, List.setIfInBounds_toArray, List.set_cons_zero, List.set_cons_succ]
                refine wpAnyH_take (i := 10) (v := ?vc10) rfl (by kernel_rfl) (by kernel_rfl) (by kernel_rfl) (fun _ _ _ h => h) (Or.inl ⟨by first | kernel_rfl | rfl, ?yc10⟩) hHeld ?rc10
                case yc10 => (intro W hSW; (try dsimp only at hSW); go_simp; (try with_reducible rfl))
                change wpAnyH _ _ _ _ _ _ _ (Act.put _ (some 197) _) _
                simp only [Act.put, List.setIfInBounds_toArray, List.set_cons_zero, List.set_cons_succ]
                refine wpAnyH_ready (rs := [5]) (by kernel_rfl) (by simp) ?_
                refine AllReadyH.cons rfl (fun K hK => ?_) AllReadyH.nil
                go_simp
                refine (HRA.out).mono ?_
                rintro e V7 ⟨aa, an, ac, rfl, hpa, han, hk7, hb7⟩; have HPA : Hid (Pw (fun _ => True) V7 aa an ac (midT T s1 t1)) := HFU.out _ _ ▸ hpa; have HK7 : Hid (Kp W0 V7 S g D sb jb 8 L KK ∧ Pw (fun _ => True) V7 xa xn xc (midT T s1 u1)) := ⟨hk7, (HX6q.out.below (Below.refl _ _).drew).below hb7⟩; clear hpa hk7 hb7
                refine hK.out _ _ (HC.out _ HK7.out.1.2) (fun hHeld => ?_)
                clear hK K
                try simp only [Act.put, List.setIfInBounds_toArray, List.set_cons_zero, List.set_cons_succ]
                refine wpAnyH_ready (rs := [11]) (by kernel_rfl) (by simp) ?_
                refine AllReadyH.cons rfl (fun K hK => ?_) AllReadyH.nil
                go_simp
                refine (kp_range HK7.out.1 HTT.out t1 u1 100000).mono ?_
                rintro e V8 ⟨ba, bn, bc, rfl, hpb, hbn, hk8, hb8⟩; have HK8 : Hid (Kp W0 V8 S g D sb jb 8 L KK ∧ Pw (fun _ => True) V8 xa xn xc (midT T s1 u1) ∧ Pw (fun _ => True) V8 aa an ac (midT T s1 t1) ∧ Pw (fun _ => True) V8 ba bn bc (midT T t1 u1)) := ⟨hk8, HK7.out.2.below hb8, HPA.out.below hb8, HFU.out _ _ ▸ hpb⟩; clear hpb hk8 hb8 HK7 HPA
                refine hK.out _ _ (HC.out _ HK8.out.1.2) (fun hHeld => ?_)
                clear hK K
                try simp only [Act.put, List.setIfInBounds_toArray, List.set_cons_zero, List.set_cons_succ]
                refine wpAnyH_take (i := 12) (v := ?vc12) rfl (by kernel_rfl) (by kernel_rfl) (by kernel_rfl) (fun _ _ _ h => h) (Or.inl ⟨by first | kernel_rfl | rfl, ?yc12⟩) hHeld ?rc12
                case yc12 => (intro W hSW; (try dsimp only at hSW); go_simp; (try with_reducible rfl))
                change wpAnyH _ _ _ _ _ _ _ (Act.put _ (some 19) _) _
                simp only [Act.put, List.setIfInBounds_toArray, List.set_cons_zero, List.set_cons_succ]
                refine wpAnyH_take (i := 13) (v := ?vc13) rfl (by kernel_rfl) (by kernel_rfl) (by kernel_rfl) (fun _ _ _ h => h) (Or.inl ⟨by first | kernel_rfl | rfl, ?yc13⟩) hHeld ?rc13
                case yc13 => (intro W hSW; (try dsimp only at hSW); go_simp; (try with_reducible rfl))
                change wpAnyH _ _ _ _ _ _ _ (Act.put _ (some 20) _) _
                simp only [Act.put, List.setIfInBounds_toArray, List.set_cons_zero, List.set_cons_succ]
                refine wpAnyH_done (by kernel_rfl) ?_ _
                have HPB : Hid (Pw (fun _ => True) V8 ba bn bc (midT T t1 u1)) := HK8.out.2.2.2
                obtain ⟨a9, c9, V9, hr9, ho9, hg9, _⟩ := addP_own (l := []) (n := 0) (c := 0) (a := none) V8 (World.ownsRow_nil V8 V8.heap.size 63 2) HK8.out.2.2.1 (by omega) (Nat.le_refl _)
                rw [List.nil_append] at ho9
                rw [Nat.zero_add] at hr9 ho9
                have hb9 : Below V8.heap.size V8 V9 := (Below.refl _ V8).grown hg9 (Nat.le_refl _) (fun z hz => by cases hz)
                obtain ⟨a10, c10, V10, hr10, ho10, hg10, _⟩ := addP_own V9 ho9 (HPB.out.below hb9) (by omega) hb9.size
                have hb10 : Below V8.heap.size V8 V10 := hb9.grown hg10 hb9.size (fun z hz => (ho9.lt z (by rw [ob_slice]; exact hz)).1)
                have HSM := same_any (own_pw ho10) (HK8.out.2.1.below hb10)
                rw [decide_eq_true HMJ.out] at HSM
                have HKX : Hid (Kp W0 V10 S g D sb jb 8 L KK) := HK8.out.1.below hb10
                clear ho9 hg9 ho10 hg10 hb9 hb10 HK8 HPB
                go_wp2_with ((at_builtin; first | refine wpList_app V8 rfl _ _ _ _ rfl rfl rfl (hr9 _) ?_ | refine wpList_app V9 rfl _ _ _ _ rfl rfl rfl (hr10 _) ?_))
                refine HSM.mono ?_
                rintro e V11 ⟨rfl, hb11⟩
                have HLV := lives_h (HKX.out.below hb11).2
                clear HSM hb11 HKX
                go_wp2_with fail
                refine HLV.mono ?_
                rintro e Z ⟨rfl, hbz⟩
                have HBZ : Hid (Below w.heap.size w Z) := HB0.out.trans (hbz.mono HB0.out.size)
                clear HLV hbz
                go_wp2
                go_ret
                exact ⟨rfl, HBZ.out⟩
    · have hz1 : (2000 : Int) < (s1.size : Int) + (t1.size : Int) + (u1.size : Int) := by omega
      go_wp2_with fail
      refine HLV.mono ?_
      rintro e Z ⟨rfl, hbz⟩
      have HBZ : Hid (Below w.heap.size w Z) := HB0.out.trans (hbz.mono HB0.out.size)
      clear HLV hbz
      go_wp2
      go_ret
      exact ⟨rfl, HBZ.out⟩

set_option linter.unusedVariables false in
set_option maxRecDepth 100000 in
theorem lifted (os : _root_.Go.Os) (started : os.Started) (H : Type) (enc : TypeId × Value → H) :
    ReturnsInHanded {} Tryz.checked os 5 .any (fun w args => (Rows.shelfRangesSpec.pre enc Tryz.prog Tryz.f5 Rows.shelfRangesRow.domain false w args ∧ laidMetH Tryz.prog Rows.shelfRangesRow.laid w) ∧ sizedMet enc Tryz.prog Tryz.f5 (OpenSpec.ofChange Rows.shelfRangesSpec) false w args) (Rows.shelfRangesSpec.post enc Tryz.prog Tryz.f5 false true false false) := by
  refine returnsInHanded_of_change_and (C := Tryz.checked) (X := fun w _ => laidMetH Tryz.prog Rows.shelfRangesRow.laid w) (fun _ _ _ hh h => h.of_heap hh) own started (by kernel_rfl) Tryz.func5
    (ChangeSpec.witness_shaped (enc := enc) (C := Tryz.checked) (os := os) (X := fun w _ => laidMetH Tryz.prog Rows.shelfRangesRow.laid w) false (World.laidAll Tryz.prog os Rows.shelfRangesRow.laid) #[.slice none 0 0, .agg #[.string ByteArray.empty, .string ByteArray.empty, .string ByteArray.empty], .int .i64 0] 8 (World.laidAll_os _ _ _)
      (World.shaped_of_ZipB (by kernel_rfl) (by kernel_rfl)) (by kernel_rfl) (by kernel_rfl) (by kernel_rfl)
      (by rw [MakeChecks.laidMetH_plain _ _ _ (by kernel_rfl)]; exact laidMet_laidAll _ (by kernel_rfl) (by kernel_rfl))) ?_
  intro W base args ds gs before hval0 hW _ hsz0 hL _
  have hval : ∀ (j : Nat) t v, Tryz.f5.params[j]? = some t → args[j]? = some v → Value.okWide Tryz.prog W .any base t v := hval0
  have hsz : (DataW.weightsEach Tryz.prog (Tryz.f5.params.toList ++ Rows.shelfRangesSpec.plain.varTypes Tryz.prog) (ds ++ gs)).all (· ≤ reachBytes) = true := hsz0
  have hW' := hW
  obtain ⟨p, q, hA0, hV, rfl, hfz, hnd⟩ := hW
  have hA : DataW.TrodAll enc Tryz.prog W 0 (fun _ => true) true Tryz.f5.params.toList args.toList ds p := hA0
  rw [Tryz.params5] at hA hval hsz
  obtain ⟨v0, vs0, d0, ds0, p0, q0, hargs, rfl, rfl, h0, r0⟩ := trodAll_cons hA
  obtain ⟨v1, vs1, d1, ds1, p1, q1, rfl, rfl, rfl, h1, r1⟩ := trodAll_cons r0
  obtain ⟨v2, vs2, d2, ds2, p2, q2, rfl, rfl, rfl, h2, r2⟩ := trodAll_cons r1
  obtain ⟨rfl, rfl, rfl⟩ := trodAll_nil r2
  obtain rfl : args = #[v0, v1, v2] := by cases args; simp_all
  obtain ⟨rfl, rfl⟩ := trodVars_none hV
  have k0 := h0
  have lt0 : ∀ x ∈ p0, x.block < W.heap.size := by obtain ⟨m, hm⟩ := k0; exact DataW.trod_lt m _ _ _ hm
  obtain ⟨a0, len0, cap0, rfl⟩ := okWide_slice Tryz.underlying22 (hval 0 22 v0 rfl rfl)
  obtain ⟨l0, w0, y0⟩ : ∃ l, Os W a0 len0 cap0 l ∧ len0 ≤ 140737488351232 := by
    obtain ⟨fuel, hf⟩ := h0
    exact ops_in (j := 0) (by simpa [Value.cells] using hf) hsz rfl rfl
  have k1 := h1
  have lt1 : ∀ x ∈ p1, x.block < W.heap.size := by obtain ⟨m, hm⟩ := k1; exact DataW.trod_lt m _ _ _ hm
  obtain ⟨s1, t1, u1, rfl, zs1, zt1, zu1⟩ := strs3_of (j := 1) (hval 1 61 v1 rfl rfl) h1 hsz rfl rfl
  obtain ⟨x2, rfl, rfl, rfl, w2⟩ := open_int Tryz.underlying3 (hval 2 3 v2 rfl rfl) h2
  clear hA0 hval0 hsz hsz0
  refine (walk a0 len0 cap0 l0 y0 s1 t1 u1 zs1 zt1 zu1 x2 (wf_i64 w2) W w0).mono fun e W' ⟨he, bel⟩ => ?_
  subst he
  exact ⟨_, rfl, _, _, _, [], _, [], hW', trodAll_mk1 (shut_bool Tryz.underlying4 _), (trodAll_cons_mk (Below.trod laidOut (by kernel_rfl) (of_decide_eq_true (by kernel_rfl)) k0 bel lt0) (trodAll_cons_mk (Below.trod laidOut (by kernel_rfl) (of_decide_eq_true (by kernel_rfl)) k1 bel lt1) (trodAll_cons_mk (shut_int Tryz.underlying3 w2) trodAll_mk0))), rfl, bel.frame _, fun h => by cases h⟩

theorem over : Rows.shelfRangesRow.holds Tryz.pinned (OpenSpec.ofChange Rows.shelfRangesSpec) :=
  OpenClaim.holds_of_wide 5 Tryz.f5 rfl rfl rfl rfl rfl rfl rfl ⟨rfl, rfl, rfl, rfl, rfl⟩ rfl rfl rfl rfl rfl (by kernel_rfl) Tryz.func5 (by kernel_rfl)
    (of_decide_eq_true (by kernel_rfl)) (by unfold Func.isWrapper; first | (rw [if_pos (by decide +kernel)]; kernel_rfl) | (rw [if_neg (by decide +kernel)]; exact ⟨rfl, rfl⟩))
    (fun os started H enc _ => lifted os started H enc)

end Go.Proofs.YtnafalkcgghjgaaGreatDoor.shelfRanges
namespace Go.Proofs.YtnafalkcgghjgaaGreatDoor
/-- The given statement. -/
theorem shelfRanges_holds : Rows.ShelfRangesCardSaid :=
  Claim7.holds_tied_plain_at .later [] [.data, .pinned] true (true, "6fd85e21264fb8f5d6a7739dc9528525e97b2eb9f19e70d35414b6e16557796b") false
    shelfRanges.over (fun _ h => by cases h) (by kernel_rfl) (fun _ h => by cases h) shelfRanges_row_tie rfl ⟨rfl, rfl⟩ (by kernel_rfl) rfl
    (fun f fn hf hfn => by
      obtain rfl : f = 5 := Option.some.inj ((show Tryz.prog.funcNamed "strongroom/strongroomlaw08.ShelfRanges" = some 5 by kernel_rfl).symm.trans hf) |>.symm
      obtain rfl : fn = Tryz.f5 := (Option.some.inj (Tryz.func5.symm.trans hfn)).symm
      exact ⟨by kernel_rfl, fun j t ht => by
        rw [Tryz.params5] at ht
        rcases j with _ | _ | _ | j
        · obtain rfl : t = 22 := by simpa using ht.symm
          exact (show Tryz.prog.wantsStandIn 22 = false by kernel_rfl)
        · obtain rfl : t = 61 := by simpa using ht.symm
          exact (show Tryz.prog.wantsStandIn 61 = false by kernel_rfl)
        · obtain rfl : t = 3 := by simpa using ht.symm
          exact (show Tryz.prog.wantsStandIn 3 = false by kernel_rfl)
        · simp at ht
      ⟩)
    (by kernel_rfl)
#print axioms shelfRanges_holds
end Go.Proofs.YtnafalkcgghjgaaGreatDoor
