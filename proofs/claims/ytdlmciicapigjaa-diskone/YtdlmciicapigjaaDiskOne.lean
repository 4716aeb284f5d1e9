/- Proved: for every number of sectors, steps and picks, the law DiskOne returns true, the three as they were. No condition: every input that can be read as data. -/
import Derived.Test.YtdlmciicapigjaaRows
import Derived.Test.YtdlmciicapigjaaRO
import Derived.WalkKit
import Derived.ProofKit
import Derived.OpenShut
import Derived.ShutString
import Derived.ChangeOld
import Derived.Below
namespace Go.Proofs.Ytdlmciicapigjaa.diskOne
open Go.ChangeShapes Go.WideShapes Go.ChangeAt Go.RowKit
theorem own : ownKnob Try.prog.godebug = none := by kernel_rfl
theorem laidOut : laidOutB Try.prog = true := by kernel_rfl

set_option maxRecDepth 100000 in
set_option maxHeartbeats 40000000 in
theorem walk (x0 : Int) (_z0 : -9223372036854775808 ≤ x0 ∧ x0 ≤ 9223372036854775807) (a1 : Option Addr) (len1 cap1 : Nat) (l1 : List OpV) (a2 : Option Addr) (len2 cap2 : Nat) (l2 : List Bool) (w : World) (w1 : Os w a1 len1 cap1 l1) (w2 : Bls w a2 len2 cap2 l2) :
    Calls Try.prog 6 #[.int .i64 x0, .slice a1 len1 cap1, .slice a2 len2 cap2] w fun e w' => e = .returned (.bool true) ∧ Below w.heap.size w w' := by
  have HLV : Hid (∀ W, Below w.heap.size w W → Calls Try.prog 20 #[] W fun e w' => e = .returned (.bool true) ∧ Below w.heap.size w w') := fun W hW => lives_h hW
  have HOS : Hid (Os w a1 len1 cap1 l1) := w1
  have HBL : Hid (Bls w a2 len2 cap2 l2) := w2
  clear w1 w2
  by_cases hx : x0 < 1 ∨ 40 < x0
  · have HMD := made_none x0 a1 len1 cap1 w w (Below.refl _ _) hx
    clear hx
    go_enter Try.func6, Try.ntmps6
    go_wp2_with fail
    refine HMD.mono ?_
    rintro e w3 ⟨rfl, hb3⟩
    have HB3 : Hid (Below w.heap.size w w3) := hb3
    clear hb3 HMD
    go_wp2_with fail
    refine (HLV.out _ HB3.out).mono ?_
    rintro e w99 ⟨rfl, hb99⟩
    go_wp2
    go_ret
    exact ⟨rfl, hb99⟩
  · obtain ⟨s, rfl⟩ := Int.eq_ofNat_of_zero_le (show 0 ≤ x0 by omega)
    have hs1 : 1 ≤ s := by omega
    have hs2 : s ≤ 40 := by omega
    have HMD := made_any s a1 len1 cap1 l1 w HOS.out w (Below.refl _ _) hs1 hs2
    have hll1 : l1.length = len1 := HOS.out.1
    have hok := MadeOk.all s l1 (min len1 60) (by omega)
    obtain ⟨D0, hD0⟩ : ∃ D, madeD s l1 (min len1 60) = D := ⟨_, rfl⟩
    rw [hD0] at HMD hok
    have HOK : Hid (MadeOk D0 s l1 (min len1 60)) := hok
    have hk0 : D0.kept.length = s := hok.n
    clear hx hok hD0
    go_enter Try.func6, Try.ntmps6
    go_wp2_with fail
    refine HMD.mono ?_
    rintro e w3 ⟨g, rfl, hh3⟩
    obtain ⟨hB3, S, hd3, hS3⟩ := hh3
    have HB3 : Hid (Below w.heap.size w w3) := hB3
    have HD3 : Hid (DiskIs w3 S g D0) := hd3
    have HS3 : Hid (∀ x, S x → w.heap.size ≤ x) := hS3
    clear hB3 hd3 hS3 HMD
    by_cases hlen : 300 < len2
    · have k300 : (300 : Int) < (len2 : Int) := by omega
      go_wp2_with fail
      refine (HLV.out _ HB3.out).mono ?_
      rintro e w99 ⟨rfl, hb99⟩
      go_wp2
      go_ret
      exact ⟨rfl, hb99⟩
    · have k300 : ¬ (300 : Int) < (len2 : Int) := by omega
      have HCL1 := clone_any HD3.out
      go_wp2_with fail
      refine (HCL1).mono ?_
      rintro e w4 ⟨c, rfl, hc4, hb4⟩
      have hd4 := HD3.out.below hb4
      have HCL2 := clone_any hd4
      clear HCL1
      go_wp2_with fail
      refine (HCL2).mono ?_
      rintro e w5 ⟨a, rfl, ha5, hb5⟩
      have HW35 : Hid (w3.heap.size ≤ w5.heap.size) := Nat.le_trans hb4.size hb5.size
      have hap1 := apart_fresh (w4 := w4) HD3.out.bd
      have hap2 := apart_fresh (w4 := w5) hd4.bd
      have hap3 := apart_fresh (w4 := w5) hc4.bd
      have hB5 : Below w.heap.size w w5 := (HB3.out.trans (hb4.mono HB3.out.size)).trans (hb5.mono (Nat.le_trans HB3.out.size hb4.size))
      have hT1 : ∀ x, fresh w3 w4 x → w.heap.size ≤ x := fun x hx => Nat.le_trans HB3.out.size hx.1
      have hU1 : ∀ x, fresh w4 w5 x → w.heap.size ≤ x ∧ x < w5.heap.size := fun x hx => ⟨Nat.le_trans (Nat.le_trans HB3.out.size hb4.size) hx.1, hx.2⟩
      obtain ⟨T, hTe⟩ : ∃ T, fresh w3 w4 = T := ⟨_, rfl⟩
      obtain ⟨U, hUe⟩ : ∃ U, fresh w4 w5 = U := ⟨_, rfl⟩
      rw [hTe] at hc4 hap1 hap3 hT1
      rw [hUe] at ha5 hap2 hap3 hU1
      have HT5 : Hid (Three w5 S T U g c a D0 D0 D0) := ⟨hd4.below hb5, hc4.below hb5, ha5, fun x hs ht => hap1 x ht hs, fun x hs hu => hap2 x hu hs, fun x ht hu => hap3 x hu ht⟩
      clear HCL2 hd4 hc4 ha5 hb4 hb5 hap1 hap2 hap3 hTe hUe
      have HF1 := fail_any HT5.out.c none 0 0 [] (Bls.nil w5) (by intro x hx; cases hx)
      go_wp2_with fail
      refine (HF1).mono ?_
      rintro e w6 ⟨rfl, hc6, hu6⟩
      have HT6 : Hid (Three w6 S T U g c a D0 (D0.failed (pickOf [])) D0) := HT5.out.onC hc6 hu6
      have hB6 : Below w.heap.size w w6 := hB5.trans (hu6.below hB5.size hT1)
      have h56 : w5.heap.size ≤ w6.heap.size := hu6.size
      have HA1 := all_any' HT6.out.d HOK.out.up
      rw [hk0] at HA1
      clear HF1 hc6 hu6 hB5
      go_wp2_with fail
      refine (HA1).mono ?_
      rintro e w7 ⟨lb, lcp, rfl, hlb, hol7, hb7⟩
      have hT7 := HT6.out.below hb7
      have hB7 : Below w.heap.size w w7 := hB6.trans (hb7.mono hB6.size)
      have hll7 : lb < w7.heap.size := (hol7.lt lb rfl).2
      have HWA := waits_any hT7.d
      obtain ⟨N, hN⟩ : ∃ N, D0.waits.length = N := ⟨_, rfl⟩
      have hN60 : N ≤ 60 := by have := HOK.out.wl; have := HOK.out.wr; omega
      rw [hN] at HWA
      clear HA1 HT6
      go_wp2_with fail
      refine (HWA).mono ?_
      rintro e V1 ⟨rfl, hV⟩
      subst V1
      have hmk := make_bls w7 N (by omega)
      have HT7 : Hid (Three w7 S T U g c a D0 (D0.failed (pickOf [])) D0) := hT7
      have HB7 : Hid (Below w.heap.size w w7) := hB7
      have HO7 : Hid (w7.ownsRow 0 9 1 (.slice (some ⟨lb, 0, none⟩) s lcp) s (strsV D0.seen)) := hol7
      obtain ⟨fb, hfb⟩ : ∃ fb, w7.heap.size = fb := ⟨_, rfl⟩
      obtain ⟨W8, hW8⟩ : ∃ W, w7.alloc (.cells (blsV (List.replicate N false)) 4) = W := ⟨_, rfl⟩
      rw [hW8, hfb] at hmk
      have HI8 : Hid (Below fb w7 W8 ∧ W8.heap[fb]? = some (.cells (blsV (fullL 0 N)) 4 (0, 0))) := by
        rw [← hW8, ← hfb, fullL_0]
        exact ⟨(Below.refl _ w7).alloc (Nat.le_refl _) _, heap_alloc_new w7 _⟩
      have hf6 : w6.heap.size ≤ fb := by rw [← hfb]; exact hb7.size
      clear HWA hT7 hB7 hol7 hb7 hB6
      go_wp2
      go_loopw [12] (fun v wr => ∃ k : Nat, k ≤ N ∧ v = .int .i64 k ∧ Below fb w7 wr ∧ wr.heap[fb]? = some (.cells (blsV (fullL k N)) 4 (0, 0))) (fun v _ => N - (intOf v).toNat)
      case atStart => exact ⟨0, by omega, rfl, HI8.out⟩
      case round =>
        clear HI8 hmk hW8
        obtain ⟨k, hk, rfl, hbw, hrw⟩ := hrel
        by_cases hkn : k < N
        · have kk : (k : Int) < (N : Int) := by omega
          have ck : wr.cell? ⟨fb, k, none⟩ = some (.bool ((fullL k N).getD k false)) := by rw [cell_of_row _ fb _ _ _ _ hrw]; exact blsV_get _ k (by rw [fullL_len k N hk]; exact hkn)
          have fk := frozen_of_row wr fb k _ _ hrw
          have HN : Hid (Below fb w7 (wr.setCell ⟨fb, k, none⟩ (.bool true)) ∧ (wr.setCell ⟨fb, k, none⟩ (.bool true)).heap[fb]? = some (.cells (blsV (fullL (k + 1) N)) 4 (0, 0))) := by
            refine ⟨hbw.setCell (Nat.le_refl _) _, ?_⟩
            rw [heap_setCell_same wr fb k _ _ _ hrw, blsV_set, fullL_set k N hkn]
          clear hbw hrw
          go_wp2
          exact ⟨⟨k + 1, by omega, by go_num, HN.out⟩, by simp [intOf]; omega⟩
        · obtain rfl : k = N := by omega
          have kk : ¬ (k : Int) < (k : Int) := by omega
          rw [fullL_n] at hrw
          have hb9 : Below w7.heap.size w7 wr := by rw [hfb]; exact hbw
          have HT9 : Hid (Three wr S T U g c a D0 (D0.failed (pickOf [])) D0) := HT7.out.below hb9
          have HB9 : Hid (Below w.heap.size w wr) := HB7.out.trans (hb9.mono HB7.out.size)
          have HO9 : Hid (wr.ownsRow 0 9 1 (.slice (some ⟨lb, 0, none⟩) s lcp) s (strsV D0.seen)) := own_keep HO7.out (fun x hx => by rw [ob_slice] at hx; cases hx; exact hb9.block lb hll7)
          have hbls := bls_row (n := k) hrw (by simp) (by omega)
          have HFA := fail_any HT9.out.a (some ⟨fb, 0, none⟩) k k (List.replicate k true) hbls (fun x hx hs => by cases hx; have := (hU1 _ hs).2; simp at this; omega)
          have hll9 : lb < wr.heap.size := (HO9.out.lt lb rfl).2
          have hlbS : ∀ x, (S x ∨ T x ∨ U x) → x ≠ lb := by
            rintro x (h | h | h) rfl
            · have := HD3.out.bd _ h
              have : w3.heap.size ≤ w5.heap.size := HW35.out
              omega
            · have := HT5.out.c.bd _ h
              omega
            · have := (hU1 _ h).2
              omega
          clear HT7 HB7 HO7 hb9 hbw hrw hbls
          go_wp2_with fail
          refine HFA.mono ?_
          rintro e w10 ⟨rfl, ha10, hu10⟩
          have HT10 := HT9.out.onA ha10 hu10
          have hB10 : Below w.heap.size w w10 := HB9.out.trans (hu10.below HB9.out.size (fun x hx => (hU1 x hx).1))
          have hO10 := own_keep (W' := w10) HO9.out (fun x hx => by rw [ob_slice] at hx; cases hx; exact hu10.block lb hll9 (fun h => hlbS lb (.inr (.inr h)) rfl))
          have HFD := fail_picks HT10.d a2 len2 cap2 l2 HBL.out hB10 HS3.out
          have h910 := hu10.size
          clear HFA ha10 hu10 HT9 HO9
          go_wp2_with fail
          refine HFD.mono ?_
          rintro e w11 ⟨rfl, hd11, hu11⟩
          have HT11 := HT10.onD hd11 hu11
          have hB11 : Below w.heap.size w w11 := hB10.trans (hu11.below hB10.size HS3.out)
          have hO11 := own_keep (W' := w11) hO10 (fun x hx => by rw [ob_slice] at hx; cases hx; exact hu11.block lb (by omega) (fun h => hlbS lb (.inl h) rfl))
          have HSC := start_any HT11.c rfl rfl
          have h1011 := hu11.size
          clear HFD hd11 hu11 HT10 hO10 hB10
          go_wp2_with fail
          refine HSC.mono ?_
          rintro e w12 ⟨rfl, hc12, hu12⟩
          have HT12 := HT11.onC hc12 hu12
          have hB12 : Below w.heap.size w w12 := hB11.trans (hu12.below hB11.size hT1)
          have hO12 := own_keep (W' := w12) hO11 (fun x hx => by rw [ob_slice] at hx; cases hx; exact hu12.block lb (by omega) (fun h => hlbS lb (.inr (.inl h)) rfl))
          have HSD := start_any HT12.d rfl rfl
          have h1112 := hu12.size
          clear HSC hc12 hu12 HT11 hO11 hB11
          go_wp2_with fail
          refine HSD.mono ?_
          rintro e w13 ⟨rfl, hd13, hu13⟩
          have HT13 := HT12.onD hd13 hu13
          have hB13 : Below w.heap.size w w13 := hB12.trans (hu13.below hB12.size HS3.out)
          have hO13 := own_keep (W' := w13) hO12 (fun x hx => by rw [ob_slice] at hx; cases hx; exact hu13.block lb (by omega) (fun h => hlbS lb (.inl h) rfl))
          have HSA := start_any HT13.a rfl rfl
          have h1213 := hu13.size
          clear HSD hd13 hu13 HT12 hO12 hB12
          go_wp2_with fail
          refine HSA.mono ?_
          rintro e w14 ⟨rfl, ha14, hu14⟩
          have HT14 := HT13.onA ha14 hu14
          have hB14 : Below w.heap.size w w14 := hB13.trans (hu14.below hB13.size (fun x hx => (hU1 x hx).1))
          have hO14 := own_keep (W' := w14) hO13 (fun x hx => by rw [ob_slice] at hx; cases hx; exact hu14.block lb (by omega) (fun h => hlbS lb (.inr (.inr h)) rfl))
          have HAC := all_any' HT14.c rfl
          rw [fail_size, hk0, none_seen] at HAC
          have h1314 := hu14.size
          clear HSA ha14 hu14 HT13 hO13 hB13
          go_wp2_with fail
          refine HAC.mono ?_
          rintro e w15 ⟨kb, kcp, rfl, hkb, hok15, hb15⟩
          have HT15 := HT14.below hb15
          have hB15 : Below w.heap.size w w15 := hB14.trans (hb15.mono hB14.size)
          have hO15 := own_keep (W' := w15) hO14 (fun x hx => by rw [ob_slice] at hx; cases hx; exact hb15.block lb (by omega))
          have HAD := all_any' HT15.d rfl
          rw [fail_size, hk0] at HAD
          have hkl15 : kb < w15.heap.size := (hok15.lt kb rfl).2
          have hll15 : lb < w15.heap.size := (hO15.lt lb rfl).2
          clear HAC HT14 hO14 hB14 hb15
          go_wp2_with fail
          refine HAD.mono ?_
          rintro e w16 ⟨nb, ncp, rfl, hnb, hon16, hb16⟩
          have HT16 := HT15.below hb16
          have hB16 : Below w.heap.size w w16 := hB15.trans (hb16.mono hB15.size)
          have hO16 := own_keep (W' := w16) hO15 (fun x hx => by rw [ob_slice] at hx; cases hx; exact hb16.block lb hll15)
          have hok16 := own_keep (W' := w16) hok15 (fun x hx => by rw [ob_slice] at hx; cases hx; exact hb16.block kb hkl15)
          have HAA := all_any' HT16.a rfl
          rw [fail_size, hk0, all_seen D0 k hN] at HAA
          have hkl16 : kb < w16.heap.size := (hok16.lt kb rfl).2
          have hll16 : lb < w16.heap.size := (hO16.lt lb rfl).2
          have hnl16 : nb < w16.heap.size := (hon16.lt nb rfl).2
          clear HAD HT15 hO15 hB15 hb16 hok15
          go_wp2_with fail
          refine HAA.mono ?_
          rintro e w17 ⟨mb, mcp, rfl, hmb, hom17, hb17⟩
          have hB17 : Below w.heap.size w w17 := hB16.trans (hb17.mono hB16.size)
          have hO17 := own_keep (W' := w17) hO16 (fun x hx => by rw [ob_slice] at hx; cases hx; exact hb17.block lb hll16)
          have hok17 := own_keep (W' := w17) hok16 (fun x hx => by rw [ob_slice] at hx; cases hx; exact hb17.block kb hkl16)
          have hon17 := own_keep (W' := w17) hon16 (fun x hx => by rw [ob_slice] at hx; cases hx; exact hb17.block nb hnl16)
          have HRW0 : Hid (∀ V, Below w17.heap.size w17 V → ∀ i, i < s → V.cell? ⟨nb, i, none⟩ = some (.string (((D0.failed (pickOf l2)).started).seen.getD i ByteArray.empty)) ∧ V.cell? ⟨kb, i, none⟩ = some (.string (D0.kept.getD i ByteArray.empty)) ∧ V.cell? ⟨lb, i, none⟩ = some (.string (D0.seen.getD i ByteArray.empty)) ∧ V.cell? ⟨mb, i, none⟩ = some (.string (D0.seen.getD i ByteArray.empty))) := by
            intro V hV i hi
            refine ⟨?_, ?_, ?_, ?_⟩
            · rw [hV.cell (hon17.lt nb rfl).2]; exact own_str hon17 i hi
            · rw [hV.cell (hok17.lt kb rfl).2]; exact own_str hok17 i hi
            · rw [hV.cell (hO17.lt lb rfl).2]; exact own_str hO17 i hi
            · rw [hV.cell (hom17.lt mb rfl).2]; exact own_str hom17 i hi
          have HB17 : Hid (Below w.heap.size w w17) := hB17
          clear HAA HT16 hO16 hB16 hb17 hok16 hon16 hom17 hO17 hok17 hon17 hB17 hlbS hU1 hT1 HB9 HT5
          go_wp2
          go_loopw [16] (fun v wr => ∃ i : Nat, i ≤ s ∧ v = .int .i64 i ∧ Below w17.heap.size w17 wr) (fun v _ => s - (intOf v).toNat)
          case atStart => exact ⟨0, by omega, rfl, Below.refl _ _⟩
          case round =>
            obtain ⟨i, hi, rfl, hbel⟩ := hrel
            have HB : Hid (Below w17.heap.size w17 wr) := hbel
            clear hbel
            by_cases his : i < s
            · have ki : (i : Int) < (s : Int) := by omega
              have hfrom := made_from HOK.out (pickOf l2) i
              obtain ⟨tn, htn⟩ : ∃ t, ((D0.failed (pickOf l2)).started).seen.getD i ByteArray.empty = t := ⟨_, rfl⟩
              obtain ⟨tk, htk⟩ : ∃ t, D0.kept.getD i ByteArray.empty = t := ⟨_, rfl⟩
              obtain ⟨tl, htl⟩ : ∃ t, D0.seen.getD i ByteArray.empty = t := ⟨_, rfl⟩
              have HRW : Hid (∀ V, Below w17.heap.size w17 V → V.cell? ⟨nb, i, none⟩ = some (.string tn) ∧ V.cell? ⟨kb, i, none⟩ = some (.string tk) ∧ V.cell? ⟨lb, i, none⟩ = some (.string tl) ∧ V.cell? ⟨mb, i, none⟩ = some (.string tl)) := fun V hV => by
                have := HRW0.out V hV i his
                rw [htn, htk, htl] at this
                exact this
              rw [htn, htk] at hfrom
              have HFR : Hid (tn = tk ∨ ∃ j, ∃ hj : j < l1.length, j < min len1 60 ∧ meets l1[j] i tn) := hfrom
              clear hfrom htn htk htl
              by_cases h1 : tn = tk
              · subst h1
                go_wp2
                refine wp_region_held_drew (S := fun V => V.cell? ⟨nb, i, none⟩ = some (.string tn) ∧ V.cell? ⟨kb, i, none⟩ = some (.string tn) ∧ V.cell? ⟨lb, i, none⟩ = some (.string tl) ∧ V.cell? ⟨mb, i, none⟩ = some (.string tl)) (by kernel_rfl) (HRW.out _ HB.out.drew) (fun hHeld => ?_)
                refine wpAnyH_take (i := 0) (v := ?vzA0) rfl (by kernel_rfl) (by kernel_rfl) (by kernel_rfl) (fun _ _ _ h => h) (Or.inl ⟨by first | kernel_rfl | rfl, ?yzA0⟩) hHeld ?rzA0
                case yzA0 => (intro W hSW; (try dsimp only at hSW); go_simp; (try with_reducible rfl))
                change wpAnyH _ _ _ _ _ _ _ (Act.put _ (some 87) _) _
                simp only [Act.put, List.setIfInBounds_toArray, List.set_cons_zero, List.set_cons_succ]
                refine wpAnyH_take (i := 1) (v := ?vzA1) rfl (by kernel_rfl) (by kernel_rfl) (by kernel_rfl) (fun _ _ _ h => h) (Or.inl ⟨by first | kernel_rfl | rfl, ?yzA1⟩) hHeld ?rzA1
                case yzA1 => (intro W hSW; (try dsimp only at hSW); go_simp; (try with_reducible rfl))
                change wpAnyH _ _ _ _ _ _ _ (Act.put _ (some 88) _) _
                simp only [Act.put, List.setIfInBounds_toArray, List.set_cons_zero, List.set_cons_succ]
                refine wpAnyH_take (i := 2) (v := ?vzA2) rfl (by kernel_rfl) (by kernel_rfl) (by kernel_rfl) (fun _ _ _ h => h) (Or.inl ⟨by first | kernel_rfl | rfl, ?yzA2⟩) hHeld ?rzA2
                case yzA2 => (intro W hSW; (try dsimp only at hSW); go_simp; (try with_reducible rfl))
                change wpAnyH _ _ _ _ _ _ _ (Act.put _ (some 89) _) _
                simp only [Act.put, List.setIfInBounds_toArray, List.set_cons_zero, List.set_cons_succ]
                refine wpAnyH_take (i := 3) (v := ?vzA3) rfl (by kernel_rfl) (by kernel_rfl) (by kernel_rfl) (fun _ _ _ h => h) (Or.inl ⟨by first | kernel_rfl | rfl, ?yzA3⟩) hHeld ?rzA3
                case yzA3 => (intro W hSW; (try dsimp only at hSW); go_simp; (try with_reducible rfl))
                change wpAnyH _ _ _ _ _ _ _ (Act.put _ (some 90) _) _
                simp only [Act.put, List.setIfInBounds_toArray, List.set_cons_zero, List.set_cons_succ]
                refine wpAnyH_take (i := 4) (v := ?vzA4) rfl (by kernel_rfl) (by kernel_rfl) (by kernel_rfl) (fun _ _ _ h => h) (Or.inl ⟨by first | kernel_rfl | rfl, ?yzA4⟩) hHeld ?rzA4
                case yzA4 => (intro W hSW; (try dsimp only at hSW); go_simp; (try with_reducible rfl))
                change wpAnyH _ _ _ _ _ _ _ (Act.put _ (some 91) _) _
                simp only [Act.put, List.setIfInBounds_toArray, List.set_cons_zero, List.set_cons_succ]
                refine wpAnyH_take (i := 5) (v := ?vzA5) rfl (by kernel_rfl) (by kernel_rfl) (by kernel_rfl) (fun _ _ _ h => h) (Or.inl ⟨by first | kernel_rfl | rfl, ?yzA5⟩) hHeld ?rzA5
                case yzA5 => (intro W hSW; (try dsimp only at hSW); go_simp; (try with_reducible rfl))
                change wpAnyH _ _ _ _ _ _ _ (Act.put _ (some 92) _) _
                simp only [Act.put, List.setIfInBounds_toArray, List.set_cons_zero, List.set_cons_succ]
                refine wpAnyH_take (i := 6) (v := ?vzA6) rfl (by kernel_rfl) (by kernel_rfl) (by kernel_rfl) (fun _ _ _ h => h) (Or.inl ⟨by first | kernel_rfl | rfl, ?yzA6⟩) hHeld ?rzA6
                case yzA6 => (intro W hSW; (try dsimp only at hSW); go_simp; (try with_reducible rfl))
                change wpAnyH _ _ _ _ _ _ _ (Act.put _ (some 93) _) _
                simp only [Act.put, List.setIfInBounds_toArray, List.set_cons_zero, List.set_cons_succ]
                refine wpAnyH_take (i := 7) (v := ?vzA7) rfl (by kernel_rfl) (by kernel_rfl) (by kernel_rfl) (fun _ _ _ h => h) (Or.inl ⟨by first | kernel_rfl | rfl, ?yzA7⟩) hHeld ?rzA7
                case yzA7 => (intro W hSW; (try dsimp only at hSW); go_simp; (try with_reducible rfl))
                change wpAnyH _ _ _ _ _ _ _ (Act.put _ (some 94) _) _
                simp only [Act.put, List.setIfInBounds_toArray, List.set_cons_zero, List.set_cons_succ]
                refine wpAnyH_take (i := 8) (v := ?vzA8) rfl (by kernel_rfl) (by kernel_rfl) (by kernel_rfl) (fun _ _ _ h => h) (Or.inl ⟨by first | kernel_rfl | rfl, ?yzA8⟩) hHeld ?rzA8
                case yzA8 => (intro W hSW; (try dsimp only at hSW); go_simp; (try with_reducible rfl))
                change wpAnyH _ _ _ _ _ _ _ (Act.put _ (some 95) _) _
                simp only [Act.put, List.setIfInBounds_toArray, List.set_cons_zero, List.set_cons_succ]
                refine wpAnyH_take (i := 9) (v := ?vzA9) rfl (by kernel_rfl) (by kernel_rfl) (by kernel_rfl) (fun _ _ _ h => h) (Or.inl ⟨by first | kernel_rfl | rfl, ?yzA9⟩) hHeld ?rzA9
                case yzA9 => (intro W hSW; (try dsimp only at hSW); go_simp; (try with_reducible rfl))
                change wpAnyH _ _ _ _ _ _ _ (Act.put _ (some 96) _) _
                simp only [Act.put, List.setIfInBounds_toArray, List.set_cons_zero, List.set_cons_succ]
                refine wpAnyH_take (i := 10) (v := undef) rfl (by kernel_rfl) (by kernel_rfl) (by kernel_rfl) (fun _ _ _ h => h) (Or.inr ⟨by first | kernel_rfl | rfl, rfl⟩) hHeld ?_
                change wpAnyH _ _ _ _ _ _ _ (Act.put _ (some 97) _) _
                simp only [Act.put, List.setIfInBounds_toArray, List.set_cons_zero, List.set_cons_succ]
                refine wpAnyH_take (i := 11) (v := undef) rfl (by kernel_rfl) (by kernel_rfl) (by kernel_rfl) (fun _ _ _ h => h) (Or.inr ⟨by first | kernel_rfl | rfl, rfl⟩) hHeld ?_
                change wpAnyH _ _ _ _ _ _ _ (Act.put _ (some 98) _) _
                simp only [Act.put, List.setIfInBounds_toArray, List.set_cons_zero, List.set_cons_succ]
                refine wpAnyH_take (i := 12) (v := undef) rfl (by kernel_rfl) (by kernel_rfl) (by kernel_rfl) (fun _ _ _ h => h) (Or.inr ⟨by first | kernel_rfl | rfl, rfl⟩) hHeld ?_
                change wpAnyH _ _ _ _ _ _ _ (Act.put _ (some 99) _) _
                simp only [Act.put, List.setIfInBounds_toArray, List.set_cons_zero, List.set_cons_succ]
                refine wpAnyH_take (i := 13) (v := undef) rfl (by kernel_rfl) (by kernel_rfl) (by kernel_rfl) (fun _ _ _ h => h) (Or.inr ⟨by first | kernel_rfl | rfl, rfl⟩) hHeld ?_
                change wpAnyH _ _ _ _ _ _ _ (Act.put _ (some 100) _) _
                simp only [Act.put, List.setIfInBounds_toArray, List.set_cons_zero, List.set_cons_succ]
                refine wpAnyH_take (i := 14) (v := undef) rfl (by kernel_rfl) (by kernel_rfl) (by kernel_rfl) (fun _ _ _ h => h) (Or.inr ⟨by first | kernel_rfl | rfl, rfl⟩) hHeld ?_
                change wpAnyH _ _ _ _ _ _ _ (Act.put _ (some 101) _) _
                simp only [Act.put, List.setIfInBounds_toArray, List.set_cons_zero, List.set_cons_succ]
                refine wpAnyH_take (i := 15) (v := undef) rfl (by kernel_rfl) (by kernel_rfl) (by kernel_rfl) (fun _ _ _ h => h) (Or.inr ⟨by first | kernel_rfl | rfl, rfl⟩) hHeld ?_
                change wpAnyH _ _ _ _ _ _ _ (Act.put _ (some 102) _) _
                simp only [Act.put, List.setIfInBounds_toArray, List.set_cons_zero, List.set_cons_succ]
                refine wpAnyH_take (i := 16) (v := undef) rfl (by kernel_rfl) (by kernel_rfl) (by kernel_rfl) (fun _ _ _ h => h) (Or.inr ⟨by first | kernel_rfl | rfl, rfl⟩) hHeld ?_
                change wpAnyH _ _ _ _ _ _ _ (Act.put _ (some 103) _) _
                simp only [Act.put, List.setIfInBounds_toArray, List.set_cons_zero, List.set_cons_succ]
                refine wpAnyH_take (i := 17) (v := undef) rfl (by kernel_rfl) (by kernel_rfl) (by kernel_rfl) (fun _ _ _ h => h) (Or.inr ⟨by first | kernel_rfl | rfl, rfl⟩) hHeld ?_
                change wpAnyH _ _ _ _ _ _ _ (Act.put _ (some 104) _) _
                simp only [Act.put, List.setIfInBounds_toArray, List.set_cons_zero, List.set_cons_succ]
                refine wpAnyH_take (i := 18) (v := undef) rfl (by kernel_rfl) (by kernel_rfl) (by kernel_rfl) (fun _ _ _ h => h) (Or.inr ⟨by first | kernel_rfl | rfl, rfl⟩) hHeld ?_
                change wpAnyH _ _ _ _ _ _ _ (Act.put _ (some 105) _) _
                simp only [Act.put, List.setIfInBounds_toArray, List.set_cons_zero, List.set_cons_succ]
                refine wpAnyH_take (i := 19) (v := ?vzA19) rfl (by kernel_rfl) (by kernel_rfl) (by kernel_rfl) (fun _ _ _ h => h) (Or.inl ⟨by first | kernel_rfl | rfl, ?yzA19⟩) hHeld ?rzA19
                case yzA19 => (intro W hSW; (try dsimp only at hSW); go_simp; (try with_reducible rfl))
                change wpAnyH _ _ _ _ _ _ _ (Act.put _ (some 106) _) _
                simp only [Act.put, List.setIfInBounds_toArray, List.set_cons_zero, List.set_cons_succ]
                refine wpAnyH_take (i := 20) (v := ?vzA20) rfl (by kernel_rfl) (by kernel_rfl) (by kernel_rfl) (fun _ _ _ h => h) (Or.inl ⟨by first | kernel_rfl | rfl, ?yzA20⟩) hHeld ?rzA20
                case yzA20 => (intro W hSW; (try dsimp only at hSW); go_simp; (try with_reducible rfl))
                change wpAnyH _ _ _ _ _ _ _ (Act.put _ (some 17) _) _
                simp only [Act.put, List.setIfInBounds_toArray, List.set_cons_zero, List.set_cons_succ]
                refine wpAnyH_done (by kernel_rfl) ?_ _
                clear hHeld HFR
                go_wp2
                go_loopw [17, 18] (fun bv v wr => ∃ (k : Nat) (ok : Bool), k ≤ len1 ∧ k ≤ 60 ∧ bv = .bool ok ∧ v = .int .i64 k ∧ Below w17.heap.size w17 wr ∧ (ok = true ∨ ∃ j, ∃ hj : j < l1.length, k ≤ j ∧ j < min len1 60 ∧ meets l1[j] i tn)) (fun _ v _ => 61 - (intOf v).toNat)
                case atStart => exact ⟨0, true, by omega, by omega, rfl, rfl, HB.out.drew, .inl rfl⟩
                case round =>
                  clear HB
                  obtain ⟨k, ok, hk1, hk2, rfl, rfl, hbel, hex⟩ := hrel
                  have HB : Hid (Below w17.heap.size w17 wr) := hbel
                  clear hbel
                  cases ok with
                  | true =>
                    clear hex
                    by_cases g1 : k < len1
                    · have kg1 : (k : Int) < (len1 : Int) := by omega
                      by_cases g2 : k < 60
                      · have kg2 : (k : Int) < 60 := by omega
                        go_wp2
                        refine wp_region_held_drew (S := fun V => V.cell? ⟨nb, i, none⟩ = some (.string tn) ∧ V.cell? ⟨kb, i, none⟩ = some (.string tn) ∧ V.cell? ⟨lb, i, none⟩ = some (.string tl) ∧ V.cell? ⟨mb, i, none⟩ = some (.string tl)) (by kernel_rfl) (HRW.out _ HB.out.drew) (fun hHeld => ?_)
                        refine wpAnyH_take (i := 0) (v := ?vi1FIN00) rfl (by kernel_rfl) (by kernel_rfl) (by kernel_rfl) (fun _ _ _ h => h) (Or.inl ⟨by first | kernel_rfl | rfl, ?yi1FIN00⟩) hHeld ?ri1FIN00
                        case yi1FIN00 => (intro W hSW; (try dsimp only at hSW); go_simp; (try with_reducible rfl))
                        change wpAnyH _ _ _ _ _ _ _ (Act.put _ (some 148) _) _
                        simp only [Act.put, List.setIfInBounds_toArray, List.set_cons_zero, List.set_cons_succ]
                        refine wpAnyH_take (i := 1) (v := ?vi1FIN01) rfl (by kernel_rfl) (by kernel_rfl) (by kernel_rfl) (fun _ _ _ h => h) (Or.inl ⟨by first | kernel_rfl | rfl, ?yi1FIN01⟩) hHeld ?ri1FIN01
                        case yi1FIN01 => (intro W hSW; (try dsimp only at hSW); go_simp; (try with_reducible rfl))
                        change wpAnyH _ _ _ _ _ _ _ (Act.put _ (some 149) _) _
                        simp only [Act.put, List.setIfInBounds_toArray, List.set_cons_zero, List.set_cons_succ]
                        refine wpAnyH_take (i := 2) (v := ?vi1FIN02) rfl (by kernel_rfl) (by kernel_rfl) (by kernel_rfl) (fun _ _ _ h => h) (Or.inl ⟨by first | kernel_rfl | rfl, ?yi1FIN02⟩) hHeld ?ri1FIN02
                        case yi1FIN02 => (intro W hSW; (try dsimp only at hSW); go_simp; (try with_reducible rfl))
                        change wpAnyH _ _ _ _ _ _ _ (Act.put _ (some 150) _) _
                        simp only [Act.put, List.setIfInBounds_toArray, List.set_cons_zero, List.set_cons_succ]
                        refine wpAnyH_take (i := 3) (v := ?vi1FIN03) rfl (by kernel_rfl) (by kernel_rfl) (by kernel_rfl) (fun _ _ _ h => h) (Or.inl ⟨by first | kernel_rfl | rfl, ?yi1FIN03⟩) hHeld ?ri1FIN03
                        case yi1FIN03 => (intro W hSW; (try dsimp only at hSW); go_simp; (try with_reducible rfl))
                        change wpAnyH _ _ _ _ _ _ _ (Act.put _ (some 151) _) _
                        simp only [Act.put, List.setIfInBounds_toArray, List.set_cons_zero, List.set_cons_succ]
                        refine wpAnyH_take (i := 4) (v := ?vi1FIN04) rfl (by kernel_rfl) (by kernel_rfl) (by kernel_rfl) (fun _ _ _ h => h) (Or.inl ⟨by first | kernel_rfl | rfl, ?yi1FIN04⟩) hHeld ?ri1FIN04
                        case yi1FIN04 => (intro W hSW; (try dsimp only at hSW); go_simp; (try with_reducible rfl))
                        change wpAnyH _ _ _ _ _ _ _ (Act.put _ (some 152) _) _
                        simp only [Act.put, List.setIfInBounds_toArray, List.set_cons_zero, List.set_cons_succ]
                        refine wpAnyH_take (i := 5) (v := ?vi1FIN05) rfl (by kernel_rfl) (by kernel_rfl) (by kernel_rfl) (fun _ _ _ h => h) (Or.inl ⟨by first | kernel_rfl | rfl, ?yi1FIN05⟩) hHeld ?ri1FIN05
                        case yi1FIN05 => (intro W hSW; (try dsimp only at hSW); go_simp; (try with_reducible rfl))
                        change wpAnyH _ _ _ _ _ _ _ (Act.put _ (some 153) _) _
                        simp only [Act.put, List.setIfInBounds_toArray, List.set_cons_zero, List.set_cons_succ]
                        refine wpAnyH_take (i := 6) (v := ?vi1FIN06) rfl (by kernel_rfl) (by kernel_rfl) (by kernel_rfl) (fun _ _ _ h => h) (Or.inl ⟨by first | kernel_rfl | rfl, ?yi1FIN06⟩) hHeld ?ri1FIN06
                        case yi1FIN06 => (intro W hSW; (try dsimp only at hSW); go_simp; (try with_reducible rfl))
                        change wpAnyH _ _ _ _ _ _ _ (Act.put _ (some 154) _) _
                        simp only [Act.put, List.setIfInBounds_toArray, List.set_cons_zero, List.set_cons_succ]
                        refine wpAnyH_take (i := 7) (v := ?vi1FIN07) rfl (by kernel_rfl) (by kernel_rfl) (by kernel_rfl) (fun _ _ _ h => h) (Or.inl ⟨by first | kernel_rfl | rfl, ?yi1FIN07⟩) hHeld ?ri1FIN07
                        case yi1FIN07 => (intro W hSW; (try dsimp only at hSW); go_simp; (try with_reducible rfl))
                        change wpAnyH _ _ _ _ _ _ _ (Act.put _ (some 155) _) _
                        simp only [Act.put, List.setIfInBounds_toArray, List.set_cons_zero, List.set_cons_succ]
                        refine wpAnyH_take (i := 8) (v := ?vi1FIN08) rfl (by kernel_rfl) (by kernel_rfl) (by kernel_rfl) (fun _ _ _ h => h) (Or.inl ⟨by first | kernel_rfl | rfl, ?yi1FIN08⟩) hHeld ?ri1FIN08
                        case yi1FIN08 => (intro W hSW; (try dsimp only at hSW); go_simp; (try with_reducible rfl))
                        change wpAnyH _ _ _ _ _ _ _ (Act.put _ (some 156) _) _
                        simp only [Act.put, List.setIfInBounds_toArray, List.set_cons_zero, List.set_cons_succ]
                        refine wpAnyH_take (i := 9) (v := ?vi1FIN09) rfl (by kernel_rfl) (by kernel_rfl) (by kernel_rfl) (fun _ _ _ h => h) (Or.inl ⟨by first | kernel_rfl | rfl, ?yi1FIN09⟩) hHeld ?ri1FIN09
                        case yi1FIN09 => (intro W hSW; (try dsimp only at hSW); go_simp; (try with_reducible rfl))
                        change wpAnyH _ _ _ _ _ _ _ (Act.put _ (some 157) _) _
                        simp only [Act.put, List.setIfInBounds_toArray, List.set_cons_zero, List.set_cons_succ]
                        refine wpAnyH_take (i := 10) (v := ?vi1FIN010) rfl (by kernel_rfl) (by kernel_rfl) (by kernel_rfl) (fun _ _ _ h => h) (Or.inl ⟨by first | kernel_rfl | rfl, ?yi1FIN010⟩) hHeld ?ri1FIN010
                        case yi1FIN010 => (intro W hSW; (try dsimp only at hSW); go_simp; (try with_reducible rfl))
                        change wpAnyH _ _ _ _ _ _ _ (Act.put _ (some 158) _) _
                        simp only [Act.put, List.setIfInBounds_toArray, List.set_cons_zero, List.set_cons_succ]
                        refine wpAnyH_take (i := 11) (v := ?vi1FIN011) rfl (by kernel_rfl) (by kernel_rfl) (by kernel_rfl) (fun _ _ _ h => h) (Or.inl ⟨by first | kernel_rfl | rfl, ?yi1FIN011⟩) hHeld ?ri1FIN011
                        case yi1FIN011 => (intro W hSW; (try dsimp only at hSW); go_simp; (try with_reducible rfl))
                        change wpAnyH _ _ _ _ _ _ _ (Act.put _ (some 159) _) _
                        simp only [Act.put, List.setIfInBounds_toArray, List.set_cons_zero, List.set_cons_succ]
                        refine wpAnyH_take (i := 12) (v := ?vi1FIN012) rfl (by kernel_rfl) (by kernel_rfl) (by kernel_rfl) (fun _ _ _ h => h) (Or.inl ⟨by first | kernel_rfl | rfl, ?yi1FIN012⟩) hHeld ?ri1FIN012
                        case yi1FIN012 => (intro W hSW; (try dsimp only at hSW); go_simp; (try with_reducible rfl))
                        change wpAnyH _ _ _ _ _ _ _ (Act.put _ (some 160) _) _
                        simp only [Act.put, List.setIfInBounds_toArray, List.set_cons_zero, List.set_cons_succ]
                        refine wpAnyH_done (by kernel_rfl) ?_ _
                        clear hHeld
                        go_wp2
                        exact ⟨⟨i + 1, by omega, by go_num, HB.out.drew⟩, by simp [intOf]; omega⟩
                      · have kg2 : ¬ (k : Int) < 60 := by omega
                        go_wp2
                        refine wp_region_held_drew (S := fun V => V.cell? ⟨nb, i, none⟩ = some (.string tn) ∧ V.cell? ⟨kb, i, none⟩ = some (.string tn) ∧ V.cell? ⟨lb, i, none⟩ = some (.string tl) ∧ V.cell? ⟨mb, i, none⟩ = some (.string tl)) (by kernel_rfl) (HRW.out _ HB.out.drew) (fun hHeld => ?_)
                        refine wpAnyH_take (i := 0) (v := ?vi1FIN10) rfl (by kernel_rfl) (by kernel_rfl) (by kernel_rfl) (fun _ _ _ h => h) (Or.inl ⟨by first | kernel_rfl | rfl, ?yi1FIN10⟩) hHeld ?ri1FIN10
                        case yi1FIN10 => (intro W hSW; (try dsimp only at hSW); go_simp; (try with_reducible rfl))
                        change wpAnyH _ _ _ _ _ _ _ (Act.put _ (some 148) _) _
                        simp only [Act.put, List.setIfInBounds_toArray, List.set_cons_zero, List.set_cons_succ]
                        refine wpAnyH_take (i := 1) (v := ?vi1FIN11) rfl (by kernel_rfl) (by kernel_rfl) (by kernel_rfl) (fun _ _ _ h => h) (Or.inl ⟨by first | kernel_rfl | rfl, ?yi1FIN11⟩) hHeld ?ri1FIN11
                        case yi1FIN11 => (intro W hSW; (try dsimp only at hSW); go_simp; (try with_reducible rfl))
                        change wpAnyH _ _ _ _ _ _ _ (Act.put _ (some 149) _) _
                        simp only [Act.put, List.setIfInBounds_toArray, List.set_cons_zero, List.set_cons_succ]
                        refine wpAnyH_take (i := 2) (v := ?vi1FIN12) rfl (by kernel_rfl) (by kernel_rfl) (by kernel_rfl) (fun _ _ _ h => h) (Or.inl ⟨by first | kernel_rfl | rfl, ?yi1FIN12⟩) hHeld ?ri1FIN12
                        case yi1FIN12 => (intro W hSW; (try dsimp only at hSW); go_simp; (try with_reducible rfl))
                        change wpAnyH _ _ _ _ _ _ _ (Act.put _ (some 150) _) _
                        simp only [Act.put, List.setIfInBounds_toArray, List.set_cons_zero, List.set_cons_succ]
                        refine wpAnyH_take (i := 3) (v := ?vi1FIN13) rfl (by kernel_rfl) (by kernel_rfl) (by kernel_rfl) (fun _ _ _ h => h) (Or.inl ⟨by first | kernel_rfl | rfl, ?yi1FIN13⟩) hHeld ?ri1FIN13
                        case yi1FIN13 => (intro W hSW; (try dsimp only at hSW); go_simp; (try with_reducible rfl))
                        change wpAnyH _ _ _ _ _ _ _ (Act.put _ (some 151) _) _
                        simp only [Act.put, List.setIfInBounds_toArray, List.set_cons_zero, List.set_cons_succ]
                        refine wpAnyH_take (i := 4) (v := ?vi1FIN14) rfl (by kernel_rfl) (by kernel_rfl) (by kernel_rfl) (fun _ _ _ h => h) (Or.inl ⟨by first | kernel_rfl | rfl, ?yi1FIN14⟩) hHeld ?ri1FIN14
                        case yi1FIN14 => (intro W hSW; (try dsimp only at hSW); go_simp; (try with_reducible rfl))
                        change wpAnyH _ _ _ _ _ _ _ (Act.put _ (some 152) _) _
                        simp only [Act.put, List.setIfInBounds_toArray, List.set_cons_zero, List.set_cons_succ]
                        refine wpAnyH_take (i := 5) (v := ?vi1FIN15) rfl (by kernel_rfl) (by kernel_rfl) (by kernel_rfl) (fun _ _ _ h => h) (Or.inl ⟨by first | kernel_rfl | rfl, ?yi1FIN15⟩) hHeld ?ri1FIN15
                        case yi1FIN15 => (intro W hSW; (try dsimp only at hSW); go_simp; (try with_reducible rfl))
                        change wpAnyH _ _ _ _ _ _ _ (Act.put _ (some 153) _) _
                        simp only [Act.put, List.setIfInBounds_toArray, List.set_cons_zero, List.set_cons_succ]
                        refine wpAnyH_take (i := 6) (v := ?vi1FIN16) rfl (by kernel_rfl) (by kernel_rfl) (by kernel_rfl) (fun _ _ _ h => h) (Or.inl ⟨by first | kernel_rfl | rfl, ?yi1FIN16⟩) hHeld ?ri1FIN16
                        case yi1FIN16 => (intro W hSW; (try dsimp only at hSW); go_simp; (try with_reducible rfl))
                        change wpAnyH _ _ _ _ _ _ _ (Act.put _ (some 154) _) _
                        simp only [Act.put, List.setIfInBounds_toArray, List.set_cons_zero, List.set_cons_succ]
                        refine wpAnyH_take (i := 7) (v := ?vi1FIN17) rfl (by kernel_rfl) (by kernel_rfl) (by kernel_rfl) (fun _ _ _ h => h) (Or.inl ⟨by first | kernel_rfl | rfl, ?yi1FIN17⟩) hHeld ?ri1FIN17
                        case yi1FIN17 => (intro W hSW; (try dsimp only at hSW); go_simp; (try with_reducible rfl))
                        change wpAnyH _ _ _ _ _ _ _ (Act.put _ (some 155) _) _
                        simp only [Act.put, List.setIfInBounds_toArray, List.set_cons_zero, List.set_cons_succ]
                        refine wpAnyH_take (i := 8) (v := ?vi1FIN18) rfl (by kernel_rfl) (by kernel_rfl) (by kernel_rfl) (fun _ _ _ h => h) (Or.inl ⟨by first | kernel_rfl | rfl, ?yi1FIN18⟩) hHeld ?ri1FIN18
                        case yi1FIN18 => (intro W hSW; (try dsimp only at hSW); go_simp; (try with_reducible rfl))
                        change wpAnyH _ _ _ _ _ _ _ (Act.put _ (some 156) _) _
                        simp only [Act.put, List.setIfInBounds_toArray, List.set_cons_zero, List.set_cons_succ]
                        refine wpAnyH_take (i := 9) (v := ?vi1FIN19) rfl (by kernel_rfl) (by kernel_rfl) (by kernel_rfl) (fun _ _ _ h => h) (Or.inl ⟨by first | kernel_rfl | rfl, ?yi1FIN19⟩) hHeld ?ri1FIN19
                        case yi1FIN19 => (intro W hSW; (try dsimp only at hSW); go_simp; (try with_reducible rfl))
                        change wpAnyH _ _ _ _ _ _ _ (Act.put _ (some 157) _) _
                        simp only [Act.put, List.setIfInBounds_toArray, List.set_cons_zero, List.set_cons_succ]
                        refine wpAnyH_take (i := 10) (v := ?vi1FIN110) rfl (by kernel_rfl) (by kernel_rfl) (by kernel_rfl) (fun _ _ _ h => h) (Or.inl ⟨by first | kernel_rfl | rfl, ?yi1FIN110⟩) hHeld ?ri1FIN110
                        case yi1FIN110 => (intro W hSW; (try dsimp only at hSW); go_simp; (try with_reducible rfl))
                        change wpAnyH _ _ _ _ _ _ _ (Act.put _ (some 158) _) _
                        simp only [Act.put, List.setIfInBounds_toArray, List.set_cons_zero, List.set_cons_succ]
                        refine wpAnyH_take (i := 11) (v := ?vi1FIN111) rfl (by kernel_rfl) (by kernel_rfl) (by kernel_rfl) (fun _ _ _ h => h) (Or.inl ⟨by first | kernel_rfl | rfl, ?yi1FIN111⟩) hHeld ?ri1FIN111
                        case yi1FIN111 => (intro W hSW; (try dsimp only at hSW); go_simp; (try with_reducible rfl))
                        change wpAnyH _ _ _ _ _ _ _ (Act.put _ (some 159) _) _
                        simp only [Act.put, List.setIfInBounds_toArray, List.set_cons_zero, List.set_cons_succ]
                        refine wpAnyH_take (i := 12) (v := ?vi1FIN112) rfl (by kernel_rfl) (by kernel_rfl) (by kernel_rfl) (fun _ _ _ h => h) (Or.inl ⟨by first | kernel_rfl | rfl, ?yi1FIN112⟩) hHeld ?ri1FIN112
                        case yi1FIN112 => (intro W hSW; (try dsimp only at hSW); go_simp; (try with_reducible rfl))
                        change wpAnyH _ _ _ _ _ _ _ (Act.put _ (some 160) _) _
                        simp only [Act.put, List.setIfInBounds_toArray, List.set_cons_zero, List.set_cons_succ]
                        refine wpAnyH_done (by kernel_rfl) ?_ _
                        clear hHeld
                        go_wp2
                        exact ⟨⟨i + 1, by omega, by go_num, HB.out.drew⟩, by simp [intOf]; omega⟩
                    · have kg1 : ¬ (k : Int) < (len1 : Int) := by omega
                      go_wp2
                      refine wp_region_held_drew (S := fun V => V.cell? ⟨nb, i, none⟩ = some (.string tn) ∧ V.cell? ⟨kb, i, none⟩ = some (.string tn) ∧ V.cell? ⟨lb, i, none⟩ = some (.string tl) ∧ V.cell? ⟨mb, i, none⟩ = some (.string tl)) (by kernel_rfl) (HRW.out _ HB.out.drew) (fun hHeld => ?_)
                      refine wpAnyH_take (i := 0) (v := ?vi1FIN20) rfl (by kernel_rfl) (by kernel_rfl) (by kernel_rfl) (fun _ _ _ h => h) (Or.inl ⟨by first | kernel_rfl | rfl, ?yi1FIN20⟩) hHeld ?ri1FIN20
                      case yi1FIN20 => (intro W hSW; (try dsimp only at hSW); go_simp; (try with_reducible rfl))
                      change wpAnyH _ _ _ _ _ _ _ (Act.put _ (some 148) _) _
                      simp only [Act.put, List.setIfInBounds_toArray, List.set_cons_zero, List.set_cons_succ]
                      refine wpAnyH_take (i := 1) (v := ?vi1FIN21) rfl (by kernel_rfl) (by kernel_rfl) (by kernel_rfl) (fun _ _ _ h => h) (Or.inl ⟨by first | kernel_rfl | rfl, ?yi1FIN21⟩) hHeld ?ri1FIN21
                      case yi1FIN21 => (intro W hSW; (try dsimp only at hSW); go_simp; (try with_reducible rfl))
                      change wpAnyH _ _ _ _ _ _ _ (Act.put _ (some 149) _) _
                      simp only [Act.put, List.setIfInBounds_toArray, List.set_cons_zero, List.set_cons_succ]
                      refine wpAnyH_take (i := 2) (v := ?vi1FIN22) rfl (by kernel_rfl) (by kernel_rfl) (by kernel_rfl) (fun _ _ _ h => h) (Or.inl ⟨by first | kernel_rfl | rfl, ?yi1FIN22⟩) hHeld ?ri1FIN22
                      case yi1FIN22 => (intro W hSW; (try dsimp only at hSW); go_simp; (try with_reducible rfl))
                      change wpAnyH _ _ _ _ _ _ _ (Act.put _ (some 150) _) _
                      simp only [Act.put, List.setIfInBounds_toArray, List.set_cons_zero, List.set_cons_succ]
                      refine wpAnyH_take (i := 3) (v := ?vi1FIN23) rfl (by kernel_rfl) (by kernel_rfl) (by kernel_rfl) (fun _ _ _ h => h) (Or.inl ⟨by first | kernel_rfl | rfl, ?yi1FIN23⟩) hHeld ?ri1FIN23
                      case yi1FIN23 => (intro W hSW; (try dsimp only at hSW); go_simp; (try with_reducible rfl))
                      change wpAnyH _ _ _ _ _ _ _ (Act.put _ (some 151) _) _
                      simp only [Act.put, List.setIfInBounds_toArray, List.set_cons_zero, List.set_cons_succ]
                      refine wpAnyH_take (i := 4) (v := ?vi1FIN24) rfl (by kernel_rfl) (by kernel_rfl) (by kernel_rfl) (fun _ _ _ h => h) (Or.inl ⟨by first | kernel_rfl | rfl, ?yi1FIN24⟩) hHeld ?ri1FIN24
                      case yi1FIN24 => (intro W hSW; (try dsimp only at hSW); go_simp; (try with_reducible rfl))
                      change wpAnyH _ _ _ _ _ _ _ (Act.put _ (some 152) _) _
                      simp only [Act.put, List.setIfInBounds_toArray, List.set_cons_zero, List.set_cons_succ]
                      refine wpAnyH_take (i := 5) (v := ?vi1FIN25) rfl (by kernel_rfl) (by kernel_rfl) (by kernel_rfl) (fun _ _ _ h => h) (Or.inl ⟨by first | kernel_rfl | rfl, ?yi1FIN25⟩) hHeld ?ri1FIN25
                      case yi1FIN25 => (intro W hSW; (try dsimp only at hSW); go_simp; (try with_reducible rfl))
                      change wpAnyH _ _ _ _ _ _ _ (Act.put _ (some 153) _) _
                      simp only [Act.put, List.setIfInBounds_toArray, List.set_cons_zero, List.set_cons_succ]
                      refine wpAnyH_take (i := 6) (v := ?vi1FIN26) rfl (by kernel_rfl) (by kernel_rfl) (by kernel_rfl) (fun _ _ _ h => h) (Or.inl ⟨by first | kernel_rfl | rfl, ?yi1FIN26⟩) hHeld ?ri1FIN26
                      case yi1FIN26 => (intro W hSW; (try dsimp only at hSW); go_simp; (try with_reducible rfl))
                      change wpAnyH _ _ _ _ _ _ _ (Act.put _ (some 154) _) _
                      simp only [Act.put, List.setIfInBounds_toArray, List.set_cons_zero, List.set_cons_succ]
                      refine wpAnyH_take (i := 7) (v := ?vi1FIN27) rfl (by kernel_rfl) (by kernel_rfl) (by kernel_rfl) (fun _ _ _ h => h) (Or.inl ⟨by first | kernel_rfl | rfl, ?yi1FIN27⟩) hHeld ?ri1FIN27
                      case yi1FIN27 => (intro W hSW; (try dsimp only at hSW); go_simp; (try with_reducible rfl))
                      change wpAnyH _ _ _ _ _ _ _ (Act.put _ (some 155) _) _
                      simp only [Act.put, List.setIfInBounds_toArray, List.set_cons_zero, List.set_cons_succ]
                      refine wpAnyH_take (i := 8) (v := ?vi1FIN28) rfl (by kernel_rfl) (by kernel_rfl) (by kernel_rfl) (fun _ _ _ h => h) (Or.inl ⟨by first | kernel_rfl | rfl, ?yi1FIN28⟩) hHeld ?ri1FIN28
                      case yi1FIN28 => (intro W hSW; (try dsimp only at hSW); go_simp; (try with_reducible rfl))
                      change wpAnyH _ _ _ _ _ _ _ (Act.put _ (some 156) _) _
                      simp only [Act.put, List.setIfInBounds_toArray, List.set_cons_zero, List.set_cons_succ]
                      refine wpAnyH_take (i := 9) (v := ?vi1FIN29) rfl (by kernel_rfl) (by kernel_rfl) (by kernel_rfl) (fun _ _ _ h => h) (Or.inl ⟨by first | kernel_rfl | rfl, ?yi1FIN29⟩) hHeld ?ri1FIN29
                      case yi1FIN29 => (intro W hSW; (try dsimp only at hSW); go_simp; (try with_reducible rfl))
                      change wpAnyH _ _ _ _ _ _ _ (Act.put _ (some 157) _) _
                      simp only [Act.put, List.setIfInBounds_toArray, List.set_cons_zero, List.set_cons_succ]
                      refine wpAnyH_take (i := 10) (v := ?vi1FIN210) rfl (by kernel_rfl) (by kernel_rfl) (by kernel_rfl) (fun _ _ _ h => h) (Or.inl ⟨by first | kernel_rfl | rfl, ?yi1FIN210⟩) hHeld ?ri1FIN210
                      case yi1FIN210 => (intro W hSW; (try dsimp only at hSW); go_simp; (try with_reducible rfl))
                      change wpAnyH _ _ _ _ _ _ _ (Act.put _ (some 158) _) _
                      simp only [Act.put, List.setIfInBounds_toArray, List.set_cons_zero, List.set_cons_succ]
                      refine wpAnyH_take (i := 11) (v := ?vi1FIN211) rfl (by kernel_rfl) (by kernel_rfl) (by kernel_rfl) (fun _ _ _ h => h) (Or.inl ⟨by first | kernel_rfl | rfl, ?yi1FIN211⟩) hHeld ?ri1FIN211
                      case yi1FIN211 => (intro W hSW; (try dsimp only at hSW); go_simp; (try with_reducible rfl))
                      change wpAnyH _ _ _ _ _ _ _ (Act.put _ (some 159) _) _
                      simp only [Act.put, List.setIfInBounds_toArray, List.set_cons_zero, List.set_cons_succ]
                      refine wpAnyH_take (i := 12) (v := ?vi1FIN212) rfl (by kernel_rfl) (by kernel_rfl) (by kernel_rfl) (fun _ _ _ h => h) (Or.inl ⟨by first | kernel_rfl | rfl, ?yi1FIN212⟩) hHeld ?ri1FIN212
                      case yi1FIN212 => (intro W hSW; (try dsimp only at hSW); go_simp; (try with_reducible rfl))
                      change wpAnyH _ _ _ _ _ _ _ (Act.put _ (some 160) _) _
                      simp only [Act.put, List.setIfInBounds_toArray, List.set_cons_zero, List.set_cons_succ]
                      refine wpAnyH_done (by kernel_rfl) ?_ _
                      clear hHeld
                      go_wp2
                      exact ⟨⟨i + 1, by omega, by go_num, HB.out.drew⟩, by simp [intOf]; omega⟩
                  | false =>
                    obtain ⟨j, hj, hkj, hj2, hmt⟩ : ∃ j, ∃ hj : j < l1.length, k ≤ j ∧ j < min len1 60 ∧ meets l1[j] i tn := hex.resolve_left (by simp)
                    have g1 : k < len1 := by omega
                    have g2 : k < 60 := by omega
                    have kg1 : (k : Int) < (len1 : Int) := by omega
                    have kg2 : (k : Int) < 60 := by omega
                    have hkl : k < l1.length := by omega
                    obtain ⟨b, oo, rfl, hbl, hc⟩ := HOS.out.2.2.2 (by omega)
                    have hci := hc k hkl
                    have HMT : Hid (meets l1[j] i tn) := hmt
                    have hjk : j = k → meets l1[k] i tn := by rintro rfl; exact hmt
                    obtain ⟨⟨kd, ad, lo, fi, pa, pl, pc, ps⟩, ho⟩ : ∃ o, l1[k] = o := ⟨_, rfl⟩
                    rw [ho] at hci hjk
                    obtain ⟨d0, d1, d2, d3, d4, d5⟩ := hci
                    simp only at d0 d1 d2 d3 d4
                    have hfi : fi < 256 := d5.2.2.2.1
                    have HNEXT : Hid (¬ meets ⟨kd, ad, lo, fi, pa, pl, pc, ps⟩ i tn → ∃ j, ∃ hj : j < l1.length, k + 1 ≤ j ∧ j < min len1 60 ∧ meets l1[j] i tn) := by
                      intro hn
                      refine ⟨j, hj, ?_, hj2, HMT.out⟩
                      rcases Nat.lt_or_ge k j with h | h
                      · exact h
                      · exact absurd (hjk (by omega)) hn
                    have hB1 : ∀ V, Below w17.heap.size w17 V → Below w.heap.size w V := fun V hV => HB17.out.trans (hV.mono HB17.out.size)
                    clear hc hex hmt hjk ho d5
                    by_cases q0 : kd = 0
                    · subst q0
                      by_cases qa : ad = (i : Int)
                      · subst qa
                        have HCS : Hid (∀ V, Below w17.heap.size w17 V → V.cell? ⟨b, oo + k * 5, none⟩ = some (.int .i64 0) ∧ V.cell? ⟨b, oo + k * 5 + 1, none⟩ = some (.int .i64 (i : Int)) ∧ V.cell? ⟨b, oo + k * 5 + 2, none⟩ = some (.int .i64 lo) ∧ V.cell? ⟨b, oo + k * 5 + 3, none⟩ = some (.int .u8 (fi : Int)) ∧ V.cell? ⟨b, oo + k * 5 + 4, none⟩ = some (.slice pa pl pc)) := fun V hV0 => by
                          have hV := hB1 V hV0
                          exact ⟨by rw [hV.cell hbl]; exact d0, by rw [hV.cell hbl]; exact d1, by rw [hV.cell hbl]; exact d2, by rw [hV.cell hbl]; exact d3, by rw [hV.cell hbl]; exact d4⟩
                        obtain ⟨F, hF⟩ : ∃ F, fillS lo fi = F := ⟨_, rfl⟩
                        have HFI : Hid (Calls Try.prog 27 #[.agg #[.int .i64 0, .int .i64 (i : Int), .int .i64 lo, .int .u8 (fi : Int), .slice pa pl pc]] wr.drew fun e w' => e = .returned (.string F) ∧ Below wr.drew.heap.size wr.drew w') := by
                          rw [← hF]; exact filled_any 0 (i : Int) lo fi pa pl pc wr.drew hfi
                        by_cases hFt : tn = F
                        · clear d0 d1 d2 d3 d4 hF HNEXT hB1
                          subst hFt
                          go_wp2
                          refine wp_region_held_drew (S := fun V => (V.cell? ⟨b, oo + k * 5, none⟩ = some (.int .i64 0) ∧ V.cell? ⟨b, oo + k * 5 + 1, none⟩ = some (.int .i64 (i : Int)) ∧ V.cell? ⟨b, oo + k * 5 + 2, none⟩ = some (.int .i64 lo) ∧ V.cell? ⟨b, oo + k * 5 + 3, none⟩ = some (.int .u8 (fi : Int)) ∧ V.cell? ⟨b, oo + k * 5 + 4, none⟩ = some (.slice pa pl pc)) ∧ V.cell? ⟨nb, i, none⟩ = some (.string tn) ∧ V.cell? ⟨kb, i, none⟩ = some (.string tn) ∧ V.cell? ⟨lb, i, none⟩ = some (.string tl) ∧ V.cell? ⟨mb, i, none⟩ = some (.string tl)) (by kernel_rfl) (⟨HCS.out _ HB.out.drew, HRW.out _ HB.out.drew⟩) (fun hHeld => ?_)
                          refine wpAnyH_take (i := 0) (v := ?vi1m10) rfl (by kernel_rfl) (by kernel_rfl) (by kernel_rfl) (fun _ _ _ h => h) (Or.inl ⟨by first | kernel_rfl | rfl, ?yi1m10⟩) hHeld ?ri1m10
                          case yi1m10 => (intro W hSW; (try dsimp only at hSW); go_simp; (try with_reducible rfl))
                          change wpAnyH _ _ _ _ _ _ _ (Act.put _ (some 121) _) _
                          simp only [Act.put, List.setIfInBounds_toArray, List.set_cons_zero, List.set_cons_succ]
                          refine wpAnyH_take (i := 1) (v := ?vi1m11) rfl (by kernel_rfl) (by kernel_rfl) (by kernel_rfl) (fun _ _ _ h => h) (Or.inl ⟨by first | kernel_rfl | rfl, ?yi1m11⟩) hHeld ?ri1m11
                          case yi1m11 => (intro W hSW; (try dsimp only at hSW); go_simp; (try with_reducible rfl))
                          change wpAnyH _ _ _ _ _ _ _ (Act.put _ (some 122) _) _
                          simp only [Act.put, List.setIfInBounds_toArray, List.set_cons_zero, List.set_cons_succ]
                          refine wpAnyH_take (i := 2) (v := ?vi1m12) rfl (by kernel_rfl) (by kernel_rfl) (by kernel_rfl) (fun _ _ _ h => h) (Or.inl ⟨by first | kernel_rfl | rfl, ?yi1m12⟩) hHeld ?ri1m12
                          case yi1m12 => (intro W hSW; (try dsimp only at hSW); go_simp; (try with_reducible rfl))
                          change wpAnyH _ _ _ _ _ _ _ (Act.put _ (some 123) _) _
                          simp only [Act.put, List.setIfInBounds_toArray, List.set_cons_zero, List.set_cons_succ]
                          refine wpAnyH_take (i := 3) (v := ?vi1m13) rfl (by kernel_rfl) (by kernel_rfl) (by kernel_rfl) (fun _ _ _ h => h) (Or.inl ⟨by first | kernel_rfl | rfl, ?yi1m13⟩) hHeld ?ri1m13
                          case yi1m13 => (intro W hSW; (try dsimp only at hSW); go_simp; (try with_reducible rfl))
                          change wpAnyH _ _ _ _ _ _ _ (Act.put _ (some 124) _) _
                          simp only [Act.put, List.setIfInBounds_toArray, List.set_cons_zero, List.set_cons_succ]
                          refine wpAnyH_take (i := 4) (v := ?vi1m14) rfl (by kernel_rfl) (by kernel_rfl) (by kernel_rfl) (fun _ _ _ h => h) (Or.inl ⟨by first | kernel_rfl | rfl, ?yi1m14⟩) hHeld ?ri1m14
                          case yi1m14 => (intro W hSW; (try dsimp only at hSW); go_simp; (try with_reducible rfl))
                          change wpAnyH _ _ _ _ _ _ _ (Act.put _ (some 125) _) _
                          simp only [Act.put, List.setIfInBounds_toArray, List.set_cons_zero, List.set_cons_succ]
                          refine wpAnyH_take (i := 5) (v := ?vi1m15) rfl (by kernel_rfl) (by kernel_rfl) (by kernel_rfl) (fun _ _ _ h => h) (Or.inl ⟨by first | kernel_rfl | rfl, ?yi1m15⟩) hHeld ?ri1m15
                          case yi1m15 => (intro W hSW; (try dsimp only at hSW); go_simp; (try with_reducible rfl))
                          change wpAnyH _ _ _ _ _ _ _ (Act.put _ (some 126) _) _
                          simp only [Act.put, List.setIfInBounds_toArray, List.set_cons_zero, List.set_cons_succ]
                          refine wpAnyH_take (i := 6) (v := ?vi1m16) rfl (by kernel_rfl) (by kernel_rfl) (by kernel_rfl) (fun _ _ _ h => h) (Or.inl ⟨by first | kernel_rfl | rfl, ?yi1m16⟩) hHeld ?ri1m16
                          case yi1m16 => (intro W hSW; (try dsimp only at hSW); go_simp; (try with_reducible rfl))
                          change wpAnyH _ _ _ _ _ _ _ (Act.put _ (some 127) _) _
                          simp only [Act.put, List.setIfInBounds_toArray, List.set_cons_zero, List.set_cons_succ]
                          refine wpAnyH_take (i := 7) (v := ?vi1m17) rfl (by kernel_rfl) (by kernel_rfl) (by kernel_rfl) (fun _ _ _ h => h) (Or.inl ⟨by first | kernel_rfl | rfl, ?yi1m17⟩) hHeld ?ri1m17
                          case yi1m17 => (intro W hSW; (try dsimp only at hSW); go_simp; (try with_reducible rfl))
                          change wpAnyH _ _ _ _ _ _ _ (Act.put _ (some 128) _) _
                          simp only [Act.put, List.setIfInBounds_toArray, List.set_cons_zero, List.set_cons_succ]
                          refine wpAnyH_take (i := 8) (v := ?vi1m18) rfl (by kernel_rfl) (by kernel_rfl) (by kernel_rfl) (fun _ _ _ h => h) (Or.inl ⟨by first | kernel_rfl | rfl, ?yi1m18⟩) hHeld ?ri1m18
                          case yi1m18 => (intro W hSW; (try dsimp only at hSW); go_simp; (try with_reducible rfl))
                          change wpAnyH _ _ _ _ _ _ _ (Act.put _ (some 129) _) _
                          simp only [Act.put, List.setIfInBounds_toArray, List.set_cons_zero, List.set_cons_succ]
                          refine wpAnyH_take (i := 9) (v := ?vi1m19) rfl (by kernel_rfl) (by kernel_rfl) (by kernel_rfl) (fun _ _ _ h => h) (Or.inl ⟨by first | kernel_rfl | rfl, ?yi1m19⟩) hHeld ?ri1m19
                          case yi1m19 => (intro W hSW; (try dsimp only at hSW); go_simp; (try with_reducible rfl))
                          change wpAnyH _ _ _ _ _ _ _ (Act.put _ (some 130) _) _
                          simp only [Act.put, List.setIfInBounds_toArray, List.set_cons_zero, List.set_cons_succ]
                          refine wpAnyH_take (i := 10) (v := ?vi1m110) rfl (by kernel_rfl) (by kernel_rfl) (by kernel_rfl) (fun _ _ _ h => h) (Or.inl ⟨by first | kernel_rfl | rfl, ?yi1m110⟩) hHeld ?ri1m110
                          case yi1m110 => (intro W hSW; (try dsimp only at hSW); go_simp; (try with_reducible rfl))
                          change wpAnyH _ _ _ _ _ _ _ (Act.put _ (some 131) _) _
                          simp only [Act.put, List.setIfInBounds_toArray, List.set_cons_zero, List.set_cons_succ]
                          refine wpAnyH_take (i := 11) (v := ?vi1m111) rfl (by kernel_rfl) (by kernel_rfl) (by kernel_rfl) (fun _ _ _ h => h) (Or.inl ⟨by first | kernel_rfl | rfl, ?yi1m111⟩) hHeld ?ri1m111
                          case yi1m111 => (intro W hSW; (try dsimp only at hSW); go_simp; (try with_reducible rfl))
                          change wpAnyH _ _ _ _ _ _ _ (Act.put _ (some 132) _) _
                          simp only [Act.put, List.setIfInBounds_toArray, List.set_cons_zero, List.set_cons_succ]
                          refine wpAnyH_take (i := 12) (v := ?vi1m112) rfl (by kernel_rfl) (by kernel_rfl) (by kernel_rfl) (fun _ _ _ h => h) (Or.inl ⟨by first | kernel_rfl | rfl, ?yi1m112⟩) hHeld ?ri1m112
                          case yi1m112 => (intro W hSW; (try dsimp only at hSW); go_simp; (try with_reducible rfl))
                          change wpAnyH _ _ _ _ _ _ _ (Act.put _ (some 133) _) _
                          simp only [Act.put, List.setIfInBounds_toArray, List.set_cons_zero, List.set_cons_succ]
                          refine wpAnyH_take (i := 13) (v := ?vi1m113) rfl (by kernel_rfl) (by kernel_rfl) (by kernel_rfl) (fun _ _ _ h => h) (Or.inl ⟨by first | kernel_rfl | rfl, ?yi1m113⟩) hHeld ?ri1m113
                          case yi1m113 => (intro W hSW; (try dsimp only at hSW); go_simp; (try with_reducible rfl))
                          change wpAnyH _ _ _ _ _ _ _ (Act.put _ (some 134) _) _
                          simp only [Act.put, List.setIfInBounds_toArray, List.set_cons_zero, List.set_cons_succ]
                          refine wpAnyH_take (i := 14) (v := ?vi1m114) rfl (by kernel_rfl) (by kernel_rfl) (by kernel_rfl) (fun _ _ _ h => h) (Or.inl ⟨by first | kernel_rfl | rfl, ?yi1m114⟩) hHeld ?ri1m114
                          case yi1m114 => (intro W hSW; (try dsimp only at hSW); go_simp; (try with_reducible rfl))
                          change wpAnyH _ _ _ _ _ _ _ (Act.put _ (some 135) _) _
                          simp only [Act.put, List.setIfInBounds_toArray, List.set_cons_zero, List.set_cons_succ]
                          refine wpAnyH_take (i := 15) (v := ?vi1m115) rfl (by kernel_rfl) (by kernel_rfl) (by kernel_rfl) (fun _ _ _ h => h) (Or.inl ⟨by first | kernel_rfl | rfl, ?yi1m115⟩) hHeld ?ri1m115
                          case yi1m115 => (intro W hSW; (try dsimp only at hSW); go_simp; (try with_reducible rfl))
                          change wpAnyH _ _ _ _ _ _ _ (Act.put _ (some 136) _) _
                          simp only [Act.put, List.setIfInBounds_toArray, List.set_cons_zero, List.set_cons_succ]
                          refine wpAnyH_take (i := 16) (v := ?vi1m116) rfl (by kernel_rfl) (by kernel_rfl) (by kernel_rfl) (fun _ _ _ h => h) (Or.inl ⟨by first | kernel_rfl | rfl, ?yi1m116⟩) hHeld ?ri1m116
                          case yi1m116 => (intro W hSW; (try dsimp only at hSW); go_simp; (try with_reducible rfl))
                          change wpAnyH _ _ _ _ _ _ _ (Act.put _ (some 137) _) _
                          simp only [Act.put, List.setIfInBounds_toArray, List.set_cons_zero, List.set_cons_succ]
                          refine wpAnyH_take (i := 17) (v := ?vi1m117) rfl (by kernel_rfl) (by kernel_rfl) (by kernel_rfl) (fun _ _ _ h => h) (Or.inl ⟨by first | kernel_rfl | rfl, ?yi1m117⟩) hHeld ?ri1m117
                          case yi1m117 => (intro W hSW; (try dsimp only at hSW); go_simp; (try with_reducible rfl))
                          change wpAnyH _ _ _ _ _ _ _ (Act.put _ (some 138) _) _
                          simp only [Act.put, List.setIfInBounds_toArray, List.set_cons_zero, List.set_cons_succ]
                          refine wpAnyH_take (i := 18) (v := ?vi1m118) rfl (by kernel_rfl) (by kernel_rfl) (by kernel_rfl) (fun _ _ _ h => h) (Or.inl ⟨by first | kernel_rfl | rfl, ?yi1m118⟩) hHeld ?ri1m118
                          case yi1m118 => (intro W hSW; (try dsimp only at hSW); go_simp; (try with_reducible rfl))
                          change wpAnyH _ _ _ _ _ _ _ (Act.put _ (some 139) _) _
                          simp only [Act.put, List.setIfInBounds_toArray, List.set_cons_zero, List.set_cons_succ]
                          refine wpAnyH_take (i := 19) (v := ?vi1m119) rfl (by kernel_rfl) (by kernel_rfl) (by kernel_rfl) (fun _ _ _ h => h) (Or.inl ⟨by first | kernel_rfl | rfl, ?yi1m119⟩) hHeld ?ri1m119
                          case yi1m119 => (intro W hSW; (try dsimp only at hSW); go_simp; (try with_reducible rfl))
                          change wpAnyH _ _ _ _ _ _ _ (Act.put _ (some 140) _) _
                          simp only [Act.put, List.setIfInBounds_toArray, List.set_cons_zero, List.set_cons_succ]
                          refine wpAnyH_take (i := 20) (v := ?vi1m120) rfl (by kernel_rfl) (by kernel_rfl) (by kernel_rfl) (fun _ _ _ h => h) (Or.inl ⟨by first | kernel_rfl | rfl, ?yi1m120⟩) hHeld ?ri1m120
                          case yi1m120 => (intro W hSW; (try dsimp only at hSW); go_simp; (try with_reducible rfl))
                          change wpAnyH _ _ _ _ _ _ _ (Act.put _ (some 141) _) _
                          simp only [Act.put, List.setIfInBounds_toArray, List.set_cons_zero, List.set_cons_succ]
                          refine wpAnyH_take (i := 21) (v := ?vi1m121) rfl (by kernel_rfl) (by kernel_rfl) (by kernel_rfl) (fun _ _ _ h => h) (Or.inl ⟨by first | kernel_rfl | rfl, ?yi1m121⟩) hHeld ?ri1m121
                          case yi1m121 => (intro W hSW; (try dsimp only at hSW); go_simp; (try with_reducible rfl))
                          change wpAnyH _ _ _ _ _ _ _ (Act.put _ (some 142) _) _
                          simp only [Act.put, List.setIfInBounds_toArray, List.set_cons_zero, List.set_cons_succ]
                          refine wpAnyH_take (i := 22) (v := ?vi1m122) rfl (by kernel_rfl) (by kernel_rfl) (by kernel_rfl) (fun _ _ _ h => h) (Or.inl ⟨by first | kernel_rfl | rfl, ?yi1m122⟩) hHeld ?ri1m122
                          case yi1m122 => (intro W hSW; (try dsimp only at hSW); go_simp; (try with_reducible rfl))
                          change wpAnyH _ _ _ _ _ _ _ (Act.put _ (some 143) _) _
                          simp only [Act.put, List.setIfInBounds_toArray, List.set_cons_zero, List.set_cons_succ]
                          refine wpAnyH_take (i := 23) (v := ?vi1m123) rfl (by kernel_rfl) (by kernel_rfl) (by kernel_rfl) (fun _ _ _ h => h) (Or.inl ⟨by first | kernel_rfl | rfl, ?yi1m123⟩) hHeld ?ri1m123
                          case yi1m123 => (intro W hSW; (try dsimp only at hSW); go_simp; (try with_reducible rfl))
                          change wpAnyH _ _ _ _ _ _ _ (Act.put _ (some 144) _) _
                          simp only [Act.put, List.setIfInBounds_toArray, List.set_cons_zero, List.set_cons_succ]
                          refine wpAnyH_ready (rs := [24]) (by kernel_rfl) (by simp) ?_
                          refine AllReadyH.cons rfl (fun K hK => ?_) AllReadyH.nil
                          go_simp
                          refine (HFI.out).mono ?_
                          rintro e V2 ⟨rfl, hb2⟩; have HB2 : Hid (Below w17.heap.size w17 V2) := HB.out.drew.trans (hb2.mono HB.out.size); clear hb2
                          refine hK.out _ _ (⟨HCS.out _ HB2.out, HRW.out _ HB2.out⟩) (fun hHeld => ?_)
                          clear hK K
                          try simp only [Act.put, List.setIfInBounds_toArray, List.set_cons_zero, List.set_cons_succ]
                          refine wpAnyH_take (i := 25) (v := ?vi1m125) rfl (by kernel_rfl) (by kernel_rfl) (by kernel_rfl) (fun _ _ _ h => h) (Or.inl ⟨by first | kernel_rfl | rfl, ?yi1m125⟩) hHeld ?ri1m125
                          case yi1m125 => (intro W hSW; (try dsimp only at hSW); go_simp; (try with_reducible rfl))
                          change wpAnyH _ _ _ _ _ _ _ (Act.put _ (some 146) _) _
                          simp only [Act.put, List.setIfInBounds_toArray, List.set_cons_zero, List.set_cons_succ]
                          refine wpAnyH_take (i := 26) (v := ?vi1m126) rfl (by kernel_rfl) (by kernel_rfl) (by kernel_rfl) (fun _ _ _ h => h) (Or.inl ⟨by first | kernel_rfl | rfl, ?yi1m126⟩) hHeld ?ri1m126
                          case yi1m126 => (intro W hSW; (try dsimp only at hSW); go_simp; (try with_reducible rfl))
                          change wpAnyH _ _ _ _ _ _ _ (Act.put _ (some 147) _) _
                          simp only [Act.put, List.setIfInBounds_toArray, List.set_cons_zero, List.set_cons_succ]
                          refine wpAnyH_take (i := 27) (v := ?vi1m127) rfl (by kernel_rfl) (by kernel_rfl) (by kernel_rfl) (fun _ _ _ h => h) (Or.inl ⟨by first | kernel_rfl | rfl, ?yi1m127⟩) hHeld ?ri1m127
                          case yi1m127 => (intro W hSW; (try dsimp only at hSW); go_simp; (try with_reducible rfl))
                          change wpAnyH _ _ _ _ _ _ _ (Act.put _ (some 17) _) _
                          simp only [Act.put, List.setIfInBounds_toArray, List.set_cons_zero, List.set_cons_succ]
                          refine wpAnyH_done (by kernel_rfl) ?_ _
                          have HNB : Hid (Below w17.heap.size w17 V2) := HB2.out
                          clear hHeld HFI HCS HB HB2
                          go_wp2
                          exact ⟨⟨k + 1, true, by omega, by omega, rfl, by go_num, HNB.out, .inl rfl⟩, by simp [intOf]; omega⟩
                        · have nbF : (tn.toList == F.toList) = false := str_nb hFt
                          have nbF2 : ¬ tn.toList = F.toList := str_ne hFt
                          have HX : Hid (∃ j, ∃ hj : j < l1.length, k + 1 ≤ j ∧ j < min len1 60 ∧ meets l1[j] i tn) := HNEXT.out (fun h => hFt (by rw [← hF]; exact h.2.2.symm))
                          clear d0 d1 d2 d3 d4 hF HNEXT hB1 hFt
                          go_wp2
                          refine wp_region_held_drew (S := fun V => (V.cell? ⟨b, oo + k * 5, none⟩ = some (.int .i64 0) ∧ V.cell? ⟨b, oo + k * 5 + 1, none⟩ = some (.int .i64 (i : Int)) ∧ V.cell? ⟨b, oo + k * 5 + 2, none⟩ = some (.int .i64 lo) ∧ V.cell? ⟨b, oo + k * 5 + 3, none⟩ = some (.int .u8 (fi : Int)) ∧ V.cell? ⟨b, oo + k * 5 + 4, none⟩ = some (.slice pa pl pc)) ∧ V.cell? ⟨nb, i, none⟩ = some (.string tn) ∧ V.cell? ⟨kb, i, none⟩ = some (.string tn) ∧ V.cell? ⟨lb, i, none⟩ = some (.string tl) ∧ V.cell? ⟨mb, i, none⟩ = some (.string tl)) (by kernel_rfl) (⟨HCS.out _ HB.out.drew, HRW.out _ HB.out.drew⟩) (fun hHeld => ?_)
                          refine wpAnyH_take (i := 0) (v := ?vi1m20) rfl (by kernel_rfl) (by kernel_rfl) (by kernel_rfl) (fun _ _ _ h => h) (Or.inl ⟨by first | kernel_rfl | rfl, ?yi1m20⟩) hHeld ?ri1m20
                          case yi1m20 => (intro W hSW; (try dsimp only at hSW); go_simp; (try with_reducible rfl))
                          change wpAnyH _ _ _ _ _ _ _ (Act.put _ (some 121) _) _
                          simp only [Act.put, List.setIfInBounds_toArray, List.set_cons_zero, List.set_cons_succ]
                          refine wpAnyH_take (i := 1) (v := ?vi1m21) rfl (by kernel_rfl) (by kernel_rfl) (by kernel_rfl) (fun _ _ _ h => h) (Or.inl ⟨by first | kernel_rfl | rfl, ?yi1m21⟩) hHeld ?ri1m21
                          case yi1m21 => (intro W hSW; (try dsimp only at hSW); go_simp; (try with_reducible rfl))
                          change wpAnyH _ _ _ _ _ _ _ (Act.put _ (some 122) _) _
                          simp only [Act.put, List.setIfInBounds_toArray, List.set_cons_zero, List.set_cons_succ]
                          refine wpAnyH_take (i := 2) (v := ?vi1m22) rfl (by kernel_rfl) (by kernel_rfl) (by kernel_rfl) (fun _ _ _ h => h) (Or.inl ⟨by first | kernel_rfl | rfl, ?yi1m22⟩) hHeld ?ri1m22
                          case yi1m22 => (intro W hSW; (try dsimp only at hSW); go_simp; (try with_reducible rfl))
                          change wpAnyH _ _ _ _ _ _ _ (Act.put _ (some 123) _) _
                          simp only [Act.put, List.setIfInBounds_toArray, List.set_cons_zero, List.set_cons_succ]
                          refine wpAnyH_take (i := 3) (v := ?vi1m23) rfl (by kernel_rfl) (by kernel_rfl) (by kernel_rfl) (fun _ _ _ h => h) (Or.inl ⟨by first | kernel_rfl | rfl, ?yi1m23⟩) hHeld ?ri1m23
                          case yi1m23 => (intro W hSW; (try dsimp only at hSW); go_simp; (try with_reducible rfl))
                          change wpAnyH _ _ _ _ _ _ _ (Act.put _ (some 124) _) _
                          simp only [Act.put, List.setIfInBounds_toArray, List.set_cons_zero, List.set_cons_succ]
                          refine wpAnyH_take (i := 4) (v := ?vi1m24) rfl (by kernel_rfl) (by kernel_rfl) (by kernel_rfl) (fun _ _ _ h => h) (Or.inl ⟨by first | kernel_rfl | rfl, ?yi1m24⟩) hHeld ?ri1m24
                          case yi1m24 => (intro W hSW; (try dsimp only at hSW); go_simp; (try with_reducible rfl))
                          change wpAnyH _ _ _ _ _ _ _ (Act.put _ (some 125) _) _
                          simp only [Act.put, List.setIfInBounds_toArray, List.set_cons_zero, List.set_cons_succ]
                          refine wpAnyH_take (i := 5) (v := ?vi1m25) rfl (by kernel_rfl) (by kernel_rfl) (by kernel_rfl) (fun _ _ _ h => h) (Or.inl ⟨by first | kernel_rfl | rfl, ?yi1m25⟩) hHeld ?ri1m25
                          case yi1m25 => (intro W hSW; (try dsimp only at hSW); go_simp; (try with_reducible rfl))
                          change wpAnyH _ _ _ _ _ _ _ (Act.put _ (some 126) _) _
                          simp only [Act.put, List.setIfInBounds_toArray, List.set_cons_zero, List.set_cons_succ]
                          refine wpAnyH_take (i := 6) (v := ?vi1m26) rfl (by kernel_rfl) (by kernel_rfl) (by kernel_rfl) (fun _ _ _ h => h) (Or.inl ⟨by first | kernel_rfl | rfl, ?yi1m26⟩) hHeld ?ri1m26
                          case yi1m26 => (intro W hSW; (try dsimp only at hSW); go_simp; (try with_reducible rfl))
                          change wpAnyH _ _ _ _ _ _ _ (Act.put _ (some 127) _) _
                          simp only [Act.put, List.setIfInBounds_toArray, List.set_cons_zero, List.set_cons_succ]
                          refine wpAnyH_take (i := 7) (v := ?vi1m27) rfl (by kernel_rfl) (by kernel_rfl) (by kernel_rfl) (fun _ _ _ h => h) (Or.inl ⟨by first | kernel_rfl | rfl, ?yi1m27⟩) hHeld ?ri1m27
                          case yi1m27 => (intro W hSW; (try dsimp only at hSW); go_simp; (try with_reducible rfl))
                          change wpAnyH _ _ _ _ _ _ _ (Act.put _ (some 128) _) _
                          simp only [Act.put, List.setIfInBounds_toArray, List.set_cons_zero, List.set_cons_succ]
                          refine wpAnyH_take (i := 8) (v := ?vi1m28) rfl (by kernel_rfl) (by kernel_rfl) (by kernel_rfl) (fun _ _ _ h => h) (Or.inl ⟨by first | kernel_rfl | rfl, ?yi1m28⟩) hHeld ?ri1m28
                          case yi1m28 => (intro W hSW; (try dsimp only at hSW); go_simp; (try with_reducible rfl))
                          change wpAnyH _ _ _ _ _ _ _ (Act.put _ (some 129) _) _
                          simp only [Act.put, List.setIfInBounds_toArray, List.set_cons_zero, List.set_cons_succ]
                          refine wpAnyH_take (i := 9) (v := ?vi1m29) rfl (by kernel_rfl) (by kernel_rfl) (by kernel_rfl) (fun _ _ _ h => h) (Or.inl ⟨by first | kernel_rfl | rfl, ?yi1m29⟩) hHeld ?ri1m29
                          case yi1m29 => (intro W hSW; (try dsimp only at hSW); go_simp; (try with_reducible rfl))
                          change wpAnyH _ _ _ _ _ _ _ (Act.put _ (some 130) _) _
                          simp only [Act.put, List.setIfInBounds_toArray, List.set_cons_zero, List.set_cons_succ]
                          refine wpAnyH_take (i := 10) (v := ?vi1m210) rfl (by kernel_rfl) (by kernel_rfl) (by kernel_rfl) (fun _ _ _ h => h) (Or.inl ⟨by first | kernel_rfl | rfl, ?yi1m210⟩) hHeld ?ri1m210
                          case yi1m210 => (intro W hSW; (try dsimp only at hSW); go_simp; (try with_reducible rfl))
                          change wpAnyH _ _ _ _ _ _ _ (Act.put _ (some 131) _) _
                          simp only [Act.put, List.setIfInBounds_toArray, List.set_cons_zero, List.set_cons_succ]
                          refine wpAnyH_take (i := 11) (v := ?vi1m211) rfl (by kernel_rfl) (by kernel_rfl) (by kernel_rfl) (fun _ _ _ h => h) (Or.inl ⟨by first | kernel_rfl | rfl, ?yi1m211⟩) hHeld ?ri1m211
                          case yi1m211 => (intro W hSW; (try dsimp only at hSW); go_simp; (try with_reducible rfl))
                          change wpAnyH _ _ _ _ _ _ _ (Act.put _ (some 132) _) _
                          simp only [Act.put, List.setIfInBounds_toArray, List.set_cons_zero, List.set_cons_succ]
                          refine wpAnyH_take (i := 12) (v := ?vi1m212) rfl (by kernel_rfl) (by kernel_rfl) (by kernel_rfl) (fun _ _ _ h => h) (Or.inl ⟨by first | kernel_rfl | rfl, ?yi1m212⟩) hHeld ?ri1m212
                          case yi1m212 => (intro W hSW; (try dsimp only at hSW); go_simp; (try with_reducible rfl))
                          change wpAnyH _ _ _ _ _ _ _ (Act.put _ (some 133) _) _
                          simp only [Act.put, List.setIfInBounds_toArray, List.set_cons_zero, List.set_cons_succ]
                          refine wpAnyH_take (i := 13) (v := ?vi1m213) rfl (by kernel_rfl) (by kernel_rfl) (by kernel_rfl) (fun _ _ _ h => h) (Or.inl ⟨by first | kernel_rfl | rfl, ?yi1m213⟩) hHeld ?ri1m213
                          case yi1m213 => (intro W hSW; (try dsimp only at hSW); go_simp; (try with_reducible rfl))
                          change wpAnyH _ _ _ _ _ _ _ (Act.put _ (some 134) _) _
                          simp only [Act.put, List.setIfInBounds_toArray, List.set_cons_zero, List.set_cons_succ]
                          refine wpAnyH_take (i := 14) (v := ?vi1m214) rfl (by kernel_rfl) (by kernel_rfl) (by kernel_rfl) (fun _ _ _ h => h) (Or.inl ⟨by first | kernel_rfl | rfl, ?yi1m214⟩) hHeld ?ri1m214
                          case yi1m214 => (intro W hSW; (try dsimp only at hSW); go_simp; (try with_reducible rfl))
                          change wpAnyH _ _ _ _ _ _ _ (Act.put _ (some 135) _) _
                          simp only [Act.put, List.setIfInBounds_toArray, List.set_cons_zero, List.set_cons_succ]
                          refine wpAnyH_take (i := 15) (v := ?vi1m215) rfl (by kernel_rfl) (by kernel_rfl) (by kernel_rfl) (fun _ _ _ h => h) (Or.inl ⟨by first | kernel_rfl | rfl, ?yi1m215⟩) hHeld ?ri1m215
                          case yi1m215 => (intro W hSW; (try dsimp only at hSW); go_simp; (try with_reducible rfl))
                          change wpAnyH _ _ _ _ _ _ _ (Act.put _ (some 136) _) _
                          simp only [Act.put, List.setIfInBounds_toArray, List.set_cons_zero, List.set_cons_succ]
                          refine wpAnyH_take (i := 16) (v := ?vi1m216) rfl (by kernel_rfl) (by kernel_rfl) (by kernel_rfl) (fun _ _ _ h => h) (Or.inl ⟨by first | kernel_rfl | rfl, ?yi1m216⟩) hHeld ?ri1m216
                          case yi1m216 => (intro W hSW; (try dsimp only at hSW); go_simp; (try with_reducible rfl))
                          change wpAnyH _ _ _ _ _ _ _ (Act.put _ (some 137) _) _
                          simp only [Act.put, List.setIfInBounds_toArray, List.set_cons_zero, List.set_cons_succ]
                          refine wpAnyH_take (i := 17) (v := ?vi1m217) rfl (by kernel_rfl) (by kernel_rfl) (by kernel_rfl) (fun _ _ _ h => h) (Or.inl ⟨by first | kernel_rfl | rfl, ?yi1m217⟩) hHeld ?ri1m217
                          case yi1m217 => (intro W hSW; (try dsimp only at hSW); go_simp; (try with_reducible rfl))
                          change wpAnyH _ _ _ _ _ _ _ (Act.put _ (some 138) _) _
                          simp only [Act.put, List.setIfInBounds_toArray, List.set_cons_zero, List.set_cons_succ]
                          refine wpAnyH_take (i := 18) (v := ?vi1m218) rfl (by kernel_rfl) (by kernel_rfl) (by kernel_rfl) (fun _ _ _ h => h) (Or.inl ⟨by first | kernel_rfl | rfl, ?yi1m218⟩) hHeld ?ri1m218
                          case yi1m218 => (intro W hSW; (try dsimp only at hSW); go_simp; (try with_reducible rfl))
                          change wpAnyH _ _ _ _ _ _ _ (Act.put _ (some 139) _) _
                          simp only [Act.put, List.setIfInBounds_toArray, List.set_cons_zero, List.set_cons_succ]
                          refine wpAnyH_take (i := 19) (v := ?vi1m219) rfl (by kernel_rfl) (by kernel_rfl) (by kernel_rfl) (fun _ _ _ h => h) (Or.inl ⟨by first | kernel_rfl | rfl, ?yi1m219⟩) hHeld ?ri1m219
                          case yi1m219 => (intro W hSW; (try dsimp only at hSW); go_simp; (try with_reducible rfl))
                          change wpAnyH _ _ _ _ _ _ _ (Act.put _ (some 140) _) _
                          simp only [Act.put, List.setIfInBounds_toArray, List.set_cons_zero, List.set_cons_succ]
                          refine wpAnyH_take (i := 20) (v := ?vi1m220) rfl (by kernel_rfl) (by kernel_rfl) (by kernel_rfl) (fun _ _ _ h => h) (Or.inl ⟨by first | kernel_rfl | rfl, ?yi1m220⟩) hHeld ?ri1m220
                          case yi1m220 => (intro W hSW; (try dsimp only at hSW); go_simp; (try with_reducible rfl))
                          change wpAnyH _ _ _ _ _ _ _ (Act.put _ (some 141) _) _
                          simp only [Act.put, List.setIfInBounds_toArray, List.set_cons_zero, List.set_cons_succ]
                          refine wpAnyH_take (i := 21) (v := ?vi1m221) rfl (by kernel_rfl) (by kernel_rfl) (by kernel_rfl) (fun _ _ _ h => h) (Or.inl ⟨by first | kernel_rfl | rfl, ?yi1m221⟩) hHeld ?ri1m221
                          case yi1m221 => (intro W hSW; (try dsimp only at hSW); go_simp; (try with_reducible rfl))
                          change wpAnyH _ _ _ _ _ _ _ (Act.put _ (some 142) _) _
                          simp only [Act.put, List.setIfInBounds_toArray, List.set_cons_zero, List.set_cons_succ]
                          refine wpAnyH_take (i := 22) (v := ?vi1m222) rfl (by kernel_rfl) (by kernel_rfl) (by kernel_rfl) (fun _ _ _ h => h) (Or.inl ⟨by first | kernel_rfl | rfl, ?yi1m222⟩) hHeld ?ri1m222
                          case yi1m222 => (intro W hSW; (try dsimp only at hSW); go_simp; (try with_reducible rfl))
                          change wpAnyH _ _ _ _ _ _ _ (Act.put _ (some 143) _) _
                          simp only [Act.put, List.setIfInBounds_toArray, List.set_cons_zero, List.set_cons_succ]
                          refine wpAnyH_take (i := 23) (v := ?vi1m223) rfl (by kernel_rfl) (by kernel_rfl) (by kernel_rfl) (fun _ _ _ h => h) (Or.inl ⟨by first | kernel_rfl | rfl, ?yi1m223⟩) hHeld ?ri1m223
                          case yi1m223 => (intro W hSW; (try dsimp only at hSW); go_simp; (try with_reducible rfl))
                          change wpAnyH _ _ _ _ _ _ _ (Act.put _ (some 144) _) _
                          simp only [Act.put, List.setIfInBounds_toArray, List.set_cons_zero, List.set_cons_succ]
                          refine wpAnyH_ready (rs := [24]) (by kernel_rfl) (by simp) ?_
                          refine AllReadyH.cons rfl (fun K hK => ?_) AllReadyH.nil
                          go_simp
                          refine (HFI.out).mono ?_
                          rintro e V2 ⟨rfl, hb2⟩; have HB2 : Hid (Below w17.heap.size w17 V2) := HB.out.drew.trans (hb2.mono HB.out.size); clear hb2
                          refine hK.out _ _ (⟨HCS.out _ HB2.out, HRW.out _ HB2.out⟩) (fun hHeld => ?_)
                          clear hK K
                          try simp only [Act.put, List.setIfInBounds_toArray, List.set_cons_zero, List.set_cons_succ]
                          refine wpAnyH_take (i := 25) (v := ?vi1m225) rfl (by kernel_rfl) (by kernel_rfl) (by kernel_rfl) (fun _ _ _ h => h) (Or.inl ⟨by first | kernel_rfl | rfl, ?yi1m225⟩) hHeld ?ri1m225
                          case yi1m225 => (intro W hSW; (try dsimp only at hSW); go_simp; (try with_reducible rfl))
                          change wpAnyH _ _ _ _ _ _ _ (Act.put _ (some 146) _) _
                          simp only [Act.put, List.setIfInBounds_toArray, List.set_cons_zero, List.set_cons_succ]
                          refine wpAnyH_take (i := 26) (v := ?vi1m226) rfl (by kernel_rfl) (by kernel_rfl) (by kernel_rfl) (fun _ _ _ h => h) (Or.inl ⟨by first | kernel_rfl | rfl, ?yi1m226⟩) hHeld ?ri1m226
                          case yi1m226 => (intro W hSW; (try dsimp only at hSW); go_simp; (try with_reducible rfl))
                          change wpAnyH _ _ _ _ _ _ _ (Act.put _ (some 147) _) _
                          simp only [Act.put, List.setIfInBounds_toArray, List.set_cons_zero, List.set_cons_succ]
                          refine wpAnyH_take (i := 27) (v := ?vi1m227) rfl (by kernel_rfl) (by kernel_rfl) (by kernel_rfl) (fun _ _ _ h => h) (Or.inl ⟨by first | kernel_rfl | rfl, ?yi1m227⟩) hHeld ?ri1m227
                          case yi1m227 => (intro W hSW; (try dsimp only at hSW); go_simp; (try with_reducible rfl))
                          change wpAnyH _ _ _ _ _ _ _ (Act.put _ (some 17) _) _
                          simp only [Act.put, List.setIfInBounds_toArray, List.set_cons_zero, List.set_cons_succ]
                          refine wpAnyH_done (by kernel_rfl) ?_ _
                          have HNB : Hid (Below w17.heap.size w17 V2) := HB2.out
                          clear hHeld HFI HCS HB HB2
                          go_wp2
                          exact ⟨⟨k + 1, false, by omega, by omega, rfl, by go_num, HNB.out, .inr HX.out⟩, by simp [intOf]; omega⟩
                      · have HCS : Hid (∀ V, Below w17.heap.size w17 V → V.cell? ⟨b, oo + k * 5, none⟩ = some (.int .i64 0) ∧ V.cell? ⟨b, oo + k * 5 + 1, none⟩ = some (.int .i64 ad) ∧ V.cell? ⟨b, oo + k * 5 + 2, none⟩ = some (.int .i64 lo) ∧ V.cell? ⟨b, oo + k * 5 + 3, none⟩ = some (.int .u8 (fi : Int)) ∧ V.cell? ⟨b, oo + k * 5 + 4, none⟩ = some (.slice pa pl pc)) := fun V hV0 => by
                          have hV := hB1 V hV0
                          exact ⟨by rw [hV.cell hbl]; exact d0, by rw [hV.cell hbl]; exact d1, by rw [hV.cell hbl]; exact d2, by rw [hV.cell hbl]; exact d3, by rw [hV.cell hbl]; exact d4⟩
                        have qab : (ad == (i : Int)) = false := by simpa using qa
                        have HX : Hid (∃ j, ∃ hj : j < l1.length, k + 1 ≤ j ∧ j < min len1 60 ∧ meets l1[j] i tn) := HNEXT.out (fun h => qa h.2.1)
                        have HNB : Hid (Below w17.heap.size w17 wr.drew) := HB.out.drew
                        clear d0 d1 d2 d3 d4 HNEXT hB1
                        go_wp2
                        refine wp_region_held_drew (S := fun V => (V.cell? ⟨b, oo + k * 5, none⟩ = some (.int .i64 0) ∧ V.cell? ⟨b, oo + k * 5 + 1, none⟩ = some (.int .i64 ad) ∧ V.cell? ⟨b, oo + k * 5 + 2, none⟩ = some (.int .i64 lo) ∧ V.cell? ⟨b, oo + k * 5 + 3, none⟩ = some (.int .u8 (fi : Int)) ∧ V.cell? ⟨b, oo + k * 5 + 4, none⟩ = some (.slice pa pl pc)) ∧ V.cell? ⟨nb, i, none⟩ = some (.string tn) ∧ V.cell? ⟨kb, i, none⟩ = some (.string tn) ∧ V.cell? ⟨lb, i, none⟩ = some (.string tl) ∧ V.cell? ⟨mb, i, none⟩ = some (.string tl)) (by kernel_rfl) (⟨HCS.out _ HB.out.drew, HRW.out _ HB.out.drew⟩) (fun hHeld => ?_)
                        refine wpAnyH_take (i := 0) (v := ?vi1aa0) rfl (by kernel_rfl) (by kernel_rfl) (by kernel_rfl) (fun _ _ _ h => h) (Or.inl ⟨by first | kernel_rfl | rfl, ?yi1aa0⟩) hHeld ?ri1aa0
                        case yi1aa0 => (intro W hSW; (try dsimp only at hSW); go_simp; (try with_reducible rfl))
                        change wpAnyH _ _ _ _ _ _ _ (Act.put _ (some 121) _) _
                        simp only [Act.put, List.setIfInBounds_toArray, List.set_cons_zero, List.set_cons_succ]
                        refine wpAnyH_take (i := 1) (v := ?vi1aa1) rfl (by kernel_rfl) (by kernel_rfl) (by kernel_rfl) (fun _ _ _ h => h) (Or.inl ⟨by first | kernel_rfl | rfl, ?yi1aa1⟩) hHeld ?ri1aa1
                        case yi1aa1 => (intro W hSW; (try dsimp only at hSW); go_simp; (try with_reducible rfl))
                        change wpAnyH _ _ _ _ _ _ _ (Act.put _ (some 122) _) _
                        simp only [Act.put, List.setIfInBounds_toArray, List.set_cons_zero, List.set_cons_succ]
                        refine wpAnyH_take (i := 2) (v := ?vi1aa2) rfl (by kernel_rfl) (by kernel_rfl) (by kernel_rfl) (fun _ _ _ h => h) (Or.inl ⟨by first | kernel_rfl | rfl, ?yi1aa2⟩) hHeld ?ri1aa2
                        case yi1aa2 => (intro W hSW; (try dsimp only at hSW); go_simp; (try with_reducible rfl))
                        change wpAnyH _ _ _ _ _ _ _ (Act.put _ (some 123) _) _
                        simp only [Act.put, List.setIfInBounds_toArray, List.set_cons_zero, List.set_cons_succ]
                        refine wpAnyH_take (i := 3) (v := ?vi1aa3) rfl (by kernel_rfl) (by kernel_rfl) (by kernel_rfl) (fun _ _ _ h => h) (Or.inl ⟨by first | kernel_rfl | rfl, ?yi1aa3⟩) hHeld ?ri1aa3
                        case yi1aa3 => (intro W hSW; (try dsimp only at hSW); go_simp; (try with_reducible rfl))
                        change wpAnyH _ _ _ _ _ _ _ (Act.put _ (some 124) _) _
                        simp only [Act.put, List.setIfInBounds_toArray, List.set_cons_zero, List.set_cons_succ]
                        refine wpAnyH_take (i := 4) (v := ?vi1aa4) rfl (by kernel_rfl) (by kernel_rfl) (by kernel_rfl) (fun _ _ _ h => h) (Or.inl ⟨by first | kernel_rfl | rfl, ?yi1aa4⟩) hHeld ?ri1aa4
                        case yi1aa4 => (intro W hSW; (try dsimp only at hSW); go_simp; (try with_reducible rfl))
                        change wpAnyH _ _ _ _ _ _ _ (Act.put _ (some 125) _) _
                        simp only [Act.put, List.setIfInBounds_toArray, List.set_cons_zero, List.set_cons_succ]
                        refine wpAnyH_take (i := 5) (v := ?vi1aa5) rfl (by kernel_rfl) (by kernel_rfl) (by kernel_rfl) (fun _ _ _ h => h) (Or.inl ⟨by first | kernel_rfl | rfl, ?yi1aa5⟩) hHeld ?ri1aa5
                        case yi1aa5 => (intro W hSW; (try dsimp only at hSW); go_simp; (try with_reducible rfl))
                        change wpAnyH _ _ _ _ _ _ _ (Act.put _ (some 126) _) _
                        simp only [Act.put, List.setIfInBounds_toArray, List.set_cons_zero, List.set_cons_succ]
                        refine wpAnyH_take (i := 6) (v := ?vi1aa6) rfl (by kernel_rfl) (by kernel_rfl) (by kernel_rfl) (fun _ _ _ h => h) (Or.inl ⟨by first | kernel_rfl | rfl, ?yi1aa6⟩) hHeld ?ri1aa6
                        case yi1aa6 => (intro W hSW; (try dsimp only at hSW); go_simp; (try with_reducible rfl))
                        change wpAnyH _ _ _ _ _ _ _ (Act.put _ (some 127) _) _
                        simp only [Act.put, List.setIfInBounds_toArray, List.set_cons_zero, List.set_cons_succ]
                        refine wpAnyH_take (i := 7) (v := ?vi1aa7) rfl (by kernel_rfl) (by kernel_rfl) (by kernel_rfl) (fun _ _ _ h => h) (Or.inl ⟨by first | kernel_rfl | rfl, ?yi1aa7⟩) hHeld ?ri1aa7
                        case yi1aa7 => (intro W hSW; (try dsimp only at hSW); go_simp; (try with_reducible rfl))
                        change wpAnyH _ _ _ _ _ _ _ (Act.put _ (some 128) _) _
                        simp only [Act.put, List.setIfInBounds_toArray, List.set_cons_zero, List.set_cons_succ]
                        refine wpAnyH_take (i := 8) (v := ?vi1aa8) rfl (by kernel_rfl) (by kernel_rfl) (by kernel_rfl) (fun _ _ _ h => h) (Or.inl ⟨by first | kernel_rfl | rfl, ?yi1aa8⟩) hHeld ?ri1aa8
                        case yi1aa8 => (intro W hSW; (try dsimp only at hSW); go_simp; (try with_reducible rfl))
                        change wpAnyH _ _ _ _ _ _ _ (Act.put _ (some 129) _) _
                        simp only [Act.put, List.setIfInBounds_toArray, List.set_cons_zero, List.set_cons_succ]
                        refine wpAnyH_take (i := 9) (v := ?vi1aa9) rfl (by kernel_rfl) (by kernel_rfl) (by kernel_rfl) (fun _ _ _ h => h) (Or.inl ⟨by first | kernel_rfl | rfl, ?yi1aa9⟩) hHeld ?ri1aa9
                        case yi1aa9 => (intro W hSW; (try dsimp only at hSW); go_simp; (try with_reducible rfl))
                        change wpAnyH _ _ _ _ _ _ _ (Act.put _ (some 130) _) _
                        simp only [Act.put, List.setIfInBounds_toArray, List.set_cons_zero, List.set_cons_succ]
                        refine wpAnyH_take (i := 10) (v := ?vi1aa10) rfl (by kernel_rfl) (by kernel_rfl) (by kernel_rfl) (fun _ _ _ h => h) (Or.inl ⟨by first | kernel_rfl | rfl, ?yi1aa10⟩) hHeld ?ri1aa10
                        case yi1aa10 => (intro W hSW; (try dsimp only at hSW); go_simp; (try with_reducible rfl))
                        change wpAnyH _ _ _ _ _ _ _ (Act.put _ (some 131) _) _
                        simp only [Act.put, List.setIfInBounds_toArray, List.set_cons_zero, List.set_cons_succ]
                        refine wpAnyH_take (i := 11) (v := ?vi1aa11) rfl (by kernel_rfl) (by kernel_rfl) (by kernel_rfl) (fun _ _ _ h => h) (Or.inl ⟨by first | kernel_rfl | rfl, ?yi1aa11⟩) hHeld ?ri1aa11
                        case yi1aa11 => (intro W hSW; (try dsimp only at hSW); go_simp; (try with_reducible rfl))
                        change wpAnyH _ _ _ _ _ _ _ (Act.put _ (some 132) _) _
                        simp only [Act.put, List.setIfInBounds_toArray, List.set_cons_zero, List.set_cons_succ]
                        refine wpAnyH_take (i := 12) (v := ?vi1aa12) rfl (by kernel_rfl) (by kernel_rfl) (by kernel_rfl) (fun _ _ _ h => h) (Or.inl ⟨by first | kernel_rfl | rfl, ?yi1aa12⟩) hHeld ?ri1aa12
                        case yi1aa12 => (intro W hSW; (try dsimp only at hSW); go_simp; (try with_reducible rfl))
                        change wpAnyH _ _ _ _ _ _ _ (Act.put _ (some 133) _) _
                        simp only [Act.put, List.setIfInBounds_toArray, List.set_cons_zero, List.set_cons_succ]
                        refine wpAnyH_take (i := 13) (v := ?vi1aa13) rfl (by kernel_rfl) (by kernel_rfl) (by kernel_rfl) (fun _ _ _ h => h) (Or.inl ⟨by first | kernel_rfl | rfl, ?yi1aa13⟩) hHeld ?ri1aa13
                        case yi1aa13 => (intro W hSW; (try dsimp only at hSW); go_simp; (try with_reducible rfl))
                        change wpAnyH _ _ _ _ _ _ _ (Act.put _ (some 134) _) _
                        simp only [Act.put, List.setIfInBounds_toArray, List.set_cons_zero, List.set_cons_succ]
                        refine wpAnyH_take (i := 14) (v := ?vi1aa14) rfl (by kernel_rfl) (by kernel_rfl) (by kernel_rfl) (fun _ _ _ h => h) (Or.inl ⟨by first | kernel_rfl | rfl, ?yi1aa14⟩) hHeld ?ri1aa14
                        case yi1aa14 => (intro W hSW; (try dsimp only at hSW); go_simp; (try with_reducible rfl))
                        change wpAnyH _ _ _ _ _ _ _ (Act.put _ (some 135) _) _
                        simp only [Act.put, List.setIfInBounds_toArray, List.set_cons_zero, List.set_cons_succ]
                        refine wpAnyH_take (i := 15) (v := ?vi1aa15) rfl (by kernel_rfl) (by kernel_rfl) (by kernel_rfl) (fun _ _ _ h => h) (Or.inl ⟨by first | kernel_rfl | rfl, ?yi1aa15⟩) hHeld ?ri1aa15
                        case yi1aa15 => (intro W hSW; (try dsimp only at hSW); go_simp; (try with_reducible rfl))
                        change wpAnyH _ _ _ _ _ _ _ (Act.put _ (some 136) _) _
                        simp only [Act.put, List.setIfInBounds_toArray, List.set_cons_zero, List.set_cons_succ]
                        refine wpAnyH_take (i := 16) (v := undef) rfl (by kernel_rfl) (by kernel_rfl) (by kernel_rfl) (fun _ _ _ h => h) (Or.inr ⟨by first | kernel_rfl | rfl, rfl⟩) hHeld ?_
                        change wpAnyH _ _ _ _ _ _ _ (Act.put _ (some 137) _) _
                        simp only [Act.put, List.setIfInBounds_toArray, List.set_cons_zero, List.set_cons_succ]
                        refine wpAnyH_take (i := 17) (v := undef) rfl (by kernel_rfl) (by kernel_rfl) (by kernel_rfl) (fun _ _ _ h => h) (Or.inr ⟨by first | kernel_rfl | rfl, rfl⟩) hHeld ?_
                        change wpAnyH _ _ _ _ _ _ _ (Act.put _ (some 138) _) _
                        simp only [Act.put, List.setIfInBounds_toArray, List.set_cons_zero, List.set_cons_succ]
                        refine wpAnyH_take (i := 18) (v := undef) rfl (by kernel_rfl) (by kernel_rfl) (by kernel_rfl) (fun _ _ _ h => h) (Or.inr ⟨by first | kernel_rfl | rfl, rfl⟩) hHeld ?_
                        change wpAnyH _ _ _ _ _ _ _ (Act.put _ (some 139) _) _
                        simp only [Act.put, List.setIfInBounds_toArray, List.set_cons_zero, List.set_cons_succ]
                        refine wpAnyH_take (i := 19) (v := undef) rfl (by kernel_rfl) (by kernel_rfl) (by kernel_rfl) (fun _ _ _ h => h) (Or.inr ⟨by first | kernel_rfl | rfl, rfl⟩) hHeld ?_
                        change wpAnyH _ _ _ _ _ _ _ (Act.put _ (some 140) _) _
                        simp only [Act.put, List.setIfInBounds_toArray, List.set_cons_zero, List.set_cons_succ]
                        refine wpAnyH_take (i := 20) (v := undef) rfl (by kernel_rfl) (by kernel_rfl) (by kernel_rfl) (fun _ _ _ h => h) (Or.inr ⟨by first | kernel_rfl | rfl, rfl⟩) hHeld ?_
                        change wpAnyH _ _ _ _ _ _ _ (Act.put _ (some 141) _) _
                        simp only [Act.put, List.setIfInBounds_toArray, List.set_cons_zero, List.set_cons_succ]
                        refine wpAnyH_take (i := 21) (v := undef) rfl (by kernel_rfl) (by kernel_rfl) (by kernel_rfl) (fun _ _ _ h => h) (Or.inr ⟨by first | kernel_rfl | rfl, rfl⟩) hHeld ?_
                        change wpAnyH _ _ _ _ _ _ _ (Act.put _ (some 142) _) _
                        simp only [Act.put, List.setIfInBounds_toArray, List.set_cons_zero, List.set_cons_succ]
                        refine wpAnyH_take (i := 22) (v := undef) rfl (by kernel_rfl) (by kernel_rfl) (by kernel_rfl) (fun _ _ _ h => h) (Or.inr ⟨by first | kernel_rfl | rfl, rfl⟩) hHeld ?_
                        change wpAnyH _ _ _ _ _ _ _ (Act.put _ (some 143) _) _
                        simp only [Act.put, List.setIfInBounds_toArray, List.set_cons_zero, List.set_cons_succ]
                        refine wpAnyH_take (i := 23) (v := undef) rfl (by kernel_rfl) (by kernel_rfl) (by kernel_rfl) (fun _ _ _ h => h) (Or.inr ⟨by first | kernel_rfl | rfl, rfl⟩) hHeld ?_
                        change wpAnyH _ _ _ _ _ _ _ (Act.put _ (some 144) _) _
                        simp only [Act.put, List.setIfInBounds_toArray, List.set_cons_zero, List.set_cons_succ]
                        refine wpAnyH_take (i := 24) (v := undef) rfl (by kernel_rfl) (by kernel_rfl) (by kernel_rfl) (fun _ _ _ h => h) (Or.inr ⟨by first | kernel_rfl | rfl, rfl⟩) hHeld ?_
                        change wpAnyH _ _ _ _ _ _ _ (Act.put _ (some 145) _) _
                        simp only [Act.put, List.setIfInBounds_toArray, List.set_cons_zero, List.set_cons_succ]
                        refine wpAnyH_take (i := 25) (v := undef) rfl (by kernel_rfl) (by kernel_rfl) (by kernel_rfl) (fun _ _ _ h => h) (Or.inr ⟨by first | kernel_rfl | rfl, rfl⟩) hHeld ?_
                        change wpAnyH _ _ _ _ _ _ _ (Act.put _ (some 146) _) _
                        simp only [Act.put, List.setIfInBounds_toArray, List.set_cons_zero, List.set_cons_succ]
                        refine wpAnyH_take (i := 26) (v := ?vi1aa26) rfl (by kernel_rfl) (by kernel_rfl) (by kernel_rfl) (fun _ _ _ h => h) (Or.inl ⟨by first | kernel_rfl | rfl, ?yi1aa26⟩) hHeld ?ri1aa26
                        case yi1aa26 => (intro W hSW; (try dsimp only at hSW); go_simp; (try with_reducible rfl))
                        change wpAnyH _ _ _ _ _ _ _ (Act.put _ (some 147) _) _
                        simp only [Act.put, List.setIfInBounds_toArray, List.set_cons_zero, List.set_cons_succ]
                        refine wpAnyH_take (i := 27) (v := ?vi1aa27) rfl (by kernel_rfl) (by kernel_rfl) (by kernel_rfl) (fun _ _ _ h => h) (Or.inl ⟨by first | kernel_rfl | rfl, ?yi1aa27⟩) hHeld ?ri1aa27
                        case yi1aa27 => (intro W hSW; (try dsimp only at hSW); go_simp; (try with_reducible rfl))
                        change wpAnyH _ _ _ _ _ _ _ (Act.put _ (some 17) _) _
                        simp only [Act.put, List.setIfInBounds_toArray, List.set_cons_zero, List.set_cons_succ]
                        refine wpAnyH_done (by kernel_rfl) ?_ _
                        clear hHeld HCS HB
                        go_wp2
                        exact ⟨⟨k + 1, false, by omega, by omega, rfl, by go_num, HNB.out, .inr HX.out⟩, by simp [intOf]; omega⟩
                    · have HCS : Hid (∀ V, Below w17.heap.size w17 V → V.cell? ⟨b, oo + k * 5, none⟩ = some (.int .i64 kd) ∧ V.cell? ⟨b, oo + k * 5 + 1, none⟩ = some (.int .i64 ad) ∧ V.cell? ⟨b, oo + k * 5 + 2, none⟩ = some (.int .i64 lo) ∧ V.cell? ⟨b, oo + k * 5 + 3, none⟩ = some (.int .u8 (fi : Int)) ∧ V.cell? ⟨b, oo + k * 5 + 4, none⟩ = some (.slice pa pl pc)) := fun V hV0 => by
                        have hV := hB1 V hV0
                        exact ⟨by rw [hV.cell hbl]; exact d0, by rw [hV.cell hbl]; exact d1, by rw [hV.cell hbl]; exact d2, by rw [hV.cell hbl]; exact d3, by rw [hV.cell hbl]; exact d4⟩
                      have qkb : (kd == 0) = false := by simpa using q0
                      have HX : Hid (∃ j, ∃ hj : j < l1.length, k + 1 ≤ j ∧ j < min len1 60 ∧ meets l1[j] i tn) := HNEXT.out (fun h => q0 h.1)
                      have HNB : Hid (Below w17.heap.size w17 wr.drew) := HB.out.drew
                      clear d0 d1 d2 d3 d4 HNEXT hB1
                      go_wp2
                      refine wp_region_held_drew (S := fun V => (V.cell? ⟨b, oo + k * 5, none⟩ = some (.int .i64 kd) ∧ V.cell? ⟨b, oo + k * 5 + 1, none⟩ = some (.int .i64 ad) ∧ V.cell? ⟨b, oo + k * 5 + 2, none⟩ = some (.int .i64 lo) ∧ V.cell? ⟨b, oo + k * 5 + 3, none⟩ = some (.int .u8 (fi : Int)) ∧ V.cell? ⟨b, oo + k * 5 + 4, none⟩ = some (.slice pa pl pc)) ∧ V.cell? ⟨nb, i, none⟩ = some (.string tn) ∧ V.cell? ⟨kb, i, none⟩ = some (.string tn) ∧ V.cell? ⟨lb, i, none⟩ = some (.string tl) ∧ V.cell? ⟨mb, i, none⟩ = some (.string tl)) (by kernel_rfl) (⟨HCS.out _ HB.out.drew, HRW.out _ HB.out.drew⟩) (fun hHeld => ?_)
                      refine wpAnyH_take (i := 0) (v := ?vi1kk0) rfl (by kernel_rfl) (by kernel_rfl) (by kernel_rfl) (fun _ _ _ h => h) (Or.inl ⟨by first | kernel_rfl | rfl, ?yi1kk0⟩) hHeld ?ri1kk0
                      case yi1kk0 => (intro W hSW; (try dsimp only at hSW); go_simp; (try with_reducible rfl))
                      change wpAnyH _ _ _ _ _ _ _ (Act.put _ (some 121) _) _
                      simp only [Act.put, List.setIfInBounds_toArray, List.set_cons_zero, List.set_cons_succ]
                      refine wpAnyH_take (i := 1) (v := ?vi1kk1) rfl (by kernel_rfl) (by kernel_rfl) (by kernel_rfl) (fun _ _ _ h => h) (Or.inl ⟨by first | kernel_rfl | rfl, ?yi1kk1⟩) hHeld ?ri1kk1
                      case yi1kk1 => (intro W hSW; (try dsimp only at hSW); go_simp; (try with_reducible rfl))
                      change wpAnyH _ _ _ _ _ _ _ (Act.put _ (some 122) _) _
                      simp only [Act.put, List.setIfInBounds_toArray, List.set_cons_zero, List.set_cons_succ]
                      refine wpAnyH_take (i := 2) (v := ?vi1kk2) rfl (by kernel_rfl) (by kernel_rfl) (by kernel_rfl) (fun _ _ _ h => h) (Or.inl ⟨by first | kernel_rfl | rfl, ?yi1kk2⟩) hHeld ?ri1kk2
                      case yi1kk2 => (intro W hSW; (try dsimp only at hSW); go_simp; (try with_reducible rfl))
                      change wpAnyH _ _ _ _ _ _ _ (Act.put _ (some 123) _) _
                      simp only [Act.put, List.setIfInBounds_toArray, List.set_cons_zero, List.set_cons_succ]
                      refine wpAnyH_take (i := 3) (v := ?vi1kk3) rfl (by kernel_rfl) (by kernel_rfl) (by kernel_rfl) (fun _ _ _ h => h) (Or.inl ⟨by first | kernel_rfl | rfl, ?yi1kk3⟩) hHeld ?ri1kk3
                      case yi1kk3 => (intro W hSW; (try dsimp only at hSW); go_simp; (try with_reducible rfl))
                      change wpAnyH _ _ _ _ _ _ _ (Act.put _ (some 124) _) _
                      simp only [Act.put, List.setIfInBounds_toArray, List.set_cons_zero, List.set_cons_succ]
                      refine wpAnyH_take (i := 4) (v := ?vi1kk4) rfl (by kernel_rfl) (by kernel_rfl) (by kernel_rfl) (fun _ _ _ h => h) (Or.inl ⟨by first | kernel_rfl | rfl, ?yi1kk4⟩) hHeld ?ri1kk4
                      case yi1kk4 => (intro W hSW; (try dsimp only at hSW); go_simp; (try with_reducible rfl))
                      change wpAnyH _ _ _ _ _ _ _ (Act.put _ (some 125) _) _
                      simp only [Act.put, List.setIfInBounds_toArray, List.set_cons_zero, List.set_cons_succ]
                      refine wpAnyH_take (i := 5) (v := ?vi1kk5) rfl (by kernel_rfl) (by kernel_rfl) (by kernel_rfl) (fun _ _ _ h => h) (Or.inl ⟨by first | kernel_rfl | rfl, ?yi1kk5⟩) hHeld ?ri1kk5
                      case yi1kk5 => (intro W hSW; (try dsimp only at hSW); go_simp; (try with_reducible rfl))
                      change wpAnyH _ _ _ _ _ _ _ (Act.put _ (some 126) _) _
                      simp only [Act.put, List.setIfInBounds_toArray, List.set_cons_zero, List.set_cons_succ]
                      refine wpAnyH_take (i := 6) (v := ?vi1kk6) rfl (by kernel_rfl) (by kernel_rfl) (by kernel_rfl) (fun _ _ _ h => h) (Or.inl ⟨by first | kernel_rfl | rfl, ?yi1kk6⟩) hHeld ?ri1kk6
                      case yi1kk6 => (intro W hSW; (try dsimp only at hSW); go_simp; (try with_reducible rfl))
                      change wpAnyH _ _ _ _ _ _ _ (Act.put _ (some 127) _) _
                      simp only [Act.put, List.setIfInBounds_toArray, List.set_cons_zero, List.set_cons_succ]
                      refine wpAnyH_take (i := 7) (v := undef) rfl (by kernel_rfl) (by kernel_rfl) (by kernel_rfl) (fun _ _ _ h => h) (Or.inr ⟨by first | kernel_rfl | rfl, rfl⟩) hHeld ?_
                      change wpAnyH _ _ _ _ _ _ _ (Act.put _ (some 128) _) _
                      simp only [Act.put, List.setIfInBounds_toArray, List.set_cons_zero, List.set_cons_succ]
                      refine wpAnyH_take (i := 8) (v := undef) rfl (by kernel_rfl) (by kernel_rfl) (by kernel_rfl) (fun _ _ _ h => h) (Or.inr ⟨by first | kernel_rfl | rfl, rfl⟩) hHeld ?_
                      change wpAnyH _ _ _ _ _ _ _ (Act.put _ (some 129) _) _
                      simp only [Act.put, List.setIfInBounds_toArray, List.set_cons_zero, List.set_cons_succ]
                      refine wpAnyH_take (i := 9) (v := undef) rfl (by kernel_rfl) (by kernel_rfl) (by kernel_rfl) (fun _ _ _ h => h) (Or.inr ⟨by first | kernel_rfl | rfl, rfl⟩) hHeld ?_
                      change wpAnyH _ _ _ _ _ _ _ (Act.put _ (some 130) _) _
                      simp only [Act.put, List.setIfInBounds_toArray, List.set_cons_zero, List.set_cons_succ]
                      refine wpAnyH_take (i := 10) (v := undef) rfl (by kernel_rfl) (by kernel_rfl) (by kernel_rfl) (fun _ _ _ h => h) (Or.inr ⟨by first | kernel_rfl | rfl, rfl⟩) hHeld ?_
                      change wpAnyH _ _ _ _ _ _ _ (Act.put _ (some 131) _) _
                      simp only [Act.put, List.setIfInBounds_toArray, List.set_cons_zero, List.set_cons_succ]
                      refine wpAnyH_take (i := 11) (v := undef) rfl (by kernel_rfl) (by kernel_rfl) (by kernel_rfl) (fun _ _ _ h => h) (Or.inr ⟨by first | kernel_rfl | rfl, rfl⟩) hHeld ?_
                      change wpAnyH _ _ _ _ _ _ _ (Act.put _ (some 132) _) _
                      simp only [Act.put, List.setIfInBounds_toArray, List.set_cons_zero, List.set_cons_succ]
                      refine wpAnyH_take (i := 12) (v := undef) rfl (by kernel_rfl) (by kernel_rfl) (by kernel_rfl) (fun _ _ _ h => h) (Or.inr ⟨by first | kernel_rfl | rfl, rfl⟩) hHeld ?_
                      change wpAnyH _ _ _ _ _ _ _ (Act.put _ (some 133) _) _
                      simp only [Act.put, List.setIfInBounds_toArray, List.set_cons_zero, List.set_cons_succ]
                      refine wpAnyH_take (i := 13) (v := undef) rfl (by kernel_rfl) (by kernel_rfl) (by kernel_rfl) (fun _ _ _ h => h) (Or.inr ⟨by first | kernel_rfl | rfl, rfl⟩) hHeld ?_
                      change wpAnyH _ _ _ _ _ _ _ (Act.put _ (some 134) _) _
                      simp only [Act.put, List.setIfInBounds_toArray, List.set_cons_zero, List.set_cons_succ]
                      refine wpAnyH_take (i := 14) (v := ?vi1kk14) rfl (by kernel_rfl) (by kernel_rfl) (by kernel_rfl) (fun _ _ _ h => h) (Or.inl ⟨by first | kernel_rfl | rfl, ?yi1kk14⟩) hHeld ?ri1kk14
                      case yi1kk14 => (intro W hSW; (try dsimp only at hSW); go_simp; (try with_reducible rfl))
                      change wpAnyH _ _ _ _ _ _ _ (Act.put _ (some 135) _) _
                      simp only [Act.put, List.setIfInBounds_toArray, List.set_cons_zero, List.set_cons_succ]
                      refine wpAnyH_take (i := 15) (v := ?vi1kk15) rfl (by kernel_rfl) (by kernel_rfl) (by kernel_rfl) (fun _ _ _ h => h) (Or.inl ⟨by first | kernel_rfl | rfl, ?yi1kk15⟩) hHeld ?ri1kk15
                      case yi1kk15 => (intro W hSW; (try dsimp only at hSW); go_simp; (try with_reducible rfl))
                      change wpAnyH _ _ _ _ _ _ _ (Act.put _ (some 136) _) _
                      simp only [Act.put, List.setIfInBounds_toArray, List.set_cons_zero, List.set_cons_succ]
                      refine wpAnyH_take (i := 16) (v := undef) rfl (by kernel_rfl) (by kernel_rfl) (by kernel_rfl) (fun _ _ _ h => h) (Or.inr ⟨by first | kernel_rfl | rfl, rfl⟩) hHeld ?_
                      change wpAnyH _ _ _ _ _ _ _ (Act.put _ (some 137) _) _
                      simp only [Act.put, List.setIfInBounds_toArray, List.set_cons_zero, List.set_cons_succ]
                      refine wpAnyH_take (i := 17) (v := undef) rfl (by kernel_rfl) (by kernel_rfl) (by kernel_rfl) (fun _ _ _ h => h) (Or.inr ⟨by first | kernel_rfl | rfl, rfl⟩) hHeld ?_
                      change wpAnyH _ _ _ _ _ _ _ (Act.put _ (some 138) _) _
                      simp only [Act.put, List.setIfInBounds_toArray, List.set_cons_zero, List.set_cons_succ]
                      refine wpAnyH_take (i := 18) (v := undef) rfl (by kernel_rfl) (by kernel_rfl) (by kernel_rfl) (fun _ _ _ h => h) (Or.inr ⟨by first | kernel_rfl | rfl, rfl⟩) hHeld ?_
                      change wpAnyH _ _ _ _ _ _ _ (Act.put _ (some 139) _) _
                      simp only [Act.put, List.setIfInBounds_toArray, List.set_cons_zero, List.set_cons_succ]
                      refine wpAnyH_take (i := 19) (v := undef) rfl (by kernel_rfl) (by kernel_rfl) (by kernel_rfl) (fun _ _ _ h => h) (Or.inr ⟨by first | kernel_rfl | rfl, rfl⟩) hHeld ?_
                      change wpAnyH _ _ _ _ _ _ _ (Act.put _ (some 140) _) _
                      simp only [Act.put, List.setIfInBounds_toArray, List.set_cons_zero, List.set_cons_succ]
                      refine wpAnyH_take (i := 20) (v := undef) rfl (by kernel_rfl) (by kernel_rfl) (by kernel_rfl) (fun _ _ _ h => h) (Or.inr ⟨by first | kernel_rfl | rfl, rfl⟩) hHeld ?_
                      change wpAnyH _ _ _ _ _ _ _ (Act.put _ (some 141) _) _
                      simp only [Act.put, List.setIfInBounds_toArray, List.set_cons_zero, List.set_cons_succ]
                      refine wpAnyH_take (i := 21) (v := undef) rfl (by kernel_rfl) (by kernel_rfl) (by kernel_rfl) (fun _ _ _ h => h) (Or.inr ⟨by first | kernel_rfl | rfl, rfl⟩) hHeld ?_
                      change wpAnyH _ _ _ _ _ _ _ (Act.put _ (some 142) _) _
                      simp only [Act.put, List.setIfInBounds_toArray, List.set_cons_zero, List.set_cons_succ]
                      refine wpAnyH_take (i := 22) (v := undef) rfl (by kernel_rfl) (by kernel_rfl) (by kernel_rfl) (fun _ _ _ h => h) (Or.inr ⟨by first | kernel_rfl | rfl, rfl⟩) hHeld ?_
                      change wpAnyH _ _ _ _ _ _ _ (Act.put _ (some 143) _) _
                      simp only [Act.put, List.setIfInBounds_toArray, List.set_cons_zero, List.set_cons_succ]
                      refine wpAnyH_take (i := 23) (v := undef) rfl (by kernel_rfl) (by kernel_rfl) (by kernel_rfl) (fun _ _ _ h => h) (Or.inr ⟨by first | kernel_rfl | rfl, rfl⟩) hHeld ?_
                      change wpAnyH _ _ _ _ _ _ _ (Act.put _ (some 144) _) _
                      simp only [Act.put, List.setIfInBounds_toArray, List.set_cons_zero, List.set_cons_succ]
                      refine wpAnyH_take (i := 24) (v := undef) rfl (by kernel_rfl) (by kernel_rfl) (by kernel_rfl) (fun _ _ _ h => h) (Or.inr ⟨by first | kernel_rfl | rfl, rfl⟩) hHeld ?_
                      change wpAnyH _ _ _ _ _ _ _ (Act.put _ (some 145) _) _
                      simp only [Act.put, List.setIfInBounds_toArray, List.set_cons_zero, List.set_cons_succ]
                      refine wpAnyH_take (i := 25) (v := undef) rfl (by kernel_rfl) (by kernel_rfl) (by kernel_rfl) (fun _ _ _ h => h) (Or.inr ⟨by first | kernel_rfl | rfl, rfl⟩) hHeld ?_
                      change wpAnyH _ _ _ _ _ _ _ (Act.put _ (some 146) _) _
                      simp only [Act.put, List.setIfInBounds_toArray, List.set_cons_zero, List.set_cons_succ]
                      refine wpAnyH_take (i := 26) (v := ?vi1kk26) rfl (by kernel_rfl) (by kernel_rfl) (by kernel_rfl) (fun _ _ _ h => h) (Or.inl ⟨by first | kernel_rfl | rfl, ?yi1kk26⟩) hHeld ?ri1kk26
                      case yi1kk26 => (intro W hSW; (try dsimp only at hSW); go_simp; (try with_reducible rfl))
                      change wpAnyH _ _ _ _ _ _ _ (Act.put _ (some 147) _) _
                      simp only [Act.put, List.setIfInBounds_toArray, List.set_cons_zero, List.set_cons_succ]
                      refine wpAnyH_take (i := 27) (v := ?vi1kk27) rfl (by kernel_rfl) (by kernel_rfl) (by kernel_rfl) (fun _ _ _ h => h) (Or.inl ⟨by first | kernel_rfl | rfl, ?yi1kk27⟩) hHeld ?ri1kk27
                      case yi1kk27 => (intro W hSW; (try dsimp only at hSW); go_simp; (try with_reducible rfl))
                      change wpAnyH _ _ _ _ _ _ _ (Act.put _ (some 17) _) _
                      simp only [Act.put, List.setIfInBounds_toArray, List.set_cons_zero, List.set_cons_succ]
                      refine wpAnyH_done (by kernel_rfl) ?_ _
                      clear hHeld HCS HB
                      go_wp2
                      exact ⟨⟨k + 1, false, by omega, by omega, rfl, by go_num, HNB.out, .inr HX.out⟩, by simp [intOf]; omega⟩
              · have nb1 : (tn.toList == tk.toList) = false := str_nb h1
                have HEX : Hid (∃ j, ∃ hj : j < l1.length, 0 ≤ j ∧ j < min len1 60 ∧ meets l1[j] i tn) := by
                  rcases HFR.out with h | ⟨j, hj, h2, h3⟩
                  · exact absurd h h1
                  · exact ⟨j, hj, by omega, h2, h3⟩
                by_cases h2 : tn = tl
                · subst h2
                  have nb2 : ¬ tn.toList = tk.toList := str_ne h1
                  clear h1
                  go_wp2
                  refine wp_region_held_drew (S := fun V => V.cell? ⟨nb, i, none⟩ = some (.string tn) ∧ V.cell? ⟨kb, i, none⟩ = some (.string tk) ∧ V.cell? ⟨lb, i, none⟩ = some (.string tn) ∧ V.cell? ⟨mb, i, none⟩ = some (.string tn)) (by kernel_rfl) (HRW.out _ HB.out.drew) (fun hHeld => ?_)
                  refine wpAnyH_take (i := 0) (v := ?vzB0) rfl (by kernel_rfl) (by kernel_rfl) (by kernel_rfl) (fun _ _ _ h => h) (Or.inl ⟨by first | kernel_rfl | rfl, ?yzB0⟩) hHeld ?rzB0
                  case yzB0 => (intro W hSW; (try dsimp only at hSW); go_simp; (try with_reducible rfl))
                  change wpAnyH _ _ _ _ _ _ _ (Act.put _ (some 87) _) _
                  simp only [Act.put, List.setIfInBounds_toArray, List.set_cons_zero, List.set_cons_succ]
                  refine wpAnyH_take (i := 1) (v := ?vzB1) rfl (by kernel_rfl) (by kernel_rfl) (by kernel_rfl) (fun _ _ _ h => h) (Or.inl ⟨by first | kernel_rfl | rfl, ?yzB1⟩) hHeld ?rzB1
                  case yzB1 => (intro W hSW; (try dsimp only at hSW); go_simp; (try with_reducible rfl))
                  change wpAnyH _ _ _ _ _ _ _ (Act.put _ (some 88) _) _
                  simp only [Act.put, List.setIfInBounds_toArray, List.set_cons_zero, List.set_cons_succ]
                  refine wpAnyH_take (i := 2) (v := ?vzB2) rfl (by kernel_rfl) (by kernel_rfl) (by kernel_rfl) (fun _ _ _ h => h) (Or.inl ⟨by first | kernel_rfl | rfl, ?yzB2⟩) hHeld ?rzB2
                  case yzB2 => (intro W hSW; (try dsimp only at hSW); go_simp; (try with_reducible rfl))
                  change wpAnyH _ _ _ _ _ _ _ (Act.put _ (some 89) _) _
                  simp only [Act.put, List.setIfInBounds_toArray, List.set_cons_zero, List.set_cons_succ]
                  refine wpAnyH_take (i := 3) (v := ?vzB3) rfl (by kernel_rfl) (by kernel_rfl) (by kernel_rfl) (fun _ _ _ h => h) (Or.inl ⟨by first | kernel_rfl | rfl, ?yzB3⟩) hHeld ?rzB3
                  case yzB3 => (intro W hSW; (try dsimp only at hSW); go_simp; (try with_reducible rfl))
                  change wpAnyH _ _ _ _ _ _ _ (Act.put _ (some 90) _) _
                  simp only [Act.put, List.setIfInBounds_toArray, List.set_cons_zero, List.set_cons_succ]
                  refine wpAnyH_take (i := 4) (v := ?vzB4) rfl (by kernel_rfl) (by kernel_rfl) (by kernel_rfl) (fun _ _ _ h => h) (Or.inl ⟨by first | kernel_rfl | rfl, ?yzB4⟩) hHeld ?rzB4
                  case yzB4 => (intro W hSW; (try dsimp only at hSW); go_simp; (try with_reducible rfl))
                  change wpAnyH _ _ _ _ _ _ _ (Act.put _ (some 91) _) _
                  simp only [Act.put, List.setIfInBounds_toArray, List.set_cons_zero, List.set_cons_succ]
                  refine wpAnyH_take (i := 5) (v := ?vzB5) rfl (by kernel_rfl) (by kernel_rfl) (by kernel_rfl) (fun _ _ _ h => h) (Or.inl ⟨by first | kernel_rfl | rfl, ?yzB5⟩) hHeld ?rzB5
                  case yzB5 => (intro W hSW; (try dsimp only at hSW); go_simp; (try with_reducible rfl))
                  change wpAnyH _ _ _ _ _ _ _ (Act.put _ (some 92) _) _
                  simp only [Act.put, List.setIfInBounds_toArray, List.set_cons_zero, List.set_cons_succ]
                  refine wpAnyH_take (i := 6) (v := ?vzB6) rfl (by kernel_rfl) (by kernel_rfl) (by kernel_rfl) (fun _ _ _ h => h) (Or.inl ⟨by first | kernel_rfl | rfl, ?yzB6⟩) hHeld ?rzB6
                  case yzB6 => (intro W hSW; (try dsimp only at hSW); go_simp; (try with_reducible rfl))
                  change wpAnyH _ _ _ _ _ _ _ (Act.put _ (some 93) _) _
                  simp only [Act.put, List.setIfInBounds_toArray, List.set_cons_zero, List.set_cons_succ]
                  refine wpAnyH_take (i := 7) (v := ?vzB7) rfl (by kernel_rfl) (by kernel_rfl) (by kernel_rfl) (fun _ _ _ h => h) (Or.inl ⟨by first | kernel_rfl | rfl, ?yzB7⟩) hHeld ?rzB7
                  case yzB7 => (intro W hSW; (try dsimp only at hSW); go_simp; (try with_reducible rfl))
                  change wpAnyH _ _ _ _ _ _ _ (Act.put _ (some 94) _) _
                  simp only [Act.put, List.setIfInBounds_toArray, List.set_cons_zero, List.set_cons_succ]
                  refine wpAnyH_take (i := 8) (v := ?vzB8) rfl (by kernel_rfl) (by kernel_rfl) (by kernel_rfl) (fun _ _ _ h => h) (Or.inl ⟨by first | kernel_rfl | rfl, ?yzB8⟩) hHeld ?rzB8
                  case yzB8 => (intro W hSW; (try dsimp only at hSW); go_simp; (try with_reducible rfl))
                  change wpAnyH _ _ _ _ _ _ _ (Act.put _ (some 95) _) _
                  simp only [Act.put, List.setIfInBounds_toArray, List.set_cons_zero, List.set_cons_succ]
                  refine wpAnyH_take (i := 9) (v := ?vzB9) rfl (by kernel_rfl) (by kernel_rfl) (by kernel_rfl) (fun _ _ _ h => h) (Or.inl ⟨by first | kernel_rfl | rfl, ?yzB9⟩) hHeld ?rzB9
                  case yzB9 => (intro W hSW; (try dsimp only at hSW); go_simp; (try with_reducible rfl))
                  change wpAnyH _ _ _ _ _ _ _ (Act.put _ (some 96) _) _
                  simp only [Act.put, List.setIfInBounds_toArray, List.set_cons_zero, List.set_cons_succ]
                  refine wpAnyH_take (i := 10) (v := ?vzB10) rfl (by kernel_rfl) (by kernel_rfl) (by kernel_rfl) (fun _ _ _ h => h) (Or.inl ⟨by first | kernel_rfl | rfl, ?yzB10⟩) hHeld ?rzB10
                  case yzB10 => (intro W hSW; (try dsimp only at hSW); go_simp; (try with_reducible rfl))
                  change wpAnyH _ _ _ _ _ _ _ (Act.put _ (some 97) _) _
                  simp only [Act.put, List.setIfInBounds_toArray, List.set_cons_zero, List.set_cons_succ]
                  refine wpAnyH_take (i := 11) (v := ?vzB11) rfl (by kernel_rfl) (by kernel_rfl) (by kernel_rfl) (fun _ _ _ h => h) (Or.inl ⟨by first | kernel_rfl | rfl, ?yzB11⟩) hHeld ?rzB11
                  case yzB11 => (intro W hSW; (try dsimp only at hSW); go_simp; (try with_reducible rfl))
                  change wpAnyH _ _ _ _ _ _ _ (Act.put _ (some 98) _) _
                  simp only [Act.put, List.setIfInBounds_toArray, List.set_cons_zero, List.set_cons_succ]
                  refine wpAnyH_take (i := 12) (v := ?vzB12) rfl (by kernel_rfl) (by kernel_rfl) (by kernel_rfl) (fun _ _ _ h => h) (Or.inl ⟨by first | kernel_rfl | rfl, ?yzB12⟩) hHeld ?rzB12
                  case yzB12 => (intro W hSW; (try dsimp only at hSW); go_simp; (try with_reducible rfl))
                  change wpAnyH _ _ _ _ _ _ _ (Act.put _ (some 99) _) _
                  simp only [Act.put, List.setIfInBounds_toArray, List.set_cons_zero, List.set_cons_succ]
                  refine wpAnyH_take (i := 13) (v := ?vzB13) rfl (by kernel_rfl) (by kernel_rfl) (by kernel_rfl) (fun _ _ _ h => h) (Or.inl ⟨by first | kernel_rfl | rfl, ?yzB13⟩) hHeld ?rzB13
                  case yzB13 => (intro W hSW; (try dsimp only at hSW); go_simp; (try with_reducible rfl))
                  change wpAnyH _ _ _ _ _ _ _ (Act.put _ (some 100) _) _
                  simp only [Act.put, List.setIfInBounds_toArray, List.set_cons_zero, List.set_cons_succ]
                  refine wpAnyH_take (i := 14) (v := ?vzB14) rfl (by kernel_rfl) (by kernel_rfl) (by kernel_rfl) (fun _ _ _ h => h) (Or.inl ⟨by first | kernel_rfl | rfl, ?yzB14⟩) hHeld ?rzB14
                  case yzB14 => (intro W hSW; (try dsimp only at hSW); go_simp; (try with_reducible rfl))
                  change wpAnyH _ _ _ _ _ _ _ (Act.put _ (some 101) _) _
                  simp only [Act.put, List.setIfInBounds_toArray, List.set_cons_zero, List.set_cons_succ]
                  refine wpAnyH_take (i := 15) (v := ?vzB15) rfl (by kernel_rfl) (by kernel_rfl) (by kernel_rfl) (fun _ _ _ h => h) (Or.inl ⟨by first | kernel_rfl | rfl, ?yzB15⟩) hHeld ?rzB15
                  case yzB15 => (intro W hSW; (try dsimp only at hSW); go_simp; (try with_reducible rfl))
                  change wpAnyH _ _ _ _ _ _ _ (Act.put _ (some 102) _) _
                  simp only [Act.put, List.setIfInBounds_toArray, List.set_cons_zero, List.set_cons_succ]
                  refine wpAnyH_take (i := 16) (v := ?vzB16) rfl (by kernel_rfl) (by kernel_rfl) (by kernel_rfl) (fun _ _ _ h => h) (Or.inl ⟨by first | kernel_rfl | rfl, ?yzB16⟩) hHeld ?rzB16
                  case yzB16 => (intro W hSW; (try dsimp only at hSW); go_simp; (try with_reducible rfl))
                  change wpAnyH _ _ _ _ _ _ _ (Act.put _ (some 103) _) _
                  simp only [Act.put, List.setIfInBounds_toArray, List.set_cons_zero, List.set_cons_succ]
                  refine wpAnyH_take (i := 17) (v := ?vzB17) rfl (by kernel_rfl) (by kernel_rfl) (by kernel_rfl) (fun _ _ _ h => h) (Or.inl ⟨by first | kernel_rfl | rfl, ?yzB17⟩) hHeld ?rzB17
                  case yzB17 => (intro W hSW; (try dsimp only at hSW); go_simp; (try with_reducible rfl))
                  change wpAnyH _ _ _ _ _ _ _ (Act.put _ (some 104) _) _
                  simp only [Act.put, List.setIfInBounds_toArray, List.set_cons_zero, List.set_cons_succ]
                  refine wpAnyH_take (i := 18) (v := ?vzB18) rfl (by kernel_rfl) (by kernel_rfl) (by kernel_rfl) (fun _ _ _ h => h) (Or.inl ⟨by first | kernel_rfl | rfl, ?yzB18⟩) hHeld ?rzB18
                  case yzB18 => (intro W hSW; (try dsimp only at hSW); go_simp; (try with_reducible rfl))
                  change wpAnyH _ _ _ _ _ _ _ (Act.put _ (some 105) _) _
                  simp only [Act.put, List.setIfInBounds_toArray, List.set_cons_zero, List.set_cons_succ]
                  refine wpAnyH_take (i := 19) (v := ?vzB19) rfl (by kernel_rfl) (by kernel_rfl) (by kernel_rfl) (fun _ _ _ h => h) (Or.inl ⟨by first | kernel_rfl | rfl, ?yzB19⟩) hHeld ?rzB19
                  case yzB19 => (intro W hSW; (try dsimp only at hSW); go_simp; (try with_reducible rfl))
                  change wpAnyH _ _ _ _ _ _ _ (Act.put _ (some 106) _) _
                  simp only [Act.put, List.setIfInBounds_toArray, List.set_cons_zero, List.set_cons_succ]
                  refine wpAnyH_take (i := 20) (v := ?vzB20) rfl (by kernel_rfl) (by kernel_rfl) (by kernel_rfl) (fun _ _ _ h => h) (Or.inl ⟨by first | kernel_rfl | rfl, ?yzB20⟩) hHeld ?rzB20
                  case yzB20 => (intro W hSW; (try dsimp only at hSW); go_simp; (try with_reducible rfl))
                  change wpAnyH _ _ _ _ _ _ _ (Act.put _ (some 17) _) _
                  simp only [Act.put, List.setIfInBounds_toArray, List.set_cons_zero, List.set_cons_succ]
                  refine wpAnyH_done (by kernel_rfl) ?_ _
                  clear hHeld HFR
                  go_wp2
                  go_loopw [17, 18] (fun bv v wr => ∃ (k : Nat) (ok : Bool), k ≤ len1 ∧ k ≤ 60 ∧ bv = .bool ok ∧ v = .int .i64 k ∧ Below w17.heap.size w17 wr ∧ (ok = true ∨ ∃ j, ∃ hj : j < l1.length, k ≤ j ∧ j < min len1 60 ∧ meets l1[j] i tn)) (fun _ v _ => 61 - (intOf v).toNat)
                  case atStart => exact ⟨0, true, by omega, by omega, rfl, rfl, HB.out.drew, .inl rfl⟩
                  case round =>
                    clear HB
                    obtain ⟨k, ok, hk1, hk2, rfl, rfl, hbel, hex⟩ := hrel
                    have HB : Hid (Below w17.heap.size w17 wr) := hbel
                    clear hbel
                    cases ok with
                    | true =>
                      clear hex
                      by_cases g1 : k < len1
                      · have kg1 : (k : Int) < (len1 : Int) := by omega
                        by_cases g2 : k < 60
                        · have kg2 : (k : Int) < 60 := by omega
                          go_wp2
                          refine wp_region_held_drew (S := fun V => V.cell? ⟨nb, i, none⟩ = some (.string tn) ∧ V.cell? ⟨kb, i, none⟩ = some (.string tk) ∧ V.cell? ⟨lb, i, none⟩ = some (.string tn) ∧ V.cell? ⟨mb, i, none⟩ = some (.string tn)) (by kernel_rfl) (HRW.out _ HB.out.drew) (fun hHeld => ?_)
                          refine wpAnyH_take (i := 0) (v := ?vi2FIN00) rfl (by kernel_rfl) (by kernel_rfl) (by kernel_rfl) (fun _ _ _ h => h) (Or.inl ⟨by first | kernel_rfl | rfl, ?yi2FIN00⟩) hHeld ?ri2FIN00
                          case yi2FIN00 => (intro W hSW; (try dsimp only at hSW); go_simp; (try with_reducible rfl))
                          change wpAnyH _ _ _ _ _ _ _ (Act.put _ (some 148) _) _
                          simp only [Act.put, List.setIfInBounds_toArray, List.set_cons_zero, List.set_cons_succ]
                          refine wpAnyH_take (i := 1) (v := ?vi2FIN01) rfl (by kernel_rfl) (by kernel_rfl) (by kernel_rfl) (fun _ _ _ h => h) (Or.inl ⟨by first | kernel_rfl | rfl, ?yi2FIN01⟩) hHeld ?ri2FIN01
                          case yi2FIN01 => (intro W hSW; (try dsimp only at hSW); go_simp; (try with_reducible rfl))
                          change wpAnyH _ _ _ _ _ _ _ (Act.put _ (some 149) _) _
                          simp only [Act.put, List.setIfInBounds_toArray, List.set_cons_zero, List.set_cons_succ]
                          refine wpAnyH_take (i := 2) (v := ?vi2FIN02) rfl (by kernel_rfl) (by kernel_rfl) (by kernel_rfl) (fun _ _ _ h => h) (Or.inl ⟨by first | kernel_rfl | rfl, ?yi2FIN02⟩) hHeld ?ri2FIN02
                          case yi2FIN02 => (intro W hSW; (try dsimp only at hSW); go_simp; (try with_reducible rfl))
                          change wpAnyH _ _ _ _ _ _ _ (Act.put _ (some 150) _) _
                          simp only [Act.put, List.setIfInBounds_toArray, List.set_cons_zero, List.set_cons_succ]
                          refine wpAnyH_take (i := 3) (v := ?vi2FIN03) rfl (by kernel_rfl) (by kernel_rfl) (by kernel_rfl) (fun _ _ _ h => h) (Or.inl ⟨by first | kernel_rfl | rfl, ?yi2FIN03⟩) hHeld ?ri2FIN03
                          case yi2FIN03 => (intro W hSW; (try dsimp only at hSW); go_simp; (try with_reducible rfl))
                          change wpAnyH _ _ _ _ _ _ _ (Act.put _ (some 151) _) _
                          simp only [Act.put, List.setIfInBounds_toArray, List.set_cons_zero, List.set_cons_succ]
                          refine wpAnyH_take (i := 4) (v := ?vi2FIN04) rfl (by kernel_rfl) (by kernel_rfl) (by kernel_rfl) (fun _ _ _ h => h) (Or.inl ⟨by first | kernel_rfl | rfl, ?yi2FIN04⟩) hHeld ?ri2FIN04
                          case yi2FIN04 => (intro W hSW; (try dsimp only at hSW); go_simp; (try with_reducible rfl))
                          change wpAnyH _ _ _ _ _ _ _ (Act.put _ (some 152) _) _
                          simp only [Act.put, List.setIfInBounds_toArray, List.set_cons_zero, List.set_cons_succ]
                          refine wpAnyH_take (i := 5) (v := ?vi2FIN05) rfl (by kernel_rfl) (by kernel_rfl) (by kernel_rfl) (fun _ _ _ h => h) (Or.inl ⟨by first | kernel_rfl | rfl, ?yi2FIN05⟩) hHeld ?ri2FIN05
                          case yi2FIN05 => (intro W hSW; (try dsimp only at hSW); go_simp; (try with_reducible rfl))
                          change wpAnyH _ _ _ _ _ _ _ (Act.put _ (some 153) _) _
                          simp only [Act.put, List.setIfInBounds_toArray, List.set_cons_zero, List.set_cons_succ]
                          refine wpAnyH_take (i := 6) (v := ?vi2FIN06) rfl (by kernel_rfl) (by kernel_rfl) (by kernel_rfl) (fun _ _ _ h => h) (Or.inl ⟨by first | kernel_rfl | rfl, ?yi2FIN06⟩) hHeld ?ri2FIN06
                          case yi2FIN06 => (intro W hSW; (try dsimp only at hSW); go_simp; (try with_reducible rfl))
                          change wpAnyH _ _ _ _ _ _ _ (Act.put _ (some 154) _) _
                          simp only [Act.put, List.setIfInBounds_toArray, List.set_cons_zero, List.set_cons_succ]
                          refine wpAnyH_take (i := 7) (v := ?vi2FIN07) rfl (by kernel_rfl) (by kernel_rfl) (by kernel_rfl) (fun _ _ _ h => h) (Or.inl ⟨by first | kernel_rfl | rfl, ?yi2FIN07⟩) hHeld ?ri2FIN07
                          case yi2FIN07 => (intro W hSW; (try dsimp only at hSW); go_simp; (try with_reducible rfl))
                          change wpAnyH _ _ _ _ _ _ _ (Act.put _ (some 155) _) _
                          simp only [Act.put, List.setIfInBounds_toArray, List.set_cons_zero, List.set_cons_succ]
                          refine wpAnyH_take (i := 8) (v := ?vi2FIN08) rfl (by kernel_rfl) (by kernel_rfl) (by kernel_rfl) (fun _ _ _ h => h) (Or.inl ⟨by first | kernel_rfl | rfl, ?yi2FIN08⟩) hHeld ?ri2FIN08
                          case yi2FIN08 => (intro W hSW; (try dsimp only at hSW); go_simp; (try with_reducible rfl))
                          change wpAnyH _ _ _ _ _ _ _ (Act.put _ (some 156) _) _
                          simp only [Act.put, List.setIfInBounds_toArray, List.set_cons_zero, List.set_cons_succ]
                          refine wpAnyH_take (i := 9) (v := ?vi2FIN09) rfl (by kernel_rfl) (by kernel_rfl) (by kernel_rfl) (fun _ _ _ h => h) (Or.inl ⟨by first | kernel_rfl | rfl, ?yi2FIN09⟩) hHeld ?ri2FIN09
                          case yi2FIN09 => (intro W hSW; (try dsimp only at hSW); go_simp; (try with_reducible rfl))
                          change wpAnyH _ _ _ _ _ _ _ (Act.put _ (some 157) _) _
                          simp only [Act.put, List.setIfInBounds_toArray, List.set_cons_zero, List.set_cons_succ]
                          refine wpAnyH_take (i := 10) (v := ?vi2FIN010) rfl (by kernel_rfl) (by kernel_rfl) (by kernel_rfl) (fun _ _ _ h => h) (Or.inl ⟨by first | kernel_rfl | rfl, ?yi2FIN010⟩) hHeld ?ri2FIN010
                          case yi2FIN010 => (intro W hSW; (try dsimp only at hSW); go_simp; (try with_reducible rfl))
                          change wpAnyH _ _ _ _ _ _ _ (Act.put _ (some 158) _) _
                          simp only [Act.put, List.setIfInBounds_toArray, List.set_cons_zero, List.set_cons_succ]
                          refine wpAnyH_take (i := 11) (v := ?vi2FIN011) rfl (by kernel_rfl) (by kernel_rfl) (by kernel_rfl) (fun _ _ _ h => h) (Or.inl ⟨by first | kernel_rfl | rfl, ?yi2FIN011⟩) hHeld ?ri2FIN011
                          case yi2FIN011 => (intro W hSW; (try dsimp only at hSW); go_simp; (try with_reducible rfl))
                          change wpAnyH _ _ _ _ _ _ _ (Act.put _ (some 159) _) _
                          simp only [Act.put, List.setIfInBounds_toArray, List.set_cons_zero, List.set_cons_succ]
                          refine wpAnyH_take (i := 12) (v := ?vi2FIN012) rfl (by kernel_rfl) (by kernel_rfl) (by kernel_rfl) (fun _ _ _ h => h) (Or.inl ⟨by first | kernel_rfl | rfl, ?yi2FIN012⟩) hHeld ?ri2FIN012
                          case yi2FIN012 => (intro W hSW; (try dsimp only at hSW); go_simp; (try with_reducible rfl))
                          change wpAnyH _ _ _ _ _ _ _ (Act.put _ (some 160) _) _
                          simp only [Act.put, List.setIfInBounds_toArray, List.set_cons_zero, List.set_cons_succ]
                          refine wpAnyH_done (by kernel_rfl) ?_ _
                          clear hHeld
                          go_wp2
                          exact ⟨⟨i + 1, by omega, by go_num, HB.out.drew⟩, by simp [intOf]; omega⟩
                        · have kg2 : ¬ (k : Int) < 60 := by omega
                          go_wp2
                          refine wp_region_held_drew (S := fun V => V.cell? ⟨nb, i, none⟩ = some (.string tn) ∧ V.cell? ⟨kb, i, none⟩ = some (.string tk) ∧ V.cell? ⟨lb, i, none⟩ = some (.string tn) ∧ V.cell? ⟨mb, i, none⟩ = some (.string tn)) (by kernel_rfl) (HRW.out _ HB.out.drew) (fun hHeld => ?_)
                          refine wpAnyH_take (i := 0) (v := ?vi2FIN10) rfl (by kernel_rfl) (by kernel_rfl) (by kernel_rfl) (fun _ _ _ h => h) (Or.inl ⟨by first | kernel_rfl | rfl, ?yi2FIN10⟩) hHeld ?ri2FIN10
                          case yi2FIN10 => (intro W hSW; (try dsimp only at hSW); go_simp; (try with_reducible rfl))
                          change wpAnyH _ _ _ _ _ _ _ (Act.put _ (some 148) _) _
                          simp only [Act.put, List.setIfInBounds_toArray, List.set_cons_zero, List.set_cons_succ]
                          refine wpAnyH_take (i := 1) (v := ?vi2FIN11) rfl (by kernel_rfl) (by kernel_rfl) (by kernel_rfl) (fun _ _ _ h => h) (Or.inl ⟨by first | kernel_rfl | rfl, ?yi2FIN11⟩) hHeld ?ri2FIN11
                          case yi2FIN11 => (intro W hSW; (try dsimp only at hSW); go_simp; (try with_reducible rfl))
                          change wpAnyH _ _ _ _ _ _ _ (Act.put _ (some 149) _) _
                          simp only [Act.put, List.setIfInBounds_toArray, List.set_cons_zero, List.set_cons_succ]
                          refine wpAnyH_take (i := 2) (v := ?vi2FIN12) rfl (by kernel_rfl) (by kernel_rfl) (by kernel_rfl) (fun _ _ _ h => h) (Or.inl ⟨by first | kernel_rfl | rfl, ?yi2FIN12⟩) hHeld ?ri2FIN12
                          case yi2FIN12 => (intro W hSW; (try dsimp only at hSW); go_simp; (try with_reducible rfl))
                          change wpAnyH _ _ _ _ _ _ _ (Act.put _ (some 150) _) _
                          simp only [Act.put, List.setIfInBounds_toArray, List.set_cons_zero, List.set_cons_succ]
                          refine wpAnyH_take (i := 3) (v := ?vi2FIN13) rfl (by kernel_rfl) (by kernel_rfl) (by kernel_rfl) (fun _ _ _ h => h) (Or.inl ⟨by first | kernel_rfl | rfl, ?yi2FIN13⟩) hHeld ?ri2FIN13
                          case yi2FIN13 => (intro W hSW; (try dsimp only at hSW); go_simp; (try with_reducible rfl))
                          change wpAnyH _ _ _ _ _ _ _ (Act.put _ (some 151) _) _
                          simp only [Act.put, List.setIfInBounds_toArray, List.set_cons_zero, List.set_cons_succ]
                          refine wpAnyH_take (i := 4) (v := ?vi2FIN14) rfl (by kernel_rfl) (by kernel_rfl) (by kernel_rfl) (fun _ _ _ h => h) (Or.inl ⟨by first | kernel_rfl | rfl, ?yi2FIN14⟩) hHeld ?ri2FIN14
                          case yi2FIN14 => (intro W hSW; (try dsimp only at hSW); go_simp; (try with_reducible rfl))
                          change wpAnyH _ _ _ _ _ _ _ (Act.put _ (some 152) _) _
                          simp only [Act.put, List.setIfInBounds_toArray, List.set_cons_zero, List.set_cons_succ]
                          refine wpAnyH_take (i := 5) (v := ?vi2FIN15) rfl (by kernel_rfl) (by kernel_rfl) (by kernel_rfl) (fun _ _ _ h => h) (Or.inl ⟨by first | kernel_rfl | rfl, ?yi2FIN15⟩) hHeld ?ri2FIN15
                          case yi2FIN15 => (intro W hSW; (try dsimp only at hSW); go_simp; (try with_reducible rfl))
                          change wpAnyH _ _ _ _ _ _ _ (Act.put _ (some 153) _) _
                          simp only [Act.put, List.setIfInBounds_toArray, List.set_cons_zero, List.set_cons_succ]
                          refine wpAnyH_take (i := 6) (v := ?vi2FIN16) rfl (by kernel_rfl) (by kernel_rfl) (by kernel_rfl) (fun _ _ _ h => h) (Or.inl ⟨by first | kernel_rfl | rfl, ?yi2FIN16⟩) hHeld ?ri2FIN16
                          case yi2FIN16 => (intro W hSW; (try dsimp only at hSW); go_simp; (try with_reducible rfl))
                          change wpAnyH _ _ _ _ _ _ _ (Act.put _ (some 154) _) _
                          simp only [Act.put, List.setIfInBounds_toArray, List.set_cons_zero, List.set_cons_succ]
                          refine wpAnyH_take (i := 7) (v := ?vi2FIN17) rfl (by kernel_rfl) (by kernel_rfl) (by kernel_rfl) (fun _ _ _ h => h) (Or.inl ⟨by first | kernel_rfl | rfl, ?yi2FIN17⟩) hHeld ?ri2FIN17
                          case yi2FIN17 => (intro W hSW; (try dsimp only at hSW); go_simp; (try with_reducible rfl))
                          change wpAnyH _ _ _ _ _ _ _ (Act.put _ (some 155) _) _
                          simp only [Act.put, List.setIfInBounds_toArray, List.set_cons_zero, List.set_cons_succ]
                          refine wpAnyH_take (i := 8) (v := ?vi2FIN18) rfl (by kernel_rfl) (by kernel_rfl) (by kernel_rfl) (fun _ _ _ h => h) (Or.inl ⟨by first | kernel_rfl | rfl, ?yi2FIN18⟩) hHeld ?ri2FIN18
                          case yi2FIN18 => (intro W hSW; (try dsimp only at hSW); go_simp; (try with_reducible rfl))
                          change wpAnyH _ _ _ _ _ _ _ (Act.put _ (some 156) _) _
                          simp only [Act.put, List.setIfInBounds_toArray, List.set_cons_zero, List.set_cons_succ]
                          refine wpAnyH_take (i := 9) (v := ?vi2FIN19) rfl (by kernel_rfl) (by kernel_rfl) (by kernel_rfl) (fun _ _ _ h => h) (Or.inl ⟨by first | kernel_rfl | rfl, ?yi2FIN19⟩) hHeld ?ri2FIN19
                          case yi2FIN19 => (intro W hSW; (try dsimp only at hSW); go_simp; (try with_reducible rfl))
                          change wpAnyH _ _ _ _ _ _ _ (Act.put _ (some 157) _) _
                          simp only [Act.put, List.setIfInBounds_toArray, List.set_cons_zero, List.set_cons_succ]
                          refine wpAnyH_take (i := 10) (v := ?vi2FIN110) rfl (by kernel_rfl) (by kernel_rfl) (by kernel_rfl) (fun _ _ _ h => h) (Or.inl ⟨by first | kernel_rfl | rfl, ?yi2FIN110⟩) hHeld ?ri2FIN110
                          case yi2FIN110 => (intro W hSW; (try dsimp only at hSW); go_simp; (try with_reducible rfl))
                          change wpAnyH _ _ _ _ _ _ _ (Act.put _ (some 158) _) _
                          simp only [Act.put, List.setIfInBounds_toArray, List.set_cons_zero, List.set_cons_succ]
                          refine wpAnyH_take (i := 11) (v := ?vi2FIN111) rfl (by kernel_rfl) (by kernel_rfl) (by kernel_rfl) (fun _ _ _ h => h) (Or.inl ⟨by first | kernel_rfl | rfl, ?yi2FIN111⟩) hHeld ?ri2FIN111
                          case yi2FIN111 => (intro W hSW; (try dsimp only at hSW); go_simp; (try with_reducible rfl))
                          change wpAnyH _ _ _ _ _ _ _ (Act.put _ (some 159) _) _
                          simp only [Act.put, List.setIfInBounds_toArray, List.set_cons_zero, List.set_cons_succ]
                          refine wpAnyH_take (i := 12) (v := ?vi2FIN112) rfl (by kernel_rfl) (by kernel_rfl) (by kernel_rfl) (fun _ _ _ h => h) (Or.inl ⟨by first | kernel_rfl | rfl, ?yi2FIN112⟩) hHeld ?ri2FIN112
                          case yi2FIN112 => (intro W hSW; (try dsimp only at hSW); go_simp; (try with_reducible rfl))
                          change wpAnyH _ _ _ _ _ _ _ (Act.put _ (some 160) _) _
                          simp only [Act.put, List.setIfInBounds_toArray, List.set_cons_zero, List.set_cons_succ]
                          refine wpAnyH_done (by kernel_rfl) ?_ _
                          clear hHeld
                          go_wp2
                          exact ⟨⟨i + 1, by omega, by go_num, HB.out.drew⟩, by simp [intOf]; omega⟩
                      · have kg1 : ¬ (k : Int) < (len1 : Int) := by omega
                        go_wp2
                        refine wp_region_held_drew (S := fun V => V.cell? ⟨nb, i, none⟩ = some (.string tn) ∧ V.cell? ⟨kb, i, none⟩ = some (.string tk) ∧ V.cell? ⟨lb, i, none⟩ = some (.string tn) ∧ V.cell? ⟨mb, i, none⟩ = some (.string tn)) (by kernel_rfl) (HRW.out _ HB.out.drew) (fun hHeld => ?_)
                        refine wpAnyH_take (i := 0) (v := ?vi2FIN20) rfl (by kernel_rfl) (by kernel_rfl) (by kernel_rfl) (fun _ _ _ h => h) (Or.inl ⟨by first | kernel_rfl | rfl, ?yi2FIN20⟩) hHeld ?ri2FIN20
                        case yi2FIN20 => (intro W hSW; (try dsimp only at hSW); go_simp; (try with_reducible rfl))
                        change wpAnyH _ _ _ _ _ _ _ (Act.put _ (some 148) _) _
                        simp only [Act.put, List.setIfInBounds_toArray, List.set_cons_zero, List.set_cons_succ]
                        refine wpAnyH_take (i := 1) (v := ?vi2FIN21) rfl (by kernel_rfl) (by kernel_rfl) (by kernel_rfl) (fun _ _ _ h => h) (Or.inl ⟨by first | kernel_rfl | rfl, ?yi2FIN21⟩) hHeld ?ri2FIN21
                        case yi2FIN21 => (intro W hSW; (try dsimp only at hSW); go_simp; (try with_reducible rfl))
                        change wpAnyH _ _ _ _ _ _ _ (Act.put _ (some 149) _) _
                        simp only [Act.put, List.setIfInBounds_toArray, List.set_cons_zero, List.set_cons_succ]
                        refine wpAnyH_take (i := 2) (v := ?vi2FIN22) rfl (by kernel_rfl) (by kernel_rfl) (by kernel_rfl) (fun _ _ _ h => h) (Or.inl ⟨by first | kernel_rfl | rfl, ?yi2FIN22⟩) hHeld ?ri2FIN22
                        case yi2FIN22 => (intro W hSW; (try dsimp only at hSW); go_simp; (try with_reducible rfl))
                        change wpAnyH _ _ _ _ _ _ _ (Act.put _ (some 150) _) _
                        simp only [Act.put, List.setIfInBounds_toArray, List.set_cons_zero, List.set_cons_succ]
                        refine wpAnyH_take (i := 3) (v := ?vi2FIN23) rfl (by kernel_rfl) (by kernel_rfl) (by kernel_rfl) (fun _ _ _ h => h) (Or.inl ⟨by first | kernel_rfl | rfl, ?yi2FIN23⟩) hHeld ?ri2FIN23
                        case yi2FIN23 => (intro W hSW; (try dsimp only at hSW); go_simp; (try with_reducible rfl))
                        change wpAnyH _ _ _ _ _ _ _ (Act.put _ (some 151) _) _
                        simp only [Act.put, List.setIfInBounds_toArray, List.set_cons_zero, List.set_cons_succ]
                        refine wpAnyH_take (i := 4) (v := ?vi2FIN24) rfl (by kernel_rfl) (by kernel_rfl) (by kernel_rfl) (fun _ _ _ h => h) (Or.inl ⟨by first | kernel_rfl | rfl, ?yi2FIN24⟩) hHeld ?ri2FIN24
                        case yi2FIN24 => (intro W hSW; (try dsimp only at hSW); go_simp; (try with_reducible rfl))
                        change wpAnyH _ _ _ _ _ _ _ (Act.put _ (some 152) _) _
                        simp only [Act.put, List.setIfInBounds_toArray, List.set_cons_zero, List.set_cons_succ]
                        refine wpAnyH_take (i := 5) (v := ?vi2FIN25) rfl (by kernel_rfl) (by kernel_rfl) (by kernel_rfl) (fun _ _ _ h => h) (Or.inl ⟨by first | kernel_rfl | rfl, ?yi2FIN25⟩) hHeld ?ri2FIN25
                        case yi2FIN25 => (intro W hSW; (try dsimp only at hSW); go_simp; (try with_reducible rfl))
                        change wpAnyH _ _ _ _ _ _ _ (Act.put _ (some 153) _) _
                        simp only [Act.put, List.setIfInBounds_toArray, List.set_cons_zero, List.set_cons_succ]
                        refine wpAnyH_take (i := 6) (v := ?vi2FIN26) rfl (by kernel_rfl) (by kernel_rfl) (by kernel_rfl) (fun _ _ _ h => h) (Or.inl ⟨by first | kernel_rfl | rfl, ?yi2FIN26⟩) hHeld ?ri2FIN26
                        case yi2FIN26 => (intro W hSW; (try dsimp only at hSW); go_simp; (try with_reducible rfl))
                        change wpAnyH _ _ _ _ _ _ _ (Act.put _ (some 154) _) _
                        simp only [Act.put, List.setIfInBounds_toArray, List.set_cons_zero, List.set_cons_succ]
                        refine wpAnyH_take (i := 7) (v := ?vi2FIN27) rfl (by kernel_rfl) (by kernel_rfl) (by kernel_rfl) (fun _ _ _ h => h) (Or.inl ⟨by first | kernel_rfl | rfl, ?yi2FIN27⟩) hHeld ?ri2FIN27
                        case yi2FIN27 => (intro W hSW; (try dsimp only at hSW); go_simp; (try with_reducible rfl))
                        change wpAnyH _ _ _ _ _ _ _ (Act.put _ (some 155) _) _
                        simp only [Act.put, List.setIfInBounds_toArray, List.set_cons_zero, List.set_cons_succ]
                        refine wpAnyH_take (i := 8) (v := ?vi2FIN28) rfl (by kernel_rfl) (by kernel_rfl) (by kernel_rfl) (fun _ _ _ h => h) (Or.inl ⟨by first | kernel_rfl | rfl, ?yi2FIN28⟩) hHeld ?ri2FIN28
                        case yi2FIN28 => (intro W hSW; (try dsimp only at hSW); go_simp; (try with_reducible rfl))
                        change wpAnyH _ _ _ _ _ _ _ (Act.put _ (some 156) _) _
                        simp only [Act.put, List.setIfInBounds_toArray, List.set_cons_zero, List.set_cons_succ]
                        refine wpAnyH_take (i := 9) (v := ?vi2FIN29) rfl (by kernel_rfl) (by kernel_rfl) (by kernel_rfl) (fun _ _ _ h => h) (Or.inl ⟨by first | kernel_rfl | rfl, ?yi2FIN29⟩) hHeld ?ri2FIN29
                        case yi2FIN29 => (intro W hSW; (try dsimp only at hSW); go_simp; (try with_reducible rfl))
                        change wpAnyH _ _ _ _ _ _ _ (Act.put _ (some 157) _) _
                        simp only [Act.put, List.setIfInBounds_toArray, List.set_cons_zero, List.set_cons_succ]
                        refine wpAnyH_take (i := 10) (v := ?vi2FIN210) rfl (by kernel_rfl) (by kernel_rfl) (by kernel_rfl) (fun _ _ _ h => h) (Or.inl ⟨by first | kernel_rfl | rfl, ?yi2FIN210⟩) hHeld ?ri2FIN210
                        case yi2FIN210 => (intro W hSW; (try dsimp only at hSW); go_simp; (try with_reducible rfl))
                        change wpAnyH _ _ _ _ _ _ _ (Act.put _ (some 158) _) _
                        simp only [Act.put, List.setIfInBounds_toArray, List.set_cons_zero, List.set_cons_succ]
                        refine wpAnyH_take (i := 11) (v := ?vi2FIN211) rfl (by kernel_rfl) (by kernel_rfl) (by kernel_rfl) (fun _ _ _ h => h) (Or.inl ⟨by first | kernel_rfl | rfl, ?yi2FIN211⟩) hHeld ?ri2FIN211
                        case yi2FIN211 => (intro W hSW; (try dsimp only at hSW); go_simp; (try with_reducible rfl))
                        change wpAnyH _ _ _ _ _ _ _ (Act.put _ (some 159) _) _
                        simp only [Act.put, List.setIfInBounds_toArray, List.set_cons_zero, List.set_cons_succ]
                        refine wpAnyH_take (i := 12) (v := ?vi2FIN212) rfl (by kernel_rfl) (by kernel_rfl) (by kernel_rfl) (fun _ _ _ h => h) (Or.inl ⟨by first | kernel_rfl | rfl, ?yi2FIN212⟩) hHeld ?ri2FIN212
                        case yi2FIN212 => (intro W hSW; (try dsimp only at hSW); go_simp; (try with_reducible rfl))
                        change wpAnyH _ _ _ _ _ _ _ (Act.put _ (some 160) _) _
                        simp only [Act.put, List.setIfInBounds_toArray, List.set_cons_zero, List.set_cons_succ]
                        refine wpAnyH_done (by kernel_rfl) ?_ _
                        clear hHeld
                        go_wp2
                        exact ⟨⟨i + 1, by omega, by go_num, HB.out.drew⟩, by simp [intOf]; omega⟩
                    | false =>
                      obtain ⟨j, hj, hkj, hj2, hmt⟩ : ∃ j, ∃ hj : j < l1.length, k ≤ j ∧ j < min len1 60 ∧ meets l1[j] i tn := hex.resolve_left (by simp)
                      have g1 : k < len1 := by omega
                      have g2 : k < 60 := by omega
                      have kg1 : (k : Int) < (len1 : Int) := by omega
                      have kg2 : (k : Int) < 60 := by omega
                      have hkl : k < l1.length := by omega
                      obtain ⟨b, oo, rfl, hbl, hc⟩ := HOS.out.2.2.2 (by omega)
                      have hci := hc k hkl
                      have HMT : Hid (meets l1[j] i tn) := hmt
                      have hjk : j = k → meets l1[k] i tn := by rintro rfl; exact hmt
                      obtain ⟨⟨kd, ad, lo, fi, pa, pl, pc, ps⟩, ho⟩ : ∃ o, l1[k] = o := ⟨_, rfl⟩
                      rw [ho] at hci hjk
                      obtain ⟨d0, d1, d2, d3, d4, d5⟩ := hci
                      simp only at d0 d1 d2 d3 d4
                      have hfi : fi < 256 := d5.2.2.2.1
                      have HNEXT : Hid (¬ meets ⟨kd, ad, lo, fi, pa, pl, pc, ps⟩ i tn → ∃ j, ∃ hj : j < l1.length, k + 1 ≤ j ∧ j < min len1 60 ∧ meets l1[j] i tn) := by
                        intro hn
                        refine ⟨j, hj, ?_, hj2, HMT.out⟩
                        rcases Nat.lt_or_ge k j with h | h
                        · exact h
                        · exact absurd (hjk (by omega)) hn
                      have hB1 : ∀ V, Below w17.heap.size w17 V → Below w.heap.size w V := fun V hV => HB17.out.trans (hV.mono HB17.out.size)
                      clear hc hex hmt hjk ho d5
                      by_cases q0 : kd = 0
                      · subst q0
                        by_cases qa : ad = (i : Int)
                        · subst qa
                          have HCS : Hid (∀ V, Below w17.heap.size w17 V → V.cell? ⟨b, oo + k * 5, none⟩ = some (.int .i64 0) ∧ V.cell? ⟨b, oo + k * 5 + 1, none⟩ = some (.int .i64 (i : Int)) ∧ V.cell? ⟨b, oo + k * 5 + 2, none⟩ = some (.int .i64 lo) ∧ V.cell? ⟨b, oo + k * 5 + 3, none⟩ = some (.int .u8 (fi : Int)) ∧ V.cell? ⟨b, oo + k * 5 + 4, none⟩ = some (.slice pa pl pc)) := fun V hV0 => by
                            have hV := hB1 V hV0
                            exact ⟨by rw [hV.cell hbl]; exact d0, by rw [hV.cell hbl]; exact d1, by rw [hV.cell hbl]; exact d2, by rw [hV.cell hbl]; exact d3, by rw [hV.cell hbl]; exact d4⟩
                          obtain ⟨F, hF⟩ : ∃ F, fillS lo fi = F := ⟨_, rfl⟩
                          have HFI : Hid (Calls Try.prog 27 #[.agg #[.int .i64 0, .int .i64 (i : Int), .int .i64 lo, .int .u8 (fi : Int), .slice pa pl pc]] wr.drew fun e w' => e = .returned (.string F) ∧ Below wr.drew.heap.size wr.drew w') := by
                            rw [← hF]; exact filled_any 0 (i : Int) lo fi pa pl pc wr.drew hfi
                          by_cases hFt : tn = F
                          · clear d0 d1 d2 d3 d4 hF HNEXT hB1
                            subst hFt
                            go_wp2
                            refine wp_region_held_drew (S := fun V => (V.cell? ⟨b, oo + k * 5, none⟩ = some (.int .i64 0) ∧ V.cell? ⟨b, oo + k * 5 + 1, none⟩ = some (.int .i64 (i : Int)) ∧ V.cell? ⟨b, oo + k * 5 + 2, none⟩ = some (.int .i64 lo) ∧ V.cell? ⟨b, oo + k * 5 + 3, none⟩ = some (.int .u8 (fi : Int)) ∧ V.cell? ⟨b, oo + k * 5 + 4, none⟩ = some (.slice pa pl pc)) ∧ V.cell? ⟨nb, i, none⟩ = some (.string tn) ∧ V.cell? ⟨kb, i, none⟩ = some (.string tk) ∧ V.cell? ⟨lb, i, none⟩ = some (.string tn) ∧ V.cell? ⟨mb, i, none⟩ = some (.string tn)) (by kernel_rfl) (⟨HCS.out _ HB.out.drew, HRW.out _ HB.out.drew⟩) (fun hHeld => ?_)
                            refine wpAnyH_take (i := 0) (v := ?vi2m10) rfl (by kernel_rfl) (by kernel_rfl) (by kernel_rfl) (fun _ _ _ h => h) (Or.inl ⟨by first | kernel_rfl | rfl, ?yi2m10⟩) hHeld ?ri2m10
                            case yi2m10 => (intro W hSW; (try dsimp only at hSW); go_simp; (try with_reducible rfl))
                            change wpAnyH _ _ _ _ _ _ _ (Act.put _ (some 121) _) _
                            simp only [Act.put, List.setIfInBounds_toArray, List.set_cons_zero, List.set_cons_succ]
                            refine wpAnyH_take (i := 1) (v := ?vi2m11) rfl (by kernel_rfl) (by kernel_rfl) (by kernel_rfl) (fun _ _ _ h => h) (Or.inl ⟨by first | kernel_rfl | rfl, ?yi2m11⟩) hHeld ?ri2m11
                            case yi2m11 => (intro W hSW; (try dsimp only at hSW); go_simp; (try with_reducible rfl))
                            change wpAnyH _ _ _ _ _ _ _ (Act.put _ (some 122) _) _
                            simp only [Act.put, List.setIfInBounds_toArray, List.set_cons_zero, List.set_cons_succ]
                            refine wpAnyH_take (i := 2) (v := ?vi2m12) rfl (by kernel_rfl) (by kernel_rfl) (by kernel_rfl) (fun _ _ _ h => h) (Or.inl ⟨by first | kernel_rfl | rfl, ?yi2m12⟩) hHeld ?ri2m12
                            case yi2m12 => (intro W hSW; (try dsimp only at hSW); go_simp; (try with_reducible rfl))
                            change wpAnyH _ _ _ _ _ _ _ (Act.put _ (some 123) _) _
                            simp only [Act.put, List.setIfInBounds_toArray, List.set_cons_zero, List.set_cons_succ]
                            refine wpAnyH_take (i := 3) (v := ?vi2m13) rfl (by kernel_rfl) (by kernel_rfl) (by kernel_rfl) (fun _ _ _ h => h) (Or.inl ⟨by first | kernel_rfl | rfl, ?yi2m13⟩) hHeld ?ri2m13
                            case yi2m13 => (intro W hSW; (try dsimp only at hSW); go_simp; (try with_reducible rfl))
                            change wpAnyH _ _ _ _ _ _ _ (Act.put _ (some 124) _) _
                            simp only [Act.put, List.setIfInBounds_toArray, List.set_cons_zero, List.set_cons_succ]
                            refine wpAnyH_take (i := 4) (v := ?vi2m14) rfl (by kernel_rfl) (by kernel_rfl) (by kernel_rfl) (fun _ _ _ h => h) (Or.inl ⟨by first | kernel_rfl | rfl, ?yi2m14⟩) hHeld ?ri2m14
                            case yi2m14 => (intro W hSW; (try dsimp only at hSW); go_simp; (try with_reducible rfl))
                            change wpAnyH _ _ _ _ _ _ _ (Act.put _ (some 125) _) _
                            simp only [Act.put, List.setIfInBounds_toArray, List.set_cons_zero, List.set_cons_succ]
                            refine wpAnyH_take (i := 5) (v := ?vi2m15) rfl (by kernel_rfl) (by kernel_rfl) (by kernel_rfl) (fun _ _ _ h => h) (Or.inl ⟨by first | kernel_rfl | rfl, ?yi2m15⟩) hHeld ?ri2m15
                            case yi2m15 => (intro W hSW; (try dsimp only at hSW); go_simp; (try with_reducible rfl))
                            change wpAnyH _ _ _ _ _ _ _ (Act.put _ (some 126) _) _
                            simp only [Act.put, List.setIfInBounds_toArray, List.set_cons_zero, List.set_cons_succ]
                            refine wpAnyH_take (i := 6) (v := ?vi2m16) rfl (by kernel_rfl) (by kernel_rfl) (by kernel_rfl) (fun _ _ _ h => h) (Or.inl ⟨by first | kernel_rfl | rfl, ?yi2m16⟩) hHeld ?ri2m16
                            case yi2m16 => (intro W hSW; (try dsimp only at hSW); go_simp; (try with_reducible rfl))
                            change wpAnyH _ _ _ _ _ _ _ (Act.put _ (some 127) _) _
                            simp only [Act.put, List.setIfInBounds_toArray, List.set_cons_zero, List.set_cons_succ]
                            refine wpAnyH_take (i := 7) (v := ?vi2m17) rfl (by kernel_rfl) (by kernel_rfl) (by kernel_rfl) (fun _ _ _ h => h) (Or.inl ⟨by first | kernel_rfl | rfl, ?yi2m17⟩) hHeld ?ri2m17
                            case yi2m17 => (intro W hSW; (try dsimp only at hSW); go_simp; (try with_reducible rfl))
                            change wpAnyH _ _ _ _ _ _ _ (Act.put _ (some 128) _) _
                            simp only [Act.put, List.setIfInBounds_toArray, List.set_cons_zero, List.set_cons_succ]
                            refine wpAnyH_take (i := 8) (v := ?vi2m18) rfl (by kernel_rfl) (by kernel_rfl) (by kernel_rfl) (fun _ _ _ h => h) (Or.inl ⟨by first | kernel_rfl | rfl, ?yi2m18⟩) hHeld ?ri2m18
                            case yi2m18 => (intro W hSW; (try dsimp only at hSW); go_simp; (try with_reducible rfl))
                            change wpAnyH _ _ _ _ _ _ _ (Act.put _ (some 129) _) _
                            simp only [Act.put, List.setIfInBounds_toArray, List.set_cons_zero, List.set_cons_succ]
                            refine wpAnyH_take (i := 9) (v := ?vi2m19) rfl (by kernel_rfl) (by kernel_rfl) (by kernel_rfl) (fun _ _ _ h => h) (Or.inl ⟨by first | kernel_rfl | rfl, ?yi2m19⟩) hHeld ?ri2m19
                            case yi2m19 => (intro W hSW; (try dsimp only at hSW); go_simp; (try with_reducible rfl))
                            change wpAnyH _ _ _ _ _ _ _ (Act.put _ (some 130) _) _
                            simp only [Act.put, List.setIfInBounds_toArray, List.set_cons_zero, List.set_cons_succ]
                            refine wpAnyH_take (i := 10) (v := ?vi2m110) rfl (by kernel_rfl) (by kernel_rfl) (by kernel_rfl) (fun _ _ _ h => h) (Or.inl ⟨by first | kernel_rfl | rfl, ?yi2m110⟩) hHeld ?ri2m110
                            case yi2m110 => (intro W hSW; (try dsimp only at hSW); go_simp; (try with_reducible rfl))
                            change wpAnyH _ _ _ _ _ _ _ (Act.put _ (some 131) _) _
                            simp only [Act.put, List.setIfInBounds_toArray, List.set_cons_zero, List.set_cons_succ]
                            refine wpAnyH_take (i := 11) (v := ?vi2m111) rfl (by kernel_rfl) (by kernel_rfl) (by kernel_rfl) (fun _ _ _ h => h) (Or.inl ⟨by first | kernel_rfl | rfl, ?yi2m111⟩) hHeld ?ri2m111
                            case yi2m111 => (intro W hSW; (try dsimp only at hSW); go_simp; (try with_reducible rfl))
                            change wpAnyH _ _ _ _ _ _ _ (Act.put _ (some 132) _) _
                            simp only [Act.put, List.setIfInBounds_toArray, List.set_cons_zero, List.set_cons_succ]
                            refine wpAnyH_take (i := 12) (v := ?vi2m112) rfl (by kernel_rfl) (by kernel_rfl) (by kernel_rfl) (fun _ _ _ h => h) (Or.inl ⟨by first | kernel_rfl | rfl, ?yi2m112⟩) hHeld ?ri2m112
                            case yi2m112 => (intro W hSW; (try dsimp only at hSW); go_simp; (try with_reducible rfl))
                            change wpAnyH _ _ _ _ _ _ _ (Act.put _ (some 133) _) _
                            simp only [Act.put, List.setIfInBounds_toArray, List.set_cons_zero, List.set_cons_succ]
                            refine wpAnyH_take (i := 13) (v := ?vi2m113) rfl (by kernel_rfl) (by kernel_rfl) (by kernel_rfl) (fun _ _ _ h => h) (Or.inl ⟨by first | kernel_rfl | rfl, ?yi2m113⟩) hHeld ?ri2m113
                            case yi2m113 => (intro W hSW; (try dsimp only at hSW); go_simp; (try with_reducible rfl))
                            change wpAnyH _ _ _ _ _ _ _ (Act.put _ (some 134) _) _
                            simp only [Act.put, List.setIfInBounds_toArray, List.set_cons_zero, List.set_cons_succ]
                            refine wpAnyH_take (i := 14) (v := ?vi2m114) rfl (by kernel_rfl) (by kernel_rfl) (by kernel_rfl) (fun _ _ _ h => h) (Or.inl ⟨by first | kernel_rfl | rfl, ?yi2m114⟩) hHeld ?ri2m114
                            case yi2m114 => (intro W hSW; (try dsimp only at hSW); go_simp; (try with_reducible rfl))
                            change wpAnyH _ _ _ _ _ _ _ (Act.put _ (some 135) _) _
                            simp only [Act.put, List.setIfInBounds_toArray, List.set_cons_zero, List.set_cons_succ]
                            refine wpAnyH_take (i := 15) (v := ?vi2m115) rfl (by kernel_rfl) (by kernel_rfl) (by kernel_rfl) (fun _ _ _ h => h) (Or.inl ⟨by first | kernel_rfl | rfl, ?yi2m115⟩) hHeld ?ri2m115
                            case yi2m115 => (intro W hSW; (try dsimp only at hSW); go_simp; (try with_reducible rfl))
                            change wpAnyH _ _ _ _ _ _ _ (Act.put _ (some 136) _) _
                            simp only [Act.put, List.setIfInBounds_toArray, List.set_cons_zero, List.set_cons_succ]
                            refine wpAnyH_take (i := 16) (v := ?vi2m116) rfl (by kernel_rfl) (by kernel_rfl) (by kernel_rfl) (fun _ _ _ h => h) (Or.inl ⟨by first | kernel_rfl | rfl, ?yi2m116⟩) hHeld ?ri2m116
                            case yi2m116 => (intro W hSW; (try dsimp only at hSW); go_simp; (try with_reducible rfl))
                            change wpAnyH _ _ _ _ _ _ _ (Act.put _ (some 137) _) _
                            simp only [Act.put, List.setIfInBounds_toArray, List.set_cons_zero, List.set_cons_succ]
                            refine wpAnyH_take (i := 17) (v := ?vi2m117) rfl (by kernel_rfl) (by kernel_rfl) (by kernel_rfl) (fun _ _ _ h => h) (Or.inl ⟨by first | kernel_rfl | rfl, ?yi2m117⟩) hHeld ?ri2m117
                            case yi2m117 => (intro W hSW; (try dsimp only at hSW); go_simp; (try with_reducible rfl))
                            change wpAnyH _ _ _ _ _ _ _ (Act.put _ (some 138) _) _
                            simp only [Act.put, List.setIfInBounds_toArray, List.set_cons_zero, List.set_cons_succ]
                            refine wpAnyH_take (i := 18) (v := ?vi2m118) rfl (by kernel_rfl) (by kernel_rfl) (by kernel_rfl) (fun _ _ _ h => h) (Or.inl ⟨by first | kernel_rfl | rfl, ?yi2m118⟩) hHeld ?ri2m118
                            case yi2m118 => (intro W hSW; (try dsimp only at hSW); go_simp; (try with_reducible rfl))
                            change wpAnyH _ _ _ _ _ _ _ (Act.put _ (some 139) _) _
                            simp only [Act.put, List.setIfInBounds_toArray, List.set_cons_zero, List.set_cons_succ]
                            refine wpAnyH_take (i := 19) (v := ?vi2m119) rfl (by kernel_rfl) (by kernel_rfl) (by kernel_rfl) (fun _ _ _ h => h) (Or.inl ⟨by first | kernel_rfl | rfl, ?yi2m119⟩) hHeld ?ri2m119
                            case yi2m119 => (intro W hSW; (try dsimp only at hSW); go_simp; (try with_reducible rfl))
                            change wpAnyH _ _ _ _ _ _ _ (Act.put _ (some 140) _) _
                            simp only [Act.put, List.setIfInBounds_toArray, List.set_cons_zero, List.set_cons_succ]
                            refine wpAnyH_take (i := 20) (v := ?vi2m120) rfl (by kernel_rfl) (by kernel_rfl) (by kernel_rfl) (fun _ _ _ h => h) (Or.inl ⟨by first | kernel_rfl | rfl, ?yi2m120⟩) hHeld ?ri2m120
                            case yi2m120 => (intro W hSW; (try dsimp only at hSW); go_simp; (try with_reducible rfl))
                            change wpAnyH _ _ _ _ _ _ _ (Act.put _ (some 141) _) _
                            simp only [Act.put, List.setIfInBounds_toArray, List.set_cons_zero, List.set_cons_succ]
                            refine wpAnyH_take (i := 21) (v := ?vi2m121) rfl (by kernel_rfl) (by kernel_rfl) (by kernel_rfl) (fun _ _ _ h => h) (Or.inl ⟨by first | kernel_rfl | rfl, ?yi2m121⟩) hHeld ?ri2m121
                            case yi2m121 => (intro W hSW; (try dsimp only at hSW); go_simp; (try with_reducible rfl))
                            change wpAnyH _ _ _ _ _ _ _ (Act.put _ (some 142) _) _
                            simp only [Act.put, List.setIfInBounds_toArray, List.set_cons_zero, List.set_cons_succ]
                            refine wpAnyH_take (i := 22) (v := ?vi2m122) rfl (by kernel_rfl) (by kernel_rfl) (by kernel_rfl) (fun _ _ _ h => h) (Or.inl ⟨by first | kernel_rfl | rfl, ?yi2m122⟩) hHeld ?ri2m122
                            case yi2m122 => (intro W hSW; (try dsimp only at hSW); go_simp; (try with_reducible rfl))
                            change wpAnyH _ _ _ _ _ _ _ (Act.put _ (some 143) _) _
                            simp only [Act.put, List.setIfInBounds_toArray, List.set_cons_zero, List.set_cons_succ]
                            refine wpAnyH_take (i := 23) (v := ?vi2m123) rfl (by kernel_rfl) (by kernel_rfl) (by kernel_rfl) (fun _ _ _ h => h) (Or.inl ⟨by first | kernel_rfl | rfl, ?yi2m123⟩) hHeld ?ri2m123
                            case yi2m123 => (intro W hSW; (try dsimp only at hSW); go_simp; (try with_reducible rfl))
                            change wpAnyH _ _ _ _ _ _ _ (Act.put _ (some 144) _) _
                            simp only [Act.put, List.setIfInBounds_toArray, List.set_cons_zero, List.set_cons_succ]
                            refine wpAnyH_ready (rs := [24]) (by kernel_rfl) (by simp) ?_
                            refine AllReadyH.cons rfl (fun K hK => ?_) AllReadyH.nil
                            go_simp
                            refine (HFI.out).mono ?_
                            rintro e V2 ⟨rfl, hb2⟩; have HB2 : Hid (Below w17.heap.size w17 V2) := HB.out.drew.trans (hb2.mono HB.out.size); clear hb2
                            refine hK.out _ _ (⟨HCS.out _ HB2.out, HRW.out _ HB2.out⟩) (fun hHeld => ?_)
                            clear hK K
                            try simp only [Act.put, List.setIfInBounds_toArray, List.set_cons_zero, List.set_cons_succ]
                            refine wpAnyH_take (i := 25) (v := ?vi2m125) rfl (by kernel_rfl) (by kernel_rfl) (by kernel_rfl) (fun _ _ _ h => h) (Or.inl ⟨by first | kernel_rfl | rfl, ?yi2m125⟩) hHeld ?ri2m125
                            case yi2m125 => (intro W hSW; (try dsimp only at hSW); go_simp; (try with_reducible rfl))
                            change wpAnyH _ _ _ _ _ _ _ (Act.put _ (some 146) _) _
                            simp only [Act.put, List.setIfInBounds_toArray, List.set_cons_zero, List.set_cons_succ]
                            refine wpAnyH_take (i := 26) (v := ?vi2m126) rfl (by kernel_rfl) (by kernel_rfl) (by kernel_rfl) (fun _ _ _ h => h) (Or.inl ⟨by first | kernel_rfl | rfl, ?yi2m126⟩) hHeld ?ri2m126
                            case yi2m126 => (intro W hSW; (try dsimp only at hSW); go_simp; (try with_reducible rfl))
                            change wpAnyH _ _ _ _ _ _ _ (Act.put _ (some 147) _) _
                            simp only [Act.put, List.setIfInBounds_toArray, List.set_cons_zero, List.set_cons_succ]
                            refine wpAnyH_take (i := 27) (v := ?vi2m127) rfl (by kernel_rfl) (by kernel_rfl) (by kernel_rfl) (fun _ _ _ h => h) (Or.inl ⟨by first | kernel_rfl | rfl, ?yi2m127⟩) hHeld ?ri2m127
                            case yi2m127 => (intro W hSW; (try dsimp only at hSW); go_simp; (try with_reducible rfl))
                            change wpAnyH _ _ _ _ _ _ _ (Act.put _ (some 17) _) _
                            simp only [Act.put, List.setIfInBounds_toArray, List.set_cons_zero, List.set_cons_succ]
                            refine wpAnyH_done (by kernel_rfl) ?_ _
                            have HNB : Hid (Below w17.heap.size w17 V2) := HB2.out
                            clear hHeld HFI HCS HB HB2
                            go_wp2
                            exact ⟨⟨k + 1, true, by omega, by omega, rfl, by go_num, HNB.out, .inl rfl⟩, by simp [intOf]; omega⟩
                          · have nbF : (tn.toList == F.toList) = false := str_nb hFt
                            have nbF2 : ¬ tn.toList = F.toList := str_ne hFt
                            have HX : Hid (∃ j, ∃ hj : j < l1.length, k + 1 ≤ j ∧ j < min len1 60 ∧ meets l1[j] i tn) := HNEXT.out (fun h => hFt (by rw [← hF]; exact h.2.2.symm))
                            clear d0 d1 d2 d3 d4 hF HNEXT hB1 hFt
                            go_wp2
                            refine wp_region_held_drew (S := fun V => (V.cell? ⟨b, oo + k * 5, none⟩ = some (.int .i64 0) ∧ V.cell? ⟨b, oo + k * 5 + 1, none⟩ = some (.int .i64 (i : Int)) ∧ V.cell? ⟨b, oo + k * 5 + 2, none⟩ = some (.int .i64 lo) ∧ V.cell? ⟨b, oo + k * 5 + 3, none⟩ = some (.int .u8 (fi : Int)) ∧ V.cell? ⟨b, oo + k * 5 + 4, none⟩ = some (.slice pa pl pc)) ∧ V.cell? ⟨nb, i, none⟩ = some (.string tn) ∧ V.cell? ⟨kb, i, none⟩ = some (.string tk) ∧ V.cell? ⟨lb, i, none⟩ = some (.string tn) ∧ V.cell? ⟨mb, i, none⟩ = some (.string tn)) (by kernel_rfl) (⟨HCS.out _ HB.out.drew, HRW.out _ HB.out.drew⟩) (fun hHeld => ?_)
                            refine wpAnyH_take (i := 0) (v := ?vi2m20) rfl (by kernel_rfl) (by kernel_rfl) (by kernel_rfl) (fun _ _ _ h => h) (Or.inl ⟨by first | kernel_rfl | rfl, ?yi2m20⟩) hHeld ?ri2m20
                            case yi2m20 => (intro W hSW; (try dsimp only at hSW); go_simp; (try with_reducible rfl))
                            change wpAnyH _ _ _ _ _ _ _ (Act.put _ (some 121) _) _
                            simp only [Act.put, List.setIfInBounds_toArray, List.set_cons_zero, List.set_cons_succ]
                            refine wpAnyH_take (i := 1) (v := ?vi2m21) rfl (by kernel_rfl) (by kernel_rfl) (by kernel_rfl) (fun _ _ _ h => h) (Or.inl ⟨by first | kernel_rfl | rfl, ?yi2m21⟩) hHeld ?ri2m21
                            case yi2m21 => (intro W hSW; (try dsimp only at hSW); go_simp; (try with_reducible rfl))
                            change wpAnyH _ _ _ _ _ _ _ (Act.put _ (some 122) _) _
                            simp only [Act.put, List.setIfInBounds_toArray, List.set_cons_zero, List.set_cons_succ]
                            refine wpAnyH_take (i := 2) (v := ?vi2m22) rfl (by kernel_rfl) (by kernel_rfl) (by kernel_rfl) (fun _ _ _ h => h) (Or.inl ⟨by first | kernel_rfl | rfl, ?yi2m22⟩) hHeld ?ri2m22
                            case yi2m22 => (intro W hSW; (try dsimp only at hSW); go_simp; (try with_reducible rfl))
                            change wpAnyH _ _ _ _ _ _ _ (Act.put _ (some 123) _) _
                            simp only [Act.put, List.setIfInBounds_toArray, List.set_cons_zero, List.set_cons_succ]
                            refine wpAnyH_take (i := 3) (v := ?vi2m23) rfl (by kernel_rfl) (by kernel_rfl) (by kernel_rfl) (fun _ _ _ h => h) (Or.inl ⟨by first | kernel_rfl | rfl, ?yi2m23⟩) hHeld ?ri2m23
                            case yi2m23 => (intro W hSW; (try dsimp only at hSW); go_simp; (try with_reducible rfl))
                            change wpAnyH _ _ _ _ _ _ _ (Act.put _ (some 124) _) _
                            simp only [Act.put, List.setIfInBounds_toArray, List.set_cons_zero, List.set_cons_succ]
                            refine wpAnyH_take (i := 4) (v := ?vi2m24) rfl (by kernel_rfl) (by kernel_rfl) (by kernel_rfl) (fun _ _ _ h => h) (Or.inl ⟨by first | kernel_rfl | rfl, ?yi2m24⟩) hHeld ?ri2m24
                            case yi2m24 => (intro W hSW; (try dsimp only at hSW); go_simp; (try with_reducible rfl))
                            change wpAnyH _ _ _ _ _ _ _ (Act.put _ (some 125) _) _
                            simp only [Act.put, List.setIfInBounds_toArray, List.set_cons_zero, List.set_cons_succ]
                            refine wpAnyH_take (i := 5) (v := ?vi2m25) rfl (by kernel_rfl) (by kernel_rfl) (by kernel_rfl) (fun _ _ _ h => h) (Or.inl ⟨by first | kernel_rfl | rfl, ?yi2m25⟩) hHeld ?ri2m25
                            case yi2m25 => (intro W hSW; (try dsimp only at hSW); go_simp; (try with_reducible rfl))
                            change wpAnyH _ _ _ _ _ _ _ (Act.put _ (some 126) _) _
                            simp only [Act.put, List.setIfInBounds_toArray, List.set_cons_zero, List.set_cons_succ]
                            refine wpAnyH_take (i := 6) (v := ?vi2m26) rfl (by kernel_rfl) (by kernel_rfl) (by kernel_rfl) (fun _ _ _ h => h) (Or.inl ⟨by first | kernel_rfl | rfl, ?yi2m26⟩) hHeld ?ri2m26
                            case yi2m26 => (intro W hSW; (try dsimp only at hSW); go_simp; (try with_reducible rfl))
                            change wpAnyH _ _ _ _ _ _ _ (Act.put _ (some 127) _) _
                            simp only [Act.put, List.setIfInBounds_toArray, List.set_cons_zero, List.set_cons_succ]
                            refine wpAnyH_take (i := 7) (v := ?vi2m27) rfl (by kernel_rfl) (by kernel_rfl) (by kernel_rfl) (fun _ _ _ h => h) (Or.inl ⟨by first | kernel_rfl | rfl, ?yi2m27⟩) hHeld ?ri2m27
                            case yi2m27 => (intro W hSW; (try dsimp only at hSW); go_simp; (try with_reducible rfl))
                            change wpAnyH _ _ _ _ _ _ _ (Act.put _ (some 128) _) _
                            simp only [Act.put, List.setIfInBounds_toArray, List.set_cons_zero, List.set_cons_succ]
                            refine wpAnyH_take (i := 8) (v := ?vi2m28) rfl (by kernel_rfl) (by kernel_rfl) (by kernel_rfl) (fun _ _ _ h => h) (Or.inl ⟨by first | kernel_rfl | rfl, ?yi2m28⟩) hHeld ?ri2m28
                            case yi2m28 => (intro W hSW; (try dsimp only at hSW); go_simp; (try with_reducible rfl))
                            change wpAnyH _ _ _ _ _ _ _ (Act.put _ (some 129) _) _
                            simp only [Act.put, List.setIfInBounds_toArray, List.set_cons_zero, List.set_cons_succ]
                            refine wpAnyH_take (i := 9) (v := ?vi2m29) rfl (by kernel_rfl) (by kernel_rfl) (by kernel_rfl) (fun _ _ _ h => h) (Or.inl ⟨by first | kernel_rfl | rfl, ?yi2m29⟩) hHeld ?ri2m29
                            case yi2m29 => (intro W hSW; (try dsimp only at hSW); go_simp; (try with_reducible rfl))
                            change wpAnyH _ _ _ _ _ _ _ (Act.put _ (some 130) _) _
                            simp only [Act.put, List.setIfInBounds_toArray, List.set_cons_zero, List.set_cons_succ]
                            refine wpAnyH_take (i := 10) (v := ?vi2m210) rfl (by kernel_rfl) (by kernel_rfl) (by kernel_rfl) (fun _ _ _ h => h) (Or.inl ⟨by first | kernel_rfl | rfl, ?yi2m210⟩) hHeld ?ri2m210
                            case yi2m210 => (intro W hSW; (try dsimp only at hSW); go_simp; (try with_reducible rfl))
                            change wpAnyH _ _ _ _ _ _ _ (Act.put _ (some 131) _) _
                            simp only [Act.put, List.setIfInBounds_toArray, List.set_cons_zero, List.set_cons_succ]
                            refine wpAnyH_take (i := 11) (v := ?vi2m211) rfl (by kernel_rfl) (by kernel_rfl) (by kernel_rfl) (fun _ _ _ h => h) (Or.inl ⟨by first | kernel_rfl | rfl, ?yi2m211⟩) hHeld ?ri2m211
                            case yi2m211 => (intro W hSW; (try dsimp only at hSW); go_simp; (try with_reducible rfl))
                            change wpAnyH _ _ _ _ _ _ _ (Act.put _ (some 132) _) _
                            simp only [Act.put, List.setIfInBounds_toArray, List.set_cons_zero, List.set_cons_succ]
                            refine wpAnyH_take (i := 12) (v := ?vi2m212) rfl (by kernel_rfl) (by kernel_rfl) (by kernel_rfl) (fun _ _ _ h => h) (Or.inl ⟨by first | kernel_rfl | rfl, ?yi2m212⟩) hHeld ?ri2m212
                            case yi2m212 => (intro W hSW; (try dsimp only at hSW); go_simp; (try with_reducible rfl))
                            change wpAnyH _ _ _ _ _ _ _ (Act.put _ (some 133) _) _
                            simp only [Act.put, List.setIfInBounds_toArray, List.set_cons_zero, List.set_cons_succ]
                            refine wpAnyH_take (i := 13) (v := ?vi2m213) rfl (by kernel_rfl) (by kernel_rfl) (by kernel_rfl) (fun _ _ _ h => h) (Or.inl ⟨by first | kernel_rfl | rfl, ?yi2m213⟩) hHeld ?ri2m213
                            case yi2m213 => (intro W hSW; (try dsimp only at hSW); go_simp; (try with_reducible rfl))
                            change wpAnyH _ _ _ _ _ _ _ (Act.put _ (some 134) _) _
                            simp only [Act.put, List.setIfInBounds_toArray, List.set_cons_zero, List.set_cons_succ]
                            refine wpAnyH_take (i := 14) (v := ?vi2m214) rfl (by kernel_rfl) (by kernel_rfl) (by kernel_rfl) (fun _ _ _ h => h) (Or.inl ⟨by first | kernel_rfl | rfl, ?yi2m214⟩) hHeld ?ri2m214
                            case yi2m214 => (intro W hSW; (try dsimp only at hSW); go_simp; (try with_reducible rfl))
                            change wpAnyH _ _ _ _ _ _ _ (Act.put _ (some 135) _) _
                            simp only [Act.put, List.setIfInBounds_toArray, List.set_cons_zero, List.set_cons_succ]
                            refine wpAnyH_take (i := 15) (v := ?vi2m215) rfl (by kernel_rfl) (by kernel_rfl) (by kernel_rfl) (fun _ _ _ h => h) (Or.inl ⟨by first | kernel_rfl | rfl, ?yi2m215⟩) hHeld ?ri2m215
                            case yi2m215 => (intro W hSW; (try dsimp only at hSW); go_simp; (try with_reducible rfl))
                            change wpAnyH _ _ _ _ _ _ _ (Act.put _ (some 136) _) _
                            simp only [Act.put, List.setIfInBounds_toArray, List.set_cons_zero, List.set_cons_succ]
                            refine wpAnyH_take (i := 16) (v := ?vi2m216) rfl (by kernel_rfl) (by kernel_rfl) (by kernel_rfl) (fun _ _ _ h => h) (Or.inl ⟨by first | kernel_rfl | rfl, ?yi2m216⟩) hHeld ?ri2m216
                            case yi2m216 => (intro W hSW; (try dsimp only at hSW); go_simp; (try with_reducible rfl))
                            change wpAnyH _ _ _ _ _ _ _ (Act.put _ (some 137) _) _
                            simp only [Act.put, List.setIfInBounds_toArray, List.set_cons_zero, List.set_cons_succ]
                            refine wpAnyH_take (i := 17) (v := ?vi2m217) rfl (by kernel_rfl) (by kernel_rfl) (by kernel_rfl) (fun _ _ _ h => h) (Or.inl ⟨by first | kernel_rfl | rfl, ?yi2m217⟩) hHeld ?ri2m217
                            case yi2m217 => (intro W hSW; (try dsimp only at hSW); go_simp; (try with_reducible rfl))
                            change wpAnyH _ _ _ _ _ _ _ (Act.put _ (some 138) _) _
                            simp only [Act.put, List.setIfInBounds_toArray, List.set_cons_zero, List.set_cons_succ]
                            refine wpAnyH_take (i := 18) (v := ?vi2m218) rfl (by kernel_rfl) (by kernel_rfl) (by kernel_rfl) (fun _ _ _ h => h) (Or.inl ⟨by first | kernel_rfl | rfl, ?yi2m218⟩) hHeld ?ri2m218
                            case yi2m218 => (intro W hSW; (try dsimp only at hSW); go_simp; (try with_reducible rfl))
                            change wpAnyH _ _ _ _ _ _ _ (Act.put _ (some 139) _) _
                            simp only [Act.put, List.setIfInBounds_toArray, List.set_cons_zero, List.set_cons_succ]
                            refine wpAnyH_take (i := 19) (v := ?vi2m219) rfl (by kernel_rfl) (by kernel_rfl) (by kernel_rfl) (fun _ _ _ h => h) (Or.inl ⟨by first | kernel_rfl | rfl, ?yi2m219⟩) hHeld ?ri2m219
                            case yi2m219 => (intro W hSW; (try dsimp only at hSW); go_simp; (try with_reducible rfl))
                            change wpAnyH _ _ _ _ _ _ _ (Act.put _ (some 140) _) _
                            simp only [Act.put, List.setIfInBounds_toArray, List.set_cons_zero, List.set_cons_succ]
                            refine wpAnyH_take (i := 20) (v := ?vi2m220) rfl (by kernel_rfl) (by kernel_rfl) (by kernel_rfl) (fun _ _ _ h => h) (Or.inl ⟨by first | kernel_rfl | rfl, ?yi2m220⟩) hHeld ?ri2m220
                            case yi2m220 => (intro W hSW; (try dsimp only at hSW); go_simp; (try with_reducible rfl))
                            change wpAnyH _ _ _ _ _ _ _ (Act.put _ (some 141) _) _
                            simp only [Act.put, List.setIfInBounds_toArray, List.set_cons_zero, List.set_cons_succ]
                            refine wpAnyH_take (i := 21) (v := ?vi2m221) rfl (by kernel_rfl) (by kernel_rfl) (by kernel_rfl) (fun _ _ _ h => h) (Or.inl ⟨by first | kernel_rfl | rfl, ?yi2m221⟩) hHeld ?ri2m221
                            case yi2m221 => (intro W hSW; (try dsimp only at hSW); go_simp; (try with_reducible rfl))
                            change wpAnyH _ _ _ _ _ _ _ (Act.put _ (some 142) _) _
                            simp only [Act.put, List.setIfInBounds_toArray, List.set_cons_zero, List.set_cons_succ]
                            refine wpAnyH_take (i := 22) (v := ?vi2m222) rfl (by kernel_rfl) (by kernel_rfl) (by kernel_rfl) (fun _ _ _ h => h) (Or.inl ⟨by first | kernel_rfl | rfl, ?yi2m222⟩) hHeld ?ri2m222
                            case yi2m222 => (intro W hSW; (try dsimp only at hSW); go_simp; (try with_reducible rfl))
                            change wpAnyH _ _ _ _ _ _ _ (Act.put _ (some 143) _) _
                            simp only [Act.put, List.setIfInBounds_toArray, List.set_cons_zero, List.set_cons_succ]
                            refine wpAnyH_take (i := 23) (v := ?vi2m223) rfl (by kernel_rfl) (by kernel_rfl) (by kernel_rfl) (fun _ _ _ h => h) (Or.inl ⟨by first | kernel_rfl | rfl, ?yi2m223⟩) hHeld ?ri2m223
                            case yi2m223 => (intro W hSW; (try dsimp only at hSW); go_simp; (try with_reducible rfl))
                            change wpAnyH _ _ _ _ _ _ _ (Act.put _ (some 144) _) _
                            simp only [Act.put, List.setIfInBounds_toArray, List.set_cons_zero, List.set_cons_succ]
                            refine wpAnyH_ready (rs := [24]) (by kernel_rfl) (by simp) ?_
                            refine AllReadyH.cons rfl (fun K hK => ?_) AllReadyH.nil
                            go_simp
                            refine (HFI.out).mono ?_
                            rintro e V2 ⟨rfl, hb2⟩; have HB2 : Hid (Below w17.heap.size w17 V2) := HB.out.drew.trans (hb2.mono HB.out.size); clear hb2
                            refine hK.out _ _ (⟨HCS.out _ HB2.out, HRW.out _ HB2.out⟩) (fun hHeld => ?_)
                            clear hK K
                            try simp only [Act.put, List.setIfInBounds_toArray, List.set_cons_zero, List.set_cons_succ]
                            refine wpAnyH_take (i := 25) (v := ?vi2m225) rfl (by kernel_rfl) (by kernel_rfl) (by kernel_rfl) (fun _ _ _ h => h) (Or.inl ⟨by first | kernel_rfl | rfl, ?yi2m225⟩) hHeld ?ri2m225
                            case yi2m225 => (intro W hSW; (try dsimp only at hSW); go_simp; (try with_reducible rfl))
                            change wpAnyH _ _ _ _ _ _ _ (Act.put _ (some 146) _) _
                            simp only [Act.put, List.setIfInBounds_toArray, List.set_cons_zero, List.set_cons_succ]
                            refine wpAnyH_take (i := 26) (v := ?vi2m226) rfl (by kernel_rfl) (by kernel_rfl) (by kernel_rfl) (fun _ _ _ h => h) (Or.inl ⟨by first | kernel_rfl | rfl, ?yi2m226⟩) hHeld ?ri2m226
                            case yi2m226 => (intro W hSW; (try dsimp only at hSW); go_simp; (try with_reducible rfl))
                            change wpAnyH _ _ _ _ _ _ _ (Act.put _ (some 147) _) _
                            simp only [Act.put, List.setIfInBounds_toArray, List.set_cons_zero, List.set_cons_succ]
                            refine wpAnyH_take (i := 27) (v := ?vi2m227) rfl (by kernel_rfl) (by kernel_rfl) (by kernel_rfl) (fun _ _ _ h => h) (Or.inl ⟨by first | kernel_rfl | rfl, ?yi2m227⟩) hHeld ?ri2m227
                            case yi2m227 => (intro W hSW; (try dsimp only at hSW); go_simp; (try with_reducible rfl))
                            change wpAnyH _ _ _ _ _ _ _ (Act.put _ (some 17) _) _
                            simp only [Act.put, List.setIfInBounds_toArray, List.set_cons_zero, List.set_cons_succ]
                            refine wpAnyH_done (by kernel_rfl) ?_ _
                            have HNB : Hid (Below w17.heap.size w17 V2) := HB2.out
                            clear hHeld HFI HCS HB HB2
                            go_wp2
                            exact ⟨⟨k + 1, false, by omega, by omega, rfl, by go_num, HNB.out, .inr HX.out⟩, by simp [intOf]; omega⟩
                        · have HCS : Hid (∀ V, Below w17.heap.size w17 V → V.cell? ⟨b, oo + k * 5, none⟩ = some (.int .i64 0) ∧ V.cell? ⟨b, oo + k * 5 + 1, none⟩ = some (.int .i64 ad) ∧ V.cell? ⟨b, oo + k * 5 + 2, none⟩ = some (.int .i64 lo) ∧ V.cell? ⟨b, oo + k * 5 + 3, none⟩ = some (.int .u8 (fi : Int)) ∧ V.cell? ⟨b, oo + k * 5 + 4, none⟩ = some (.slice pa pl pc)) := fun V hV0 => by
                            have hV := hB1 V hV0
                            exact ⟨by rw [hV.cell hbl]; exact d0, by rw [hV.cell hbl]; exact d1, by rw [hV.cell hbl]; exact d2, by rw [hV.cell hbl]; exact d3, by rw [hV.cell hbl]; exact d4⟩
                          have qab : (ad == (i : Int)) = false := by simpa using qa
                          have HX : Hid (∃ j, ∃ hj : j < l1.length, k + 1 ≤ j ∧ j < min len1 60 ∧ meets l1[j] i tn) := HNEXT.out (fun h => qa h.2.1)
                          have HNB : Hid (Below w17.heap.size w17 wr.drew) := HB.out.drew
                          clear d0 d1 d2 d3 d4 HNEXT hB1
                          go_wp2
                          refine wp_region_held_drew (S := fun V => (V.cell? ⟨b, oo + k * 5, none⟩ = some (.int .i64 0) ∧ V.cell? ⟨b, oo + k * 5 + 1, none⟩ = some (.int .i64 ad) ∧ V.cell? ⟨b, oo + k * 5 + 2, none⟩ = some (.int .i64 lo) ∧ V.cell? ⟨b, oo + k * 5 + 3, none⟩ = some (.int .u8 (fi : Int)) ∧ V.cell? ⟨b, oo + k * 5 + 4, none⟩ = some (.slice pa pl pc)) ∧ V.cell? ⟨nb, i, none⟩ = some (.string tn) ∧ V.cell? ⟨kb, i, none⟩ = some (.string tk) ∧ V.cell? ⟨lb, i, none⟩ = some (.string tn) ∧ V.cell? ⟨mb, i, none⟩ = some (.string tn)) (by kernel_rfl) (⟨HCS.out _ HB.out.drew, HRW.out _ HB.out.drew⟩) (fun hHeld => ?_)
                          refine wpAnyH_take (i := 0) (v := ?vi2aa0) rfl (by kernel_rfl) (by kernel_rfl) (by kernel_rfl) (fun _ _ _ h => h) (Or.inl ⟨by first | kernel_rfl | rfl, ?yi2aa0⟩) hHeld ?ri2aa0
                          case yi2aa0 => (intro W hSW; (try dsimp only at hSW); go_simp; (try with_reducible rfl))
                          change wpAnyH _ _ _ _ _ _ _ (Act.put _ (some 121) _) _
                          simp only [Act.put, List.setIfInBounds_toArray, List.set_cons_zero, List.set_cons_succ]
                          refine wpAnyH_take (i := 1) (v := ?vi2aa1) rfl (by kernel_rfl) (by kernel_rfl) (by kernel_rfl) (fun _ _ _ h => h) (Or.inl ⟨by first | kernel_rfl | rfl, ?yi2aa1⟩) hHeld ?ri2aa1
                          case yi2aa1 => (intro W hSW; (try dsimp only at hSW); go_simp; (try with_reducible rfl))
                          change wpAnyH _ _ _ _ _ _ _ (Act.put _ (some 122) _) _
                          simp only [Act.put, List.setIfInBounds_toArray, List.set_cons_zero, List.set_cons_succ]
                          refine wpAnyH_take (i := 2) (v := ?vi2aa2) rfl (by kernel_rfl) (by kernel_rfl) (by kernel_rfl) (fun _ _ _ h => h) (Or.inl ⟨by first | kernel_rfl | rfl, ?yi2aa2⟩) hHeld ?ri2aa2
                          case yi2aa2 => (intro W hSW; (try dsimp only at hSW); go_simp; (try with_reducible rfl))
                          change wpAnyH _ _ _ _ _ _ _ (Act.put _ (some 123) _) _
                          simp only [Act.put, List.setIfInBounds_toArray, List.set_cons_zero, List.set_cons_succ]
                          refine wpAnyH_take (i := 3) (v := ?vi2aa3) rfl (by kernel_rfl) (by kernel_rfl) (by kernel_rfl) (fun _ _ _ h => h) (Or.inl ⟨by first | kernel_rfl | rfl, ?yi2aa3⟩) hHeld ?ri2aa3
                          case yi2aa3 => (intro W hSW; (try dsimp only at hSW); go_simp; (try with_reducible rfl))
                          change wpAnyH _ _ _ _ _ _ _ (Act.put _ (some 124) _) _
                          simp only [Act.put, List.setIfInBounds_toArray, List.set_cons_zero, List.set_cons_succ]
                          refine wpAnyH_take (i := 4) (v := ?vi2aa4) rfl (by kernel_rfl) (by kernel_rfl) (by kernel_rfl) (fun _ _ _ h => h) (Or.inl ⟨by first | kernel_rfl | rfl, ?yi2aa4⟩) hHeld ?ri2aa4
                          case yi2aa4 => (intro W hSW; (try dsimp only at hSW); go_simp; (try with_reducible rfl))
                          change wpAnyH _ _ _ _ _ _ _ (Act.put _ (some 125) _) _
                          simp only [Act.put, List.setIfInBounds_toArray, List.set_cons_zero, List.set_cons_succ]
                          refine wpAnyH_take (i := 5) (v := ?vi2aa5) rfl (by kernel_rfl) (by kernel_rfl) (by kernel_rfl) (fun _ _ _ h => h) (Or.inl ⟨by first | kernel_rfl | rfl, ?yi2aa5⟩) hHeld ?ri2aa5
                          case yi2aa5 => (intro W hSW; (try dsimp only at hSW); go_simp; (try with_reducible rfl))
                          change wpAnyH _ _ _ _ _ _ _ (Act.put _ (some 126) _) _
                          simp only [Act.put, List.setIfInBounds_toArray, List.set_cons_zero, List.set_cons_succ]
                          refine wpAnyH_take (i := 6) (v := ?vi2aa6) rfl (by kernel_rfl) (by kernel_rfl) (by kernel_rfl) (fun _ _ _ h => h) (Or.inl ⟨by first | kernel_rfl | rfl, ?yi2aa6⟩) hHeld ?ri2aa6
                          case yi2aa6 => (intro W hSW; (try dsimp only at hSW); go_simp; (try with_reducible rfl))
                          change wpAnyH _ _ _ _ _ _ _ (Act.put _ (some 127) _) _
                          simp only [Act.put, List.setIfInBounds_toArray, List.set_cons_zero, List.set_cons_succ]
                          refine wpAnyH_take (i := 7) (v := ?vi2aa7) rfl (by kernel_rfl) (by kernel_rfl) (by kernel_rfl) (fun _ _ _ h => h) (Or.inl ⟨by first | kernel_rfl | rfl, ?yi2aa7⟩) hHeld ?ri2aa7
                          case yi2aa7 => (intro W hSW; (try dsimp only at hSW); go_simp; (try with_reducible rfl))
                          change wpAnyH _ _ _ _ _ _ _ (Act.put _ (some 128) _) _
                          simp only [Act.put, List.setIfInBounds_toArray, List.set_cons_zero, List.set_cons_succ]
                          refine wpAnyH_take (i := 8) (v := ?vi2aa8) rfl (by kernel_rfl) (by kernel_rfl) (by kernel_rfl) (fun _ _ _ h => h) (Or.inl ⟨by first | kernel_rfl | rfl, ?yi2aa8⟩) hHeld ?ri2aa8
                          case yi2aa8 => (intro W hSW; (try dsimp only at hSW); go_simp; (try with_reducible rfl))
                          change wpAnyH _ _ _ _ _ _ _ (Act.put _ (some 129) _) _
                          simp only [Act.put, List.setIfInBounds_toArray, List.set_cons_zero, List.set_cons_succ]
                          refine wpAnyH_take (i := 9) (v := ?vi2aa9) rfl (by kernel_rfl) (by kernel_rfl) (by kernel_rfl) (fun _ _ _ h => h) (Or.inl ⟨by first | kernel_rfl | rfl, ?yi2aa9⟩) hHeld ?ri2aa9
                          case yi2aa9 => (intro W hSW; (try dsimp only at hSW); go_simp; (try with_reducible rfl))
                          change wpAnyH _ _ _ _ _ _ _ (Act.put _ (some 130) _) _
                          simp only [Act.put, List.setIfInBounds_toArray, List.set_cons_zero, List.set_cons_succ]
                          refine wpAnyH_take (i := 10) (v := ?vi2aa10) rfl (by kernel_rfl) (by kernel_rfl) (by kernel_rfl) (fun _ _ _ h => h) (Or.inl ⟨by first | kernel_rfl | rfl, ?yi2aa10⟩) hHeld ?ri2aa10
                          case yi2aa10 => (intro W hSW; (try dsimp only at hSW); go_simp; (try with_reducible rfl))
                          change wpAnyH _ _ _ _ _ _ _ (Act.put _ (some 131) _) _
                          simp only [Act.put, List.setIfInBounds_toArray, List.set_cons_zero, List.set_cons_succ]
                          refine wpAnyH_take (i := 11) (v := ?vi2aa11) rfl (by kernel_rfl) (by kernel_rfl) (by kernel_rfl) (fun _ _ _ h => h) (Or.inl ⟨by first | kernel_rfl | rfl, ?yi2aa11⟩) hHeld ?ri2aa11
                          case yi2aa11 => (intro W hSW; (try dsimp only at hSW); go_simp; (try with_reducible rfl))
                          change wpAnyH _ _ _ _ _ _ _ (Act.put _ (some 132) _) _
                          simp only [Act.put, List.setIfInBounds_toArray, List.set_cons_zero, List.set_cons_succ]
                          refine wpAnyH_take (i := 12) (v := ?vi2aa12) rfl (by kernel_rfl) (by kernel_rfl) (by kernel_rfl) (fun _ _ _ h => h) (Or.inl ⟨by first | kernel_rfl | rfl, ?yi2aa12⟩) hHeld ?ri2aa12
                          case yi2aa12 => (intro W hSW; (try dsimp only at hSW); go_simp; (try with_reducible rfl))
                          change wpAnyH _ _ _ _ _ _ _ (Act.put _ (some 133) _) _
                          simp only [Act.put, List.setIfInBounds_toArray, List.set_cons_zero, List.set_cons_succ]
                          refine wpAnyH_take (i := 13) (v := ?vi2aa13) rfl (by kernel_rfl) (by kernel_rfl) (by kernel_rfl) (fun _ _ _ h => h) (Or.inl ⟨by first | kernel_rfl | rfl, ?yi2aa13⟩) hHeld ?ri2aa13
                          case yi2aa13 => (intro W hSW; (try dsimp only at hSW); go_simp; (try with_reducible rfl))
                          change wpAnyH _ _ _ _ _ _ _ (Act.put _ (some 134) _) _
                          simp only [Act.put, List.setIfInBounds_toArray, List.set_cons_zero, List.set_cons_succ]
                          refine wpAnyH_take (i := 14) (v := ?vi2aa14) rfl (by kernel_rfl) (by kernel_rfl) (by kernel_rfl) (fun _ _ _ h => h) (Or.inl ⟨by first | kernel_rfl | rfl, ?yi2aa14⟩) hHeld ?ri2aa14
                          case yi2aa14 => (intro W hSW; (try dsimp only at hSW); go_simp; (try with_reducible rfl))
                          change wpAnyH _ _ _ _ _ _ _ (Act.put _ (some 135) _) _
                          simp only [Act.put, List.setIfInBounds_toArray, List.set_cons_zero, List.set_cons_succ]
                          refine wpAnyH_take (i := 15) (v := ?vi2aa15) rfl (by kernel_rfl) (by kernel_rfl) (by kernel_rfl) (fun _ _ _ h => h) (Or.inl ⟨by first | kernel_rfl | rfl, ?yi2aa15⟩) hHeld ?ri2aa15
                          case yi2aa15 => (intro W hSW; (try dsimp only at hSW); go_simp; (try with_reducible rfl))
                          change wpAnyH _ _ _ _ _ _ _ (Act.put _ (some 136) _) _
                          simp only [Act.put, List.setIfInBounds_toArray, List.set_cons_zero, List.set_cons_succ]
                          refine wpAnyH_take (i := 16) (v := undef) rfl (by kernel_rfl) (by kernel_rfl) (by kernel_rfl) (fun _ _ _ h => h) (Or.inr ⟨by first | kernel_rfl | rfl, rfl⟩) hHeld ?_
                          change wpAnyH _ _ _ _ _ _ _ (Act.put _ (some 137) _) _
                          simp only [Act.put, List.setIfInBounds_toArray, List.set_cons_zero, List.set_cons_succ]
                          refine wpAnyH_take (i := 17) (v := undef) rfl (by kernel_rfl) (by kernel_rfl) (by kernel_rfl) (fun _ _ _ h => h) (Or.inr ⟨by first | kernel_rfl | rfl, rfl⟩) hHeld ?_
                          change wpAnyH _ _ _ _ _ _ _ (Act.put _ (some 138) _) _
                          simp only [Act.put, List.setIfInBounds_toArray, List.set_cons_zero, List.set_cons_succ]
                          refine wpAnyH_take (i := 18) (v := undef) rfl (by kernel_rfl) (by kernel_rfl) (by kernel_rfl) (fun _ _ _ h => h) (Or.inr ⟨by first | kernel_rfl | rfl, rfl⟩) hHeld ?_
                          change wpAnyH _ _ _ _ _ _ _ (Act.put _ (some 139) _) _
                          simp only [Act.put, List.setIfInBounds_toArray, List.set_cons_zero, List.set_cons_succ]
                          refine wpAnyH_take (i := 19) (v := undef) rfl (by kernel_rfl) (by kernel_rfl) (by kernel_rfl) (fun _ _ _ h => h) (Or.inr ⟨by first | kernel_rfl | rfl, rfl⟩) hHeld ?_
                          change wpAnyH _ _ _ _ _ _ _ (Act.put _ (some 140) _) _
                          simp only [Act.put, List.setIfInBounds_toArray, List.set_cons_zero, List.set_cons_succ]
                          refine wpAnyH_take (i := 20) (v := undef) rfl (by kernel_rfl) (by kernel_rfl) (by kernel_rfl) (fun _ _ _ h => h) (Or.inr ⟨by first | kernel_rfl | rfl, rfl⟩) hHeld ?_
                          change wpAnyH _ _ _ _ _ _ _ (Act.put _ (some 141) _) _
                          simp only [Act.put, List.setIfInBounds_toArray, List.set_cons_zero, List.set_cons_succ]
                          refine wpAnyH_take (i := 21) (v := undef) rfl (by kernel_rfl) (by kernel_rfl) (by kernel_rfl) (fun _ _ _ h => h) (Or.inr ⟨by first | kernel_rfl | rfl, rfl⟩) hHeld ?_
                          change wpAnyH _ _ _ _ _ _ _ (Act.put _ (some 142) _) _
                          simp only [Act.put, List.setIfInBounds_toArray, List.set_cons_zero, List.set_cons_succ]
                          refine wpAnyH_take (i := 22) (v := undef) rfl (by kernel_rfl) (by kernel_rfl) (by kernel_rfl) (fun _ _ _ h => h) (Or.inr ⟨by first | kernel_rfl | rfl, rfl⟩) hHeld ?_
                          change wpAnyH _ _ _ _ _ _ _ (Act.put _ (some 143) _) _
                          simp only [Act.put, List.setIfInBounds_toArray, List.set_cons_zero, List.set_cons_succ]
                          refine wpAnyH_take (i := 23) (v := undef) rfl (by kernel_rfl) (by kernel_rfl) (by kernel_rfl) (fun _ _ _ h => h) (Or.inr ⟨by first | kernel_rfl | rfl, rfl⟩) hHeld ?_
                          change wpAnyH _ _ _ _ _ _ _ (Act.put _ (some 144) _) _
                          simp only [Act.put, List.setIfInBounds_toArray, List.set_cons_zero, List.set_cons_succ]
                          refine wpAnyH_take (i := 24) (v := undef) rfl (by kernel_rfl) (by kernel_rfl) (by kernel_rfl) (fun _ _ _ h => h) (Or.inr ⟨by first | kernel_rfl | rfl, rfl⟩) hHeld ?_
                          change wpAnyH _ _ _ _ _ _ _ (Act.put _ (some 145) _) _
                          simp only [Act.put, List.setIfInBounds_toArray, List.set_cons_zero, List.set_cons_succ]
                          refine wpAnyH_take (i := 25) (v := undef) rfl (by kernel_rfl) (by kernel_rfl) (by kernel_rfl) (fun _ _ _ h => h) (Or.inr ⟨by first | kernel_rfl | rfl, rfl⟩) hHeld ?_
                          change wpAnyH _ _ _ _ _ _ _ (Act.put _ (some 146) _) _
                          simp only [Act.put, List.setIfInBounds_toArray, List.set_cons_zero, List.set_cons_succ]
                          refine wpAnyH_take (i := 26) (v := ?vi2aa26) rfl (by kernel_rfl) (by kernel_rfl) (by kernel_rfl) (fun _ _ _ h => h) (Or.inl ⟨by first | kernel_rfl | rfl, ?yi2aa26⟩) hHeld ?ri2aa26
                          case yi2aa26 => (intro W hSW; (try dsimp only at hSW); go_simp; (try with_reducible rfl))
                          change wpAnyH _ _ _ _ _ _ _ (Act.put _ (some 147) _) _
                          simp only [Act.put, List.setIfInBounds_toArray, List.set_cons_zero, List.set_cons_succ]
                          refine wpAnyH_take (i := 27) (v := ?vi2aa27) rfl (by kernel_rfl) (by kernel_rfl) (by kernel_rfl) (fun _ _ _ h => h) (Or.inl ⟨by first | kernel_rfl | rfl, ?yi2aa27⟩) hHeld ?ri2aa27
                          case yi2aa27 => (intro W hSW; (try dsimp only at hSW); go_simp; (try with_reducible rfl))
                          change wpAnyH _ _ _ _ _ _ _ (Act.put _ (some 17) _) _
                          simp only [Act.put, List.setIfInBounds_toArray, List.set_cons_zero, List.set_cons_succ]
                          refine wpAnyH_done (by kernel_rfl) ?_ _
                          clear hHeld HCS HB
                          go_wp2
                          exact ⟨⟨k + 1, false, by omega, by omega, rfl, by go_num, HNB.out, .inr HX.out⟩, by simp [intOf]; omega⟩
                      · have HCS : Hid (∀ V, Below w17.heap.size w17 V → V.cell? ⟨b, oo + k * 5, none⟩ = some (.int .i64 kd) ∧ V.cell? ⟨b, oo + k * 5 + 1, none⟩ = some (.int .i64 ad) ∧ V.cell? ⟨b, oo + k * 5 + 2, none⟩ = some (.int .i64 lo) ∧ V.cell? ⟨b, oo + k * 5 + 3, none⟩ = some (.int .u8 (fi : Int)) ∧ V.cell? ⟨b, oo + k * 5 + 4, none⟩ = some (.slice pa pl pc)) := fun V hV0 => by
                          have hV := hB1 V hV0
                          exact ⟨by rw [hV.cell hbl]; exact d0, by rw [hV.cell hbl]; exact d1, by rw [hV.cell hbl]; exact d2, by rw [hV.cell hbl]; exact d3, by rw [hV.cell hbl]; exact d4⟩
                        have qkb : (kd == 0) = false := by simpa using q0
                        have HX : Hid (∃ j, ∃ hj : j < l1.length, k + 1 ≤ j ∧ j < min len1 60 ∧ meets l1[j] i tn) := HNEXT.out (fun h => q0 h.1)
                        have HNB : Hid (Below w17.heap.size w17 wr.drew) := HB.out.drew
                        clear d0 d1 d2 d3 d4 HNEXT hB1
                        go_wp2
                        refine wp_region_held_drew (S := fun V => (V.cell? ⟨b, oo + k * 5, none⟩ = some (.int .i64 kd) ∧ V.cell? ⟨b, oo + k * 5 + 1, none⟩ = some (.int .i64 ad) ∧ V.cell? ⟨b, oo + k * 5 + 2, none⟩ = some (.int .i64 lo) ∧ V.cell? ⟨b, oo + k * 5 + 3, none⟩ = some (.int .u8 (fi : Int)) ∧ V.cell? ⟨b, oo + k * 5 + 4, none⟩ = some (.slice pa pl pc)) ∧ V.cell? ⟨nb, i, none⟩ = some (.string tn) ∧ V.cell? ⟨kb, i, none⟩ = some (.string tk) ∧ V.cell? ⟨lb, i, none⟩ = some (.string tn) ∧ V.cell? ⟨mb, i, none⟩ = some (.string tn)) (by kernel_rfl) (⟨HCS.out _ HB.out.drew, HRW.out _ HB.out.drew⟩) (fun hHeld => ?_)
                        refine wpAnyH_take (i := 0) (v := ?vi2kk0) rfl (by kernel_rfl) (by kernel_rfl) (by kernel_rfl) (fun _ _ _ h => h) (Or.inl ⟨by first | kernel_rfl | rfl, ?yi2kk0⟩) hHeld ?ri2kk0
                        case yi2kk0 => (intro W hSW; (try dsimp only at hSW); go_simp; (try with_reducible rfl))
                        change wpAnyH _ _ _ _ _ _ _ (Act.put _ (some 121) _) _
                        simp only [Act.put, List.setIfInBounds_toArray, List.set_cons_zero, List.set_cons_succ]
                        refine wpAnyH_take (i := 1) (v := ?vi2kk1) rfl (by kernel_rfl) (by kernel_rfl) (by kernel_rfl) (fun _ _ _ h => h) (Or.inl ⟨by first | kernel_rfl | rfl, ?yi2kk1⟩) hHeld ?ri2kk1
                        case yi2kk1 => (intro W hSW; (try dsimp only at hSW); go_simp; (try with_reducible rfl))
                        change wpAnyH _ _ _ _ _ _ _ (Act.put _ (some 122) _) _
                        simp only [Act.put, List.setIfInBounds_toArray, List.set_cons_zero, List.set_cons_succ]
                        refine wpAnyH_take (i := 2) (v := ?vi2kk2) rfl (by kernel_rfl) (by kernel_rfl) (by kernel_rfl) (fun _ _ _ h => h) (Or.inl ⟨by first | kernel_rfl | rfl, ?yi2kk2⟩) hHeld ?ri2kk2
                        case yi2kk2 => (intro W hSW; (try dsimp only at hSW); go_simp; (try with_reducible rfl))
                        change wpAnyH _ _ _ _ _ _ _ (Act.put _ (some 123) _) _
                        simp only [Act.put, List.setIfInBounds_toArray, List.set_cons_zero, List.set_cons_succ]
                        refine wpAnyH_take (i := 3) (v := ?vi2kk3) rfl (by kernel_rfl) (by kernel_rfl) (by kernel_rfl) (fun _ _ _ h => h) (Or.inl ⟨by first | kernel_rfl | rfl, ?yi2kk3⟩) hHeld ?ri2kk3
                        case yi2kk3 => (intro W hSW; (try dsimp only at hSW); go_simp; (try with_reducible rfl))
                        change wpAnyH _ _ _ _ _ _ _ (Act.put _ (some 124) _) _
                        simp only [Act.put, List.setIfInBounds_toArray, List.set_cons_zero, List.set_cons_succ]
                        refine wpAnyH_take (i := 4) (v := ?vi2kk4) rfl (by kernel_rfl) (by kernel_rfl) (by kernel_rfl) (fun _ _ _ h => h) (Or.inl ⟨by first | kernel_rfl | rfl, ?yi2kk4⟩) hHeld ?ri2kk4
                        case yi2kk4 => (intro W hSW; (try dsimp only at hSW); go_simp; (try with_reducible rfl))
                        change wpAnyH _ _ _ _ _ _ _ (Act.put _ (some 125) _) _
                        simp only [Act.put, List.setIfInBounds_toArray, List.set_cons_zero, List.set_cons_succ]
                        refine wpAnyH_take (i := 5) (v := ?vi2kk5) rfl (by kernel_rfl) (by kernel_rfl) (by kernel_rfl) (fun _ _ _ h => h) (Or.inl ⟨by first | kernel_rfl | rfl, ?yi2kk5⟩) hHeld ?ri2kk5
                        case yi2kk5 => (intro W hSW; (try dsimp only at hSW); go_simp; (try with_reducible rfl))
                        change wpAnyH _ _ _ _ _ _ _ (Act.put _ (some 126) _) _
                        simp only [Act.put, List.setIfInBounds_toArray, List.set_cons_zero, List.set_cons_succ]
                        refine wpAnyH_take (i := 6) (v := ?vi2kk6) rfl (by kernel_rfl) (by kernel_rfl) (by kernel_rfl) (fun _ _ _ h => h) (Or.inl ⟨by first | kernel_rfl | rfl, ?yi2kk6⟩) hHeld ?ri2kk6
                        case yi2kk6 => (intro W hSW; (try dsimp only at hSW); go_simp; (try with_reducible rfl))
                        change wpAnyH _ _ _ _ _ _ _ (Act.put _ (some 127) _) _
                        simp only [Act.put, List.setIfInBounds_toArray, List.set_cons_zero, List.set_cons_succ]
                        refine wpAnyH_take (i := 7) (v := undef) rfl (by kernel_rfl) (by kernel_rfl) (by kernel_rfl) (fun _ _ _ h => h) (Or.inr ⟨by first | kernel_rfl | rfl, rfl⟩) hHeld ?_
                        change wpAnyH _ _ _ _ _ _ _ (Act.put _ (some 128) _) _
                        simp only [Act.put, List.setIfInBounds_toArray, List.set_cons_zero, List.set_cons_succ]
                        refine wpAnyH_take (i := 8) (v := undef) rfl (by kernel_rfl) (by kernel_rfl) (by kernel_rfl) (fun _ _ _ h => h) (Or.inr ⟨by first | kernel_rfl | rfl, rfl⟩) hHeld ?_
                        change wpAnyH _ _ _ _ _ _ _ (Act.put _ (some 129) _) _
                        simp only [Act.put, List.setIfInBounds_toArray, List.set_cons_zero, List.set_cons_succ]
                        refine wpAnyH_take (i := 9) (v := undef) rfl (by kernel_rfl) (by kernel_rfl) (by kernel_rfl) (fun _ _ _ h => h) (Or.inr ⟨by first | kernel_rfl | rfl, rfl⟩) hHeld ?_
                        change wpAnyH _ _ _ _ _ _ _ (Act.put _ (some 130) _) _
                        simp only [Act.put, List.setIfInBounds_toArray, List.set_cons_zero, List.set_cons_succ]
                        refine wpAnyH_take (i := 10) (v := undef) rfl (by kernel_rfl) (by kernel_rfl) (by kernel_rfl) (fun _ _ _ h => h) (Or.inr ⟨by first | kernel_rfl | rfl, rfl⟩) hHeld ?_
                        change wpAnyH _ _ _ _ _ _ _ (Act.put _ (some 131) _) _
                        simp only [Act.put, List.setIfInBounds_toArray, List.set_cons_zero, List.set_cons_succ]
                        refine wpAnyH_take (i := 11) (v := undef) rfl (by kernel_rfl) (by kernel_rfl) (by kernel_rfl) (fun _ _ _ h => h) (Or.inr ⟨by first | kernel_rfl | rfl, rfl⟩) hHeld ?_
                        change wpAnyH _ _ _ _ _ _ _ (Act.put _ (some 132) _) _
                        simp only [Act.put, List.setIfInBounds_toArray, List.set_cons_zero, List.set_cons_succ]
                        refine wpAnyH_take (i := 12) (v := undef) rfl (by kernel_rfl) (by kernel_rfl) (by kernel_rfl) (fun _ _ _ h => h) (Or.inr ⟨by first | kernel_rfl | rfl, rfl⟩) hHeld ?_
                        change wpAnyH _ _ _ _ _ _ _ (Act.put _ (some 133) _) _
                        simp only [Act.put, List.setIfInBounds_toArray, List.set_cons_zero, List.set_cons_succ]
                        refine wpAnyH_take (i := 13) (v := undef) rfl (by kernel_rfl) (by kernel_rfl) (by kernel_rfl) (fun _ _ _ h => h) (Or.inr ⟨by first | kernel_rfl | rfl, rfl⟩) hHeld ?_
                        change wpAnyH _ _ _ _ _ _ _ (Act.put _ (some 134) _) _
                        simp only [Act.put, List.setIfInBounds_toArray, List.set_cons_zero, List.set_cons_succ]
                        refine wpAnyH_take (i := 14) (v := ?vi2kk14) rfl (by kernel_rfl) (by kernel_rfl) (by kernel_rfl) (fun _ _ _ h => h) (Or.inl ⟨by first | kernel_rfl | rfl, ?yi2kk14⟩) hHeld ?ri2kk14
                        case yi2kk14 => (intro W hSW; (try dsimp only at hSW); go_simp; (try with_reducible rfl))
                        change wpAnyH _ _ _ _ _ _ _ (Act.put _ (some 135) _) _
                        simp only [Act.put, List.setIfInBounds_toArray, List.set_cons_zero, List.set_cons_succ]
                        refine wpAnyH_take (i := 15) (v := ?vi2kk15) rfl (by kernel_rfl) (by kernel_rfl) (by kernel_rfl) (fun _ _ _ h => h) (Or.inl ⟨by first | kernel_rfl | rfl, ?yi2kk15⟩) hHeld ?ri2kk15
                        case yi2kk15 => (intro W hSW; (try dsimp only at hSW); go_simp; (try with_reducible rfl))
                        change wpAnyH _ _ _ _ _ _ _ (Act.put _ (some 136) _) _
                        simp only [Act.put, List.setIfInBounds_toArray, List.set_cons_zero, List.set_cons_succ]
                        refine wpAnyH_take (i := 16) (v := undef) rfl (by kernel_rfl) (by kernel_rfl) (by kernel_rfl) (fun _ _ _ h => h) (Or.inr ⟨by first | kernel_rfl | rfl, rfl⟩) hHeld ?_
                        change wpAnyH _ _ _ _ _ _ _ (Act.put _ (some 137) _) _
                        simp only [Act.put, List.setIfInBounds_toArray, List.set_cons_zero, List.set_cons_succ]
                        refine wpAnyH_take (i := 17) (v := undef) rfl (by kernel_rfl) (by kernel_rfl) (by kernel_rfl) (fun _ _ _ h => h) (Or.inr ⟨by first | kernel_rfl | rfl, rfl⟩) hHeld ?_
                        change wpAnyH _ _ _ _ _ _ _ (Act.put _ (some 138) _) _
                        simp only [Act.put, List.setIfInBounds_toArray, List.set_cons_zero, List.set_cons_succ]
                        refine wpAnyH_take (i := 18) (v := undef) rfl (by kernel_rfl) (by kernel_rfl) (by kernel_rfl) (fun _ _ _ h => h) (Or.inr ⟨by first | kernel_rfl | rfl, rfl⟩) hHeld ?_
                        change wpAnyH _ _ _ _ _ _ _ (Act.put _ (some 139) _) _
                        simp only [Act.put, List.setIfInBounds_toArray, List.set_cons_zero, List.set_cons_succ]
                        refine wpAnyH_take (i := 19) (v := undef) rfl (by kernel_rfl) (by kernel_rfl) (by kernel_rfl) (fun _ _ _ h => h) (Or.inr ⟨by first | kernel_rfl | rfl, rfl⟩) hHeld ?_
                        change wpAnyH _ _ _ _ _ _ _ (Act.put _ (some 140) _) _
                        simp only [Act.put, List.setIfInBounds_toArray, List.set_cons_zero, List.set_cons_succ]
                        refine wpAnyH_take (i := 20) (v := undef) rfl (by kernel_rfl) (by kernel_rfl) (by kernel_rfl) (fun _ _ _ h => h) (Or.inr ⟨by first | kernel_rfl | rfl, rfl⟩) hHeld ?_
                        change wpAnyH _ _ _ _ _ _ _ (Act.put _ (some 141) _) _
                        simp only [Act.put, List.setIfInBounds_toArray, List.set_cons_zero, List.set_cons_succ]
                        refine wpAnyH_take (i := 21) (v := undef) rfl (by kernel_rfl) (by kernel_rfl) (by kernel_rfl) (fun _ _ _ h => h) (Or.inr ⟨by first | kernel_rfl | rfl, rfl⟩) hHeld ?_
                        change wpAnyH _ _ _ _ _ _ _ (Act.put _ (some 142) _) _
                        simp only [Act.put, List.setIfInBounds_toArray, List.set_cons_zero, List.set_cons_succ]
                        refine wpAnyH_take (i := 22) (v := undef) rfl (by kernel_rfl) (by kernel_rfl) (by kernel_rfl) (fun _ _ _ h => h) (Or.inr ⟨by first | kernel_rfl | rfl, rfl⟩) hHeld ?_
                        change wpAnyH _ _ _ _ _ _ _ (Act.put _ (some 143) _) _
                        simp only [Act.put, List.setIfInBounds_toArray, List.set_cons_zero, List.set_cons_succ]
                        refine wpAnyH_take (i := 23) (v := undef) rfl (by kernel_rfl) (by kernel_rfl) (by kernel_rfl) (fun _ _ _ h => h) (Or.inr ⟨by first | kernel_rfl | rfl, rfl⟩) hHeld ?_
                        change wpAnyH _ _ _ _ _ _ _ (Act.put _ (some 144) _) _
                        simp only [Act.put, List.setIfInBounds_toArray, List.set_cons_zero, List.set_cons_succ]
                        refine wpAnyH_take (i := 24) (v := undef) rfl (by kernel_rfl) (by kernel_rfl) (by kernel_rfl) (fun _ _ _ h => h) (Or.inr ⟨by first | kernel_rfl | rfl, rfl⟩) hHeld ?_
                        change wpAnyH _ _ _ _ _ _ _ (Act.put _ (some 145) _) _
                        simp only [Act.put, List.setIfInBounds_toArray, List.set_cons_zero, List.set_cons_succ]
                        refine wpAnyH_take (i := 25) (v := undef) rfl (by kernel_rfl) (by kernel_rfl) (by kernel_rfl) (fun _ _ _ h => h) (Or.inr ⟨by first | kernel_rfl | rfl, rfl⟩) hHeld ?_
                        change wpAnyH _ _ _ _ _ _ _ (Act.put _ (some 146) _) _
                        simp only [Act.put, List.setIfInBounds_toArray, List.set_cons_zero, List.set_cons_succ]
                        refine wpAnyH_take (i := 26) (v := ?vi2kk26) rfl (by kernel_rfl) (by kernel_rfl) (by kernel_rfl) (fun _ _ _ h => h) (Or.inl ⟨by first | kernel_rfl | rfl, ?yi2kk26⟩) hHeld ?ri2kk26
                        case yi2kk26 => (intro W hSW; (try dsimp only at hSW); go_simp; (try with_reducible rfl))
                        change wpAnyH _ _ _ _ _ _ _ (Act.put _ (some 147) _) _
                        simp only [Act.put, List.setIfInBounds_toArray, List.set_cons_zero, List.set_cons_succ]
                        refine wpAnyH_take (i := 27) (v := ?vi2kk27) rfl (by kernel_rfl) (by kernel_rfl) (by kernel_rfl) (fun _ _ _ h => h) (Or.inl ⟨by first | kernel_rfl | rfl, ?yi2kk27⟩) hHeld ?ri2kk27
                        case yi2kk27 => (intro W hSW; (try dsimp only at hSW); go_simp; (try with_reducible rfl))
                        change wpAnyH _ _ _ _ _ _ _ (Act.put _ (some 17) _) _
                        simp only [Act.put, List.setIfInBounds_toArray, List.set_cons_zero, List.set_cons_succ]
                        refine wpAnyH_done (by kernel_rfl) ?_ _
                        clear hHeld HCS HB
                        go_wp2
                        exact ⟨⟨k + 1, false, by omega, by omega, rfl, by go_num, HNB.out, .inr HX.out⟩, by simp [intOf]; omega⟩
                · have nb2 : (tn.toList == tl.toList) = false := str_nb h2
                  have nb3 : ¬ tn.toList = tk.toList := str_ne h1
                  have nb4 : ¬ tn.toList = tl.toList := str_ne h2
                  clear h1 h2
                  go_wp2
                  refine wp_region_held_drew (S := fun V => V.cell? ⟨nb, i, none⟩ = some (.string tn) ∧ V.cell? ⟨kb, i, none⟩ = some (.string tk) ∧ V.cell? ⟨lb, i, none⟩ = some (.string tl) ∧ V.cell? ⟨mb, i, none⟩ = some (.string tl)) (by kernel_rfl) (HRW.out _ HB.out.drew) (fun hHeld => ?_)
                  refine wpAnyH_take (i := 0) (v := ?vzC0) rfl (by kernel_rfl) (by kernel_rfl) (by kernel_rfl) (fun _ _ _ h => h) (Or.inl ⟨by first | kernel_rfl | rfl, ?yzC0⟩) hHeld ?rzC0
                  case yzC0 => (intro W hSW; (try dsimp only at hSW); go_simp; (try with_reducible rfl))
                  change wpAnyH _ _ _ _ _ _ _ (Act.put _ (some 87) _) _
                  simp only [Act.put, List.setIfInBounds_toArray, List.set_cons_zero, List.set_cons_succ]
                  refine wpAnyH_take (i := 1) (v := ?vzC1) rfl (by kernel_rfl) (by kernel_rfl) (by kernel_rfl) (fun _ _ _ h => h) (Or.inl ⟨by first | kernel_rfl | rfl, ?yzC1⟩) hHeld ?rzC1
                  case yzC1 => (intro W hSW; (try dsimp only at hSW); go_simp; (try with_reducible rfl))
                  change wpAnyH _ _ _ _ _ _ _ (Act.put _ (some 88) _) _
                  simp only [Act.put, List.setIfInBounds_toArray, List.set_cons_zero, List.set_cons_succ]
                  refine wpAnyH_take (i := 2) (v := ?vzC2) rfl (by kernel_rfl) (by kernel_rfl) (by kernel_rfl) (fun _ _ _ h => h) (Or.inl ⟨by first | kernel_rfl | rfl, ?yzC2⟩) hHeld ?rzC2
                  case yzC2 => (intro W hSW; (try dsimp only at hSW); go_simp; (try with_reducible rfl))
                  change wpAnyH _ _ _ _ _ _ _ (Act.put _ (some 89) _) _
                  simp only [Act.put, List.setIfInBounds_toArray, List.set_cons_zero, List.set_cons_succ]
                  refine wpAnyH_take (i := 3) (v := ?vzC3) rfl (by kernel_rfl) (by kernel_rfl) (by kernel_rfl) (fun _ _ _ h => h) (Or.inl ⟨by first | kernel_rfl | rfl, ?yzC3⟩) hHeld ?rzC3
                  case yzC3 => (intro W hSW; (try dsimp only at hSW); go_simp; (try with_reducible rfl))
                  change wpAnyH _ _ _ _ _ _ _ (Act.put _ (some 90) _) _
                  simp only [Act.put, List.setIfInBounds_toArray, List.set_cons_zero, List.set_cons_succ]
                  refine wpAnyH_take (i := 4) (v := ?vzC4) rfl (by kernel_rfl) (by kernel_rfl) (by kernel_rfl) (fun _ _ _ h => h) (Or.inl ⟨by first | kernel_rfl | rfl, ?yzC4⟩) hHeld ?rzC4
                  case yzC4 => (intro W hSW; (try dsimp only at hSW); go_simp; (try with_reducible rfl))
                  change wpAnyH _ _ _ _ _ _ _ (Act.put _ (some 91) _) _
                  simp only [Act.put, List.setIfInBounds_toArray, List.set_cons_zero, List.set_cons_succ]
                  refine wpAnyH_take (i := 5) (v := ?vzC5) rfl (by kernel_rfl) (by kernel_rfl) (by kernel_rfl) (fun _ _ _ h => h) (Or.inl ⟨by first | kernel_rfl | rfl, ?yzC5⟩) hHeld ?rzC5
                  case yzC5 => (intro W hSW; (try dsimp only at hSW); go_simp; (try with_reducible rfl))
                  change wpAnyH _ _ _ _ _ _ _ (Act.put _ (some 92) _) _
                  simp only [Act.put, List.setIfInBounds_toArray, List.set_cons_zero, List.set_cons_succ]
                  refine wpAnyH_take (i := 6) (v := ?vzC6) rfl (by kernel_rfl) (by kernel_rfl) (by kernel_rfl) (fun _ _ _ h => h) (Or.inl ⟨by first | kernel_rfl | rfl, ?yzC6⟩) hHeld ?rzC6
                  case yzC6 => (intro W hSW; (try dsimp only at hSW); go_simp; (try with_reducible rfl))
                  change wpAnyH _ _ _ _ _ _ _ (Act.put _ (some 93) _) _
                  simp only [Act.put, List.setIfInBounds_toArray, List.set_cons_zero, List.set_cons_succ]
                  refine wpAnyH_take (i := 7) (v := ?vzC7) rfl (by kernel_rfl) (by kernel_rfl) (by kernel_rfl) (fun _ _ _ h => h) (Or.inl ⟨by first | kernel_rfl | rfl, ?yzC7⟩) hHeld ?rzC7
                  case yzC7 => (intro W hSW; (try dsimp only at hSW); go_simp; (try with_reducible rfl))
                  change wpAnyH _ _ _ _ _ _ _ (Act.put _ (some 94) _) _
                  simp only [Act.put, List.setIfInBounds_toArray, List.set_cons_zero, List.set_cons_succ]
                  refine wpAnyH_take (i := 8) (v := ?vzC8) rfl (by kernel_rfl) (by kernel_rfl) (by kernel_rfl) (fun _ _ _ h => h) (Or.inl ⟨by first | kernel_rfl | rfl, ?yzC8⟩) hHeld ?rzC8
                  case yzC8 => (intro W hSW; (try dsimp only at hSW); go_simp; (try with_reducible rfl))
                  change wpAnyH _ _ _ _ _ _ _ (Act.put _ (some 95) _) _
                  simp only [Act.put, List.setIfInBounds_toArray, List.set_cons_zero, List.set_cons_succ]
                  refine wpAnyH_take (i := 9) (v := ?vzC9) rfl (by kernel_rfl) (by kernel_rfl) (by kernel_rfl) (fun _ _ _ h => h) (Or.inl ⟨by first | kernel_rfl | rfl, ?yzC9⟩) hHeld ?rzC9
                  case yzC9 => (intro W hSW; (try dsimp only at hSW); go_simp; (try with_reducible rfl))
                  change wpAnyH _ _ _ _ _ _ _ (Act.put _ (some 96) _) _
                  simp only [Act.put, List.setIfInBounds_toArray, List.set_cons_zero, List.set_cons_succ]
                  refine wpAnyH_take (i := 10) (v := ?vzC10) rfl (by kernel_rfl) (by kernel_rfl) (by kernel_rfl) (fun _ _ _ h => h) (Or.inl ⟨by first | kernel_rfl | rfl, ?yzC10⟩) hHeld ?rzC10
                  case yzC10 => (intro W hSW; (try dsimp only at hSW); go_simp; (try with_reducible rfl))
                  change wpAnyH _ _ _ _ _ _ _ (Act.put _ (some 97) _) _
                  simp only [Act.put, List.setIfInBounds_toArray, List.set_cons_zero, List.set_cons_succ]
                  refine wpAnyH_take (i := 11) (v := ?vzC11) rfl (by kernel_rfl) (by kernel_rfl) (by kernel_rfl) (fun _ _ _ h => h) (Or.inl ⟨by first | kernel_rfl | rfl, ?yzC11⟩) hHeld ?rzC11
                  case yzC11 => (intro W hSW; (try dsimp only at hSW); go_simp; (try with_reducible rfl))
                  change wpAnyH _ _ _ _ _ _ _ (Act.put _ (some 98) _) _
                  simp only [Act.put, List.setIfInBounds_toArray, List.set_cons_zero, List.set_cons_succ]
                  refine wpAnyH_take (i := 12) (v := ?vzC12) rfl (by kernel_rfl) (by kernel_rfl) (by kernel_rfl) (fun _ _ _ h => h) (Or.inl ⟨by first | kernel_rfl | rfl, ?yzC12⟩) hHeld ?rzC12
                  case yzC12 => (intro W hSW; (try dsimp only at hSW); go_simp; (try with_reducible rfl))
                  change wpAnyH _ _ _ _ _ _ _ (Act.put _ (some 99) _) _
                  simp only [Act.put, List.setIfInBounds_toArray, List.set_cons_zero, List.set_cons_succ]
                  refine wpAnyH_take (i := 13) (v := ?vzC13) rfl (by kernel_rfl) (by kernel_rfl) (by kernel_rfl) (fun _ _ _ h => h) (Or.inl ⟨by first | kernel_rfl | rfl, ?yzC13⟩) hHeld ?rzC13
                  case yzC13 => (intro W hSW; (try dsimp only at hSW); go_simp; (try with_reducible rfl))
                  change wpAnyH _ _ _ _ _ _ _ (Act.put _ (some 100) _) _
                  simp only [Act.put, List.setIfInBounds_toArray, List.set_cons_zero, List.set_cons_succ]
                  refine wpAnyH_take (i := 14) (v := ?vzC14) rfl (by kernel_rfl) (by kernel_rfl) (by kernel_rfl) (fun _ _ _ h => h) (Or.inl ⟨by first | kernel_rfl | rfl, ?yzC14⟩) hHeld ?rzC14
                  case yzC14 => (intro W hSW; (try dsimp only at hSW); go_simp; (try with_reducible rfl))
                  change wpAnyH _ _ _ _ _ _ _ (Act.put _ (some 101) _) _
                  simp only [Act.put, List.setIfInBounds_toArray, List.set_cons_zero, List.set_cons_succ]
                  refine wpAnyH_take (i := 15) (v := ?vzC15) rfl (by kernel_rfl) (by kernel_rfl) (by kernel_rfl) (fun _ _ _ h => h) (Or.inl ⟨by first | kernel_rfl | rfl, ?yzC15⟩) hHeld ?rzC15
                  case yzC15 => (intro W hSW; (try dsimp only at hSW); go_simp; (try with_reducible rfl))
                  change wpAnyH _ _ _ _ _ _ _ (Act.put _ (some 102) _) _
                  simp only [Act.put, List.setIfInBounds_toArray, List.set_cons_zero, List.set_cons_succ]
                  refine wpAnyH_take (i := 16) (v := ?vzC16) rfl (by kernel_rfl) (by kernel_rfl) (by kernel_rfl) (fun _ _ _ h => h) (Or.inl ⟨by first | kernel_rfl | rfl, ?yzC16⟩) hHeld ?rzC16
                  case yzC16 => (intro W hSW; (try dsimp only at hSW); go_simp; (try with_reducible rfl))
                  change wpAnyH _ _ _ _ _ _ _ (Act.put _ (some 103) _) _
                  simp only [Act.put, List.setIfInBounds_toArray, List.set_cons_zero, List.set_cons_succ]
                  refine wpAnyH_take (i := 17) (v := ?vzC17) rfl (by kernel_rfl) (by kernel_rfl) (by kernel_rfl) (fun _ _ _ h => h) (Or.inl ⟨by first | kernel_rfl | rfl, ?yzC17⟩) hHeld ?rzC17
                  case yzC17 => (intro W hSW; (try dsimp only at hSW); go_simp; (try with_reducible rfl))
                  change wpAnyH _ _ _ _ _ _ _ (Act.put _ (some 104) _) _
                  simp only [Act.put, List.setIfInBounds_toArray, List.set_cons_zero, List.set_cons_succ]
                  refine wpAnyH_take (i := 18) (v := ?vzC18) rfl (by kernel_rfl) (by kernel_rfl) (by kernel_rfl) (fun _ _ _ h => h) (Or.inl ⟨by first | kernel_rfl | rfl, ?yzC18⟩) hHeld ?rzC18
                  case yzC18 => (intro W hSW; (try dsimp only at hSW); go_simp; (try with_reducible rfl))
                  change wpAnyH _ _ _ _ _ _ _ (Act.put _ (some 105) _) _
                  simp only [Act.put, List.setIfInBounds_toArray, List.set_cons_zero, List.set_cons_succ]
                  refine wpAnyH_take (i := 19) (v := ?vzC19) rfl (by kernel_rfl) (by kernel_rfl) (by kernel_rfl) (fun _ _ _ h => h) (Or.inl ⟨by first | kernel_rfl | rfl, ?yzC19⟩) hHeld ?rzC19
                  case yzC19 => (intro W hSW; (try dsimp only at hSW); go_simp; (try with_reducible rfl))
                  change wpAnyH _ _ _ _ _ _ _ (Act.put _ (some 106) _) _
                  simp only [Act.put, List.setIfInBounds_toArray, List.set_cons_zero, List.set_cons_succ]
                  refine wpAnyH_take (i := 20) (v := ?vzC20) rfl (by kernel_rfl) (by kernel_rfl) (by kernel_rfl) (fun _ _ _ h => h) (Or.inl ⟨by first | kernel_rfl | rfl, ?yzC20⟩) hHeld ?rzC20
                  case yzC20 => (intro W hSW; (try dsimp only at hSW); go_simp; (try with_reducible rfl))
                  change wpAnyH _ _ _ _ _ _ _ (Act.put _ (some 17) _) _
                  simp only [Act.put, List.setIfInBounds_toArray, List.set_cons_zero, List.set_cons_succ]
                  refine wpAnyH_done (by kernel_rfl) ?_ _
                  clear hHeld HFR
                  go_wp2
                  go_loopw [17, 18] (fun bv v wr => ∃ (k : Nat) (ok : Bool), k ≤ len1 ∧ k ≤ 60 ∧ bv = .bool ok ∧ v = .int .i64 k ∧ Below w17.heap.size w17 wr ∧ (ok = true ∨ ∃ j, ∃ hj : j < l1.length, k ≤ j ∧ j < min len1 60 ∧ meets l1[j] i tn)) (fun _ v _ => 61 - (intOf v).toNat)
                  case atStart => exact ⟨0, false, by omega, by omega, rfl, rfl, HB.out.drew, .inr HEX.out⟩
                  case round =>
                    clear HB
                    obtain ⟨k, ok, hk1, hk2, rfl, rfl, hbel, hex⟩ := hrel
                    have HB : Hid (Below w17.heap.size w17 wr) := hbel
                    clear hbel
                    cases ok with
                    | true =>
                      clear hex
                      by_cases g1 : k < len1
                      · have kg1 : (k : Int) < (len1 : Int) := by omega
                        by_cases g2 : k < 60
                        · have kg2 : (k : Int) < 60 := by omega
                          go_wp2
                          refine wp_region_held_drew (S := fun V => V.cell? ⟨nb, i, none⟩ = some (.string tn) ∧ V.cell? ⟨kb, i, none⟩ = some (.string tk) ∧ V.cell? ⟨lb, i, none⟩ = some (.string tl) ∧ V.cell? ⟨mb, i, none⟩ = some (.string tl)) (by kernel_rfl) (HRW.out _ HB.out.drew) (fun hHeld => ?_)
                          refine wpAnyH_take (i := 0) (v := ?vi3FIN00) rfl (by kernel_rfl) (by kernel_rfl) (by kernel_rfl) (fun _ _ _ h => h) (Or.inl ⟨by first | kernel_rfl | rfl, ?yi3FIN00⟩) hHeld ?ri3FIN00
                          case yi3FIN00 => (intro W hSW; (try dsimp only at hSW); go_simp; (try with_reducible rfl))
                          change wpAnyH _ _ _ _ _ _ _ (Act.put _ (some 148) _) _
                          simp only [Act.put, List.setIfInBounds_toArray, List.set_cons_zero, List.set_cons_succ]
                          refine wpAnyH_take (i := 1) (v := ?vi3FIN01) rfl (by kernel_rfl) (by kernel_rfl) (by kernel_rfl) (fun _ _ _ h => h) (Or.inl ⟨by first | kernel_rfl | rfl, ?yi3FIN01⟩) hHeld ?ri3FIN01
                          case yi3FIN01 => (intro W hSW; (try dsimp only at hSW); go_simp; (try with_reducible rfl))
                          change wpAnyH _ _ _ _ _ _ _ (Act.put _ (some 149) _) _
                          simp only [Act.put, List.setIfInBounds_toArray, List.set_cons_zero, List.set_cons_succ]
                          refine wpAnyH_take (i := 2) (v := ?vi3FIN02) rfl (by kernel_rfl) (by kernel_rfl) (by kernel_rfl) (fun _ _ _ h => h) (Or.inl ⟨by first | kernel_rfl | rfl, ?yi3FIN02⟩) hHeld ?ri3FIN02
                          case yi3FIN02 => (intro W hSW; (try dsimp only at hSW); go_simp; (try with_reducible rfl))
                          change wpAnyH _ _ _ _ _ _ _ (Act.put _ (some 150) _) _
                          simp only [Act.put, List.setIfInBounds_toArray, List.set_cons_zero, List.set_cons_succ]
                          refine wpAnyH_take (i := 3) (v := ?vi3FIN03) rfl (by kernel_rfl) (by kernel_rfl) (by kernel_rfl) (fun _ _ _ h => h) (Or.inl ⟨by first | kernel_rfl | rfl, ?yi3FIN03⟩) hHeld ?ri3FIN03
                          case yi3FIN03 => (intro W hSW; (try dsimp only at hSW); go_simp; (try with_reducible rfl))
                          change wpAnyH _ _ _ _ _ _ _ (Act.put _ (some 151) _) _
                          simp only [Act.put, List.setIfInBounds_toArray, List.set_cons_zero, List.set_cons_succ]
                          refine wpAnyH_take (i := 4) (v := ?vi3FIN04) rfl (by kernel_rfl) (by kernel_rfl) (by kernel_rfl) (fun _ _ _ h => h) (Or.inl ⟨by first | kernel_rfl | rfl, ?yi3FIN04⟩) hHeld ?ri3FIN04
                          case yi3FIN04 => (intro W hSW; (try dsimp only at hSW); go_simp; (try with_reducible rfl))
                          change wpAnyH _ _ _ _ _ _ _ (Act.put _ (some 152) _) _
                          simp only [Act.put, List.setIfInBounds_toArray, List.set_cons_zero, List.set_cons_succ]
                          refine wpAnyH_take (i := 5) (v := ?vi3FIN05) rfl (by kernel_rfl) (by kernel_rfl) (by kernel_rfl) (fun _ _ _ h => h) (Or.inl ⟨by first | kernel_rfl | rfl, ?yi3FIN05⟩) hHeld ?ri3FIN05
                          case yi3FIN05 => (intro W hSW; (try dsimp only at hSW); go_simp; (try with_reducible rfl))
                          change wpAnyH _ _ _ _ _ _ _ (Act.put _ (some 153) _) _
                          simp only [Act.put, List.setIfInBounds_toArray, List.set_cons_zero, List.set_cons_succ]
                          refine wpAnyH_take (i := 6) (v := ?vi3FIN06) rfl (by kernel_rfl) (by kernel_rfl) (by kernel_rfl) (fun _ _ _ h => h) (Or.inl ⟨by first | kernel_rfl | rfl, ?yi3FIN06⟩) hHeld ?ri3FIN06
                          case yi3FIN06 => (intro W hSW; (try dsimp only at hSW); go_simp; (try with_reducible rfl))
                          change wpAnyH _ _ _ _ _ _ _ (Act.put _ (some 154) _) _
                          simp only [Act.put, List.setIfInBounds_toArray, List.set_cons_zero, List.set_cons_succ]
                          refine wpAnyH_take (i := 7) (v := ?vi3FIN07) rfl (by kernel_rfl) (by kernel_rfl) (by kernel_rfl) (fun _ _ _ h => h) (Or.inl ⟨by first | kernel_rfl | rfl, ?yi3FIN07⟩) hHeld ?ri3FIN07
                          case yi3FIN07 => (intro W hSW; (try dsimp only at hSW); go_simp; (try with_reducible rfl))
                          change wpAnyH _ _ _ _ _ _ _ (Act.put _ (some 155) _) _
                          simp only [Act.put, List.setIfInBounds_toArray, List.set_cons_zero, List.set_cons_succ]
                          refine wpAnyH_take (i := 8) (v := ?vi3FIN08) rfl (by kernel_rfl) (by kernel_rfl) (by kernel_rfl) (fun _ _ _ h => h) (Or.inl ⟨by first | kernel_rfl | rfl, ?yi3FIN08⟩) hHeld ?ri3FIN08
                          case yi3FIN08 => (intro W hSW; (try dsimp only at hSW); go_simp; (try with_reducible rfl))
                          change wpAnyH _ _ _ _ _ _ _ (Act.put _ (some 156) _) _
                          simp only [Act.put, List.setIfInBounds_toArray, List.set_cons_zero, List.set_cons_succ]
                          refine wpAnyH_take (i := 9) (v := ?vi3FIN09) rfl (by kernel_rfl) (by kernel_rfl) (by kernel_rfl) (fun _ _ _ h => h) (Or.inl ⟨by first | kernel_rfl | rfl, ?yi3FIN09⟩) hHeld ?ri3FIN09
                          case yi3FIN09 => (intro W hSW; (try dsimp only at hSW); go_simp; (try with_reducible rfl))
                          change wpAnyH _ _ _ _ _ _ _ (Act.put _ (some 157) _) _
                          simp only [Act.put, List.setIfInBounds_toArray, List.set_cons_zero, List.set_cons_succ]
                          refine wpAnyH_take (i := 10) (v := ?vi3FIN010) rfl (by kernel_rfl) (by kernel_rfl) (by kernel_rfl) (fun _ _ _ h => h) (Or.inl ⟨by first | kernel_rfl | rfl, ?yi3FIN010⟩) hHeld ?ri3FIN010
                          case yi3FIN010 => (intro W hSW; (try dsimp only at hSW); go_simp; (try with_reducible rfl))
                          change wpAnyH _ _ _ _ _ _ _ (Act.put _ (some 158) _) _
                          simp only [Act.put, List.setIfInBounds_toArray, List.set_cons_zero, List.set_cons_succ]
                          refine wpAnyH_take (i := 11) (v := ?vi3FIN011) rfl (by kernel_rfl) (by kernel_rfl) (by kernel_rfl) (fun _ _ _ h => h) (Or.inl ⟨by first | kernel_rfl | rfl, ?yi3FIN011⟩) hHeld ?ri3FIN011
                          case yi3FIN011 => (intro W hSW; (try dsimp only at hSW); go_simp; (try with_reducible rfl))
                          change wpAnyH _ _ _ _ _ _ _ (Act.put _ (some 159) _) _
                          simp only [Act.put, List.setIfInBounds_toArray, List.set_cons_zero, List.set_cons_succ]
                          refine wpAnyH_take (i := 12) (v := ?vi3FIN012) rfl (by kernel_rfl) (by kernel_rfl) (by kernel_rfl) (fun _ _ _ h => h) (Or.inl ⟨by first | kernel_rfl | rfl, ?yi3FIN012⟩) hHeld ?ri3FIN012
                          case yi3FIN012 => (intro W hSW; (try dsimp only at hSW); go_simp; (try with_reducible rfl))
                          change wpAnyH _ _ _ _ _ _ _ (Act.put _ (some 160) _) _
                          simp only [Act.put, List.setIfInBounds_toArray, List.set_cons_zero, List.set_cons_succ]
                          refine wpAnyH_done (by kernel_rfl) ?_ _
                          clear hHeld
                          go_wp2
                          exact ⟨⟨i + 1, by omega, by go_num, HB.out.drew⟩, by simp [intOf]; omega⟩
                        · have kg2 : ¬ (k : Int) < 60 := by omega
                          go_wp2
                          refine wp_region_held_drew (S := fun V => V.cell? ⟨nb, i, none⟩ = some (.string tn) ∧ V.cell? ⟨kb, i, none⟩ = some (.string tk) ∧ V.cell? ⟨lb, i, none⟩ = some (.string tl) ∧ V.cell? ⟨mb, i, none⟩ = some (.string tl)) (by kernel_rfl) (HRW.out _ HB.out.drew) (fun hHeld => ?_)
                          refine wpAnyH_take (i := 0) (v := ?vi3FIN10) rfl (by kernel_rfl) (by kernel_rfl) (by kernel_rfl) (fun _ _ _ h => h) (Or.inl ⟨by first | kernel_rfl | rfl, ?yi3FIN10⟩) hHeld ?ri3FIN10
                          case yi3FIN10 => (intro W hSW; (try dsimp only at hSW); go_simp; (try with_reducible rfl))
                          change wpAnyH _ _ _ _ _ _ _ (Act.put _ (some 148) _) _
                          simp only [Act.put, List.setIfInBounds_toArray, List.set_cons_zero, List.set_cons_succ]
                          refine wpAnyH_take (i := 1) (v := ?vi3FIN11) rfl (by kernel_rfl) (by kernel_rfl) (by kernel_rfl) (fun _ _ _ h => h) (Or.inl ⟨by first | kernel_rfl | rfl, ?yi3FIN11⟩) hHeld ?ri3FIN11
                          case yi3FIN11 => (intro W hSW; (try dsimp only at hSW); go_simp; (try with_reducible rfl))
                          change wpAnyH _ _ _ _ _ _ _ (Act.put _ (some 149) _) _
                          simp only [Act.put, List.setIfInBounds_toArray, List.set_cons_zero, List.set_cons_succ]
                          refine wpAnyH_take (i := 2) (v := ?vi3FIN12) rfl (by kernel_rfl) (by kernel_rfl) (by kernel_rfl) (fun _ _ _ h => h) (Or.inl ⟨by first | kernel_rfl | rfl, ?yi3FIN12⟩) hHeld ?ri3FIN12
                          case yi3FIN12 => (intro W hSW; (try dsimp only at hSW); go_simp; (try with_reducible rfl))
                          change wpAnyH _ _ _ _ _ _ _ (Act.put _ (some 150) _) _
                          simp only [Act.put, List.setIfInBounds_toArray, List.set_cons_zero, List.set_cons_succ]
                          refine wpAnyH_take (i := 3) (v := ?vi3FIN13) rfl (by kernel_rfl) (by kernel_rfl) (by kernel_rfl) (fun _ _ _ h => h) (Or.inl ⟨by first | kernel_rfl | rfl, ?yi3FIN13⟩) hHeld ?ri3FIN13
                          case yi3FIN13 => (intro W hSW; (try dsimp only at hSW); go_simp; (try with_reducible rfl))
                          change wpAnyH _ _ _ _ _ _ _ (Act.put _ (some 151) _) _
                          simp only [Act.put, List.setIfInBounds_toArray, List.set_cons_zero, List.set_cons_succ]
                          refine wpAnyH_take (i := 4) (v := ?vi3FIN14) rfl (by kernel_rfl) (by kernel_rfl) (by kernel_rfl) (fun _ _ _ h => h) (Or.inl ⟨by first | kernel_rfl | rfl, ?yi3FIN14⟩) hHeld ?ri3FIN14
                          case yi3FIN14 => (intro W hSW; (try dsimp only at hSW); go_simp; (try with_reducible rfl))
                          change wpAnyH _ _ _ _ _ _ _ (Act.put _ (some 152) _) _
                          simp only [Act.put, List.setIfInBounds_toArray, List.set_cons_zero, List.set_cons_succ]
                          refine wpAnyH_take (i := 5) (v := ?vi3FIN15) rfl (by kernel_rfl) (by kernel_rfl) (by kernel_rfl) (fun _ _ _ h => h) (Or.inl ⟨by first | kernel_rfl | rfl, ?yi3FIN15⟩) hHeld ?ri3FIN15
                          case yi3FIN15 => (intro W hSW; (try dsimp only at hSW); go_simp; (try with_reducible rfl))
                          change wpAnyH _ _ _ _ _ _ _ (Act.put _ (some 153) _) _
                          simp only [Act.put, List.setIfInBounds_toArray, List.set_cons_zero, List.set_cons_succ]
                          refine wpAnyH_take (i := 6) (v := ?vi3FIN16) rfl (by kernel_rfl) (by kernel_rfl) (by kernel_rfl) (fun _ _ _ h => h) (Or.inl ⟨by first | kernel_rfl | rfl, ?yi3FIN16⟩) hHeld ?ri3FIN16
                          case yi3FIN16 => (intro W hSW; (try dsimp only at hSW); go_simp; (try with_reducible rfl))
                          change wpAnyH _ _ _ _ _ _ _ (Act.put _ (some 154) _) _
                          simp only [Act.put, List.setIfInBounds_toArray, List.set_cons_zero, List.set_cons_succ]
                          refine wpAnyH_take (i := 7) (v := ?vi3FIN17) rfl (by kernel_rfl) (by kernel_rfl) (by kernel_rfl) (fun _ _ _ h => h) (Or.inl ⟨by first | kernel_rfl | rfl, ?yi3FIN17⟩) hHeld ?ri3FIN17
                          case yi3FIN17 => (intro W hSW; (try dsimp only at hSW); go_simp; (try with_reducible rfl))
                          change wpAnyH _ _ _ _ _ _ _ (Act.put _ (some 155) _) _
                          simp only [Act.put, List.setIfInBounds_toArray, List.set_cons_zero, List.set_cons_succ]
                          refine wpAnyH_take (i := 8) (v := ?vi3FIN18) rfl (by kernel_rfl) (by kernel_rfl) (by kernel_rfl) (fun _ _ _ h => h) (Or.inl ⟨by first | kernel_rfl | rfl, ?yi3FIN18⟩) hHeld ?ri3FIN18
                          case yi3FIN18 => (intro W hSW; (try dsimp only at hSW); go_simp; (try with_reducible rfl))
                          change wpAnyH _ _ _ _ _ _ _ (Act.put _ (some 156) _) _
                          simp only [Act.put, List.setIfInBounds_toArray, List.set_cons_zero, List.set_cons_succ]
                          refine wpAnyH_take (i := 9) (v := ?vi3FIN19) rfl (by kernel_rfl) (by kernel_rfl) (by kernel_rfl) (fun _ _ _ h => h) (Or.inl ⟨by first | kernel_rfl | rfl, ?yi3FIN19⟩) hHeld ?ri3FIN19
                          case yi3FIN19 => (intro W hSW; (try dsimp only at hSW); go_simp; (try with_reducible rfl))
                          change wpAnyH _ _ _ _ _ _ _ (Act.put _ (some 157) _) _
                          simp only [Act.put, List.setIfInBounds_toArray, List.set_cons_zero, List.set_cons_succ]
                          refine wpAnyH_take (i := 10) (v := ?vi3FIN110) rfl (by kernel_rfl) (by kernel_rfl) (by kernel_rfl) (fun _ _ _ h => h) (Or.inl ⟨by first | kernel_rfl | rfl, ?yi3FIN110⟩) hHeld ?ri3FIN110
                          case yi3FIN110 => (intro W hSW; (try dsimp only at hSW); go_simp; (try with_reducible rfl))
                          change wpAnyH _ _ _ _ _ _ _ (Act.put _ (some 158) _) _
                          simp only [Act.put, List.setIfInBounds_toArray, List.set_cons_zero, List.set_cons_succ]
                          refine wpAnyH_take (i := 11) (v := ?vi3FIN111) rfl (by kernel_rfl) (by kernel_rfl) (by kernel_rfl) (fun _ _ _ h => h) (Or.inl ⟨by first | kernel_rfl | rfl, ?yi3FIN111⟩) hHeld ?ri3FIN111
                          case yi3FIN111 => (intro W hSW; (try dsimp only at hSW); go_simp; (try with_reducible rfl))
                          change wpAnyH _ _ _ _ _ _ _ (Act.put _ (some 159) _) _
                          simp only [Act.put, List.setIfInBounds_toArray, List.set_cons_zero, List.set_cons_succ]
                          refine wpAnyH_take (i := 12) (v := ?vi3FIN112) rfl (by kernel_rfl) (by kernel_rfl) (by kernel_rfl) (fun _ _ _ h => h) (Or.inl ⟨by first | kernel_rfl | rfl, ?yi3FIN112⟩) hHeld ?ri3FIN112
                          case yi3FIN112 => (intro W hSW; (try dsimp only at hSW); go_simp; (try with_reducible rfl))
                          change wpAnyH _ _ _ _ _ _ _ (Act.put _ (some 160) _) _
                          simp only [Act.put, List.setIfInBounds_toArray, List.set_cons_zero, List.set_cons_succ]
                          refine wpAnyH_done (by kernel_rfl) ?_ _
                          clear hHeld
                          go_wp2
                          exact ⟨⟨i + 1, by omega, by go_num, HB.out.drew⟩, by simp [intOf]; omega⟩
                      · have kg1 : ¬ (k : Int) < (len1 : Int) := by omega
                        go_wp2
                        refine wp_region_held_drew (S := fun V => V.cell? ⟨nb, i, none⟩ = some (.string tn) ∧ V.cell? ⟨kb, i, none⟩ = some (.string tk) ∧ V.cell? ⟨lb, i, none⟩ = some (.string tl) ∧ V.cell? ⟨mb, i, none⟩ = some (.string tl)) (by kernel_rfl) (HRW.out _ HB.out.drew) (fun hHeld => ?_)
                        refine wpAnyH_take (i := 0) (v := ?vi3FIN20) rfl (by kernel_rfl) (by kernel_rfl) (by kernel_rfl) (fun _ _ _ h => h) (Or.inl ⟨by first | kernel_rfl | rfl, ?yi3FIN20⟩) hHeld ?ri3FIN20
                        case yi3FIN20 => (intro W hSW; (try dsimp only at hSW); go_simp; (try with_reducible rfl))
                        change wpAnyH _ _ _ _ _ _ _ (Act.put _ (some 148) _) _
                        simp only [Act.put, List.setIfInBounds_toArray, List.set_cons_zero, List.set_cons_succ]
                        refine wpAnyH_take (i := 1) (v := ?vi3FIN21) rfl (by kernel_rfl) (by kernel_rfl) (by kernel_rfl) (fun _ _ _ h => h) (Or.inl ⟨by first | kernel_rfl | rfl, ?yi3FIN21⟩) hHeld ?ri3FIN21
                        case yi3FIN21 => (intro W hSW; (try dsimp only at hSW); go_simp; (try with_reducible rfl))
                        change wpAnyH _ _ _ _ _ _ _ (Act.put _ (some 149) _) _
                        simp only [Act.put, List.setIfInBounds_toArray, List.set_cons_zero, List.set_cons_succ]
                        refine wpAnyH_take (i := 2) (v := ?vi3FIN22) rfl (by kernel_rfl) (by kernel_rfl) (by kernel_rfl) (fun _ _ _ h => h) (Or.inl ⟨by first | kernel_rfl | rfl, ?yi3FIN22⟩) hHeld ?ri3FIN22
                        case yi3FIN22 => (intro W hSW; (try dsimp only at hSW); go_simp; (try with_reducible rfl))
                        change wpAnyH _ _ _ _ _ _ _ (Act.put _ (some 150) _) _
                        simp only [Act.put, List.setIfInBounds_toArray, List.set_cons_zero, List.set_cons_succ]
                        refine wpAnyH_take (i := 3) (v := ?vi3FIN23) rfl (by kernel_rfl) (by kernel_rfl) (by kernel_rfl) (fun _ _ _ h => h) (Or.inl ⟨by first | kernel_rfl | rfl, ?yi3FIN23⟩) hHeld ?ri3FIN23
                        case yi3FIN23 => (intro W hSW; (try dsimp only at hSW); go_simp; (try with_reducible rfl))
                        change wpAnyH _ _ _ _ _ _ _ (Act.put _ (some 151) _) _
                        simp only [Act.put, List.setIfInBounds_toArray, List.set_cons_zero, List.set_cons_succ]
                        refine wpAnyH_take (i := 4) (v := ?vi3FIN24) rfl (by kernel_rfl) (by kernel_rfl) (by kernel_rfl) (fun _ _ _ h => h) (Or.inl ⟨by first | kernel_rfl | rfl, ?yi3FIN24⟩) hHeld ?ri3FIN24
                        case yi3FIN24 => (intro W hSW; (try dsimp only at hSW); go_simp; (try with_reducible rfl))
                        change wpAnyH _ _ _ _ _ _ _ (Act.put _ (some 152) _) _
                        simp only [Act.put, List.setIfInBounds_toArray, List.set_cons_zero, List.set_cons_succ]
                        refine wpAnyH_take (i := 5) (v := ?vi3FIN25) rfl (by kernel_rfl) (by kernel_rfl) (by kernel_rfl) (fun _ _ _ h => h) (Or.inl ⟨by first | kernel_rfl | rfl, ?yi3FIN25⟩) hHeld ?ri3FIN25
                        case yi3FIN25 => (intro W hSW; (try dsimp only at hSW); go_simp; (try with_reducible rfl))
                        change wpAnyH _ _ _ _ _ _ _ (Act.put _ (some 153) _) _
                        simp only [Act.put, List.setIfInBounds_toArray, List.set_cons_zero, List.set_cons_succ]
                        refine wpAnyH_take (i := 6) (v := ?vi3FIN26) rfl (by kernel_rfl) (by kernel_rfl) (by kernel_rfl) (fun _ _ _ h => h) (Or.inl ⟨by first | kernel_rfl | rfl, ?yi3FIN26⟩) hHeld ?ri3FIN26
                        case yi3FIN26 => (intro W hSW; (try dsimp only at hSW); go_simp; (try with_reducible rfl))
                        change wpAnyH _ _ _ _ _ _ _ (Act.put _ (some 154) _) _
                        simp only [Act.put, List.setIfInBounds_toArray, List.set_cons_zero, List.set_cons_succ]
                        refine wpAnyH_take (i := 7) (v := ?vi3FIN27) rfl (by kernel_rfl) (by kernel_rfl) (by kernel_rfl) (fun _ _ _ h => h) (Or.inl ⟨by first | kernel_rfl | rfl, ?yi3FIN27⟩) hHeld ?ri3FIN27
                        case yi3FIN27 => (intro W hSW; (try dsimp only at hSW); go_simp; (try with_reducible rfl))
                        change wpAnyH _ _ _ _ _ _ _ (Act.put _ (some 155) _) _
                        simp only [Act.put, List.setIfInBounds_toArray, List.set_cons_zero, List.set_cons_succ]
                        refine wpAnyH_take (i := 8) (v := ?vi3FIN28) rfl (by kernel_rfl) (by kernel_rfl) (by kernel_rfl) (fun _ _ _ h => h) (Or.inl ⟨by first | kernel_rfl | rfl, ?yi3FIN28⟩) hHeld ?ri3FIN28
                        case yi3FIN28 => (intro W hSW; (try dsimp only at hSW); go_simp; (try with_reducible rfl))
                        change wpAnyH _ _ _ _ _ _ _ (Act.put _ (some 156) _) _
                        simp only [Act.put, List.setIfInBounds_toArray, List.set_cons_zero, List.set_cons_succ]
                        refine wpAnyH_take (i := 9) (v := ?vi3FIN29) rfl (by kernel_rfl) (by kernel_rfl) (by kernel_rfl) (fun _ _ _ h => h) (Or.inl ⟨by first | kernel_rfl | rfl, ?yi3FIN29⟩) hHeld ?ri3FIN29
                        case yi3FIN29 => (intro W hSW; (try dsimp only at hSW); go_simp; (try with_reducible rfl))
                        change wpAnyH _ _ _ _ _ _ _ (Act.put _ (some 157) _) _
                        simp only [Act.put, List.setIfInBounds_toArray, List.set_cons_zero, List.set_cons_succ]
                        refine wpAnyH_take (i := 10) (v := ?vi3FIN210) rfl (by kernel_rfl) (by kernel_rfl) (by kernel_rfl) (fun _ _ _ h => h) (Or.inl ⟨by first | kernel_rfl | rfl, ?yi3FIN210⟩) hHeld ?ri3FIN210
                        case yi3FIN210 => (intro W hSW; (try dsimp only at hSW); go_simp; (try with_reducible rfl))
                        change wpAnyH _ _ _ _ _ _ _ (Act.put _ (some 158) _) _
                        simp only [Act.put, List.setIfInBounds_toArray, List.set_cons_zero, List.set_cons_succ]
                        refine wpAnyH_take (i := 11) (v := ?vi3FIN211) rfl (by kernel_rfl) (by kernel_rfl) (by kernel_rfl) (fun _ _ _ h => h) (Or.inl ⟨by first | kernel_rfl | rfl, ?yi3FIN211⟩) hHeld ?ri3FIN211
                        case yi3FIN211 => (intro W hSW; (try dsimp only at hSW); go_simp; (try with_reducible rfl))
                        change wpAnyH _ _ _ _ _ _ _ (Act.put _ (some 159) _) _
                        simp only [Act.put, List.setIfInBounds_toArray, List.set_cons_zero, List.set_cons_succ]
                        refine wpAnyH_take (i := 12) (v := ?vi3FIN212) rfl (by kernel_rfl) (by kernel_rfl) (by kernel_rfl) (fun _ _ _ h => h) (Or.inl ⟨by first | kernel_rfl | rfl, ?yi3FIN212⟩) hHeld ?ri3FIN212
                        case yi3FIN212 => (intro W hSW; (try dsimp only at hSW); go_simp; (try with_reducible rfl))
                        change wpAnyH _ _ _ _ _ _ _ (Act.put _ (some 160) _) _
                        simp only [Act.put, List.setIfInBounds_toArray, List.set_cons_zero, List.set_cons_succ]
                        refine wpAnyH_done (by kernel_rfl) ?_ _
                        clear hHeld
                        go_wp2
                        exact ⟨⟨i + 1, by omega, by go_num, HB.out.drew⟩, by simp [intOf]; omega⟩
                    | false =>
                      obtain ⟨j, hj, hkj, hj2, hmt⟩ : ∃ j, ∃ hj : j < l1.length, k ≤ j ∧ j < min len1 60 ∧ meets l1[j] i tn := hex.resolve_left (by simp)
                      have g1 : k < len1 := by omega
                      have g2 : k < 60 := by omega
                      have kg1 : (k : Int) < (len1 : Int) := by omega
                      have kg2 : (k : Int) < 60 := by omega
                      have hkl : k < l1.length := by omega
                      obtain ⟨b, oo, rfl, hbl, hc⟩ := HOS.out.2.2.2 (by omega)
                      have hci := hc k hkl
                      have HMT : Hid (meets l1[j] i tn) := hmt
                      have hjk : j = k → meets l1[k] i tn := by rintro rfl; exact hmt
                      obtain ⟨⟨kd, ad, lo, fi, pa, pl, pc, ps⟩, ho⟩ : ∃ o, l1[k] = o := ⟨_, rfl⟩
                      rw [ho] at hci hjk
                      obtain ⟨d0, d1, d2, d3, d4, d5⟩ := hci
                      simp only at d0 d1 d2 d3 d4
                      have hfi : fi < 256 := d5.2.2.2.1
                      have HNEXT : Hid (¬ meets ⟨kd, ad, lo, fi, pa, pl, pc, ps⟩ i tn → ∃ j, ∃ hj : j < l1.length, k + 1 ≤ j ∧ j < min len1 60 ∧ meets l1[j] i tn) := by
                        intro hn
                        refine ⟨j, hj, ?_, hj2, HMT.out⟩
                        rcases Nat.lt_or_ge k j with h | h
                        · exact h
                        · exact absurd (hjk (by omega)) hn
                      have hB1 : ∀ V, Below w17.heap.size w17 V → Below w.heap.size w V := fun V hV => HB17.out.trans (hV.mono HB17.out.size)
                      clear hc hex hmt hjk ho d5
                      by_cases q0 : kd = 0
                      · subst q0
                        by_cases qa : ad = (i : Int)
                        · subst qa
                          have HCS : Hid (∀ V, Below w17.heap.size w17 V → V.cell? ⟨b, oo + k * 5, none⟩ = some (.int .i64 0) ∧ V.cell? ⟨b, oo + k * 5 + 1, none⟩ = some (.int .i64 (i : Int)) ∧ V.cell? ⟨b, oo + k * 5 + 2, none⟩ = some (.int .i64 lo) ∧ V.cell? ⟨b, oo + k * 5 + 3, none⟩ = some (.int .u8 (fi : Int)) ∧ V.cell? ⟨b, oo + k * 5 + 4, none⟩ = some (.slice pa pl pc)) := fun V hV0 => by
                            have hV := hB1 V hV0
                            exact ⟨by rw [hV.cell hbl]; exact d0, by rw [hV.cell hbl]; exact d1, by rw [hV.cell hbl]; exact d2, by rw [hV.cell hbl]; exact d3, by rw [hV.cell hbl]; exact d4⟩
                          obtain ⟨F, hF⟩ : ∃ F, fillS lo fi = F := ⟨_, rfl⟩
                          have HFI : Hid (Calls Try.prog 27 #[.agg #[.int .i64 0, .int .i64 (i : Int), .int .i64 lo, .int .u8 (fi : Int), .slice pa pl pc]] wr.drew fun e w' => e = .returned (.string F) ∧ Below wr.drew.heap.size wr.drew w') := by
                            rw [← hF]; exact filled_any 0 (i : Int) lo fi pa pl pc wr.drew hfi
                          by_cases hFt : tn = F
                          · clear d0 d1 d2 d3 d4 hF HNEXT hB1
                            subst hFt
                            go_wp2
                            refine wp_region_held_drew (S := fun V => (V.cell? ⟨b, oo + k * 5, none⟩ = some (.int .i64 0) ∧ V.cell? ⟨b, oo + k * 5 + 1, none⟩ = some (.int .i64 (i : Int)) ∧ V.cell? ⟨b, oo + k * 5 + 2, none⟩ = some (.int .i64 lo) ∧ V.cell? ⟨b, oo + k * 5 + 3, none⟩ = some (.int .u8 (fi : Int)) ∧ V.cell? ⟨b, oo + k * 5 + 4, none⟩ = some (.slice pa pl pc)) ∧ V.cell? ⟨nb, i, none⟩ = some (.string tn) ∧ V.cell? ⟨kb, i, none⟩ = some (.string tk) ∧ V.cell? ⟨lb, i, none⟩ = some (.string tl) ∧ V.cell? ⟨mb, i, none⟩ = some (.string tl)) (by kernel_rfl) (⟨HCS.out _ HB.out.drew, HRW.out _ HB.out.drew⟩) (fun hHeld => ?_)
                            refine wpAnyH_take (i := 0) (v := ?vi3m10) rfl (by kernel_rfl) (by kernel_rfl) (by kernel_rfl) (fun _ _ _ h => h) (Or.inl ⟨by first | kernel_rfl | rfl, ?yi3m10⟩) hHeld ?ri3m10
                            case yi3m10 => (intro W hSW; (try dsimp only at hSW); go_simp; (try with_reducible rfl))
                            change wpAnyH _ _ _ _ _ _ _ (Act.put _ (some 121) _) _
                            simp only [Act.put, List.setIfInBounds_toArray, List.set_cons_zero, List.set_cons_succ]
                            refine wpAnyH_take (i := 1) (v := ?vi3m11) rfl (by kernel_rfl) (by kernel_rfl) (by kernel_rfl) (fun _ _ _ h => h) (Or.inl ⟨by first | kernel_rfl | rfl, ?yi3m11⟩) hHeld ?ri3m11
                            case yi3m11 => (intro W hSW; (try dsimp only at hSW); go_simp; (try with_reducible rfl))
                            change wpAnyH _ _ _ _ _ _ _ (Act.put _ (some 122) _) _
                            simp only [Act.put, List.setIfInBounds_toArray, List.set_cons_zero, List.set_cons_succ]
                            refine wpAnyH_take (i := 2) (v := ?vi3m12) rfl (by kernel_rfl) (by kernel_rfl) (by kernel_rfl) (fun _ _ _ h => h) (Or.inl ⟨by first | kernel_rfl | rfl, ?yi3m12⟩) hHeld ?ri3m12
                            case yi3m12 => (intro W hSW; (try dsimp only at hSW); go_simp; (try with_reducible rfl))
                            change wpAnyH _ _ _ _ _ _ _ (Act.put _ (some 123) _) _
                            simp only [Act.put, List.setIfInBounds_toArray, List.set_cons_zero, List.set_cons_succ]
                            refine wpAnyH_take (i := 3) (v := ?vi3m13) rfl (by kernel_rfl) (by kernel_rfl) (by kernel_rfl) (fun _ _ _ h => h) (Or.inl ⟨by first | kernel_rfl | rfl, ?yi3m13⟩) hHeld ?ri3m13
                            case yi3m13 => (intro W hSW; (try dsimp only at hSW); go_simp; (try with_reducible rfl))
                            change wpAnyH _ _ _ _ _ _ _ (Act.put _ (some 124) _) _
                            simp only [Act.put, List.setIfInBounds_toArray, List.set_cons_zero, List.set_cons_succ]
                            refine wpAnyH_take (i := 4) (v := ?vi3m14) rfl (by kernel_rfl) (by kernel_rfl) (by kernel_rfl) (fun _ _ _ h => h) (Or.inl ⟨by first | kernel_rfl | rfl, ?yi3m14⟩) hHeld ?ri3m14
                            case yi3m14 => (intro W hSW; (try dsimp only at hSW); go_simp; (try with_reducible rfl))
                            change wpAnyH _ _ _ _ _ _ _ (Act.put _ (some 125) _) _
                            simp only [Act.put, List.setIfInBounds_toArray, List.set_cons_zero, List.set_cons_succ]
                            refine wpAnyH_take (i := 5) (v := ?vi3m15) rfl (by kernel_rfl) (by kernel_rfl) (by kernel_rfl) (fun _ _ _ h => h) (Or.inl ⟨by first | kernel_rfl | rfl, ?yi3m15⟩) hHeld ?ri3m15
                            case yi3m15 => (intro W hSW; (try dsimp only at hSW); go_simp; (try with_reducible rfl))
                            change wpAnyH _ _ _ _ _ _ _ (Act.put _ (some 126) _) _
                            simp only [Act.put, List.setIfInBounds_toArray, List.set_cons_zero, List.set_cons_succ]
                            refine wpAnyH_take (i := 6) (v := ?vi3m16) rfl (by kernel_rfl) (by kernel_rfl) (by kernel_rfl) (fun _ _ _ h => h) (Or.inl ⟨by first | kernel_rfl | rfl, ?yi3m16⟩) hHeld ?ri3m16
                            case yi3m16 => (intro W hSW; (try dsimp only at hSW); go_simp; (try with_reducible rfl))
                            change wpAnyH _ _ _ _ _ _ _ (Act.put _ (some 127) _) _
                            simp only [Act.put, List.setIfInBounds_toArray, List.set_cons_zero, List.set_cons_succ]
                            refine wpAnyH_take (i := 7) (v := ?vi3m17) rfl (by kernel_rfl) (by kernel_rfl) (by kernel_rfl) (fun _ _ _ h => h) (Or.inl ⟨by first | kernel_rfl | rfl, ?yi3m17⟩) hHeld ?ri3m17
                            case yi3m17 => (intro W hSW; (try dsimp only at hSW); go_simp; (try with_reducible rfl))
                            change wpAnyH _ _ _ _ _ _ _ (Act.put _ (some 128) _) _
                            simp only [Act.put, List.setIfInBounds_toArray, List.set_cons_zero, List.set_cons_succ]
                            refine wpAnyH_take (i := 8) (v := ?vi3m18) rfl (by kernel_rfl) (by kernel_rfl) (by kernel_rfl) (fun _ _ _ h => h) (Or.inl ⟨by first | kernel_rfl | rfl, ?yi3m18⟩) hHeld ?ri3m18
                            case yi3m18 => (intro W hSW; (try dsimp only at hSW); go_simp; (try with_reducible rfl))
                            change wpAnyH _ _ _ _ _ _ _ (Act.put _ (some 129) _) _
                            simp only [Act.put, List.setIfInBounds_toArray, List.set_cons_zero, List.set_cons_succ]
                            refine wpAnyH_take (i := 9) (v := ?vi3m19) rfl (by kernel_rfl) (by kernel_rfl) (by kernel_rfl) (fun _ _ _ h => h) (Or.inl ⟨by first | kernel_rfl | rfl, ?yi3m19⟩) hHeld ?ri3m19
                            case yi3m19 => (intro W hSW; (try dsimp only at hSW); go_simp; (try with_reducible rfl))
                            change wpAnyH _ _ _ _ _ _ _ (Act.put _ (some 130) _) _
                            simp only [Act.put, List.setIfInBounds_toArray, List.set_cons_zero, List.set_cons_succ]
                            refine wpAnyH_take (i := 10) (v := ?vi3m110) rfl (by kernel_rfl) (by kernel_rfl) (by kernel_rfl) (fun _ _ _ h => h) (Or.inl ⟨by first | kernel_rfl | rfl, ?yi3m110⟩) hHeld ?ri3m110
                            case yi3m110 => (intro W hSW; (try dsimp only at hSW); go_simp; (try with_reducible rfl))
                            change wpAnyH _ _ _ _ _ _ _ (Act.put _ (some 131) _) _
                            simp only [Act.put, List.setIfInBounds_toArray, List.set_cons_zero, List.set_cons_succ]
                            refine wpAnyH_take (i := 11) (v := ?vi3m111) rfl (by kernel_rfl) (by kernel_rfl) (by kernel_rfl) (fun _ _ _ h => h) (Or.inl ⟨by first | kernel_rfl | rfl, ?yi3m111⟩) hHeld ?ri3m111
                            case yi3m111 => (intro W hSW; (try dsimp only at hSW); go_simp; (try with_reducible rfl))
                            change wpAnyH _ _ _ _ _ _ _ (Act.put _ (some 132) _) _
                            simp only [Act.put, List.setIfInBounds_toArray, List.set_cons_zero, List.set_cons_succ]
                            refine wpAnyH_take (i := 12) (v := ?vi3m112) rfl (by kernel_rfl) (by kernel_rfl) (by kernel_rfl) (fun _ _ _ h => h) (Or.inl ⟨by first | kernel_rfl | rfl, ?yi3m112⟩) hHeld ?ri3m112
                            case yi3m112 => (intro W hSW; (try dsimp only at hSW); go_simp; (try with_reducible rfl))
                            change wpAnyH _ _ _ _ _ _ _ (Act.put _ (some 133) _) _
                            simp only [Act.put, List.setIfInBounds_toArray, List.set_cons_zero, List.set_cons_succ]
                            refine wpAnyH_take (i := 13) (v := ?vi3m113) rfl (by kernel_rfl) (by kernel_rfl) (by kernel_rfl) (fun _ _ _ h => h) (Or.inl ⟨by first | kernel_rfl | rfl, ?yi3m113⟩) hHeld ?ri3m113
                            case yi3m113 => (intro W hSW; (try dsimp only at hSW); go_simp; (try with_reducible rfl))
                            change wpAnyH _ _ _ _ _ _ _ (Act.put _ (some 134) _) _
                            simp only [Act.put, List.setIfInBounds_toArray, List.set_cons_zero, List.set_cons_succ]
                            refine wpAnyH_take (i := 14) (v := ?vi3m114) rfl (by kernel_rfl) (by kernel_rfl) (by kernel_rfl) (fun _ _ _ h => h) (Or.inl ⟨by first | kernel_rfl | rfl, ?yi3m114⟩) hHeld ?ri3m114
                            case yi3m114 => (intro W hSW; (try dsimp only at hSW); go_simp; (try with_reducible rfl))
                            change wpAnyH _ _ _ _ _ _ _ (Act.put _ (some 135) _) _
                            simp only [Act.put, List.setIfInBounds_toArray, List.set_cons_zero, List.set_cons_succ]
                            refine wpAnyH_take (i := 15) (v := ?vi3m115) rfl (by kernel_rfl) (by kernel_rfl) (by kernel_rfl) (fun _ _ _ h => h) (Or.inl ⟨by first | kernel_rfl | rfl, ?yi3m115⟩) hHeld ?ri3m115
                            case yi3m115 => (intro W hSW; (try dsimp only at hSW); go_simp; (try with_reducible rfl))
                            change wpAnyH _ _ _ _ _ _ _ (Act.put _ (some 136) _) _
                            simp only [Act.put, List.setIfInBounds_toArray, List.set_cons_zero, List.set_cons_succ]
                            refine wpAnyH_take (i := 16) (v := ?vi3m116) rfl (by kernel_rfl) (by kernel_rfl) (by kernel_rfl) (fun _ _ _ h => h) (Or.inl ⟨by first | kernel_rfl | rfl, ?yi3m116⟩) hHeld ?ri3m116
                            case yi3m116 => (intro W hSW; (try dsimp only at hSW); go_simp; (try with_reducible rfl))
                            change wpAnyH _ _ _ _ _ _ _ (Act.put _ (some 137) _) _
                            simp only [Act.put, List.setIfInBounds_toArray, List.set_cons_zero, List.set_cons_succ]
                            refine wpAnyH_take (i := 17) (v := ?vi3m117) rfl (by kernel_rfl) (by kernel_rfl) (by kernel_rfl) (fun _ _ _ h => h) (Or.inl ⟨by first | kernel_rfl | rfl, ?yi3m117⟩) hHeld ?ri3m117
                            case yi3m117 => (intro W hSW; (try dsimp only at hSW); go_simp; (try with_reducible rfl))
                            change wpAnyH _ _ _ _ _ _ _ (Act.put _ (some 138) _) _
                            simp only [Act.put, List.setIfInBounds_toArray, List.set_cons_zero, List.set_cons_succ]
                            refine wpAnyH_take (i := 18) (v := ?vi3m118) rfl (by kernel_rfl) (by kernel_rfl) (by kernel_rfl) (fun _ _ _ h => h) (Or.inl ⟨by first | kernel_rfl | rfl, ?yi3m118⟩) hHeld ?ri3m118
                            case yi3m118 => (intro W hSW; (try dsimp only at hSW); go_simp; (try with_reducible rfl))
                            change wpAnyH _ _ _ _ _ _ _ (Act.put _ (some 139) _) _
                            simp only [Act.put, List.setIfInBounds_toArray, List.set_cons_zero, List.set_cons_succ]
                            refine wpAnyH_take (i := 19) (v := ?vi3m119) rfl (by kernel_rfl) (by kernel_rfl) (by kernel_rfl) (fun _ _ _ h => h) (Or.inl ⟨by first | kernel_rfl | rfl, ?yi3m119⟩) hHeld ?ri3m119
                            case yi3m119 => (intro W hSW; (try dsimp only at hSW); go_simp; (try with_reducible rfl))
                            change wpAnyH _ _ _ _ _ _ _ (Act.put _ (some 140) _) _
                            simp only [Act.put, List.setIfInBounds_toArray, List.set_cons_zero, List.set_cons_succ]
                            refine wpAnyH_take (i := 20) (v := ?vi3m120) rfl (by kernel_rfl) (by kernel_rfl) (by kernel_rfl) (fun _ _ _ h => h) (Or.inl ⟨by first | kernel_rfl | rfl, ?yi3m120⟩) hHeld ?ri3m120
                            case yi3m120 => (intro W hSW; (try dsimp only at hSW); go_simp; (try with_reducible rfl))
                            change wpAnyH _ _ _ _ _ _ _ (Act.put _ (some 141) _) _
                            simp only [Act.put, List.setIfInBounds_toArray, List.set_cons_zero, List.set_cons_succ]
                            refine wpAnyH_take (i := 21) (v := ?vi3m121) rfl (by kernel_rfl) (by kernel_rfl) (by kernel_rfl) (fun _ _ _ h => h) (Or.inl ⟨by first | kernel_rfl | rfl, ?yi3m121⟩) hHeld ?ri3m121
                            case yi3m121 => (intro W hSW; (try dsimp only at hSW); go_simp; (try with_reducible rfl))
                            change wpAnyH _ _ _ _ _ _ _ (Act.put _ (some 142) _) _
                            simp only [Act.put, List.setIfInBounds_toArray, List.set_cons_zero, List.set_cons_succ]
                            refine wpAnyH_take (i := 22) (v := ?vi3m122) rfl (by kernel_rfl) (by kernel_rfl) (by kernel_rfl) (fun _ _ _ h => h) (Or.inl ⟨by first | kernel_rfl | rfl, ?yi3m122⟩) hHeld ?ri3m122
                            case yi3m122 => (intro W hSW; (try dsimp only at hSW); go_simp; (try with_reducible rfl))
                            change wpAnyH _ _ _ _ _ _ _ (Act.put _ (some 143) _) _
                            simp only [Act.put, List.setIfInBounds_toArray, List.set_cons_zero, List.set_cons_succ]
                            refine wpAnyH_take (i := 23) (v := ?vi3m123) rfl (by kernel_rfl) (by kernel_rfl) (by kernel_rfl) (fun _ _ _ h => h) (Or.inl ⟨by first | kernel_rfl | rfl, ?yi3m123⟩) hHeld ?ri3m123
                            case yi3m123 => (intro W hSW; (try dsimp only at hSW); go_simp; (try with_reducible rfl))
                            change wpAnyH _ _ _ _ _ _ _ (Act.put _ (some 144) _) _
                            simp only [Act.put, List.setIfInBounds_toArray, List.set_cons_zero, List.set_cons_succ]
                            refine wpAnyH_ready (rs := [24]) (by kernel_rfl) (by simp) ?_
                            refine AllReadyH.cons rfl (fun K hK => ?_) AllReadyH.nil
                            go_simp
                            refine (HFI.out).mono ?_
                            rintro e V2 ⟨rfl, hb2⟩; have HB2 : Hid (Below w17.heap.size w17 V2) := HB.out.drew.trans (hb2.mono HB.out.size); clear hb2
                            refine hK.out _ _ (⟨HCS.out _ HB2.out, HRW.out _ HB2.out⟩) (fun hHeld => ?_)
                            clear hK K
                            try simp only [Act.put, List.setIfInBounds_toArray, List.set_cons_zero, List.set_cons_succ]
                            refine wpAnyH_take (i := 25) (v := ?vi3m125) rfl (by kernel_rfl) (by kernel_rfl) (by kernel_rfl) (fun _ _ _ h => h) (Or.inl ⟨by first | kernel_rfl | rfl, ?yi3m125⟩) hHeld ?ri3m125
                            case yi3m125 => (intro W hSW; (try dsimp only at hSW); go_simp; (try with_reducible rfl))
                            change wpAnyH _ _ _ _ _ _ _ (Act.put _ (some 146) _) _
                            simp only [Act.put, List.setIfInBounds_toArray, List.set_cons_zero, List.set_cons_succ]
                            refine wpAnyH_take (i := 26) (v := ?vi3m126) rfl (by kernel_rfl) (by kernel_rfl) (by kernel_rfl) (fun _ _ _ h => h) (Or.inl ⟨by first | kernel_rfl | rfl, ?yi3m126⟩) hHeld ?ri3m126
                            case yi3m126 => (intro W hSW; (try dsimp only at hSW); go_simp; (try with_reducible rfl))
                            change wpAnyH _ _ _ _ _ _ _ (Act.put _ (some 147) _) _
                            simp only [Act.put, List.setIfInBounds_toArray, List.set_cons_zero, List.set_cons_succ]
                            refine wpAnyH_take (i := 27) (v := ?vi3m127) rfl (by kernel_rfl) (by kernel_rfl) (by kernel_rfl) (fun _ _ _ h => h) (Or.inl ⟨by first | kernel_rfl | rfl, ?yi3m127⟩) hHeld ?ri3m127
                            case yi3m127 => (intro W hSW; (try dsimp only at hSW); go_simp; (try with_reducible rfl))
                            change wpAnyH _ _ _ _ _ _ _ (Act.put _ (some 17) _) _
                            simp only [Act.put, List.setIfInBounds_toArray, List.set_cons_zero, List.set_cons_succ]
                            refine wpAnyH_done (by kernel_rfl) ?_ _
                            have HNB : Hid (Below w17.heap.size w17 V2) := HB2.out
                            clear hHeld HFI HCS HB HB2
                            go_wp2
                            exact ⟨⟨k + 1, true, by omega, by omega, rfl, by go_num, HNB.out, .inl rfl⟩, by simp [intOf]; omega⟩
                          · have nbF : (tn.toList == F.toList) = false := str_nb hFt
                            have nbF2 : ¬ tn.toList = F.toList := str_ne hFt
                            have HX : Hid (∃ j, ∃ hj : j < l1.length, k + 1 ≤ j ∧ j < min len1 60 ∧ meets l1[j] i tn) := HNEXT.out (fun h => hFt (by rw [← hF]; exact h.2.2.symm))
                            clear d0 d1 d2 d3 d4 hF HNEXT hB1 hFt
                            go_wp2
                            refine wp_region_held_drew (S := fun V => (V.cell? ⟨b, oo + k * 5, none⟩ = some (.int .i64 0) ∧ V.cell? ⟨b, oo + k * 5 + 1, none⟩ = some (.int .i64 (i : Int)) ∧ V.cell? ⟨b, oo + k * 5 + 2, none⟩ = some (.int .i64 lo) ∧ V.cell? ⟨b, oo + k * 5 + 3, none⟩ = some (.int .u8 (fi : Int)) ∧ V.cell? ⟨b, oo + k * 5 + 4, none⟩ = some (.slice pa pl pc)) ∧ V.cell? ⟨nb, i, none⟩ = some (.string tn) ∧ V.cell? ⟨kb, i, none⟩ = some (.string tk) ∧ V.cell? ⟨lb, i, none⟩ = some (.string tl) ∧ V.cell? ⟨mb, i, none⟩ = some (.string tl)) (by kernel_rfl) (⟨HCS.out _ HB.out.drew, HRW.out _ HB.out.drew⟩) (fun hHeld => ?_)
                            refine wpAnyH_take (i := 0) (v := ?vi3m20) rfl (by kernel_rfl) (by kernel_rfl) (by kernel_rfl) (fun _ _ _ h => h) (Or.inl ⟨by first | kernel_rfl | rfl, ?yi3m20⟩) hHeld ?ri3m20
                            case yi3m20 => (intro W hSW; (try dsimp only at hSW); go_simp; (try with_reducible rfl))
                            change wpAnyH _ _ _ _ _ _ _ (Act.put _ (some 121) _) _
                            simp only [Act.put, List.setIfInBounds_toArray, List.set_cons_zero, List.set_cons_succ]
                            refine wpAnyH_take (i := 1) (v := ?vi3m21) rfl (by kernel_rfl) (by kernel_rfl) (by kernel_rfl) (fun _ _ _ h => h) (Or.inl ⟨by first | kernel_rfl | rfl, ?yi3m21⟩) hHeld ?ri3m21
                            case yi3m21 => (intro W hSW; (try dsimp only at hSW); go_simp; (try with_reducible rfl))
                            change wpAnyH _ _ _ _ _ _ _ (Act.put _ (some 122) _) _
                            simp only [Act.put, List.setIfInBounds_toArray, List.set_cons_zero, List.set_cons_succ]
                            refine wpAnyH_take (i := 2) (v := ?vi3m22) rfl (by kernel_rfl) (by kernel_rfl) (by kernel_rfl) (fun _ _ _ h => h) (Or.inl ⟨by first | kernel_rfl | rfl, ?yi3m22⟩) hHeld ?ri3m22
                            case yi3m22 => (intro W hSW; (try dsimp only at hSW); go_simp; (try with_reducible rfl))
                            change wpAnyH _ _ _ _ _ _ _ (Act.put _ (some 123) _) _
                            simp only [Act.put, List.setIfInBounds_toArray, List.set_cons_zero, List.set_cons_succ]
                            refine wpAnyH_take (i := 3) (v := ?vi3m23) rfl (by kernel_rfl) (by kernel_rfl) (by kernel_rfl) (fun _ _ _ h => h) (Or.inl ⟨by first | kernel_rfl | rfl, ?yi3m23⟩) hHeld ?ri3m23
                            case yi3m23 => (intro W hSW; (try dsimp only at hSW); go_simp; (try with_reducible rfl))
                            change wpAnyH _ _ _ _ _ _ _ (Act.put _ (some 124) _) _
                            simp only [Act.put, List.setIfInBounds_toArray, List.set_cons_zero, List.set_cons_succ]
                            refine wpAnyH_take (i := 4) (v := ?vi3m24) rfl (by kernel_rfl) (by kernel_rfl) (by kernel_rfl) (fun _ _ _ h => h) (Or.inl ⟨by first | kernel_rfl | rfl, ?yi3m24⟩) hHeld ?ri3m24
                            case yi3m24 => (intro W hSW; (try dsimp only at hSW); go_simp; (try with_reducible rfl))
                            change wpAnyH _ _ _ _ _ _ _ (Act.put _ (some 125) _) _
                            simp only [Act.put, List.setIfInBounds_toArray, List.set_cons_zero, List.set_cons_succ]
                            refine wpAnyH_take (i := 5) (v := ?vi3m25) rfl (by kernel_rfl) (by kernel_rfl) (by kernel_rfl) (fun _ _ _ h => h) (Or.inl ⟨by first | kernel_rfl | rfl, ?yi3m25⟩) hHeld ?ri3m25
                            case yi3m25 => (intro W hSW; (try dsimp only at hSW); go_simp; (try with_reducible rfl))
                            change wpAnyH _ _ _ _ _ _ _ (Act.put _ (some 126) _) _
                            simp only [Act.put, List.setIfInBounds_toArray, List.set_cons_zero, List.set_cons_succ]
                            refine wpAnyH_take (i := 6) (v := ?vi3m26) rfl (by kernel_rfl) (by kernel_rfl) (by kernel_rfl) (fun _ _ _ h => h) (Or.inl ⟨by first | kernel_rfl | rfl, ?yi3m26⟩) hHeld ?ri3m26
                            case yi3m26 => (intro W hSW; (try dsimp only at hSW); go_simp; (try with_reducible rfl))
                            change wpAnyH _ _ _ _ _ _ _ (Act.put _ (some 127) _) _
                            simp only [Act.put, List.setIfInBounds_toArray, List.set_cons_zero, List.set_cons_succ]
                            refine wpAnyH_take (i := 7) (v := ?vi3m27) rfl (by kernel_rfl) (by kernel_rfl) (by kernel_rfl) (fun _ _ _ h => h) (Or.inl ⟨by first | kernel_rfl | rfl, ?yi3m27⟩) hHeld ?ri3m27
                            case yi3m27 => (intro W hSW; (try dsimp only at hSW); go_simp; (try with_reducible rfl))
                            change wpAnyH _ _ _ _ _ _ _ (Act.put _ (some 128) _) _
                            simp only [Act.put, List.setIfInBounds_toArray, List.set_cons_zero, List.set_cons_succ]
                            refine wpAnyH_take (i := 8) (v := ?vi3m28) rfl (by kernel_rfl) (by kernel_rfl) (by kernel_rfl) (fun _ _ _ h => h) (Or.inl ⟨by first | kernel_rfl | rfl, ?yi3m28⟩) hHeld ?ri3m28
                            case yi3m28 => (intro W hSW; (try dsimp only at hSW); go_simp; (try with_reducible rfl))
                            change wpAnyH _ _ _ _ _ _ _ (Act.put _ (some 129) _) _
                            simp only [Act.put, List.setIfInBounds_toArray, List.set_cons_zero, List.set_cons_succ]
                            refine wpAnyH_take (i := 9) (v := ?vi3m29) rfl (by kernel_rfl) (by kernel_rfl) (by kernel_rfl) (fun _ _ _ h => h) (Or.inl ⟨by first | kernel_rfl | rfl, ?yi3m29⟩) hHeld ?ri3m29
                            case yi3m29 => (intro W hSW; (try dsimp only at hSW); go_simp; (try with_reducible rfl))
                            change wpAnyH _ _ _ _ _ _ _ (Act.put _ (some 130) _) _
                            simp only [Act.put, List.setIfInBounds_toArray, List.set_cons_zero, List.set_cons_succ]
                            refine wpAnyH_take (i := 10) (v := ?vi3m210) rfl (by kernel_rfl) (by kernel_rfl) (by kernel_rfl) (fun _ _ _ h => h) (Or.inl ⟨by first | kernel_rfl | rfl, ?yi3m210⟩) hHeld ?ri3m210
                            case yi3m210 => (intro W hSW; (try dsimp only at hSW); go_simp; (try with_reducible rfl))
                            change wpAnyH _ _ _ _ _ _ _ (Act.put _ (some 131) _) _
                            simp only [Act.put, List.setIfInBounds_toArray, List.set_cons_zero, List.set_cons_succ]
                            refine wpAnyH_take (i := 11) (v := ?vi3m211) rfl (by kernel_rfl) (by kernel_rfl) (by kernel_rfl) (fun _ _ _ h => h) (Or.inl ⟨by first | kernel_rfl | rfl, ?yi3m211⟩) hHeld ?ri3m211
                            case yi3m211 => (intro W hSW; (try dsimp only at hSW); go_simp; (try with_reducible rfl))
                            change wpAnyH _ _ _ _ _ _ _ (Act.put _ (some 132) _) _
                            simp only [Act.put, List.setIfInBounds_toArray, List.set_cons_zero, List.set_cons_succ]
                            refine wpAnyH_take (i := 12) (v := ?vi3m212) rfl (by kernel_rfl) (by kernel_rfl) (by kernel_rfl) (fun _ _ _ h => h) (Or.inl ⟨by first | kernel_rfl | rfl, ?yi3m212⟩) hHeld ?ri3m212
                            case yi3m212 => (intro W hSW; (try dsimp only at hSW); go_simp; (try with_reducible rfl))
                            change wpAnyH _ _ _ _ _ _ _ (Act.put _ (some 133) _) _
                            simp only [Act.put, List.setIfInBounds_toArray, List.set_cons_zero, List.set_cons_succ]
                            refine wpAnyH_take (i := 13) (v := ?vi3m213) rfl (by kernel_rfl) (by kernel_rfl) (by kernel_rfl) (fun _ _ _ h => h) (Or.inl ⟨by first | kernel_rfl | rfl, ?yi3m213⟩) hHeld ?ri3m213
                            case yi3m213 => (intro W hSW; (try dsimp only at hSW); go_simp; (try with_reducible rfl))
                            change wpAnyH _ _ _ _ _ _ _ (Act.put _ (some 134) _) _
                            simp only [Act.put, List.setIfInBounds_toArray, List.set_cons_zero, List.set_cons_succ]
                            refine wpAnyH_take (i := 14) (v := ?vi3m214) rfl (by kernel_rfl) (by kernel_rfl) (by kernel_rfl) (fun _ _ _ h => h) (Or.inl ⟨by first | kernel_rfl | rfl, ?yi3m214⟩) hHeld ?ri3m214
                            case yi3m214 => (intro W hSW; (try dsimp only at hSW); go_simp; (try with_reducible rfl))
                            change wpAnyH _ _ _ _ _ _ _ (Act.put _ (some 135) _) _
                            simp only [Act.put, List.setIfInBounds_toArray, List.set_cons_zero, List.set_cons_succ]
                            refine wpAnyH_take (i := 15) (v := ?vi3m215) rfl (by kernel_rfl) (by kernel_rfl) (by kernel_rfl) (fun _ _ _ h => h) (Or.inl ⟨by first | kernel_rfl | rfl, ?yi3m215⟩) hHeld ?ri3m215
                            case yi3m215 => (intro W hSW; (try dsimp only at hSW); go_simp; (try with_reducible rfl))
                            change wpAnyH _ _ _ _ _ _ _ (Act.put _ (some 136) _) _
                            simp only [Act.put, List.setIfInBounds_toArray, List.set_cons_zero, List.set_cons_succ]
                            refine wpAnyH_take (i := 16) (v := ?vi3m216) rfl (by kernel_rfl) (by kernel_rfl) (by kernel_rfl) (fun _ _ _ h => h) (Or.inl ⟨by first | kernel_rfl | rfl, ?yi3m216⟩) hHeld ?ri3m216
                            case yi3m216 => (intro W hSW; (try dsimp only at hSW); go_simp; (try with_reducible rfl))
                            change wpAnyH _ _ _ _ _ _ _ (Act.put _ (some 137) _) _
                            simp only [Act.put, List.setIfInBounds_toArray, List.set_cons_zero, List.set_cons_succ]
                            refine wpAnyH_take (i := 17) (v := ?vi3m217) rfl (by kernel_rfl) (by kernel_rfl) (by kernel_rfl) (fun _ _ _ h => h) (Or.inl ⟨by first | kernel_rfl | rfl, ?yi3m217⟩) hHeld ?ri3m217
                            case yi3m217 => (intro W hSW; (try dsimp only at hSW); go_simp; (try with_reducible rfl))
                            change wpAnyH _ _ _ _ _ _ _ (Act.put _ (some 138) _) _
                            simp only [Act.put, List.setIfInBounds_toArray, List.set_cons_zero, List.set_cons_succ]
                            refine wpAnyH_take (i := 18) (v := ?vi3m218) rfl (by kernel_rfl) (by kernel_rfl) (by kernel_rfl) (fun _ _ _ h => h) (Or.inl ⟨by first | kernel_rfl | rfl, ?yi3m218⟩) hHeld ?ri3m218
                            case yi3m218 => (intro W hSW; (try dsimp only at hSW); go_simp; (try with_reducible rfl))
                            change wpAnyH _ _ _ _ _ _ _ (Act.put _ (some 139) _) _
                            simp only [Act.put, List.setIfInBounds_toArray, List.set_cons_zero, List.set_cons_succ]
                            refine wpAnyH_take (i := 19) (v := ?vi3m219) rfl (by kernel_rfl) (by kernel_rfl) (by kernel_rfl) (fun _ _ _ h => h) (Or.inl ⟨by first | kernel_rfl | rfl, ?yi3m219⟩) hHeld ?ri3m219
                            case yi3m219 => (intro W hSW; (try dsimp only at hSW); go_simp; (try with_reducible rfl))
                            change wpAnyH _ _ _ _ _ _ _ (Act.put _ (some 140) _) _
                            simp only [Act.put, List.setIfInBounds_toArray, List.set_cons_zero, List.set_cons_succ]
                            refine wpAnyH_take (i := 20) (v := ?vi3m220) rfl (by kernel_rfl) (by kernel_rfl) (by kernel_rfl) (fun _ _ _ h => h) (Or.inl ⟨by first | kernel_rfl | rfl, ?yi3m220⟩) hHeld ?ri3m220
                            case yi3m220 => (intro W hSW; (try dsimp only at hSW); go_simp; (try with_reducible rfl))
                            change wpAnyH _ _ _ _ _ _ _ (Act.put _ (some 141) _) _
                            simp only [Act.put, List.setIfInBounds_toArray, List.set_cons_zero, List.set_cons_succ]
                            refine wpAnyH_take (i := 21) (v := ?vi3m221) rfl (by kernel_rfl) (by kernel_rfl) (by kernel_rfl) (fun _ _ _ h => h) (Or.inl ⟨by first | kernel_rfl | rfl, ?yi3m221⟩) hHeld ?ri3m221
                            case yi3m221 => (intro W hSW; (try dsimp only at hSW); go_simp; (try with_reducible rfl))
                            change wpAnyH _ _ _ _ _ _ _ (Act.put _ (some 142) _) _
                            simp only [Act.put, List.setIfInBounds_toArray, List.set_cons_zero, List.set_cons_succ]
                            refine wpAnyH_take (i := 22) (v := ?vi3m222) rfl (by kernel_rfl) (by kernel_rfl) (by kernel_rfl) (fun _ _ _ h => h) (Or.inl ⟨by first | kernel_rfl | rfl, ?yi3m222⟩) hHeld ?ri3m222
                            case yi3m222 => (intro W hSW; (try dsimp only at hSW); go_simp; (try with_reducible rfl))
                            change wpAnyH _ _ _ _ _ _ _ (Act.put _ (some 143) _) _
                            simp only [Act.put, List.setIfInBounds_toArray, List.set_cons_zero, List.set_cons_succ]
                            refine wpAnyH_take (i := 23) (v := ?vi3m223) rfl (by kernel_rfl) (by kernel_rfl) (by kernel_rfl) (fun _ _ _ h => h) (Or.inl ⟨by first | kernel_rfl | rfl, ?yi3m223⟩) hHeld ?ri3m223
                            case yi3m223 => (intro W hSW; (try dsimp only at hSW); go_simp; (try with_reducible rfl))
                            change wpAnyH _ _ _ _ _ _ _ (Act.put _ (some 144) _) _
                            simp only [Act.put, List.setIfInBounds_toArray, List.set_cons_zero, List.set_cons_succ]
                            refine wpAnyH_ready (rs := [24]) (by kernel_rfl) (by simp) ?_
                            refine AllReadyH.cons rfl (fun K hK => ?_) AllReadyH.nil
                            go_simp
                            refine (HFI.out).mono ?_
                            rintro e V2 ⟨rfl, hb2⟩; have HB2 : Hid (Below w17.heap.size w17 V2) := HB.out.drew.trans (hb2.mono HB.out.size); clear hb2
                            refine hK.out _ _ (⟨HCS.out _ HB2.out, HRW.out _ HB2.out⟩) (fun hHeld => ?_)
                            clear hK K
                            try simp only [Act.put, List.setIfInBounds_toArray, List.set_cons_zero, List.set_cons_succ]
                            refine wpAnyH_take (i := 25) (v := ?vi3m225) rfl (by kernel_rfl) (by kernel_rfl) (by kernel_rfl) (fun _ _ _ h => h) (Or.inl ⟨by first | kernel_rfl | rfl, ?yi3m225⟩) hHeld ?ri3m225
                            case yi3m225 => (intro W hSW; (try dsimp only at hSW); go_simp; (try with_reducible rfl))
                            change wpAnyH _ _ _ _ _ _ _ (Act.put _ (some 146) _) _
                            simp only [Act.put, List.setIfInBounds_toArray, List.set_cons_zero, List.set_cons_succ]
                            refine wpAnyH_take (i := 26) (v := ?vi3m226) rfl (by kernel_rfl) (by kernel_rfl) (by kernel_rfl) (fun _ _ _ h => h) (Or.inl ⟨by first | kernel_rfl | rfl, ?yi3m226⟩) hHeld ?ri3m226
                            case yi3m226 => (intro W hSW; (try dsimp only at hSW); go_simp; (try with_reducible rfl))
                            change wpAnyH _ _ _ _ _ _ _ (Act.put _ (some 147) _) _
                            simp only [Act.put, List.setIfInBounds_toArray, List.set_cons_zero, List.set_cons_succ]
                            refine wpAnyH_take (i := 27) (v := ?vi3m227) rfl (by kernel_rfl) (by kernel_rfl) (by kernel_rfl) (fun _ _ _ h => h) (Or.inl ⟨by first | kernel_rfl | rfl, ?yi3m227⟩) hHeld ?ri3m227
                            case yi3m227 => (intro W hSW; (try dsimp only at hSW); go_simp; (try with_reducible rfl))
                            change wpAnyH _ _ _ _ _ _ _ (Act.put _ (some 17) _) _
                            simp only [Act.put, List.setIfInBounds_toArray, List.set_cons_zero, List.set_cons_succ]
                            refine wpAnyH_done (by kernel_rfl) ?_ _
                            have HNB : Hid (Below w17.heap.size w17 V2) := HB2.out
                            clear hHeld HFI HCS HB HB2
                            go_wp2
                            exact ⟨⟨k + 1, false, by omega, by omega, rfl, by go_num, HNB.out, .inr HX.out⟩, by simp [intOf]; omega⟩
                        · have HCS : Hid (∀ V, Below w17.heap.size w17 V → V.cell? ⟨b, oo + k * 5, none⟩ = some (.int .i64 0) ∧ V.cell? ⟨b, oo + k * 5 + 1, none⟩ = some (.int .i64 ad) ∧ V.cell? ⟨b, oo + k * 5 + 2, none⟩ = some (.int .i64 lo) ∧ V.cell? ⟨b, oo + k * 5 + 3, none⟩ = some (.int .u8 (fi : Int)) ∧ V.cell? ⟨b, oo + k * 5 + 4, none⟩ = some (.slice pa pl pc)) := fun V hV0 => by
                            have hV := hB1 V hV0
                            exact ⟨by rw [hV.cell hbl]; exact d0, by rw [hV.cell hbl]; exact d1, by rw [hV.cell hbl]; exact d2, by rw [hV.cell hbl]; exact d3, by rw [hV.cell hbl]; exact d4⟩
                          have qab : (ad == (i : Int)) = false := by simpa using qa
                          have HX : Hid (∃ j, ∃ hj : j < l1.length, k + 1 ≤ j ∧ j < min len1 60 ∧ meets l1[j] i tn) := HNEXT.out (fun h => qa h.2.1)
                          have HNB : Hid (Below w17.heap.size w17 wr.drew) := HB.out.drew
                          clear d0 d1 d2 d3 d4 HNEXT hB1
                          go_wp2
                          refine wp_region_held_drew (S := fun V => (V.cell? ⟨b, oo + k * 5, none⟩ = some (.int .i64 0) ∧ V.cell? ⟨b, oo + k * 5 + 1, none⟩ = some (.int .i64 ad) ∧ V.cell? ⟨b, oo + k * 5 + 2, none⟩ = some (.int .i64 lo) ∧ V.cell? ⟨b, oo + k * 5 + 3, none⟩ = some (.int .u8 (fi : Int)) ∧ V.cell? ⟨b, oo + k * 5 + 4, none⟩ = some (.slice pa pl pc)) ∧ V.cell? ⟨nb, i, none⟩ = some (.string tn) ∧ V.cell? ⟨kb, i, none⟩ = some (.string tk) ∧ V.cell? ⟨lb, i, none⟩ = some (.string tl) ∧ V.cell? ⟨mb, i, none⟩ = some (.string tl)) (by kernel_rfl) (⟨HCS.out _ HB.out.drew, HRW.out _ HB.out.drew⟩) (fun hHeld => ?_)
                          refine wpAnyH_take (i := 0) (v := ?vi3aa0) rfl (by kernel_rfl) (by kernel_rfl) (by kernel_rfl) (fun _ _ _ h => h) (Or.inl ⟨by first | kernel_rfl | rfl, ?yi3aa0⟩) hHeld ?ri3aa0
                          case yi3aa0 => (intro W hSW; (try dsimp only at hSW); go_simp; (try with_reducible rfl))
                          change wpAnyH _ _ _ _ _ _ _ (Act.put _ (some 121) _) _
                          simp only [Act.put, List.setIfInBounds_toArray, List.set_cons_zero, List.set_cons_succ]
                          refine wpAnyH_take (i := 1) (v := ?vi3aa1) rfl (by kernel_rfl) (by kernel_rfl) (by kernel_rfl) (fun _ _ _ h => h) (Or.inl ⟨by first | kernel_rfl | rfl, ?yi3aa1⟩) hHeld ?ri3aa1
                          case yi3aa1 => (intro W hSW; (try dsimp only at hSW); go_simp; (try with_reducible rfl))
                          change wpAnyH _ _ _ _ _ _ _ (Act.put _ (some 122) _) _
                          simp only [Act.put, List.setIfInBounds_toArray, List.set_cons_zero, List.set_cons_succ]
                          refine wpAnyH_take (i := 2) (v := ?vi3aa2) rfl (by kernel_rfl) (by kernel_rfl) (by kernel_rfl) (fun _ _ _ h => h) (Or.inl ⟨by first | kernel_rfl | rfl, ?yi3aa2⟩) hHeld ?ri3aa2
                          case yi3aa2 => (intro W hSW; (try dsimp only at hSW); go_simp; (try with_reducible rfl))
                          change wpAnyH _ _ _ _ _ _ _ (Act.put _ (some 123) _) _
                          simp only [Act.put, List.setIfInBounds_toArray, List.set_cons_zero, List.set_cons_succ]
                          refine wpAnyH_take (i := 3) (v := ?vi3aa3) rfl (by kernel_rfl) (by kernel_rfl) (by kernel_rfl) (fun _ _ _ h => h) (Or.inl ⟨by first | kernel_rfl | rfl, ?yi3aa3⟩) hHeld ?ri3aa3
                          case yi3aa3 => (intro W hSW; (try dsimp only at hSW); go_simp; (try with_reducible rfl))
                          change wpAnyH _ _ _ _ _ _ _ (Act.put _ (some 124) _) _
                          simp only [Act.put, List.setIfInBounds_toArray, List.set_cons_zero, List.set_cons_succ]
                          refine wpAnyH_take (i := 4) (v := ?vi3aa4) rfl (by kernel_rfl) (by kernel_rfl) (by kernel_rfl) (fun _ _ _ h => h) (Or.inl ⟨by first | kernel_rfl | rfl, ?yi3aa4⟩) hHeld ?ri3aa4
                          case yi3aa4 => (intro W hSW; (try dsimp only at hSW); go_simp; (try with_reducible rfl))
                          change wpAnyH _ _ _ _ _ _ _ (Act.put _ (some 125) _) _
                          simp only [Act.put, List.setIfInBounds_toArray, List.set_cons_zero, List.set_cons_succ]
                          refine wpAnyH_take (i := 5) (v := ?vi3aa5) rfl (by kernel_rfl) (by kernel_rfl) (by kernel_rfl) (fun _ _ _ h => h) (Or.inl ⟨by first | kernel_rfl | rfl, ?yi3aa5⟩) hHeld ?ri3aa5
                          case yi3aa5 => (intro W hSW; (try dsimp only at hSW); go_simp; (try with_reducible rfl))
                          change wpAnyH _ _ _ _ _ _ _ (Act.put _ (some 126) _) _
                          simp only [Act.put, List.setIfInBounds_toArray, List.set_cons_zero, List.set_cons_succ]
                          refine wpAnyH_take (i := 6) (v := ?vi3aa6) rfl (by kernel_rfl) (by kernel_rfl) (by kernel_rfl) (fun _ _ _ h => h) (Or.inl ⟨by first | kernel_rfl | rfl, ?yi3aa6⟩) hHeld ?ri3aa6
                          case yi3aa6 => (intro W hSW; (try dsimp only at hSW); go_simp; (try with_reducible rfl))
                          change wpAnyH _ _ _ _ _ _ _ (Act.put _ (some 127) _) _
                          simp only [Act.put, List.setIfInBounds_toArray, List.set_cons_zero, List.set_cons_succ]
                          refine wpAnyH_take (i := 7) (v := ?vi3aa7) rfl (by kernel_rfl) (by kernel_rfl) (by kernel_rfl) (fun _ _ _ h => h) (Or.inl ⟨by first | kernel_rfl | rfl, ?yi3aa7⟩) hHeld ?ri3aa7
                          case yi3aa7 => (intro W hSW; (try dsimp only at hSW); go_simp; (try with_reducible rfl))
                          change wpAnyH _ _ _ _ _ _ _ (Act.put _ (some 128) _) _
                          simp only [Act.put, List.setIfInBounds_toArray, List.set_cons_zero, List.set_cons_succ]
                          refine wpAnyH_take (i := 8) (v := ?vi3aa8) rfl (by kernel_rfl) (by kernel_rfl) (by kernel_rfl) (fun _ _ _ h => h) (Or.inl ⟨by first | kernel_rfl | rfl, ?yi3aa8⟩) hHeld ?ri3aa8
                          case yi3aa8 => (intro W hSW; (try dsimp only at hSW); go_simp; (try with_reducible rfl))
                          change wpAnyH _ _ _ _ _ _ _ (Act.put _ (some 129) _) _
                          simp only [Act.put, List.setIfInBounds_toArray, List.set_cons_zero, List.set_cons_succ]
                          refine wpAnyH_take (i := 9) (v := ?vi3aa9) rfl (by kernel_rfl) (by kernel_rfl) (by kernel_rfl) (fun _ _ _ h => h) (Or.inl ⟨by first | kernel_rfl | rfl, ?yi3aa9⟩) hHeld ?ri3aa9
                          case yi3aa9 => (intro W hSW; (try dsimp only at hSW); go_simp; (try with_reducible rfl))
                          change wpAnyH _ _ _ _ _ _ _ (Act.put _ (some 130) _) _
                          simp only [Act.put, List.setIfInBounds_toArray, List.set_cons_zero, List.set_cons_succ]
                          refine wpAnyH_take (i := 10) (v := ?vi3aa10) rfl (by kernel_rfl) (by kernel_rfl) (by kernel_rfl) (fun _ _ _ h => h) (Or.inl ⟨by first | kernel_rfl | rfl, ?yi3aa10⟩) hHeld ?ri3aa10
                          case yi3aa10 => (intro W hSW; (try dsimp only at hSW); go_simp; (try with_reducible rfl))
                          change wpAnyH _ _ _ _ _ _ _ (Act.put _ (some 131) _) _
                          simp only [Act.put, List.setIfInBounds_toArray, List.set_cons_zero, List.set_cons_succ]
                          refine wpAnyH_take (i := 11) (v := ?vi3aa11) rfl (by kernel_rfl) (by kernel_rfl) (by kernel_rfl) (fun _ _ _ h => h) (Or.inl ⟨by first | kernel_rfl | rfl, ?yi3aa11⟩) hHeld ?ri3aa11
                          case yi3aa11 => (intro W hSW; (try dsimp only at hSW); go_simp; (try with_reducible rfl))
                          change wpAnyH _ _ _ _ _ _ _ (Act.put _ (some 132) _) _
                          simp only [Act.put, List.setIfInBounds_toArray, List.set_cons_zero, List.set_cons_succ]
                          refine wpAnyH_take (i := 12) (v := ?vi3aa12) rfl (by kernel_rfl) (by kernel_rfl) (by kernel_rfl) (fun _ _ _ h => h) (Or.inl ⟨by first | kernel_rfl | rfl, ?yi3aa12⟩) hHeld ?ri3aa12
                          case yi3aa12 => (intro W hSW; (try dsimp only at hSW); go_simp; (try with_reducible rfl))
                          change wpAnyH _ _ _ _ _ _ _ (Act.put _ (some 133) _) _
                          simp only [Act.put, List.setIfInBounds_toArray, List.set_cons_zero, List.set_cons_succ]
                          refine wpAnyH_take (i := 13) (v := ?vi3aa13) rfl (by kernel_rfl) (by kernel_rfl) (by kernel_rfl) (fun _ _ _ h => h) (Or.inl ⟨by first | kernel_rfl | rfl, ?yi3aa13⟩) hHeld ?ri3aa13
                          case yi3aa13 => (intro W hSW; (try dsimp only at hSW); go_simp; (try with_reducible rfl))
                          change wpAnyH _ _ _ _ _ _ _ (Act.put _ (some 134) _) _
                          simp only [Act.put, List.setIfInBounds_toArray, List.set_cons_zero, List.set_cons_succ]
                          refine wpAnyH_take (i := 14) (v := ?vi3aa14) rfl (by kernel_rfl) (by kernel_rfl) (by kernel_rfl) (fun _ _ _ h => h) (Or.inl ⟨by first | kernel_rfl | rfl, ?yi3aa14⟩) hHeld ?ri3aa14
                          case yi3aa14 => (intro W hSW; (try dsimp only at hSW); go_simp; (try with_reducible rfl))
                          change wpAnyH _ _ _ _ _ _ _ (Act.put _ (some 135) _) _
                          simp only [Act.put, List.setIfInBounds_toArray, List.set_cons_zero, List.set_cons_succ]
                          refine wpAnyH_take (i := 15) (v := ?vi3aa15) rfl (by kernel_rfl) (by kernel_rfl) (by kernel_rfl) (fun _ _ _ h => h) (Or.inl ⟨by first | kernel_rfl | rfl, ?yi3aa15⟩) hHeld ?ri3aa15
                          case yi3aa15 => (intro W hSW; (try dsimp only at hSW); go_simp; (try with_reducible rfl))
                          change wpAnyH _ _ _ _ _ _ _ (Act.put _ (some 136) _) _
                          simp only [Act.put, List.setIfInBounds_toArray, List.set_cons_zero, List.set_cons_succ]
                          refine wpAnyH_take (i := 16) (v := undef) rfl (by kernel_rfl) (by kernel_rfl) (by kernel_rfl) (fun _ _ _ h => h) (Or.inr ⟨by first | kernel_rfl | rfl, rfl⟩) hHeld ?_
                          change wpAnyH _ _ _ _ _ _ _ (Act.put _ (some 137) _) _
                          simp only [Act.put, List.setIfInBounds_toArray, List.set_cons_zero, List.set_cons_succ]
                          refine wpAnyH_take (i := 17) (v := undef) rfl (by kernel_rfl) (by kernel_rfl) (by kernel_rfl) (fun _ _ _ h => h) (Or.inr ⟨by first | kernel_rfl | rfl, rfl⟩) hHeld ?_
                          change wpAnyH _ _ _ _ _ _ _ (Act.put _ (some 138) _) _
                          simp only [Act.put, List.setIfInBounds_toArray, List.set_cons_zero, List.set_cons_succ]
                          refine wpAnyH_take (i := 18) (v := undef) rfl (by kernel_rfl) (by kernel_rfl) (by kernel_rfl) (fun _ _ _ h => h) (Or.inr ⟨by first | kernel_rfl | rfl, rfl⟩) hHeld ?_
                          change wpAnyH _ _ _ _ _ _ _ (Act.put _ (some 139) _) _
                          simp only [Act.put, List.setIfInBounds_toArray, List.set_cons_zero, List.set_cons_succ]
                          refine wpAnyH_take (i := 19) (v := undef) rfl (by kernel_rfl) (by kernel_rfl) (by kernel_rfl) (fun _ _ _ h => h) (Or.inr ⟨by first | kernel_rfl | rfl, rfl⟩) hHeld ?_
                          change wpAnyH _ _ _ _ _ _ _ (Act.put _ (some 140) _) _
                          simp only [Act.put, List.setIfInBounds_toArray, List.set_cons_zero, List.set_cons_succ]
                          refine wpAnyH_take (i := 20) (v := undef) rfl (by kernel_rfl) (by kernel_rfl) (by kernel_rfl) (fun _ _ _ h => h) (Or.inr ⟨by first | kernel_rfl | rfl, rfl⟩) hHeld ?_
                          change wpAnyH _ _ _ _ _ _ _ (Act.put _ (some 141) _) _
                          simp only [Act.put, List.setIfInBounds_toArray, List.set_cons_zero, List.set_cons_succ]
                          refine wpAnyH_take (i := 21) (v := undef) rfl (by kernel_rfl) (by kernel_rfl) (by kernel_rfl) (fun _ _ _ h => h) (Or.inr ⟨by first | kernel_rfl | rfl, rfl⟩) hHeld ?_
                          change wpAnyH _ _ _ _ _ _ _ (Act.put _ (some 142) _) _
                          simp only [Act.put, List.setIfInBounds_toArray, List.set_cons_zero, List.set_cons_succ]
                          refine wpAnyH_take (i := 22) (v := undef) rfl (by kernel_rfl) (by kernel_rfl) (by kernel_rfl) (fun _ _ _ h => h) (Or.inr ⟨by first | kernel_rfl | rfl, rfl⟩) hHeld ?_
                          change wpAnyH _ _ _ _ _ _ _ (Act.put _ (some 143) _) _
                          simp only [Act.put, List.setIfInBounds_toArray, List.set_cons_zero, List.set_cons_succ]
                          refine wpAnyH_take (i := 23) (v := undef) rfl (by kernel_rfl) (by kernel_rfl) (by kernel_rfl) (fun _ _ _ h => h) (Or.inr ⟨by first | kernel_rfl | rfl, rfl⟩) hHeld ?_
                          change wpAnyH _ _ _ _ _ _ _ (Act.put _ (some 144) _) _
                          simp only [Act.put, List.setIfInBounds_toArray, List.set_cons_zero, List.set_cons_succ]
                          refine wpAnyH_take (i := 24) (v := undef) rfl (by kernel_rfl) (by kernel_rfl) (by kernel_rfl) (fun _ _ _ h => h) (Or.inr ⟨by first | kernel_rfl | rfl, rfl⟩) hHeld ?_
                          change wpAnyH _ _ _ _ _ _ _ (Act.put _ (some 145) _) _
                          simp only [Act.put, List.setIfInBounds_toArray, List.set_cons_zero, List.set_cons_succ]
                          refine wpAnyH_take (i := 25) (v := undef) rfl (by kernel_rfl) (by kernel_rfl) (by kernel_rfl) (fun _ _ _ h => h) (Or.inr ⟨by first | kernel_rfl | rfl, rfl⟩) hHeld ?_
                          change wpAnyH _ _ _ _ _ _ _ (Act.put _ (some 146) _) _
                          simp only [Act.put, List.setIfInBounds_toArray, List.set_cons_zero, List.set_cons_succ]
                          refine wpAnyH_take (i := 26) (v := ?vi3aa26) rfl (by kernel_rfl) (by kernel_rfl) (by kernel_rfl) (fun _ _ _ h => h) (Or.inl ⟨by first | kernel_rfl | rfl, ?yi3aa26⟩) hHeld ?ri3aa26
                          case yi3aa26 => (intro W hSW; (try dsimp only at hSW); go_simp; (try with_reducible rfl))
                          change wpAnyH _ _ _ _ _ _ _ (Act.put _ (some 147) _) _
                          simp only [Act.put, List.setIfInBounds_toArray, List.set_cons_zero, List.set_cons_succ]
                          refine wpAnyH_take (i := 27) (v := ?vi3aa27) rfl (by kernel_rfl) (by kernel_rfl) (by kernel_rfl) (fun _ _ _ h => h) (Or.inl ⟨by first | kernel_rfl | rfl, ?yi3aa27⟩) hHeld ?ri3aa27
                          case yi3aa27 => (intro W hSW; (try dsimp only at hSW); go_simp; (try with_reducible rfl))
                          change wpAnyH _ _ _ _ _ _ _ (Act.put _ (some 17) _) _
                          simp only [Act.put, List.setIfInBounds_toArray, List.set_cons_zero, List.set_cons_succ]
                          refine wpAnyH_done (by kernel_rfl) ?_ _
                          clear hHeld HCS HB
                          go_wp2
                          exact ⟨⟨k + 1, false, by omega, by omega, rfl, by go_num, HNB.out, .inr HX.out⟩, by simp [intOf]; omega⟩
                      · have HCS : Hid (∀ V, Below w17.heap.size w17 V → V.cell? ⟨b, oo + k * 5, none⟩ = some (.int .i64 kd) ∧ V.cell? ⟨b, oo + k * 5 + 1, none⟩ = some (.int .i64 ad) ∧ V.cell? ⟨b, oo + k * 5 + 2, none⟩ = some (.int .i64 lo) ∧ V.cell? ⟨b, oo + k * 5 + 3, none⟩ = some (.int .u8 (fi : Int)) ∧ V.cell? ⟨b, oo + k * 5 + 4, none⟩ = some (.slice pa pl pc)) := fun V hV0 => by
                          have hV := hB1 V hV0
                          exact ⟨by rw [hV.cell hbl]; exact d0, by rw [hV.cell hbl]; exact d1, by rw [hV.cell hbl]; exact d2, by rw [hV.cell hbl]; exact d3, by rw [hV.cell hbl]; exact d4⟩
                        have qkb : (kd == 0) = false := by simpa using q0
                        have HX : Hid (∃ j, ∃ hj : j < l1.length, k + 1 ≤ j ∧ j < min len1 60 ∧ meets l1[j] i tn) := HNEXT.out (fun h => q0 h.1)
                        have HNB : Hid (Below w17.heap.size w17 wr.drew) := HB.out.drew
                        clear d0 d1 d2 d3 d4 HNEXT hB1
                        go_wp2
                        refine wp_region_held_drew (S := fun V => (V.cell? ⟨b, oo + k * 5, none⟩ = some (.int .i64 kd) ∧ V.cell? ⟨b, oo + k * 5 + 1, none⟩ = some (.int .i64 ad) ∧ V.cell? ⟨b, oo + k * 5 + 2, none⟩ = some (.int .i64 lo) ∧ V.cell? ⟨b, oo + k * 5 + 3, none⟩ = some (.int .u8 (fi : Int)) ∧ V.cell? ⟨b, oo + k * 5 + 4, none⟩ = some (.slice pa pl pc)) ∧ V.cell? ⟨nb, i, none⟩ = some (.string tn) ∧ V.cell? ⟨kb, i, none⟩ = some (.string tk) ∧ V.cell? ⟨lb, i, none⟩ = some (.string tl) ∧ V.cell? ⟨mb, i, none⟩ = some (.string tl)) (by kernel_rfl) (⟨HCS.out _ HB.out.drew, HRW.out _ HB.out.drew⟩) (fun hHeld => ?_)
                        refine wpAnyH_take (i := 0) (v := ?vi3kk0) rfl (by kernel_rfl) (by kernel_rfl) (by kernel_rfl) (fun _ _ _ h => h) (Or.inl ⟨by first | kernel_rfl | rfl, ?yi3kk0⟩) hHeld ?ri3kk0
                        case yi3kk0 => (intro W hSW; (try dsimp only at hSW); go_simp; (try with_reducible rfl))
                        change wpAnyH _ _ _ _ _ _ _ (Act.put _ (some 121) _) _
                        simp only [Act.put, List.setIfInBounds_toArray, List.set_cons_zero, List.set_cons_succ]
                        refine wpAnyH_take (i := 1) (v := ?vi3kk1) rfl (by kernel_rfl) (by kernel_rfl) (by kernel_rfl) (fun _ _ _ h => h) (Or.inl ⟨by first | kernel_rfl | rfl, ?yi3kk1⟩) hHeld ?ri3kk1
                        case yi3kk1 => (intro W hSW; (try dsimp only at hSW); go_simp; (try with_reducible rfl))
                        change wpAnyH _ _ _ _ _ _ _ (Act.put _ (some 122) _) _
                        simp only [Act.put, List.setIfInBounds_toArray, List.set_cons_zero, List.set_cons_succ]
                        refine wpAnyH_take (i := 2) (v := ?vi3kk2) rfl (by kernel_rfl) (by kernel_rfl) (by kernel_rfl) (fun _ _ _ h => h) (Or.inl ⟨by first | kernel_rfl | rfl, ?yi3kk2⟩) hHeld ?ri3kk2
                        case yi3kk2 => (intro W hSW; (try dsimp only at hSW); go_simp; (try with_reducible rfl))
                        change wpAnyH _ _ _ _ _ _ _ (Act.put _ (some 123) _) _
                        simp only [Act.put, List.setIfInBounds_toArray, List.set_cons_zero, List.set_cons_succ]
                        refine wpAnyH_take (i := 3) (v := ?vi3kk3) rfl (by kernel_rfl) (by kernel_rfl) (by kernel_rfl) (fun _ _ _ h => h) (Or.inl ⟨by first | kernel_rfl | rfl, ?yi3kk3⟩) hHeld ?ri3kk3
                        case yi3kk3 => (intro W hSW; (try dsimp only at hSW); go_simp; (try with_reducible rfl))
                        change wpAnyH _ _ _ _ _ _ _ (Act.put _ (some 124) _) _
                        simp only [Act.put, List.setIfInBounds_toArray, List.set_cons_zero, List.set_cons_succ]
                        refine wpAnyH_take (i := 4) (v := ?vi3kk4) rfl (by kernel_rfl) (by kernel_rfl) (by kernel_rfl) (fun _ _ _ h => h) (Or.inl ⟨by first | kernel_rfl | rfl, ?yi3kk4⟩) hHeld ?ri3kk4
                        case yi3kk4 => (intro W hSW; (try dsimp only at hSW); go_simp; (try with_reducible rfl))
                        change wpAnyH _ _ _ _ _ _ _ (Act.put _ (some 125) _) _
                        simp only [Act.put, List.setIfInBounds_toArray, List.set_cons_zero, List.set_cons_succ]
                        refine wpAnyH_take (i := 5) (v := ?vi3kk5) rfl (by kernel_rfl) (by kernel_rfl) (by kernel_rfl) (fun _ _ _ h => h) (Or.inl ⟨by first | kernel_rfl | rfl, ?yi3kk5⟩) hHeld ?ri3kk5
                        case yi3kk5 => (intro W hSW; (try dsimp only at hSW); go_simp; (try with_reducible rfl))
                        change wpAnyH _ _ _ _ _ _ _ (Act.put _ (some 126) _) _
                        simp only [Act.put, List.setIfInBounds_toArray, List.set_cons_zero, List.set_cons_succ]
                        refine wpAnyH_take (i := 6) (v := ?vi3kk6) rfl (by kernel_rfl) (by kernel_rfl) (by kernel_rfl) (fun _ _ _ h => h) (Or.inl ⟨by first | kernel_rfl | rfl, ?yi3kk6⟩) hHeld ?ri3kk6
                        case yi3kk6 => (intro W hSW; (try dsimp only at hSW); go_simp; (try with_reducible rfl))
                        change wpAnyH _ _ _ _ _ _ _ (Act.put _ (some 127) _) _
                        simp only [Act.put, List.setIfInBounds_toArray, List.set_cons_zero, List.set_cons_succ]
                        refine wpAnyH_take (i := 7) (v := undef) rfl (by kernel_rfl) (by kernel_rfl) (by kernel_rfl) (fun _ _ _ h => h) (Or.inr ⟨by first | kernel_rfl | rfl, rfl⟩) hHeld ?_
                        change wpAnyH _ _ _ _ _ _ _ (Act.put _ (some 128) _) _
                        simp only [Act.put, List.setIfInBounds_toArray, List.set_cons_zero, List.set_cons_succ]
                        refine wpAnyH_take (i := 8) (v := undef) rfl (by kernel_rfl) (by kernel_rfl) (by kernel_rfl) (fun _ _ _ h => h) (Or.inr ⟨by first | kernel_rfl | rfl, rfl⟩) hHeld ?_
                        change wpAnyH _ _ _ _ _ _ _ (Act.put _ (some 129) _) _
                        simp only [Act.put, List.setIfInBounds_toArray, List.set_cons_zero, List.set_cons_succ]
                        refine wpAnyH_take (i := 9) (v := undef) rfl (by kernel_rfl) (by kernel_rfl) (by kernel_rfl) (fun _ _ _ h => h) (Or.inr ⟨by first | kernel_rfl | rfl, rfl⟩) hHeld ?_
                        change wpAnyH _ _ _ _ _ _ _ (Act.put _ (some 130) _) _
                        simp only [Act.put, List.setIfInBounds_toArray, List.set_cons_zero, List.set_cons_succ]
                        refine wpAnyH_take (i := 10) (v := undef) rfl (by kernel_rfl) (by kernel_rfl) (by kernel_rfl) (fun _ _ _ h => h) (Or.inr ⟨by first | kernel_rfl | rfl, rfl⟩) hHeld ?_
                        change wpAnyH _ _ _ _ _ _ _ (Act.put _ (some 131) _) _
                        simp only [Act.put, List.setIfInBounds_toArray, List.set_cons_zero, List.set_cons_succ]
                        refine wpAnyH_take (i := 11) (v := undef) rfl (by kernel_rfl) (by kernel_rfl) (by kernel_rfl) (fun _ _ _ h => h) (Or.inr ⟨by first | kernel_rfl | rfl, rfl⟩) hHeld ?_
                        change wpAnyH _ _ _ _ _ _ _ (Act.put _ (some 132) _) _
                        simp only [Act.put, List.setIfInBounds_toArray, List.set_cons_zero, List.set_cons_succ]
                        refine wpAnyH_take (i := 12) (v := undef) rfl (by kernel_rfl) (by kernel_rfl) (by kernel_rfl) (fun _ _ _ h => h) (Or.inr ⟨by first | kernel_rfl | rfl, rfl⟩) hHeld ?_
                        change wpAnyH _ _ _ _ _ _ _ (Act.put _ (some 133) _) _
                        simp only [Act.put, List.setIfInBounds_toArray, List.set_cons_zero, List.set_cons_succ]
                        refine wpAnyH_take (i := 13) (v := undef) rfl (by kernel_rfl) (by kernel_rfl) (by kernel_rfl) (fun _ _ _ h => h) (Or.inr ⟨by first | kernel_rfl | rfl, rfl⟩) hHeld ?_
                        change wpAnyH _ _ _ _ _ _ _ (Act.put _ (some 134) _) _
                        simp only [Act.put, List.setIfInBounds_toArray, List.set_cons_zero, List.set_cons_succ]
                        refine wpAnyH_take (i := 14) (v := ?vi3kk14) rfl (by kernel_rfl) (by kernel_rfl) (by kernel_rfl) (fun _ _ _ h => h) (Or.inl ⟨by first | kernel_rfl | rfl, ?yi3kk14⟩) hHeld ?ri3kk14
                        case yi3kk14 => (intro W hSW; (try dsimp only at hSW); go_simp; (try with_reducible rfl))
                        change wpAnyH _ _ _ _ _ _ _ (Act.put _ (some 135) _) _
                        simp only [Act.put, List.setIfInBounds_toArray, List.set_cons_zero, List.set_cons_succ]
                        refine wpAnyH_take (i := 15) (v := ?vi3kk15) rfl (by kernel_rfl) (by kernel_rfl) (by kernel_rfl) (fun _ _ _ h => h) (Or.inl ⟨by first | kernel_rfl | rfl, ?yi3kk15⟩) hHeld ?ri3kk15
                        case yi3kk15 => (intro W hSW; (try dsimp only at hSW); go_simp; (try with_reducible rfl))
                        change wpAnyH _ _ _ _ _ _ _ (Act.put _ (some 136) _) _
                        simp only [Act.put, List.setIfInBounds_toArray, List.set_cons_zero, List.set_cons_succ]
                        refine wpAnyH_take (i := 16) (v := undef) rfl (by kernel_rfl) (by kernel_rfl) (by kernel_rfl) (fun _ _ _ h => h) (Or.inr ⟨by first | kernel_rfl | rfl, rfl⟩) hHeld ?_
                        change wpAnyH _ _ _ _ _ _ _ (Act.put _ (some 137) _) _
                        simp only [Act.put, List.setIfInBounds_toArray, List.set_cons_zero, List.set_cons_succ]
                        refine wpAnyH_take (i := 17) (v := undef) rfl (by kernel_rfl) (by kernel_rfl) (by kernel_rfl) (fun _ _ _ h => h) (Or.inr ⟨by first | kernel_rfl | rfl, rfl⟩) hHeld ?_
                        change wpAnyH _ _ _ _ _ _ _ (Act.put _ (some 138) _) _
                        simp only [Act.put, List.setIfInBounds_toArray, List.set_cons_zero, List.set_cons_succ]
                        refine wpAnyH_take (i := 18) (v := undef) rfl (by kernel_rfl) (by kernel_rfl) (by kernel_rfl) (fun _ _ _ h => h) (Or.inr ⟨by first | kernel_rfl | rfl, rfl⟩) hHeld ?_
                        change wpAnyH _ _ _ _ _ _ _ (Act.put _ (some 139) _) _
                        simp only [Act.put, List.setIfInBounds_toArray, List.set_cons_zero, List.set_cons_succ]
                        refine wpAnyH_take (i := 19) (v := undef) rfl (by kernel_rfl) (by kernel_rfl) (by kernel_rfl) (fun _ _ _ h => h) (Or.inr ⟨by first | kernel_rfl | rfl, rfl⟩) hHeld ?_
                        change wpAnyH _ _ _ _ _ _ _ (Act.put _ (some 140) _) _
                        simp only [Act.put, List.setIfInBounds_toArray, List.set_cons_zero, List.set_cons_succ]
                        refine wpAnyH_take (i := 20) (v := undef) rfl (by kernel_rfl) (by kernel_rfl) (by kernel_rfl) (fun _ _ _ h => h) (Or.inr ⟨by first | kernel_rfl | rfl, rfl⟩) hHeld ?_
                        change wpAnyH _ _ _ _ _ _ _ (Act.put _ (some 141) _) _
                        simp only [Act.put, List.setIfInBounds_toArray, List.set_cons_zero, List.set_cons_succ]
                        refine wpAnyH_take (i := 21) (v := undef) rfl (by kernel_rfl) (by kernel_rfl) (by kernel_rfl) (fun _ _ _ h => h) (Or.inr ⟨by first | kernel_rfl | rfl, rfl⟩) hHeld ?_
                        change wpAnyH _ _ _ _ _ _ _ (Act.put _ (some 142) _) _
                        simp only [Act.put, List.setIfInBounds_toArray, List.set_cons_zero, List.set_cons_succ]
                        refine wpAnyH_take (i := 22) (v := undef) rfl (by kernel_rfl) (by kernel_rfl) (by kernel_rfl) (fun _ _ _ h => h) (Or.inr ⟨by first | kernel_rfl | rfl, rfl⟩) hHeld ?_
                        change wpAnyH _ _ _ _ _ _ _ (Act.put _ (some 143) _) _
                        simp only [Act.put, List.setIfInBounds_toArray, List.set_cons_zero, List.set_cons_succ]
                        refine wpAnyH_take (i := 23) (v := undef) rfl (by kernel_rfl) (by kernel_rfl) (by kernel_rfl) (fun _ _ _ h => h) (Or.inr ⟨by first | kernel_rfl | rfl, rfl⟩) hHeld ?_
                        change wpAnyH _ _ _ _ _ _ _ (Act.put _ (some 144) _) _
                        simp only [Act.put, List.setIfInBounds_toArray, List.set_cons_zero, List.set_cons_succ]
                        refine wpAnyH_take (i := 24) (v := undef) rfl (by kernel_rfl) (by kernel_rfl) (by kernel_rfl) (fun _ _ _ h => h) (Or.inr ⟨by first | kernel_rfl | rfl, rfl⟩) hHeld ?_
                        change wpAnyH _ _ _ _ _ _ _ (Act.put _ (some 145) _) _
                        simp only [Act.put, List.setIfInBounds_toArray, List.set_cons_zero, List.set_cons_succ]
                        refine wpAnyH_take (i := 25) (v := undef) rfl (by kernel_rfl) (by kernel_rfl) (by kernel_rfl) (fun _ _ _ h => h) (Or.inr ⟨by first | kernel_rfl | rfl, rfl⟩) hHeld ?_
                        change wpAnyH _ _ _ _ _ _ _ (Act.put _ (some 146) _) _
                        simp only [Act.put, List.setIfInBounds_toArray, List.set_cons_zero, List.set_cons_succ]
                        refine wpAnyH_take (i := 26) (v := ?vi3kk26) rfl (by kernel_rfl) (by kernel_rfl) (by kernel_rfl) (fun _ _ _ h => h) (Or.inl ⟨by first | kernel_rfl | rfl, ?yi3kk26⟩) hHeld ?ri3kk26
                        case yi3kk26 => (intro W hSW; (try dsimp only at hSW); go_simp; (try with_reducible rfl))
                        change wpAnyH _ _ _ _ _ _ _ (Act.put _ (some 147) _) _
                        simp only [Act.put, List.setIfInBounds_toArray, List.set_cons_zero, List.set_cons_succ]
                        refine wpAnyH_take (i := 27) (v := ?vi3kk27) rfl (by kernel_rfl) (by kernel_rfl) (by kernel_rfl) (fun _ _ _ h => h) (Or.inl ⟨by first | kernel_rfl | rfl, ?yi3kk27⟩) hHeld ?ri3kk27
                        case yi3kk27 => (intro W hSW; (try dsimp only at hSW); go_simp; (try with_reducible rfl))
                        change wpAnyH _ _ _ _ _ _ _ (Act.put _ (some 17) _) _
                        simp only [Act.put, List.setIfInBounds_toArray, List.set_cons_zero, List.set_cons_succ]
                        refine wpAnyH_done (by kernel_rfl) ?_ _
                        clear hHeld HCS HB
                        go_wp2
                        exact ⟨⟨k + 1, false, by omega, by omega, rfl, by go_num, HNB.out, .inr HX.out⟩, by simp [intOf]; omega⟩
            · obtain rfl : i = s := by omega
              have ki : ¬ (i : Int) < (i : Int) := by omega
              have HBE : Hid (Below w.heap.size w wr) := HB17.out.trans (HB.out.mono HB17.out.size)
              go_wp2_with fail
              refine (HLV.out _ HBE.out).mono ?_
              rintro e w99 ⟨rfl, hb99⟩
              go_wp2
              go_ret
              exact ⟨rfl, hb99⟩


set_option linter.unusedVariables false in
set_option maxRecDepth 100000 in
theorem lifted (os : _root_.Go.Os) (started : os.Started) (H : Type) (enc : TypeId × Value → H) :
    ReturnsInHanded {} Try.checked os 6 .any (Rows.diskOneSpec.pre6 enc Try.prog Try.f6 Rows.diskOneRow.domain false) (Rows.diskOneSpec.post enc Try.prog Try.f6 false true false false) := by
  refine returnsInHanded_of_change (C := Try.checked) own started (by kernel_rfl) Try.func6
    (ChangeSpec.witness6 (enc := enc) (C := Try.checked) false ⟨#[], #[.int .i64 0, .slice none 0 0, .slice none 0 0], []⟩ 8 (by kernel_rfl) (by kernel_rfl) (by kernel_rfl) (by kernel_rfl)) ?_
  intro W base args ds gs before hval0 hW hcnd _
  have hval : ∀ (j : Nat) t v, Try.f6.params[j]? = some t → args[j]? = some v → Value.okWide Try.prog W .any base t v := hval0
  have hW' := hW
  obtain ⟨p, q, hA0, hV, rfl, hfz, hnd⟩ := hW
  have hA : DataW.TrodAll enc Try.prog W 0 (fun _ => true) true Try.f6.params.toList args.toList ds p := hA0
  rw [Try.params6] at hA hval
  obtain ⟨v0, vs0, d0, ds0, p0, q0, hargs, rfl, rfl, h0, r0⟩ := trodAll_cons hA
  obtain ⟨v1, vs1, d1, ds1, p1, q1, rfl, rfl, rfl, h1, r1⟩ := trodAll_cons r0
  obtain ⟨v2, vs2, d2, ds2, p2, q2, rfl, rfl, rfl, h2, r2⟩ := trodAll_cons r1
  obtain ⟨rfl, rfl, rfl⟩ := trodAll_nil r2
  obtain rfl : args = #[v0, v1, v2] := by cases args; simp_all
  obtain ⟨rfl, rfl⟩ := trodVars_none hV
  obtain ⟨x0, rfl, rfl, rfl, w0⟩ := open_int Try.underlying3 (hval 0 3 v0 rfl rfl) h0
  have k1 := h1
  have lt1 : ∀ x ∈ p1, x.block < W.heap.size := by obtain ⟨m, hm⟩ := k1; exact DataW.trod_lt m _ _ _ hm
  obtain ⟨a1, len1, cap1, rfl⟩ := okWide_slice Try.underlying36 (hval 1 36 v1 rfl rfl)
  obtain ⟨l1, w1⟩ : ∃ l, Os W a1 len1 cap1 l := by
    obtain ⟨fuel, hf⟩ := h1
    exact ops_of (by simpa [Value.cells] using hf)
  have k2 := h2
  have lt2 : ∀ x ∈ p2, x.block < W.heap.size := by obtain ⟨m, hm⟩ := k2; exact DataW.trod_lt m _ _ _ hm
  obtain ⟨a2, len2, cap2, rfl⟩ := okWide_slice Try.underlying44 (hval 2 44 v2 rfl rfl)
  obtain ⟨l2, w2⟩ : ∃ l, Bls W a2 len2 cap2 l := by
    obtain ⟨fuel, hf⟩ := h2
    exact bools_of (by simpa [Value.cells] using hf)
  clear hA0 hval0
  refine (walk x0 (wf_i64 w0) a1 len1 cap1 l1 a2 len2 cap2 l2 W w1 w2).mono fun e W' ⟨he, bel⟩ => ?_
  subst he
  exact ⟨_, rfl, _, _, _, [], _, [], hW', trodAll_mk1 (shut_bool Try.underlying4 _), (trodAll_cons_mk (shut_int Try.underlying3 w0) (trodAll_cons_mk (Below.trod laidOut (by kernel_rfl) (of_decide_eq_true (by kernel_rfl)) k1 bel lt1) (trodAll_cons_mk (Below.trod laidOut (by kernel_rfl) (of_decide_eq_true (by kernel_rfl)) k2 bel lt2) trodAll_mk0))), rfl, bel.frame _, fun h => by cases h⟩

theorem over : Rows.diskOneRow.holds Try.pinned (OpenSpec.ofChange Rows.diskOneSpec) :=
  OpenClaim.holds_of_wide 6 Try.f6 rfl rfl rfl rfl rfl rfl rfl ⟨rfl, rfl, rfl, rfl, rfl⟩ rfl rfl rfl rfl rfl (by kernel_rfl) Try.func6 (by kernel_rfl)
    (of_decide_eq_true (by kernel_rfl)) (by unfold Func.isWrapper; first | (rw [if_pos (by decide +kernel)]; kernel_rfl) | (rw [if_neg (by decide +kernel)]; exact ⟨rfl, rfl⟩))
    (fun os started H enc _ => lifted os started H enc)

end Go.Proofs.Ytdlmciicapigjaa.diskOne
namespace Go.Proofs.Ytdlmciicapigjaa
/-- The given statement. -/
theorem diskOne_holds : Rows.DiskOneSaid := diskOne.over
#print axioms diskOne_holds
end Go.Proofs.Ytdlmciicapigjaa
