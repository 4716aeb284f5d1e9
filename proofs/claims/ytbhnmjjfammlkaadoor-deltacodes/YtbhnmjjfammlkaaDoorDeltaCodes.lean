/- Proved: for all pieces and all bytes the law DeltaCodes returns true, pieces and bytes as they were (the bytes of pieces, and the pieces of bytes, are the document's; there and back); where the package's two tables begin as the program's text lays them. -/
import Derived.Test.YtbhnmjjfammlkaaDoorHX
import Derived.Test.YtbhnmjjfammlkaaDoorCards
import Derived.Test.YtbhnmjjfammlkaaDoorTie
import Derived.WalkKit
import Derived.ProofKit
import Derived.OpenShut
import Derived.ShutString
import Derived.ChangeOld
import Derived.Below
import Derived.LaidMore
import Derived.Stop.Joined
import Derived.SevenTiedAt
namespace Go.Proofs.YtbhnmjjfammlkaaDoor.deltaCodes
open Go.ChangeShapes Go.WideShapes Go.ChangeAt Go.WideMaps Go.WideElems Go.RowKit
open Go.ChangeMaps (open_string shut_string)

set_option maxRecDepth 100000 in
set_option maxHeartbeats 2000000 in
theorem walk (a0 : Option Addr) (len0 cap0 : Nat) (ss0 : List Pc) (z0 : ∀ p ∈ ss0, -9223372036854775808 ≤ p.n ∧ p.n ≤ 9223372036854775807 ∧ p.data.size ≤ 140737488351232) (a1 : Option Addr) (len1 cap1 : Nat) (ss1 : List UInt8) (w : World) (w0 : Hs w a0 len0 cap0 ss0) (w1 : Bs w a1 len1 cap1 ss1) (hL : Laid w) :
    Calls Tryd.prog 7 #[.slice a0 len0 cap0, .slice a1 len1 cap1] w fun e w' => e = .returned (.bool true) ∧ Below w.heap.size w w' := by
  have HLV : Hid (∀ V, Below w.heap.size w V → Calls Tryd.prog 9 #[] V fun e w' => e = .returned (.bool true) ∧ Below w.heap.size w w') := fun V hV => (lives_any V (hL.below hV)).mono fun e w' h => ⟨h.1, hV.trans (h.2.mono hV.size)⟩
  have HLV2 : Hid (∀ V, Below w.heap.size w V → Calls Tryd.prog 9 #[] V fun e w' => e = .returned (.bool true) ∧ Below V.heap.size V w') := fun V hV => lives_any V (hL.below hV)
  have hcm : len1 ≤ 9223372036854775807 := Nat.le_trans w1.2.1 w1.2.2.1
  have HF := few_any (l := ss0) w0 (fun p hp => (z0 p hp).2.2)
  have hl0 := Hw.len (l := ss0) w0
  obtain ⟨fb, hfb⟩ : ∃ fb, fewP ss0 = fb := ⟨_, rfl⟩
  rw [hfb] at HF
  have HW0 : Hid (∀ V, Below w.heap.size w V → Hw (fun _ => True) V a0 len0 cap0 ss0) := fun V hV => Hw.below w0 hV
  have HW1 : Hid (∀ V, Below w.heap.size w V → Bs V a1 len1 cap1 ss1) := fun V hV => w1.below hV
  have hbl := w1.1
  clear hL w0 w1
  cases fb with
  | false =>
    clear hfb
    go_enter Tryd.func7, Tryd.ntmps7
    go_wp2_with fail
    refine HF.mono ?_
    rintro e V1 ⟨rfl, hb1⟩
    have H1 : Hid (Below w.heap.size w V1) := hb1
    clear HF hb1
    go_wp2_with fail
    refine (HLV.out _ (H1.out)).mono ?_
    rintro e V ⟨rfl, hb⟩
    go_wp2
    go_ret
    exact ⟨rfl, hb⟩
  | true =>
    by_cases h7 : 70000 < len1
    · have k7 : (70000 : Int) < (len1 : Int) := by omega
      clear hfb
      go_enter Tryd.func7, Tryd.ntmps7
      go_wp2_with fail
      refine HF.mono ?_
      rintro e V1 ⟨rfl, hb1⟩
      have H1 : Hid (Below w.heap.size w V1) := hb1
      clear HF hb1
      go_wp2_with fail
      refine (HLV.out _ (H1.out)).mono ?_
      rintro e V ⟨rfl, hb⟩
      go_wp2
      go_ret
      exact ⟨rfl, hb⟩
    · have k7 : ¬ (70000 : Int) < (len1 : Int) := by omega
      have hfw : ss0.length ≤ 1100 ∧ costP ss0 ≤ 5000 := by
        unfold fewP at hfb
        simp only [Bool.and_eq_true, decide_eq_true_eq] at hfb
        exact hfb
      obtain ⟨S, hS⟩ : ∃ S : ByteArray, (⟨ss1.toArray⟩ : ByteArray) = S := ⟨_, rfl⟩
      have hSl : S.data.toList = ss1 := by rw [← hS]
      have hSz : S.size = len1 := by rw [← hbl, ← hSl]; exact Array.length_toList.symm
      have HRD : Hid (∀ V, Calls Tryd.prog 24 #[.string S] V fun e w' => DcTo V (decF ss1) e w') := fun V => by
        have h5 := rdec_any S V (by omega)
        rw [hSl] at h5
        exact h5
      have HCV1 : Hid (∀ V, Below w.heap.size w V → (convert 50 9 (.slice a1 len1 cap1)).run Tryd.prog V = .ok (.string S) V) := fun V hV => by
        have := (HW1.out V hV).conv
        rwa [hS] at this
      have hse : (S.toList == S.toList) = true := by simp
      have HFW : Hid (ss0.length ≤ 1100 ∧ costP ss0 ≤ 5000 ∧ ∀ p ∈ ss0, p.n ≤ 9223372036854775807 ∧ p.data.size ≤ 140737488351232) := ⟨hfw.1, hfw.2, fun p hp => (z0 p hp).2⟩
      obtain ⟨dr, hdr⟩ : ∃ dr, decF ss1 = dr := ⟨_, rfl⟩
      have HDC : Hid (∀ V, Below w.heap.size w V → Calls Tryd.prog 23 #[.slice a1 len1 cap1] V fun e w' => DcTo V dr e w') := fun V hV => by
        rw [← hdr]
        exact ddec_any (HW1.out V hV)
      rw [hdr] at HRD
      obtain ⟨dl, de⟩ := dr
      clear hfb hfw hS hSl hSz hdr z0 hbl
      go_enter Tryd.func7, Tryd.ntmps7
      go_wp2_with fail
      refine HF.mono ?_
      rintro e V1 ⟨rfl, hb1⟩
      have hcv1 := HCV1.out V1 hb1
      have HD1 := HDC.out V1 hb1
      have H1 : Hid (Below w.heap.size w V1) := hb1
      clear HF hb1 HDC
      go_wp2_with fail
      refine HD1.mono ?_
      rintro e V2 ⟨ma, mn, mc, rfl, hown, hb2⟩
      have hB2 : Below w.heap.size w V2 := H1.out.trans (hb2.mono H1.out.size)
      have H2 : Hid (Hw (fun _ => True) V2 ma mn mc dl ∧ Below w.heap.size w V2) := ⟨Rw.own hown (fun _ _ => trivial), hB2⟩
      have HR2 := HRD.out V2
      simp only
      clear HD1 hown hb2 hB2 H1 HRD hcv1
      go_wp2_with fail
      refine HR2.mono ?_
      rintro e V3 ⟨na, nn, nc, rfl, hown, hb3⟩
      have hB3 : Below w.heap.size w V3 := H2.out.2.trans (hb3.mono H2.out.2.size)
      have HSM := samepc_any (H2.out.1.below hb3) (show Hw (fun _ => True) V3 na nn nc dl from Rw.own hown (fun _ _ => trivial))
      rw [decide_eq_true rfl] at HSM
      have H3 : Hid (Below w.heap.size w V3) := hB3
      simp only
      have hde : (de == de) = true := by simp
      clear HR2 hown hb3 hB3 H2
      go_wp2_with fail
      refine HSM.mono ?_
      rintro e V4 ⟨rfl, hb4⟩
      have hB4 : Below w.heap.size w V4 := H3.out.trans (hb4.mono H3.out.size)
      have H4 : Hid (Below w.heap.size w V4) := hB4
      have hcv4 := HCV1.out V4 hB4
      have hW4 := HW0.out V4 hB4
      clear HSM hb4 H3
      cases hm : mayP ss0 with
      | false =>
        have HEN := denc_no hW4 hm
        have HMY : Hid (∀ V, Below w.heap.size w V → Calls Tryd.prog 17 #[.slice a0 len0 cap0] V fun e w' => e = .returned (.bool false) ∧ Below V.heap.size V w') := fun V hV => by
          have h5 := may_any (HW0.out V hV)
          rw [hm] at h5
          exact h5
        clear hW4 hB4 hm
        go_wp2_with fail
        refine HEN.mono ?_
        rintro e V5 ⟨rfl, hb5⟩
        have hB5 : Below w.heap.size w V5 := H4.out.trans (hb5.mono H4.out.size)
        have HM5 := HMY.out V5 hB5
        have H5 : Hid (Below w.heap.size w V5) := hB5
        clear HEN hb5 hB5 HMY hcv4
        go_wp2_with fail
        refine HM5.mono ?_
        rintro e V6 ⟨rfl, hb6⟩
        have H6 : Hid (Below w.heap.size w V6) := H5.out.trans (hb6.mono H5.out.size)
        clear HM5 hb6
        go_wp2_with fail
        refine (HLV.out _ (H6.out)).mono ?_
        rintro e V ⟨rfl, hb⟩
        go_wp2
        go_ret
        exact ⟨rfl, hb⟩
      | true =>
        have hok := (may_ok hm).1
        have hl24 := (may_ok hm).2
        have HEN := denc_ok hW4 hm (fun p hp => (HFW.out.2.2 p hp).1) (by have := HFW.out.2.1; omega)
        have HMY : Hid (∀ V, Below w.heap.size w V → Calls Tryd.prog 17 #[.slice a0 len0 cap0] V fun e w' => e = .returned (.bool true) ∧ Below V.heap.size V w') := fun V hV => by
          have h5 := may_any (HW0.out V hV)
          rw [hm] at h5
          exact h5
        have hes := encS_size (l := ss0) (by omega) (fun p hp => ⟨(HFW.out.2.2 p hp).1, by have := (HFW.out.2.2 p hp).2; omega⟩) ss0.length
        rw [List.take_of_length_le (Nat.le_refl _)] at hes
        obtain ⟨S2, hS2⟩ : ∃ S2 : ByteArray, (⟨(encD ss0).toArray⟩ : ByteArray) = S2 := ⟨_, rfl⟩
        have hS3 : encS ss0 len0 = S2 := by
          rw [← hS2, ← hl0]
          unfold encS encD
          rw [List.take_of_length_le (Nat.le_refl _)]
        have hel : (encD ss0).length ≤ 65536 := by
          have e5 : (encS ss0 ss0.length).size = (encD ss0).length := by rw [hl0, hS3, ← hS2]; simp [ByteArray.size]
          have := HFW.out.2.1
          omega
        have hdf : decF (encD ss0) = (ss0, 0) := decF_some (by omega) (dec_encD hm (may_red hm (fun p hp => (HFW.out.2.2 p hp).1) (fun p hp => (HFW.out.2.2 p hp).2)))
        have HREw : Hid (∀ V, Below w.heap.size w V → Calls Tryd.prog 26 #[.slice a0 len0 cap0] V fun e w' => e = .returned (.string S2) ∧ Below V.heap.size V w') := fun V hV => by
          have h5 := renc_any (HW0.out V hV) (by omega) (fun p hp => ⟨ok_n (hok p hp), (HFW.out.2.2 p hp).1⟩) (by have := HFW.out.2.1; omega)
          rw [hS3] at h5
          exact h5
        have HDF : Hid (decF (encD ss0) = (ss0, 0) ∧ (⟨(encD ss0).toArray⟩ : ByteArray) = S2) := ⟨hdf, hS2⟩
        clear hW4 hB4 hm hok hl24 hes hS2 hS3 hel hdf
        go_wp2_with fail
        refine HEN.mono ?_
        rintro e V5 ⟨ba, bn, bc, rfl, hbs, hb5⟩
        have hB5 : Below w.heap.size w V5 := H4.out.trans (hb5.mono H4.out.size)
        have HM5 := HMY.out V5 hB5
        have H5 : Hid (Below w.heap.size w V5 ∧ Bs V5 ba bn bc (encD ss0)) := ⟨hB5, hbs⟩
        have hbn : bn ≤ 9223372036854775807 := Nat.le_trans hbs.2.1 hbs.2.2.1
        clear HEN hb5 hB5 HMY hcv4 hbs
        go_wp2_with fail
        refine HM5.mono ?_
        rintro e Va ⟨rfl, hba⟩
        have hBa : Below w.heap.size w Va := H5.out.1.trans (hba.mono H5.out.1.size)
        have HDA := ddec_any (H5.out.2.below hba)
        rw [HDF.out.1] at HDA
        have HA : Hid (Below w.heap.size w Va ∧ Bs Va ba bn bc (encD ss0)) := ⟨hBa, H5.out.2.below hba⟩
        clear HM5 hba hBa H5
        go_wp2_with fail
        refine HDA.mono ?_
        rintro e V6 ⟨xa, xn, xc, rfl, hown, hb6⟩
        have hB6 : Below w.heap.size w V6 := HA.out.1.trans (hb6.mono HA.out.1.size)
        have H6 : Hid (Below w.heap.size w V6) := hB6
        have hbs6 := HA.out.2.below hb6
        have HCV : Hid (∀ V, Below V6.heap.size V6 V → (convert 50 9 (.slice ba bn bc)).run Tryd.prog V = .ok (.string S2) V) := fun V hV => by
          have := (hbs6.below hV).conv
          rwa [HDF.out.2] at this
        have hx6 : Hw (fun _ => True) V6 xa xn xc ss0 := Rw.own hown (fun _ _ => trivial)
        have HSM2 : Hid (∀ V, Below V6.heap.size V6 V → Calls Tryd.prog 12 #[.slice xa xn xc, .slice a0 len0 cap0] V fun e w' => e = .returned (.bool true) ∧ Below V.heap.size V w') := fun V hV => by
          have h5 := samepc_any (hx6.below hV) (HW0.out V (hB6.trans (hV.mono hB6.size)))
          rw [decide_eq_true rfl] at h5
          exact h5
        have HRE : Hid (∀ V, Below V6.heap.size V6 V → Calls Tryd.prog 26 #[.slice a0 len0 cap0] V fun e w' => e = .returned (.string S2) ∧ Below V.heap.size V w') := fun V hV => HREw.out V (hB6.trans (hV.mono hB6.size))
        have hs2e : (S2.toList == S2.toList) = true := by simp
        simp only
        clear HDA hown hb6 hB6 hbs6 hx6 HA HREw HDF HW0 HW1 HCV1 HFW
        go_wp2
        refine wp_region_held_drew (S := fun W => (convert 50 9 (.slice ba bn bc)).run Tryd.prog W = .ok (.string S2) W) (by kernel_rfl) (HCV.out V6.drew (Below.refl _ V6).drew) (fun hHeld => ?_)
        refine wpAnyH_take (i := 0) (v := ?va_0) rfl (by kernel_rfl) (by kernel_rfl) (by kernel_rfl) (fun _ _ _ h => h) (Or.inl ⟨by first | kernel_rfl | rfl, ?ya_0⟩) hHeld ?ra_0
        case ya_0 => (intro W hSW; (try dsimp only at hSW); go_simp; (try with_reducible rfl))
        change wpAnyH _ _ _ _ _ _ _ (Act.put _ (some 73) _) _
        simp only [Act.put, List.setIfInBounds_toArray, List.set_cons_zero, List.set_cons_succ]
        refine wpAnyH_take (i := 1) (v := ?va_1) rfl (by kernel_rfl) (by kernel_rfl) (by kernel_rfl) (fun _ _ _ h => h) (Or.inl ⟨by first | kernel_rfl | rfl, ?ya_1⟩) hHeld ?ra_1
        case ya_1 => (intro W hSW; (try dsimp only at hSW); go_simp; (try with_reducible rfl))
        change wpAnyH _ _ _ _ _ _ _ (Act.put _ (some 74) _) _
        simp only [Act.put, List.setIfInBounds_toArray, List.set_cons_zero, List.set_cons_succ]
        refine wpAnyH_take (i := 2) (v := ?va_2) rfl (by kernel_rfl) (by kernel_rfl) (by kernel_rfl) (fun _ _ _ h => h) (Or.inl ⟨by first | kernel_rfl | rfl, ?ya_2⟩) hHeld ?ra_2
        case ya_2 => (intro W hSW; (try dsimp only at hSW); go_simp; (try with_reducible rfl))
        change wpAnyH _ _ _ _ _ _ _ (Act.put _ (some 75) _) _
        simp only [Act.put, List.setIfInBounds_toArray, List.set_cons_zero, List.set_cons_succ]
        refine wpAnyH_take (i := 3) (v := ?va_3) rfl (by kernel_rfl) (by kernel_rfl) (by kernel_rfl) (fun _ _ _ h => h) (Or.inl ⟨by first | kernel_rfl | rfl, ?ya_3⟩) hHeld ?ra_3
        case ya_3 => (intro W hSW; (try dsimp only at hSW); go_simp; (try with_reducible rfl))
        change wpAnyH _ _ _ _ _ _ _ (Act.put _ (some 76) _) _
        simp only [Act.put, List.setIfInBounds_toArray, List.set_cons_zero, List.set_cons_succ]
        refine wpAnyH_take (i := 4) (v := ?va_4) rfl (by kernel_rfl) (by kernel_rfl) (by kernel_rfl) (fun _ _ _ h => h) (Or.inl ⟨by first | kernel_rfl | rfl, ?ya_4⟩) hHeld ?ra_4
        case ya_4 => (intro W hSW; (try dsimp only at hSW); go_simp; (try with_reducible rfl))
        change wpAnyH _ _ _ _ _ _ _ (Act.put _ (some 77) _) _
        simp only [Act.put, List.setIfInBounds_toArray, List.set_cons_zero, List.set_cons_succ]
        refine wpAnyH_take (i := 5) (v := ?va_5) rfl (by kernel_rfl) (by kernel_rfl) (by kernel_rfl) (fun _ _ _ h => h) (Or.inl ⟨by first | kernel_rfl | rfl, ?ya_5⟩) hHeld ?ra_5
        case ya_5 => (intro W hSW; (try dsimp only at hSW); go_simp; (try with_reducible rfl))
        change wpAnyH _ _ _ _ _ _ _ (Act.put _ (some 78) _) _
        simp only [Act.put, List.setIfInBounds_toArray, List.set_cons_zero, List.set_cons_succ]
        refine wpAnyH_ready (rs := [6]) (by kernel_rfl) (by simp) ?_
        refine AllReadyH.cons rfl (fun K hK => ?_) AllReadyH.nil
        go_simp
        refine (HRE.out V6.drew ((Below.refl _ V6).drew)).mono ?_
        rintro e V7 ⟨rfl, hb7⟩
        refine hK.out _ _ (HCV.out V7 ((Below.refl _ V6).drew.trans hb7)) (fun hHeld => ?_)
        clear hK K
        try simp only [Act.put, List.setIfInBounds_toArray, List.set_cons_zero, List.set_cons_succ]
        have H7 : Hid (Below V6.heap.size V6 V7) := (Below.refl _ V6).drew.trans hb7
        clear hb7
        refine wpAnyH_take (i := 7) (v := ?va_7) rfl (by kernel_rfl) (by kernel_rfl) (by kernel_rfl) (fun _ _ _ h => h) (Or.inl ⟨by first | kernel_rfl | rfl, ?ya_7⟩) hHeld ?ra_7
        case ya_7 => (intro W hSW; (try dsimp only at hSW); go_simp; (try with_reducible rfl))
        change wpAnyH _ _ _ _ _ _ _ (Act.put _ (some 80) _) _
        simp only [Act.put, List.setIfInBounds_toArray, List.set_cons_zero, List.set_cons_succ]
        refine wpAnyH_take (i := 8) (v := ?va_8) rfl (by kernel_rfl) (by kernel_rfl) (by kernel_rfl) (fun _ _ _ h => h) (Or.inl ⟨by first | kernel_rfl | rfl, ?ya_8⟩) hHeld ?ra_8
        case ya_8 => (intro W hSW; (try dsimp only at hSW); go_simp; (try with_reducible rfl))
        change wpAnyH _ _ _ _ _ _ _ (Act.put _ (some 81) _) _
        simp only [Act.put, List.setIfInBounds_toArray, List.set_cons_zero, List.set_cons_succ]
        refine wpAnyH_take (i := 9) (v := ?va_9) rfl (by kernel_rfl) (by kernel_rfl) (by kernel_rfl) (fun _ _ _ h => h) (Or.inl ⟨by first | kernel_rfl | rfl, ?ya_9⟩) hHeld ?ra_9
        case ya_9 => (intro W hSW; (try dsimp only at hSW); go_simp; (try with_reducible rfl))
        change wpAnyH _ _ _ _ _ _ _ (Act.put _ (some 82) _) _
        simp only [Act.put, List.setIfInBounds_toArray, List.set_cons_zero, List.set_cons_succ]
        refine wpAnyH_take (i := 10) (v := ?va_10) rfl (by kernel_rfl) (by kernel_rfl) (by kernel_rfl) (fun _ _ _ h => h) (Or.inl ⟨by first | kernel_rfl | rfl, ?ya_10⟩) hHeld ?ra_10
        case ya_10 => (intro W hSW; (try dsimp only at hSW); go_simp; (try with_reducible rfl))
        change wpAnyH _ _ _ _ _ _ _ (Act.put _ (some 83) _) _
        simp only [Act.put, List.setIfInBounds_toArray, List.set_cons_zero, List.set_cons_succ]
        refine wpAnyH_take (i := 11) (v := ?va_11) rfl (by kernel_rfl) (by kernel_rfl) (by kernel_rfl) (fun _ _ _ h => h) (Or.inl ⟨by first | kernel_rfl | rfl, ?ya_11⟩) hHeld ?ra_11
        case ya_11 => (intro W hSW; (try dsimp only at hSW); go_simp; (try with_reducible rfl))
        change wpAnyH _ _ _ _ _ _ _ (Act.put _ (some 84) _) _
        simp only [Act.put, List.setIfInBounds_toArray, List.set_cons_zero, List.set_cons_succ]
        refine wpAnyH_take (i := 12) (v := ?va_12) rfl (by kernel_rfl) (by kernel_rfl) (by kernel_rfl) (fun _ _ _ h => h) (Or.inl ⟨by first | kernel_rfl | rfl, ?ya_12⟩) hHeld ?ra_12
        case ya_12 => (intro W hSW; (try dsimp only at hSW); go_simp; (try with_reducible rfl))
        change wpAnyH _ _ _ _ _ _ _ (Act.put _ (some 85) _) _
        simp only [Act.put, List.setIfInBounds_toArray, List.set_cons_zero, List.set_cons_succ]
        refine wpAnyH_take (i := 13) (v := ?va_13) rfl (by kernel_rfl) (by kernel_rfl) (by kernel_rfl) (fun _ _ _ h => h) (Or.inl ⟨by first | kernel_rfl | rfl, ?ya_13⟩) hHeld ?ra_13
        case ya_13 => (intro W hSW; (try dsimp only at hSW); go_simp; (try with_reducible rfl))
        change wpAnyH _ _ _ _ _ _ _ (Act.put _ (some 86) _) _
        simp only [Act.put, List.setIfInBounds_toArray, List.set_cons_zero, List.set_cons_succ]
        refine wpAnyH_take (i := 14) (v := ?va_14) rfl (by kernel_rfl) (by kernel_rfl) (by kernel_rfl) (fun _ _ _ h => h) (Or.inl ⟨by first | kernel_rfl | rfl, ?ya_14⟩) hHeld ?ra_14
        case ya_14 => (intro W hSW; (try dsimp only at hSW); go_simp; (try with_reducible rfl))
        change wpAnyH _ _ _ _ _ _ _ (Act.put _ (some 87) _) _
        simp only [Act.put, List.setIfInBounds_toArray, List.set_cons_zero, List.set_cons_succ]
        refine wpAnyH_take (i := 15) (v := ?va_15) rfl (by kernel_rfl) (by kernel_rfl) (by kernel_rfl) (fun _ _ _ h => h) (Or.inl ⟨by first | kernel_rfl | rfl, ?ya_15⟩) hHeld ?ra_15
        case ya_15 => (intro W hSW; (try dsimp only at hSW); go_simp; (try with_reducible rfl))
        change wpAnyH _ _ _ _ _ _ _ (Act.put _ (some 88) _) _
        simp only [Act.put, List.setIfInBounds_toArray, List.set_cons_zero, List.set_cons_succ]
        refine wpAnyH_ready (rs := [16]) (by kernel_rfl) (by simp) ?_
        refine AllReadyH.cons rfl (fun K hK => ?_) AllReadyH.nil
        go_simp
        refine (HSM2.out V7 H7.out).mono ?_
        rintro e V8 ⟨rfl, hb8⟩
        refine hK.out _ _ (HCV.out V8 (H7.out.trans (hb8.mono H7.out.size))) (fun hHeld => ?_)
        clear hK K
        try simp only [Act.put, List.setIfInBounds_toArray, List.set_cons_zero, List.set_cons_succ]
        have H8 : Hid (Below V6.heap.size V6 V8) := H7.out.trans (hb8.mono H7.out.size)
        clear hb8
        refine wpAnyH_take (i := 17) (v := ?va_17) rfl (by kernel_rfl) (by kernel_rfl) (by kernel_rfl) (fun _ _ _ h => h) (Or.inl ⟨by first | kernel_rfl | rfl, ?ya_17⟩) hHeld ?ra_17
        case ya_17 => (intro W hSW; (try dsimp only at hSW); go_simp; (try with_reducible rfl))
        change wpAnyH _ _ _ _ _ _ _ (Act.put _ (some 90) _) _
        simp only [Act.put, List.setIfInBounds_toArray, List.set_cons_zero, List.set_cons_succ]
        refine wpAnyH_take (i := 18) (v := ?va_18) rfl (by kernel_rfl) (by kernel_rfl) (by kernel_rfl) (fun _ _ _ h => h) (Or.inl ⟨by first | kernel_rfl | rfl, ?ya_18⟩) hHeld ?ra_18
        case ya_18 => (intro W hSW; (try dsimp only at hSW); go_simp; (try with_reducible rfl))
        change wpAnyH _ _ _ _ _ _ _ (Act.put _ (some 91) _) _
        simp only [Act.put, List.setIfInBounds_toArray, List.set_cons_zero, List.set_cons_succ]
        refine wpAnyH_ready (rs := [19]) (by kernel_rfl) (by simp) ?_
        refine AllReadyH.cons rfl (fun K hK => ?_) AllReadyH.nil
        go_simp
        refine (HLV2.out V8 (H6.out.trans (H8.out.mono H6.out.size))).mono ?_
        rintro e V9 ⟨rfl, hb9⟩
        refine hK.out _ _ (HCV.out V9 (H8.out.trans (hb9.mono H8.out.size))) (fun hHeld => ?_)
        clear hK K
        try simp only [Act.put, List.setIfInBounds_toArray, List.set_cons_zero, List.set_cons_succ]
        refine wpAnyH_take (i := 20) (v := ?va_20) rfl (by kernel_rfl) (by kernel_rfl) (by kernel_rfl) (fun _ _ _ h => h) (Or.inl ⟨by first | kernel_rfl | rfl, ?ya_20⟩) hHeld ?ra_20
        case ya_20 => (intro W hSW; (try dsimp only at hSW); go_simp; (try with_reducible rfl))
        change wpAnyH _ _ _ _ _ _ _ (Act.put _ (some 93) _) _
        simp only [Act.put, List.setIfInBounds_toArray, List.set_cons_zero, List.set_cons_succ]
        refine wpAnyH_take (i := 21) (v := ?va_21) rfl (by kernel_rfl) (by kernel_rfl) (by kernel_rfl) (fun _ _ _ h => h) (Or.inl ⟨by first | kernel_rfl | rfl, ?ya_21⟩) hHeld ?ra_21
        case ya_21 => (intro W hSW; (try dsimp only at hSW); go_simp; (try with_reducible rfl))
        change wpAnyH _ _ _ _ _ _ _ (Act.put _ (some 4) _) _
        simp only [Act.put, List.setIfInBounds_toArray, List.set_cons_zero, List.set_cons_succ]
        refine wpAnyH_done (by kernel_rfl) ?_ _
        have HB9 : Hid (Below w.heap.size w V9) := H6.out.trans ((H8.out.trans (hb9.mono H8.out.size)).mono H6.out.size)
        clear hb9
        go_wp2
        go_ret
        exact ⟨rfl, HB9.out⟩

set_option linter.unusedVariables false in
set_option maxRecDepth 100000 in
theorem lifted (os : Os) (started : os.Started) (H : Type) (enc : TypeId × Value → H) :
    ReturnsInHanded {} Tryd.checked os 7 .any (fun w args => (Rows.deltaCodesSpec.pre enc Tryd.prog Tryd.f7 [] false w args ∧ laidMetH Tryd.prog laid2 w) ∧ sizedMet enc Tryd.prog Tryd.f7 (OpenSpec.ofChange Rows.deltaCodesSpec) false w args) (Rows.deltaCodesSpec.post enc Tryd.prog Tryd.f7 false true false false) := by
  refine returnsInHanded_of_change_and (C := Tryd.checked) (X := fun w _ => laidMetH Tryd.prog laid2 w) (fun _ _ _ hh h => h.of_heap hh) own started (by kernel_rfl) Tryd.func7
    (ChangeSpec.witness_shaped (enc := enc) (C := Tryd.checked) (os := os) (X := fun w _ => laidMetH Tryd.prog laid2 w) false (World.doorLaid Tryd.prog 19 os) #[.slice none 0 0, .slice none 0 0] 8 rfl (World.shaped_of_RefB (by kernel_rfl) (by kernel_rfl)) (by kernel_rfl) (by kernel_rfl) (by kernel_rfl) (door_met os _)) ?_
  intro W base args ds gs before hval0 hW _ hsz0 hL _
  have hval : ∀ (j : Nat) t v, Tryd.f7.params[j]? = some t → args[j]? = some v → Value.okWide Tryd.prog W .any base t v := hval0
  have hsz : (DataW.weightsEach Tryd.prog (Tryd.f7.params.toList ++ Rows.deltaCodesSpec.plain.varTypes Tryd.prog) (ds ++ gs)).all (· ≤ reachBytes) = true := hsz0
  have hW' := hW
  obtain ⟨p, q, hA0, hV, rfl, hfz, hnd⟩ := hW
  have hA : DataW.TrodAll enc Tryd.prog W 0 (fun _ => true) true Tryd.f7.params.toList args.toList ds p := hA0
  rw [Tryd.params7] at hA hval hsz
  obtain ⟨v0, vs0, d0, ds0, p0, q0, hargs, rfl, rfl, h0, r0⟩ := trodAll_cons hA
  obtain ⟨v1, vs1, d1, ds1, p1, q1, rfl, rfl, rfl, h1, r1⟩ := trodAll_cons r0
  obtain ⟨rfl, rfl, rfl⟩ := trodAll_nil r1
  obtain rfl : args = #[v0, v1] := by cases args; simp_all
  obtain ⟨rfl, rfl⟩ := trodVars_none hV
  have k0 := h0
  have lt0 : ∀ x ∈ p0, x.block < W.heap.size := by obtain ⟨m, hm⟩ := k0; exact DataW.trod_lt m _ _ _ hm
  obtain ⟨a0, len0, cap0, rfl⟩ := okWide_slice Tryd.underlying26 (hval 0 26 v0 rfl rfl)
  obtain ⟨ss0, w0, z0⟩ : ∃ ss, Hs W a0 len0 cap0 ss ∧ ∀ p ∈ ss, -9223372036854775808 ≤ p.n ∧ p.n ≤ 9223372036854775807 ∧ p.data.size ≤ 140737488351232 := by
    obtain ⟨fuel, hf⟩ := h0
    exact pieces_of (j := 0) (by simpa [Value.cells] using hf) hsz rfl rfl
  have k1 := h1
  have lt1 : ∀ x ∈ p1, x.block < W.heap.size := by obtain ⟨m, hm⟩ := k1; exact DataW.trod_lt m _ _ _ hm
  obtain ⟨a1, len1, cap1, rfl⟩ := okWide_slice Tryd.underlying50 (hval 1 50 v1 rfl rfl)
  obtain ⟨ss1, w1, _⟩ : ∃ bs, Bs W a1 len1 cap1 bs ∧ True := by
    obtain ⟨fuel, hf⟩ := h1
    exact bytes_arg (by simpa [Value.cells] using hf)
  clear hA0 hval0 hsz hsz0
  refine (walk a0 len0 cap0 ss0 z0 a1 len1 cap1 ss1 W w0 w1 (of_laid hL)).mono fun e W' ⟨he, bel⟩ => ?_
  subst he
  exact ⟨_, rfl, _, _, _, [], _, [], hW', trodAll_mk1 (shut_bool Tryd.underlying4 _), (trodAll_cons_mk (Below.trod laidOut (by kernel_rfl) (of_decide_eq_true (by kernel_rfl)) k0 bel lt0) (trodAll_cons_mk (Below.trod laidOut (by kernel_rfl) (of_decide_eq_true (by kernel_rfl)) k1 bel lt1) trodAll_mk0)), rfl, bel.frame _, fun h => by cases h⟩

theorem over : Rows.deltaCodesRow.holds Tryd.pinned (OpenSpec.ofChange Rows.deltaCodesSpec) :=
  OpenClaim.holds_of_wide 7 Tryd.f7 rfl rfl rfl rfl rfl rfl rfl ⟨rfl, rfl, rfl, rfl, rfl⟩ rfl rfl rfl rfl rfl (by kernel_rfl) Tryd.func7 (by kernel_rfl)
    (of_decide_eq_true (by kernel_rfl)) (by unfold Func.isWrapper; first | (rw [if_pos (by decide +kernel)]; kernel_rfl) | (rw [if_neg (by decide +kernel)]; exact ⟨rfl, rfl⟩))
    (fun os started H enc _ => lifted os started H enc)

end Go.Proofs.YtbhnmjjfammlkaaDoor.deltaCodes
namespace Go.Proofs.YtbhnmjjfammlkaaDoor
/-- The given statement. -/
theorem deltaCodes_holds : Rows.DeltaCodesCardSaid :=
  Claim7.holds_tied_plain_at .later [] [.data, .data] true (true, "27943a41a17194b98194b1148f1bcb5bf0b2dad1c028dfa582421bd3b0c29b3b") false
    deltaCodes.over (fun _ h => by cases h) (by kernel_rfl) (fun _ h => by cases h) deltaCodes_row_tie rfl ⟨rfl, rfl⟩ (by kernel_rfl) rfl
    (fun f fn hf hfn => by
      obtain rfl : f = 7 := Option.some.inj ((show Tryd.prog.funcNamed "strongroom/strongroomlaw11.DeltaCodes" = some 7 by kernel_rfl).symm.trans hf) |>.symm
      obtain rfl : fn = Tryd.f7 := (Option.some.inj (Tryd.func7.symm.trans hfn)).symm
      exact ⟨by kernel_rfl, fun j t ht => by
        rw [Tryd.params7] at ht
        rcases j with _ | _ | j
        · obtain rfl : t = 26 := by simpa using ht.symm
          exact (show Tryd.prog.wantsStandIn 26 = false by kernel_rfl)
        · obtain rfl : t = 50 := by simpa using ht.symm
          exact (show Tryd.prog.wantsStandIn 50 = false by kernel_rfl)
        · simp at ht
      ⟩)
    (by kernel_rfl)
#print axioms deltaCodes_holds
end Go.Proofs.YtbhnmjjfammlkaaDoor
