/- Proved: for every audit and all bytes the law AuditCodes returns true, what was handed in as it was (the bytes of any audit, and the audit of any bytes, are the document's; there and back; bytes that are an audit are just its bytes); where the package's two tables begin as the program's text lays them. -/
import Derived.Test.YtkhidkilkbmpoaaDoorQK
import Derived.Test.YtkhidkilkbmpoaaDoorCards
import Derived.Test.YtkhidkilkbmpoaaDoorTie
import Derived.WalkKit
import Derived.Deep.Cut
import Derived.ProofKit
import Derived.OpenShut
import Derived.ShutString
import Derived.ChangeOld
import Derived.Below
import Derived.LaidMore
import Derived.Stop.Joined
import Derived.SevenTiedAt
namespace Go.Proofs.YtkhidkilkbmpoaaDoor.auditCodes
open Go.ChangeShapes Go.WideShapes Go.ChangeAt Go.WideMaps Go.WideElems Go.RowKit
open Go.ChangeMaps (open_string shut_string)

set_option maxRecDepth 100000 in
set_option maxHeartbeats 8000000 in
theorem walk (s0 : ByteArray) (n0 : Int) (a0 : Option Addr) (len0 cap0 : Nat) (l0 : List En) (c0 : ∀ c ∈ l0, c.In) (z0 : s0.size ≤ 140737488351232) (_x0 : -9223372036854775808 ≤ n0 ∧ n0 ≤ 9223372036854775807) (a1 : Option Addr) (len1 cap1 : Nat) (b1 : List UInt8) (w : World) (w0 : Ew w a0 len0 cap0 l0) (w1 : Bs w a1 len1 cap1 b1) (hL : Laid w) :
    Calls Tryd.prog 8 #[.agg #[.string s0, .int .i64 n0, .slice a0 len0 cap0], .slice a1 len1 cap1] w fun e w' => e = .returned (.bool true) ∧ Below w.heap.size w w' := by
  have HLV : Hid (∀ V, Below w.heap.size w V → Calls Tryd.prog 10 #[] V fun e w' => e = .returned (.bool true) ∧ Below V.heap.size V w') := fun V hV => lives_any V (hL.below hV)
  obtain ⟨pb, hpb⟩ : ∃ pb, w.heap.size = pb := ⟨_, rfl⟩
  obtain ⟨V1, hV1, r1', hb1⟩ := box_au 24 (w := w) s0 n0 a0 len0 cap0
  rw [hpb] at r1'
  have HKK : Hid (∀ W, Below V1.heap.size V1 W → W.heap[pb]? = some (.cells #[.string s0, .int .i64 n0, .slice a0 len0 cap0] 24 (0, 0)) ∧ Below w.heap.size w W) := fun W hW => ⟨(hW.block pb (lt_of_some r1')).trans r1', hb1.trans (hW.mono hb1.size)⟩
  obtain ⟨y0, y1, y2, _⟩ := row3 r1'
  have HSM := small_au s0 n0 (w0.below hb1) z0 (fun c hc => (c0 c hc).2.2.2.2)
  unfold YeTo at HSM
  have hbl := w1.1
  have hlm : len1 ≤ 9223372036854775807 := Nat.le_trans w1.2.1 w1.2.2.1
  cases hsm : smallA l0 s0 with
  | false =>
    rw [hsm] at HSM
    clear hsm hL w0 w1 c0 r1' hb1 hbl
    go_enter Tryd.func8, Tryd.ntmps8
    go_wp2_with fail
    refine HSM.mono ?_
    rintro e V2 ⟨rfl, hb2⟩
    have HB : Hid (Below w.heap.size w V2) := (HKK.out V2 hb2).2
    clear HSM hb2 y0 y1 y2
    have HLX := HLV.out V2 HB.out
    go_wp2_with fail
    refine HLX.mono ?_
    rintro e VZ ⟨rfl, hbZ⟩
    have HZ : Hid (Below w.heap.size w VZ) := HB.out.trans (hbZ.mono HB.out.size)
    clear HLX hbZ
    go_wp2
    go_ret
    exact ⟨rfl, HZ.out⟩
  | true =>
    rw [hsm] at HSM
    by_cases hpl : 70000 < len1
    · have kpl : (70000 : Int) < (len1 : Int) := by omega
      clear hsm hL w0 w1 c0 r1' hb1 hbl
      go_enter Tryd.func8, Tryd.ntmps8
      go_wp2_with fail
      refine HSM.mono ?_
      rintro e V2 ⟨rfl, hb2⟩
      have HB : Hid (Below w.heap.size w V2) := (HKK.out V2 hb2).2
      clear HSM hb2 y0 y1 y2
      have HLX := HLV.out V2 HB.out
      go_wp2_with fail
      refine HLX.mono ?_
      rintro e VZ ⟨rfl, hbZ⟩
      have HZ : Hid (Below w.heap.size w VZ) := HB.out.trans (hbZ.mono HB.out.size)
      clear HLX hbZ
      go_wp2
      go_ret
      exact ⟨rfl, HZ.out⟩
    have kpl : ¬ (70000 : Int) < (len1 : Int) := by omega
    have hsmi := small_iff.1 hsm
    have hl0 := w0.len
    obtain ⟨S, hS⟩ : ∃ S : ByteArray, (⟨b1.toArray⟩ : ByteArray) = S := ⟨_, rfl⟩
    have hSl : S.data.toList = b1 := by rw [← hS]
    obtain ⟨⟨r1, r2⟩, hr⟩ : ∃ r, decV KP63 b1 = r := ⟨_, rfl⟩
    have hr' : decV KD62 b1 = (r1, r2) := by rw [← hr]; unfold decV; rw [decA_near (K := KD62) (L := KP63) (by decide) (by decide)]
    obtain ⟨k1, hk1⟩ : ∃ k, r1.anchor = k := ⟨_, rfl⟩
    obtain ⟨m1, hm1⟩ : ∃ k, r1.last = k := ⟨_, rfl⟩
    obtain ⟨my, hmy⟩ : ∃ x, mayA ⟨s0, n0, l0⟩ = x := ⟨_, rfl⟩
    have HCV1 : Hid (∀ W, Below w.heap.size w W → (convert 45 9 (.slice a1 len1 cap1)).run Tryd.prog W = .ok (.string S) W) := fun W hW => by
      have := (w1.below hW).conv
      rwa [hS] at this
    have HDC : Hid (∀ W, Below w.heap.size w W → Calls Tryd.prog 27 #[.slice a1 len1 cap1] W fun e w' => ∃ (a : Option Addr) (n c : Nat), e = .returned (.tuple #[.agg #[.string k1, .int .i64 m1, .slice a n c], .int .i64 (r2 : Int)]) ∧ Nw W.heap.size w' a n c r1.ents ∧ Below W.heap.size W w') := fun W hW => by
      have h9 := adec_any (w1.below hW)
      rw [hr] at h9
      unfold AuTo at h9
      simp only at h9
      rw [hk1, hm1] at h9
      exact h9
    have HRD : Hid (∀ W, Calls Tryd.prog 28 #[.string S] W fun e w' => ∃ (a : Option Addr) (n c : Nat), e = .returned (.tuple #[.agg #[.string k1, .int .i64 m1, .slice a n c], .int .i64 (r2 : Int)]) ∧ Nw W.heap.size w' a n c r1.ents ∧ Below W.heap.size W w') := fun W => by
      have h9 := rdec_any S b1 hSl W (by omega)
      rw [hr'] at h9
      unfold AuTo at h9
      simp only at h9
      rw [hk1, hm1] at h9
      exact h9
    have HOK : Hid (r2 = 0 → mayA ⟨k1, m1, r1.ents⟩ = true ∧ encA ⟨k1, m1, r1.ents⟩ = b1) := fun h0 => by
      have h9 : decA KP63 b1 = some r1 := by
        unfold decV at hr
        split at hr
        · obtain ⟨_, rfl⟩ := Prod.mk.inj hr; cases h0
        · split at hr
          · obtain ⟨_, rfl⟩ := Prod.mk.inj hr; cases h0
          · rename_i a ha
            obtain ⟨rfl, _⟩ := Prod.mk.inj hr
            exact ha
      have h8 := decA_enc (K := KP63) (by decide) h9
      rw [← hk1, ← hm1]
      exact ⟨h8.2, h8.1⟩
    have HMI : Hid (∀ W, Below w.heap.size w W → Calls Tryd.prog 16 #[.agg #[.string s0, .int .i64 n0, .slice a0 len0 cap0]] W fun e w' => ∃ (a' : Option Addr) (c' : Nat), e = .returned (.agg #[.string s0, .int .i64 n0, .slice a' len0 c']) ∧ w'.ownsRow W.heap.size 36 5 (.slice a' len0 c') len0 (enR l0) ∧ Below W.heap.size W w') := fun W hW => mine_any s0 n0 (w0.below hW) (by omega)
    have HRM : Hid (∀ W, Below w.heap.size w W → Calls Tryd.prog 17 #[.agg #[.string s0, .int .i64 n0, .slice a0 len0 cap0]] W fun e w' => e = .returned (.bool my) ∧ Below W.heap.size W w') := fun W hW => by
      have h9 := rmay_any s0 n0 (w0.below hW)
      rw [hmy] at h9
      exact h9
    have HW0 : Hid (∀ W, Below w.heap.size w W → Ew W a0 len0 cap0 l0) := fun W hW => w0.below hW
    have HW1 : Hid (∀ W, Below w.heap.size w W → Bs W a1 len1 cap1 b1) := fun W hW => w1.below hW
    have HMY : Hid (mayA ⟨s0, n0, l0⟩ = my) := hmy
    have HSS : Hid ((⟨b1.toArray⟩ : ByteArray) = S) := hS
    have hee : ((r2 : Int) != (r2 : Int)) = false := by simp
    clear hsm hsmi hl0 hL w0 w1 c0 r1' hb1 hbl hS hSl hr hr' hk1 hm1 hmy
    go_enter Tryd.func8, Tryd.ntmps8
    go_wp2_with fail
    refine HSM.mono ?_
    rintro e V2 ⟨rfl, hb2⟩
    have H2 : Hid (Below V1.heap.size V1 V2) := hb2
    have HD2 := HDC.out V2 (HKK.out V2 hb2).2
    clear HSM hb2 y0 y1 y2
    go_wp2_with fail
    refine HD2.mono ?_
    rintro e V3 ⟨xa, xn, xc, rfl, hnx, hb3⟩
    obtain ⟨xb, hxb⟩ : ∃ x, V3.heap.size = x := ⟨_, rfl⟩
    obtain ⟨U3, hU3⟩ : ∃ x, V3.alloc (.cells #[.string ⟨#[]⟩, .int .i64 0, .slice none 0 0] 27) = x := ⟨_, rfl⟩
    have rU3 : U3.heap[xb]? = some (.cells #[.string ⟨#[]⟩, .int .i64 0, .slice none 0 0] 27 (0, 0)) := by rw [← hU3, ← hxb]; exact heap_alloc_new _ _
    have bU3 : Below V3.heap.size V3 U3 := by rw [← hU3]; exact (Below.refl _ _).alloc (Nat.le_refl _) _
    obtain ⟨xb0, xb1, xb2, xbz⟩ := row3 rU3
    have xbf0 := xbz 0
    have xbf1 := xbz 1
    have xbf2 := xbz 2
    obtain ⟨V4, hV4⟩ : ∃ x, ((U3.setCell ⟨xb, 0, none⟩ (.string k1)).setCell ⟨xb, 1, none⟩ (.int .i64 m1)).setCell ⟨xb, 2, none⟩ (.slice xa xn xc) = x := ⟨_, rfl⟩
    have rV4 : V4.heap[xb]? = some (.cells #[.string k1, .int .i64 m1, .slice xa xn xc] 27 (0, 0)) := by rw [← hV4]; exact set3 rU3 _ _ _
    have bV4 : Below V3.heap.size V3 V4 := by rw [← hV4]; exact below3s bU3 (Nat.le_of_eq hxb) _ _ _
    clear rU3 bU3 xbz
    have hB4 : Below V2.heap.size V2 V4 := hb3.trans (bV4.mono hb3.size)
    have hBV4 : Below V1.heap.size V1 V4 := H2.out.trans (hB4.mono H2.out.size)
    have hcv4 := HCV1.out V4 (HKK.out V4 hBV4).2
    have HR4 := HRD.out V4
    have H4 : Hid (Below V1.heap.size V1 V4 ∧ V4.heap[xb]? = some (.cells #[.string k1, .int .i64 m1, .slice xa xn xc] 27 (0, 0)) ∧ Ew V4 xa xn xc r1.ents) := ⟨hBV4, rV4, (hnx.below bV4).ew⟩
    clear HD2 hnx hb3 rV4 bV4 hB4 hBV4
    go_wp2_with fail
    clear xb0 xb1 xb2 xbf0 xbf1 xbf2 hcv4
    refine HR4.mono ?_
    rintro e V5 ⟨ya, yn, yc, rfl, hny, hb5⟩
    obtain ⟨yb, hyb⟩ : ∃ x, V5.heap.size = x := ⟨_, rfl⟩
    obtain ⟨U5, hU5⟩ : ∃ x, V5.alloc (.cells #[.string ⟨#[]⟩, .int .i64 0, .slice none 0 0] 24) = x := ⟨_, rfl⟩
    have rU5 : U5.heap[yb]? = some (.cells #[.string ⟨#[]⟩, .int .i64 0, .slice none 0 0] 24 (0, 0)) := by rw [← hU5, ← hyb]; exact heap_alloc_new _ _
    have bU5 : Below V5.heap.size V5 U5 := by rw [← hU5]; exact (Below.refl _ _).alloc (Nat.le_refl _) _
    obtain ⟨yb0, yb1, yb2, ybz⟩ := row3 rU5
    have ybf0 := ybz 0
    have ybf1 := ybz 1
    have ybf2 := ybz 2
    obtain ⟨V6, hV6⟩ : ∃ x, ((U5.setCell ⟨yb, 0, none⟩ (.string k1)).setCell ⟨yb, 1, none⟩ (.int .i64 m1)).setCell ⟨yb, 2, none⟩ (.slice ya yn yc) = x := ⟨_, rfl⟩
    have rV6 : V6.heap[yb]? = some (.cells #[.string k1, .int .i64 m1, .slice ya yn yc] 24 (0, 0)) := by rw [← hV6]; exact set3 rU5 _ _ _
    have bV6 : Below V5.heap.size V5 V6 := by rw [← hV6]; exact below3s bU5 (Nat.le_of_eq hyb) _ _ _
    clear rU5 bU5 ybz
    have hB6 : Below V4.heap.size V4 V6 := hb5.trans (bV6.mono hb5.size)
    have hBV6 : Below V1.heap.size V1 V6 := H4.out.1.trans (hB6.mono H4.out.1.size)
    have rx6 := (hB6.block xb (lt_of_some H4.out.2.1)).trans H4.out.2.1
    have HS : Hid (∀ W, Below V6.heap.size V6 W → ((W.cell? ⟨xb, 0, none⟩ = some (.string k1) ∧ W.cell? ⟨xb, 1, none⟩ = some (.int .i64 m1) ∧ W.cell? ⟨xb, 2, none⟩ = some (.slice xa xn xc)) ∧ (W.cell? ⟨yb, 0, none⟩ = some (.string k1) ∧ W.cell? ⟨yb, 1, none⟩ = some (.int .i64 m1) ∧ W.cell? ⟨yb, 2, none⟩ = some (.slice ya yn yc))) ∧ Below w.heap.size w W) := fun W hW => by
      obtain ⟨g0, g1, g2, _⟩ := row3 ((hW.block xb (lt_of_some rx6)).trans rx6)
      obtain ⟨f0, f1, f2, _⟩ := row3 ((hW.block yb (lt_of_some rV6)).trans rV6)
      exact ⟨⟨⟨g0, g1, g2⟩, f0, f1, f2⟩, (HKK.out W (hBV6.trans (hW.mono hBV6.size))).2⟩
    have hey := (hny.below bV6).ew
    have hex := H4.out.2.2.below hB6
    have HTX : Hid (∀ W, Calls Tryd.prog 13 #[.agg #[.string k1, .int .i64 m1, .slice xa xn xc]] W fun e w' => e = .returned (.agg #[.string k1, .int .i64 m1, .slice xa xn xc]) ∧ Below W.heap.size W w') := fun W => theirs_any k1 m1 xa xn xc
    have HSA : Hid (∀ W, Below V6.heap.size V6 W → Calls Tryd.prog 12 #[.agg #[.string k1, .int .i64 m1, .slice xa xn xc], .agg #[.string k1, .int .i64 m1, .slice ya yn yc]] W fun e w' => e = .returned (.bool true) ∧ Below W.heap.size W w') := fun W hW => by
      have h9 := same_au k1 m1 k1 m1 (hex.below hW) (hey.below hW)
      rw [sameA_self] at h9
      exact h9
    have H6 : Hid (Below V1.heap.size V1 V6 ∧ Ew V6 xa xn xc r1.ents) := ⟨hBV6, hex⟩
    clear HR4 hny hb5 rV6 bV6 hB6 hBV6 rx6 hey hex
    go_wp2
    clear yb0 yb1 yb2 ybf0 ybf1 ybf2
    refine wp_region_held_drew (S := fun W => (W.cell? ⟨xb, 0, none⟩ = some (.string k1) ∧ W.cell? ⟨xb, 1, none⟩ = some (.int .i64 m1) ∧ W.cell? ⟨xb, 2, none⟩ = some (.slice xa xn xc)) ∧ (W.cell? ⟨yb, 0, none⟩ = some (.string k1) ∧ W.cell? ⟨yb, 1, none⟩ = some (.int .i64 m1) ∧ W.cell? ⟨yb, 2, none⟩ = some (.slice ya yn yc))) (by kernel_rfl) ((HS.out V6.drew (Below.refl _ V6).drew).1) (fun hHeld => ?_)
    have Ha_0 : Hid (Below V6.heap.size V6 V6.drew) := (Below.refl _ V6).drew
    refine wpAnyH_take (i := 0) (v := ?va_0) rfl (by kernel_rfl) (by kernel_rfl) (by kernel_rfl) (fun _ _ _ h => h) (Or.inl ⟨by first | kernel_rfl | rfl, ?ya_0⟩) hHeld ?ra_0
    case ya_0 => (intro W hSW; (try dsimp only at hSW); go_simp; (try with_reducible rfl))
    change wpAnyH _ _ _ _ _ _ _ (Act.put _ (some 35) _) _
    simp only [Act.put, List.setIfInBounds_toArray, List.set_cons_zero, List.set_cons_succ]
    refine wpAnyH_take (i := 2) (v := ?va_2) rfl (by kernel_rfl) (by kernel_rfl) (by kernel_rfl) (fun _ _ _ h => h) (Or.inl ⟨by first | kernel_rfl | rfl, ?ya_2⟩) hHeld ?ra_2
    case ya_2 => (intro W hSW; (try dsimp only at hSW); go_simp; (try with_reducible rfl))
    change wpAnyH _ _ _ _ _ _ _ (Act.put _ (some 37) _) _
    simp only [Act.put, List.setIfInBounds_toArray, List.set_cons_zero, List.set_cons_succ]
    refine wpAnyH_ready (rs := [1]) (by kernel_rfl) (by simp) ?_
    refine AllReadyH.cons rfl (fun K hK => ?_) AllReadyH.nil
    go_simp
    refine (HTX.out V6.drew).mono ?_
    rintro e X1 ⟨rfl, hbX1⟩
    refine hK.out _ _ ((HS.out X1 (Ha_0.out.trans (hbX1.mono Ha_0.out.size))).1) (fun hHeld => ?_)
    clear hK K
    try simp only [Act.put, List.setIfInBounds_toArray, List.set_cons_zero, List.set_cons_succ]
    have HX1 : Hid (Below V6.heap.size V6 X1) := (Ha_0.out.trans (hbX1.mono Ha_0.out.size))
    clear hbX1
    refine wpAnyH_ready (rs := [3]) (by kernel_rfl) (by simp) ?_
    refine AllReadyH.cons rfl (fun K hK => ?_) AllReadyH.nil
    go_simp
    refine (HSA.out X1 HX1.out).mono ?_
    rintro e X2 ⟨rfl, hbX2⟩
    refine hK.out _ _ ((HS.out X2 (HX1.out.trans (hbX2.mono HX1.out.size))).1) (fun hHeld => ?_)
    clear hK K
    try simp only [Act.put, List.setIfInBounds_toArray, List.set_cons_zero, List.set_cons_succ]
    have HX2 : Hid (Below V6.heap.size V6 X2) := (HX1.out.trans (hbX2.mono HX1.out.size))
    clear hbX2
    refine wpAnyH_take (i := 4) (v := ?va_4) rfl (by kernel_rfl) (by kernel_rfl) (by kernel_rfl) (fun _ _ _ h => h) (Or.inl ⟨by first | kernel_rfl | rfl, ?ya_4⟩) hHeld ?ra_4
    case ya_4 => (intro W hSW; (try dsimp only at hSW); go_simp; (try with_reducible rfl))
    change wpAnyH _ _ _ _ _ _ _ (Act.put _ (some 39) _) _
    simp only [Act.put, List.setIfInBounds_toArray, List.set_cons_zero, List.set_cons_succ]
    refine wpAnyH_take (i := 5) (v := ?va_5) rfl (by kernel_rfl) (by kernel_rfl) (by kernel_rfl) (fun _ _ _ h => h) (Or.inl ⟨by first | kernel_rfl | rfl, ?ya_5⟩) hHeld ?ra_5
    case ya_5 => (intro W hSW; (try dsimp only at hSW); go_simp; (try with_reducible rfl))
    change wpAnyH _ _ _ _ _ _ _ (Act.put _ (some 40) _) _
    simp only [Act.put, List.setIfInBounds_toArray, List.set_cons_zero, List.set_cons_succ]
    refine wpAnyH_take (i := 6) (v := ?va_6) rfl (by kernel_rfl) (by kernel_rfl) (by kernel_rfl) (fun _ _ _ h => h) (Or.inl ⟨by first | kernel_rfl | rfl, ?ya_6⟩) hHeld ?ra_6
    case ya_6 => (intro W hSW; (try dsimp only at hSW); go_simp; (try with_reducible rfl))
    change wpAnyH _ _ _ _ _ _ _ (Act.put _ (some 41) _) _
    simp only [Act.put, List.setIfInBounds_toArray, List.set_cons_zero, List.set_cons_succ]
    refine wpAnyH_take (i := 7) (v := ?va_7) rfl (by kernel_rfl) (by kernel_rfl) (by kernel_rfl) (fun _ _ _ h => h) (Or.inl ⟨by first | kernel_rfl | rfl, ?ya_7⟩) hHeld ?ra_7
    case ya_7 => (intro W hSW; (try dsimp only at hSW); go_simp; (try with_reducible rfl))
    change wpAnyH _ _ _ _ _ _ _ (Act.put _ (some 42) _) _
    simp only [Act.put, List.setIfInBounds_toArray, List.set_cons_zero, List.set_cons_succ]
    refine wpAnyH_take (i := 8) (v := ?va_8) rfl (by kernel_rfl) (by kernel_rfl) (by kernel_rfl) (fun _ _ _ h => h) (Or.inl ⟨by first | kernel_rfl | rfl, ?ya_8⟩) hHeld ?ra_8
    case ya_8 => (intro W hSW; (try dsimp only at hSW); go_simp; (try with_reducible rfl))
    change wpAnyH _ _ _ _ _ _ _ (Act.put _ (some 43) _) _
    simp only [Act.put, List.setIfInBounds_toArray, List.set_cons_zero, List.set_cons_succ]
    refine wpAnyH_take (i := 9) (v := ?va_9) rfl (by kernel_rfl) (by kernel_rfl) (by kernel_rfl) (fun _ _ _ h => h) (Or.inl ⟨by first | kernel_rfl | rfl, ?ya_9⟩) hHeld ?ra_9
    case ya_9 => (intro W hSW; (try dsimp only at hSW); go_simp; (try with_reducible rfl))
    change wpAnyH _ _ _ _ _ _ _ (Act.put _ (some 44) _) _
    simp only [Act.put, List.setIfInBounds_toArray, List.set_cons_zero, List.set_cons_succ]
    refine wpAnyH_done (by kernel_rfl) ?_ _
    have HBX : Hid (∀ W, Below X2.heap.size X2 W → Below V6.heap.size V6 W ∧ Below V1.heap.size V1 W) := fun W hW => by
      have h9 := HX2.out.trans (hW.mono HX2.out.size)
      exact ⟨h9, H6.out.1.trans (h9.mono H6.out.1.size)⟩
    go_upto_if 46 with fail
    go_cut [] from 15 (fun wx => Below X2.heap.size X2 wx)
    case first =>
      obtain ⟨⟨⟨g0, g1, g2⟩, _⟩, hw2⟩ := HS.out X2 HX2.out
      by_cases h0 : r2 = 0
      · obtain ⟨hma, heb⟩ := HOK.out h0
        have b0 : ((r2 : Int) == 0) = true := by simp [h0]
        have hmi := mayA_iff.1 hma
        simp only at hmi
        obtain ⟨mn, hmn⟩ : ∃ m : Nat, m1 = (m : Int) := ⟨m1.toNat, by omega⟩
        have HE8 : Calls Tryd.prog 29 #[.agg #[.string k1, .int .i64 m1, .slice xa xn xc]] X2 fun e w' => ∃ (a : Option Addr) (n c : Nat), e = .returned (.tuple #[.slice a n c, .int .i64 0]) ∧ Bs w' a n c b1 ∧ Below X2.heap.size X2 w' := by
          have h9 := aenc_ok k1 mn (H6.out.2.below HX2.out) (by rw [← hmn]; exact hma)
          rw [← hmn, heb] at h9
          exact h9
        clear hma heb hmi hmn h0
        go_wp2_with fail
        refine HE8.mono ?_
        rintro e X3 ⟨ba, bn, bc, rfl, hbb, hb3⟩
        have hcb : (convert 45 9 (.slice ba bn bc)).run Tryd.prog X3 = .ok (.string S) X3 := by rw [← HSS.out]; exact hbb.conv
        have hcr := HCV1.out X3 (hw2.trans (hb3.mono hw2.size))
        have hss : (S.toList == S.toList) = true := by simp
        have HE : Hid (Below X2.heap.size X2 X3) := hb3
        clear HE8 hbb hb3 hw2
        go_wp2_with fail
        go_meet
        case rel => exact HE.out
      · have b0 : ((r2 : Int) == 0) = false := by simp [h0]
        have k0 : ¬ (r2 : Int) = 0 := by omega
        have HE : Hid (Below X2.heap.size X2 X2) := Below.refl _ _
        clear h0 hw2
        go_wp2_with fail
        go_meet
        case rel => exact HE.out
    case rest =>
    have hBc : Below V1.heap.size V1 wc := (HBX.out wc hcut).2
    have HBC : Hid (Below V1.heap.size V1 wc) := hBc
    have hkc := HKK.out wc hBc
    obtain ⟨y0, y1, y2, _⟩ := row3 hkc.1
    have HMc := HMI.out wc hkc.2
    clear hcut hBc hkc
    go_wp2_with fail
    refine HMc.mono ?_
    rintro e VA ⟨ma, mc, rfl, hown, hbA⟩
    have hBA : Below V1.heap.size V1 VA := HBC.out.trans (hbA.mono HBC.out.size)
    have HA : Hid (Below V1.heap.size V1 VA ∧ Ew VA ma len0 mc l0) := ⟨hBA, Ew.own hown⟩
    clear HMc hown hbA hBA y0 y1 y2
    cases my with
    | false =>
      have HEN := aenc_no s0 n0 HA.out.2 HMY.out
      go_wp2_with fail
      refine HEN.mono ?_
      rintro e VB ⟨rfl, hbB⟩
      have hBB : Below V1.heap.size V1 VB := HA.out.1.trans (hbB.mono HA.out.1.size)
      obtain ⟨y0, y1, y2, _⟩ := row3 (HKK.out VB hBB).1
      have HMB := HRM.out VB (HKK.out VB hBB).2
      have HBB : Hid (Below w.heap.size w VB) := (HKK.out VB hBB).2
      clear HEN hbB hBB
      go_wp2_with fail
      refine HMB.mono ?_
      rintro e VC ⟨rfl, hbC⟩
      have HB : Hid (Below w.heap.size w VC) := HBB.out.trans (hbC.mono HBB.out.size)
      clear HMB hbC y0 y1 y2
      have HLX := HLV.out VC HB.out
      go_wp2_with fail
      refine HLX.mono ?_
      rintro e VZ ⟨rfl, hbZ⟩
      have HZ : Hid (Below w.heap.size w VZ) := HB.out.trans (hbZ.mono HB.out.size)
      clear HLX hbZ
      go_wp2
      go_ret
      exact ⟨rfl, HZ.out⟩
    | true =>
      have hmi := mayA_iff.1 HMY.out
      simp only at hmi
      obtain ⟨nn, hnn⟩ : ∃ m : Nat, n0 = (m : Int) := ⟨n0.toNat, by omega⟩
      obtain ⟨en, hen⟩ : ∃ en, encA ⟨s0, n0, l0⟩ = en := ⟨_, rfl⟩
      obtain ⟨E, hE⟩ : ∃ E, strOf en = E := ⟨_, rfl⟩
      have hel : en.length ≤ 1000 := by rw [← hen]; exact encA_len HMY.out
      have HEN : Calls Tryd.prog 29 #[.agg #[.string s0, .int .i64 n0, .slice ma len0 mc]] VA fun e w' => EnTo VA en e w' := by
        have h9 := aenc_ok s0 nn HA.out.2 (by rw [← hnn]; exact HMY.out)
        rw [← hnn, hen] at h9
        exact h9
      have HRE : Hid (∀ W, Below w.heap.size w W → Calls Tryd.prog 30 #[.agg #[.string s0, .int .i64 n0, .slice a0 len0 cap0]] W fun e w' => e = .returned (.string E) ∧ Below W.heap.size W w') := fun W hW => by
        have h9 := renc_any s0 nn (HW0.out W hW) (by rw [← hnn]; exact HMY.out)
        rw [← hnn, hen] at h9
        unfold StTo at h9
        rw [hE] at h9
        exact h9
      have HDV : Hid (decV KP63 en = (⟨s0, n0, l0⟩, 0)) := by
        show _ = _
        rw [← hen] at hel ⊢
        exact decV_some (by omega) (decA_back (K := KP63) (by decide) HMY.out)
      have HEE : Hid (strOf en = E ∧ en.length ≤ 1000) := ⟨hE, hel⟩
      clear hmi hnn hen hE hel
      go_wp2_with fail
      refine HEN.mono ?_
      rintro e VB ⟨ba, bn, bc, rfl, hbb, hbB⟩
      have hBB : Below V1.heap.size V1 VB := HA.out.1.trans (hbB.mono HA.out.1.size)
      obtain ⟨y0, y1, y2, _⟩ := row3 (HKK.out VB hBB).1
      have HMB := HRM.out VB (HKK.out VB hBB).2
      have HBB : Hid (Below V1.heap.size V1 VB ∧ Bs VB ba bn bc en) := ⟨hBB, hbb⟩
      clear HEN hbB hBB hbb
      go_wp2_with fail
      refine HMB.mono ?_
      rintro e VC ⟨rfl, hbC⟩
      have hBC : Below V1.heap.size V1 VC := HBB.out.1.trans (hbC.mono HBB.out.1.size)
      have hbc := HBB.out.2.below hbC
      have HD := adec_any hbc
      rw [HDV.out] at HD
      unfold AuTo at HD
      simp only at HD
      have HCC : Hid (Below V1.heap.size V1 VC ∧ Bs VC ba bn bc en) := ⟨hBC, hbc⟩
      clear HMB hbC y0 y1 y2 hBC hbc
      go_wp2_with fail
      refine HD.mono ?_
      rintro e VD ⟨za, zn, zc, rfl, hnz, hbD⟩
      obtain ⟨zb, hzb⟩ : ∃ x, VD.heap.size = x := ⟨_, rfl⟩
      obtain ⟨UD, hUD⟩ : ∃ x, VD.alloc (.cells #[.string ⟨#[]⟩, .int .i64 0, .slice none 0 0] 27) = x := ⟨_, rfl⟩
      have rUD : UD.heap[zb]? = some (.cells #[.string ⟨#[]⟩, .int .i64 0, .slice none 0 0] 27 (0, 0)) := by rw [← hUD, ← hzb]; exact heap_alloc_new _ _
      have bUD : Below VD.heap.size VD UD := by rw [← hUD]; exact (Below.refl _ _).alloc (Nat.le_refl _) _
      obtain ⟨zb0, zb1, zb2, zbz⟩ := row3 rUD
      have zbf0 := zbz 0
      have zbf1 := zbz 1
      have zbf2 := zbz 2
      obtain ⟨VF, hVF⟩ : ∃ x, ((UD.setCell ⟨zb, 0, none⟩ (.string s0)).setCell ⟨zb, 1, none⟩ (.int .i64 n0)).setCell ⟨zb, 2, none⟩ (.slice za zn zc) = x := ⟨_, rfl⟩
      have rVF : VF.heap[zb]? = some (.cells #[.string s0, .int .i64 n0, .slice za zn zc] 27 (0, 0)) := by rw [← hVF]; exact set3 rUD _ _ _
      have bVF : Below VD.heap.size VD VF := by rw [← hVF]; exact below3s bUD (Nat.le_of_eq hzb) _ _ _
      clear rUD bUD zbz
      have hBF : Below VC.heap.size VC VF := hbD.trans (bVF.mono hbD.size)
      have hBV : Below V1.heap.size V1 VF := HCC.out.1.trans (hBF.mono HCC.out.1.size)
      have hbF := HCC.out.2.below hBF
      have hez := (hnz.below bVF).ew
      have HS2 : Hid (∀ W, Below VF.heap.size VF W → ((W.cell? ⟨pb, 0, none⟩ = some (.string s0) ∧ W.cell? ⟨pb, 1, none⟩ = some (.int .i64 n0) ∧ W.cell? ⟨pb, 2, none⟩ = some (.slice a0 len0 cap0)) ∧ (W.cell? ⟨zb, 0, none⟩ = some (.string s0) ∧ W.cell? ⟨zb, 1, none⟩ = some (.int .i64 n0) ∧ W.cell? ⟨zb, 2, none⟩ = some (.slice za zn zc)) ∧ (convert 45 9 (.slice ba bn bc)).run Tryd.prog W = .ok (.string E) W) ∧ Below w.heap.size w W) := fun W hW => by
        have h8 := HKK.out W (hBV.trans (hW.mono hBV.size))
        obtain ⟨g0, g1, g2, _⟩ := row3 h8.1
        obtain ⟨f0, f1, f2, _⟩ := row3 ((hW.block zb (lt_of_some rVF)).trans rVF)
        refine ⟨⟨⟨g0, g1, g2⟩, ⟨f0, f1, f2⟩, ?_⟩, h8.2⟩
        rw [← HEE.out.1]
        exact (hbF.below hW).conv
      have HTZ : Hid (∀ W, Calls Tryd.prog 13 #[.agg #[.string s0, .int .i64 n0, .slice za zn zc]] W fun e w' => e = .returned (.agg #[.string s0, .int .i64 n0, .slice za zn zc]) ∧ Below W.heap.size W w') := fun W => theirs_any s0 n0 za zn zc
      have HSZ2 : Hid (∀ W, Below VF.heap.size VF W → Calls Tryd.prog 12 #[.agg #[.string s0, .int .i64 n0, .slice za zn zc], .agg #[.string s0, .int .i64 n0, .slice a0 len0 cap0]] W fun e w' => e = .returned (.bool true) ∧ Below W.heap.size W w') := fun W hW => by
        have h9 := same_au s0 n0 s0 n0 (hez.below hW) (HW0.out W (HS2.out W hW).2)
        rw [sameA_self] at h9
        exact h9
      have hEE : (E.toList == E.toList) = true := by simp
      clear HD hnz hbD rVF bVF hBF hBV hbF hez
      go_wp2
      clear zb0 zb1 zb2 zbf0 zbf1 zbf2
      refine wp_region_held_drew (S := fun W => (W.cell? ⟨pb, 0, none⟩ = some (.string s0) ∧ W.cell? ⟨pb, 1, none⟩ = some (.int .i64 n0) ∧ W.cell? ⟨pb, 2, none⟩ = some (.slice a0 len0 cap0)) ∧ (W.cell? ⟨zb, 0, none⟩ = some (.string s0) ∧ W.cell? ⟨zb, 1, none⟩ = some (.int .i64 n0) ∧ W.cell? ⟨zb, 2, none⟩ = some (.slice za zn zc)) ∧ (convert 45 9 (.slice ba bn bc)).run Tryd.prog W = .ok (.string E) W) (by kernel_rfl) ((HS2.out VF.drew (Below.refl _ VF).drew).1) (fun hHeld => ?_)
      have Hb_0 : Hid (Below VF.heap.size VF VF.drew) := (Below.refl _ VF).drew
      refine wpAnyH_take (i := 0) (v := ?vb_0) rfl (by kernel_rfl) (by kernel_rfl) (by kernel_rfl) (fun _ _ _ h => h) (Or.inl ⟨by first | kernel_rfl | rfl, ?yb_0⟩) hHeld ?rb_0
      case yb_0 => (intro W hSW; (try dsimp only at hSW); go_simp; (try with_reducible rfl))
      change wpAnyH _ _ _ _ _ _ _ (Act.put _ (some 85) _) _
      simp only [Act.put, List.setIfInBounds_toArray, List.set_cons_zero, List.set_cons_succ]
      refine wpAnyH_take (i := 1) (v := ?vb_1) rfl (by kernel_rfl) (by kernel_rfl) (by kernel_rfl) (fun _ _ _ h => h) (Or.inl ⟨by first | kernel_rfl | rfl, ?yb_1⟩) hHeld ?rb_1
      case yb_1 => (intro W hSW; (try dsimp only at hSW); go_simp; (try with_reducible rfl))
      change wpAnyH _ _ _ _ _ _ _ (Act.put _ (some 86) _) _
      simp only [Act.put, List.setIfInBounds_toArray, List.set_cons_zero, List.set_cons_succ]
      refine wpAnyH_take (i := 2) (v := ?vb_2) rfl (by kernel_rfl) (by kernel_rfl) (by kernel_rfl) (fun _ _ _ h => h) (Or.inl ⟨by first | kernel_rfl | rfl, ?yb_2⟩) hHeld ?rb_2
      case yb_2 => (intro W hSW; (try dsimp only at hSW); go_simp; (try with_reducible rfl))
      change wpAnyH _ _ _ _ _ _ _ (Act.put _ (some 87) _) _
      simp only [Act.put, List.setIfInBounds_toArray, List.set_cons_zero, List.set_cons_succ]
      refine wpAnyH_take (i := 3) (v := ?vb_3) rfl (by kernel_rfl) (by kernel_rfl) (by kernel_rfl) (fun _ _ _ h => h) (Or.inl ⟨by first | kernel_rfl | rfl, ?yb_3⟩) hHeld ?rb_3
      case yb_3 => (intro W hSW; (try dsimp only at hSW); go_simp; (try with_reducible rfl))
      change wpAnyH _ _ _ _ _ _ _ (Act.put _ (some 88) _) _
      simp only [Act.put, List.setIfInBounds_toArray, List.set_cons_zero, List.set_cons_succ]
      refine wpAnyH_take (i := 4) (v := ?vb_4) rfl (by kernel_rfl) (by kernel_rfl) (by kernel_rfl) (fun _ _ _ h => h) (Or.inl ⟨by first | kernel_rfl | rfl, ?yb_4⟩) hHeld ?rb_4
      case yb_4 => (intro W hSW; (try dsimp only at hSW); go_simp; (try with_reducible rfl))
      change wpAnyH _ _ _ _ _ _ _ (Act.put _ (some 89) _) _
      simp only [Act.put, List.setIfInBounds_toArray, List.set_cons_zero, List.set_cons_succ]
      refine wpAnyH_take (i := 5) (v := ?vb_5) rfl (by kernel_rfl) (by kernel_rfl) (by kernel_rfl) (fun _ _ _ h => h) (Or.inl ⟨by first | kernel_rfl | rfl, ?yb_5⟩) hHeld ?rb_5
      case yb_5 => (intro W hSW; (try dsimp only at hSW); go_simp; (try with_reducible rfl))
      change wpAnyH _ _ _ _ _ _ _ (Act.put _ (some 90) _) _
      simp only [Act.put, List.setIfInBounds_toArray, List.set_cons_zero, List.set_cons_succ]
      refine wpAnyH_ready (rs := [6]) (by kernel_rfl) (by simp) ?_
      refine AllReadyH.cons rfl (fun K hK => ?_) AllReadyH.nil
      go_simp
      refine (HRE.out VF.drew (HS2.out VF.drew Hb_0.out).2).mono ?_
      rintro e Y1 ⟨rfl, hbY1⟩
      refine hK.out _ _ ((HS2.out Y1 (Hb_0.out.trans (hbY1.mono Hb_0.out.size))).1) (fun hHeld => ?_)
      clear hK K
      try simp only [Act.put, List.setIfInBounds_toArray, List.set_cons_zero, List.set_cons_succ]
      have HY1 : Hid (Below VF.heap.size VF Y1) := (Hb_0.out.trans (hbY1.mono Hb_0.out.size))
      clear hbY1
      refine wpAnyH_take (i := 7) (v := ?vb_7) rfl (by kernel_rfl) (by kernel_rfl) (by kernel_rfl) (fun _ _ _ h => h) (Or.inl ⟨by first | kernel_rfl | rfl, ?yb_7⟩) hHeld ?rb_7
      case yb_7 => (intro W hSW; (try dsimp only at hSW); go_simp; (try with_reducible rfl))
      change wpAnyH _ _ _ _ _ _ _ (Act.put _ (some 92) _) _
      simp only [Act.put, List.setIfInBounds_toArray, List.set_cons_zero, List.set_cons_succ]
      refine wpAnyH_take (i := 8) (v := ?vb_8) rfl (by kernel_rfl) (by kernel_rfl) (by kernel_rfl) (fun _ _ _ h => h) (Or.inl ⟨by first | kernel_rfl | rfl, ?yb_8⟩) hHeld ?rb_8
      case yb_8 => (intro W hSW; (try dsimp only at hSW); go_simp; (try with_reducible rfl))
      change wpAnyH _ _ _ _ _ _ _ (Act.put _ (some 93) _) _
      simp only [Act.put, List.setIfInBounds_toArray, List.set_cons_zero, List.set_cons_succ]
      refine wpAnyH_take (i := 9) (v := ?vb_9) rfl (by kernel_rfl) (by kernel_rfl) (by kernel_rfl) (fun _ _ _ h => h) (Or.inl ⟨by first | kernel_rfl | rfl, ?yb_9⟩) hHeld ?rb_9
      case yb_9 => (intro W hSW; (try dsimp only at hSW); go_simp; (try with_reducible rfl))
      change wpAnyH _ _ _ _ _ _ _ (Act.put _ (some 94) _) _
      simp only [Act.put, List.setIfInBounds_toArray, List.set_cons_zero, List.set_cons_succ]
      refine wpAnyH_take (i := 10) (v := ?vb_10) rfl (by kernel_rfl) (by kernel_rfl) (by kernel_rfl) (fun _ _ _ h => h) (Or.inl ⟨by first | kernel_rfl | rfl, ?yb_10⟩) hHeld ?rb_10
      case yb_10 => (intro W hSW; (try dsimp only at hSW); go_simp; (try with_reducible rfl))
      change wpAnyH _ _ _ _ _ _ _ (Act.put _ (some 95) _) _
      simp only [Act.put, List.setIfInBounds_toArray, List.set_cons_zero, List.set_cons_succ]
      refine wpAnyH_take (i := 11) (v := ?vb_11) rfl (by kernel_rfl) (by kernel_rfl) (by kernel_rfl) (fun _ _ _ h => h) (Or.inl ⟨by first | kernel_rfl | rfl, ?yb_11⟩) hHeld ?rb_11
      case yb_11 => (intro W hSW; (try dsimp only at hSW); go_simp; (try with_reducible rfl))
      change wpAnyH _ _ _ _ _ _ _ (Act.put _ (some 96) _) _
      simp only [Act.put, List.setIfInBounds_toArray, List.set_cons_zero, List.set_cons_succ]
      refine wpAnyH_take (i := 12) (v := ?vb_12) rfl (by kernel_rfl) (by kernel_rfl) (by kernel_rfl) (fun _ _ _ h => h) (Or.inl ⟨by first | kernel_rfl | rfl, ?yb_12⟩) hHeld ?rb_12
      case yb_12 => (intro W hSW; (try dsimp only at hSW); go_simp; (try with_reducible rfl))
      change wpAnyH _ _ _ _ _ _ _ (Act.put _ (some 97) _) _
      simp only [Act.put, List.setIfInBounds_toArray, List.set_cons_zero, List.set_cons_succ]
      refine wpAnyH_take (i := 13) (v := ?vb_13) rfl (by kernel_rfl) (by kernel_rfl) (by kernel_rfl) (fun _ _ _ h => h) (Or.inl ⟨by first | kernel_rfl | rfl, ?yb_13⟩) hHeld ?rb_13
      case yb_13 => (intro W hSW; (try dsimp only at hSW); go_simp; (try with_reducible rfl))
      change wpAnyH _ _ _ _ _ _ _ (Act.put _ (some 98) _) _
      simp only [Act.put, List.setIfInBounds_toArray, List.set_cons_zero, List.set_cons_succ]
      refine wpAnyH_take (i := 14) (v := ?vb_14) rfl (by kernel_rfl) (by kernel_rfl) (by kernel_rfl) (fun _ _ _ h => h) (Or.inl ⟨by first | kernel_rfl | rfl, ?yb_14⟩) hHeld ?rb_14
      case yb_14 => (intro W hSW; (try dsimp only at hSW); go_simp; (try with_reducible rfl))
      change wpAnyH _ _ _ _ _ _ _ (Act.put _ (some 99) _) _
      simp only [Act.put, List.setIfInBounds_toArray, List.set_cons_zero, List.set_cons_succ]
      refine wpAnyH_take (i := 16) (v := ?vb_16) rfl (by kernel_rfl) (by kernel_rfl) (by kernel_rfl) (fun _ _ _ h => h) (Or.inl ⟨by first | kernel_rfl | rfl, ?yb_16⟩) hHeld ?rb_16
      case yb_16 => (intro W hSW; (try dsimp only at hSW); go_simp; (try with_reducible rfl))
      change wpAnyH _ _ _ _ _ _ _ (Act.put _ (some 101) _) _
      simp only [Act.put, List.setIfInBounds_toArray, List.set_cons_zero, List.set_cons_succ]
      refine wpAnyH_ready (rs := [15]) (by kernel_rfl) (by simp) ?_
      refine AllReadyH.cons rfl (fun K hK => ?_) AllReadyH.nil
      go_simp
      refine (HTZ.out Y1).mono ?_
      rintro e Y2 ⟨rfl, hbY2⟩
      refine hK.out _ _ ((HS2.out Y2 (HY1.out.trans (hbY2.mono HY1.out.size))).1) (fun hHeld => ?_)
      clear hK K
      try simp only [Act.put, List.setIfInBounds_toArray, List.set_cons_zero, List.set_cons_succ]
      have HY2 : Hid (Below VF.heap.size VF Y2) := (HY1.out.trans (hbY2.mono HY1.out.size))
      clear hbY2
      refine wpAnyH_ready (rs := [17]) (by kernel_rfl) (by simp) ?_
      refine AllReadyH.cons rfl (fun K hK => ?_) AllReadyH.nil
      go_simp
      refine (HSZ2.out Y2 HY2.out).mono ?_
      rintro e Y3 ⟨rfl, hbY3⟩
      refine hK.out _ _ ((HS2.out Y3 (HY2.out.trans (hbY3.mono HY2.out.size))).1) (fun hHeld => ?_)
      clear hK K
      try simp only [Act.put, List.setIfInBounds_toArray, List.set_cons_zero, List.set_cons_succ]
      have HY3 : Hid (Below VF.heap.size VF Y3) := (HY2.out.trans (hbY3.mono HY2.out.size))
      clear hbY3
      refine wpAnyH_take (i := 18) (v := ?vb_18) rfl (by kernel_rfl) (by kernel_rfl) (by kernel_rfl) (fun _ _ _ h => h) (Or.inl ⟨by first | kernel_rfl | rfl, ?yb_18⟩) hHeld ?rb_18
      case yb_18 => (intro W hSW; (try dsimp only at hSW); go_simp; (try with_reducible rfl))
      change wpAnyH _ _ _ _ _ _ _ (Act.put _ (some 103) _) _
      simp only [Act.put, List.setIfInBounds_toArray, List.set_cons_zero, List.set_cons_succ]
      refine wpAnyH_take (i := 19) (v := ?vb_19) rfl (by kernel_rfl) (by kernel_rfl) (by kernel_rfl) (fun _ _ _ h => h) (Or.inl ⟨by first | kernel_rfl | rfl, ?yb_19⟩) hHeld ?rb_19
      case yb_19 => (intro W hSW; (try dsimp only at hSW); go_simp; (try with_reducible rfl))
      change wpAnyH _ _ _ _ _ _ _ (Act.put _ (some 104) _) _
      simp only [Act.put, List.setIfInBounds_toArray, List.set_cons_zero, List.set_cons_succ]
      refine wpAnyH_ready (rs := [20]) (by kernel_rfl) (by simp) ?_
      refine AllReadyH.cons rfl (fun K hK => ?_) AllReadyH.nil
      go_simp
      refine (HLV.out Y3 (HS2.out Y3 HY3.out).2).mono ?_
      rintro e Y4 ⟨rfl, hbY4⟩
      refine hK.out _ _ ((HS2.out Y4 (HY3.out.trans (hbY4.mono HY3.out.size))).1) (fun hHeld => ?_)
      clear hK K
      try simp only [Act.put, List.setIfInBounds_toArray, List.set_cons_zero, List.set_cons_succ]
      have HY4 : Hid (Below VF.heap.size VF Y4) := (HY3.out.trans (hbY4.mono HY3.out.size))
      clear hbY4
      refine wpAnyH_take (i := 21) (v := ?vb_21) rfl (by kernel_rfl) (by kernel_rfl) (by kernel_rfl) (fun _ _ _ h => h) (Or.inl ⟨by first | kernel_rfl | rfl, ?yb_21⟩) hHeld ?rb_21
      case yb_21 => (intro W hSW; (try dsimp only at hSW); go_simp; (try with_reducible rfl))
      change wpAnyH _ _ _ _ _ _ _ (Act.put _ (some 106) _) _
      simp only [Act.put, List.setIfInBounds_toArray, List.set_cons_zero, List.set_cons_succ]
      refine wpAnyH_take (i := 22) (v := ?vb_22) rfl (by kernel_rfl) (by kernel_rfl) (by kernel_rfl) (fun _ _ _ h => h) (Or.inl ⟨by first | kernel_rfl | rfl, ?yb_22⟩) hHeld ?rb_22
      case yb_22 => (intro W hSW; (try dsimp only at hSW); go_simp; (try with_reducible rfl))
      change wpAnyH _ _ _ _ _ _ _ (Act.put _ (some 4) _) _
      simp only [Act.put, List.setIfInBounds_toArray, List.set_cons_zero, List.set_cons_succ]
      refine wpAnyH_done (by kernel_rfl) ?_ _
      have HZ : Hid (Below w.heap.size w Y4) := (HS2.out Y4 HY4.out).2
      go_wp2
      go_ret
      exact ⟨rfl, HZ.out⟩

set_option linter.unusedVariables false in
set_option maxRecDepth 100000 in
theorem lifted (os : Os) (started : os.Started) (H : Type) (enc : TypeId × Value → H) :
    ReturnsInHanded {} Tryd.checked os 8 .any (fun w args => (Rows.auditCodesSpec.pre enc Tryd.prog Tryd.f8 [] false w args ∧ laidMetH Tryd.prog laid2 w) ∧ sizedMet enc Tryd.prog Tryd.f8 (OpenSpec.ofChange Rows.auditCodesSpec) false w args) (Rows.auditCodesSpec.post enc Tryd.prog Tryd.f8 false true false false) := by
  refine returnsInHanded_of_change_and (C := Tryd.checked) (X := fun w _ => laidMetH Tryd.prog laid2 w) (fun _ _ _ hh h => h.of_heap hh) own started (by kernel_rfl) Tryd.func8
    (ChangeSpec.witness_shaped (enc := enc) (C := Tryd.checked) (os := os) (X := fun w _ => laidMetH Tryd.prog laid2 w) false (World.doorLaid Tryd.prog 19 os) #[.agg #[.string ByteArray.empty, .int .i64 0, .slice none 0 0], .slice none 0 0] 8 rfl (World.shaped_of_RefB (by kernel_rfl) (by kernel_rfl)) (by kernel_rfl) (by kernel_rfl) (by kernel_rfl) (door_met os _)) ?_
  intro W base args ds gs before hval0 hW _ hsz0 hL _
  have hval : ∀ (j : Nat) t v, Tryd.f8.params[j]? = some t → args[j]? = some v → Value.okWide Tryd.prog W .any base t v := hval0
  have hsz : (DataW.weightsEach Tryd.prog (Tryd.f8.params.toList ++ Rows.auditCodesSpec.plain.varTypes Tryd.prog) (ds ++ gs)).all (· ≤ reachBytes) = true := hsz0
  have hW' := hW
  obtain ⟨p, q, hA0, hV, rfl, hfz, hnd⟩ := hW
  have hA : DataW.TrodAll enc Tryd.prog W 0 (fun _ => true) true Tryd.f8.params.toList args.toList ds p := hA0
  rw [Tryd.params8] at hA hval hsz
  obtain ⟨v0, vs0, d0, ds0, p0, q0, hargs, rfl, rfl, h0, r0⟩ := trodAll_cons hA
  obtain ⟨v1, vs1, d1, ds1, p1, q1, rfl, rfl, rfl, h1, r1⟩ := trodAll_cons r0
  obtain ⟨rfl, rfl, rfl⟩ := trodAll_nil r1
  obtain rfl : args = #[v0, v1] := by cases args; simp_all
  obtain ⟨rfl, rfl⟩ := trodVars_none hV
  have k0 := h0
  have lt0 : ∀ x ∈ p0, x.block < W.heap.size := by obtain ⟨m, hm⟩ := k0; exact DataW.trod_lt m _ _ _ hm
  obtain ⟨s0, n0, a0, len0, cap0, l0, rfl, w0, c0, z0, x0⟩ := aud_arg (j := 0) (hval 0 24 v0 rfl rfl) h0 hsz rfl rfl
  have k1 := h1
  have lt1 : ∀ x ∈ p1, x.block < W.heap.size := by obtain ⟨m, hm⟩ := k1; exact DataW.trod_lt m _ _ _ hm
  obtain ⟨a1, len1, cap1, rfl⟩ := okWide_slice Tryd.underlying45 (hval 1 45 v1 rfl rfl)
  obtain ⟨b1, w1, _⟩ : ∃ bs, Bs W a1 len1 cap1 bs ∧ True := by
    obtain ⟨fuel, hf⟩ := h1
    exact bytes_arg (by simpa [Value.cells] using hf)
  clear hA0 hval0 hsz hsz0
  refine (walk s0 n0 a0 len0 cap0 l0 c0 z0 x0 a1 len1 cap1 b1 W w0 w1 (of_laid hL)).mono fun e W' ⟨he, bel⟩ => ?_
  subst he
  exact ⟨_, rfl, _, _, _, [], _, [], hW', trodAll_mk1 (shut_bool Tryd.underlying4 _), (trodAll_cons_mk (Below.trod laidOut (by kernel_rfl) (of_decide_eq_true (by kernel_rfl)) k0 bel lt0) (trodAll_cons_mk (Below.trod laidOut (by kernel_rfl) (of_decide_eq_true (by kernel_rfl)) k1 bel lt1) trodAll_mk0)), rfl, bel.frame _, fun h => by cases h⟩

theorem over : Rows.auditCodesRow.holds Tryd.pinned (OpenSpec.ofChange Rows.auditCodesSpec) :=
  OpenClaim.holds_of_wide 8 Tryd.f8 rfl rfl rfl rfl rfl rfl rfl ⟨rfl, rfl, rfl, rfl, rfl⟩ rfl rfl rfl rfl rfl (by kernel_rfl) Tryd.func8 (by kernel_rfl)
    (of_decide_eq_true (by kernel_rfl)) (by unfold Func.isWrapper; first | (rw [if_pos (by decide +kernel)]; kernel_rfl) | (rw [if_neg (by decide +kernel)]; exact ⟨rfl, rfl⟩))
    (fun os started H enc _ => lifted os started H enc)

end Go.Proofs.YtkhidkilkbmpoaaDoor.auditCodes
namespace Go.Proofs.YtkhidkilkbmpoaaDoor
/-- The given statement. -/
theorem auditCodes_holds : Rows.AuditCodesCardSaid :=
  Claim7.holds_tied_plain_at .later [] [.data, .data] true (true, "c0eea24fd7221e3afb955dddc54761337ed5996520cfcdb0e8757455c9d47393") false
    auditCodes.over (fun _ h => by cases h) (by kernel_rfl) (fun _ h => by cases h) auditCodes_row_tie rfl ⟨rfl, rfl⟩ (by kernel_rfl) rfl
    (fun f fn hf hfn => by
      obtain rfl : f = 8 := Option.some.inj ((show Tryd.prog.funcNamed "strongroom/strongroomlaw13.AuditCodes" = some 8 by kernel_rfl).symm.trans hf) |>.symm
      obtain rfl : fn = Tryd.f8 := (Option.some.inj (Tryd.func8.symm.trans hfn)).symm
      exact ⟨by kernel_rfl, fun j t ht => by
        rw [Tryd.params8] at ht
        rcases j with _ | _ | j
        · obtain rfl : t = 24 := by simpa using ht.symm
          exact (show Tryd.prog.wantsStandIn 24 = false by kernel_rfl)
        · obtain rfl : t = 45 := by simpa using ht.symm
          exact (show Tryd.prog.wantsStandIn 45 = false by kernel_rfl)
        · simp at ht
      ⟩)
    (by kernel_rfl)
#print axioms auditCodes_holds
end Go.Proofs.YtkhidkilkbmpoaaDoor
