/- Proved: for every token, all bytes and every place the law CapCodes returns true, what was handed in as it was (the bytes of any token, and the token at any place of any bytes, are the document's; there and back, whatever stands ahead and behind); where the package's two tables begin as the program's text lays them. -/
import Derived.Test.YtcmdcmbiilfngabDoorLF
import Derived.Test.YtcmdcmbiilfngabDoorCards
import Derived.Test.YtcmdcmbiilfngabDoorTie
import Derived.WalkKit
import Derived.ProofKit
import Derived.OpenShut
import Derived.ShutString
import Derived.ChangeOld
import Derived.Below
import Derived.LaidMore
import Derived.Stop.Joined
import Derived.SevenTiedAt
namespace Go.Proofs.YtcmdcmbiilfngabDoor.capCodes
open Go.ChangeShapes Go.WideShapes Go.ChangeAt Go.WideMaps Go.WideElems Go.RowKit
open Go.ChangeMaps (open_string shut_string)

set_option maxRecDepth 100000 in
set_option maxHeartbeats 2000000 in
theorem walk (t0 n0 : Int) (a0 : Option Addr) (len0 cap0 : Nat) (s0 : ByteArray) (l0 : List Cv) (c0 : ∀ c ∈ l0, c.In) (z0 : s0.size ≤ 140737488351232) (_y0 : -9223372036854775808 ≤ t0 ∧ t0 ≤ 9223372036854775807) (_x0 : -9223372036854775808 ≤ n0 ∧ n0 ≤ 9223372036854775807) (a1 : Option Addr) (len1 cap1 : Nat) (b1 : List UInt8) (x2 : Int) (z2 : -9223372036854775808 ≤ x2 ∧ x2 ≤ 9223372036854775807) (w : World) (w0 : Kw w a0 len0 cap0 l0) (w1 : Bs w a1 len1 cap1 b1) (hL : Laid w) :
    Calls Tryd.prog 3 #[.agg #[.int .i64 t0, .int .i64 n0, .slice a0 len0 cap0, .string s0], .slice a1 len1 cap1, .int .i64 x2] w fun e w' => e = .returned (.bool true) ∧ Below w.heap.size w w' := by
  have HLV : Hid (∀ V, Below w.heap.size w V → Calls Tryd.prog 5 #[] V fun e w' => e = .returned (.bool true) ∧ Below w.heap.size w w') := fun V hV => (lives_any V (hL.below hV)).mono fun e w' h => ⟨h.1, hV.trans (h.2.mono hV.size)⟩
  have HLV2 : Hid (∀ V, Below w.heap.size w V → Calls Tryd.prog 5 #[] V fun e w' => e = .returned (.bool true) ∧ Below V.heap.size V w') := fun V hV => lives_any V (hL.below hV)
  obtain ⟨pb, hpb⟩ : ∃ pb, w.heap.size = pb := ⟨_, rfl⟩
  obtain ⟨V1, hV1, r1', hb1⟩ := box_tk (w := w) t0 n0 a0 len0 cap0 s0
  rw [hpb] at r1'
  have HK : Hid (∀ W, Below V1.heap.size V1 W → (W.cell? ⟨pb, 0, none⟩ = some (.int .i64 t0) ∧ W.cell? ⟨pb, 1, none⟩ = some (.int .i64 n0) ∧ W.cell? ⟨pb, 2, none⟩ = some (.slice a0 len0 cap0) ∧ W.cell? ⟨pb, 3, none⟩ = some (.string s0)) ∧ Below w.heap.size w W) := fun W hW => by
    obtain ⟨e0, e1, e2, e3, _⟩ := row4 ((hW.block pb (lt_of_some r1')).trans r1')
    exact ⟨⟨e0, e1, e2, e3⟩, hb1.trans (hW.mono hb1.size)⟩
  obtain ⟨⟨y0', y1', y2, y3⟩, _⟩ := HK.out V1 (Below.refl _ _)
  have hcp : ∀ c ∈ l0, c.path.size ≤ 140737488351232 := fun c hc => (c0 c hc).2.2
  have hcq : ∀ c ∈ l0, c.path.size ≤ 9223372036854775807 := fun c hc => by have := hcp c hc; omega
  have HSM := small_tk t0 n0 s0 (w0.below hb1) z0 hcp
  unfold YeTo at HSM
  have hbl := w1.1
  have hlm : len1 ≤ 9223372036854775807 := Nat.le_trans w1.2.1 w1.2.2.1
  cases hsm : smallT l0 s0 with
  | false =>
    rw [hsm] at HSM
    clear hsm hL w0 w1 c0 hcp hcq r1' hb1 hbl
    go_enter Tryd.func3, Tryd.ntmps3
    go_wp2_with fail
    refine HSM.mono ?_
    rintro e V2 ⟨rfl, hb2⟩
    have H2 : Hid (Below V1.heap.size V1 V2) := hb2
    clear HSM hb2 y0' y1' y2 y3
    have HB : Hid (Below w.heap.size w V2) := (HK.out V2 H2.out).2
    go_wp2_with fail
    refine (HLV.out _ (HB.out)).mono ?_
    rintro e VZ ⟨rfl, hbZ⟩
    go_wp2
    go_ret
    exact ⟨rfl, hbZ⟩
  | true =>
    rw [hsm] at HSM
    by_cases h1 : 5000 < len1
    · have k1 : (5000 : Int) < (len1 : Int) := by omega
      clear hsm hL w0 w1 c0 hcp hcq r1' hb1 hbl
      go_enter Tryd.func3, Tryd.ntmps3
      go_wp2_with fail
      refine HSM.mono ?_
      rintro e V2 ⟨rfl, hb2⟩
      have H2 : Hid (Below V1.heap.size V1 V2) := hb2
      clear HSM hb2 y0' y1' y2 y3
      have HB : Hid (Below w.heap.size w V2) := (HK.out V2 H2.out).2
      go_wp2_with fail
      refine (HLV.out _ (HB.out)).mono ?_
      rintro e VZ ⟨rfl, hbZ⟩
      go_wp2
      go_ret
      exact ⟨rfl, hbZ⟩
    · have k1 : ¬ (5000 : Int) < (len1 : Int) := by omega
      obtain ⟨S, hS⟩ : ∃ S : ByteArray, (⟨b1.toArray⟩ : ByteArray) = S := ⟨_, rfl⟩
      have hSl : S.data.toList = b1 := by rw [← hS]
      have HCV1 : Hid (∀ W, Below w.heap.size w W → (convert 25 9 (.slice a1 len1 cap1)).run Tryd.prog W = .ok (.string S) W) := fun W hW => by
        have := (w1.below hW).conv
        rwa [hS] at this
      have hip : inP b1 x2 := ⟨z2.1, z2.2, by omega⟩
      obtain ⟨⟨⟨r1, r2, r3, r4⟩, rk, re⟩, hdv⟩ : ∃ r, deV (decAt KP63 b1 x2) = r := ⟨_, rfl⟩
      have hnr : decAt KD62 b1 x2 = decAt KP63 b1 x2 := dec_near (by decide) (by decide) b1 x2
      have HDC : Hid (∀ W, Below w.heap.size w W → Calls Tryd.prog 6 #[.slice a1 len1 cap1, .int .i64 x2] W fun e w' => DvTo W (⟨r1, r2, r3, r4⟩, rk, re) e w') := fun W hW => (cdec_any (w1.below hW) x2 hip).mono fun e w' h => by have h9 := h.dv; rw [hdv] at h9; exact h9
      have HRD : Hid (∀ W, Calls Tryd.prog 7 #[.string S, .int .i64 x2] W fun e w' => DvTo W (⟨r1, r2, r3, r4⟩, rk, re) e w') := fun W => (rdec_any S b1 hSl x2 hip W).mono fun e w' h => by have h9 := h.dv; rw [hnr, hdv] at h9; exact h9
      have HW1 : Hid (∀ W, Below w.heap.size w W → Bs W a1 len1 cap1 b1) := fun W hW => w1.below hW
      have HW0 : Hid (∀ W, Below w.heap.size w W → Kw W a0 len0 cap0 l0) := fun W hW => w0.below hW
      have HCQ : Hid (∀ c ∈ l0, c.path.size ≤ 9223372036854775807) := hcq
      have HBL : Hid (b1.length = len1) := hbl
      obtain ⟨my, hmy⟩ : ∃ my, mayT ⟨t0, n0, l0, s0⟩ = my := ⟨_, rfl⟩
      have HMY : Hid (∀ W, Below w.heap.size w W → Calls Tryd.prog 10 #[.agg #[.int .i64 t0, .int .i64 n0, .slice a0 len0 cap0, .string s0]] W fun e w' => e = .returned (.bool my) ∧ Below W.heap.size W w') := fun W hW => by rw [← hmy]; exact rmay_any t0 n0 s0 (w0.below hW) hcq
      have HMM : Hid (mayT ⟨t0, n0, l0, s0⟩ = my) := hmy
      have hkk : (rk != rk) = false := by simp
      have hee : ((re : Int) != (re : Int)) = false := by simp
      clear hsm hL w0 w1 c0 hcp hcq r1' hb1 hbl hS hSl hip hdv hnr hmy
      go_enter Tryd.func3, Tryd.ntmps3
      go_wp2_with fail
      refine HSM.mono ?_
      rintro e V2 ⟨rfl, hb2⟩
      have H2 : Hid (Below V1.heap.size V1 V2) := hb2
      clear HSM hb2 y0' y1' y2 y3
      have hw2 := (HK.out V2 H2.out).2
      have HD2 := HDC.out V2 hw2
      clear hw2
      go_wp2_with fail
      refine HD2.mono ?_
      rintro e V3 ⟨xa, xn, xc, rfl, hkx, hb3⟩
      simp only at hkx ⊢
      obtain ⟨V4, hV4, r4', hb4⟩ := box_tk (w := V3) r1 r2 xa xn xc r4
      obtain ⟨xb, hxb⟩ : ∃ xb, V3.heap.size = xb := ⟨_, rfl⟩
      rw [hxb] at r4'
      have hB4 : Below V1.heap.size V1 V4 := (H2.out.trans (hb3.mono H2.out.size)).trans (hb4.mono (Nat.le_trans H2.out.size hb3.size))
      have hcv4 := HCV1.out V4 (HK.out V4 hB4).2
      have HR4 := HRD.out V4
      have H4 : Hid (Below V1.heap.size V1 V4 ∧ V4.heap[xb]? = some (.cells #[.int .i64 r1, .int .i64 r2, .slice xa xn xc, .string r4] 24 (0, 0)) ∧ Kw V4 xa xn xc r3) := ⟨hB4, r4', hkx.below hb4⟩
      clear HD2 hkx hb3 r4' hb4 hB4
      go_wp2_with fail
      refine HR4.mono ?_
      rintro e V5 ⟨ya, yn, yc, rfl, hky, hb5⟩
      simp only at hky ⊢
      obtain ⟨V6, hV6, r6', hb6⟩ := box_tk (w := V5) r1 r2 ya yn yc r4
      obtain ⟨yb, hyb⟩ : ∃ yb, V5.heap.size = yb := ⟨_, rfl⟩
      rw [hyb] at r6'
      have hb46 : Below V4.heap.size V4 V6 := hb5.trans (hb6.mono hb5.size)
      have hB6 : Below V1.heap.size V1 V6 := H4.out.1.trans (hb46.mono H4.out.1.size)
      obtain ⟨q0, q1, q2, q3, _⟩ := row4 ((hb46.block xb (lt_of_some H4.out.2.1)).trans H4.out.2.1)
      obtain ⟨v0, v1, v2, v3, _⟩ := row4 r6'
      have HSA := same_tk r1 r2 r4 r1 r2 r4 (H4.out.2.2.below hb46) (hky.below hb6)
      rw [sameT_self] at HSA
      unfold YeTo at HSA
      have H6 : Hid (Below V1.heap.size V1 V6) := hB6
      clear HR4 hcv4 hky hb5 r6' hb6 hb46 hB6
      go_wp2_with fail
      refine HSA.mono ?_
      rintro e V7 ⟨rfl, hb7⟩
      have hB7 : Below V1.heap.size V1 V7 := H6.out.trans (hb7.mono H6.out.size)
      obtain ⟨⟨y0', y1', y2, y3⟩, hw7⟩ := HK.out V7 hB7
      have H7 : Hid (Below V1.heap.size V1 V7) := hB7
      clear HSA hb7 hB7 q0 q1 q2 q3 v0 v1 v2 v3
      cases my with
      | false =>
        have HEN := cenc_no t0 n0 s0 (HW0.out V7 hw7) HCQ.out HMM.out
        clear hw7
        go_wp2_with fail
        refine HEN.mono ?_
        rintro e V8 ⟨rfl, hb8⟩
        have hB8 : Below V1.heap.size V1 V8 := H7.out.trans (hb8.mono H7.out.size)
        clear HEN hb8 y0' y1' y2 y3
        obtain ⟨⟨y0', y1', y2, y3⟩, hw8⟩ := HK.out V8 hB8
        have HM8 := HMY.out V8 hw8
        have H8 : Hid (Below w.heap.size w V8) := hw8
        clear hB8 hw8
        go_wp2_with fail
        refine HM8.mono ?_
        rintro e V9 ⟨rfl, hb9⟩
        have HB : Hid (Below w.heap.size w V9) := H8.out.trans (hb9.mono H8.out.size)
        clear HM8 hb9 y0' y1' y2 y3
        go_wp2_with fail
        refine (HLV.out _ (HB.out)).mono ?_
        rintro e VZ ⟨rfl, hbZ⟩
        go_wp2
        go_ret
        exact ⟨rfl, hbZ⟩
      | true =>
        have hmi := may_iff.1 HMM.out
        have hki := known_iff.1 hmi.1
        simp only at hmi hki
        have HEN : Calls Tryd.prog 9 #[.agg #[.int .i64 t0, .int .i64 n0, .slice a0 len0 cap0, .string s0]] V7 fun e w' => EnTo V7 (encT ⟨t0, n0, l0, s0⟩) e w' := by
          obtain ⟨tn, rfl⟩ : ∃ m : Nat, t0 = (m : Int) := ⟨t0.toNat, by omega⟩
          obtain ⟨nn, rfl⟩ : ∃ m : Nat, n0 = (m : Int) := ⟨n0.toNat, by omega⟩
          exact cenc_ok tn nn s0 (HW0.out V7 hw7) HMM.out
        obtain ⟨en, hen⟩ : ∃ en, encT ⟨t0, n0, l0, s0⟩ = en := ⟨_, rfl⟩
        obtain ⟨E, hE⟩ : ∃ E, strOf en = E := ⟨_, rfl⟩
        have HRE : Hid (∀ W, Below w.heap.size w W → Calls Tryd.prog 11 #[.agg #[.int .i64 t0, .int .i64 n0, .slice a0 len0 cap0, .string s0]] W fun e w' => e = .returned (.string E) ∧ Below W.heap.size W w') := fun W hW => by
          have hmm := HMM.out
          rw [← hE, ← hen]
          obtain ⟨tn, rfl⟩ : ∃ m : Nat, t0 = (m : Int) := ⟨t0.toNat, by omega⟩
          obtain ⟨nn, rfl⟩ : ∃ m : Nat, n0 = (m : Int) := ⟨n0.toNat, by omega⟩
          exact renc_any tn nn s0 (HW0.out W hW) hmm
        have hel : en.length ≤ 1000 := by
          rw [← hen, enc_all, List.length_append]
          have h8 := encL_len (t := t0) (n := n0) (by omega) (by omega) hmi.2.1 hmi.2.2.2 l0.length (Nat.le_refl _)
          have h9 : s0.data.toList.length = 32 := by rw [Array.length_toList]; exact hmi.2.2.1
          have h10 := textN_len (l := s0.data.toList) (by omega)
          have := hmi.2.1
          omega
        rw [hen] at HEN
        have HDB : Hid (decAt KP63 (b1 ++ (en ++ b1)) (len1 : Int) = .ok (⟨t0, n0, l0, s0⟩, ((len1 + en.length : Nat) : Int))) := by
          have h9 := dec_back (K := KP63) (by decide) HMM.out b1 b1
          rw [hen, HBL.out] at h9
          exact h9
        have HEE : Hid (strOf en = E) := hE
        clear hw7 hmi hki hen hE
        go_wp2_with fail
        refine HEN.mono ?_
        rintro e V8 ⟨ba, bn, bc, rfl, hbb, hb8⟩
        have hbn : en.length = bn := hbb.1
        have hB8 : Below V1.heap.size V1 V8 := H7.out.trans (hb8.mono H7.out.size)
        clear HEN hb8 y0' y1' y2 y3
        obtain ⟨⟨y0', y1', y2, y3⟩, hw8⟩ := HK.out V8 hB8
        have HM8 := HMY.out V8 hw8
        have H8 : Hid (Below V1.heap.size V1 V8 ∧ Bs V8 ba bn bc en ∧ en.length = bn) := ⟨hB8, hbb, hbn⟩
        have hbnb : bn ≤ 1000 := by omega
        clear hB8 hw8 hbb hbn hel
        go_wp2_with fail
        refine HM8.mono ?_
        rintro e V9 ⟨rfl, hb9⟩
        have hB9 : Below V1.heap.size V1 V9 := H8.out.1.trans (hb9.mono H8.out.1.size)
        have hw9 := (HK.out V9 hB9).2
        have hbs9 := H8.out.2.1.below hb9
        obtain ⟨VA, hVA⟩ : ∃ VA, V9.alloc (.cells #[] 5) = VA := ⟨_, rfl⟩
        obtain ⟨gA, hgA⟩ : ∃ gA, V9.heap.size = gA := ⟨_, rfl⟩
        have rA : VA.heap[gA]? = some (.cells #[] 5 (0, 0)) := by rw [← hVA, ← hgA]; exact heap_alloc_new V9 _
        have hbA : Below V9.heap.size V9 VA := by rw [← hVA]; exact (Below.refl _ V9).alloc (Nat.le_refl _) _
        have oA := own_empty (base := V9.heap.size) (Nat.le_of_eq hgA) rA
        have hwA : Below w.heap.size w VA := hw9.trans (hbA.mono hw9.size)
        obtain ⟨aB, cB, VB, hrB, oB, gB⟩ := addB_own VA oA (HW1.out VA hwA).rw (by omega) hbA.size
        have hbB : Below V9.heap.size V9 VB := hbA.grown gB hbA.size (fun j hj => (oA.lt j (by rw [ob_slice]; exact hj)).1)
        obtain ⟨aC, cC, VC, hrC, oC, gC⟩ := addB_own VB oB (hbs9.below hbB).rw (by omega) hbB.size
        have hbC : Below V9.heap.size V9 VC := hbB.grown gC hbB.size (fun j hj => (oB.lt j (by rw [ob_slice]; exact hj)).1)
        have hwC : Below w.heap.size w VC := hw9.trans (hbC.mono hw9.size)
        obtain ⟨aD, cD, VD, hrD, oD, gD⟩ := addB_own VC oC (HW1.out VC hwC).rw (by omega) hbC.size
        have hbD : Below V9.heap.size V9 VD := hbC.grown gD hbC.size (fun j hj => (oC.lt j (by rw [ob_slice]; exact hj)).1)
        have hBD : Below V1.heap.size V1 VD := hB9.trans (hbD.mono hB9.size)
        obtain ⟨lD, hlD⟩ : ∃ lD, 0 + len1 + bn + len1 = lD := ⟨_, rfl⟩
        obtain ⟨lC, hlC⟩ : ∃ lC, 0 + len1 + bn = lC := ⟨_, rfl⟩
        obtain ⟨lB, hlB⟩ : ∃ lB, 0 + len1 = lB := ⟨_, rfl⟩
        have hbsD := Bs.own oD
        rw [hlD] at hrD hbsD
        rw [hlC] at hrD hrC
        rw [hlB] at hrC hrB
        have hll : [] ++ b1 ++ en ++ b1 = b1 ++ (en ++ b1) := by simp
        rw [hll] at hbsD
        have hip : inP (b1 ++ (en ++ b1)) (len1 : Int) := ⟨by omega, by omega, by have := hbsD.1; omega⟩
        have HDD := (cdec_any hbsD (len1 : Int) hip).mono fun e w' h => h.dv
        rw [HDB.out] at HDD
        obtain ⟨zk, hzk⟩ : ∃ zk, len1 + en.length = zk := ⟨_, rfl⟩
        have hdvz : deV (.ok (⟨t0, n0, l0, s0⟩, ((len1 + en.length : Nat) : Int))) = (⟨t0, n0, l0, s0⟩, (zk : Int), 0) := by rw [hzk]; rfl
        rw [hdvz] at HDD
        have kz : (len1 : Int) + (bn : Int) = (zk : Int) := by have := H8.out.2.2; omega
        have hzb : zk ≤ 100000 := by have := H8.out.2.2; omega
        have H9 : Hid (Below V1.heap.size V1 VD ∧ Bs VD ba bn bc en) := ⟨hBD, hbs9.below hbD⟩
        clear HM8 hb9 hB9 hw9 hbs9 rA hbA oA hwA oB gB hbB oC gC hbC hwC oD gD hbD hBD hbsD hll hip hdvz hzk hlB hlC hlD y0' y1' y2 y3
        go_wp2_with (first | (at_builtin; refine wpList_app VA rfl _ _ _ _ rfl rfl rfl (hrB _) ?_) | (at_builtin; refine wpList_app VB rfl _ _ _ _ rfl rfl rfl (hrC _) ?_) | (at_builtin; refine wpList_app VC rfl _ _ _ _ rfl rfl rfl (hrD _) ?_))
        refine HDD.mono ?_
        rintro e VE0 ⟨za, zn, zc, rfl, hkz, hbE0⟩
        simp only at hkz ⊢
        obtain ⟨VE, hVE, rE, hbE⟩ := box_tk (w := VE0) t0 n0 za zn zc s0
        obtain ⟨zb, hzb'⟩ : ∃ zb, VE0.heap.size = zb := ⟨_, rfl⟩
        rw [hzb'] at rE
        have hbDE : Below VD.heap.size VD VE := hbE0.trans (hbE.mono hbE0.size)
        have hBE : Below V1.heap.size V1 VE := H9.out.1.trans (hbDE.mono H9.out.1.size)
        have hkzE := hkz.below hbE
        have hbsE := H9.out.2.below hbDE
        have HS : Hid (∀ W, Below VE.heap.size VE W → ((W.cell? ⟨pb, 0, none⟩ = some (.int .i64 t0) ∧ W.cell? ⟨pb, 1, none⟩ = some (.int .i64 n0) ∧ W.cell? ⟨pb, 2, none⟩ = some (.slice a0 len0 cap0) ∧ W.cell? ⟨pb, 3, none⟩ = some (.string s0)) ∧ (W.cell? ⟨zb, 0, none⟩ = some (.int .i64 t0) ∧ W.cell? ⟨zb, 1, none⟩ = some (.int .i64 n0) ∧ W.cell? ⟨zb, 2, none⟩ = some (.slice za zn zc) ∧ W.cell? ⟨zb, 3, none⟩ = some (.string s0)) ∧ (convert 25 9 (.slice ba bn bc)).run Tryd.prog W = .ok (.string E) W) ∧ Below w.heap.size w W) := fun W hW => by
          have h8 := HK.out W (hBE.trans (hW.mono hBE.size))
          obtain ⟨e0, e1, e2, e3, _⟩ := row4 ((hW.block zb (lt_of_some rE)).trans rE)
          refine ⟨⟨h8.1, ⟨e0, e1, e2, e3⟩, ?_⟩, h8.2⟩
          rw [← HEE.out]
          exact (hbsE.below hW).conv
        have HSZ : Hid (∀ W, Below VE.heap.size VE W → Calls Tryd.prog 8 #[.agg #[.int .i64 t0, .int .i64 n0, .slice za zn zc, .string s0], .agg #[.int .i64 t0, .int .i64 n0, .slice a0 len0 cap0, .string s0]] W fun e w' => e = .returned (.bool true) ∧ Below W.heap.size W w') := fun W hW => by
          have h9 := same_tk t0 n0 s0 t0 n0 s0 (hkzE.below hW) (HW0.out W (HS.out W hW).2)
          rw [sameT_self] at h9
          exact h9
        have hEE : (E.toList == E.toList) = true := by simp
        have hz0 : ((0 : Nat) : Int) = 0 := rfl
        have hzz : ((zk : Int) == (zk : Int)) = true := by simp
        have wz : IntKind.i64.wrap (zk : Int) = (zk : Int) := by rw [IntKind.wrap_i64]; omega
        clear HDD hrB hrC hrD hkz hbE0 rE hbE hbDE hBE hkzE hbsE
        · go_wp2
          refine wp_region_held_drew (S := fun W => (W.cell? ⟨pb, 0, none⟩ = some (.int .i64 t0) ∧ W.cell? ⟨pb, 1, none⟩ = some (.int .i64 n0) ∧ W.cell? ⟨pb, 2, none⟩ = some (.slice a0 len0 cap0) ∧ W.cell? ⟨pb, 3, none⟩ = some (.string s0)) ∧ (W.cell? ⟨zb, 0, none⟩ = some (.int .i64 t0) ∧ W.cell? ⟨zb, 1, none⟩ = some (.int .i64 n0) ∧ W.cell? ⟨zb, 2, none⟩ = some (.slice za zn zc) ∧ W.cell? ⟨zb, 3, none⟩ = some (.string s0)) ∧ (convert 25 9 (.slice ba bn bc)).run Tryd.prog W = .ok (.string E) W) (by kernel_rfl) ((HS.out VE.drew (Below.refl _ VE).drew).1) (fun hHeld => ?_)
          refine wpAnyH_take (i := 0) (v := ?va_0) rfl (by kernel_rfl) (by kernel_rfl) (by kernel_rfl) (fun _ _ _ h => h) (Or.inl ⟨by first | kernel_rfl | rfl, ?ya_0⟩) hHeld ?ra_0
          case ya_0 => (intro W hSW; (try dsimp only at hSW); go_simp; (try with_reducible rfl))
          change wpAnyH _ _ _ _ _ _ _ (Act.put _ (some 93) _) _
          simp only [Act.put, List.setIfInBounds_toArray, List.set_cons_zero, List.set_cons_succ]
          refine wpAnyH_take (i := 1) (v := ?va_1) rfl (by kernel_rfl) (by kernel_rfl) (by kernel_rfl) (fun _ _ _ h => h) (Or.inl ⟨by first | kernel_rfl | rfl, ?ya_1⟩) hHeld ?ra_1
          case ya_1 => (intro W hSW; (try dsimp only at hSW); go_simp; (try with_reducible rfl))
          change wpAnyH _ _ _ _ _ _ _ (Act.put _ (some 94) _) _
          simp only [Act.put, List.setIfInBounds_toArray, List.set_cons_zero, List.set_cons_succ]
          refine wpAnyH_take (i := 2) (v := ?va_2) rfl (by kernel_rfl) (by kernel_rfl) (by kernel_rfl) (fun _ _ _ h => h) (Or.inl ⟨by first | kernel_rfl | rfl, ?ya_2⟩) hHeld ?ra_2
          case ya_2 => (intro W hSW; (try dsimp only at hSW); go_simp; (try with_reducible rfl))
          change wpAnyH _ _ _ _ _ _ _ (Act.put _ (some 95) _) _
          simp only [Act.put, List.setIfInBounds_toArray, List.set_cons_zero, List.set_cons_succ]
          refine wpAnyH_take (i := 3) (v := ?va_3) rfl (by kernel_rfl) (by kernel_rfl) (by kernel_rfl) (fun _ _ _ h => h) (Or.inl ⟨by first | kernel_rfl | rfl, ?ya_3⟩) hHeld ?ra_3
          case ya_3 => (intro W hSW; (try dsimp only at hSW); go_simp; (try with_reducible rfl))
          change wpAnyH _ _ _ _ _ _ _ (Act.put _ (some 96) _) _
          simp only [Act.put, List.setIfInBounds_toArray, List.set_cons_zero, List.set_cons_succ]
          refine wpAnyH_take (i := 4) (v := ?va_4) rfl (by kernel_rfl) (by kernel_rfl) (by kernel_rfl) (fun _ _ _ h => h) (Or.inl ⟨by first | kernel_rfl | rfl, ?ya_4⟩) hHeld ?ra_4
          case ya_4 => (intro W hSW; (try dsimp only at hSW); go_simp; (try with_reducible rfl))
          change wpAnyH _ _ _ _ _ _ _ (Act.put _ (some 97) _) _
          simp only [Act.put, List.setIfInBounds_toArray, List.set_cons_zero, List.set_cons_succ]
          refine wpAnyH_take (i := 5) (v := ?va_5) rfl (by kernel_rfl) (by kernel_rfl) (by kernel_rfl) (fun _ _ _ h => h) (Or.inl ⟨by first | kernel_rfl | rfl, ?ya_5⟩) hHeld ?ra_5
          case ya_5 => (intro W hSW; (try dsimp only at hSW); go_simp; (try with_reducible rfl))
          change wpAnyH _ _ _ _ _ _ _ (Act.put _ (some 98) _) _
          simp only [Act.put, List.setIfInBounds_toArray, List.set_cons_zero, List.set_cons_succ]
          refine wpAnyH_ready (rs := [6]) (by kernel_rfl) (by simp) ?_
          refine AllReadyH.cons rfl (fun K hK => ?_) AllReadyH.nil
          go_simp
          refine (HRE.out VE.drew (HS.out VE.drew (Below.refl _ VE).drew).2).mono ?_
          rintro e VF ⟨rfl, hbF⟩
          refine hK.out _ _ ((HS.out VF ((Below.refl _ VE).drew.trans hbF)).1) (fun hHeld => ?_)
          clear hK K
          try simp only [Act.put, List.setIfInBounds_toArray, List.set_cons_zero, List.set_cons_succ]
          have HF : Hid (Below VE.heap.size VE VF) := (Below.refl _ VE).drew.trans hbF
          clear hbF
          refine wpAnyH_take (i := 7) (v := ?va_7) rfl (by kernel_rfl) (by kernel_rfl) (by kernel_rfl) (fun _ _ _ h => h) (Or.inl ⟨by first | kernel_rfl | rfl, ?ya_7⟩) hHeld ?ra_7
          case ya_7 => (intro W hSW; (try dsimp only at hSW); go_simp; (try with_reducible rfl))
          change wpAnyH _ _ _ _ _ _ _ (Act.put _ (some 100) _) _
          simp only [Act.put, List.setIfInBounds_toArray, List.set_cons_zero, List.set_cons_succ]
          refine wpAnyH_take (i := 8) (v := ?va_8) rfl (by kernel_rfl) (by kernel_rfl) (by kernel_rfl) (fun _ _ _ h => h) (Or.inl ⟨by first | kernel_rfl | rfl, ?ya_8⟩) hHeld ?ra_8
          case ya_8 => (intro W hSW; (try dsimp only at hSW); go_simp; (try with_reducible rfl))
          change wpAnyH _ _ _ _ _ _ _ (Act.put _ (some 101) _) _
          simp only [Act.put, List.setIfInBounds_toArray, List.set_cons_zero, List.set_cons_succ]
          refine wpAnyH_take (i := 9) (v := ?va_9) rfl (by kernel_rfl) (by kernel_rfl) (by kernel_rfl) (fun _ _ _ h => h) (Or.inl ⟨by first | kernel_rfl | rfl, ?ya_9⟩) hHeld ?ra_9
          case ya_9 => (intro W hSW; (try dsimp only at hSW); go_simp; (try with_reducible rfl))
          change wpAnyH _ _ _ _ _ _ _ (Act.put _ (some 102) _) _
          simp only [Act.put, List.setIfInBounds_toArray, List.set_cons_zero, List.set_cons_succ]
          refine wpAnyH_take (i := 10) (v := ?va_10) rfl (by kernel_rfl) (by kernel_rfl) (by kernel_rfl) (fun _ _ _ h => h) (Or.inl ⟨by first | kernel_rfl | rfl, ?ya_10⟩) hHeld ?ra_10
          case ya_10 => (intro W hSW; (try dsimp only at hSW); go_simp; (try with_reducible rfl))
          change wpAnyH _ _ _ _ _ _ _ (Act.put _ (some 103) _) _
          simp only [Act.put, List.setIfInBounds_toArray, List.set_cons_zero, List.set_cons_succ]
          refine wpAnyH_take (i := 11) (v := ?va_11) rfl (by kernel_rfl) (by kernel_rfl) (by kernel_rfl) (fun _ _ _ h => h) (Or.inl ⟨by first | kernel_rfl | rfl, ?ya_11⟩) hHeld ?ra_11
          case ya_11 => (intro W hSW; (try dsimp only at hSW); go_simp; (try with_reducible rfl))
          change wpAnyH _ _ _ _ _ _ _ (Act.put _ (some 104) _) _
          simp only [Act.put, List.setIfInBounds_toArray, List.set_cons_zero, List.set_cons_succ]
          refine wpAnyH_take (i := 12) (v := ?va_12) rfl (by kernel_rfl) (by kernel_rfl) (by kernel_rfl) (fun _ _ _ h => h) (Or.inl ⟨by first | kernel_rfl | rfl, ?ya_12⟩) hHeld ?ra_12
          case ya_12 => (intro W hSW; (try dsimp only at hSW); go_simp; (try with_reducible rfl))
          change wpAnyH _ _ _ _ _ _ _ (Act.put _ (some 105) _) _
          simp only [Act.put, List.setIfInBounds_toArray, List.set_cons_zero, List.set_cons_succ]
          refine wpAnyH_take (i := 13) (v := ?va_13) rfl (by kernel_rfl) (by kernel_rfl) (by kernel_rfl) (fun _ _ _ h => h) (Or.inl ⟨by first | kernel_rfl | rfl, ?ya_13⟩) hHeld ?ra_13
          case ya_13 => (intro W hSW; (try dsimp only at hSW); go_simp; (try with_reducible rfl))
          change wpAnyH _ _ _ _ _ _ _ (Act.put _ (some 106) _) _
          simp only [Act.put, List.setIfInBounds_toArray, List.set_cons_zero, List.set_cons_succ]
          refine wpAnyH_take (i := 14) (v := ?va_14) rfl (by kernel_rfl) (by kernel_rfl) (by kernel_rfl) (fun _ _ _ h => h) (Or.inl ⟨by first | kernel_rfl | rfl, ?ya_14⟩) hHeld ?ra_14
          case ya_14 => (intro W hSW; (try dsimp only at hSW); go_simp; (try with_reducible rfl))
          change wpAnyH _ _ _ _ _ _ _ (Act.put _ (some 107) _) _
          simp only [Act.put, List.setIfInBounds_toArray, List.set_cons_zero, List.set_cons_succ]
          refine wpAnyH_take (i := 15) (v := ?va_15) rfl (by kernel_rfl) (by kernel_rfl) (by kernel_rfl) (fun _ _ _ h => h) (Or.inl ⟨by first | kernel_rfl | rfl, ?ya_15⟩) hHeld ?ra_15
          case ya_15 => (intro W hSW; (try dsimp only at hSW); go_simp; (try with_reducible rfl))
          change wpAnyH _ _ _ _ _ _ _ (Act.put _ (some 108) _) _
          simp only [Act.put, List.setIfInBounds_toArray, List.set_cons_zero, List.set_cons_succ]
          refine wpAnyH_ready (rs := [16]) (by kernel_rfl) (by simp) ?_
          refine AllReadyH.cons rfl (fun K hK => ?_) AllReadyH.nil
          go_simp
          refine (HSZ.out VF HF.out).mono ?_
          rintro e VG ⟨rfl, hbG⟩
          refine hK.out _ _ ((HS.out VG (HF.out.trans (hbG.mono HF.out.size))).1) (fun hHeld => ?_)
          clear hK K
          try simp only [Act.put, List.setIfInBounds_toArray, List.set_cons_zero, List.set_cons_succ]
          have HG : Hid (Below VE.heap.size VE VG) := HF.out.trans (hbG.mono HF.out.size)
          clear hbG
          refine wpAnyH_take (i := 17) (v := ?va_17) rfl (by kernel_rfl) (by kernel_rfl) (by kernel_rfl) (fun _ _ _ h => h) (Or.inl ⟨by first | kernel_rfl | rfl, ?ya_17⟩) hHeld ?ra_17
          case ya_17 => (intro W hSW; (try dsimp only at hSW); go_simp; (try with_reducible rfl))
          change wpAnyH _ _ _ _ _ _ _ (Act.put _ (some 110) _) _
          simp only [Act.put, List.setIfInBounds_toArray, List.set_cons_zero, List.set_cons_succ]
          refine wpAnyH_take (i := 18) (v := ?va_18) rfl (by kernel_rfl) (by kernel_rfl) (by kernel_rfl) (fun _ _ _ h => h) (Or.inl ⟨by first | kernel_rfl | rfl, ?ya_18⟩) hHeld ?ra_18
          case ya_18 => (intro W hSW; (try dsimp only at hSW); go_simp; (try with_reducible rfl))
          change wpAnyH _ _ _ _ _ _ _ (Act.put _ (some 111) _) _
          simp only [Act.put, List.setIfInBounds_toArray, List.set_cons_zero, List.set_cons_succ]
          refine wpAnyH_take (i := 19) (v := ?va_19) rfl (by kernel_rfl) (by kernel_rfl) (by kernel_rfl) (fun _ _ _ h => h) (Or.inl ⟨by first | kernel_rfl | rfl, ?ya_19⟩) hHeld ?ra_19
          case ya_19 => (intro W hSW; (try dsimp only at hSW); go_simp; (try with_reducible rfl))
          change wpAnyH _ _ _ _ _ _ _ (Act.put _ (some 112) _) _
          simp only [Act.put, List.setIfInBounds_toArray, List.set_cons_zero, List.set_cons_succ]
          refine wpAnyH_take (i := 20) (v := ?va_20) rfl (by kernel_rfl) (by kernel_rfl) (by kernel_rfl) (fun _ _ _ h => h) (Or.inl ⟨by first | kernel_rfl | rfl, ?ya_20⟩) hHeld ?ra_20
          case ya_20 => (intro W hSW; (try dsimp only at hSW); go_simp; (try with_reducible rfl))
          change wpAnyH _ _ _ _ _ _ _ (Act.put _ (some 113) _) _
          simp only [Act.put, List.setIfInBounds_toArray, List.set_cons_zero, List.set_cons_succ]
          refine wpAnyH_take (i := 21) (v := ?va_21) rfl (by kernel_rfl) (by kernel_rfl) (by kernel_rfl) (fun _ _ _ h => h) (Or.inl ⟨by first | kernel_rfl | rfl, ?ya_21⟩) hHeld ?ra_21
          case ya_21 => (intro W hSW; (try dsimp only at hSW); go_simp; (try with_reducible rfl))
          change wpAnyH _ _ _ _ _ _ _ (Act.put _ (some 114) _) _
          simp only [Act.put, List.setIfInBounds_toArray, List.set_cons_zero, List.set_cons_succ]
          refine wpAnyH_take (i := 22) (v := ?va_22) rfl (by kernel_rfl) (by kernel_rfl) (by kernel_rfl) (fun _ _ _ h => h) (Or.inl ⟨by first | kernel_rfl | rfl, ?ya_22⟩) hHeld ?ra_22
          case ya_22 => (intro W hSW; (try dsimp only at hSW); go_simp; (try with_reducible rfl))
          change wpAnyH _ _ _ _ _ _ _ (Act.put _ (some 115) _) _
          simp only [Act.put, List.setIfInBounds_toArray, List.set_cons_zero, List.set_cons_succ]
          refine wpAnyH_take (i := 23) (v := ?va_23) rfl (by kernel_rfl) (by kernel_rfl) (by kernel_rfl) (fun _ _ _ h => h) (Or.inl ⟨by first | kernel_rfl | rfl, ?ya_23⟩) hHeld ?ra_23
          case ya_23 => (intro W hSW; (try dsimp only at hSW); go_simp; (try with_reducible rfl))
          change wpAnyH _ _ _ _ _ _ _ (Act.put _ (some 116) _) _
          simp only [Act.put, List.setIfInBounds_toArray, List.set_cons_zero, List.set_cons_succ]
          refine wpAnyH_take (i := 24) (v := ?va_24) rfl (by kernel_rfl) (by kernel_rfl) (by kernel_rfl) (fun _ _ _ h => h) (Or.inl ⟨by first | kernel_rfl | rfl, ?ya_24⟩) hHeld ?ra_24
          case ya_24 => (intro W hSW; (try dsimp only at hSW); go_simp; (try with_reducible rfl))
          change wpAnyH _ _ _ _ _ _ _ (Act.put _ (some 117) _) _
          simp only [Act.put, List.setIfInBounds_toArray, List.set_cons_zero, List.set_cons_succ]
          refine wpAnyH_take (i := 25) (v := ?va_25) rfl (by kernel_rfl) (by kernel_rfl) (by kernel_rfl) (fun _ _ _ h => h) (Or.inl ⟨by first | kernel_rfl | rfl, ?ya_25⟩) hHeld ?ra_25
          case ya_25 => (intro W hSW; (try dsimp only at hSW); go_simp; (try with_reducible rfl))
          change wpAnyH _ _ _ _ _ _ _ (Act.put _ (some 118) _) _
          simp only [Act.put, List.setIfInBounds_toArray, List.set_cons_zero, List.set_cons_succ]
          refine wpAnyH_take (i := 26) (v := ?va_26) rfl (by kernel_rfl) (by kernel_rfl) (by kernel_rfl) (fun _ _ _ h => h) (Or.inl ⟨by first | kernel_rfl | rfl, ?ya_26⟩) hHeld ?ra_26
          case ya_26 => (intro W hSW; (try dsimp only at hSW); go_simp; (try with_reducible rfl))
          change wpAnyH _ _ _ _ _ _ _ (Act.put _ (some 119) _) _
          simp only [Act.put, List.setIfInBounds_toArray, List.set_cons_zero, List.set_cons_succ]
          refine wpAnyH_take (i := 27) (v := ?va_27) rfl (by kernel_rfl) (by kernel_rfl) (by kernel_rfl) (fun _ _ _ h => h) (Or.inl ⟨by first | kernel_rfl | rfl, ?ya_27⟩) hHeld ?ra_27
          case ya_27 => (intro W hSW; (try dsimp only at hSW); go_simp; (try with_reducible rfl))
          change wpAnyH _ _ _ _ _ _ _ (Act.put _ (some 120) _) _
          simp only [Act.put, List.setIfInBounds_toArray, List.set_cons_zero, List.set_cons_succ]
          refine wpAnyH_ready (rs := [28]) (by kernel_rfl) (by simp) ?_
          refine AllReadyH.cons rfl (fun K hK => ?_) AllReadyH.nil
          go_simp
          refine (HLV2.out VG (HS.out VG HG.out).2).mono ?_
          rintro e VH ⟨rfl, hbH⟩
          refine hK.out _ _ ((HS.out VH (HG.out.trans (hbH.mono HG.out.size))).1) (fun hHeld => ?_)
          clear hK K
          try simp only [Act.put, List.setIfInBounds_toArray, List.set_cons_zero, List.set_cons_succ]
          have HH : Hid (Below w.heap.size w VH) := (HS.out VH (HG.out.trans (hbH.mono HG.out.size))).2
          clear hbH
          refine wpAnyH_take (i := 29) (v := ?va_29) rfl (by kernel_rfl) (by kernel_rfl) (by kernel_rfl) (fun _ _ _ h => h) (Or.inl ⟨by first | kernel_rfl | rfl, ?ya_29⟩) hHeld ?ra_29
          case ya_29 => (intro W hSW; (try dsimp only at hSW); go_simp; (try with_reducible rfl))
          change wpAnyH _ _ _ _ _ _ _ (Act.put _ (some 122) _) _
          simp only [Act.put, List.setIfInBounds_toArray, List.set_cons_zero, List.set_cons_succ]
          refine wpAnyH_take (i := 30) (v := ?va_30) rfl (by kernel_rfl) (by kernel_rfl) (by kernel_rfl) (fun _ _ _ h => h) (Or.inl ⟨by first | kernel_rfl | rfl, ?ya_30⟩) hHeld ?ra_30
          case ya_30 => (intro W hSW; (try dsimp only at hSW); go_simp; (try with_reducible rfl))
          change wpAnyH _ _ _ _ _ _ _ (Act.put _ (some 6) _) _
          simp only [Act.put, List.setIfInBounds_toArray, List.set_cons_zero, List.set_cons_succ]
          refine wpAnyH_done (by kernel_rfl) ?_ _
          go_wp2
          go_ret
          exact ⟨rfl, HH.out⟩

set_option linter.unusedVariables false in
set_option maxRecDepth 100000 in
theorem lifted (os : Os) (started : os.Started) (H : Type) (enc : TypeId × Value → H) :
    ReturnsInHanded {} Tryd.checked os 3 .any (fun w args => (Rows.capCodesSpec.pre enc Tryd.prog Tryd.f3 [] false w args ∧ laidMetH Tryd.prog laid2 w) ∧ sizedMet enc Tryd.prog Tryd.f3 (OpenSpec.ofChange Rows.capCodesSpec) false w args) (Rows.capCodesSpec.post enc Tryd.prog Tryd.f3 false true false false) := by
  refine returnsInHanded_of_change_and (C := Tryd.checked) (X := fun w _ => laidMetH Tryd.prog laid2 w) (fun _ _ _ hh h => h.of_heap hh) own started (by kernel_rfl) Tryd.func3
    (ChangeSpec.witness_shaped (enc := enc) (C := Tryd.checked) (os := os) (X := fun w _ => laidMetH Tryd.prog laid2 w) false (World.doorLaid Tryd.prog 19 os) #[.agg #[.int .i64 0, .int .i64 0, .slice none 0 0, .string ByteArray.empty], .slice none 0 0, .int .i64 0] 8 rfl (World.shaped_of_RefB (by kernel_rfl) (by kernel_rfl)) (by kernel_rfl) (by kernel_rfl) (by kernel_rfl) (door_met os _)) ?_
  intro W base args ds gs before hval0 hW _ hsz0 hL _
  have hval : ∀ (j : Nat) t v, Tryd.f3.params[j]? = some t → args[j]? = some v → Value.okWide Tryd.prog W .any base t v := hval0
  have hsz : (DataW.weightsEach Tryd.prog (Tryd.f3.params.toList ++ Rows.capCodesSpec.plain.varTypes Tryd.prog) (ds ++ gs)).all (· ≤ reachBytes) = true := hsz0
  have hW' := hW
  obtain ⟨p, q, hA0, hV, rfl, hfz, hnd⟩ := hW
  have hA : DataW.TrodAll enc Tryd.prog W 0 (fun _ => true) true Tryd.f3.params.toList args.toList ds p := hA0
  rw [Tryd.params3] at hA hval hsz
  obtain ⟨v0, vs0, d0, ds0, p0, q0, hargs, rfl, rfl, h0, r0⟩ := trodAll_cons hA
  obtain ⟨v1, vs1, d1, ds1, p1, q1, rfl, rfl, rfl, h1, r1⟩ := trodAll_cons r0
  obtain ⟨v2, vs2, d2, ds2, p2, q2, rfl, rfl, rfl, h2, r2⟩ := trodAll_cons r1
  obtain ⟨rfl, rfl, rfl⟩ := trodAll_nil r2
  obtain rfl : args = #[v0, v1, v2] := by cases args; simp_all
  obtain ⟨rfl, rfl⟩ := trodVars_none hV
  have k0 := h0
  have lt0 : ∀ x ∈ p0, x.block < W.heap.size := by obtain ⟨m, hm⟩ := k0; exact DataW.trod_lt m _ _ _ hm
  obtain ⟨t0, n0, a0, len0, cap0, s0, l0, rfl, w0, c0, z0, y0, x0⟩ := tok_arg (j := 0) (hval 0 24 v0 rfl rfl) h0 hsz rfl rfl
  have k1 := h1
  have lt1 : ∀ x ∈ p1, x.block < W.heap.size := by obtain ⟨m, hm⟩ := k1; exact DataW.trod_lt m _ _ _ hm
  obtain ⟨a1, len1, cap1, rfl⟩ := okWide_slice Tryd.underlying25 (hval 1 25 v1 rfl rfl)
  obtain ⟨b1, w1, _⟩ : ∃ bs, Bs W a1 len1 cap1 bs ∧ True := by
    obtain ⟨fuel, hf⟩ := h1
    exact bytes_arg (by simpa [Value.cells] using hf)
  obtain ⟨x2, rfl, rfl, rfl, w2⟩ := open_int Tryd.underlying3 (hval 2 3 v2 rfl rfl) h2
  clear hA0 hval0 hsz hsz0
  refine (walk t0 n0 a0 len0 cap0 s0 l0 c0 z0 y0 x0 a1 len1 cap1 b1 x2 (wf_i64 w2) W w0 w1 (of_laid hL)).mono fun e W' ⟨he, bel⟩ => ?_
  subst he
  exact ⟨_, rfl, _, _, _, [], _, [], hW', trodAll_mk1 (shut_bool Tryd.underlying4 _), (trodAll_cons_mk (Below.trod laidOut (by kernel_rfl) (of_decide_eq_true (by kernel_rfl)) k0 bel lt0) (trodAll_cons_mk (Below.trod laidOut (by kernel_rfl) (of_decide_eq_true (by kernel_rfl)) k1 bel lt1) (trodAll_cons_mk (shut_int Tryd.underlying3 w2) trodAll_mk0))), rfl, bel.frame _, fun h => by cases h⟩

theorem over : Rows.capCodesRow.holds Tryd.pinned (OpenSpec.ofChange Rows.capCodesSpec) :=
  OpenClaim.holds_of_wide 3 Tryd.f3 rfl rfl rfl rfl rfl rfl rfl ⟨rfl, rfl, rfl, rfl, rfl⟩ rfl rfl rfl rfl rfl (by kernel_rfl) Tryd.func3 (by kernel_rfl)
    (of_decide_eq_true (by kernel_rfl)) (by unfold Func.isWrapper; first | (rw [if_pos (by decide +kernel)]; kernel_rfl) | (rw [if_neg (by decide +kernel)]; exact ⟨rfl, rfl⟩))
    (fun os started H enc _ => lifted os started H enc)

end Go.Proofs.YtcmdcmbiilfngabDoor.capCodes
namespace Go.Proofs.YtcmdcmbiilfngabDoor
/-- The given statement. -/
theorem capCodes_holds : Rows.CapCodesCardSaid :=
  Claim7.holds_tied_plain_at .later [] [.data, .data] true (true, "d8378c81383a22ffb7a6c43f532fa97d0b93ba3414f9c544ed98eea4832311bb") false
    capCodes.over (fun _ h => by cases h) (by kernel_rfl) (fun _ h => by cases h) capCodes_row_tie rfl ⟨rfl, rfl⟩ (by kernel_rfl) rfl
    (fun f fn hf hfn => by
      obtain rfl : f = 3 := Option.some.inj ((show Tryd.prog.funcNamed "strongroom/strongroomlaw12.CapCodes" = some 3 by kernel_rfl).symm.trans hf) |>.symm
      obtain rfl : fn = Tryd.f3 := (Option.some.inj (Tryd.func3.symm.trans hfn)).symm
      exact ⟨by kernel_rfl, fun j t ht => by
        rw [Tryd.params3] at ht
        rcases j with _ | _ | _ | j
        · obtain rfl : t = 24 := by simpa using ht.symm
          exact (show Tryd.prog.wantsStandIn 24 = false by kernel_rfl)
        · obtain rfl : t = 25 := by simpa using ht.symm
          exact (show Tryd.prog.wantsStandIn 25 = false by kernel_rfl)
        · obtain rfl : t = 3 := by simpa using ht.symm
          exact (show Tryd.prog.wantsStandIn 3 = false by kernel_rfl)
        · simp at ht
      ⟩)
    (by kernel_rfl)
#print axioms capCodes_holds
end Go.Proofs.YtcmdcmbiilfngabDoor
