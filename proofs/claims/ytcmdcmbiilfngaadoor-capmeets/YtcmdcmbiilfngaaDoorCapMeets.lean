/- Proved: for all caveats, a right, a time and a path the law CapMeets returns true, what was handed in as it was (a token lets just what the one caveat lets where its caveats meet, and nothing where they don't); where the package's two tables begin as the program's text lays them. -/
import Derived.Test.YtcmdcmbiilfngaaDoorKR
import Derived.Test.YtcmdcmbiilfngaaDoorKK
import Derived.Test.YtcmdcmbiilfngaaDoorCards
import Derived.Test.YtcmdcmbiilfngaaDoorTie
import Derived.WalkKit
import Derived.ProofKit
import Derived.OpenShut
import Derived.ShutString
import Derived.ChangeOld
import Derived.Below
import Derived.LaidMore
import Derived.Stop.Joined
import Derived.SevenTiedAt
namespace Go.Proofs.YtcmdcmbiilfngaaDoor.capMeets
open Go.ChangeShapes Go.WideShapes Go.ChangeAt Go.WideMaps Go.WideElems Go.RowKit
open Go.ChangeMaps (open_string shut_string)

set_option maxRecDepth 100000 in
set_option maxHeartbeats 2000000 in
theorem walk (a0 : Option Addr) (len0 cap0 : Nat) (l0 : List Cv) (c0 : ∀ c ∈ l0, c.In) (x1 y1 : Int) (_z1 : -9223372036854775808 ≤ x1 ∧ x1 ≤ 9223372036854775807) (_u1 : -9223372036854775808 ≤ y1 ∧ y1 ≤ 9223372036854775807) (s2 : ByteArray) (z2 : s2.size ≤ 140737488351232) (w : World) (w0 : Kw w a0 len0 cap0 l0) (hL : Laid w) :
    Calls Tryd.prog 6 #[.slice a0 len0 cap0, .agg #[.int .i64 x1, .int .i64 y1], .string s2] w fun e w' => e = .returned (.bool true) ∧ Below w.heap.size w w' := by
  have HLV : Hid (∀ V, Below w.heap.size w V → Calls Tryd.prog 9 #[] V fun e w' => e = .returned (.bool true) ∧ Below w.heap.size w w') := fun V hV => (lives_any V (hL.below hV)).mono fun e w' h => ⟨h.1, hV.trans (h.2.mono hV.size)⟩
  have HLV2 : Hid (∀ V, Below w.heap.size w V → Calls Tryd.prog 9 #[] V fun e w' => e = .returned (.bool true) ∧ Below V.heap.size V w') := fun V hV => lives_any V (hL.below hV)
  obtain ⟨pb, hpb⟩ : ∃ pb, w.heap.size = pb := ⟨_, rfl⟩
  obtain ⟨V1, hV1⟩ : ∃ V1, w.alloc (.cells #[.int .i64 x1, .int .i64 y1] 39) = V1 := ⟨_, rfl⟩
  have r1 : V1.heap[pb]? = some (.cells #[.int .i64 x1, .int .i64 y1] 39 (0, 0)) := by rw [← hV1, ← hpb]; exact heap_alloc_new w _
  have hb1 : Below w.heap.size w V1 := by rw [← hV1]; exact (Below.refl _ w).alloc (Nat.le_refl _) _
  have z0' : V1.cell? ⟨pb, 0, none⟩ = some (.int .i64 x1) := by rw [cell_of_row _ _ _ _ _ _ r1]; rfl
  have z1' : V1.cell? ⟨pb, 1, none⟩ = some (.int .i64 y1) := by rw [cell_of_row _ _ _ _ _ _ r1]; rfl
  have hln := w0.len
  have hlm := w0.max
  have hcap : len0 ≤ cap0 := w0.2.1
  obtain ⟨j, hj⟩ : ∃ j, min len0 9 = j := ⟨_, rfl⟩
  have hjm : min (len0 : Int) 9 = (j : Int) := by omega
  have hsl := pre_cavs a0 len0 cap0 j (by omega)
  obtain ⟨a', ha'⟩ : ∃ a', cutA a0 cap0 0 3 = a' := ⟨_, rfl⟩
  rw [ha'] at hsl
  obtain ⟨l, hl⟩ : ∃ l, l0.take j = l := ⟨_, rfl⟩
  have hlp : ∀ c ∈ l, c.path.size ≤ 9223372036854775807 := fun c hc => by
    have := (c0 c (List.mem_of_mem_take (by rw [hl]; exact hc))).2.2
    omega
  obtain ⟨⟨⟨t1, t2, t3, t4⟩, tq⟩, hmd⟩ : ∃ r, madeT (⟨#[115]⟩ : ByteArray).data.toList 1 1 l = r := ⟨_, rfl⟩
  have HMD : Hid (∀ W, Below w.heap.size w W → Calls Tryd.prog 23 #[.string ⟨#[115]⟩, .int .i64 1, .int .i64 1, .slice a' j cap0] W fun e w' => MdTo W (⟨t1, t2, t3, t4⟩, tq) e w') := fun W hW => by
    have hk := (w0.below hW).pre j (by omega)
    rw [ha', hl] at hk
    have h5 := made_any ⟨#[115]⟩ 1 1 hk hlp (by decide) (hL.below hW)
    rw [hmd] at h5
    exact h5
  have HM1 : Hid (∀ (c : Cv) (g : Nat) W, Below w.heap.size w W → W.heap[g]? = some (.cells #[.string c.path, .int .i64 c.rights, .int .i64 c.til] 35 (0, 0)) → c.ok = true → Calls Tryd.prog 23 #[.string ⟨#[115]⟩, .int .i64 1, .int .i64 1, .slice (some ⟨g, 0, none⟩) 1 1] W fun e w' => MdTo W (madeR (⟨#[115]⟩ : ByteArray).data.toList 1 1 [c], true) e w') := fun c g W hW hg hc => by
    have h5 := made_any ⟨#[115]⟩ 1 1 (cvRow hg) (fun d hd => by rw [List.mem_singleton.1 hd]; have := ok_path hc; omega) (by decide) (hL.below hW)
    have e : madeT (⟨#[115]⟩ : ByteArray).data.toList 1 1 [c] = (madeR (⟨#[115]⟩ : ByteArray).data.toList 1 1 [c], true) := by unfold madeT; rw [if_pos (madeB_iff.2 ⟨by decide, by simp, fun d hd => by rw [List.mem_singleton.1 hd]; exact hc⟩)]
    rw [e] at h5
    exact h5
  have HB1 : Hid (Below w.heap.size w V1) := hb1
  clear r1 hb1 hL w0 c0 hl hlp hj hln ha'
  cases hmb : madeB 1 1 l with
  | false =>
    have hq : tq = false := by unfold madeT at hmd; rw [if_neg (by rw [hmb]; decide)] at hmd; exact (Prod.mk.inj hmd).2.symm
    subst hq
    clear hmb hmd
    go_enter Tryd.func6, Tryd.ntmps6
    go_wp2
    go_quiet (fail)
    go_wp2_with fail
    refine (HMD.out _ (below_drewK HB1.out _)).mono ?_
    rintro e V2 ⟨ta, tn, tc, rfl, hkt, hb2⟩
    simp only at hkt ⊢
    have hB2 : Below w.heap.size w V2 := (below_drewK HB1.out _).trans (hb2.mono (below_drewK HB1.out _).size)
    obtain ⟨V3, hV3, r3, hb3⟩ := box_tk (w := V2) t1 t2 ta tn tc t4
    obtain ⟨tb, htb⟩ : ∃ tb, V2.heap.size = tb := ⟨_, rfl⟩
    rw [htb] at r3
    have hB3 : Below w.heap.size w V3 := hB2.trans (hb3.mono hB2.size)
    have HT : Hid (∀ W, Below V3.heap.size V3 W → (W.cell? ⟨tb, 0, none⟩ = some (.int .i64 t1) ∧ W.cell? ⟨tb, 1, none⟩ = some (.int .i64 t2) ∧ W.cell? ⟨tb, 2, none⟩ = some (.slice ta tn tc) ∧ W.cell? ⟨tb, 3, none⟩ = some (.string t4)) ∧ Kw W ta tn tc t3 ∧ Below w.heap.size w W) := fun W hW => by
      obtain ⟨e0, e1, e2, e3, _⟩ := row4 ((hW.block tb (lt_of_some r3)).trans r3)
      exact ⟨⟨e0, e1, e2, e3⟩, (hkt.below hb3).below hW, hB3.trans (hW.mono hB3.size)⟩
    have H3 : Hid (Below w.heap.size w V3) := hB3
    clear hkt hb2 hB2 r3 hb3 hB3 z0' z1' hsl
    obtain ⟨⟨y0, y1', y2, y3⟩, hk3, _⟩ := HT.out V3 (Below.refl _ _)
    clear hk3
    go_wp2_with fail
    refine (HLV.out _ (H3.out)).mono ?_
    rintro e VZ ⟨rfl, hbZ⟩
    go_wp2
    go_ret
    exact ⟨rfl, hbZ⟩
  | true =>
    have hmd2 : madeT (⟨#[115]⟩ : ByteArray).data.toList 1 1 l = (madeR (⟨#[115]⟩ : ByteArray).data.toList 1 1 l, true) := by unfold madeT; rw [if_pos hmb]
    rw [hmd2] at hmd
    obtain ⟨htk, hq⟩ := Prod.mk.inj hmd
    subst hq
    have HTK : Hid (madeR (⟨#[115]⟩ : ByteArray).data.toList 1 1 l = ⟨t1, t2, t3, t4⟩ ∧ smallT t3 t4 = true ∧ t4.size ≤ 140737488351232 ∧ (∀ c ∈ t3, c.path.size ≤ 140737488351232) ∧ madeB 1 1 l = true) := by
      have hs := madeR_small (k := (⟨#[115]⟩ : ByteArray).data.toList) hmb
      rw [htk] at hs
      have hi := small_iff.1 hs
      exact ⟨htk, hs, by simp only at hi; omega, fun c hc => by have := hi.2.2 c hc; omega, hmb⟩
    clear hmb hmd hmd2 htk
    by_cases h2 : 1000 < s2.size
    · have k2 : (1000 : Int) < (s2.size : Int) := by omega
      go_enter Tryd.func6, Tryd.ntmps6
      go_wp2
      go_quiet (fail)
      go_wp2_with fail
      refine (HMD.out _ (below_drewK HB1.out _)).mono ?_
      rintro e V2 ⟨ta, tn, tc, rfl, hkt, hb2⟩
      simp only at hkt ⊢
      have hB2 : Below w.heap.size w V2 := (below_drewK HB1.out _).trans (hb2.mono (below_drewK HB1.out _).size)
      obtain ⟨V3, hV3, r3, hb3⟩ := box_tk (w := V2) t1 t2 ta tn tc t4
      obtain ⟨tb, htb⟩ : ∃ tb, V2.heap.size = tb := ⟨_, rfl⟩
      rw [htb] at r3
      have hB3 : Below w.heap.size w V3 := hB2.trans (hb3.mono hB2.size)
      have HT : Hid (∀ W, Below V3.heap.size V3 W → (W.cell? ⟨tb, 0, none⟩ = some (.int .i64 t1) ∧ W.cell? ⟨tb, 1, none⟩ = some (.int .i64 t2) ∧ W.cell? ⟨tb, 2, none⟩ = some (.slice ta tn tc) ∧ W.cell? ⟨tb, 3, none⟩ = some (.string t4)) ∧ Kw W ta tn tc t3 ∧ Below w.heap.size w W) := fun W hW => by
        obtain ⟨e0, e1, e2, e3, _⟩ := row4 ((hW.block tb (lt_of_some r3)).trans r3)
        exact ⟨⟨e0, e1, e2, e3⟩, (hkt.below hb3).below hW, hB3.trans (hW.mono hB3.size)⟩
      have H3 : Hid (Below w.heap.size w V3) := hB3
      clear hkt hb2 hB2 r3 hb3 hB3 z0' z1' hsl
      obtain ⟨⟨y0, y1', y2, y3⟩, hk3, _⟩ := HT.out V3 (Below.refl _ _)
      have HSM := small_tk t1 t2 t4 hk3 HTK.out.2.2.1 HTK.out.2.2.2.1
      rw [HTK.out.2.1] at HSM
      clear hk3
      go_wp2_with fail
      refine HSM.mono ?_
      rintro e V4 ⟨rfl, hb4⟩
      clear HSM y0 y1' y2 y3
      have H4 : Hid (Below w.heap.size w V4) := H3.out.trans (hb4.mono H3.out.size)
      clear hb4
      go_wp2_with fail
      refine (HLV.out _ (H4.out)).mono ?_
      rintro e VZ ⟨rfl, hbZ⟩
      go_wp2
      go_ret
      exact ⟨rfl, hbZ⟩
    · have k2 : ¬ (1000 : Int) < (s2.size : Int) := by omega
      go_enter Tryd.func6, Tryd.ntmps6
      go_wp2
      go_quiet (fail)
      go_wp2_with fail
      refine (HMD.out _ (below_drewK HB1.out _)).mono ?_
      rintro e V2 ⟨ta, tn, tc, rfl, hkt, hb2⟩
      simp only at hkt ⊢
      have hB2 : Below w.heap.size w V2 := (below_drewK HB1.out _).trans (hb2.mono (below_drewK HB1.out _).size)
      obtain ⟨V3, hV3, r3, hb3⟩ := box_tk (w := V2) t1 t2 ta tn tc t4
      obtain ⟨tb, htb⟩ : ∃ tb, V2.heap.size = tb := ⟨_, rfl⟩
      rw [htb] at r3
      have hB3 : Below w.heap.size w V3 := hB2.trans (hb3.mono hB2.size)
      have HT : Hid (∀ W, Below V3.heap.size V3 W → (W.cell? ⟨tb, 0, none⟩ = some (.int .i64 t1) ∧ W.cell? ⟨tb, 1, none⟩ = some (.int .i64 t2) ∧ W.cell? ⟨tb, 2, none⟩ = some (.slice ta tn tc) ∧ W.cell? ⟨tb, 3, none⟩ = some (.string t4)) ∧ Kw W ta tn tc t3 ∧ Below w.heap.size w W) := fun W hW => by
        obtain ⟨e0, e1, e2, e3, _⟩ := row4 ((hW.block tb (lt_of_some r3)).trans r3)
        exact ⟨⟨e0, e1, e2, e3⟩, (hkt.below hb3).below hW, hB3.trans (hW.mono hB3.size)⟩
      have H3 : Hid (Below w.heap.size w V3) := hB3
      clear hkt hb2 hB2 r3 hb3 hB3 z0' z1' hsl
      obtain ⟨⟨y0, y1', y2, y3⟩, hk3, _⟩ := HT.out V3 (Below.refl _ _)
      have HSM := small_tk t1 t2 t4 hk3 HTK.out.2.2.1 HTK.out.2.2.2.1
      rw [HTK.out.2.1] at HSM
      clear hk3
      go_wp2_with fail
      refine HSM.mono ?_
      rintro e V4 ⟨rfl, hb4⟩
      clear HSM y0 y1' y2 y3
      obtain ⟨⟨y0, y1', y2, y3⟩, hk4, hw4⟩ := HT.out V4 hb4
      have hcq : ∀ c ∈ t3, c.path.size ≤ 9223372036854775807 := fun c hc => by have := HTK.out.2.2.2.1 c hc; omega
      have HME := cmeet_any t1 t2 t4 hk4 hcq
      have hmm := meet_made (k := (⟨#[115]⟩ : ByteArray).data.toList) HTK.out.2.2.2.2
      rw [HTK.out.1] at hmm
      rw [hmm] at HME
      obtain ⟨lt, hlt⟩ : ∃ lt, letsT ⟨t1, t2, t3, t4⟩ x1 s2.data.toList y1 = lt := ⟨_, rfl⟩
      have HLT0 : Hid (∀ W, Below V3.heap.size V3 W → Calls Tryd.prog 21 #[.agg #[.int .i64 t1, .int .i64 t2, .slice ta tn tc, .string t4], .int .i64 x1, .string s2, .int .i64 y1] W fun e w' => e = .returned (.bool lt) ∧ Below W.heap.size W w') := fun W hW => by
        have h5 := lets_any t1 t2 t4 x1 s2 y1 (HT.out W hW).2.1 hcq (by omega)
        rw [hlt] at h5
        exact h5
      have H4 : Hid (Below V3.heap.size V3 V4 ∧ Below w.heap.size w V4) := ⟨hb4, hw4⟩
      clear hk4 hw4 hb4 hmm hcq
      cases hmf : meetF l with
      | none =>
        rw [hmf] at HME
        have hno := meets_no (k := (⟨#[115]⟩ : ByteArray).data.toList) HTK.out.2.2.2.2 hmf x1 s2.data.toList y1
        rw [HTK.out.1, hlt] at hno
        subst hno
        clear hlt hmf
        unfold MtTo at HME
        simp only [zeroC] at HME
        obtain ⟨z1, z2, z3, hz1, hz2, hz3⟩ : ∃ (z1 : ByteArray) (z2 z3 : Int), baOf [] = z1 ∧ (0 : Int) = z2 ∧ (0 : Int) = z3 := ⟨_, _, _, rfl, rfl, rfl⟩
        have HME2 : Calls Tryd.prog 19 #[.agg #[.int .i64 t1, .int .i64 t2, .slice ta tn tc, .string t4]] V4 fun e w' => e = .returned (.tuple #[.agg #[.string z1, .int .i64 z2, .int .i64 z3], .bool false]) ∧ Below V4.heap.size V4 w' := by rw [← hz1, ← hz2, ← hz3]; exact HME
        clear HME hz1 hz2 hz3
        go_wp2_with fail
        refine HME2.mono ?_
        rintro e V5 ⟨rfl, hb5⟩
        obtain ⟨V6, hV6, r6, hb6⟩ := box_cv (w := V5) z1 z2 z3
        have hb46 : Below V4.heap.size V4 V6 := hb5.trans (hb6.mono hb5.size)
        have hB6 : Below V3.heap.size V3 V6 := H4.out.1.trans (hb46.mono H4.out.1.size)
        clear HME2 hb5 r6 hb6 y0 y1' y2 y3
        obtain ⟨⟨y0, y1', y2, y3⟩, _, hw6⟩ := HT.out V6 hB6
        have HL6 := HLT0.out V6 hB6
        have H6 : Hid (Below w.heap.size w V6) := hw6
        clear hb46 hB6 hw6
        go_wp2_with fail
        refine HL6.mono ?_
        rintro e V7 ⟨rfl, hb7⟩
        have H7 : Hid (Below w.heap.size w V7) := H6.out.trans (hb7.mono H6.out.size)
        clear HL6 hb7 y0 y1' y2 y3
        go_wp2_with fail
        refine (HLV.out _ (H7.out)).mono ?_
        rintro e VZ ⟨rfl, hbZ⟩
        go_wp2
        go_ret
        exact ⟨rfl, hbZ⟩
      | some m =>
        rw [hmf] at HME
        obtain ⟨hb1m, hly⟩ := meets_yes (k := (⟨#[115]⟩ : ByteArray).data.toList) HTK.out.2.2.2.2 hmf x1 s2.data.toList y1
        rw [HTK.out.1, hlt] at hly
        have hmok : m.ok = true := (madeB_iff.1 hb1m).2.2 m (by simp)
        have hmp := ok_path hmok
        obtain ⟨m1, m2, m3⟩ := m
        unfold MtTo at HME
        simp only at HME hmp
        have HMK : Hid ((⟨m1, m2, m3⟩ : Cv).ok = true ∧ m1.size ≤ 32) := ⟨hmok, hmp⟩
        obtain ⟨uz, huz⟩ : ∃ uz, (madeR (⟨#[115]⟩ : ByteArray).data.toList 1 1 [⟨m1, m2, m3⟩]).sig = uz := ⟨_, rfl⟩
        have hmr : madeR (⟨#[115]⟩ : ByteArray).data.toList 1 1 [⟨m1, m2, m3⟩] = ⟨1, 1, [⟨m1, m2, m3⟩], uz⟩ := by rw [← huz]; rfl
        rw [hmr] at hly
        have HM2 : Hid (∀ (g : Nat) W, Below w.heap.size w W → W.heap[g]? = some (.cells #[.string m1, .int .i64 m2, .int .i64 m3] 35 (0, 0)) → Calls Tryd.prog 23 #[.string ⟨#[115]⟩, .int .i64 1, .int .i64 1, .slice (some ⟨g, 0, none⟩) 1 1] W fun e w' => MdTo W (⟨1, 1, [⟨m1, m2, m3⟩], uz⟩, true) e w') := fun g W hW hg => by
          have h5 := HM1.out ⟨m1, m2, m3⟩ g W hW hg hmok
          rw [hmr] at h5
          exact h5
        have HLU0 : Hid (∀ W (ua : Option Addr) (un uc : Nat), Kw W ua un uc [⟨m1, m2, m3⟩] → Calls Tryd.prog 21 #[.agg #[.int .i64 1, .int .i64 1, .slice ua un uc, .string uz], .int .i64 x1, .string s2, .int .i64 y1] W fun e w' => e = .returned (.bool (lt && decide (y1 ≤ 1099511627776))) ∧ Below W.heap.size W w') := fun W ua un uc hk => by
          have h5 := lets_any 1 1 uz x1 s2 y1 hk (fun d hd => by rw [List.mem_singleton.1 hd]; show m1.size ≤ _; omega) (by omega)
          rw [hly] at h5
          exact h5
        clear hlt hmf hb1m hly hmok hmp huz hmr HM1
        go_wp2_with fail
        refine HME.mono ?_
        rintro e V5 ⟨rfl, hb5⟩
        obtain ⟨V6, hV6, r6, hb6⟩ := box_cv (w := V5) m1 m2 m3
        obtain ⟨mb, hmb⟩ : ∃ mb, V5.heap.size = mb := ⟨_, rfl⟩
        rw [hmb] at r6
        have hb46 : Below V4.heap.size V4 V6 := hb5.trans (hb6.mono hb5.size)
        have hB6 : Below V3.heap.size V3 V6 := H4.out.1.trans (hb46.mono H4.out.1.size)
        obtain ⟨e0, e1, e2, _⟩ := row3 r6
        obtain ⟨V7, hV7, r7, hb7⟩ := box_cv (w := V6) m1 m2 m3
        obtain ⟨gb, hgb⟩ : ∃ gb, V6.heap.size = gb := ⟨_, rfl⟩
        have hgm : mb + 1 = gb := by rw [← hgb, ← hV6, ← hmb]; simp
        rw [hgb] at r7
        have hB7 : Below V3.heap.size V3 V7 := hB6.trans (hb7.mono hB6.size)
        have HMU := HM2.out gb V7 (HT.out V7 hB7).2.2 r7
        have H7 : Hid (Below V3.heap.size V3 V7) := hB7
        clear HME hb5 hb6 r6 hb46 hB6 r7 hb7 hB7 y0 y1' y2 y3
        go_wp2_with fail
        refine HMU.mono ?_
        rintro e V8 ⟨ua, un, uc, rfl, hku, hb8⟩
        simp only at hku ⊢
        obtain ⟨V9, hV9, r9, hb9⟩ := box_tk (w := V8) 1 1 ua un uc uz
        obtain ⟨ub, hub⟩ : ∃ ub, V8.heap.size = ub := ⟨_, rfl⟩
        rw [hub] at r9
        have hB9 : Below V3.heap.size V3 V9 := H7.out.trans ((hb8.trans (hb9.mono hb8.size)).mono H7.out.size)
        have hku9 := hku.below hb9
        have HS : Hid (∀ W, Below V9.heap.size V9 W → (W.cell? ⟨ub, 0, none⟩ = some (.int .i64 1) ∧ W.cell? ⟨ub, 1, none⟩ = some (.int .i64 1) ∧ W.cell? ⟨ub, 2, none⟩ = some (.slice ua un uc) ∧ W.cell? ⟨ub, 3, none⟩ = some (.string uz)) ∧ W.cell? ⟨tb, 0, none⟩ = some (.int .i64 t1) ∧ W.cell? ⟨tb, 1, none⟩ = some (.int .i64 t2) ∧ W.cell? ⟨tb, 2, none⟩ = some (.slice ta tn tc) ∧ W.cell? ⟨tb, 3, none⟩ = some (.string t4)) := fun W hW => by
          obtain ⟨e0, e1, e2, e3, _⟩ := row4 ((hW.block ub (lt_of_some r9)).trans r9)
          exact ⟨⟨e0, e1, e2, e3⟩, (HT.out W (hB9.trans (hW.mono hB9.size))).1⟩
        have HLU : Hid (∀ W, Below V9.heap.size V9 W → Calls Tryd.prog 21 #[.agg #[.int .i64 1, .int .i64 1, .slice ua un uc, .string uz], .int .i64 x1, .string s2, .int .i64 y1] W fun e w' => e = .returned (.bool (lt && decide (y1 ≤ 1099511627776))) ∧ Below W.heap.size W w') := fun W hW => HLU0.out W ua un uc (hku9.below hW)
        have HLT : Hid (∀ W, Below V9.heap.size V9 W → Calls Tryd.prog 21 #[.agg #[.int .i64 t1, .int .i64 t2, .slice ta tn tc, .string t4], .int .i64 x1, .string s2, .int .i64 y1] W fun e w' => e = .returned (.bool lt) ∧ Below W.heap.size W w') := fun W hW => HLT0.out W (hB9.trans (hW.mono hB9.size))
        have H9 : Hid (Below w.heap.size w V9) := (HT.out V9 hB9).2.2
        obtain ⟨dn, hdn⟩ : ∃ dn, decide (y1 ≤ 1099511627776) = dn := ⟨_, rfl⟩
        rw [hdn] at HLU
        clear HMU hku hb8 hb9 r9 hB9 hku9 e0 e1 e2 HLU0 HLT0
        cases lt with
        | true =>
          have hll : (true && dn) = dn := rfl
          have hdd : (dn == dn) = true := by simp
          rw [hll] at HLU
          clear hll
          cases dn with
          | true =>
            go_wp2
            refine wp_region_held_drew (S := fun W => (W.cell? ⟨ub, 0, none⟩ = some (.int .i64 1) ∧ W.cell? ⟨ub, 1, none⟩ = some (.int .i64 1) ∧ W.cell? ⟨ub, 2, none⟩ = some (.slice ua un uc) ∧ W.cell? ⟨ub, 3, none⟩ = some (.string uz)) ∧ W.cell? ⟨tb, 0, none⟩ = some (.int .i64 t1) ∧ W.cell? ⟨tb, 1, none⟩ = some (.int .i64 t2) ∧ W.cell? ⟨tb, 2, none⟩ = some (.slice ta tn tc) ∧ W.cell? ⟨tb, 3, none⟩ = some (.string t4)) (by kernel_rfl) (HS.out V9.drew (Below.refl _ V9).drew) (fun hHeld => ?_)
            refine wpAnyH_take (i := 0) (v := ?va_0) rfl (by kernel_rfl) (by kernel_rfl) (by kernel_rfl) (fun _ _ _ h => h) (Or.inl ⟨by first | kernel_rfl | rfl, ?ya_0⟩) hHeld ?ra_0
            case ya_0 => (intro W hSW; (try dsimp only at hSW); go_simp; (try with_reducible rfl))
            change wpAnyH _ _ _ _ _ _ _ (Act.put _ (some 63) _) _
            simp only [Act.put, List.setIfInBounds_toArray, List.set_cons_zero, List.set_cons_succ]
            refine wpAnyH_take (i := 1) (v := ?va_1) rfl (by kernel_rfl) (by kernel_rfl) (by kernel_rfl) (fun _ _ _ h => h) (Or.inl ⟨by first | kernel_rfl | rfl, ?ya_1⟩) hHeld ?ra_1
            case ya_1 => (intro W hSW; (try dsimp only at hSW); go_simp; (try with_reducible rfl))
            change wpAnyH _ _ _ _ _ _ _ (Act.put _ (some 64) _) _
            simp only [Act.put, List.setIfInBounds_toArray, List.set_cons_zero, List.set_cons_succ]
            refine wpAnyH_take (i := 2) (v := ?va_2) rfl (by kernel_rfl) (by kernel_rfl) (by kernel_rfl) (fun _ _ _ h => h) (Or.inl ⟨by first | kernel_rfl | rfl, ?ya_2⟩) hHeld ?ra_2
            case ya_2 => (intro W hSW; (try dsimp only at hSW); go_simp; (try with_reducible rfl))
            change wpAnyH _ _ _ _ _ _ _ (Act.put _ (some 65) _) _
            simp only [Act.put, List.setIfInBounds_toArray, List.set_cons_zero, List.set_cons_succ]
            refine wpAnyH_take (i := 3) (v := ?va_3) rfl (by kernel_rfl) (by kernel_rfl) (by kernel_rfl) (fun _ _ _ h => h) (Or.inl ⟨by first | kernel_rfl | rfl, ?ya_3⟩) hHeld ?ra_3
            case ya_3 => (intro W hSW; (try dsimp only at hSW); go_simp; (try with_reducible rfl))
            change wpAnyH _ _ _ _ _ _ _ (Act.put _ (some 66) _) _
            simp only [Act.put, List.setIfInBounds_toArray, List.set_cons_zero, List.set_cons_succ]
            refine wpAnyH_take (i := 4) (v := ?va_4) rfl (by kernel_rfl) (by kernel_rfl) (by kernel_rfl) (fun _ _ _ h => h) (Or.inl ⟨by first | kernel_rfl | rfl, ?ya_4⟩) hHeld ?ra_4
            case ya_4 => (intro W hSW; (try dsimp only at hSW); go_simp; (try with_reducible rfl))
            change wpAnyH _ _ _ _ _ _ _ (Act.put _ (some 67) _) _
            simp only [Act.put, List.setIfInBounds_toArray, List.set_cons_zero, List.set_cons_succ]
            refine wpAnyH_take (i := 5) (v := ?va_5) rfl (by kernel_rfl) (by kernel_rfl) (by kernel_rfl) (fun _ _ _ h => h) (Or.inl ⟨by first | kernel_rfl | rfl, ?ya_5⟩) hHeld ?ra_5
            case ya_5 => (intro W hSW; (try dsimp only at hSW); go_simp; (try with_reducible rfl))
            change wpAnyH _ _ _ _ _ _ _ (Act.put _ (some 68) _) _
            simp only [Act.put, List.setIfInBounds_toArray, List.set_cons_zero, List.set_cons_succ]
            refine wpAnyH_take (i := 7) (v := ?va_7) rfl (by kernel_rfl) (by kernel_rfl) (by kernel_rfl) (fun _ _ _ h => h) (Or.inl ⟨by first | kernel_rfl | rfl, ?ya_7⟩) hHeld ?ra_7
            case ya_7 => (intro W hSW; (try dsimp only at hSW); go_simp; (try with_reducible rfl))
            change wpAnyH _ _ _ _ _ _ _ (Act.put _ (some 70) _) _
            simp only [Act.put, List.setIfInBounds_toArray, List.set_cons_zero, List.set_cons_succ]
            refine wpAnyH_take (i := 8) (v := ?va_8) rfl (by kernel_rfl) (by kernel_rfl) (by kernel_rfl) (fun _ _ _ h => h) (Or.inl ⟨by first | kernel_rfl | rfl, ?ya_8⟩) hHeld ?ra_8
            case ya_8 => (intro W hSW; (try dsimp only at hSW); go_simp; (try with_reducible rfl))
            change wpAnyH _ _ _ _ _ _ _ (Act.put _ (some 71) _) _
            simp only [Act.put, List.setIfInBounds_toArray, List.set_cons_zero, List.set_cons_succ]
            refine wpAnyH_take (i := 9) (v := ?va_9) rfl (by kernel_rfl) (by kernel_rfl) (by kernel_rfl) (fun _ _ _ h => h) (Or.inl ⟨by first | kernel_rfl | rfl, ?ya_9⟩) hHeld ?ra_9
            case ya_9 => (intro W hSW; (try dsimp only at hSW); go_simp; (try with_reducible rfl))
            change wpAnyH _ _ _ _ _ _ _ (Act.put _ (some 72) _) _
            simp only [Act.put, List.setIfInBounds_toArray, List.set_cons_zero, List.set_cons_succ]
            refine wpAnyH_take (i := 10) (v := ?va_10) rfl (by kernel_rfl) (by kernel_rfl) (by kernel_rfl) (fun _ _ _ h => h) (Or.inl ⟨by first | kernel_rfl | rfl, ?ya_10⟩) hHeld ?ra_10
            case ya_10 => (intro W hSW; (try dsimp only at hSW); go_simp; (try with_reducible rfl))
            change wpAnyH _ _ _ _ _ _ _ (Act.put _ (some 73) _) _
            simp only [Act.put, List.setIfInBounds_toArray, List.set_cons_zero, List.set_cons_succ]
            refine wpAnyH_ready (rs := [6]) (by kernel_rfl) (by simp) ?_
            refine AllReadyH.cons rfl (fun K hK => ?_) AllReadyH.nil
            go_simp
            refine (HLU.out V9.drew ((Below.refl _ V9).drew)).mono ?_
            rintro e V10 ⟨rfl, hb10⟩
            refine hK.out _ _ (HS.out V10 ((Below.refl _ V9).drew.trans hb10)) (fun hHeld => ?_)
            clear hK K
            try simp only [Act.put, List.setIfInBounds_toArray, List.set_cons_zero, List.set_cons_succ]
            have H10 : Hid (Below V9.heap.size V9 V10) := (Below.refl _ V9).drew.trans hb10
            clear hb10
            refine wpAnyH_ready (rs := [11]) (by kernel_rfl) (by simp) ?_
            refine AllReadyH.cons rfl (fun K hK => ?_) AllReadyH.nil
            go_simp
            refine (HLT.out V10 H10.out).mono ?_
            rintro e V11 ⟨rfl, hb11⟩
            refine hK.out _ _ (HS.out V11 (H10.out.trans (hb11.mono H10.out.size))) (fun hHeld => ?_)
            clear hK K
            try simp only [Act.put, List.setIfInBounds_toArray, List.set_cons_zero, List.set_cons_succ]
            have H11 : Hid (Below V9.heap.size V9 V11) := H10.out.trans (hb11.mono H10.out.size)
            clear hb11
            refine wpAnyH_take (i := 12) (v := ?va_12) rfl (by kernel_rfl) (by kernel_rfl) (by kernel_rfl) (fun _ _ _ h => h) (Or.inl ⟨by first | kernel_rfl | rfl, ?ya_12⟩) hHeld ?ra_12
            case ya_12 => (intro W hSW; (try dsimp only at hSW); go_simp; (try with_reducible rfl))
            change wpAnyH _ _ _ _ _ _ _ (Act.put _ (some 75) _) _
            simp only [Act.put, List.setIfInBounds_toArray, List.set_cons_zero, List.set_cons_succ]
            refine wpAnyH_take (i := 13) (v := ?va_13) rfl (by kernel_rfl) (by kernel_rfl) (by kernel_rfl) (fun _ _ _ h => h) (Or.inl ⟨by first | kernel_rfl | rfl, ?ya_13⟩) hHeld ?ra_13
            case ya_13 => (intro W hSW; (try dsimp only at hSW); go_simp; (try with_reducible rfl))
            change wpAnyH _ _ _ _ _ _ _ (Act.put _ (some 76) _) _
            simp only [Act.put, List.setIfInBounds_toArray, List.set_cons_zero, List.set_cons_succ]
            refine wpAnyH_take (i := 14) (v := ?va_14) rfl (by kernel_rfl) (by kernel_rfl) (by kernel_rfl) (fun _ _ _ h => h) (Or.inl ⟨by first | kernel_rfl | rfl, ?ya_14⟩) hHeld ?ra_14
            case ya_14 => (intro W hSW; (try dsimp only at hSW); go_simp; (try with_reducible rfl))
            change wpAnyH _ _ _ _ _ _ _ (Act.put _ (some 77) _) _
            simp only [Act.put, List.setIfInBounds_toArray, List.set_cons_zero, List.set_cons_succ]
            refine wpAnyH_take (i := 15) (v := ?va_15) rfl (by kernel_rfl) (by kernel_rfl) (by kernel_rfl) (fun _ _ _ h => h) (Or.inl ⟨by first | kernel_rfl | rfl, ?ya_15⟩) hHeld ?ra_15
            case ya_15 => (intro W hSW; (try dsimp only at hSW); go_simp; (try with_reducible rfl))
            change wpAnyH _ _ _ _ _ _ _ (Act.put _ (some 78) _) _
            simp only [Act.put, List.setIfInBounds_toArray, List.set_cons_zero, List.set_cons_succ]
            refine wpAnyH_take (i := 16) (v := ?va_16) rfl (by kernel_rfl) (by kernel_rfl) (by kernel_rfl) (fun _ _ _ h => h) (Or.inl ⟨by first | kernel_rfl | rfl, ?ya_16⟩) hHeld ?ra_16
            case ya_16 => (intro W hSW; (try dsimp only at hSW); go_simp; (try with_reducible rfl))
            change wpAnyH _ _ _ _ _ _ _ (Act.put _ (some 79) _) _
            simp only [Act.put, List.setIfInBounds_toArray, List.set_cons_zero, List.set_cons_succ]
            refine wpAnyH_take (i := 17) (v := ?va_17) rfl (by kernel_rfl) (by kernel_rfl) (by kernel_rfl) (fun _ _ _ h => h) (Or.inl ⟨by first | kernel_rfl | rfl, ?ya_17⟩) hHeld ?ra_17
            case ya_17 => (intro W hSW; (try dsimp only at hSW); go_simp; (try with_reducible rfl))
            change wpAnyH _ _ _ _ _ _ _ (Act.put _ (some 80) _) _
            simp only [Act.put, List.setIfInBounds_toArray, List.set_cons_zero, List.set_cons_succ]
            refine wpAnyH_take (i := 18) (v := ?va_18) rfl (by kernel_rfl) (by kernel_rfl) (by kernel_rfl) (fun _ _ _ h => h) (Or.inl ⟨by first | kernel_rfl | rfl, ?ya_18⟩) hHeld ?ra_18
            case ya_18 => (intro W hSW; (try dsimp only at hSW); go_simp; (try with_reducible rfl))
            change wpAnyH _ _ _ _ _ _ _ (Act.put _ (some 81) _) _
            simp only [Act.put, List.setIfInBounds_toArray, List.set_cons_zero, List.set_cons_succ]
            refine wpAnyH_ready (rs := [19]) (by kernel_rfl) (by simp) ?_
            refine AllReadyH.cons rfl (fun K hK => ?_) AllReadyH.nil
            go_simp
            refine (HLV2.out V11 (H9.out.trans (H11.out.mono H9.out.size))).mono ?_
            rintro e V12 ⟨rfl, hb12⟩
            refine hK.out _ _ (HS.out V12 (H11.out.trans (hb12.mono H11.out.size))) (fun hHeld => ?_)
            clear hK K
            try simp only [Act.put, List.setIfInBounds_toArray, List.set_cons_zero, List.set_cons_succ]
            have H12 : Hid (Below w.heap.size w V12) := H9.out.trans ((H11.out.trans (hb12.mono H11.out.size)).mono H9.out.size)
            clear hb12
            refine wpAnyH_take (i := 20) (v := ?va_20) rfl (by kernel_rfl) (by kernel_rfl) (by kernel_rfl) (fun _ _ _ h => h) (Or.inl ⟨by first | kernel_rfl | rfl, ?ya_20⟩) hHeld ?ra_20
            case ya_20 => (intro W hSW; (try dsimp only at hSW); go_simp; (try with_reducible rfl))
            change wpAnyH _ _ _ _ _ _ _ (Act.put _ (some 83) _) _
            simp only [Act.put, List.setIfInBounds_toArray, List.set_cons_zero, List.set_cons_succ]
            refine wpAnyH_take (i := 21) (v := ?va_21) rfl (by kernel_rfl) (by kernel_rfl) (by kernel_rfl) (fun _ _ _ h => h) (Or.inl ⟨by first | kernel_rfl | rfl, ?ya_21⟩) hHeld ?ra_21
            case ya_21 => (intro W hSW; (try dsimp only at hSW); go_simp; (try with_reducible rfl))
            change wpAnyH _ _ _ _ _ _ _ (Act.put _ (some 6) _) _
            simp only [Act.put, List.setIfInBounds_toArray, List.set_cons_zero, List.set_cons_succ]
            refine wpAnyH_done (by kernel_rfl) ?_ _
            go_wp2
            go_ret
            exact ⟨rfl, H12.out⟩
          | false =>
            go_wp2
            refine wp_region_held_drew (S := fun W => (W.cell? ⟨ub, 0, none⟩ = some (.int .i64 1) ∧ W.cell? ⟨ub, 1, none⟩ = some (.int .i64 1) ∧ W.cell? ⟨ub, 2, none⟩ = some (.slice ua un uc) ∧ W.cell? ⟨ub, 3, none⟩ = some (.string uz)) ∧ W.cell? ⟨tb, 0, none⟩ = some (.int .i64 t1) ∧ W.cell? ⟨tb, 1, none⟩ = some (.int .i64 t2) ∧ W.cell? ⟨tb, 2, none⟩ = some (.slice ta tn tc) ∧ W.cell? ⟨tb, 3, none⟩ = some (.string t4)) (by kernel_rfl) (HS.out V9.drew (Below.refl _ V9).drew) (fun hHeld => ?_)
            refine wpAnyH_take (i := 0) (v := ?vb_0) rfl (by kernel_rfl) (by kernel_rfl) (by kernel_rfl) (fun _ _ _ h => h) (Or.inl ⟨by first | kernel_rfl | rfl, ?yb_0⟩) hHeld ?rb_0
            case yb_0 => (intro W hSW; (try dsimp only at hSW); go_simp; (try with_reducible rfl))
            change wpAnyH _ _ _ _ _ _ _ (Act.put _ (some 63) _) _
            simp only [Act.put, List.setIfInBounds_toArray, List.set_cons_zero, List.set_cons_succ]
            refine wpAnyH_take (i := 1) (v := ?vb_1) rfl (by kernel_rfl) (by kernel_rfl) (by kernel_rfl) (fun _ _ _ h => h) (Or.inl ⟨by first | kernel_rfl | rfl, ?yb_1⟩) hHeld ?rb_1
            case yb_1 => (intro W hSW; (try dsimp only at hSW); go_simp; (try with_reducible rfl))
            change wpAnyH _ _ _ _ _ _ _ (Act.put _ (some 64) _) _
            simp only [Act.put, List.setIfInBounds_toArray, List.set_cons_zero, List.set_cons_succ]
            refine wpAnyH_take (i := 2) (v := ?vb_2) rfl (by kernel_rfl) (by kernel_rfl) (by kernel_rfl) (fun _ _ _ h => h) (Or.inl ⟨by first | kernel_rfl | rfl, ?yb_2⟩) hHeld ?rb_2
            case yb_2 => (intro W hSW; (try dsimp only at hSW); go_simp; (try with_reducible rfl))
            change wpAnyH _ _ _ _ _ _ _ (Act.put _ (some 65) _) _
            simp only [Act.put, List.setIfInBounds_toArray, List.set_cons_zero, List.set_cons_succ]
            refine wpAnyH_take (i := 3) (v := ?vb_3) rfl (by kernel_rfl) (by kernel_rfl) (by kernel_rfl) (fun _ _ _ h => h) (Or.inl ⟨by first | kernel_rfl | rfl, ?yb_3⟩) hHeld ?rb_3
            case yb_3 => (intro W hSW; (try dsimp only at hSW); go_simp; (try with_reducible rfl))
            change wpAnyH _ _ _ _ _ _ _ (Act.put _ (some 66) _) _
            simp only [Act.put, List.setIfInBounds_toArray, List.set_cons_zero, List.set_cons_succ]
            refine wpAnyH_take (i := 4) (v := ?vb_4) rfl (by kernel_rfl) (by kernel_rfl) (by kernel_rfl) (fun _ _ _ h => h) (Or.inl ⟨by first | kernel_rfl | rfl, ?yb_4⟩) hHeld ?rb_4
            case yb_4 => (intro W hSW; (try dsimp only at hSW); go_simp; (try with_reducible rfl))
            change wpAnyH _ _ _ _ _ _ _ (Act.put _ (some 67) _) _
            simp only [Act.put, List.setIfInBounds_toArray, List.set_cons_zero, List.set_cons_succ]
            refine wpAnyH_take (i := 5) (v := ?vb_5) rfl (by kernel_rfl) (by kernel_rfl) (by kernel_rfl) (fun _ _ _ h => h) (Or.inl ⟨by first | kernel_rfl | rfl, ?yb_5⟩) hHeld ?rb_5
            case yb_5 => (intro W hSW; (try dsimp only at hSW); go_simp; (try with_reducible rfl))
            change wpAnyH _ _ _ _ _ _ _ (Act.put _ (some 68) _) _
            simp only [Act.put, List.setIfInBounds_toArray, List.set_cons_zero, List.set_cons_succ]
            refine wpAnyH_take (i := 7) (v := ?vb_7) rfl (by kernel_rfl) (by kernel_rfl) (by kernel_rfl) (fun _ _ _ h => h) (Or.inl ⟨by first | kernel_rfl | rfl, ?yb_7⟩) hHeld ?rb_7
            case yb_7 => (intro W hSW; (try dsimp only at hSW); go_simp; (try with_reducible rfl))
            change wpAnyH _ _ _ _ _ _ _ (Act.put _ (some 70) _) _
            simp only [Act.put, List.setIfInBounds_toArray, List.set_cons_zero, List.set_cons_succ]
            refine wpAnyH_take (i := 8) (v := ?vb_8) rfl (by kernel_rfl) (by kernel_rfl) (by kernel_rfl) (fun _ _ _ h => h) (Or.inl ⟨by first | kernel_rfl | rfl, ?yb_8⟩) hHeld ?rb_8
            case yb_8 => (intro W hSW; (try dsimp only at hSW); go_simp; (try with_reducible rfl))
            change wpAnyH _ _ _ _ _ _ _ (Act.put _ (some 71) _) _
            simp only [Act.put, List.setIfInBounds_toArray, List.set_cons_zero, List.set_cons_succ]
            refine wpAnyH_take (i := 9) (v := ?vb_9) rfl (by kernel_rfl) (by kernel_rfl) (by kernel_rfl) (fun _ _ _ h => h) (Or.inl ⟨by first | kernel_rfl | rfl, ?yb_9⟩) hHeld ?rb_9
            case yb_9 => (intro W hSW; (try dsimp only at hSW); go_simp; (try with_reducible rfl))
            change wpAnyH _ _ _ _ _ _ _ (Act.put _ (some 72) _) _
            simp only [Act.put, List.setIfInBounds_toArray, List.set_cons_zero, List.set_cons_succ]
            refine wpAnyH_take (i := 10) (v := ?vb_10) rfl (by kernel_rfl) (by kernel_rfl) (by kernel_rfl) (fun _ _ _ h => h) (Or.inl ⟨by first | kernel_rfl | rfl, ?yb_10⟩) hHeld ?rb_10
            case yb_10 => (intro W hSW; (try dsimp only at hSW); go_simp; (try with_reducible rfl))
            change wpAnyH _ _ _ _ _ _ _ (Act.put _ (some 73) _) _
            simp only [Act.put, List.setIfInBounds_toArray, List.set_cons_zero, List.set_cons_succ]
            refine wpAnyH_ready (rs := [6]) (by kernel_rfl) (by simp) ?_
            refine AllReadyH.cons rfl (fun K hK => ?_) AllReadyH.nil
            go_simp
            refine (HLU.out V9.drew ((Below.refl _ V9).drew)).mono ?_
            rintro e V10 ⟨rfl, hb10⟩
            refine hK.out _ _ (HS.out V10 ((Below.refl _ V9).drew.trans hb10)) (fun hHeld => ?_)
            clear hK K
            try simp only [Act.put, List.setIfInBounds_toArray, List.set_cons_zero, List.set_cons_succ]
            have H10 : Hid (Below V9.heap.size V9 V10) := (Below.refl _ V9).drew.trans hb10
            clear hb10
            refine wpAnyH_ready (rs := [11]) (by kernel_rfl) (by simp) ?_
            refine AllReadyH.cons rfl (fun K hK => ?_) AllReadyH.nil
            go_simp
            refine (HLT.out V10 H10.out).mono ?_
            rintro e V11 ⟨rfl, hb11⟩
            refine hK.out _ _ (HS.out V11 (H10.out.trans (hb11.mono H10.out.size))) (fun hHeld => ?_)
            clear hK K
            try simp only [Act.put, List.setIfInBounds_toArray, List.set_cons_zero, List.set_cons_succ]
            have H11 : Hid (Below V9.heap.size V9 V11) := H10.out.trans (hb11.mono H10.out.size)
            clear hb11
            refine wpAnyH_take (i := 12) (v := ?vb_12) rfl (by kernel_rfl) (by kernel_rfl) (by kernel_rfl) (fun _ _ _ h => h) (Or.inl ⟨by first | kernel_rfl | rfl, ?yb_12⟩) hHeld ?rb_12
            case yb_12 => (intro W hSW; (try dsimp only at hSW); go_simp; (try with_reducible rfl))
            change wpAnyH _ _ _ _ _ _ _ (Act.put _ (some 75) _) _
            simp only [Act.put, List.setIfInBounds_toArray, List.set_cons_zero, List.set_cons_succ]
            refine wpAnyH_take (i := 13) (v := ?vb_13) rfl (by kernel_rfl) (by kernel_rfl) (by kernel_rfl) (fun _ _ _ h => h) (Or.inl ⟨by first | kernel_rfl | rfl, ?yb_13⟩) hHeld ?rb_13
            case yb_13 => (intro W hSW; (try dsimp only at hSW); go_simp; (try with_reducible rfl))
            change wpAnyH _ _ _ _ _ _ _ (Act.put _ (some 76) _) _
            simp only [Act.put, List.setIfInBounds_toArray, List.set_cons_zero, List.set_cons_succ]
            refine wpAnyH_take (i := 14) (v := ?vb_14) rfl (by kernel_rfl) (by kernel_rfl) (by kernel_rfl) (fun _ _ _ h => h) (Or.inl ⟨by first | kernel_rfl | rfl, ?yb_14⟩) hHeld ?rb_14
            case yb_14 => (intro W hSW; (try dsimp only at hSW); go_simp; (try with_reducible rfl))
            change wpAnyH _ _ _ _ _ _ _ (Act.put _ (some 77) _) _
            simp only [Act.put, List.setIfInBounds_toArray, List.set_cons_zero, List.set_cons_succ]
            refine wpAnyH_take (i := 15) (v := ?vb_15) rfl (by kernel_rfl) (by kernel_rfl) (by kernel_rfl) (fun _ _ _ h => h) (Or.inl ⟨by first | kernel_rfl | rfl, ?yb_15⟩) hHeld ?rb_15
            case yb_15 => (intro W hSW; (try dsimp only at hSW); go_simp; (try with_reducible rfl))
            change wpAnyH _ _ _ _ _ _ _ (Act.put _ (some 78) _) _
            simp only [Act.put, List.setIfInBounds_toArray, List.set_cons_zero, List.set_cons_succ]
            refine wpAnyH_take (i := 16) (v := ?vb_16) rfl (by kernel_rfl) (by kernel_rfl) (by kernel_rfl) (fun _ _ _ h => h) (Or.inl ⟨by first | kernel_rfl | rfl, ?yb_16⟩) hHeld ?rb_16
            case yb_16 => (intro W hSW; (try dsimp only at hSW); go_simp; (try with_reducible rfl))
            change wpAnyH _ _ _ _ _ _ _ (Act.put _ (some 79) _) _
            simp only [Act.put, List.setIfInBounds_toArray, List.set_cons_zero, List.set_cons_succ]
            refine wpAnyH_take (i := 17) (v := ?vb_17) rfl (by kernel_rfl) (by kernel_rfl) (by kernel_rfl) (fun _ _ _ h => h) (Or.inl ⟨by first | kernel_rfl | rfl, ?yb_17⟩) hHeld ?rb_17
            case yb_17 => (intro W hSW; (try dsimp only at hSW); go_simp; (try with_reducible rfl))
            change wpAnyH _ _ _ _ _ _ _ (Act.put _ (some 80) _) _
            simp only [Act.put, List.setIfInBounds_toArray, List.set_cons_zero, List.set_cons_succ]
            refine wpAnyH_take (i := 18) (v := ?vb_18) rfl (by kernel_rfl) (by kernel_rfl) (by kernel_rfl) (fun _ _ _ h => h) (Or.inl ⟨by first | kernel_rfl | rfl, ?yb_18⟩) hHeld ?rb_18
            case yb_18 => (intro W hSW; (try dsimp only at hSW); go_simp; (try with_reducible rfl))
            change wpAnyH _ _ _ _ _ _ _ (Act.put _ (some 81) _) _
            simp only [Act.put, List.setIfInBounds_toArray, List.set_cons_zero, List.set_cons_succ]
            refine wpAnyH_ready (rs := [19]) (by kernel_rfl) (by simp) ?_
            refine AllReadyH.cons rfl (fun K hK => ?_) AllReadyH.nil
            go_simp
            refine (HLV2.out V11 (H9.out.trans (H11.out.mono H9.out.size))).mono ?_
            rintro e V12 ⟨rfl, hb12⟩
            refine hK.out _ _ (HS.out V12 (H11.out.trans (hb12.mono H11.out.size))) (fun hHeld => ?_)
            clear hK K
            try simp only [Act.put, List.setIfInBounds_toArray, List.set_cons_zero, List.set_cons_succ]
            have H12 : Hid (Below w.heap.size w V12) := H9.out.trans ((H11.out.trans (hb12.mono H11.out.size)).mono H9.out.size)
            clear hb12
            refine wpAnyH_take (i := 20) (v := ?vb_20) rfl (by kernel_rfl) (by kernel_rfl) (by kernel_rfl) (fun _ _ _ h => h) (Or.inl ⟨by first | kernel_rfl | rfl, ?yb_20⟩) hHeld ?rb_20
            case yb_20 => (intro W hSW; (try dsimp only at hSW); go_simp; (try with_reducible rfl))
            change wpAnyH _ _ _ _ _ _ _ (Act.put _ (some 83) _) _
            simp only [Act.put, List.setIfInBounds_toArray, List.set_cons_zero, List.set_cons_succ]
            refine wpAnyH_take (i := 21) (v := ?vb_21) rfl (by kernel_rfl) (by kernel_rfl) (by kernel_rfl) (fun _ _ _ h => h) (Or.inl ⟨by first | kernel_rfl | rfl, ?yb_21⟩) hHeld ?rb_21
            case yb_21 => (intro W hSW; (try dsimp only at hSW); go_simp; (try with_reducible rfl))
            change wpAnyH _ _ _ _ _ _ _ (Act.put _ (some 6) _) _
            simp only [Act.put, List.setIfInBounds_toArray, List.set_cons_zero, List.set_cons_succ]
            refine wpAnyH_done (by kernel_rfl) ?_ _
            go_wp2
            go_ret
            exact ⟨rfl, H12.out⟩
        | false =>
          have hll : (false && dn) = false := rfl
          rw [hll] at HLU
          clear hll
          · go_wp2
            refine wp_region_held_drew (S := fun W => (W.cell? ⟨ub, 0, none⟩ = some (.int .i64 1) ∧ W.cell? ⟨ub, 1, none⟩ = some (.int .i64 1) ∧ W.cell? ⟨ub, 2, none⟩ = some (.slice ua un uc) ∧ W.cell? ⟨ub, 3, none⟩ = some (.string uz)) ∧ W.cell? ⟨tb, 0, none⟩ = some (.int .i64 t1) ∧ W.cell? ⟨tb, 1, none⟩ = some (.int .i64 t2) ∧ W.cell? ⟨tb, 2, none⟩ = some (.slice ta tn tc) ∧ W.cell? ⟨tb, 3, none⟩ = some (.string t4)) (by kernel_rfl) (HS.out V9.drew (Below.refl _ V9).drew) (fun hHeld => ?_)
            refine wpAnyH_take (i := 0) (v := ?vc_0) rfl (by kernel_rfl) (by kernel_rfl) (by kernel_rfl) (fun _ _ _ h => h) (Or.inl ⟨by first | kernel_rfl | rfl, ?yc_0⟩) hHeld ?rc_0
            case yc_0 => (intro W hSW; (try dsimp only at hSW); go_simp; (try with_reducible rfl))
            change wpAnyH _ _ _ _ _ _ _ (Act.put _ (some 63) _) _
            simp only [Act.put, List.setIfInBounds_toArray, List.set_cons_zero, List.set_cons_succ]
            refine wpAnyH_take (i := 1) (v := ?vc_1) rfl (by kernel_rfl) (by kernel_rfl) (by kernel_rfl) (fun _ _ _ h => h) (Or.inl ⟨by first | kernel_rfl | rfl, ?yc_1⟩) hHeld ?rc_1
            case yc_1 => (intro W hSW; (try dsimp only at hSW); go_simp; (try with_reducible rfl))
            change wpAnyH _ _ _ _ _ _ _ (Act.put _ (some 64) _) _
            simp only [Act.put, List.setIfInBounds_toArray, List.set_cons_zero, List.set_cons_succ]
            refine wpAnyH_take (i := 2) (v := ?vc_2) rfl (by kernel_rfl) (by kernel_rfl) (by kernel_rfl) (fun _ _ _ h => h) (Or.inl ⟨by first | kernel_rfl | rfl, ?yc_2⟩) hHeld ?rc_2
            case yc_2 => (intro W hSW; (try dsimp only at hSW); go_simp; (try with_reducible rfl))
            change wpAnyH _ _ _ _ _ _ _ (Act.put _ (some 65) _) _
            simp only [Act.put, List.setIfInBounds_toArray, List.set_cons_zero, List.set_cons_succ]
            refine wpAnyH_take (i := 3) (v := ?vc_3) rfl (by kernel_rfl) (by kernel_rfl) (by kernel_rfl) (fun _ _ _ h => h) (Or.inl ⟨by first | kernel_rfl | rfl, ?yc_3⟩) hHeld ?rc_3
            case yc_3 => (intro W hSW; (try dsimp only at hSW); go_simp; (try with_reducible rfl))
            change wpAnyH _ _ _ _ _ _ _ (Act.put _ (some 66) _) _
            simp only [Act.put, List.setIfInBounds_toArray, List.set_cons_zero, List.set_cons_succ]
            refine wpAnyH_take (i := 4) (v := ?vc_4) rfl (by kernel_rfl) (by kernel_rfl) (by kernel_rfl) (fun _ _ _ h => h) (Or.inl ⟨by first | kernel_rfl | rfl, ?yc_4⟩) hHeld ?rc_4
            case yc_4 => (intro W hSW; (try dsimp only at hSW); go_simp; (try with_reducible rfl))
            change wpAnyH _ _ _ _ _ _ _ (Act.put _ (some 67) _) _
            simp only [Act.put, List.setIfInBounds_toArray, List.set_cons_zero, List.set_cons_succ]
            refine wpAnyH_take (i := 5) (v := ?vc_5) rfl (by kernel_rfl) (by kernel_rfl) (by kernel_rfl) (fun _ _ _ h => h) (Or.inl ⟨by first | kernel_rfl | rfl, ?yc_5⟩) hHeld ?rc_5
            case yc_5 => (intro W hSW; (try dsimp only at hSW); go_simp; (try with_reducible rfl))
            change wpAnyH _ _ _ _ _ _ _ (Act.put _ (some 68) _) _
            simp only [Act.put, List.setIfInBounds_toArray, List.set_cons_zero, List.set_cons_succ]
            refine wpAnyH_take (i := 7) (v := ?vc_7) rfl (by kernel_rfl) (by kernel_rfl) (by kernel_rfl) (fun _ _ _ h => h) (Or.inl ⟨by first | kernel_rfl | rfl, ?yc_7⟩) hHeld ?rc_7
            case yc_7 => (intro W hSW; (try dsimp only at hSW); go_simp; (try with_reducible rfl))
            change wpAnyH _ _ _ _ _ _ _ (Act.put _ (some 70) _) _
            simp only [Act.put, List.setIfInBounds_toArray, List.set_cons_zero, List.set_cons_succ]
            refine wpAnyH_take (i := 8) (v := ?vc_8) rfl (by kernel_rfl) (by kernel_rfl) (by kernel_rfl) (fun _ _ _ h => h) (Or.inl ⟨by first | kernel_rfl | rfl, ?yc_8⟩) hHeld ?rc_8
            case yc_8 => (intro W hSW; (try dsimp only at hSW); go_simp; (try with_reducible rfl))
            change wpAnyH _ _ _ _ _ _ _ (Act.put _ (some 71) _) _
            simp only [Act.put, List.setIfInBounds_toArray, List.set_cons_zero, List.set_cons_succ]
            refine wpAnyH_take (i := 9) (v := ?vc_9) rfl (by kernel_rfl) (by kernel_rfl) (by kernel_rfl) (fun _ _ _ h => h) (Or.inl ⟨by first | kernel_rfl | rfl, ?yc_9⟩) hHeld ?rc_9
            case yc_9 => (intro W hSW; (try dsimp only at hSW); go_simp; (try with_reducible rfl))
            change wpAnyH _ _ _ _ _ _ _ (Act.put _ (some 72) _) _
            simp only [Act.put, List.setIfInBounds_toArray, List.set_cons_zero, List.set_cons_succ]
            refine wpAnyH_take (i := 10) (v := ?vc_10) rfl (by kernel_rfl) (by kernel_rfl) (by kernel_rfl) (fun _ _ _ h => h) (Or.inl ⟨by first | kernel_rfl | rfl, ?yc_10⟩) hHeld ?rc_10
            case yc_10 => (intro W hSW; (try dsimp only at hSW); go_simp; (try with_reducible rfl))
            change wpAnyH _ _ _ _ _ _ _ (Act.put _ (some 73) _) _
            simp only [Act.put, List.setIfInBounds_toArray, List.set_cons_zero, List.set_cons_succ]
            refine wpAnyH_ready (rs := [6]) (by kernel_rfl) (by simp) ?_
            refine AllReadyH.cons rfl (fun K hK => ?_) AllReadyH.nil
            go_simp
            refine (HLU.out V9.drew ((Below.refl _ V9).drew)).mono ?_
            rintro e V10 ⟨rfl, hb10⟩
            refine hK.out _ _ (HS.out V10 ((Below.refl _ V9).drew.trans hb10)) (fun hHeld => ?_)
            clear hK K
            try simp only [Act.put, List.setIfInBounds_toArray, List.set_cons_zero, List.set_cons_succ]
            have H10 : Hid (Below V9.heap.size V9 V10) := (Below.refl _ V9).drew.trans hb10
            clear hb10
            refine wpAnyH_ready (rs := [11]) (by kernel_rfl) (by simp) ?_
            refine AllReadyH.cons rfl (fun K hK => ?_) AllReadyH.nil
            go_simp
            refine (HLT.out V10 H10.out).mono ?_
            rintro e V11 ⟨rfl, hb11⟩
            refine hK.out _ _ (HS.out V11 (H10.out.trans (hb11.mono H10.out.size))) (fun hHeld => ?_)
            clear hK K
            try simp only [Act.put, List.setIfInBounds_toArray, List.set_cons_zero, List.set_cons_succ]
            have H11 : Hid (Below V9.heap.size V9 V11) := H10.out.trans (hb11.mono H10.out.size)
            clear hb11
            refine wpAnyH_take (i := 12) (v := ?vc_12) rfl (by kernel_rfl) (by kernel_rfl) (by kernel_rfl) (fun _ _ _ h => h) (Or.inl ⟨by first | kernel_rfl | rfl, ?yc_12⟩) hHeld ?rc_12
            case yc_12 => (intro W hSW; (try dsimp only at hSW); go_simp; (try with_reducible rfl))
            change wpAnyH _ _ _ _ _ _ _ (Act.put _ (some 75) _) _
            simp only [Act.put, List.setIfInBounds_toArray, List.set_cons_zero, List.set_cons_succ]
            refine wpAnyH_take (i := 13) (v := undef) rfl (by kernel_rfl) (by kernel_rfl) (by kernel_rfl) (fun _ _ _ h => h) (Or.inr ⟨by first | kernel_rfl | rfl, rfl⟩) hHeld ?_
            change wpAnyH _ _ _ _ _ _ _ (Act.put _ (some 76) _) _
            simp only [Act.put, List.setIfInBounds_toArray, List.set_cons_zero, List.set_cons_succ]
            refine wpAnyH_take (i := 14) (v := undef) rfl (by kernel_rfl) (by kernel_rfl) (by kernel_rfl) (fun _ _ _ h => h) (Or.inr ⟨by first | kernel_rfl | rfl, rfl⟩) hHeld ?_
            change wpAnyH _ _ _ _ _ _ _ (Act.put _ (some 77) _) _
            simp only [Act.put, List.setIfInBounds_toArray, List.set_cons_zero, List.set_cons_succ]
            refine wpAnyH_take (i := 15) (v := ?vc_15) rfl (by kernel_rfl) (by kernel_rfl) (by kernel_rfl) (fun _ _ _ h => h) (Or.inl ⟨by first | kernel_rfl | rfl, ?yc_15⟩) hHeld ?rc_15
            case yc_15 => (intro W hSW; (try dsimp only at hSW); go_simp; (try with_reducible rfl))
            change wpAnyH _ _ _ _ _ _ _ (Act.put _ (some 78) _) _
            simp only [Act.put, List.setIfInBounds_toArray, List.set_cons_zero, List.set_cons_succ]
            refine wpAnyH_take (i := 16) (v := ?vc_16) rfl (by kernel_rfl) (by kernel_rfl) (by kernel_rfl) (fun _ _ _ h => h) (Or.inl ⟨by first | kernel_rfl | rfl, ?yc_16⟩) hHeld ?rc_16
            case yc_16 => (intro W hSW; (try dsimp only at hSW); go_simp; (try with_reducible rfl))
            change wpAnyH _ _ _ _ _ _ _ (Act.put _ (some 79) _) _
            simp only [Act.put, List.setIfInBounds_toArray, List.set_cons_zero, List.set_cons_succ]
            refine wpAnyH_take (i := 17) (v := ?vc_17) rfl (by kernel_rfl) (by kernel_rfl) (by kernel_rfl) (fun _ _ _ h => h) (Or.inl ⟨by first | kernel_rfl | rfl, ?yc_17⟩) hHeld ?rc_17
            case yc_17 => (intro W hSW; (try dsimp only at hSW); go_simp; (try with_reducible rfl))
            change wpAnyH _ _ _ _ _ _ _ (Act.put _ (some 80) _) _
            simp only [Act.put, List.setIfInBounds_toArray, List.set_cons_zero, List.set_cons_succ]
            refine wpAnyH_take (i := 18) (v := ?vc_18) rfl (by kernel_rfl) (by kernel_rfl) (by kernel_rfl) (fun _ _ _ h => h) (Or.inl ⟨by first | kernel_rfl | rfl, ?yc_18⟩) hHeld ?rc_18
            case yc_18 => (intro W hSW; (try dsimp only at hSW); go_simp; (try with_reducible rfl))
            change wpAnyH _ _ _ _ _ _ _ (Act.put _ (some 81) _) _
            simp only [Act.put, List.setIfInBounds_toArray, List.set_cons_zero, List.set_cons_succ]
            refine wpAnyH_ready (rs := [19]) (by kernel_rfl) (by simp) ?_
            refine AllReadyH.cons rfl (fun K hK => ?_) AllReadyH.nil
            go_simp
            refine (HLV2.out V11 (H9.out.trans (H11.out.mono H9.out.size))).mono ?_
            rintro e V12 ⟨rfl, hb12⟩
            refine hK.out _ _ (HS.out V12 (H11.out.trans (hb12.mono H11.out.size))) (fun hHeld => ?_)
            clear hK K
            try simp only [Act.put, List.setIfInBounds_toArray, List.set_cons_zero, List.set_cons_succ]
            have H12 : Hid (Below w.heap.size w V12) := H9.out.trans ((H11.out.trans (hb12.mono H11.out.size)).mono H9.out.size)
            clear hb12
            refine wpAnyH_take (i := 20) (v := ?vc_20) rfl (by kernel_rfl) (by kernel_rfl) (by kernel_rfl) (fun _ _ _ h => h) (Or.inl ⟨by first | kernel_rfl | rfl, ?yc_20⟩) hHeld ?rc_20
            case yc_20 => (intro W hSW; (try dsimp only at hSW); go_simp; (try with_reducible rfl))
            change wpAnyH _ _ _ _ _ _ _ (Act.put _ (some 83) _) _
            simp only [Act.put, List.setIfInBounds_toArray, List.set_cons_zero, List.set_cons_succ]
            refine wpAnyH_take (i := 21) (v := ?vc_21) rfl (by kernel_rfl) (by kernel_rfl) (by kernel_rfl) (fun _ _ _ h => h) (Or.inl ⟨by first | kernel_rfl | rfl, ?yc_21⟩) hHeld ?rc_21
            case yc_21 => (intro W hSW; (try dsimp only at hSW); go_simp; (try with_reducible rfl))
            change wpAnyH _ _ _ _ _ _ _ (Act.put _ (some 6) _) _
            simp only [Act.put, List.setIfInBounds_toArray, List.set_cons_zero, List.set_cons_succ]
            refine wpAnyH_done (by kernel_rfl) ?_ _
            go_wp2
            go_ret
            exact ⟨rfl, H12.out⟩

set_option linter.unusedVariables false in
set_option maxRecDepth 100000 in
theorem lifted (os : Os) (started : os.Started) (H : Type) (enc : TypeId × Value → H) :
    ReturnsInHanded {} Tryd.checked os 6 .any (fun w args => (Rows.capMeetsSpec.pre enc Tryd.prog Tryd.f6 [] false w args ∧ laidMetH Tryd.prog laid2 w) ∧ sizedMet enc Tryd.prog Tryd.f6 (OpenSpec.ofChange Rows.capMeetsSpec) false w args) (Rows.capMeetsSpec.post enc Tryd.prog Tryd.f6 false true false false) := by
  refine returnsInHanded_of_change_and (C := Tryd.checked) (X := fun w _ => laidMetH Tryd.prog laid2 w) (fun _ _ _ hh h => h.of_heap hh) own started (by kernel_rfl) Tryd.func6
    (ChangeSpec.witness_shaped (enc := enc) (C := Tryd.checked) (os := os) (X := fun w _ => laidMetH Tryd.prog laid2 w) false (World.doorLaid Tryd.prog 19 os) #[.slice none 0 0, .agg #[.int .i64 0, .int .i64 0], .string ByteArray.empty] 8 rfl (World.shaped_of_RefB (by kernel_rfl) (by kernel_rfl)) (by kernel_rfl) (by kernel_rfl) (by kernel_rfl) (door_met os _)) ?_
  intro W base args ds gs before hval0 hW _ hsz0 hL _
  have hval : ∀ (j : Nat) t v, Tryd.f6.params[j]? = some t → args[j]? = some v → Value.okWide Tryd.prog W .any base t v := hval0
  have hsz : (DataW.weightsEach Tryd.prog (Tryd.f6.params.toList ++ Rows.capMeetsSpec.plain.varTypes Tryd.prog) (ds ++ gs)).all (· ≤ reachBytes) = true := hsz0
  have hW' := hW
  obtain ⟨p, q, hA0, hV, rfl, hfz, hnd⟩ := hW
  have hA : DataW.TrodAll enc Tryd.prog W 0 (fun _ => true) true Tryd.f6.params.toList args.toList ds p := hA0
  rw [Tryd.params6] at hA hval hsz
  obtain ⟨v0, vs0, d0, ds0, p0, q0, hargs, rfl, rfl, h0, r0⟩ := trodAll_cons hA
  obtain ⟨v1, vs1, d1, ds1, p1, q1, rfl, rfl, rfl, h1, r1⟩ := trodAll_cons r0
  obtain ⟨v2, vs2, d2, ds2, p2, q2, rfl, rfl, rfl, h2, r2⟩ := trodAll_cons r1
  obtain ⟨rfl, rfl, rfl⟩ := trodAll_nil r2
  obtain rfl : args = #[v0, v1, v2] := by cases args; simp_all
  obtain ⟨rfl, rfl⟩ := trodVars_none hV
  have k0 := h0
  have lt0 : ∀ x ∈ p0, x.block < W.heap.size := by obtain ⟨m, hm⟩ := k0; exact DataW.trod_lt m _ _ _ hm
  obtain ⟨a0, len0, cap0, rfl⟩ := okWide_slice Tryd.underlying23 (hval 0 23 v0 rfl rfl)
  obtain ⟨l0, w0, c0⟩ : ∃ l, Kw W a0 len0 cap0 l ∧ ∀ c ∈ l, c.In := by
    obtain ⟨fuel, hf⟩ := h0
    exact cavs_arg (j := 0) (by simpa [Value.cells] using hf) hsz rfl rfl
  have k1 := h1
  have lt1 : ∀ x ∈ p1, x.block < W.heap.size := by obtain ⟨m, hm⟩ := k1; exact DataW.trod_lt m _ _ _ hm
  obtain ⟨x1, y1, rfl, w1, u1⟩ := ints2_of (hval 1 39 v1 rfl rfl) h1
  obtain ⟨s2, rfl, rfl, rfl, w2⟩ := open_string Tryd.underlying9 (hval 2 9 v2 rfl rfl) h2
  have z2 : s2.size ≤ 140737488351232 := by
    have := sized_string hsz (j := 2) (t := 9) rfl rfl
    simpa [reachBytes] using this
  clear hA0 hval0 hsz hsz0
  refine (walk a0 len0 cap0 l0 c0 x1 y1 (wf_i64 w1) (wf_i64 u1) s2 z2 W w0 (of_laid hL)).mono fun e W' ⟨he, bel⟩ => ?_
  subst he
  exact ⟨_, rfl, _, _, _, [], _, [], hW', trodAll_mk1 (shut_bool Tryd.underlying4 _), (trodAll_cons_mk (Below.trod laidOut (by kernel_rfl) (of_decide_eq_true (by kernel_rfl)) k0 bel lt0) (trodAll_cons_mk (Below.trod laidOut (by kernel_rfl) (of_decide_eq_true (by kernel_rfl)) k1 bel lt1) (trodAll_cons_mk (shut_string Tryd.underlying9 w2) trodAll_mk0))), rfl, bel.frame _, fun h => by cases h⟩

theorem over : Rows.capMeetsRow.holds Tryd.pinned (OpenSpec.ofChange Rows.capMeetsSpec) :=
  OpenClaim.holds_of_wide 6 Tryd.f6 rfl rfl rfl rfl rfl rfl rfl ⟨rfl, rfl, rfl, rfl, rfl⟩ rfl rfl rfl rfl rfl (by kernel_rfl) Tryd.func6 (by kernel_rfl)
    (of_decide_eq_true (by kernel_rfl)) (by unfold Func.isWrapper; first | (rw [if_pos (by decide +kernel)]; kernel_rfl) | (rw [if_neg (by decide +kernel)]; exact ⟨rfl, rfl⟩))
    (fun os started H enc _ => lifted os started H enc)

end Go.Proofs.YtcmdcmbiilfngaaDoor.capMeets
namespace Go.Proofs.YtcmdcmbiilfngaaDoor
/-- The given statement. -/
theorem capMeets_holds : Rows.CapMeetsCardSaid :=
  Claim7.holds_tied_plain_at .later [] [.data, .data] true (true, "b19a03ae824dc2f6810aeb81173081118005215afdce10c70f77b3db14f8911f") false
    capMeets.over (fun _ h => by cases h) (by kernel_rfl) (fun _ h => by cases h) capMeets_row_tie rfl ⟨rfl, rfl⟩ (by kernel_rfl) rfl
    (fun f fn hf hfn => by
      obtain rfl : f = 6 := Option.some.inj ((show Tryd.prog.funcNamed "strongroom/strongroomlaw12.CapMeets" = some 6 by kernel_rfl).symm.trans hf) |>.symm
      obtain rfl : fn = Tryd.f6 := (Option.some.inj (Tryd.func6.symm.trans hfn)).symm
      exact ⟨by kernel_rfl, fun j t ht => by
        rw [Tryd.params6] at ht
        rcases j with _ | _ | _ | j
        · obtain rfl : t = 23 := by simpa using ht.symm
          exact (show Tryd.prog.wantsStandIn 23 = false by kernel_rfl)
        · obtain rfl : t = 39 := by simpa using ht.symm
          exact (show Tryd.prog.wantsStandIn 39 = false by kernel_rfl)
        · obtain rfl : t = 9 := by simpa using ht.symm
          exact (show Tryd.prog.wantsStandIn 9 = false by kernel_rfl)
        · simp at ht
      ⟩)
    (by kernel_rfl)
#print axioms capMeets_holds
end Go.Proofs.YtcmdcmbiilfngaaDoor
