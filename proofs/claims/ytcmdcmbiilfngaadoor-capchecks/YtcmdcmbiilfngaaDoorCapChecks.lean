/- Proved: for every secret, token and caveats the law CapChecks returns true, what was handed in as it was (a token that was minted and narrowed is sealed right by its secret; any token is, just if its seal is the document's); where the package's two tables begin as the program's text lays them. -/
import Derived.Test.YtcmdcmbiilfngaaDoorKR
import Derived.Test.YtcmdcmbiilfngaaDoorKC
import Derived.Test.YtcmdcmbiilfngaaDoorCards
import Derived.Test.YtcmdcmbiilfngaaDoorTie
import Derived.WalkKit
import Derived.ProofKit
import Derived.OpenShut
import Derived.ShutString
import Derived.ChangeOld
import Derived.Below
import Derived.LaidMore
import Derived.Stop.Joined
import Derived.SevenTiedAt
namespace Go.Proofs.YtcmdcmbiilfngaaDoor.capChecks
open Go.ChangeShapes Go.WideShapes Go.ChangeAt Go.WideMaps Go.WideElems Go.RowKit
open Go.ChangeMaps (open_string shut_string)

set_option maxRecDepth 100000 in
set_option maxHeartbeats 2000000 in
theorem walk (s0 : ByteArray) (z0 : s0.size ≤ 140737488351232) (t1 n1 : Int) (a1 : Option Addr) (len1 cap1 : Nat) (s1 : ByteArray) (l1 : List Cv) (c1 : ∀ c ∈ l1, c.In) (z1 : s1.size ≤ 140737488351232) (y1 : -9223372036854775808 ≤ t1 ∧ t1 ≤ 9223372036854775807) (x1 : -9223372036854775808 ≤ n1 ∧ n1 ≤ 9223372036854775807) (a2 : Option Addr) (len2 cap2 : Nat) (l2 : List Cv) (c2 : ∀ c ∈ l2, c.In) (w : World) (w1 : Kw w a1 len1 cap1 l1) (w2 : Kw w a2 len2 cap2 l2) (hL : Laid w) :
    Calls Tryd.prog 7 #[.string s0, .agg #[.int .i64 t1, .int .i64 n1, .slice a1 len1 cap1, .string s1], .slice a2 len2 cap2] w fun e w' => e = .returned (.bool true) ∧ Below w.heap.size w w' := by
  have HLV : Hid (∀ V, Below w.heap.size w V → Calls Tryd.prog 9 #[] V fun e w' => e = .returned (.bool true) ∧ Below w.heap.size w w') := fun V hV => (lives_any V (hL.below hV)).mono fun e w' h => ⟨h.1, hV.trans (h.2.mono hV.size)⟩
  obtain ⟨pb, hpb⟩ : ∃ pb, w.heap.size = pb := ⟨_, rfl⟩
  obtain ⟨V1, hV1, r1, hb1⟩ := box_tk (w := w) t1 n1 a1 len1 cap1 s1
  rw [hpb] at r1
  have HK : Hid (∀ W, Below V1.heap.size V1 W → (W.cell? ⟨pb, 0, none⟩ = some (.int .i64 t1) ∧ W.cell? ⟨pb, 1, none⟩ = some (.int .i64 n1) ∧ W.cell? ⟨pb, 2, none⟩ = some (.slice a1 len1 cap1) ∧ W.cell? ⟨pb, 3, none⟩ = some (.string s1)) ∧ Below w.heap.size w W) := fun W hW => by
    obtain ⟨e0, e1, e2, e3, _⟩ := row4 ((hW.block pb (lt_of_some r1)).trans r1)
    exact ⟨⟨e0, e1, e2, e3⟩, hb1.trans (hW.mono hb1.size)⟩
  obtain ⟨⟨y0, y1', y2, y3⟩, _⟩ := HK.out V1 (Below.refl _ _)
  have hcp : ∀ c ∈ l1, c.path.size ≤ 140737488351232 := fun c hc => (c1 c hc).2.2
  have hcq : ∀ c ∈ l1, c.path.size ≤ 9223372036854775807 := fun c hc => by have := hcp c hc; omega
  have HSM := small_tk t1 n1 s1 (w1.below hb1) z1 hcp
  have hln := w2.len
  have hlm := w2.max
  have hcap : len2 ≤ cap2 := w2.2.1
  obtain ⟨j, hj⟩ : ∃ j, min len2 9 = j := ⟨_, rfl⟩
  have hjm : min (len2 : Int) 9 = (j : Int) := by omega
  have hsl := pre_cavs a2 len2 cap2 j (by omega)
  obtain ⟨a', ha'⟩ : ∃ a', cutA a2 cap2 0 3 = a' := ⟨_, rfl⟩
  rw [ha'] at hsl
  obtain ⟨l, hl⟩ : ∃ l, l2.take j = l := ⟨_, rfl⟩
  have hlp : ∀ c ∈ l, c.path.size ≤ 9223372036854775807 := fun c hc => by
    have := (c2 c (List.mem_of_mem_take (by rw [hl]; exact hc))).2.2
    omega
  unfold YeTo at HSM
  cases hsm : smallT l1 s1 with
  | false =>
    rw [hsm] at HSM
    clear hsm hL w1 w2 c1 c2 hln hl hlp hj hcp hcq r1 hb1
    go_enter Tryd.func7, Tryd.ntmps7
    go_wp2_with fail
    refine HSM.mono ?_
    rintro e V2 ⟨rfl, hb2⟩
    have H2 : Hid (Below w.heap.size w V2) := (HK.out V2 hb2).2
    clear HSM hb2 y0 y1' y2 y3
    go_wp2_with fail
    refine (HLV.out _ (H2.out)).mono ?_
    rintro e VZ ⟨rfl, hbZ⟩
    go_wp2
    go_ret
    exact ⟨rfl, hbZ⟩
  | true =>
    rw [hsm] at HSM
    by_cases h0 : 1000 < s0.size
    · have k0 : (1000 : Int) < (s0.size : Int) := by omega
      clear hsm hL w1 w2 c1 c2 hln hl hlp hj hcp hcq r1 hb1
      go_enter Tryd.func7, Tryd.ntmps7
      go_wp2_with fail
      refine HSM.mono ?_
      rintro e V2 ⟨rfl, hb2⟩
      have H2 : Hid (Below w.heap.size w V2) := (HK.out V2 hb2).2
      clear HSM hb2 y0 y1' y2 y3
      go_wp2_with fail
      refine (HLV.out _ (H2.out)).mono ?_
      rintro e VZ ⟨rfl, hbZ⟩
      go_wp2
      go_ret
      exact ⟨rfl, hbZ⟩
    · have k0 : ¬ (1000 : Int) < (s0.size : Int) := by omega
      have HMY : Hid (∀ W, Below w.heap.size w W → Calls Tryd.prog 18 #[.agg #[.int .i64 t1, .int .i64 n1, .slice a1 len1 cap1, .string s1]] W fun e w' => e = .returned (.bool (mayT ⟨t1, n1, l1, s1⟩)) ∧ Below W.heap.size W w') := fun W hW => rmay_any t1 n1 s1 (w1.below hW) hcq
      have HCK : Hid (∀ W, Below w.heap.size w W → Calls Tryd.prog 24 #[.string s0, .agg #[.int .i64 t1, .int .i64 n1, .slice a1 len1 cap1, .string s1]] W fun e w' => e = .returned (.bool (checkT s0.data.toList ⟨t1, n1, l1, s1⟩)) ∧ Below W.heap.size W w') := fun W hW => check_tk s0 s1 t1 n1 W (w1.below hW) hcq (by omega) (hL.below hW)
      obtain ⟨⟨⟨u1, u2, u3, u4⟩, uq⟩, hmd⟩ : ∃ r, madeT s0.data.toList t1 n1 l = r := ⟨_, rfl⟩
      have HMD : Hid (∀ W, Below w.heap.size w W → Calls Tryd.prog 23 #[.string s0, .int .i64 t1, .int .i64 n1, .slice a' j cap2] W fun e w' => MdOw W (⟨u1, u2, u3, u4⟩, uq) e w') := fun W hW => by
        have hk := (w2.below hW).pre j (by omega)
        rw [ha', hl] at hk
        have h5 := made_own s0 t1 n1 hk hlp (by omega) (hL.below hW)
        rw [hmd] at h5
        exact h5
      have hup : uq = true → madeB t1 n1 l = true ∧ madeR s0.data.toList t1 n1 l = ⟨u1, u2, u3, u4⟩ := fun h => by
        unfold madeT at hmd
        cases hb : madeB t1 n1 l with
        | true => rw [if_pos hb] at hmd; exact ⟨rfl, (Prod.mk.inj hmd).1⟩
        | false => rw [if_neg (by rw [hb]; decide)] at hmd; rw [h] at hmd; exact absurd (Prod.mk.inj hmd).2 (by decide)
      have HCU : Hid (uq = true → ∀ W (ua : Option Addr) (un uc : Nat), Kw W ua un uc u3 → Below w.heap.size w W → Calls Tryd.prog 24 #[.string s0, .agg #[.int .i64 u1, .int .i64 u2, .slice ua un uc, .string u4]] W fun e w' => e = .returned (.bool true) ∧ Below W.heap.size W w') := fun hq W ua un uc hk hW => by
        obtain ⟨hb, hr⟩ := hup hq
        have h3 : u3 = l := by have := congrArg Tk.cavs hr; exact this.symm
        have h5 := check_tk s0 u4 u1 u2 W hk (fun c hc => by rw [h3] at hc; have := ok_path ((madeB_iff.1 hb).2.2 c hc); omega) (by omega) (hL.below hW)
        have h6 := check_made (k := s0.data.toList) hb
        rw [hr] at h6
        rw [h6] at h5
        exact h5
      cases hm : mayT ⟨t1, n1, l1, s1⟩ with
      | false =>
        rw [hm] at HMY
        have HX : Hid (checkT s0.data.toList ⟨t1, n1, l1, s1⟩ = false) := by show _ = _; unfold checkT; rw [hm]; rfl
        clear hsm hm hup hmd hL w1 w2 c1 c2 hln hl hlp hj hcp hcq r1 hb1 ha'
        go_enter Tryd.func7, Tryd.ntmps7
        go_wp2_with fail
        refine HSM.mono ?_
        rintro e V2 ⟨rfl, hb2⟩
        have H2 : Hid (Below V1.heap.size V1 V2) := hb2
        clear HSM hb2 y0 y1' y2 y3
        go_wp2
        refine wp_region_held_drew (S := fun W => W.cell? ⟨pb, 0, none⟩ = some (.int .i64 t1) ∧ W.cell? ⟨pb, 1, none⟩ = some (.int .i64 n1) ∧ W.cell? ⟨pb, 2, none⟩ = some (.slice a1 len1 cap1) ∧ W.cell? ⟨pb, 3, none⟩ = some (.string s1)) (by kernel_rfl) ((HK.out V2.drew H2.out.drew).1) (fun hHeld => ?_)
        refine wpAnyH_take (i := 0) (v := ?vn_0) rfl (by kernel_rfl) (by kernel_rfl) (by kernel_rfl) (fun _ _ _ h => h) (Or.inl ⟨by first | kernel_rfl | rfl, ?yn_0⟩) hHeld ?rn_0
        case yn_0 => (intro W hSW; (try dsimp only at hSW); go_simp; (try with_reducible rfl))
        change wpAnyH _ _ _ _ _ _ _ (Act.put _ (some 19) _) _
        simp only [Act.put, List.setIfInBounds_toArray, List.set_cons_zero, List.set_cons_succ]
        refine wpAnyH_ready (rs := [1]) (by kernel_rfl) (by simp) ?_
        refine AllReadyH.cons rfl (fun K hK => ?_) AllReadyH.nil
        go_simp
        refine (HMY.out V2.drew (HK.out V2.drew H2.out.drew).2).mono ?_
        rintro e V3 ⟨rfl, hb3⟩
        refine hK.out _ _ ((HK.out V3 (H2.out.drew.trans (hb3.mono H2.out.drew.size))).1) (fun hHeld => ?_)
        clear hK K
        try simp only [Act.put, List.setIfInBounds_toArray, List.set_cons_zero, List.set_cons_succ]
        have H3 : Hid (Below V1.heap.size V1 V3) := H2.out.drew.trans (hb3.mono H2.out.drew.size)
        clear hb3
        refine wpAnyH_take (i := 2) (v := ?vn_2) rfl (by kernel_rfl) (by kernel_rfl) (by kernel_rfl) (fun _ _ _ h => h) (Or.inl ⟨by first | kernel_rfl | rfl, ?yn_2⟩) hHeld ?rn_2
        case yn_2 => (intro W hSW; (try dsimp only at hSW); go_simp; (try with_reducible rfl))
        change wpAnyH _ _ _ _ _ _ _ (Act.put _ (some 21) _) _
        simp only [Act.put, List.setIfInBounds_toArray, List.set_cons_zero, List.set_cons_succ]
        refine wpAnyH_take (i := 3) (v := undef) rfl (by kernel_rfl) (by kernel_rfl) (by kernel_rfl) (fun _ _ _ h => h) (Or.inr ⟨by first | kernel_rfl | rfl, rfl⟩) hHeld ?_
        change wpAnyH _ _ _ _ _ _ _ (Act.put _ (some 22) _) _
        simp only [Act.put, List.setIfInBounds_toArray, List.set_cons_zero, List.set_cons_succ]
        refine wpAnyH_take (i := 4) (v := undef) rfl (by kernel_rfl) (by kernel_rfl) (by kernel_rfl) (fun _ _ _ h => h) (Or.inr ⟨by first | kernel_rfl | rfl, rfl⟩) hHeld ?_
        change wpAnyH _ _ _ _ _ _ _ (Act.put _ (some 23) _) _
        simp only [Act.put, List.setIfInBounds_toArray, List.set_cons_zero, List.set_cons_succ]
        refine wpAnyH_take (i := 5) (v := undef) rfl (by kernel_rfl) (by kernel_rfl) (by kernel_rfl) (fun _ _ _ h => h) (Or.inr ⟨by first | kernel_rfl | rfl, rfl⟩) hHeld ?_
        change wpAnyH _ _ _ _ _ _ _ (Act.put _ (some 24) _) _
        simp only [Act.put, List.setIfInBounds_toArray, List.set_cons_zero, List.set_cons_succ]
        refine wpAnyH_take (i := 6) (v := undef) rfl (by kernel_rfl) (by kernel_rfl) (by kernel_rfl) (fun _ _ _ h => h) (Or.inr ⟨by first | kernel_rfl | rfl, rfl⟩) hHeld ?_
        change wpAnyH _ _ _ _ _ _ _ (Act.put _ (some 25) _) _
        simp only [Act.put, List.setIfInBounds_toArray, List.set_cons_zero, List.set_cons_succ]
        refine wpAnyH_take (i := 7) (v := undef) rfl (by kernel_rfl) (by kernel_rfl) (by kernel_rfl) (fun _ _ _ h => h) (Or.inr ⟨by first | kernel_rfl | rfl, rfl⟩) hHeld ?_
        change wpAnyH _ _ _ _ _ _ _ (Act.put _ (some 26) _) _
        simp only [Act.put, List.setIfInBounds_toArray, List.set_cons_zero, List.set_cons_succ]
        refine wpAnyH_take (i := 8) (v := undef) rfl (by kernel_rfl) (by kernel_rfl) (by kernel_rfl) (fun _ _ _ h => h) (Or.inr ⟨by first | kernel_rfl | rfl, rfl⟩) hHeld ?_
        change wpAnyH _ _ _ _ _ _ _ (Act.put _ (some 27) _) _
        simp only [Act.put, List.setIfInBounds_toArray, List.set_cons_zero, List.set_cons_succ]
        refine wpAnyH_take (i := 9) (v := undef) rfl (by kernel_rfl) (by kernel_rfl) (by kernel_rfl) (fun _ _ _ h => h) (Or.inr ⟨by first | kernel_rfl | rfl, rfl⟩) hHeld ?_
        change wpAnyH _ _ _ _ _ _ _ (Act.put _ (some 28) _) _
        simp only [Act.put, List.setIfInBounds_toArray, List.set_cons_zero, List.set_cons_succ]
        refine wpAnyH_take (i := 10) (v := undef) rfl (by kernel_rfl) (by kernel_rfl) (by kernel_rfl) (fun _ _ _ h => h) (Or.inr ⟨by first | kernel_rfl | rfl, rfl⟩) hHeld ?_
        change wpAnyH _ _ _ _ _ _ _ (Act.put _ (some 29) _) _
        simp only [Act.put, List.setIfInBounds_toArray, List.set_cons_zero, List.set_cons_succ]
        refine wpAnyH_take (i := 11) (v := undef) rfl (by kernel_rfl) (by kernel_rfl) (by kernel_rfl) (fun _ _ _ h => h) (Or.inr ⟨by first | kernel_rfl | rfl, rfl⟩) hHeld ?_
        change wpAnyH _ _ _ _ _ _ _ (Act.put _ (some 30) _) _
        simp only [Act.put, List.setIfInBounds_toArray, List.set_cons_zero, List.set_cons_succ]
        refine wpAnyH_take (i := 12) (v := undef) rfl (by kernel_rfl) (by kernel_rfl) (by kernel_rfl) (fun _ _ _ h => h) (Or.inr ⟨by first | kernel_rfl | rfl, rfl⟩) hHeld ?_
        change wpAnyH _ _ _ _ _ _ _ (Act.put _ (some 31) _) _
        simp only [Act.put, List.setIfInBounds_toArray, List.set_cons_zero, List.set_cons_succ]
        refine wpAnyH_take (i := 13) (v := undef) rfl (by kernel_rfl) (by kernel_rfl) (by kernel_rfl) (fun _ _ _ h => h) (Or.inr ⟨by first | kernel_rfl | rfl, rfl⟩) hHeld ?_
        change wpAnyH _ _ _ _ _ _ _ (Act.put _ (some 32) _) _
        simp only [Act.put, List.setIfInBounds_toArray, List.set_cons_zero, List.set_cons_succ]
        have H4 : Hid (Below V1.heap.size V1 V3) := H3.out
        refine wpAnyH_take (i := 14) (v := ?vn_14) rfl (by kernel_rfl) (by kernel_rfl) (by kernel_rfl) (fun _ _ _ h => h) (Or.inl ⟨by first | kernel_rfl | rfl, ?yn_14⟩) hHeld ?rn_14
        case yn_14 => (intro W hSW; (try dsimp only at hSW); go_simp; (try with_reducible rfl))
        change wpAnyH _ _ _ _ _ _ _ (Act.put _ (some 33) _) _
        simp only [Act.put, List.setIfInBounds_toArray, List.set_cons_zero, List.set_cons_succ]
        refine wpAnyH_take (i := 15) (v := ?vn_15) rfl (by kernel_rfl) (by kernel_rfl) (by kernel_rfl) (fun _ _ _ h => h) (Or.inl ⟨by first | kernel_rfl | rfl, ?yn_15⟩) hHeld ?rn_15
        case yn_15 => (intro W hSW; (try dsimp only at hSW); go_simp; (try with_reducible rfl))
        change wpAnyH _ _ _ _ _ _ _ (Act.put _ (some 7) _) _
        simp only [Act.put, List.setIfInBounds_toArray, List.set_cons_zero, List.set_cons_succ]
        refine wpAnyH_done (by kernel_rfl) ?_ _
        obtain ⟨⟨y0, y1', y2, y3⟩, hw4⟩ := HK.out V3 H4.out
        have HC4 := HCK.out V3 hw4
        rw [HX.out] at HC4
        clear hw4
        go_wp2_with fail
        refine HC4.mono ?_
        rintro e V5 ⟨rfl, hb5⟩
        have H5 : Hid (Below V1.heap.size V1 V5) := H4.out.trans (hb5.mono H4.out.size)
        clear HC4 hb5 y0 y1' y2 y3
        cases uq with
        | true =>
          have HCU2 : Hid (∀ W (ua : Option Addr) (un uc : Nat), Kw W ua un uc u3 → Below w.heap.size w W → Calls Tryd.prog 24 #[.string s0, .agg #[.int .i64 u1, .int .i64 u2, .slice ua un uc, .string u4]] W fun e w' => e = .returned (.bool true) ∧ Below W.heap.size W w') := HCU.out rfl
          clear HCU
          have HCU := HCU2
          clear HCU2
          go_wp2
          refine wp_region_held_drew (S := fun W => W.cell? ⟨pb, 0, none⟩ = some (.int .i64 t1) ∧ W.cell? ⟨pb, 1, none⟩ = some (.int .i64 n1) ∧ W.cell? ⟨pb, 2, none⟩ = some (.slice a1 len1 cap1) ∧ W.cell? ⟨pb, 3, none⟩ = some (.string s1)) (by kernel_rfl) ((HK.out V5.drew H5.out.drew).1) (fun hHeld => ?_)
          refine wpAnyH_take (i := 0) (v := ?vfa_0) rfl (by kernel_rfl) (by kernel_rfl) (by kernel_rfl) (fun _ _ _ h => h) (Or.inl ⟨by first | kernel_rfl | rfl, ?yfa_0⟩) hHeld ?rfa_0
          case yfa_0 => (intro W hSW; (try dsimp only at hSW); go_simp; (try with_reducible rfl))
          change wpAnyH _ _ _ _ _ _ _ (Act.put _ (some 40) _) _
          simp only [Act.put, List.setIfInBounds_toArray, List.set_cons_zero, List.set_cons_succ]
          refine wpAnyH_take (i := 1) (v := ?vfa_1) rfl (by kernel_rfl) (by kernel_rfl) (by kernel_rfl) (fun _ _ _ h => h) (Or.inl ⟨by first | kernel_rfl | rfl, ?yfa_1⟩) hHeld ?rfa_1
          case yfa_1 => (intro W hSW; (try dsimp only at hSW); go_simp; (try with_reducible rfl))
          change wpAnyH _ _ _ _ _ _ _ (Act.put _ (some 41) _) _
          simp only [Act.put, List.setIfInBounds_toArray, List.set_cons_zero, List.set_cons_succ]
          refine wpAnyH_take (i := 2) (v := ?vfa_2) rfl (by kernel_rfl) (by kernel_rfl) (by kernel_rfl) (fun _ _ _ h => h) (Or.inl ⟨by first | kernel_rfl | rfl, ?yfa_2⟩) hHeld ?rfa_2
          case yfa_2 => (intro W hSW; (try dsimp only at hSW); go_simp; (try with_reducible rfl))
          change wpAnyH _ _ _ _ _ _ _ (Act.put _ (some 42) _) _
          simp only [Act.put, List.setIfInBounds_toArray, List.set_cons_zero, List.set_cons_succ]
          refine wpAnyH_take (i := 3) (v := ?vfa_3) rfl (by kernel_rfl) (by kernel_rfl) (by kernel_rfl) (fun _ _ _ h => h) (Or.inl ⟨by first | kernel_rfl | rfl, ?yfa_3⟩) hHeld ?rfa_3
          case yfa_3 => (intro W hSW; (try dsimp only at hSW); go_simp; (try with_reducible rfl))
          change wpAnyH _ _ _ _ _ _ _ (Act.put _ (some 43) _) _
          simp only [Act.put, List.setIfInBounds_toArray, List.set_cons_zero, List.set_cons_succ]
          refine wpAnyH_take (i := 4) (v := ?vfa_4) rfl (by kernel_rfl) (by kernel_rfl) (by kernel_rfl) (fun _ _ _ h => h) (Or.inl ⟨by first | kernel_rfl | rfl, ?yfa_4⟩) hHeld ?rfa_4
          case yfa_4 => (intro W hSW; (try dsimp only at hSW); go_simp; (try with_reducible rfl))
          change wpAnyH _ _ _ _ _ _ _ (Act.put _ (some 44) _) _
          simp only [Act.put, List.setIfInBounds_toArray, List.set_cons_zero, List.set_cons_succ]
          refine wpAnyH_take (i := 5) (v := ?vfa_5) rfl (by kernel_rfl) (by kernel_rfl) (by kernel_rfl) (fun _ _ _ h => h) (Or.inl ⟨by first | kernel_rfl | rfl, ?yfa_5⟩) hHeld ?rfa_5
          case yfa_5 => (intro W hSW; (try dsimp only at hSW); go_simp; (try with_reducible rfl))
          change wpAnyH _ _ _ _ _ _ _ (Act.put _ (some 45) _) _
          simp only [Act.put, List.setIfInBounds_toArray, List.set_cons_zero, List.set_cons_succ]
          refine wpAnyH_take (i := 6) (v := ?vfa_6) rfl (by kernel_rfl) (by kernel_rfl) (by kernel_rfl) (fun _ _ _ h => h) (Or.inl ⟨by first | kernel_rfl | rfl, ?yfa_6⟩) hHeld ?rfa_6
          case yfa_6 => (intro W hSW; (try dsimp only at hSW); go_simp; (try with_reducible rfl))
          change wpAnyH _ _ _ _ _ _ _ (Act.put _ (some 46) _) _
          simp only [Act.put, List.setIfInBounds_toArray, List.set_cons_zero, List.set_cons_succ]
          refine wpAnyH_take (i := 7) (v := ?vfa_7) rfl (by kernel_rfl) (by kernel_rfl) (by kernel_rfl) (fun _ _ _ h => h) (Or.inl ⟨by first | kernel_rfl | rfl, ?yfa_7⟩) hHeld ?rfa_7
          case yfa_7 => (intro W hSW; (try dsimp only at hSW); go_simp; (try with_reducible rfl))
          change wpAnyH _ _ _ _ _ _ _ (Act.put _ (some 47) _) _
          simp only [Act.put, List.setIfInBounds_toArray, List.set_cons_zero, List.set_cons_succ]
          refine wpAnyH_take (i := 8) (v := ?vfa_8) rfl (by kernel_rfl) (by kernel_rfl) (by kernel_rfl) (fun _ _ _ h => h) (Or.inl ⟨by first | kernel_rfl | rfl, ?yfa_8⟩) hHeld ?rfa_8
          case yfa_8 => (intro W hSW; (try dsimp only at hSW); go_simp; (try with_reducible rfl))
          change wpAnyH _ _ _ _ _ _ _ (Act.put _ (some 48) _) _
          simp only [Act.put, List.setIfInBounds_toArray, List.set_cons_zero, List.set_cons_succ]
          refine wpAnyH_take (i := 9) (v := ?vfa_9) rfl (by kernel_rfl) (by kernel_rfl) (by kernel_rfl) (fun _ _ _ h => h) (Or.inl ⟨by first | kernel_rfl | rfl, ?yfa_9⟩) hHeld ?rfa_9
          case yfa_9 => (intro W hSW; (try dsimp only at hSW); go_simp; (try with_reducible rfl))
          change wpAnyH _ _ _ _ _ _ _ (Act.put _ (some 49) _) _
          simp only [Act.put, List.setIfInBounds_toArray, List.set_cons_zero, List.set_cons_succ]
          refine wpAnyH_ready (rs := [10, 14]) (by kernel_rfl) (by simp) ?_
          refine AllReadyH.cons rfl (fun K hK => ?_) (AllReadyH.cons rfl (fun K hK => ?_) AllReadyH.nil)
          · go_simp
            refine (HMD.out V5.drew (HK.out V5.drew H5.out.drew).2).mono ?_
            rintro e V6 ⟨ua, un, uc, rfl, hku0, hb6⟩
            refine hK.out _ _ ((HK.out V6 (H5.out.drew.trans (hb6.mono H5.out.drew.size))).1) (fun hHeld => ?_)
            clear hK K
            simp only at hku0 ⊢
            have hB6 : Below V1.heap.size V1 V6 := H5.out.drew.trans (hb6.mono H5.out.drew.size)
            obtain ⟨V7, hV7, hz, hb7⟩ := box_tk (w := V6) 0 0 none 0 0 ⟨#[]⟩
            obtain ⟨ub, hub⟩ : ∃ ub, V6.heap.size = ub := ⟨_, rfl⟩
            rw [hub] at hz
            have hB7 : Below V1.heap.size V1 V7 := hB6.trans (hb7.mono hB6.size)
            have hku : Rw (fun x => x < ub) V7 35 3 ua un uc (cvR u3) := (Rw.mono hku0 (fun x _ hx => by omega)).below hb7
            obtain ⟨x0, x1, x2, x3, f0, f1, f2, f3⟩ := row4 hz
            obtain ⟨W8, hW8⟩ : ∃ W8, (((V7.setCell ⟨ub, 0, none⟩ (.int .i64 u1)).setCell ⟨ub, 1, none⟩ (.int .i64 u2)).setCell ⟨ub, 2, none⟩ (.slice ua un uc)).setCell ⟨ub, 3, none⟩ (.string u4) = W8 := ⟨_, rfl⟩
            have hpu : V1.heap.size ≤ ub := by have := hB6.size; omega
            have hB8 : Below V1.heap.size V1 W8 := by rw [← hW8]; exact below4s hB7 hpu _ _ _ _
            have HU : Hid ((W8.cell? ⟨ub, 0, none⟩ = some (.int .i64 u1) ∧ W8.cell? ⟨ub, 1, none⟩ = some (.int .i64 u2) ∧ W8.cell? ⟨ub, 2, none⟩ = some (.slice ua un uc) ∧ W8.cell? ⟨ub, 3, none⟩ = some (.string u4)) ∧ Kw W8 ua un uc u3 ∧ Below w.heap.size w W8) := by
              have h8 : W8.heap[ub]? = some (.cells #[.int .i64 u1, .int .i64 u2, .slice ua un uc, .string u4] 25 (0, 0)) := by rw [← hW8]; exact set4 hz _ _ _ _
              obtain ⟨e0, e1, e2, e3, _⟩ := row4 h8
              refine ⟨⟨e0, e1, e2, e3⟩, ?_, (HK.out W8 hB8).2⟩
              rw [← hW8]
              exact Rw.mono (Rw.keep hku (below4s (Below.refl 0 _) (Nat.zero_le ub) _ _ _ _).size (fun b hb _ => other4s (by omega) _ _ _ _)) (fun _ _ _ => trivial)
            have HQ7 : Hid (V7.cell? ⟨pb, 0, none⟩ = some (.int .i64 t1) ∧ V7.cell? ⟨pb, 1, none⟩ = some (.int .i64 n1) ∧ V7.cell? ⟨pb, 2, none⟩ = some (.slice a1 len1 cap1) ∧ V7.cell? ⟨pb, 3, none⟩ = some (.string s1)) := (HK.out V7 hB7).1
            have HQ8 : Hid (W8.cell? ⟨pb, 0, none⟩ = some (.int .i64 t1) ∧ W8.cell? ⟨pb, 1, none⟩ = some (.int .i64 n1) ∧ W8.cell? ⟨pb, 2, none⟩ = some (.slice a1 len1 cap1) ∧ W8.cell? ⟨pb, 3, none⟩ = some (.string s1)) := (HK.out W8 hB8).1
            clear hku0 hb6 hB6 hz hb7 hB7 hku hpu hB8
            refine wpAnyH_take (i := 11) (v := ?vfa_A11) rfl (by kernel_rfl) (by kernel_rfl) (by kernel_rfl) (fun _ _ _ h => h) (Or.inl ⟨by first | kernel_rfl | rfl, ?yfa_A11⟩) hHeld ?rfa_A11
            case yfa_A11 => (intro W hSW; (try dsimp only at hSW); go_simp; (try with_reducible rfl))
            change wpAnyH _ _ _ _ _ _ _ (Act.put _ (some 39) _) _
            simp only [Act.put, List.setIfInBounds_toArray, List.set_cons_zero, List.set_cons_succ]
            refine wpAnyH_take (i := 12) (v := ?vfa_A12) rfl (by kernel_rfl) (by kernel_rfl) (by kernel_rfl) (fun _ _ _ h => h) (Or.inl ⟨by first | kernel_rfl | rfl, ?yfa_A12⟩) hHeld ?rfa_A12
            case yfa_A12 => (intro W hSW; (try dsimp only at hSW); go_simp; (try with_reducible rfl))
            change wpAnyH _ _ _ _ _ _ _ (Act.put _ (some 51) _) _
            simp only [Act.put, List.setIfInBounds_toArray, List.set_cons_zero, List.set_cons_succ]
            refine wpAnyH_take (i := 13) (v := ?vfa_A13) rfl (by kernel_rfl) (by kernel_rfl) (by kernel_rfl) (fun _ _ _ h => h) (Or.inl ⟨by first | kernel_rfl | rfl, ?yfa_A13⟩) hHeld ?rfa_A13
            case yfa_A13 => (intro W hSW; (try dsimp only at hSW); go_simp; (try with_reducible rfl))
            change wpAnyH _ _ _ _ _ _ _ (Act.put _ (some 52) _) _
            simp only [Act.put, List.setIfInBounds_toArray, List.set_cons_zero, List.set_cons_succ]
            refine wpAnyH_ready (rs := [14]) (by kernel_rfl) (by simp) ?_
            refine AllReadyH.cons rfl (fun K hK => ?_) AllReadyH.nil
            go_simp
            refine hK.out _ _ (HQ7.out) (fun hHeld => ?_)
            clear hK K
            try simp only [Act.put, List.setIfInBounds_toArray, List.set_cons_zero, List.set_cons_succ]
            refine wpAnyH_ready (rs := [15]) (by kernel_rfl) (by simp) ?_
            refine AllReadyH.cons rfl (fun K hK => ?_) AllReadyH.nil
            go_simp
            refine hK.out _ _ (HQ8.out) (fun hHeld => ?_)
            clear hK K
            refine wpAnyH_take (i := 16) (v := ?vfa_A16) rfl (by kernel_rfl) (by kernel_rfl) (by kernel_rfl) (fun _ _ _ h => h) (Or.inl ⟨by first | kernel_rfl | rfl, ?yfa_A16⟩) hHeld ?rfa_A16
            case yfa_A16 => (intro W hSW; (try dsimp only at hSW); go_simp; (try with_reducible rfl))
            change wpAnyH _ _ _ _ _ _ _ (Act.put _ (some 9) _) _
            simp only [Act.put, List.setIfInBounds_toArray, List.set_cons_zero, List.set_cons_succ]
            refine wpAnyH_done (by kernel_rfl) ?_ _
            clear x0 x1 x2 x3 f0 f1 f2 f3
            obtain ⟨⟨y0, y1', y2, y3⟩, hku, hw8⟩ := HU.out
            have HC := HCU.out W8 ua un uc hku hw8
            have H8 : Hid (Below w.heap.size w W8) := hw8
            clear hku hw8
            go_wp2_with fail
            refine HC.mono ?_
            rintro e V9 ⟨rfl, hb9⟩
            have H9 : Hid (Below w.heap.size w V9) := H8.out.trans (hb9.mono H8.out.size)
            clear HC hb9 y0 y1' y2 y3
            go_wp2_with fail
            refine (HLV.out _ (H9.out)).mono ?_
            rintro e VZ ⟨rfl, hbZ⟩
            go_wp2
            go_ret
            exact ⟨rfl, hbZ⟩
          · obtain ⟨V6, hV6, hz0, hb6⟩ := box_tk (w := V5.drew) 0 0 none 0 0 ⟨#[]⟩
            obtain ⟨ub, hub⟩ : ∃ ub, V5.drew.heap.size = ub := ⟨_, rfl⟩
            have hub2 : V5.heap.size = ub := hub
            rw [hub] at hz0
            have hB6 : Below V1.heap.size V1 V6 := H5.out.drew.trans (hb6.mono H5.out.drew.size)
            have HQ6 : Hid (V6.cell? ⟨pb, 0, none⟩ = some (.int .i64 t1) ∧ V6.cell? ⟨pb, 1, none⟩ = some (.int .i64 n1) ∧ V6.cell? ⟨pb, 2, none⟩ = some (.slice a1 len1 cap1) ∧ V6.cell? ⟨pb, 3, none⟩ = some (.string s1)) := (HK.out V6 hB6).1
            have H6 : Hid (Below V1.heap.size V1 V6 ∧ V6.heap[ub]? = some (.cells #[.int .i64 0, .int .i64 0, .slice none 0 0, .string ⟨#[]⟩] 25 (0, 0)) ∧ V1.heap.size ≤ ub) := ⟨hB6, hz0, by have := H5.out.size; omega⟩
            clear hB6 hz0 hb6
            go_simp
            refine hK.out _ _ (HQ6.out) (fun hHeld => ?_)
            clear hK K
            try simp only [Act.put, List.setIfInBounds_toArray, List.set_cons_zero, List.set_cons_succ]
            clear hub hub2 hV6
            refine wpAnyH_ready (rs := [10]) (by kernel_rfl) (by simp) ?_
            refine AllReadyH.cons rfl (fun K hK => ?_) AllReadyH.nil
            go_simp
            refine (HMD.out V6 (HK.out V6 H6.out.1).2).mono ?_
            rintro e V7 ⟨ua, un, uc, rfl, hku0, hb7⟩
            refine hK.out _ _ ((HK.out V7 (H6.out.1.trans (hb7.mono H6.out.1.size))).1) (fun hHeld => ?_)
            clear hK K
            simp only at hku0 ⊢
            have hB7 : Below V1.heap.size V1 V7 := H6.out.1.trans (hb7.mono H6.out.1.size)
            have hz := (hb7.block ub (lt_of_some H6.out.2.1)).trans H6.out.2.1
            have hku : Rw (fun x => ub < x) V7 35 3 ua un uc (cvR u3) := Rw.mono hku0 (fun x hx _ => by have := lt_of_some H6.out.2.1; omega)
            obtain ⟨x0, x1, x2, x3, f0, f1, f2, f3⟩ := row4 hz
            obtain ⟨W8, hW8⟩ : ∃ W8, (((V7.setCell ⟨ub, 0, none⟩ (.int .i64 u1)).setCell ⟨ub, 1, none⟩ (.int .i64 u2)).setCell ⟨ub, 2, none⟩ (.slice ua un uc)).setCell ⟨ub, 3, none⟩ (.string u4) = W8 := ⟨_, rfl⟩
            have hB8 : Below V1.heap.size V1 W8 := by rw [← hW8]; exact below4s hB7 H6.out.2.2 _ _ _ _
            have HU : Hid ((W8.cell? ⟨ub, 0, none⟩ = some (.int .i64 u1) ∧ W8.cell? ⟨ub, 1, none⟩ = some (.int .i64 u2) ∧ W8.cell? ⟨ub, 2, none⟩ = some (.slice ua un uc) ∧ W8.cell? ⟨ub, 3, none⟩ = some (.string u4)) ∧ Kw W8 ua un uc u3 ∧ Below w.heap.size w W8) := by
              have h8 : W8.heap[ub]? = some (.cells #[.int .i64 u1, .int .i64 u2, .slice ua un uc, .string u4] 25 (0, 0)) := by rw [← hW8]; exact set4 hz _ _ _ _
              obtain ⟨e0, e1, e2, e3, _⟩ := row4 h8
              refine ⟨⟨e0, e1, e2, e3⟩, ?_, (HK.out W8 hB8).2⟩
              rw [← hW8]
              exact Rw.mono (Rw.keep hku (below4s (Below.refl 0 _) (Nat.zero_le ub) _ _ _ _).size (fun b hb _ => other4s (by omega) _ _ _ _)) (fun _ _ _ => trivial)
            have HQ8 : Hid (W8.cell? ⟨pb, 0, none⟩ = some (.int .i64 t1) ∧ W8.cell? ⟨pb, 1, none⟩ = some (.int .i64 n1) ∧ W8.cell? ⟨pb, 2, none⟩ = some (.slice a1 len1 cap1) ∧ W8.cell? ⟨pb, 3, none⟩ = some (.string s1)) := (HK.out W8 hB8).1
            clear hku0 hb7 hB7 hz hku hB8
            refine wpAnyH_take (i := 11) (v := ?vfa_B11) rfl (by kernel_rfl) (by kernel_rfl) (by kernel_rfl) (fun _ _ _ h => h) (Or.inl ⟨by first | kernel_rfl | rfl, ?yfa_B11⟩) hHeld ?rfa_B11
            case yfa_B11 => (intro W hSW; (try dsimp only at hSW); go_simp; (try with_reducible rfl))
            change wpAnyH _ _ _ _ _ _ _ (Act.put _ (some 39) _) _
            simp only [Act.put, List.setIfInBounds_toArray, List.set_cons_zero, List.set_cons_succ]
            refine wpAnyH_take (i := 12) (v := ?vfa_B12) rfl (by kernel_rfl) (by kernel_rfl) (by kernel_rfl) (fun _ _ _ h => h) (Or.inl ⟨by first | kernel_rfl | rfl, ?yfa_B12⟩) hHeld ?rfa_B12
            case yfa_B12 => (intro W hSW; (try dsimp only at hSW); go_simp; (try with_reducible rfl))
            change wpAnyH _ _ _ _ _ _ _ (Act.put _ (some 51) _) _
            simp only [Act.put, List.setIfInBounds_toArray, List.set_cons_zero, List.set_cons_succ]
            refine wpAnyH_take (i := 13) (v := ?vfa_B13) rfl (by kernel_rfl) (by kernel_rfl) (by kernel_rfl) (fun _ _ _ h => h) (Or.inl ⟨by first | kernel_rfl | rfl, ?yfa_B13⟩) hHeld ?rfa_B13
            case yfa_B13 => (intro W hSW; (try dsimp only at hSW); go_simp; (try with_reducible rfl))
            change wpAnyH _ _ _ _ _ _ _ (Act.put _ (some 52) _) _
            simp only [Act.put, List.setIfInBounds_toArray, List.set_cons_zero, List.set_cons_succ]
            refine wpAnyH_ready (rs := [15]) (by kernel_rfl) (by simp) ?_
            refine AllReadyH.cons rfl (fun K hK => ?_) AllReadyH.nil
            go_simp
            refine hK.out _ _ (HQ8.out) (fun hHeld => ?_)
            clear hK K
            refine wpAnyH_take (i := 16) (v := ?vfa_B16) rfl (by kernel_rfl) (by kernel_rfl) (by kernel_rfl) (fun _ _ _ h => h) (Or.inl ⟨by first | kernel_rfl | rfl, ?yfa_B16⟩) hHeld ?rfa_B16
            case yfa_B16 => (intro W hSW; (try dsimp only at hSW); go_simp; (try with_reducible rfl))
            change wpAnyH _ _ _ _ _ _ _ (Act.put _ (some 9) _) _
            simp only [Act.put, List.setIfInBounds_toArray, List.set_cons_zero, List.set_cons_succ]
            refine wpAnyH_done (by kernel_rfl) ?_ _
            clear x0 x1 x2 x3 f0 f1 f2 f3
            obtain ⟨⟨y0, y1', y2, y3⟩, hku, hw8⟩ := HU.out
            have HC := HCU.out W8 ua un uc hku hw8
            have H8 : Hid (Below w.heap.size w W8) := hw8
            clear hku hw8
            go_wp2_with fail
            refine HC.mono ?_
            rintro e V9 ⟨rfl, hb9⟩
            have H9 : Hid (Below w.heap.size w V9) := H8.out.trans (hb9.mono H8.out.size)
            clear HC hb9 y0 y1' y2 y3
            go_wp2_with fail
            refine (HLV.out _ (H9.out)).mono ?_
            rintro e VZ ⟨rfl, hbZ⟩
            go_wp2
            go_ret
            exact ⟨rfl, hbZ⟩
        | false =>
          clear HCU
          go_wp2
          refine wp_region_held_drew (S := fun W => W.cell? ⟨pb, 0, none⟩ = some (.int .i64 t1) ∧ W.cell? ⟨pb, 1, none⟩ = some (.int .i64 n1) ∧ W.cell? ⟨pb, 2, none⟩ = some (.slice a1 len1 cap1) ∧ W.cell? ⟨pb, 3, none⟩ = some (.string s1)) (by kernel_rfl) ((HK.out V5.drew H5.out.drew).1) (fun hHeld => ?_)
          refine wpAnyH_take (i := 0) (v := ?vfb_0) rfl (by kernel_rfl) (by kernel_rfl) (by kernel_rfl) (fun _ _ _ h => h) (Or.inl ⟨by first | kernel_rfl | rfl, ?yfb_0⟩) hHeld ?rfb_0
          case yfb_0 => (intro W hSW; (try dsimp only at hSW); go_simp; (try with_reducible rfl))
          change wpAnyH _ _ _ _ _ _ _ (Act.put _ (some 40) _) _
          simp only [Act.put, List.setIfInBounds_toArray, List.set_cons_zero, List.set_cons_succ]
          refine wpAnyH_take (i := 1) (v := ?vfb_1) rfl (by kernel_rfl) (by kernel_rfl) (by kernel_rfl) (fun _ _ _ h => h) (Or.inl ⟨by first | kernel_rfl | rfl, ?yfb_1⟩) hHeld ?rfb_1
          case yfb_1 => (intro W hSW; (try dsimp only at hSW); go_simp; (try with_reducible rfl))
          change wpAnyH _ _ _ _ _ _ _ (Act.put _ (some 41) _) _
          simp only [Act.put, List.setIfInBounds_toArray, List.set_cons_zero, List.set_cons_succ]
          refine wpAnyH_take (i := 2) (v := ?vfb_2) rfl (by kernel_rfl) (by kernel_rfl) (by kernel_rfl) (fun _ _ _ h => h) (Or.inl ⟨by first | kernel_rfl | rfl, ?yfb_2⟩) hHeld ?rfb_2
          case yfb_2 => (intro W hSW; (try dsimp only at hSW); go_simp; (try with_reducible rfl))
          change wpAnyH _ _ _ _ _ _ _ (Act.put _ (some 42) _) _
          simp only [Act.put, List.setIfInBounds_toArray, List.set_cons_zero, List.set_cons_succ]
          refine wpAnyH_take (i := 3) (v := ?vfb_3) rfl (by kernel_rfl) (by kernel_rfl) (by kernel_rfl) (fun _ _ _ h => h) (Or.inl ⟨by first | kernel_rfl | rfl, ?yfb_3⟩) hHeld ?rfb_3
          case yfb_3 => (intro W hSW; (try dsimp only at hSW); go_simp; (try with_reducible rfl))
          change wpAnyH _ _ _ _ _ _ _ (Act.put _ (some 43) _) _
          simp only [Act.put, List.setIfInBounds_toArray, List.set_cons_zero, List.set_cons_succ]
          refine wpAnyH_take (i := 4) (v := ?vfb_4) rfl (by kernel_rfl) (by kernel_rfl) (by kernel_rfl) (fun _ _ _ h => h) (Or.inl ⟨by first | kernel_rfl | rfl, ?yfb_4⟩) hHeld ?rfb_4
          case yfb_4 => (intro W hSW; (try dsimp only at hSW); go_simp; (try with_reducible rfl))
          change wpAnyH _ _ _ _ _ _ _ (Act.put _ (some 44) _) _
          simp only [Act.put, List.setIfInBounds_toArray, List.set_cons_zero, List.set_cons_succ]
          refine wpAnyH_take (i := 5) (v := ?vfb_5) rfl (by kernel_rfl) (by kernel_rfl) (by kernel_rfl) (fun _ _ _ h => h) (Or.inl ⟨by first | kernel_rfl | rfl, ?yfb_5⟩) hHeld ?rfb_5
          case yfb_5 => (intro W hSW; (try dsimp only at hSW); go_simp; (try with_reducible rfl))
          change wpAnyH _ _ _ _ _ _ _ (Act.put _ (some 45) _) _
          simp only [Act.put, List.setIfInBounds_toArray, List.set_cons_zero, List.set_cons_succ]
          refine wpAnyH_take (i := 6) (v := ?vfb_6) rfl (by kernel_rfl) (by kernel_rfl) (by kernel_rfl) (fun _ _ _ h => h) (Or.inl ⟨by first | kernel_rfl | rfl, ?yfb_6⟩) hHeld ?rfb_6
          case yfb_6 => (intro W hSW; (try dsimp only at hSW); go_simp; (try with_reducible rfl))
          change wpAnyH _ _ _ _ _ _ _ (Act.put _ (some 46) _) _
          simp only [Act.put, List.setIfInBounds_toArray, List.set_cons_zero, List.set_cons_succ]
          refine wpAnyH_take (i := 7) (v := ?vfb_7) rfl (by kernel_rfl) (by kernel_rfl) (by kernel_rfl) (fun _ _ _ h => h) (Or.inl ⟨by first | kernel_rfl | rfl, ?yfb_7⟩) hHeld ?rfb_7
          case yfb_7 => (intro W hSW; (try dsimp only at hSW); go_simp; (try with_reducible rfl))
          change wpAnyH _ _ _ _ _ _ _ (Act.put _ (some 47) _) _
          simp only [Act.put, List.setIfInBounds_toArray, List.set_cons_zero, List.set_cons_succ]
          refine wpAnyH_take (i := 8) (v := ?vfb_8) rfl (by kernel_rfl) (by kernel_rfl) (by kernel_rfl) (fun _ _ _ h => h) (Or.inl ⟨by first | kernel_rfl | rfl, ?yfb_8⟩) hHeld ?rfb_8
          case yfb_8 => (intro W hSW; (try dsimp only at hSW); go_simp; (try with_reducible rfl))
          change wpAnyH _ _ _ _ _ _ _ (Act.put _ (some 48) _) _
          simp only [Act.put, List.setIfInBounds_toArray, List.set_cons_zero, List.set_cons_succ]
          refine wpAnyH_take (i := 9) (v := ?vfb_9) rfl (by kernel_rfl) (by kernel_rfl) (by kernel_rfl) (fun _ _ _ h => h) (Or.inl ⟨by first | kernel_rfl | rfl, ?yfb_9⟩) hHeld ?rfb_9
          case yfb_9 => (intro W hSW; (try dsimp only at hSW); go_simp; (try with_reducible rfl))
          change wpAnyH _ _ _ _ _ _ _ (Act.put _ (some 49) _) _
          simp only [Act.put, List.setIfInBounds_toArray, List.set_cons_zero, List.set_cons_succ]
          refine wpAnyH_ready (rs := [10, 14]) (by kernel_rfl) (by simp) ?_
          refine AllReadyH.cons rfl (fun K hK => ?_) (AllReadyH.cons rfl (fun K hK => ?_) AllReadyH.nil)
          · go_simp
            refine (HMD.out V5.drew (HK.out V5.drew H5.out.drew).2).mono ?_
            rintro e V6 ⟨ua, un, uc, rfl, hku0, hb6⟩
            refine hK.out _ _ ((HK.out V6 (H5.out.drew.trans (hb6.mono H5.out.drew.size))).1) (fun hHeld => ?_)
            clear hK K
            simp only at hku0 ⊢
            have hB6 : Below V1.heap.size V1 V6 := H5.out.drew.trans (hb6.mono H5.out.drew.size)
            obtain ⟨V7, hV7, hz, hb7⟩ := box_tk (w := V6) 0 0 none 0 0 ⟨#[]⟩
            obtain ⟨ub, hub⟩ : ∃ ub, V6.heap.size = ub := ⟨_, rfl⟩
            rw [hub] at hz
            have hB7 : Below V1.heap.size V1 V7 := hB6.trans (hb7.mono hB6.size)
            have hku : Rw (fun x => x < ub) V7 35 3 ua un uc (cvR u3) := (Rw.mono hku0 (fun x _ hx => by omega)).below hb7
            obtain ⟨x0, x1, x2, x3, f0, f1, f2, f3⟩ := row4 hz
            obtain ⟨W8, hW8⟩ : ∃ W8, (((V7.setCell ⟨ub, 0, none⟩ (.int .i64 u1)).setCell ⟨ub, 1, none⟩ (.int .i64 u2)).setCell ⟨ub, 2, none⟩ (.slice ua un uc)).setCell ⟨ub, 3, none⟩ (.string u4) = W8 := ⟨_, rfl⟩
            have hpu : V1.heap.size ≤ ub := by have := hB6.size; omega
            have hB8 : Below V1.heap.size V1 W8 := by rw [← hW8]; exact below4s hB7 hpu _ _ _ _
            have HU : Hid ((W8.cell? ⟨ub, 0, none⟩ = some (.int .i64 u1) ∧ W8.cell? ⟨ub, 1, none⟩ = some (.int .i64 u2) ∧ W8.cell? ⟨ub, 2, none⟩ = some (.slice ua un uc) ∧ W8.cell? ⟨ub, 3, none⟩ = some (.string u4)) ∧ Kw W8 ua un uc u3 ∧ Below w.heap.size w W8) := by
              have h8 : W8.heap[ub]? = some (.cells #[.int .i64 u1, .int .i64 u2, .slice ua un uc, .string u4] 25 (0, 0)) := by rw [← hW8]; exact set4 hz _ _ _ _
              obtain ⟨e0, e1, e2, e3, _⟩ := row4 h8
              refine ⟨⟨e0, e1, e2, e3⟩, ?_, (HK.out W8 hB8).2⟩
              rw [← hW8]
              exact Rw.mono (Rw.keep hku (below4s (Below.refl 0 _) (Nat.zero_le ub) _ _ _ _).size (fun b hb _ => other4s (by omega) _ _ _ _)) (fun _ _ _ => trivial)
            have HQ7 : Hid (V7.cell? ⟨pb, 0, none⟩ = some (.int .i64 t1) ∧ V7.cell? ⟨pb, 1, none⟩ = some (.int .i64 n1) ∧ V7.cell? ⟨pb, 2, none⟩ = some (.slice a1 len1 cap1) ∧ V7.cell? ⟨pb, 3, none⟩ = some (.string s1)) := (HK.out V7 hB7).1
            have HQ8 : Hid (W8.cell? ⟨pb, 0, none⟩ = some (.int .i64 t1) ∧ W8.cell? ⟨pb, 1, none⟩ = some (.int .i64 n1) ∧ W8.cell? ⟨pb, 2, none⟩ = some (.slice a1 len1 cap1) ∧ W8.cell? ⟨pb, 3, none⟩ = some (.string s1)) := (HK.out W8 hB8).1
            clear hku0 hb6 hB6 hz hb7 hB7 hku hpu hB8
            refine wpAnyH_take (i := 11) (v := ?vfb_A11) rfl (by kernel_rfl) (by kernel_rfl) (by kernel_rfl) (fun _ _ _ h => h) (Or.inl ⟨by first | kernel_rfl | rfl, ?yfb_A11⟩) hHeld ?rfb_A11
            case yfb_A11 => (intro W hSW; (try dsimp only at hSW); go_simp; (try with_reducible rfl))
            change wpAnyH _ _ _ _ _ _ _ (Act.put _ (some 39) _) _
            simp only [Act.put, List.setIfInBounds_toArray, List.set_cons_zero, List.set_cons_succ]
            refine wpAnyH_take (i := 12) (v := ?vfb_A12) rfl (by kernel_rfl) (by kernel_rfl) (by kernel_rfl) (fun _ _ _ h => h) (Or.inl ⟨by first | kernel_rfl | rfl, ?yfb_A12⟩) hHeld ?rfb_A12
            case yfb_A12 => (intro W hSW; (try dsimp only at hSW); go_simp; (try with_reducible rfl))
            change wpAnyH _ _ _ _ _ _ _ (Act.put _ (some 51) _) _
            simp only [Act.put, List.setIfInBounds_toArray, List.set_cons_zero, List.set_cons_succ]
            refine wpAnyH_take (i := 13) (v := ?vfb_A13) rfl (by kernel_rfl) (by kernel_rfl) (by kernel_rfl) (fun _ _ _ h => h) (Or.inl ⟨by first | kernel_rfl | rfl, ?yfb_A13⟩) hHeld ?rfb_A13
            case yfb_A13 => (intro W hSW; (try dsimp only at hSW); go_simp; (try with_reducible rfl))
            change wpAnyH _ _ _ _ _ _ _ (Act.put _ (some 52) _) _
            simp only [Act.put, List.setIfInBounds_toArray, List.set_cons_zero, List.set_cons_succ]
            refine wpAnyH_ready (rs := [14]) (by kernel_rfl) (by simp) ?_
            refine AllReadyH.cons rfl (fun K hK => ?_) AllReadyH.nil
            go_simp
            refine hK.out _ _ (HQ7.out) (fun hHeld => ?_)
            clear hK K
            try simp only [Act.put, List.setIfInBounds_toArray, List.set_cons_zero, List.set_cons_succ]
            refine wpAnyH_ready (rs := [15]) (by kernel_rfl) (by simp) ?_
            refine AllReadyH.cons rfl (fun K hK => ?_) AllReadyH.nil
            go_simp
            refine hK.out _ _ (HQ8.out) (fun hHeld => ?_)
            clear hK K
            refine wpAnyH_take (i := 16) (v := ?vfb_A16) rfl (by kernel_rfl) (by kernel_rfl) (by kernel_rfl) (fun _ _ _ h => h) (Or.inl ⟨by first | kernel_rfl | rfl, ?yfb_A16⟩) hHeld ?rfb_A16
            case yfb_A16 => (intro W hSW; (try dsimp only at hSW); go_simp; (try with_reducible rfl))
            change wpAnyH _ _ _ _ _ _ _ (Act.put _ (some 9) _) _
            simp only [Act.put, List.setIfInBounds_toArray, List.set_cons_zero, List.set_cons_succ]
            refine wpAnyH_done (by kernel_rfl) ?_ _
            clear x0 x1 x2 x3 f0 f1 f2 f3
            obtain ⟨⟨y0, y1', y2, y3⟩, hku, hw8⟩ := HU.out
            have H8 : Hid (Below w.heap.size w W8) := hw8
            clear hku hw8 y0 y1' y2 y3
            go_wp2_with fail
            refine (HLV.out _ (H8.out)).mono ?_
            rintro e VZ ⟨rfl, hbZ⟩
            go_wp2
            go_ret
            exact ⟨rfl, hbZ⟩
          · obtain ⟨V6, hV6, hz0, hb6⟩ := box_tk (w := V5.drew) 0 0 none 0 0 ⟨#[]⟩
            obtain ⟨ub, hub⟩ : ∃ ub, V5.drew.heap.size = ub := ⟨_, rfl⟩
            have hub2 : V5.heap.size = ub := hub
            rw [hub] at hz0
            have hB6 : Below V1.heap.size V1 V6 := H5.out.drew.trans (hb6.mono H5.out.drew.size)
            have HQ6 : Hid (V6.cell? ⟨pb, 0, none⟩ = some (.int .i64 t1) ∧ V6.cell? ⟨pb, 1, none⟩ = some (.int .i64 n1) ∧ V6.cell? ⟨pb, 2, none⟩ = some (.slice a1 len1 cap1) ∧ V6.cell? ⟨pb, 3, none⟩ = some (.string s1)) := (HK.out V6 hB6).1
            have H6 : Hid (Below V1.heap.size V1 V6 ∧ V6.heap[ub]? = some (.cells #[.int .i64 0, .int .i64 0, .slice none 0 0, .string ⟨#[]⟩] 25 (0, 0)) ∧ V1.heap.size ≤ ub) := ⟨hB6, hz0, by have := H5.out.size; omega⟩
            clear hB6 hz0 hb6
            go_simp
            refine hK.out _ _ (HQ6.out) (fun hHeld => ?_)
            clear hK K
            try simp only [Act.put, List.setIfInBounds_toArray, List.set_cons_zero, List.set_cons_succ]
            clear hub hub2 hV6
            refine wpAnyH_ready (rs := [10]) (by kernel_rfl) (by simp) ?_
            refine AllReadyH.cons rfl (fun K hK => ?_) AllReadyH.nil
            go_simp
            refine (HMD.out V6 (HK.out V6 H6.out.1).2).mono ?_
            rintro e V7 ⟨ua, un, uc, rfl, hku0, hb7⟩
            refine hK.out _ _ ((HK.out V7 (H6.out.1.trans (hb7.mono H6.out.1.size))).1) (fun hHeld => ?_)
            clear hK K
            simp only at hku0 ⊢
            have hB7 : Below V1.heap.size V1 V7 := H6.out.1.trans (hb7.mono H6.out.1.size)
            have hz := (hb7.block ub (lt_of_some H6.out.2.1)).trans H6.out.2.1
            have hku : Rw (fun x => ub < x) V7 35 3 ua un uc (cvR u3) := Rw.mono hku0 (fun x hx _ => by have := lt_of_some H6.out.2.1; omega)
            obtain ⟨x0, x1, x2, x3, f0, f1, f2, f3⟩ := row4 hz
            obtain ⟨W8, hW8⟩ : ∃ W8, (((V7.setCell ⟨ub, 0, none⟩ (.int .i64 u1)).setCell ⟨ub, 1, none⟩ (.int .i64 u2)).setCell ⟨ub, 2, none⟩ (.slice ua un uc)).setCell ⟨ub, 3, none⟩ (.string u4) = W8 := ⟨_, rfl⟩
            have hB8 : Below V1.heap.size V1 W8 := by rw [← hW8]; exact below4s hB7 H6.out.2.2 _ _ _ _
            have HU : Hid ((W8.cell? ⟨ub, 0, none⟩ = some (.int .i64 u1) ∧ W8.cell? ⟨ub, 1, none⟩ = some (.int .i64 u2) ∧ W8.cell? ⟨ub, 2, none⟩ = some (.slice ua un uc) ∧ W8.cell? ⟨ub, 3, none⟩ = some (.string u4)) ∧ Kw W8 ua un uc u3 ∧ Below w.heap.size w W8) := by
              have h8 : W8.heap[ub]? = some (.cells #[.int .i64 u1, .int .i64 u2, .slice ua un uc, .string u4] 25 (0, 0)) := by rw [← hW8]; exact set4 hz _ _ _ _
              obtain ⟨e0, e1, e2, e3, _⟩ := row4 h8
              refine ⟨⟨e0, e1, e2, e3⟩, ?_, (HK.out W8 hB8).2⟩
              rw [← hW8]
              exact Rw.mono (Rw.keep hku (below4s (Below.refl 0 _) (Nat.zero_le ub) _ _ _ _).size (fun b hb _ => other4s (by omega) _ _ _ _)) (fun _ _ _ => trivial)
            have HQ8 : Hid (W8.cell? ⟨pb, 0, none⟩ = some (.int .i64 t1) ∧ W8.cell? ⟨pb, 1, none⟩ = some (.int .i64 n1) ∧ W8.cell? ⟨pb, 2, none⟩ = some (.slice a1 len1 cap1) ∧ W8.cell? ⟨pb, 3, none⟩ = some (.string s1)) := (HK.out W8 hB8).1
            clear hku0 hb7 hB7 hz hku hB8
            refine wpAnyH_take (i := 11) (v := ?vfb_B11) rfl (by kernel_rfl) (by kernel_rfl) (by kernel_rfl) (fun _ _ _ h => h) (Or.inl ⟨by first | kernel_rfl | rfl, ?yfb_B11⟩) hHeld ?rfb_B11
            case yfb_B11 => (intro W hSW; (try dsimp only at hSW); go_simp; (try with_reducible rfl))
            change wpAnyH _ _ _ _ _ _ _ (Act.put _ (some 39) _) _
            simp only [Act.put, List.setIfInBounds_toArray, List.set_cons_zero, List.set_cons_succ]
            refine wpAnyH_take (i := 12) (v := ?vfb_B12) rfl (by kernel_rfl) (by kernel_rfl) (by kernel_rfl) (fun _ _ _ h => h) (Or.inl ⟨by first | kernel_rfl | rfl, ?yfb_B12⟩) hHeld ?rfb_B12
            case yfb_B12 => (intro W hSW; (try dsimp only at hSW); go_simp; (try with_reducible rfl))
            change wpAnyH _ _ _ _ _ _ _ (Act.put _ (some 51) _) _
            simp only [Act.put, List.setIfInBounds_toArray, List.set_cons_zero, List.set_cons_succ]
            refine wpAnyH_take (i := 13) (v := ?vfb_B13) rfl (by kernel_rfl) (by kernel_rfl) (by kernel_rfl) (fun _ _ _ h => h) (Or.inl ⟨by first | kernel_rfl | rfl, ?yfb_B13⟩) hHeld ?rfb_B13
            case yfb_B13 => (intro W hSW; (try dsimp only at hSW); go_simp; (try with_reducible rfl))
            change wpAnyH _ _ _ _ _ _ _ (Act.put _ (some 52) _) _
            simp only [Act.put, List.setIfInBounds_toArray, List.set_cons_zero, List.set_cons_succ]
            refine wpAnyH_ready (rs := [15]) (by kernel_rfl) (by simp) ?_
            refine AllReadyH.cons rfl (fun K hK => ?_) AllReadyH.nil
            go_simp
            refine hK.out _ _ (HQ8.out) (fun hHeld => ?_)
            clear hK K
            refine wpAnyH_take (i := 16) (v := ?vfb_B16) rfl (by kernel_rfl) (by kernel_rfl) (by kernel_rfl) (fun _ _ _ h => h) (Or.inl ⟨by first | kernel_rfl | rfl, ?yfb_B16⟩) hHeld ?rfb_B16
            case yfb_B16 => (intro W hSW; (try dsimp only at hSW); go_simp; (try with_reducible rfl))
            change wpAnyH _ _ _ _ _ _ _ (Act.put _ (some 9) _) _
            simp only [Act.put, List.setIfInBounds_toArray, List.set_cons_zero, List.set_cons_succ]
            refine wpAnyH_done (by kernel_rfl) ?_ _
            clear x0 x1 x2 x3 f0 f1 f2 f3
            obtain ⟨⟨y0, y1', y2, y3⟩, hku, hw8⟩ := HU.out
            have H8 : Hid (Below w.heap.size w W8) := hw8
            clear hku hw8 y0 y1' y2 y3
            go_wp2_with fail
            refine (HLV.out _ (H8.out)).mono ?_
            rintro e VZ ⟨rfl, hbZ⟩
            go_wp2
            go_ret
            exact ⟨rfl, hbZ⟩
      | true =>
        rw [hm] at HMY
        have hmi := may_iff.1 hm
        have hki := known_iff.1 hmi.1
        simp only at hmi hki
        obtain ⟨Z, hZ⟩ : ∃ Z, strOf (sealT s0.data.toList t1 n1 l1) = Z := ⟨_, rfl⟩
        have HSE : Hid (∀ W, Below w.heap.size w W → Calls Tryd.prog 13 #[.string s0, .int .i64 t1, .int .i64 n1, .slice a1 len1 cap1] W fun e w' => e = .returned (.string Z) ∧ Below W.heap.size W w') := fun W hW => by
          obtain ⟨tn, rfl⟩ : ∃ m : Nat, t1 = (m : Int) := ⟨t1.toNat, by omega⟩
          obtain ⟨nn, rfl⟩ : ∃ m : Nat, n1 = (m : Int) := ⟨n1.toNat, by omega⟩
          have h5 := rseal_any s0 tn nn W (w1.below hW) (by have := w1.len; omega) (by omega) hmi.2.2.2 (by omega) (by omega)
          unfold StTo at h5
          rw [hZ] at h5
          exact h5
        obtain ⟨q, hq⟩ : ∃ q, decide (s1 = Z) = q := ⟨_, rfl⟩
        have hqe : (s1.toList == Z.toList) = q := by
          rw [← hq, Bool.eq_iff_iff, beq_iff_eq, decide_eq_true_eq]
          constructor
          · intro e
            rw [ByteArray.toList_eq s1, ByteArray.toList_eq Z] at e
            exact ByteArray.ext (Array.toList_inj.1 e)
          · intro e; rw [e]
        have HX : Hid (checkT s0.data.toList ⟨t1, n1, l1, s1⟩ = q) := by show _ = _; unfold checkT; rw [hm, hZ, ← hq]; rfl
        have hqn : (q != q) = false := by simp
        clear hsm hm hmi hki hZ hq hup hmd hL w1 w2 c1 c2 hln hl hlp hj hcp hcq r1 hb1 ha'
        go_enter Tryd.func7, Tryd.ntmps7
        go_wp2_with fail
        refine HSM.mono ?_
        rintro e V2 ⟨rfl, hb2⟩
        have H2 : Hid (Below V1.heap.size V1 V2) := hb2
        clear HSM hb2 y0 y1' y2 y3
        go_wp2
        refine wp_region_held_drew (S := fun W => W.cell? ⟨pb, 0, none⟩ = some (.int .i64 t1) ∧ W.cell? ⟨pb, 1, none⟩ = some (.int .i64 n1) ∧ W.cell? ⟨pb, 2, none⟩ = some (.slice a1 len1 cap1) ∧ W.cell? ⟨pb, 3, none⟩ = some (.string s1)) (by kernel_rfl) ((HK.out V2.drew H2.out.drew).1) (fun hHeld => ?_)
        refine wpAnyH_take (i := 0) (v := ?vy_0) rfl (by kernel_rfl) (by kernel_rfl) (by kernel_rfl) (fun _ _ _ h => h) (Or.inl ⟨by first | kernel_rfl | rfl, ?yy_0⟩) hHeld ?ry_0
        case yy_0 => (intro W hSW; (try dsimp only at hSW); go_simp; (try with_reducible rfl))
        change wpAnyH _ _ _ _ _ _ _ (Act.put _ (some 19) _) _
        simp only [Act.put, List.setIfInBounds_toArray, List.set_cons_zero, List.set_cons_succ]
        refine wpAnyH_ready (rs := [1]) (by kernel_rfl) (by simp) ?_
        refine AllReadyH.cons rfl (fun K hK => ?_) AllReadyH.nil
        go_simp
        refine (HMY.out V2.drew (HK.out V2.drew H2.out.drew).2).mono ?_
        rintro e V3 ⟨rfl, hb3⟩
        refine hK.out _ _ ((HK.out V3 (H2.out.drew.trans (hb3.mono H2.out.drew.size))).1) (fun hHeld => ?_)
        clear hK K
        try simp only [Act.put, List.setIfInBounds_toArray, List.set_cons_zero, List.set_cons_succ]
        have H3 : Hid (Below V1.heap.size V1 V3) := H2.out.drew.trans (hb3.mono H2.out.drew.size)
        clear hb3
        refine wpAnyH_take (i := 2) (v := ?vy_2) rfl (by kernel_rfl) (by kernel_rfl) (by kernel_rfl) (fun _ _ _ h => h) (Or.inl ⟨by first | kernel_rfl | rfl, ?yy_2⟩) hHeld ?ry_2
        case yy_2 => (intro W hSW; (try dsimp only at hSW); go_simp; (try with_reducible rfl))
        change wpAnyH _ _ _ _ _ _ _ (Act.put _ (some 21) _) _
        simp only [Act.put, List.setIfInBounds_toArray, List.set_cons_zero, List.set_cons_succ]
        refine wpAnyH_take (i := 3) (v := ?vy_3) rfl (by kernel_rfl) (by kernel_rfl) (by kernel_rfl) (fun _ _ _ h => h) (Or.inl ⟨by first | kernel_rfl | rfl, ?yy_3⟩) hHeld ?ry_3
        case yy_3 => (intro W hSW; (try dsimp only at hSW); go_simp; (try with_reducible rfl))
        change wpAnyH _ _ _ _ _ _ _ (Act.put _ (some 22) _) _
        simp only [Act.put, List.setIfInBounds_toArray, List.set_cons_zero, List.set_cons_succ]
        refine wpAnyH_take (i := 4) (v := ?vy_4) rfl (by kernel_rfl) (by kernel_rfl) (by kernel_rfl) (fun _ _ _ h => h) (Or.inl ⟨by first | kernel_rfl | rfl, ?yy_4⟩) hHeld ?ry_4
        case yy_4 => (intro W hSW; (try dsimp only at hSW); go_simp; (try with_reducible rfl))
        change wpAnyH _ _ _ _ _ _ _ (Act.put _ (some 23) _) _
        simp only [Act.put, List.setIfInBounds_toArray, List.set_cons_zero, List.set_cons_succ]
        refine wpAnyH_take (i := 5) (v := ?vy_5) rfl (by kernel_rfl) (by kernel_rfl) (by kernel_rfl) (fun _ _ _ h => h) (Or.inl ⟨by first | kernel_rfl | rfl, ?yy_5⟩) hHeld ?ry_5
        case yy_5 => (intro W hSW; (try dsimp only at hSW); go_simp; (try with_reducible rfl))
        change wpAnyH _ _ _ _ _ _ _ (Act.put _ (some 24) _) _
        simp only [Act.put, List.setIfInBounds_toArray, List.set_cons_zero, List.set_cons_succ]
        refine wpAnyH_take (i := 6) (v := ?vy_6) rfl (by kernel_rfl) (by kernel_rfl) (by kernel_rfl) (fun _ _ _ h => h) (Or.inl ⟨by first | kernel_rfl | rfl, ?yy_6⟩) hHeld ?ry_6
        case yy_6 => (intro W hSW; (try dsimp only at hSW); go_simp; (try with_reducible rfl))
        change wpAnyH _ _ _ _ _ _ _ (Act.put _ (some 25) _) _
        simp only [Act.put, List.setIfInBounds_toArray, List.set_cons_zero, List.set_cons_succ]
        refine wpAnyH_take (i := 7) (v := ?vy_7) rfl (by kernel_rfl) (by kernel_rfl) (by kernel_rfl) (fun _ _ _ h => h) (Or.inl ⟨by first | kernel_rfl | rfl, ?yy_7⟩) hHeld ?ry_7
        case yy_7 => (intro W hSW; (try dsimp only at hSW); go_simp; (try with_reducible rfl))
        change wpAnyH _ _ _ _ _ _ _ (Act.put _ (some 26) _) _
        simp only [Act.put, List.setIfInBounds_toArray, List.set_cons_zero, List.set_cons_succ]
        refine wpAnyH_take (i := 8) (v := ?vy_8) rfl (by kernel_rfl) (by kernel_rfl) (by kernel_rfl) (fun _ _ _ h => h) (Or.inl ⟨by first | kernel_rfl | rfl, ?yy_8⟩) hHeld ?ry_8
        case yy_8 => (intro W hSW; (try dsimp only at hSW); go_simp; (try with_reducible rfl))
        change wpAnyH _ _ _ _ _ _ _ (Act.put _ (some 27) _) _
        simp only [Act.put, List.setIfInBounds_toArray, List.set_cons_zero, List.set_cons_succ]
        refine wpAnyH_take (i := 9) (v := ?vy_9) rfl (by kernel_rfl) (by kernel_rfl) (by kernel_rfl) (fun _ _ _ h => h) (Or.inl ⟨by first | kernel_rfl | rfl, ?yy_9⟩) hHeld ?ry_9
        case yy_9 => (intro W hSW; (try dsimp only at hSW); go_simp; (try with_reducible rfl))
        change wpAnyH _ _ _ _ _ _ _ (Act.put _ (some 28) _) _
        simp only [Act.put, List.setIfInBounds_toArray, List.set_cons_zero, List.set_cons_succ]
        refine wpAnyH_take (i := 10) (v := ?vy_10) rfl (by kernel_rfl) (by kernel_rfl) (by kernel_rfl) (fun _ _ _ h => h) (Or.inl ⟨by first | kernel_rfl | rfl, ?yy_10⟩) hHeld ?ry_10
        case yy_10 => (intro W hSW; (try dsimp only at hSW); go_simp; (try with_reducible rfl))
        change wpAnyH _ _ _ _ _ _ _ (Act.put _ (some 29) _) _
        simp only [Act.put, List.setIfInBounds_toArray, List.set_cons_zero, List.set_cons_succ]
        refine wpAnyH_take (i := 11) (v := ?vy_11) rfl (by kernel_rfl) (by kernel_rfl) (by kernel_rfl) (fun _ _ _ h => h) (Or.inl ⟨by first | kernel_rfl | rfl, ?yy_11⟩) hHeld ?ry_11
        case yy_11 => (intro W hSW; (try dsimp only at hSW); go_simp; (try with_reducible rfl))
        change wpAnyH _ _ _ _ _ _ _ (Act.put _ (some 30) _) _
        simp only [Act.put, List.setIfInBounds_toArray, List.set_cons_zero, List.set_cons_succ]
        refine wpAnyH_ready (rs := [12]) (by kernel_rfl) (by simp) ?_
        refine AllReadyH.cons rfl (fun K hK => ?_) AllReadyH.nil
        go_simp
        refine (HSE.out V3 (HK.out V3 H3.out).2).mono ?_
        rintro e V4 ⟨rfl, hb4⟩
        refine hK.out _ _ ((HK.out V4 (H3.out.trans (hb4.mono H3.out.size))).1) (fun hHeld => ?_)
        clear hK K
        try simp only [Act.put, List.setIfInBounds_toArray, List.set_cons_zero, List.set_cons_succ]
        have H4 : Hid (Below V1.heap.size V1 V4) := H3.out.trans (hb4.mono H3.out.size)
        clear hb4
        refine wpAnyH_take (i := 13) (v := ?vy_13) rfl (by kernel_rfl) (by kernel_rfl) (by kernel_rfl) (fun _ _ _ h => h) (Or.inl ⟨by first | kernel_rfl | rfl, ?yy_13⟩) hHeld ?ry_13
        case yy_13 => (intro W hSW; (try dsimp only at hSW); go_simp; (try with_reducible rfl))
        change wpAnyH _ _ _ _ _ _ _ (Act.put _ (some 32) _) _
        simp only [Act.put, List.setIfInBounds_toArray, List.set_cons_zero, List.set_cons_succ]
        refine wpAnyH_take (i := 14) (v := ?vy_14) rfl (by kernel_rfl) (by kernel_rfl) (by kernel_rfl) (fun _ _ _ h => h) (Or.inl ⟨by first | kernel_rfl | rfl, ?yy_14⟩) hHeld ?ry_14
        case yy_14 => (intro W hSW; (try dsimp only at hSW); go_simp; (try with_reducible rfl))
        change wpAnyH _ _ _ _ _ _ _ (Act.put _ (some 33) _) _
        simp only [Act.put, List.setIfInBounds_toArray, List.set_cons_zero, List.set_cons_succ]
        refine wpAnyH_take (i := 15) (v := ?vy_15) rfl (by kernel_rfl) (by kernel_rfl) (by kernel_rfl) (fun _ _ _ h => h) (Or.inl ⟨by first | kernel_rfl | rfl, ?yy_15⟩) hHeld ?ry_15
        case yy_15 => (intro W hSW; (try dsimp only at hSW); go_simp; (try with_reducible rfl))
        change wpAnyH _ _ _ _ _ _ _ (Act.put _ (some 7) _) _
        simp only [Act.put, List.setIfInBounds_toArray, List.set_cons_zero, List.set_cons_succ]
        refine wpAnyH_done (by kernel_rfl) ?_ _
        obtain ⟨⟨y0, y1', y2, y3⟩, hw4⟩ := HK.out V4 H4.out
        have HC4 := HCK.out V4 hw4
        rw [HX.out] at HC4
        clear hw4
        go_wp2_with fail
        refine HC4.mono ?_
        rintro e V5 ⟨rfl, hb5⟩
        have H5 : Hid (Below V1.heap.size V1 V5) := H4.out.trans (hb5.mono H4.out.size)
        clear HC4 hb5 y0 y1' y2 y3
        cases uq with
        | true =>
          have HCU2 : Hid (∀ W (ua : Option Addr) (un uc : Nat), Kw W ua un uc u3 → Below w.heap.size w W → Calls Tryd.prog 24 #[.string s0, .agg #[.int .i64 u1, .int .i64 u2, .slice ua un uc, .string u4]] W fun e w' => e = .returned (.bool true) ∧ Below W.heap.size W w') := HCU.out rfl
          clear HCU
          have HCU := HCU2
          clear HCU2
          go_wp2
          refine wp_region_held_drew (S := fun W => W.cell? ⟨pb, 0, none⟩ = some (.int .i64 t1) ∧ W.cell? ⟨pb, 1, none⟩ = some (.int .i64 n1) ∧ W.cell? ⟨pb, 2, none⟩ = some (.slice a1 len1 cap1) ∧ W.cell? ⟨pb, 3, none⟩ = some (.string s1)) (by kernel_rfl) ((HK.out V5.drew H5.out.drew).1) (fun hHeld => ?_)
          refine wpAnyH_take (i := 0) (v := ?vga_0) rfl (by kernel_rfl) (by kernel_rfl) (by kernel_rfl) (fun _ _ _ h => h) (Or.inl ⟨by first | kernel_rfl | rfl, ?yga_0⟩) hHeld ?rga_0
          case yga_0 => (intro W hSW; (try dsimp only at hSW); go_simp; (try with_reducible rfl))
          change wpAnyH _ _ _ _ _ _ _ (Act.put _ (some 40) _) _
          simp only [Act.put, List.setIfInBounds_toArray, List.set_cons_zero, List.set_cons_succ]
          refine wpAnyH_take (i := 1) (v := ?vga_1) rfl (by kernel_rfl) (by kernel_rfl) (by kernel_rfl) (fun _ _ _ h => h) (Or.inl ⟨by first | kernel_rfl | rfl, ?yga_1⟩) hHeld ?rga_1
          case yga_1 => (intro W hSW; (try dsimp only at hSW); go_simp; (try with_reducible rfl))
          change wpAnyH _ _ _ _ _ _ _ (Act.put _ (some 41) _) _
          simp only [Act.put, List.setIfInBounds_toArray, List.set_cons_zero, List.set_cons_succ]
          refine wpAnyH_take (i := 2) (v := ?vga_2) rfl (by kernel_rfl) (by kernel_rfl) (by kernel_rfl) (fun _ _ _ h => h) (Or.inl ⟨by first | kernel_rfl | rfl, ?yga_2⟩) hHeld ?rga_2
          case yga_2 => (intro W hSW; (try dsimp only at hSW); go_simp; (try with_reducible rfl))
          change wpAnyH _ _ _ _ _ _ _ (Act.put _ (some 42) _) _
          simp only [Act.put, List.setIfInBounds_toArray, List.set_cons_zero, List.set_cons_succ]
          refine wpAnyH_take (i := 3) (v := ?vga_3) rfl (by kernel_rfl) (by kernel_rfl) (by kernel_rfl) (fun _ _ _ h => h) (Or.inl ⟨by first | kernel_rfl | rfl, ?yga_3⟩) hHeld ?rga_3
          case yga_3 => (intro W hSW; (try dsimp only at hSW); go_simp; (try with_reducible rfl))
          change wpAnyH _ _ _ _ _ _ _ (Act.put _ (some 43) _) _
          simp only [Act.put, List.setIfInBounds_toArray, List.set_cons_zero, List.set_cons_succ]
          refine wpAnyH_take (i := 4) (v := ?vga_4) rfl (by kernel_rfl) (by kernel_rfl) (by kernel_rfl) (fun _ _ _ h => h) (Or.inl ⟨by first | kernel_rfl | rfl, ?yga_4⟩) hHeld ?rga_4
          case yga_4 => (intro W hSW; (try dsimp only at hSW); go_simp; (try with_reducible rfl))
          change wpAnyH _ _ _ _ _ _ _ (Act.put _ (some 44) _) _
          simp only [Act.put, List.setIfInBounds_toArray, List.set_cons_zero, List.set_cons_succ]
          refine wpAnyH_take (i := 5) (v := ?vga_5) rfl (by kernel_rfl) (by kernel_rfl) (by kernel_rfl) (fun _ _ _ h => h) (Or.inl ⟨by first | kernel_rfl | rfl, ?yga_5⟩) hHeld ?rga_5
          case yga_5 => (intro W hSW; (try dsimp only at hSW); go_simp; (try with_reducible rfl))
          change wpAnyH _ _ _ _ _ _ _ (Act.put _ (some 45) _) _
          simp only [Act.put, List.setIfInBounds_toArray, List.set_cons_zero, List.set_cons_succ]
          refine wpAnyH_take (i := 6) (v := ?vga_6) rfl (by kernel_rfl) (by kernel_rfl) (by kernel_rfl) (fun _ _ _ h => h) (Or.inl ⟨by first | kernel_rfl | rfl, ?yga_6⟩) hHeld ?rga_6
          case yga_6 => (intro W hSW; (try dsimp only at hSW); go_simp; (try with_reducible rfl))
          change wpAnyH _ _ _ _ _ _ _ (Act.put _ (some 46) _) _
          simp only [Act.put, List.setIfInBounds_toArray, List.set_cons_zero, List.set_cons_succ]
          refine wpAnyH_take (i := 7) (v := ?vga_7) rfl (by kernel_rfl) (by kernel_rfl) (by kernel_rfl) (fun _ _ _ h => h) (Or.inl ⟨by first | kernel_rfl | rfl, ?yga_7⟩) hHeld ?rga_7
          case yga_7 => (intro W hSW; (try dsimp only at hSW); go_simp; (try with_reducible rfl))
          change wpAnyH _ _ _ _ _ _ _ (Act.put _ (some 47) _) _
          simp only [Act.put, List.setIfInBounds_toArray, List.set_cons_zero, List.set_cons_succ]
          refine wpAnyH_take (i := 8) (v := ?vga_8) rfl (by kernel_rfl) (by kernel_rfl) (by kernel_rfl) (fun _ _ _ h => h) (Or.inl ⟨by first | kernel_rfl | rfl, ?yga_8⟩) hHeld ?rga_8
          case yga_8 => (intro W hSW; (try dsimp only at hSW); go_simp; (try with_reducible rfl))
          change wpAnyH _ _ _ _ _ _ _ (Act.put _ (some 48) _) _
          simp only [Act.put, List.setIfInBounds_toArray, List.set_cons_zero, List.set_cons_succ]
          refine wpAnyH_take (i := 9) (v := ?vga_9) rfl (by kernel_rfl) (by kernel_rfl) (by kernel_rfl) (fun _ _ _ h => h) (Or.inl ⟨by first | kernel_rfl | rfl, ?yga_9⟩) hHeld ?rga_9
          case yga_9 => (intro W hSW; (try dsimp only at hSW); go_simp; (try with_reducible rfl))
          change wpAnyH _ _ _ _ _ _ _ (Act.put _ (some 49) _) _
          simp only [Act.put, List.setIfInBounds_toArray, List.set_cons_zero, List.set_cons_succ]
          refine wpAnyH_ready (rs := [10, 14]) (by kernel_rfl) (by simp) ?_
          refine AllReadyH.cons rfl (fun K hK => ?_) (AllReadyH.cons rfl (fun K hK => ?_) AllReadyH.nil)
          · go_simp
            refine (HMD.out V5.drew (HK.out V5.drew H5.out.drew).2).mono ?_
            rintro e V6 ⟨ua, un, uc, rfl, hku0, hb6⟩
            refine hK.out _ _ ((HK.out V6 (H5.out.drew.trans (hb6.mono H5.out.drew.size))).1) (fun hHeld => ?_)
            clear hK K
            simp only at hku0 ⊢
            have hB6 : Below V1.heap.size V1 V6 := H5.out.drew.trans (hb6.mono H5.out.drew.size)
            obtain ⟨V7, hV7, hz, hb7⟩ := box_tk (w := V6) 0 0 none 0 0 ⟨#[]⟩
            obtain ⟨ub, hub⟩ : ∃ ub, V6.heap.size = ub := ⟨_, rfl⟩
            rw [hub] at hz
            have hB7 : Below V1.heap.size V1 V7 := hB6.trans (hb7.mono hB6.size)
            have hku : Rw (fun x => x < ub) V7 35 3 ua un uc (cvR u3) := (Rw.mono hku0 (fun x _ hx => by omega)).below hb7
            obtain ⟨x0, x1, x2, x3, f0, f1, f2, f3⟩ := row4 hz
            obtain ⟨W8, hW8⟩ : ∃ W8, (((V7.setCell ⟨ub, 0, none⟩ (.int .i64 u1)).setCell ⟨ub, 1, none⟩ (.int .i64 u2)).setCell ⟨ub, 2, none⟩ (.slice ua un uc)).setCell ⟨ub, 3, none⟩ (.string u4) = W8 := ⟨_, rfl⟩
            have hpu : V1.heap.size ≤ ub := by have := hB6.size; omega
            have hB8 : Below V1.heap.size V1 W8 := by rw [← hW8]; exact below4s hB7 hpu _ _ _ _
            have HU : Hid ((W8.cell? ⟨ub, 0, none⟩ = some (.int .i64 u1) ∧ W8.cell? ⟨ub, 1, none⟩ = some (.int .i64 u2) ∧ W8.cell? ⟨ub, 2, none⟩ = some (.slice ua un uc) ∧ W8.cell? ⟨ub, 3, none⟩ = some (.string u4)) ∧ Kw W8 ua un uc u3 ∧ Below w.heap.size w W8) := by
              have h8 : W8.heap[ub]? = some (.cells #[.int .i64 u1, .int .i64 u2, .slice ua un uc, .string u4] 25 (0, 0)) := by rw [← hW8]; exact set4 hz _ _ _ _
              obtain ⟨e0, e1, e2, e3, _⟩ := row4 h8
              refine ⟨⟨e0, e1, e2, e3⟩, ?_, (HK.out W8 hB8).2⟩
              rw [← hW8]
              exact Rw.mono (Rw.keep hku (below4s (Below.refl 0 _) (Nat.zero_le ub) _ _ _ _).size (fun b hb _ => other4s (by omega) _ _ _ _)) (fun _ _ _ => trivial)
            have HQ7 : Hid (V7.cell? ⟨pb, 0, none⟩ = some (.int .i64 t1) ∧ V7.cell? ⟨pb, 1, none⟩ = some (.int .i64 n1) ∧ V7.cell? ⟨pb, 2, none⟩ = some (.slice a1 len1 cap1) ∧ V7.cell? ⟨pb, 3, none⟩ = some (.string s1)) := (HK.out V7 hB7).1
            have HQ8 : Hid (W8.cell? ⟨pb, 0, none⟩ = some (.int .i64 t1) ∧ W8.cell? ⟨pb, 1, none⟩ = some (.int .i64 n1) ∧ W8.cell? ⟨pb, 2, none⟩ = some (.slice a1 len1 cap1) ∧ W8.cell? ⟨pb, 3, none⟩ = some (.string s1)) := (HK.out W8 hB8).1
            clear hku0 hb6 hB6 hz hb7 hB7 hku hpu hB8
            refine wpAnyH_take (i := 11) (v := ?vga_A11) rfl (by kernel_rfl) (by kernel_rfl) (by kernel_rfl) (fun _ _ _ h => h) (Or.inl ⟨by first | kernel_rfl | rfl, ?yga_A11⟩) hHeld ?rga_A11
            case yga_A11 => (intro W hSW; (try dsimp only at hSW); go_simp; (try with_reducible rfl))
            change wpAnyH _ _ _ _ _ _ _ (Act.put _ (some 39) _) _
            simp only [Act.put, List.setIfInBounds_toArray, List.set_cons_zero, List.set_cons_succ]
            refine wpAnyH_take (i := 12) (v := ?vga_A12) rfl (by kernel_rfl) (by kernel_rfl) (by kernel_rfl) (fun _ _ _ h => h) (Or.inl ⟨by first | kernel_rfl | rfl, ?yga_A12⟩) hHeld ?rga_A12
            case yga_A12 => (intro W hSW; (try dsimp only at hSW); go_simp; (try with_reducible rfl))
            change wpAnyH _ _ _ _ _ _ _ (Act.put _ (some 51) _) _
            simp only [Act.put, List.setIfInBounds_toArray, List.set_cons_zero, List.set_cons_succ]
            refine wpAnyH_take (i := 13) (v := ?vga_A13) rfl (by kernel_rfl) (by kernel_rfl) (by kernel_rfl) (fun _ _ _ h => h) (Or.inl ⟨by first | kernel_rfl | rfl, ?yga_A13⟩) hHeld ?rga_A13
            case yga_A13 => (intro W hSW; (try dsimp only at hSW); go_simp; (try with_reducible rfl))
            change wpAnyH _ _ _ _ _ _ _ (Act.put _ (some 52) _) _
            simp only [Act.put, List.setIfInBounds_toArray, List.set_cons_zero, List.set_cons_succ]
            refine wpAnyH_ready (rs := [14]) (by kernel_rfl) (by simp) ?_
            refine AllReadyH.cons rfl (fun K hK => ?_) AllReadyH.nil
            go_simp
            refine hK.out _ _ (HQ7.out) (fun hHeld => ?_)
            clear hK K
            try simp only [Act.put, List.setIfInBounds_toArray, List.set_cons_zero, List.set_cons_succ]
            refine wpAnyH_ready (rs := [15]) (by kernel_rfl) (by simp) ?_
            refine AllReadyH.cons rfl (fun K hK => ?_) AllReadyH.nil
            go_simp
            refine hK.out _ _ (HQ8.out) (fun hHeld => ?_)
            clear hK K
            refine wpAnyH_take (i := 16) (v := ?vga_A16) rfl (by kernel_rfl) (by kernel_rfl) (by kernel_rfl) (fun _ _ _ h => h) (Or.inl ⟨by first | kernel_rfl | rfl, ?yga_A16⟩) hHeld ?rga_A16
            case yga_A16 => (intro W hSW; (try dsimp only at hSW); go_simp; (try with_reducible rfl))
            change wpAnyH _ _ _ _ _ _ _ (Act.put _ (some 9) _) _
            simp only [Act.put, List.setIfInBounds_toArray, List.set_cons_zero, List.set_cons_succ]
            refine wpAnyH_done (by kernel_rfl) ?_ _
            clear x0 x1 x2 x3 f0 f1 f2 f3
            obtain ⟨⟨y0, y1', y2, y3⟩, hku, hw8⟩ := HU.out
            have HC := HCU.out W8 ua un uc hku hw8
            have H8 : Hid (Below w.heap.size w W8) := hw8
            clear hku hw8
            go_wp2_with fail
            refine HC.mono ?_
            rintro e V9 ⟨rfl, hb9⟩
            have H9 : Hid (Below w.heap.size w V9) := H8.out.trans (hb9.mono H8.out.size)
            clear HC hb9 y0 y1' y2 y3
            go_wp2_with fail
            refine (HLV.out _ (H9.out)).mono ?_
            rintro e VZ ⟨rfl, hbZ⟩
            go_wp2
            go_ret
            exact ⟨rfl, hbZ⟩
          · obtain ⟨V6, hV6, hz0, hb6⟩ := box_tk (w := V5.drew) 0 0 none 0 0 ⟨#[]⟩
            obtain ⟨ub, hub⟩ : ∃ ub, V5.drew.heap.size = ub := ⟨_, rfl⟩
            have hub2 : V5.heap.size = ub := hub
            rw [hub] at hz0
            have hB6 : Below V1.heap.size V1 V6 := H5.out.drew.trans (hb6.mono H5.out.drew.size)
            have HQ6 : Hid (V6.cell? ⟨pb, 0, none⟩ = some (.int .i64 t1) ∧ V6.cell? ⟨pb, 1, none⟩ = some (.int .i64 n1) ∧ V6.cell? ⟨pb, 2, none⟩ = some (.slice a1 len1 cap1) ∧ V6.cell? ⟨pb, 3, none⟩ = some (.string s1)) := (HK.out V6 hB6).1
            have H6 : Hid (Below V1.heap.size V1 V6 ∧ V6.heap[ub]? = some (.cells #[.int .i64 0, .int .i64 0, .slice none 0 0, .string ⟨#[]⟩] 25 (0, 0)) ∧ V1.heap.size ≤ ub) := ⟨hB6, hz0, by have := H5.out.size; omega⟩
            clear hB6 hz0 hb6
            go_simp
            refine hK.out _ _ (HQ6.out) (fun hHeld => ?_)
            clear hK K
            try simp only [Act.put, List.setIfInBounds_toArray, List.set_cons_zero, List.set_cons_succ]
            clear hub hub2 hV6
            refine wpAnyH_ready (rs := [10]) (by kernel_rfl) (by simp) ?_
            refine AllReadyH.cons rfl (fun K hK => ?_) AllReadyH.nil
            go_simp
            refine (HMD.out V6 (HK.out V6 H6.out.1).2).mono ?_
            rintro e V7 ⟨ua, un, uc, rfl, hku0, hb7⟩
            refine hK.out _ _ ((HK.out V7 (H6.out.1.trans (hb7.mono H6.out.1.size))).1) (fun hHeld => ?_)
            clear hK K
            simp only at hku0 ⊢
            have hB7 : Below V1.heap.size V1 V7 := H6.out.1.trans (hb7.mono H6.out.1.size)
            have hz := (hb7.block ub (lt_of_some H6.out.2.1)).trans H6.out.2.1
            have hku : Rw (fun x => ub < x) V7 35 3 ua un uc (cvR u3) := Rw.mono hku0 (fun x hx _ => by have := lt_of_some H6.out.2.1; omega)
            obtain ⟨x0, x1, x2, x3, f0, f1, f2, f3⟩ := row4 hz
            obtain ⟨W8, hW8⟩ : ∃ W8, (((V7.setCell ⟨ub, 0, none⟩ (.int .i64 u1)).setCell ⟨ub, 1, none⟩ (.int .i64 u2)).setCell ⟨ub, 2, none⟩ (.slice ua un uc)).setCell ⟨ub, 3, none⟩ (.string u4) = W8 := ⟨_, rfl⟩
            have hB8 : Below V1.heap.size V1 W8 := by rw [← hW8]; exact below4s hB7 H6.out.2.2 _ _ _ _
            have HU : Hid ((W8.cell? ⟨ub, 0, none⟩ = some (.int .i64 u1) ∧ W8.cell? ⟨ub, 1, none⟩ = some (.int .i64 u2) ∧ W8.cell? ⟨ub, 2, none⟩ = some (.slice ua un uc) ∧ W8.cell? ⟨ub, 3, none⟩ = some (.string u4)) ∧ Kw W8 ua un uc u3 ∧ Below w.heap.size w W8) := by
              have h8 : W8.heap[ub]? = some (.cells #[.int .i64 u1, .int .i64 u2, .slice ua un uc, .string u4] 25 (0, 0)) := by rw [← hW8]; exact set4 hz _ _ _ _
              obtain ⟨e0, e1, e2, e3, _⟩ := row4 h8
              refine ⟨⟨e0, e1, e2, e3⟩, ?_, (HK.out W8 hB8).2⟩
              rw [← hW8]
              exact Rw.mono (Rw.keep hku (below4s (Below.refl 0 _) (Nat.zero_le ub) _ _ _ _).size (fun b hb _ => other4s (by omega) _ _ _ _)) (fun _ _ _ => trivial)
            have HQ8 : Hid (W8.cell? ⟨pb, 0, none⟩ = some (.int .i64 t1) ∧ W8.cell? ⟨pb, 1, none⟩ = some (.int .i64 n1) ∧ W8.cell? ⟨pb, 2, none⟩ = some (.slice a1 len1 cap1) ∧ W8.cell? ⟨pb, 3, none⟩ = some (.string s1)) := (HK.out W8 hB8).1
            clear hku0 hb7 hB7 hz hku hB8
            refine wpAnyH_take (i := 11) (v := ?vga_B11) rfl (by kernel_rfl) (by kernel_rfl) (by kernel_rfl) (fun _ _ _ h => h) (Or.inl ⟨by first | kernel_rfl | rfl, ?yga_B11⟩) hHeld ?rga_B11
            case yga_B11 => (intro W hSW; (try dsimp only at hSW); go_simp; (try with_reducible rfl))
            change wpAnyH _ _ _ _ _ _ _ (Act.put _ (some 39) _) _
            simp only [Act.put, List.setIfInBounds_toArray, List.set_cons_zero, List.set_cons_succ]
            refine wpAnyH_take (i := 12) (v := ?vga_B12) rfl (by kernel_rfl) (by kernel_rfl) (by kernel_rfl) (fun _ _ _ h => h) (Or.inl ⟨by first | kernel_rfl | rfl, ?yga_B12⟩) hHeld ?rga_B12
            case yga_B12 => (intro W hSW; (try dsimp only at hSW); go_simp; (try with_reducible rfl))
            change wpAnyH _ _ _ _ _ _ _ (Act.put _ (some 51) _) _
            simp only [Act.put, List.setIfInBounds_toArray, List.set_cons_zero, List.set_cons_succ]
            refine wpAnyH_take (i := 13) (v := ?vga_B13) rfl (by kernel_rfl) (by kernel_rfl) (by kernel_rfl) (fun _ _ _ h => h) (Or.inl ⟨by first | kernel_rfl | rfl, ?yga_B13⟩) hHeld ?rga_B13
            case yga_B13 => (intro W hSW; (try dsimp only at hSW); go_simp; (try with_reducible rfl))
            change wpAnyH _ _ _ _ _ _ _ (Act.put _ (some 52) _) _
            simp only [Act.put, List.setIfInBounds_toArray, List.set_cons_zero, List.set_cons_succ]
            refine wpAnyH_ready (rs := [15]) (by kernel_rfl) (by simp) ?_
            refine AllReadyH.cons rfl (fun K hK => ?_) AllReadyH.nil
            go_simp
            refine hK.out _ _ (HQ8.out) (fun hHeld => ?_)
            clear hK K
            refine wpAnyH_take (i := 16) (v := ?vga_B16) rfl (by kernel_rfl) (by kernel_rfl) (by kernel_rfl) (fun _ _ _ h => h) (Or.inl ⟨by first | kernel_rfl | rfl, ?yga_B16⟩) hHeld ?rga_B16
            case yga_B16 => (intro W hSW; (try dsimp only at hSW); go_simp; (try with_reducible rfl))
            change wpAnyH _ _ _ _ _ _ _ (Act.put _ (some 9) _) _
            simp only [Act.put, List.setIfInBounds_toArray, List.set_cons_zero, List.set_cons_succ]
            refine wpAnyH_done (by kernel_rfl) ?_ _
            clear x0 x1 x2 x3 f0 f1 f2 f3
            obtain ⟨⟨y0, y1', y2, y3⟩, hku, hw8⟩ := HU.out
            have HC := HCU.out W8 ua un uc hku hw8
            have H8 : Hid (Below w.heap.size w W8) := hw8
            clear hku hw8
            go_wp2_with fail
            refine HC.mono ?_
            rintro e V9 ⟨rfl, hb9⟩
            have H9 : Hid (Below w.heap.size w V9) := H8.out.trans (hb9.mono H8.out.size)
            clear HC hb9 y0 y1' y2 y3
            go_wp2_with fail
            refine (HLV.out _ (H9.out)).mono ?_
            rintro e VZ ⟨rfl, hbZ⟩
            go_wp2
            go_ret
            exact ⟨rfl, hbZ⟩
        | false =>
          clear HCU
          go_wp2
          refine wp_region_held_drew (S := fun W => W.cell? ⟨pb, 0, none⟩ = some (.int .i64 t1) ∧ W.cell? ⟨pb, 1, none⟩ = some (.int .i64 n1) ∧ W.cell? ⟨pb, 2, none⟩ = some (.slice a1 len1 cap1) ∧ W.cell? ⟨pb, 3, none⟩ = some (.string s1)) (by kernel_rfl) ((HK.out V5.drew H5.out.drew).1) (fun hHeld => ?_)
          refine wpAnyH_take (i := 0) (v := ?vgb_0) rfl (by kernel_rfl) (by kernel_rfl) (by kernel_rfl) (fun _ _ _ h => h) (Or.inl ⟨by first | kernel_rfl | rfl, ?ygb_0⟩) hHeld ?rgb_0
          case ygb_0 => (intro W hSW; (try dsimp only at hSW); go_simp; (try with_reducible rfl))
          change wpAnyH _ _ _ _ _ _ _ (Act.put _ (some 40) _) _
          simp only [Act.put, List.setIfInBounds_toArray, List.set_cons_zero, List.set_cons_succ]
          refine wpAnyH_take (i := 1) (v := ?vgb_1) rfl (by kernel_rfl) (by kernel_rfl) (by kernel_rfl) (fun _ _ _ h => h) (Or.inl ⟨by first | kernel_rfl | rfl, ?ygb_1⟩) hHeld ?rgb_1
          case ygb_1 => (intro W hSW; (try dsimp only at hSW); go_simp; (try with_reducible rfl))
          change wpAnyH _ _ _ _ _ _ _ (Act.put _ (some 41) _) _
          simp only [Act.put, List.setIfInBounds_toArray, List.set_cons_zero, List.set_cons_succ]
          refine wpAnyH_take (i := 2) (v := ?vgb_2) rfl (by kernel_rfl) (by kernel_rfl) (by kernel_rfl) (fun _ _ _ h => h) (Or.inl ⟨by first | kernel_rfl | rfl, ?ygb_2⟩) hHeld ?rgb_2
          case ygb_2 => (intro W hSW; (try dsimp only at hSW); go_simp; (try with_reducible rfl))
          change wpAnyH _ _ _ _ _ _ _ (Act.put _ (some 42) _) _
          simp only [Act.put, List.setIfInBounds_toArray, List.set_cons_zero, List.set_cons_succ]
          refine wpAnyH_take (i := 3) (v := ?vgb_3) rfl (by kernel_rfl) (by kernel_rfl) (by kernel_rfl) (fun _ _ _ h => h) (Or.inl ⟨by first | kernel_rfl | rfl, ?ygb_3⟩) hHeld ?rgb_3
          case ygb_3 => (intro W hSW; (try dsimp only at hSW); go_simp; (try with_reducible rfl))
          change wpAnyH _ _ _ _ _ _ _ (Act.put _ (some 43) _) _
          simp only [Act.put, List.setIfInBounds_toArray, List.set_cons_zero, List.set_cons_succ]
          refine wpAnyH_take (i := 4) (v := ?vgb_4) rfl (by kernel_rfl) (by kernel_rfl) (by kernel_rfl) (fun _ _ _ h => h) (Or.inl ⟨by first | kernel_rfl | rfl, ?ygb_4⟩) hHeld ?rgb_4
          case ygb_4 => (intro W hSW; (try dsimp only at hSW); go_simp; (try with_reducible rfl))
          change wpAnyH _ _ _ _ _ _ _ (Act.put _ (some 44) _) _
          simp only [Act.put, List.setIfInBounds_toArray, List.set_cons_zero, List.set_cons_succ]
          refine wpAnyH_take (i := 5) (v := ?vgb_5) rfl (by kernel_rfl) (by kernel_rfl) (by kernel_rfl) (fun _ _ _ h => h) (Or.inl ⟨by first | kernel_rfl | rfl, ?ygb_5⟩) hHeld ?rgb_5
          case ygb_5 => (intro W hSW; (try dsimp only at hSW); go_simp; (try with_reducible rfl))
          change wpAnyH _ _ _ _ _ _ _ (Act.put _ (some 45) _) _
          simp only [Act.put, List.setIfInBounds_toArray, List.set_cons_zero, List.set_cons_succ]
          refine wpAnyH_take (i := 6) (v := ?vgb_6) rfl (by kernel_rfl) (by kernel_rfl) (by kernel_rfl) (fun _ _ _ h => h) (Or.inl ⟨by first | kernel_rfl | rfl, ?ygb_6⟩) hHeld ?rgb_6
          case ygb_6 => (intro W hSW; (try dsimp only at hSW); go_simp; (try with_reducible rfl))
          change wpAnyH _ _ _ _ _ _ _ (Act.put _ (some 46) _) _
          simp only [Act.put, List.setIfInBounds_toArray, List.set_cons_zero, List.set_cons_succ]
          refine wpAnyH_take (i := 7) (v := ?vgb_7) rfl (by kernel_rfl) (by kernel_rfl) (by kernel_rfl) (fun _ _ _ h => h) (Or.inl ⟨by first | kernel_rfl | rfl, ?ygb_7⟩) hHeld ?rgb_7
          case ygb_7 => (intro W hSW; (try dsimp only at hSW); go_simp; (try with_reducible rfl))
          change wpAnyH _ _ _ _ _ _ _ (Act.put _ (some 47) _) _
          simp only [Act.put, List.setIfInBounds_toArray, List.set_cons_zero, List.set_cons_succ]
          refine wpAnyH_take (i := 8) (v := ?vgb_8) rfl (by kernel_rfl) (by kernel_rfl) (by kernel_rfl) (fun _ _ _ h => h) (Or.inl ⟨by first | kernel_rfl | rfl, ?ygb_8⟩) hHeld ?rgb_8
          case ygb_8 => (intro W hSW; (try dsimp only at hSW); go_simp; (try with_reducible rfl))
          change wpAnyH _ _ _ _ _ _ _ (Act.put _ (some 48) _) _
          simp only [Act.put, List.setIfInBounds_toArray, List.set_cons_zero, List.set_cons_succ]
          refine wpAnyH_take (i := 9) (v := ?vgb_9) rfl (by kernel_rfl) (by kernel_rfl) (by kernel_rfl) (fun _ _ _ h => h) (Or.inl ⟨by first | kernel_rfl | rfl, ?ygb_9⟩) hHeld ?rgb_9
          case ygb_9 => (intro W hSW; (try dsimp only at hSW); go_simp; (try with_reducible rfl))
          change wpAnyH _ _ _ _ _ _ _ (Act.put _ (some 49) _) _
          simp only [Act.put, List.setIfInBounds_toArray, List.set_cons_zero, List.set_cons_succ]
          refine wpAnyH_ready (rs := [10, 14]) (by kernel_rfl) (by simp) ?_
          refine AllReadyH.cons rfl (fun K hK => ?_) (AllReadyH.cons rfl (fun K hK => ?_) AllReadyH.nil)
          · go_simp
            refine (HMD.out V5.drew (HK.out V5.drew H5.out.drew).2).mono ?_
            rintro e V6 ⟨ua, un, uc, rfl, hku0, hb6⟩
            refine hK.out _ _ ((HK.out V6 (H5.out.drew.trans (hb6.mono H5.out.drew.size))).1) (fun hHeld => ?_)
            clear hK K
            simp only at hku0 ⊢
            have hB6 : Below V1.heap.size V1 V6 := H5.out.drew.trans (hb6.mono H5.out.drew.size)
            obtain ⟨V7, hV7, hz, hb7⟩ := box_tk (w := V6) 0 0 none 0 0 ⟨#[]⟩
            obtain ⟨ub, hub⟩ : ∃ ub, V6.heap.size = ub := ⟨_, rfl⟩
            rw [hub] at hz
            have hB7 : Below V1.heap.size V1 V7 := hB6.trans (hb7.mono hB6.size)
            have hku : Rw (fun x => x < ub) V7 35 3 ua un uc (cvR u3) := (Rw.mono hku0 (fun x _ hx => by omega)).below hb7
            obtain ⟨x0, x1, x2, x3, f0, f1, f2, f3⟩ := row4 hz
            obtain ⟨W8, hW8⟩ : ∃ W8, (((V7.setCell ⟨ub, 0, none⟩ (.int .i64 u1)).setCell ⟨ub, 1, none⟩ (.int .i64 u2)).setCell ⟨ub, 2, none⟩ (.slice ua un uc)).setCell ⟨ub, 3, none⟩ (.string u4) = W8 := ⟨_, rfl⟩
            have hpu : V1.heap.size ≤ ub := by have := hB6.size; omega
            have hB8 : Below V1.heap.size V1 W8 := by rw [← hW8]; exact below4s hB7 hpu _ _ _ _
            have HU : Hid ((W8.cell? ⟨ub, 0, none⟩ = some (.int .i64 u1) ∧ W8.cell? ⟨ub, 1, none⟩ = some (.int .i64 u2) ∧ W8.cell? ⟨ub, 2, none⟩ = some (.slice ua un uc) ∧ W8.cell? ⟨ub, 3, none⟩ = some (.string u4)) ∧ Kw W8 ua un uc u3 ∧ Below w.heap.size w W8) := by
              have h8 : W8.heap[ub]? = some (.cells #[.int .i64 u1, .int .i64 u2, .slice ua un uc, .string u4] 25 (0, 0)) := by rw [← hW8]; exact set4 hz _ _ _ _
              obtain ⟨e0, e1, e2, e3, _⟩ := row4 h8
              refine ⟨⟨e0, e1, e2, e3⟩, ?_, (HK.out W8 hB8).2⟩
              rw [← hW8]
              exact Rw.mono (Rw.keep hku (below4s (Below.refl 0 _) (Nat.zero_le ub) _ _ _ _).size (fun b hb _ => other4s (by omega) _ _ _ _)) (fun _ _ _ => trivial)
            have HQ7 : Hid (V7.cell? ⟨pb, 0, none⟩ = some (.int .i64 t1) ∧ V7.cell? ⟨pb, 1, none⟩ = some (.int .i64 n1) ∧ V7.cell? ⟨pb, 2, none⟩ = some (.slice a1 len1 cap1) ∧ V7.cell? ⟨pb, 3, none⟩ = some (.string s1)) := (HK.out V7 hB7).1
            have HQ8 : Hid (W8.cell? ⟨pb, 0, none⟩ = some (.int .i64 t1) ∧ W8.cell? ⟨pb, 1, none⟩ = some (.int .i64 n1) ∧ W8.cell? ⟨pb, 2, none⟩ = some (.slice a1 len1 cap1) ∧ W8.cell? ⟨pb, 3, none⟩ = some (.string s1)) := (HK.out W8 hB8).1
            clear hku0 hb6 hB6 hz hb7 hB7 hku hpu hB8
            refine wpAnyH_take (i := 11) (v := ?vgb_A11) rfl (by kernel_rfl) (by kernel_rfl) (by kernel_rfl) (fun _ _ _ h => h) (Or.inl ⟨by first | kernel_rfl | rfl, ?ygb_A11⟩) hHeld ?rgb_A11
            case ygb_A11 => (intro W hSW; (try dsimp only at hSW); go_simp; (try with_reducible rfl))
            change wpAnyH _ _ _ _ _ _ _ (Act.put _ (some 39) _) _
            simp only [Act.put, List.setIfInBounds_toArray, List.set_cons_zero, List.set_cons_succ]
            refine wpAnyH_take (i := 12) (v := ?vgb_A12) rfl (by kernel_rfl) (by kernel_rfl) (by kernel_rfl) (fun _ _ _ h => h) (Or.inl ⟨by first | kernel_rfl | rfl, ?ygb_A12⟩) hHeld ?rgb_A12
            case ygb_A12 => (intro W hSW; (try dsimp only at hSW); go_simp; (try with_reducible rfl))
            change wpAnyH _ _ _ _ _ _ _ (Act.put _ (some 51) _) _
            simp only [Act.put, List.setIfInBounds_toArray, List.set_cons_zero, List.set_cons_succ]
            refine wpAnyH_take (i := 13) (v := ?vgb_A13) rfl (by kernel_rfl) (by kernel_rfl) (by kernel_rfl) (fun _ _ _ h => h) (Or.inl ⟨by first | kernel_rfl | rfl, ?ygb_A13⟩) hHeld ?rgb_A13
            case ygb_A13 => (intro W hSW; (try dsimp only at hSW); go_simp; (try with_reducible rfl))
            change wpAnyH _ _ _ _ _ _ _ (Act.put _ (some 52) _) _
            simp only [Act.put, List.setIfInBounds_toArray, List.set_cons_zero, List.set_cons_succ]
            refine wpAnyH_ready (rs := [14]) (by kernel_rfl) (by simp) ?_
            refine AllReadyH.cons rfl (fun K hK => ?_) AllReadyH.nil
            go_simp
            refine hK.out _ _ (HQ7.out) (fun hHeld => ?_)
            clear hK K
            try simp only [Act.put, List.setIfInBounds_toArray, List.set_cons_zero, List.set_cons_succ]
            refine wpAnyH_ready (rs := [15]) (by kernel_rfl) (by simp) ?_
            refine AllReadyH.cons rfl (fun K hK => ?_) AllReadyH.nil
            go_simp
            refine hK.out _ _ (HQ8.out) (fun hHeld => ?_)
            clear hK K
            refine wpAnyH_take (i := 16) (v := ?vgb_A16) rfl (by kernel_rfl) (by kernel_rfl) (by kernel_rfl) (fun _ _ _ h => h) (Or.inl ⟨by first | kernel_rfl | rfl, ?ygb_A16⟩) hHeld ?rgb_A16
            case ygb_A16 => (intro W hSW; (try dsimp only at hSW); go_simp; (try with_reducible rfl))
            change wpAnyH _ _ _ _ _ _ _ (Act.put _ (some 9) _) _
            simp only [Act.put, List.setIfInBounds_toArray, List.set_cons_zero, List.set_cons_succ]
            refine wpAnyH_done (by kernel_rfl) ?_ _
            clear x0 x1 x2 x3 f0 f1 f2 f3
            obtain ⟨⟨y0, y1', y2, y3⟩, hku, hw8⟩ := HU.out
            have H8 : Hid (Below w.heap.size w W8) := hw8
            clear hku hw8 y0 y1' y2 y3
            go_wp2_with fail
            refine (HLV.out _ (H8.out)).mono ?_
            rintro e VZ ⟨rfl, hbZ⟩
            go_wp2
            go_ret
            exact ⟨rfl, hbZ⟩
          · obtain ⟨V6, hV6, hz0, hb6⟩ := box_tk (w := V5.drew) 0 0 none 0 0 ⟨#[]⟩
            obtain ⟨ub, hub⟩ : ∃ ub, V5.drew.heap.size = ub := ⟨_, rfl⟩
            have hub2 : V5.heap.size = ub := hub
            rw [hub] at hz0
            have hB6 : Below V1.heap.size V1 V6 := H5.out.drew.trans (hb6.mono H5.out.drew.size)
            have HQ6 : Hid (V6.cell? ⟨pb, 0, none⟩ = some (.int .i64 t1) ∧ V6.cell? ⟨pb, 1, none⟩ = some (.int .i64 n1) ∧ V6.cell? ⟨pb, 2, none⟩ = some (.slice a1 len1 cap1) ∧ V6.cell? ⟨pb, 3, none⟩ = some (.string s1)) := (HK.out V6 hB6).1
            have H6 : Hid (Below V1.heap.size V1 V6 ∧ V6.heap[ub]? = some (.cells #[.int .i64 0, .int .i64 0, .slice none 0 0, .string ⟨#[]⟩] 25 (0, 0)) ∧ V1.heap.size ≤ ub) := ⟨hB6, hz0, by have := H5.out.size; omega⟩
            clear hB6 hz0 hb6
            go_simp
            refine hK.out _ _ (HQ6.out) (fun hHeld => ?_)
            clear hK K
            try simp only [Act.put, List.setIfInBounds_toArray, List.set_cons_zero, List.set_cons_succ]
            clear hub hub2 hV6
            refine wpAnyH_ready (rs := [10]) (by kernel_rfl) (by simp) ?_
            refine AllReadyH.cons rfl (fun K hK => ?_) AllReadyH.nil
            go_simp
            refine (HMD.out V6 (HK.out V6 H6.out.1).2).mono ?_
            rintro e V7 ⟨ua, un, uc, rfl, hku0, hb7⟩
            refine hK.out _ _ ((HK.out V7 (H6.out.1.trans (hb7.mono H6.out.1.size))).1) (fun hHeld => ?_)
            clear hK K
            simp only at hku0 ⊢
            have hB7 : Below V1.heap.size V1 V7 := H6.out.1.trans (hb7.mono H6.out.1.size)
            have hz := (hb7.block ub (lt_of_some H6.out.2.1)).trans H6.out.2.1
            have hku : Rw (fun x => ub < x) V7 35 3 ua un uc (cvR u3) := Rw.mono hku0 (fun x hx _ => by have := lt_of_some H6.out.2.1; omega)
            obtain ⟨x0, x1, x2, x3, f0, f1, f2, f3⟩ := row4 hz
            obtain ⟨W8, hW8⟩ : ∃ W8, (((V7.setCell ⟨ub, 0, none⟩ (.int .i64 u1)).setCell ⟨ub, 1, none⟩ (.int .i64 u2)).setCell ⟨ub, 2, none⟩ (.slice ua un uc)).setCell ⟨ub, 3, none⟩ (.string u4) = W8 := ⟨_, rfl⟩
            have hB8 : Below V1.heap.size V1 W8 := by rw [← hW8]; exact below4s hB7 H6.out.2.2 _ _ _ _
            have HU : Hid ((W8.cell? ⟨ub, 0, none⟩ = some (.int .i64 u1) ∧ W8.cell? ⟨ub, 1, none⟩ = some (.int .i64 u2) ∧ W8.cell? ⟨ub, 2, none⟩ = some (.slice ua un uc) ∧ W8.cell? ⟨ub, 3, none⟩ = some (.string u4)) ∧ Kw W8 ua un uc u3 ∧ Below w.heap.size w W8) := by
              have h8 : W8.heap[ub]? = some (.cells #[.int .i64 u1, .int .i64 u2, .slice ua un uc, .string u4] 25 (0, 0)) := by rw [← hW8]; exact set4 hz _ _ _ _
              obtain ⟨e0, e1, e2, e3, _⟩ := row4 h8
              refine ⟨⟨e0, e1, e2, e3⟩, ?_, (HK.out W8 hB8).2⟩
              rw [← hW8]
              exact Rw.mono (Rw.keep hku (below4s (Below.refl 0 _) (Nat.zero_le ub) _ _ _ _).size (fun b hb _ => other4s (by omega) _ _ _ _)) (fun _ _ _ => trivial)
            have HQ8 : Hid (W8.cell? ⟨pb, 0, none⟩ = some (.int .i64 t1) ∧ W8.cell? ⟨pb, 1, none⟩ = some (.int .i64 n1) ∧ W8.cell? ⟨pb, 2, none⟩ = some (.slice a1 len1 cap1) ∧ W8.cell? ⟨pb, 3, none⟩ = some (.string s1)) := (HK.out W8 hB8).1
            clear hku0 hb7 hB7 hz hku hB8
            refine wpAnyH_take (i := 11) (v := ?vgb_B11) rfl (by kernel_rfl) (by kernel_rfl) (by kernel_rfl) (fun _ _ _ h => h) (Or.inl ⟨by first | kernel_rfl | rfl, ?ygb_B11⟩) hHeld ?rgb_B11
            case ygb_B11 => (intro W hSW; (try dsimp only at hSW); go_simp; (try with_reducible rfl))
            change wpAnyH _ _ _ _ _ _ _ (Act.put _ (some 39) _) _
            simp only [Act.put, List.setIfInBounds_toArray, List.set_cons_zero, List.set_cons_succ]
            refine wpAnyH_take (i := 12) (v := ?vgb_B12) rfl (by kernel_rfl) (by kernel_rfl) (by kernel_rfl) (fun _ _ _ h => h) (Or.inl ⟨by first | kernel_rfl | rfl, ?ygb_B12⟩) hHeld ?rgb_B12
            case ygb_B12 => (intro W hSW; (try dsimp only at hSW); go_simp; (try with_reducible rfl))
            change wpAnyH _ _ _ _ _ _ _ (Act.put _ (some 51) _) _
            simp only [Act.put, List.setIfInBounds_toArray, List.set_cons_zero, List.set_cons_succ]
            refine wpAnyH_take (i := 13) (v := ?vgb_B13) rfl (by kernel_rfl) (by kernel_rfl) (by kernel_rfl) (fun _ _ _ h => h) (Or.inl ⟨by first | kernel_rfl | rfl, ?ygb_B13⟩) hHeld ?rgb_B13
            case ygb_B13 => (intro W hSW; (try dsimp only at hSW); go_simp; (try with_reducible rfl))
            change wpAnyH _ _ _ _ _ _ _ (Act.put _ (some 52) _) _
            simp only [Act.put, List.setIfInBounds_toArray, List.set_cons_zero, List.set_cons_succ]
            refine wpAnyH_ready (rs := [15]) (by kernel_rfl) (by simp) ?_
            refine AllReadyH.cons rfl (fun K hK => ?_) AllReadyH.nil
            go_simp
            refine hK.out _ _ (HQ8.out) (fun hHeld => ?_)
            clear hK K
            refine wpAnyH_take (i := 16) (v := ?vgb_B16) rfl (by kernel_rfl) (by kernel_rfl) (by kernel_rfl) (fun _ _ _ h => h) (Or.inl ⟨by first | kernel_rfl | rfl, ?ygb_B16⟩) hHeld ?rgb_B16
            case ygb_B16 => (intro W hSW; (try dsimp only at hSW); go_simp; (try with_reducible rfl))
            change wpAnyH _ _ _ _ _ _ _ (Act.put _ (some 9) _) _
            simp only [Act.put, List.setIfInBounds_toArray, List.set_cons_zero, List.set_cons_succ]
            refine wpAnyH_done (by kernel_rfl) ?_ _
            clear x0 x1 x2 x3 f0 f1 f2 f3
            obtain ⟨⟨y0, y1', y2, y3⟩, hku, hw8⟩ := HU.out
            have H8 : Hid (Below w.heap.size w W8) := hw8
            clear hku hw8 y0 y1' y2 y3
            go_wp2_with fail
            refine (HLV.out _ (H8.out)).mono ?_
            rintro e VZ ⟨rfl, hbZ⟩
            go_wp2
            go_ret
            exact ⟨rfl, hbZ⟩

set_option linter.unusedVariables false in
set_option maxRecDepth 100000 in
theorem lifted (os : Os) (started : os.Started) (H : Type) (enc : TypeId × Value → H) :
    ReturnsInHanded {} Tryd.checked os 7 .any (fun w args => (Rows.capChecksSpec.pre enc Tryd.prog Tryd.f7 [] false w args ∧ laidMetH Tryd.prog laid2 w) ∧ sizedMet enc Tryd.prog Tryd.f7 (OpenSpec.ofChange Rows.capChecksSpec) false w args) (Rows.capChecksSpec.post enc Tryd.prog Tryd.f7 false true false false) := by
  refine returnsInHanded_of_change_and (C := Tryd.checked) (X := fun w _ => laidMetH Tryd.prog laid2 w) (fun _ _ _ hh h => h.of_heap hh) own started (by kernel_rfl) Tryd.func7
    (ChangeSpec.witness_shaped (enc := enc) (C := Tryd.checked) (os := os) (X := fun w _ => laidMetH Tryd.prog laid2 w) false (World.doorLaid Tryd.prog 19 os) #[.string ByteArray.empty, .agg #[.int .i64 0, .int .i64 0, .slice none 0 0, .string ByteArray.empty], .slice none 0 0] 8 rfl (World.shaped_of_RefB (by kernel_rfl) (by kernel_rfl)) (by kernel_rfl) (by kernel_rfl) (by kernel_rfl) (door_met os _)) ?_
  intro W base args ds gs before hval0 hW _ hsz0 hL _
  have hval : ∀ (j : Nat) t v, Tryd.f7.params[j]? = some t → args[j]? = some v → Value.okWide Tryd.prog W .any base t v := hval0
  have hsz : (DataW.weightsEach Tryd.prog (Tryd.f7.params.toList ++ Rows.capChecksSpec.plain.varTypes Tryd.prog) (ds ++ gs)).all (· ≤ reachBytes) = true := hsz0
  have hW' := hW
  obtain ⟨p, q, hA0, hV, rfl, hfz, hnd⟩ := hW
  have hA : DataW.TrodAll enc Tryd.prog W 0 (fun _ => true) true Tryd.f7.params.toList args.toList ds p := hA0
  rw [Tryd.params7] at hA hval hsz
  obtain ⟨v0, vs0, d0, ds0, p0, q0, hargs, rfl, rfl, h0, r0⟩ := trodAll_cons hA
  obtain ⟨v1, vs1, d1, ds1, p1, q1, rfl, rfl, rfl, h1, r1⟩ := trodAll_cons r0
  obtain ⟨v2, vs2, d2, ds2, p2, q2, rfl, rfl, rfl, h2, r2⟩ := trodAll_cons r1
  obtain ⟨rfl, rfl, rfl⟩ := trodAll_nil r2
  obtain rfl : args = #[v0, v1, v2] := by cases args; simp_all
  obtain ⟨rfl, rfl⟩ := trodVars_none hV
  obtain ⟨s0, rfl, rfl, rfl, w0⟩ := open_string Tryd.underlying9 (hval 0 9 v0 rfl rfl) h0
  have z0 : s0.size ≤ 140737488351232 := by
    have := sized_string hsz (j := 0) (t := 9) rfl rfl
    simpa [reachBytes] using this
  have k1 := h1
  have lt1 : ∀ x ∈ p1, x.block < W.heap.size := by obtain ⟨m, hm⟩ := k1; exact DataW.trod_lt m _ _ _ hm
  obtain ⟨t1, n1, a1, len1, cap1, s1, l1, rfl, w1, c1, z1, y1, x1⟩ := tok_arg (j := 1) (hval 1 25 v1 rfl rfl) h1 hsz rfl rfl
  have k2 := h2
  have lt2 : ∀ x ∈ p2, x.block < W.heap.size := by obtain ⟨m, hm⟩ := k2; exact DataW.trod_lt m _ _ _ hm
  obtain ⟨a2, len2, cap2, rfl⟩ := okWide_slice Tryd.underlying23 (hval 2 23 v2 rfl rfl)
  obtain ⟨l2, w2, c2⟩ : ∃ l, Kw W a2 len2 cap2 l ∧ ∀ c ∈ l, c.In := by
    obtain ⟨fuel, hf⟩ := h2
    exact cavs_arg (j := 2) (by simpa [Value.cells] using hf) hsz rfl rfl
  clear hA0 hval0 hsz hsz0
  refine (walk s0 z0 t1 n1 a1 len1 cap1 s1 l1 c1 z1 y1 x1 a2 len2 cap2 l2 c2 W w1 w2 (of_laid hL)).mono fun e W' ⟨he, bel⟩ => ?_
  subst he
  exact ⟨_, rfl, _, _, _, [], _, [], hW', trodAll_mk1 (shut_bool Tryd.underlying4 _), (trodAll_cons_mk (shut_string Tryd.underlying9 w0) (trodAll_cons_mk (Below.trod laidOut (by kernel_rfl) (of_decide_eq_true (by kernel_rfl)) k1 bel lt1) (trodAll_cons_mk (Below.trod laidOut (by kernel_rfl) (of_decide_eq_true (by kernel_rfl)) k2 bel lt2) trodAll_mk0))), rfl, bel.frame _, fun h => by cases h⟩

theorem over : Rows.capChecksRow.holds Tryd.pinned (OpenSpec.ofChange Rows.capChecksSpec) :=
  OpenClaim.holds_of_wide 7 Tryd.f7 rfl rfl rfl rfl rfl rfl rfl ⟨rfl, rfl, rfl, rfl, rfl⟩ rfl rfl rfl rfl rfl (by kernel_rfl) Tryd.func7 (by kernel_rfl)
    (of_decide_eq_true (by kernel_rfl)) (by unfold Func.isWrapper; first | (rw [if_pos (by decide +kernel)]; kernel_rfl) | (rw [if_neg (by decide +kernel)]; exact ⟨rfl, rfl⟩))
    (fun os started H enc _ => lifted os started H enc)

end Go.Proofs.YtcmdcmbiilfngaaDoor.capChecks
namespace Go.Proofs.YtcmdcmbiilfngaaDoor
/-- The given statement. -/
theorem capChecks_holds : Rows.CapChecksCardSaid :=
  Claim7.holds_tied_plain_at .later [] [.data, .data] true (true, "b19a03ae824dc2f6810aeb81173081118005215afdce10c70f77b3db14f8911f") false
    capChecks.over (fun _ h => by cases h) (by kernel_rfl) (fun _ h => by cases h) capChecks_row_tie rfl ⟨rfl, rfl⟩ (by kernel_rfl) rfl
    (fun f fn hf hfn => by
      obtain rfl : f = 7 := Option.some.inj ((show Tryd.prog.funcNamed "strongroom/strongroomlaw12.CapChecks" = some 7 by kernel_rfl).symm.trans hf) |>.symm
      obtain rfl : fn = Tryd.f7 := (Option.some.inj (Tryd.func7.symm.trans hfn)).symm
      exact ⟨by kernel_rfl, fun j t ht => by
        rw [Tryd.params7] at ht
        rcases j with _ | _ | _ | j
        · obtain rfl : t = 9 := by simpa using ht.symm
          exact (show Tryd.prog.wantsStandIn 9 = false by kernel_rfl)
        · obtain rfl : t = 25 := by simpa using ht.symm
          exact (show Tryd.prog.wantsStandIn 25 = false by kernel_rfl)
        · obtain rfl : t = 23 := by simpa using ht.symm
          exact (show Tryd.prog.wantsStandIn 23 = false by kernel_rfl)
        · simp at ht
      ⟩)
    (by kernel_rfl)
#print axioms capChecks_holds
end Go.Proofs.YtcmdcmbiilfngaaDoor
