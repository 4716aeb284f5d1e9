/- Proved: for every b and at, the law RollTurned returns true, b and at as they were. No condition: every input that can be read as data. -/
import Derived.Test.YteiigaoniipedaaRows
import Derived.Test.YteiigaoniipedaaG
import Derived.WalkKit
import Derived.ProofKit
import Derived.OpenShut
import Derived.ShutString
import Derived.ChangeOld
import Derived.Below
namespace Go.Proofs.Yteiigaoniipedaa.rollTurned
open Go.ChangeShapes Go.WideShapes Go.ChangeAt Go.RowKit
theorem own : ownKnob Try.prog.godebug = none := by kernel_rfl
theorem laidOut : laidOutB Try.prog = true := by kernel_rfl

set_option maxRecDepth 100000 in
set_option maxHeartbeats 2000000 in
theorem walk (a0 : Option Addr) (len0 cap0 : Nat) (zs0 : List Int) (x1 : Int) (z1 : -9223372036854775808 ≤ x1 ∧ x1 ≤ 9223372036854775807) (w : World) (w0 : IsRow .u8 w a0 len0 cap0 zs0) :
    Calls Try.prog 8 #[.slice a0 len0 cap0, .int .i64 x1] w fun e w' => e = .returned (.bool true) ∧ Below w.heap.size w w' := by
  have HLV : Hid (∀ W, Below w.heap.size w W → Calls Try.prog 9 #[] W fun e w' => e = .returned (.bool true) ∧ Below w.heap.size w w') := by
    intro W hW
    refine (lives_any W).mono ?_
    rintro e w' ⟨rfl, hb⟩
    exact ⟨rfl, hW.trans (hb.mono hW.size)⟩
  obtain ⟨bs, hb⟩ := w0.bsI
  have hm : len0 ≤ 9223372036854775807 := Nat.le_trans hb.2.1 hb.2.2.1
  by_cases h5 : 2000 < len0
  · have hi : (2000 : Int) < (len0 : Int) := by omega
    clear w0 hb
    go_enter Try.func8, Try.ntmps8
    go_wp2_with (go_at_call 9; refine (HLV.out _ (Below.refl _ _)).mono ?_; rintro e w' ⟨rfl, hb⟩)
    go_ret
    exact ⟨rfl, hb⟩
  by_cases h6 : x1 < 0
  · have hi : ¬ (2000 : Int) < (len0 : Int) := by omega
    clear w0 hb
    go_enter Try.func8, Try.ntmps8
    go_wp2_with (go_at_call 9; refine (HLV.out _ (Below.refl _ _)).mono ?_; rintro e w' ⟨rfl, hb⟩)
    go_ret
    exact ⟨rfl, hb⟩
  by_cases h7 : (len0 : Int) - 1 ≤ x1
  · have hi : ¬ (2000 : Int) < (len0 : Int) := by omega
    clear w0 hb
    go_enter Try.func8, Try.ntmps8
    go_wp2_with (go_at_call 9; refine (HLV.out _ (Below.refl _ _)).mono ?_; rintro e w' ⟨rfl, hb⟩)
    go_ret
    exact ⟨rfl, hb⟩
  obtain ⟨t, rfl⟩ := Int.eq_ofNat_of_zero_le (show 0 ≤ x1 by omega)
  have hi : ¬ (2000 : Int) < (len0 : Int) := by omega
  have hi3 : ¬ (len0 : Int) - 1 ≤ (t : Int) := by omega
  obtain ⟨u, hu⟩ : ∃ u, t + 1 = u := ⟨_, rfl⟩
  have hui : (t : Int) + 1 = (u : Int) := by omega
  have htl : t < len0 := by omega
  have hul : u < len0 := by omega
  have hwu : IntKind.i64.wrap (u : Int) = (u : Int) := wrapI _ (by omega) (by omega)
  obtain ⟨bb, bo, rfl, hbl, hcl⟩ := hb.2.2.2 (by omega)
  obtain ⟨p, hp⟩ : ∃ p : Nat, (bs.getD t 0).toNat = p := ⟨_, rfl⟩
  obtain ⟨q, hq⟩ : ∃ q : Nat, (bs.getD u 0).toNat = q := ⟨_, rfl⟩
  have hp2 : p < 256 := by rw [← hp]; exact UInt8.toNat_lt _
  have hq2 : q < 256 := by rw [← hq]; exact UInt8.toNat_lt _
  obtain ⟨bs', hbs'⟩ : ∃ b, (bs.set t (bs.getD u 0)).set u (bs.getD t 0) = b := ⟨_, rfl⟩
  obtain ⟨X, hX⟩ : ∃ X, wsum bs = X := ⟨_, rfl⟩
  obtain ⟨Y, hY⟩ : ∃ X, wsum bs' = X := ⟨_, rfl⟩
  have HF : Hid (X % 65536 = Y % 65536 ∧ (Y / 65536 + p) % 65536 = (X / 65536 + q) % 65536 ∧ (X = Y ↔ p = q)) := by
    have hl := swap_lists bs t (by rw [hb.1]; omega)
    rw [hu, hbs'] at hl
    rw [hl.1] at hX
    rw [hl.2] at hY
    have := swap_facts _ _ _ _ X Y hX hY
    rw [hp, hq] at this
    exact this
  have hXl : X < 4294967296 := by rw [← hX]; exact wsum_lt _
  have hYl : Y < 4294967296 := by rw [← hY]; exact wsum_lt _
  have w32 : ∀ n : Nat, n < 4294967296 → IntKind.u32.wrap (n : Int) = (n : Int) := fun n hn => by rw [IntKind.wrap_u32']; omega
  obtain ⟨D, hD, hD2⟩ : ∃ D : Nat, IntKind.u32.wrap ((q : Int) - (p : Int)) = (D : Int) ∧ (D + p) % 65536 = q % 65536 := ⟨(IntKind.u32.wrap ((q : Int) - (p : Int))).toNat, by rw [IntKind.wrap_u32']; omega, by rw [IntKind.wrap_u32']; omega⟩
  obtain ⟨X1, hX1⟩ : ∃ X1 : Nat, X / 65536 = X1 := ⟨_, rfl⟩
  obtain ⟨Y1, hY1⟩ : ∃ X1 : Nat, Y / 65536 = X1 := ⟨_, rfl⟩
  obtain ⟨E, hE, hE2⟩ : ∃ E : Nat, IntKind.u32.wrap ((Y1 : Int) - (X1 : Int)) = (E : Int) ∧ (E + X1) % 65536 = Y1 % 65536 := ⟨(IntKind.u32.wrap ((Y1 : Int) - (X1 : Int))).toNat, by rw [IntKind.wrap_u32']; omega, by rw [IntKind.wrap_u32']; omega⟩
  obtain ⟨F, hF⟩ : ∃ F : Nat, D % 65536 = F := ⟨_, rfl⟩
  obtain ⟨M, hM⟩ : ∃ M : Nat, X % 65536 = M := ⟨_, rfl⟩
  have e1 : Int.tmod (X : Int) 65536 = (M : Int) := by rw [Int.tmod_eq_emod_of_nonneg (by omega)]; omega
  have e2 : Int.tmod (Y : Int) 65536 = (M : Int) := by have := HF.out; rw [Int.tmod_eq_emod_of_nonneg (by omega)]; omega
  have e3 : Int.tmod (D : Int) 65536 = (F : Int) := by rw [Int.tmod_eq_emod_of_nonneg (by omega)]; omega
  have e4 : Int.tmod (E : Int) 65536 = (F : Int) := by have := HF.out; rw [Int.tmod_eq_emod_of_nonneg (by omega)]; omega
  have e5 : (X : Int) / 65536 = (X1 : Int) := by omega
  have e6 : (Y : Int) / 65536 = (Y1 : Int) := by omega
  have v1' := w32 M (by omega)
  have v2' := w32 F (by omega)
  have v3' := w32 X1 (by omega)
  have v4' := w32 Y1 (by omega)
  have v5' := w32 p (by omega)
  have v6' := w32 q (by omega)
  have HXY : Hid (X = Y ↔ p = q) := HF.out.2.2
  clear w32 HF hD2 hX1 hY1 hE2 hF hM
  have HS : Hid (∀ W, Below w.heap.size w W → W.cell? ⟨bb, bo + t, none⟩ = some (.int .u8 (p : Int)) ∧ W.cell? ⟨bb, bo + u, none⟩ = some (.int .u8 (q : Int))) := by
    intro W hW
    constructor
    · rw [hW.cell hbl, hcl t htl, hp]
    · rw [hW.cell hbl, hcl u hul, hq]
  have HA : Hid (BsI w (some ⟨bb, bo, none⟩) len0 cap0 bs) := hb
  have HN0 : Hid ((some ⟨bb, bo, none⟩ : Option Addr) = none → cap0 = 0) := w0.nocap
  have HSA : Hid (∀ W, Below w.heap.size w W → Calls Try.prog 10 #[.slice (some ⟨bb, bo, none⟩) len0 cap0] W fun e w' => e = .returned (.int .u32 (X : Int)) ∧ w' = W) := fun W hW => hX ▸ sum_any _ _ _ _ W (HA.out.below hW)
  have HSO : Hid (∀ W g cp, W.ownsRow w.heap.size 5 1 (.slice (some ⟨g, 0, none⟩) len0 cp) len0 (bytesV bs') → Calls Try.prog 10 #[.slice (some ⟨g, 0, none⟩) len0 cp] W fun e w' => e = .returned (.int .u32 (Y : Int)) ∧ w' = W) := fun W g cp h => hY ▸ sum_any _ _ _ _ W (BsI.owned h)
  have HGR : Hid (∀ (W W' : World) (g : Nat) {n cp k : Nat} {l : List Value}, Below w.heap.size w W → W.ownsRow w.heap.size 5 1 (.slice (some ⟨g, 0, none⟩) n cp) k l → W.grownBy W' (some g) → Below w.heap.size w W') := by
    intro W W' g n cp k l hW ho hg
    exact hW.grown hg hW.size (by intro k hk; cases hk; exact (ho.lt g rfl).1)
  have HO0 : Hid ((w.alloc (.cells #[] 5)).ownsRow w.heap.size 5 1 (.slice (some ⟨w.heap.size, 0, none⟩) 0 0) 0 (bytesV [])) := World.ownsRow_made w #[] 0 (Nat.le_refl _) (by decide) rfl
  have HB0 : Hid (Below w.heap.size w (w.alloc (.cells #[] 5))) := (Below.refl _ w).alloc (Nat.le_refl _) _
  have HBS : Hid ((bs.set t (bs.getD u 0)).set u (bs.getD t 0) = bs') := hbs'
  have HP : Hid ((bs.getD t 0).toNat = p) := hp
  have HQ : Hid ((bs.getD u 0).toNat = q) := hq
  have HU : Hid (t + 1 = u) := hu
  clear w0 hb h5 h6 h7 hX hY hcl hp hq hbs' hu hbl
  go_enter Try.func8, Try.ntmps8
  go_wp2_with (at_builtin; refine append_bs _ rfl (.tmp 25) (.tmp 26) rfl w.heap.size w.heap.size 0 0 [] rfl HO0.out (some ⟨bb, bo, none⟩) len0 cap0 bs rfl (HA.out.below HB0.out) HN0.out (by omega) HB0.out.size ?_; intro g1 cp1 v1 hown1 hgrow1; have HO1 : Hid (v1.ownsRow w.heap.size 5 1 (.slice (some ⟨g1, 0, none⟩) len0 cp1) len0 (bytesV bs)) := (by (show World.ownsRow _ _ _ _ _ _ _; simpa using hown1)); have HB1 : Hid (Below w.heap.size w v1) := HGR.out _ _ _ HB0.out HO0.out hgrow1; clear hown1 hgrow1)
  have HG : Hid (w.heap.size ≤ g1) := (own_row HO1.out).2.1
  have HO2 : Hid ((v1.setCell ⟨g1, t, none⟩ (.int .u8 (q : Int))).ownsRow w.heap.size 5 1 (.slice (some ⟨g1, 0, none⟩) len0 cp1) len0 (bytesV (bs.set t (bs.getD u 0)))) := by
    have := own_set HO1.out t (bs.getD u 0)
    rw [HQ.out] at this
    exact this
  have HO3 : Hid (((v1.setCell ⟨g1, t, none⟩ (.int .u8 (q : Int))).setCell ⟨g1, u, none⟩ (.int .u8 (p : Int))).drew.ownsRow w.heap.size 5 1 (.slice (some ⟨g1, 0, none⟩) len0 cp1) len0 (bytesV bs')) := by
    have := own_set HO2.out u (bs.getD t 0)
    rw [HP.out, HBS.out] at this
    exact this
  have hct := own_cell HO1.out t htl
  rw [HP.out] at hct
  have hfr := own_fro HO1.out t
  have hcu := own_cell HO1.out u hul
  rw [HQ.out] at hcu
  have hfu := own_fro HO1.out u
  have HB2 : Hid (Below w.heap.size w (v1.setCell ⟨g1, t, none⟩ (.int .u8 (q : Int))).drew) := (HB1.out.setCell HG.out _).drew
  have HB3 : Hid (Below w.heap.size w ((v1.setCell ⟨g1, t, none⟩ (.int .u8 (q : Int))).setCell ⟨g1, u, none⟩ (.int .u8 (p : Int))).drew) := ((HB1.out.setCell HG.out _).setCell HG.out _).drew
  refine wp_region_held_drew (S := fun W => W.cell? ⟨bb, bo + t, none⟩ = some (.int .u8 (p : Int)) ∧ W.cell? ⟨bb, bo + u, none⟩ = some (.int .u8 (q : Int))) (by kernel_rfl) (HS.out _ HB1.out.drew) (fun hHeld => ?_)
  refine wpAnyH_take (i := 0) (v := ?va_0) rfl (by kernel_rfl) (by kernel_rfl) (by kernel_rfl) (fun _ _ _ h => h) (Or.inl ⟨by kernel_rfl, ?ya_0⟩) hHeld ?ra_0
  case ya_0 => (intro W hSW; have hS1 := hSW.1; have hS2 := hSW.2; clear hSW; go_simp; (try with_reducible rfl))
  change wpAnyH _ _ _ _ _ _ _ (Act.put _ (some 28) _) _
  simp only [Act.put, List.setIfInBounds_toArray, List.set_cons_zero, List.set_cons_succ]
  refine wpAnyH_take (i := 1) (v := ?va_1) rfl (by kernel_rfl) (by kernel_rfl) (by kernel_rfl) (fun _ _ _ h => h) (Or.inl ⟨by kernel_rfl, ?ya_1⟩) hHeld ?ra_1
  case ya_1 => (intro W hSW; have hS1 := hSW.1; have hS2 := hSW.2; clear hSW; go_simp; (try with_reducible rfl))
  change wpAnyH _ _ _ _ _ _ _ (Act.put _ (some 29) _) _
  simp only [Act.put, List.setIfInBounds_toArray, List.set_cons_zero, List.set_cons_succ]
  refine wpAnyH_take (i := 2) (v := ?va_2) rfl (by kernel_rfl) (by kernel_rfl) (by kernel_rfl) (fun _ _ _ h => h) (Or.inl ⟨by kernel_rfl, ?ya_2⟩) hHeld ?ra_2
  case ya_2 => (intro W hSW; have hS1 := hSW.1; have hS2 := hSW.2; clear hSW; go_simp; (try with_reducible rfl))
  change wpAnyH _ _ _ _ _ _ _ (Act.put _ (some 30) _) _
  simp only [Act.put, List.setIfInBounds_toArray, List.set_cons_zero, List.set_cons_succ]
  refine wpAnyH_take (i := 3) (v := ?va_3) rfl (by kernel_rfl) (by kernel_rfl) (by kernel_rfl) (fun _ _ _ h => h) (Or.inl ⟨by kernel_rfl, ?ya_3⟩) hHeld ?ra_3
  case ya_3 => (intro W hSW; have hS1 := hSW.1; have hS2 := hSW.2; clear hSW; go_simp; (try with_reducible rfl))
  change wpAnyH _ _ _ _ _ _ _ (Act.put _ (some 31) _) _
  simp only [Act.put, List.setIfInBounds_toArray, List.set_cons_zero, List.set_cons_succ]
  refine wpAnyH_take (i := 4) (v := ?va_4) rfl (by kernel_rfl) (by kernel_rfl) (by kernel_rfl) (fun _ _ _ h => h) (Or.inl ⟨by kernel_rfl, ?ya_4⟩) hHeld ?ra_4
  case ya_4 => (intro W hSW; have hS1 := hSW.1; have hS2 := hSW.2; clear hSW; go_simp; (try with_reducible rfl))
  change wpAnyH _ _ _ _ _ _ _ (Act.put _ (some 32) _) _
  simp only [Act.put, List.setIfInBounds_toArray, List.set_cons_zero, List.set_cons_succ]
  refine wpAnyH_take (i := 5) (v := ?va_5) rfl (by kernel_rfl) (by kernel_rfl) (by kernel_rfl) (fun _ _ _ h => h) (Or.inl ⟨by kernel_rfl, ?ya_5⟩) hHeld ?ra_5
  case ya_5 => (intro W hSW; have hS1 := hSW.1; have hS2 := hSW.2; clear hSW; go_simp; (try with_reducible rfl))
  change wpAnyH _ _ _ _ _ _ _ (Act.put _ (some 33) _) _
  simp only [Act.put, List.setIfInBounds_toArray, List.set_cons_zero, List.set_cons_succ]
  refine wpAnyH_take (i := 6) (v := ?va_6) rfl (by kernel_rfl) (by kernel_rfl) (by kernel_rfl) (fun _ _ _ h => h) (Or.inl ⟨by kernel_rfl, ?ya_6⟩) hHeld ?ra_6
  case ya_6 => (intro W hSW; have hS1 := hSW.1; have hS2 := hSW.2; clear hSW; go_simp; (try with_reducible rfl))
  change wpAnyH _ _ _ _ _ _ _ (Act.put _ (some 34) _) _
  simp only [Act.put, List.setIfInBounds_toArray, List.set_cons_zero, List.set_cons_succ]
  refine wpAnyH_take (i := 7) (v := ?va_7) rfl (by kernel_rfl) (by kernel_rfl) (by kernel_rfl) (fun _ _ _ h => h) (Or.inl ⟨by kernel_rfl, ?ya_7⟩) hHeld ?ra_7
  case ya_7 => (intro W hSW; have hS1 := hSW.1; have hS2 := hSW.2; clear hSW; go_simp; (try with_reducible rfl))
  change wpAnyH _ _ _ _ _ _ _ (Act.put _ (some 35) _) _
  simp only [Act.put, List.setIfInBounds_toArray, List.set_cons_zero, List.set_cons_succ]
  refine wpAnyH_take (i := 8) (v := ?va_8) rfl (by kernel_rfl) (by kernel_rfl) (by kernel_rfl) (fun _ _ _ h => h) (Or.inl ⟨by kernel_rfl, ?ya_8⟩) hHeld ?ra_8
  case ya_8 => (intro W hSW; have hS1 := hSW.1; have hS2 := hSW.2; clear hSW; go_simp; (try with_reducible rfl))
  change wpAnyH _ _ _ _ _ _ _ (Act.put _ (some 36) _) _
  simp only [Act.put, List.setIfInBounds_toArray, List.set_cons_zero, List.set_cons_succ]
  refine wpAnyH_take (i := 9) (v := ?va_9) rfl (by kernel_rfl) (by kernel_rfl) (by kernel_rfl) (fun _ _ _ h => h) (Or.inl ⟨by kernel_rfl, ?ya_9⟩) hHeld ?ra_9
  case ya_9 => (intro W hSW; have hS1 := hSW.1; have hS2 := hSW.2; clear hSW; go_simp; (try with_reducible rfl))
  change wpAnyH _ _ _ _ _ _ _ (Act.put _ (some 37) _) _
  simp only [Act.put, List.setIfInBounds_toArray, List.set_cons_zero, List.set_cons_succ]
  refine wpAnyH_take (i := 10) (v := ?va_10) rfl (by kernel_rfl) (by kernel_rfl) (by kernel_rfl) (fun _ _ _ h => h) (Or.inl ⟨by kernel_rfl, ?ya_10⟩) hHeld ?ra_10
  case ya_10 => (intro W hSW; have hS1 := hSW.1; have hS2 := hSW.2; clear hSW; go_simp; (try with_reducible rfl))
  change wpAnyH _ _ _ _ _ _ _ (Act.put _ (some 38) _) _
  simp only [Act.put, List.setIfInBounds_toArray, List.set_cons_zero, List.set_cons_succ]
  refine wpAnyH_take (i := 11) (v := ?va_11) rfl (by kernel_rfl) (by kernel_rfl) (by kernel_rfl) (fun _ _ _ h => h) (Or.inl ⟨by kernel_rfl, ?ya_11⟩) hHeld ?ra_11
  case ya_11 => (intro W hSW; have hS1 := hSW.1; have hS2 := hSW.2; clear hSW; go_simp; (try with_reducible rfl))
  change wpAnyH _ _ _ _ _ _ _ (Act.put _ (some 39) _) _
  simp only [Act.put, List.setIfInBounds_toArray, List.set_cons_zero, List.set_cons_succ]
  refine wpAnyH_take (i := 12) (v := ?va_12) rfl (by kernel_rfl) (by kernel_rfl) (by kernel_rfl) (fun _ _ _ h => h) (Or.inl ⟨by kernel_rfl, ?ya_12⟩) hHeld ?ra_12
  case ya_12 => (intro W hSW; have hS1 := hSW.1; have hS2 := hSW.2; clear hSW; go_simp; (try with_reducible rfl))
  change wpAnyH _ _ _ _ _ _ _ (Act.put _ (some 40) _) _
  simp only [Act.put, List.setIfInBounds_toArray, List.set_cons_zero, List.set_cons_succ]
  refine wpAnyH_take (i := 13) (v := ?va_13) rfl (by kernel_rfl) (by kernel_rfl) (by kernel_rfl) (fun _ _ _ h => h) (Or.inl ⟨by kernel_rfl, ?ya_13⟩) hHeld ?ra_13
  case ya_13 => (intro W hSW; have hS1 := hSW.1; have hS2 := hSW.2; clear hSW; go_simp; (try with_reducible rfl))
  change wpAnyH _ _ _ _ _ _ _ (Act.put _ (some 41) _) _
  simp only [Act.put, List.setIfInBounds_toArray, List.set_cons_zero, List.set_cons_succ]
  refine wpAnyH_take (i := 14) (v := ?va_14) rfl (by kernel_rfl) (by kernel_rfl) (by kernel_rfl) (fun _ _ _ h => h) (Or.inl ⟨by kernel_rfl, ?ya_14⟩) hHeld ?ra_14
  case ya_14 => (intro W hSW; have hS1 := hSW.1; have hS2 := hSW.2; clear hSW; go_simp; (try with_reducible rfl))
  change wpAnyH _ _ _ _ _ _ _ (Act.put _ (some 42) _) _
  simp only [Act.put, List.setIfInBounds_toArray, List.set_cons_zero, List.set_cons_succ]
  refine wpAnyH_ready (rs := [15]) (by kernel_rfl) (by simp) ?_
  refine AllReadyH.cons rfl (fun K hK => ?_) AllReadyH.nil
  go_simp
  refine hK.out _ _ (HS.out _ HB2.out) (fun hHeld => ?_)
  clear hK K
  refine wpAnyH_take (i := 16) (v := ?va_16) rfl (by kernel_rfl) (by kernel_rfl) (by kernel_rfl) (fun _ _ _ h => h) (Or.inl ⟨by kernel_rfl, ?ya_16⟩) hHeld ?ra_16
  case ya_16 => (intro W hSW; have hS1 := hSW.1; have hS2 := hSW.2; clear hSW; go_simp; (try with_reducible rfl))
  change wpAnyH _ _ _ _ _ _ _ (Act.put _ (some 43) _) _
  simp only [Act.put, List.setIfInBounds_toArray, List.set_cons_zero, List.set_cons_succ]
  refine wpAnyH_ready (rs := [17]) (by kernel_rfl) (by simp) ?_
  refine AllReadyH.cons rfl (fun K hK => ?_) AllReadyH.nil
  go_simp
  refine hK.out _ _ (HS.out _ HB3.out) (fun hHeld => ?_)
  clear hK K
  refine wpAnyH_done (by kernel_rfl) ?_ _
  clear hct hfr hcu hfu HO1 HO2 HB1 HB2
  revert HO3 HB3
  generalize ((v1.setCell ⟨g1, t, none⟩ (.int .u8 (q : Int))).setCell ⟨g1, u, none⟩ (.int .u8 (p : Int))).drew = V
  intro HO3 HB3
  go_wp2_with ((go_at_call 10; first | with_reducible refine (HSA.out _ HB3.out).mono ?_ | with_reducible refine (HSO.out _ _ _ HO3.out).mono ?_); (rintro e w' ⟨rfl, h⟩; subst w'))
  refine wp_region_held_drew (S := fun W => W.cell? ⟨bb, bo + t, none⟩ = some (.int .u8 (p : Int)) ∧ W.cell? ⟨bb, bo + u, none⟩ = some (.int .u8 (q : Int))) (by kernel_rfl) (HS.out _ HB3.out.drew) (fun hHeld => ?_)
  refine wpAnyH_take (i := 0) (v := ?vb_0) rfl (by kernel_rfl) (by kernel_rfl) (by kernel_rfl) (fun _ _ _ h => h) (Or.inl ⟨by kernel_rfl, ?yb_0⟩) hHeld ?rb_0
  case yb_0 => (intro W hSW; have hS1 := hSW.1; have hS2 := hSW.2; clear hSW; go_simp; (try with_reducible rfl))
  change wpAnyH _ _ _ _ _ _ _ (Act.put _ (some 48) _) _
  simp only [Act.put, List.setIfInBounds_toArray, List.set_cons_zero, List.set_cons_succ]
  refine wpAnyH_take (i := 1) (v := ?vb_1) rfl (by kernel_rfl) (by kernel_rfl) (by kernel_rfl) (fun _ _ _ h => h) (Or.inl ⟨by kernel_rfl, ?yb_1⟩) hHeld ?rb_1
  case yb_1 => (intro W hSW; have hS1 := hSW.1; have hS2 := hSW.2; clear hSW; go_simp; (try with_reducible rfl))
  change wpAnyH _ _ _ _ _ _ _ (Act.put _ (some 49) _) _
  simp only [Act.put, List.setIfInBounds_toArray, List.set_cons_zero, List.set_cons_succ]
  refine wpAnyH_take (i := 2) (v := ?vb_2) rfl (by kernel_rfl) (by kernel_rfl) (by kernel_rfl) (fun _ _ _ h => h) (Or.inl ⟨by kernel_rfl, ?yb_2⟩) hHeld ?rb_2
  case yb_2 => (intro W hSW; have hS1 := hSW.1; have hS2 := hSW.2; clear hSW; go_simp; (try with_reducible rfl))
  change wpAnyH _ _ _ _ _ _ _ (Act.put _ (some 50) _) _
  simp only [Act.put, List.setIfInBounds_toArray, List.set_cons_zero, List.set_cons_succ]
  refine wpAnyH_take (i := 3) (v := ?vb_3) rfl (by kernel_rfl) (by kernel_rfl) (by kernel_rfl) (fun _ _ _ h => h) (Or.inl ⟨by kernel_rfl, ?yb_3⟩) hHeld ?rb_3
  case yb_3 => (intro W hSW; have hS1 := hSW.1; have hS2 := hSW.2; clear hSW; go_simp; (try with_reducible rfl))
  change wpAnyH _ _ _ _ _ _ _ (Act.put _ (some 51) _) _
  simp only [Act.put, List.setIfInBounds_toArray, List.set_cons_zero, List.set_cons_succ]
  refine wpAnyH_take (i := 4) (v := ?vb_4) rfl (by kernel_rfl) (by kernel_rfl) (by kernel_rfl) (fun _ _ _ h => h) (Or.inl ⟨by kernel_rfl, ?yb_4⟩) hHeld ?rb_4
  case yb_4 => (intro W hSW; have hS1 := hSW.1; have hS2 := hSW.2; clear hSW; go_simp; (try with_reducible rfl))
  change wpAnyH _ _ _ _ _ _ _ (Act.put _ (some 52) _) _
  simp only [Act.put, List.setIfInBounds_toArray, List.set_cons_zero, List.set_cons_succ]
  refine wpAnyH_take (i := 5) (v := ?vb_5) rfl (by kernel_rfl) (by kernel_rfl) (by kernel_rfl) (fun _ _ _ h => h) (Or.inl ⟨by kernel_rfl, ?yb_5⟩) hHeld ?rb_5
  case yb_5 => (intro W hSW; have hS1 := hSW.1; have hS2 := hSW.2; clear hSW; go_simp; (try with_reducible rfl))
  change wpAnyH _ _ _ _ _ _ _ (Act.put _ (some 53) _) _
  simp only [Act.put, List.setIfInBounds_toArray, List.set_cons_zero, List.set_cons_succ]
  refine wpAnyH_take (i := 6) (v := ?vb_6) rfl (by kernel_rfl) (by kernel_rfl) (by kernel_rfl) (fun _ _ _ h => h) (Or.inl ⟨by kernel_rfl, ?yb_6⟩) hHeld ?rb_6
  case yb_6 => (intro W hSW; have hS1 := hSW.1; have hS2 := hSW.2; clear hSW; go_simp; (try with_reducible rfl))
  change wpAnyH _ _ _ _ _ _ _ (Act.put _ (some 54) _) _
  simp only [Act.put, List.setIfInBounds_toArray, List.set_cons_zero, List.set_cons_succ]
  refine wpAnyH_take (i := 7) (v := ?vb_7) rfl (by kernel_rfl) (by kernel_rfl) (by kernel_rfl) (fun _ _ _ h => h) (Or.inl ⟨by kernel_rfl, ?yb_7⟩) hHeld ?rb_7
  case yb_7 => (intro W hSW; have hS1 := hSW.1; have hS2 := hSW.2; clear hSW; go_simp; (try with_reducible rfl))
  change wpAnyH _ _ _ _ _ _ _ (Act.put _ (some 55) _) _
  simp only [Act.put, List.setIfInBounds_toArray, List.set_cons_zero, List.set_cons_succ]
  refine wpAnyH_take (i := 8) (v := ?vb_8) rfl (by kernel_rfl) (by kernel_rfl) (by kernel_rfl) (fun _ _ _ h => h) (Or.inl ⟨by kernel_rfl, ?yb_8⟩) hHeld ?rb_8
  case yb_8 => (intro W hSW; have hS1 := hSW.1; have hS2 := hSW.2; clear hSW; go_simp; (try with_reducible rfl))
  change wpAnyH _ _ _ _ _ _ _ (Act.put _ (some 56) _) _
  simp only [Act.put, List.setIfInBounds_toArray, List.set_cons_zero, List.set_cons_succ]
  refine wpAnyH_take (i := 9) (v := ?vb_9) rfl (by kernel_rfl) (by kernel_rfl) (by kernel_rfl) (fun _ _ _ h => h) (Or.inl ⟨by kernel_rfl, ?yb_9⟩) hHeld ?rb_9
  case yb_9 => (intro W hSW; have hS1 := hSW.1; have hS2 := hSW.2; clear hSW; go_simp; (try with_reducible rfl))
  change wpAnyH _ _ _ _ _ _ _ (Act.put _ (some 57) _) _
  simp only [Act.put, List.setIfInBounds_toArray, List.set_cons_zero, List.set_cons_succ]
  refine wpAnyH_take (i := 10) (v := ?vb_10) rfl (by kernel_rfl) (by kernel_rfl) (by kernel_rfl) (fun _ _ _ h => h) (Or.inl ⟨by kernel_rfl, ?yb_10⟩) hHeld ?rb_10
  case yb_10 => (intro W hSW; have hS1 := hSW.1; have hS2 := hSW.2; clear hSW; go_simp; (try with_reducible rfl))
  change wpAnyH _ _ _ _ _ _ _ (Act.put _ (some 58) _) _
  simp only [Act.put, List.setIfInBounds_toArray, List.set_cons_zero, List.set_cons_succ]
  refine wpAnyH_take (i := 11) (v := ?vb_11) rfl (by kernel_rfl) (by kernel_rfl) (by kernel_rfl) (fun _ _ _ h => h) (Or.inl ⟨by kernel_rfl, ?yb_11⟩) hHeld ?rb_11
  case yb_11 => (intro W hSW; have hS1 := hSW.1; have hS2 := hSW.2; clear hSW; go_simp; (try with_reducible rfl))
  change wpAnyH _ _ _ _ _ _ _ (Act.put _ (some 59) _) _
  simp only [Act.put, List.setIfInBounds_toArray, List.set_cons_zero, List.set_cons_succ]
  refine wpAnyH_take (i := 12) (v := ?vb_12) rfl (by kernel_rfl) (by kernel_rfl) (by kernel_rfl) (fun _ _ _ h => h) (Or.inl ⟨by kernel_rfl, ?yb_12⟩) hHeld ?rb_12
  case yb_12 => (intro W hSW; have hS1 := hSW.1; have hS2 := hSW.2; clear hSW; go_simp; (try with_reducible rfl))
  change wpAnyH _ _ _ _ _ _ _ (Act.put _ (some 8) _) _
  simp only [Act.put, List.setIfInBounds_toArray, List.set_cons_zero, List.set_cons_succ]
  refine wpAnyH_done (by kernel_rfl) ?_ _
  go_wp2
  have hxy : ((X : Int) == (Y : Int)) = ((p : Int) == (q : Int)) := by
    have := HXY.out
    by_cases h : p = q
    · rw [this.2 h, h]; simp
    · have h2 : ¬ X = Y := fun e => h (this.1 e)
      have a1 : ((X : Int) == (Y : Int)) = false := by simp; omega
      have a2 : ((p : Int) == (q : Int)) = false := by simp; omega
      rw [a1, a2]
  refine wp_region_held_drew (S := fun W => W.cell? ⟨bb, bo + t, none⟩ = some (.int .u8 (p : Int)) ∧ W.cell? ⟨bb, bo + u, none⟩ = some (.int .u8 (q : Int))) (by kernel_rfl) (HS.out _ HB3.out.drew.drew) (fun hHeld => ?_)
  refine wpAnyH_take (i := 0) (v := ?vc_0) rfl (by kernel_rfl) (by kernel_rfl) (by kernel_rfl) (fun _ _ _ h => h) (Or.inl ⟨by kernel_rfl, ?yc_0⟩) hHeld ?rc_0
  case yc_0 => (intro W hSW; have hS1 := hSW.1; have hS2 := hSW.2; clear hSW; go_simp; (try with_reducible rfl))
  change wpAnyH _ _ _ _ _ _ _ (Act.put _ (some 60) _) _
  simp only [Act.put, List.setIfInBounds_toArray, List.set_cons_zero, List.set_cons_succ]
  refine wpAnyH_take (i := 1) (v := ?vc_1) rfl (by kernel_rfl) (by kernel_rfl) (by kernel_rfl) (fun _ _ _ h => h) (Or.inl ⟨by kernel_rfl, ?yc_1⟩) hHeld ?rc_1
  case yc_1 => (intro W hSW; have hS1 := hSW.1; have hS2 := hSW.2; clear hSW; go_simp; (try with_reducible rfl))
  change wpAnyH _ _ _ _ _ _ _ (Act.put _ (some 61) _) _
  simp only [Act.put, List.setIfInBounds_toArray, List.set_cons_zero, List.set_cons_succ]
  refine wpAnyH_take (i := 2) (v := ?vc_2) rfl (by kernel_rfl) (by kernel_rfl) (by kernel_rfl) (fun _ _ _ h => h) (Or.inl ⟨by kernel_rfl, ?yc_2⟩) hHeld ?rc_2
  case yc_2 => (intro W hSW; have hS1 := hSW.1; have hS2 := hSW.2; clear hSW; go_simp; (try with_reducible rfl))
  change wpAnyH _ _ _ _ _ _ _ (Act.put _ (some 62) _) _
  simp only [Act.put, List.setIfInBounds_toArray, List.set_cons_zero, List.set_cons_succ]
  refine wpAnyH_take (i := 3) (v := ?vc_3) rfl (by kernel_rfl) (by kernel_rfl) (by kernel_rfl) (fun _ _ _ h => h) (Or.inl ⟨by kernel_rfl, ?yc_3⟩) hHeld ?rc_3
  case yc_3 => (intro W hSW; have hS1 := hSW.1; have hS2 := hSW.2; clear hSW; go_simp; (try with_reducible rfl))
  change wpAnyH _ _ _ _ _ _ _ (Act.put _ (some 63) _) _
  simp only [Act.put, List.setIfInBounds_toArray, List.set_cons_zero, List.set_cons_succ]
  refine wpAnyH_take (i := 4) (v := ?vc_4) rfl (by kernel_rfl) (by kernel_rfl) (by kernel_rfl) (fun _ _ _ h => h) (Or.inl ⟨by kernel_rfl, ?yc_4⟩) hHeld ?rc_4
  case yc_4 => (intro W hSW; have hS1 := hSW.1; have hS2 := hSW.2; clear hSW; go_simp; (try with_reducible rfl))
  change wpAnyH _ _ _ _ _ _ _ (Act.put _ (some 64) _) _
  simp only [Act.put, List.setIfInBounds_toArray, List.set_cons_zero, List.set_cons_succ]
  refine wpAnyH_take (i := 5) (v := ?vc_5) rfl (by kernel_rfl) (by kernel_rfl) (by kernel_rfl) (fun _ _ _ h => h) (Or.inl ⟨by kernel_rfl, ?yc_5⟩) hHeld ?rc_5
  case yc_5 => (intro W hSW; have hS1 := hSW.1; have hS2 := hSW.2; clear hSW; go_simp; (try with_reducible rfl))
  change wpAnyH _ _ _ _ _ _ _ (Act.put _ (some 65) _) _
  simp only [Act.put, List.setIfInBounds_toArray, List.set_cons_zero, List.set_cons_succ]
  refine wpAnyH_take (i := 6) (v := ?vc_6) rfl (by kernel_rfl) (by kernel_rfl) (by kernel_rfl) (fun _ _ _ h => h) (Or.inl ⟨by kernel_rfl, ?yc_6⟩) hHeld ?rc_6
  case yc_6 => (intro W hSW; have hS1 := hSW.1; have hS2 := hSW.2; clear hSW; go_simp; (try with_reducible rfl))
  change wpAnyH _ _ _ _ _ _ _ (Act.put _ (some 66) _) _
  simp only [Act.put, List.setIfInBounds_toArray, List.set_cons_zero, List.set_cons_succ]
  refine wpAnyH_take (i := 7) (v := ?vc_7) rfl (by kernel_rfl) (by kernel_rfl) (by kernel_rfl) (fun _ _ _ h => h) (Or.inl ⟨by kernel_rfl, ?yc_7⟩) hHeld ?rc_7
  case yc_7 => (intro W hSW; have hS1 := hSW.1; have hS2 := hSW.2; clear hSW; go_simp; (try with_reducible rfl))
  change wpAnyH _ _ _ _ _ _ _ (Act.put _ (some 67) _) _
  simp only [Act.put, List.setIfInBounds_toArray, List.set_cons_zero, List.set_cons_succ]
  refine wpAnyH_take (i := 8) (v := ?vc_8) rfl (by kernel_rfl) (by kernel_rfl) (by kernel_rfl) (fun _ _ _ h => h) (Or.inl ⟨by kernel_rfl, ?yc_8⟩) hHeld ?rc_8
  case yc_8 => (intro W hSW; have hS1 := hSW.1; have hS2 := hSW.2; clear hSW; go_simp; (try with_reducible rfl))
  change wpAnyH _ _ _ _ _ _ _ (Act.put _ (some 68) _) _
  simp only [Act.put, List.setIfInBounds_toArray, List.set_cons_zero, List.set_cons_succ]
  refine wpAnyH_take (i := 9) (v := ?vc_9) rfl (by kernel_rfl) (by kernel_rfl) (by kernel_rfl) (fun _ _ _ h => h) (Or.inl ⟨by kernel_rfl, ?yc_9⟩) hHeld ?rc_9
  case yc_9 => (intro W hSW; have hS1 := hSW.1; have hS2 := hSW.2; clear hSW; go_simp; (try with_reducible rfl))
  change wpAnyH _ _ _ _ _ _ _ (Act.put _ (some 69) _) _
  simp only [Act.put, List.setIfInBounds_toArray, List.set_cons_zero, List.set_cons_succ]
  refine wpAnyH_take (i := 10) (v := ?vc_10) rfl (by kernel_rfl) (by kernel_rfl) (by kernel_rfl) (fun _ _ _ h => h) (Or.inl ⟨by kernel_rfl, ?yc_10⟩) hHeld ?rc_10
  case yc_10 => (intro W hSW; have hS1 := hSW.1; have hS2 := hSW.2; clear hSW; go_simp; (try with_reducible rfl))
  change wpAnyH _ _ _ _ _ _ _ (Act.put _ (some 70) _) _
  simp only [Act.put, List.setIfInBounds_toArray, List.set_cons_zero, List.set_cons_succ]
  refine wpAnyH_take (i := 11) (v := ?vc_11) rfl (by kernel_rfl) (by kernel_rfl) (by kernel_rfl) (fun _ _ _ h => h) (Or.inl ⟨by kernel_rfl, ?yc_11⟩) hHeld ?rc_11
  case yc_11 => (intro W hSW; have hS1 := hSW.1; have hS2 := hSW.2; clear hSW; go_simp; (try with_reducible rfl))
  change wpAnyH _ _ _ _ _ _ _ (Act.put _ (some 71) _) _
  simp only [Act.put, List.setIfInBounds_toArray, List.set_cons_zero, List.set_cons_succ]
  refine wpAnyH_take (i := 12) (v := ?vc_12) rfl (by kernel_rfl) (by kernel_rfl) (by kernel_rfl) (fun _ _ _ h => h) (Or.inl ⟨by kernel_rfl, ?yc_12⟩) hHeld ?rc_12
  case yc_12 => (intro W hSW; have hS1 := hSW.1; have hS2 := hSW.2; clear hSW; go_simp; (try with_reducible rfl))
  change wpAnyH _ _ _ _ _ _ _ (Act.put _ (some 72) _) _
  simp only [Act.put, List.setIfInBounds_toArray, List.set_cons_zero, List.set_cons_succ]
  refine wpAnyH_take (i := 13) (v := ?vc_13) rfl (by kernel_rfl) (by kernel_rfl) (by kernel_rfl) (fun _ _ _ h => h) (Or.inl ⟨by kernel_rfl, ?yc_13⟩) hHeld ?rc_13
  case yc_13 => (intro W hSW; have hS1 := hSW.1; have hS2 := hSW.2; clear hSW; go_simp; (try with_reducible rfl))
  change wpAnyH _ _ _ _ _ _ _ (Act.put _ (some 73) _) _
  simp only [Act.put, List.setIfInBounds_toArray, List.set_cons_zero, List.set_cons_succ]
  refine wpAnyH_take (i := 14) (v := ?vc_14) rfl (by kernel_rfl) (by kernel_rfl) (by kernel_rfl) (fun _ _ _ h => h) (Or.inl ⟨by kernel_rfl, ?yc_14⟩) hHeld ?rc_14
  case yc_14 => (intro W hSW; have hS1 := hSW.1; have hS2 := hSW.2; clear hSW; go_simp; (try with_reducible rfl))
  change wpAnyH _ _ _ _ _ _ _ (Act.put _ (some 74) _) _
  simp only [Act.put, List.setIfInBounds_toArray, List.set_cons_zero, List.set_cons_succ]
  refine wpAnyH_take (i := 15) (v := ?vc_15) rfl (by kernel_rfl) (by kernel_rfl) (by kernel_rfl) (fun _ _ _ h => h) (Or.inl ⟨by kernel_rfl, ?yc_15⟩) hHeld ?rc_15
  case yc_15 => (intro W hSW; have hS1 := hSW.1; have hS2 := hSW.2; clear hSW; go_simp; (try with_reducible rfl))
  change wpAnyH _ _ _ _ _ _ _ (Act.put _ (some 75) _) _
  simp only [Act.put, List.setIfInBounds_toArray, List.set_cons_zero, List.set_cons_succ]
  refine wpAnyH_take (i := 16) (v := ?vc_16) rfl (by kernel_rfl) (by kernel_rfl) (by kernel_rfl) (fun _ _ _ h => h) (Or.inl ⟨by kernel_rfl, ?yc_16⟩) hHeld ?rc_16
  case yc_16 => (intro W hSW; have hS1 := hSW.1; have hS2 := hSW.2; clear hSW; go_simp; (try with_reducible rfl))
  change wpAnyH _ _ _ _ _ _ _ (Act.put _ (some 76) _) _
  simp only [Act.put, List.setIfInBounds_toArray, List.set_cons_zero, List.set_cons_succ]
  refine wpAnyH_take (i := 17) (v := ?vc_17) rfl (by kernel_rfl) (by kernel_rfl) (by kernel_rfl) (fun _ _ _ h => h) (Or.inl ⟨by kernel_rfl, ?yc_17⟩) hHeld ?rc_17
  case yc_17 => (intro W hSW; have hS1 := hSW.1; have hS2 := hSW.2; clear hSW; go_simp; (try with_reducible rfl))
  change wpAnyH _ _ _ _ _ _ _ (Act.put _ (some 77) _) _
  simp only [Act.put, List.setIfInBounds_toArray, List.set_cons_zero, List.set_cons_succ]
  refine wpAnyH_take (i := 18) (v := ?vc_18) rfl (by kernel_rfl) (by kernel_rfl) (by kernel_rfl) (fun _ _ _ h => h) (Or.inl ⟨by kernel_rfl, ?yc_18⟩) hHeld ?rc_18
  case yc_18 => (intro W hSW; have hS1 := hSW.1; have hS2 := hSW.2; clear hSW; go_simp; (try with_reducible rfl))
  change wpAnyH _ _ _ _ _ _ _ (Act.put _ (some 78) _) _
  simp only [Act.put, List.setIfInBounds_toArray, List.set_cons_zero, List.set_cons_succ]
  refine wpAnyH_take (i := 19) (v := ?vc_19) rfl (by kernel_rfl) (by kernel_rfl) (by kernel_rfl) (fun _ _ _ h => h) (Or.inl ⟨by kernel_rfl, ?yc_19⟩) hHeld ?rc_19
  case yc_19 => (intro W hSW; have hS1 := hSW.1; have hS2 := hSW.2; clear hSW; go_simp; (try with_reducible rfl))
  change wpAnyH _ _ _ _ _ _ _ (Act.put _ (some 79) _) _
  simp only [Act.put, List.setIfInBounds_toArray, List.set_cons_zero, List.set_cons_succ]
  refine wpAnyH_take (i := 20) (v := ?vc_20) rfl (by kernel_rfl) (by kernel_rfl) (by kernel_rfl) (fun _ _ _ h => h) (Or.inl ⟨by kernel_rfl, ?yc_20⟩) hHeld ?rc_20
  case yc_20 => (intro W hSW; have hS1 := hSW.1; have hS2 := hSW.2; clear hSW; go_simp; (try with_reducible rfl))
  change wpAnyH _ _ _ _ _ _ _ (Act.put _ (some 80) _) _
  simp only [Act.put, List.setIfInBounds_toArray, List.set_cons_zero, List.set_cons_succ]
  refine wpAnyH_take (i := 21) (v := ?vc_21) rfl (by kernel_rfl) (by kernel_rfl) (by kernel_rfl) (fun _ _ _ h => h) (Or.inl ⟨by kernel_rfl, ?yc_21⟩) hHeld ?rc_21
  case yc_21 => (intro W hSW; have hS1 := hSW.1; have hS2 := hSW.2; clear hSW; go_simp; (try with_reducible rfl))
  change wpAnyH _ _ _ _ _ _ _ (Act.put _ (some 81) _) _
  simp only [Act.put, List.setIfInBounds_toArray, List.set_cons_zero, List.set_cons_succ]
  refine wpAnyH_take (i := 22) (v := ?vc_22) rfl (by kernel_rfl) (by kernel_rfl) (by kernel_rfl) (fun _ _ _ h => h) (Or.inl ⟨by kernel_rfl, ?yc_22⟩) hHeld ?rc_22
  case yc_22 => (intro W hSW; have hS1 := hSW.1; have hS2 := hSW.2; clear hSW; go_simp; (try with_reducible rfl))
  change wpAnyH _ _ _ _ _ _ _ (Act.put _ (some 82) _) _
  simp only [Act.put, List.setIfInBounds_toArray, List.set_cons_zero, List.set_cons_succ]
  refine wpAnyH_take (i := 23) (v := ?vc_23) rfl (by kernel_rfl) (by kernel_rfl) (by kernel_rfl) (fun _ _ _ h => h) (Or.inl ⟨by kernel_rfl, ?yc_23⟩) hHeld ?rc_23
  case yc_23 => (intro W hSW; have hS1 := hSW.1; have hS2 := hSW.2; clear hSW; go_simp; (try with_reducible rfl))
  change wpAnyH _ _ _ _ _ _ _ (Act.put _ (some 83) _) _
  simp only [Act.put, List.setIfInBounds_toArray, List.set_cons_zero, List.set_cons_succ]
  refine wpAnyH_take (i := 24) (v := ?vc_24) rfl (by kernel_rfl) (by kernel_rfl) (by kernel_rfl) (fun _ _ _ h => h) (Or.inl ⟨by kernel_rfl, ?yc_24⟩) hHeld ?rc_24
  case yc_24 => (intro W hSW; have hS1 := hSW.1; have hS2 := hSW.2; clear hSW; go_simp; (try with_reducible rfl))
  change wpAnyH _ _ _ _ _ _ _ (Act.put _ (some 84) _) _
  simp only [Act.put, List.setIfInBounds_toArray, List.set_cons_zero, List.set_cons_succ]
  refine wpAnyH_take (i := 25) (v := ?vc_25) rfl (by kernel_rfl) (by kernel_rfl) (by kernel_rfl) (fun _ _ _ h => h) (Or.inl ⟨by kernel_rfl, ?yc_25⟩) hHeld ?rc_25
  case yc_25 => (intro W hSW; have hS1 := hSW.1; have hS2 := hSW.2; clear hSW; go_simp; (try with_reducible rfl))
  change wpAnyH _ _ _ _ _ _ _ (Act.put _ (some 85) _) _
  simp only [Act.put, List.setIfInBounds_toArray, List.set_cons_zero, List.set_cons_succ]
  refine wpAnyH_take (i := 26) (v := ?vc_26) rfl (by kernel_rfl) (by kernel_rfl) (by kernel_rfl) (fun _ _ _ h => h) (Or.inl ⟨by kernel_rfl, ?yc_26⟩) hHeld ?rc_26
  case yc_26 => (intro W hSW; have hS1 := hSW.1; have hS2 := hSW.2; clear hSW; go_simp; (try with_reducible rfl))
  change wpAnyH _ _ _ _ _ _ _ (Act.put _ (some 86) _) _
  simp only [Act.put, List.setIfInBounds_toArray, List.set_cons_zero, List.set_cons_succ]
  refine wpAnyH_take (i := 27) (v := ?vc_27) rfl (by kernel_rfl) (by kernel_rfl) (by kernel_rfl) (fun _ _ _ h => h) (Or.inl ⟨by kernel_rfl, ?yc_27⟩) hHeld ?rc_27
  case yc_27 => (intro W hSW; have hS1 := hSW.1; have hS2 := hSW.2; clear hSW; go_simp; (try with_reducible rfl))
  change wpAnyH _ _ _ _ _ _ _ (Act.put _ (some 87) _) _
  simp only [Act.put, List.setIfInBounds_toArray, List.set_cons_zero, List.set_cons_succ]
  refine wpAnyH_take (i := 28) (v := ?vc_28) rfl (by kernel_rfl) (by kernel_rfl) (by kernel_rfl) (fun _ _ _ h => h) (Or.inl ⟨by kernel_rfl, ?yc_28⟩) hHeld ?rc_28
  case yc_28 => (intro W hSW; have hS1 := hSW.1; have hS2 := hSW.2; clear hSW; go_simp; (try with_reducible rfl))
  change wpAnyH _ _ _ _ _ _ _ (Act.put _ (some 88) _) _
  simp only [Act.put, List.setIfInBounds_toArray, List.set_cons_zero, List.set_cons_succ]
  refine wpAnyH_take (i := 29) (v := ?vc_29) rfl (by kernel_rfl) (by kernel_rfl) (by kernel_rfl) (fun _ _ _ h => h) (Or.inl ⟨by kernel_rfl, ?yc_29⟩) hHeld ?rc_29
  case yc_29 => (intro W hSW; have hS1 := hSW.1; have hS2 := hSW.2; clear hSW; go_simp; (try with_reducible rfl))
  change wpAnyH _ _ _ _ _ _ _ (Act.put _ (some 89) _) _
  simp only [Act.put, List.setIfInBounds_toArray, List.set_cons_zero, List.set_cons_succ]
  refine wpAnyH_take (i := 30) (v := ?vc_30) rfl (by kernel_rfl) (by kernel_rfl) (by kernel_rfl) (fun _ _ _ h => h) (Or.inl ⟨by kernel_rfl, ?yc_30⟩) hHeld ?rc_30
  case yc_30 => (intro W hSW; have hS1 := hSW.1; have hS2 := hSW.2; clear hSW; go_simp; (try with_reducible rfl))
  change wpAnyH _ _ _ _ _ _ _ (Act.put _ (some 90) _) _
  simp only [Act.put, List.setIfInBounds_toArray, List.set_cons_zero, List.set_cons_succ]
  refine wpAnyH_take (i := 31) (v := ?vc_31) rfl (by kernel_rfl) (by kernel_rfl) (by kernel_rfl) (fun _ _ _ h => h) (Or.inl ⟨by kernel_rfl, ?yc_31⟩) hHeld ?rc_31
  case yc_31 => (intro W hSW; have hS1 := hSW.1; have hS2 := hSW.2; clear hSW; go_simp; (try with_reducible rfl))
  change wpAnyH _ _ _ _ _ _ _ (Act.put _ (some 91) _) _
  simp only [Act.put, List.setIfInBounds_toArray, List.set_cons_zero, List.set_cons_succ]
  refine wpAnyH_take (i := 32) (v := ?vc_32) rfl (by kernel_rfl) (by kernel_rfl) (by kernel_rfl) (fun _ _ _ h => h) (Or.inl ⟨by kernel_rfl, ?yc_32⟩) hHeld ?rc_32
  case yc_32 => (intro W hSW; have hS1 := hSW.1; have hS2 := hSW.2; clear hSW; go_simp; (try with_reducible rfl))
  change wpAnyH _ _ _ _ _ _ _ (Act.put _ (some 92) _) _
  simp only [Act.put, List.setIfInBounds_toArray, List.set_cons_zero, List.set_cons_succ]
  refine wpAnyH_ready (rs := [33]) (by kernel_rfl) (by simp) ?_
  refine AllReadyH.cons rfl (fun K hK => ?_) AllReadyH.nil
  go_simp
  refine (HLV.out _ HB3.out.drew.drew).mono ?_
  rintro e w9 ⟨rfl, hb9⟩
  refine hK.out _ _ (HS.out _ hb9) (fun hHeld => ?_)
  clear hK K
  try simp only [Act.put, List.setIfInBounds_toArray, List.set_cons_zero, List.set_cons_succ]
  refine wpAnyH_take (i := 34) (v := ?vc_34) rfl (by kernel_rfl) (by kernel_rfl) (by kernel_rfl) (fun _ _ _ h => h) (Or.inl ⟨by kernel_rfl, ?yc_34⟩) hHeld ?rc_34
  case yc_34 => (intro W hSW; have hS1 := hSW.1; have hS2 := hSW.2; clear hSW; go_simp; (try with_reducible rfl))
  change wpAnyH _ _ _ _ _ _ _ (Act.put _ (some 94) _) _
  simp only [Act.put, List.setIfInBounds_toArray, List.set_cons_zero, List.set_cons_succ]
  refine wpAnyH_take (i := 35) (v := ?vc_35) rfl (by kernel_rfl) (by kernel_rfl) (by kernel_rfl) (fun _ _ _ h => h) (Or.inl ⟨by kernel_rfl, ?yc_35⟩) hHeld ?rc_35
  case yc_35 => (intro W hSW; have hS1 := hSW.1; have hS2 := hSW.2; clear hSW; go_simp; (try with_reducible rfl))
  change wpAnyH _ _ _ _ _ _ _ (Act.put _ (some 4) _) _
  simp only [Act.put, List.setIfInBounds_toArray, List.set_cons_zero, List.set_cons_succ]
  refine wpAnyH_done (by kernel_rfl) ?_ _
  go_wp2
  go_ret
  exact ⟨rfl, hb9⟩

set_option linter.unusedVariables false in
set_option maxRecDepth 100000 in
theorem lifted (os : Os) (started : os.Started) (H : Type) (enc : TypeId × Value → H) :
    ReturnsInHanded {} Try.checked os 8 .any (Rows.rollTurnedSpec.pre6 enc Try.prog Try.f8 Rows.rollTurnedRow.domain false) (Rows.rollTurnedSpec.post enc Try.prog Try.f8 false true false false) := by
  refine returnsInHanded_of_change (C := Try.checked) own started (by kernel_rfl) Try.func8
    (ChangeSpec.witness6 (enc := enc) (C := Try.checked) false ⟨#[], #[.slice none 0 0, .int .i64 0], []⟩ 8 (by kernel_rfl) (by kernel_rfl) (by kernel_rfl) (by kernel_rfl)) ?_
  intro W base args ds gs before hval0 hW hcnd _
  have hval : ∀ (j : Nat) t v, Try.f8.params[j]? = some t → args[j]? = some v → Value.okWide Try.prog W .any base t v := hval0
  have hW' := hW
  obtain ⟨p, q, hA0, hV, rfl, hfz, hnd⟩ := hW
  have hA : DataW.TrodAll enc Try.prog W 0 (fun _ => true) true Try.f8.params.toList args.toList ds p := hA0
  rw [Try.params8] at hA hval
  obtain ⟨v0, vs0, d0, ds0, p0, q0, hargs, rfl, rfl, h0, r0⟩ := trodAll_cons hA
  obtain ⟨v1, vs1, d1, ds1, p1, q1, rfl, rfl, rfl, h1, r1⟩ := trodAll_cons r0
  obtain ⟨rfl, rfl, rfl⟩ := trodAll_nil r1
  obtain rfl : args = #[v0, v1] := by cases args; simp_all
  obtain ⟨rfl, rfl⟩ := trodVars_none hV
  have k0 := h0
  have lt0 : ∀ x ∈ p0, x.block < W.heap.size := by obtain ⟨m, hm⟩ := k0; exact DataW.trod_lt m _ _ _ hm
  obtain ⟨a0, len0, cap0, rfl⟩ := okWide_slice Try.underlying22 (hval 0 22 v0 rfl rfl)
  obtain ⟨zs0, w0⟩ : ∃ zs, IsRow .u8 W a0 len0 cap0 zs := by
    obtain ⟨fuel, hf⟩ := h0
    rcases open_ints Try.underlying22 Try.underlying5 (by kernel_rfl) hf with ⟨hcs, _⟩ | ⟨x, l, c, zs, hcs, _, hl, hm, hz, _, hcell, hwz⟩
    · simp [Value.cells] at hcs
      obtain ⟨rfl, rfl, rfl⟩ := hcs
      exact ⟨[], .inl ⟨rfl, rfl, rfl, rfl⟩⟩
    · simp [Value.cells] at hcs
      obtain ⟨rfl, rfl, rfl⟩ := hcs
      exact ⟨zs, .inr ⟨_, rfl, hl, hm, by simpa using hz, hcell, hwz⟩⟩
  obtain ⟨x1, rfl, rfl, rfl, w1⟩ := open_int Try.underlying3 (hval 1 3 v1 rfl rfl) h1
  clear hA0 hval0
  refine (walk a0 len0 cap0 zs0 x1 (wf_i64 w1) W w0).mono fun e W' ⟨he, bel⟩ => ?_
  subst he
  exact ⟨_, rfl, _, _, _, [], _, [], hW', trodAll_mk1 (shut_bool Try.underlying4 _), (trodAll_cons_mk (Below.trod laidOut (by kernel_rfl) (of_decide_eq_true (by kernel_rfl)) k0 bel lt0) (trodAll_cons_mk (shut_int Try.underlying3 w1) trodAll_mk0)), rfl, bel.frame _, fun h => by cases h⟩

theorem over : Rows.rollTurnedRow.holds Try.pinned (OpenSpec.ofChange Rows.rollTurnedSpec) :=
  OpenClaim.holds_of_wide 8 Try.f8 rfl rfl rfl rfl rfl rfl rfl ⟨rfl, rfl, rfl, rfl, rfl⟩ rfl rfl rfl rfl rfl (by kernel_rfl) Try.func8 (by kernel_rfl)
    (of_decide_eq_true (by kernel_rfl)) (by unfold Func.isWrapper; first | (rw [if_pos (by decide +kernel)]; kernel_rfl) | (rw [if_neg (by decide +kernel)]; exact ⟨rfl, rfl⟩))
    (fun os started H enc _ => lifted os started H enc)

end Go.Proofs.Yteiigaoniipedaa.rollTurned
namespace Go.Proofs.Yteiigaoniipedaa
/-- The given statement. -/
theorem rollTurned_holds : Rows.RollTurnedSaid := rollTurned.over
#print axioms rollTurned_holds
end Go.Proofs.Yteiigaoniipedaa
