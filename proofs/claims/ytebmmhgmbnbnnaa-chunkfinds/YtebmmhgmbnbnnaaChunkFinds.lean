/- Proved: for every heads, tail and m, the law ChunkFinds returns true, heads, tail and m as they were. No condition: every input that can be read as data. -/
import Derived.Test.YtebmmhgmbnbnnaaRows
import Derived.Test.YtebmmhgmbnbnnaaCN
import Derived.WalkKit
import Derived.ProofKit
import Derived.OpenShut
import Derived.ShutString
import Derived.ChangeOld
import Derived.SizedLaws
import Derived.Below
namespace Go.Proofs.Ytebmmhgmbnbnnaa.chunkFinds
open Go.ChangeShapes Go.WideShapes Go.ChangeAt Go.RowKit Ck
open Go.ChangeMaps (open_string shut_string)
theorem own : ownKnob Try.prog.godebug = none := by kernel_rfl
theorem laidOut : laidOutB Try.prog = true := by kernel_rfl

set_option maxRecDepth 100000 in
set_option maxHeartbeats 2000000 in
theorem walk (sx0 sy0 : ByteArray) (zx0 : sx0.size ≤ 140737488351232) (zy0 : sy0.size ≤ 140737488351232) (s1 : ByteArray) (z1 : s1.size ≤ 140737488351232) (ma2 mb2 mc2 : Int) (w : World)  :
    Calls Try.prog 7 #[.agg #[.string sx0, .string sy0], .string s1, .agg #[.int .i64 ma2, .int .i64 mb2, .int .i64 mc2]] w fun e w' => e = .returned (.bool true) ∧ Below w.heap.size w w' := by
  have HLV : Hid (∀ W, Below w.heap.size w W → Calls Try.prog 9 #[] W fun e w' => e = .returned (.bool true) ∧ Below w.heap.size w w') := by
    intro W hW
    refine (lives_any W).mono ?_
    rintro e w' ⟨rfl, hb⟩
    exact ⟨rfl, hW.trans (hb.mono hW.size)⟩
  obtain ⟨bx, hbx⟩ : ∃ bs, sx0.data.toList = bs := ⟨_, rfl⟩
  obtain ⟨by_, hby⟩ : ∃ bs, sy0.data.toList = bs := ⟨_, rfl⟩
  obtain ⟨bt, hbt⟩ : ∃ bs, s1.data.toList = bs := ⟨_, rfl⟩
  have hsx : strOf bx = sx0 := by rw [← hbx]; exact strOf_of sx0
  have hsy : strOf by_ = sy0 := by rw [← hby]; exact strOf_of sy0
  have hst : strOf bt = s1 := by rw [← hbt]; exact strOf_of s1
  have hzx : sx0.size = bx.length := by rw [← hsx, strOf_size]
  have hzy : sy0.size = by_.length := by rw [← hsy, strOf_size]
  have hzt : s1.size = bt.length := by rw [← hst, strOf_size]
  obtain ⟨a', ha'⟩ : ∃ a', sx0 ++ s1 = a' := ⟨_, rfl⟩
  obtain ⟨b', hb'⟩ : ∃ b', sy0 ++ s1 = b' := ⟨_, rfl⟩
  have hsa : strOf (bx ++ bt) = a' := by rw [strOf_append, hsx, hst, ha']
  have hsb : strOf (by_ ++ bt) = b' := by rw [strOf_append, hsy, hst, hb']
  have hza : a'.size = bx.length + bt.length := by rw [← hsa, strOf_size, List.length_append]
  have hzb : b'.size = by_.length + bt.length := by rw [← hsb, strOf_size, List.length_append]
  have hn1 : ¬ 9223372036854775807 < sx0.size + s1.size := by omega
  have hn2 : ¬ 9223372036854775807 < sy0.size + s1.size := by omega
  obtain ⟨B0, hB0⟩ : ∃ B, w.heap.size = B := ⟨_, rfl⟩
  obtain ⟨A0, hA0'⟩ : ∃ A, w.alloc (.cells #[.string sx0, .string sy0] 45) = A := ⟨_, rfl⟩
  obtain ⟨B, hB⟩ : ∃ B, A0.heap.size = B := ⟨_, rfl⟩
  obtain ⟨A, hA⟩ : ∃ A, A0.alloc (.cells #[.int .i64 ma2, .int .i64 mb2, .int .i64 mc2] 23) = A := ⟨_, rfl⟩
  have hrow0 : A0.heap[B0]? = some (.cells #[.string sx0, .string sy0] 45 (0, 0)) := by rw [← hA0', ← hB0]; exact heap_alloc_new w _
  have hrowA : A.heap[B]? = some (.cells #[.int .i64 ma2, .int .i64 mb2, .int .i64 mc2] 23 (0, 0)) := by rw [← hA, ← hB]; exact heap_alloc_new A0 _
  have hbA0 : Below A0.heap.size A0 A := by rw [← hA]; exact (Below.refl _ A0).alloc (Nat.le_refl _) _
  have hbw0 : Below w.heap.size w A0 := by rw [← hA0']; exact (Below.refl _ w).alloc (Nat.le_refl _) _
  have hbA : Below w.heap.size w A := hbw0.trans (hbA0.mono hbw0.size)
  have hrow0A : A.heap[B0]? = some (.cells #[.string sx0, .string sy0] 45 (0, 0)) := (hbA0.block _ (lt_of_some hrow0)).trans hrow0
  have HMC : Hid (∀ V, Below A.heap.size A V → (V.cell? ⟨B, 0, none⟩ = some (.int .i64 ma2) ∧ V.cell? ⟨B, 1, none⟩ = some (.int .i64 mb2) ∧ V.cell? ⟨B, 2, none⟩ = some (.int .i64 mc2)) ∧ (V.cell? ⟨B0, 0, none⟩ = some (.string sx0) ∧ V.cell? ⟨B0, 1, none⟩ = some (.string sy0)) ∧ Below w.heap.size w V) := by
    intro V hV
    have hr := (hV.block _ (lt_of_some hrowA)).trans hrowA
    have hr0 := (hV.block _ (lt_of_some hrow0A)).trans hrow0A
    refine ⟨⟨?_, ?_, ?_⟩, ⟨?_, ?_⟩, hbA.trans (hV.mono hbA.size)⟩
    · rw [cell_of_row _ _ _ _ _ _ hr]; rfl
    · rw [cell_of_row _ _ _ _ _ _ hr]; rfl
    · rw [cell_of_row _ _ _ _ _ _ hr]; rfl
    · rw [cell_of_row _ _ _ _ _ _ hr0]; rfl
    · rw [cell_of_row _ _ _ _ _ _ hr0]; rfl
  have HLA : Hid (∀ V, Below A.heap.size A V → Calls Try.prog 9 #[] V fun e w' => e = .returned (.bool true) ∧ Below w.heap.size w w') := fun V hV => HLV.out V (HMC.out V hV).2.2
  have HMY : Hid (∀ V, Below A.heap.size A V → Calls Try.prog 12 #[.agg #[.int .i64 ma2, .int .i64 mb2, .int .i64 mc2]] V fun e w' => e = .returned (.bool (mayI ma2 mb2 mc2)) ∧ Below A.heap.size A w') := by
    intro V hV
    refine (may_any _ _ _ V).mono ?_
    rintro e w' ⟨rfl, hb⟩
    exact ⟨rfl, hV.trans (hb.mono hV.size)⟩
  have HA0 : Hid (Below A.heap.size A A) := Below.refl _ _
  have HDR : Hid (∀ V, Below A.heap.size A V → Below A.heap.size A V.drew) := fun V hV => hV.drew
  obtain ⟨y0, y1⟩ := (HMC.out A HA0.out).2.1
  obtain ⟨c0, c1, c2⟩ := (HMC.out _ (HDR.out _ HA0.out)).1
  have HSA : Hid (strOf (bx ++ bt) = a' ∧ strOf (by_ ++ bt) = b' ∧ bx.length = sx0.size ∧ by_.length = sy0.size ∧ bt.length = s1.size) := ⟨hsa, hsb, hzx.symm, hzy.symm, hzt.symm⟩
  obtain ⟨R, hR⟩ : ∃ R, mayI ma2 mb2 mc2 = R := ⟨_, rfl⟩
  have HR : Hid (mayI ma2 mb2 mc2 = R) := hR
  rw [hR] at HMY
  clear hbx hby hbt hsx hsy hst hsa hsb hrow0 hrowA hbA0 hbw0 hbA hrow0A hR HLV
  rw [← hzx, ← hzt] at hza
  rw [← hzy, ← hzt] at hzb
  clear hzx hzy hzt
  go_enter Try.func7, Try.ntmps7
  go_wp2
  refine wp_region_held_drew (S := fun V => V.cell? ⟨B0, 0, none⟩ = some (.string sx0) ∧ V.cell? ⟨B0, 1, none⟩ = some (.string sy0)) (by kernel_rfl) (⟨y0, y1⟩) (fun hHeld => ?_)
  refine wpAnyH_take (i := 0) (v := ?va0) rfl (by kernel_rfl) (by kernel_rfl) (by kernel_rfl) (fun _ _ _ h => h) (Or.inl ⟨by first | kernel_rfl | rfl, ?ya0⟩) hHeld ?ra0
  case ya0 => (intro W hSW; (try dsimp only at hSW); go_simp; (try with_reducible rfl))
  change wpAnyH _ _ _ _ _ _ _ (Act.put _ (some 19) _) _
  simp only [Act.put, List.setIfInBounds_toArray, List.set_cons_zero, List.set_cons_succ]
  refine wpAnyH_take (i := 1) (v := ?va1) rfl (by kernel_rfl) (by kernel_rfl) (by kernel_rfl) (fun _ _ _ h => h) (Or.inl ⟨by first | kernel_rfl | rfl, ?ya1⟩) hHeld ?ra1
  case ya1 => (intro W hSW; (try dsimp only at hSW); go_simp; (try with_reducible rfl))
  change wpAnyH _ _ _ _ _ _ _ (Act.put _ (some 20) _) _
  simp only [Act.put, List.setIfInBounds_toArray, List.set_cons_zero, List.set_cons_succ]
  refine wpAnyH_take (i := 2) (v := ?va2) rfl (by kernel_rfl) (by kernel_rfl) (by kernel_rfl) (fun _ _ _ h => h) (Or.inl ⟨by first | kernel_rfl | rfl, ?ya2⟩) hHeld ?ra2
  case ya2 => (intro W hSW; (try dsimp only at hSW); go_simp; (try with_reducible rfl))
  change wpAnyH _ _ _ _ _ _ _ (Act.put _ (some 21) _) _
  simp only [Act.put, List.setIfInBounds_toArray, List.set_cons_zero, List.set_cons_succ]
  refine wpAnyH_take (i := 3) (v := ?va3) rfl (by kernel_rfl) (by kernel_rfl) (by kernel_rfl) (fun _ _ _ h => h) (Or.inl ⟨by first | kernel_rfl | rfl, ?ya3⟩) hHeld ?ra3
  case ya3 => (intro W hSW; (try dsimp only at hSW); go_simp; (try with_reducible rfl))
  change wpAnyH _ _ _ _ _ _ _ (Act.put _ (some 22) _) _
  simp only [Act.put, List.setIfInBounds_toArray, List.set_cons_zero, List.set_cons_succ]
  refine wpAnyH_take (i := 4) (v := ?va4) rfl (by kernel_rfl) (by kernel_rfl) (by kernel_rfl) (fun _ _ _ h => h) (Or.inl ⟨by first | kernel_rfl | rfl, ?ya4⟩) hHeld ?ra4
  case ya4 => (intro W hSW; (try dsimp only at hSW); go_simp; (try with_reducible rfl))
  change wpAnyH _ _ _ _ _ _ _ (Act.put _ (some 23) _) _
  simp only [Act.put, List.setIfInBounds_toArray, List.set_cons_zero, List.set_cons_succ]
  refine wpAnyH_take (i := 5) (v := ?va5) rfl (by kernel_rfl) (by kernel_rfl) (by kernel_rfl) (fun _ _ _ h => h) (Or.inl ⟨by first | kernel_rfl | rfl, ?ya5⟩) hHeld ?ra5
  case ya5 => (intro W hSW; (try dsimp only at hSW); go_simp; (try with_reducible rfl))
  change wpAnyH _ _ _ _ _ _ _ (Act.put _ (some 24) _) _
  simp only [Act.put, List.setIfInBounds_toArray, List.set_cons_zero, List.set_cons_succ]
  refine wpAnyH_take (i := 6) (v := ?va6) rfl (by kernel_rfl) (by kernel_rfl) (by kernel_rfl) (fun _ _ _ h => h) (Or.inl ⟨by first | kernel_rfl | rfl, ?ya6⟩) hHeld ?ra6
  case ya6 => (intro W hSW; (try dsimp only at hSW); go_simp; (try with_reducible rfl))
  change wpAnyH _ _ _ _ _ _ _ (Act.put _ (some 25) _) _
  simp only [Act.put, List.setIfInBounds_toArray, List.set_cons_zero, List.set_cons_succ]
  refine wpAnyH_take (i := 7) (v := ?va7) rfl (by kernel_rfl) (by kernel_rfl) (by kernel_rfl) (fun _ _ _ h => h) (Or.inl ⟨by first | kernel_rfl | rfl, ?ya7⟩) hHeld ?ra7
  case ya7 => (intro W hSW; (try dsimp only at hSW); go_simp; (try with_reducible rfl))
  change wpAnyH _ _ _ _ _ _ _ (Act.put _ (some 26) _) _
  simp only [Act.put, List.setIfInBounds_toArray, List.set_cons_zero, List.set_cons_succ]
  refine wpAnyH_take (i := 8) (v := ?va8) rfl (by kernel_rfl) (by kernel_rfl) (by kernel_rfl) (fun _ _ _ h => h) (Or.inl ⟨by first | kernel_rfl | rfl, ?ya8⟩) hHeld ?ra8
  case ya8 => (intro W hSW; (try dsimp only at hSW); go_simp; (try with_reducible rfl))
  change wpAnyH _ _ _ _ _ _ _ (Act.put _ (some 7) _) _
  simp only [Act.put, List.setIfInBounds_toArray, List.set_cons_zero, List.set_cons_succ]
  refine wpAnyH_take (i := 9) (v := ?va9) rfl (by kernel_rfl) (by kernel_rfl) (by kernel_rfl) (fun _ _ _ h => h) (Or.inl ⟨by first | kernel_rfl | rfl, ?ya9⟩) hHeld ?ra9
  case ya9 => (intro W hSW; (try dsimp only at hSW); go_simp; (try with_reducible rfl))
  change wpAnyH _ _ _ _ _ _ _ (Act.put _ (some 8) _) _
  simp only [Act.put, List.setIfInBounds_toArray, List.set_cons_zero, List.set_cons_succ]
  refine wpAnyH_done (by kernel_rfl) ?_ _
  clear hHeld y0 y1 ha' hb'
  by_cases h1 : 2000 < a'.size
  · have k1 : (2000 : Int) < (a'.size : Int) := by omega
    go_wp2_with (go_at_call 9; refine (HLA.out _ (HDR.out _ HA0.out)).mono ?_; rintro e w' ⟨rfl, hb⟩)
    go_ret
    exact ⟨rfl, hb⟩
  have k1 : ¬ (2000 : Int) < (a'.size : Int) := by omega
  by_cases h2 : 2000 < b'.size
  · have k2 : (2000 : Int) < (b'.size : Int) := by omega
    go_wp2_with (go_at_call 9; refine (HLA.out _ (HDR.out _ HA0.out)).mono ?_; rintro e w' ⟨rfl, hb⟩)
    go_ret
    exact ⟨rfl, hb⟩
  have k2 : ¬ (2000 : Int) < (b'.size : Int) := by omega
  cases R with
  | false =>
    go_wp2_with fail
    refine (HMY.out _ (HDR.out _ HA0.out)).mono ?_
    rintro e V1 ⟨rfl, hb1⟩
    have H1 : Hid (Below A.heap.size A V1) := hb1
    clear hb1 c0 c1 c2
    go_wp2_with (go_at_call 9; refine (HLA.out _ H1.out).mono ?_; rintro e w' ⟨rfl, hb⟩)
    go_ret
    exact ⟨rfl, hb⟩
  | true =>
  obtain ⟨m, hm, e0, e1, e2⟩ := ms_of HR.out
  have hlx := HSA.out.2.2.1
  have hly := HSA.out.2.2.2.1
  have hlt := HSA.out.2.2.2.2
  have HCX : Hid (∀ V, Below A.heap.size A V → Calls Try.prog 10 #[.string a', .agg #[.int .i64 ma2, .int .i64 mb2, .int .i64 mc2]] V fun e w' => ∃ a n c, e = .returned (.tuple #[.slice a n c, .int .i64 0]) ∧ Tw (fun _ => True) w' a n c ((cutL m (bx ++ bt)).map strOf) ∧ Below V.heap.size V w') := by
    intro V hV
    rw [← HSA.out.1, e0, e1, e2]
    refine (cut_yes m hm (bx ++ bt) (by rw [List.length_append]; omega) V).mono ?_
    rintro e w' ⟨a, n, c, rfl, h1, h2⟩
    exact ⟨a, n, c, rfl, tw_of_own h1, h2⟩
  have HCY : Hid (∀ V, Below A.heap.size A V → Calls Try.prog 10 #[.string b', .agg #[.int .i64 ma2, .int .i64 mb2, .int .i64 mc2]] V fun e w' => ∃ a n c, e = .returned (.tuple #[.slice a n c, .int .i64 0]) ∧ Tw (fun _ => True) w' a n c ((cutL m (by_ ++ bt)).map strOf) ∧ Below V.heap.size V w') := by
    intro V hV
    rw [← HSA.out.2.1, e0, e1, e2]
    refine (cut_yes m hm (by_ ++ bt) (by rw [List.length_append]; omega) V).mono ?_
    rintro e w' ⟨a, n, c, rfl, h1, h2⟩
    exact ⟨a, n, c, rfl, tw_of_own h1, h2⟩
  have HFX : Hid ((cutL m (bx ++ bt)).flatten.length ≤ 2000 ∧ (cutL m (bx ++ bt)).length ≤ 2000) := by
    have h3 := flat_len (cutL m (bx ++ bt)) (fun x hx => (cutL_size hm _ x hx).1)
    rw [cutL_join, List.length_append] at *
    exact ⟨by omega, by omega⟩
  have HFY : Hid ((cutL m (by_ ++ bt)).flatten.length ≤ 2000 ∧ (cutL m (by_ ++ bt)).length ≤ 2000) := by
    have h3 := flat_len (cutL m (by_ ++ bt)) (fun x hx => (cutL_size hm _ x hx).1)
    rw [cutL_join, List.length_append] at *
    exact ⟨by omega, by omega⟩
  have HIX : Hid (∀ i, 16 ≤ i → i < s1.size → (sx0.size + i ∈ endsL 0 (cutL m (bx ++ bt)) ↔ cutAt m (bx ++ bt) (bx.length + i))) := fun i h3 h4 => by
    rw [← hlx]
    exact cut_iff m _ _ (by omega) (by rw [List.length_append]; omega)
  have HIY : Hid (∀ i, 16 ≤ i → i < s1.size → (sy0.size + i ∈ endsL 0 (cutL m (by_ ++ bt)) ↔ cutAt m (by_ ++ bt) (by_.length + i))) := fun i h3 h4 => by
    rw [← hly]
    exact cut_iff m _ _ (by omega) (by rw [List.length_append]; omega)
  have HCC : Hid (∀ j i, 16 ≤ j → j ≤ i → i < s1.size → cutAt m (bx ++ bt) (bx.length + j) → cutAt m (by_ ++ bt) (by_.length + j) → (cutAt m (bx ++ bt) (bx.length + i) ↔ cutAt m (by_ ++ bt) (by_.length + i))) := fun j i h3 h4 h5 => cut_common m bx by_ bt j i h3 h4 (by omega)
  obtain ⟨LX, hLX⟩ : ∃ L, cutL m (bx ++ bt) = L := ⟨_, rfl⟩
  obtain ⟨LY, hLY⟩ : ∃ L, cutL m (by_ ++ bt) = L := ⟨_, rfl⟩
  obtain ⟨CX, hCX⟩ : ∃ C : Nat → Prop, (fun i => cutAt m (bx ++ bt) (bx.length + i)) = C := ⟨_, rfl⟩
  obtain ⟨CY, hCY⟩ : ∃ C : Nat → Prop, (fun i => cutAt m (by_ ++ bt) (by_.length + i)) = C := ⟨_, rfl⟩
  rw [hLX] at HCX HFX HIX
  rw [hLY] at HCY HFY HIY
  have HIX : Hid (∀ i, 16 ≤ i → i < s1.size → (sx0.size + i ∈ endsL 0 LX ↔ CX i)) := by rw [← hCX]; exact HIX.out
  have HIY : Hid (∀ i, 16 ≤ i → i < s1.size → (sy0.size + i ∈ endsL 0 LY ↔ CY i)) := by rw [← hCY]; exact HIY.out
  have HCC : Hid (∀ j i, 16 ≤ j → j ≤ i → i < s1.size → CX j → CY j → (CX i ↔ CY i)) := by rw [← hCX, ← hCY]; exact HCC.out
  clear hm e0 e1 e2 hlx hly hlt hLX hLY hCX hCY hza hzb
  go_wp2_with fail
  refine (HMY.out _ (HDR.out _ HA0.out)).mono ?_
  rintro e V1 ⟨rfl, hb1⟩
  obtain ⟨d0, d1, d2⟩ := (HMC.out V1 hb1).1
  have H1 : Hid (Below A.heap.size A V1) := hb1
  clear hb1 c0 c1 c2
  go_wp2_with fail
  refine (HCX.out _ H1.out).mono ?_
  rintro e V2 ⟨xa, xn, xc, rfl, ht2, hb2⟩
  have hb2A : Below A.heap.size A V2 := H1.out.trans (hb2.mono H1.out.size)
  obtain ⟨c0, c1, c2⟩ := (HMC.out V2 hb2A).1
  have hxn : xn ≤ 2000 := by have := ht2.len; rw [List.length_map] at this; rw [← this]; exact HFX.out.2
  have H2 : Hid (Below A.heap.size A V2 ∧ Tw (fun _ => True) V2 xa xn xc (LX.map strOf)) := ⟨hb2A, ht2⟩
  clear hb2 hb2A ht2 d0 d1 d2
  go_wp2_with fail
  refine (HCY.out _ H2.out.1).mono ?_
  rintro e V3 ⟨ya, yn, yc, rfl, ht3, hb3⟩
  have hb3A : Below A.heap.size A V3 := H2.out.1.trans (hb3.mono H2.out.1.size)
  have hyn : yn ≤ 2000 := by have := ht3.len; rw [List.length_map] at this; rw [← this]; exact HFY.out.2
  have HEX : Hid (Calls Try.prog 20 #[.slice xa xn xc] V3 fun e w' => ∃ a' c', e = .returned (.slice a' xn c') ∧ Iw w' a' xn c' (endsL 0 LX) ∧ Below V3.heap.size V3 w') := ends_any (H2.out.2.below hb3) (by have := HFX.out.1; omega) (by omega)
  have H3 : Hid (Below A.heap.size A V3 ∧ Tw (fun _ => True) V3 ya yn yc (LY.map strOf)) := ⟨hb3A, ht3⟩
  clear hb3 hb3A ht3 c0 c1 c2
  go_wp2_with fail
  refine HEX.out.mono ?_
  rintro e V4 ⟨za, zc, rfl, hi4, hb4⟩
  have HEY : Hid (Calls Try.prog 20 #[.slice ya yn yc] V4 fun e w' => ∃ a' c', e = .returned (.slice a' yn c') ∧ Iw w' a' yn c' (endsL 0 LY) ∧ Below V4.heap.size V4 w') := ends_any (H3.out.2.below hb4) (by have := HFY.out.1; omega) (by omega)
  have H4 : Hid (Below A.heap.size A V4 ∧ Iw V4 za xn zc (endsL 0 LX)) := ⟨H3.out.1.trans (hb4.mono H3.out.1.size), hi4⟩
  clear hi4 hb4 HEX
  go_wp2_with fail
  refine HEY.out.mono ?_
  rintro e V5 ⟨qa, qc, rfl, hi5, hb5⟩
  have H5 : Hid (∀ V, Below V5.heap.size V5 V → Below A.heap.size A V ∧ Iw V za xn zc (endsL 0 LX) ∧ Iw V qa yn qc (endsL 0 LY)) := fun V hV => by
    have h6 := H4.out.1.trans (hb5.mono H4.out.1.size)
    exact ⟨h6.trans (hV.mono h6.size), (H4.out.2.below hb5).below hV, hi5.below hV⟩
  clear hi5 hb5 HEY
  obtain ⟨Rel1, hRel1⟩ : ∃ Rel1 : Nat → Bool → Prop, Rel1 = (fun i M => M = true → ∃ j, 16 ≤ j ∧ j < i ∧ CX j ∧ CY j) := ⟨_, rfl⟩
  have HRD : Hid (Rel1 = (fun i M => M = true → ∃ j, 16 ≤ j ∧ j < i ∧ CX j ∧ CY j)) := hRel1
  clear hRel1
  have HST0 : Hid (Rel1 16 false) := by
    rw [HRD.out]
    exact fun h => by cases h
  go_wp2
  go_loopw [15, 16] (fun vm vi wr => ∃ (i : Nat) (M : Bool), 16 ≤ i ∧ i ≤ s1.size + 16 ∧ vm = .bool M ∧ vi = .int .i64 i ∧ Rel1 i M ∧ Below V5.heap.size V5 wr) (fun _ vi _ => s1.size + 17 - (intOf vi).toNat)
  case atStart => exact ⟨16, false, by omega, by omega, rfl, rfl, HST0.out, Below.refl _ _⟩
  case round =>
    obtain ⟨i, M, hi16, hi2, rfl, rfl, hrl, hbw⟩ := hrel
    by_cases hlt : i < s1.size
    · have kk : (i : Int) < (s1.size : Int) := by omega
      obtain ⟨hA5, hx5, hy5⟩ := H5.out wr hbw
      obtain ⟨g0, g1⟩ := (HMC.out wr hA5).2.1
      obtain ⟨p, hp⟩ : ∃ p, sx0.size + i = p := ⟨_, rfl⟩
      obtain ⟨q, hq⟩ : ∃ q, sy0.size + i = q := ⟨_, rfl⟩
      have kp : (sx0.size : Int) + (i : Int) = (p : Int) := by omega
      have kq : (sy0.size : Int) + (i : Int) = (q : Int) := by omega
      have hwp : IntKind.i64.wrap (p : Int) = (p : Int) := wrapI _ (by omega) (by omega)
      have hwq : IntKind.i64.wrap (q : Int) = (q : Int) := wrapI _ (by omega) (by omega)
      obtain ⟨O, hO⟩ : ∃ O, decide (p ∈ endsL 0 LX) = O := ⟨_, rfl⟩
      obtain ⟨Q, hQ⟩ : ∃ Q, decide (q ∈ endsL 0 LY) = Q := ⟨_, rfl⟩
      have HHX : Hid (Calls Try.prog 21 #[.slice za xn zc, .int .i64 (p : Int)] wr.drew fun e w' => e = .returned (.bool O) ∧ w' = wr.drew) := by
        rw [← hO]
        exact has_any (w := wr.drew) (hx5.below (Below.refl _ wr).drew) (by omega) p
      have HHY : Hid (Calls Try.prog 21 #[.slice qa yn qc, .int .i64 (q : Int)] wr.drew fun e w' => e = .returned (.bool Q) ∧ w' = wr.drew) := by
        rw [← hQ]
        exact has_any (w := wr.drew) (hy5.below (Below.refl _ wr).drew) (by omega) q
      have hOX : O = true ↔ CX i := by rw [← hO, decide_eq_true_iff, ← hp]; exact HIX.out i hi16 hlt
      have hQY : Q = true ↔ CY i := by rw [← hQ, decide_eq_true_iff, ← hq]; exact HIY.out i hi16 hlt
      have HEQ : Hid (M = true → O = Q) := by
        intro hM
        have hrl2 := hrl
        rw [HRD.out] at hrl2
        obtain ⟨j, j1, j2, j3, j4⟩ := hrl2 hM
        have h7 := HCC.out j i j1 (by omega) hlt j3 j4
        rw [← hOX, ← hQY] at h7
        cases O <;> cases Q <;> simp_all
      have HRL : Hid (Rel1 (i + 1) (M || (O && Q))) := by
        have hrl2 := hrl
        rw [HRD.out] at hrl2 ⊢
        show _ → _
        intro hM
        simp only [Bool.or_eq_true, Bool.and_eq_true] at hM
        rcases hM with hM | ⟨h7, h8⟩
        · obtain ⟨j, j1, j2, j3, j4⟩ := hrl2 hM
          exact ⟨j, j1, by omega, j3, j4⟩
        · exact ⟨i, hi16, by omega, hOX.1 h7, hQY.1 h8⟩
      have HBD : Hid (Below V5.heap.size V5 wr.drew) := hbw.drew
      clear hrl hbw hA5 hx5 hy5 hO hQ hOX hQY hp hq
      go_wp2
      refine wp_region_held_drew (S := fun V => V.cell? ⟨B0, 0, none⟩ = some (.string sx0) ∧ V.cell? ⟨B0, 1, none⟩ = some (.string sy0)) (by kernel_rfl) (⟨g0, g1⟩) (fun hHeld => ?_)
      refine wpAnyH_take (i := 0) (v := ?vq0) rfl (by kernel_rfl) (by kernel_rfl) (by kernel_rfl) (fun _ _ _ h => h) (Or.inl ⟨by first | kernel_rfl | rfl, ?yq0⟩) hHeld ?rq0
      case yq0 => (intro W hSW; (try dsimp only at hSW); go_simp; (try with_reducible rfl))
      change wpAnyH _ _ _ _ _ _ _ (Act.put _ (some 69) _) _
      simp only [Act.put, List.setIfInBounds_toArray, List.set_cons_zero, List.set_cons_succ]
      refine wpAnyH_take (i := 1) (v := ?vq1) rfl (by kernel_rfl) (by kernel_rfl) (by kernel_rfl) (fun _ _ _ h => h) (Or.inl ⟨by first | kernel_rfl | rfl, ?yq1⟩) hHeld ?rq1
      case yq1 => (intro W hSW; (try dsimp only at hSW); go_simp; (try with_reducible rfl))
      change wpAnyH _ _ _ _ _ _ _ (Act.put _ (some 70) _) _
      simp only [Act.put, List.setIfInBounds_toArray, List.set_cons_zero, List.set_cons_succ]
      refine wpAnyH_take (i := 2) (v := ?vq2) rfl (by kernel_rfl) (by kernel_rfl) (by kernel_rfl) (fun _ _ _ h => h) (Or.inl ⟨by first | kernel_rfl | rfl, ?yq2⟩) hHeld ?rq2
      case yq2 => (intro W hSW; (try dsimp only at hSW); go_simp; (try with_reducible rfl))
      change wpAnyH _ _ _ _ _ _ _ (Act.put _ (some 71) _) _
      simp only [Act.put, List.setIfInBounds_toArray, List.set_cons_zero, List.set_cons_succ]
      refine wpAnyH_take (i := 3) (v := ?vq3) rfl (by kernel_rfl) (by kernel_rfl) (by kernel_rfl) (fun _ _ _ h => h) (Or.inl ⟨by first | kernel_rfl | rfl, ?yq3⟩) hHeld ?rq3
      case yq3 => (intro W hSW; (try dsimp only at hSW); go_simp; (try with_reducible rfl))
      change wpAnyH _ _ _ _ _ _ _ (Act.put _ (some 72) _) _
      simp only [Act.put, List.setIfInBounds_toArray, List.set_cons_zero, List.set_cons_succ]
      refine wpAnyH_take (i := 4) (v := ?vq4) rfl (by kernel_rfl) (by kernel_rfl) (by kernel_rfl) (fun _ _ _ h => h) (Or.inl ⟨by first | kernel_rfl | rfl, ?yq4⟩) hHeld ?rq4
      case yq4 => (intro W hSW; (try dsimp only at hSW); go_simp; (try with_reducible rfl))
      change wpAnyH _ _ _ _ _ _ _ (Act.put _ (some 73) _) _
      simp only [Act.put, List.setIfInBounds_toArray, List.set_cons_zero, List.set_cons_succ]
      refine wpAnyH_take (i := 5) (v := ?vq5) rfl (by kernel_rfl) (by kernel_rfl) (by kernel_rfl) (fun _ _ _ h => h) (Or.inl ⟨by first | kernel_rfl | rfl, ?yq5⟩) hHeld ?rq5
      case yq5 => (intro W hSW; (try dsimp only at hSW); go_simp; (try with_reducible rfl))
      change wpAnyH _ _ _ _ _ _ _ (Act.put _ (some 74) _) _
      simp only [Act.put, List.setIfInBounds_toArray, List.set_cons_zero, List.set_cons_succ]
      refine wpAnyH_take (i := 7) (v := ?vq7) rfl (by kernel_rfl) (by kernel_rfl) (by kernel_rfl) (fun _ _ _ h => h) (Or.inl ⟨by first | kernel_rfl | rfl, ?yq7⟩) hHeld ?rq7
      case yq7 => (intro W hSW; (try dsimp only at hSW); go_simp; (try with_reducible rfl))
      change wpAnyH _ _ _ _ _ _ _ (Act.put _ (some 76) _) _
      simp only [Act.put, List.setIfInBounds_toArray, List.set_cons_zero, List.set_cons_succ]
      refine wpAnyH_take (i := 8) (v := ?vq8) rfl (by kernel_rfl) (by kernel_rfl) (by kernel_rfl) (fun _ _ _ h => h) (Or.inl ⟨by first | kernel_rfl | rfl, ?yq8⟩) hHeld ?rq8
      case yq8 => (intro W hSW; (try dsimp only at hSW); go_simp; (try with_reducible rfl))
      change wpAnyH _ _ _ _ _ _ _ (Act.put _ (some 77) _) _
      simp only [Act.put, List.setIfInBounds_toArray, List.set_cons_zero, List.set_cons_succ]
      refine wpAnyH_take (i := 9) (v := ?vq9) rfl (by kernel_rfl) (by kernel_rfl) (by kernel_rfl) (fun _ _ _ h => h) (Or.inl ⟨by first | kernel_rfl | rfl, ?yq9⟩) hHeld ?rq9
      case yq9 => (intro W hSW; (try dsimp only at hSW); go_simp; (try with_reducible rfl))
      change wpAnyH _ _ _ _ _ _ _ (Act.put _ (some 78) _) _
      simp only [Act.put, List.setIfInBounds_toArray, List.set_cons_zero, List.set_cons_succ]
      refine wpAnyH_take (i := 10) (v := ?vq10) rfl (by kernel_rfl) (by kernel_rfl) (by kernel_rfl) (fun _ _ _ h => h) (Or.inl ⟨by first | kernel_rfl | rfl, ?yq10⟩) hHeld ?rq10
      case yq10 => (intro W hSW; (try dsimp only at hSW); go_simp; (try with_reducible rfl))
      change wpAnyH _ _ _ _ _ _ _ (Act.put _ (some 79) _) _
      simp only [Act.put, List.setIfInBounds_toArray, List.set_cons_zero, List.set_cons_succ]
      refine wpAnyH_take (i := 11) (v := ?vq11) rfl (by kernel_rfl) (by kernel_rfl) (by kernel_rfl) (fun _ _ _ h => h) (Or.inl ⟨by first | kernel_rfl | rfl, ?yq11⟩) hHeld ?rq11
      case yq11 => (intro W hSW; (try dsimp only at hSW); go_simp; (try with_reducible rfl))
      change wpAnyH _ _ _ _ _ _ _ (Act.put _ (some 80) _) _
      simp only [Act.put, List.setIfInBounds_toArray, List.set_cons_zero, List.set_cons_succ]
      refine wpAnyH_take (i := 12) (v := ?vq12) rfl (by kernel_rfl) (by kernel_rfl) (by kernel_rfl) (fun _ _ _ h => h) (Or.inl ⟨by first | kernel_rfl | rfl, ?yq12⟩) hHeld ?rq12
      case yq12 => (intro W hSW; (try dsimp only at hSW); go_simp; (try with_reducible rfl))
      change wpAnyH _ _ _ _ _ _ _ (Act.put _ (some 81) _) _
      simp only [Act.put, List.setIfInBounds_toArray, List.set_cons_zero, List.set_cons_succ]
      refine wpAnyH_ready (rs := [6]) (by kernel_rfl) (by simp) ?_
      refine AllReadyH.cons rfl (fun K hK => ?_) AllReadyH.nil
      go_simp
      refine (HHX.out).mono ?_
      rintro e w1 ⟨rfl, h⟩; subst w1
      refine hK.out _ _ (hHeld) (fun hHeld => ?_)
      clear hK K
      try simp only [Act.put, List.setIfInBounds_toArray, List.set_cons_zero, List.set_cons_succ]
      refine wpAnyH_ready (rs := [13]) (by kernel_rfl) (by simp) ?_
      refine AllReadyH.cons rfl (fun K hK => ?_) AllReadyH.nil
      go_simp
      refine (HHY.out).mono ?_
      rintro e w1 ⟨rfl, h⟩; subst w1
      refine hK.out _ _ (hHeld) (fun hHeld => ?_)
      clear hK K
      try simp only [Act.put, List.setIfInBounds_toArray, List.set_cons_zero, List.set_cons_succ]
      refine wpAnyH_take (i := 14) (v := ?vq14) rfl (by kernel_rfl) (by kernel_rfl) (by kernel_rfl) (fun _ _ _ h => h) (Or.inl ⟨by first | kernel_rfl | rfl, ?yq14⟩) hHeld ?rq14
      case yq14 => (intro W hSW; (try dsimp only at hSW); go_simp; (try with_reducible rfl))
      change wpAnyH _ _ _ _ _ _ _ (Act.put _ (some 17) _) _
      simp only [Act.put, List.setIfInBounds_toArray, List.set_cons_zero, List.set_cons_succ]
      refine wpAnyH_take (i := 15) (v := ?vq15) rfl (by kernel_rfl) (by kernel_rfl) (by kernel_rfl) (fun _ _ _ h => h) (Or.inl ⟨by first | kernel_rfl | rfl, ?yq15⟩) hHeld ?rq15
      case yq15 => (intro W hSW; (try dsimp only at hSW); go_simp; (try with_reducible rfl))
      change wpAnyH _ _ _ _ _ _ _ (Act.put _ (some 18) _) _
      simp only [Act.put, List.setIfInBounds_toArray, List.set_cons_zero, List.set_cons_succ]
      refine wpAnyH_done (by kernel_rfl) ?_ _
      clear hHeld g0 g1
      cases M <;> cases O <;> cases Q
      · have HN : Hid (∃ M', M' = false ∧ Rel1 (i + 1) M') := ⟨_, rfl, HRL.out⟩
        go_wp2
        obtain ⟨_, rfl, hn⟩ := HN.out
        exact ⟨⟨i + 1, false, by omega, by omega, rfl, by go_num, hn, HBD.out⟩, by simp [intOf]; omega⟩
      · have HN : Hid (∃ M', M' = false ∧ Rel1 (i + 1) M') := ⟨_, rfl, HRL.out⟩
        go_wp2
        obtain ⟨_, rfl, hn⟩ := HN.out
        exact ⟨⟨i + 1, false, by omega, by omega, rfl, by go_num, hn, HBD.out⟩, by simp [intOf]; omega⟩
      · have HN : Hid (∃ M', M' = false ∧ Rel1 (i + 1) M') := ⟨_, rfl, HRL.out⟩
        go_wp2
        obtain ⟨_, rfl, hn⟩ := HN.out
        exact ⟨⟨i + 1, false, by omega, by omega, rfl, by go_num, hn, HBD.out⟩, by simp [intOf]; omega⟩
      · have HN : Hid (∃ M', M' = true ∧ Rel1 (i + 1) M') := ⟨_, rfl, HRL.out⟩
        go_wp2
        obtain ⟨_, rfl, hn⟩ := HN.out
        exact ⟨⟨i + 1, true, by omega, by omega, rfl, by go_num, hn, HBD.out⟩, by simp [intOf]; omega⟩
      · have HN : Hid (∃ M', M' = true ∧ Rel1 (i + 1) M') := ⟨_, rfl, HRL.out⟩
        go_wp2
        obtain ⟨_, rfl, hn⟩ := HN.out
        exact ⟨⟨i + 1, true, by omega, by omega, rfl, by go_num, hn, HBD.out⟩, by simp [intOf]; omega⟩
      · exact absurd (HEQ.out rfl) (by decide)
      · exact absurd (HEQ.out rfl) (by decide)
      · have HN : Hid (∃ M', M' = true ∧ Rel1 (i + 1) M') := ⟨_, rfl, HRL.out⟩
        go_wp2
        obtain ⟨_, rfl, hn⟩ := HN.out
        exact ⟨⟨i + 1, true, by omega, by omega, rfl, by go_num, hn, HBD.out⟩, by simp [intOf]; omega⟩
    · have kk : ¬ (i : Int) < (s1.size : Int) := by omega
      have HLW := HLA.out wr (H5.out wr hbw).1
      clear hrl hbw
      go_wp2_with (go_at_call 9; refine HLW.mono ?_; rintro e w' ⟨rfl, hb⟩)
      go_ret
      exact ⟨rfl, hb⟩

set_option linter.unusedVariables false in
set_option maxRecDepth 100000 in
theorem lifted (os : _root_.Go.Os) (started : os.Started) (H : Type) (enc : TypeId × Value → H) :
    ReturnsInHanded {} Try.checked os 7 .any (Rows.chunkFindsSpec.pre6 enc Try.prog Try.f7 Rows.chunkFindsRow.domain false) (Rows.chunkFindsSpec.post enc Try.prog Try.f7 false true false false) := by
  refine returnsInHanded_of_change_sized (C := Try.checked) own started (by kernel_rfl) Try.func7
    (ChangeSpec.witness6 (enc := enc) (C := Try.checked) false ⟨#[], #[.agg #[.string ByteArray.empty, .string ByteArray.empty], .string ByteArray.empty, .agg #[.int .i64 0, .int .i64 0, .int .i64 0]], []⟩ 8 (by kernel_rfl) (by kernel_rfl) (by kernel_rfl) (by kernel_rfl)) ?_
  intro W base args ds gs before hval0 hW hcnd hsz0 _
  have hval : ∀ (j : Nat) t v, Try.f7.params[j]? = some t → args[j]? = some v → Value.okWide Try.prog W .any base t v := hval0
  have hsz : (DataW.weightsEach Try.prog (Try.f7.params.toList ++ Rows.chunkFindsSpec.plain.varTypes Try.prog) (ds ++ gs)).all (· ≤ reachBytes) = true := hsz0
  have hW' := hW
  obtain ⟨p, q, hA0, hV, rfl, hfz, hnd⟩ := hW
  have hA : DataW.TrodAll enc Try.prog W 0 (fun _ => true) true Try.f7.params.toList args.toList ds p := hA0
  rw [Try.params7] at hA hval hsz
  obtain ⟨v0, vs0, d0, ds0, p0, q0, hargs, rfl, rfl, h0, r0⟩ := trodAll_cons hA
  obtain ⟨v1, vs1, d1, ds1, p1, q1, rfl, rfl, rfl, h1, r1⟩ := trodAll_cons r0
  obtain ⟨v2, vs2, d2, ds2, p2, q2, rfl, rfl, rfl, h2, r2⟩ := trodAll_cons r1
  obtain ⟨rfl, rfl, rfl⟩ := trodAll_nil r2
  obtain rfl : args = #[v0, v1, v2] := by cases args; simp_all
  obtain ⟨rfl, rfl⟩ := trodVars_none hV
  have k0 := h0
  have lt0 : ∀ x ∈ p0, x.block < W.heap.size := by obtain ⟨m, hm⟩ := k0; exact DataW.trod_lt m _ _ _ hm
  obtain ⟨sx0, sy0, rfl, zx0, zy0⟩ := strs2_of (j := 0) (hval 0 45 v0 rfl rfl) h0 hsz rfl rfl
  obtain ⟨s1, rfl, rfl, rfl, w1⟩ := open_string Try.underlying9 (hval 1 9 v1 rfl rfl) h1
  have z1 : s1.size ≤ 140737488351232 := by
    have := sized_string hsz (j := 1) (t := 9) rfl rfl
    simp [reachBytes] at this
    omega
  have k2 := h2
  have lt2 : ∀ x ∈ p2, x.block < W.heap.size := by obtain ⟨m, hm⟩ := k2; exact DataW.trod_lt m _ _ _ hm
  obtain ⟨ma2, mb2, mc2, rfl, za2, zb2, zc2⟩ := ms_arg (hval 2 23 v2 rfl rfl) h2
  clear hA0 hval0 hsz hsz0
  refine (walk sx0 sy0 zx0 zy0 s1 z1 ma2 mb2 mc2 W ).mono fun e W' ⟨he, bel⟩ => ?_
  subst he
  exact ⟨_, rfl, _, _, _, [], _, [], hW', trodAll_mk1 (shut_bool Try.underlying4 _), (trodAll_cons_mk (Below.trod laidOut (by kernel_rfl) (of_decide_eq_true (by kernel_rfl)) k0 bel lt0) (trodAll_cons_mk (shut_string Try.underlying9 w1) (trodAll_cons_mk (Below.trod laidOut (by kernel_rfl) (of_decide_eq_true (by kernel_rfl)) k2 bel lt2) trodAll_mk0))), rfl, bel.frame _, fun h => by cases h⟩

theorem over : Rows.chunkFindsRow.holds Try.pinned (OpenSpec.ofChange Rows.chunkFindsSpec) :=
  OpenClaim.holds_of_wide 7 Try.f7 rfl rfl rfl rfl rfl rfl rfl ⟨rfl, rfl, rfl, rfl, rfl⟩ rfl rfl rfl rfl rfl (by kernel_rfl) Try.func7 (by kernel_rfl)
    (of_decide_eq_true (by kernel_rfl)) (by unfold Func.isWrapper; first | (rw [if_pos (by decide +kernel)]; kernel_rfl) | (rw [if_neg (by decide +kernel)]; exact ⟨rfl, rfl⟩))
    (fun os started H enc _ => lifted os started H enc)

end Go.Proofs.Ytebmmhgmbnbnnaa.chunkFinds
namespace Go.Proofs.Ytebmmhgmbnbnnaa
/-- The given statement. -/
theorem chunkFinds_holds : Rows.ChunkFindsSaid := chunkFinds.over
#print axioms chunkFinds_holds
end Go.Proofs.Ytebmmhgmbnbnnaa
