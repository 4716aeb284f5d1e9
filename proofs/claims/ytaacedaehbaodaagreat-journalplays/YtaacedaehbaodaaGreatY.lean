/- The document's New. -/
import Derived.Test.YtaacedaehbaodaaGreatX
namespace Go.Proofs.YtaacedaehbaodaaGreat
open Go.RowKit Go.Shelf
theorem zeros_row : madeCells #[Value.int .u8 0] 256 = u8r 0 0 256 := u8r_made 0 256
set_option maxRecDepth 100000 in
set_option maxHeartbeats 2000000 in
theorem rnew_bad (x : Int) (w : World) (h : x < 1 ∨ 2048 < x) : Calls Tryz.prog 7 #[.int .i64 x] w fun e w' => e = .returned (.tuple #[.agg #[.slice none 0 0, .slice none 0 0, .int .i64 0, .int .i64 0, .bool false], .bool false]) ∧ Below w.heap.size w w' := by
  by_cases h1 : x < 1
  · clear h
    go_enter Tryz.func7, Tryz.ntmps7
    go_wp2
    refine bodyPost_ret (v := .tuple #[.agg #[.slice none 0 0, .slice none 0 0, .int .i64 0, .int .i64 0, .bool false], .bool false]) ?_ rfl ⟨rfl, ?_⟩
    · simp [results, go_sem]
    · exact ((Below.refl _ w).alloc (Nat.le_refl _) _).alloc (by simp) _
  · have h2 : 2048 < x := by omega
    clear h
    go_enter Tryz.func7, Tryz.ntmps7
    go_wp2
    refine bodyPost_ret (v := .tuple #[.agg #[.slice none 0 0, .slice none 0 0, .int .i64 0, .int .i64 0, .bool false], .bool false]) ?_ rfl ⟨rfl, ?_⟩
    · simp [results, go_sem]
    · exact ((Below.refl _ w).alloc (Nat.le_refl _) _).alloc (by simp) _
/-- Behind i rounds of New. -/
structure NewAt (w : World) (r b : Nat) (Z : ByteArray) (i : Nat) (a : Option Addr) (cap : Nat) (wr : World) : Prop where
  bl : Below w.heap.size w wr
  hr : wr.heap[r]? = some (.cells #[.slice none 0 0, .slice none 0 0, .int .i64 0, .int .i64 0, .bool false] 32 (0, 0))
  hb : wr.heap[b]? = some (.cells #[.slice a i cap, .slice none 0 0, .int .i64 0, .int .i64 0, .bool false] 32 (0, 0))
  ho : wr.ownsRow 0 9 1 (.slice a i cap) i (strsV (List.replicate i Z))
  hf : ∀ x, ob a = some x → b < x
set_option maxRecDepth 100000 in
set_option maxHeartbeats 4000000 in
theorem rnew_any (n : Nat) (w : World) (h1 : 1 ≤ n) (h2 : n ≤ 2048) : Calls Tryz.prog 7 #[.int .i64 (n : Int)] w fun e w' => ∃ lb lc, e = .returned (.tuple #[.agg (rcells lb lc none 0 (Dk.new n nought)), .bool true]) ∧ w.heap.size ≤ lb ∧ RefAt w' lb lc none 0 (Dk.new n nought) ∧ Below w.heap.size w w' := by
  obtain ⟨i0, hi, hz0, hz1, hz2⟩ := info_parts info9
  have k1 : ¬ (n : Int) < 1 := by omega
  have k2 : ¬ (2048 : Int) < (n : Int) := by omega
  obtain ⟨Z, hZ⟩ : ∃ Z, nought = Z := ⟨_, rfl⟩
  obtain ⟨zz, hzz⟩ : ∃ zz : Array Value, #[.slice none 0 0, .slice none 0 0, .int .i64 0, .int .i64 0, .bool false] = zz := ⟨_, rfl⟩
  have HI : Hid (NewAt w w.heap.size (w.heap.size + 1) Z 0 none 0 ((w.alloc (.cells #[.slice none 0 0, .slice none 0 0, .int .i64 0, .int .i64 0, .bool false] 32)).alloc (.cells #[.slice none 0 0, .slice none 0 0, .int .i64 0, .int .i64 0, .bool false] 32))) := by
    rw [hzz]
    refine ⟨((Below.refl _ w).alloc (Nat.le_refl _) _).alloc (by simp) _, ?_, ?_, World.ownsRow_nil _ _ _ _, by intro x hx; cases hx⟩
    · rw [hzz, Below.heap_alloc _ _ _ (by simp)]
      exact heap_alloc_new w _
    · rw [hzz]
      have := heap_alloc_new (w.alloc (.cells zz 32)) (.cells zz 32)
      simpa using this
  clear hzz zz
  have HZ : Hid (nought = Z) := hZ
  rw [hZ]
  clear hZ
  go_enter Tryz.func7, Tryz.ntmps7
  go_wp2
  obtain ⟨r, hr⟩ : ∃ r, w.heap.size = r := ⟨_, rfl⟩
  obtain ⟨b, hb⟩ : ∃ b, r + 1 = b := ⟨_, rfl⟩
  rw [hr, hb] at HI
  obtain ⟨W2, hW2⟩ : ∃ W, (w.alloc (.cells #[.slice none 0 0, .slice none 0 0, .int .i64 0, .int .i64 0, .bool false] 32)).alloc (.cells #[.slice none 0 0, .slice none 0 0, .int .i64 0, .int .i64 0, .bool false] 32) = W := ⟨_, rfl⟩
  have hrb : r < b := by omega
  rw [hW2] at HI
  try simp only [hr, hb, hW2]
  go_loopw [5] (fun v wr => ∃ (i : Nat) (a : Option Addr) (cap : Nat), i ≤ n ∧ v = .int .i64 i ∧ NewAt w r b Z i a cap wr) (fun v _ => n - (intOf v).toNat)
  case atStart => exact ⟨0, none, 0, by omega, rfl, HI.out⟩
  case round =>
    clear HI hW2 hb
    obtain ⟨i, a, cap, hin, rfl, hrel⟩ := hrel
    have HR : Hid (NewAt w r b Z i a cap wr) := hrel
    by_cases hlt : i < n
    · have kk : (i : Int) < (n : Int) := by omega
      have cb0 : wr.drew.cell? ⟨b, 0, none⟩ = some (.slice a i cap) := by show wr.cell? _ = _; rw [cell_of_row _ b _ _ _ _ hrel.hb]; rfl
      have hbl : b < wr.heap.size := lt_of_some hrel.hb
      have hrl : r < wr.heap.size := lt_of_some hrel.hr
      obtain ⟨m, hm⟩ : ∃ m, wr.drew.heap.size = m := ⟨_, rfl⟩
      have hm' : wr.heap.size = m := hm
      obtain ⟨W1, hW1⟩ : ∃ W, wr.drew.alloc (.cells (u8r 0 0 256) 5) = W := ⟨_, rfl⟩
      have hmk : (Instr.makeSlice 76 (.int .i64 256) (.int .i64 256)).run Tryz.prog wr.drew = .ok (.slice (some ⟨m, 0, none⟩) 256 256) W1 := by
        have := run_make (P := Tryz.prog) wr.drew 76 5 _ (.int .u8 0) Tryz.underlying76 rfl rfl .i64 .i64 256 256 (by omega) (by omega) (by show (1 : Int) * _ ≤ _; omega) (by omega)
        rw [this, show (256 : Int).toNat = 256 by omega, show Tryz.prog.types[5].size = 1 from rfl, Nat.mul_one, ← hW1, ← zeros_row, hm]
        rfl
      have hb1 : Below wr.heap.size wr W1 := by rw [← hW1]; exact (Below.refl _ wr).drew.alloc (Nat.le_refl _) _
      have hr1 : W1.heap[m]? = some (.cells (u8r 0 0 256) 5 (0, 0)) := by rw [← hW1, ← hm]; exact heap_alloc_new wr.drew _
      have hcv : (convert 76 9 (.slice (some ⟨m, 0, none⟩) 256 256)).run Tryz.prog W1 = .ok (.string Z) W1 := by
        rw [← HZ.out]
        unfold nought
        refine conv_row W1 m 256 _ (by simp) (fun j hj => ?_)
        rw [cell_of_row _ m _ _ _ _ hr1, Nat.zero_add]
        simp only [u8r, List.getElem?_toArray]
        rw [List.getElem?_append_right (by simp), List.getElem?_replicate, if_pos (by simp; omega), List.getD_eq_getElem?_getD, List.getElem?_replicate, if_pos hj]
        rfl
      have cb1 : W1.cell? ⟨b, 0, none⟩ = some (.slice a i cap) := by rw [hb1.cell hbl]; exact cb0
      obtain ⟨c, hc⟩ : ∃ c, W1.heap.size = c := ⟨_, rfl⟩
      obtain ⟨W2, hW2⟩ : ∃ W, W1.alloc (.cells #[.string Z] 9) = W := ⟨_, rfl⟩
      have hb2 : Below W1.heap.size W1 W2 := by rw [← hW2]; exact (Below.refl _ W1).alloc (Nat.le_refl _) _
      have hr2 : W2.heap[c]? = some (.cells #[.string Z] 9 (0, 0)) := by rw [← hW2, ← hc]; exact heap_alloc_new W1 _
      have hbw2 : Below wr.heap.size wr W2 := hb1.trans (hb2.mono hb1.size)
      have cb2 : W2.cell? ⟨b, 0, none⟩ = some (.slice a i cap) := by rw [hbw2.cell hbl]; exact cb0
      have HO2 : Hid (W2.ownsRow 0 9 1 (.slice a i cap) i (strsV (List.replicate i Z))) := own_keep hrel.ho (fun x hx => hbw2.block x (hrel.ho.lt x hx).2)
      have HNW : Hid (∀ j u, [Value.string Z][j]? = some u → W2.cell? ((⟨c, 0, none⟩ : Addr).add j) = some u) := World.news_of_block hr2
      have hcm : b < c := by have := hb1.size; omega
      have HAP : Hid (∀ g' c' w3, w3.ownsRow 0 9 1 (.slice (some ⟨g', 0, none⟩) (i + 1) c') (i + 1) (strsV (List.replicate i Z) ++ [.string Z]) → W2.grownBy w3 (Value.slice a i cap).ownBlock → ((Value.slice a i cap).ownBlock = some g' ∨ g' = W2.heap.size) → g' < w3.heap.size →
          w3.cell? ⟨b, 0, none⟩ = some (.slice a i cap) ∧ w3.frozen? ⟨b, 0, none⟩ = false ∧ Hid (NewAt w r b Z (i + 1) (some ⟨g', 0, none⟩) c' (w3.setCell ⟨b, 0, none⟩ (.slice (some ⟨g', 0, none⟩) (i + 1) c')))) := by
        intro g' c' w3 hown hgrow hg hlt
        rw [ob_slice] at hgrow hg
        have hne : ∀ x, x ≤ b → w3.heap[x]? = wr.heap[x]? := fun x hx => (hgrow.block x (by have := hbw2.size; omega) (fun e => by have := HR.out.hf x e.symm; omega)).trans (hbw2.block x (by omega))
        have hb3 : w3.heap[b]? = _ := (hne b (Nat.le_refl _)).trans HR.out.hb
        have hgb : b < g' := by
          rcases hg with hg | hg
          · exact HR.out.hf g' hg
          · have := hbw2.size; omega
        refine ⟨by rw [cell_of_row _ b _ _ _ _ hb3]; rfl, frozen_of_row _ b 0 _ _ hb3, ?_⟩
        have hwb : w.heap.size ≤ b := by omega
        have hw2 : Below w.heap.size w W2 := HR.out.bl.trans (hbw2.mono HR.out.bl.size)
        refine ⟨(hw2.grown hgrow hw2.size (fun k hk => by have := HR.out.hf k hk; omega)).setCell hwb _, ?_, ?_, ?_, ?_⟩
        · rw [heap_setCell_other _ _ _ _ (by show r ≠ b; omega), hne r (by omega)]; exact HR.out.hr
        · rw [heap_setCell_same w3 b 0 _ _ _ hb3]; rfl
        · refine own_keep (W := w3) ?_ (fun x hx => ?_)
          · rw [List.replicate_succ']
            simpa [strsV] using hown
          · rw [ob_slice] at hx
            cases hx
            exact heap_setCell_other _ _ _ _ (by show g' ≠ b; omega)
        · intro x hx
          cases hx
          exact hgb
      clear hrel hb1 hr1 hb2 hr2 hbw2
      go_wp2
      refine wp_region_held_drew (S := fun _ => True) (by kernel_rfl) (trivial) (fun hHeld => ?_)
      refine wpAnyH_take (i := 0) (v := ?vp0) rfl (by kernel_rfl) (by kernel_rfl) (by kernel_rfl) (fun _ _ _ h => h) (Or.inl ⟨by first | kernel_rfl | rfl, ?yp0⟩) hHeld ?rp0
      case yp0 => (intro W hSW; (try dsimp only at hSW); go_simp; (try with_reducible rfl))
      change wpAnyH _ _ _ _ _ _ _ (Act.put _ (some 19) _) _
      simp only [Act.put, List.setIfInBounds_toArray, List.set_cons_zero, List.set_cons_succ]
      refine wpAnyH_ready (rs := [1, 2]) (by kernel_rfl) (by simp) ?_
      refine AllReadyH.cons rfl (fun K hK => ?_) (AllReadyH.cons rfl (fun K hK => ?_) AllReadyH.nil)
      · go_simp
        refine hK.out _ _ (trivial) (fun hHeld => ?_)
        clear hK K
        try simp only [Act.put, List.setIfInBounds_toArray, List.set_cons_zero, List.set_cons_succ]
        refine wpAnyH_ready (rs := [2]) (by kernel_rfl) (by simp) ?_
        refine AllReadyH.cons rfl (fun K hK => ?_) AllReadyH.nil
        go_simp
        refine hK.out _ _ (trivial) (fun hHeld => ?_)
        clear hK K
        try simp only [Act.put, List.setIfInBounds_toArray, List.set_cons_zero, List.set_cons_succ]
        refine wpAnyH_ready (rs := [3]) (by kernel_rfl) (by simp) ?_
        refine AllReadyH.cons rfl (fun K hK => ?_) AllReadyH.nil
        go_simp
        refine hK.out _ _ (trivial) (fun hHeld => ?_)
        clear hK K
        try simp only [Act.put, List.setIfInBounds_toArray, List.set_cons_zero, List.set_cons_succ]
        refine wpAnyH_ready (rs := [4]) (by kernel_rfl) (by simp) ?_
        refine AllReadyH.cons rfl (fun K hK => ?_) AllReadyH.nil
        go_simp
        refine hK.out _ _ (trivial) (fun hHeld => ?_)
        clear hK K
        try simp only [Act.put, List.setIfInBounds_toArray, List.set_cons_zero, List.set_cons_succ]
        refine wpAnyH_ready (rs := [5]) (by kernel_rfl) (by simp) ?_
        refine AllReadyH.cons rfl (fun K hK => ?_) AllReadyH.nil
        rw [if_pos (by rfl)]
        refine wp_append_lies W2 _ _ 29 rfl 0 9 i0 (.string ByteArray.empty) 1 16 Tryz.underlying29 hi hz0 hz1 hz2 rfl (by decide) _ i (strsV (List.replicate i Z)) rfl HO2.out ⟨c, 0, none⟩ 1 1 [.string Z] rfl rfl HNW.out (by simp [Value.oneCell']) (by omega) (by unfold maxLen; omega) (by omega) (Nat.zero_le _) _ rfl ?_
        intro g' c' w3 hown hgrow hg hlt; obtain ⟨cb3, fb3, HEND⟩ := HAP.out g' c' w3 hown hgrow hg hlt; clear hown hgrow hg hlt
        refine hK.out _ _ (trivial) (fun hHeld => ?_)
        clear hK K
        change wpAnyH _ _ _ _ _ _ _ (Act.put _ (some 24) _) _
        simp only [Act.put, List.setIfInBounds_toArray, List.set_cons_zero, List.set_cons_succ]
        refine wpAnyH_take (i := 6) (v := ?vc16) rfl (by kernel_rfl) (by kernel_rfl) (by kernel_rfl) (fun _ _ _ h => h) (Or.inl ⟨by first | kernel_rfl | rfl, ?yc16⟩) hHeld ?rc16
        case yc16 => (intro W hSW; (try dsimp only at hSW); go_simp; (try with_reducible rfl))
        change wpAnyH _ _ _ _ _ _ _ (Act.put _ (some 25) _) _
        simp only [Act.put, List.setIfInBounds_toArray, List.set_cons_zero, List.set_cons_succ]
        refine wpAnyH_ready (rs := [7]) (by kernel_rfl) (by simp) ?_
        refine AllReadyH.cons rfl (fun K hK => ?_) AllReadyH.nil
        go_simp
        refine hK.out _ _ (trivial) (fun hHeld => ?_)
        clear hK K
        refine wpAnyH_done (by kernel_rfl) ?_ _
        clear hHeld cb3 fb3
        go_wp2
        exact ⟨⟨i + 1, _, _, by omega, by go_num, HEND.out⟩, by simp [intOf]; omega⟩
      · go_simp
        refine hK.out _ _ (trivial) (fun hHeld => ?_)
        clear hK K
        try simp only [Act.put, List.setIfInBounds_toArray, List.set_cons_zero, List.set_cons_succ]
        refine wpAnyH_ready (rs := [1, 3]) (by kernel_rfl) (by simp) ?_
        refine AllReadyH.cons rfl (fun K hK => ?_) (AllReadyH.cons rfl (fun K hK => ?_) AllReadyH.nil)
        · go_simp
          refine hK.out _ _ (trivial) (fun hHeld => ?_)
          clear hK K
          try simp only [Act.put, List.setIfInBounds_toArray, List.set_cons_zero, List.set_cons_succ]
          refine wpAnyH_ready (rs := [3]) (by kernel_rfl) (by simp) ?_
          refine AllReadyH.cons rfl (fun K hK => ?_) AllReadyH.nil
          go_simp
          refine hK.out _ _ (trivial) (fun hHeld => ?_)
          clear hK K
          try simp only [Act.put, List.setIfInBounds_toArray, List.set_cons_zero, List.set_cons_succ]
          refine wpAnyH_ready (rs := [4]) (by kernel_rfl) (by simp) ?_
          refine AllReadyH.cons rfl (fun K hK => ?_) AllReadyH.nil
          go_simp
          refine hK.out _ _ (trivial) (fun hHeld => ?_)
          clear hK K
          try simp only [Act.put, List.setIfInBounds_toArray, List.set_cons_zero, List.set_cons_succ]
          refine wpAnyH_ready (rs := [5]) (by kernel_rfl) (by simp) ?_
          refine AllReadyH.cons rfl (fun K hK => ?_) AllReadyH.nil
          rw [if_pos (by rfl)]
          refine wp_append_lies W2 _ _ 29 rfl 0 9 i0 (.string ByteArray.empty) 1 16 Tryz.underlying29 hi hz0 hz1 hz2 rfl (by decide) _ i (strsV (List.replicate i Z)) rfl HO2.out ⟨c, 0, none⟩ 1 1 [.string Z] rfl rfl HNW.out (by simp [Value.oneCell']) (by omega) (by unfold maxLen; omega) (by omega) (Nat.zero_le _) _ rfl ?_
          intro g' c' w3 hown hgrow hg hlt; obtain ⟨cb3, fb3, HEND⟩ := HAP.out g' c' w3 hown hgrow hg hlt; clear hown hgrow hg hlt
          refine hK.out _ _ (trivial) (fun hHeld => ?_)
          clear hK K
          change wpAnyH _ _ _ _ _ _ _ (Act.put _ (some 24) _) _
          simp only [Act.put, List.setIfInBounds_toArray, List.set_cons_zero, List.set_cons_succ]
          refine wpAnyH_take (i := 6) (v := ?vc26) rfl (by kernel_rfl) (by kernel_rfl) (by kernel_rfl) (fun _ _ _ h => h) (Or.inl ⟨by first | kernel_rfl | rfl, ?yc26⟩) hHeld ?rc26
          case yc26 => (intro W hSW; (try dsimp only at hSW); go_simp; (try with_reducible rfl))
          change wpAnyH _ _ _ _ _ _ _ (Act.put _ (some 25) _) _
          simp only [Act.put, List.setIfInBounds_toArray, List.set_cons_zero, List.set_cons_succ]
          refine wpAnyH_ready (rs := [7]) (by kernel_rfl) (by simp) ?_
          refine AllReadyH.cons rfl (fun K hK => ?_) AllReadyH.nil
          go_simp
          refine hK.out _ _ (trivial) (fun hHeld => ?_)
          clear hK K
          refine wpAnyH_done (by kernel_rfl) ?_ _
          clear hHeld cb3 fb3
          go_wp2
          exact ⟨⟨i + 1, _, _, by omega, by go_num, HEND.out⟩, by simp [intOf]; omega⟩
        · go_simp
          refine hK.out _ _ (trivial) (fun hHeld => ?_)
          clear hK K
          try simp only [Act.put, List.setIfInBounds_toArray, List.set_cons_zero, List.set_cons_succ]
          refine wpAnyH_ready (rs := [1, 4]) (by kernel_rfl) (by simp) ?_
          refine AllReadyH.cons rfl (fun K hK => ?_) (AllReadyH.cons rfl (fun K hK => ?_) AllReadyH.nil)
          · go_simp
            refine hK.out _ _ (trivial) (fun hHeld => ?_)
            clear hK K
            try simp only [Act.put, List.setIfInBounds_toArray, List.set_cons_zero, List.set_cons_succ]
            refine wpAnyH_ready (rs := [4]) (by kernel_rfl) (by simp) ?_
            refine AllReadyH.cons rfl (fun K hK => ?_) AllReadyH.nil
            go_simp
            refine hK.out _ _ (trivial) (fun hHeld => ?_)
            clear hK K
            try simp only [Act.put, List.setIfInBounds_toArray, List.set_cons_zero, List.set_cons_succ]
            refine wpAnyH_ready (rs := [5]) (by kernel_rfl) (by simp) ?_
            refine AllReadyH.cons rfl (fun K hK => ?_) AllReadyH.nil
            rw [if_pos (by rfl)]
            refine wp_append_lies W2 _ _ 29 rfl 0 9 i0 (.string ByteArray.empty) 1 16 Tryz.underlying29 hi hz0 hz1 hz2 rfl (by decide) _ i (strsV (List.replicate i Z)) rfl HO2.out ⟨c, 0, none⟩ 1 1 [.string Z] rfl rfl HNW.out (by simp [Value.oneCell']) (by omega) (by unfold maxLen; omega) (by omega) (Nat.zero_le _) _ rfl ?_
            intro g' c' w3 hown hgrow hg hlt; obtain ⟨cb3, fb3, HEND⟩ := HAP.out g' c' w3 hown hgrow hg hlt; clear hown hgrow hg hlt
            refine hK.out _ _ (trivial) (fun hHeld => ?_)
            clear hK K
            change wpAnyH _ _ _ _ _ _ _ (Act.put _ (some 24) _) _
            simp only [Act.put, List.setIfInBounds_toArray, List.set_cons_zero, List.set_cons_succ]
            refine wpAnyH_take (i := 6) (v := ?vc36) rfl (by kernel_rfl) (by kernel_rfl) (by kernel_rfl) (fun _ _ _ h => h) (Or.inl ⟨by first | kernel_rfl | rfl, ?yc36⟩) hHeld ?rc36
            case yc36 => (intro W hSW; (try dsimp only at hSW); go_simp; (try with_reducible rfl))
            change wpAnyH _ _ _ _ _ _ _ (Act.put _ (some 25) _) _
            simp only [Act.put, List.setIfInBounds_toArray, List.set_cons_zero, List.set_cons_succ]
            refine wpAnyH_ready (rs := [7]) (by kernel_rfl) (by simp) ?_
            refine AllReadyH.cons rfl (fun K hK => ?_) AllReadyH.nil
            go_simp
            refine hK.out _ _ (trivial) (fun hHeld => ?_)
            clear hK K
            refine wpAnyH_done (by kernel_rfl) ?_ _
            clear hHeld cb3 fb3
            go_wp2
            exact ⟨⟨i + 1, _, _, by omega, by go_num, HEND.out⟩, by simp [intOf]; omega⟩
          · go_simp
            refine hK.out _ _ (trivial) (fun hHeld => ?_)
            clear hK K
            try simp only [Act.put, List.setIfInBounds_toArray, List.set_cons_zero, List.set_cons_succ]
            refine wpAnyH_ready (rs := [1]) (by kernel_rfl) (by simp) ?_
            refine AllReadyH.cons rfl (fun K hK => ?_) AllReadyH.nil
            go_simp
            refine hK.out _ _ (trivial) (fun hHeld => ?_)
            clear hK K
            try simp only [Act.put, List.setIfInBounds_toArray, List.set_cons_zero, List.set_cons_succ]
            refine wpAnyH_ready (rs := [5]) (by kernel_rfl) (by simp) ?_
            refine AllReadyH.cons rfl (fun K hK => ?_) AllReadyH.nil
            rw [if_pos (by rfl)]
            refine wp_append_lies W2 _ _ 29 rfl 0 9 i0 (.string ByteArray.empty) 1 16 Tryz.underlying29 hi hz0 hz1 hz2 rfl (by decide) _ i (strsV (List.replicate i Z)) rfl HO2.out ⟨c, 0, none⟩ 1 1 [.string Z] rfl rfl HNW.out (by simp [Value.oneCell']) (by omega) (by unfold maxLen; omega) (by omega) (Nat.zero_le _) _ rfl ?_
            intro g' c' w3 hown hgrow hg hlt; obtain ⟨cb3, fb3, HEND⟩ := HAP.out g' c' w3 hown hgrow hg hlt; clear hown hgrow hg hlt
            refine hK.out _ _ (trivial) (fun hHeld => ?_)
            clear hK K
            change wpAnyH _ _ _ _ _ _ _ (Act.put _ (some 24) _) _
            simp only [Act.put, List.setIfInBounds_toArray, List.set_cons_zero, List.set_cons_succ]
            refine wpAnyH_take (i := 6) (v := ?vc46) rfl (by kernel_rfl) (by kernel_rfl) (by kernel_rfl) (fun _ _ _ h => h) (Or.inl ⟨by first | kernel_rfl | rfl, ?yc46⟩) hHeld ?rc46
            case yc46 => (intro W hSW; (try dsimp only at hSW); go_simp; (try with_reducible rfl))
            change wpAnyH _ _ _ _ _ _ _ (Act.put _ (some 25) _) _
            simp only [Act.put, List.setIfInBounds_toArray, List.set_cons_zero, List.set_cons_succ]
            refine wpAnyH_ready (rs := [7]) (by kernel_rfl) (by simp) ?_
            refine AllReadyH.cons rfl (fun K hK => ?_) AllReadyH.nil
            go_simp
            refine hK.out _ _ (trivial) (fun hHeld => ?_)
            clear hK K
            refine wpAnyH_done (by kernel_rfl) ?_ _
            clear hHeld cb3 fb3
            go_wp2
            exact ⟨⟨i + 1, _, _, by omega, by go_num, HEND.out⟩, by simp [intOf]; omega⟩
    · obtain rfl : i = n := by omega
      have kk : ¬ (i : Int) < (i : Int) := by omega
      obtain ⟨lb, rfl⟩ : ∃ lb, a = some ⟨lb, 0, none⟩ := by
        rcases hrel.ho.2 with ⟨_, h⟩ | ⟨g', cap', cur, e, _⟩
        · omega
        · cases e; exact ⟨g', rfl⟩
      have e0 : wr.cell? ⟨b, 0, none⟩ = some (.slice (some ⟨lb, 0, none⟩) i cap) := by rw [cell_of_row _ b _ _ _ _ hrel.hb]; rfl
      have e1 : wr.cell? ⟨b, 1, none⟩ = some (.slice none 0 0) := by rw [cell_of_row _ b _ _ _ _ hrel.hb]; rfl
      have e2 : wr.cell? ⟨b, 2, none⟩ = some (.int .i64 0) := by rw [cell_of_row _ b _ _ _ _ hrel.hb]; rfl
      have e3 : wr.cell? ⟨b, 3, none⟩ = some (.int .i64 0) := by rw [cell_of_row _ b _ _ _ _ hrel.hb]; rfl
      have e4 : wr.cell? ⟨b, 4, none⟩ = some (.bool false) := by rw [cell_of_row _ b _ _ _ _ hrel.hb]; rfl
      have z0 : wr.cell? ⟨r, 0, none⟩ = some (.slice none 0 0) := by rw [cell_of_row _ r _ _ _ _ hrel.hr]; rfl
      have z1 : wr.cell? ⟨r, 1, none⟩ = some (.slice none 0 0) := by rw [cell_of_row _ r _ _ _ _ hrel.hr]; rfl
      have z2 : wr.cell? ⟨r, 2, none⟩ = some (.int .i64 0) := by rw [cell_of_row _ r _ _ _ _ hrel.hr]; rfl
      have z3 : wr.cell? ⟨r, 3, none⟩ = some (.int .i64 0) := by rw [cell_of_row _ r _ _ _ _ hrel.hr]; rfl
      have z4 : wr.cell? ⟨r, 4, none⟩ = some (.bool false) := by rw [cell_of_row _ r _ _ _ _ hrel.hr]; rfl
      have fr : ∀ k, wr.frozen? ⟨r, k, none⟩ = false := fun k => frozen_of_row wr r k _ _ hrel.hr
      have hlb := hrel.hf lb rfl
      clear hrel
      go_wp2
      refine bodyPost_ret (v := .tuple #[.agg #[.slice (some ⟨lb, 0, none⟩) i cap, .slice none 0 0, .int .i64 0, .int .i64 0, .bool false], .bool true]) ?_ rfl ⟨lb, cap, ?_, by omega, ⟨Dk.Ok.new i Z h1 h2, ?_, World.ownsRow_nil _ _ _ _, fun _ => ⟨rfl, rfl⟩⟩, ?_⟩
      · simp [results, go_sem, z0, z1, z2, z3, z4]
      · simp [rcells, Dk.new]
      · have e : (Dk.new i Z).kept.length = i := by simp [Dk.new]
        rw [e]
        refine own_keep HR.out.ho (fun x hx => ?_)
        rw [ob_slice] at hx
        cases hx
        have n2 : lb ≠ r := by omega
        rw [heap_setCell_other _ _ _ _ n2, heap_setCell_other _ _ _ _ n2, heap_setCell_other _ _ _ _ n2, heap_setCell_other _ _ _ _ n2, heap_setCell_other _ _ _ _ n2]
      · have hwr : w.heap.size ≤ r := by omega
        have hbb := HR.out.bl
        first
          | exact ((((hbb.setCell (p := ⟨r, _, none⟩) hwr _).setCell (p := ⟨r, _, none⟩) hwr _).setCell (p := ⟨r, _, none⟩) hwr _).setCell (p := ⟨r, _, none⟩) hwr _).setCell (p := ⟨r, _, none⟩) hwr _
          | (rw [hr] at hbb; exact ((((hbb.setCell (p := ⟨r, _, none⟩) (Nat.le_refl _) _).setCell (p := ⟨r, _, none⟩) (Nat.le_refl _) _).setCell (p := ⟨r, _, none⟩) (Nat.le_refl _) _).setCell (p := ⟨r, _, none⟩) (Nat.le_refl _) _).setCell (p := ⟨r, _, none⟩) (Nat.le_refl _) _)
end Go.Proofs.YtaacedaehbaodaaGreat
