/- Walk over the document's quarter round on four of sixteen words. -/
import Derived.Test.YtbflkkffpcaakaaDoorWD
namespace Go.Proofs.YtbflkkffpcaakaaDoor
open Go.RowKit
set_option maxRecDepth 100000 in
set_option maxHeartbeats 2000000 in
theorem at_any (s : List Nat) (i j k l : Nat) (w : World) (hs : s.length = 16) (hw : Wd s) (hi : i < 16) (hj : j < 16) (hk : k < 16) (hl : l < 16) :
    Calls Tryd.prog 29 #[.agg (u32v s), .int .i64 (i : Int), .int .i64 (j : Int), .int .i64 (k : Int), .int .i64 (l : Int)] w fun e w' => e = .returned (.agg (u32v (atL s i j k l))) ∧ Below w.heap.size w w' := by
  obtain ⟨x0, hx0⟩ : ∃ x, s.getD i 0 = x := ⟨_, rfl⟩
  obtain ⟨x1, hx1⟩ : ∃ x, s.getD j 0 = x := ⟨_, rfl⟩
  obtain ⟨x2, hx2⟩ : ∃ x, s.getD k 0 = x := ⟨_, rfl⟩
  obtain ⟨x3, hx3⟩ : ∃ x, s.getD l 0 = x := ⟨_, rfl⟩
  have l1 : x1 < 4294967296 := hx1 ▸ hw.getD j
  have l3 : x3 < 4294967296 := hx3 ▸ hw.getD l
  obtain ⟨y0, y1, y2, y3, hy⟩ : ∃ y0 y1 y2 y3, quarterL x0 x1 x2 x3 = [y0, y1, y2, y3] := ⟨_, _, _, _, rfl⟩
  have HQ : Hid (∀ W, Calls Tryd.prog 10 #[.agg #[.int .u32 (x0 : Int), .int .u32 (x1 : Int), .int .u32 (x2 : Int), .int .u32 (x3 : Int)]] W fun e w' => e = .returned (.agg #[.int .u32 (y0 : Int), .int .u32 (y1 : Int), .int .u32 (y2 : Int), .int .u32 (y3 : Int)]) ∧ Below W.heap.size W w') := fun W => by
    have h := rquarter_any x0 x1 x2 x3 W l1 l3
    rw [hy] at h
    exact h
  obtain ⟨F, hF⟩ : ∃ F, atL s i j k l = F := ⟨_, rfl⟩
  have HF : Hid ((((s.set i y0).set j y1).set k y2).set l y3 = F ∧ F.length = 16) := by
    refine ⟨?_, by rw [← hF, atL_len, hs]⟩
    rw [← hF]
    unfold atL
    simp only [hx0, hx1, hx2, hx3, hy]
    rfl
  obtain ⟨B, hB⟩ : ∃ B, w.heap.size = B := ⟨_, rfl⟩
  have hROW : ((w.alloc (.cells (u32v s) 50)).alloc (.cells (u32v zeros16) 50)).heap[B]? = some (.cells (u32v s) 50 (0, 0)) := by
    rw [← hB, Go.heap_alloc_old _ _ (by simp)]; exact heap_alloc_new _ _
  have hRZ : ((w.alloc (.cells (u32v s) 50)).alloc (.cells (u32v zeros16) 50)).heap[B + 1]? = some (.cells (u32v zeros16) 50 (0, 0)) := by
    have := heap_alloc_new (w.alloc (.cells (u32v s) 50)) (.cells (u32v zeros16) 50)
    rw [← hB]
    simpa using this
  obtain ⟨W1, hW1⟩ : ∃ W, (w.alloc (.cells (u32v s) 50)).alloc (.cells #[Value.int IntKind.u32 0, Value.int IntKind.u32 0, Value.int IntKind.u32 0, Value.int IntKind.u32 0, Value.int IntKind.u32 0, Value.int IntKind.u32 0, Value.int IntKind.u32 0, Value.int IntKind.u32 0, Value.int IntKind.u32 0, Value.int IntKind.u32 0, Value.int IntKind.u32 0, Value.int IntKind.u32 0, Value.int IntKind.u32 0, Value.int IntKind.u32 0, Value.int IntKind.u32 0, Value.int IntKind.u32 0] 50) = W := ⟨_, rfl⟩
  replace hROW : W1.heap[B]? = some (.cells (u32v s) 50 (0, 0)) := by rw [← hW1]; exact hROW
  replace hRZ : W1.heap[B + 1]? = some (.cells (u32v zeros16) 50 (0, 0)) := by rw [← hW1]; exact hRZ
  have hbl : Below B w W1 := by rw [← hW1, ← hB]; exact ((Below.refl _ w).alloc (Nat.le_refl _) _).alloc (by simp) _
  have hsz : W1.heap.size = B + 2 := by rw [← hW1, ← hB]; simp
  have HW : Hid (W1.heap[B]? = some (.cells (u32v s) 50 (0, 0)) ∧ W1.heap[B + 1]? = some (.cells (u32v zeros16) 50 (0, 0)) ∧ Below B w W1 ∧ W1.heap.size = B + 2) := ⟨hROW, hRZ, hbl, hsz⟩
  have HSC : Hid (∀ V, Below W1.heap.size W1 V → V.cell? ⟨B, i, none⟩ = some (.int .u32 (x0 : Int)) ∧ V.cell? ⟨B, j, none⟩ = some (.int .u32 (x1 : Int)) ∧ V.cell? ⟨B, k, none⟩ = some (.int .u32 (x2 : Int)) ∧ V.cell? ⟨B, l, none⟩ = some (.int .u32 (x3 : Int))) := fun V hV => by
    have hr : V.heap[B]? = some (.cells (u32v s) 50 (0, 0)) := (hV.block B (by omega)).trans hROW
    refine ⟨?_, ?_, ?_, ?_⟩
    · rw [cell_of_row _ _ _ _ _ _ hr, u32v_get _ _ (by omega), hx0]
    · rw [cell_of_row _ _ _ _ _ _ hr, u32v_get _ _ (by omega), hx1]
    · rw [cell_of_row _ _ _ _ _ _ hr, u32v_get _ _ (by omega), hx2]
    · rw [cell_of_row _ _ _ _ _ _ hr, u32v_get _ _ (by omega), hx3]
  have HTO : Hid (∀ V G, Below W1.heap.size W1 V → G ≠ B → V.heap[G]? = some (.cells (u32v [y0, y1, y2, y3]) 23 (0, 0)) → AtW w B B G (B + 1) s [y0, y1, y2, y3] zeros16 V) := fun V G hV hg hr =>
    ⟨(hV.block B (by omega)).trans hROW, hr, (hV.block (B + 1) (by omega)).trans hRZ, hg, by omega, Nat.le_refl _, hbl.trans (hV.mono (by omega))⟩
  have HS : Hid (s.length = 16) := hs
  have HB : Hid (w.heap.size = B) := hB
  have ki : (i : Int) < 16 := by omega
  have kj : (j : Int) < 16 := by omega
  have kk : (k : Int) < 16 := by omega
  have kl : (l : Int) < 16 := by omega
  have hsz' := hsz
  clear hx0 hx1 hx2 hx3 hy hROW hRZ hbl hs hw
  rw [hF]
  clear hF
  go_enter Tryd.func29, Tryd.ntmps29
  go_wp2_with fail
  refine wp_region_held_drew (S := fun W => W.cell? ⟨B, i, none⟩ = some (.int .u32 (x0 : Int)) ∧ W.cell? ⟨B, j, none⟩ = some (.int .u32 (x1 : Int)) ∧ W.cell? ⟨B, k, none⟩ = some (.int .u32 (x2 : Int)) ∧ W.cell? ⟨B, l, none⟩ = some (.int .u32 (x3 : Int))) (by kernel_rfl) (HSC.out _ (Below.refl _ _).drew) (fun hHeld => ?_)
  refine wpAnyH_take (i := 0) (v := ?va_0) rfl (by kernel_rfl) (by kernel_rfl) (by kernel_rfl) (fun _ _ _ h => h) (Or.inl ⟨by first | kernel_rfl | rfl, ?ya_0⟩) hHeld ?ra_0
  case ya_0 => (intro W hSW; (try dsimp only at hSW); go_simp; (try with_reducible rfl))
  change wpAnyH _ _ _ _ _ _ _ (Act.put _ (some 12) _) _
  simp only [Act.put, List.setIfInBounds_toArray, List.set_cons_zero, List.set_cons_succ]
  refine wpAnyH_take (i := 1) (v := ?va_1) rfl (by kernel_rfl) (by kernel_rfl) (by kernel_rfl) (fun _ _ _ h => h) (Or.inl ⟨by first | kernel_rfl | rfl, ?ya_1⟩) hHeld ?ra_1
  case ya_1 => (intro W hSW; (try dsimp only at hSW); go_simp; (try with_reducible rfl))
  change wpAnyH _ _ _ _ _ _ _ (Act.put _ (some 13) _) _
  simp only [Act.put, List.setIfInBounds_toArray, List.set_cons_zero, List.set_cons_succ]
  refine wpAnyH_take (i := 2) (v := ?va_2) rfl (by kernel_rfl) (by kernel_rfl) (by kernel_rfl) (fun _ _ _ h => h) (Or.inl ⟨by first | kernel_rfl | rfl, ?ya_2⟩) hHeld ?ra_2
  case ya_2 => (intro W hSW; (try dsimp only at hSW); go_simp; (try with_reducible rfl))
  change wpAnyH _ _ _ _ _ _ _ (Act.put _ (some 14) _) _
  simp only [Act.put, List.setIfInBounds_toArray, List.set_cons_zero, List.set_cons_succ]
  refine wpAnyH_take (i := 3) (v := ?va_3) rfl (by kernel_rfl) (by kernel_rfl) (by kernel_rfl) (fun _ _ _ h => h) (Or.inl ⟨by first | kernel_rfl | rfl, ?ya_3⟩) hHeld ?ra_3
  case ya_3 => (intro W hSW; (try dsimp only at hSW); go_simp; (try with_reducible rfl))
  change wpAnyH _ _ _ _ _ _ _ (Act.put _ (some 15) _) _
  simp only [Act.put, List.setIfInBounds_toArray, List.set_cons_zero, List.set_cons_succ]
  refine wpAnyH_take (i := 4) (v := ?va_4) rfl (by kernel_rfl) (by kernel_rfl) (by kernel_rfl) (fun _ _ _ h => h) (Or.inl ⟨by first | kernel_rfl | rfl, ?ya_4⟩) hHeld ?ra_4
  case ya_4 => (intro W hSW; (try dsimp only at hSW); go_simp; (try with_reducible rfl))
  change wpAnyH _ _ _ _ _ _ _ (Act.put _ (some 16) _) _
  simp only [Act.put, List.setIfInBounds_toArray, List.set_cons_zero, List.set_cons_succ]
  refine wpAnyH_take (i := 5) (v := ?va_5) rfl (by kernel_rfl) (by kernel_rfl) (by kernel_rfl) (fun _ _ _ h => h) (Or.inl ⟨by first | kernel_rfl | rfl, ?ya_5⟩) hHeld ?ra_5
  case ya_5 => (intro W hSW; (try dsimp only at hSW); go_simp; (try with_reducible rfl))
  change wpAnyH _ _ _ _ _ _ _ (Act.put _ (some 17) _) _
  simp only [Act.put, List.setIfInBounds_toArray, List.set_cons_zero, List.set_cons_succ]
  refine wpAnyH_take (i := 6) (v := ?va_6) rfl (by kernel_rfl) (by kernel_rfl) (by kernel_rfl) (fun _ _ _ h => h) (Or.inl ⟨by first | kernel_rfl | rfl, ?ya_6⟩) hHeld ?ra_6
  case ya_6 => (intro W hSW; (try dsimp only at hSW); go_simp; (try with_reducible rfl))
  change wpAnyH _ _ _ _ _ _ _ (Act.put _ (some 18) _) _
  simp only [Act.put, List.setIfInBounds_toArray, List.set_cons_zero, List.set_cons_succ]
  refine wpAnyH_take (i := 7) (v := ?va_7) rfl (by kernel_rfl) (by kernel_rfl) (by kernel_rfl) (fun _ _ _ h => h) (Or.inl ⟨by first | kernel_rfl | rfl, ?ya_7⟩) hHeld ?ra_7
  case ya_7 => (intro W hSW; (try dsimp only at hSW); go_simp; (try with_reducible rfl))
  change wpAnyH _ _ _ _ _ _ _ (Act.put _ (some 19) _) _
  simp only [Act.put, List.setIfInBounds_toArray, List.set_cons_zero, List.set_cons_succ]
  refine wpAnyH_take (i := 8) (v := ?va_8) rfl (by kernel_rfl) (by kernel_rfl) (by kernel_rfl) (fun _ _ _ h => h) (Or.inl ⟨by first | kernel_rfl | rfl, ?ya_8⟩) hHeld ?ra_8
  case ya_8 => (intro W hSW; (try dsimp only at hSW); go_simp; (try with_reducible rfl))
  change wpAnyH _ _ _ _ _ _ _ (Act.put _ (some 20) _) _
  simp only [Act.put, List.setIfInBounds_toArray, List.set_cons_zero, List.set_cons_succ]
  refine wpAnyH_take (i := 9) (v := ?va_9) rfl (by kernel_rfl) (by kernel_rfl) (by kernel_rfl) (fun _ _ _ h => h) (Or.inl ⟨by first | kernel_rfl | rfl, ?ya_9⟩) hHeld ?ra_9
  case ya_9 => (intro W hSW; (try dsimp only at hSW); go_simp; (try with_reducible rfl))
  change wpAnyH _ _ _ _ _ _ _ (Act.put _ (some 21) _) _
  simp only [Act.put, List.setIfInBounds_toArray, List.set_cons_zero, List.set_cons_succ]
  refine wpAnyH_take (i := 10) (v := ?va_10) rfl (by kernel_rfl) (by kernel_rfl) (by kernel_rfl) (fun _ _ _ h => h) (Or.inl ⟨by first | kernel_rfl | rfl, ?ya_10⟩) hHeld ?ra_10
  case ya_10 => (intro W hSW; (try dsimp only at hSW); go_simp; (try with_reducible rfl))
  change wpAnyH _ _ _ _ _ _ _ (Act.put _ (some 22) _) _
  simp only [Act.put, List.setIfInBounds_toArray, List.set_cons_zero, List.set_cons_succ]
  refine wpAnyH_take (i := 11) (v := ?va_11) rfl (by kernel_rfl) (by kernel_rfl) (by kernel_rfl) (fun _ _ _ h => h) (Or.inl ⟨by first | kernel_rfl | rfl, ?ya_11⟩) hHeld ?ra_11
  case ya_11 => (intro W hSW; (try dsimp only at hSW); go_simp; (try with_reducible rfl))
  change wpAnyH _ _ _ _ _ _ _ (Act.put _ (some 23) _) _
  simp only [Act.put, List.setIfInBounds_toArray, List.set_cons_zero, List.set_cons_succ]
  refine wpAnyH_take (i := 12) (v := ?va_12) rfl (by kernel_rfl) (by kernel_rfl) (by kernel_rfl) (fun _ _ _ h => h) (Or.inl ⟨by first | kernel_rfl | rfl, ?ya_12⟩) hHeld ?ra_12
  case ya_12 => (intro W hSW; (try dsimp only at hSW); go_simp; (try with_reducible rfl))
  change wpAnyH _ _ _ _ _ _ _ (Act.put _ (some 24) _) _
  simp only [Act.put, List.setIfInBounds_toArray, List.set_cons_zero, List.set_cons_succ]
  refine wpAnyH_ready (rs := [13, 14]) (by kernel_rfl) (by simp) ?_
  refine AllReadyH.cons rfl (fun K hK => ?_) (AllReadyH.cons rfl (fun K hK => ?_) AllReadyH.nil)
  · go_simp
    refine (HQ.out _).mono ?_
    rintro e w6 ⟨rfl, hb6⟩
    have HB6 : Hid (Below W1.heap.size W1 w6) := (Below.refl _ W1).drew.trans (hb6.mono (Nat.le_refl _))
    have hB6 : W1.heap.size ≤ w6.heap.size := HB6.out.size
    clear hb6
    refine hK.out _ _ (HSC.out _ HB6.out) (fun hHeld => ?_)
    clear hK K
    try simp only [Act.put, List.setIfInBounds_toArray, List.set_cons_zero, List.set_cons_succ]
    refine wpAnyH_ready (rs := [14]) (by kernel_rfl) (by simp) ?_
    refine AllReadyH.cons rfl (fun K hK => ?_) AllReadyH.nil
    go_simp
    refine hK.out _ _ (HSC.out _ (HB6.out.alloc HB6.out.size _)) (fun hHeld => ?_)
    clear hK K
    refine wpAnyH_ready (rs := [15]) (by kernel_rfl) (by simp) ?_
    refine AllReadyH.cons rfl (fun K hK => ?_) AllReadyH.nil
    go_simp
    refine hK.out _ _ (HSC.out _ (HB6.out.alloc HB6.out.size _)) (fun hHeld => ?_)
    clear hK K
    refine wpAnyH_done (by kernel_rfl) ?_ _
    obtain ⟨W5, hW5⟩ : ∃ W, w6.alloc (.cells #[.int .u32 (y0 : Int), .int .u32 (y1 : Int), .int .u32 (y2 : Int), .int .u32 (y3 : Int)] 23) = W := ⟨_, rfl⟩
    have HT : Hid (AtW w B B w6.heap.size (B + 1) s [y0, y1, y2, y3] zeros16 W5) := by
      show AtW _ _ _ _ _ _ _ _ _
      rw [← hW5]
      exact HTO.out _ _ (HB6.out.alloc HB6.out.size _) (by omega) (heap_alloc_new _ _)
    try rw [hW5]
    clear hW5
    have q0 := HT.out.qc 0 (by simp)
    have p0 := HT.out.sc i (by rw [HS.out]; omega)
    have f0 := HT.out.sf i
    have HT1 := HT.out.put i y0
    obtain ⟨V1, hV1⟩ : ∃ V, W5.setCell ⟨B, i, none⟩ (.int .u32 (y0 : Int)) = V := ⟨_, rfl⟩
    rw [hV1] at HT1
    have q1 := HT1.qc 1 (by simp)
    have p1 := HT1.sc j (by rw [List.length_set, HS.out]; omega)
    have f1 := HT1.sf j
    have HT2 := HT1.put j y1
    obtain ⟨V2, hV2⟩ : ∃ V, V1.setCell ⟨B, j, none⟩ (.int .u32 (y1 : Int)) = V := ⟨_, rfl⟩
    rw [hV2] at HT2
    have q2 := HT2.qc 2 (by simp)
    have p2 := HT2.sc k (by rw [List.length_set, List.length_set, HS.out]; omega)
    have f2 := HT2.sf k
    have HT3 := HT2.put k y2
    obtain ⟨V3, hV3⟩ : ∃ V, V2.setCell ⟨B, k, none⟩ (.int .u32 (y2 : Int)) = V := ⟨_, rfl⟩
    rw [hV3] at HT3
    have q3 := HT3.qc 3 (by simp)
    have p3 := HT3.sc l (by rw [List.length_set, List.length_set, List.length_set, HS.out]; omega)
    have f3 := HT3.sf l
    have HT4 := HT3.put l y3
    obtain ⟨V4, hV4⟩ : ∃ V, V3.setCell ⟨B, l, none⟩ (.int .u32 (y3 : Int)) = V := ⟨_, rfl⟩
    rw [hV4, HF.out.1] at HT4
    have HE : Hid (AtW w B B w6.heap.size (B + 1) F [y0, y1, y2, y3] zeros16 V4) := HT4
    have g0 : ([y0, y1, y2, y3] : List Nat).getD 0 0 = y0 := rfl
    have g1 : ([y0, y1, y2, y3] : List Nat).getD 1 0 = y1 := rfl
    have g2 : ([y0, y1, y2, y3] : List Nat).getD 2 0 = y2 := rfl
    have g3 : ([y0, y1, y2, y3] : List Nat).getD 3 0 = y3 := rfl
    rw [g0] at q0
    rw [g1] at q1
    rw [g2] at q2
    rw [g3] at q3
    have HI := infoU16 F HF.out.2
    clear HT1 HT2 HT3 HT4 HT g0 g1 g2 g3
    go_wp2_with (first | (refine wpList_load_row rfl 50 _ rfl B rfl 50 (u32v F) (0, 0) _ HE.out.rs Tryd.underlying50 rfl HI ?_) | (refine wpList_store_row rfl 50 _ _ rfl (B + 1) (u32v F) rfl rfl 50 (u32v zeros16) HE.out.rz HI (by rw [u32v_size, u32v_size, HF.out.2]; rfl) (u32v_all _) ?_))
    refine bodyPost_ret (v := .agg (u32v F)) ?_ rfl ⟨rfl, HB.out ▸ below_setRow HE.out.bl (B + 1) (Nat.le_succ _) _⟩
    exact results_cell_row rfl _ _ (B + 1) 50 _ (0, 0) _ rfl (setRow_heap _ _ _ _ _ _ HE.out.rz) Tryd.underlying50 rfl HI
  · go_simp
    refine hK.out _ _ (HSC.out _ ((Below.refl _ _).drew.alloc (Nat.le_refl _) _)) (fun hHeld => ?_)
    clear hK K
    try simp only [Act.put, List.setIfInBounds_toArray, List.set_cons_zero, List.set_cons_succ]
    refine wpAnyH_ready (rs := [13]) (by kernel_rfl) (by simp) ?_
    refine AllReadyH.cons rfl (fun K hK => ?_) AllReadyH.nil
    go_simp
    refine (HQ.out _).mono ?_
    rintro e w7 ⟨rfl, hb7⟩
    have hz7 : w7.heap[B + 2]? = some (.cells (u32v [0, 0, 0, 0]) 23 (0, 0)) := (hb7.block (B + 2) (by simp; omega)).trans (by rw [← hsz]; exact heap_alloc_new W1.drew _)
    have HB7 : Hid (Below W1.heap.size W1 w7) := ((Below.refl _ W1).drew.alloc (Nat.le_refl _) _).trans (hb7.mono (by simp))
    clear hb7
    refine hK.out _ _ (HSC.out _ HB7.out) (fun hHeld => ?_)
    clear hK K
    try simp only [Act.put, List.setIfInBounds_toArray, List.set_cons_zero, List.set_cons_succ]
    have zc0 : w7.cell? ⟨B + 2, 0, none⟩ = some (.int .u32 0) := by rw [cell_of_row w7 _ 0 _ _ _ hz7]; rfl
    have zf0 : w7.frozen? ⟨B + 2, 0, none⟩ = false := frozen_of_row w7 _ 0 _ _ hz7
    have zc1 : w7.cell? ⟨B + 2, 1, none⟩ = some (.int .u32 0) := by rw [cell_of_row w7 _ 1 _ _ _ hz7]; rfl
    have zf1 : w7.frozen? ⟨B + 2, 1, none⟩ = false := frozen_of_row w7 _ 1 _ _ hz7
    have zc2 : w7.cell? ⟨B + 2, 2, none⟩ = some (.int .u32 0) := by rw [cell_of_row w7 _ 2 _ _ _ hz7]; rfl
    have zf2 : w7.frozen? ⟨B + 2, 2, none⟩ = false := frozen_of_row w7 _ 2 _ _ hz7
    have zc3 : w7.cell? ⟨B + 2, 3, none⟩ = some (.int .u32 0) := by rw [cell_of_row w7 _ 3 _ _ _ hz7]; rfl
    have zf3 : w7.frozen? ⟨B + 2, 3, none⟩ = false := frozen_of_row w7 _ 3 _ _ hz7
    have HZ7 : Hid (w7.heap[B + 2]? = some (.cells (u32v [0, 0, 0, 0]) 23 (0, 0))) := hz7
    have HB8 : Hid (Below W1.heap.size W1 ((((w7.setCell ⟨B + 2, 0, none⟩ (.int .u32 (y0 : Int))).setCell ⟨B + 2, 1, none⟩ (.int .u32 (y1 : Int))).setCell ⟨B + 2, 2, none⟩ (.int .u32 (y2 : Int))).setCell ⟨B + 2, 3, none⟩ (.int .u32 (y3 : Int)))) := ((((HB7.out.setCell (Nat.le_of_eq hsz) _).setCell (Nat.le_of_eq hsz) _).setCell (Nat.le_of_eq hsz) _).setCell (Nat.le_of_eq hsz) _)
    clear hz7
    refine wpAnyH_ready (rs := [15]) (by kernel_rfl) (by simp) ?_
    refine AllReadyH.cons rfl (fun K hK => ?_) AllReadyH.nil
    go_simp
    refine hK.out _ _ (HSC.out _ HB8.out) (fun hHeld => ?_)
    clear hK K
    refine wpAnyH_done (by kernel_rfl) ?_ _
    obtain ⟨W5, hW5⟩ : ∃ W, (((w7.setCell ⟨B + 2, 0, none⟩ (.int .u32 (y0 : Int))).setCell ⟨B + 2, 1, none⟩ (.int .u32 (y1 : Int))).setCell ⟨B + 2, 2, none⟩ (.int .u32 (y2 : Int))).setCell ⟨B + 2, 3, none⟩ (.int .u32 (y3 : Int)) = W := ⟨_, rfl⟩
    have HT : Hid (AtW w B B (B + 2) (B + 1) s [y0, y1, y2, y3] zeros16 W5) := by
      show AtW _ _ _ _ _ _ _ _ _
      rw [← hW5]
      exact HTO.out _ (B + 2) HB8.out (by omega) (row_put4 w7 (B + 2) y0 y1 y2 y3 HZ7.out)
    try rw [hW5]
    clear hW5
    have q0 := HT.out.qc 0 (by simp)
    have p0 := HT.out.sc i (by rw [HS.out]; omega)
    have f0 := HT.out.sf i
    have HT1 := HT.out.put i y0
    obtain ⟨V1, hV1⟩ : ∃ V, W5.setCell ⟨B, i, none⟩ (.int .u32 (y0 : Int)) = V := ⟨_, rfl⟩
    rw [hV1] at HT1
    have q1 := HT1.qc 1 (by simp)
    have p1 := HT1.sc j (by rw [List.length_set, HS.out]; omega)
    have f1 := HT1.sf j
    have HT2 := HT1.put j y1
    obtain ⟨V2, hV2⟩ : ∃ V, V1.setCell ⟨B, j, none⟩ (.int .u32 (y1 : Int)) = V := ⟨_, rfl⟩
    rw [hV2] at HT2
    have q2 := HT2.qc 2 (by simp)
    have p2 := HT2.sc k (by rw [List.length_set, List.length_set, HS.out]; omega)
    have f2 := HT2.sf k
    have HT3 := HT2.put k y2
    obtain ⟨V3, hV3⟩ : ∃ V, V2.setCell ⟨B, k, none⟩ (.int .u32 (y2 : Int)) = V := ⟨_, rfl⟩
    rw [hV3] at HT3
    have q3 := HT3.qc 3 (by simp)
    have p3 := HT3.sc l (by rw [List.length_set, List.length_set, List.length_set, HS.out]; omega)
    have f3 := HT3.sf l
    have HT4 := HT3.put l y3
    obtain ⟨V4, hV4⟩ : ∃ V, V3.setCell ⟨B, l, none⟩ (.int .u32 (y3 : Int)) = V := ⟨_, rfl⟩
    rw [hV4, HF.out.1] at HT4
    have HE : Hid (AtW w B B (B + 2) (B + 1) F [y0, y1, y2, y3] zeros16 V4) := HT4
    have g0 : ([y0, y1, y2, y3] : List Nat).getD 0 0 = y0 := rfl
    have g1 : ([y0, y1, y2, y3] : List Nat).getD 1 0 = y1 := rfl
    have g2 : ([y0, y1, y2, y3] : List Nat).getD 2 0 = y2 := rfl
    have g3 : ([y0, y1, y2, y3] : List Nat).getD 3 0 = y3 := rfl
    rw [g0] at q0
    rw [g1] at q1
    rw [g2] at q2
    rw [g3] at q3
    have HI := infoU16 F HF.out.2
    clear HT1 HT2 HT3 HT4 HT g0 g1 g2 g3
    go_wp2_with (first | (refine wpList_load_row rfl 50 _ rfl B rfl 50 (u32v F) (0, 0) _ HE.out.rs Tryd.underlying50 rfl HI ?_) | (refine wpList_store_row rfl 50 _ _ rfl (B + 1) (u32v F) rfl rfl 50 (u32v zeros16) HE.out.rz HI (by rw [u32v_size, u32v_size, HF.out.2]; rfl) (u32v_all _) ?_))
    refine bodyPost_ret (v := .agg (u32v F)) ?_ rfl ⟨rfl, HB.out ▸ below_setRow HE.out.bl (B + 1) (Nat.le_succ _) _⟩
    exact results_cell_row rfl _ _ (B + 1) 50 _ (0, 0) _ rfl (setRow_heap _ _ _ _ _ _ HE.out.rz) Tryd.underlying50 rfl HI
end Go.Proofs.YtbflkkffpcaakaaDoor
