/- Walk over the document's Quarter. -/
import Derived.Test.YtbflkkffpcaakaaDoorWB
namespace Go.Proofs.YtbflkkffpcaakaaDoor
open Go.RowKit
set_option maxRecDepth 100000 in
set_option maxHeartbeats 1000000 in
/-- The document's quarter round. -/
theorem rquarter_any (a b c d : Nat) (w : World) (hb : b < 4294967296) (hd : d < 4294967296) :
    Calls Tryd.prog 10 #[.agg (u32v [a, b, c, d])] w fun e w' => e = .returned (.agg (u32v (quarterL a b c d))) ∧ Below w.heap.size w w' := by
  obtain ⟨a1, e1⟩ : ∃ x, addW a b = x := ⟨_, rfl⟩
  obtain ⟨d1, e2⟩ : ∃ x, rotr (d ^^^ a1) 16 = x := ⟨_, rfl⟩
  obtain ⟨c1, e3⟩ : ∃ x, addW c d1 = x := ⟨_, rfl⟩
  obtain ⟨b1, e4⟩ : ∃ x, rotr (b ^^^ c1) 20 = x := ⟨_, rfl⟩
  obtain ⟨a2, e5⟩ : ∃ x, addW a1 b1 = x := ⟨_, rfl⟩
  obtain ⟨d2, e6⟩ : ∃ x, rotr (d1 ^^^ a2) 24 = x := ⟨_, rfl⟩
  obtain ⟨c2, e7⟩ : ∃ x, addW c1 d2 = x := ⟨_, rfl⟩
  obtain ⟨b2, e8⟩ : ∃ x, rotr (b1 ^^^ c2) 25 = x := ⟨_, rfl⟩
  have HQ : Hid (quarterL a b c d = [a2, b2, c2, d2]) := by
    show _ = _
    unfold quarterL
    simp only [e1, e2, e3, e4, e5, e6, e7, e8]
  have la1 : a1 < 4294967296 := e1 ▸ addW_lt _ _
  have lc1 : c1 < 4294967296 := e3 ▸ addW_lt _ _
  have la2 : a2 < 4294967296 := e5 ▸ addW_lt _ _
  have lc2 : c2 < 4294967296 := e7 ▸ addW_lt _ _
  have ld1 : d1 < 4294967296 := e2 ▸ rotr_lt (xor_lt hd la1)
  have lb1 : b1 < 4294967296 := e4 ▸ rotr_lt (xor_lt hb lc1)
  have C1 : Hid (∀ W, Calls Tryd.prog 25 #[.int .u32 ((d ^^^ a1 : Nat) : Int), .int .u64 16] W fun e w' => e = .returned (.int .u32 (d1 : Int)) ∧ w' = W) := fun W => e2 ▸ up_any (d ^^^ a1) 16 16 W (xor_lt hd la1) (by omega) rfl
  have C2 : Hid (∀ W, Calls Tryd.prog 25 #[.int .u32 ((b ^^^ c1 : Nat) : Int), .int .u64 12] W fun e w' => e = .returned (.int .u32 (b1 : Int)) ∧ w' = W) := fun W => e4 ▸ up_any (b ^^^ c1) 12 20 W (xor_lt hb lc1) (by omega) rfl
  have C3 : Hid (∀ W, Calls Tryd.prog 25 #[.int .u32 ((d1 ^^^ a2 : Nat) : Int), .int .u64 8] W fun e w' => e = .returned (.int .u32 (d2 : Int)) ∧ w' = W) := fun W => e6 ▸ up_any (d1 ^^^ a2) 8 24 W (xor_lt ld1 la2) (by omega) rfl
  have C4 : Hid (∀ W, Calls Tryd.prog 25 #[.int .u32 ((b1 ^^^ c2 : Nat) : Int), .int .u64 7] W fun e w' => e = .returned (.int .u32 (b2 : Int)) ∧ w' = W) := fun W => e8 ▸ up_any (b1 ^^^ c2) 7 25 W (xor_lt lb1 lc2) (by omega) rfl
  have x1 := xor_nat d a1 hd la1
  have x2 := xor_nat b c1 hb lc1
  have x3 := xor_nat d1 a2 ld1 la2
  have x4 := xor_nat b1 c2 lb1 lc2
  have s1 := mod_add a b
  have s2 := mod_add c d1
  have s3 := mod_add a1 b1
  have s4 := mod_add c1 d2
  rw [e1] at s1
  rw [e3] at s2
  rw [e5] at s3
  rw [e7] at s4
  obtain ⟨B, hB⟩ : ∃ B, w.heap.size = B := ⟨_, rfl⟩
  obtain ⟨W1, hW1⟩ : ∃ W, (w.alloc (.cells #[.int .u32 (a : Int), .int .u32 (b : Int), .int .u32 (c : Int), .int .u32 (d : Int)] 23)).alloc (.cells #[.int .u32 0, .int .u32 0, .int .u32 0, .int .u32 0] 23) = W := ⟨_, rfl⟩
  have hrow : W1.heap[B]? = some (.cells #[.int .u32 (a : Int), .int .u32 (b : Int), .int .u32 (c : Int), .int .u32 (d : Int)] 23 (0, 0)) := by
    rw [← hW1, ← hB, Go.heap_alloc_old _ _ (by simp)]; exact heap_alloc_new _ _
  have hrow2 : W1.heap[B + 1]? = some (.cells #[.int .u32 0, .int .u32 0, .int .u32 0, .int .u32 0] 23 (0, 0)) := by
    have := heap_alloc_new (w.alloc (.cells #[.int .u32 (a : Int), .int .u32 (b : Int), .int .u32 (c : Int), .int .u32 (d : Int)] 23)) (.cells #[.int .u32 0, .int .u32 0, .int .u32 0, .int .u32 0] 23)
    rw [← hW1, ← hB]
    simpa using this
  have hbl : Below B w W1 := by rw [← hW1, ← hB]; exact ((Below.refl _ w).alloc (Nat.le_refl _) _).alloc (by simp) _
  have k10 : W1.cell? ⟨B, 0, none⟩ = some (.int .u32 (a : Int)) := by rw [cell_of_row _ _ _ _ _ _ hrow]; rfl
  have k11 : W1.cell? ⟨B, 1, none⟩ = some (.int .u32 (b : Int)) := by rw [cell_of_row _ _ _ _ _ _ hrow]; rfl
  have f1 : W1.frozen? ⟨B, 0, none⟩ = false := frozen_of_row _ _ _ _ _ hrow
  obtain ⟨V1, hV1⟩ : ∃ V, W1.setCell ⟨B, 0, none⟩ (.int .u32 (a1 : Int)) = V := ⟨_, rfl⟩
  have row1 : V1.heap[B]? = some (.cells #[.int .u32 (a1 : Int), .int .u32 (b : Int), .int .u32 (c : Int), .int .u32 (d : Int)] 23 (0, 0)) := by rw [← hV1]; exact heap_setCell_same _ _ _ _ _ _ hrow
  have oth1 : V1.heap[B + 1]? = some (.cells #[.int .u32 0, .int .u32 0, .int .u32 0, .int .u32 0] 23 (0, 0)) := by rw [← hV1, heap_setCell_other _ _ _ _ (by show B + 1 ≠ B; omega)]; exact hrow2
  have bl1 : Below B w V1 := by rw [← hV1]; exact hbl.setCell (Nat.le_refl _) _
  have k20 : V1.cell? ⟨B, 0, none⟩ = some (.int .u32 (a1 : Int)) := by rw [cell_of_row _ _ _ _ _ _ row1]; rfl
  have k23 : V1.cell? ⟨B, 3, none⟩ = some (.int .u32 (d : Int)) := by rw [cell_of_row _ _ _ _ _ _ row1]; rfl
  have f2 : V1.frozen? ⟨B, 3, none⟩ = false := frozen_of_row _ _ _ _ _ row1
  obtain ⟨V2, hV2⟩ : ∃ V, V1.setCell ⟨B, 3, none⟩ (.int .u32 (d1 : Int)) = V := ⟨_, rfl⟩
  have row2 : V2.heap[B]? = some (.cells #[.int .u32 (a1 : Int), .int .u32 (b : Int), .int .u32 (c : Int), .int .u32 (d1 : Int)] 23 (0, 0)) := by rw [← hV2]; exact heap_setCell_same _ _ _ _ _ _ row1
  have oth2 : V2.heap[B + 1]? = some (.cells #[.int .u32 0, .int .u32 0, .int .u32 0, .int .u32 0] 23 (0, 0)) := by rw [← hV2, heap_setCell_other _ _ _ _ (by show B + 1 ≠ B; omega)]; exact oth1
  have bl2 : Below B w V2 := by rw [← hV2]; exact bl1.setCell (Nat.le_refl _) _
  have k32 : V2.cell? ⟨B, 2, none⟩ = some (.int .u32 (c : Int)) := by rw [cell_of_row _ _ _ _ _ _ row2]; rfl
  have k33 : V2.cell? ⟨B, 3, none⟩ = some (.int .u32 (d1 : Int)) := by rw [cell_of_row _ _ _ _ _ _ row2]; rfl
  have f3 : V2.frozen? ⟨B, 2, none⟩ = false := frozen_of_row _ _ _ _ _ row2
  obtain ⟨V3, hV3⟩ : ∃ V, V2.setCell ⟨B, 2, none⟩ (.int .u32 (c1 : Int)) = V := ⟨_, rfl⟩
  have row3 : V3.heap[B]? = some (.cells #[.int .u32 (a1 : Int), .int .u32 (b : Int), .int .u32 (c1 : Int), .int .u32 (d1 : Int)] 23 (0, 0)) := by rw [← hV3]; exact heap_setCell_same _ _ _ _ _ _ row2
  have oth3 : V3.heap[B + 1]? = some (.cells #[.int .u32 0, .int .u32 0, .int .u32 0, .int .u32 0] 23 (0, 0)) := by rw [← hV3, heap_setCell_other _ _ _ _ (by show B + 1 ≠ B; omega)]; exact oth2
  have bl3 : Below B w V3 := by rw [← hV3]; exact bl2.setCell (Nat.le_refl _) _
  have k41 : V3.cell? ⟨B, 1, none⟩ = some (.int .u32 (b : Int)) := by rw [cell_of_row _ _ _ _ _ _ row3]; rfl
  have k42 : V3.cell? ⟨B, 2, none⟩ = some (.int .u32 (c1 : Int)) := by rw [cell_of_row _ _ _ _ _ _ row3]; rfl
  have f4 : V3.frozen? ⟨B, 1, none⟩ = false := frozen_of_row _ _ _ _ _ row3
  obtain ⟨V4, hV4⟩ : ∃ V, V3.setCell ⟨B, 1, none⟩ (.int .u32 (b1 : Int)) = V := ⟨_, rfl⟩
  have row4 : V4.heap[B]? = some (.cells #[.int .u32 (a1 : Int), .int .u32 (b1 : Int), .int .u32 (c1 : Int), .int .u32 (d1 : Int)] 23 (0, 0)) := by rw [← hV4]; exact heap_setCell_same _ _ _ _ _ _ row3
  have oth4 : V4.heap[B + 1]? = some (.cells #[.int .u32 0, .int .u32 0, .int .u32 0, .int .u32 0] 23 (0, 0)) := by rw [← hV4, heap_setCell_other _ _ _ _ (by show B + 1 ≠ B; omega)]; exact oth3
  have bl4 : Below B w V4 := by rw [← hV4]; exact bl3.setCell (Nat.le_refl _) _
  have k50 : V4.cell? ⟨B, 0, none⟩ = some (.int .u32 (a1 : Int)) := by rw [cell_of_row _ _ _ _ _ _ row4]; rfl
  have k51 : V4.cell? ⟨B, 1, none⟩ = some (.int .u32 (b1 : Int)) := by rw [cell_of_row _ _ _ _ _ _ row4]; rfl
  have f5 : V4.frozen? ⟨B, 0, none⟩ = false := frozen_of_row _ _ _ _ _ row4
  obtain ⟨V5, hV5⟩ : ∃ V, V4.setCell ⟨B, 0, none⟩ (.int .u32 (a2 : Int)) = V := ⟨_, rfl⟩
  have row5 : V5.heap[B]? = some (.cells #[.int .u32 (a2 : Int), .int .u32 (b1 : Int), .int .u32 (c1 : Int), .int .u32 (d1 : Int)] 23 (0, 0)) := by rw [← hV5]; exact heap_setCell_same _ _ _ _ _ _ row4
  have oth5 : V5.heap[B + 1]? = some (.cells #[.int .u32 0, .int .u32 0, .int .u32 0, .int .u32 0] 23 (0, 0)) := by rw [← hV5, heap_setCell_other _ _ _ _ (by show B + 1 ≠ B; omega)]; exact oth4
  have bl5 : Below B w V5 := by rw [← hV5]; exact bl4.setCell (Nat.le_refl _) _
  have k60 : V5.cell? ⟨B, 0, none⟩ = some (.int .u32 (a2 : Int)) := by rw [cell_of_row _ _ _ _ _ _ row5]; rfl
  have k63 : V5.cell? ⟨B, 3, none⟩ = some (.int .u32 (d1 : Int)) := by rw [cell_of_row _ _ _ _ _ _ row5]; rfl
  have f6 : V5.frozen? ⟨B, 3, none⟩ = false := frozen_of_row _ _ _ _ _ row5
  obtain ⟨V6, hV6⟩ : ∃ V, V5.setCell ⟨B, 3, none⟩ (.int .u32 (d2 : Int)) = V := ⟨_, rfl⟩
  have row6 : V6.heap[B]? = some (.cells #[.int .u32 (a2 : Int), .int .u32 (b1 : Int), .int .u32 (c1 : Int), .int .u32 (d2 : Int)] 23 (0, 0)) := by rw [← hV6]; exact heap_setCell_same _ _ _ _ _ _ row5
  have oth6 : V6.heap[B + 1]? = some (.cells #[.int .u32 0, .int .u32 0, .int .u32 0, .int .u32 0] 23 (0, 0)) := by rw [← hV6, heap_setCell_other _ _ _ _ (by show B + 1 ≠ B; omega)]; exact oth5
  have bl6 : Below B w V6 := by rw [← hV6]; exact bl5.setCell (Nat.le_refl _) _
  have k72 : V6.cell? ⟨B, 2, none⟩ = some (.int .u32 (c1 : Int)) := by rw [cell_of_row _ _ _ _ _ _ row6]; rfl
  have k73 : V6.cell? ⟨B, 3, none⟩ = some (.int .u32 (d2 : Int)) := by rw [cell_of_row _ _ _ _ _ _ row6]; rfl
  have f7 : V6.frozen? ⟨B, 2, none⟩ = false := frozen_of_row _ _ _ _ _ row6
  obtain ⟨V7, hV7⟩ : ∃ V, V6.setCell ⟨B, 2, none⟩ (.int .u32 (c2 : Int)) = V := ⟨_, rfl⟩
  have row7 : V7.heap[B]? = some (.cells #[.int .u32 (a2 : Int), .int .u32 (b1 : Int), .int .u32 (c2 : Int), .int .u32 (d2 : Int)] 23 (0, 0)) := by rw [← hV7]; exact heap_setCell_same _ _ _ _ _ _ row6
  have oth7 : V7.heap[B + 1]? = some (.cells #[.int .u32 0, .int .u32 0, .int .u32 0, .int .u32 0] 23 (0, 0)) := by rw [← hV7, heap_setCell_other _ _ _ _ (by show B + 1 ≠ B; omega)]; exact oth6
  have bl7 : Below B w V7 := by rw [← hV7]; exact bl6.setCell (Nat.le_refl _) _
  have k81 : V7.cell? ⟨B, 1, none⟩ = some (.int .u32 (b1 : Int)) := by rw [cell_of_row _ _ _ _ _ _ row7]; rfl
  have k82 : V7.cell? ⟨B, 2, none⟩ = some (.int .u32 (c2 : Int)) := by rw [cell_of_row _ _ _ _ _ _ row7]; rfl
  have f8 : V7.frozen? ⟨B, 1, none⟩ = false := frozen_of_row _ _ _ _ _ row7
  obtain ⟨V8, hV8⟩ : ∃ V, V7.setCell ⟨B, 1, none⟩ (.int .u32 (b2 : Int)) = V := ⟨_, rfl⟩
  have row8 : V8.heap[B]? = some (.cells #[.int .u32 (a2 : Int), .int .u32 (b2 : Int), .int .u32 (c2 : Int), .int .u32 (d2 : Int)] 23 (0, 0)) := by rw [← hV8]; exact heap_setCell_same _ _ _ _ _ _ row7
  have oth8 : V8.heap[B + 1]? = some (.cells #[.int .u32 0, .int .u32 0, .int .u32 0, .int .u32 0] 23 (0, 0)) := by rw [← hV8, heap_setCell_other _ _ _ _ (by show B + 1 ≠ B; omega)]; exact oth7
  have bl8 : Below B w V8 := by rw [← hV8]; exact bl7.setCell (Nat.le_refl _) _
  have HR : Hid (V8.heap[B]? = some (.cells #[.int .u32 (a2 : Int), .int .u32 (b2 : Int), .int .u32 (c2 : Int), .int .u32 (d2 : Int)] 23 (0, 0)) ∧ V8.heap[B + 1]? = some (.cells #[.int .u32 0, .int .u32 0, .int .u32 0, .int .u32 0] 23 (0, 0)) ∧ Below B w V8) := ⟨row8, oth8, bl8⟩
  rw [u32v4]
  have HQ2 : Hid (u32v (quarterL a b c d) = #[.int .u32 (a2 : Int), .int .u32 (b2 : Int), .int .u32 (c2 : Int), .int .u32 (d2 : Int)]) := by show _ = _; rw [HQ.out]; rfl
  rw [HQ2.out]
  clear e1 e2 e3 e4 e5 e6 e7 e8 hb hd hrow hrow2 hbl HQ HQ2 row1 oth1 bl1 row2 oth2 bl2 row3 oth3 bl3 row4 oth4 bl4 row5 oth5 bl5 row6 oth6 bl6 row7 oth7 bl7 row8 oth8 bl8
  go_enter Tryd.func10, Tryd.ntmps10
  go_wp2_with fail
  refine (C1.out _).mono ?_
  rintro e w' ⟨rfl, hw'⟩
  subst w'
  go_wp2_with fail
  refine (C2.out _).mono ?_
  rintro e w' ⟨rfl, hw'⟩
  subst w'
  go_wp2_with fail
  refine (C3.out _).mono ?_
  rintro e w' ⟨rfl, hw'⟩
  subst w'
  go_wp2_with fail
  refine (C4.out _).mono ?_
  rintro e w' ⟨rfl, hw'⟩
  subst w'
  clear C1 C2 C3 C4 x1 x2 x3 x4
  go_wp2_with (first | (refine wpList_load_row rfl 23 _ rfl B rfl 23 #[.int .u32 (a2 : Int), .int .u32 (b2 : Int), .int .u32 (c2 : Int), .int .u32 (d2 : Int)] (0, 0) _ HR.out.1 Tryd.underlying23 rfl info_a4 ?_) | (refine wpList_store_row rfl 23 _ _ rfl (B + 1) #[.int .u32 (a2 : Int), .int .u32 (b2 : Int), .int .u32 (c2 : Int), .int .u32 (d2 : Int)] rfl rfl 23 #[.int .u32 0, .int .u32 0, .int .u32 0, .int .u32 0] HR.out.2.1 info_a4 rfl (by simp [Value.oneCell']) ?_))
  refine bodyPost_ret (v := .agg #[.int .u32 (a2 : Int), .int .u32 (b2 : Int), .int .u32 (c2 : Int), .int .u32 (d2 : Int)]) ?_ rfl ⟨rfl, hB ▸ below_setRow HR.out.2.2 (B + 1) (Nat.le_succ _) _⟩
  exact results_cell_row rfl _ _ (B + 1) 23 _ (0, 0) _ rfl (setRow_heap _ _ _ _ _ _ HR.out.2.1) Tryd.underlying23 rfl info_a4
end Go.Proofs.YtbflkkffpcaakaaDoor
