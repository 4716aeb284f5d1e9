/- Proved: for every n, size and c, the law RollNexts returns true, n, size and c as they were. No condition: every input that can be read as data. -/
import Derived.Test.YteiigaoniipedaaRows
import Derived.Test.YteiigaoniipedaaD
import Derived.WalkKit
import Derived.ProofKit
import Derived.OpenShut
import Derived.ShutString
import Derived.ChangeOld
import Derived.Below
namespace Go.Proofs.Yteiigaoniipedaa.rollNexts
open Go.ChangeShapes Go.WideShapes Go.ChangeAt Go.RowKit
theorem own : ownKnob Try.prog.godebug = none := by kernel_rfl
theorem laidOut : laidOutB Try.prog = true := by kernel_rfl

set_option maxRecDepth 100000 in
set_option maxHeartbeats 2000000 in
theorem walk (x0 y0 : Nat) (z0 : x0 < 4294967296) (u0 : y0 < 4294967296) (x1 : Int) (z1 : -9223372036854775808 ≤ x1 ∧ x1 ≤ 9223372036854775807) (x2 y2 : Nat) (z2 : x2 < 256) (u2 : y2 < 256) (w : World)  :
    Calls Try.prog 4 #[.agg #[.int .u32 (x0 : Int), .int .u32 (y0 : Int)], .int .i64 x1, .agg #[.int .u8 (x2 : Int), .int .u8 (y2 : Int)]] w fun e w' => e = .returned (.bool true) ∧ Below w.heap.size w w' := by
  have hsz1 : ((w.alloc (.cells #[.int .u32 (x0 : Int), .int .u32 (y0 : Int)] 28)).alloc (.cells #[.int .u8 (x2 : Int), .int .u8 (y2 : Int)] 29)).heap.size = w.heap.size + 2 := by simp
  have HB1 : Hid (Below w.heap.size w ((w.alloc (.cells #[.int .u32 (x0 : Int), .int .u32 (y0 : Int)] 28)).alloc (.cells #[.int .u8 (x2 : Int), .int .u8 (y2 : Int)] 29))) := ((Below.refl _ w).alloc (Nat.le_refl _) _).alloc (by simp) _
  have HLV : Hid (∀ W, Below w.heap.size w W → Calls Try.prog 9 #[] W fun e w' => e = .returned (.bool true) ∧ Below w.heap.size w w' ∧ Below W.heap.size W w') := by
    intro W hW
    refine (lives_any W).mono ?_
    rintro e w' ⟨rfl, hb⟩
    exact ⟨rfl, hW.trans (hb.mono hW.size), hb⟩
  have HS : Hid (∀ W, Below ((w.alloc (.cells #[.int .u32 (x0 : Int), .int .u32 (y0 : Int)] 28)).alloc (.cells #[.int .u8 (x2 : Int), .int .u8 (y2 : Int)] 29)).heap.size ((w.alloc (.cells #[.int .u32 (x0 : Int), .int .u32 (y0 : Int)] 28)).alloc (.cells #[.int .u8 (x2 : Int), .int .u8 (y2 : Int)] 29)) W → W.cell? ⟨w.heap.size, 0, none⟩ = some (.int .u32 (x0 : Int)) ∧ W.cell? ⟨w.heap.size, 1, none⟩ = some (.int .u32 (y0 : Int)) ∧ W.cell? ⟨w.heap.size + 1, 0, none⟩ = some (.int .u8 (x2 : Int)) ∧ W.cell? ⟨w.heap.size + 1, 1, none⟩ = some (.int .u8 (y2 : Int))) := by
    intro W hW
    have e0 : ((w.alloc (.cells #[.int .u32 (x0 : Int), .int .u32 (y0 : Int)] 28)).alloc (.cells #[.int .u8 (x2 : Int), .int .u8 (y2 : Int)] 29)).heap[w.heap.size]? = some (.cells #[.int .u32 (x0 : Int), .int .u32 (y0 : Int)] 28) := by
      rw [Go.heap_alloc_old _ _ (by simp)]
      exact heap_alloc_new w _
    have e1 : ((w.alloc (.cells #[.int .u32 (x0 : Int), .int .u32 (y0 : Int)] 28)).alloc (.cells #[.int .u8 (x2 : Int), .int .u8 (y2 : Int)] 29)).heap[w.heap.size + 1]? = some (.cells #[.int .u8 (x2 : Int), .int .u8 (y2 : Int)] 29) := by
      have := heap_alloc_new (w.alloc (.cells #[.int .u32 (x0 : Int), .int .u32 (y0 : Int)] 28)) (.cells #[.int .u8 (x2 : Int), .int .u8 (y2 : Int)] 29)
      simpa using this
    refine ⟨?_, ?_, ?_, ?_⟩
    · rw [hW.cell (by rw [hsz1]; show w.heap.size < _; omega), cell_of_row _ w.heap.size 0 _ _ _ e0]; rfl
    · rw [hW.cell (by rw [hsz1]; show w.heap.size < _; omega), cell_of_row _ w.heap.size 1 _ _ _ e0]; rfl
    · rw [hW.cell (by rw [hsz1]; show w.heap.size + 1 < _; omega), cell_of_row _ (w.heap.size + 1) 0 _ _ _ e1]; rfl
    · rw [hW.cell (by rw [hsz1]; show w.heap.size + 1 < _; omega), cell_of_row _ (w.heap.size + 1) 1 _ _ _ e1]; rfl
  clear hsz1
  go_enter Try.func4, Try.ntmps4
  go_wp2
  refine wp_region_held_drew (S := fun W => W.cell? ⟨w.heap.size, 0, none⟩ = some (.int .u32 (x0 : Int)) ∧ W.cell? ⟨w.heap.size, 1, none⟩ = some (.int .u32 (y0 : Int)) ∧ W.cell? ⟨w.heap.size + 1, 0, none⟩ = some (.int .u8 (x2 : Int)) ∧ W.cell? ⟨w.heap.size + 1, 1, none⟩ = some (.int .u8 (y2 : Int))) (by kernel_rfl) (HS.out _ (Below.refl _ _).drew) (fun hHeld => ?_)
  refine wpAnyH_take (i := 0) (v := ?v0) rfl (by kernel_rfl) (by kernel_rfl) (by kernel_rfl) (fun _ _ _ h => h) (Or.inl ⟨by kernel_rfl, ?y0⟩) hHeld ?r0
  case y0 => (intro W hSW; have hS1 := hSW.1; have hS2 := hSW.2.1; have hS3 := hSW.2.2.1; have hS4 := hSW.2.2.2; clear hSW; go_simp; (try with_reducible rfl))
  change wpAnyH _ _ _ _ _ _ _ (Act.put _ (some 7) _) _
  simp only [Act.put, List.setIfInBounds_toArray, List.set_cons_zero, List.set_cons_succ]
  refine wpAnyH_take (i := 1) (v := ?v1) rfl (by kernel_rfl) (by kernel_rfl) (by kernel_rfl) (fun _ _ _ h => h) (Or.inl ⟨by kernel_rfl, ?y1⟩) hHeld ?r1
  case y1 => (intro W hSW; have hS1 := hSW.1; have hS2 := hSW.2.1; have hS3 := hSW.2.2.1; have hS4 := hSW.2.2.2; clear hSW; go_simp; (try with_reducible rfl))
  change wpAnyH _ _ _ _ _ _ _ (Act.put _ (some 8) _) _
  simp only [Act.put, List.setIfInBounds_toArray, List.set_cons_zero, List.set_cons_succ]
  refine wpAnyH_take (i := 2) (v := ?v2) rfl (by kernel_rfl) (by kernel_rfl) (by kernel_rfl) (fun _ _ _ h => h) (Or.inl ⟨by kernel_rfl, ?y2⟩) hHeld ?r2
  case y2 => (intro W hSW; have hS1 := hSW.1; have hS2 := hSW.2.1; have hS3 := hSW.2.2.1; have hS4 := hSW.2.2.2; clear hSW; go_simp; (try with_reducible rfl))
  change wpAnyH _ _ _ _ _ _ _ (Act.put _ (some 9) _) _
  simp only [Act.put, List.setIfInBounds_toArray, List.set_cons_zero, List.set_cons_succ]
  refine wpAnyH_take (i := 3) (v := ?v3) rfl (by kernel_rfl) (by kernel_rfl) (by kernel_rfl) (fun _ _ _ h => h) (Or.inl ⟨by kernel_rfl, ?y3⟩) hHeld ?r3
  case y3 => (intro W hSW; have hS1 := hSW.1; have hS2 := hSW.2.1; have hS3 := hSW.2.2.1; have hS4 := hSW.2.2.2; clear hSW; go_simp; (try with_reducible rfl))
  change wpAnyH _ _ _ _ _ _ _ (Act.put _ (some 10) _) _
  simp only [Act.put, List.setIfInBounds_toArray, List.set_cons_zero, List.set_cons_succ]
  refine wpAnyH_take (i := 4) (v := ?v4) rfl (by kernel_rfl) (by kernel_rfl) (by kernel_rfl) (fun _ _ _ h => h) (Or.inl ⟨by kernel_rfl, ?y4⟩) hHeld ?r4
  case y4 => (intro W hSW; have hS1 := hSW.1; have hS2 := hSW.2.1; have hS3 := hSW.2.2.1; have hS4 := hSW.2.2.2; clear hSW; go_simp; (try with_reducible rfl))
  change wpAnyH _ _ _ _ _ _ _ (Act.put _ (some 11) _) _
  simp only [Act.put, List.setIfInBounds_toArray, List.set_cons_zero, List.set_cons_succ]
  refine wpAnyH_take (i := 5) (v := ?v5) rfl (by kernel_rfl) (by kernel_rfl) (by kernel_rfl) (fun _ _ _ h => h) (Or.inl ⟨by kernel_rfl, ?y5⟩) hHeld ?r5
  case y5 => (intro W hSW; have hS1 := hSW.1; have hS2 := hSW.2.1; have hS3 := hSW.2.2.1; have hS4 := hSW.2.2.2; clear hSW; go_simp; (try with_reducible rfl))
  change wpAnyH _ _ _ _ _ _ _ (Act.put _ (some 12) _) _
  simp only [Act.put, List.setIfInBounds_toArray, List.set_cons_zero, List.set_cons_succ]
  refine wpAnyH_take (i := 6) (v := ?v6) rfl (by kernel_rfl) (by kernel_rfl) (by kernel_rfl) (fun _ _ _ h => h) (Or.inl ⟨by kernel_rfl, ?y6⟩) hHeld ?r6
  case y6 => (intro W hSW; have hS1 := hSW.1; have hS2 := hSW.2.1; have hS3 := hSW.2.2.1; have hS4 := hSW.2.2.2; clear hSW; go_simp; (try with_reducible rfl))
  change wpAnyH _ _ _ _ _ _ _ (Act.put _ (some 13) _) _
  simp only [Act.put, List.setIfInBounds_toArray, List.set_cons_zero, List.set_cons_succ]
  refine wpAnyH_take (i := 8) (v := ?v8) rfl (by kernel_rfl) (by kernel_rfl) (by kernel_rfl) (fun _ _ _ h => h) (Or.inl ⟨by kernel_rfl, ?y8⟩) hHeld ?r8
  case y8 => (intro W hSW; have hS1 := hSW.1; have hS2 := hSW.2.1; have hS3 := hSW.2.2.1; have hS4 := hSW.2.2.2; clear hSW; go_simp; (try with_reducible rfl))
  change wpAnyH _ _ _ _ _ _ _ (Act.put _ (some 15) _) _
  simp only [Act.put, List.setIfInBounds_toArray, List.set_cons_zero, List.set_cons_succ]
  refine wpAnyH_take (i := 9) (v := ?v9) rfl (by kernel_rfl) (by kernel_rfl) (by kernel_rfl) (fun _ _ _ h => h) (Or.inl ⟨by kernel_rfl, ?y9⟩) hHeld ?r9
  case y9 => (intro W hSW; have hS1 := hSW.1; have hS2 := hSW.2.1; have hS3 := hSW.2.2.1; have hS4 := hSW.2.2.2; clear hSW; go_simp; (try with_reducible rfl))
  change wpAnyH _ _ _ _ _ _ _ (Act.put _ (some 16) _) _
  simp only [Act.put, List.setIfInBounds_toArray, List.set_cons_zero, List.set_cons_succ]
  refine wpAnyH_take (i := 10) (v := ?v10) rfl (by kernel_rfl) (by kernel_rfl) (by kernel_rfl) (fun _ _ _ h => h) (Or.inl ⟨by kernel_rfl, ?y10⟩) hHeld ?r10
  case y10 => (intro W hSW; have hS1 := hSW.1; have hS2 := hSW.2.1; have hS3 := hSW.2.2.1; have hS4 := hSW.2.2.2; clear hSW; go_simp; (try with_reducible rfl))
  change wpAnyH _ _ _ _ _ _ _ (Act.put _ (some 17) _) _
  simp only [Act.put, List.setIfInBounds_toArray, List.set_cons_zero, List.set_cons_succ]
  refine wpAnyH_take (i := 11) (v := ?v11) rfl (by kernel_rfl) (by kernel_rfl) (by kernel_rfl) (fun _ _ _ h => h) (Or.inl ⟨by kernel_rfl, ?y11⟩) hHeld ?r11
  case y11 => (intro W hSW; have hS1 := hSW.1; have hS2 := hSW.2.1; have hS3 := hSW.2.2.1; have hS4 := hSW.2.2.2; clear hSW; go_simp; (try with_reducible rfl))
  change wpAnyH _ _ _ _ _ _ _ (Act.put _ (some 18) _) _
  simp only [Act.put, List.setIfInBounds_toArray, List.set_cons_zero, List.set_cons_succ]
  refine wpAnyH_take (i := 12) (v := ?v12) rfl (by kernel_rfl) (by kernel_rfl) (by kernel_rfl) (fun _ _ _ h => h) (Or.inl ⟨by kernel_rfl, ?y12⟩) hHeld ?r12
  case y12 => (intro W hSW; have hS1 := hSW.1; have hS2 := hSW.2.1; have hS3 := hSW.2.2.1; have hS4 := hSW.2.2.2; clear hSW; go_simp; (try with_reducible rfl))
  change wpAnyH _ _ _ _ _ _ _ (Act.put _ (some 19) _) _
  simp only [Act.put, List.setIfInBounds_toArray, List.set_cons_zero, List.set_cons_succ]
  refine wpAnyH_take (i := 13) (v := ?v13) rfl (by kernel_rfl) (by kernel_rfl) (by kernel_rfl) (fun _ _ _ h => h) (Or.inl ⟨by kernel_rfl, ?y13⟩) hHeld ?r13
  case y13 => (intro W hSW; have hS1 := hSW.1; have hS2 := hSW.2.1; have hS3 := hSW.2.2.1; have hS4 := hSW.2.2.2; clear hSW; go_simp; (try with_reducible rfl))
  change wpAnyH _ _ _ _ _ _ _ (Act.put _ (some 20) _) _
  simp only [Act.put, List.setIfInBounds_toArray, List.set_cons_zero, List.set_cons_succ]
  refine wpAnyH_take (i := 14) (v := ?v14) rfl (by kernel_rfl) (by kernel_rfl) (by kernel_rfl) (fun _ _ _ h => h) (Or.inl ⟨by kernel_rfl, ?y14⟩) hHeld ?r14
  case y14 => (intro W hSW; have hS1 := hSW.1; have hS2 := hSW.2.1; have hS3 := hSW.2.2.1; have hS4 := hSW.2.2.2; clear hSW; go_simp; (try with_reducible rfl))
  change wpAnyH _ _ _ _ _ _ _ (Act.put _ (some 21) _) _
  simp only [Act.put, List.setIfInBounds_toArray, List.set_cons_zero, List.set_cons_succ]
  refine wpAnyH_ready (rs := [7]) (by kernel_rfl) (by simp) ?_
  refine AllReadyH.cons rfl (fun K hK => ?_) AllReadyH.nil
  go_simp
  refine (next_any x0 x1 x2 y2 _ z0 z2 u2).mono ?_
  rintro e w1 ⟨rfl, h⟩; subst w1
  refine hK.out _ _ (HS.out _ (Below.refl _ _).drew) (fun hHeld => ?_)
  clear hK K
  try simp only [Act.put, List.setIfInBounds_toArray, List.set_cons_zero, List.set_cons_succ]
  refine wpAnyH_ready (rs := [15]) (by kernel_rfl) (by simp) ?_
  refine AllReadyH.cons rfl (fun K hK => ?_) AllReadyH.nil
  go_simp
  refine (rnext_any x0 x1 x2 y2 _ z0 z1 z2 u2).mono ?_
  rintro e w1 ⟨rfl, h⟩; subst w1
  refine hK.out _ _ (HS.out _ (Below.refl _ _).drew) (fun hHeld => ?_)
  clear hK K
  try simp only [Act.put, List.setIfInBounds_toArray, List.set_cons_zero, List.set_cons_succ]
  refine wpAnyH_take (i := 16) (v := ?v16) rfl (by kernel_rfl) (by kernel_rfl) (by kernel_rfl) (fun _ _ _ h => h) (Or.inl ⟨by kernel_rfl, ?y16⟩) hHeld ?r16
  case y16 => (intro W hSW; have hS1 := hSW.1; have hS2 := hSW.2.1; have hS3 := hSW.2.2.1; have hS4 := hSW.2.2.2; clear hSW; go_simp; (try with_reducible rfl))
  change wpAnyH _ _ _ _ _ _ _ (Act.put _ (some 23) _) _
  simp only [Act.put, List.setIfInBounds_toArray, List.set_cons_zero, List.set_cons_succ]
  refine wpAnyH_take (i := 17) (v := ?v17) rfl (by kernel_rfl) (by kernel_rfl) (by kernel_rfl) (fun _ _ _ h => h) (Or.inl ⟨by kernel_rfl, ?y17⟩) hHeld ?r17
  case y17 => (intro W hSW; have hS1 := hSW.1; have hS2 := hSW.2.1; have hS3 := hSW.2.2.1; have hS4 := hSW.2.2.2; clear hSW; go_simp; (try with_reducible rfl))
  change wpAnyH _ _ _ _ _ _ _ (Act.put _ (some 24) _) _
  simp only [Act.put, List.setIfInBounds_toArray, List.set_cons_zero, List.set_cons_succ]
  refine wpAnyH_take (i := 18) (v := ?v18) rfl (by kernel_rfl) (by kernel_rfl) (by kernel_rfl) (fun _ _ _ h => h) (Or.inl ⟨by kernel_rfl, ?y18⟩) hHeld ?r18
  case y18 => (intro W hSW; have hS1 := hSW.1; have hS2 := hSW.2.1; have hS3 := hSW.2.2.1; have hS4 := hSW.2.2.2; clear hSW; go_simp; (try with_reducible rfl))
  change wpAnyH _ _ _ _ _ _ _ (Act.put _ (some 25) _) _
  simp only [Act.put, List.setIfInBounds_toArray, List.set_cons_zero, List.set_cons_succ]
  refine wpAnyH_take (i := 19) (v := ?v19) rfl (by kernel_rfl) (by kernel_rfl) (by kernel_rfl) (fun _ _ _ h => h) (Or.inl ⟨by kernel_rfl, ?y19⟩) hHeld ?r19
  case y19 => (intro W hSW; have hS1 := hSW.1; have hS2 := hSW.2.1; have hS3 := hSW.2.2.1; have hS4 := hSW.2.2.2; clear hSW; go_simp; (try with_reducible rfl))
  change wpAnyH _ _ _ _ _ _ _ (Act.put _ (some 26) _) _
  simp only [Act.put, List.setIfInBounds_toArray, List.set_cons_zero, List.set_cons_succ]
  refine wpAnyH_take (i := 20) (v := ?v20) rfl (by kernel_rfl) (by kernel_rfl) (by kernel_rfl) (fun _ _ _ h => h) (Or.inl ⟨by kernel_rfl, ?y20⟩) hHeld ?r20
  case y20 => (intro W hSW; have hS1 := hSW.1; have hS2 := hSW.2.1; have hS3 := hSW.2.2.1; have hS4 := hSW.2.2.2; clear hSW; go_simp; (try with_reducible rfl))
  change wpAnyH _ _ _ _ _ _ _ (Act.put _ (some 27) _) _
  simp only [Act.put, List.setIfInBounds_toArray, List.set_cons_zero, List.set_cons_succ]
  refine wpAnyH_take (i := 21) (v := ?v21) rfl (by kernel_rfl) (by kernel_rfl) (by kernel_rfl) (fun _ _ _ h => h) (Or.inl ⟨by kernel_rfl, ?y21⟩) hHeld ?r21
  case y21 => (intro W hSW; have hS1 := hSW.1; have hS2 := hSW.2.1; have hS3 := hSW.2.2.1; have hS4 := hSW.2.2.2; clear hSW; go_simp; (try with_reducible rfl))
  change wpAnyH _ _ _ _ _ _ _ (Act.put _ (some 28) _) _
  simp only [Act.put, List.setIfInBounds_toArray, List.set_cons_zero, List.set_cons_succ]
  refine wpAnyH_take (i := 22) (v := ?v22) rfl (by kernel_rfl) (by kernel_rfl) (by kernel_rfl) (fun _ _ _ h => h) (Or.inl ⟨by kernel_rfl, ?y22⟩) hHeld ?r22
  case y22 => (intro W hSW; have hS1 := hSW.1; have hS2 := hSW.2.1; have hS3 := hSW.2.2.1; have hS4 := hSW.2.2.2; clear hSW; go_simp; (try with_reducible rfl))
  change wpAnyH _ _ _ _ _ _ _ (Act.put _ (some 29) _) _
  simp only [Act.put, List.setIfInBounds_toArray, List.set_cons_zero, List.set_cons_succ]
  refine wpAnyH_take (i := 24) (v := ?v24) rfl (by kernel_rfl) (by kernel_rfl) (by kernel_rfl) (fun _ _ _ h => h) (Or.inl ⟨by kernel_rfl, ?y24⟩) hHeld ?r24
  case y24 => (intro W hSW; have hS1 := hSW.1; have hS2 := hSW.2.1; have hS3 := hSW.2.2.1; have hS4 := hSW.2.2.2; clear hSW; go_simp; (try with_reducible rfl))
  change wpAnyH _ _ _ _ _ _ _ (Act.put _ (some 31) _) _
  simp only [Act.put, List.setIfInBounds_toArray, List.set_cons_zero, List.set_cons_succ]
  refine wpAnyH_take (i := 25) (v := ?v25) rfl (by kernel_rfl) (by kernel_rfl) (by kernel_rfl) (fun _ _ _ h => h) (Or.inl ⟨by kernel_rfl, ?y25⟩) hHeld ?r25
  case y25 => (intro W hSW; have hS1 := hSW.1; have hS2 := hSW.2.1; have hS3 := hSW.2.2.1; have hS4 := hSW.2.2.2; clear hSW; go_simp; (try with_reducible rfl))
  change wpAnyH _ _ _ _ _ _ _ (Act.put _ (some 32) _) _
  simp only [Act.put, List.setIfInBounds_toArray, List.set_cons_zero, List.set_cons_succ]
  refine wpAnyH_take (i := 26) (v := ?v26) rfl (by kernel_rfl) (by kernel_rfl) (by kernel_rfl) (fun _ _ _ h => h) (Or.inl ⟨by kernel_rfl, ?y26⟩) hHeld ?r26
  case y26 => (intro W hSW; have hS1 := hSW.1; have hS2 := hSW.2.1; have hS3 := hSW.2.2.1; have hS4 := hSW.2.2.2; clear hSW; go_simp; (try with_reducible rfl))
  change wpAnyH _ _ _ _ _ _ _ (Act.put _ (some 33) _) _
  simp only [Act.put, List.setIfInBounds_toArray, List.set_cons_zero, List.set_cons_succ]
  refine wpAnyH_take (i := 27) (v := ?v27) rfl (by kernel_rfl) (by kernel_rfl) (by kernel_rfl) (fun _ _ _ h => h) (Or.inl ⟨by kernel_rfl, ?y27⟩) hHeld ?r27
  case y27 => (intro W hSW; have hS1 := hSW.1; have hS2 := hSW.2.1; have hS3 := hSW.2.2.1; have hS4 := hSW.2.2.2; clear hSW; go_simp; (try with_reducible rfl))
  change wpAnyH _ _ _ _ _ _ _ (Act.put _ (some 34) _) _
  simp only [Act.put, List.setIfInBounds_toArray, List.set_cons_zero, List.set_cons_succ]
  refine wpAnyH_take (i := 28) (v := ?v28) rfl (by kernel_rfl) (by kernel_rfl) (by kernel_rfl) (fun _ _ _ h => h) (Or.inl ⟨by kernel_rfl, ?y28⟩) hHeld ?r28
  case y28 => (intro W hSW; have hS1 := hSW.1; have hS2 := hSW.2.1; have hS3 := hSW.2.2.1; have hS4 := hSW.2.2.2; clear hSW; go_simp; (try with_reducible rfl))
  change wpAnyH _ _ _ _ _ _ _ (Act.put _ (some 35) _) _
  simp only [Act.put, List.setIfInBounds_toArray, List.set_cons_zero, List.set_cons_succ]
  refine wpAnyH_ready (rs := [23]) (by kernel_rfl) (by simp) ?_
  refine AllReadyH.cons rfl (fun K hK => ?_) AllReadyH.nil
  go_simp
  refine (join_any x0 y0 x1 _ z0 u0).mono ?_
  rintro e w1 ⟨rfl, h⟩; subst w1
  refine hK.out _ _ (HS.out _ (Below.refl _ _).drew) (fun hHeld => ?_)
  clear hK K
  try simp only [Act.put, List.setIfInBounds_toArray, List.set_cons_zero, List.set_cons_succ]
  refine wpAnyH_ready (rs := [29]) (by kernel_rfl) (by simp) ?_
  refine AllReadyH.cons rfl (fun K hK => ?_) AllReadyH.nil
  go_simp
  refine (rjoin_any x0 y0 x1 _ z0 u0 z1).mono ?_
  rintro e w1 ⟨rfl, h⟩; subst w1
  refine hK.out _ _ (HS.out _ (Below.refl _ _).drew) (fun hHeld => ?_)
  clear hK K
  try simp only [Act.put, List.setIfInBounds_toArray, List.set_cons_zero, List.set_cons_succ]
  refine wpAnyH_take (i := 30) (v := ?v30) rfl (by kernel_rfl) (by kernel_rfl) (by kernel_rfl) (fun _ _ _ h => h) (Or.inl ⟨by kernel_rfl, ?y30⟩) hHeld ?r30
  case y30 => (intro W hSW; have hS1 := hSW.1; have hS2 := hSW.2.1; have hS3 := hSW.2.2.1; have hS4 := hSW.2.2.2; clear hSW; go_simp; (try with_reducible rfl))
  change wpAnyH _ _ _ _ _ _ _ (Act.put _ (some 37) _) _
  simp only [Act.put, List.setIfInBounds_toArray, List.set_cons_zero, List.set_cons_succ]
  refine wpAnyH_take (i := 31) (v := ?v31) rfl (by kernel_rfl) (by kernel_rfl) (by kernel_rfl) (fun _ _ _ h => h) (Or.inl ⟨by kernel_rfl, ?y31⟩) hHeld ?r31
  case y31 => (intro W hSW; have hS1 := hSW.1; have hS2 := hSW.2.1; have hS3 := hSW.2.2.1; have hS4 := hSW.2.2.2; clear hSW; go_simp; (try with_reducible rfl))
  change wpAnyH _ _ _ _ _ _ _ (Act.put _ (some 38) _) _
  simp only [Act.put, List.setIfInBounds_toArray, List.set_cons_zero, List.set_cons_succ]
  refine wpAnyH_take (i := 32) (v := ?v32) rfl (by kernel_rfl) (by kernel_rfl) (by kernel_rfl) (fun _ _ _ h => h) (Or.inl ⟨by kernel_rfl, ?y32⟩) hHeld ?r32
  case y32 => (intro W hSW; have hS1 := hSW.1; have hS2 := hSW.2.1; have hS3 := hSW.2.2.1; have hS4 := hSW.2.2.2; clear hSW; go_simp; (try with_reducible rfl))
  change wpAnyH _ _ _ _ _ _ _ (Act.put _ (some 39) _) _
  simp only [Act.put, List.setIfInBounds_toArray, List.set_cons_zero, List.set_cons_succ]
  refine wpAnyH_ready (rs := [33]) (by kernel_rfl) (by simp) ?_
  refine AllReadyH.cons rfl (fun K hK => ?_) AllReadyH.nil
  go_simp
  refine (HLV.out _ HB1.out.drew).mono ?_
  rintro e w1 ⟨rfl, hb1, hb2⟩
  refine hK.out _ _ (HS.out _ ((Below.refl _ _).drew.trans hb2)) (fun hHeld => ?_)
  clear hK K
  try simp only [Act.put, List.setIfInBounds_toArray, List.set_cons_zero, List.set_cons_succ]
  refine wpAnyH_take (i := 34) (v := ?v34) rfl (by kernel_rfl) (by kernel_rfl) (by kernel_rfl) (fun _ _ _ h => h) (Or.inl ⟨by kernel_rfl, ?y34⟩) hHeld ?r34
  case y34 => (intro W hSW; have hS1 := hSW.1; have hS2 := hSW.2.1; have hS3 := hSW.2.2.1; have hS4 := hSW.2.2.2; clear hSW; go_simp; (try with_reducible rfl))
  change wpAnyH _ _ _ _ _ _ _ (Act.put _ (some 41) _) _
  simp only [Act.put, List.setIfInBounds_toArray, List.set_cons_zero, List.set_cons_succ]
  refine wpAnyH_take (i := 35) (v := ?v35) rfl (by kernel_rfl) (by kernel_rfl) (by kernel_rfl) (fun _ _ _ h => h) (Or.inl ⟨by kernel_rfl, ?y35⟩) hHeld ?r35
  case y35 => (intro W hSW; have hS1 := hSW.1; have hS2 := hSW.2.1; have hS3 := hSW.2.2.1; have hS4 := hSW.2.2.2; clear hSW; go_simp; (try with_reducible rfl))
  change wpAnyH _ _ _ _ _ _ _ (Act.put _ (some 6) _) _
  simp only [Act.put, List.setIfInBounds_toArray, List.set_cons_zero, List.set_cons_succ]
  refine wpAnyH_done (by kernel_rfl) ?_ _
  go_wp2
  go_ret
  exact ⟨rfl, hb1⟩

set_option linter.unusedVariables false in
set_option maxRecDepth 100000 in
theorem lifted (os : Os) (started : os.Started) (H : Type) (enc : TypeId × Value → H) :
    ReturnsInHanded {} Try.checked os 4 .any (Rows.rollNextsSpec.pre6 enc Try.prog Try.f4 Rows.rollNextsRow.domain false) (Rows.rollNextsSpec.post enc Try.prog Try.f4 false true false false) := by
  refine returnsInHanded_of_change (C := Try.checked) own started (by kernel_rfl) Try.func4
    (ChangeSpec.witness6 (enc := enc) (C := Try.checked) false ⟨#[], #[.agg #[.int .u32 0, .int .u32 0], .int .i64 0, .agg #[.int .u8 0, .int .u8 0]], []⟩ 8 (by kernel_rfl) (by kernel_rfl) (by kernel_rfl) (by kernel_rfl)) ?_
  intro W base args ds gs before hval0 hW hcnd _
  have hval : ∀ (j : Nat) t v, Try.f4.params[j]? = some t → args[j]? = some v → Value.okWide Try.prog W .any base t v := hval0
  have hW' := hW
  obtain ⟨p, q, hA0, hV, rfl, hfz, hnd⟩ := hW
  have hA : DataW.TrodAll enc Try.prog W 0 (fun _ => true) true Try.f4.params.toList args.toList ds p := hA0
  rw [Try.params4] at hA hval
  obtain ⟨v0, vs0, d0, ds0, p0, q0, hargs, rfl, rfl, h0, r0⟩ := trodAll_cons hA
  obtain ⟨v1, vs1, d1, ds1, p1, q1, rfl, rfl, rfl, h1, r1⟩ := trodAll_cons r0
  obtain ⟨v2, vs2, d2, ds2, p2, q2, rfl, rfl, rfl, h2, r2⟩ := trodAll_cons r1
  obtain ⟨rfl, rfl, rfl⟩ := trodAll_nil r2
  obtain rfl : args = #[v0, v1, v2] := by cases args; simp_all
  obtain ⟨rfl, rfl⟩ := trodVars_none hV
  have k0 := h0
  have lt0 : ∀ x ∈ p0, x.block < W.heap.size := by obtain ⟨m, hm⟩ := k0; exact DataW.trod_lt m _ _ _ hm
  obtain ⟨x0, y0, rfl, z0, u0⟩ := u32x2_of (hval 0 28 v0 rfl rfl) h0
  obtain ⟨x1, rfl, rfl, rfl, w1⟩ := open_int Try.underlying3 (hval 1 3 v1 rfl rfl) h1
  have k2 := h2
  have lt2 : ∀ x ∈ p2, x.block < W.heap.size := by obtain ⟨m, hm⟩ := k2; exact DataW.trod_lt m _ _ _ hm
  obtain ⟨x2, y2, rfl, z2, u2⟩ := u8x2_of (hval 2 29 v2 rfl rfl) h2
  clear hA0 hval0
  refine (walk x0 y0 z0 u0 x1 (wf_i64 w1) x2 y2 z2 u2 W ).mono fun e W' ⟨he, bel⟩ => ?_
  subst he
  exact ⟨_, rfl, _, _, _, [], _, [], hW', trodAll_mk1 (shut_bool Try.underlying4 _), (trodAll_cons_mk (Below.trod laidOut (by kernel_rfl) (of_decide_eq_true (by kernel_rfl)) k0 bel lt0) (trodAll_cons_mk (shut_int Try.underlying3 w1) (trodAll_cons_mk (Below.trod laidOut (by kernel_rfl) (of_decide_eq_true (by kernel_rfl)) k2 bel lt2) trodAll_mk0))), rfl, bel.frame _, fun h => by cases h⟩

theorem over : Rows.rollNextsRow.holds Try.pinned (OpenSpec.ofChange Rows.rollNextsSpec) :=
  OpenClaim.holds_of_wide 4 Try.f4 rfl rfl rfl rfl rfl rfl rfl ⟨rfl, rfl, rfl, rfl, rfl⟩ rfl rfl rfl rfl rfl (by kernel_rfl) Try.func4 (by kernel_rfl)
    (of_decide_eq_true (by kernel_rfl)) (by unfold Func.isWrapper; first | (rw [if_pos (by decide +kernel)]; kernel_rfl) | (rw [if_neg (by decide +kernel)]; exact ⟨rfl, rfl⟩))
    (fun os started H enc _ => lifted os started H enc)

end Go.Proofs.Yteiigaoniipedaa.rollNexts
namespace Go.Proofs.Yteiigaoniipedaa
/-- The given statement. -/
theorem rollNexts_holds : Rows.RollNextsSaid := rollNexts.over
#print axioms rollNexts_holds
end Go.Proofs.Yteiigaoniipedaa
