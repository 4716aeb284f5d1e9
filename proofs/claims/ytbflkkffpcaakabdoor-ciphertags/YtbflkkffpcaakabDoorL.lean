/- Walk over the program's mixed. -/
import Derived.Test.YtbflkkffpcaakabDoorK
namespace Go.Proofs.YtbflkkffpcaakabDoor
open Go.RowKit
theorem not32 (e : Nat) (he : e < 4294967296) : 4294967295 ^^^ e = 4294967295 - e := by
  apply Nat.eq_of_testBit_eq
  intro i
  have h := Nat.testBit_two_pow_sub_succ (n := 32) (x := e) he i
  rw [show (4294967295 : Nat) - e = 2 ^ 32 - (e + 1) by omega, h, Nat.testBit_xor, show (4294967295 : Nat) = 2 ^ 32 - 1 from rfl, Nat.testBit_two_pow_sub_one]
  by_cases hi : i < 32
  · simp [hi]
  · have : e.testBit i = false := Nat.testBit_lt_two_pow (Nat.lt_of_lt_of_le he (Nat.pow_le_pow_right (n := 2) (by omega) (show 32 ≤ i by omega)))
    simp [hi, this]
theorem run_index8 (Z : List Nat) (hZ : Z.length = 8) (t : Nat) (ht : t < 8) (w : World) : (Instr.index 63 (.agg (u32v Z)) (.int .i64 (t : Int))).run Tryd.prog w = .ok (.int .u32 ((Z.getD t 0 : Nat) : Int)) w := by
  have h1 : (sizeOf 32).run Tryd.prog w = .ok 1 w := by kernel_rfl
  have h4 := u32v_get Z t (by omega)
  simp [Instr.index, asIntOf, run_underlying Tryd.underlying63, h1, part, h4]
  omega
/-- The memory of mixed: the state's copy, the result, the words. -/
structure MixedW (g gw : Nat) (w0 : World) (ss rs ws : List Nat) (wr : World) : Prop where
  sc : wr.heap[g]? = some (.cells (u32v ss) 63 (0, 0))
  rc : wr.heap[g + 1]? = some (.cells (u32v rs) 63 (0, 0))
  wc : wr.heap[gw]? = some (.cells (u32v ws) 74 (0, 0))
  hg : g + 2 ≤ gw
  bl : Below g w0 wr
section
variable {g gw : Nat} {w0 wr : World} {ss rs ws : List Nat}
theorem MixedW.drew (h : MixedW g gw w0 ss rs ws wr) : MixedW g gw w0 ss rs ws wr.drew := ⟨h.sc, h.rc, h.wc, h.hg, h.bl.drew⟩
theorem MixedW.scell (h : MixedW g gw w0 ss rs ws wr) (i : Nat) (hi : i < ss.length) : wr.cell? ⟨g, i, none⟩ = some (.int .u32 ((ss.getD i 0 : Nat) : Int)) := by
  rw [cell_of_row wr g i _ _ _ h.sc, u32v_get ss i hi]
theorem MixedW.rcell (h : MixedW g gw w0 ss rs ws wr) (i : Nat) (hi : i < rs.length) : wr.cell? ⟨g + 1, i, none⟩ = some (.int .u32 ((rs.getD i 0 : Nat) : Int)) := by
  rw [cell_of_row wr (g + 1) i _ _ _ h.rc, u32v_get rs i hi]
theorem MixedW.wcell (h : MixedW g gw w0 ss rs ws wr) (i : Nat) (hi : i < ws.length) : wr.cell? ⟨gw, i, none⟩ = some (.int .u32 ((ws.getD i 0 : Nat) : Int)) := by
  rw [cell_of_row wr gw i _ _ _ h.wc, u32v_get ws i hi]
theorem MixedW.sfro (h : MixedW g gw w0 ss rs ws wr) (i : Nat) : wr.frozen? ⟨g, i, none⟩ = false := frozen_of_row wr g i _ _ h.sc
theorem MixedW.rfro (h : MixedW g gw w0 ss rs ws wr) (i : Nat) : wr.frozen? ⟨g + 1, i, none⟩ = false := frozen_of_row wr (g + 1) i _ _ h.rc
theorem MixedW.sput (h : MixedW g gw w0 ss rs ws wr) (i x : Nat) : MixedW g gw w0 (ss.set i x) rs ws (wr.setCell ⟨g, i, none⟩ (.int .u32 (x : Int))) := by
  have := h.hg
  refine ⟨?_, ?_, ?_, h.hg, ?_⟩
  · rw [heap_setCell_same wr g i _ _ _ h.sc, u32v_set]
  · rw [heap_setCell_other _ _ _ _ (by show g + 1 ≠ g; omega)]; exact h.rc
  · rw [heap_setCell_other _ _ _ _ (by show gw ≠ g; omega)]; exact h.wc
  · exact h.bl.setCell (by show g ≤ g; omega) _
theorem MixedW.rput (h : MixedW g gw w0 ss rs ws wr) (i x : Nat) : MixedW g gw w0 ss (rs.set i x) ws (wr.setCell ⟨g + 1, i, none⟩ (.int .u32 (x : Int))) := by
  have := h.hg
  refine ⟨?_, ?_, ?_, h.hg, ?_⟩
  · rw [heap_setCell_other _ _ _ _ (by show g ≠ g + 1; omega)]; exact h.sc
  · rw [heap_setCell_same wr (g + 1) i _ _ _ h.rc, u32v_set]
  · rw [heap_setCell_other _ _ _ _ (by show gw ≠ g + 1; omega)]; exact h.wc
  · exact h.bl.setCell (by show g ≤ g + 1; omega) _
end
/-- The memory behind the call of spread. -/
theorem MixedW.start (w w1 : World) (ss rs ws zs : List Nat) (h : Below (w.heap.size + 1 + 1) ((w.alloc (.cells (u32v ss) 63)).alloc (.cells (u32v rs) 63)) w1) :
    MixedW w.heap.size w1.heap.size w ss rs ws ((w1.alloc (.cells (u32v zs) 74)).setRow w1.heap.size (u32v ws)) := by
  have sz : ∀ (w : World) (o : Obj), (w.alloc o).heap.size = w.heap.size + 1 := fun w o => by simp
  have hs := h.size
  simp only [sz] at hs
  refine ⟨?_, ?_, ?_, by omega, ?_⟩
  · rw [setRow_other _ _ _ _ (by omega), Go.heap_alloc_old _ _ (by omega), h.block _ (by omega), Go.heap_alloc_old _ _ (by simp only [sz]; omega)]; exact heap_alloc_new _ _
  · rw [setRow_other _ _ _ _ (by omega), Go.heap_alloc_old _ _ (by omega), h.block _ (by omega)]
    exact sz w _ ▸ heap_alloc_new _ _
  · exact setRow_heap _ _ _ _ _ _ (heap_alloc_new _ _)
  · refine below_setRow (Below.alloc (Below.trans ?_ (h.mono (by omega))) (by omega) _) _ (by omega) _
    exact ((Below.refl _ w).alloc (by omega) _).alloc (by simp only [sz]; omega) _

set_option maxRecDepth 100000 in
set_option maxHeartbeats 4000000 in
theorem mixed_any (x : Addr) (cap : Nat) (bs : List UInt8) (s0 s1 s2 s3 s4 s5 s6 s7 : Nat) (w : World) (hsw : Wd [s0, s1, s2, s3, s4, s5, s6, s7]) (hxb : x.block < w.heap.size) (hB : ∀ i, i < 64 → w.cell? (x.add i) = some (.int .u8 (((bs.getD i 0).toNat : Nat) : Int)))
    (hK : ∀ i, i < 64 → w.cell? ⟨2, i, none⟩ = some (.int .u32 ((kL.getD i 0 : Nat) : Int))) :
    Calls Tryd.prog 32 #[.agg (u32v [s0, s1, s2, s3, s4, s5, s6, s7]), .slice (some x) 64 cap] w fun e w' => e = .returned (.agg (u32v (mixL kL [s0, s1, s2, s3, s4, s5, s6, s7] bs))) ∧ Below w.heap.size w w' := by
  have HB : Hid (∀ i, i < 64 → w.cell? (x.add i) = some (.int .u8 (((bs.getD i 0).toNat : Nat) : Int))) := hB
  have HK : Hid (∀ i, i < 64 → w.cell? ⟨2, i, none⟩ = some (.int .u32 ((kL.getD i 0 : Nat) : Int))) := hK
  have h1g : 2 < w.heap.size := block_lt_of_cell (hK 0 (by omega))
  have HS : Hid (Wd [s0, s1, s2, s3, s4, s5, s6, s7]) := hsw
  obtain ⟨ss, hss⟩ : ∃ ss, ss = [s0, s1, s2, s3, s4, s5, s6, s7] := ⟨_, rfl⟩
  have HSS : Hid (ss = [s0, s1, s2, s3, s4, s5, s6, s7]) := hss
  obtain ⟨WS, hWS⟩ : ∃ WS, schedL (wordsOf bs) 48 = WS := ⟨_, rfl⟩
  have HWE : Hid (schedL (wordsOf bs) 48 = WS) := hWS
  have HWL : Hid (WS.length = 64) := by show WS.length = 64; rw [← hWS, schedL_len, wordsOf_len]
  have HWS : Hid (Wd WS) := by show Wd WS; rw [← hWS]; exact schedL_wd (wordsOf_wd bs) 48
  have HI : Hid ((Tryd.prog.info? 74).map (·.size) = some (u32v WS).size) := by show _ = _; rw [u32v_size, HWL.out]; kernel_rfl
  have HSP : Hid (∀ W, Below w.heap.size w W → Calls Tryd.prog 35 #[.slice (some x) 64 cap] W fun e w' => e = .returned (.agg (u32v WS)) ∧ Below W.heap.size W w') := by
    intro W hW
    have := spread_any x cap bs W (Nat.lt_of_lt_of_le hxb hW.size) (fun i hi => by rw [hW.cell (by rw [add_block]; exact hxb)]; exact hB i hi)
    rw [hWS] at this
    exact this
  rw [← hss]
  clear hss hWS hB hK hsw
  have HB2 : Hid (Below w.heap.size w ((w.alloc (.cells (u32v ss) 63)).alloc (.cells (u32v (List.replicate 8 0)) 63))) := ((Below.refl _ w).alloc (by omega) _).alloc (by simp) _
  go_enter Tryd.func32, Tryd.ntmps32
  go_wp2_with fail
  refine (HSP.out _ HB2.out).mono ?_
  rintro e w1 ⟨rfl, hw1⟩
  have HR : Hid (MixedW w.heap.size w1.heap.size w ss (List.replicate 8 0) WS ((w1.alloc (.cells (u32v (List.replicate 64 0)) 74)).setRow w1.heap.size (u32v WS))) := MixedW.start w w1 ss (List.replicate 8 0) WS (List.replicate 64 0) (hw1.mono (by simp))
  clear HB2 hw1 HSP
  go_wp2_with (refine wpList_store_row rfl 74 _ _ rfl w1.heap.size (u32v WS) rfl rfl 74 (u32v (List.replicate 64 0)) (heap_alloc_new _ _) HI.out (by rw [u32v_size, u32v_size, HWL.out]; rfl) (u32v_all _) ?_)
  have HR : Hid (MixedW w.heap.size w1.heap.size w ss (List.replicate 8 0) WS ((w1.alloc (.cells #[Value.int IntKind.u32 0, Value.int IntKind.u32 0, Value.int IntKind.u32 0, Value.int IntKind.u32 0, Value.int IntKind.u32 0, Value.int IntKind.u32 0, Value.int IntKind.u32 0, Value.int IntKind.u32 0, Value.int IntKind.u32 0, Value.int IntKind.u32 0, Value.int IntKind.u32 0, Value.int IntKind.u32 0, Value.int IntKind.u32 0, Value.int IntKind.u32 0, Value.int IntKind.u32 0, Value.int IntKind.u32 0, Value.int IntKind.u32 0, Value.int IntKind.u32 0, Value.int IntKind.u32 0, Value.int IntKind.u32 0, Value.int IntKind.u32 0, Value.int IntKind.u32 0, Value.int IntKind.u32 0, Value.int IntKind.u32 0, Value.int IntKind.u32 0, Value.int IntKind.u32 0, Value.int IntKind.u32 0, Value.int IntKind.u32 0, Value.int IntKind.u32 0, Value.int IntKind.u32 0, Value.int IntKind.u32 0, Value.int IntKind.u32 0, Value.int IntKind.u32 0, Value.int IntKind.u32 0, Value.int IntKind.u32 0, Value.int IntKind.u32 0, Value.int IntKind.u32 0, Value.int IntKind.u32 0, Value.int IntKind.u32 0, Value.int IntKind.u32 0, Value.int IntKind.u32 0, Value.int IntKind.u32 0, Value.int IntKind.u32 0, Value.int IntKind.u32 0, Value.int IntKind.u32 0, Value.int IntKind.u32 0, Value.int IntKind.u32 0, Value.int IntKind.u32 0, Value.int IntKind.u32 0, Value.int IntKind.u32 0, Value.int IntKind.u32 0, Value.int IntKind.u32 0, Value.int IntKind.u32 0, Value.int IntKind.u32 0, Value.int IntKind.u32 0, Value.int IntKind.u32 0, Value.int IntKind.u32 0, Value.int IntKind.u32 0, Value.int IntKind.u32 0, Value.int IntKind.u32 0, Value.int IntKind.u32 0, Value.int IntKind.u32 0, Value.int IntKind.u32 0, Value.int IntKind.u32 0] 74)).setRow w1.heap.size (u32v WS))) := HR
  revert HR
  generalize (w1.alloc (.cells #[Value.int IntKind.u32 0, Value.int IntKind.u32 0, Value.int IntKind.u32 0, Value.int IntKind.u32 0, Value.int IntKind.u32 0, Value.int IntKind.u32 0, Value.int IntKind.u32 0, Value.int IntKind.u32 0, Value.int IntKind.u32 0, Value.int IntKind.u32 0, Value.int IntKind.u32 0, Value.int IntKind.u32 0, Value.int IntKind.u32 0, Value.int IntKind.u32 0, Value.int IntKind.u32 0, Value.int IntKind.u32 0, Value.int IntKind.u32 0, Value.int IntKind.u32 0, Value.int IntKind.u32 0, Value.int IntKind.u32 0, Value.int IntKind.u32 0, Value.int IntKind.u32 0, Value.int IntKind.u32 0, Value.int IntKind.u32 0, Value.int IntKind.u32 0, Value.int IntKind.u32 0, Value.int IntKind.u32 0, Value.int IntKind.u32 0, Value.int IntKind.u32 0, Value.int IntKind.u32 0, Value.int IntKind.u32 0, Value.int IntKind.u32 0, Value.int IntKind.u32 0, Value.int IntKind.u32 0, Value.int IntKind.u32 0, Value.int IntKind.u32 0, Value.int IntKind.u32 0, Value.int IntKind.u32 0, Value.int IntKind.u32 0, Value.int IntKind.u32 0, Value.int IntKind.u32 0, Value.int IntKind.u32 0, Value.int IntKind.u32 0, Value.int IntKind.u32 0, Value.int IntKind.u32 0, Value.int IntKind.u32 0, Value.int IntKind.u32 0, Value.int IntKind.u32 0, Value.int IntKind.u32 0, Value.int IntKind.u32 0, Value.int IntKind.u32 0, Value.int IntKind.u32 0, Value.int IntKind.u32 0, Value.int IntKind.u32 0, Value.int IntKind.u32 0, Value.int IntKind.u32 0, Value.int IntKind.u32 0, Value.int IntKind.u32 0, Value.int IntKind.u32 0, Value.int IntKind.u32 0, Value.int IntKind.u32 0, Value.int IntKind.u32 0, Value.int IntKind.u32 0, Value.int IntKind.u32 0] 74)).setRow w1.heap.size (u32v WS) = wr0
  intro HR
  rw [HSS.out] at HR
  have z0 : wr0.cell? ⟨w.heap.size, 0, none⟩ = some (.int .u32 (s0 : Int)) := HR.out.scell 0 (by simp)
  have z1 : wr0.cell? ⟨w.heap.size, 1, none⟩ = some (.int .u32 (s1 : Int)) := HR.out.scell 1 (by simp)
  have z2 : wr0.cell? ⟨w.heap.size, 2, none⟩ = some (.int .u32 (s2 : Int)) := HR.out.scell 2 (by simp)
  have z3 : wr0.cell? ⟨w.heap.size, 3, none⟩ = some (.int .u32 (s3 : Int)) := HR.out.scell 3 (by simp)
  have z4 : wr0.cell? ⟨w.heap.size, 4, none⟩ = some (.int .u32 (s4 : Int)) := HR.out.scell 4 (by simp)
  have z5 : wr0.cell? ⟨w.heap.size, 5, none⟩ = some (.int .u32 (s5 : Int)) := HR.out.scell 5 (by simp)
  have z6 : wr0.cell? ⟨w.heap.size, 6, none⟩ = some (.int .u32 (s6 : Int)) := HR.out.scell 6 (by simp)
  have z7 : wr0.cell? ⟨w.heap.size, 7, none⟩ = some (.int .u32 (s7 : Int)) := HR.out.scell 7 (by simp)
  refine wp_region_held_drew (S := fun W => W.cell? ⟨w.heap.size, 0, none⟩ = some (.int .u32 (s0 : Int)) ∧ W.cell? ⟨w.heap.size, 1, none⟩ = some (.int .u32 (s1 : Int)) ∧ W.cell? ⟨w.heap.size, 2, none⟩ = some (.int .u32 (s2 : Int)) ∧ W.cell? ⟨w.heap.size, 3, none⟩ = some (.int .u32 (s3 : Int))) (by kernel_rfl) (⟨z0, z1, z2, z3⟩) (fun hHeld => ?_)
  refine wpAnyH_take (i := 0) (v := ?vg2_0) rfl (by kernel_rfl) (by kernel_rfl) (by kernel_rfl) (fun _ _ _ h => h) (Or.inl ⟨by kernel_rfl, ?yg2_0⟩) hHeld ?rg2_0
  case yg2_0 => (intro W hSW; (try dsimp only at hSW); go_simp; (try with_reducible rfl))
  change wpAnyH _ _ _ _ _ _ _ (Act.put _ (some 21) _) _
  simp only [Act.put, List.setIfInBounds_toArray, List.set_cons_zero, List.set_cons_succ]
  refine wpAnyH_take (i := 1) (v := ?vg2_1) rfl (by kernel_rfl) (by kernel_rfl) (by kernel_rfl) (fun _ _ _ h => h) (Or.inl ⟨by kernel_rfl, ?yg2_1⟩) hHeld ?rg2_1
  case yg2_1 => (intro W hSW; (try dsimp only at hSW); go_simp; (try with_reducible rfl))
  change wpAnyH _ _ _ _ _ _ _ (Act.put _ (some 22) _) _
  simp only [Act.put, List.setIfInBounds_toArray, List.set_cons_zero, List.set_cons_succ]
  refine wpAnyH_take (i := 2) (v := ?vg2_2) rfl (by kernel_rfl) (by kernel_rfl) (by kernel_rfl) (fun _ _ _ h => h) (Or.inl ⟨by kernel_rfl, ?yg2_2⟩) hHeld ?rg2_2
  case yg2_2 => (intro W hSW; (try dsimp only at hSW); go_simp; (try with_reducible rfl))
  change wpAnyH _ _ _ _ _ _ _ (Act.put _ (some 23) _) _
  simp only [Act.put, List.setIfInBounds_toArray, List.set_cons_zero, List.set_cons_succ]
  refine wpAnyH_take (i := 3) (v := ?vg2_3) rfl (by kernel_rfl) (by kernel_rfl) (by kernel_rfl) (fun _ _ _ h => h) (Or.inl ⟨by kernel_rfl, ?yg2_3⟩) hHeld ?rg2_3
  case yg2_3 => (intro W hSW; (try dsimp only at hSW); go_simp; (try with_reducible rfl))
  change wpAnyH _ _ _ _ _ _ _ (Act.put _ (some 24) _) _
  simp only [Act.put, List.setIfInBounds_toArray, List.set_cons_zero, List.set_cons_succ]
  refine wpAnyH_take (i := 4) (v := ?vg2_4) rfl (by kernel_rfl) (by kernel_rfl) (by kernel_rfl) (fun _ _ _ h => h) (Or.inl ⟨by kernel_rfl, ?yg2_4⟩) hHeld ?rg2_4
  case yg2_4 => (intro W hSW; (try dsimp only at hSW); go_simp; (try with_reducible rfl))
  change wpAnyH _ _ _ _ _ _ _ (Act.put _ (some 25) _) _
  simp only [Act.put, List.setIfInBounds_toArray, List.set_cons_zero, List.set_cons_succ]
  refine wpAnyH_take (i := 5) (v := ?vg2_5) rfl (by kernel_rfl) (by kernel_rfl) (by kernel_rfl) (fun _ _ _ h => h) (Or.inl ⟨by kernel_rfl, ?yg2_5⟩) hHeld ?rg2_5
  case yg2_5 => (intro W hSW; (try dsimp only at hSW); go_simp; (try with_reducible rfl))
  change wpAnyH _ _ _ _ _ _ _ (Act.put _ (some 26) _) _
  simp only [Act.put, List.setIfInBounds_toArray, List.set_cons_zero, List.set_cons_succ]
  refine wpAnyH_take (i := 6) (v := ?vg2_6) rfl (by kernel_rfl) (by kernel_rfl) (by kernel_rfl) (fun _ _ _ h => h) (Or.inl ⟨by kernel_rfl, ?yg2_6⟩) hHeld ?rg2_6
  case yg2_6 => (intro W hSW; (try dsimp only at hSW); go_simp; (try with_reducible rfl))
  change wpAnyH _ _ _ _ _ _ _ (Act.put _ (some 27) _) _
  simp only [Act.put, List.setIfInBounds_toArray, List.set_cons_zero, List.set_cons_succ]
  refine wpAnyH_take (i := 7) (v := ?vg2_7) rfl (by kernel_rfl) (by kernel_rfl) (by kernel_rfl) (fun _ _ _ h => h) (Or.inl ⟨by kernel_rfl, ?yg2_7⟩) hHeld ?rg2_7
  case yg2_7 => (intro W hSW; (try dsimp only at hSW); go_simp; (try with_reducible rfl))
  change wpAnyH _ _ _ _ _ _ _ (Act.put _ (some 28) _) _
  simp only [Act.put, List.setIfInBounds_toArray, List.set_cons_zero, List.set_cons_succ]
  refine wpAnyH_take (i := 8) (v := ?vg2_8) rfl (by kernel_rfl) (by kernel_rfl) (by kernel_rfl) (fun _ _ _ h => h) (Or.inl ⟨by kernel_rfl, ?yg2_8⟩) hHeld ?rg2_8
  case yg2_8 => (intro W hSW; (try dsimp only at hSW); go_simp; (try with_reducible rfl))
  change wpAnyH _ _ _ _ _ _ _ (Act.put _ (some 6) _) _
  simp only [Act.put, List.setIfInBounds_toArray, List.set_cons_zero, List.set_cons_succ]
  refine wpAnyH_take (i := 9) (v := ?vg2_9) rfl (by kernel_rfl) (by kernel_rfl) (by kernel_rfl) (fun _ _ _ h => h) (Or.inl ⟨by kernel_rfl, ?yg2_9⟩) hHeld ?rg2_9
  case yg2_9 => (intro W hSW; (try dsimp only at hSW); go_simp; (try with_reducible rfl))
  change wpAnyH _ _ _ _ _ _ _ (Act.put _ (some 7) _) _
  simp only [Act.put, List.setIfInBounds_toArray, List.set_cons_zero, List.set_cons_succ]
  refine wpAnyH_take (i := 10) (v := ?vg2_10) rfl (by kernel_rfl) (by kernel_rfl) (by kernel_rfl) (fun _ _ _ h => h) (Or.inl ⟨by kernel_rfl, ?yg2_10⟩) hHeld ?rg2_10
  case yg2_10 => (intro W hSW; (try dsimp only at hSW); go_simp; (try with_reducible rfl))
  change wpAnyH _ _ _ _ _ _ _ (Act.put _ (some 8) _) _
  simp only [Act.put, List.setIfInBounds_toArray, List.set_cons_zero, List.set_cons_succ]
  refine wpAnyH_take (i := 11) (v := ?vg2_11) rfl (by kernel_rfl) (by kernel_rfl) (by kernel_rfl) (fun _ _ _ h => h) (Or.inl ⟨by kernel_rfl, ?yg2_11⟩) hHeld ?rg2_11
  case yg2_11 => (intro W hSW; (try dsimp only at hSW); go_simp; (try with_reducible rfl))
  change wpAnyH _ _ _ _ _ _ _ (Act.put _ (some 9) _) _
  simp only [Act.put, List.setIfInBounds_toArray, List.set_cons_zero, List.set_cons_succ]
  refine wpAnyH_done (by kernel_rfl) ?_ _
  go_wp2
  refine wp_region_held_drew (S := fun W => W.cell? ⟨w.heap.size, 4, none⟩ = some (.int .u32 (s4 : Int)) ∧ W.cell? ⟨w.heap.size, 5, none⟩ = some (.int .u32 (s5 : Int)) ∧ W.cell? ⟨w.heap.size, 6, none⟩ = some (.int .u32 (s6 : Int)) ∧ W.cell? ⟨w.heap.size, 7, none⟩ = some (.int .u32 (s7 : Int))) (by kernel_rfl) (⟨z4, z5, z6, z7⟩) (fun hHeld => ?_)
  refine wpAnyH_take (i := 0) (v := ?vg3_0) rfl (by kernel_rfl) (by kernel_rfl) (by kernel_rfl) (fun _ _ _ h => h) (Or.inl ⟨by kernel_rfl, ?yg3_0⟩) hHeld ?rg3_0
  case yg3_0 => (intro W hSW; (try dsimp only at hSW); go_simp; (try with_reducible rfl))
  change wpAnyH _ _ _ _ _ _ _ (Act.put _ (some 29) _) _
  simp only [Act.put, List.setIfInBounds_toArray, List.set_cons_zero, List.set_cons_succ]
  refine wpAnyH_take (i := 1) (v := ?vg3_1) rfl (by kernel_rfl) (by kernel_rfl) (by kernel_rfl) (fun _ _ _ h => h) (Or.inl ⟨by kernel_rfl, ?yg3_1⟩) hHeld ?rg3_1
  case yg3_1 => (intro W hSW; (try dsimp only at hSW); go_simp; (try with_reducible rfl))
  change wpAnyH _ _ _ _ _ _ _ (Act.put _ (some 30) _) _
  simp only [Act.put, List.setIfInBounds_toArray, List.set_cons_zero, List.set_cons_succ]
  refine wpAnyH_take (i := 2) (v := ?vg3_2) rfl (by kernel_rfl) (by kernel_rfl) (by kernel_rfl) (fun _ _ _ h => h) (Or.inl ⟨by kernel_rfl, ?yg3_2⟩) hHeld ?rg3_2
  case yg3_2 => (intro W hSW; (try dsimp only at hSW); go_simp; (try with_reducible rfl))
  change wpAnyH _ _ _ _ _ _ _ (Act.put _ (some 31) _) _
  simp only [Act.put, List.setIfInBounds_toArray, List.set_cons_zero, List.set_cons_succ]
  refine wpAnyH_take (i := 3) (v := ?vg3_3) rfl (by kernel_rfl) (by kernel_rfl) (by kernel_rfl) (fun _ _ _ h => h) (Or.inl ⟨by kernel_rfl, ?yg3_3⟩) hHeld ?rg3_3
  case yg3_3 => (intro W hSW; (try dsimp only at hSW); go_simp; (try with_reducible rfl))
  change wpAnyH _ _ _ _ _ _ _ (Act.put _ (some 32) _) _
  simp only [Act.put, List.setIfInBounds_toArray, List.set_cons_zero, List.set_cons_succ]
  refine wpAnyH_take (i := 4) (v := ?vg3_4) rfl (by kernel_rfl) (by kernel_rfl) (by kernel_rfl) (fun _ _ _ h => h) (Or.inl ⟨by kernel_rfl, ?yg3_4⟩) hHeld ?rg3_4
  case yg3_4 => (intro W hSW; (try dsimp only at hSW); go_simp; (try with_reducible rfl))
  change wpAnyH _ _ _ _ _ _ _ (Act.put _ (some 33) _) _
  simp only [Act.put, List.setIfInBounds_toArray, List.set_cons_zero, List.set_cons_succ]
  refine wpAnyH_take (i := 5) (v := ?vg3_5) rfl (by kernel_rfl) (by kernel_rfl) (by kernel_rfl) (fun _ _ _ h => h) (Or.inl ⟨by kernel_rfl, ?yg3_5⟩) hHeld ?rg3_5
  case yg3_5 => (intro W hSW; (try dsimp only at hSW); go_simp; (try with_reducible rfl))
  change wpAnyH _ _ _ _ _ _ _ (Act.put _ (some 34) _) _
  simp only [Act.put, List.setIfInBounds_toArray, List.set_cons_zero, List.set_cons_succ]
  refine wpAnyH_take (i := 6) (v := ?vg3_6) rfl (by kernel_rfl) (by kernel_rfl) (by kernel_rfl) (fun _ _ _ h => h) (Or.inl ⟨by kernel_rfl, ?yg3_6⟩) hHeld ?rg3_6
  case yg3_6 => (intro W hSW; (try dsimp only at hSW); go_simp; (try with_reducible rfl))
  change wpAnyH _ _ _ _ _ _ _ (Act.put _ (some 35) _) _
  simp only [Act.put, List.setIfInBounds_toArray, List.set_cons_zero, List.set_cons_succ]
  refine wpAnyH_take (i := 7) (v := ?vg3_7) rfl (by kernel_rfl) (by kernel_rfl) (by kernel_rfl) (fun _ _ _ h => h) (Or.inl ⟨by kernel_rfl, ?yg3_7⟩) hHeld ?rg3_7
  case yg3_7 => (intro W hSW; (try dsimp only at hSW); go_simp; (try with_reducible rfl))
  change wpAnyH _ _ _ _ _ _ _ (Act.put _ (some 36) _) _
  simp only [Act.put, List.setIfInBounds_toArray, List.set_cons_zero, List.set_cons_succ]
  refine wpAnyH_take (i := 8) (v := ?vg3_8) rfl (by kernel_rfl) (by kernel_rfl) (by kernel_rfl) (fun _ _ _ h => h) (Or.inl ⟨by kernel_rfl, ?yg3_8⟩) hHeld ?rg3_8
  case yg3_8 => (intro W hSW; (try dsimp only at hSW); go_simp; (try with_reducible rfl))
  change wpAnyH _ _ _ _ _ _ _ (Act.put _ (some 10) _) _
  simp only [Act.put, List.setIfInBounds_toArray, List.set_cons_zero, List.set_cons_succ]
  refine wpAnyH_take (i := 9) (v := ?vg3_9) rfl (by kernel_rfl) (by kernel_rfl) (by kernel_rfl) (fun _ _ _ h => h) (Or.inl ⟨by kernel_rfl, ?yg3_9⟩) hHeld ?rg3_9
  case yg3_9 => (intro W hSW; (try dsimp only at hSW); go_simp; (try with_reducible rfl))
  change wpAnyH _ _ _ _ _ _ _ (Act.put _ (some 11) _) _
  simp only [Act.put, List.setIfInBounds_toArray, List.set_cons_zero, List.set_cons_succ]
  refine wpAnyH_take (i := 10) (v := ?vg3_10) rfl (by kernel_rfl) (by kernel_rfl) (by kernel_rfl) (fun _ _ _ h => h) (Or.inl ⟨by kernel_rfl, ?yg3_10⟩) hHeld ?rg3_10
  case yg3_10 => (intro W hSW; (try dsimp only at hSW); go_simp; (try with_reducible rfl))
  change wpAnyH _ _ _ _ _ _ _ (Act.put _ (some 12) _) _
  simp only [Act.put, List.setIfInBounds_toArray, List.set_cons_zero, List.set_cons_succ]
  refine wpAnyH_take (i := 11) (v := ?vg3_11) rfl (by kernel_rfl) (by kernel_rfl) (by kernel_rfl) (fun _ _ _ h => h) (Or.inl ⟨by kernel_rfl, ?yg3_11⟩) hHeld ?rg3_11
  case yg3_11 => (intro W hSW; (try dsimp only at hSW); go_simp; (try with_reducible rfl))
  change wpAnyH _ _ _ _ _ _ _ (Act.put _ (some 13) _) _
  simp only [Act.put, List.setIfInBounds_toArray, List.set_cons_zero, List.set_cons_succ]
  refine wpAnyH_done (by kernel_rfl) ?_ _
  go_wp2
  go_loopw [6, 7, 8, 9, 10, 11, 12, 13, 37] (fun a b c d e f g h i wr => ∃ (t A B C D E F' G' H : Nat), t ≤ 64 ∧ i = .int .i64 t ∧ a = .int .u32 (A : Int) ∧ b = .int .u32 (B : Int) ∧ c = .int .u32 (C : Int) ∧ d = .int .u32 (D : Int) ∧ e = .int .u32 (E : Int) ∧ f = .int .u32 (F' : Int) ∧ g = .int .u32 (G' : Int) ∧ h = .int .u32 (H : Int) ∧ rnds kL WS t [s0, s1, s2, s3, s4, s5, s6, s7] = [A, B, C, D, E, F', G', H] ∧ MixedW w.heap.size w1.heap.size w [s0, s1, s2, s3, s4, s5, s6, s7] (List.replicate 8 0) WS wr) (fun _ _ _ _ _ _ _ _ i _ => 64 - (intOf i).toNat)
  case atStart => exact ⟨0, s0, s1, s2, s3, s4, s5, s6, s7, by omega, rfl, rfl, rfl, rfl, rfl, rfl, rfl, rfl, rfl, rfl, HR.out.drew.drew⟩
  case round =>
    clear HR z0 z1 z2 z3 z4 z5 z6 z7
    obtain ⟨t, a, b, c, d, e, f, g, h, ht, rfl, rfl, rfl, rfl, rfl, rfl, rfl, rfl, rfl, he8, hrel⟩ := hrel
    have hw8 : Wd [a, b, c, d, e, f, g, h] := by
      obtain ⟨_, _, _, _, _, _, _, _, e', hw⟩ := rnds_eight kL WS t [s0, s1, s2, s3, s4, s5, s6, s7] ⟨_, _, _, _, _, _, _, _, rfl, HS.out⟩
      rw [← e'.symm.trans he8]; exact hw
    by_cases hlt : t < 64
    · have hx := hw8
      simp only [Wd, List.mem_cons, List.not_mem_nil, or_false, forall_eq_or_imp, forall_eq] at hx
      obtain ⟨wa, wb, wc, wd, we, wf, wg, wh⟩ := hx
      obtain ⟨K, hK⟩ : ∃ K, kL.getD t 0 = K := ⟨_, rfl⟩
      obtain ⟨Wt, hWt⟩ : ∃ K, WS.getD t 0 = K := ⟨_, rfl⟩
      have wK : K < 4294967296 := hK ▸ kL_wd.getD t
      have wW : Wt < 4294967296 := hWt ▸ HWS.out.getD t
      have cK : wr.cell? ⟨2, t, none⟩ = some (.int .u32 (K : Int)) := by
        rw [hrel.bl.cell (by show 2 < w.heap.size; exact h1g), HK.out t hlt, hK]
      have cW : wr.cell? ⟨w1.heap.size, t, none⟩ = some (.int .u32 (Wt : Int)) := hWt ▸ hrel.wcell t (by rw [HWL.out]; omega)
      have kt : (t : Int) < 64 := by omega
      obtain ⟨P1, p1⟩ : ∃ V, V = rotr e 6 ^^^ rotr e 11 := ⟨_, rfl⟩
      obtain ⟨P2, p2⟩ : ∃ V, V = bsig1 e := ⟨_, rfl⟩
      obtain ⟨P3, p3⟩ : ∃ V, V = (h + P2) % 4294967296 := ⟨_, rfl⟩
      obtain ⟨P4, p4⟩ : ∃ V, V = e &&& f := ⟨_, rfl⟩
      obtain ⟨P5, p5⟩ : ∃ V, V = 4294967295 - e := ⟨_, rfl⟩
      obtain ⟨P6, p6⟩ : ∃ V, V = P5 &&& g := ⟨_, rfl⟩
      obtain ⟨P7, p7⟩ : ∃ V, V = chN e f g := ⟨_, rfl⟩
      obtain ⟨P8, p8⟩ : ∃ V, V = (P3 + P7) % 4294967296 := ⟨_, rfl⟩
      obtain ⟨P9, p9⟩ : ∃ V, V = (P8 + K) % 4294967296 := ⟨_, rfl⟩
      obtain ⟨U, pU⟩ : ∃ V, V = (P9 + Wt) % 4294967296 := ⟨_, rfl⟩
      obtain ⟨R1, r1⟩ : ∃ V, V = rotr a 2 ^^^ rotr a 13 := ⟨_, rfl⟩
      obtain ⟨R2, r2⟩ : ∃ V, V = bsig0 a := ⟨_, rfl⟩
      obtain ⟨R3, r3⟩ : ∃ V, V = a &&& b := ⟨_, rfl⟩
      obtain ⟨R4, r4⟩ : ∃ V, V = a &&& c := ⟨_, rfl⟩
      obtain ⟨R5, r5⟩ : ∃ V, V = R3 ^^^ R4 := ⟨_, rfl⟩
      obtain ⟨R6, r6⟩ : ∃ V, V = b &&& c := ⟨_, rfl⟩
      obtain ⟨R7, r7⟩ : ∃ V, V = majN a b c := ⟨_, rfl⟩
      obtain ⟨V, pV⟩ : ∃ V, V = (R2 + R7) % 4294967296 := ⟨_, rfl⟩
      have wP5 : P5 < 4294967296 := by omega
      have q1 : bits BinOp.xor IntKind.u32 (rotr e 6 : Int) (rotr e 11 : Int) = (P1 : Int) := by rw [p1]; exact u32_xor_nat _ _ (rotr_lt we) (rotr_lt we)
      have q2 : bits BinOp.xor IntKind.u32 (P1 : Int) (rotr e 25 : Int) = (P2 : Int) := by rw [p1, p2]; exact u32_xor_nat _ _ (xor_lt (rotr_lt we) (rotr_lt we)) (rotr_lt we)
      have q3 : IntKind.u32.wrap ((h : Int) + (P2 : Int)) = (P3 : Int) := by rw [IntKind.wrap_u32']; omega
      have q4 : bits BinOp.and IntKind.u32 (e : Int) (f : Int) = (P4 : Int) := by rw [p4]; exact u32_and_nat _ _ we wf
      have q5 : bits BinOp.xor IntKind.u32 (if IntKind.u32.signed = true then -1 else IntKind.u32.max) (e : Int) = (P5 : Int) := by
        rw [p5, ← not32 e we]; exact u32_xor_nat 4294967295 e (by omega) we
      have q6 : bits BinOp.and IntKind.u32 (P5 : Int) (g : Int) = (P6 : Int) := by rw [p6]; exact u32_and_nat _ _ wP5 wg
      have q7 : bits BinOp.xor IntKind.u32 (P4 : Int) (P6 : Int) = (P7 : Int) := by rw [p4, p6, p7, p5]; exact u32_xor_nat _ _ (and_lt we) (and_lt (by omega))
      have q8 : IntKind.u32.wrap ((P3 : Int) + (P7 : Int)) = (P8 : Int) := by rw [IntKind.wrap_u32']; omega
      have q9 : IntKind.u32.wrap ((P8 : Int) + (K : Int)) = (P9 : Int) := by rw [IntKind.wrap_u32']; omega
      have qU : IntKind.u32.wrap ((P9 : Int) + (Wt : Int)) = (U : Int) := by rw [IntKind.wrap_u32']; omega
      have o1 : bits BinOp.xor IntKind.u32 (rotr a 2 : Int) (rotr a 13 : Int) = (R1 : Int) := by rw [r1]; exact u32_xor_nat _ _ (rotr_lt wa) (rotr_lt wa)
      have o2 : bits BinOp.xor IntKind.u32 (R1 : Int) (rotr a 22 : Int) = (R2 : Int) := by rw [r1, r2]; exact u32_xor_nat _ _ (xor_lt (rotr_lt wa) (rotr_lt wa)) (rotr_lt wa)
      have o3 : bits BinOp.and IntKind.u32 (a : Int) (b : Int) = (R3 : Int) := by rw [r3]; exact u32_and_nat _ _ wa wb
      have o4 : bits BinOp.and IntKind.u32 (a : Int) (c : Int) = (R4 : Int) := by rw [r4]; exact u32_and_nat _ _ wa wc
      have o5 : bits BinOp.xor IntKind.u32 (R3 : Int) (R4 : Int) = (R5 : Int) := by rw [r5, r3, r4]; exact u32_xor_nat _ _ (and_lt wa) (and_lt wa)
      have o6 : bits BinOp.and IntKind.u32 (b : Int) (c : Int) = (R6 : Int) := by rw [r6]; exact u32_and_nat _ _ wb wc
      have o7 : bits BinOp.xor IntKind.u32 (R5 : Int) (R6 : Int) = (R7 : Int) := by rw [r7, r5, r6, r3, r4]; exact u32_xor_nat _ _ (xor_lt (and_lt wa) (and_lt wa)) (and_lt wb)
      have oV : IntKind.u32.wrap ((R2 : Int) + (R7 : Int)) = (V : Int) := by rw [IntKind.wrap_u32']; omega
      have oV' : ((R2 : Int) + (R7 : Int)) % 4294967296 = (V : Int) := by omega
      obtain ⟨N1, n1⟩ : ∃ V', V' = (U + V) % 4294967296 := ⟨_, rfl⟩
      obtain ⟨N5, n5⟩ : ∃ V', V' = (d + U) % 4294967296 := ⟨_, rfl⟩
      have on1 : IntKind.u32.wrap ((U : Int) + (V : Int)) = (N1 : Int) := by rw [IntKind.wrap_u32']; omega
      have on5 : IntKind.u32.wrap ((d : Int) + (U : Int)) = (N5 : Int) := by rw [IntKind.wrap_u32']; omega
      have HRN : Hid (rnds kL WS (t + 1) [s0, s1, s2, s3, s4, s5, s6, s7] = [N1, a, b, c, N5, e, f, g]) := by
        rw [n1, n5]
        show rnd (kL.getD t 0) (WS.getD t 0) (rnds kL WS t _) = _
        rw [he8, hK, hWt]
        show [_, _, _, _, _, _, _, _] = _
        have eU : (h + bsig1 e + chN e f g + K + Wt) % 4294967296 = U := by rw [pU, p9, p8, p3, ← p2, ← p7]; omega
        have eV : (bsig0 a + majN a b c) % 4294967296 = V := by rw [pV, ← r2, ← r7]
        simp only [List.getD_cons_zero, List.getD_cons_succ]
        rw [eU, eV]
      have HR : Hid (MixedW w.heap.size w1.heap.size w [s0, s1, s2, s3, s4, s5, s6, s7] (List.replicate 8 0) WS wr) := hrel
      have He : Hid (e < 4294967296) := we
      have HT2 : Hid (∀ w, Calls Tryd.prog 36 #[.int .u32 (a : Int), .int .i64 2] w fun e w' => e = .returned (.int .u32 (rotr a 2 : Int)) ∧ w' = w) := fun w => turned_any a 2 w wa (by omega) (by omega)
      have HT13 : Hid (∀ w, Calls Tryd.prog 36 #[.int .u32 (a : Int), .int .i64 13] w fun e w' => e = .returned (.int .u32 (rotr a 13 : Int)) ∧ w' = w) := fun w => turned_any a 13 w wa (by omega) (by omega)
      have HT22 : Hid (∀ w, Calls Tryd.prog 36 #[.int .u32 (a : Int), .int .i64 22] w fun e w' => e = .returned (.int .u32 (rotr a 22 : Int)) ∧ w' = w) := fun w => turned_any a 22 w wa (by omega) (by omega)
      have kU : U < 4294967296 := by omega
      have kV : V < 4294967296 := by omega
      have kd : d < 4294967296 := wd
      clear n1 n5 p1 p2 p3 p4 p5 p6 p7 p8 p9 pU r1 r2 r3 r4 r5 r6 r7 pV hK hWt he8 hw8 hrel wP5 wa wb wc wd we wf wg wh wK wW
      go_wp2
      refine wp_region_held_drew (S := fun W => W.cell? ⟨2, t, none⟩ = some (.int .u32 (K : Int)) ∧ W.cell? ⟨w1.heap.size, t, none⟩ = some (.int .u32 (Wt : Int))) (by kernel_rfl) (⟨cK, cW⟩) (fun hHeld => ?_)
      refine wpAnyH_take (i := 0) (v := ?vg7_0) rfl (by kernel_rfl) (by kernel_rfl) (by kernel_rfl) (fun _ _ _ h => h) (Or.inl ⟨by kernel_rfl, ?yg7_0⟩) hHeld ?rg7_0
      case yg7_0 => (intro W hSW; (try dsimp only at hSW); go_simp; (try with_reducible rfl))
      change wpAnyH _ _ _ _ _ _ _ (Act.put _ (some 40) _) _
      simp only [Act.put, List.setIfInBounds_toArray, List.set_cons_zero, List.set_cons_succ]
      refine wpAnyH_take (i := 1) (v := ?vg7_1) rfl (by kernel_rfl) (by kernel_rfl) (by kernel_rfl) (fun _ _ _ h => h) (Or.inl ⟨by kernel_rfl, ?yg7_1⟩) hHeld ?rg7_1
      case yg7_1 => (intro W hSW; (try dsimp only at hSW); go_simp; (try with_reducible rfl))
      change wpAnyH _ _ _ _ _ _ _ (Act.put _ (some 41) _) _
      simp only [Act.put, List.setIfInBounds_toArray, List.set_cons_zero, List.set_cons_succ]
      refine wpAnyH_take (i := 3) (v := ?vg7_3) rfl (by kernel_rfl) (by kernel_rfl) (by kernel_rfl) (fun _ _ _ h => h) (Or.inl ⟨by kernel_rfl, ?yg7_3⟩) hHeld ?rg7_3
      case yg7_3 => (intro W hSW; (try dsimp only at hSW); go_simp; (try with_reducible rfl))
      change wpAnyH _ _ _ _ _ _ _ (Act.put _ (some 43) _) _
      simp only [Act.put, List.setIfInBounds_toArray, List.set_cons_zero, List.set_cons_succ]
      refine wpAnyH_take (i := 6) (v := ?vg7_6) rfl (by kernel_rfl) (by kernel_rfl) (by kernel_rfl) (fun _ _ _ h => h) (Or.inl ⟨by kernel_rfl, ?yg7_6⟩) hHeld ?rg7_6
      case yg7_6 => (intro W hSW; (try dsimp only at hSW); go_simp; (try with_reducible rfl))
      change wpAnyH _ _ _ _ _ _ _ (Act.put _ (some 46) _) _
      simp only [Act.put, List.setIfInBounds_toArray, List.set_cons_zero, List.set_cons_succ]
      refine wpAnyH_take (i := 10) (v := ?vg7_10) rfl (by kernel_rfl) (by kernel_rfl) (by kernel_rfl) (fun _ _ _ h => h) (Or.inl ⟨by kernel_rfl, ?yg7_10⟩) hHeld ?rg7_10
      case yg7_10 => (intro W hSW; (try dsimp only at hSW); go_simp; (try with_reducible rfl))
      change wpAnyH _ _ _ _ _ _ _ (Act.put _ (some 50) _) _
      simp only [Act.put, List.setIfInBounds_toArray, List.set_cons_zero, List.set_cons_succ]
      refine wpAnyH_take (i := 11) (v := ?vg7_11) rfl (by kernel_rfl) (by kernel_rfl) (by kernel_rfl) (fun _ _ _ h => h) (Or.inl ⟨by kernel_rfl, ?yg7_11⟩) hHeld ?rg7_11
      case yg7_11 => (intro W hSW; (try dsimp only at hSW); go_simp; (try with_reducible rfl))
      change wpAnyH _ _ _ _ _ _ _ (Act.put _ (some 51) _) _
      simp only [Act.put, List.setIfInBounds_toArray, List.set_cons_zero, List.set_cons_succ]
      refine wpAnyH_take (i := 12) (v := ?vg7_12) rfl (by kernel_rfl) (by kernel_rfl) (by kernel_rfl) (fun _ _ _ h => h) (Or.inl ⟨by kernel_rfl, ?yg7_12⟩) hHeld ?rg7_12
      case yg7_12 => (intro W hSW; (try dsimp only at hSW); go_simp; (try with_reducible rfl))
      change wpAnyH _ _ _ _ _ _ _ (Act.put _ (some 52) _) _
      simp only [Act.put, List.setIfInBounds_toArray, List.set_cons_zero, List.set_cons_succ]
      refine wpAnyH_take (i := 13) (v := ?vg7_13) rfl (by kernel_rfl) (by kernel_rfl) (by kernel_rfl) (fun _ _ _ h => h) (Or.inl ⟨by kernel_rfl, ?yg7_13⟩) hHeld ?rg7_13
      case yg7_13 => (intro W hSW; (try dsimp only at hSW); go_simp; (try with_reducible rfl))
      change wpAnyH _ _ _ _ _ _ _ (Act.put _ (some 53) _) _
      simp only [Act.put, List.setIfInBounds_toArray, List.set_cons_zero, List.set_cons_succ]
      refine wpAnyH_take (i := 14) (v := ?vg7_14) rfl (by kernel_rfl) (by kernel_rfl) (by kernel_rfl) (fun _ _ _ h => h) (Or.inl ⟨by kernel_rfl, ?yg7_14⟩) hHeld ?rg7_14
      case yg7_14 => (intro W hSW; (try dsimp only at hSW); go_simp; (try with_reducible rfl))
      change wpAnyH _ _ _ _ _ _ _ (Act.put _ (some 54) _) _
      simp only [Act.put, List.setIfInBounds_toArray, List.set_cons_zero, List.set_cons_succ]
      refine wpAnyH_take (i := 15) (v := ?vg7_15) rfl (by kernel_rfl) (by kernel_rfl) (by kernel_rfl) (fun _ _ _ h => h) (Or.inl ⟨by kernel_rfl, ?yg7_15⟩) hHeld ?rg7_15
      case yg7_15 => (intro W hSW; (try dsimp only at hSW); go_simp; (try with_reducible rfl))
      change wpAnyH _ _ _ _ _ _ _ (Act.put _ (some 55) _) _
      simp only [Act.put, List.setIfInBounds_toArray, List.set_cons_zero, List.set_cons_succ]
      refine wpAnyH_take (i := 16) (v := ?vg7_16) rfl (by kernel_rfl) (by kernel_rfl) (by kernel_rfl) (fun _ _ _ h => h) (Or.inl ⟨by kernel_rfl, ?yg7_16⟩) hHeld ?rg7_16
      case yg7_16 => (intro W hSW; (try dsimp only at hSW); go_simp; (try with_reducible rfl))
      change wpAnyH _ _ _ _ _ _ _ (Act.put _ (some 56) _) _
      simp only [Act.put, List.setIfInBounds_toArray, List.set_cons_zero, List.set_cons_succ]
      refine wpAnyH_take (i := 17) (v := ?vg7_17) rfl (by kernel_rfl) (by kernel_rfl) (by kernel_rfl) (fun _ _ _ h => h) (Or.inl ⟨by kernel_rfl, ?yg7_17⟩) hHeld ?rg7_17
      case yg7_17 => (intro W hSW; (try dsimp only at hSW); go_simp; (try with_reducible rfl))
      change wpAnyH _ _ _ _ _ _ _ (Act.put _ (some 57) _) _
      simp only [Act.put, List.setIfInBounds_toArray, List.set_cons_zero, List.set_cons_succ]
      refine wpAnyH_take (i := 19) (v := ?vg7_19) rfl (by kernel_rfl) (by kernel_rfl) (by kernel_rfl) (fun _ _ _ h => h) (Or.inl ⟨by kernel_rfl, ?yg7_19⟩) hHeld ?rg7_19
      case yg7_19 => (intro W hSW; (try dsimp only at hSW); go_simp; (try with_reducible rfl))
      change wpAnyH _ _ _ _ _ _ _ (Act.put _ (some 59) _) _
      simp only [Act.put, List.setIfInBounds_toArray, List.set_cons_zero, List.set_cons_succ]
      refine wpAnyH_take (i := 20) (v := ?vg7_20) rfl (by kernel_rfl) (by kernel_rfl) (by kernel_rfl) (fun _ _ _ h => h) (Or.inl ⟨by kernel_rfl, ?yg7_20⟩) hHeld ?rg7_20
      case yg7_20 => (intro W hSW; (try dsimp only at hSW); go_simp; (try with_reducible rfl))
      change wpAnyH _ _ _ _ _ _ _ (Act.put _ (some 60) _) _
      simp only [Act.put, List.setIfInBounds_toArray, List.set_cons_zero, List.set_cons_succ]
      refine wpAnyH_take (i := 21) (v := ?vg7_21) rfl (by kernel_rfl) (by kernel_rfl) (by kernel_rfl) (fun _ _ _ h => h) (Or.inl ⟨by kernel_rfl, ?yg7_21⟩) hHeld ?rg7_21
      case yg7_21 => (intro W hSW; (try dsimp only at hSW); go_simp; (try with_reducible rfl))
      change wpAnyH _ _ _ _ _ _ _ (Act.put _ (some 61) _) _
      simp only [Act.put, List.setIfInBounds_toArray, List.set_cons_zero, List.set_cons_succ]
      refine wpAnyH_take (i := 23) (v := ?vg7_23) rfl (by kernel_rfl) (by kernel_rfl) (by kernel_rfl) (fun _ _ _ h => h) (Or.inl ⟨by kernel_rfl, ?yg7_23⟩) hHeld ?rg7_23
      case yg7_23 => (intro W hSW; (try dsimp only at hSW); go_simp; (try with_reducible rfl))
      change wpAnyH _ _ _ _ _ _ _ (Act.put _ (some 63) _) _
      simp only [Act.put, List.setIfInBounds_toArray, List.set_cons_zero, List.set_cons_succ]
      refine wpAnyH_take (i := 24) (v := ?vg7_24) rfl (by kernel_rfl) (by kernel_rfl) (by kernel_rfl) (fun _ _ _ h => h) (Or.inl ⟨by kernel_rfl, ?yg7_24⟩) hHeld ?rg7_24
      case yg7_24 => (intro W hSW; (try dsimp only at hSW); go_simp; (try with_reducible rfl))
      change wpAnyH _ _ _ _ _ _ _ (Act.put _ (some 64) _) _
      simp only [Act.put, List.setIfInBounds_toArray, List.set_cons_zero, List.set_cons_succ]
      refine wpAnyH_take (i := 25) (v := ?vg7_25) rfl (by kernel_rfl) (by kernel_rfl) (by kernel_rfl) (fun _ _ _ h => h) (Or.inl ⟨by kernel_rfl, ?yg7_25⟩) hHeld ?rg7_25
      case yg7_25 => (intro W hSW; (try dsimp only at hSW); go_simp; (try with_reducible rfl))
      change wpAnyH _ _ _ _ _ _ _ (Act.put _ (some 65) _) _
      simp only [Act.put, List.setIfInBounds_toArray, List.set_cons_zero, List.set_cons_succ]
      refine wpAnyH_ready (rs := [2]) (by kernel_rfl) (by simp) ?_
      refine AllReadyH.cons rfl (fun K hK => ?_) AllReadyH.nil
      go_simp
      refine (turned_any e 6 _ He.out (by omega) (by omega)).mono ?_
      rintro e w3 ⟨rfl, hw3⟩; subst w3
      refine hK.out _ _ (hHeld) (fun hHeld => ?_)
      clear hK K
      try simp only [Act.put, List.setIfInBounds_toArray, List.set_cons_zero, List.set_cons_succ]
      refine wpAnyH_ready (rs := [4]) (by kernel_rfl) (by simp) ?_
      refine AllReadyH.cons rfl (fun K hK => ?_) AllReadyH.nil
      go_simp
      refine (turned_any e 11 _ He.out (by omega) (by omega)).mono ?_
      rintro e w3 ⟨rfl, hw3⟩; subst w3
      refine hK.out _ _ (hHeld) (fun hHeld => ?_)
      clear hK K
      try simp only [Act.put, List.setIfInBounds_toArray, List.set_cons_zero, List.set_cons_succ]
      refine wpAnyH_take (i := 5) (v := ?vg7_5) rfl (by kernel_rfl) (by kernel_rfl) (by kernel_rfl) (fun _ _ _ h => h) (Or.inl ⟨by kernel_rfl, ?yg7_5⟩) hHeld ?rg7_5
      case yg7_5 => (intro W hSW; (try dsimp only at hSW); go_simp; (try with_reducible rfl))
      change wpAnyH _ _ _ _ _ _ _ (Act.put _ (some 45) _) _
      simp only [Act.put, List.setIfInBounds_toArray, List.set_cons_zero, List.set_cons_succ]
      refine wpAnyH_ready (rs := [7]) (by kernel_rfl) (by simp) ?_
      refine AllReadyH.cons rfl (fun K hK => ?_) AllReadyH.nil
      go_simp
      refine (turned_any e 25 _ He.out (by omega) (by omega)).mono ?_
      rintro e w3 ⟨rfl, hw3⟩; subst w3
      refine hK.out _ _ (hHeld) (fun hHeld => ?_)
      clear hK K
      try simp only [Act.put, List.setIfInBounds_toArray, List.set_cons_zero, List.set_cons_succ]
      refine wpAnyH_take (i := 8) (v := ?vg7_8) rfl (by kernel_rfl) (by kernel_rfl) (by kernel_rfl) (fun _ _ _ h => h) (Or.inl ⟨by kernel_rfl, ?yg7_8⟩) hHeld ?rg7_8
      case yg7_8 => (intro W hSW; (try dsimp only at hSW); go_simp; (try with_reducible rfl))
      change wpAnyH _ _ _ _ _ _ _ (Act.put _ (some 48) _) _
      simp only [Act.put, List.setIfInBounds_toArray, List.set_cons_zero, List.set_cons_succ]
      refine wpAnyH_take (i := 9) (v := ?vg7_9) rfl (by kernel_rfl) (by kernel_rfl) (by kernel_rfl) (fun _ _ _ h => h) (Or.inl ⟨by kernel_rfl, ?yg7_9⟩) hHeld ?rg7_9
      case yg7_9 => (intro W hSW; (try dsimp only at hSW); go_simp; (try with_reducible rfl))
      change wpAnyH _ _ _ _ _ _ _ (Act.put _ (some 49) _) _
      simp only [Act.put, List.setIfInBounds_toArray, List.set_cons_zero, List.set_cons_succ]
      refine wpAnyH_take (i := 18) (v := ?vg7_18) rfl (by kernel_rfl) (by kernel_rfl) (by kernel_rfl) (fun _ _ _ h => h) (Or.inl ⟨by kernel_rfl, ?yg7_18⟩) hHeld ?rg7_18
      case yg7_18 => (intro W hSW; (try dsimp only at hSW); go_simp; (try with_reducible rfl))
      change wpAnyH _ _ _ _ _ _ _ (Act.put _ (some 58) _) _
      simp only [Act.put, List.setIfInBounds_toArray, List.set_cons_zero, List.set_cons_succ]
      refine wpAnyH_take (i := 22) (v := ?vg7_22) rfl (by kernel_rfl) (by kernel_rfl) (by kernel_rfl) (fun _ _ _ h => h) (Or.inl ⟨by kernel_rfl, ?yg7_22⟩) hHeld ?rg7_22
      case yg7_22 => (intro W hSW; (try dsimp only at hSW); go_simp; (try with_reducible rfl))
      change wpAnyH _ _ _ _ _ _ _ (Act.put _ (some 62) _) _
      simp only [Act.put, List.setIfInBounds_toArray, List.set_cons_zero, List.set_cons_succ]
      refine wpAnyH_take (i := 26) (v := ?vg7_26) rfl (by kernel_rfl) (by kernel_rfl) (by kernel_rfl) (fun _ _ _ h => h) (Or.inl ⟨by kernel_rfl, ?yg7_26⟩) hHeld ?rg7_26
      case yg7_26 => (intro W hSW; (try dsimp only at hSW); go_simp; (try with_reducible rfl))
      change wpAnyH _ _ _ _ _ _ _ (Act.put _ (some 66) _) _
      simp only [Act.put, List.setIfInBounds_toArray, List.set_cons_zero, List.set_cons_succ]
      refine wpAnyH_take (i := 27) (v := ?vg7_27) rfl (by kernel_rfl) (by kernel_rfl) (by kernel_rfl) (fun _ _ _ h => h) (Or.inl ⟨by kernel_rfl, ?yg7_27⟩) hHeld ?rg7_27
      case yg7_27 => (intro W hSW; (try dsimp only at hSW); go_simp; (try with_reducible rfl))
      change wpAnyH _ _ _ _ _ _ _ (Act.put _ (some 15) _) _
      simp only [Act.put, List.setIfInBounds_toArray, List.set_cons_zero, List.set_cons_succ]
      refine wpAnyH_done (by kernel_rfl) ?_ _
      clear q1 q2 q3 q4 q5 q6 q7 q8 q9 qU cK cW hHeld
      go_wp2_with (go_at_call 36; (first | with_reducible refine (HT2.out _).mono ?_ | with_reducible refine (HT13.out _).mono ?_ | with_reducible refine (HT22.out _).mono ?_); rintro e' w3 ⟨rfl, hw3⟩; subst w3)
      refine ⟨⟨t + 1, N1, a, b, c, N5, e, f, g, by omega, by go_num, rfl, rfl, rfl, rfl, rfl, rfl, rfl, rfl, HRN.out, HR.out.drew⟩, by simp [intOf]; omega⟩
    · obtain rfl : t = 64 := by omega
      obtain ⟨Z, hZ⟩ : ∃ Z, Z = [a, b, c, d, e, f, g, h] := ⟨_, rfl⟩
      have HZ8 : Hid (Z.length = 8) := by show Z.length = 8; rw [hZ]; exact rfl
      have HZw : Hid (Wd Z) := by show Wd Z; rw [hZ]; exact hw8
      have HZ : Hid (rnds kL WS 64 [s0, s1, s2, s3, s4, s5, s6, s7] = Z) := by show _ = Z; rw [hZ]; exact he8
      have HIX : Hid (∀ (t : Nat) (W : World), t < 8 → (Instr.index 63 (.agg #[.int .u32 (a : Int), .int .u32 (b : Int), .int .u32 (c : Int), .int .u32 (d : Int), .int .u32 (e : Int), .int .u32 (f : Int), .int .u32 (g : Int), .int .u32 (h : Int)]) (.int .i64 (t : Int))).run Tryd.prog W = .ok (.int .u32 ((Z.getD t 0 : Nat) : Int)) W) := by
        intro t W ht
        have := run_index8 Z HZ8.out t ht W
        rw [show u32v Z = u32v [a, b, c, d, e, f, g, h] by rw [hZ]] at this
        exact this
      have HS8 : Hid (ss.length = 8) := by show ss.length = 8; rw [HSS.out]; exact rfl
      have HSw : Hid (Wd ss) := by show Wd ss; rw [HSS.out]; exact HS.out
      rw [← HSS.out] at hrel
      have HR : Hid (MixedW w.heap.size w1.heap.size w ss (List.replicate 8 0) WS wr) := hrel
      clear hrel he8 hw8 hZ
      go_wp2
      go_loopw [109] (fun i wr => ∃ t : Nat, t ≤ 8 ∧ i = .int .i64 t ∧ MixedW w.heap.size w1.heap.size w ((sumW ss Z).take t ++ ss.drop t) (List.replicate 8 0) WS wr) (fun i _ => 8 - (intOf i).toNat)
      case atStart => exact ⟨0, by omega, rfl, HR.out⟩
      case round =>
        clear HR
        obtain ⟨t, ht, rfl, hrel⟩ := hrel
        have hsl : (sumW ss Z).length = 8 := by simp [sumW, HS8.out, HZ8.out]
        by_cases hlt : t < 8
        · obtain ⟨x, hx⟩ : ∃ x, ss.getD t 0 = x := ⟨_, rfl⟩
          obtain ⟨y, hy⟩ : ∃ x, Z.getD t 0 = x := ⟨_, rfl⟩
          have e1 := sumW_step ss Z t (by rw [HS8.out]; omega) (by rw [HZ8.out]; omega)
          rw [hx, hy] at e1
          have c1 : wr.cell? ⟨w.heap.size, t, none⟩ = some (.int .u32 (x : Int)) := by
            have := hrel.scell t (by simp [hsl, HS8.out]; omega)
            rw [e1.1] at this; exact this
          have HIX' := HIX.out t
          rw [hy] at HIX'
          have HIX2 : Hid (∀ W : World, (Instr.index 63 (.agg #[.int .u32 (a : Int), .int .u32 (b : Int), .int .u32 (c : Int), .int .u32 (d : Int), .int .u32 (e : Int), .int .u32 (f : Int), .int .u32 (g : Int), .int .u32 (h : Int)]) (.int .i64 (t : Int))).run Tryd.prog W = .ok (.int .u32 (y : Int)) W) := fun W => HIX' W hlt
          have hf : wr.frozen? ⟨w.heap.size, t, none⟩ = false := hrel.sfro t
          have kt : (t : Int) < 8 := by omega
          obtain ⟨N, hN⟩ : ∃ N, N = (x + y) % 4294967296 := ⟨_, rfl⟩
          have sN : IntKind.u32.wrap ((x : Int) + (y : Int)) = (N : Int) := by rw [IntKind.wrap_u32']; omega
          have E1 : Hid (((sumW ss Z).take t ++ ss.drop t).set t N = (sumW ss Z).take (t + 1) ++ ss.drop (t + 1)) := by rw [hN]; exact e1.2
          have HR : Hid (MixedW w.heap.size w1.heap.size w ((sumW ss Z).take t ++ ss.drop t) (List.replicate 8 0) WS wr) := hrel
          clear hrel e1 hx hy hsl HIX' HIX hN
          go_wp2_with (simp only [HIX2.out])
          refine ⟨?_, ?measure⟩
          refine ⟨_, _, _, _, _, _, _, _, _, _, _, _, _, ?rel, rfl⟩
          case rel =>
            refine ⟨t + 1, by omega, by go_num, ?_⟩
            have h := HR.out.sput t N
            rw [E1.out] at h
            exact h
          case measure => simp [intOf]; omega
        · obtain rfl : t = 8 := by omega
          obtain ⟨n0, n1, n2, n3, n4, n5, n6, n7, hn⟩ := eight_of_len (sumW ss Z) hsl
          have ee : (sumW ss Z).take 8 ++ ss.drop 8 = sumW ss Z := by
            rw [List.take_of_length_le (by omega), List.drop_eq_nil_of_le (by rw [HS8.out]; omega), List.append_nil]
          rw [ee, hn] at hrel
          have HM : Hid (mixL kL ss bs = [n0, n1, n2, n3, n4, n5, n6, n7]) := by
            show sumW ss (rnds kL (schedL (wordsOf bs) 48) 64 ss) = _
            rw [HWE.out, ← hn, ← HZ.out, HSS.out]
          have c0 : wr.cell? ⟨w.heap.size, 0, none⟩ = some (.int .u32 (n0 : Int)) := hrel.scell 0 (by simp)
          have d0 : wr.cell? ⟨w.heap.size + 1, 0, none⟩ = some (.int .u32 0) := hrel.rcell 0 (by simp)
          have f0 : wr.frozen? ⟨w.heap.size + 1, 0, none⟩ = false := hrel.rfro 0
          have c1 : wr.cell? ⟨w.heap.size, 1, none⟩ = some (.int .u32 (n1 : Int)) := hrel.scell 1 (by simp)
          have d1 : wr.cell? ⟨w.heap.size + 1, 1, none⟩ = some (.int .u32 0) := hrel.rcell 1 (by simp)
          have f1 : wr.frozen? ⟨w.heap.size + 1, 1, none⟩ = false := hrel.rfro 1
          have c2 : wr.cell? ⟨w.heap.size, 2, none⟩ = some (.int .u32 (n2 : Int)) := hrel.scell 2 (by simp)
          have d2 : wr.cell? ⟨w.heap.size + 1, 2, none⟩ = some (.int .u32 0) := hrel.rcell 2 (by simp)
          have f2 : wr.frozen? ⟨w.heap.size + 1, 2, none⟩ = false := hrel.rfro 2
          have c3 : wr.cell? ⟨w.heap.size, 3, none⟩ = some (.int .u32 (n3 : Int)) := hrel.scell 3 (by simp)
          have d3 : wr.cell? ⟨w.heap.size + 1, 3, none⟩ = some (.int .u32 0) := hrel.rcell 3 (by simp)
          have f3 : wr.frozen? ⟨w.heap.size + 1, 3, none⟩ = false := hrel.rfro 3
          have c4 : wr.cell? ⟨w.heap.size, 4, none⟩ = some (.int .u32 (n4 : Int)) := hrel.scell 4 (by simp)
          have d4 : wr.cell? ⟨w.heap.size + 1, 4, none⟩ = some (.int .u32 0) := hrel.rcell 4 (by simp)
          have f4 : wr.frozen? ⟨w.heap.size + 1, 4, none⟩ = false := hrel.rfro 4
          have c5 : wr.cell? ⟨w.heap.size, 5, none⟩ = some (.int .u32 (n5 : Int)) := hrel.scell 5 (by simp)
          have d5 : wr.cell? ⟨w.heap.size + 1, 5, none⟩ = some (.int .u32 0) := hrel.rcell 5 (by simp)
          have f5 : wr.frozen? ⟨w.heap.size + 1, 5, none⟩ = false := hrel.rfro 5
          have c6 : wr.cell? ⟨w.heap.size, 6, none⟩ = some (.int .u32 (n6 : Int)) := hrel.scell 6 (by simp)
          have d6 : wr.cell? ⟨w.heap.size + 1, 6, none⟩ = some (.int .u32 0) := hrel.rcell 6 (by simp)
          have f6 : wr.frozen? ⟨w.heap.size + 1, 6, none⟩ = false := hrel.rfro 6
          have c7 : wr.cell? ⟨w.heap.size, 7, none⟩ = some (.int .u32 (n7 : Int)) := hrel.scell 7 (by simp)
          have d7 : wr.cell? ⟨w.heap.size + 1, 7, none⟩ = some (.int .u32 0) := hrel.rcell 7 (by simp)
          have f7 : wr.frozen? ⟨w.heap.size + 1, 7, none⟩ = false := hrel.rfro 7
          have HR : Hid (MixedW w.heap.size w1.heap.size w [n0, n1, n2, n3, n4, n5, n6, n7] (List.replicate 8 0) WS wr) := hrel
          clear hrel hn ee hsl HIX
          go_wp2
          have hh := (((((((HR.out.rput 0 n0).rput 1 n1).rput 2 n2).rput 3 n3).rput 4 n4).rput 5 n5).rput 6 n6).rput 7 n7
          rw [HM.out]
          refine bodyPost_ret (v := .agg (u32v [n0, n1, n2, n3, n4, n5, n6, n7])) ?_ rfl ⟨rfl, hh.bl⟩
          exact results_cell_row rfl _ _ (w.heap.size + 1) 63 _ (0, 0) _ rfl hh.rc Tryd.underlying63 rfl (by kernel_rfl)
end Go.Proofs.YtbflkkffpcaakabDoor
