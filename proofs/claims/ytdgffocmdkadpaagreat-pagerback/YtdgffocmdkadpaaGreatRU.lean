/- Walks over the statements' step: gives, writes, points. -/
import Derived.Test.YtdgffocmdkadpaaGreatRQ
namespace Go.Proofs.YtdgffocmdkadpaaGreat
open Go.RowKit Go.Shelf Pg
section
variable {h0 : Nat} {F : Nat → Prop} {w : World} {S : Nat → Prop} {g : Nat} {D : Dk} {pb jb n : Nat} {X : Px} {zb jz k : Nat} {gs ns : Array Value} {pv ov : Value}
set_option maxRecDepth 100000 in
set_option maxHeartbeats 16000000 in
theorem step1 (h : Ps h0 F w S g D pb jb n X zb jz gs ns pv ov) (hi : Inv n k D X) (id kx lg : Int) (fl : Nat) : Calls Tryz.prog 16 #[.pointer (some ⟨zb, 0, none⟩), .agg #[.int .i64 1, .int .i64 id, .int .i64 kx, .int .i64 lg, .int .u8 (fl : Int)]] w fun e w' => StepTo h0 F w g D pb jb n X zb jz k 1 e w' := by
  obtain ⟨hok, hn2, hn12⟩ := h.nn
  have q0 := Sq.start h (opA 1 id kx lg fl)
  have HI : Hid (Inv n k D X ∧ X.Ok n) := ⟨hi, hok⟩
  obtain ⟨B, hB⟩ : ∃ B, w.heap.size = B := ⟨_, rfl⟩
  obtain ⟨W0, hW0⟩ : ∃ W0, w.alloc (.cells (opA 1 id kx lg fl) 57) = W0 := ⟨_, rfl⟩
  obtain ⟨F0, hF0⟩ : ∃ F0, mor F w W0 = F0 := ⟨_, rfl⟩
  rw [hW0, hF0, hB] at q0
  clear hF0 hi hok
  have hW0 : w.alloc (.cells #[.int .i64 1, .int .i64 id, .int .i64 kx, .int .i64 lg, .int .u8 (fl : Int)] 57) = W0 := hW0
  have ck : W0.cell? ⟨B, 0, none⟩ = some (.int .i64 1) := q0.at 0 _ rfl
  have hl0 := q0.drew.s.z.lnow
  have OPC : Hid (∀ W : World, W.heap[B]? = some (.cells (opA 1 id kx lg fl) 57 (0, 0)) → W.cell? ⟨B, 1, none⟩ = some (.int .i64 id) ∧ W.cell? ⟨B, 2, none⟩ = some (.int .i64 kx)) := fun W hW => ⟨by rw [cell_of_row W B _ _ _ _ hW]; rfl, by rw [cell_of_row W B _ _ _ _ hW]; rfl⟩
  have Q0 : Hid (Sq h0 F w F0 W0 S g D pb jb n X zb jz gs ns pv ov B (opA 1 id kx lg fl)) := q0
  clear q0 h
  go_enter Tryz.func16, Tryz.ntmps16
  go_wp2
  refine wp_region_held_drew (S := fun W => W.heap[B]? = some (.cells (opA 1 id kx lg fl) 57 (0, 0))) (by kernel_rfl) (Q0.out.drew.o) (fun hHeld => ?_)
  refine wpAnyH_take (i := 0) (v := ?va0) rfl (by kernel_rfl) (by kernel_rfl) (by kernel_rfl) (fun _ _ _ h => h) (Or.inl ⟨by first | kernel_rfl | rfl, ?ya0⟩) hHeld ?ra0
  case ya0 => (intro W hSW; (try dsimp only at hSW); go_simp; (try with_reducible rfl))
  change wpAnyH _ _ _ _ _ _ _ (Act.put _ (some 88) _) _
  simp only [Act.put, List.setIfInBounds_toArray, List.set_cons_zero, List.set_cons_succ]
  refine wpAnyH_take (i := 1) (v := ?va1) rfl (by kernel_rfl) (by kernel_rfl) (by kernel_rfl) (fun _ _ _ h => h) (Or.inl ⟨by first | kernel_rfl | rfl, ?ya1⟩) hHeld ?ra1
  case ya1 => (intro W hSW; (try dsimp only at hSW); go_simp; (try with_reducible rfl))
  change wpAnyH _ _ _ _ _ _ _ (Act.put _ (some 89) _) _
  simp only [Act.put, List.setIfInBounds_toArray, List.set_cons_zero, List.set_cons_succ]
  refine wpAnyH_take (i := 2) (v := ?va2) rfl (by kernel_rfl) (by kernel_rfl) (by kernel_rfl) (fun _ _ _ h => h) (Or.inl ⟨by first | kernel_rfl | rfl, ?ya2⟩) hHeld ?ra2
  case ya2 => (intro W hSW; (try dsimp only at hSW); go_simp; (try with_reducible rfl))
  change wpAnyH _ _ _ _ _ _ _ (Act.put _ (some 90) _) _
  simp only [Act.put, List.setIfInBounds_toArray, List.set_cons_zero, List.set_cons_succ]
  refine wpAnyH_take (i := 3) (v := ?va3) rfl (by kernel_rfl) (by kernel_rfl) (by kernel_rfl) (fun _ _ _ h => h) (Or.inl ⟨by first | kernel_rfl | rfl, ?ya3⟩) hHeld ?ra3
  case ya3 => (intro W hSW; (try dsimp only at hSW); go_simp; (try with_reducible rfl))
  change wpAnyH _ _ _ _ _ _ _ (Act.put _ (some 91) _) _
  simp only [Act.put, List.setIfInBounds_toArray, List.set_cons_zero, List.set_cons_succ]
  refine wpAnyH_take (i := 4) (v := ?va4) rfl (by kernel_rfl) (by kernel_rfl) (by kernel_rfl) (fun _ _ _ h => h) (Or.inl ⟨by first | kernel_rfl | rfl, ?ya4⟩) hHeld ?ra4
  case ya4 => (intro W hSW; (try dsimp only at hSW); go_simp; (try with_reducible rfl))
  change wpAnyH _ _ _ _ _ _ _ (Act.put _ (some 92) _) _
  simp only [Act.put, List.setIfInBounds_toArray, List.set_cons_zero, List.set_cons_succ]
  refine wpAnyH_take (i := 6) (v := ?va6) rfl (by kernel_rfl) (by kernel_rfl) (by kernel_rfl) (fun _ _ _ h => h) (Or.inl ⟨by first | kernel_rfl | rfl, ?ya6⟩) hHeld ?ra6
  case ya6 => (intro W hSW; (try dsimp only at hSW); go_simp; (try with_reducible rfl))
  change wpAnyH _ _ _ _ _ _ _ (Act.put _ (some 94) _) _
  simp only [Act.put, List.setIfInBounds_toArray, List.set_cons_zero, List.set_cons_succ]
  refine wpAnyH_take (i := 7) (v := .int .i64 id) rfl (by kernel_rfl) (by kernel_rfl) (by kernel_rfl) (fun _ _ _ h => h) (Or.inl ⟨by first | kernel_rfl | rfl, ?ya7⟩) hHeld ?ra7
  case ya7 => (intro W hSW; have cq := OPC.out W hSW; obtain ⟨cq1, cq2⟩ := cq; go_simp; (try with_reducible rfl))
  change wpAnyH _ _ _ _ _ _ _ (Act.put _ (some 95) _) _
  simp only [Act.put, List.setIfInBounds_toArray, List.set_cons_zero, List.set_cons_succ]
  refine wpAnyH_ready (rs := [5]) (by kernel_rfl) (by simp) ?_
  refine AllReadyH.cons rfl (fun K hK => ?_) AllReadyH.nil
  rw [if_pos (by rfl)]
  refine wp_load_at _ _ rfl rfl hl0 ?_
  skip
  refine hK.out _ _ (hHeld) (fun hHeld => ?_)
  clear hK K
  change wpAnyH _ _ _ _ _ _ _ (Act.put _ (some 93) _) _
  simp only [Act.put, List.setIfInBounds_toArray, List.set_cons_zero, List.set_cons_succ]
  have HDC := rgive_any Q0.out.drew.s.z.s Q0.out.drew.s.blt (by omega) (by omega) id
  refine wpAnyH_ready (rs := [8]) (by kernel_rfl) (by simp) ?_
  refine AllReadyH.cons rfl (fun K hK => ?_) AllReadyH.nil
  go_simp
  refine (HDC).mono ?_
  rintro e V2 ⟨v', c, rfl, hD2, hb2⟩
  refine hK.out _ _ ((Q0.out.drew.below hb2).o) (fun hHeld => ?_)
  clear hK K
  try simp only [Act.put, List.setIfInBounds_toArray, List.set_cons_zero, List.set_cons_succ]
  obtain ⟨r', rfl, hrz, hro⟩ := hD2.agg
  have q2 := Q0.out.drew.below hb2
  have hDs := DSt.since Q0.out.drew.s.z.lt hD2
  have hst := q2.s.z.store_now hrz hro
  have q3 := q2.with (q2.s.now hrz hDs)
  obtain ⟨F3, hF3⟩ : ∃ F3, mor F0 W0.drew V2 = F3 := ⟨_, rfl⟩
  obtain ⟨V3, hV3⟩ : ∃ V3, V2.setRow zb (prA jz pb gs r' pv ov) = V3 := ⟨_, rfl⟩
  rw [hV3, hF3] at q3
  rw [hV3] at hst
  have Q3 : Hid (Sq h0 F w F3 V3 S g D pb jb n X zb jz gs r' pv ov B (opA 1 id kx lg fl)) := q3
  clear hD2 hb2 q2 hDs q3 hF3 hV3 hro
  refine wpAnyH_take (i := 9) (v := ?va9) rfl (by kernel_rfl) (by kernel_rfl) (by kernel_rfl) (fun _ _ _ h => h) (Or.inl ⟨by first | kernel_rfl | rfl, ?ya9⟩) hHeld ?ra9
  case ya9 => (intro W hSW; (try dsimp only at hSW); go_simp; (try with_reducible rfl))
  change wpAnyH _ _ _ _ _ _ _ (Act.put _ (some 87) _) _
  simp only [Act.put, List.setIfInBounds_toArray, List.set_cons_zero, List.set_cons_succ]
  refine wpAnyH_take (i := 10) (v := ?va10) rfl (by kernel_rfl) (by kernel_rfl) (by kernel_rfl) (fun _ _ _ h => h) (Or.inl ⟨by first | kernel_rfl | rfl, ?ya10⟩) hHeld ?ra10
  case ya10 => (intro W hSW; (try dsimp only at hSW); go_simp; (try with_reducible rfl))
  change wpAnyH _ _ _ _ _ _ _ (Act.put _ (some 97) _) _
  simp only [Act.put, List.setIfInBounds_toArray, List.set_cons_zero, List.set_cons_succ]
  refine wpAnyH_take (i := 11) (v := ?va11) rfl (by kernel_rfl) (by kernel_rfl) (by kernel_rfl) (fun _ _ _ h => h) (Or.inl ⟨by first | kernel_rfl | rfl, ?ya11⟩) hHeld ?ra11
  case ya11 => (intro W hSW; (try dsimp only at hSW); go_simp; (try with_reducible rfl))
  change wpAnyH _ _ _ _ _ _ _ (Act.put _ (some 98) _) _
  simp only [Act.put, List.setIfInBounds_toArray, List.set_cons_zero, List.set_cons_succ]
  refine wpAnyH_take (i := 12) (v := ?va12) rfl (by kernel_rfl) (by kernel_rfl) (by kernel_rfl) (fun _ _ _ h => h) (Or.inl ⟨by first | kernel_rfl | rfl, ?ya12⟩) hHeld ?ra12
  case ya12 => (intro W hSW; (try dsimp only at hSW); go_simp; (try with_reducible rfl))
  change wpAnyH _ _ _ _ _ _ _ (Act.put _ (some 99) _) _
  simp only [Act.put, List.setIfInBounds_toArray, List.set_cons_zero, List.set_cons_succ]
  refine wpAnyH_take (i := 13) (v := ?va13) rfl (by kernel_rfl) (by kernel_rfl) (by kernel_rfl) (fun _ _ _ h => h) (Or.inl ⟨by first | kernel_rfl | rfl, ?ya13⟩) hHeld ?ra13
  case ya13 => (intro W hSW; (try dsimp only at hSW); go_simp; (try with_reducible rfl))
  change wpAnyH _ _ _ _ _ _ _ (Act.put _ (some 100) _) _
  simp only [Act.put, List.setIfInBounds_toArray, List.set_cons_zero, List.set_cons_succ]
  refine wpAnyH_take (i := 14) (v := ?va14) rfl (by kernel_rfl) (by kernel_rfl) (by kernel_rfl) (fun _ _ _ h => h) (Or.inl ⟨by first | kernel_rfl | rfl, ?ya14⟩) hHeld ?ra14
  case ya14 => (intro W hSW; (try dsimp only at hSW); go_simp; (try with_reducible rfl))
  change wpAnyH _ _ _ _ _ _ _ (Act.put _ (some 101) _) _
  simp only [Act.put, List.setIfInBounds_toArray, List.set_cons_zero, List.set_cons_succ]
  refine wpAnyH_ready (rs := [15]) (by kernel_rfl) (by simp) ?_
  refine AllReadyH.cons rfl (fun K hK => ?_) AllReadyH.nil
  go_simp
  refine hK.out _ _ (Q3.out.o) (fun hHeld => ?_)
  clear hK K
  refine wpAnyH_take (i := 16) (v := ?va16) rfl (by kernel_rfl) (by kernel_rfl) (by kernel_rfl) (fun _ _ _ h => h) (Or.inl ⟨by first | kernel_rfl | rfl, ?ya16⟩) hHeld ?ra16
  case ya16 => (intro W hSW; (try dsimp only at hSW); go_simp; (try with_reducible rfl))
  change wpAnyH _ _ _ _ _ _ _ (Act.put _ (some 6) _) _
  simp only [Act.put, List.setIfInBounds_toArray, List.set_cons_zero, List.set_cons_succ]
  refine wpAnyH_done (by kernel_rfl) ?_ _
  clear Q0 HDC hl0
  go_wp2
  refine wp_region_held_drew (S := fun W => (W.heap[B]? = some (.cells (opA 1 id kx lg fl) 57 (0, 0))) ∧ W.cell? ⟨zb, 1, none⟩ = some (.pointer (some ⟨pb, 0, none⟩))) (by kernel_rfl) (⟨Q3.out.drew.o, Q3.out.drew.pp⟩) (fun hHeld => ?_)
  refine wpAnyH_take (i := 0) (v := ?vb0) rfl (by kernel_rfl) (by kernel_rfl) (by kernel_rfl) (fun _ _ _ h => h) (Or.inl ⟨by first | kernel_rfl | rfl, ?yb0⟩) hHeld ?rb0
  case yb0 => (intro W hSW; (try dsimp only at hSW); go_simp; (try with_reducible rfl))
  change wpAnyH _ _ _ _ _ _ _ (Act.put _ (some 102) _) _
  simp only [Act.put, List.setIfInBounds_toArray, List.set_cons_zero, List.set_cons_succ]
  refine wpAnyH_take (i := 1) (v := ?vb1) rfl (by kernel_rfl) (by kernel_rfl) (by kernel_rfl) (fun _ _ _ h => h) (Or.inl ⟨by first | kernel_rfl | rfl, ?yb1⟩) hHeld ?rb1
  case yb1 => (intro W hSW; (try dsimp only at hSW); go_simp; (try with_reducible rfl))
  change wpAnyH _ _ _ _ _ _ _ (Act.put _ (some 103) _) _
  simp only [Act.put, List.setIfInBounds_toArray, List.set_cons_zero, List.set_cons_succ]
  refine wpAnyH_take (i := 2) (v := ?vb2) rfl (by kernel_rfl) (by kernel_rfl) (by kernel_rfl) (fun _ _ _ h => h) (Or.inl ⟨by first | kernel_rfl | rfl, ?yb2⟩) hHeld ?rb2
  case yb2 => (intro W hSW; (try dsimp only at hSW); go_simp; (try with_reducible rfl))
  change wpAnyH _ _ _ _ _ _ _ (Act.put _ (some 104) _) _
  simp only [Act.put, List.setIfInBounds_toArray, List.set_cons_zero, List.set_cons_succ]
  refine wpAnyH_take (i := 3) (v := ?vb3) rfl (by kernel_rfl) (by kernel_rfl) (by kernel_rfl) (fun _ _ _ h => h) (Or.inl ⟨by first | kernel_rfl | rfl, ?yb3⟩) hHeld ?rb3
  case yb3 => (intro W hSW; (try dsimp only at hSW); go_simp; (try with_reducible rfl))
  change wpAnyH _ _ _ _ _ _ _ (Act.put _ (some 105) _) _
  simp only [Act.put, List.setIfInBounds_toArray, List.set_cons_zero, List.set_cons_succ]
  refine wpAnyH_take (i := 4) (v := ?vb4) rfl (by kernel_rfl) (by kernel_rfl) (by kernel_rfl) (fun _ _ _ h => h) (Or.inl ⟨by first | kernel_rfl | rfl, ?yb4⟩) hHeld ?rb4
  case yb4 => (intro W hSW; (try dsimp only at hSW); go_simp; (try with_reducible rfl))
  change wpAnyH _ _ _ _ _ _ _ (Act.put _ (some 106) _) _
  simp only [Act.put, List.setIfInBounds_toArray, List.set_cons_zero, List.set_cons_succ]
  refine wpAnyH_take (i := 5) (v := .int .i64 id) rfl (by kernel_rfl) (by kernel_rfl) (by kernel_rfl) (fun _ _ _ h => h) (Or.inl ⟨by first | kernel_rfl | rfl, ?yb5⟩) hHeld ?rb5
  case yb5 => (intro W hSW; have cq := OPC.out W hSW.1; obtain ⟨cq1, cq2⟩ := cq; go_simp; (try with_reducible rfl))
  change wpAnyH _ _ _ _ _ _ _ (Act.put _ (some 107) _) _
  simp only [Act.put, List.setIfInBounds_toArray, List.set_cons_zero, List.set_cons_succ]
  have HPC := pgive_any Q3.out.drew.s.p id
  refine wpAnyH_ready (rs := [6]) (by kernel_rfl) (by simp) ?_
  refine AllReadyH.cons rfl (fun K hK => ?_) AllReadyH.nil
  go_simp
  refine (HPC).mono ?_
  rintro e V5 ⟨rfl, hT⟩
  refine hK.out _ _ ((fun ⟨_, _, x⟩ => ⟨x.o, x.pp⟩) (Q3.out.drew.pto hT)) (fun hHeld => ?_)
  clear hK K
  try simp only [Act.put, List.setIfInBounds_toArray, List.set_cons_zero, List.set_cons_succ]
  obtain ⟨ec, hec⟩ : ∃ ec : Nat, X.gcode n id = ec := ⟨_, rfl⟩
  rw [hec]
  have HE : Hid (∀ b, StepTo h0 F w g D pb jb n X zb jz k 1 (.returned (.bool b)) V5) := fun b => (fun ⟨_, _, x⟩ => StepTo.mild HI.out.1 (gput_mild X n id) x.done) (Q3.out.drew.pto hT)
  clear hT HPC hec
  refine wpAnyH_take (i := 7) (v := ?vb7) rfl (by kernel_rfl) (by kernel_rfl) (by kernel_rfl) (fun _ _ _ h => h) (Or.inl ⟨by first | kernel_rfl | rfl, ?yb7⟩) hHeld ?rb7
  case yb7 => (intro W hSW; (try dsimp only at hSW); go_simp; (try with_reducible rfl))
  change wpAnyH _ _ _ _ _ _ _ (Act.put _ (some 5) _) _
  simp only [Act.put, List.setIfInBounds_toArray, List.set_cons_zero, List.set_cons_succ]
  refine wpAnyH_done (by kernel_rfl) ?_ _
  by_cases ha : (ec : Int) = (c : Int)
  · have hab : ((ec : Int) == (c : Int)) = true := by rw [ha]; exact beq_self_eq_true _
    go_wp2
    go_ret
    exact HE.out _
  · have hab : ((ec : Int) == (c : Int)) = false := by simpa using ha
    go_wp2
    go_ret
    exact HE.out _
set_option maxRecDepth 100000 in
set_option maxHeartbeats 16000000 in
theorem step3 (h : Ps h0 F w S g D pb jb n X zb jz gs ns pv ov) (hi : Inv n k D X) (id kx lg : Int) (fl : Nat) : Calls Tryz.prog 16 #[.pointer (some ⟨zb, 0, none⟩), .agg #[.int .i64 3, .int .i64 id, .int .i64 kx, .int .i64 lg, .int .u8 (fl : Int)]] w fun e w' => StepTo h0 F w g D pb jb n X zb jz k 3 e w' := by
  obtain ⟨hok, hn2, hn12⟩ := h.nn
  have q0 := Sq.start h (opA 3 id kx lg fl)
  have HI : Hid (Inv n k D X ∧ X.Ok n) := ⟨hi, hok⟩
  obtain ⟨B, hB⟩ : ∃ B, w.heap.size = B := ⟨_, rfl⟩
  obtain ⟨W0, hW0⟩ : ∃ W0, w.alloc (.cells (opA 3 id kx lg fl) 57) = W0 := ⟨_, rfl⟩
  obtain ⟨F0, hF0⟩ : ∃ F0, mor F w W0 = F0 := ⟨_, rfl⟩
  rw [hW0, hF0, hB] at q0
  clear hF0 hi hok
  have hW0 : w.alloc (.cells #[.int .i64 3, .int .i64 id, .int .i64 kx, .int .i64 lg, .int .u8 (fl : Int)] 57) = W0 := hW0
  have ck : W0.cell? ⟨B, 0, none⟩ = some (.int .i64 3) := q0.at 0 _ rfl
  have hl0 := q0.drew.s.z.lnow
  have OPC : Hid (∀ W : World, W.heap[B]? = some (.cells (opA 3 id kx lg fl) 57 (0, 0)) → W.cell? ⟨B, 1, none⟩ = some (.int .i64 id) ∧ W.cell? ⟨B, 2, none⟩ = some (.int .i64 kx)) := fun W hW => ⟨by rw [cell_of_row W B _ _ _ _ hW]; rfl, by rw [cell_of_row W B _ _ _ _ hW]; rfl⟩
  have Q0 : Hid (Sq h0 F w F0 W0 S g D pb jb n X zb jz gs ns pv ov B (opA 3 id kx lg fl)) := q0
  clear q0 h
  go_enter Tryz.func16, Tryz.ntmps16
  go_wp2
  refine wp_region_held_drew (S := fun W => W.heap[B]? = some (.cells (opA 3 id kx lg fl) 57 (0, 0))) (by kernel_rfl) (Q0.out.drew.o) (fun hHeld => ?_)
  refine wpAnyH_take (i := 0) (v := ?va0) rfl (by kernel_rfl) (by kernel_rfl) (by kernel_rfl) (fun _ _ _ h => h) (Or.inl ⟨by first | kernel_rfl | rfl, ?ya0⟩) hHeld ?ra0
  case ya0 => (intro W hSW; (try dsimp only at hSW); go_simp; (try with_reducible rfl))
  change wpAnyH _ _ _ _ _ _ _ (Act.put _ (some 140) _) _
  simp only [Act.put, List.setIfInBounds_toArray, List.set_cons_zero, List.set_cons_succ]
  refine wpAnyH_take (i := 1) (v := ?va1) rfl (by kernel_rfl) (by kernel_rfl) (by kernel_rfl) (fun _ _ _ h => h) (Or.inl ⟨by first | kernel_rfl | rfl, ?ya1⟩) hHeld ?ra1
  case ya1 => (intro W hSW; (try dsimp only at hSW); go_simp; (try with_reducible rfl))
  change wpAnyH _ _ _ _ _ _ _ (Act.put _ (some 141) _) _
  simp only [Act.put, List.setIfInBounds_toArray, List.set_cons_zero, List.set_cons_succ]
  refine wpAnyH_take (i := 2) (v := ?va2) rfl (by kernel_rfl) (by kernel_rfl) (by kernel_rfl) (fun _ _ _ h => h) (Or.inl ⟨by first | kernel_rfl | rfl, ?ya2⟩) hHeld ?ra2
  case ya2 => (intro W hSW; (try dsimp only at hSW); go_simp; (try with_reducible rfl))
  change wpAnyH _ _ _ _ _ _ _ (Act.put _ (some 142) _) _
  simp only [Act.put, List.setIfInBounds_toArray, List.set_cons_zero, List.set_cons_succ]
  refine wpAnyH_take (i := 3) (v := ?va3) rfl (by kernel_rfl) (by kernel_rfl) (by kernel_rfl) (fun _ _ _ h => h) (Or.inl ⟨by first | kernel_rfl | rfl, ?ya3⟩) hHeld ?ra3
  case ya3 => (intro W hSW; (try dsimp only at hSW); go_simp; (try with_reducible rfl))
  change wpAnyH _ _ _ _ _ _ _ (Act.put _ (some 143) _) _
  simp only [Act.put, List.setIfInBounds_toArray, List.set_cons_zero, List.set_cons_succ]
  refine wpAnyH_take (i := 4) (v := ?va4) rfl (by kernel_rfl) (by kernel_rfl) (by kernel_rfl) (fun _ _ _ h => h) (Or.inl ⟨by first | kernel_rfl | rfl, ?ya4⟩) hHeld ?ra4
  case ya4 => (intro W hSW; (try dsimp only at hSW); go_simp; (try with_reducible rfl))
  change wpAnyH _ _ _ _ _ _ _ (Act.put _ (some 144) _) _
  simp only [Act.put, List.setIfInBounds_toArray, List.set_cons_zero, List.set_cons_succ]
  refine wpAnyH_take (i := 6) (v := ?va6) rfl (by kernel_rfl) (by kernel_rfl) (by kernel_rfl) (fun _ _ _ h => h) (Or.inl ⟨by first | kernel_rfl | rfl, ?ya6⟩) hHeld ?ra6
  case ya6 => (intro W hSW; (try dsimp only at hSW); go_simp; (try with_reducible rfl))
  change wpAnyH _ _ _ _ _ _ _ (Act.put _ (some 146) _) _
  simp only [Act.put, List.setIfInBounds_toArray, List.set_cons_zero, List.set_cons_succ]
  refine wpAnyH_take (i := 7) (v := .int .i64 kx) rfl (by kernel_rfl) (by kernel_rfl) (by kernel_rfl) (fun _ _ _ h => h) (Or.inl ⟨by first | kernel_rfl | rfl, ?ya7⟩) hHeld ?ra7
  case ya7 => (intro W hSW; have cq := OPC.out W hSW; obtain ⟨cq1, cq2⟩ := cq; go_simp; (try with_reducible rfl))
  change wpAnyH _ _ _ _ _ _ _ (Act.put _ (some 147) _) _
  simp only [Act.put, List.setIfInBounds_toArray, List.set_cons_zero, List.set_cons_succ]
  refine wpAnyH_take (i := 8) (v := ?va8) rfl (by kernel_rfl) (by kernel_rfl) (by kernel_rfl) (fun _ _ _ h => h) (Or.inl ⟨by first | kernel_rfl | rfl, ?ya8⟩) hHeld ?ra8
  case ya8 => (intro W hSW; (try dsimp only at hSW); go_simp; (try with_reducible rfl))
  change wpAnyH _ _ _ _ _ _ _ (Act.put _ (some 148) _) _
  simp only [Act.put, List.setIfInBounds_toArray, List.set_cons_zero, List.set_cons_succ]
  refine wpAnyH_take (i := 9) (v := .int .i64 id) rfl (by kernel_rfl) (by kernel_rfl) (by kernel_rfl) (fun _ _ _ h => h) (Or.inl ⟨by first | kernel_rfl | rfl, ?ya9⟩) hHeld ?ra9
  case ya9 => (intro W hSW; have cq := OPC.out W hSW; obtain ⟨cq1, cq2⟩ := cq; go_simp; (try with_reducible rfl))
  change wpAnyH _ _ _ _ _ _ _ (Act.put _ (some 149) _) _
  simp only [Act.put, List.setIfInBounds_toArray, List.set_cons_zero, List.set_cons_succ]
  refine wpAnyH_ready (rs := [5]) (by kernel_rfl) (by simp) ?_
  refine AllReadyH.cons rfl (fun K hK => ?_) AllReadyH.nil
  rw [if_pos (by rfl)]
  refine wp_load_at _ _ rfl rfl hl0 ?_
  skip
  refine hK.out _ _ (hHeld) (fun hHeld => ?_)
  clear hK K
  change wpAnyH _ _ _ _ _ _ _ (Act.put _ (some 145) _) _
  simp only [Act.put, List.setIfInBounds_toArray, List.set_cons_zero, List.set_cons_succ]
  have HDC := rpoint_any Q0.out.drew.s.z.s (by omega) kx id
  refine wpAnyH_ready (rs := [10]) (by kernel_rfl) (by simp) ?_
  refine AllReadyH.cons rfl (fun K hK => ?_) AllReadyH.nil
  go_simp
  refine (HDC).mono ?_
  rintro e V2 ⟨v', c, rfl, hD2, hb2⟩
  refine hK.out _ _ ((Q0.out.drew.below hb2).o) (fun hHeld => ?_)
  clear hK K
  try simp only [Act.put, List.setIfInBounds_toArray, List.set_cons_zero, List.set_cons_succ]
  obtain ⟨r', rfl, hrz, hro⟩ := hD2.agg
  have q2 := Q0.out.drew.below hb2
  have hDs := DSt.since Q0.out.drew.s.z.lt hD2
  have hst := q2.s.z.store_now hrz hro
  have q3 := q2.with (q2.s.now hrz hDs)
  obtain ⟨F3, hF3⟩ : ∃ F3, mor F0 W0.drew V2 = F3 := ⟨_, rfl⟩
  obtain ⟨V3, hV3⟩ : ∃ V3, V2.setRow zb (prA jz pb gs r' pv ov) = V3 := ⟨_, rfl⟩
  rw [hV3, hF3] at q3
  rw [hV3] at hst
  have Q3 : Hid (Sq h0 F w F3 V3 S g D pb jb n X zb jz gs r' pv ov B (opA 3 id kx lg fl)) := q3
  clear hD2 hb2 q2 hDs q3 hF3 hV3 hro
  refine wpAnyH_take (i := 11) (v := ?va11) rfl (by kernel_rfl) (by kernel_rfl) (by kernel_rfl) (fun _ _ _ h => h) (Or.inl ⟨by first | kernel_rfl | rfl, ?ya11⟩) hHeld ?ra11
  case ya11 => (intro W hSW; (try dsimp only at hSW); go_simp; (try with_reducible rfl))
  change wpAnyH _ _ _ _ _ _ _ (Act.put _ (some 139) _) _
  simp only [Act.put, List.setIfInBounds_toArray, List.set_cons_zero, List.set_cons_succ]
  refine wpAnyH_take (i := 12) (v := ?va12) rfl (by kernel_rfl) (by kernel_rfl) (by kernel_rfl) (fun _ _ _ h => h) (Or.inl ⟨by first | kernel_rfl | rfl, ?ya12⟩) hHeld ?ra12
  case ya12 => (intro W hSW; (try dsimp only at hSW); go_simp; (try with_reducible rfl))
  change wpAnyH _ _ _ _ _ _ _ (Act.put _ (some 151) _) _
  simp only [Act.put, List.setIfInBounds_toArray, List.set_cons_zero, List.set_cons_succ]
  refine wpAnyH_take (i := 13) (v := ?va13) rfl (by kernel_rfl) (by kernel_rfl) (by kernel_rfl) (fun _ _ _ h => h) (Or.inl ⟨by first | kernel_rfl | rfl, ?ya13⟩) hHeld ?ra13
  case ya13 => (intro W hSW; (try dsimp only at hSW); go_simp; (try with_reducible rfl))
  change wpAnyH _ _ _ _ _ _ _ (Act.put _ (some 152) _) _
  simp only [Act.put, List.setIfInBounds_toArray, List.set_cons_zero, List.set_cons_succ]
  refine wpAnyH_take (i := 14) (v := ?va14) rfl (by kernel_rfl) (by kernel_rfl) (by kernel_rfl) (fun _ _ _ h => h) (Or.inl ⟨by first | kernel_rfl | rfl, ?ya14⟩) hHeld ?ra14
  case ya14 => (intro W hSW; (try dsimp only at hSW); go_simp; (try with_reducible rfl))
  change wpAnyH _ _ _ _ _ _ _ (Act.put _ (some 153) _) _
  simp only [Act.put, List.setIfInBounds_toArray, List.set_cons_zero, List.set_cons_succ]
  refine wpAnyH_take (i := 15) (v := ?va15) rfl (by kernel_rfl) (by kernel_rfl) (by kernel_rfl) (fun _ _ _ h => h) (Or.inl ⟨by first | kernel_rfl | rfl, ?ya15⟩) hHeld ?ra15
  case ya15 => (intro W hSW; (try dsimp only at hSW); go_simp; (try with_reducible rfl))
  change wpAnyH _ _ _ _ _ _ _ (Act.put _ (some 154) _) _
  simp only [Act.put, List.setIfInBounds_toArray, List.set_cons_zero, List.set_cons_succ]
  refine wpAnyH_take (i := 16) (v := ?va16) rfl (by kernel_rfl) (by kernel_rfl) (by kernel_rfl) (fun _ _ _ h => h) (Or.inl ⟨by first | kernel_rfl | rfl, ?ya16⟩) hHeld ?ra16
  case ya16 => (intro W hSW; (try dsimp only at hSW); go_simp; (try with_reducible rfl))
  change wpAnyH _ _ _ _ _ _ _ (Act.put _ (some 155) _) _
  simp only [Act.put, List.setIfInBounds_toArray, List.set_cons_zero, List.set_cons_succ]
  refine wpAnyH_ready (rs := [17]) (by kernel_rfl) (by simp) ?_
  refine AllReadyH.cons rfl (fun K hK => ?_) AllReadyH.nil
  go_simp
  refine hK.out _ _ (Q3.out.o) (fun hHeld => ?_)
  clear hK K
  refine wpAnyH_take (i := 18) (v := ?va18) rfl (by kernel_rfl) (by kernel_rfl) (by kernel_rfl) (fun _ _ _ h => h) (Or.inl ⟨by first | kernel_rfl | rfl, ?ya18⟩) hHeld ?ra18
  case ya18 => (intro W hSW; (try dsimp only at hSW); go_simp; (try with_reducible rfl))
  change wpAnyH _ _ _ _ _ _ _ (Act.put _ (some 6) _) _
  simp only [Act.put, List.setIfInBounds_toArray, List.set_cons_zero, List.set_cons_succ]
  refine wpAnyH_done (by kernel_rfl) ?_ _
  clear Q0 HDC hl0
  go_wp2
  refine wp_region_held_drew (S := fun W => (W.heap[B]? = some (.cells (opA 3 id kx lg fl) 57 (0, 0))) ∧ W.cell? ⟨zb, 1, none⟩ = some (.pointer (some ⟨pb, 0, none⟩))) (by kernel_rfl) (⟨Q3.out.drew.o, Q3.out.drew.pp⟩) (fun hHeld => ?_)
  refine wpAnyH_take (i := 0) (v := ?vb0) rfl (by kernel_rfl) (by kernel_rfl) (by kernel_rfl) (fun _ _ _ h => h) (Or.inl ⟨by first | kernel_rfl | rfl, ?yb0⟩) hHeld ?rb0
  case yb0 => (intro W hSW; (try dsimp only at hSW); go_simp; (try with_reducible rfl))
  change wpAnyH _ _ _ _ _ _ _ (Act.put _ (some 156) _) _
  simp only [Act.put, List.setIfInBounds_toArray, List.set_cons_zero, List.set_cons_succ]
  refine wpAnyH_take (i := 1) (v := ?vb1) rfl (by kernel_rfl) (by kernel_rfl) (by kernel_rfl) (fun _ _ _ h => h) (Or.inl ⟨by first | kernel_rfl | rfl, ?yb1⟩) hHeld ?rb1
  case yb1 => (intro W hSW; (try dsimp only at hSW); go_simp; (try with_reducible rfl))
  change wpAnyH _ _ _ _ _ _ _ (Act.put _ (some 157) _) _
  simp only [Act.put, List.setIfInBounds_toArray, List.set_cons_zero, List.set_cons_succ]
  refine wpAnyH_take (i := 2) (v := ?vb2) rfl (by kernel_rfl) (by kernel_rfl) (by kernel_rfl) (fun _ _ _ h => h) (Or.inl ⟨by first | kernel_rfl | rfl, ?yb2⟩) hHeld ?rb2
  case yb2 => (intro W hSW; (try dsimp only at hSW); go_simp; (try with_reducible rfl))
  change wpAnyH _ _ _ _ _ _ _ (Act.put _ (some 158) _) _
  simp only [Act.put, List.setIfInBounds_toArray, List.set_cons_zero, List.set_cons_succ]
  refine wpAnyH_take (i := 3) (v := ?vb3) rfl (by kernel_rfl) (by kernel_rfl) (by kernel_rfl) (fun _ _ _ h => h) (Or.inl ⟨by first | kernel_rfl | rfl, ?yb3⟩) hHeld ?rb3
  case yb3 => (intro W hSW; (try dsimp only at hSW); go_simp; (try with_reducible rfl))
  change wpAnyH _ _ _ _ _ _ _ (Act.put _ (some 159) _) _
  simp only [Act.put, List.setIfInBounds_toArray, List.set_cons_zero, List.set_cons_succ]
  refine wpAnyH_take (i := 4) (v := ?vb4) rfl (by kernel_rfl) (by kernel_rfl) (by kernel_rfl) (fun _ _ _ h => h) (Or.inl ⟨by first | kernel_rfl | rfl, ?yb4⟩) hHeld ?rb4
  case yb4 => (intro W hSW; (try dsimp only at hSW); go_simp; (try with_reducible rfl))
  change wpAnyH _ _ _ _ _ _ _ (Act.put _ (some 160) _) _
  simp only [Act.put, List.setIfInBounds_toArray, List.set_cons_zero, List.set_cons_succ]
  refine wpAnyH_take (i := 5) (v := .int .i64 kx) rfl (by kernel_rfl) (by kernel_rfl) (by kernel_rfl) (fun _ _ _ h => h) (Or.inl ⟨by first | kernel_rfl | rfl, ?yb5⟩) hHeld ?rb5
  case yb5 => (intro W hSW; have cq := OPC.out W hSW.1; obtain ⟨cq1, cq2⟩ := cq; go_simp; (try with_reducible rfl))
  change wpAnyH _ _ _ _ _ _ _ (Act.put _ (some 161) _) _
  simp only [Act.put, List.setIfInBounds_toArray, List.set_cons_zero, List.set_cons_succ]
  refine wpAnyH_take (i := 6) (v := ?vb6) rfl (by kernel_rfl) (by kernel_rfl) (by kernel_rfl) (fun _ _ _ h => h) (Or.inl ⟨by first | kernel_rfl | rfl, ?yb6⟩) hHeld ?rb6
  case yb6 => (intro W hSW; (try dsimp only at hSW); go_simp; (try with_reducible rfl))
  change wpAnyH _ _ _ _ _ _ _ (Act.put _ (some 162) _) _
  simp only [Act.put, List.setIfInBounds_toArray, List.set_cons_zero, List.set_cons_succ]
  refine wpAnyH_take (i := 7) (v := .int .i64 id) rfl (by kernel_rfl) (by kernel_rfl) (by kernel_rfl) (fun _ _ _ h => h) (Or.inl ⟨by first | kernel_rfl | rfl, ?yb7⟩) hHeld ?rb7
  case yb7 => (intro W hSW; have cq := OPC.out W hSW.1; obtain ⟨cq1, cq2⟩ := cq; go_simp; (try with_reducible rfl))
  change wpAnyH _ _ _ _ _ _ _ (Act.put _ (some 163) _) _
  simp only [Act.put, List.setIfInBounds_toArray, List.set_cons_zero, List.set_cons_succ]
  have HPC := ppoint_any Q3.out.drew.s.p kx id
  refine wpAnyH_ready (rs := [8]) (by kernel_rfl) (by simp) ?_
  refine AllReadyH.cons rfl (fun K hK => ?_) AllReadyH.nil
  go_simp
  refine (HPC).mono ?_
  rintro e V5 ⟨rfl, hT⟩
  refine hK.out _ _ ((fun ⟨_, _, x⟩ => ⟨x.o, x.pp⟩) (Q3.out.drew.pto hT)) (fun hHeld => ?_)
  clear hK K
  try simp only [Act.put, List.setIfInBounds_toArray, List.set_cons_zero, List.set_cons_succ]
  obtain ⟨ec, hec⟩ : ∃ ec : Nat, X.pcode n kx id = ec := ⟨_, rfl⟩
  rw [hec]
  have HE : Hid (∀ b, StepTo h0 F w g D pb jb n X zb jz k 3 (.returned (.bool b)) V5) := fun b => (fun ⟨_, _, x⟩ => StepTo.mild HI.out.1 (pput_mild X n kx id) x.done) (Q3.out.drew.pto hT)
  clear hT HPC hec
  refine wpAnyH_take (i := 9) (v := ?vb9) rfl (by kernel_rfl) (by kernel_rfl) (by kernel_rfl) (fun _ _ _ h => h) (Or.inl ⟨by first | kernel_rfl | rfl, ?yb9⟩) hHeld ?rb9
  case yb9 => (intro W hSW; (try dsimp only at hSW); go_simp; (try with_reducible rfl))
  change wpAnyH _ _ _ _ _ _ _ (Act.put _ (some 5) _) _
  simp only [Act.put, List.setIfInBounds_toArray, List.set_cons_zero, List.set_cons_succ]
  refine wpAnyH_done (by kernel_rfl) ?_ _
  by_cases ha : (ec : Int) = (c : Int)
  · have hab : ((ec : Int) == (c : Int)) = true := by rw [ha]; exact beq_self_eq_true _
    go_wp2
    go_ret
    exact HE.out _
  · have hab : ((ec : Int) == (c : Int)) = false := by simpa using ha
    go_wp2
    go_ret
    exact HE.out _
set_option maxRecDepth 100000 in
set_option maxHeartbeats 16000000 in
theorem step2 (h : Ps h0 F w S g D pb jb n X zb jz gs ns pv ov) (hi : Inv n k D X) (id kx lg : Int) (fl : Nat) (hfl : fl < 256) : Calls Tryz.prog 16 #[.pointer (some ⟨zb, 0, none⟩), .agg #[.int .i64 2, .int .i64 id, .int .i64 kx, .int .i64 lg, .int .u8 (fl : Int)]] w fun e w' => StepTo h0 F w g D pb jb n X zb jz k 2 e w' := by
  obtain ⟨hok, hn2, hn12⟩ := h.nn
  have q0 := Sq.start h (opA 2 id kx lg fl)
  have HI : Hid (Inv n k D X ∧ X.Ok n) := ⟨hi, hok⟩
  obtain ⟨B, hB⟩ : ∃ B, w.heap.size = B := ⟨_, rfl⟩
  obtain ⟨W0, hW0⟩ : ∃ W0, w.alloc (.cells (opA 2 id kx lg fl) 57) = W0 := ⟨_, rfl⟩
  obtain ⟨F0, hF0⟩ : ∃ F0, mor F w W0 = F0 := ⟨_, rfl⟩
  rw [hW0, hF0, hB] at q0
  clear hF0 hi hok
  have hW0 : w.alloc (.cells #[.int .i64 2, .int .i64 id, .int .i64 kx, .int .i64 lg, .int .u8 (fl : Int)] 57) = W0 := hW0
  have ck : W0.cell? ⟨B, 0, none⟩ = some (.int .i64 2) := q0.at 0 _ rfl
  have hl0 := q0.drew.s.z.lnow
  have OPC : Hid (∀ W : World, W.heap[B]? = some (.cells (opA 2 id kx lg fl) 57 (0, 0)) → W.cell? ⟨B, 1, none⟩ = some (.int .i64 id) ∧ W.cell? ⟨B, 2, none⟩ = some (.int .i64 kx)) := fun W hW => ⟨by rw [cell_of_row W B _ _ _ _ hW]; rfl, by rw [cell_of_row W B _ _ _ _ hW]; rfl⟩
  have HFI : Hid (fl < 256) := hfl
  clear hfl
  have Q0 : Hid (Sq h0 F w F0 W0 S g D pb jb n X zb jz gs ns pv ov B (opA 2 id kx lg fl)) := q0
  clear q0 h
  go_enter Tryz.func16, Tryz.ntmps16
  go_wp2
  refine wp_region_held_drew (S := fun W => W.heap[B]? = some (.cells (opA 2 id kx lg fl) 57 (0, 0))) (by kernel_rfl) (Q0.out.drew.o) (fun hHeld => ?_)
  refine wpAnyH_take (i := 0) (v := ?va0) rfl (by kernel_rfl) (by kernel_rfl) (by kernel_rfl) (fun _ _ _ h => h) (Or.inl ⟨by first | kernel_rfl | rfl, ?ya0⟩) hHeld ?ra0
  case ya0 => (intro W hSW; (try dsimp only at hSW); go_simp; (try with_reducible rfl))
  change wpAnyH _ _ _ _ _ _ _ (Act.put _ (some 112) _) _
  simp only [Act.put, List.setIfInBounds_toArray, List.set_cons_zero, List.set_cons_succ]
  refine wpAnyH_take (i := 1) (v := ?va1) rfl (by kernel_rfl) (by kernel_rfl) (by kernel_rfl) (fun _ _ _ h => h) (Or.inl ⟨by first | kernel_rfl | rfl, ?ya1⟩) hHeld ?ra1
  case ya1 => (intro W hSW; (try dsimp only at hSW); go_simp; (try with_reducible rfl))
  change wpAnyH _ _ _ _ _ _ _ (Act.put _ (some 113) _) _
  simp only [Act.put, List.setIfInBounds_toArray, List.set_cons_zero, List.set_cons_succ]
  refine wpAnyH_take (i := 2) (v := ?va2) rfl (by kernel_rfl) (by kernel_rfl) (by kernel_rfl) (fun _ _ _ h => h) (Or.inl ⟨by first | kernel_rfl | rfl, ?ya2⟩) hHeld ?ra2
  case ya2 => (intro W hSW; (try dsimp only at hSW); go_simp; (try with_reducible rfl))
  change wpAnyH _ _ _ _ _ _ _ (Act.put _ (some 114) _) _
  simp only [Act.put, List.setIfInBounds_toArray, List.set_cons_zero, List.set_cons_succ]
  refine wpAnyH_take (i := 3) (v := ?va3) rfl (by kernel_rfl) (by kernel_rfl) (by kernel_rfl) (fun _ _ _ h => h) (Or.inl ⟨by first | kernel_rfl | rfl, ?ya3⟩) hHeld ?ra3
  case ya3 => (intro W hSW; (try dsimp only at hSW); go_simp; (try with_reducible rfl))
  change wpAnyH _ _ _ _ _ _ _ (Act.put _ (some 115) _) _
  simp only [Act.put, List.setIfInBounds_toArray, List.set_cons_zero, List.set_cons_succ]
  refine wpAnyH_take (i := 4) (v := ?va4) rfl (by kernel_rfl) (by kernel_rfl) (by kernel_rfl) (fun _ _ _ h => h) (Or.inl ⟨by first | kernel_rfl | rfl, ?ya4⟩) hHeld ?ra4
  case ya4 => (intro W hSW; (try dsimp only at hSW); go_simp; (try with_reducible rfl))
  change wpAnyH _ _ _ _ _ _ _ (Act.put _ (some 116) _) _
  simp only [Act.put, List.setIfInBounds_toArray, List.set_cons_zero, List.set_cons_succ]
  refine wpAnyH_take (i := 6) (v := ?va6) rfl (by kernel_rfl) (by kernel_rfl) (by kernel_rfl) (fun _ _ _ h => h) (Or.inl ⟨by first | kernel_rfl | rfl, ?ya6⟩) hHeld ?ra6
  case ya6 => (intro W hSW; (try dsimp only at hSW); go_simp; (try with_reducible rfl))
  change wpAnyH _ _ _ _ _ _ _ (Act.put _ (some 118) _) _
  simp only [Act.put, List.setIfInBounds_toArray, List.set_cons_zero, List.set_cons_succ]
  refine wpAnyH_take (i := 7) (v := .int .i64 id) rfl (by kernel_rfl) (by kernel_rfl) (by kernel_rfl) (fun _ _ _ h => h) (Or.inl ⟨by first | kernel_rfl | rfl, ?ya7⟩) hHeld ?ra7
  case ya7 => (intro W hSW; have cq := OPC.out W hSW; obtain ⟨cq1, cq2⟩ := cq; go_simp; (try with_reducible rfl))
  change wpAnyH _ _ _ _ _ _ _ (Act.put _ (some 119) _) _
  simp only [Act.put, List.setIfInBounds_toArray, List.set_cons_zero, List.set_cons_succ]
  refine wpAnyH_take (i := 8) (v := .agg (opA 2 id kx lg fl)) rfl (by kernel_rfl) (by kernel_rfl) (by kernel_rfl) (fun _ _ _ h => h) (Or.inl ⟨by first | kernel_rfl | rfl, ?ya8⟩) hHeld ?ra8
  case ya8 => (intro W hSW; refine yields_at _ _ rfl rfl (op_load hSW))
  change wpAnyH _ _ _ _ _ _ _ (Act.put _ (some 120) _) _
  simp only [Act.put, List.setIfInBounds_toArray, List.set_cons_zero, List.set_cons_succ]
  refine wpAnyH_ready (rs := [5, 9]) (by kernel_rfl) (by simp) ?_
  refine AllReadyH.cons rfl (fun K hK => ?_) (AllReadyH.cons rfl (fun K hK => ?_) AllReadyH.nil)
  · rw [if_pos (by rfl)]
    refine wp_load_at _ _ rfl rfl hl0 ?_
    skip
    refine hK.out _ _ (hHeld) (fun hHeld => ?_)
    clear hK K
    change wpAnyH _ _ _ _ _ _ _ (Act.put _ (some 117) _) _
    simp only [Act.put, List.setIfInBounds_toArray, List.set_cons_zero, List.set_cons_succ]
    refine wpAnyH_ready (rs := [9]) (by kernel_rfl) (by simp) ?_
    refine AllReadyH.cons rfl (fun K hK => ?_) AllReadyH.nil
    go_simp
    refine (filled_any 2 id kx lg fl _ HFI.out).mono ?_
    rintro e V1 ⟨rfl, hb1⟩
    refine hK.out _ _ ((Q0.out.drew.below hb1).o) (fun hHeld => ?_)
    clear hK K
    try simp only [Act.put, List.setIfInBounds_toArray, List.set_cons_zero, List.set_cons_succ]
    have q1 := Q0.out.drew.below hb1
    obtain ⟨F1, hF1⟩ : ∃ F1, mor F0 W0.drew V1 = F1 := ⟨_, rfl⟩
    rw [hF1] at q1
    have hl1 := q1.s.z.lnow
    have HDC := rwrite_any q1.s.z.s q1.s.blt (by omega) (by omega) id (fillS lg fl)
    have Q1 : Hid (Sq h0 F w F1 V1 S g D pb jb n X zb jz gs ns pv ov B (opA 2 id kx lg fl)) := q1
    clear q1 hb1 hF1
    refine wpAnyH_ready (rs := [10]) (by kernel_rfl) (by simp) ?_
    refine AllReadyH.cons rfl (fun K hK => ?_) AllReadyH.nil
    go_simp
    refine (HDC).mono ?_
    rintro e V2 ⟨v', c, rfl, hD2, hb2⟩
    refine hK.out _ _ ((Q1.out.below hb2).o) (fun hHeld => ?_)
    clear hK K
    try simp only [Act.put, List.setIfInBounds_toArray, List.set_cons_zero, List.set_cons_succ]
    obtain ⟨r', rfl, hrz, hro⟩ := hD2.agg
    have q2 := Q1.out.below hb2
    have hDs := DSt.since Q1.out.s.z.lt hD2
    have hst := q2.s.z.store_now hrz hro
    have q3 := q2.with (q2.s.now hrz hDs)
    obtain ⟨F3, hF3⟩ : ∃ F3, mor F1 V1 V2 = F3 := ⟨_, rfl⟩
    obtain ⟨V3, hV3⟩ : ∃ V3, V2.setRow zb (prA jz pb gs r' pv ov) = V3 := ⟨_, rfl⟩
    rw [hV3, hF3] at q3
    rw [hV3] at hst
    have Q3 : Hid (Sq h0 F w F3 V3 S g D pb jb n X zb jz gs r' pv ov B (opA 2 id kx lg fl)) := q3
    clear hD2 hb2 q2 hDs q3 hF3 hV3 hro
    refine wpAnyH_take (i := 11) (v := ?vc11) rfl (by kernel_rfl) (by kernel_rfl) (by kernel_rfl) (fun _ _ _ h => h) (Or.inl ⟨by first | kernel_rfl | rfl, ?yc11⟩) hHeld ?rc11
    case yc11 => (intro W hSW; (try dsimp only at hSW); go_simp; (try with_reducible rfl))
    change wpAnyH _ _ _ _ _ _ _ (Act.put _ (some 111) _) _
    simp only [Act.put, List.setIfInBounds_toArray, List.set_cons_zero, List.set_cons_succ]
    refine wpAnyH_take (i := 12) (v := ?vc12) rfl (by kernel_rfl) (by kernel_rfl) (by kernel_rfl) (fun _ _ _ h => h) (Or.inl ⟨by first | kernel_rfl | rfl, ?yc12⟩) hHeld ?rc12
    case yc12 => (intro W hSW; (try dsimp only at hSW); go_simp; (try with_reducible rfl))
    change wpAnyH _ _ _ _ _ _ _ (Act.put _ (some 123) _) _
    simp only [Act.put, List.setIfInBounds_toArray, List.set_cons_zero, List.set_cons_succ]
    refine wpAnyH_take (i := 13) (v := ?vc13) rfl (by kernel_rfl) (by kernel_rfl) (by kernel_rfl) (fun _ _ _ h => h) (Or.inl ⟨by first | kernel_rfl | rfl, ?yc13⟩) hHeld ?rc13
    case yc13 => (intro W hSW; (try dsimp only at hSW); go_simp; (try with_reducible rfl))
    change wpAnyH _ _ _ _ _ _ _ (Act.put _ (some 124) _) _
    simp only [Act.put, List.setIfInBounds_toArray, List.set_cons_zero, List.set_cons_succ]
    refine wpAnyH_take (i := 14) (v := ?vc14) rfl (by kernel_rfl) (by kernel_rfl) (by kernel_rfl) (fun _ _ _ h => h) (Or.inl ⟨by first | kernel_rfl | rfl, ?yc14⟩) hHeld ?rc14
    case yc14 => (intro W hSW; (try dsimp only at hSW); go_simp; (try with_reducible rfl))
    change wpAnyH _ _ _ _ _ _ _ (Act.put _ (some 125) _) _
    simp only [Act.put, List.setIfInBounds_toArray, List.set_cons_zero, List.set_cons_succ]
    refine wpAnyH_take (i := 15) (v := ?vc15) rfl (by kernel_rfl) (by kernel_rfl) (by kernel_rfl) (fun _ _ _ h => h) (Or.inl ⟨by first | kernel_rfl | rfl, ?yc15⟩) hHeld ?rc15
    case yc15 => (intro W hSW; (try dsimp only at hSW); go_simp; (try with_reducible rfl))
    change wpAnyH _ _ _ _ _ _ _ (Act.put _ (some 126) _) _
    simp only [Act.put, List.setIfInBounds_toArray, List.set_cons_zero, List.set_cons_succ]
    refine wpAnyH_take (i := 16) (v := ?vc16) rfl (by kernel_rfl) (by kernel_rfl) (by kernel_rfl) (fun _ _ _ h => h) (Or.inl ⟨by first | kernel_rfl | rfl, ?yc16⟩) hHeld ?rc16
    case yc16 => (intro W hSW; (try dsimp only at hSW); go_simp; (try with_reducible rfl))
    change wpAnyH _ _ _ _ _ _ _ (Act.put _ (some 127) _) _
    simp only [Act.put, List.setIfInBounds_toArray, List.set_cons_zero, List.set_cons_succ]
    refine wpAnyH_ready (rs := [17]) (by kernel_rfl) (by simp) ?_
    refine AllReadyH.cons rfl (fun K hK => ?_) AllReadyH.nil
    go_simp
    refine hK.out _ _ (Q3.out.o) (fun hHeld => ?_)
    clear hK K
    refine wpAnyH_take (i := 18) (v := ?vc18) rfl (by kernel_rfl) (by kernel_rfl) (by kernel_rfl) (fun _ _ _ h => h) (Or.inl ⟨by first | kernel_rfl | rfl, ?yc18⟩) hHeld ?rc18
    case yc18 => (intro W hSW; (try dsimp only at hSW); go_simp; (try with_reducible rfl))
    change wpAnyH _ _ _ _ _ _ _ (Act.put _ (some 6) _) _
    simp only [Act.put, List.setIfInBounds_toArray, List.set_cons_zero, List.set_cons_succ]
    refine wpAnyH_done (by kernel_rfl) ?_ _
    clear Q0 HDC hl0 hl1 Q1
    go_wp2
    refine wp_region_held_drew (S := fun W => (W.heap[B]? = some (.cells (opA 2 id kx lg fl) 57 (0, 0))) ∧ W.cell? ⟨zb, 1, none⟩ = some (.pointer (some ⟨pb, 0, none⟩))) (by kernel_rfl) (⟨Q3.out.drew.o, Q3.out.drew.pp⟩) (fun hHeld => ?_)
    refine wpAnyH_take (i := 0) (v := ?vcb0) rfl (by kernel_rfl) (by kernel_rfl) (by kernel_rfl) (fun _ _ _ h => h) (Or.inl ⟨by first | kernel_rfl | rfl, ?ycb0⟩) hHeld ?rcb0
    case ycb0 => (intro W hSW; (try dsimp only at hSW); go_simp; (try with_reducible rfl))
    change wpAnyH _ _ _ _ _ _ _ (Act.put _ (some 128) _) _
    simp only [Act.put, List.setIfInBounds_toArray, List.set_cons_zero, List.set_cons_succ]
    refine wpAnyH_take (i := 1) (v := ?vcb1) rfl (by kernel_rfl) (by kernel_rfl) (by kernel_rfl) (fun _ _ _ h => h) (Or.inl ⟨by first | kernel_rfl | rfl, ?ycb1⟩) hHeld ?rcb1
    case ycb1 => (intro W hSW; (try dsimp only at hSW); go_simp; (try with_reducible rfl))
    change wpAnyH _ _ _ _ _ _ _ (Act.put _ (some 129) _) _
    simp only [Act.put, List.setIfInBounds_toArray, List.set_cons_zero, List.set_cons_succ]
    refine wpAnyH_take (i := 2) (v := ?vcb2) rfl (by kernel_rfl) (by kernel_rfl) (by kernel_rfl) (fun _ _ _ h => h) (Or.inl ⟨by first | kernel_rfl | rfl, ?ycb2⟩) hHeld ?rcb2
    case ycb2 => (intro W hSW; (try dsimp only at hSW); go_simp; (try with_reducible rfl))
    change wpAnyH _ _ _ _ _ _ _ (Act.put _ (some 130) _) _
    simp only [Act.put, List.setIfInBounds_toArray, List.set_cons_zero, List.set_cons_succ]
    refine wpAnyH_take (i := 3) (v := ?vcb3) rfl (by kernel_rfl) (by kernel_rfl) (by kernel_rfl) (fun _ _ _ h => h) (Or.inl ⟨by first | kernel_rfl | rfl, ?ycb3⟩) hHeld ?rcb3
    case ycb3 => (intro W hSW; (try dsimp only at hSW); go_simp; (try with_reducible rfl))
    change wpAnyH _ _ _ _ _ _ _ (Act.put _ (some 131) _) _
    simp only [Act.put, List.setIfInBounds_toArray, List.set_cons_zero, List.set_cons_succ]
    refine wpAnyH_take (i := 4) (v := ?vcb4) rfl (by kernel_rfl) (by kernel_rfl) (by kernel_rfl) (fun _ _ _ h => h) (Or.inl ⟨by first | kernel_rfl | rfl, ?ycb4⟩) hHeld ?rcb4
    case ycb4 => (intro W hSW; (try dsimp only at hSW); go_simp; (try with_reducible rfl))
    change wpAnyH _ _ _ _ _ _ _ (Act.put _ (some 132) _) _
    simp only [Act.put, List.setIfInBounds_toArray, List.set_cons_zero, List.set_cons_succ]
    refine wpAnyH_take (i := 5) (v := .int .i64 id) rfl (by kernel_rfl) (by kernel_rfl) (by kernel_rfl) (fun _ _ _ h => h) (Or.inl ⟨by first | kernel_rfl | rfl, ?ycb5⟩) hHeld ?rcb5
    case ycb5 => (intro W hSW; have cq := OPC.out W hSW.1; obtain ⟨cq1, cq2⟩ := cq; go_simp; (try with_reducible rfl))
    change wpAnyH _ _ _ _ _ _ _ (Act.put _ (some 133) _) _
    simp only [Act.put, List.setIfInBounds_toArray, List.set_cons_zero, List.set_cons_succ]
    refine wpAnyH_take (i := 6) (v := .agg (opA 2 id kx lg fl)) rfl (by kernel_rfl) (by kernel_rfl) (by kernel_rfl) (fun _ _ _ h => h) (Or.inl ⟨by first | kernel_rfl | rfl, ?ycb6⟩) hHeld ?rcb6
    case ycb6 => (intro W hSW; refine yields_at _ _ rfl rfl (op_load hSW.1))
    change wpAnyH _ _ _ _ _ _ _ (Act.put _ (some 134) _) _
    simp only [Act.put, List.setIfInBounds_toArray, List.set_cons_zero, List.set_cons_succ]
    refine wpAnyH_ready (rs := [7]) (by kernel_rfl) (by simp) ?_
    refine AllReadyH.cons rfl (fun K hK => ?_) AllReadyH.nil
    go_simp
    refine (filled_any 2 id kx lg fl _ HFI.out).mono ?_
    rintro e V4 ⟨rfl, hb4⟩
    refine hK.out _ _ (⟨(Q3.out.drew.below hb4).o, (Q3.out.drew.below hb4).pp⟩) (fun hHeld => ?_)
    clear hK K
    try simp only [Act.put, List.setIfInBounds_toArray, List.set_cons_zero, List.set_cons_succ]
    have q4 := Q3.out.drew.below hb4
    have HPC := pwrite_any q4.s.p id (fillS lg fl) (by rw [fillS_size]; have := (fillN_le lg).1; omega)
    obtain ⟨F4, hF4⟩ : ∃ F4, mor F3 V3.drew V4 = F4 := ⟨_, rfl⟩
    rw [hF4] at q4 HPC
    have Q4 : Hid (Sq h0 F w F4 V4 S g D pb jb n X zb jz gs r' pv ov B (opA 2 id kx lg fl)) := q4
    clear q4 hb4 hF4
    refine wpAnyH_ready (rs := [8]) (by kernel_rfl) (by simp) ?_
    refine AllReadyH.cons rfl (fun K hK => ?_) AllReadyH.nil
    go_simp
    refine (HPC).mono ?_
    rintro e V5 ⟨rfl, hT⟩
    refine hK.out _ _ ((fun ⟨_, _, x⟩ => ⟨x.o, x.pp⟩) (Q4.out.pto hT)) (fun hHeld => ?_)
    clear hK K
    try simp only [Act.put, List.setIfInBounds_toArray, List.set_cons_zero, List.set_cons_succ]
    obtain ⟨ec, hec⟩ : ∃ ec : Nat, X.wcode n id (fillS lg fl) = ec := ⟨_, rfl⟩
    rw [hec]
    have HE : Hid (∀ b, StepTo h0 F w g D pb jb n X zb jz k 2 (.returned (.bool b)) V5) := fun b => (fun ⟨_, _, x⟩ => StepTo.mild HI.out.1 (wput_mild X n id _) x.done) (Q4.out.pto hT)
    clear hT HPC hec
    refine wpAnyH_take (i := 9) (v := ?vcb9) rfl (by kernel_rfl) (by kernel_rfl) (by kernel_rfl) (fun _ _ _ h => h) (Or.inl ⟨by first | kernel_rfl | rfl, ?ycb9⟩) hHeld ?rcb9
    case ycb9 => (intro W hSW; (try dsimp only at hSW); go_simp; (try with_reducible rfl))
    change wpAnyH _ _ _ _ _ _ _ (Act.put _ (some 5) _) _
    simp only [Act.put, List.setIfInBounds_toArray, List.set_cons_zero, List.set_cons_succ]
    refine wpAnyH_done (by kernel_rfl) ?_ _
    by_cases ha : (ec : Int) = (c : Int)
    · have hab : ((ec : Int) == (c : Int)) = true := by rw [ha]; exact beq_self_eq_true _
      go_wp2
      go_ret
      exact HE.out _
    · have hab : ((ec : Int) == (c : Int)) = false := by simpa using ha
      go_wp2
      go_ret
      exact HE.out _
  · go_simp
    refine (filled_any 2 id kx lg fl _ HFI.out).mono ?_
    rintro e V1 ⟨rfl, hb1⟩
    refine hK.out _ _ ((Q0.out.drew.below hb1).o) (fun hHeld => ?_)
    clear hK K
    try simp only [Act.put, List.setIfInBounds_toArray, List.set_cons_zero, List.set_cons_succ]
    have q1 := Q0.out.drew.below hb1
    obtain ⟨F1, hF1⟩ : ∃ F1, mor F0 W0.drew V1 = F1 := ⟨_, rfl⟩
    rw [hF1] at q1
    have hl1 := q1.s.z.lnow
    have HDC := rwrite_any q1.s.z.s q1.s.blt (by omega) (by omega) id (fillS lg fl)
    have Q1 : Hid (Sq h0 F w F1 V1 S g D pb jb n X zb jz gs ns pv ov B (opA 2 id kx lg fl)) := q1
    clear q1 hb1 hF1
    refine wpAnyH_ready (rs := [5]) (by kernel_rfl) (by simp) ?_
    refine AllReadyH.cons rfl (fun K hK => ?_) AllReadyH.nil
    rw [if_pos (by rfl)]
    refine wp_load_at _ _ rfl rfl hl1 ?_
    skip
    refine hK.out _ _ (hHeld) (fun hHeld => ?_)
    clear hK K
    change wpAnyH _ _ _ _ _ _ _ (Act.put _ (some 117) _) _
    simp only [Act.put, List.setIfInBounds_toArray, List.set_cons_zero, List.set_cons_succ]
    refine wpAnyH_ready (rs := [10]) (by kernel_rfl) (by simp) ?_
    refine AllReadyH.cons rfl (fun K hK => ?_) AllReadyH.nil
    go_simp
    refine (HDC).mono ?_
    rintro e V2 ⟨v', c, rfl, hD2, hb2⟩
    refine hK.out _ _ ((Q1.out.below hb2).o) (fun hHeld => ?_)
    clear hK K
    try simp only [Act.put, List.setIfInBounds_toArray, List.set_cons_zero, List.set_cons_succ]
    obtain ⟨r', rfl, hrz, hro⟩ := hD2.agg
    have q2 := Q1.out.below hb2
    have hDs := DSt.since Q1.out.s.z.lt hD2
    have hst := q2.s.z.store_now hrz hro
    have q3 := q2.with (q2.s.now hrz hDs)
    obtain ⟨F3, hF3⟩ : ∃ F3, mor F1 V1 V2 = F3 := ⟨_, rfl⟩
    obtain ⟨V3, hV3⟩ : ∃ V3, V2.setRow zb (prA jz pb gs r' pv ov) = V3 := ⟨_, rfl⟩
    rw [hV3, hF3] at q3
    rw [hV3] at hst
    have Q3 : Hid (Sq h0 F w F3 V3 S g D pb jb n X zb jz gs r' pv ov B (opA 2 id kx lg fl)) := q3
    clear hD2 hb2 q2 hDs q3 hF3 hV3 hro
    refine wpAnyH_take (i := 11) (v := ?vd11) rfl (by kernel_rfl) (by kernel_rfl) (by kernel_rfl) (fun _ _ _ h => h) (Or.inl ⟨by first | kernel_rfl | rfl, ?yd11⟩) hHeld ?rd11
    case yd11 => (intro W hSW; (try dsimp only at hSW); go_simp; (try with_reducible rfl))
    change wpAnyH _ _ _ _ _ _ _ (Act.put _ (some 111) _) _
    simp only [Act.put, List.setIfInBounds_toArray, List.set_cons_zero, List.set_cons_succ]
    refine wpAnyH_take (i := 12) (v := ?vd12) rfl (by kernel_rfl) (by kernel_rfl) (by kernel_rfl) (fun _ _ _ h => h) (Or.inl ⟨by first | kernel_rfl | rfl, ?yd12⟩) hHeld ?rd12
    case yd12 => (intro W hSW; (try dsimp only at hSW); go_simp; (try with_reducible rfl))
    change wpAnyH _ _ _ _ _ _ _ (Act.put _ (some 123) _) _
    simp only [Act.put, List.setIfInBounds_toArray, List.set_cons_zero, List.set_cons_succ]
    refine wpAnyH_take (i := 13) (v := ?vd13) rfl (by kernel_rfl) (by kernel_rfl) (by kernel_rfl) (fun _ _ _ h => h) (Or.inl ⟨by first | kernel_rfl | rfl, ?yd13⟩) hHeld ?rd13
    case yd13 => (intro W hSW; (try dsimp only at hSW); go_simp; (try with_reducible rfl))
    change wpAnyH _ _ _ _ _ _ _ (Act.put _ (some 124) _) _
    simp only [Act.put, List.setIfInBounds_toArray, List.set_cons_zero, List.set_cons_succ]
    refine wpAnyH_take (i := 14) (v := ?vd14) rfl (by kernel_rfl) (by kernel_rfl) (by kernel_rfl) (fun _ _ _ h => h) (Or.inl ⟨by first | kernel_rfl | rfl, ?yd14⟩) hHeld ?rd14
    case yd14 => (intro W hSW; (try dsimp only at hSW); go_simp; (try with_reducible rfl))
    change wpAnyH _ _ _ _ _ _ _ (Act.put _ (some 125) _) _
    simp only [Act.put, List.setIfInBounds_toArray, List.set_cons_zero, List.set_cons_succ]
    refine wpAnyH_take (i := 15) (v := ?vd15) rfl (by kernel_rfl) (by kernel_rfl) (by kernel_rfl) (fun _ _ _ h => h) (Or.inl ⟨by first | kernel_rfl | rfl, ?yd15⟩) hHeld ?rd15
    case yd15 => (intro W hSW; (try dsimp only at hSW); go_simp; (try with_reducible rfl))
    change wpAnyH _ _ _ _ _ _ _ (Act.put _ (some 126) _) _
    simp only [Act.put, List.setIfInBounds_toArray, List.set_cons_zero, List.set_cons_succ]
    refine wpAnyH_take (i := 16) (v := ?vd16) rfl (by kernel_rfl) (by kernel_rfl) (by kernel_rfl) (fun _ _ _ h => h) (Or.inl ⟨by first | kernel_rfl | rfl, ?yd16⟩) hHeld ?rd16
    case yd16 => (intro W hSW; (try dsimp only at hSW); go_simp; (try with_reducible rfl))
    change wpAnyH _ _ _ _ _ _ _ (Act.put _ (some 127) _) _
    simp only [Act.put, List.setIfInBounds_toArray, List.set_cons_zero, List.set_cons_succ]
    refine wpAnyH_ready (rs := [17]) (by kernel_rfl) (by simp) ?_
    refine AllReadyH.cons rfl (fun K hK => ?_) AllReadyH.nil
    go_simp
    refine hK.out _ _ (Q3.out.o) (fun hHeld => ?_)
    clear hK K
    refine wpAnyH_take (i := 18) (v := ?vd18) rfl (by kernel_rfl) (by kernel_rfl) (by kernel_rfl) (fun _ _ _ h => h) (Or.inl ⟨by first | kernel_rfl | rfl, ?yd18⟩) hHeld ?rd18
    case yd18 => (intro W hSW; (try dsimp only at hSW); go_simp; (try with_reducible rfl))
    change wpAnyH _ _ _ _ _ _ _ (Act.put _ (some 6) _) _
    simp only [Act.put, List.setIfInBounds_toArray, List.set_cons_zero, List.set_cons_succ]
    refine wpAnyH_done (by kernel_rfl) ?_ _
    clear Q0 HDC hl0 hl1 Q1
    go_wp2
    refine wp_region_held_drew (S := fun W => (W.heap[B]? = some (.cells (opA 2 id kx lg fl) 57 (0, 0))) ∧ W.cell? ⟨zb, 1, none⟩ = some (.pointer (some ⟨pb, 0, none⟩))) (by kernel_rfl) (⟨Q3.out.drew.o, Q3.out.drew.pp⟩) (fun hHeld => ?_)
    refine wpAnyH_take (i := 0) (v := ?vdb0) rfl (by kernel_rfl) (by kernel_rfl) (by kernel_rfl) (fun _ _ _ h => h) (Or.inl ⟨by first | kernel_rfl | rfl, ?ydb0⟩) hHeld ?rdb0
    case ydb0 => (intro W hSW; (try dsimp only at hSW); go_simp; (try with_reducible rfl))
    change wpAnyH _ _ _ _ _ _ _ (Act.put _ (some 128) _) _
    simp only [Act.put, List.setIfInBounds_toArray, List.set_cons_zero, List.set_cons_succ]
    refine wpAnyH_take (i := 1) (v := ?vdb1) rfl (by kernel_rfl) (by kernel_rfl) (by kernel_rfl) (fun _ _ _ h => h) (Or.inl ⟨by first | kernel_rfl | rfl, ?ydb1⟩) hHeld ?rdb1
    case ydb1 => (intro W hSW; (try dsimp only at hSW); go_simp; (try with_reducible rfl))
    change wpAnyH _ _ _ _ _ _ _ (Act.put _ (some 129) _) _
    simp only [Act.put, List.setIfInBounds_toArray, List.set_cons_zero, List.set_cons_succ]
    refine wpAnyH_take (i := 2) (v := ?vdb2) rfl (by kernel_rfl) (by kernel_rfl) (by kernel_rfl) (fun _ _ _ h => h) (Or.inl ⟨by first | kernel_rfl | rfl, ?ydb2⟩) hHeld ?rdb2
    case ydb2 => (intro W hSW; (try dsimp only at hSW); go_simp; (try with_reducible rfl))
    change wpAnyH _ _ _ _ _ _ _ (Act.put _ (some 130) _) _
    simp only [Act.put, List.setIfInBounds_toArray, List.set_cons_zero, List.set_cons_succ]
    refine wpAnyH_take (i := 3) (v := ?vdb3) rfl (by kernel_rfl) (by kernel_rfl) (by kernel_rfl) (fun _ _ _ h => h) (Or.inl ⟨by first | kernel_rfl | rfl, ?ydb3⟩) hHeld ?rdb3
    case ydb3 => (intro W hSW; (try dsimp only at hSW); go_simp; (try with_reducible rfl))
    change wpAnyH _ _ _ _ _ _ _ (Act.put _ (some 131) _) _
    simp only [Act.put, List.setIfInBounds_toArray, List.set_cons_zero, List.set_cons_succ]
    refine wpAnyH_take (i := 4) (v := ?vdb4) rfl (by kernel_rfl) (by kernel_rfl) (by kernel_rfl) (fun _ _ _ h => h) (Or.inl ⟨by first | kernel_rfl | rfl, ?ydb4⟩) hHeld ?rdb4
    case ydb4 => (intro W hSW; (try dsimp only at hSW); go_simp; (try with_reducible rfl))
    change wpAnyH _ _ _ _ _ _ _ (Act.put _ (some 132) _) _
    simp only [Act.put, List.setIfInBounds_toArray, List.set_cons_zero, List.set_cons_succ]
    refine wpAnyH_take (i := 5) (v := .int .i64 id) rfl (by kernel_rfl) (by kernel_rfl) (by kernel_rfl) (fun _ _ _ h => h) (Or.inl ⟨by first | kernel_rfl | rfl, ?ydb5⟩) hHeld ?rdb5
    case ydb5 => (intro W hSW; have cq := OPC.out W hSW.1; obtain ⟨cq1, cq2⟩ := cq; go_simp; (try with_reducible rfl))
    change wpAnyH _ _ _ _ _ _ _ (Act.put _ (some 133) _) _
    simp only [Act.put, List.setIfInBounds_toArray, List.set_cons_zero, List.set_cons_succ]
    refine wpAnyH_take (i := 6) (v := .agg (opA 2 id kx lg fl)) rfl (by kernel_rfl) (by kernel_rfl) (by kernel_rfl) (fun _ _ _ h => h) (Or.inl ⟨by first | kernel_rfl | rfl, ?ydb6⟩) hHeld ?rdb6
    case ydb6 => (intro W hSW; refine yields_at _ _ rfl rfl (op_load hSW.1))
    change wpAnyH _ _ _ _ _ _ _ (Act.put _ (some 134) _) _
    simp only [Act.put, List.setIfInBounds_toArray, List.set_cons_zero, List.set_cons_succ]
    refine wpAnyH_ready (rs := [7]) (by kernel_rfl) (by simp) ?_
    refine AllReadyH.cons rfl (fun K hK => ?_) AllReadyH.nil
    go_simp
    refine (filled_any 2 id kx lg fl _ HFI.out).mono ?_
    rintro e V4 ⟨rfl, hb4⟩
    refine hK.out _ _ (⟨(Q3.out.drew.below hb4).o, (Q3.out.drew.below hb4).pp⟩) (fun hHeld => ?_)
    clear hK K
    try simp only [Act.put, List.setIfInBounds_toArray, List.set_cons_zero, List.set_cons_succ]
    have q4 := Q3.out.drew.below hb4
    have HPC := pwrite_any q4.s.p id (fillS lg fl) (by rw [fillS_size]; have := (fillN_le lg).1; omega)
    obtain ⟨F4, hF4⟩ : ∃ F4, mor F3 V3.drew V4 = F4 := ⟨_, rfl⟩
    rw [hF4] at q4 HPC
    have Q4 : Hid (Sq h0 F w F4 V4 S g D pb jb n X zb jz gs r' pv ov B (opA 2 id kx lg fl)) := q4
    clear q4 hb4 hF4
    refine wpAnyH_ready (rs := [8]) (by kernel_rfl) (by simp) ?_
    refine AllReadyH.cons rfl (fun K hK => ?_) AllReadyH.nil
    go_simp
    refine (HPC).mono ?_
    rintro e V5 ⟨rfl, hT⟩
    refine hK.out _ _ ((fun ⟨_, _, x⟩ => ⟨x.o, x.pp⟩) (Q4.out.pto hT)) (fun hHeld => ?_)
    clear hK K
    try simp only [Act.put, List.setIfInBounds_toArray, List.set_cons_zero, List.set_cons_succ]
    obtain ⟨ec, hec⟩ : ∃ ec : Nat, X.wcode n id (fillS lg fl) = ec := ⟨_, rfl⟩
    rw [hec]
    have HE : Hid (∀ b, StepTo h0 F w g D pb jb n X zb jz k 2 (.returned (.bool b)) V5) := fun b => (fun ⟨_, _, x⟩ => StepTo.mild HI.out.1 (wput_mild X n id _) x.done) (Q4.out.pto hT)
    clear hT HPC hec
    refine wpAnyH_take (i := 9) (v := ?vdb9) rfl (by kernel_rfl) (by kernel_rfl) (by kernel_rfl) (fun _ _ _ h => h) (Or.inl ⟨by first | kernel_rfl | rfl, ?ydb9⟩) hHeld ?rdb9
    case ydb9 => (intro W hSW; (try dsimp only at hSW); go_simp; (try with_reducible rfl))
    change wpAnyH _ _ _ _ _ _ _ (Act.put _ (some 5) _) _
    simp only [Act.put, List.setIfInBounds_toArray, List.set_cons_zero, List.set_cons_succ]
    refine wpAnyH_done (by kernel_rfl) ?_ _
    by_cases ha : (ec : Int) = (c : Int)
    · have hab : ((ec : Int) == (c : Int)) = true := by rw [ha]; exact beq_self_eq_true _
      go_wp2
      go_ret
      exact HE.out _
    · have hab : ((ec : Int) == (c : Int)) = false := by simpa using ha
      go_wp2
      go_ret
      exact HE.out _
end
end Go.Proofs.YtdgffocmdkadpaaGreat
