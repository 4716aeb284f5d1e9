/- Walks over the statements' step: reads; any step. -/
import Derived.Test.YtdgffocmdkadpaaGreatRS
import Derived.Test.YtdgffocmdkadpaaGreatRT
import Derived.Test.YtdgffocmdkadpaaGreatRU
import Derived.Test.YtdgffocmdkadpaaGreatRV
namespace Go.Proofs.YtdgffocmdkadpaaGreat
open Go.RowKit Go.Shelf Pg
section
variable {h0 : Nat} {F : Nat → Prop} {w : World} {S : Nat → Prop} {g : Nat} {D : Dk} {pb jb n : Nat} {X : Px} {zb jz k : Nat} {gs ns : Array Value} {pv ov : Value}
set_option maxRecDepth 100000 in
set_option maxHeartbeats 16000000 in
theorem stepD (h : Ps h0 F w S g D pb jb n X zb jz gs ns pv ov) (hi : Inv n k D X) (kd : Int) (hkd : kd < 0 ∨ 8 < kd) (id kx lg : Int) (fl : Nat) : Calls Tryz.prog 16 #[.pointer (some ⟨zb, 0, none⟩), .agg #[.int .i64 kd, .int .i64 id, .int .i64 kx, .int .i64 lg, .int .u8 (fl : Int)]] w fun e w' => StepTo h0 F w g D pb jb n X zb jz k kd e w' := by
  obtain ⟨hok, hn2, hn12⟩ := h.nn
  have q0 := Sq.start h (opA kd id kx lg fl)
  have HI : Hid (Inv n k D X ∧ X.Ok n) := ⟨hi, hok⟩
  obtain ⟨B, hB⟩ : ∃ B, w.heap.size = B := ⟨_, rfl⟩
  obtain ⟨W0, hW0⟩ : ∃ W0, w.alloc (.cells (opA kd id kx lg fl) 57) = W0 := ⟨_, rfl⟩
  obtain ⟨F0, hF0⟩ : ∃ F0, mor F w W0 = F0 := ⟨_, rfl⟩
  rw [hW0, hF0, hB] at q0
  clear hF0 hi hok
  have hW0 : w.alloc (.cells #[.int .i64 kd, .int .i64 id, .int .i64 kx, .int .i64 lg, .int .u8 (fl : Int)] 57) = W0 := hW0
  have ck : W0.cell? ⟨B, 0, none⟩ = some (.int .i64 kd) := q0.at 0 _ rfl
  have k0 : (kd == 0) = false := by simp; omega
  have k1 : (kd == 1) = false := by simp; omega
  have k2 : (kd == 2) = false := by simp; omega
  have k3 : (kd == 3) = false := by simp; omega
  have k4 : (kd == 4) = false := by simp; omega
  have k5 : (kd == 5) = false := by simp; omega
  have k6 : (kd == 6) = false := by simp; omega
  have k7 : (kd == 7) = false := by simp; omega
  have k8 : (kd == 8) = false := by simp; omega
  have m0 : ¬ kd = 0 := by omega
  have m1 : ¬ kd = 1 := by omega
  have m2 : ¬ kd = 2 := by omega
  have m3 : ¬ kd = 3 := by omega
  have m4 : ¬ kd = 4 := by omega
  have m5 : ¬ kd = 5 := by omega
  have m6 : ¬ kd = 6 := by omega
  have m7 : ¬ kd = 7 := by omega
  have m8 : ¬ kd = 8 := by omega
  have OPC : Hid (∀ W : World, W.heap[B]? = some (.cells (opA kd id kx lg fl) 57 (0, 0)) → W.cell? ⟨B, 1, none⟩ = some (.int .i64 id)) := fun W hW => by rw [cell_of_row W B _ _ _ _ hW]; rfl
  have Q0 : Hid (Sq h0 F w F0 W0 S g D pb jb n X zb jz gs ns pv ov B (opA kd id kx lg fl)) := q0
  clear q0 h hkd
  go_enter Tryz.func16, Tryz.ntmps16
  go_wp2
  refine wp_region_held_drew (S := fun W => (W.heap[B]? = some (.cells (opA kd id kx lg fl) 57 (0, 0))) ∧ W.cell? ⟨zb, 1, none⟩ = some (.pointer (some ⟨pb, 0, none⟩))) (by kernel_rfl) (⟨Q0.out.drew.o, Q0.out.drew.pp⟩) (fun hHeld => ?_)
  refine wpAnyH_take (i := 0) (v := ?va0) rfl (by kernel_rfl) (by kernel_rfl) (by kernel_rfl) (fun _ _ _ h => h) (Or.inl ⟨by first | kernel_rfl | rfl, ?ya0⟩) hHeld ?ra0
  case ya0 => (intro W hSW; (try dsimp only at hSW); go_simp; (try with_reducible rfl))
  change wpAnyH _ _ _ _ _ _ _ (Act.put _ (some 24) _) _
  simp only [Act.put, List.setIfInBounds_toArray, List.set_cons_zero, List.set_cons_succ]
  refine wpAnyH_take (i := 1) (v := ?va1) rfl (by kernel_rfl) (by kernel_rfl) (by kernel_rfl) (fun _ _ _ h => h) (Or.inl ⟨by first | kernel_rfl | rfl, ?ya1⟩) hHeld ?ra1
  case ya1 => (intro W hSW; (try dsimp only at hSW); go_simp; (try with_reducible rfl))
  change wpAnyH _ _ _ _ _ _ _ (Act.put _ (some 25) _) _
  simp only [Act.put, List.setIfInBounds_toArray, List.set_cons_zero, List.set_cons_succ]
  refine wpAnyH_take (i := 2) (v := ?va2) rfl (by kernel_rfl) (by kernel_rfl) (by kernel_rfl) (fun _ _ _ h => h) (Or.inl ⟨by first | kernel_rfl | rfl, ?ya2⟩) hHeld ?ra2
  case ya2 => (intro W hSW; (try dsimp only at hSW); go_simp; (try with_reducible rfl))
  change wpAnyH _ _ _ _ _ _ _ (Act.put _ (some 26) _) _
  simp only [Act.put, List.setIfInBounds_toArray, List.set_cons_zero, List.set_cons_succ]
  refine wpAnyH_take (i := 3) (v := ?va3) rfl (by kernel_rfl) (by kernel_rfl) (by kernel_rfl) (fun _ _ _ h => h) (Or.inl ⟨by first | kernel_rfl | rfl, ?ya3⟩) hHeld ?ra3
  case ya3 => (intro W hSW; (try dsimp only at hSW); go_simp; (try with_reducible rfl))
  change wpAnyH _ _ _ _ _ _ _ (Act.put _ (some 27) _) _
  simp only [Act.put, List.setIfInBounds_toArray, List.set_cons_zero, List.set_cons_succ]
  refine wpAnyH_take (i := 4) (v := ?va4) rfl (by kernel_rfl) (by kernel_rfl) (by kernel_rfl) (fun _ _ _ h => h) (Or.inl ⟨by first | kernel_rfl | rfl, ?ya4⟩) hHeld ?ra4
  case ya4 => (intro W hSW; (try dsimp only at hSW); go_simp; (try with_reducible rfl))
  change wpAnyH _ _ _ _ _ _ _ (Act.put _ (some 28) _) _
  simp only [Act.put, List.setIfInBounds_toArray, List.set_cons_zero, List.set_cons_succ]
  refine wpAnyH_take (i := 5) (v := .int .i64 id) rfl (by kernel_rfl) (by kernel_rfl) (by kernel_rfl) (fun _ _ _ h => h) (Or.inl ⟨by first | kernel_rfl | rfl, ?ya5⟩) hHeld ?ra5
  case ya5 => (intro W hSW; have cq := OPC.out W hSW.1; go_simp; (try with_reducible rfl))
  change wpAnyH _ _ _ _ _ _ _ (Act.put _ (some 29) _) _
  simp only [Act.put, List.setIfInBounds_toArray, List.set_cons_zero, List.set_cons_succ]
  have HRD := pread_any Q0.out.drew.s.p HI.out.1.g.asks.len HI.out.1.g.up HI.out.1.g.asks.sz id
  refine wpAnyH_ready (rs := [6]) (by kernel_rfl) (by simp) ?_
  refine AllReadyH.cons rfl (fun K hK => ?_) AllReadyH.nil
  go_simp
  refine (HRD).mono ?_
  rintro e V1 ⟨rfl, hb1⟩
  refine hK.out _ _ (⟨(Q0.out.drew.below hb1).o, (Q0.out.drew.below hb1).pp⟩) (fun hHeld => ?_)
  clear hK K
  try simp only [Act.put, List.setIfInBounds_toArray, List.set_cons_zero, List.set_cons_succ]
  have q1 := Q0.out.drew.below hb1
  obtain ⟨F1, hF1⟩ : ∃ F1, mor F0 W0.drew V1 = F1 := ⟨_, rfl⟩
  rw [hF1] at q1
  obtain ⟨ss, hss⟩ : ∃ ss, X.read n D id = ss := ⟨_, rfl⟩
  obtain ⟨cc, hcc⟩ : ∃ cc, X.why n id = cc := ⟨_, rfl⟩
  rw [hss, hcc]
  have Q1 : Hid (Sq h0 F w F1 V1 S g D pb jb n X zb jz gs ns pv ov B (opA kd id kx lg fl)) := q1
  clear q1 hb1 hF1 hss hcc HRD
  refine wpAnyH_take (i := 7) (v := ?va7) rfl (by kernel_rfl) (by kernel_rfl) (by kernel_rfl) (fun _ _ _ h => h) (Or.inl ⟨by first | kernel_rfl | rfl, ?ya7⟩) hHeld ?ra7
  case ya7 => (intro W hSW; (try dsimp only at hSW); go_simp; (try with_reducible rfl))
  change wpAnyH _ _ _ _ _ _ _ (Act.put _ (some 23) _) _
  simp only [Act.put, List.setIfInBounds_toArray, List.set_cons_zero, List.set_cons_succ]
  refine wpAnyH_take (i := 8) (v := ?va8) rfl (by kernel_rfl) (by kernel_rfl) (by kernel_rfl) (fun _ _ _ h => h) (Or.inl ⟨by first | kernel_rfl | rfl, ?ya8⟩) hHeld ?ra8
  case ya8 => (intro W hSW; (try dsimp only at hSW); go_simp; (try with_reducible rfl))
  change wpAnyH _ _ _ _ _ _ _ (Act.put _ (some 31) _) _
  simp only [Act.put, List.setIfInBounds_toArray, List.set_cons_zero, List.set_cons_succ]
  refine wpAnyH_take (i := 9) (v := ?va9) rfl (by kernel_rfl) (by kernel_rfl) (by kernel_rfl) (fun _ _ _ h => h) (Or.inl ⟨by first | kernel_rfl | rfl, ?ya9⟩) hHeld ?ra9
  case ya9 => (intro W hSW; (try dsimp only at hSW); go_simp; (try with_reducible rfl))
  change wpAnyH _ _ _ _ _ _ _ (Act.put _ (some 32) _) _
  simp only [Act.put, List.setIfInBounds_toArray, List.set_cons_zero, List.set_cons_succ]
  refine wpAnyH_take (i := 10) (v := ?va10) rfl (by kernel_rfl) (by kernel_rfl) (by kernel_rfl) (fun _ _ _ h => h) (Or.inl ⟨by first | kernel_rfl | rfl, ?ya10⟩) hHeld ?ra10
  case ya10 => (intro W hSW; (try dsimp only at hSW); go_simp; (try with_reducible rfl))
  change wpAnyH _ _ _ _ _ _ _ (Act.put _ (some 17) _) _
  simp only [Act.put, List.setIfInBounds_toArray, List.set_cons_zero, List.set_cons_succ]
  refine wpAnyH_take (i := 11) (v := ?va11) rfl (by kernel_rfl) (by kernel_rfl) (by kernel_rfl) (fun _ _ _ h => h) (Or.inl ⟨by first | kernel_rfl | rfl, ?ya11⟩) hHeld ?ra11
  case ya11 => (intro W hSW; (try dsimp only at hSW); go_simp; (try with_reducible rfl))
  change wpAnyH _ _ _ _ _ _ _ (Act.put _ (some 18) _) _
  simp only [Act.put, List.setIfInBounds_toArray, List.set_cons_zero, List.set_cons_succ]
  refine wpAnyH_done (by kernel_rfl) ?_ _
  clear k0 k1 k2 k3 k4 k5 k6 k7 k8 m0 m1 m2 m3 m4 m5 m6 m7 m8 Q0
  go_wp2
  refine wp_region_held_drew (S := fun W => (W.heap[B]? = some (.cells (opA kd id kx lg fl) 57 (0, 0))) ∧ (loadVar 42 ⟨zb, 9, none⟩).run Tryz.prog W = .ok (.agg ns) W) (by kernel_rfl) (⟨Q1.out.drew.o, Q1.out.drew.s.z.lnow⟩) (fun hHeld => ?_)
  refine wpAnyH_take (i := 0) (v := ?vb0) rfl (by kernel_rfl) (by kernel_rfl) (by kernel_rfl) (fun _ _ _ h => h) (Or.inl ⟨by first | kernel_rfl | rfl, ?yb0⟩) hHeld ?rb0
  case yb0 => (intro W hSW; (try dsimp only at hSW); go_simp; (try with_reducible rfl))
  change wpAnyH _ _ _ _ _ _ _ (Act.put _ (some 34) _) _
  simp only [Act.put, List.setIfInBounds_toArray, List.set_cons_zero, List.set_cons_succ]
  refine wpAnyH_take (i := 1) (v := ?vb1) rfl (by kernel_rfl) (by kernel_rfl) (by kernel_rfl) (fun _ _ _ h => h) (Or.inl ⟨by first | kernel_rfl | rfl, ?yb1⟩) hHeld ?rb1
  case yb1 => (intro W hSW; (try dsimp only at hSW); go_simp; (try with_reducible rfl))
  change wpAnyH _ _ _ _ _ _ _ (Act.put _ (some 35) _) _
  simp only [Act.put, List.setIfInBounds_toArray, List.set_cons_zero, List.set_cons_succ]
  refine wpAnyH_take (i := 2) (v := ?vb2) rfl (by kernel_rfl) (by kernel_rfl) (by kernel_rfl) (fun _ _ _ h => h) (Or.inl ⟨by first | kernel_rfl | rfl, ?yb2⟩) hHeld ?rb2
  case yb2 => (intro W hSW; (try dsimp only at hSW); go_simp; (try with_reducible rfl))
  change wpAnyH _ _ _ _ _ _ _ (Act.put _ (some 36) _) _
  simp only [Act.put, List.setIfInBounds_toArray, List.set_cons_zero, List.set_cons_succ]
  refine wpAnyH_take (i := 3) (v := ?vb3) rfl (by kernel_rfl) (by kernel_rfl) (by kernel_rfl) (fun _ _ _ h => h) (Or.inl ⟨by first | kernel_rfl | rfl, ?yb3⟩) hHeld ?rb3
  case yb3 => (intro W hSW; (try dsimp only at hSW); go_simp; (try with_reducible rfl))
  change wpAnyH _ _ _ _ _ _ _ (Act.put _ (some 37) _) _
  simp only [Act.put, List.setIfInBounds_toArray, List.set_cons_zero, List.set_cons_succ]
  refine wpAnyH_take (i := 4) (v := .agg ns) rfl (by kernel_rfl) (by kernel_rfl) (by kernel_rfl) (fun _ _ _ h => h) (Or.inl ⟨by first | kernel_rfl | rfl, ?yb4⟩) hHeld ?rb4
  case yb4 => (intro W hSW; refine yields_at _ _ rfl rfl (hSW.2))
  change wpAnyH _ _ _ _ _ _ _ (Act.put _ (some 38) _) _
  simp only [Act.put, List.setIfInBounds_toArray, List.set_cons_zero, List.set_cons_succ]
  refine wpAnyH_take (i := 5) (v := ?vb5) rfl (by kernel_rfl) (by kernel_rfl) (by kernel_rfl) (fun _ _ _ h => h) (Or.inl ⟨by first | kernel_rfl | rfl, ?yb5⟩) hHeld ?rb5
  case yb5 => (intro W hSW; (try dsimp only at hSW); go_simp; (try with_reducible rfl))
  change wpAnyH _ _ _ _ _ _ _ (Act.put _ (some 39) _) _
  simp only [Act.put, List.setIfInBounds_toArray, List.set_cons_zero, List.set_cons_succ]
  refine wpAnyH_take (i := 6) (v := .int .i64 id) rfl (by kernel_rfl) (by kernel_rfl) (by kernel_rfl) (fun _ _ _ h => h) (Or.inl ⟨by first | kernel_rfl | rfl, ?yb6⟩) hHeld ?rb6
  case yb6 => (intro W hSW; have cq := OPC.out W hSW.1; go_simp; (try with_reducible rfl))
  change wpAnyH _ _ _ _ _ _ _ (Act.put _ (some 40) _) _
  simp only [Act.put, List.setIfInBounds_toArray, List.set_cons_zero, List.set_cons_succ]
  have HRR := rread_any Q1.out.drew.s.z.s (by omega) id
  refine wpAnyH_ready (rs := [7]) (by kernel_rfl) (by simp) ?_
  refine AllReadyH.cons rfl (fun K hK => ?_) AllReadyH.nil
  go_simp
  refine (HRR).mono ?_
  rintro e V2 ⟨s2, c2, rfl, hb2⟩
  refine hK.out _ _ (⟨(Q1.out.drew.below hb2).o, (Q1.out.drew.below hb2).s.z.lnow⟩) (fun hHeld => ?_)
  clear hK K
  try simp only [Act.put, List.setIfInBounds_toArray, List.set_cons_zero, List.set_cons_succ]
  have HE : Hid (∀ b, StepTo h0 F w g D pb jb n X zb jz k kd (.returned (.bool b)) V2) := fun b => StepTo.mild HI.out.1 (Mild.refl X) (Q1.out.drew.below hb2).done
  clear hb2 HRR
  refine wpAnyH_take (i := 8) (v := ?vb8) rfl (by kernel_rfl) (by kernel_rfl) (by kernel_rfl) (fun _ _ _ h => h) (Or.inl ⟨by first | kernel_rfl | rfl, ?yb8⟩) hHeld ?rb8
  case yb8 => (intro W hSW; (try dsimp only at hSW); go_simp; (try with_reducible rfl))
  change wpAnyH _ _ _ _ _ _ _ (Act.put _ (some 33) _) _
  simp only [Act.put, List.setIfInBounds_toArray, List.set_cons_zero, List.set_cons_succ]
  refine wpAnyH_take (i := 9) (v := ?vb9) rfl (by kernel_rfl) (by kernel_rfl) (by kernel_rfl) (fun _ _ _ h => h) (Or.inl ⟨by first | kernel_rfl | rfl, ?yb9⟩) hHeld ?rb9
  case yb9 => (intro W hSW; (try dsimp only at hSW); go_simp; (try with_reducible rfl))
  change wpAnyH _ _ _ _ _ _ _ (Act.put _ (some 42) _) _
  simp only [Act.put, List.setIfInBounds_toArray, List.set_cons_zero, List.set_cons_succ]
  refine wpAnyH_take (i := 10) (v := ?vb10) rfl (by kernel_rfl) (by kernel_rfl) (by kernel_rfl) (fun _ _ _ h => h) (Or.inl ⟨by first | kernel_rfl | rfl, ?yb10⟩) hHeld ?rb10
  case yb10 => (intro W hSW; (try dsimp only at hSW); go_simp; (try with_reducible rfl))
  change wpAnyH _ _ _ _ _ _ _ (Act.put _ (some 43) _) _
  simp only [Act.put, List.setIfInBounds_toArray, List.set_cons_zero, List.set_cons_succ]
  refine wpAnyH_take (i := 11) (v := ?vb11) rfl (by kernel_rfl) (by kernel_rfl) (by kernel_rfl) (fun _ _ _ h => h) (Or.inl ⟨by first | kernel_rfl | rfl, ?yb11⟩) hHeld ?rb11
  case yb11 => (intro W hSW; (try dsimp only at hSW); go_simp; (try with_reducible rfl))
  change wpAnyH _ _ _ _ _ _ _ (Act.put _ (some 19) _) _
  simp only [Act.put, List.setIfInBounds_toArray, List.set_cons_zero, List.set_cons_succ]
  refine wpAnyH_take (i := 12) (v := ?vb12) rfl (by kernel_rfl) (by kernel_rfl) (by kernel_rfl) (fun _ _ _ h => h) (Or.inl ⟨by first | kernel_rfl | rfl, ?yb12⟩) hHeld ?rb12
  case yb12 => (intro W hSW; (try dsimp only at hSW); go_simp; (try with_reducible rfl))
  change wpAnyH _ _ _ _ _ _ _ (Act.put _ (some 20) _) _
  simp only [Act.put, List.setIfInBounds_toArray, List.set_cons_zero, List.set_cons_succ]
  refine wpAnyH_done (by kernel_rfl) ?_ _
  by_cases hs : ss = s2
  · subst hs
    by_cases hc : (cc : Int) = (c2 : Int)
    · have hcd : ((cc : Int) == (c2 : Int)) = true := by rw [hc]; exact beq_self_eq_true _
      go_wp2
      go_ret
      exact HE.out _
    · have hcd : ((cc : Int) == (c2 : Int)) = false := by simpa using hc
      go_wp2
      go_ret
      exact HE.out _
  · have ht := str_nb hs
    have hne := str_ne hs
    go_wp2
    go_ret
    exact HE.out _
theorem step_any (h : PsE h0 F w g D pb jb n X zb jz) (hi : Inv n k D X) (hk9 : k ≤ 1000) (o : OV) (ho : o.fill < 256) (hj : o.kind = 8 → jz = jb) : Calls Tryz.prog 16 #[.pointer (some ⟨zb, 0, none⟩), o.agg] w fun e w' => StepTo h0 F w g D pb jb n X zb jz k o.kind e w' := by
  obtain ⟨S, gs, ns, pv, ov, h⟩ := h
  obtain ⟨kd, id, kx, lg, fl⟩ := o
  simp only at ho hj ⊢
  unfold OV.agg
  by_cases hd : kd < 0 ∨ 8 < kd
  · exact stepD h hi kd hd id kx lg fl
  · have hc : kd = 0 ∨ kd = 1 ∨ kd = 2 ∨ kd = 3 ∨ kd = 4 ∨ kd = 5 ∨ kd = 6 ∨ kd = 7 ∨ kd = 8 := by omega
    rcases hc with rfl | rfl | rfl | rfl | rfl | rfl | rfl | rfl | rfl
    · exact step0 h hi id kx lg fl
    · exact step1 h hi id kx lg fl
    · exact step2 h hi id kx lg fl ho
    · exact step3 h hi id kx lg fl
    · exact step4 h hi id kx lg fl
    · exact step5 h hi id kx lg fl
    · exact step6 h hi hk9 id kx lg fl
    · exact step7 h hi hk9 id kx lg fl
    · exact step8 h hi hk9 (hj rfl) id kx lg fl
end
end Go.Proofs.YtdgffocmdkadpaaGreat
