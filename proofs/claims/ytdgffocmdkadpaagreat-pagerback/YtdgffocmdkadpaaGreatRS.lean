/- Walks over the statements' step: allocates, commits. -/
import Derived.Test.YtdgffocmdkadpaaGreatRQ
namespace Go.Proofs.YtdgffocmdkadpaaGreat
open Go.RowKit Go.Shelf Pg
section
variable {h0 : Nat} {F : Nat → Prop} {w : World} {S : Nat → Prop} {g : Nat} {D : Dk} {pb jb n : Nat} {X : Px} {zb jz k : Nat} {gs ns : Array Value} {pv ov : Value}
set_option maxRecDepth 100000 in
set_option maxHeartbeats 16000000 in
theorem step0 (h : Ps h0 F w S g D pb jb n X zb jz gs ns pv ov) (hi : Inv n k D X) (id kx lg : Int) (fl : Nat) : Calls Tryz.prog 16 #[.pointer (some ⟨zb, 0, none⟩), .agg #[.int .i64 0, .int .i64 id, .int .i64 kx, .int .i64 lg, .int .u8 (fl : Int)]] w fun e w' => StepTo h0 F w g D pb jb n X zb jz k 0 e w' := by
  obtain ⟨hok, hn2, hn12⟩ := h.nn
  have q0 := Sq.start h (opA 0 id kx lg fl)
  have HI : Hid (Inv n k D X ∧ X.Ok n) := ⟨hi, hok⟩
  obtain ⟨B, hB⟩ : ∃ B, w.heap.size = B := ⟨_, rfl⟩
  obtain ⟨W0, hW0⟩ : ∃ W0, w.alloc (.cells (opA 0 id kx lg fl) 57) = W0 := ⟨_, rfl⟩
  obtain ⟨F0, hF0⟩ : ∃ F0, mor F w W0 = F0 := ⟨_, rfl⟩
  rw [hW0, hF0, hB] at q0
  clear hF0 hi hok
  have hW0 : w.alloc (.cells #[.int .i64 0, .int .i64 id, .int .i64 kx, .int .i64 lg, .int .u8 (fl : Int)] 57) = W0 := hW0
  have ck : W0.cell? ⟨B, 0, none⟩ = some (.int .i64 0) := q0.at 0 _ rfl
  have HAL := ralloc_any q0.s.z.s q0.s.blt (by omega) (by omega)
  have hl0 := q0.s.z.lnow
  have Q0 : Hid (Sq h0 F w F0 W0 S g D pb jb n X zb jz gs ns pv ov B (opA 0 id kx lg fl)) := q0
  clear q0 h
  go_enter Tryz.func16, Tryz.ntmps16
  go_wp2_with (refine wpList_load_w (by kernel_rfl) _ _ rfl rfl hl0 ?_)
  refine HAL.mono ?_
  rintro e V1 ⟨v', x, c, rfl, hD1, hb1⟩
  obtain ⟨r', rfl, hrz, hro⟩ := hD1.agg
  have q1 := Q0.out.below hb1
  obtain ⟨hst, hrc, F2, q2, hD2⟩ := q1.fill hrz hro (DSt.since Q0.out.s.z.lt hD1)
  obtain ⟨V3, hV3⟩ : ∃ V3, (V1.alloc (.cells z7 42)).setRow V1.heap.size r' = V3 := ⟨_, rfl⟩
  obtain ⟨V2, hV2⟩ : ∃ V2, V1.alloc (.cells z7 42) = V2 := ⟨_, rfl⟩
  rw [hV3] at hst hrc q2 hD2
  rw [hV2] at hst
  have hV2 : V1.alloc (.cells #[.slice none 0 0, .slice none 0 0, .int .i64 0, .int .i64 0, .int .i64 0, .int .i64 0, .int .u64 0] 42) = V2 := hV2
  obtain ⟨C, hC⟩ : ∃ C, V1.heap.size = C := ⟨_, rfl⟩
  rw [hC] at hst hrc
  have hl3 := load_rs V3 C _ _ _ hrc hrz
  have hst3 := q2.s.z.store_now hrz hro
  have q3 := q2.with (q2.s.now hrz hD2)
  obtain ⟨V4, hV4⟩ : ∃ V4, V3.setRow zb (prA jz pb gs r' pv ov) = V4 := ⟨_, rfl⟩
  rw [hV4] at hst3 q3
  have c1 := q3.pp
  have HPA := palloc_any q3.s.p
  have Q3 : Hid (Sq h0 F w F2 V4 S g D pb jb n X zb jz gs r' pv ov B (opA 0 id kx lg fl)) := q3
  clear HAL hD1 hb1 q1 hD2 q2 q3 hV3 hV4 hrc hl0 hro Q0
  go_wp2_with (refine wpList_load_w (by kernel_rfl) _ _ rfl rfl hl3 ?_)
  refine HPA.mono ?_
  rintro e V5 hA
  rcases hA with ⟨i, _, _, _, _, rfl, hT⟩ | ⟨_, rfl, hT⟩
  · have HE : Hid (∀ b, StepTo h0 F w g D pb jb n X zb jz k 0 (.returned (.bool b)) V5) := fun b => by
      obtain ⟨F5, S5, q5⟩ := Q3.out.pto hT
      exact StepTo.mild HI.out.1 (alc_mild X i) q5.done
    clear hT HPA Q3 HI
    by_cases ha : (i : Int) = x
    · have hab : ((i : Int) == x) = true := by rw [ha]; exact beq_self_eq_true _
      by_cases hc : c = (0 : Int)
      · have hcd : (c == (0 : Int)) = true := by rw [hc]; exact beq_self_eq_true _
        go_wp2
        go_ret
        exact HE.out _
      · have hcd : (c == (0 : Int)) = false := by simpa using hc
        go_wp2
        go_ret
        exact HE.out _
    · have hab : ((i : Int) == x) = false := by simpa using ha
      go_wp2
      go_ret
      exact HE.out _
  · have HE : Hid (∀ b, StepTo h0 F w g D pb jb n X zb jz k 0 (.returned (.bool b)) V5) := fun b => by
      obtain ⟨F5, S5, q5⟩ := Q3.out.pto hT
      exact StepTo.mild HI.out.1 (Mild.refl X) q5.done
    clear hT HPA Q3 HI
    by_cases ha : (0 : Int) = x
    · have hab : ((0 : Int) == x) = true := by rw [ha]; exact beq_self_eq_true _
      by_cases hc : c = (5 : Int)
      · have hcd : (c == (5 : Int)) = true := by rw [hc]; exact beq_self_eq_true _
        go_wp2
        go_ret
        exact HE.out _
      · have hcd : (c == (5 : Int)) = false := by simpa using hc
        go_wp2
        go_ret
        exact HE.out _
    · have hab : ((0 : Int) == x) = false := by simpa using ha
      go_wp2
      go_ret
      exact HE.out _
set_option maxRecDepth 100000 in
set_option maxHeartbeats 16000000 in
theorem step6 (h : Ps h0 F w S g D pb jb n X zb jz gs ns pv ov) (hi : Inv n k D X) (hk9 : k ≤ 1000) (id kx lg : Int) (fl : Nat) : Calls Tryz.prog 16 #[.pointer (some ⟨zb, 0, none⟩), .agg #[.int .i64 6, .int .i64 id, .int .i64 kx, .int .i64 lg, .int .u8 (fl : Int)]] w fun e w' => StepTo h0 F w g D pb jb n X zb jz k 6 e w' := by
  obtain ⟨hok, hn2, hn12⟩ := h.nn
  have q0 := Sq.start h (opA 6 id kx lg fl)
  have HI : Hid (Inv n k D X ∧ X.Ok n) := ⟨hi, hok⟩
  obtain ⟨B, hB⟩ : ∃ B, w.heap.size = B := ⟨_, rfl⟩
  obtain ⟨W0, hW0⟩ : ∃ W0, w.alloc (.cells (opA 6 id kx lg fl) 57) = W0 := ⟨_, rfl⟩
  obtain ⟨F0, hF0⟩ : ∃ F0, mor F w W0 = F0 := ⟨_, rfl⟩
  rw [hW0, hF0, hB] at q0
  clear hF0 hi hok
  have hW0 : w.alloc (.cells #[.int .i64 6, .int .i64 id, .int .i64 kx, .int .i64 lg, .int .u8 (fl : Int)] 57) = W0 := hW0
  have ck : W0.cell? ⟨B, 0, none⟩ = some (.int .i64 6) := q0.at 0 _ rfl
  have HCO := committed_any q0.s
  have Q0 : Hid (Sq h0 F w F0 W0 S g D pb jb n X zb jz gs ns pv ov B (opA 6 id kx lg fl)) := q0
  clear q0 h
  go_enter Tryz.func16, Tryz.ntmps16
  go_wp2_with fail
  refine HCO.mono ?_
  rintro e V1 ⟨rfl, ht⟩
  obtain ⟨F1, S1, gs1, ns1, pv1, ov1, q1⟩ := Q0.out.spto ht
  obtain ⟨cg1, cg2, cg3, cg4⟩ := cm_good HI.out.1 HI.out.2 hn2 hn12 hk9
  have hsr := HI.out.1.s2
  have hwr := HI.out.1.w
  have HCM := pcommit_any q1.s.p HI.out.1.g.asks (by omega) (by omega) (fun _ => cg2.g.asks)
  have c1 := q1.pp
  have Q1 : Hid (Sq h0 F w F1 V1 S1 g D pb jb n X zb jz gs1 ns1 pv1 ov1 B (opA 6 id kx lg fl) ∧ X.cmC n D = 0 ∧ Inv n (k + 1) (X.cmD n D) (X.cmX n D)) := ⟨q1, cg1, cg2⟩
  clear HCO ht q1 cg1 cg2 cg3 cg4 Q0 hsr hwr
  go_wp2_with fail
  refine HCM.mono ?_
  rintro e V2 ⟨rfl, hT⟩
  rw [Q1.out.2.1]
  have HE : Hid (∀ b, StepTo h0 F w g D pb jb n X zb jz k 6 (.returned (.bool b)) V2) := fun b => by
    rcases hT with ⟨_, hT⟩ | ⟨hc, _⟩
    · obtain ⟨F5, S5, q5⟩ := Q1.out.1.pto hT
      exact ⟨b, _, _, pb, rfl, q5.done, Q1.out.2.2, fun h => by omega, fun h => by omega, fun _ => rfl⟩
    · exact absurd Q1.out.2.1 hc
  clear hT HCM Q1 HI
  go_wp2
  go_ret
  exact HE.out _
end
end Go.Proofs.YtdgffocmdkadpaaGreat
