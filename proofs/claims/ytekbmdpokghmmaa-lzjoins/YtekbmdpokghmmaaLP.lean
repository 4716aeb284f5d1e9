/- choose. -/
import Derived.Test.YtekbmdpokghmmaaLO
namespace Go.Proofs.Ytekbmdpokghmmaa
open Go.RowKit Lz
/-- What choose leaves. -/
def ChTo (x : List UInt8) (Inv : World → List Tk → (Nat → Prop) → Prop) (e : Ending) (w' : World) : Prop := e = .returned (.tuple #[]) ∧ ∃ F', Inv w' (chooseL x) F'
set_option maxRecDepth 100000 in
set_option maxHeartbeats 8000000 in
theorem choose_any {w : World} {R f : Nat} {x : List UInt8} {lb : Array Value} {Inv : World → List Tk → (Nat → Prop) → Prop} {F : Nat → Prop} (hly : LyV R x.length f lb Inv) (hi : Inv w [] F) (hx : x.length ≤ 65536) :
    Calls Try.prog 27 #[.string (strOf x), .func (.func f) #[] lb] w (ChTo x Inv) := by
  have HLY : Hid (LyV R x.length f lb Inv) := hly
  have eg := hly.en
  have e40 : ∀ args w, (callFunc 40 args).run Try.prog w = .ok (.enter 40 args) w := enters_of Try.func40 (by kernel_rfl) rfl
  have hmm := @run_makeMap Try.prog
  obtain ⟨X, hX⟩ : ∃ X, w.heap.size = X := ⟨_, rfl⟩
  obtain ⟨Wa, hWa⟩ : ∃ W, w.alloc (.cells #[.string (strOf x)] 9) = W := ⟨_, rfl⟩
  obtain ⟨L, hL⟩ : ∃ L, Wa.heap.size = L := ⟨_, rfl⟩
  obtain ⟨Wb, hWb⟩ : ∃ W, Wa.alloc (.cells #[.func (.func f) #[] lb] 52) = W := ⟨_, rfl⟩
  obtain ⟨D, hD⟩ : ∃ D, Wb.heap.size = D := ⟨_, rfl⟩
  obtain ⟨We, hWe⟩ : ∃ W, Wb.alloc (.cells #[.int .i64 0] 3) = W := ⟨_, rfl⟩
  have rE : We.heap[D]? = some (.cells #[.int .i64 0] 3 (0, 0)) := by rw [← hWe, ← hD]; exact heap_alloc_new Wb _
  have fE := frozen_of_row We D 0 _ _ rE
  have cE : We.cell? ⟨D, 0, none⟩ = some (.int .i64 0) := by rw [cell_of_row _ _ _ _ _ _ rE]; rfl
  obtain ⟨Wc, hWc⟩ : ∃ W, We.setCell ⟨D, 0, none⟩ (.int .i64 0) = W := ⟨_, rfl⟩
  obtain ⟨mb, hmb⟩ : ∃ mb, Wc.heap.size = mb := ⟨_, rfl⟩
  obtain ⟨Wd, hWd⟩ : ∃ W, Wc.alloc (.map #[] 0) = W := ⟨_, rfl⟩
  have sa : L = X + 1 := by rw [← hL, ← hWa, ← hX]; simp
  have sb : D = X + 2 := by rw [← hD, ← hWb]; simp [hL, sa]
  obtain ⟨N1, sd⟩ : ∃ n, Wd.heap.size = n := ⟨_, rfl⟩
  have rD : Wc.heap[D]? = some (.cells #[.int .i64 0] 3 (0, 0)) := by rw [← hWc, heap_setCell_same _ _ _ _ _ _ rE]; rfl
  have sc : D < mb := by rw [← hmb]; exact lt_of_some rD
  have sm : mb < N1 := by rw [← sd, ← hWd, ← hmb]; exact (LastIs.new Wc x).lt
  have hK : ChK R X N1 D X L mb := ⟨by have := (hly.lt _ _ _ hi).1; omega, by omega, by omega, by omega, by omega, by omega, by omega, by omega, by omega, by omega⟩
  have ba : Below w.heap.size w Wa := by rw [← hWa]; exact (Below.refl _ w).alloc (Nat.le_refl _) _
  have bb : Below Wa.heap.size Wa Wb := by rw [← hWb]; exact (Below.refl _ Wa).alloc (Nat.le_refl _) _
  have bc : Below Wb.heap.size Wb Wc := by
    rw [← hWc, ← hWe]
    exact ((Below.refl _ Wb).alloc (Nat.le_refl _) _).setCell (by show Wb.heap.size ≤ D; omega) _
  have bd : Below Wc.heap.size Wc Wd := by rw [← hWd]; exact (Below.refl _ Wc).alloc (Nat.le_refl _) _
  have rX : Wa.heap[X]? = some (.cells #[.string (strOf x)] 9 (0, 0)) := by rw [← hWa, ← hX]; exact heap_alloc_new w _
  have rL : Wb.heap[L]? = some (.cells #[.func (.func f) #[] lb] 52 (0, 0)) := by rw [← hWb, ← hL]; exact heap_alloc_new Wa _
  have hS : ChS Wd X N1 D X L mb f x lb Inv 0 0 [] F := by
    refine ⟨?_, fun z hz => .inl (by have := ((hly.lt _ _ _ hi).2 z hz).2; omega), ⟨?_, ?_, ?_⟩, ?_, by omega⟩
    · exact hly.later (hly.later (hly.later (hly.later hi ba) bb) bc) bd
    · rw [bd.block D (by omega)]; exact rD
    · rw [bd.block X (by omega), bc.block X (by omega), bb.block X (by omega)]; exact rX
    · rw [bd.block L (by omega), bc.block L (by omega)]; exact rL
    · rw [← hWd, ← hmb]; exact LastIs.new Wc x
  have HS : Hid (ChS Wd X N1 D X L mb f x lb Inv 0 0 [] F) := hS
  have HK : Hid (ChK R X N1 D X L mb) := hK
  obtain ⟨cD, cX, cL⟩ := hS.ch.cells
  have hz : (strOf x).size = x.length := strOf_size x
  have HIX := fun (k : Nat) (hk : k < x.length) => str_at (strOf x) k ((x.getD k 0).toNat) (by rw [hz]; exact hk) rfl
  have HIX : Hid _ := HIX
  obtain ⟨T, hT⟩ : ∃ T, strOf x = T := ⟨_, rfl⟩
  rw [hT] at cX hz hWa HIX ⊢
  have HT : Hid (strOf x = T) := hT
  have w3 : IntKind.i64.wrap ((T.size : Int) - 3) = (x.length : Int) - 3 := by rw [hz, IntKind.wrap_i64]; omega
  obtain ⟨M, hM⟩ : ∃ M : Int, (x.length : Int) - 2 = M := ⟨_, rfl⟩
  have w4 : IntKind.i64.wrap ((x.length : Int) - 3 + 1) = M := by rw [IntKind.wrap_i64]; omega
  have HM : Hid ((x.length : Int) - 2 = M) := hM
  clear hly hi hS hK ba bb bc bd rX rL rD rE sa sb sc sd sm hT hM cD cL
  go_enter Try.func27, Try.ntmps27
  go_wp2
  clear fE cE hWe hWc hWd hWb hWa hX hL hD hmb w3 w4 cX
  go_loopw [18] (fun v18 wr => ∃ i d ts F', i ≤ x.length - 2 ∧ v18 = .int .i64 (i : Int) ∧ runC x i = (d, ts) ∧ ChS wr X N1 D X L mb f x lb Inv i d ts F') (fun v18 _ => x.length - (intOf v18).toNat)
  case atStart => exact ⟨0, 0, [], F, Nat.zero_le _, rfl, rfl, HS.out⟩
  case round =>
    clear HS
    obtain ⟨i, d, ts, F', hi, rfl, hrun, hs⟩ := hrel
    by_cases hlt : i < x.length - 2
    · have kk : (i : Int) < M := by have := HM.out; omega
      have hok := run_ok x hx i (by omega)
      have hok2 := run_ok x hx (i + 1) (by omega)
      rw [hrun] at hok
      obtain ⟨p0, hp0⟩ : ∃ n, (x.getD i 0).toNat = n := ⟨_, rfl⟩
      obtain ⟨p1, hp1⟩ : ∃ n, (x.getD (i + 1) 0).toNat = n := ⟨_, rfl⟩
      obtain ⟨p2, hp2⟩ : ∃ n, (x.getD (i + 2) 0).toNat = n := ⟨_, rfl⟩
      have j0 : ∀ W, (Instr.index 9 (.string T) (.int .i64 (i : Int))).run Try.prog W = .ok (.int .u8 (p0 : Int)) W := by rw [← hp0]; exact HIX.out i (by omega)
      have j1 : ∀ W, (Instr.index 9 (.string T) (.int .i64 ((i + 1 : Nat) : Int))).run Try.prog W = .ok (.int .u8 (p1 : Int)) W := by rw [← hp1]; exact HIX.out (i + 1) (by omega)
      have j2 : ∀ W, (Instr.index 9 (.string T) (.int .i64 ((i + 2 : Nat) : Int))).run Try.prog W = .ok (.int .u8 (p2 : Int)) W := by rw [← hp2]; exact HIX.out (i + 2) (by omega)
      obtain ⟨I1, hI1⟩ : ∃ n, i + 1 = n := ⟨_, rfl⟩
      obtain ⟨I2, hI2⟩ : ∃ n, i + 2 = n := ⟨_, rfl⟩
      rw [hI1] at j1
      rw [hI2] at j2
      have wi1 : IntKind.i64.wrap ((i : Int) + 1) = (I1 : Int) := by rw [IntKind.wrap_i64]; omega
      have wi2 : IntKind.i64.wrap ((i : Int) + 2) = (I2 : Int) := by rw [IntKind.wrap_i64]; omega
      have HI1 : Hid (i + 1 = I1) := hI1
      obtain ⟨V1, V2, hV1, hV2, bV1, bV2, rV1, rV2⟩ := key_new wr (p0 : Int) (p1 : Int) (p2 : Int)
      have hs2 := hs.below HLY.out bV2
      have he : keyV (key3 x i) = .agg #[.int .u8 (p0 : Int), .int .u8 (p1 : Int), .int .u8 (p2 : Int)] := by unfold keyV key3; simp only [hp0, hp1, hp2]
      have hlk := hs2.mp.look (key3 x i)
      obtain ⟨W6, hup, hm6, hu6, hsz6⟩ := hs2.mp.store (by omega)
      rw [he] at hlk hup
      have hs6 := hs2.map HK.out HLY.out hm6 hu6 hsz6
      obtain ⟨cD, cX, cL⟩ := hs.ch.cells
      rw [HT.out] at cX
      have HC : Hid (wr.cell? ⟨X, 0, none⟩ = some (.string T) ∧ V1.cell? ⟨X, 0, none⟩ = some (.string T) ∧ V2.cell? ⟨X, 0, none⟩ = some (.string T)) := ⟨cX, keepc bV1 cX, keepc bV2 cX⟩
      obtain ⟨Kb, hKb⟩ : ∃ n, wr.heap.size = n := ⟨_, rfl⟩
      rw [hKb] at hV2 rV1 rV2
      have z0 : V1.cell? ⟨Kb, 0, none⟩ = some (.int .u8 0) := by rw [cell_of_row _ _ _ _ _ _ rV1]; rfl
      have z1 : V1.cell? ⟨Kb, 1, none⟩ = some (.int .u8 0) := by rw [cell_of_row _ _ _ _ _ _ rV1]; rfl
      have z2 : V1.cell? ⟨Kb, 2, none⟩ = some (.int .u8 0) := by rw [cell_of_row _ _ _ _ _ _ rV1]; rfl
      have f0 := frozen_of_row V1 Kb 0 _ _ rV1
      have f1 := frozen_of_row V1 Kb 1 _ _ rV1
      have f2 := frozen_of_row V1 Kb 2 _ _ rV1
      have q0 : V2.cell? ⟨Kb, 0, none⟩ = some (.int .u8 (p0 : Int)) := by rw [cell_of_row _ _ _ _ _ _ rV2]; rfl
      have q1 : V2.cell? ⟨Kb, 1, none⟩ = some (.int .u8 (p1 : Int)) := by rw [cell_of_row _ _ _ _ _ _ rV2]; rfl
      have q2 : V2.cell? ⟨Kb, 2, none⟩ = some (.int .u8 (p2 : Int)) := by rw [cell_of_row _ _ _ _ _ _ rV2]; rfl
      have HR : Hid (runC x i = (d, ts) ∧ ChS W6 X N1 D X L mb f x lb Inv (i + 1) d ts F' ∧ d ≤ x.length ∧ i < x.length - 2) := ⟨hrun, hs6, hok.le, hlt⟩
      have HQ : Hid (RunOk x d ts ∧ RunOk x (runC x (i + 1)).1 (runC x (i + 1)).2) := ⟨hok, hok2⟩
      have HU : Hid (W6.cell? ⟨D, 0, none⟩ = some (.int .i64 (d : Int)) ∧ W6.cell? ⟨X, 0, none⟩ = some (.string T)) := ⟨hs6.ch.cells.1, by rw [← HT.out]; exact hs6.ch.cells.2.1⟩
      have HLK : Hid ((Instr.lookup 70 (.map (some mb)) (.agg #[.int .u8 (p0 : Int), .int .u8 (p1 : Int), .int .u8 (p2 : Int)]) true).run Try.prog V2 = .ok (.tuple #[.int .i64 (((lastK x (key3 x i) i).getD 0 : Nat) : Int), .bool (lastK x (key3 x i) i).isSome]) V2 ∧ (Instr.mapUpdate 70 (.map (some mb)) (.agg #[.int .u8 (p0 : Int), .int .u8 (p1 : Int), .int .u8 (p2 : Int)]) (.int .i64 (i : Int))).run Try.prog V2 = .ok () W6) := ⟨hlk, hup⟩
      have HQC : Hid (V2.cell? ⟨Kb, 0, none⟩ = some (.int .u8 (p0 : Int)) ∧ V2.cell? ⟨Kb, 1, none⟩ = some (.int .u8 (p1 : Int)) ∧ V2.cell? ⟨Kb, 2, none⟩ = some (.int .u8 (p2 : Int))) := ⟨q0, q1, q2⟩
      clear hrun hs hok hok2 hp0 hp1 hp2 hI1 hI2 bV1 bV2 rV1 rV2 hs2 he hlk hup hm6 hu6 hsz6 hs6 cD cX cL q0 q1 q2 hi
      go_wp2
      refine wp_region_held_drew (S := fun V => V.cell? ⟨X, 0, none⟩ = some (.string T)) (by kernel_rfl) (HC.out.1) (fun hHeld => ?_)
      refine wpAnyH_take (i := 0) (v := ?v0) rfl (by kernel_rfl) (by kernel_rfl) (by kernel_rfl) (fun _ _ _ h => h) (Or.inl ⟨by first | kernel_rfl | rfl, ?y0⟩) hHeld ?r0
      case y0 => (intro W hSW; (try dsimp only at hSW); go_simp; (try with_reducible rfl))
      change wpAnyH _ _ _ _ _ _ _ (Act.put _ (some 21) _) _
      simp only [Act.put, List.setIfInBounds_toArray, List.set_cons_zero, List.set_cons_succ]
      refine wpAnyH_take (i := 1) (v := ?v1) rfl (by kernel_rfl) (by kernel_rfl) (by kernel_rfl) (fun _ _ _ h => h) (Or.inl ⟨by first | kernel_rfl | rfl, ?y1⟩) hHeld ?r1
      case y1 => (intro W hSW; (try dsimp only at hSW); go_simp; (try with_reducible rfl))
      change wpAnyH _ _ _ _ _ _ _ (Act.put _ (some 22) _) _
      simp only [Act.put, List.setIfInBounds_toArray, List.set_cons_zero, List.set_cons_succ]
      refine wpAnyH_take (i := 2) (v := ?v2) rfl (by kernel_rfl) (by kernel_rfl) (by kernel_rfl) (fun _ _ _ h => h) (Or.inl ⟨by first | kernel_rfl | rfl, ?y2⟩) hHeld ?r2
      case y2 => (intro W hSW; (try dsimp only at hSW); go_simp; (try with_reducible rfl))
      change wpAnyH _ _ _ _ _ _ _ (Act.put _ (some 23) _) _
      simp only [Act.put, List.setIfInBounds_toArray, List.set_cons_zero, List.set_cons_succ]
      refine wpAnyH_take (i := 3) (v := ?v3) rfl (by kernel_rfl) (by kernel_rfl) (by kernel_rfl) (fun _ _ _ h => h) (Or.inl ⟨by first | kernel_rfl | rfl, ?y3⟩) hHeld ?r3
      case y3 => (intro W hSW; (try dsimp only at hSW); go_simp; (try with_reducible rfl))
      change wpAnyH _ _ _ _ _ _ _ (Act.put _ (some 24) _) _
      simp only [Act.put, List.setIfInBounds_toArray, List.set_cons_zero, List.set_cons_succ]
      refine wpAnyH_take (i := 4) (v := ?v4) rfl (by kernel_rfl) (by kernel_rfl) (by kernel_rfl) (fun _ _ _ h => h) (Or.inl ⟨by first | kernel_rfl | rfl, ?y4⟩) hHeld ?r4
      case y4 => (intro W hSW; (try dsimp only at hSW); go_simp; (try with_reducible rfl))
      change wpAnyH _ _ _ _ _ _ _ (Act.put _ (some 25) _) _
      simp only [Act.put, List.setIfInBounds_toArray, List.set_cons_zero, List.set_cons_succ]
      refine wpAnyH_take (i := 5) (v := ?v5) rfl (by kernel_rfl) (by kernel_rfl) (by kernel_rfl) (fun _ _ _ h => h) (Or.inl ⟨by first | kernel_rfl | rfl, ?y5⟩) hHeld ?r5
      case y5 => (intro W hSW; (try dsimp only at hSW); go_simp; (try with_reducible rfl))
      change wpAnyH _ _ _ _ _ _ _ (Act.put _ (some 26) _) _
      simp only [Act.put, List.setIfInBounds_toArray, List.set_cons_zero, List.set_cons_succ]
      refine wpAnyH_take (i := 6) (v := ?v6) rfl (by kernel_rfl) (by kernel_rfl) (by kernel_rfl) (fun _ _ _ h => h) (Or.inl ⟨by first | kernel_rfl | rfl, ?y6⟩) hHeld ?r6
      case y6 => (intro W hSW; (try dsimp only at hSW); go_simp; (try with_reducible rfl))
      change wpAnyH _ _ _ _ _ _ _ (Act.put _ (some 27) _) _
      simp only [Act.put, List.setIfInBounds_toArray, List.set_cons_zero, List.set_cons_succ]
      refine wpAnyH_take (i := 7) (v := ?v7) rfl (by kernel_rfl) (by kernel_rfl) (by kernel_rfl) (fun _ _ _ h => h) (Or.inl ⟨by first | kernel_rfl | rfl, ?y7⟩) hHeld ?r7
      case y7 => (intro W hSW; (try dsimp only at hSW); go_simp; (try with_reducible rfl))
      change wpAnyH _ _ _ _ _ _ _ (Act.put _ (some 28) _) _
      simp only [Act.put, List.setIfInBounds_toArray, List.set_cons_zero, List.set_cons_succ]
      refine wpAnyH_take (i := 8) (v := ?v8) rfl (by kernel_rfl) (by kernel_rfl) (by kernel_rfl) (fun _ _ _ h => h) (Or.inl ⟨by first | kernel_rfl | rfl, ?y8⟩) hHeld ?r8
      case y8 => (intro W hSW; (try dsimp only at hSW); go_simp; (try with_reducible rfl))
      change wpAnyH _ _ _ _ _ _ _ (Act.put _ (some 29) _) _
      simp only [Act.put, List.setIfInBounds_toArray, List.set_cons_zero, List.set_cons_succ]
      refine wpAnyH_take (i := 9) (v := ?v9) rfl (by kernel_rfl) (by kernel_rfl) (by kernel_rfl) (fun _ _ _ h => h) (Or.inl ⟨by first | kernel_rfl | rfl, ?y9⟩) hHeld ?r9
      case y9 => (intro W hSW; (try dsimp only at hSW); go_simp; (try with_reducible rfl))
      change wpAnyH _ _ _ _ _ _ _ (Act.put _ (some 30) _) _
      simp only [Act.put, List.setIfInBounds_toArray, List.set_cons_zero, List.set_cons_succ]
      refine wpAnyH_take (i := 10) (v := ?v10) rfl (by kernel_rfl) (by kernel_rfl) (by kernel_rfl) (fun _ _ _ h => h) (Or.inl ⟨by first | kernel_rfl | rfl, ?y10⟩) hHeld ?r10
      case y10 => (intro W hSW; (try dsimp only at hSW); go_simp; (try with_reducible rfl))
      change wpAnyH _ _ _ _ _ _ _ (Act.put _ (some 31) _) _
      simp only [Act.put, List.setIfInBounds_toArray, List.set_cons_zero, List.set_cons_succ]
      refine wpAnyH_take (i := 11) (v := ?v11) rfl (by kernel_rfl) (by kernel_rfl) (by kernel_rfl) (fun _ _ _ h => h) (Or.inl ⟨by first | kernel_rfl | rfl, ?y11⟩) hHeld ?r11
      case y11 => (intro W hSW; (try dsimp only at hSW); go_simp; (try with_reducible rfl))
      change wpAnyH _ _ _ _ _ _ _ (Act.put _ (some 32) _) _
      simp only [Act.put, List.setIfInBounds_toArray, List.set_cons_zero, List.set_cons_succ]
      refine wpAnyH_ready (rs := [12]) (by kernel_rfl) (by simp) ?_
      refine AllReadyH.cons rfl (fun K hK => ?_) AllReadyH.nil
      go_simp
      refine hK.out _ _ (HC.out.2.1) (fun hHeld => ?_)
      clear hK K
      try simp only [Act.put, List.setIfInBounds_toArray, List.set_cons_zero, List.set_cons_succ]
      refine wpAnyH_ready (rs := [13]) (by kernel_rfl) (by simp) ?_
      refine AllReadyH.cons rfl (fun K hK => ?_) AllReadyH.nil
      go_simp
      refine hK.out _ _ (HC.out.2.2) (fun hHeld => ?_)
      clear hK K
      refine wpAnyH_done (by kernel_rfl) ?_ _

      clear hHeld j0 j1 j2 wi1 wi2 z0 z1 z2 f0 f1 f2 hV1 hV2
      obtain ⟨q0, q1, q2⟩ := HQC.out
      obtain ⟨cD6, cX6⟩ := HU.out
      obtain ⟨hlk, hup⟩ := HLK.out
      cases hl : lastK x (key3 x i) i with
      | none =>
        rw [hl] at hlk
        simp only [Option.getD_none, Option.isSome_none] at hlk
        have HST : Hid (runC x (i + 1) = (d, ts)) := step_none HR.out.1 hl
        clear hl HLK
        go_wp2
        exact ⟨⟨i + 1, d, ts, F', by omega, by go_num, HST.out, HR.out.2.1⟩, by simp [intOf]; omega⟩
      | some fr =>
        rw [hl] at hlk
        simp only [Option.getD_some, Option.isSome_some] at hlk
        obtain ⟨hfr, hkey⟩ := lastK_some hl
        by_cases hd : i < d
        · have k1 : (i : Int) < (d : Int) := by omega
          have HST : Hid (runC x (i + 1) = (d, ts)) := step_lt HR.out.1 hl hd
          clear hl HLK hkey
          go_wp2
          exact ⟨⟨i + 1, d, ts, F', by omega, by go_num, HST.out, HR.out.2.1⟩, by simp [intOf]; omega⟩
        · have k1 : ¬ (i : Int) < (d : Int) := by omega
          obtain ⟨a1, a2, a3, a4⟩ := alike_spec hkey (by omega)
          have HAL := fun W => alike_any x fr i hfr (by omega) (by omega) W
          rw [HT.out] at HAL
          have hno := step_no HR.out.1 hl hd
          have hyes := step_yes HR.out.1 hl hd
          obtain ⟨n, hn⟩ : ∃ n, alike x fr i = n := ⟨_, rfl⟩
          rw [hn] at a1 a2 a3 a4 HAL hno hyes
          have HAL : Hid (∀ W, Calls Try.prog 41 #[.string T, .int .i64 (fr : Int), .int .i64 (i : Int)] W fun e w' => e = .returned (.int .i64 (n : Int)) ∧ Below W.heap.size W w') := HAL
          by_cases hy : 3 < n ∨ i = d
          · obtain ⟨bk, hbk⟩ : ∃ bk, i - fr = bk := ⟨_, rfl⟩
            obtain ⟨m, hm⟩ : ∃ m, i + n = m := ⟨_, rfl⟩
            have hst := hyes hy
            rw [hbk, hm] at hst
            have hg2 := HQ.out.2.g
            rw [hst] at hg2
            have HST : Hid (runC x (i + 1) = (m, ts ++ ownsL x d i ++ [⟨bk, n, []⟩]) ∧ Goes x.length 0 (ts ++ ownsL x d i ++ [⟨bk, n, []⟩])) := ⟨hst, hg2⟩
            have wb : IntKind.i64.wrap ((i : Int) - (fr : Int)) = (bk : Int) := by rw [IntKind.wrap_i64]; omega
            have wm : IntKind.i64.wrap ((i : Int) + (n : Int)) = (m : Int) := by rw [IntKind.wrap_i64]; omega
            have hdi : d ≤ i := by omega
            clear hl HLK hkey hno hyes hn a4 hst hg2 hbk hm hd
            by_cases h3 : 3 < n
            · have k3 : (3 : Int) < (n : Int) := by omega
              go_wp2_with fail
              refine (HAL.out _).mono ?_
              rintro e V7 ⟨rfl, hV7⟩
              have hs7 := HR.out.2.1.below HLY.out hV7
              have cD7 := hs7.ch.cells.1
              have HOW := owns_any HLY.out hs7.inv hs7.ch (hs7.off HK.out) (by have := HK.out.r; have := HK.out.d; omega) (by omega) (by omega) hx HQ.out.1.g HQ.out.1.n (e := i)
              have HOW : Hid (Calls Try.prog 40 #[.int .i64 ((i : Nat) : Int), .pointer (some ⟨D, 0, none⟩), .pointer (some ⟨X, 0, none⟩), .pointer (some ⟨L, 0, none⟩)] V7 fun e' w' => e' = .returned (.tuple #[]) ∧ OwTo V7 D X L i f (strOf x) lb Inv (ts ++ ownsL x d i) F' w') := HOW
              have HS7 : Hid (ChS V7 X N1 D X L mb f x lb Inv (i + 1) d ts F') := hs7
              clear hV7 hs7 cD6 cX6 hlk hup q0 q1 q2
              go_wp2_with fail
              refine HOW.out.mono ?_
              rintro e V8 ⟨rfl, how⟩
              obtain ⟨F8, hs8⟩ := HS7.out.own HK.out how
              have cL8 := hs8.ch.cells.2.2
              have HGO := HLY.out.go V8 _ ⟨bk, n, []⟩ F8 hs8.inv HST.out.2
              have HGO : Hid (Calls Try.prog f (#[.agg #[.int .i64 (bk : Int), .int .i64 (n : Int), .string ⟨#[]⟩]] ++ lb) V8 fun e w' => e = .returned (.tuple #[]) ∧ ∃ F', Inv w' (ts ++ ownsL x d i ++ [⟨bk, n, []⟩]) F' ∧ (∀ z, F' z → F8 z ∨ V8.heap.size ≤ z) ∧ Upd F8 V8 w') := HGO
              have HS8 : Hid (ChS V8 X N1 D X L mb f x lb Inv (i + 1) i (ts ++ ownsL x d i) F8) := hs8
              clear how hs8 HOW cD7
              go_wp2_with fail
              refine HGO.out.mono ?_
              rintro e V9 ⟨rfl, F9, hi9, hf9, hu9⟩
              have hs9 := HS8.out.lay HK.out hi9 hf9 hu9
              have cD9 := hs9.ch.cells.1
              have fD9 := frozen_of_row V9 D 0 _ _ hs9.ch.d
              have HS10 : Hid (ChS (V9.setCell ⟨D, 0, none⟩ (.int .i64 (m : Int))) X N1 D X L mb f x lb Inv (i + 1) m (ts ++ ownsL x d i ++ [⟨bk, n, []⟩]) F9) := hs9.set HK.out HLY.out m
              clear hi9 hf9 hu9 hs9 HGO cL8
              go_wp2
              exact ⟨⟨i + 1, m, _, F9, by omega, by go_num, HST.out.1, HS10.out⟩, by simp [intOf]; omega⟩
            · have k3 : ¬ (3 : Int) < (n : Int) := by omega
              have hid : d = i := by omega
              subst hid
              go_wp2_with fail
              refine (HAL.out _).mono ?_
              rintro e V7 ⟨rfl, hV7⟩
              have hs7 := HR.out.2.1.below HLY.out hV7
              have cD7 := hs7.ch.cells.1
              have HOW := owns_any HLY.out hs7.inv hs7.ch (hs7.off HK.out) (by have := HK.out.r; have := HK.out.d; omega) (by omega) (by omega) hx HQ.out.1.g HQ.out.1.n (e := d)
              have HOW : Hid (Calls Try.prog 40 #[.int .i64 ((d : Nat) : Int), .pointer (some ⟨D, 0, none⟩), .pointer (some ⟨X, 0, none⟩), .pointer (some ⟨L, 0, none⟩)] V7 fun e' w' => e' = .returned (.tuple #[]) ∧ OwTo V7 D X L d f (strOf x) lb Inv (ts ++ ownsL x d d) F' w') := HOW
              have HS7 : Hid (ChS V7 X N1 D X L mb f x lb Inv (d + 1) d ts F') := hs7
              clear hV7 hs7 cD6 cX6 hlk hup q0 q1 q2
              go_wp2_with fail
              refine HOW.out.mono ?_
              rintro e V8 ⟨rfl, how⟩
              obtain ⟨F8, hs8⟩ := HS7.out.own HK.out how
              have cL8 := hs8.ch.cells.2.2
              have HGO := HLY.out.go V8 _ ⟨bk, n, []⟩ F8 hs8.inv HST.out.2
              have HGO : Hid (Calls Try.prog f (#[.agg #[.int .i64 (bk : Int), .int .i64 (n : Int), .string ⟨#[]⟩]] ++ lb) V8 fun e w' => e = .returned (.tuple #[]) ∧ ∃ F', Inv w' (ts ++ ownsL x d d ++ [⟨bk, n, []⟩]) F' ∧ (∀ z, F' z → F8 z ∨ V8.heap.size ≤ z) ∧ Upd F8 V8 w') := HGO
              have HS8 : Hid (ChS V8 X N1 D X L mb f x lb Inv (d + 1) d (ts ++ ownsL x d d) F8) := hs8
              clear how hs8 HOW cD7
              go_wp2_with fail
              refine HGO.out.mono ?_
              rintro e V9 ⟨rfl, F9, hi9, hf9, hu9⟩
              have hs9 := HS8.out.lay HK.out hi9 hf9 hu9
              have cD9 := hs9.ch.cells.1
              have fD9 := frozen_of_row V9 D 0 _ _ hs9.ch.d
              have HS10 : Hid (ChS (V9.setCell ⟨D, 0, none⟩ (.int .i64 (m : Int))) X N1 D X L mb f x lb Inv (d + 1) m (ts ++ ownsL x d d ++ [⟨bk, n, []⟩]) F9) := hs9.set HK.out HLY.out m
              clear hi9 hf9 hu9 hs9 HGO cL8
              go_wp2
              exact ⟨⟨d + 1, m, _, F9, by omega, by go_num, HST.out.1, HS10.out⟩, by simp [intOf]; omega⟩
          · have hn3 : ¬ 3 < n := fun h => hy (.inl h)
            have hid : ¬ i = d := fun h => hy (.inr h)
            have k3 : ¬ (3 : Int) < (n : Int) := by omega
            have k4 : ¬ (i : Int) = (d : Int) := by omega
            have k5 : ((i : Int) == (d : Int)) = false := by simpa using k4
            have HST : Hid (runC x (i + 1) = (d, ts)) := hno hy
            clear hl HLK hkey hno hyes hn a4 hd hy
            go_wp2_with fail
            refine (HAL.out _).mono ?_
            rintro e V7 ⟨rfl, hV7⟩
            have hs7 := HR.out.2.1.below HLY.out hV7
            have cD7 := hs7.ch.cells.1
            have HS7 : Hid (ChS V7 X N1 D X L mb f x lb Inv (i + 1) d ts F') := hs7
            clear hV7 hs7 cD6 cX6 hlk hup q0 q1 q2
            go_wp2
            exact ⟨⟨i + 1, d, ts, F', by omega, by go_num, HST.out, HS7.out⟩, by simp [intOf]; omega⟩
    · have hN : i = x.length - 2 := by omega
      have kk : ¬ (i : Int) < M := by have := HM.out; omega
      have hok := run_ok x hx i hi
      rw [hrun] at hok
      have HOW := owns_any HLY.out hs.inv hs.ch (hs.off HK.out) (by have := HK.out.r; have := HK.out.d; omega) hok.le (Nat.le_refl _) hx hok.g hok.n (e := x.length)
      have HOW : Hid (Calls Try.prog 40 #[.int .i64 ((x.length : Nat) : Int), .pointer (some ⟨D, 0, none⟩), .pointer (some ⟨X, 0, none⟩), .pointer (some ⟨L, 0, none⟩)] wr fun e' w' => e' = .returned (.tuple #[]) ∧ OwTo wr D X L x.length f (strOf x) lb Inv (ts ++ ownsL x d x.length) F' w') := HOW
      have HCH : Hid (ts ++ ownsL x d x.length = chooseL x) := by
        show _ = chooseL x
        unfold chooseL
        rw [← hN, hrun]
      have HS0 : Hid (ChS wr X N1 D X L mb f x lb Inv i d ts F') := hs
      have cX := hs.ch.cells.2.1
      rw [HT.out] at cX
      clear hrun hs hok
      go_wp2_with fail
      refine HOW.out.mono ?_
      rintro e V8 ⟨rfl, F8, hi8, _⟩
      rw [HCH.out] at hi8
      have HI8 : Hid (Inv V8 (chooseL x) F8) := hi8
      clear hi8 HOW cX
      go_wp2
      refine bodyPost_end (v := .tuple #[]) ?_ rfl ⟨rfl, F8, HI8.out⟩
      simp [results, go_sem]
end Go.Proofs.Ytekbmdpokghmmaa
