/- A walk over the document's New. A walk over the document's New. -/
import Derived.Test.YtdgffocmdkadpaaGreatRF
namespace Go.Proofs.YtdgffocmdkadpaaGreat
open Go.RowKit Go.Shelf Pg
/-- A state that is being made: i bools, j texts. -/
structure St2 (w W : World) (B C i j : Nat) (ua : Option Addr) (uc : Nat) (da : Option Addr) (dc : Nat) (us : List Bool) (ds : List ByteArray) (Z : Array Value) : Prop where
  c : W.heap[C]? = some (.cells #[.slice ua i uc, .slice da j dc, .int .i64 0, .int .i64 0, .int .i64 0, .int .i64 0, .int .u64 0] 42 (0, 0))
  z : W.heap[B]? = some (.cells Z 53 (0, 0))
  u : W.ownsRow (C + 1) 4 1 (.slice ua i uc) i (boolsV us)
  d : W.ownsRow (C + 1) 9 1 (.slice da j dc) j (strsV ds)
  ne : ∀ x, ob ua = some x → ob da ≠ some x
  b : Below B w W
  bc : B < C
section
variable {w W W' : World} {B C i j : Nat} {ua : Option Addr} {uc : Nat} {da : Option Addr} {dc : Nat} {us : List Bool} {ds : List ByteArray} {Z : Array Value}
theorem St2.on (h : St2 w W B C i j ua uc da dc us ds Z) (hb : Below W.heap.size W W') : St2 w W' B C i j ua uc da dc us ds Z :=
  ⟨(hb.block _ (lt_of_some h.c)).trans h.c, (hb.block _ (lt_of_some h.z)).trans h.z, own_keep h.u (fun k hk => hb.block k (h.u.lt k hk).2), own_keep h.d (fun k hk => hb.block k (h.d.lt k hk).2), h.ne, h.b.trans (hb.mono (by have := lt_of_some h.z; omega)), h.bc⟩
theorem St2.useA (h : St2 w W B C i j ua uc da dc us ds Z) (hi : i ≤ 1000) (x : Bool) : ∃ (V3 V4 : World) (a1 : Option Addr) (c1 : Nat), W.alloc (.cells #[.bool x] 4) = V3 ∧ (∀ ty, (Builtin.append_ #[37, 37] ty #[.slice ua i uc, .slice (some ⟨W.heap.size, 0, none⟩) 1 1]).run Tryz.prog V3 = .ok (.slice a1 (i + 1) c1) V4) ∧ V4.cell? ⟨C, 0, none⟩ = some (.slice ua i uc) ∧ V4.frozen? ⟨C, 0, none⟩ = false ∧ St2 w (V4.setCell ⟨C, 0, none⟩ (.slice a1 (i + 1) c1)) B C (i + 1) j a1 c1 da dc (us ++ [x]) ds Z := by
  have hbc := h.bc
  have hCl : C < W.heap.size := lt_of_some h.c
  obtain ⟨V3, hV3⟩ : ∃ V3, W.alloc (.cells #[.bool x] 4) = V3 := ⟨_, rfl⟩
  have hs3 : V3.heap.size = W.heap.size + 1 := by rw [← hV3]; simp
  have h3 : St2 w V3 B C i j ua uc da dc us ds Z := h.on (by rw [← hV3]; exact (Below.refl _ W).alloc (Nat.le_refl _) _)
  obtain ⟨a1, c1, V4, k1, k2, k3, k4⟩ := addB_own V3 (x := x) (b := W.heap.size) h3.u (by rw [← hV3]; exact heap_alloc_new W _) (by omega) (by omega)
  have hu3 : ∀ y, ob ua = some y → C + 1 ≤ y ∧ y < V3.heap.size := fun y hy => h3.u.lt y (by rw [ob_slice]; exact hy)
  have hd3 : ∀ y, ob da = some y → C + 1 ≤ y ∧ y < V3.heap.size := fun y hy => h3.d.lt y (by rw [ob_slice]; exact hy)
  have c4 := (k3.block _ (lt_of_some h3.c) (fun e => by have := (hu3 _ e.symm).1; omega)).trans h3.c
  have z4 := (k3.block _ (lt_of_some h3.z) (fun e => by have := (hu3 _ e.symm).1; omega)).trans h3.z
  have d4 : V4.ownsRow (C + 1) 9 1 (.slice da j dc) j (strsV ds) := own_keep h3.d (fun k hk => k3.block k (h3.d.lt k hk).2 (fun e => h3.ne k e.symm (by rw [ob_slice] at hk; exact hk)))
  have b4 : Below B w V4 := h3.b.grown k3 (by omega) (fun k hk => by have := (hu3 k hk).1; omega)
  have o5 : ∀ y, y ≠ C → (V4.setCell ⟨C, 0, none⟩ (.slice a1 (i + 1) c1)).heap[y]? = V4.heap[y]? := fun y hy => heap_setCell_other _ _ _ _ hy
  refine ⟨V3, V4, a1, c1, hV3, k1, by rw [cell_of_row V4 C _ _ _ _ c4]; rfl, frozen_of_row V4 C _ _ _ c4, ⟨by rw [heap_setCell_same V4 C 0 _ _ _ c4]; rfl, (o5 _ (by omega)).trans z4, own_keep k2 (fun k hk => o5 k (by have := (k2.lt k hk).1; omega)), own_keep d4 (fun k hk => o5 k (by have := (d4.lt k hk).1; omega)), fun y hy hz => ?_, b4.setCell (by show B ≤ C; omega) _, hbc⟩⟩
  rcases k4 with e | e
  · exact h3.ne y (by rw [← e]; exact hy) hz
  · rw [e] at hy
    cases hy
    have := (hd3 _ hz).2
    omega
theorem St2.datA (h : St2 w W B C i j ua uc da dc us ds Z) (hj : j ≤ 1000) (t : ByteArray) : ∃ (V3 V4 : World) (a1 : Option Addr) (c1 : Nat), W.alloc (.cells #[.string t] 9) = V3 ∧ (∀ ty, (Builtin.append_ #[38, 38] ty #[.slice da j dc, .slice (some ⟨W.heap.size, 0, none⟩) 1 1]).run Tryz.prog V3 = .ok (.slice a1 (j + 1) c1) V4) ∧ V3.cell? ⟨C, 1, none⟩ = some (.slice da j dc) ∧ V4.cell? ⟨C, 1, none⟩ = some (.slice da j dc) ∧ V4.frozen? ⟨C, 1, none⟩ = false ∧ St2 w (V4.setCell ⟨C, 1, none⟩ (.slice a1 (j + 1) c1)) B C i (j + 1) ua uc a1 c1 us (ds ++ [t]) Z := by
  have hbc := h.bc
  have hCl : C < W.heap.size := lt_of_some h.c
  obtain ⟨V3, hV3⟩ : ∃ V3, W.alloc (.cells #[.string t] 9) = V3 := ⟨_, rfl⟩
  have hs3 : V3.heap.size = W.heap.size + 1 := by rw [← hV3]; simp
  have h3 : St2 w V3 B C i j ua uc da dc us ds Z := h.on (by rw [← hV3]; exact (Below.refl _ W).alloc (Nat.le_refl _) _)
  obtain ⟨a1, c1, V4, k1, k2, k3, k4⟩ := addT_own2 V3 (x := t) (b := W.heap.size) h3.d (by rw [← hV3]; exact heap_alloc_new W _) (by omega) (by omega)
  have hu3 : ∀ y, ob ua = some y → C + 1 ≤ y ∧ y < V3.heap.size := fun y hy => h3.u.lt y (by rw [ob_slice]; exact hy)
  have hd3 : ∀ y, ob da = some y → C + 1 ≤ y ∧ y < V3.heap.size := fun y hy => h3.d.lt y (by rw [ob_slice]; exact hy)
  have c4 := (k3.block _ (lt_of_some h3.c) (fun e => by have := (hd3 _ e.symm).1; omega)).trans h3.c
  have z4 := (k3.block _ (lt_of_some h3.z) (fun e => by have := (hd3 _ e.symm).1; omega)).trans h3.z
  have u4 : V4.ownsRow (C + 1) 4 1 (.slice ua i uc) i (boolsV us) := own_keep h3.u (fun k hk => k3.block k (h3.u.lt k hk).2 (fun e => h3.ne k (by rw [ob_slice] at hk; exact hk) e.symm))
  have b4 : Below B w V4 := h3.b.grown k3 (by omega) (fun k hk => by have := (hd3 k hk).1; omega)
  have o5 : ∀ y, y ≠ C → (V4.setCell ⟨C, 1, none⟩ (.slice a1 (j + 1) c1)).heap[y]? = V4.heap[y]? := fun y hy => heap_setCell_other _ _ _ _ hy
  refine ⟨V3, V4, a1, c1, hV3, k1, by rw [cell_of_row V3 C _ _ _ _ h3.c]; rfl, by rw [cell_of_row V4 C _ _ _ _ c4]; rfl, frozen_of_row V4 C _ _ _ c4, ⟨by rw [heap_setCell_same V4 C 1 _ _ _ c4]; rfl, (o5 _ (by omega)).trans z4, own_keep u4 (fun k hk => o5 k (by have := (u4.lt k hk).1; omega)), own_keep k2 (fun k hk => o5 k (by have := (k2.lt k hk).1; omega)), fun y hy hz => ?_, b4.setCell (by show B ≤ C; omega) _, hbc⟩⟩
  rcases k4 with e | e
  · exact h3.ne y hy (by rw [← e]; exact hz)
  · rw [e] at hz
    cases hz
    have := (hu3 _ hy).2
    omega
end
end Go.Proofs.YtdgffocmdkadpaaGreat
namespace Go.Proofs.YtdgffocmdkadpaaGreat
open Go.RowKit Go.Shelf Pg
/-- A pager of the document: two states and savepoints. -/
def pgR (x y : Array Value) (p : Value) : Value := .agg (x ++ y ++ #[p])
def NwTo (F : Nat → Prop) (n : Nat) (w : World) (e : Ending) (w' : World) : Prop := ∃ rs : Array Value, rs.size = 7 ∧ e = .returned (pgR rs rs (.slice none 0 0)) ∧ DSt (mor F w w') w' n (.agg rs) ∧ Below w.heap.size w w'
theorem built_pg (a b c d e f g : Value) : Tryz.prog.built 53 [(0, .agg #[a, b, c, d, e, f, g]), (1, .agg #[a, b, c, d, e, f, g])] = some (#[a, b, c, d, e, f, g] ++ #[a, b, c, d, e, f, g] ++ #[.slice none 0 0]) := by kernel_rfl
theorem wpList_pg {ops : Array Oper} {rest : List Oper} {o : Oper} {a : Act} {w : World} {Q : Exit → Act → World → Prop} (hgd : o.guard = none) (x y : Operand) (ho : o.op = .build 53 #[(0, x), (1, y)]) (rs row : Array Value) (hb : Tryz.prog.built 53 [(0, .agg rs), (1, .agg rs)] = some row) (hx : a.eval x = .agg rs) (hy : a.eval y = .agg rs) (hK : wpList Tryz.prog ops Q rest (a.put o.dst (.agg row)) w) : wpList Tryz.prog ops Q (o :: rest) a w :=
  wpList_plain hgd fun K hk => by
    have hr := run_build (P := Tryz.prog) w 53 #[(0, .agg rs), (1, .agg rs)] _ hb
    have e : (#[(0, x), (1, y)] : Array (Nat × Operand)).map (fun (i, x) => (i, a.eval x)) = #[(0, .agg rs), (1, .agg rs)] := by
      simp only [List.map_toArray, List.map_cons, List.map_nil, hx, hy]
    unfold Oper.wp execOp
    simp only [ho, Sem.run_bind, e, hr, Result.andThen_ok, Sem.run_pure]
    exact hk _ _ hK
set_option maxRecDepth 100000 in
set_option maxHeartbeats 8000000 in
theorem rnew_any (F : Nat → Prop) (n : Nat) (w : World) (hn : n ≤ 128) : Calls Tryz.prog 54 #[.int .i64 (n : Int)] w fun e w' => NwTo F n w e w' := by
  obtain ⟨B, hB⟩ : ∃ B, w.heap.size = B := ⟨_, rfl⟩
  obtain ⟨W1, hW1⟩ : ∃ W1, w.alloc (.cells #[.slice none 0 0, .slice none 0 0, .int .i64 0, .int .i64 0, .int .i64 0, .int .i64 0, .int .u64 0, .slice none 0 0, .slice none 0 0, .int .i64 0, .int .i64 0, .int .i64 0, .int .i64 0, .int .u64 0, .slice none 0 0] 53) = W1 := ⟨_, rfl⟩
  have s1 : W1.heap.size = B + 1 := by rw [← hW1, ← hB]; simp
  have HI : Hid (St2 w (W1.alloc (.cells #[.slice none 0 0, .slice none 0 0, .int .i64 0, .int .i64 0, .int .i64 0, .int .i64 0, .int .u64 0] 42)) B (B + 1) 0 0 none 0 none 0 [] [] #[.slice none 0 0, .slice none 0 0, .int .i64 0, .int .i64 0, .int .i64 0, .int .i64 0, .int .u64 0, .slice none 0 0, .slice none 0 0, .int .i64 0, .int .i64 0, .int .i64 0, .int .i64 0, .int .u64 0, .slice none 0 0]) := by
    refine ⟨by rw [← s1]; exact heap_alloc_new W1 _, by rw [Below.heap_alloc _ _ _ (by omega), ← hW1, ← hB]; exact heap_alloc_new w _, World.ownsRow_nil _ _ _ _, World.ownsRow_nil _ _ _ _, fun x hx => (by cases hx), ?_, by omega⟩
    exact Below.alloc (by rw [← hW1, ← hB]; exact (Below.refl _ w).alloc (Nat.le_refl _) _) (by omega) _
  go_enter Tryz.func54, Tryz.ntmps54
  go_wp2
  go_loopw [4] (fun v wr => ∃ (i : Nat) (ua : Option Addr) (uc : Nat) (da : Option Addr) (dc : Nat), i ≤ n ∧ v = .int .i64 (i : Int) ∧ ∃ us ds, St2 w wr B (B + 1) i i ua uc da dc us ds #[.slice none 0 0, .slice none 0 0, .int .i64 0, .int .i64 0, .int .i64 0, .int .i64 0, .int .u64 0, .slice none 0 0, .slice none 0 0, .int .i64 0, .int .i64 0, .int .i64 0, .int .i64 0, .int .u64 0, .slice none 0 0]) (fun v _ => n - (intOf v).toNat)
  case atStart => exact ⟨0, none, 0, none, 0, Nat.zero_le _, rfl, [], [], HI.out⟩
  case round =>
    clear HI hW1 s1
    obtain ⟨i, ua, uc, da, dc, hi, rfl, us, ds, hst⟩ := hrel
    by_cases hlt : i < n
    · have kk : (i : Int) < (n : Int) := by omega
      obtain ⟨bb, hbb⟩ : ∃ bb, decide (i = 0) = bb := ⟨_, rfl⟩
      have ebb : ((i : Int) == 0) = bb := by
        rw [← hbb]
        by_cases h1 : i = 0
        · rw [decide_eq_true h1]; simp; omega
        · rw [decide_eq_false h1]; simp; omega
      have edd : decide ((i : Int) = 0) = bb := by rw [← ebb]; rfl
      have c0 : wr.cell? ⟨B + 1, 0, none⟩ = some (.slice ua i uc) := by rw [cell_of_row wr (B + 1) _ _ _ _ hst.c]; rfl
      obtain ⟨V3, V4, a1, c1, hV3, k1, e2, e3, hmid⟩ := hst.useA (by omega) bb
      obtain ⟨V5, hV5⟩ : ∃ V5, V4.setCell ⟨B + 1, 0, none⟩ (.slice a1 (i + 1) c1) = V5 := ⟨_, rfl⟩
      rw [hV5] at hmid
      have d1 : V5.drew.cell? ⟨B + 1, 1, none⟩ = some (.slice da i dc) := by rw [cell_of_row V5.drew (B + 1) _ _ _ _ hmid.c]; rfl
      have d15 : V5.cell? ⟨B + 1, 1, none⟩ = some (.slice da i dc) := d1
      have H5 : Hid (St2 w V5.drew B (B + 1) (i + 1) i a1 c1 da dc (us ++ [bb]) ds #[.slice none 0 0, .slice none 0 0, .int .i64 0, .int .i64 0, .int .i64 0, .int .i64 0, .int .u64 0, .slice none 0 0, .slice none 0 0, .int .i64 0, .int .i64 0, .int .i64 0, .int .i64 0, .int .u64 0, .slice none 0 0]) := hmid.on (Below.refl _ V5).drew
      clear hst hmid hbb
      go_wp2_with ((at_builtin; refine wpList_app V3 rfl _ _ _ _ rfl rfl rfl (k1 _) ?_))
      refine wp_region_held_drew (S := fun _ => True) (by kernel_rfl) (trivial) (fun hHeld => ?_)
      refine wpAnyH_take (i := 0) (v := ?v0) rfl (by kernel_rfl) (by kernel_rfl) (by kernel_rfl) (fun _ _ _ h => h) (Or.inl ⟨by first | kernel_rfl | rfl, ?y0⟩) hHeld ?r0
      case y0 => (intro W hSW; (try dsimp only at hSW); go_simp; (try with_reducible rfl))
      change wpAnyH _ _ _ _ _ _ _ (Act.put _ (some 18) _) _
      simp only [Act.put, List.setIfInBounds_toArray, List.set_cons_zero, List.set_cons_succ]
      refine wpAnyH_ready (rs := [1, 2]) (by kernel_rfl) (by simp) ?_
      refine AllReadyH.cons rfl (fun K hK => ?_) (AllReadyH.cons rfl (fun K hK => ?_) AllReadyH.nil)
      · go_simp
        refine hK.out _ _ (trivial) (fun hHeld => ?_)
        clear hK K
        try simp only [Act.put, List.setIfInBounds_toArray, List.set_cons_zero, List.set_cons_succ]
        refine wpAnyH_ready (rs := [2]) (by kernel_rfl) (by simp) ?_
        refine AllReadyH.cons rfl (fun K hK => ?_) AllReadyH.nil
        go_simp
        refine (rblank_any V5.drew).mono ?_
        rintro e V2 ⟨rfl, hV2⟩
        refine hK.out _ _ (trivial) (fun hHeld => ?_)
        clear hK K
        try simp only [Act.put, List.setIfInBounds_toArray, List.set_cons_zero, List.set_cons_succ]
        have hst2 := H5.out.on hV2
        have d2 : V2.cell? ⟨B + 1, 1, none⟩ = some (.slice da i dc) := by rw [cell_of_row V2 (B + 1) _ _ _ _ hst2.c]; rfl
        obtain ⟨V6, V7, a2, c2, hV6, k2, e4, e5, e6, hfin⟩ := hst2.datA (by omega) zeroS
        have HFIN : Hid (∃ us' ds', St2 w (V7.setCell ⟨B + 1, 1, none⟩ (.slice a2 (i + 1) c2)) B (B + 1) (i + 1) (i + 1) a1 c1 a2 c2 us' ds' #[.slice none 0 0, .slice none 0 0, .int .i64 0, .int .i64 0, .int .i64 0, .int .i64 0, .int .u64 0, .slice none 0 0, .slice none 0 0, .int .i64 0, .int .i64 0, .int .i64 0, .int .i64 0, .int .u64 0, .slice none 0 0]) := ⟨_, _, hfin⟩
        clear hfin hst2 hV2 H5
        refine wpAnyH_ready (rs := [3]) (by kernel_rfl) (by simp) ?_
        refine AllReadyH.cons rfl (fun K hK => ?_) AllReadyH.nil
        go_simp
        refine hK.out _ _ (trivial) (fun hHeld => ?_)
        clear hK K
        try simp only [Act.put, List.setIfInBounds_toArray, List.set_cons_zero, List.set_cons_succ]
        refine wpAnyH_ready (rs := [4]) (by kernel_rfl) (by simp) ?_
        refine AllReadyH.cons rfl (fun K hK => ?_) AllReadyH.nil
        rw [if_pos (by rfl)]
        refine wp_app V6 _ _ _ _ rfl rfl rfl (k2 _) ?_
        skip
        refine hK.out _ _ (trivial) (fun hHeld => ?_)
        clear hK K
        change wpAnyH _ _ _ _ _ _ _ (Act.put _ (some 22) _) _
        simp only [Act.put, List.setIfInBounds_toArray, List.set_cons_zero, List.set_cons_succ]
        refine wpAnyH_take (i := 5) (v := ?va_5) rfl (by kernel_rfl) (by kernel_rfl) (by kernel_rfl) (fun _ _ _ h => h) (Or.inl ⟨by first | kernel_rfl | rfl, ?ya_5⟩) hHeld ?ra_5
        case ya_5 => (intro W hSW; (try dsimp only at hSW); go_simp; (try with_reducible rfl))
        change wpAnyH _ _ _ _ _ _ _ (Act.put _ (some 23) _) _
        simp only [Act.put, List.setIfInBounds_toArray, List.set_cons_zero, List.set_cons_succ]
        refine wpAnyH_ready (rs := [6]) (by kernel_rfl) (by simp) ?_
        refine AllReadyH.cons rfl (fun K hK => ?_) AllReadyH.nil
        go_simp
        refine hK.out _ _ (trivial) (fun hHeld => ?_)
        clear hK K
        refine wpAnyH_done (by kernel_rfl) ?_ _
        go_wp2
        exact ⟨⟨i + 1, a1, c1, a2, c2, by omega, by go_num, HFIN.out⟩, by simp [intOf]; omega⟩
      · go_simp
        refine (rblank_any V5.drew).mono ?_
        rintro e V2 ⟨rfl, hV2⟩
        refine hK.out _ _ (trivial) (fun hHeld => ?_)
        clear hK K
        try simp only [Act.put, List.setIfInBounds_toArray, List.set_cons_zero, List.set_cons_succ]
        have hst2 := H5.out.on hV2
        have d2 : V2.cell? ⟨B + 1, 1, none⟩ = some (.slice da i dc) := by rw [cell_of_row V2 (B + 1) _ _ _ _ hst2.c]; rfl
        obtain ⟨V6, V7, a2, c2, hV6, k2, e4, e5, e6, hfin⟩ := hst2.datA (by omega) zeroS
        have HFIN : Hid (∃ us' ds', St2 w (V7.setCell ⟨B + 1, 1, none⟩ (.slice a2 (i + 1) c2)) B (B + 1) (i + 1) (i + 1) a1 c1 a2 c2 us' ds' #[.slice none 0 0, .slice none 0 0, .int .i64 0, .int .i64 0, .int .i64 0, .int .i64 0, .int .u64 0, .slice none 0 0, .slice none 0 0, .int .i64 0, .int .i64 0, .int .i64 0, .int .i64 0, .int .u64 0, .slice none 0 0]) := ⟨_, _, hfin⟩
        clear hfin hst2 hV2 H5
        refine wpAnyH_ready (rs := [1, 3]) (by kernel_rfl) (by simp) ?_
        refine AllReadyH.cons rfl (fun K hK => ?_) (AllReadyH.cons rfl (fun K hK => ?_) AllReadyH.nil)
        · go_simp
          refine hK.out _ _ (trivial) (fun hHeld => ?_)
          clear hK K
          try simp only [Act.put, List.setIfInBounds_toArray, List.set_cons_zero, List.set_cons_succ]
          refine wpAnyH_ready (rs := [3]) (by kernel_rfl) (by simp) ?_
          refine AllReadyH.cons rfl (fun K hK => ?_) AllReadyH.nil
          go_simp
          refine hK.out _ _ (trivial) (fun hHeld => ?_)
          clear hK K
          try simp only [Act.put, List.setIfInBounds_toArray, List.set_cons_zero, List.set_cons_succ]
          refine wpAnyH_ready (rs := [4]) (by kernel_rfl) (by simp) ?_
          refine AllReadyH.cons rfl (fun K hK => ?_) AllReadyH.nil
          rw [if_pos (by rfl)]
          refine wp_app V6 _ _ _ _ rfl rfl rfl (k2 _) ?_
          skip
          refine hK.out _ _ (trivial) (fun hHeld => ?_)
          clear hK K
          change wpAnyH _ _ _ _ _ _ _ (Act.put _ (some 22) _) _
          simp only [Act.put, List.setIfInBounds_toArray, List.set_cons_zero, List.set_cons_succ]
          refine wpAnyH_take (i := 5) (v := ?vc_5) rfl (by kernel_rfl) (by kernel_rfl) (by kernel_rfl) (fun _ _ _ h => h) (Or.inl ⟨by first | kernel_rfl | rfl, ?yc_5⟩) hHeld ?rc_5
          case yc_5 => (intro W hSW; (try dsimp only at hSW); go_simp; (try with_reducible rfl))
          change wpAnyH _ _ _ _ _ _ _ (Act.put _ (some 23) _) _
          simp only [Act.put, List.setIfInBounds_toArray, List.set_cons_zero, List.set_cons_succ]
          refine wpAnyH_ready (rs := [6]) (by kernel_rfl) (by simp) ?_
          refine AllReadyH.cons rfl (fun K hK => ?_) AllReadyH.nil
          go_simp
          refine hK.out _ _ (trivial) (fun hHeld => ?_)
          clear hK K
          refine wpAnyH_done (by kernel_rfl) ?_ _
          go_wp2
          exact ⟨⟨i + 1, a1, c1, a2, c2, by omega, by go_num, HFIN.out⟩, by simp [intOf]; omega⟩
        · go_simp
          refine hK.out _ _ (trivial) (fun hHeld => ?_)
          clear hK K
          try simp only [Act.put, List.setIfInBounds_toArray, List.set_cons_zero, List.set_cons_succ]
          refine wpAnyH_ready (rs := [1]) (by kernel_rfl) (by simp) ?_
          refine AllReadyH.cons rfl (fun K hK => ?_) AllReadyH.nil
          go_simp
          refine hK.out _ _ (trivial) (fun hHeld => ?_)
          clear hK K
          try simp only [Act.put, List.setIfInBounds_toArray, List.set_cons_zero, List.set_cons_succ]
          refine wpAnyH_ready (rs := [4]) (by kernel_rfl) (by simp) ?_
          refine AllReadyH.cons rfl (fun K hK => ?_) AllReadyH.nil
          rw [if_pos (by rfl)]
          refine wp_app V6 _ _ _ _ rfl rfl rfl (k2 _) ?_
          skip
          refine hK.out _ _ (trivial) (fun hHeld => ?_)
          clear hK K
          change wpAnyH _ _ _ _ _ _ _ (Act.put _ (some 22) _) _
          simp only [Act.put, List.setIfInBounds_toArray, List.set_cons_zero, List.set_cons_succ]
          refine wpAnyH_take (i := 5) (v := ?vd_5) rfl (by kernel_rfl) (by kernel_rfl) (by kernel_rfl) (fun _ _ _ h => h) (Or.inl ⟨by first | kernel_rfl | rfl, ?yd_5⟩) hHeld ?rd_5
          case yd_5 => (intro W hSW; (try dsimp only at hSW); go_simp; (try with_reducible rfl))
          change wpAnyH _ _ _ _ _ _ _ (Act.put _ (some 23) _) _
          simp only [Act.put, List.setIfInBounds_toArray, List.set_cons_zero, List.set_cons_succ]
          refine wpAnyH_ready (rs := [6]) (by kernel_rfl) (by simp) ?_
          refine AllReadyH.cons rfl (fun K hK => ?_) AllReadyH.nil
          go_simp
          refine hK.out _ _ (trivial) (fun hHeld => ?_)
          clear hK K
          refine wpAnyH_done (by kernel_rfl) ?_ _
          go_wp2
          exact ⟨⟨i + 1, a1, c1, a2, c2, by omega, by go_num, HFIN.out⟩, by simp [intOf]; omega⟩
    · obtain rfl : i = n := by omega
      have kk : ¬ (i : Int) < (i : Int) := by omega
      have hl := load_rs wr (B + 1) _ _ _ hst.c
      obtain ⟨rs, hrs⟩ : ∃ rs : Array Value, #[.slice ua i uc, .slice da i dc, .int .i64 0, .int .i64 0, .int .i64 0, .int .i64 0, .int .u64 0] = rs := ⟨_, rfl⟩
      have hrz : rs.size = 7 := by rw [← hrs]; rfl
      obtain ⟨row, hrow⟩ : ∃ row : Array Value, rs ++ rs ++ #[.slice none 0 0] = row := ⟨_, rfl⟩
      have hbl : Tryz.prog.built 53 [(0, .agg rs), (1, .agg rs)] = some row := by rw [← hrow, ← hrs]; exact built_pg _ _ _ _ _ _ _
      have hrowz : row.size = 15 := by rw [← hrow, ← hrs]; rfl
      have hst2 : (storeCells ⟨B, 0, none⟩ row.toList).run Tryz.prog wr = .ok () (wr.setRow B row) := by
        rw [run_storeCells_at Tryz.prog B 0 53 row.toList 0 _ wr hst.z (by rw [Array.length_toList, hrowz]; simp) (fun v hv => by
          rw [← hrow, ← hrs] at hv
          simp at hv
          rcases hv with rfl | rfl | rfl | rfl | rfl | rfl | rfl | rfl | rfl | rfl | rfl | rfl | rfl | rfl | rfl <;> rfl), Array.length_toList, hrowz]
        simp
      rw [hrs] at hl
      have hin : (Tryz.prog.info? 53).map (·.size) = some row.size := by rw [hrowz]; kernel_rfl
      have HE : Hid ((wr.setRow B row).heap[B]? = some (.cells row 53 (0, 0)) ∧ DSt (mor F w (wr.setRow B row)) (wr.setRow B row) i (.agg rs) ∧ Below B w (wr.setRow B row)) := by
        refine ⟨setRow_heap wr B _ _ _ _ hst.z, ⟨ua, uc, da, dc, us, ds, 0, 0, 0, 0, 0, by rw [hrs], ?_, ?_⟩, setRow_below hst.b (Nat.le_refl _) _⟩
        · have h9 : (wr.setRow B row).ownsRow (B + 1 + 1) 4 1 (.slice ua i uc) i (boolsV us) := own_keep hst.u (fun k hk => setRow_other _ _ _ _ (by have := (hst.u.lt k hk).1; omega))
          exact (Rw.own (G := fun x => B + 1 + 1 ≤ x) h9 (fun x hx => hx)).mono (fun x hx hl => .inr ⟨by omega, hl⟩)
        · have h9 : (wr.setRow B row).ownsRow (B + 1 + 1) 9 1 (.slice da i dc) i (strsV ds) := own_keep hst.d (fun k hk => setRow_other _ _ _ _ (by have := (hst.d.lt k hk).1; omega))
          exact (Rw.own (G := fun x => B + 1 + 1 ≤ x) h9 (fun x hx => hx)).mono (fun x hx hl => .inr ⟨by omega, hl⟩)
      have HROW : Hid (rs ++ rs ++ #[.slice none 0 0] = row) := hrow
      clear hst hrs hrow
      go_wp2_with (first | (refine wpList_load_w (by kernel_rfl) _ _ rfl rfl hl ?_) | (refine wpList_pg rfl _ _ rfl rs row hbl rfl rfl ?_))
      exact bodyPost_ret (v := .agg row) (results_cell_row rfl _ _ B _ _ _ _ rfl HE.out.1 Tryz.underlying53 rfl hin) rfl ⟨rs, hrz, by unfold pgR; rw [HROW.out], HE.out.2.1, by rw [hB]; exact HE.out.2.2⟩
end Go.Proofs.YtdgffocmdkadpaaGreat
