/- A walk over the statements' state. -/
import Derived.Test.YtdgffocmdkadpaaGreatOG
namespace Go.Proofs.YtdgffocmdkadpaaGreat
open Go.RowKit Go.Shelf Pg
def boolsV (l : List Bool) : List Value := l.map fun b => .bool b
theorem boolsV_at (l : List Bool) (i : Nat) : (boolsV l)[i]? = (l[i]?).map fun b => .bool b := by simp [boolsV]
theorem infoB : (Tryz.prog.info? 4).map (fun i => (i.zero, i.size, i.bytes)) = some (some (.bool false), 1, 1) := by kernel_rfl
theorem addB_own (w : World) {base n c b : Nat} {x : Bool} {a : Option Addr} {l : List Bool} (h : w.ownsRow base 4 1 (.slice a n c) n (boolsV l)) (hr : w.heap[b]? = some (.cells #[.bool x] 4 (0, 0))) (hn : n + 1 ≤ 1000000) (hb : base ≤ w.heap.size) :
    ∃ a' c' w', (∀ ty, (Builtin.append_ #[37, 37] ty #[.slice a n c, .slice (some ⟨b, 0, none⟩) 1 1]).run Tryz.prog w = .ok (.slice a' (n + 1) c') w') ∧ w'.ownsRow base 4 1 (.slice a' (n + 1) c') (n + 1) (boolsV (l ++ [x])) ∧ w.grownBy w' (ob a) ∧ (ob a' = ob a ∨ ob a' = some w.heap.size) := by
  obtain ⟨i, hi, hz, hs, hbb⟩ := info_of infoB
  have h2 : Rw (fun _ => True) w 4 1 (some ⟨b, 0, none⟩) 1 1 [.bool x] := by
    refine ⟨rfl, Nat.le_refl _, by unfold maxLen; omega, fun _ => ⟨b, 0, rfl, lt_of_some hr, trivial, fun j u hu => ?_⟩⟩
    rw [Nat.zero_add, cell_of_row _ b _ _ _ _ hr]
    simpa using hu
  obtain ⟨a', c', w', k1, k2, k3, k4⟩ := app_own w 37 4 i _ 1 1 Tryz.underlying37 hi hz hs hbb rfl (by omega) h h2 (fun u hu => by simp at hu; subst hu; rfl) (by omega) (by omega) hb
  refine ⟨a', c', w', k1, ?_, k3, k4⟩
  have e : boolsV (l ++ [x]) = boolsV l ++ [.bool x] := by simp [boolsV]
  rw [e]
  exact k2
theorem addT_own2 (w : World) {base n c b : Nat} {x : ByteArray} {a : Option Addr} {l : List ByteArray} (h : w.ownsRow base 9 1 (.slice a n c) n (strsV l)) (hr : w.heap[b]? = some (.cells #[.string x] 9 (0, 0))) (hn : n + 1 ≤ 1000000) (hb : base ≤ w.heap.size) :
    ∃ a' c' w', (∀ ty, (Builtin.append_ #[38, 38] ty #[.slice a n c, .slice (some ⟨b, 0, none⟩) 1 1]).run Tryz.prog w = .ok (.slice a' (n + 1) c') w') ∧ w'.ownsRow base 9 1 (.slice a' (n + 1) c') (n + 1) (strsV (l ++ [x])) ∧ w.grownBy w' (ob a) ∧ (ob a' = ob a ∨ ob a' = some w.heap.size) := by
  obtain ⟨i, hi, hz, hs, hbb⟩ := info_of infoT
  have h2 : Rw (fun _ => True) w 9 1 (some ⟨b, 0, none⟩) 1 1 [.string x] := by
    refine ⟨rfl, Nat.le_refl _, by unfold maxLen; omega, fun _ => ⟨b, 0, rfl, lt_of_some hr, trivial, fun j u hu => ?_⟩⟩
    rw [Nat.zero_add, cell_of_row _ b _ _ _ _ hr]
    simpa using hu
  obtain ⟨a', c', w', k1, k2, k3, k4⟩ := app_own w 38 9 i _ 1 16 Tryz.underlying38 hi hz hs hbb rfl (by omega) h h2 (fun u hu => by simp at hu; subst hu; rfl) (by omega) (by omega) hb
  refine ⟨a', c', w', k1, ?_, k3, k4⟩
  have e : strsV (l ++ [x]) = strsV l ++ [.string x] := by simp [strsV]
  rw [e]
  exact k2
/-- A state of the document, as cells. -/
def rsA (uv dv : Value) (r : Nat → Nat) (ser : Nat) : Array Value := #[uv, dv, .int .i64 (r 0 : Int), .int .i64 (r 1 : Int), .int .i64 (r 2 : Int), .int .i64 (r 3 : Int), .int .u64 (ser : Int)]
def rtK (h : Hd) (k j : Nat) : Nat := if j < k then h.root j else 0
theorem rsA_root (uv dv : Value) (h : Hd) (ser k : Nat) (hk : k < 4) : (rsA uv dv (rtK h k) ser).setIfInBounds (2 + k) (.int .i64 (h.root k : Int)) = rsA uv dv (rtK h (k + 1)) ser := by
  match k, hk with
  | 0, _ => rfl
  | 1, _ => rfl
  | 2, _ => rfl
  | 3, _ => rfl
theorem rsA_full (uv dv : Value) (h : Hd) (ser : Nat) : rsA uv dv (rtK h 4) ser = rsA uv dv h.root ser := rfl
/-- What a state tells. -/
def Px.usedL (X : Px) (k : Nat) : List Bool := (List.range k).map fun i => X.now.h.has i
def Px.dataL (n : Nat) (X : Px) (D : Dk) (k : Nat) : List ByteArray := (List.range k).map fun (i : Nat) => X.read n D (i : Int)
theorem load_rs (W : World) (g : Nat) (cs : Array Value) (t : TypeId) (fr : Nat × Nat) (hg : W.heap[g]? = some (.cells cs t fr)) (hs : cs.size = 7 := by rfl) : (loadVar 42 ⟨g, 0, none⟩).run Tryz.prog W = .ok (.agg cs) W := by
  have := load_part W g 0 42 _ _ _ _ cs.toList hg Tryz.underlying42 rfl (by rw [Array.length_toList, hs]; kernel_rfl) (fun j v hv => by rw [Nat.zero_add]; simpa using hv)
  simpa using this
theorem store_rs (W : World) (g : Nat) (uv dv : Value) (r : Nat → Nat) (ser : Nat) (cur : Array Value) (t : TypeId) (hg : W.heap[g]? = some (.cells cur t (0, 0))) (ho : cur.size = 7) (hu : uv.oneCell' = true) (hd : dv.oneCell' = true) : (storeCells ⟨g, 0, none⟩ (rsA uv dv r ser).toList).run Tryz.prog W = .ok () (W.setRow g (rsA uv dv r ser)) := by
  have hl : (rsA uv dv r ser).toList.length = 7 := rfl
  rw [run_storeCells_at Tryz.prog g 0 t (rsA uv dv r ser).toList 0 cur W hg (by rw [hl, ho]; omega) (fun v hv => by
    simp [rsA] at hv
    rcases hv with rfl | rfl | rfl | rfl | rfl | rfl | rfl <;> first | exact hu | exact hd | rfl), hl]
  simp only [Nat.add_zero, List.take_zero, List.nil_append]
  rw [List.drop_eq_nil_of_le (by rw [Array.length_toList, ho]; omega), List.append_nil]
/-- What one round of state does behind the calls. -/
structure StIn (w W : World) (B i : Nat) (ua : Option Addr) (uc : Nat) (da : Option Addr) (dc : Nat) (r : Nat → Nat) (sr : Nat) (us : List Bool) (ds : List ByteArray) : Prop where
  c : W.heap[B + 1]? = some (.cells (rsA (.slice ua i uc) (.slice da i dc) r sr) 42 (0, 0))
  z : W.heap[B]? = some (.cells #[.slice none 0 0, .slice none 0 0, .int .i64 0, .int .i64 0, .int .i64 0, .int .i64 0, .int .u64 0] 42 (0, 0))
  u : W.ownsRow (B + 2) 4 1 (.slice ua i uc) i (boolsV us)
  d : W.ownsRow (B + 2) 9 1 (.slice da i dc) i (strsV ds)
  ne : ∀ x, ob ua = some x → ob da ≠ some x
  b : Below B w W
theorem StIn.on {w W W' : World} {B i : Nat} {ua : Option Addr} {uc : Nat} {da : Option Addr} {dc : Nat} {r : Nat → Nat} {sr : Nat} {us : List Bool} {ds : List ByteArray} (h : StIn w W B i ua uc da dc r sr us ds) (hb : Below W.heap.size W W') : StIn w W' B i ua uc da dc r sr us ds :=
  ⟨(hb.block _ (lt_of_some h.c)).trans h.c, (hb.block _ (lt_of_some h.z)).trans h.z, own_keep h.u (fun k hk => hb.block k (h.u.lt k hk).2), own_keep h.d (fun k hk => hb.block k (h.d.lt k hk).2), h.ne, h.b.trans (hb.mono (by have := lt_of_some h.z; omega))⟩
theorem StIn.step {w V2 : World} {B i : Nat} {ua : Option Addr} {uc : Nat} {da : Option Addr} {dc : Nat} {r : Nat → Nat} {sr : Nat} {us : List Bool} {ds : List ByteArray} (h : StIn w V2 B i ua uc da dc r sr us ds) (hi : i ≤ 1000) (b : Bool) (t : ByteArray) :
    ∃ (V3 V4 V5 V6 V7 : World) (a1 : Option Addr) (c1 : Nat) (a2 : Option Addr) (c2 : Nat), V2.alloc (.cells #[.bool b] 4) = V3 ∧ (∀ ty, (Builtin.append_ #[37, 37] ty #[.slice ua i uc, .slice (some ⟨V2.heap.size, 0, none⟩) 1 1]).run Tryz.prog V3 = .ok (.slice a1 (i + 1) c1) V4) ∧ V3.cell? ⟨B + 1, 0, none⟩ = some (.slice ua i uc) ∧ V4.cell? ⟨B + 1, 0, none⟩ = some (.slice ua i uc) ∧ V4.frozen? ⟨B + 1, 0, none⟩ = false ∧ V4.setCell ⟨B + 1, 0, none⟩ (.slice a1 (i + 1) c1) = V5 ∧ V5.cell? ⟨B + 1, 1, none⟩ = some (.slice da i dc) ∧ V5.alloc (.cells #[.string t] 9) = V6 ∧ (∀ ty, (Builtin.append_ #[38, 38] ty #[.slice da i dc, .slice (some ⟨V5.heap.size, 0, none⟩) 1 1]).run Tryz.prog V6 = .ok (.slice a2 (i + 1) c2) V7) ∧ V7.cell? ⟨B + 1, 1, none⟩ = some (.slice da i dc) ∧ V7.frozen? ⟨B + 1, 1, none⟩ = false ∧ StIn w (V7.setCell ⟨B + 1, 1, none⟩ (.slice a2 (i + 1) c2)) B (i + 1) a1 c1 a2 c2 r sr (us ++ [b]) (ds ++ [t]) := by
  have hBl : B + 1 < V2.heap.size := lt_of_some h.c
  obtain ⟨V3, hV3⟩ : ∃ V3, V2.alloc (.cells #[.bool b] 4) = V3 := ⟨_, rfl⟩
  have hs3 : V3.heap.size = V2.heap.size + 1 := by rw [← hV3]; simp
  have h3 : StIn w V3 B i ua uc da dc r sr us ds := h.on (by rw [← hV3]; exact (Below.refl _ V2).alloc (Nat.le_refl _) _)
  obtain ⟨a1, c1, V4, k1, k2, k3, k4⟩ := addB_own V3 (x := b) (b := V2.heap.size) h3.u (by rw [← hV3]; exact heap_alloc_new V2 _) (by omega) (by omega)
  have hu3 : ∀ x, ob ua = some x → B + 2 ≤ x ∧ x < V3.heap.size := fun x hx => h3.u.lt x (by rw [ob_slice]; exact hx)
  have hd3 : ∀ x, ob da = some x → B + 2 ≤ x ∧ x < V3.heap.size := fun x hx => h3.d.lt x (by rw [ob_slice]; exact hx)
  have c4 : V4.heap[B + 1]? = some (.cells (rsA (.slice ua i uc) (.slice da i dc) r sr) 42 (0, 0)) := (k3.block _ (lt_of_some h3.c) (fun e => by have := (hu3 _ e.symm).1; omega)).trans h3.c
  have z4 := (k3.block _ (lt_of_some h3.z) (fun e => by have := (hu3 _ e.symm).1; omega)).trans h3.z
  have d4 : V4.ownsRow (B + 2) 9 1 (.slice da i dc) i (strsV ds) := own_keep h3.d (fun k hk => k3.block k (h3.d.lt k hk).2 (fun e => h3.ne k e.symm (by rw [ob_slice] at hk; exact hk)))
  have b4 : Below B w V4 := h3.b.grown k3 (by omega) (fun k hk => by have := (hu3 k hk).1; omega)
  have hs4 : V3.heap.size ≤ V4.heap.size := k3.size
  obtain ⟨V5, hV5⟩ : ∃ V5, V4.setCell ⟨B + 1, 0, none⟩ (.slice a1 (i + 1) c1) = V5 := ⟨_, rfl⟩
  have hs5 : V5.heap.size = V4.heap.size := by rw [← hV5, World.size_setCell]
  have o5 : ∀ x, x ≠ B + 1 → V5.heap[x]? = V4.heap[x]? := fun x hx => by rw [← hV5]; exact heap_setCell_other _ _ _ _ hx
  have c5 : V5.heap[B + 1]? = some (.cells (rsA (.slice a1 (i + 1) c1) (.slice da i dc) r sr) 42 (0, 0)) := by rw [← hV5, heap_setCell_same V4 (B + 1) 0 _ _ _ c4]; rfl
  have hu4 : ∀ x, ob a1 = some x → B + 2 ≤ x ∧ x < V4.heap.size := fun x hx => k2.lt x (by rw [ob_slice]; exact hx)
  have u5 : V5.ownsRow (B + 2) 4 1 (.slice a1 (i + 1) c1) (i + 1) (boolsV (us ++ [b])) := own_keep k2 (fun k hk => o5 k (by have := (k2.lt k hk).1; omega))
  have d5 : V5.ownsRow (B + 2) 9 1 (.slice da i dc) i (strsV ds) := own_keep d4 (fun k hk => o5 k (by have := (d4.lt k hk).1; omega))
  obtain ⟨V6, hV6⟩ : ∃ V6, V5.alloc (.cells #[.string t] 9) = V6 := ⟨_, rfl⟩
  have hs6 : V6.heap.size = V5.heap.size + 1 := by rw [← hV6]; simp
  have o6 : ∀ x, x < V5.heap.size → V6.heap[x]? = V5.heap[x]? := fun x hx => by rw [← hV6]; exact Below.heap_alloc _ _ _ hx
  have u6 : V6.ownsRow (B + 2) 4 1 (.slice a1 (i + 1) c1) (i + 1) (boolsV (us ++ [b])) := by rw [← hV6]; exact u5.alloc _
  have d6 : V6.ownsRow (B + 2) 9 1 (.slice da i dc) i (strsV ds) := by rw [← hV6]; exact d5.alloc _
  have b6 : Below B w V6 := by
    rw [← hV6, ← hV5]
    exact (b4.setCell (by show B ≤ B + 1; omega) _).alloc (by rw [World.size_setCell]; omega) _
  obtain ⟨a2, c2, V7, m1, m2, m3, m4⟩ := addT_own2 V6 (x := t) (b := V5.heap.size) d6 (by rw [← hV6]; exact heap_alloc_new V5 _) (by omega) (by omega)
  have hd6 : ∀ x, ob da = some x → B + 2 ≤ x ∧ x < V5.heap.size := fun x hx => d5.lt x (by rw [ob_slice]; exact hx)
  have c7 : V7.heap[B + 1]? = some (.cells (rsA (.slice a1 (i + 1) c1) (.slice da i dc) r sr) 42 (0, 0)) := (m3.block _ (by omega) (fun e => by have := (hd6 _ e.symm).1; omega)).trans ((o6 _ (by omega)).trans c5)
  have z7 : V7.heap[B]? = some (.cells #[.slice none 0 0, .slice none 0 0, .int .i64 0, .int .i64 0, .int .i64 0, .int .i64 0, .int .u64 0] 42 (0, 0)) := (m3.block _ (by omega) (fun e => by have := (hd6 _ e.symm).1; omega)).trans ((o6 _ (by omega)).trans ((o5 _ (by omega)).trans z4))
  have hne1 : ∀ x, ob a1 = some x → ob da ≠ some x := fun x hx hy => by
    rcases k4 with e | e
    · exact h3.ne x (by rw [← e]; exact hx) hy
    · rw [e] at hx
      cases hx
      have := (hd3 _ hy).2
      omega
  have u7 : V7.ownsRow (B + 2) 4 1 (.slice a1 (i + 1) c1) (i + 1) (boolsV (us ++ [b])) := own_keep u6 (fun k hk => m3.block k (u6.lt k hk).2 (fun e => hne1 k (by rw [ob_slice] at hk; exact hk) e.symm))
  have b7 : Below B w V7 := b6.grown m3 (by omega) (fun k hk => by have := (hd6 k hk).1; omega)
  have o8 : ∀ x, x ≠ B + 1 → (V7.setCell ⟨B + 1, 1, none⟩ (.slice a2 (i + 1) c2)).heap[x]? = V7.heap[x]? := fun x hx => heap_setCell_other _ _ _ _ hx
  refine ⟨V3, V4, V5, V6, V7, a1, c1, a2, c2, hV3, k1, by rw [cell_of_row V3 _ _ _ _ _ h3.c]; rfl, by rw [cell_of_row V4 _ _ _ _ _ c4]; rfl, frozen_of_row V4 _ _ _ _ c4, hV5, by rw [cell_of_row V5 _ _ _ _ _ c5]; rfl, hV6, m1, by rw [cell_of_row V7 _ _ _ _ _ c7]; rfl, frozen_of_row V7 _ _ _ _ c7, ?_⟩
  refine ⟨by rw [heap_setCell_same V7 (B + 1) 1 _ _ _ c7]; rfl, (o8 _ (by omega)).trans z7, own_keep u7 (fun k hk => o8 k (by have := (u7.lt k hk).1; omega)), own_keep m2 (fun k hk => o8 k (by have := (m2.lt k hk).1; omega)), fun x hx hy => ?_, b7.setCell (by show B ≤ B + 1; omega) _⟩
  rcases m4 with e | e
  · exact hne1 x hx (by rw [← e]; exact hy)
  · rw [e] at hy
    cases hy
    have := (hu4 _ hx).2
    omega
section
variable {h0 : Nat} {F : Nat → Prop} {w : World} {S : Nat → Prop} {g : Nat} {D : Dk} {pb jb n : Nat} {X : Px}
theorem usedL_succ (k : Nat) : X.usedL (k + 1) = X.usedL k ++ [X.now.h.has k] := by simp [Px.usedL, List.range_succ]
theorem dataL_succ (k : Nat) : X.dataL n D (k + 1) = X.dataL n D k ++ [X.read n D (k : Int)] := by simp [Px.dataL, List.range_succ]
set_option maxRecDepth 100000 in
set_option maxHeartbeats 8000000 in
theorem pstate_any (h : Pgr h0 F w S g D pb jb n X) (hD : Asks n D) : Calls Tryz.prog 13 #[.pointer (some ⟨pb, 0, none⟩)] w fun e w' => ∃ ua uc da dc, e = .returned (.agg (rsA (.slice ua n uc) (.slice da n dc) X.now.h.root X.now.h.ser)) ∧ w'.ownsRow w.heap.size 4 1 (.slice ua n uc) n (boolsV (X.usedL n)) ∧ w'.ownsRow w.heap.size 9 1 (.slice da n dc) n (strsV (X.dataL n D n)) ∧ Below w.heap.size w w' := by
  obtain ⟨hok, hn2, hn12⟩ := h.ok
  obtain ⟨B, hB⟩ : ∃ B, w.heap.size = B := ⟨_, rfl⟩
  obtain ⟨W1, hW1⟩ : ∃ W1, w.alloc (.cells #[.slice none 0 0, .slice none 0 0, .int .i64 0, .int .i64 0, .int .i64 0, .int .i64 0, .int .u64 0] 42) = W1 := ⟨_, rfl⟩
  have hb1 : Below B w W1 := by rw [← hW1, ← hB]; exact (Below.refl _ w).alloc (Nat.le_refl _) _
  have hs1 : W1.heap.size = B + 1 := by rw [← hW1, ← hB]; simp
  have HPW : Hid (∀ W, Below B w W → Pgr h0 (mor F w W) W S g D pb jb n X) := fun W hW => h.below (by rw [hB]; exact hW)
  have HSE := pserial_any (HPW.out W1 hb1)
  have H1 : Hid (Below B w W1 ∧ W1.heap.size = B + 1 ∧ W1.heap[B]? = some (.cells #[.slice none 0 0, .slice none 0 0, .int .i64 0, .int .i64 0, .int .i64 0, .int .i64 0, .int .u64 0] 42 (0, 0))) := ⟨hb1, hs1, by rw [← hW1, ← hB]; exact heap_alloc_new w _⟩
  obtain ⟨sr, hsr⟩ : ∃ sr, X.now.h.ser = sr := ⟨_, rfl⟩
  rw [hsr] at HSE ⊢
  clear h hok hb1 hsr
  go_enter Tryz.func13, Tryz.ntmps13
  go_wp2_with fail
  refine HSE.mono ?_
  rintro e V ⟨rfl, hV⟩
  subst V
  clear HSE
  go_wp2
  go_loopw [4] (fun v wr => ∃ k : Nat, k ≤ 4 ∧ v = .int .i64 (k : Int) ∧ wr.heap[B + 1]? = some (.cells (rsA (.slice none 0 0) (.slice none 0 0) (rtK X.now.h k) sr) 42 (0, 0)) ∧ wr.heap[B]? = some (.cells #[.slice none 0 0, .slice none 0 0, .int .i64 0, .int .i64 0, .int .i64 0, .int .i64 0, .int .u64 0] 42 (0, 0)) ∧ Below B w wr) (fun v _ => 4 - (intOf v).toNat)
  case atStart =>
    refine ⟨0, by omega, rfl, ?_, ?_, H1.out.1.alloc (by rw [H1.out.2.1]; omega) _⟩
    · rw [← H1.out.2.1]; exact heap_alloc_new W1 _
    · rw [Below.heap_alloc _ _ _ (by rw [H1.out.2.1]; omega)]; exact H1.out.2.2
  case round =>
    clear H1 hW1 hs1
    obtain ⟨k, hk, rfl, hc, hz, hbw⟩ := hrel
    by_cases hlt : k < 4
    · have kk : (k : Int) < 4 := by omega
      have HRT := proot_any (HPW.out wr hbw) (k : Int)
      have er : X.rootI (k : Int) = X.now.h.root k := by unfold Px.rootI; rw [if_pos (by omega), show ((k : Int)).toNat = k by omega]
      rw [er] at HRT
      have HHS := rsA_root (.slice none 0 0) (.slice none 0 0) X.now.h sr k hlt
      obtain ⟨rk, hrk⟩ : ∃ rk, X.now.h.root k = rk := ⟨_, rfl⟩
      rw [hrk] at HRT HHS
      have ck : ∃ z : Value, wr.cell? ⟨B + 1, 2 + k, none⟩ = some z := by
        rw [cell_of_row wr (B + 1) _ _ _ _ hc, Array.getElem?_eq_getElem (by simp [rsA]; omega)]
        exact ⟨_, rfl⟩
      obtain ⟨z, ck⟩ := ck
      have fk := frozen_of_row wr (B + 1) (2 + k) _ _ hc
      have HN : Hid ((wr.setCell ⟨B + 1, 2 + k, none⟩ (.int .i64 (rk : Int))).heap[B + 1]? = some (.cells (rsA (.slice none 0 0) (.slice none 0 0) (rtK X.now.h (k + 1)) sr) 42 (0, 0)) ∧ (wr.setCell ⟨B + 1, 2 + k, none⟩ (.int .i64 (rk : Int))).heap[B]? = some (.cells #[.slice none 0 0, .slice none 0 0, .int .i64 0, .int .i64 0, .int .i64 0, .int .i64 0, .int .u64 0] 42 (0, 0)) ∧ Below B w (wr.setCell ⟨B + 1, 2 + k, none⟩ (.int .i64 (rk : Int)))) := by
        refine ⟨?_, ?_, hbw.setCell (by show B ≤ B + 1; omega) _⟩
        · rw [heap_setCell_same wr (B + 1) (2 + k) _ _ _ hc, HHS]
        · rw [heap_setCell_other _ _ _ _ (by show B ≠ B + 1; omega)]; exact hz
      clear hc hz hbw HHS hrk er
      go_wp2_with fail
      refine HRT.mono ?_
      rintro e V2 ⟨rfl, hV2⟩
      subst V2
      clear HRT
      go_wp2
      exact ⟨⟨k + 1, by omega, by go_num, HN.out⟩, by simp [intOf]; omega⟩
    · obtain rfl : k = 4 := by omega
      have kk : ¬ (4 : Int) < 4 := by omega
      rw [rsA_full] at hc
      have HI : Hid (StIn w wr B 0 none 0 none 0 X.now.h.root sr (X.usedL 0) (X.dataL n D 0)) := ⟨hc, hz, World.ownsRow_nil _ _ _ _, World.ownsRow_nil _ _ _ _, fun x hx => (by cases hx), hbw⟩
      clear hc hz hbw
      go_wp2
      go_loopw [5, 6, 7] (fun v _ _ wr => ∃ (i : Nat) (ua : Option Addr) (uc : Nat) (da : Option Addr) (dc : Nat), i ≤ n ∧ v = .int .i64 (i : Int) ∧ StIn w wr B i ua uc da dc X.now.h.root sr (X.usedL i) (X.dataL n D i)) (fun v _ _ _ => n - (intOf v).toNat)
      case atStart => exact ⟨0, none, 0, none, 0, Nat.zero_le _, rfl, HI.out⟩
      case round =>
        clear HI
        obtain ⟨i, ua, uc, da, dc, hi, rfl, hst⟩ := hrel
        have HPG := ppages_any (HPW.out wr hst.b)
        by_cases hlt : i < n
        · have kk : (i : Int) < (n : Int) := by omega
          have HRD := pread_any (HPW.out wr hst.b) hD.len hD.up hD.sz (i : Int)
          obtain ⟨t, ht⟩ : ∃ t, X.read n D (i : Int) = t := ⟨_, rfl⟩
          obtain ⟨wc, hwc⟩ : ∃ wc, X.why n (i : Int) = wc := ⟨_, rfl⟩
          rw [ht, hwc] at HRD
          obtain ⟨bb, hbb⟩ : ∃ bb, X.now.h.has i = bb := ⟨_, rfl⟩
          have HL : Hid (X.usedL (i + 1) = X.usedL i ++ [bb] ∧ X.dataL n D (i + 1) = X.dataL n D i ++ [t]) := ⟨by rw [← hbb]; exact usedL_succ i, by rw [← ht]; exact dataL_succ i⟩
          have HUI : Hid (Hd.usedI X.now.h (i : Int) = bb) := by show _ = _; rw [← hbb]; unfold Hd.usedI; rw [decide_eq_true (by omega), Bool.true_and, show ((i : Int)).toNat = i by omega]
          have HST : Hid (StIn w wr B i ua uc da dc X.now.h.root sr (X.usedL i) (X.dataL n D i)) := hst
          clear hst ht hbb hwc
          go_wp2_with (go_at_call 33; refine HPG.mono ?_; rintro e V9 ⟨rfl, hV9⟩; subst V9)
          refine HRD.mono ?_
          rintro e V1 ⟨rfl, hV1⟩
          have hst1 := (HST.out.on hV1).on (Below.refl _ V1).drew
          have HUS := pused_any (HPW.out V1.drew hst1.b) (i : Int)
          rw [HUI.out] at HUS
          have d1 : V1.drew.cell? ⟨B + 1, 0, none⟩ = some (.slice ua i uc) := by rw [cell_of_row V1.drew (B + 1) _ _ _ _ hst1.c]; rfl
          have HS1 : Hid (StIn w V1.drew B i ua uc da dc X.now.h.root sr (X.usedL i) (X.dataL n D i)) := hst1
          clear HRD hV1 HST hst1 HPG
          go_wp2
          refine wp_region_held_drew (S := fun _ => True) (by kernel_rfl) (trivial) (fun hHeld => ?_)
          refine wpAnyH_take (i := 0) (v := ?v0) rfl (by kernel_rfl) (by kernel_rfl) (by kernel_rfl) (fun _ _ _ h => h) (Or.inl ⟨by first | kernel_rfl | rfl, ?y0⟩) hHeld ?r0
          case y0 => (intro W hSW; (try dsimp only at hSW); go_simp; (try with_reducible rfl))
          change wpAnyH _ _ _ _ _ _ _ (Act.put _ (some 33) _) _
          simp only [Act.put, List.setIfInBounds_toArray, List.set_cons_zero, List.set_cons_succ]
          refine wpAnyH_take (i := 2) (v := ?v2) rfl (by kernel_rfl) (by kernel_rfl) (by kernel_rfl) (fun _ _ _ h => h) (Or.inl ⟨by first | kernel_rfl | rfl, ?y2⟩) hHeld ?r2
          case y2 => (intro W hSW; (try dsimp only at hSW); go_simp; (try with_reducible rfl))
          change wpAnyH _ _ _ _ _ _ _ (Act.put _ (some 35) _) _
          simp only [Act.put, List.setIfInBounds_toArray, List.set_cons_zero, List.set_cons_succ]
          refine wpAnyH_take (i := 3) (v := ?v3) rfl (by kernel_rfl) (by kernel_rfl) (by kernel_rfl) (fun _ _ _ h => h) (Or.inl ⟨by first | kernel_rfl | rfl, ?y3⟩) hHeld ?r3
          case y3 => (intro W hSW; (try dsimp only at hSW); go_simp; (try with_reducible rfl))
          change wpAnyH _ _ _ _ _ _ _ (Act.put _ (some 36) _) _
          simp only [Act.put, List.setIfInBounds_toArray, List.set_cons_zero, List.set_cons_succ]
          refine wpAnyH_ready (rs := [1, 4]) (by kernel_rfl) (by simp) ?_
          refine AllReadyH.cons rfl (fun K hK => ?_) (AllReadyH.cons rfl (fun K hK => ?_) AllReadyH.nil)
          · go_simp
            refine hK.out _ _ (trivial) (fun hHeld => ?_)
            clear hK K
            try simp only [Act.put, List.setIfInBounds_toArray, List.set_cons_zero, List.set_cons_succ]
            refine wpAnyH_ready (rs := [4]) (by kernel_rfl) (by simp) ?_
            refine AllReadyH.cons rfl (fun K hK => ?_) AllReadyH.nil
            go_simp
            refine (HUS).mono ?_
            rintro e V2 ⟨rfl, hV2⟩
            refine hK.out _ _ (trivial) (fun hHeld => ?_)
            clear hK K
            try simp only [Act.put, List.setIfInBounds_toArray, List.set_cons_zero, List.set_cons_succ]
            have hst2 := HS1.out.on hV2
            have d2 : V2.cell? ⟨B + 1, 0, none⟩ = some (.slice ua i uc) := by rw [cell_of_row V2 (B + 1) _ _ _ _ hst2.c]; rfl
            obtain ⟨V3, V4, V5, V6, V7, a1, c1, a2, c2, hV3, k1, e1, e2, e3, hV5, e4, hV6, k2, e5, e6, hfin⟩ := hst2.step (by omega) bb t
            have HFIN : Hid (StIn w (V7.setCell ⟨B + 1, 1, none⟩ (.slice a2 (i + 1) c2)) B (i + 1) a1 c1 a2 c2 X.now.h.root sr (X.usedL (i + 1)) (X.dataL n D (i + 1))) := by show StIn _ _ _ _ _ _ _ _ _ _ _ _; rw [HL.out.1, HL.out.2]; exact hfin
            clear hfin hst2 hV2 HS1
            refine wpAnyH_ready (rs := [5]) (by kernel_rfl) (by simp) ?_
            refine AllReadyH.cons rfl (fun K hK => ?_) AllReadyH.nil
            go_simp
            refine hK.out _ _ (trivial) (fun hHeld => ?_)
            clear hK K
            try simp only [Act.put, List.setIfInBounds_toArray, List.set_cons_zero, List.set_cons_succ]
            refine wpAnyH_ready (rs := [6]) (by kernel_rfl) (by simp) ?_
            refine AllReadyH.cons rfl (fun K hK => ?_) AllReadyH.nil
            rw [if_pos (by rfl)]
            refine wp_app V3 _ _ _ _ rfl rfl rfl (k1 _) ?_
            skip
            refine hK.out _ _ (trivial) (fun hHeld => ?_)
            clear hK K
            change wpAnyH _ _ _ _ _ _ _ (Act.put _ (some 39) _) _
            simp only [Act.put, List.setIfInBounds_toArray, List.set_cons_zero, List.set_cons_succ]
            refine wpAnyH_take (i := 7) (v := ?va_7) rfl (by kernel_rfl) (by kernel_rfl) (by kernel_rfl) (fun _ _ _ h => h) (Or.inl ⟨by first | kernel_rfl | rfl, ?ya_7⟩) hHeld ?ra_7
            case ya_7 => (intro W hSW; (try dsimp only at hSW); go_simp; (try with_reducible rfl))
            change wpAnyH _ _ _ _ _ _ _ (Act.put _ (some 40) _) _
            simp only [Act.put, List.setIfInBounds_toArray, List.set_cons_zero, List.set_cons_succ]
            refine wpAnyH_ready (rs := [8]) (by kernel_rfl) (by simp) ?_
            refine AllReadyH.cons rfl (fun K hK => ?_) AllReadyH.nil
            go_simp
            refine hK.out _ _ (trivial) (fun hHeld => ?_)
            clear hK K
            refine wpAnyH_done (by kernel_rfl) ?_ _
            go_wp2_with ((at_builtin; refine wpList_app V6 rfl _ _ _ _ rfl rfl rfl (k2 _) ?_))
            exact ⟨⟨i + 1, a1, c1, a2, c2, by omega, by go_num, HFIN.out⟩, by simp [intOf]; omega⟩
          · go_simp
            refine (HUS).mono ?_
            rintro e V2 ⟨rfl, hV2⟩
            refine hK.out _ _ (trivial) (fun hHeld => ?_)
            clear hK K
            try simp only [Act.put, List.setIfInBounds_toArray, List.set_cons_zero, List.set_cons_succ]
            have hst2 := HS1.out.on hV2
            have d2 : V2.cell? ⟨B + 1, 0, none⟩ = some (.slice ua i uc) := by rw [cell_of_row V2 (B + 1) _ _ _ _ hst2.c]; rfl
            obtain ⟨V3, V4, V5, V6, V7, a1, c1, a2, c2, hV3, k1, e1, e2, e3, hV5, e4, hV6, k2, e5, e6, hfin⟩ := hst2.step (by omega) bb t
            have HFIN : Hid (StIn w (V7.setCell ⟨B + 1, 1, none⟩ (.slice a2 (i + 1) c2)) B (i + 1) a1 c1 a2 c2 X.now.h.root sr (X.usedL (i + 1)) (X.dataL n D (i + 1))) := by show StIn _ _ _ _ _ _ _ _ _ _ _ _; rw [HL.out.1, HL.out.2]; exact hfin
            clear hfin hst2 hV2 HS1
            refine wpAnyH_ready (rs := [1, 5]) (by kernel_rfl) (by simp) ?_
            refine AllReadyH.cons rfl (fun K hK => ?_) (AllReadyH.cons rfl (fun K hK => ?_) AllReadyH.nil)
            · go_simp
              refine hK.out _ _ (trivial) (fun hHeld => ?_)
              clear hK K
              try simp only [Act.put, List.setIfInBounds_toArray, List.set_cons_zero, List.set_cons_succ]
              refine wpAnyH_ready (rs := [5]) (by kernel_rfl) (by simp) ?_
              refine AllReadyH.cons rfl (fun K hK => ?_) AllReadyH.nil
              go_simp
              refine hK.out _ _ (trivial) (fun hHeld => ?_)
              clear hK K
              try simp only [Act.put, List.setIfInBounds_toArray, List.set_cons_zero, List.set_cons_succ]
              refine wpAnyH_ready (rs := [6]) (by kernel_rfl) (by simp) ?_
              refine AllReadyH.cons rfl (fun K hK => ?_) AllReadyH.nil
              rw [if_pos (by rfl)]
              refine wp_app V3 _ _ _ _ rfl rfl rfl (k1 _) ?_
              skip
              refine hK.out _ _ (trivial) (fun hHeld => ?_)
              clear hK K
              change wpAnyH _ _ _ _ _ _ _ (Act.put _ (some 39) _) _
              simp only [Act.put, List.setIfInBounds_toArray, List.set_cons_zero, List.set_cons_succ]
              refine wpAnyH_take (i := 7) (v := ?vc_7) rfl (by kernel_rfl) (by kernel_rfl) (by kernel_rfl) (fun _ _ _ h => h) (Or.inl ⟨by first | kernel_rfl | rfl, ?yc_7⟩) hHeld ?rc_7
              case yc_7 => (intro W hSW; (try dsimp only at hSW); go_simp; (try with_reducible rfl))
              change wpAnyH _ _ _ _ _ _ _ (Act.put _ (some 40) _) _
              simp only [Act.put, List.setIfInBounds_toArray, List.set_cons_zero, List.set_cons_succ]
              refine wpAnyH_ready (rs := [8]) (by kernel_rfl) (by simp) ?_
              refine AllReadyH.cons rfl (fun K hK => ?_) AllReadyH.nil
              go_simp
              refine hK.out _ _ (trivial) (fun hHeld => ?_)
              clear hK K
              refine wpAnyH_done (by kernel_rfl) ?_ _
              go_wp2_with ((at_builtin; refine wpList_app V6 rfl _ _ _ _ rfl rfl rfl (k2 _) ?_))
              exact ⟨⟨i + 1, a1, c1, a2, c2, by omega, by go_num, HFIN.out⟩, by simp [intOf]; omega⟩
            · go_simp
              refine hK.out _ _ (trivial) (fun hHeld => ?_)
              clear hK K
              try simp only [Act.put, List.setIfInBounds_toArray, List.set_cons_zero, List.set_cons_succ]
              refine wpAnyH_ready (rs := [1]) (by kernel_rfl) (by simp) ?_
              refine AllReadyH.cons rfl (fun K hK => ?_) AllReadyH.nil
              go_simp
              refine hK.out _ _ (trivial) (fun hHeld => ?_)
              clear hK K
              try simp only [Act.put, List.setIfInBounds_toArray, List.set_cons_zero, List.set_cons_succ]
              refine wpAnyH_ready (rs := [6]) (by kernel_rfl) (by simp) ?_
              refine AllReadyH.cons rfl (fun K hK => ?_) AllReadyH.nil
              rw [if_pos (by rfl)]
              refine wp_app V3 _ _ _ _ rfl rfl rfl (k1 _) ?_
              skip
              refine hK.out _ _ (trivial) (fun hHeld => ?_)
              clear hK K
              change wpAnyH _ _ _ _ _ _ _ (Act.put _ (some 39) _) _
              simp only [Act.put, List.setIfInBounds_toArray, List.set_cons_zero, List.set_cons_succ]
              refine wpAnyH_take (i := 7) (v := ?vd_7) rfl (by kernel_rfl) (by kernel_rfl) (by kernel_rfl) (fun _ _ _ h => h) (Or.inl ⟨by first | kernel_rfl | rfl, ?yd_7⟩) hHeld ?rd_7
              case yd_7 => (intro W hSW; (try dsimp only at hSW); go_simp; (try with_reducible rfl))
              change wpAnyH _ _ _ _ _ _ _ (Act.put _ (some 40) _) _
              simp only [Act.put, List.setIfInBounds_toArray, List.set_cons_zero, List.set_cons_succ]
              refine wpAnyH_ready (rs := [8]) (by kernel_rfl) (by simp) ?_
              refine AllReadyH.cons rfl (fun K hK => ?_) AllReadyH.nil
              go_simp
              refine hK.out _ _ (trivial) (fun hHeld => ?_)
              clear hK K
              refine wpAnyH_done (by kernel_rfl) ?_ _
              go_wp2_with ((at_builtin; refine wpList_app V6 rfl _ _ _ _ rfl rfl rfl (k2 _) ?_))
              exact ⟨⟨i + 1, a1, c1, a2, c2, by omega, by go_num, HFIN.out⟩, by simp [intOf]; omega⟩
        · obtain rfl : i = n := by omega
          have kk : ¬ (i : Int) < (i : Int) := by omega
          obtain ⟨q, hq⟩ : ∃ q, rsA (.slice ua i uc) (.slice da i dc) X.now.h.root sr = q := ⟨_, rfl⟩
          have hlr := load_rs wr (B + 1) _ _ _ hst.c
          have hsto := store_rs wr B (.slice ua i uc) (.slice da i dc) X.now.h.root sr _ _ hst.z rfl rfl rfl
          have hsz : (rsA (.slice ua i uc) (.slice da i dc) X.now.h.root sr).size = 7 := rfl
          have HE : Hid ((wr.setRow B (rsA (.slice ua i uc) (.slice da i dc) X.now.h.root sr)).heap[B]? = some (.cells (rsA (.slice ua i uc) (.slice da i dc) X.now.h.root sr) 42 (0, 0)) ∧ (wr.setRow B (rsA (.slice ua i uc) (.slice da i dc) X.now.h.root sr)).ownsRow B 4 1 (.slice ua i uc) i (boolsV (X.usedL i)) ∧ (wr.setRow B (rsA (.slice ua i uc) (.slice da i dc) X.now.h.root sr)).ownsRow B 9 1 (.slice da i dc) i (strsV (X.dataL i D i)) ∧ Below B w (wr.setRow B (rsA (.slice ua i uc) (.slice da i dc) X.now.h.root sr))) := ⟨setRow_heap wr B _ _ _ _ hst.z, own_base (own_keep hst.u (fun k hk => setRow_other _ _ _ _ (by have := (hst.u.lt k hk).1; omega))) (by omega), own_base (own_keep hst.d (fun k hk => setRow_other _ _ _ _ (by have := (hst.d.lt k hk).1; omega))) (by omega), setRow_below hst.b (Nat.le_refl _) _⟩
          have hin : (Tryz.prog.info? 42).map (·.size) = some (rsA (.slice ua i uc) (.slice da i dc) X.now.h.root sr).size := by kernel_rfl
          rw [hq] at hlr hsto hsz HE hin
          have HQ : Hid (rsA (.slice ua i uc) (.slice da i dc) X.now.h.root sr = q) := hq
          clear hst hq
          go_wp2_with (first | (go_at_call 33; refine HPG.mono ?_; rintro e V9 ⟨rfl, hV9⟩; subst V9) | (refine wpList_load_w (by kernel_rfl) _ _ rfl rfl hlr ?_))
          exact bodyPost_ret (v := .agg q) (results_cell_row rfl _ _ B _ _ _ _ rfl HE.out.1 Tryz.underlying42 rfl hin) rfl ⟨ua, uc, da, dc, by rw [HQ.out], by rw [hB]; exact HE.out.2.1, by rw [hB]; exact HE.out.2.2.1, by rw [hB]; exact HE.out.2.2.2⟩
end
end Go.Proofs.YtdgffocmdkadpaaGreat
