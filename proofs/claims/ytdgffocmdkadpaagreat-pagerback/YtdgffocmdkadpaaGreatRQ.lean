/- A step of the statements: what stands in memory while it goes on. -/
import Derived.Test.YtdgffocmdkadpaaGreatRP
namespace Go.Proofs.YtdgffocmdkadpaaGreat
open Go.RowKit Go.Shelf Pg
def opA (K id kx lg : Int) (fl : Nat) : Array Value := #[.int .i64 K, .int .i64 id, .int .i64 kx, .int .i64 lg, .int .u8 (fl : Int)]
/-- Amid a step: w the world that it began in, B the block of its Op. -/
structure Sq (h0 : Nat) (F : Nat → Prop) (w : World) (F1 : Nat → Prop) (W : World) (S : Nat → Prop) (g : Nat) (D : Dk) (pb jb n : Nat) (X : Px) (zb jz : Nat) (gs ns : Array Value) (pv ov : Value) (B : Nat) (op : Array Value) : Prop where
  s : Ps h0 F1 W S g D pb jb n X zb jz gs ns pv ov
  f : Fr (but zb F) w (but zb F1) W
  b : Below h0 w W
  o : W.heap[B]? = some (.cells op 57 (0, 0))
  m : but zb F1 B
section
variable {h0 : Nat} {F F1 : Nat → Prop} {w W W' : World} {S : Nat → Prop} {g : Nat} {D D' : Dk} {pb jb n : Nat} {X X' : Px} {zb jz : Nat} {gs ns gs' ns' : Array Value} {pv ov pv' ov' : Value} {B : Nat} {op : Array Value}
theorem Sq.start (h : Ps h0 F w S g D pb jb n X zb jz gs ns pv ov) (op : Array Value) : Sq h0 F w (mor F w (w.alloc (.cells op 57))) (w.alloc (.cells op 57)) S g D pb jb n X zb jz gs ns pv ov w.heap.size op := by
  have hb : Below w.heap.size w (w.alloc (.cells op 57)) := (Below.refl _ w).alloc (Nat.le_refl _) _
  refine ⟨h.below hb, (Fr.below hb).but zb, hb.mono h.h0w, heap_alloc_new w _, .inr ⟨Nat.le_refl _, by simp⟩, ?_⟩
  have := h.z.lt
  omega
theorem Sq.below (q : Sq h0 F w F1 W S g D pb jb n X zb jz gs ns pv ov B op) (hb : Below W.heap.size W W') : Sq h0 F w (mor F1 W W') W' S g D pb jb n X zb jz gs ns pv ov B op :=
  ⟨q.s.below hb, q.f.trans ((Fr.below hb).but zb), q.b.trans (hb.mono q.s.h0w), (hb.block B (lt_of_some q.o)).trans q.o, .inl q.m.1, q.m.2⟩
theorem Sq.drew (q : Sq h0 F w F1 W S g D pb jb n X zb jz gs ns pv ov B op) : Sq h0 F w F1 W.drew S g D pb jb n X zb jz gs ns pv ov B op :=
  ⟨q.s.drew, q.f.trans (Fr.drew _ W), q.b.drew, q.o, q.m⟩
theorem Sq.with (q : Sq h0 F w F1 W S g D pb jb n X zb jz gs ns pv ov B op) (h : Ps h0 F1 W' S g D pb jb n X zb jz gs' ns' pv' ov' ∧ Fr (but zb F1) W (but zb F1) W' ∧ Below h0 W W') : Sq h0 F w F1 W' S g D pb jb n X zb jz gs' ns' pv' ov' B op :=
  ⟨h.1, q.f.trans h.2.1, q.b.trans h.2.2, (h.2.1.blk B q.m (lt_of_some q.o)).trans q.o, q.m⟩
theorem Sq.pto (q : Sq h0 F w F1 W S g D pb jb n X zb jz gs ns pv ov B op) (t : PTo h0 F1 W g D' pb jb n X' W') : ∃ F' S', Sq h0 F w F' W' S' g D' pb jb n X' zb jz gs ns pv ov B op := by
  obtain ⟨F', S', hp, hf, hb⟩ := q.s.pto t
  exact ⟨F', S', hp, q.f.trans (hf.but zb), q.b.trans hb, (hf.blk B q.m.1 (lt_of_some q.o)).trans q.o, hf.sub B q.m.1, q.m.2⟩
theorem Sq.done (q : Sq h0 F w F1 W S g D pb jb n X zb jz gs ns pv ov B op) : SpTo h0 F w g D pb jb n X zb jz W := ⟨F1, ⟨S, gs, ns, pv, ov, q.s⟩, q.f, q.b⟩
theorem Sq.spto (q : Sq h0 F w F1 W S g D pb jb n X zb jz gs ns pv ov B op) (t : SpTo h0 F1 W g D' pb jb n X' zb jz W') : ∃ F' S' gs' ns' pv' ov', Sq h0 F w F' W' S' g D' pb jb n X' zb jz gs' ns' pv' ov' B op := by
  obtain ⟨F', ⟨S', gs', ns', pv', ov', hp⟩, hf, hb⟩ := t
  have hm := hf.sub B q.m
  exact ⟨F', S', gs', ns', pv', ov', hp, q.f.trans hf, q.b.trans hb, (hf.blk B q.m (lt_of_some q.o)).trans q.o, hm⟩
theorem Sq.at (q : Sq h0 F w F1 W S g D pb jb n X zb jz gs ns pv ov B op) (j : Nat) (v : Value) (h : op[j]? = some v) : W.cell? ⟨B, j, none⟩ = some v := by
  rw [cell_of_row _ B _ _ _ _ q.o]; exact h
theorem Sq.pp (q : Sq h0 F w F1 W S g D pb jb n X zb jz gs ns pv ov B op) : W.cell? ⟨zb, 1, none⟩ = some (.pointer (some ⟨pb, 0, none⟩)) := q.s.z.cells.2.1
theorem op_load {V : World} {K id kx lg : Int} {fl : Nat} (h : V.heap[B]? = some (.cells (opA K id kx lg fl) 57 (0, 0))) : (loadVar 57 ⟨B, 0, none⟩).run Tryz.prog V = .ok (.agg (opA K id kx lg fl)) V := load_part V B 0 57 _ _ _ _ [.int .i64 K, .int .i64 id, .int .i64 kx, .int .i64 lg, .int .u8 (fl : Int)] h Tryz.underlying57 rfl (by kernel_rfl) (fun j v hv => by rw [Nat.zero_add, opA, List.getElem?_toArray]; exact hv)
/-- A row of a state, made and filled, then laid into the pair. -/
theorem Sq.fill (q : Sq h0 F w F1 W S g D pb jb n X zb jz gs ns pv ov B op) {r : Array Value} (hz : r.size = 7) (hro : ∀ u ∈ r.toList, u.oneCell' = true) (hD : DSt (but zb F1) W n (.agg r)) :
    (storeCells ⟨W.heap.size, 0, none⟩ r.toList).run Tryz.prog (W.alloc (.cells z7 42)) = .ok () ((W.alloc (.cells z7 42)).setRow W.heap.size r) ∧ ((W.alloc (.cells z7 42)).setRow W.heap.size r).heap[W.heap.size]? = some (.cells r 42 (0, 0)) ∧
    (∃ F2, Sq h0 F w F2 ((W.alloc (.cells z7 42)).setRow W.heap.size r) S g D pb jb n X zb jz gs ns pv ov B op ∧ DSt (but zb F2) ((W.alloc (.cells z7 42)).setRow W.heap.size r) n (.agg r)) := by
  have hc : (W.alloc (.cells z7 42)).heap[W.heap.size]? = some (.cells z7 42 (0, 0)) := heap_alloc_new W _
  have hb : Below W.heap.size W ((W.alloc (.cells z7 42)).setRow W.heap.size r) := setRow_below ((Below.refl _ W).alloc (Nat.le_refl _) _) (Nat.le_refl _) _
  exact ⟨store_ds hz hro hc rfl, setRow_heap _ _ _ _ _ _ hc, _, q.below hb, hD.fr ((Fr.below hb).but zb)⟩
end
/-- What a step makes of the pager. -/
def StepTo (h0 : Nat) (F : Nat → Prop) (w : World) (g : Nat) (D : Dk) (pb jb n : Nat) (X : Px) (zb jz k : Nat) (kind : Int) (e : Ending) (w' : World) : Prop := ∃ (b : Bool) (D' : Dk) (X' : Px) (pb' : Nat), e = .returned (.bool b) ∧ SpTo h0 F w g D' pb' jb n X' zb jz w' ∧ Inv n (k + 1) D' X' ∧ (kind < 6 → D' = D ∧ X'.good = X.good ∧ X'.kept = X.kept) ∧ (kind < 4 → X'.saves = X.saves) ∧ (kind ≠ 8 → pb' = pb)
section
variable {h0 : Nat} {F : Nat → Prop} {w w' : World} {S : Nat → Prop} {g : Nat} {D : Dk} {pb jb n : Nat} {X X' : Px} {zb jz k : Nat} {gs ns : Array Value} {pv ov : Value}
structure Mild (X X' : Px) : Prop where
  g : X'.good = X.good
  k : X'.kept = X.kept
  s : X'.saves = X.saves
  n : X'.now.h.ser = X.now.h.ser
theorem Mild.refl (X : Px) : Mild X X := ⟨rfl, rfl, rfl, rfl⟩
theorem Inv.mild (h : Inv n k D X) (m : Mild X X') : Inv n (k + 1) D X' := ⟨h.g, by have := h.w; omega, by rw [m.g]; exact h.h, by rw [m.g]; have := h.s1; omega, by rw [m.n]; have := h.s2; omega, fun s hs => by rw [m.s] at hs; have := h.s3 s hs; omega⟩
theorem StepTo.mild {kind : Int} {b : Bool} (hi : Inv n k D X) (m : Mild X X') (t : SpTo h0 F w g D pb jb n X' zb jz w') : StepTo h0 F w g D pb jb n X zb jz k kind (.returned (.bool b)) w' := ⟨b, D, X', pb, rfl, t, hi.mild m, fun _ => ⟨rfl, m.g, m.k⟩, fun _ => m.s, fun _ => rfl⟩
theorem alc_mild (X : Px) (i : Nat) : Mild X (X.alc i) := ⟨rfl, rfl, rfl, rfl⟩
theorem wput_mild (X : Px) (n : Nat) (id : Int) (s : ByteArray) : Mild X (X.wput n id s) := by unfold Px.wput; split <;> exact ⟨rfl, rfl, rfl, rfl⟩
theorem gput_mild (X : Px) (n : Nat) (id : Int) : Mild X (X.gput n id) := by unfold Px.gput; split <;> exact ⟨rfl, rfl, rfl, rfl⟩
theorem pput_mild (X : Px) (n : Nat) (kx id : Int) : Mild X (X.pput n kx id) := by
  unfold Px.pput
  split
  · exact ⟨rfl, rfl, rfl, by show (X.now.h.point _ _).ser = _; exact Hd.point_ser _ _ _⟩
  · exact ⟨rfl, rfl, rfl, rfl⟩
end
end Go.Proofs.YtdgffocmdkadpaaGreat
