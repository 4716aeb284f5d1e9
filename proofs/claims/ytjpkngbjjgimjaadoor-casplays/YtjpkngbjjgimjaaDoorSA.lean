/- Entries and leaves in memory; slices that are cut, and added to. -/
import Derived.Test.YtjpkngbjjgimjaaDoorCA
import Derived.Test.YtjpkngbjjgimjaaDoorSN
import Derived.Deep.AppendSrc
namespace Go.Proofs.YtjpkngbjjgimjaaDoor
open Go.RowKit
/-- A slice that can be read: its cells lie in a block of G. -/
def Rw (G : Nat → Prop) (w : World) (et sz : Nat) (a : Option Addr) (len cap : Nat) (xs : List Value) : Prop :=
  xs.length = len * sz ∧ len ≤ cap ∧ cap ≤ maxLen ∧ (0 < len → ∃ b o, a = some ⟨b, o, none⟩ ∧ (∃ cur fr, w.heap[b]? = some (.cells cur et fr)) ∧ G b ∧ ∀ j u, xs[j]? = some u → w.cell? ⟨b, o + j, none⟩ = some u)
theorem Rw.keep {G : Nat → Prop} {w w' : World} {et sz : Nat} {a : Option Addr} {len cap : Nat} {xs : List Value} (h : Rw G w et sz a len cap xs) (_hs : w.heap.size ≤ w'.heap.size) (hk : ∀ b, G b → b < w.heap.size → w'.heap[b]? = w.heap[b]?) : Rw G w' et sz a len cap xs := by
  obtain ⟨h1, h2, h3, h4⟩ := h
  refine ⟨h1, h2, h3, fun h0 => ?_⟩
  obtain ⟨b, o, rfl, hb, hg, hc⟩ := h4 h0
  obtain ⟨cur, fr, hb⟩ := hb
  exact ⟨b, o, rfl, ⟨cur, fr, (hk b hg (lt_of_some hb)).trans hb⟩, hg, fun j u hu => by rw [World.cell?_of_block (w := w) (hk b hg (lt_of_some hb))]; exact hc j u hu⟩
theorem Rw.below {G : Nat → Prop} {w w' : World} {et sz : Nat} {a : Option Addr} {len cap : Nat} {xs : List Value} (h : Rw G w et sz a len cap xs) (hb : Below w.heap.size w w') : Rw G w' et sz a len cap xs := h.keep hb.size fun b _ hl => hb.block b hl
theorem Rw.mono {G G' : Nat → Prop} {w : World} {et sz : Nat} {a : Option Addr} {len cap : Nat} {xs : List Value} (h : Rw G w et sz a len cap xs) (hG : ∀ x, G x → x < w.heap.size → G' x) : Rw G' w et sz a len cap xs := by
  obtain ⟨h1, h2, h3, h4⟩ := h
  refine ⟨h1, h2, h3, fun h0 => ?_⟩
  obtain ⟨b, o, rfl, hb, hg, hc⟩ := h4 h0
  exact ⟨b, o, rfl, hb, hG b hg (by obtain ⟨_, _, hb⟩ := hb; exact lt_of_some hb), hc⟩
theorem Rw.own {G : Nat → Prop} {w : World} {base et sz : Nat} {a : Option Addr} {len cap : Nat} {xs : List Value} (h : w.ownsRow base et sz (.slice a len cap) len xs) (hG : ∀ x, base ≤ x → G x) : Rw G w et sz a len cap xs := by
  have hh := h
  rcases h.2 with ⟨h2, h3⟩ | ⟨g, c, cur, e, hb, hr, h3, h4, _⟩
  · cases h2
    exact ⟨by rw [hh.1], Nat.le_refl _, Nat.zero_le _, fun h0 => absurd h0 (by omega)⟩
  · cases e
    refine ⟨hh.1, h3, h4, fun _ => ⟨g, 0, rfl, ⟨_, _, hr⟩, hG g hb, fun j u hu => ?_⟩⟩
    rw [Nat.zero_add]
    exact own_at hh hu
theorem Rw.zero (G : Nat → Prop) (w : World) (et sz : Nat) (a : Option Addr) (c : Nat) (hc : c ≤ maxLen) : Rw G w et sz a 0 c [] := ⟨by simp, Nat.zero_le _, hc, fun h => absurd h (by omega)⟩
/-- A slice's address behind a cut. -/
def cutA (a : Option Addr) (m l sz : Nat) : Option Addr := if m = l then a else a.map (·.add (l * sz))
theorem Rw.take {G : Nat → Prop} {w : World} {et sz : Nat} {a : Option Addr} {len cap : Nat} {xs : List Value} (h : Rw G w et sz a len cap xs) (i : Nat) (hi : i ≤ len) : Rw G w et sz (cutA a i 0 sz) i i (xs.take (i * sz)) := by
  obtain ⟨h1, h2, h3, h4⟩ := h
  have hm : i * sz ≤ len * sz := Nat.mul_le_mul_right _ hi
  refine ⟨by rw [List.length_take, h1]; omega, Nat.le_refl _, by omega, fun h0 => ?_⟩
  obtain ⟨b, o, rfl, hb, hg, hc⟩ := h4 (by omega)
  refine ⟨b, o, ?_, hb, hg, fun j u hu => ?_⟩
  · unfold cutA
    rw [if_neg (by omega)]
    simp [add_at]
  · rw [List.getElem?_take] at hu
    split at hu
    · exact hc j u hu
    · cases hu
theorem Rw.drop {G : Nat → Prop} {w : World} {et sz : Nat} {a : Option Addr} {len cap : Nat} {xs : List Value} (h : Rw G w et sz a len cap xs) (i : Nat) (hi : i ≤ len) : Rw G w et sz (cutA a cap i sz) (len - i) (cap - i) (xs.drop (i * sz)) := by
  obtain ⟨h1, h2, h3, h4⟩ := h
  have hm : i * sz ≤ len * sz := Nat.mul_le_mul_right _ hi
  refine ⟨by rw [List.length_drop, h1, Nat.sub_mul], by omega, by omega, fun h0 => ?_⟩
  obtain ⟨b, o, rfl, hb, hg, hc⟩ := h4 (by omega)
  refine ⟨b, o + i * sz, ?_, hb, hg, fun j u hu => ?_⟩
  · unfold cutA
    rw [if_neg (by omega)]
    simp [add_at]
  · rw [List.getElem?_drop] at hu
    rw [Nat.add_assoc]
    exact hc _ u hu
/-- What is added lies anywhere. -/
theorem src_of {P : Program} {G : Nat → Prop} {w : World} {et sz : Nat} {a : Option Addr} {m c : Nat} {news : List Value} (h : Rw G w et sz a m c news) (h1 : ∀ u ∈ news, u.oneCell' = true) {tx e' : TypeId} (hk : P.underlying tx = some (.slice e')) : Src P sz tx (.slice a m c) m news w := by
  obtain ⟨e1, _, _, h4⟩ := h
  rcases Nat.eq_zero_or_pos m with rfl | hm
  · have hn : news = [] := List.eq_nil_of_length_eq_zero (by simpa using e1)
    subst hn
    refine ⟨.inl ⟨e', hk⟩, fun _ => rfl, ?_, ?_, by simp, fun _ h => by cases h⟩
    · cases a <;> simp [Builtin.firstCells, loadCells, loadCellsFrom]
    · cases a <;> simp [Builtin.firstCells, loadCells, loadCellsFrom]
  · obtain ⟨b, o, rfl, hb, hg, hc⟩ := h4 hm
    exact Src.ofSlice w hk ⟨b, o, none⟩ m c news e1 (fun j u hu => by rw [add_at]; exact hc j u hu) h1
/-- append onto a slice that has no room: a new row, unless nothing is added. -/
theorem app_full {P : Program} {G G2 : Nat → Prop} (w : World) (t e : TypeId) (i : TypeInfo) (z : Value) (sz bytes : Nat) (ht : P.underlying t = some (.slice e)) (hi : P.info? e = some i) (hz : i.zero = some z) (hsize : i.size = sz) (hby : i.bytes = bytes) (hzs : z.cells.size = sz)
    {a : Option Addr} {n : Nat} {xs : List Value} (h : Rw G w e sz a n n xs) {a2 : Option Addr} {m c2 : Nat} {news : List Value} (h2 : Rw G2 w e sz a2 m c2 news) (h1 : ∀ u ∈ news, u.oneCell' = true) (hN : n + m ≤ 1000000) (hB : bytes ≤ 1000) :
    ∃ a' c' w', (∀ ty, (Builtin.append_ #[t, t] ty #[.slice a n n, .slice a2 m c2]).run P w = .ok (.slice a' (n + m) c') w') ∧ Below w.heap.size w w' ∧ ((m = 0 ∧ a' = a ∧ c' = n ∧ w' = w) ∨ (0 < m ∧ w'.ownsRow w.heap.size e sz (.slice a' (n + m) c') (n + m) (xs ++ news))) := by
  subst hsize hby
  have hs := src_of h2 h1 ht
  rcases Nat.eq_zero_or_pos m with rfl | hm
  · have hn : news = [] := List.eq_nil_of_length_eq_zero (by simpa using h2.1)
    subst hn
    refine ⟨a, n, w, fun ty => ?_, Below.refl _ _, .inl ⟨rfl, rfl, rfl, rfl⟩⟩
    have hl := hs.len w
    have hc := hs.cells
    cases a <;> simp [Builtin.append_, run_underlying ht, sizeOf, typeInfo, hi, hl, hc, storeCells]
  · have h63 : n + m ≤ maxLen := by unfold maxLen; omega
    have hold : (Builtin.firstCells i.size n (.slice a n n)).run P w.drew = .ok xs.toArray w.drew := by
      obtain ⟨e1, _, _, h4⟩ := h
      rcases Nat.eq_zero_or_pos n with rfl | hn
      · have hx : xs = [] := List.eq_nil_of_length_eq_zero (by simpa using e1)
        subst hx
        cases a <;> simp [Builtin.firstCells, loadCells, loadCellsFrom]
      · obtain ⟨b, o, rfl, hb, hg, hc⟩ := h4 hn
        exact run_firstCells_some w.drew i.size n ⟨b, o, none⟩ n n xs e1 (fun j u hu => by rw [add_at]; exact hc j u hu)
    have hbb : (n + m) * i.bytes ≤ 140737488355328 := by
      have := Nat.mul_le_mul hN hB
      omega
    have hr := fun ty => run_append_grow_src (P := P) w t t ty e i z ht hi hz a n n xs hold (.slice a2 m c2) m news hs (by omega) (by omega) (growslice_fits (by omega) hbb)
    refine ⟨_, _, _, hr, ⟨rfl, rfl, rfl, by simp, fun k hk => Below.heap_alloc w.drew _ k hk⟩, .inr ⟨hm, ?_, .inr ⟨w.heap.size, _, _, rfl, Nat.le_refl _, heap_alloc_new w.drew _, grownCap_ge w (n + m) n e, grownCap_le_maxLen w (n + m) n e h63, ?_, ?_⟩⟩⟩
    · rw [List.length_append, h.1, h2.1, Nat.add_mul]
    · have hge := grownCap_ge w (n + m) n e
      simp only [Array.size_append, List.size_toArray, size_zeroCells, hzs, List.length_append, h.1, h2.1, ← Nat.add_mul]
      congr 1
      omega
    · have hlen : (xs ++ news).length = (n + m) * i.size := by rw [List.length_append, h.1, h2.1, Nat.add_mul]
      simp only [Array.toList_append]
      rw [← hlen]
      exact List.take_left
/-- append onto a row that is owned. -/
theorem app_own {P : Program} {G2 : Nat → Prop} (w : World) (t e : TypeId) (i : TypeInfo) (z : Value) (sz bytes : Nat) (ht : P.underlying t = some (.slice e)) (hi : P.info? e = some i) (hz : i.zero = some z) (hsize : i.size = sz) (hby : i.bytes = bytes) (hzs : z.cells.size = sz) (hsz : 0 < sz)
    {base : Nat} {a : Option Addr} {n c : Nat} {xs : List Value} (h : w.ownsRow base e sz (.slice a n c) n xs) {a2 : Option Addr} {m c2 : Nat} {news : List Value} (h2 : Rw G2 w e sz a2 m c2 news) (h1 : ∀ u ∈ news, u.oneCell' = true) (hN : n + m ≤ 1000000) (hB : bytes ≤ 1000) (hb : base ≤ w.heap.size) :
    ∃ a' c' w', (∀ ty, (Builtin.append_ #[t, t] ty #[.slice a n c, .slice a2 m c2]).run P w = .ok (.slice a' (n + m) c') w') ∧ w'.ownsRow base e sz (.slice a' (n + m) c') (n + m) (xs ++ news) ∧ w.grownBy w' (ob a) ∧ (ob a' = ob a ∨ ob a' = some w.heap.size) := by
  rcases Nat.eq_zero_or_pos m with rfl | hm
  · subst hsize hby
    have hn : news = [] := List.eq_nil_of_length_eq_zero (by simpa using h2.1)
    subst hn
    have hs := src_of h2 h1 ht
    have hl := hs.len w
    have hc := hs.cells
    refine ⟨a, c, w, fun ty => ?_, by simpa using h, ⟨rfl, rfl, rfl, Nat.le_refl _, fun _ _ _ => rfl⟩, .inl rfl⟩
    rcases h.2 with ⟨e1, rfl⟩ | ⟨g, cap, cur, e1, _, _, hnc, _⟩
    · cases e1
      simp [Builtin.append_, run_underlying ht, sizeOf, typeInfo, hi, hl, hc]
    · cases e1
      simp [Builtin.append_, run_underlying ht, sizeOf, typeInfo, hi, hl, hc, storeCells, hnc]
  · obtain ⟨b, o, rfl, hb2, hg, hc⟩ := h2.2.2.2 hm
    have hbb : (n + m) * bytes ≤ 140737488355328 := by
      have := Nat.mul_le_mul hN hB
      omega
    have := fun ty => run_append_lies (P := P) w t ty base e i z sz bytes ht hi hz hsize hby hzs hsz (.slice a n c) n xs h ⟨b, o, none⟩ m c2 news h2.1 (fun j u hu => by rw [add_at]; exact hc j u hu) h1 hm (by unfold maxLen; omega) hbb hb _ rfl
    obtain ⟨g, cap, w', hr, h3, h4, h5, h6⟩ := this 0
    refine ⟨_, cap, w', fun ty => ?_, h3, ?_, ?_⟩
    · rw [← hr]
      rfl
    · rw [ob_slice] at h4; exact h4
    · rw [ob_slice] at h5
      rcases h5 with h5 | h5
      · exact .inl h5.symm
      · exact .inr (by rw [h5]; rfl)
/-- The same at the operation. -/
theorem wp_app {P : Program} (w : World) {o : Oper} {a : Act} {K : Act → World → Prop} {Q : Exit → Act → World → Prop} (s x : Operand) (t tx : TypeId)
    (ho : o.op = .call { callee := .builtin .append, args := #[s, x], argTypes := #[t, tx] }) {v x' v' : Value} {w' : World} (hs : a.eval s = v) (hx : a.eval x = x')
    (hr : (Builtin.append_ #[t, tx] o.type #[v, x']).run P w = .ok v' w') (h : K (a.put o.dst v') w') : o.wp P a w K Q := by
  unfold Oper.wp execOp
  simp only [ho, resolve, invoke, builtin, Sem.run_bind, Sem.run_pure, Result.andThen_ok, List.map_toArray, List.map_cons, List.map_nil, hs, hx, hr]
  exact h
theorem wpList_app {P : Program} (w : World) {ops : Array Oper} {rest : List Oper} {o : Oper} {a : Act} {Q : Exit → Act → World → Prop} (hgd : o.guard = none) (s x : Operand) (t tx : TypeId)
    (ho : o.op = .call { callee := .builtin .append, args := #[s, x], argTypes := #[t, tx] }) {v x' v' : Value} {w' : World} (hs : a.eval s = v) (hx : a.eval x = x')
    (hr : (Builtin.append_ #[t, tx] o.type #[v, x']).run P w = .ok v' w') (h : wpList P ops Q rest (a.put o.dst v') w') : wpList P ops Q (o :: rest) a w :=
  wpList_plain hgd fun _ hK => wp_app w s x t tx ho hs hx hr (hK _ _ h)
/-- Lists as cells. -/
theorem fm_len {α : Type} {f : α → List Value} {k : Nat} (hf : ∀ x, (f x).length = k) (l : List α) : (l.flatMap f).length = l.length * k := by
  induction l with
  | nil => simp
  | cons x l ih => rw [List.flatMap_cons, List.length_append, hf, ih, List.length_cons, Nat.add_mul]; omega
theorem fm_take {α : Type} {f : α → List Value} {k : Nat} (hf : ∀ x, (f x).length = k) (l : List α) (i : Nat) : (l.flatMap f).take (i * k) = (l.take i).flatMap f := by
  induction l generalizing i with
  | nil => simp
  | cons x l ih =>
    cases i with
    | zero => simp
    | succ i =>
      rw [List.flatMap_cons, List.take_succ_cons, List.flatMap_cons, ← ih i]
      have e : (i + 1) * k = (f x).length + i * k := by rw [hf, Nat.add_mul]; omega
      rw [e, List.take_length_add_append]
theorem fm_drop {α : Type} {f : α → List Value} {k : Nat} (hf : ∀ x, (f x).length = k) (l : List α) (i : Nat) : (l.flatMap f).drop (i * k) = (l.drop i).flatMap f := by
  induction l generalizing i with
  | nil => simp
  | cons x l ih =>
    cases i with
    | zero => simp
    | succ i =>
      rw [List.flatMap_cons, List.drop_succ_cons, ← ih i]
      have e : (i + 1) * k = (f x).length + i * k := by rw [hf, Nat.add_mul]; omega
      rw [e, List.drop_length_add_append]
theorem fm_at {α : Type} {f : α → List Value} {k : Nat} (hf : ∀ x, (f x).length = k) {l : List α} {i : Nat} {x : α} (h : l[i]? = some x) (j : Nat) (hj : j < k) : (l.flatMap f)[i * k + j]? = (f x)[j]? := by
  rw [← List.getElem?_drop, fm_drop hf, list_at h]
  have hi := (List.getElem?_eq_some_iff.1 h).1
  have e : (l.take i ++ x :: l.drop (i + 1)).drop i = x :: l.drop (i + 1) := by
    have := List.drop_left (l₁ := l.take i) (l₂ := x :: l.drop (i + 1))
    rwa [List.length_take, Nat.min_eq_left (by omega)] at this
  rw [e, List.flatMap_cons, List.getElem?_append_left (by rw [hf]; exact hj)]
def prC (p : Pr) : List Value := [.string p.1, .string p.2]
def prV (l : List Pr) : List Value := l.flatMap prC
theorem prC_len (p : Pr) : (prC p).length = 2 := rfl
theorem prV_one (l : List Pr) : ∀ u ∈ prV l, u.oneCell' = true := by
  intro u hu
  simp only [prV, prC, List.mem_flatMap, List.mem_cons, List.not_mem_nil, or_false] at hu
  obtain ⟨x, _, rfl | rfl⟩ := hu <;> rfl
theorem prV_app (a b : List Pr) : prV (a ++ b) = prV a ++ prV b := by simp [prV]
/-- A slice of entries. -/
def Pw (G : Nat → Prop) (w : World) (a : Option Addr) (len cap : Nat) (l : List Pr) : Prop := Rw G w 63 2 a len cap (prV l)
theorem Pw.len {G : Nat → Prop} {w : World} {a : Option Addr} {len cap : Nat} {l : List Pr} (h : Pw G w a len cap l) : l.length = len := by
  have := h.1
  unfold prV at this
  rw [fm_len prC_len] at this
  omega
theorem Pw.at {G : Nat → Prop} {w : World} {a : Option Addr} {len cap : Nat} {l : List Pr} (h : Pw G w a len cap l) (h0 : 0 < len) : ∃ b o, a = some ⟨b, o, none⟩ ∧ b < w.heap.size ∧ G b ∧ ∀ i p, l[i]? = some p → w.cell? ⟨b, o + i * 2, none⟩ = some (.string p.1) ∧ w.cell? ⟨b, o + i * 2 + 1, none⟩ = some (.string p.2) := by
  obtain ⟨b, o, e, ⟨_, _, hb⟩, hg, hc⟩ := h.2.2.2 h0
  refine ⟨b, o, e, lt_of_some hb, hg, fun i p hp => ⟨?_, ?_⟩⟩
  · have := hc (i * 2) (.string p.1) (by have := fm_at prC_len hp 0 (by omega); rw [Nat.add_zero] at this; exact this)
    exact this
  · have := hc (i * 2 + 1) (.string p.2) (by have := fm_at prC_len hp 1 (by omega); exact this)
    rw [Nat.add_assoc]
    exact this
theorem Pw.take {G : Nat → Prop} {w : World} {a : Option Addr} {len cap : Nat} {l : List Pr} (h : Pw G w a len cap l) (i : Nat) (hi : i ≤ len) : Pw G w (cutA a i 0 2) i i (l.take i) := by
  have := Rw.take h i hi
  unfold prV at this
  rw [fm_take prC_len] at this
  exact this
theorem Pw.drop {G : Nat → Prop} {w : World} {a : Option Addr} {len cap : Nat} {l : List Pr} (h : Pw G w a len cap l) (i : Nat) (hi : i ≤ len) : Pw G w (cutA a cap i 2) (len - i) (cap - i) (l.drop i) := by
  have := Rw.drop h i hi
  unfold prV at this
  rw [fm_drop prC_len] at this
  exact this
theorem Pw.below {G : Nat → Prop} {w w' : World} {a : Option Addr} {len cap : Nat} {l : List Pr} (h : Pw G w a len cap l) (hb : Below w.heap.size w w') : Pw G w' a len cap l := Rw.below h hb
/-- Where blocks of another type are turned, entries stay. -/
theorem Pw.other {G : Nat → Prop} {w w' : World} {a : Option Addr} {len cap : Nat} {l : List Pr} (h : Pw G w a len cap l) (hk : ∀ (b : Nat) (cur : Array Value) (fr : Nat × Nat), w.heap[b]? = some (Obj.cells cur 63 fr) → w'.heap[b]? = w.heap[b]?) : Pw G w' a len cap l := by
  obtain ⟨h1, h2, h3, h4⟩ := h
  refine ⟨h1, h2, h3, fun h0 => ?_⟩
  obtain ⟨b, o, rfl, ⟨cur, fr, hb⟩, hg, hc⟩ := h4 h0
  have e := hk b cur fr hb
  exact ⟨b, o, rfl, ⟨cur, fr, e.trans hb⟩, hg, fun j u hu => by rw [World.cell?_of_block (w := w) e]; exact hc j u hu⟩
/-- Slices that are cut, at this program's types. -/
theorem cut_prs (a : Option Addr) (len cap i : Nat) (hi : i ≤ cap) (W : World) : (Instr.sliceAt 28 (.slice a len cap) none (some (.int .i64 (i : Int))) (some (.int .i64 (i : Int)))).run Tryd.prog W = .ok (.slice (cutA a i 0 2) i i) W := by
  have h1 : (sizeOf 63).run Tryd.prog W = .ok 2 W := by kernel_rfl
  simp [Instr.sliceAt, Instr.slice, run_underlying Tryd.underlying28, Instr.sliceBounds, Instr.sliceBound, asIntOf, h1, hi, cutA]
theorem off_prs (a : Option Addr) (len cap i : Nat) (hi : i ≤ len) (W : World) : (Instr.sliceAt 28 (.slice a len cap) (some (.int .i64 (i : Int))) none none).run Tryd.prog W = .ok (.slice (cutA a cap i 2) (len - i) (cap - i)) W := by
  have h1 : (sizeOf 63).run Tryd.prog W = .ok 2 W := by kernel_rfl
  simp [Instr.sliceAt, Instr.slice, run_underlying Tryd.underlying28, Instr.sliceBounds, Instr.sliceBound, asIntOf, h1, hi, cutA]
theorem infoPr : (Tryd.prog.info? 63).map (fun i => (i.zero, i.size, i.bytes)) = some (some (.agg #[.string ByteArray.empty, .string ByteArray.empty]), 2, 32) := by kernel_rfl
theorem info_of {P : Program} {e : TypeId} {z : Value} {s b : Nat} (h : (P.info? e).map (fun i => (i.zero, i.size, i.bytes)) = some (some z, s, b)) : ∃ i, P.info? e = some i ∧ i.zero = some z ∧ i.size = s ∧ i.bytes = b := by
  cases hi : P.info? e with
  | none => rw [hi] at h; simp at h
  | some i => rw [hi] at h; simp at h; exact ⟨i, rfl, h.1, h.2.1, h.2.2⟩
/-- append of entries. -/
theorem addP_full {G G2 : Nat → Prop} (w : World) {a : Option Addr} {n : Nat} {l : List Pr} (h : Pw G w a n n l) {a2 : Option Addr} {m c2 : Nat} {k : List Pr} (h2 : Pw G2 w a2 m c2 k) (hN : n + m ≤ 1000000) :
    ∃ a' c' w', (∀ ty, (Builtin.append_ #[28, 28] ty #[.slice a n n, .slice a2 m c2]).run Tryd.prog w = .ok (.slice a' (n + m) c') w') ∧ Below w.heap.size w w' ∧ ((m = 0 ∧ a' = a ∧ c' = n ∧ w' = w) ∨ (0 < m ∧ w'.ownsRow w.heap.size 63 2 (.slice a' (n + m) c') (n + m) (prV (l ++ k)))) := by
  obtain ⟨i, hi, hz, hs, hb⟩ := info_of infoPr
  rw [prV_app]
  exact app_full w 28 63 i _ 2 32 Tryd.underlying28 hi hz hs hb rfl h h2 (prV_one k) hN (by omega)
theorem addP_own {G2 : Nat → Prop} (w : World) {base : Nat} {a : Option Addr} {n c : Nat} {l : List Pr} (h : w.ownsRow base 63 2 (.slice a n c) n (prV l)) {a2 : Option Addr} {m c2 : Nat} {k : List Pr} (h2 : Pw G2 w a2 m c2 k) (hN : n + m ≤ 1000000) (hb : base ≤ w.heap.size) :
    ∃ a' c' w', (∀ ty, (Builtin.append_ #[28, 28] ty #[.slice a n c, .slice a2 m c2]).run Tryd.prog w = .ok (.slice a' (n + m) c') w') ∧ w'.ownsRow base 63 2 (.slice a' (n + m) c') (n + m) (prV (l ++ k)) ∧ w.grownBy w' (ob a) ∧ (ob a' = ob a ∨ ob a' = some w.heap.size) := by
  obtain ⟨i, hi, hz, hs, hbb⟩ := info_of infoPr
  rw [prV_app]
  exact app_own w 28 63 i _ 2 32 Tryd.underlying28 hi hz hs hbb rfl (by omega) h h2 (prV_one k) hN (by omega) hb
end Go.Proofs.YtjpkngbjjgimjaaDoor
