/- Plan whole; rows of bools; the document's areas. -/
import Derived.Test.YtgihdfmeokbplaaPE
import Derived.Deep.AppendSrc
import Derived.Shelf.SlSortCmp.NoneTotal
namespace Go.Proofs.Ytgihdfmeokbplaa
open Go.RowKit Ex
theorem sort_nil (V : World) : Calls Try.prog 45 #[.slice none 0 0, .func (.func 46) #[] #[]] V fun e w' => e = .returned (.tuple #[]) ∧ w' = V := AnyF.slices_SortFunc_none Try.sortSp none 0 _ V
theorem plan_any {w : World} {S : Nat → Prop} {ab : Nat} {X : Ar} (h : AIs w S ab X) {a : Option Addr} {n c : Nat} {l : List Sp} (hl : SpW w a n c l) (hn : n ≤ 1000000) :
    Calls Try.prog 20 #[.pointer (some ⟨ab, 0, none⟩), .slice a n c] w fun e w' => PlanTo w w' X l e := plan_has h hl hn (fun V => sort_nil V)
/-- A slice that can be read: its cells lie in a block of G. -/
def Rw (G : Nat → Prop) (w : World) (_et sz : Nat) (a : Option Addr) (len cap : Nat) (xs : List Value) : Prop :=
  xs.length = len * sz ∧ len ≤ cap ∧ cap ≤ maxLen ∧ (0 < len → ∃ b o, a = some ⟨b, o, none⟩ ∧ b < w.heap.size ∧ G b ∧ ∀ j u, xs[j]? = some u → w.cell? ⟨b, o + j, none⟩ = some u)
theorem Rw.keep {G : Nat → Prop} {w w' : World} {et sz : Nat} {a : Option Addr} {len cap : Nat} {xs : List Value} (h : Rw G w et sz a len cap xs) (hs : w.heap.size ≤ w'.heap.size) (hk : ∀ b, G b → b < w.heap.size → w'.heap[b]? = w.heap[b]?) : Rw G w' et sz a len cap xs := by
  obtain ⟨h1, h2, h3, h4⟩ := h
  refine ⟨h1, h2, h3, fun h0 => ?_⟩
  obtain ⟨b, o, rfl, hb, hg, hc⟩ := h4 h0
  exact ⟨b, o, rfl, Nat.lt_of_lt_of_le hb hs, hg, fun j u hu => by rw [World.cell?_of_block (w := w) (hk b hg hb)]; exact hc j u hu⟩
theorem Rw.below {G : Nat → Prop} {w w' : World} {et sz : Nat} {a : Option Addr} {len cap : Nat} {xs : List Value} (h : Rw G w et sz a len cap xs) (hb : Below w.heap.size w w') : Rw G w' et sz a len cap xs := h.keep hb.size fun b _ hl => hb.block b hl
theorem Rw.mono {G G' : Nat → Prop} {w : World} {et sz : Nat} {a : Option Addr} {len cap : Nat} {xs : List Value} (h : Rw G w et sz a len cap xs) (hG : ∀ x, G x → x < w.heap.size → G' x) : Rw G' w et sz a len cap xs := by
  obtain ⟨h1, h2, h3, h4⟩ := h
  refine ⟨h1, h2, h3, fun h0 => ?_⟩
  obtain ⟨b, o, rfl, hb, hg, hc⟩ := h4 h0
  exact ⟨b, o, rfl, hb, hG b hg hb, hc⟩
theorem Rw.own {G : Nat → Prop} {w : World} {base et sz : Nat} {a : Option Addr} {len cap : Nat} {xs : List Value} (h : w.ownsRow base et sz (.slice a len cap) len xs) (hG : ∀ x, base ≤ x → G x) : Rw G w et sz a len cap xs := by
  have hh := h
  rcases h.2 with ⟨h2, h3⟩ | ⟨g, c, cur, e, hb, hr, h3, h4, _⟩
  · cases h2
    exact ⟨by rw [hh.1], Nat.le_refl _, Nat.zero_le _, fun h0 => absurd h0 (by omega)⟩
  · cases e
    refine ⟨hh.1, h3, h4, fun _ => ⟨g, 0, rfl, lt_of_some hr, hG g hb, fun j u hu => ?_⟩⟩
    rw [Nat.zero_add]
    exact own_at hh hu
theorem Rw.zero (G : Nat → Prop) (w : World) (et sz : Nat) (a : Option Addr) (c : Nat) (hc : c ≤ maxLen) : Rw G w et sz a 0 c [] := ⟨by simp, Nat.zero_le _, hc, fun h => absurd h (by omega)⟩
/-- A slice's address behind a cut. -/
def cutA (a : Option Addr) (m l sz : Nat) : Option Addr := if m = l then a else a.map (·.add (l * sz))
theorem Rw.take {G : Nat → Prop} {w : World} {et sz : Nat} {a : Option Addr} {len cap : Nat} {xs : List Value} (h : Rw G w et sz a len cap xs) (i : Nat) (hi : i ≤ len) : Rw G w et sz (cutA a i 0 sz) i i (xs.take (i * sz)) := by
  obtain ⟨h1, h2, h3, h4⟩ := h
  have hm : i * sz ≤ len * sz := Nat.mul_le_mul_right _ hi
  refine ⟨by rw [List.length_take, h1]; omega, Nat.le_refl _, by omega, fun h0 => ?_⟩
  obtain ⟨b, o, rfl, hb, hg, hc⟩ := h4 (by omega)
  refine ⟨b, o, ?_, hb, hg, fun j u hu => ?_⟩
  · unfold cutA
    rw [if_neg (by omega)]
    simp [add_at]
  · rw [List.getElem?_take] at hu
    split at hu
    · exact hc j u hu
    · cases hu
theorem Rw.drop {G : Nat → Prop} {w : World} {et sz : Nat} {a : Option Addr} {len cap : Nat} {xs : List Value} (h : Rw G w et sz a len cap xs) (i : Nat) (hi : i ≤ len) : Rw G w et sz (cutA a cap i sz) (len - i) (cap - i) (xs.drop (i * sz)) := by
  obtain ⟨h1, h2, h3, h4⟩ := h
  have hm : i * sz ≤ len * sz := Nat.mul_le_mul_right _ hi
  refine ⟨by rw [List.length_drop, h1, Nat.sub_mul], by omega, by omega, fun h0 => ?_⟩
  obtain ⟨b, o, rfl, hb, hg, hc⟩ := h4 (by omega)
  refine ⟨b, o + i * sz, ?_, hb, hg, fun j u hu => ?_⟩
  · unfold cutA
    rw [if_neg (by omega)]
    simp [add_at]
  · rw [List.getElem?_drop] at hu
    rw [Nat.add_assoc]
    exact hc _ u hu
/-- What is added lies anywhere. -/
theorem src_of {P : Program} {G : Nat → Prop} {w : World} {et sz : Nat} {a : Option Addr} {m c : Nat} {news : List Value} (h : Rw G w et sz a m c news) (h1 : ∀ u ∈ news, u.oneCell' = true) {tx e' : TypeId} (hk : P.underlying tx = some (.slice e')) : Src P sz tx (.slice a m c) m news w := by
  obtain ⟨e1, _, _, h4⟩ := h
  rcases Nat.eq_zero_or_pos m with rfl | hm
  · have hn : news = [] := List.eq_nil_of_length_eq_zero (by simpa using e1)
    subst hn
    refine ⟨.inl ⟨e', hk⟩, fun _ => rfl, ?_, ?_, by simp, fun _ h => by cases h⟩
    · cases a <;> simp [Builtin.firstCells, loadCells, loadCellsFrom]
    · cases a <;> simp [Builtin.firstCells, loadCells, loadCellsFrom]
  · obtain ⟨b, o, rfl, hb, hg, hc⟩ := h4 hm
    exact Src.ofSlice w hk ⟨b, o, none⟩ m c news e1 (fun j u hu => by rw [add_at]; exact hc j u hu) h1
/-- append onto a slice that has no room: a new row, unless nothing is added. -/
theorem app_full {P : Program} {G G2 : Nat → Prop} (w : World) (t e : TypeId) (i : TypeInfo) (z : Value) (sz bytes : Nat) (ht : P.underlying t = some (.slice e)) (hi : P.info? e = some i) (hz : i.zero = some z) (hsize : i.size = sz) (hby : i.bytes = bytes) (hzs : z.cells.size = sz)
    {a : Option Addr} {n : Nat} {xs : List Value} (h : Rw G w e sz a n n xs) {a2 : Option Addr} {m c2 : Nat} {news : List Value} (h2 : Rw G2 w e sz a2 m c2 news) (h1 : ∀ u ∈ news, u.oneCell' = true) (hN : n + m ≤ 1000000) (hB : bytes ≤ 1000) :
    ∃ a' c' w', (∀ ty, (Builtin.append_ #[t, t] ty #[.slice a n n, .slice a2 m c2]).run P w = .ok (.slice a' (n + m) c') w') ∧ Below w.heap.size w w' ∧ ((m = 0 ∧ a' = a ∧ c' = n ∧ w' = w) ∨ (0 < m ∧ w'.ownsRow w.heap.size e sz (.slice a' (n + m) c') (n + m) (xs ++ news))) := by
  subst hsize hby
  have hs := src_of h2 h1 ht
  rcases Nat.eq_zero_or_pos m with rfl | hm
  · have hn : news = [] := List.eq_nil_of_length_eq_zero (by simpa using h2.1)
    subst hn
    refine ⟨a, n, w, fun ty => ?_, Below.refl _ _, .inl ⟨rfl, rfl, rfl, rfl⟩⟩
    have hl := hs.len w
    have hc := hs.cells
    cases a <;> simp [Builtin.append_, run_underlying ht, sizeOf, typeInfo, hi, hl, hc, storeCells]
  · have h63 : n + m ≤ maxLen := by unfold maxLen; omega
    have hold : (Builtin.firstCells i.size n (.slice a n n)).run P w.drew = .ok xs.toArray w.drew := by
      obtain ⟨e1, _, _, h4⟩ := h
      rcases Nat.eq_zero_or_pos n with rfl | hn
      · have hx : xs = [] := List.eq_nil_of_length_eq_zero (by simpa using e1)
        subst hx
        cases a <;> simp [Builtin.firstCells, loadCells, loadCellsFrom]
      · obtain ⟨b, o, rfl, hb, hg, hc⟩ := h4 hn
        exact run_firstCells_some w.drew i.size n ⟨b, o, none⟩ n n xs e1 (fun j u hu => by rw [add_at]; exact hc j u hu)
    have hbb : (n + m) * i.bytes ≤ 140737488355328 := by
      have := Nat.mul_le_mul hN hB
      omega
    have hr := fun ty => run_append_grow_src (P := P) w t t ty e i z ht hi hz a n n xs hold (.slice a2 m c2) m news hs (by omega) (by omega) (growslice_fits (by omega) hbb)
    refine ⟨_, _, _, hr, ⟨rfl, rfl, rfl, by simp, fun k hk => Below.heap_alloc w.drew _ k hk⟩, .inr ⟨hm, ?_, .inr ⟨w.heap.size, _, _, rfl, Nat.le_refl _, heap_alloc_new w.drew _, grownCap_ge w (n + m) n e, grownCap_le_maxLen w (n + m) n e h63, ?_, ?_⟩⟩⟩
    · rw [List.length_append, h.1, h2.1, Nat.add_mul]
    · have hge := grownCap_ge w (n + m) n e
      simp only [Array.size_append, List.size_toArray, size_zeroCells, hzs, List.length_append, h.1, h2.1, ← Nat.add_mul]
      congr 1
      omega
    · have hlen : (xs ++ news).length = (n + m) * i.size := by rw [List.length_append, h.1, h2.1, Nat.add_mul]
      simp only [Array.toList_append]
      rw [← hlen]
      exact List.take_left
/-- append onto a row that is owned. -/
theorem app_own {P : Program} {G2 : Nat → Prop} (w : World) (t e : TypeId) (i : TypeInfo) (z : Value) (sz bytes : Nat) (ht : P.underlying t = some (.slice e)) (hi : P.info? e = some i) (hz : i.zero = some z) (hsize : i.size = sz) (hby : i.bytes = bytes) (hzs : z.cells.size = sz) (hsz : 0 < sz)
    {base : Nat} {a : Option Addr} {n c : Nat} {xs : List Value} (h : w.ownsRow base e sz (.slice a n c) n xs) {a2 : Option Addr} {m c2 : Nat} {news : List Value} (h2 : Rw G2 w e sz a2 m c2 news) (h1 : ∀ u ∈ news, u.oneCell' = true) (hN : n + m ≤ 1000000) (hB : bytes ≤ 1000) (hb : base ≤ w.heap.size) :
    ∃ a' c' w', (∀ ty, (Builtin.append_ #[t, t] ty #[.slice a n c, .slice a2 m c2]).run P w = .ok (.slice a' (n + m) c') w') ∧ w'.ownsRow base e sz (.slice a' (n + m) c') (n + m) (xs ++ news) ∧ w.grownBy w' (ob a) ∧ (ob a' = ob a ∨ ob a' = some w.heap.size) := by
  rcases Nat.eq_zero_or_pos m with rfl | hm
  · subst hsize hby
    have hn : news = [] := List.eq_nil_of_length_eq_zero (by simpa using h2.1)
    subst hn
    have hs := src_of h2 h1 ht
    have hl := hs.len w
    have hc := hs.cells
    refine ⟨a, c, w, fun ty => ?_, by simpa using h, ⟨rfl, rfl, rfl, Nat.le_refl _, fun _ _ _ => rfl⟩, .inl rfl⟩
    rcases h.2 with ⟨e1, rfl⟩ | ⟨g, cap, cur, e1, _, _, hnc, _⟩
    · cases e1
      simp [Builtin.append_, run_underlying ht, sizeOf, typeInfo, hi, hl, hc]
    · cases e1
      simp [Builtin.append_, run_underlying ht, sizeOf, typeInfo, hi, hl, hc, storeCells, hnc]
  · obtain ⟨b, o, rfl, hb2, hg, hc⟩ := h2.2.2.2 hm
    have hbb : (n + m) * bytes ≤ 140737488355328 := by
      have := Nat.mul_le_mul hN hB
      omega
    have := fun ty => run_append_lies (P := P) w t ty base e i z sz bytes ht hi hz hsize hby hzs hsz (.slice a n c) n xs h ⟨b, o, none⟩ m c2 news h2.1 (fun j u hu => by rw [add_at]; exact hc j u hu) h1 hm (by unfold maxLen; omega) hbb hb _ rfl
    obtain ⟨g, cap, w', hr, h3, h4, h5, h6⟩ := this 0
    refine ⟨_, cap, w', fun ty => ?_, h3, ?_, ?_⟩
    · rw [← hr]
      rfl
    · rw [ob_slice] at h4; exact h4
    · rw [ob_slice] at h5
      rcases h5 with h5 | h5
      · exact .inl h5.symm
      · exact .inr (by rw [h5]; rfl)
/-- The same at the operation. -/
theorem wp_app {P : Program} (w : World) {o : Oper} {a : Act} {K : Act → World → Prop} {Q : Exit → Act → World → Prop} (s x : Operand) (t tx : TypeId)
    (ho : o.op = .call { callee := .builtin .append, args := #[s, x], argTypes := #[t, tx] }) {v x' v' : Value} {w' : World} (hs : a.eval s = v) (hx : a.eval x = x')
    (hr : (Builtin.append_ #[t, tx] o.type #[v, x']).run P w = .ok v' w') (h : K (a.put o.dst v') w') : o.wp P a w K Q := by
  unfold Oper.wp execOp
  simp only [ho, resolve, invoke, builtin, Sem.run_bind, Sem.run_pure, Result.andThen_ok, List.map_toArray, List.map_cons, List.map_nil, hs, hx, hr]
  exact h
theorem wpList_app {P : Program} (w : World) {ops : Array Oper} {rest : List Oper} {o : Oper} {a : Act} {Q : Exit → Act → World → Prop} (hgd : o.guard = none) (s x : Operand) (t tx : TypeId)
    (ho : o.op = .call { callee := .builtin .append, args := #[s, x], argTypes := #[t, tx] }) {v x' v' : Value} {w' : World} (hs : a.eval s = v) (hx : a.eval x = x')
    (hr : (Builtin.append_ #[t, tx] o.type #[v, x']).run P w = .ok v' w') (h : wpList P ops Q rest (a.put o.dst v') w') : wpList P ops Q (o :: rest) a w :=
  wpList_plain hgd fun _ hK => wp_app w s x t tx ho hs hx hr (hK _ _ h)
/-- Lists as cells. -/
theorem list_at {α : Type} {L : List α} {i : Nat} {x : α} (h : L[i]? = some x) : L = L.take i ++ x :: L.drop (i + 1) := by
  obtain ⟨hi, e⟩ := List.getElem?_eq_some_iff.1 h
  rw [← e, ← List.drop_eq_getElem_cons hi, List.take_append_drop]
theorem fm_len {α : Type} {f : α → List Value} {k : Nat} (hf : ∀ x, (f x).length = k) (l : List α) : (l.flatMap f).length = l.length * k := by
  induction l with
  | nil => simp
  | cons x l ih => rw [List.flatMap_cons, List.length_append, hf, ih, List.length_cons, Nat.add_mul]; omega
theorem fm_take {α : Type} {f : α → List Value} {k : Nat} (hf : ∀ x, (f x).length = k) (l : List α) (i : Nat) : (l.flatMap f).take (i * k) = (l.take i).flatMap f := by
  induction l generalizing i with
  | nil => simp
  | cons x l ih =>
    cases i with
    | zero => simp
    | succ i =>
      rw [List.flatMap_cons, List.take_succ_cons, List.flatMap_cons, ← ih i]
      have e : (i + 1) * k = (f x).length + i * k := by rw [hf, Nat.add_mul]; omega
      rw [e, List.take_length_add_append]
theorem fm_drop {α : Type} {f : α → List Value} {k : Nat} (hf : ∀ x, (f x).length = k) (l : List α) (i : Nat) : (l.flatMap f).drop (i * k) = (l.drop i).flatMap f := by
  induction l generalizing i with
  | nil => simp
  | cons x l ih =>
    cases i with
    | zero => simp
    | succ i =>
      rw [List.flatMap_cons, List.drop_succ_cons, ← ih i]
      have e : (i + 1) * k = (f x).length + i * k := by rw [hf, Nat.add_mul]; omega
      rw [e, List.drop_length_add_append]
theorem fm_at {α : Type} {f : α → List Value} {k : Nat} (hf : ∀ x, (f x).length = k) {l : List α} {i : Nat} {x : α} (h : l[i]? = some x) (j : Nat) (hj : j < k) : (l.flatMap f)[i * k + j]? = (f x)[j]? := by
  rw [← List.getElem?_drop, fm_drop hf, list_at h]
  have hi := (List.getElem?_eq_some_iff.1 h).1
  have e : (l.take i ++ x :: l.drop (i + 1)).drop i = x :: l.drop (i + 1) := by
    have := List.drop_left (l₁ := l.take i) (l₂ := x :: l.drop (i + 1))
    rwa [List.length_take, Nat.min_eq_left (by omega)] at this
  rw [e, List.flatMap_cons, List.getElem?_append_left (by rw [hf]; exact hj)]
theorem Rw.pre {G : Nat → Prop} {w : World} {et sz : Nat} {a : Option Addr} {len cap : Nat} {xs : List Value} (h : Rw G w et sz a len cap xs) (i : Nat) (hi : i ≤ len) : Rw G w et sz (cutA a cap 0 sz) i cap (xs.take (i * sz)) := by
  obtain ⟨h1, h2, h3, h4⟩ := h
  have hm : i * sz ≤ len * sz := Nat.mul_le_mul_right _ hi
  refine ⟨by rw [List.length_take, h1]; omega, by omega, h3, fun h0 => ?_⟩
  obtain ⟨b, o, rfl, hb, hg, hc⟩ := h4 (by omega)
  refine ⟨b, o, ?_, hb, hg, fun j u hu => ?_⟩
  · unfold cutA
    rw [if_neg (by omega)]
    simp [add_at]
  · rw [List.getElem?_take] at hu
    split at hu
    · exact hc j u hu
    · cases hu
theorem info_of {P : Program} {e : TypeId} {z : Value} {s b : Nat} (h : (P.info? e).map (fun i => (i.zero, i.size, i.bytes)) = some (some z, s, b)) : ∃ i, P.info? e = some i ∧ i.zero = some z ∧ i.size = s ∧ i.bytes = b := by
  cases hi : P.info? e with
  | none => rw [hi] at h; simp at h
  | some i => rw [hi] at h; simp at h; exact ⟨i, rfl, h.1, h.2.1, h.2.2⟩
/-- Bools as cells. -/
def blC (b : Bool) : List Value := [.bool b]
def blR (l : List Bool) : List Value := l.flatMap blC
theorem blC_len (b : Bool) : (blC b).length = 1 := rfl
theorem blR_len (l : List Bool) : (blR l).length = l.length := by unfold blR; rw [fm_len blC_len]; omega
theorem blR_app (a b : List Bool) : blR (a ++ b) = blR a ++ blR b := by simp [blR]
theorem blR_one (l : List Bool) : ∀ u ∈ blR l, u.oneCell' = true := by
  intro u hu
  obtain ⟨c, _, hc⟩ := List.mem_flatMap.1 hu
  simp only [blC, List.mem_cons, List.not_mem_nil, or_false] at hc
  subst hc
  rfl
theorem blR_map (l : List Bool) : blR l = l.map Value.bool := by
  induction l with
  | nil => rfl
  | cons x l ih => simp only [blR, List.flatMap_cons, List.map_cons] at *; rw [ih]; rfl
theorem blR_set (l : List Bool) (i : Nat) (b : Bool) : (blR l).set i (.bool b) = blR (l.set i b) := by
  rw [blR_map, blR_map, List.map_set]
def Fw (w : World) (a : Option Addr) (len cap : Nat) (l : List Bool) : Prop := Rw (fun _ => True) w 4 1 a len cap (blR l)
theorem Fw.len {w : World} {a : Option Addr} {len cap : Nat} {l : List Bool} (h : Fw w a len cap l) : l.length = len := by
  have := h.1
  rw [blR_len] at this
  omega
theorem Fw.below {w w' : World} {a : Option Addr} {len cap : Nat} {l : List Bool} (h : Fw w a len cap l) (hb : Below w.heap.size w w') : Fw w' a len cap l := Rw.below h hb
theorem Fw.at {w : World} {a : Option Addr} {len cap : Nat} {l : List Bool} (h : Fw w a len cap l) (h0 : 0 < len) : ∃ b o, a = some ⟨b, o, none⟩ ∧ b < w.heap.size ∧ ∀ i (s : Bool), l[i]? = some s → w.cell? ⟨b, o + i, none⟩ = some (.bool s) := by
  obtain ⟨b, o, rfl, hb, _, hc⟩ := h.2.2.2 h0
  refine ⟨b, o, rfl, hb, fun i s hi => ?_⟩
  have := fm_at blC_len hi 0 (by omega)
  exact hc i _ (by simpa [blR, blC] using this)
theorem info4 : (Try.prog.info? 4).map (fun i => (i.zero, i.size, i.bytes)) = some (some (.bool false), 1, 1) := by kernel_rfl
theorem addF_own (w : World) {base : Nat} {a : Option Addr} {n c : Nat} {l : List Bool} (h : w.ownsRow base 4 1 (.slice a n c) n (blR l)) {a2 : Option Addr} {m c2 : Nat} {k : List Bool} (h2 : Fw w a2 m c2 k) (hN : n + m ≤ 1000000) (hb : base ≤ w.heap.size) :
    ∃ a' c' w', (∀ ty, (Builtin.append_ #[29, 29] ty #[.slice a n c, .slice a2 m c2]).run Try.prog w = .ok (.slice a' (n + m) c') w') ∧ w'.ownsRow base 4 1 (.slice a' (n + m) c') (n + m) (blR (l ++ k)) ∧ w.grownBy w' (ob a) ∧ (ob a' = ob a ∨ ob a' = some w.heap.size) := by
  obtain ⟨i, hi, hz, hs, hbb⟩ := info_of info4
  rw [blR_app]
  exact app_own w 29 4 i _ 1 1 Try.underlying29 hi hz hs hbb rfl (by omega) h h2 (blR_one k) hN (by omega) hb
theorem blRow {w : World} {b : Nat} {s : Bool} (h : w.heap[b]? = some (.cells #[.bool s] 4 (0, 0))) : Fw w (some ⟨b, 0, none⟩) 1 1 [s] := by
  refine ⟨rfl, Nat.le_refl _, by unfold maxLen; omega, fun _ => ⟨b, 0, rfl, lt_of_some h, trivial, fun j u hu => ?_⟩⟩
  rw [Nat.zero_add, cell_of_row _ b _ _ _ _ h]
  simpa [blR, blC] using hu
/-- The document's area as a value. -/
def raA (a : Option Addr) (n c : Nat) (nx : Int) : Value := .agg #[.slice a n c, .int .i64 nx]
theorem infoRA : (Try.prog.info? 31).map (·.size) = some 2 := by kernel_rfl
theorem res_ra {fn : Func} {p : Tmp} (h : fn.results = #[.cell p 31]) (tmps : Array Value) (w : World) (g : Nat) (cs : Array Value) (hp : tmps.getD p undef = .pointer (some ⟨g, 0, none⟩)) (hg : w.heap[g]? = some (.cells cs 31 (0, 0))) (hi : (Try.prog.info? 31).map (·.size) = some cs.size) :
    (results fn tmps).run Try.prog w = .ok (.agg cs) w := by
  have hp' : tmps[p]?.getD undef = .pointer (some ⟨g, 0, none⟩) := by simpa using hp
  have hl := run_loadVar_row (P := Try.prog) w g 31 31 cs (0, 0) _ hg Try.underlying31 rfl hi
  simp [results, h, hp', asAddr, hl]
theorem res_ra2 {fn : Func} {p q : Tmp} (h : fn.results = #[.cell p 31, .tmp q]) (tmps : Array Value) (w : World) (g : Nat) (cs : Array Value) (hp : tmps.getD p undef = .pointer (some ⟨g, 0, none⟩)) (hg : w.heap[g]? = some (.cells cs 31 (0, 0))) (hi : (Try.prog.info? 31).map (·.size) = some cs.size) :
    (results fn tmps).run Try.prog w = .ok (.tuple #[.agg cs, tmps.getD q undef]) w := by
  have hp' : tmps[p]?.getD undef = .pointer (some ⟨g, 0, none⟩) := by simpa using hp
  have hl := run_loadVar_row (P := Try.prog) w g 31 31 cs (0, 0) _ hg Try.underlying31 rfl hi
  simp [results, h, hp', asAddr, hl]
/-- What the document's area says of an area. -/
def FitsA (X : Ar) (F : List Bool) : Prop := (F.length : Int) = X.sz ∧ ∀ (i : Nat) (b : Bool), F[i]? = some b → b = cov X.hs (i : Int)
set_option maxRecDepth 100000 in
set_option maxHeartbeats 2000000 in
theorem rwithin_any (a : Option Addr) (n c : Nat) (nx : Int) (s : Sp) (w : World) (hn : n ≤ 1048576) (hs : fits s.1 ∧ fits s.2) (X : Ar) (hX : X.sz = (n : Int)) : Calls Try.prog 23 #[raA a n c nx, spA s] w fun e w' => e = .returned (.bool (X.has s)) ∧ Below w.heap.size w w' := by
  have hiff := Ar.has_iff X s
  obtain ⟨p, q⟩ := s
  unfold fits at hs
  simp only at hs hiff
  obtain ⟨R, hR⟩ : ∃ R, X.has (p, q) = R := ⟨_, rfl⟩
  rw [hR, hX] at hiff
  rw [hR]
  have HR : Hid (R = true ↔ 0 ≤ p ∧ 1 ≤ q ∧ p + q ≤ (n : Int)) := by
    show _ ↔ _
    rw [hiff]
  clear hR hX hiff
  unfold raA spA
  go_enter Try.func23, Try.ntmps23
  go_wp2
  all_goals
    go_ret
    refine ⟨ret_bool ?_, ((Below.refl _ w).alloc (Nat.le_refl _) _).alloc (by simp) _⟩
    have hr := HR.out
    cases R <;> simp at hr ⊢ <;> omega
end Go.Proofs.Ytgihdfmeokbplaa
