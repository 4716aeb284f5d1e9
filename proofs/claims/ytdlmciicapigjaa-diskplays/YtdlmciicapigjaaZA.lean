/- What a step of both disks keeps in mind. -/
import Derived.Test.YtdlmciicapigjaaZ
namespace Go.Proofs.Ytdlmciicapigjaa
open Go.RowKit Go.Shelf
def opc (o : OpV) : Array Value := #[.int .i64 o.kind, .int .i64 o.at_, .int .i64 o.long, .int .u8 (o.fill : Int), .slice o.pa o.pl o.pc]
def zero40 : Array Value := #[.slice none 0 0, .slice none 0 0, .int .i64 0, .int .i64 0, .bool false]
structure St (w0 : World) (xb : Nat) (xo : Obj) (x4 x5 x7 : Nat) (o : OpV) (S : Nat → Prop) (g : Nat) (Dd : Dk) (lb lc : Nat) (wa : Option Addr) (wc : Nat) (Dr : Dk) (xv : Array Value) (V : World) : Prop where
  bl : Below w0.heap.size w0 V
  d : DiskIs V S g Dd
  r : RefAt V lb lc wa wc Dr
  h4 : V.heap[x4]? = some (.cells xv 40 (0, 0))
  h5 : V.heap[x5]? = some (.cells (opc o) 46 (0, 0))
  h7 : V.heap[x7]? = some (.cells zero40 40 (0, 0))
  sS : ∀ x, S x → w0.heap.size ≤ x
  n4 : w0.heap.size ≤ x4 ∧ x4 < x5 ∧ x5 < x7
  s4 : ¬ S x4
  s5 : ¬ S x5
  s7 : ¬ S x7
  l4 : lb ≠ x4 ∧ lb ≠ x5 ∧ lb ≠ x7
  q4 : ∀ x, ob wa = some x → x ≠ x4 ∧ x ≠ x5 ∧ x ≠ x7
  nl : ¬ S lb
  nw : ∀ x, ob wa = some x → ¬ S x
  hx : V.heap[xb]? = some xo
  sx : ¬ S xb
  nx : xb ≠ x4 ∧ xb ≠ x5 ∧ xb ≠ x7
theorem St.keep {w0 : World} {xb : Nat} {xo : Obj} {x4 x5 x7 : Nat} {o : OpV} {S : Nat → Prop} {g : Nat} {Dd : Dk} {lb lc : Nat} {wa : Option Addr} {wc : Nat} {Dr : Dk} {xv : Array Value} {V V' : World} (h : St w0 xb xo x4 x5 x7 o S g Dd lb lc wa wc Dr xv V) (hb : Below V.heap.size V V') : St w0 xb xo x4 x5 x7 o S g Dd lb lc wa wc Dr xv V' :=
  { h with
    bl := h.bl.trans (hb.mono h.bl.size)
    d := h.d.below hb
    r := h.r.below hb
    h4 := (hb.block _ (lt_of_some h.h4)).trans h.h4
    h5 := (hb.block _ (lt_of_some h.h5)).trans h.h5
    h7 := (hb.block _ (lt_of_some h.h7)).trans h.h7
    hx := (hb.block _ (lt_of_some h.hx)).trans h.hx }
theorem St.drew {w0 : World} {xb : Nat} {xo : Obj} {x4 x5 x7 : Nat} {o : OpV} {S : Nat → Prop} {g : Nat} {Dd : Dk} {lb lc : Nat} {wa : Option Addr} {wc : Nat} {Dr : Dk} {xv : Array Value} {V : World} (h : St w0 xb xo x4 x5 x7 o S g Dd lb lc wa wc Dr xv V) : St w0 xb xo x4 x5 x7 o S g Dd lb lc wa wc Dr xv V.drew := h.keep (Below.refl _ V).drew
/-- The document's disk goes on. -/
theorem St.ref {w0 : World} {xb : Nat} {xo : Obj} {x4 x5 x7 : Nat} {o : OpV} {S : Nat → Prop} {g : Nat} {Dd : Dk} {lb lc : Nat} {wa : Option Addr} {wc : Nat} {Dr : Dk} {xv : Array Value} {V V' : World} (h : St w0 xb xo x4 x5 x7 o S g Dd lb lc wa wc Dr xv V) {lb' lc' : Nat} {wa' : Option Addr} {wc' : Nat} {Dr' : Dk} (hr : RefAt V' lb' lc' wa' wc' Dr') (ht : RefTo V V' lb wa lb' wa') : St w0 xb xo x4 x5 x7 o S g Dd lb' lc' wa' wc' Dr' xv V' := by
  have hk := h.keep ht.b
  have e4 := lt_of_some h.h4
  have e5 := lt_of_some h.h5
  have e7 := lt_of_some h.h7
  refine { hk with r := hr, l4 := ?_, q4 := ?_, nl := ?_, nw := ?_ }
  · rcases ht.l with rfl | hl
    · exact h.l4
    · omega
  · intro x hx
    rcases ht.q x hx with hq | hq
    · exact h.q4 x hq
    · omega
  · rcases ht.l with rfl | hl
    · exact h.nl
    · intro hs
      have := h.d.bd _ hs
      omega
  · intro x hx
    rcases ht.q x hx with hq | hq
    · exact h.nw x hq
    · intro hs
      have := h.d.bd _ hs
      omega
/-- The program's disk goes on. -/
theorem St.mut {w0 : World} {xb : Nat} {xo : Obj} {x4 x5 x7 : Nat} {o : OpV} {S : Nat → Prop} {g : Nat} {Dd : Dk} {lb lc : Nat} {wa : Option Addr} {wc : Nat} {Dr : Dk} {xv : Array Value} {V V' : World} (h : St w0 xb xo x4 x5 x7 o S g Dd lb lc wa wc Dr xv V) {Dd' : Dk} (m : Mut S V g Dd' V') : ∃ S', St w0 xb xo x4 x5 x7 o S' g Dd' lb lc wa wc Dr xv V' := by
  obtain ⟨S', hd, hu, hs⟩ := m
  have e4 := lt_of_some h.h4
  have e5 := lt_of_some h.h5
  have e7 := lt_of_some h.h7
  have el := h.r.lt
  have hno : ∀ x, x < V.heap.size → ¬ S x → ¬ S' x := fun x hx hS hS' => by
    rcases hs x hS' with h1 | h1
    · exact hS h1
    · omega
  exact ⟨S',
    { bl := h.bl.trans (hu.below h.bl.size h.sS)
      d := hd
      r := h.r.keep (hu.block _ el.1 h.nl) (fun x hx => hu.block _ (el.2 x hx) (h.nw x hx))
      h4 := (hu.block _ e4 h.s4).trans h.h4
      h5 := (hu.block _ e5 h.s5).trans h.h5
      h7 := (hu.block _ e7 h.s7).trans h.h7
      sS := fun x hx => (hs x hx).elim (h.sS x) (fun h1 => Nat.le_trans h.bl.size h1)
      n4 := h.n4
      s4 := hno _ e4 h.s4
      s5 := hno _ e5 h.s5
      s7 := hno _ e7 h.s7
      l4 := h.l4
      q4 := h.q4
      nl := hno _ el.1 h.nl
      nw := fun x hx => hno _ (el.2 x hx) (h.nw x hx)
      hx := (hu.block _ (lt_of_some h.hx) h.sx).trans h.hx
      sx := hno _ (lt_of_some h.hx) h.sx
      nx := h.nx }⟩
/-- The variable of the document's disk is written. -/
theorem St.put {w0 : World} {xb : Nat} {xo : Obj} {x4 x5 x7 : Nat} {o : OpV} {S : Nat → Prop} {g : Nat} {Dd : Dk} {lb lc : Nat} {wa : Option Addr} {wc : Nat} {Dr : Dk} {xv : Array Value} {V V' : World} (h : St w0 xb xo x4 x5 x7 o S g Dd lb lc wa wc Dr xv V) (xv' : Array Value) (h4 : V'.heap[x4]? = some (.cells xv' 40 (0, 0))) (ho : ∀ x, x ≠ x4 → V'.heap[x]? = V.heap[x]?) (hb : Below x4 V V') : St w0 xb xo x4 x5 x7 o S g Dd lb lc wa wc Dr xv' V' :=
  { h with
    bl := h.bl.trans (hb.mono h.n4.1)
    d := h.d.keep (fun x hx => ho x (fun e => h.s4 (e ▸ hx)))
    r := h.r.keep (ho _ h.l4.1) (fun x hx => ho _ (h.q4 x hx).1)
    h4 := h4
    h5 := (ho _ (by have := h.n4; omega)).trans h.h5
    h7 := (ho _ (by have := h.n4; omega)).trans h.h7
    hx := (ho _ h.nx.1).trans h.hx }
theorem five_heap (V : World) (b : Nat) (c0 c1 c2 c3 c4 v0 v1 v2 v3 v4 : Value) (t : TypeId) (h : V.heap[b]? = some (.cells #[c0, c1, c2, c3, c4] t (0, 0))) :
    (((((V.setCell ⟨b, 0, none⟩ v0).setCell ⟨b, 1, none⟩ v1).setCell ⟨b, 2, none⟩ v2).setCell ⟨b, 3, none⟩ v3).setCell ⟨b, 4, none⟩ v4).heap[b]? = some (.cells #[v0, v1, v2, v3, v4] t (0, 0)) := by
  rw [heap_setCell_same _ b 4 _ _ _ (heap_setCell_same _ b 3 _ _ _ (heap_setCell_same _ b 2 _ _ _ (heap_setCell_same _ b 1 _ _ _ (heap_setCell_same V b 0 _ _ _ h))))]
  rfl
theorem five_other (V : World) (b x : Nat) (v0 v1 v2 v3 v4 : Value) (h : x ≠ b) : (((((V.setCell ⟨b, 0, none⟩ v0).setCell ⟨b, 1, none⟩ v1).setCell ⟨b, 2, none⟩ v2).setCell ⟨b, 3, none⟩ v3).setCell ⟨b, 4, none⟩ v4).heap[x]? = V.heap[x]? := by
  rw [heap_setCell_other _ _ _ _ h, heap_setCell_other _ _ _ _ h, heap_setCell_other _ _ _ _ h, heap_setCell_other _ _ _ _ h, heap_setCell_other _ _ _ _ h]
theorem five_below (V : World) (b : Nat) (v0 v1 v2 v3 v4 : Value) : Below b V (((((V.setCell ⟨b, 0, none⟩ v0).setCell ⟨b, 1, none⟩ v1).setCell ⟨b, 2, none⟩ v2).setCell ⟨b, 3, none⟩ v3).setCell ⟨b, 4, none⟩ v4) :=
  (((((Below.refl b V).setCell (p := ⟨b, _, none⟩) (Nat.le_refl _) _).setCell (p := ⟨b, _, none⟩) (Nat.le_refl _) _).setCell (p := ⟨b, _, none⟩) (Nat.le_refl _) _).setCell (p := ⟨b, _, none⟩) (Nat.le_refl _) _).setCell (p := ⟨b, _, none⟩) (Nat.le_refl _) _
/-- All five cells of it. -/
theorem St.five {w0 : World} {xb : Nat} {xo : Obj} {x4 x5 x7 : Nat} {o : OpV} {S : Nat → Prop} {g : Nat} {Dd : Dk} {lb lc : Nat} {wa : Option Addr} {wc : Nat} {Dr : Dk} {c0 c1 c2 c3 c4 : Value} {V : World} (h : St w0 xb xo x4 x5 x7 o S g Dd lb lc wa wc Dr #[c0, c1, c2, c3, c4] V) (v0 v1 v2 v3 v4 : Value) :
    St w0 xb xo x4 x5 x7 o S g Dd lb lc wa wc Dr #[v0, v1, v2, v3, v4] (((((V.setCell ⟨x4, 0, none⟩ v0).setCell ⟨x4, 1, none⟩ v1).setCell ⟨x4, 2, none⟩ v2).setCell ⟨x4, 3, none⟩ v3).setCell ⟨x4, 4, none⟩ v4) :=
  h.put _ (five_heap V x4 _ _ _ _ _ _ _ _ _ _ _ h.h4) (fun x hx => five_other V x4 x _ _ _ _ _ hx) (five_below V x4 _ _ _ _ _)
/-- A disk of the program's and one of the document's, alike and apart, made since. -/
structure Pair (w0 : World) (xb : Nat) (xo : Obj) (w : World) (g lb lc : Nat) (wa : Option Addr) (wc : Nat) (D : Dk) : Prop where
  bl : Below w0.heap.size w0 w
  r : RefAt w lb lc wa wc D
  d : ∃ S, DiskIs w S g D ∧ (∀ x, S x → w0.heap.size ≤ x) ∧ ¬ S lb ∧ (∀ x, ob wa = some x → ¬ S x) ∧ ¬ S xb
  hx : w.heap[xb]? = some xo
theorem Pair.below {w0 w w' : World} {xb : Nat} {xo : Obj} {g lb lc : Nat} {wa : Option Addr} {wc : Nat} {D : Dk} (h : Pair w0 xb xo w g lb lc wa wc D) (hb : Below w.heap.size w w') : Pair w0 xb xo w' g lb lc wa wc D := by
  obtain ⟨S, hd, h1, h2, h3, h4⟩ := h.d
  exact ⟨h.bl.trans (hb.mono h.bl.size), h.r.below hb, ⟨S, hd.below hb, h1, h2, h3, h4⟩, (hb.block _ (lt_of_some h.hx)).trans h.hx⟩
/-- The end of a step: the answer is written. -/
theorem St.pair {w0 : World} {xb : Nat} {xo : Obj} {x4 x5 x7 : Nat} {o : OpV} {S : Nat → Prop} {g : Nat} {D : Dk} {lb lc : Nat} {wa : Option Addr} {wc : Nat} {xv : Array Value} {V : World} (h : St w0 xb xo x4 x5 x7 o S g D lb lc wa wc D xv V) (v0 v1 v2 v3 v4 : Value) :
    Pair w0 xb xo (((((V.setCell ⟨x7, 0, none⟩ v0).setCell ⟨x7, 1, none⟩ v1).setCell ⟨x7, 2, none⟩ v2).setCell ⟨x7, 3, none⟩ v3).setCell ⟨x7, 4, none⟩ v4) g lb lc wa wc D := by
  have hx7 : w0.heap.size ≤ x7 := by have := h.n4; omega
  refine ⟨h.bl.trans ((five_below V x7 _ _ _ _ _).mono hx7), h.r.keep (five_other V x7 lb _ _ _ _ _ h.l4.2.2) (fun x hx => five_other V x7 x _ _ _ _ _ (h.q4 x hx).2.2), ⟨S, h.d.keep (fun x hx => five_other V x7 x _ _ _ _ _ (fun e => h.s7 (e ▸ hx))), h.sS, h.nl, h.nw, h.sx⟩, (five_other V x7 xb _ _ _ _ _ h.nx.2.2).trans h.hx⟩
/-- The beginning of a step: three variables. -/
theorem Pair.st {w0 w : World} {xb : Nat} {xo : Obj} {g lb lc : Nat} {wa : Option Addr} {wc : Nat} {D : Dk} (h : Pair w0 xb xo w g lb lc wa wc D) (o : OpV) (xv : Array Value) : ∃ S, St w0 xb xo w.heap.size (w.heap.size + 1) (w.heap.size + 2) o S g D lb lc wa wc D xv (((w.alloc (.cells xv 40)).alloc (.cells (opc o) 46)).alloc (.cells zero40 40)) := by
  obtain ⟨S, hd, h1, h2, h3, h5⟩ := h.d
  have hxl := lt_of_some h.hx
  have hb : Below w.heap.size w (((w.alloc (.cells xv 40)).alloc (.cells (opc o) 46)).alloc (.cells zero40 40)) := (((Below.refl _ w).alloc (Nat.le_refl _) _).alloc (by simp) _).alloc (by simp; omega) _
  have hw := h.bl.size
  have hl := h.r.lt
  refine ⟨S, ⟨h.bl.trans (hb.mono hw), hd.below hb, h.r.below hb, ?_, ?_, ?_, h1, by omega, fun s => ?_, fun s => ?_, fun s => ?_, by omega, fun x hx => ?_, h2, h3, (hb.block _ hxl).trans h.hx, h5, by omega⟩⟩
  · rw [Below.heap_alloc _ _ _ (by simp; omega), Below.heap_alloc _ _ _ (by simp)]
    exact heap_alloc_new w _
  · rw [Below.heap_alloc _ _ _ (by simp)]
    have := heap_alloc_new (w.alloc (.cells xv 40)) (.cells (opc o) 46)
    simpa using this
  · have := heap_alloc_new ((w.alloc (.cells xv 40)).alloc (.cells (opc o) 46)) (.cells zero40 40)
    simpa using this
  · have := hd.bd _ s; omega
  · have := hd.bd _ s; omega
  · have := hd.bd _ s; omega
  · have := hl.2 x hx; omega
theorem St.at4 {w0 : World} {xb : Nat} {xo : Obj} {x4 x5 x7 : Nat} {o : OpV} {S : Nat → Prop} {g : Nat} {Dd : Dk} {lb lc : Nat} {wa : Option Addr} {wc : Nat} {Dr : Dk} {c0 c1 c2 c3 c4 : Value} {V : World} (h : St w0 xb xo x4 x5 x7 o S g Dd lb lc wa wc Dr #[c0, c1, c2, c3, c4] V) :
    V.cell? ⟨x4, 0, none⟩ = some c0 ∧ V.cell? ⟨x4, 1, none⟩ = some c1 ∧ V.cell? ⟨x4, 2, none⟩ = some c2 ∧ V.cell? ⟨x4, 3, none⟩ = some c3 ∧ V.cell? ⟨x4, 4, none⟩ = some c4 ∧ ∀ k, V.frozen? ⟨x4, k, none⟩ = false := by
  refine ⟨?_, ?_, ?_, ?_, ?_, fun k => frozen_of_row V x4 k _ _ h.h4⟩ <;> rw [cell_of_row V x4 _ _ _ _ h.h4] <;> rfl
theorem St.at5 {w0 : World} {xb : Nat} {xo : Obj} {x4 x5 x7 : Nat} {o : OpV} {S : Nat → Prop} {g : Nat} {Dd : Dk} {lb lc : Nat} {wa : Option Addr} {wc : Nat} {Dr : Dk} {xv : Array Value} {V : World} (h : St w0 xb xo x4 x5 x7 o S g Dd lb lc wa wc Dr xv V) :
    V.cell? ⟨x5, 0, none⟩ = some (.int .i64 o.kind) ∧ V.cell? ⟨x5, 1, none⟩ = some (.int .i64 o.at_) ∧ V.cell? ⟨x5, 2, none⟩ = some (.int .i64 o.long) ∧ V.cell? ⟨x5, 3, none⟩ = some (.int .u8 (o.fill : Int)) ∧ V.cell? ⟨x5, 4, none⟩ = some (.slice o.pa o.pl o.pc) := by
  refine ⟨?_, ?_, ?_, ?_, ?_⟩ <;> rw [cell_of_row V x5 _ _ _ _ h.h5] <;> rfl
theorem St.at7 {w0 : World} {xb : Nat} {xo : Obj} {x4 x5 x7 : Nat} {o : OpV} {S : Nat → Prop} {g : Nat} {Dd : Dk} {lb lc : Nat} {wa : Option Addr} {wc : Nat} {Dr : Dk} {xv : Array Value} {V : World} (h : St w0 xb xo x4 x5 x7 o S g Dd lb lc wa wc Dr xv V) :
    V.cell? ⟨x7, 0, none⟩ = some (.slice none 0 0) ∧ V.cell? ⟨x7, 1, none⟩ = some (.slice none 0 0) ∧ V.cell? ⟨x7, 2, none⟩ = some (.int .i64 0) ∧ V.cell? ⟨x7, 3, none⟩ = some (.int .i64 0) ∧ V.cell? ⟨x7, 4, none⟩ = some (.bool false) ∧ ∀ k, V.frozen? ⟨x7, k, none⟩ = false := by
  refine ⟨?_, ?_, ?_, ?_, ?_, fun k => frozen_of_row V x7 k _ _ h.h7⟩ <;> rw [cell_of_row V x7 _ _ _ _ h.h7] <;> rfl
theorem fuse_m {S : Nat → Prop} {w : World} {g : Nat} {D : Dk} (h : DiskIs w S g D) (n : Int) (hn : n ≤ 9223372036854775807) : Calls Try.prog 13 #[.pointer (some ⟨g, 0, none⟩), .int .i64 n] w fun e w' => e = .returned (.int .i64 (D.fcode n : Int)) ∧ Mut S w g (D.fput n) w' := by
  unfold Dk.fcode Dk.fput
  cases hu : D.up
  · rw [if_neg (by simp)]
    refine (fuse_down h n hu).mono ?_
    rintro e w' ⟨rfl, hw'⟩
    subst w'
    exact ⟨rfl, Mut.same h⟩
  · by_cases h0 : n < 0
    · have hn' : ¬ (true = true ∧ 0 ≤ n) := fun e => by have := e.2; omega
      rw [if_pos rfl, if_pos h0, if_neg hn']
      refine (fuse_less h n hu h0).mono ?_
      rintro e w' ⟨rfl, hw'⟩
      subst w'
      exact ⟨rfl, Mut.same h⟩
    · obtain ⟨m, rfl⟩ := Int.eq_ofNat_of_zero_le (show 0 ≤ n by omega)
      have hp' : (true = true ∧ 0 ≤ (m : Int)) := ⟨rfl, by omega⟩
      rw [if_pos rfl, if_neg h0, if_pos hp']
      refine (fuse_any h m hu (by omega)).mono ?_
      rintro e w' ⟨rfl, hd, hup⟩
      exact ⟨rfl, _, hd, hup, fun x hx => .inl hx⟩
theorem starts_m {S : Nat → Prop} {w : World} {g : Nat} {D : Dk} (h : DiskIs w S g D) : Calls Try.prog 14 #[.pointer (some ⟨g, 0, none⟩)] w fun e w' => e = .returned (.int .i64 (D.scode : Int)) ∧ Mut S w g D.sput w' := by
  unfold Dk.scode Dk.sput
  by_cases hb : D.up = true ∨ 0 < D.waits.length
  · rw [if_pos hb, if_pos hb]
    refine (start_bad h hb).mono ?_
    rintro e w' ⟨rfl, hw'⟩
    subst w'
    exact ⟨rfl, Mut.same h⟩
  · rw [if_neg hb, if_neg hb]
    have hu : D.up = false := by cases hu : D.up <;> simp_all
    have hw : D.waits = [] := List.eq_nil_of_length_eq_zero (by omega)
    exact start_m h hu hw
theorem RefAt.fput {w : World} {lb lc : Nat} {wa : Option Addr} {wc : Nat} {D : Dk} (h : RefAt w lb lc wa wc D) (n : Int) (hn : n ≤ 9223372036854775807) : RefAt w lb lc wa wc (D.fput n) := by
  unfold Dk.fput
  split
  · exact ⟨h.ok.fused _ (by omega), h.l, h.q, h.z⟩
  · exact h
theorem RefAt.sput {w : World} {lb lc : Nat} {wa : Option Addr} {wc : Nat} {D : Dk} (h : RefAt w lb lc wa wc D) : RefAt w lb lc wa wc D.sput := by
  unfold Dk.sput
  split
  · exact h
  · exact ⟨h.ok.started, h.l, h.q, h.z⟩
end Go.Proofs.Ytdlmciicapigjaa
