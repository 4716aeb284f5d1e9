/- Spans and areas in memory, and what of the memory a call turns. -/
import Derived.Test.YtgihdfmeokbplaaProg
import Derived.Test.YtgihdfmeokbplaaEA
import Derived.Test.YtgihdfmeokbplaaHF
import Derived.WalkKit
import Derived.WalkSpells
import Derived.WalkLawsBesides
import Derived.WalkSmall
import Derived.OpenShut
import Derived.ProofKit
import Derived.Laws.AppendOwn
import Derived.Laws.Rows
import Derived.Laws.MakeOwn
import Derived.Laws.StructEq
import Derived.Deep.RegionHeld
import Derived.Deep.AppendLies
import Derived.Lib.SliceRun
import Derived.Lib.Overlaps
import Derived.Lib.AppendZerosOnto
import Derived.Laws.CopyRow
import Derived.OwnWalk
import Derived.Below
import Derived.BigQuiet
namespace Go.Proofs.Ytgihdfmeokbplaa
open Go.RowKit Ex
theorem ret_int {k : IntKind} {a b : Int} (h : a = b) : Ending.returned (.int k a) = .returned (.int k b) := by rw [h]
theorem ret_bool {a b : Bool} (h : a = b) : Ending.returned (.bool a) = .returned (.bool b) := by rw [h]
theorem ret_val {a b : Value} (h : a = b) : Ending.returned a = .returned b := by rw [h]
theorem lt_of_some {α : Type} {l : Array α} {i : Nat} {x : α} (h : l[i]? = some x) : i < l.size := by
  rcases Nat.lt_or_ge i l.size with h' | h'
  · exact h'
  · rw [Array.getElem?_eq_none h'] at h; cases h
theorem add_at (b o i : Nat) : (⟨b, o, none⟩ : Addr).add i = ⟨b, o + i, none⟩ := by unfold Addr.add; split <;> simp_all
/-- All as it was, but for some blocks, and new ones. -/
structure Upd (S : Nat → Prop) (w w' : World) : Prop where
  os : w'.os = w.os
  tape : w'.tape = w.tape
  output : w'.output = w.output
  size : w.heap.size ≤ w'.heap.size
  block : ∀ k, k < w.heap.size → ¬ S k → w'.heap[k]? = w.heap[k]?
theorem Upd.refl (S : Nat → Prop) (w : World) : Upd S w w := ⟨rfl, rfl, rfl, Nat.le_refl _, fun _ _ _ => rfl⟩
theorem Upd.drew {S : Nat → Prop} {a w : World} (h : Upd S a w) : Upd S a w.drew := ⟨h.os, h.tape, h.output, h.size, h.block⟩
theorem Upd.trans {S T : Nat → Prop} {a b c : World} (h : Upd S a b) (k : Upd T b c) (hT : ∀ x, T x → x < a.heap.size → S x) : Upd S a c :=
  ⟨k.os.trans h.os, k.tape.trans h.tape, k.output.trans h.output, Nat.le_trans h.size k.size, fun x hx hs => (k.block x (Nat.lt_of_lt_of_le hx h.size) (fun t => hs (hT x t hx))).trans (h.block x hx hs)⟩
theorem Upd.below {S : Nat → Prop} {w w' : World} (h : Upd S w w') {B : Nat} (hB : B ≤ w.heap.size) (hS : ∀ k, S k → B ≤ k) : Below B w w' :=
  ⟨h.os, h.tape, h.output, h.size, fun k hk => h.block k (Nat.lt_of_lt_of_le hk hB) (fun s => by have := hS k s; omega)⟩
theorem Upd.of_below {S : Nat → Prop} {w w' : World} (h : Below w.heap.size w w') : Upd S w w' := ⟨h.os, h.tape, h.output, h.size, fun k hk _ => h.block k hk⟩
theorem Upd.mono {S T : Nat → Prop} {w w' : World} (h : Upd S w w') (hS : ∀ x, S x → x < w.heap.size → T x) : Upd T w w' := ⟨h.os, h.tape, h.output, h.size, fun k hk hs => h.block k hk (fun s => hs (hS k s hk))⟩
theorem Upd.setCell {S : Nat → Prop} {a w : World} (h : Upd S a w) {p : Addr} (hp : p.block < a.heap.size → S p.block) (u : Value) : Upd S a (w.setCell p u) := by
  have hb : Below p.block w (w.setCell p u) := (Below.refl _ w).setCell (Nat.le_refl _) u
  refine ⟨hb.os.trans h.os, hb.tape.trans h.tape, hb.output.trans h.output, Nat.le_trans h.size hb.size, fun k hk hs => ?_⟩
  rw [Below.heap_setCell w p u k (fun e => hs (by rw [e]; exact hp (by rw [← e]; exact hk)))]
  exact h.block k hk hs
theorem Upd.alloc {S : Nat → Prop} {a w : World} (h : Upd S a w) (o : Obj) : Upd S a (w.alloc o) :=
  h.trans (Upd.of_below (S := fun _ => False) ((Below.refl _ w).alloc (Nat.le_refl _) o)) (fun _ f => f.elim)
theorem Upd.setRow {S : Nat → Prop} {a w : World} (h : Upd S a w) {g : Nat} (hp : g < a.heap.size → S g) (cs : Array Value) : Upd S a (w.setRow g cs) :=
  ⟨h.os, h.tape, h.output, by rw [setRow_size]; exact h.size, fun k hk hs => by rw [setRow_other w g k cs (fun e => hs (by rw [e]; exact hp (by rw [← e]; exact hk)))]; exact h.block k hk hs⟩
theorem own_keep {W W' : World} {base e sz n : Nat} {v : Value} {xs : List Value} (h : W.ownsRow base e sz v n xs) (hk : ∀ k, v.ownBlock = some k → W'.heap[k]? = W.heap[k]?) : W'.ownsRow base e sz v n xs := by
  obtain ⟨h1, h2⟩ := h
  refine ⟨h1, ?_⟩
  rcases h2 with h2 | ⟨g', cap', cur, rfl, hb, hr, h3⟩
  · exact .inl h2
  · exact .inr ⟨g', cap', cur, rfl, hb, (hk g' rfl).trans hr, h3⟩
theorem own_base {W : World} {base base' e sz n : Nat} {v : Value} {xs : List Value} (h : W.ownsRow base e sz v n xs) (hb : base' ≤ base) : W.ownsRow base' e sz v n xs := by
  obtain ⟨h1, h2⟩ := h
  refine ⟨h1, ?_⟩
  rcases h2 with h2 | ⟨g', cap', cur, rfl, hb', hr, h3⟩
  · exact .inl h2
  · exact .inr ⟨g', cap', cur, rfl, Nat.le_trans hb hb', hr, h3⟩
theorem own_at {W : World} {base g cp n e sz : Nat} {xs : List Value} (h : W.ownsRow base e sz (.slice (some ⟨g, 0, none⟩) n cp) n xs) {j : Nat} {u : Value} (hu : xs[j]? = some u) : W.cell? ⟨g, j, none⟩ = some u := by
  have := h.cells (g := g) rfl j u hu
  rwa [add_at, Nat.zero_add] at this
theorem own_cap {W : World} {base g cp n e sz : Nat} {xs : List Value} (h : W.ownsRow base e sz (.slice (some ⟨g, 0, none⟩) n cp) n xs) : n ≤ cp ∧ cp ≤ maxLen := by
  rcases h.2 with ⟨h2, _⟩ | ⟨g', cap', cur, e, hb, hr, h3, h4, _⟩
  · cases h2
  · cases e
    exact ⟨h3, h4⟩
theorem own_some {W : World} {base e sz n : Nat} {v : Value} {xs : List Value} (h : W.ownsRow base e sz v n xs) (hv : v ≠ .slice none 0 0) : ∃ g cap, v = .slice (some ⟨g, 0, none⟩) n cap ∧ base ≤ g ∧ g < W.heap.size := by
  rcases h.2 with ⟨h2, _⟩ | ⟨g', cap', cur, rfl, hb, hr, _⟩
  · exact absurd h2 hv
  · exact ⟨g', cap', rfl, hb, lt_of_some hr⟩
def ob (a : Option Addr) : Option Nat := a.map Addr.block
theorem ob_slice (a : Option Addr) (n c : Nat) : (Value.slice a n c).ownBlock = ob a := by cases a <;> rfl
/-- Spans, as cells. -/
def spV (s : Sp) : List Value := [.int .i64 s.1, .int .i64 s.2]
def spsV (l : List Sp) : List Value := l.flatMap spV
theorem spsV_len (l : List Sp) : (spsV l).length = l.length * 2 := by
  induction l with
  | nil => rfl
  | cons p l ih => simp only [spsV, List.flatMap_cons, List.length_append, List.length_cons] at *; simp only [spV, List.length_cons, List.length_nil]; omega
theorem spsV_app (a b : List Sp) : spsV (a ++ b) = spsV a ++ spsV b := by simp [spsV]
theorem spsV_one1 (s : Sp) : spsV [s] = [.int .i64 s.1, .int .i64 s.2] := by simp [spsV, spV]
theorem spsV_nil : spsV [] = [] := rfl
theorem spsV_snoc (l : List Sp) (s : Sp) : spsV (l ++ [s]) = spsV l ++ [.int .i64 s.1, .int .i64 s.2] := by simp [spsV, spV]
theorem spsV_one (l : List Sp) : ∀ u ∈ spsV l, u.oneCell' = true := by
  intro u hu
  simp only [spsV, List.mem_flatMap, spV, List.mem_cons, List.not_mem_nil, or_false] at hu
  obtain ⟨x, _, rfl | rfl⟩ := hu <;> rfl
theorem spsV_take (l : List Sp) (i : Nat) : (spsV l).take (i * 2) = spsV (l.take i) := by
  induction l generalizing i with
  | nil => simp [spsV]
  | cons p l ih =>
    cases i with
    | zero => simp [spsV]
    | succ i =>
      have e : spsV (p :: l) = .int .i64 p.1 :: .int .i64 p.2 :: spsV l := rfl
      rw [e, show (i + 1) * 2 = i * 2 + 1 + 1 by omega, List.take_succ_cons, List.take_succ_cons, ih, List.take_succ_cons]
      rfl
theorem spsV_drop (l : List Sp) (i : Nat) : (spsV l).drop (i * 2) = spsV (l.drop i) := by
  induction l generalizing i with
  | nil => simp [spsV]
  | cons p l ih =>
    cases i with
    | zero => simp
    | succ i =>
      have e : spsV (p :: l) = .int .i64 p.1 :: .int .i64 p.2 :: spsV l := rfl
      rw [e, show (i + 1) * 2 = i * 2 + 1 + 1 by omega, List.drop_succ_cons, List.drop_succ_cons, ih, List.drop_succ_cons]
theorem spsV_at (l : List Sp) (i : Nat) (q : Sp) (h : l[i]? = some q) : (spsV l)[i * 2]? = some (.int .i64 q.1) ∧ (spsV l)[i * 2 + 1]? = some (.int .i64 q.2) := by
  induction l generalizing i with
  | nil => simp at h
  | cons p l ih =>
    have e : spsV (p :: l) = .int .i64 p.1 :: .int .i64 p.2 :: spsV l := rfl
    cases i with
    | zero =>
      simp only [List.getElem?_cons_zero, Option.some.injEq] at h
      subst h
      exact ⟨rfl, rfl⟩
    | succ i =>
      simp only [List.getElem?_cons_succ] at h
      have := ih i h
      rw [e, show (i + 1) * 2 = i * 2 + 1 + 1 by omega, show i * 2 + 1 + 1 + 1 = (i * 2 + 1) + 1 + 1 by omega]
      simpa using this
/-- A row of spans that may be read. -/
structure SpW (w : World) (a : Option Addr) (len cap : Nat) (l : List Sp) : Prop where
  hl : l.length = len
  hcp : len ≤ cap
  hmx : cap ≤ 9223372036854775807
  hnil : a = none → cap = 0
  hat : 0 < len → ∃ b o, a = some ⟨b, o, none⟩ ∧ b < w.heap.size ∧ ∀ i q, l[i]? = some q → w.cell? ⟨b, o + i * 2, none⟩ = some (.int .i64 q.1) ∧ w.cell? ⟨b, o + i * 2 + 1, none⟩ = some (.int .i64 q.2)
theorem SpW.keep {w w' : World} {a : Option Addr} {len cap : Nat} {l : List Sp} (h : SpW w a len cap l) (hk : ∀ x, ob a = some x → x < w.heap.size → w'.heap[x]? = w.heap[x]?) (hs : w.heap.size ≤ w'.heap.size) : SpW w' a len cap l := by
  refine ⟨h.hl, h.hcp, h.hmx, h.hnil, fun h0 => ?_⟩
  obtain ⟨b, o, rfl, hb, hc⟩ := h.hat h0
  refine ⟨b, o, rfl, by omega, fun i q hq => ?_⟩
  have := hc i q hq
  have hbk := hk b rfl hb
  rw [World.cell?_of_block (w := w) (a := ⟨b, o + i * 2, none⟩) hbk, World.cell?_of_block (w := w) (a := ⟨b, o + i * 2 + 1, none⟩) hbk]
  exact this
theorem SpW.below {w w' : World} {a : Option Addr} {len cap : Nat} {l : List Sp} (h : SpW w a len cap l) (hb : Below w.heap.size w w') : SpW w' a len cap l := h.keep (fun x _ hx => hb.block x hx) hb.size
theorem SpW.own {w : World} {base : Nat} {a : Option Addr} {n cap : Nat} {l : List Sp} (h : w.ownsRow base 37 2 (.slice a n cap) n (spsV l)) : SpW w a n cap l := by
  have hl : l.length = n := by have := h.1; rw [spsV_len] at this; omega
  rcases h.2 with ⟨h2, h3⟩ | ⟨g, cp, cur, e, hb, hr, h4, h5, h6, h7⟩
  · cases h2
    exact ⟨hl, Nat.le_refl _, by omega, fun _ => rfl, fun h => absurd h (by omega)⟩
  · cases e
    refine ⟨hl, h4, by simp only [maxLen] at h5; omega, fun e => (by cases e), fun h0 => ⟨g, 0, rfl, lt_of_some hr, fun i q hq => ?_⟩⟩
    obtain ⟨h8, h9⟩ := spsV_at l i q hq
    rw [Nat.zero_add]
    exact ⟨own_at h h8, own_at h h9⟩
theorem SpW.nil_ (w : World) : SpW w none 0 0 [] := ⟨rfl, Nat.le_refl _, by omega, fun _ => rfl, fun h => absurd h (by omega)⟩
/-- An area in memory: its own blocks are among S. -/
def arC (X : Ar) (ha : Option Addr) (hc : Nat) : Array Value := #[.int .i64 (X.sz : Int), .slice ha X.hs.length hc, .int .i64 X.nx]
structure AL (w : World) (S : Nat → Prop) (ab : Nat) (ha : Option Addr) (hc : Nat) (X : Ar) : Prop where
  ok : X.Ok
  c : w.heap[ab]? = some (.cells (arC X ha hc) 66 (0, 0))
  h : w.ownsRow 0 37 2 (.slice ha X.hs.length hc) X.hs.length (spsV X.hs)
  ne : ∀ x, ob ha = some x → x ≠ ab
  Sa : S ab
  Sh : ∀ x, ob ha = some x → S x
  bd : ∀ x, S x → x < w.heap.size
def AIs (w : World) (S : Nat → Prop) (ab : Nat) (X : Ar) : Prop := ∃ ha hc, AL w S ab ha hc X
theorem AL.keep {w w' : World} {S : Nat → Prop} {ab : Nat} {ha : Option Addr} {hc : Nat} {X : Ar} (h : AL w S ab ha hc X) (hk : ∀ x, S x → w'.heap[x]? = w.heap[x]?) : AL w' S ab ha hc X :=
  { h with
    c := (hk ab h.Sa).trans h.c
    h := own_keep h.h (fun x hx => hk x (h.Sh x (by rw [← ob_slice ha X.hs.length hc]; exact hx)))
    bd := fun x hx => by
      have := h.bd x hx
      have e := hk x hx
      rcases Nat.lt_or_ge x w'.heap.size with h' | h'
      · exact h'
      · rw [Array.getElem?_eq_none h', Array.getElem?_eq_getElem this] at e; cases e }
theorem AIs.keep {w w' : World} {S : Nat → Prop} {ab : Nat} {X : Ar} (h : AIs w S ab X) (hk : ∀ x, S x → w'.heap[x]? = w.heap[x]?) : AIs w' S ab X := by
  obtain ⟨ha, hc, h⟩ := h
  exact ⟨ha, hc, h.keep hk⟩
theorem AIs.bd {w : World} {S : Nat → Prop} {ab : Nat} {X : Ar} (h : AIs w S ab X) : ∀ x, S x → x < w.heap.size := by
  obtain ⟨ha, hc, h⟩ := h
  exact h.bd
theorem AIs.sa {w : World} {S : Nat → Prop} {ab : Nat} {X : Ar} (h : AIs w S ab X) : S ab := by
  obtain ⟨ha, hc, h⟩ := h
  exact h.Sa
theorem AIs.ok {w : World} {S : Nat → Prop} {ab : Nat} {X : Ar} (h : AIs w S ab X) : X.Ok := by
  obtain ⟨ha, hc, h⟩ := h
  exact h.ok
theorem AIs.below {w w' : World} {S : Nat → Prop} {ab : Nat} {X : Ar} (h : AIs w S ab X) (hb : Below w.heap.size w w') : AIs w' S ab X := h.keep fun x hx => hb.block x (h.bd x hx)
theorem AIs.upd {w w' : World} {S T : Nat → Prop} {ab : Nat} {X : Ar} (h : AIs w S ab X) (hu : Upd T w w') (hd : ∀ x, S x → ¬ T x) : AIs w' S ab X := h.keep fun x hx => hu.block x (h.bd x hx) (hd x hx)
/-- The blocks of S, and those that were made since. -/
def more (S : Nat → Prop) (w w' : World) : Nat → Prop := fun x => S x ∨ (w.heap.size ≤ x ∧ x < w'.heap.size)
theorem AL.cells {w : World} {S : Nat → Prop} {ab : Nat} {ha : Option Addr} {hc : Nat} {X : Ar} (h : AL w S ab ha hc X) :
    w.cell? ⟨ab, 0, none⟩ = some (.int .i64 (X.sz : Int)) ∧ w.cell? ⟨ab, 1, none⟩ = some (.slice ha X.hs.length hc) ∧ w.cell? ⟨ab, 2, none⟩ = some (.int .i64 X.nx) := by
  refine ⟨?_, ?_, ?_⟩ <;> rw [cell_of_row w ab _ _ _ _ h.c] <;> rfl
theorem AL.fro {w : World} {S : Nat → Prop} {ab : Nat} {ha : Option Addr} {hc : Nat} {X : Ar} (h : AL w S ab ha hc X) (i : Nat) : w.frozen? ⟨ab, i, none⟩ = false := frozen_of_row w ab i _ _ h.c
theorem AL.sp {w : World} {S : Nat → Prop} {ab : Nat} {ha : Option Addr} {hc : Nat} {X : Ar} (h : AL w S ab ha hc X) : SpW w ha X.hs.length hc X.hs := SpW.own h.h
theorem sp_i64 {X : Ar} (h : X.Ok) {s : Sp} (hs : s ∈ X.hs) : 0 ≤ s.1 ∧ 1 ≤ s.2 ∧ s.1 + s.2 ≤ 1048576 := by
  have := h.mem hs
  have := h.s2
  omega
end Go.Proofs.Ytgihdfmeokbplaa
