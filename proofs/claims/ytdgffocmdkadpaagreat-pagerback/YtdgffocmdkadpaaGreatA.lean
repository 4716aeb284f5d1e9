/- A disk, in plain mathematics. A Disk in memory, and what of the memory a call turns. -/
import Derived.Test.YtdgffocmdkadpaaGreatProg
import Derived.WalkKit
import Derived.WalkSpells
import Derived.WalkLawsBesides
import Derived.WalkSmall
import Derived.OpenShut
import Derived.ProofKit
import Derived.Laws.AppendOwn
import Derived.Laws.Rows
import Derived.Laws.MakeOwn
import Derived.Laws.StructEq
import Derived.Deep.RegionHeld
import Derived.Deep.AppendLies
import Derived.OwnWalk
import Derived.Below
namespace Go.Proofs.YtdgffocmdkadpaaGreat
/-- A write that waits: where, and what. -/
abbrev Wt := Nat × ByteArray
/-- A disk: what is there for good, what waits. -/
structure Dk where
  kept : List ByteArray
  waits : List Wt
  writes : Nat
  fuse : Nat
  up : Bool
def lay (l : List ByteArray) (p : Wt) : List ByteArray := l.set p.1 p.2
def over (l : List ByteArray) (ws : List Wt) : List ByteArray := ws.foldl lay l
def Dk.seen (D : Dk) : List ByteArray := over D.kept D.waits
def Dk.size (D : Dk) : Nat := D.kept.length
structure Dk.Ok (D : Dk) : Prop where
  n1 : 1 ≤ D.kept.length
  n2 : D.kept.length ≤ 2048
  at_ : ∀ p ∈ D.waits, p.1 < D.kept.length
  fu : D.fuse ≤ 9223372036854775807
  ww : D.waits.length ≤ D.writes
  wr : D.writes ≤ 1000000
theorem over_len (l : List ByteArray) (ws : List Wt) : (over l ws).length = l.length := by
  induction ws generalizing l with
  | nil => rfl
  | cons p ws ih => show (over (lay l p) ws).length = _; rw [ih]; simp [lay]
theorem over_snoc (l : List ByteArray) (ws : List Wt) (p : Wt) : over l (ws ++ [p]) = (over l ws).set p.1 p.2 := by simp [over, lay]
theorem seen_len (D : Dk) : D.seen.length = D.kept.length := over_len _ _
/-- The first k of the writes, those that are picked. -/
def upTo (l : List ByteArray) (p : Nat → Bool) (ws : List Wt) : Nat → List ByteArray
  | 0 => l
  | k + 1 => match ws[k]? with
    | some q => if p k then lay (upTo l p ws k) q else upTo l p ws k
    | none => upTo l p ws k
theorem upTo_len (l : List ByteArray) (p : Nat → Bool) (ws : List Wt) (k : Nat) : (upTo l p ws k).length = l.length := by
  induction k with
  | zero => rfl
  | succ k ih =>
    simp only [upTo]
    split
    · split
      · simp [lay, ih]
      · exact ih
    · exact ih
theorem upTo_pick {l : List ByteArray} {p : Nat → Bool} {ws : List Wt} {k : Nat} {q : Wt} (h : ws[k]? = some q) (hp : p k = true) : upTo l p ws (k + 1) = (upTo l p ws k).set q.1 q.2 := by
  simp [upTo, h, hp, lay]
theorem upTo_leave {l : List ByteArray} {p : Nat → Bool} {ws : List Wt} {k : Nat} {q : Wt} (h : ws[k]? = some q) (hp : p k = false) : upTo l p ws (k + 1) = upTo l p ws k := by
  simp [upTo, h, hp]
/-- The first k sectors that were written, as they are for good. -/
def backTo (s K : List ByteArray) (ws : List Wt) : Nat → List ByteArray
  | 0 => s
  | k + 1 => match ws[k]? with
    | some q => (backTo s K ws k).set q.1 (K.getD q.1 ByteArray.empty)
    | none => backTo s K ws k
theorem backTo_len (s K : List ByteArray) (ws : List Wt) (k : Nat) : (backTo s K ws k).length = s.length := by
  induction k with
  | zero => rfl
  | succ k ih =>
    simp only [backTo]
    split
    · simp [ih]
    · exact ih
theorem backTo_step {s K : List ByteArray} {ws : List Wt} {k : Nat} {q : Wt} (h : ws[k]? = some q) : backTo s K ws (k + 1) = (backTo s K ws k).set q.1 (K.getD q.1 ByteArray.empty) := by
  simp [backTo, h]
theorem over_other (l : List ByteArray) (ws : List Wt) (j : Nat) (h : ∀ q ∈ ws, q.1 ≠ j) : (over l ws)[j]? = l[j]? := by
  induction ws generalizing l with
  | nil => rfl
  | cons p ws ih =>
    show (over (lay l p) ws)[j]? = _
    rw [ih _ (fun q hq => h q (List.mem_cons_of_mem _ hq))]
    simp only [lay, List.getElem?_set]
    rw [if_neg (h p (List.mem_cons_self ..))]
theorem upTo_other (l : List ByteArray) (p : Nat → Bool) (ws : List Wt) (j : Nat) (h : ∀ q ∈ ws, q.1 ≠ j) (k : Nat) : (upTo l p ws k)[j]? = l[j]? := by
  induction k with
  | zero => rfl
  | succ k ih =>
    simp only [upTo]
    split
    · rename_i q hq
      split
      · simp only [lay, List.getElem?_set]
        rw [if_neg (h q (List.mem_of_getElem? hq))]
        exact ih
      · exact ih
    · exact ih
theorem backTo_at (s K : List ByteArray) (ws : List Wt) (hsK : s.length = K.length) (j : Nat) (hj : j < K.length) (k : Nat) :
    ((∃ i q, i < k ∧ ws[i]? = some q ∧ q.1 = j) → (backTo s K ws k)[j]? = K[j]?) ∧ ((∀ i q, i < k → ws[i]? = some q → q.1 ≠ j) → (backTo s K ws k)[j]? = s[j]?) := by
  induction k with
  | zero => exact ⟨fun ⟨i, _, hi, _⟩ => by omega, fun _ => rfl⟩
  | succ k ih =>
    cases hk : ws[k]? with
    | none =>
      have e : backTo s K ws (k + 1) = backTo s K ws k := by simp [backTo, hk]
      rw [e]
      refine ⟨fun ⟨i, q, hi, hq, hj⟩ => ih.1 ⟨i, q, ?_, hq, hj⟩, fun h => ih.2 fun i q hi => h i q (by omega)⟩
      rcases Nat.lt_or_ge i k with h | h
      · exact h
      · obtain rfl : i = k := by omega
        rw [hk] at hq; cases hq
    | some q =>
      rw [backTo_step hk]
      by_cases hq : q.1 = j
      · have : ((backTo s K ws k).set q.1 (K.getD q.1 ByteArray.empty))[j]? = K[j]? := by
          rw [hq, List.getElem?_set_self (by rw [backTo_len, hsK]; exact hj), List.getD_eq_getElem?_getD, List.getElem?_eq_getElem hj]
          rfl
        exact ⟨fun _ => this, fun h => absurd hq (h k q (by omega) hk)⟩
      · rw [List.getElem?_set_ne hq]
        refine ⟨fun ⟨i, q', hi, hq', hj⟩ => ih.1 ⟨i, q', ?_, hq', hj⟩, fun h => ih.2 fun i q hi => h i q (by omega)⟩
        rcases Nat.lt_or_ge i k with h | h
        · exact h
        · obtain rfl : i = k := by omega
          rw [hk] at hq'
          cases hq'
          exact absurd hj hq
/-- When all were gone through, what is read is what is there for good. -/
theorem back_end (l : List ByteArray) (p : Nat → Bool) (ws : List Wt) : backTo (over l ws) (upTo l p ws ws.length) ws ws.length = upTo l p ws ws.length := by
  apply List.ext_getElem?
  intro j
  have hl1 := over_len l ws
  have hl2 := upTo_len l p ws ws.length
  by_cases hj : j < l.length
  · have hb := backTo_at (over l ws) (upTo l p ws ws.length) ws (by rw [hl1, hl2]) j (by rw [hl2]; exact hj) ws.length
    by_cases h : ∃ i q, i < ws.length ∧ ws[i]? = some q ∧ q.1 = j
    · exact hb.1 h
    · have h' : ∀ q ∈ ws, q.1 ≠ j := by
        intro q hq e
        obtain ⟨i, hi, he⟩ := List.getElem_of_mem hq
        exact h ⟨i, q, hi, by rw [List.getElem?_eq_getElem hi, he], e⟩
      rw [hb.2 (fun i q _ hq => h' q (List.mem_of_getElem? hq)), over_other l ws j h', upTo_other l p ws j h']
  · rw [List.getElem?_eq_none (by rw [backTo_len, hl1]; omega), List.getElem?_eq_none (by rw [hl2]; omega)]
/-- All are picked. -/
theorem upTo_all (l : List ByteArray) (ws : List Wt) (p : Nat → Bool) (hp : ∀ i, i < ws.length → p i = true) : upTo l p ws ws.length = over l ws := by
  have : ∀ k, k ≤ ws.length → upTo l p ws k = over l (ws.take k) := by
    intro k
    induction k with
    | zero => intro _; rfl
    | succ k ih =>
      intro hk
      have e : ws[k]? = some ws[k] := List.getElem?_eq_getElem (by omega)
      rw [upTo_pick e (hp k (by omega)), ih (by omega), List.take_succ_eq_append_getElem (by omega), over_snoc]
  rw [this _ (Nat.le_refl _), List.take_length]
theorem upTo_none (l : List ByteArray) (ws : List Wt) (p : Nat → Bool) (hp : ∀ i, p i = false) (k : Nat) : upTo l p ws k = l := by
  induction k with
  | zero => rfl
  | succ k ih =>
    simp only [upTo, hp]
    split <;> simpa using ih
/-- What the functions make of a disk. -/
def Dk.off (D : Dk) : Nat := if D.up then 0 else 10
def Dk.reach (D : Dk) (a : Int) : Nat := if D.up then (if a < 0 ∨ (D.kept.length : Int) ≤ a then 9 else 0) else 10
def Dk.wrote (D : Dk) (a : Nat) (s : ByteArray) : Dk := { D with waits := D.waits ++ [(a, s)], writes := D.writes + 1, fuse := D.fuse - 1, up := decide (D.fuse ≠ 1) }
def Dk.settled (D : Dk) (p : Nat → Bool) : Dk := { D with kept := upTo D.kept p D.waits D.waits.length, waits := [] }
def Dk.failed (D : Dk) (p : Nat → Bool) : Dk := { D.settled p with fuse := 0, up := false }
def Dk.fused (D : Dk) (n : Nat) : Dk := { D with fuse := n }
def Dk.started (D : Dk) : Dk := { D with up := true }
def Dk.new (n : Nat) (z : ByteArray) : Dk := { kept := List.replicate n z, waits := [], writes := 0, fuse := 0, up := true }
theorem Dk.Ok.wrote {D : Dk} (h : D.Ok) (a : Nat) (s : ByteArray) (ha : a < D.kept.length) (hw : D.writes < 1000000) : (D.wrote a s).Ok := by
  obtain ⟨h1, h2, h3, h4, h5, h6⟩ := h
  refine ⟨h1, h2, ?_, ?_, ?_, hw⟩
  · intro p hp
    simp only [Dk.wrote, List.mem_append, List.mem_singleton] at hp
    rcases hp with hp | rfl
    · exact h3 p hp
    · exact ha
  · simp only [Dk.wrote]; omega
  · simp only [Dk.wrote, List.length_append, List.length_singleton]; omega
theorem Dk.Ok.settled {D : Dk} (h : D.Ok) (p : Nat → Bool) : (D.settled p).Ok := by
  obtain ⟨h1, h2, h3, h4, h5, h6⟩ := h
  refine ⟨?_, ?_, ?_, h4, ?_, h6⟩
  · simpa [Dk.settled, upTo_len] using h1
  · simpa [Dk.settled, upTo_len] using h2
  · intro p hp; simp [Dk.settled] at hp
  · simp [Dk.settled]
theorem Dk.Ok.failed {D : Dk} (h : D.Ok) (p : Nat → Bool) : (D.failed p).Ok := by
  obtain ⟨h1, h2, h3, h4, h5, h6⟩ := h.settled p
  exact ⟨h1, h2, h3, by simp [Dk.failed], h5, h6⟩
theorem Dk.Ok.fused {D : Dk} (h : D.Ok) (n : Nat) (hn : n ≤ 9223372036854775807) : (D.fused n).Ok := ⟨h.n1, h.n2, h.at_, hn, h.ww, h.wr⟩
theorem Dk.Ok.started {D : Dk} (h : D.Ok) : (D.started).Ok := ⟨h.n1, h.n2, h.at_, h.fu, h.ww, h.wr⟩
theorem Dk.Ok.new (n : Nat) (z : ByteArray) (h1 : 1 ≤ n) (h2 : n ≤ 2048) : (Dk.new n z).Ok := by
  refine ⟨by simpa [Dk.new] using h1, by simpa [Dk.new] using h2, ?_, by simp [Dk.new], by simp [Dk.new], by simp [Dk.new]⟩
  intro p hp; simp [Dk.new] at hp
end Go.Proofs.YtdgffocmdkadpaaGreat
namespace Go.Proofs.YtdgffocmdkadpaaGreat
open Go.RowKit
theorem ret_int {k : IntKind} {a b : Int} (h : a = b) : Ending.returned (.int k a) = .returned (.int k b) := by rw [h]
theorem ret_bool {a b : Bool} (h : a = b) : Ending.returned (.bool a) = .returned (.bool b) := by rw [h]
theorem ret_val {a b : Value} (h : a = b) : Ending.returned a = .returned b := by rw [h]
theorem lt_of_some {α : Type} {l : Array α} {i : Nat} {x : α} (h : l[i]? = some x) : i < l.size := by
  rcases Nat.lt_or_ge i l.size with h' | h'
  · exact h'
  · rw [Array.getElem?_eq_none h'] at h; cases h
def strOf (bs : List UInt8) : ByteArray := ⟨bs.toArray⟩
theorem strOf_size (a : List UInt8) : (strOf a).size = a.length := by simp [strOf, ByteArray.size]
theorem add_at (b o i : Nat) : (⟨b, o, none⟩ : Addr).add i = ⟨b, o + i, none⟩ := by unfold Addr.add; split <;> simp_all
theorem str_ne {a b : ByteArray} (h : ¬ a = b) : ¬ a.toList = b.toList := fun e => h (by
  rw [ByteArray.toList_eq a, ByteArray.toList_eq b] at e
  exact ByteArray.ext (Array.toList_inj.1 e))
theorem str_nb {a b : ByteArray} (h : ¬ a = b) : (a.toList == b.toList) = false := by
  have := str_ne h
  simpa using this
/-- All as it was, but for some blocks, and new ones. -/
structure Upd (S : Nat → Prop) (w w' : World) : Prop where
  os : w'.os = w.os
  tape : w'.tape = w.tape
  output : w'.output = w.output
  size : w.heap.size ≤ w'.heap.size
  block : ∀ k, k < w.heap.size → ¬ S k → w'.heap[k]? = w.heap[k]?
theorem Upd.refl (S : Nat → Prop) (w : World) : Upd S w w := ⟨rfl, rfl, rfl, Nat.le_refl _, fun _ _ _ => rfl⟩
theorem Upd.drew {S : Nat → Prop} {a w : World} (h : Upd S a w) : Upd S a w.drew := ⟨h.os, h.tape, h.output, h.size, h.block⟩
theorem Upd.trans {S T : Nat → Prop} {a b c : World} (h : Upd S a b) (k : Upd T b c) (hT : ∀ x, T x → x < a.heap.size → S x) : Upd S a c :=
  ⟨k.os.trans h.os, k.tape.trans h.tape, k.output.trans h.output, Nat.le_trans h.size k.size, fun x hx hs => (k.block x (Nat.lt_of_lt_of_le hx h.size) (fun t => hs (hT x t hx))).trans (h.block x hx hs)⟩
theorem Upd.below {S : Nat → Prop} {w w' : World} (h : Upd S w w') {B : Nat} (hB : B ≤ w.heap.size) (hS : ∀ k, S k → B ≤ k) : Below B w w' :=
  ⟨h.os, h.tape, h.output, h.size, fun k hk => h.block k (Nat.lt_of_lt_of_le hk hB) (fun s => by have := hS k s; omega)⟩
theorem Upd.of_below {S : Nat → Prop} {w w' : World} (h : Below w.heap.size w w') : Upd S w w' := ⟨h.os, h.tape, h.output, h.size, fun k hk _ => h.block k hk⟩
theorem Upd.setCell {S : Nat → Prop} {a w : World} (h : Upd S a w) {p : Addr} (hp : p.block < a.heap.size → S p.block) (u : Value) : Upd S a (w.setCell p u) := by
  have hb : Below p.block w (w.setCell p u) := (Below.refl _ w).setCell (Nat.le_refl _) u
  refine ⟨hb.os.trans h.os, hb.tape.trans h.tape, hb.output.trans h.output, Nat.le_trans h.size hb.size, fun k hk hs => ?_⟩
  rw [Below.heap_setCell w p u k (fun e => hs (by rw [e]; exact hp (by rw [← e]; exact hk)))]
  exact h.block k hk hs
theorem Upd.alloc {S : Nat → Prop} {a w : World} (h : Upd S a w) (o : Obj) : Upd S a (w.alloc o) :=
  h.trans (Upd.of_below (S := fun _ => False) ((Below.refl _ w).alloc (Nat.le_refl _) o)) (fun _ f => f.elim)
theorem Upd.grown {S : Nat → Prop} {a w w' : World} {row : Option Nat} (h : Upd S a w) (hg : w.grownBy w' row) (hr : ∀ k, row = some k → k < a.heap.size → S k) : Upd S a w' :=
  ⟨hg.os.trans h.os, hg.tape.trans h.tape, hg.output.trans h.output, Nat.le_trans h.size hg.size, fun k hk hs => (hg.block k (Nat.lt_of_lt_of_le hk h.size) (fun e => hs (hr k e.symm hk))).trans (h.block k hk hs)⟩
/-- Strings, and writes, as cells. -/
def strsV (l : List ByteArray) : List Value := l.map fun s => .string s
theorem strsV_len (l : List ByteArray) : (strsV l).length = l.length := by simp [strsV]
theorem strsV_at (l : List ByteArray) (i : Nat) : (strsV l)[i]? = (l[i]?).map fun s => .string s := by simp [strsV]
theorem strsV_set (l : List ByteArray) (i : Nat) (s : ByteArray) : (strsV l).set i (.string s) = strsV (l.set i s) := by simp [strsV, List.map_set]
theorem strsV_one (l : List ByteArray) : ∀ u ∈ strsV l, u.oneCell' = true := by
  intro u hu
  simp only [strsV, List.mem_map] at hu
  obtain ⟨x, _, rfl⟩ := hu
  rfl
def wtV (p : Wt) : List Value := [.int .i64 (p.1 : Int), .string p.2]
def wtsV (ws : List Wt) : List Value := ws.flatMap wtV
theorem wtsV_len (ws : List Wt) : (wtsV ws).length = ws.length * 2 := by
  induction ws with
  | nil => rfl
  | cons p ws ih => simp only [wtsV, List.flatMap_cons, List.length_append, List.length_cons] at *; simp only [wtV, List.length_cons, List.length_nil]; omega
theorem wtsV_snoc (ws : List Wt) (p : Wt) : wtsV (ws ++ [p]) = wtsV ws ++ [.int .i64 (p.1 : Int), .string p.2] := by simp [wtsV, wtV]
theorem wtsV_one (ws : List Wt) : ∀ u ∈ wtsV ws, u.oneCell' = true := by
  intro u hu
  simp only [wtsV, List.mem_flatMap, wtV, List.mem_cons, List.not_mem_nil, or_false] at hu
  obtain ⟨x, _, rfl | rfl⟩ := hu <;> rfl
theorem wtsV_at (ws : List Wt) (i : Nat) (q : Wt) (h : ws[i]? = some q) : (wtsV ws)[2 * i]? = some (.int .i64 (q.1 : Int)) ∧ (wtsV ws)[2 * i + 1]? = some (.string q.2) := by
  induction ws generalizing i with
  | nil => simp at h
  | cons p ws ih =>
    cases i with
    | zero =>
      simp only [List.getElem?_cons_zero, Option.some.injEq] at h
      subst h
      exact ⟨rfl, rfl⟩
    | succ i =>
      simp only [List.getElem?_cons_succ] at h
      have := ih i h
      have e : wtsV (p :: ws) = .int .i64 (p.1 : Int) :: .string p.2 :: wtsV ws := rfl
      rw [e, show 2 * (i + 1) = 2 * i + 1 + 1 by omega, show 2 * i + 1 + 1 + 1 = (2 * i + 1) + 1 + 1 by omega]
      simpa using this
/-- A row that is owned, written at one place. -/
theorem own_put {W : World} {base g cp n e : Nat} {xs : List Value} (h : W.ownsRow base e 1 (.slice (some ⟨g, 0, none⟩) n cp) n xs) (t : Nat) (x : Value) : (W.setCell ⟨g, t, none⟩ x).ownsRow base e 1 (.slice (some ⟨g, 0, none⟩) n cp) n (xs.set t x) := by
  obtain ⟨h1, h2⟩ := h
  refine ⟨by simpa using h1, ?_⟩
  rcases h2 with ⟨h2, _⟩ | ⟨g', cap', cur, e, hb, hr, h3, h4, h5, h6⟩
  · cases h2
  · cases e
    refine .inr ⟨g, cp, cur.setIfInBounds t x, rfl, hb, heap_setCell_same W g t _ _ _ hr, h3, h4, by simpa using h5, ?_⟩
    rw [Array.toList_setIfInBounds, List.take_set, h6]
theorem own_keep {W W' : World} {base e sz n : Nat} {v : Value} {xs : List Value} (h : W.ownsRow base e sz v n xs) (hk : ∀ k, v.ownBlock = some k → W'.heap[k]? = W.heap[k]?) : W'.ownsRow base e sz v n xs := by
  obtain ⟨h1, h2⟩ := h
  refine ⟨h1, ?_⟩
  rcases h2 with h2 | ⟨g', cap', cur, rfl, hb, hr, h3⟩
  · exact .inl h2
  · exact .inr ⟨g', cap', cur, rfl, hb, (hk g' rfl).trans hr, h3⟩
theorem own_base {W : World} {base base' e sz n : Nat} {v : Value} {xs : List Value} (h : W.ownsRow base e sz v n xs) (hb : base' ≤ base) : W.ownsRow base' e sz v n xs := by
  obtain ⟨h1, h2⟩ := h
  refine ⟨h1, ?_⟩
  rcases h2 with h2 | ⟨g', cap', cur, rfl, hb', hr, h3⟩
  · exact .inl h2
  · exact .inr ⟨g', cap', cur, rfl, Nat.le_trans hb hb', hr, h3⟩
theorem own_fro {W : World} {base g cp n e sz : Nat} {xs : List Value} (h : W.ownsRow base e sz (.slice (some ⟨g, 0, none⟩) n cp) n xs) (t : Nat) : W.frozen? ⟨g, t, none⟩ = false := by
  rcases h.2 with ⟨h2, _⟩ | ⟨g', cap', cur, e, hb, hr, _⟩
  · cases h2
  · cases e
    exact frozen_of_row W g t _ _ hr
theorem own_at {W : World} {base g cp n e sz : Nat} {xs : List Value} (h : W.ownsRow base e sz (.slice (some ⟨g, 0, none⟩) n cp) n xs) {j : Nat} {u : Value} (hu : xs[j]? = some u) : W.cell? ⟨g, j, none⟩ = some u := by
  have := h.cells (g := g) rfl j u hu
  rwa [add_at, Nat.zero_add] at this
theorem own_cap {W : World} {base g cp n e sz : Nat} {xs : List Value} (h : W.ownsRow base e sz (.slice (some ⟨g, 0, none⟩) n cp) n xs) : n ≤ cp ∧ cp ≤ maxLen := by
  rcases h.2 with ⟨h2, _⟩ | ⟨g', cap', cur, e, hb, hr, h3, h4, _⟩
  · cases h2
  · cases e
    exact ⟨h3, h4⟩
/-- The cells of a Disk. -/
def dcells (kb kc sb sc : Nat) (wa : Option Addr) (wc : Nat) (D : Dk) : Array Value :=
  #[.slice (some ⟨kb, 0, none⟩) D.kept.length kc, .slice (some ⟨sb, 0, none⟩) D.kept.length sc, .slice wa D.waits.length wc, .int .i64 (D.writes : Int), .int .i64 (D.fuse : Int), .bool D.up]
def ob (a : Option Addr) : Option Nat := a.map Addr.block
theorem ob_slice (a : Option Addr) (n c : Nat) : (Value.slice a n c).ownBlock = ob a := by cases a <;> rfl
/-- A Disk that lies in memory: its own blocks are among S. -/
structure Lies (w : World) (S : Nat → Prop) (g kb kc sb sc : Nat) (wa : Option Addr) (wc : Nat) (D : Dk) : Prop where
  ok : D.Ok
  c : w.heap[g]? = some (.cells (dcells kb kc sb sc wa wc D) 122 (0, 0))
  k : w.ownsRow 0 9 1 (.slice (some ⟨kb, 0, none⟩) D.kept.length kc) D.kept.length (strsV D.kept)
  s : w.ownsRow 0 9 1 (.slice (some ⟨sb, 0, none⟩) D.kept.length sc) D.kept.length (strsV D.seen)
  q : w.ownsRow 0 143 2 (.slice wa D.waits.length wc) D.waits.length (wtsV D.waits)
  kg : kb ≠ g
  sg : sb ≠ g
  ks : kb ≠ sb
  wg : ∀ x, ob wa = some x → x ≠ g ∧ x ≠ kb ∧ x ≠ sb
  Sg : S g
  Sk : S kb
  Ss : S sb
  Sw : ∀ x, ob wa = some x → S x
  bd : ∀ x, S x → x < w.heap.size
def DiskIs (w : World) (S : Nat → Prop) (g : Nat) (D : Dk) : Prop := ∃ kb kc sb sc wa wc, Lies w S g kb kc sb sc wa wc D
theorem Lies.keep {w w' : World} {S : Nat → Prop} {g kb kc sb sc : Nat} {wa : Option Addr} {wc : Nat} {D : Dk} (h : Lies w S g kb kc sb sc wa wc D) (hk : ∀ x, S x → w'.heap[x]? = w.heap[x]?) : Lies w' S g kb kc sb sc wa wc D :=
  { h with
    c := (hk g h.Sg).trans h.c
    k := own_keep h.k (fun x hx => hk x (by rw [ob_slice] at hx; cases hx; exact h.Sk))
    s := own_keep h.s (fun x hx => hk x (by rw [ob_slice] at hx; cases hx; exact h.Ss))
    q := own_keep h.q (fun x hx => hk x (h.Sw x (by rw [← ob_slice wa D.waits.length wc]; exact hx)))
    bd := fun x hx => by
      have := h.bd x hx
      have e := hk x hx
      rcases Nat.lt_or_ge x w'.heap.size with h' | h'
      · exact h'
      · rw [Array.getElem?_eq_none h', Array.getElem?_eq_getElem this] at e; cases e }
theorem DiskIs.keep {w w' : World} {S : Nat → Prop} {g : Nat} {D : Dk} (h : DiskIs w S g D) (hk : ∀ x, S x → w'.heap[x]? = w.heap[x]?) : DiskIs w' S g D := by
  obtain ⟨kb, kc, sb, sc, wa, wc, h⟩ := h
  exact ⟨kb, kc, sb, sc, wa, wc, h.keep hk⟩
theorem DiskIs.bd {w : World} {S : Nat → Prop} {g : Nat} {D : Dk} (h : DiskIs w S g D) : ∀ x, S x → x < w.heap.size := by
  obtain ⟨kb, kc, sb, sc, wa, wc, h⟩ := h
  exact h.bd
theorem DiskIs.ok {w : World} {S : Nat → Prop} {g : Nat} {D : Dk} (h : DiskIs w S g D) : D.Ok := by
  obtain ⟨kb, kc, sb, sc, wa, wc, h⟩ := h
  exact h.ok
theorem DiskIs.upd {w w' : World} {S T : Nat → Prop} {g : Nat} {D : Dk} (h : DiskIs w S g D) (hu : Upd T w w') (hd : ∀ x, S x → ¬ T x) : DiskIs w' S g D := h.keep fun x hx => hu.block x (h.bd x hx) (hd x hx)
theorem DiskIs.below {w w' : World} {S : Nat → Prop} {g : Nat} {D : Dk} (h : DiskIs w S g D) (hb : Below w.heap.size w w') : DiskIs w' S g D := h.keep fun x hx => hb.block x (h.bd x hx)
theorem DiskIs.mono {w : World} {S T : Nat → Prop} {g : Nat} {D : Dk} (h : DiskIs w S g D) (hS : ∀ x, S x → T x) (hb : ∀ x, T x → x < w.heap.size) : DiskIs w T g D := by
  obtain ⟨kb, kc, sb, sc, wa, wc, h⟩ := h
  exact ⟨kb, kc, sb, sc, wa, wc, { h with Sg := hS _ h.Sg, Sk := hS _ h.Sk, Ss := hS _ h.Ss, Sw := fun x hx => hS _ (h.Sw x hx), bd := hb }⟩
/-- The blocks of S, and those that were made since. -/
def more (S : Nat → Prop) (w w' : World) : Nat → Prop := fun x => S x ∨ (w.heap.size ≤ x ∧ x < w'.heap.size)
theorem Lies.cells {w : World} {S : Nat → Prop} {g kb kc sb sc : Nat} {wa : Option Addr} {wc : Nat} {D : Dk} (h : Lies w S g kb kc sb sc wa wc D) :
    w.cell? ⟨g, 0, none⟩ = some (.slice (some ⟨kb, 0, none⟩) D.kept.length kc) ∧ w.cell? ⟨g, 1, none⟩ = some (.slice (some ⟨sb, 0, none⟩) D.kept.length sc) ∧ w.cell? ⟨g, 2, none⟩ = some (.slice wa D.waits.length wc) ∧
      w.cell? ⟨g, 3, none⟩ = some (.int .i64 (D.writes : Int)) ∧ w.cell? ⟨g, 4, none⟩ = some (.int .i64 (D.fuse : Int)) ∧ w.cell? ⟨g, 5, none⟩ = some (.bool D.up) := by
  refine ⟨?_, ?_, ?_, ?_, ?_, ?_⟩ <;> rw [cell_of_row w g _ _ _ _ h.c] <;> rfl
theorem Lies.fro {w : World} {S : Nat → Prop} {g kb kc sb sc : Nat} {wa : Option Addr} {wc : Nat} {D : Dk} (h : Lies w S g kb kc sb sc wa wc D) (i : Nat) : w.frozen? ⟨g, i, none⟩ = false := frozen_of_row w g i _ _ h.c
theorem Lies.seenAt {w : World} {S : Nat → Prop} {g kb kc sb sc : Nat} {wa : Option Addr} {wc : Nat} {D : Dk} (h : Lies w S g kb kc sb sc wa wc D) (i : Nat) (hi : i < D.kept.length) : w.cell? ⟨sb, i, none⟩ = some (.string (D.seen.getD i ByteArray.empty)) :=
  own_at h.s (by rw [strsV_at, List.getD_eq_getElem?_getD, List.getElem?_eq_getElem (by rw [seen_len]; exact hi)]; rfl)
theorem Lies.keptAt {w : World} {S : Nat → Prop} {g kb kc sb sc : Nat} {wa : Option Addr} {wc : Nat} {D : Dk} (h : Lies w S g kb kc sb sc wa wc D) (i : Nat) (hi : i < D.kept.length) : w.cell? ⟨kb, i, none⟩ = some (.string (D.kept.getD i ByteArray.empty)) :=
  own_at h.k (by rw [strsV_at, List.getD_eq_getElem?_getD, List.getElem?_eq_getElem hi]; rfl)
end Go.Proofs.YtdgffocmdkadpaaGreat
