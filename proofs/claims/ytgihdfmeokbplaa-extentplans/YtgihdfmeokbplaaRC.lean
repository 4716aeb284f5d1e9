/- Numbers that came in; an area beside a row of what is out (the beginning of ExtentPlans). -/
import Derived.Test.YtgihdfmeokbplaaRB
import Derived.Test.YtgihdfmeokbplaaXQ
import Derived.Test.YtgihdfmeokbplaaEB
import Derived.Test.YtgihdfmeokbplaaXZ
import Derived.Test.YtgihdfmeokbplaaXO
import Derived.Test.YtgihdfmeokbplaaPA
import Derived.OpenShut
import Derived.SizedLaws
import Derived.Deep.Slices
namespace Go.Proofs.Ytgihdfmeokbplaa
open Go.ChangeShapes Go.WideShapes Go.ChangeAt Go.RowKit Go.Deep Ex
def Is (w : World) (a : Option Addr) (len cap : Nat) (l : List Int) : Prop :=
  l.length = len ∧ len ≤ cap ∧ cap ≤ 9223372036854775807 ∧ (0 < len → ∃ b o, a = some ⟨b, o, none⟩ ∧ b < w.heap.size ∧ ∀ i x, l[i]? = some x → w.cell? ⟨b, o + i, none⟩ = some (.int .i64 x) ∧ InI x)
theorem ints_of {H : Type} {enc : TypeId × Value → H} {W : World} {base : Nat} {spare : Nat → Bool} {held : Bool} {fuel : Nat} {a : Option Addr} {len cap : Nat} {x : DataW H × List MemPlace}
    (hf : DataW.trod enc Try.prog W base spare held fuel 47 [.slice a len cap] = some x) : ∃ l, Is W a len cap l := by
  rcases open_slice1 Try.underlying47 (by kernel_rfl) hf with ⟨hcs, _⟩ | ⟨ad, l, c, m, n, V, D, Pl, hcs, _, hl, hm, hmm, _, hV⟩
  · simp only [List.cons.injEq, Value.slice.injEq, and_true] at hcs
    obtain ⟨rfl, rfl, rfl⟩ := hcs
    exact ⟨[], rfl, by omega, by omega, by omega⟩
  · simp only [List.cons.injEq, Value.slice.injEq, and_true] at hcs
    obtain ⟨rfl, rfl, rfl⟩ := hcs
    have hlm : len ≤ m := by rw [hmm]; split <;> omega
    have hb : ∀ i, i < len → ∃ y : Int, W.cell? (ad.add i) = some (.int .i64 y) ∧ InI y := by
      intro i hi
      obtain ⟨h1, h2⟩ := hV i (by omega)
      obtain ⟨y, e, _, wy⟩ := DataW.trod_int Try.underlying3 h2
      simp only [List.cons.injEq, and_true] at e
      exact ⟨y, by rw [h1, e], wf_i64 wy⟩
    obtain ⟨f, hf⟩ := choose_lt (α := Int) hb
    refine ⟨(List.range len).map f, by simp, hl, by simpa [maxLen] using hm, fun h0 => ?_⟩
    obtain ⟨bb, oo, spot⟩ := ad
    have hspot : spot = none := by simpa [Addr.add] using World.cell?_spot (hf 0 h0).1
    subst hspot
    refine ⟨bb, oo, rfl, ?_, fun i q hq => ?_⟩
    · have := World.block_lt_of_cell? W _ (hf 0 h0).1
      rwa [add_at] at this
    · obtain ⟨hi, rfl⟩ := List.getElem?_eq_some_iff.1 hq
      simp only [List.length_map, List.length_range] at hi
      have := hf i hi
      simp only [add_at] at this
      simp only [List.getElem_map, List.getElem_range]
      exact this
theorem Is.on {w w' : World} {a : Option Addr} {len cap : Nat} {l : List Int} (h : Is w a len cap l) (hb : Below w.heap.size w w') : Is w' a len cap l := by
  obtain ⟨h1, h2, h3, h4⟩ := h
  refine ⟨h1, h2, h3, fun h0 => ?_⟩
  obtain ⟨b, o, rfl, hlt, hc⟩ := h4 h0
  exact ⟨b, o, rfl, Nat.lt_of_lt_of_le hlt hb.size, fun i x hx => ⟨by rw [hb.cell hlt]; exact (hc i x hx).1, (hc i x hx).2⟩⟩
theorem sumS_perm {l l' : List Sp} (h : l.Perm l') : sumS l = sumS l' := by
  induction h with
  | nil => rfl
  | cons x _ ih => rw [sumS_cons, sumS_cons, ih]
  | swap x y l => rw [sumS_cons, sumS_cons, sumS_cons, sumS_cons]; omega
  | trans _ _ h1 h2 => exact h1.trans h2
theorem Out.perm {X : Ar} {l l' : List Sp} (h : Out X l) (hp : l.Perm l') : Out X l' :=
  ⟨h.ok, fun s hs => h.in_ s (hp.mem_iff.2 hs), (hp.pairwise_iff (fun {a b} (hab : apart a b) => (Or.symm hab : apart b a))).1 h.ap, by rw [← sumS_perm hp]; exact h.sum⟩
theorem swap_cells {w W : World} {b i k : Nat} {cur : Array Value} {t : TypeId} {x3 x4 y1 y2 : Value} (hg : w.heap[b]? = some (.cells cur t (0, 0))) (h3 : w.cell? ⟨b, k, none⟩ = some x3) (h4 : w.cell? ⟨b, k + 1, none⟩ = some x4) (hW : (w.setCell ⟨b, i, none⟩ y1).setCell ⟨b, i + 1, none⟩ y2 = W) : ∃ z z', W.cell? ⟨b, k, none⟩ = some z ∧ W.cell? ⟨b, k + 1, none⟩ = some z' ∧ W.heap[b]? = some (.cells ((cur.setIfInBounds i y1).setIfInBounds (i + 1) y2) t (0, 0)) := by
  have e1 : (w.setCell ⟨b, i, none⟩ y1).heap[b]? = some (.cells (cur.setIfInBounds i y1) t (0, 0)) := heap_setCell_same _ _ _ _ _ _ hg
  have e2 : W.heap[b]? = some (.cells ((cur.setIfInBounds i y1).setIfInBounds (i + 1) y2) t (0, 0)) := by rw [← hW]; exact heap_setCell_same _ _ _ _ _ _ e1
  rw [cell_of_row _ _ _ _ _ _ hg] at h3 h4
  obtain ⟨g3, _⟩ := Array.getElem?_eq_some_iff.1 h3
  obtain ⟨g4, _⟩ := Array.getElem?_eq_some_iff.1 h4
  have c3 : W.cell? ⟨b, k, none⟩ = some (((cur.setIfInBounds i y1).setIfInBounds (i + 1) y2)[k]'(by simpa using g3)) := by rw [cell_of_row _ _ _ _ _ _ e2]; exact Array.getElem?_eq_getElem (by simpa using g3)
  have c4 : W.cell? ⟨b, k + 1, none⟩ = some (((cur.setIfInBounds i y1).setIfInBounds (i + 1) y2)[k + 1]'(by simpa using g4)) := by rw [cell_of_row _ _ _ _ _ _ e2]; exact Array.getElem?_eq_getElem (by simpa using g4)
  exact ⟨_, _, c3, c4, e2⟩
/-- Behind some rounds: the area, what is out, and the row of it. -/
structure LpG (w W : World) (sz ab : Nat) (X : Ar) (S : Nat → Prop) (a : Option Addr) (n c : Nat) (out : List Sp) : Prop where
  ar : AIs W S ab X
  fr : ∀ x, S x → w.heap.size ≤ x
  inv : Out X out
  sz : X.sz = sz
  row : GR W w.heap.size a n c out
  ap : ∀ x, ob a = some x → ¬ S x
  bel : Below w.heap.size w W
theorem LpG.to {w W W' : World} {sz ab : Nat} {X X' : Ar} {S : Nat → Prop} {a : Option Addr} {n c : Nat} {out : List Sp} (h : LpG w W sz ab X S a n c out) {v : Value} {e : Ending} (hto : ATo W S ab X' v e W') : AIs W' (more S W W') ab X' ∧ (∀ x, more S W W' x → w.heap.size ≤ x) ∧ GR W' w.heap.size a n c out ∧ (∀ x, ob a = some x → ¬ more S W W' x) ∧ Below w.heap.size w W' :=
  ⟨hto.2.1, fun x hx => hx.elim (h.fr x) (fun h2 => Nat.le_trans h.bel.size h2.1), h.row.upd hto.2.2 h.ap, fun x hx hm => hm.elim (h.ap x hx) (fun h2 => by have := (h.row.fr x hx).2; omega), h.bel.trans (hto.2.2.below h.bel.size h.fr)⟩
theorem LpG.row_ {w W W' : World} {sz ab : Nat} {X : Ar} {S : Nat → Prop} {a a' : Option Addr} {n c n' c' : Nat} {out out' : List Sp} (h : LpG w W sz ab X S a n c out) (hinv : Out X out') (hrow : GR W' w.heap.size a' n' c' out') (hat : ∀ x, ob a' = some x → ob a = some x ∨ x = W.heap.size) (hu : Upd (fun x => ob a = some x) W W') : LpG w W' sz ab X S a' n' c' out' :=
  ⟨h.ar.upd hu (fun x hx ha => h.ap x ha hx), h.fr, hinv, h.sz, hrow, fun x hx hs => (hat x hx).elim (fun h2 => h.ap x h2 hs) (fun h2 => by have := h.ar.bd x hs; omega), h.bel.trans (hu.below h.bel.size (fun x hx => (h.row.fr x hx).1))⟩
theorem LpG.below {w W W' : World} {sz ab : Nat} {X : Ar} {S : Nat → Prop} {a : Option Addr} {n c : Nat} {out : List Sp} (h : LpG w W sz ab X S a n c out) (hb : Below W.heap.size W W') : LpG w W' sz ab X S a n c out :=
  ⟨h.ar.below hb, h.fr, h.inv, h.sz, h.row.below hb, h.ap, h.bel.trans (hb.mono h.bel.size)⟩
theorem mvsV_at : ∀ (l : List MvV) (i : Nat) (m : MvV), l[i]? = some m → (mvsV l)[i * 3]? = some (.int .i64 m.from_) ∧ (mvsV l)[i * 3 + 1]? = some (.int .i64 m.to) ∧ (mvsV l)[i * 3 + 2]? = some (.int .i64 m.size)
  | [], _, _, h => by cases h
  | a :: r, 0, m, h => by
    simp only [List.getElem?_cons_zero, Option.some.injEq] at h
    subst h
    exact ⟨rfl, rfl, rfl⟩
  | a :: r, i + 1, m, h => by
    obtain ⟨h1, h2, h3⟩ := mvsV_at r i m (by simpa using h)
    have e : mvsV (a :: r) = .int .i64 a.from_ :: .int .i64 a.to :: .int .i64 a.size :: mvsV r := rfl
    rw [e, show (i + 1) * 3 = i * 3 + 1 + 1 + 1 by omega]
    exact ⟨h1, by rw [show i * 3 + 1 + 1 + 1 + 1 = (i * 3 + 1) + 1 + 1 + 1 by omega]; exact h2, by rw [show i * 3 + 1 + 1 + 1 + 2 = (i * 3 + 2) + 1 + 1 + 1 by omega]; exact h3⟩
/-- Moves that lie in memory. -/
def MvR (w : World) (a : Option Addr) (M : List MvV) : Prop := 0 < M.length → ∃ b o, a = some ⟨b, o, none⟩ ∧ b < w.heap.size ∧ ∀ i m, M[i]? = some m → w.cell? ⟨b, o + i * 3, none⟩ = some (.int .i64 m.from_) ∧ w.cell? ⟨b, o + i * 3 + 1, none⟩ = some (.int .i64 m.to) ∧ w.cell? ⟨b, o + i * 3 + 2, none⟩ = some (.int .i64 m.size)
theorem MvR.own {w : World} {base : Nat} {a : Option Addr} {n cap : Nat} {M : List MvV} (h : w.ownsRow base 54 3 (.slice a n cap) n (mvsV M)) : MvR w a M := fun h0 => by
  have hlen : (mvsV M).length = M.length * 3 := by
    clear h h0
    induction M with
    | nil => rfl
    | cons a r ih => rw [show mvsV (a :: r) = .int .i64 a.from_ :: .int .i64 a.to :: .int .i64 a.size :: mvsV r from rfl]; simp only [List.length_cons, ih]; omega
  rcases h.2 with ⟨h2, h3⟩ | ⟨g, cp, cur, e, hb, hr, h4, h5, h6, h7⟩
  · cases h2
    have := h.1
    omega
  · cases e
    refine ⟨g, 0, rfl, lt_of_some hr, fun i m hm => ?_⟩
    obtain ⟨h8, h9, h10⟩ := mvsV_at M i m hm
    rw [Nat.zero_add]
    exact ⟨own_at h h8, own_at h h9, own_at h h10⟩
theorem MvR.upd {S : Nat → Prop} {w w' : World} {a : Option Addr} {M : List MvV} (h : MvR w a M) (hu : Upd S w w') (hd : ∀ x, S x → w.heap.size ≤ x) : MvR w' a M := fun h0 => by
  obtain ⟨b, o, rfl, hb, hc⟩ := h h0
  have hk : ∀ j, w'.cell? ⟨b, j, none⟩ = w.cell? ⟨b, j, none⟩ := fun j => World.cell?_of_block (a := ⟨b, j, none⟩) (hu.block b hb (fun hs => by have := hd b hs; omega))
  refine ⟨b, o, rfl, Nat.lt_of_lt_of_le hb hu.size, fun i m hm => ?_⟩
  rw [hk, hk, hk]
  exact hc i m hm
theorem runM_snoc (f : Int → Int) (l : List MvV) (m : MvV) : runM f (l ++ [m]) = mv1 (runM f l) m.to m.from_ m.size.toNat := by simp [runM]
end Go.Proofs.Ytgihdfmeokbplaa
