/- An index stays as it is when rows of other make are written. -/
import Derived.Test.YthmikfkdjnidmaaDoorGJ
namespace Go.Proofs.YthmikfkdjnidmaaDoor
open Go.RowKit Go.Maps Go.ChangeShapes
open Go.WideElems (Fit rd rg pl rd_val elemAt)
theorem own_put2 {W : World} {base g cp n e sz : Nat} {xs : List Value} (h : W.ownsRow base e sz (.slice (some ⟨g, 0, none⟩) n cp) n xs) (t : Nat) (x : Value) : (W.setCell ⟨g, t, none⟩ x).ownsRow base e sz (.slice (some ⟨g, 0, none⟩) n cp) n (xs.set t x) := by
  obtain ⟨h1, h2⟩ := h
  refine ⟨by simpa using h1, ?_⟩
  rcases h2 with ⟨h2, _⟩ | ⟨g', cap', cur, e, hb, hr, h3, h4, h5, h6⟩
  · cases h2
  · cases e
    refine .inr ⟨g, cp, cur.setIfInBounds t x, rfl, hb, heap_setCell_same W g t _ _ _ hr, h3, h4, by simpa using h5, ?_⟩
    rw [Array.toList_setIfInBounds, List.take_set, h6]
theorem own_blk {W : World} {base n cp e sz : Nat} {a : Option Addr} {xs : List Value} (h : W.ownsRow base e sz (.slice a n cp) n xs) (h0 : 0 < n) : ∃ g cur, a = some ⟨g, 0, none⟩ ∧ W.heap[g]? = some (.cells cur e (0, 0)) ∧ base ≤ g := by
  rcases h.2 with ⟨_, h2⟩ | ⟨g', cap', cur, e, hb, hr, _⟩
  · omega
  · cases e
    exact ⟨g', cur, rfl, hr, hb⟩
theorem Grp.keep {w w' : World} {base mb n : Nat} {D : DataW Unit} (h : Grp w base mb n D) (hm : w'.heap[mb]? = w.heap[mb]?) (hk : ∀ (k : Nat) (cur : Array Value) (fr : Nat × Nat), w.heap[k]? = some (.cells cur 3 fr) → w'.heap[k]? = w.heap[k]?) : Grp w' base mb n D := by
  obtain ⟨es, clock, h1, F, h2, h3, h4, h5, h6⟩ := h
  have owned : ∀ x ∈ es.toList, ∃ zs, w.ownsInts base 3 .i64 x.val zs := fun x hx => by
    obtain ⟨y, hy⟩ := F.reads x hx
    obtain ⟨z, hz, _⟩ := rd_val hy
    obtain ⟨zs, ho, _⟩ := rowElem_inv hz
    exact ⟨zs, ho⟩
  have keep : ∀ v zs, w.ownsInts base 3 .i64 v zs → w'.ownsInts base 3 .i64 v zs := fun v zs ho => ⟨own_keep ho.1 (fun k hk' => by
    rcases ho.1.2 with ⟨e, _⟩ | ⟨g, cap, cur, e, _, hr, _⟩
    · subst e
      cases hk'
    · subst e
      cases hk'
      exact hk _ _ _ hr), ho.2⟩
  obtain ⟨F2, hmap, _⟩ := F.stay (R' := rowElem (H := Unit) w' base 3 .i64) (fun x _ z hz => by
    obtain ⟨zs, ho, rfl⟩ := rowElem_inv hz
    exact rowElem_mk (keep _ _ ho))
  refine ⟨es, clock, hm.trans h1, F2, h2, by rw [hmap]; exact h3, h4, fun x hx zs ho => ?_, h6⟩
  obtain ⟨ys, hy⟩ := owned x hx
  rw [ho.unique (keep _ _ hy)]
  exact h5 x hx ys hy
/-- A row of signatures that lies below the index's own is written. -/
theorem Inx.set {w : World} {B g z o : Nat} {L : List Sg} {cur : Array Value} {fr : Nat × Nat} {v : Value} (h : Inx w B g L) (hz : w.heap[z]? = some (.cells cur 25 fr)) (hzB : z < B) : Inx (w.setCell ⟨z, o, none⟩ v) B g L := by
  have oth : ∀ k, k ≠ z → (w.setCell ⟨z, o, none⟩ v).heap[k]? = w.heap[k]? := fun k hk => Below.heap_setCell _ _ _ _ hk
  obtain ⟨a, c, mb, base, D, h1, h2, h3, h4, h5⟩ := h
  have hgz : g ≠ z := fun e => by
    subst e
    rw [hz] at h1
    simp only [Option.some.injEq, Obj.cells.injEq] at h1
    exact absurd h1.2.1 (by decide)
  have hmz : mb ≠ z := fun e => by
    subst e
    obtain ⟨es, cl, h6, _⟩ := h3
    rw [hz] at h6
    cases h6
  refine ⟨a, c, mb, base, D, (oth g hgz).trans h1, own_keep h2 (fun k hk => oth k (fun e => ?_)), h3.keep (oth mb hmz) (fun k cur' fr' hr => oth k (fun e => ?_)), h4, h5⟩
  · have := (h2.lt k hk).1
    omega
  · subst e
    rw [hz] at hr
    simp only [Option.some.injEq, Obj.cells.injEq] at hr
    exact absurd hr.2.1 (by decide)
end Go.Proofs.YthmikfkdjnidmaaDoor
