/- Rows of the call's own; strings. -/
import Derived.Test.YtjpkngbjjgimjaaDoorBA
import Derived.Deep.AppendSrc
import Derived.Deep.RegionHeld
import Derived.Deep.AppendLies
namespace Go.Proofs.YtjpkngbjjgimjaaDoor
open Go.RowKit
theorem str_ne {a b : ByteArray} (h : ¬ a = b) : ¬ a.toList = b.toList := fun e => h (by
  rw [ByteArray.toList_eq a, ByteArray.toList_eq b] at e
  exact ByteArray.ext (Array.toList_inj.1 e))
theorem str_nb {a b : ByteArray} (h : ¬ a = b) : (a.toList == b.toList) = false := by
  have := str_ne h
  simpa using this
/-- A row that is owned, written at one place. -/
theorem own_put {W : World} {base g cp n e : Nat} {xs : List Value} (h : W.ownsRow base e 1 (.slice (some ⟨g, 0, none⟩) n cp) n xs) (t : Nat) (x : Value) : (W.setCell ⟨g, t, none⟩ x).ownsRow base e 1 (.slice (some ⟨g, 0, none⟩) n cp) n (xs.set t x) := by
  obtain ⟨h1, h2⟩ := h
  refine ⟨by simpa using h1, ?_⟩
  rcases h2 with ⟨h2, _⟩ | ⟨g', cap', cur, e, hb, hr, h3, h4, h5, h6⟩
  · cases h2
  · cases e
    refine .inr ⟨g, cp, cur.setIfInBounds t x, rfl, hb, heap_setCell_same W g t _ _ _ hr, h3, h4, by simpa using h5, ?_⟩
    rw [Array.toList_setIfInBounds, List.take_set, h6]
theorem own_keep {W W' : World} {base e sz n : Nat} {v : Value} {xs : List Value} (h : W.ownsRow base e sz v n xs) (hk : ∀ k, v.ownBlock = some k → W'.heap[k]? = W.heap[k]?) : W'.ownsRow base e sz v n xs := by
  obtain ⟨h1, h2⟩ := h
  refine ⟨h1, ?_⟩
  rcases h2 with h2 | ⟨g', cap', cur, rfl, hb, hr, h3⟩
  · exact .inl h2
  · exact .inr ⟨g', cap', cur, rfl, hb, (hk g' rfl).trans hr, h3⟩
theorem own_base {W : World} {base base' e sz n : Nat} {v : Value} {xs : List Value} (h : W.ownsRow base e sz v n xs) (hb : base' ≤ base) : W.ownsRow base' e sz v n xs := by
  obtain ⟨h1, h2⟩ := h
  refine ⟨h1, ?_⟩
  rcases h2 with h2 | ⟨g', cap', cur, rfl, hb', hr, h3⟩
  · exact .inl h2
  · exact .inr ⟨g', cap', cur, rfl, Nat.le_trans hb hb', hr, h3⟩
theorem own_fro {W : World} {base g cp n e sz : Nat} {xs : List Value} (h : W.ownsRow base e sz (.slice (some ⟨g, 0, none⟩) n cp) n xs) (t : Nat) : W.frozen? ⟨g, t, none⟩ = false := by
  rcases h.2 with ⟨h2, _⟩ | ⟨g', cap', cur, e, hb, hr, _⟩
  · cases h2
  · cases e
    exact frozen_of_row W g t _ _ hr
theorem own_at {W : World} {base g cp n e sz : Nat} {xs : List Value} (h : W.ownsRow base e sz (.slice (some ⟨g, 0, none⟩) n cp) n xs) {j : Nat} {u : Value} (hu : xs[j]? = some u) : W.cell? ⟨g, j, none⟩ = some u := by
  have := h.cells (g := g) rfl j u hu
  rwa [add_at, Nat.zero_add] at this
theorem own_cap {W : World} {base g cp n e sz : Nat} {xs : List Value} (h : W.ownsRow base e sz (.slice (some ⟨g, 0, none⟩) n cp) n xs) : n ≤ cp ∧ cp ≤ maxLen := by
  rcases h.2 with ⟨h2, _⟩ | ⟨g', cap', cur, e, hb, hr, h3, h4, _⟩
  · cases h2
  · cases e
    exact ⟨h3, h4⟩
def ob (a : Option Addr) : Option Nat := a.map Addr.block
theorem ob_slice (a : Option Addr) (n c : Nat) : (Value.slice a n c).ownBlock = ob a := by cases a <;> rfl
end Go.Proofs.YtjpkngbjjgimjaaDoor
