/- Two bytes exchanged in a row that is owned. -/
import Derived.Test.YteiigaoniipedaaF
namespace Go.Proofs.Yteiigaoniipedaa
open Go.RowKit
theorem own_row {W : World} {base g cp n : Nat} {bs : List UInt8} (h : W.ownsRow base 5 1 (.slice (some ⟨g, 0, none⟩) n cp) n (bytesV bs)) :
    bs.length = n ∧ base ≤ g ∧ ∃ cur, W.heap[g]? = some (.cells cur 5 (0, 0)) ∧ n ≤ cp ∧ cp ≤ maxLen ∧ cur.size = cp ∧ cur.toList.take n = bytesV bs := by
  obtain ⟨h1, h2⟩ := h
  rcases h2 with ⟨h2, _⟩ | ⟨g', cap', cur, e, hb, hr, h3, h4, h5, h6⟩
  · cases h2
  · cases e
    exact ⟨by simpa [bytesV] using h1, hb, cur, hr, h3, h4, by simpa using h5, by simpa using h6⟩
theorem own_cell {W : World} {base g cp n : Nat} {bs : List UInt8} (h : W.ownsRow base 5 1 (.slice (some ⟨g, 0, none⟩) n cp) n (bytesV bs)) (t : Nat) (ht : t < n) : W.cell? ⟨g, t, none⟩ = some (.int .u8 (((bs.getD t 0).toNat : Nat) : Int)) := by
  obtain ⟨h1, _, cur, hr, h3, h4, h5, h6⟩ := own_row h
  rw [cell_of_row W g t _ _ _ hr]
  have e : cur.toList[t]? = (cur.toList.take n)[t]? := by rw [List.getElem?_take_of_lt ht]
  rw [← Array.getElem?_toList, e, h6]
  simp [bytesV, List.getElem?_eq_getElem (show t < bs.length by omega)]
theorem own_fro {W : World} {base g cp n : Nat} {bs : List UInt8} (h : W.ownsRow base 5 1 (.slice (some ⟨g, 0, none⟩) n cp) n (bytesV bs)) (t : Nat) : W.frozen? ⟨g, t, none⟩ = false := by
  obtain ⟨_, _, cur, hr, _⟩ := own_row h
  exact frozen_of_row W g t _ _ hr
theorem own_set {W : World} {base g cp n : Nat} {bs : List UInt8} (h : W.ownsRow base 5 1 (.slice (some ⟨g, 0, none⟩) n cp) n (bytesV bs)) (t : Nat) (x : UInt8) : (W.setCell ⟨g, t, none⟩ (.int .u8 (x.toNat : Int))).ownsRow base 5 1 (.slice (some ⟨g, 0, none⟩) n cp) n (bytesV (bs.set t x)) := by
  obtain ⟨h1, hb, cur, hr, h3, h4, h5, h6⟩ := own_row h
  refine ⟨by simp [bytesV, h1], .inr ⟨g, cp, cur.setIfInBounds t (.int .u8 (x.toNat : Int)), rfl, hb, heap_setCell_same W g t _ _ _ hr, h3, h4, by simpa using h5, ?_⟩⟩
  rw [Nat.mul_one, Array.toList_setIfInBounds, List.take_set, h6]
  simp [bytesV]
theorem swap_lists (bs : List UInt8) (t : Nat) (h : t + 1 < bs.length) :
    bs = bs.take t ++ bs.getD t 0 :: bs.getD (t + 1) 0 :: bs.drop (t + 2) ∧ (bs.set t (bs.getD (t + 1) 0)).set (t + 1) (bs.getD t 0) = bs.take t ++ bs.getD (t + 1) 0 :: bs.getD t 0 :: bs.drop (t + 2) := by
  have e : bs = bs.take t ++ bs.getD t 0 :: bs.getD (t + 1) 0 :: bs.drop (t + 2) := by
    simp [List.getElem?_eq_getElem (show t < bs.length by omega), List.getElem?_eq_getElem h]
  refine ⟨e, ?_⟩
  generalize bs.getD t 0 = x at e ⊢
  generalize bs.getD (t + 1) 0 = y at e ⊢
  have hl : (bs.take t).length = t := by simp; omega
  generalize bs.take t = l at e hl ⊢
  generalize bs.drop (t + 2) = m at e ⊢
  subst e
  rw [List.set_append_right _ _ (by omega), List.set_append_right _ _ (by omega)]
  simp [hl]
theorem swap_facts (l m : List UInt8) (x y : UInt8) (X Y : Nat) (hX : wsum (l ++ x :: y :: m) = X) (hY : wsum (l ++ y :: x :: m) = Y) :
    X % 65536 = Y % 65536 ∧ (Y / 65536 + x.toNat) % 65536 = (X / 65536 + y.toNat) % 65536 ∧ (X = Y ↔ x.toNat = y.toNat) := by
  have ha := wa_swap l m x y
  have hb := wb_swap l m x y
  have hx := x.toNat_lt
  have hy := y.toNat_lt
  unfold wsum at hX hY
  omega
end Go.Proofs.Yteiigaoniipedaa
