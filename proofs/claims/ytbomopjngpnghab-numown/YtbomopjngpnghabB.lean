/- Rows of bytes that a walk writes into; the walk over NumOwn, its beginning. -/
import Derived.Test.YtbomopjngpnghabY
import Derived.Test.YtbomopjngpnghabZ
import Derived.Laws.CopyOwn
namespace Go.Proofs.Ytbomopjngpnghab
open Go.RowKit

/-- A row of bytes, by its whole block. -/
def Row (w : World) (g : Nat) (zs : List Int) : Prop := w.heap[g]? = some (.cells (zs.map (Value.int .u8)).toArray 5 (0, 0))

theorem Row.cell {w : World} {g : Nat} {zs : List Int} (h : Row w g zs) (i : Nat) (hi : i < zs.length) : w.cell? ⟨g, i, none⟩ = some (.int .u8 zs[i]) := by
  rw [cell_of_row w g i _ 5 (0, 0) h]; simp [hi]
theorem Row.free {w : World} {g : Nat} {zs : List Int} (h : Row w g zs) (i : Nat) : w.frozen? ⟨g, i, none⟩ = false := frozen_of_row w g i _ 5 h
theorem Row.set {w : World} {g : Nat} {zs : List Int} (h : Row w g zs) (i : Nat) (z : Int) : Row (w.setCell ⟨g, i, none⟩ (.int .u8 z)) g (zs.set i z) := by
  unfold Row
  rw [heap_setCell_same w g i _ 5 _ h]
  simp [List.setIfInBounds_toArray, List.map_set]
theorem grownBy_setCell (w : World) (g i : Nat) (v : Value) : w.grownBy (w.setCell ⟨g, i, none⟩ v) (some g) :=
  ⟨rfl, rfl, rfl, by simp [World.setCell], fun k _ hk => heap_setCell_other w ⟨g, i, none⟩ k v (fun e => hk (by simp [e]))⟩
theorem Row.on {w w' : World} {g : Nat} {zs : List Int} (h : Row w g zs) (hb : Below w.heap.size w w') : Row w' g zs := by
  unfold Row at *
  rw [hb.block g (Array.getElem?_eq_some_iff.1 h).1]; exact h
theorem Row.lt {w : World} {g : Nat} {zs : List Int} (h : Row w g zs) : g < w.heap.size := (Array.getElem?_eq_some_iff.1 h).1
theorem Row.kept {w w' : World} {g r : Nat} {zs : List Int} (h : Row w g zs) (hb : w.grownBy w' (some r)) (hr : g ≠ r) : Row w' g zs := by
  unfold Row at *
  rw [hb.block g (Array.getElem?_eq_some_iff.1 h).1 (by simpa using hr)]; exact h

def toInts (bs : List UInt8) : List Int := bs.map fun u => (u.toNat : Int)
theorem Row.ofOwn {w : World} {base g n : Nat} {bs : List UInt8} (h : w.ownsRow base 5 1 (.slice (some ⟨g, 0, none⟩) n n) n (bytesV bs)) : Row w g (toInts bs) := by
  have hl : bs.length = n := by have := h.1; simpa [bytesV] using this
  obtain ⟨_, h2⟩ := h
  rcases h2 with ⟨e, _⟩ | ⟨g', cap', cur, e, _, hg, _, _, hcs, ht⟩
  · cases e
  · cases e
    unfold Row
    rw [hg]
    congr 2
    have : cur.toList = bytesV bs := by
      rw [← ht, List.take_of_length_le (by simp; omega)]
    rw [← Array.toArray_toList (xs := cur), this]
    simp [bytesV, toInts]
theorem Row.bs {w : World} {g : Nat} {bs rest : List UInt8} (h : Row w g (toInts (bs ++ rest))) (hl : (bs ++ rest).length ≤ 1000000) : Bs w (some ⟨g, 0, none⟩) bs.length (bs ++ rest).length bs := by
  refine ⟨rfl, by simp, by omega, (by intro e; cases e), ?_⟩
  intro ad had i hi
  cases had
  rw [Addr.add_lit, Nat.zero_add, h.cell i (by simp [toInts]; omega)]
  simp only [toInts, List.getElem_map]
  rw [List.getElem_append_left hi]

theorem int_len (bs : List UInt8) : (toInts bs).length = bs.length := by simp [toInts]
end Go.Proofs.Ytbomopjngpnghab
