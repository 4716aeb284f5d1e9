/- Walk over the document's Words. -/
import Derived.Test.YtbflkkffpcaakabDoorC
import Derived.Test.YtbflkkffpcaakabDoorW
namespace Go.Proofs.YtbflkkffpcaakabDoor
open Go.RowKit
/-- The cube roots' words of the first 64 primes. -/
def kL : List Nat := (List.range 64).map fun i => rootW (primeN i) true
theorem kL_len : kL.length = 64 := by simp [kL]
theorem rootW_lt (p : Nat) (c : Bool) : rootW p c < 4294967296 := Nat.mod_lt _ (by omega)
theorem kL_wd : Wd kL := by
  intro x hx
  obtain ⟨i, _, rfl⟩ := List.mem_map.1 hx
  exact rootW_lt _ _
theorem kL_snoc (n : Nat) (h : n < 64) : kL.take (n + 1) = kL.take n ++ [rootW (primeN n) true] := by
  rw [List.take_add_one]
  simp [kL, List.getElem?_range h]
theorem u32v_size (l : List Nat) : (u32v l).size = l.length := by simp [u32v]
theorem u32v_all (l : List Nat) : (u32v l).all (·.oneCell') = true := by
  simp [u32v, Value.oneCell']
/-- The memory of Words: two arrays. -/
structure WordsW (g : Nat) (w0 : World) (rs ws : List Nat) (wr : World) : Prop where
  rc : wr.heap[g]? = some (.cells (u32v rs) 74 (0, 0))
  wc : wr.heap[g + 1]? = some (.cells (u32v ws) 74 (0, 0))
  sz : wr.heap.size = g + 2
  bl : Below g w0 wr
theorem WordsW.start (w : World) (rs ws : List Nat) : WordsW w.heap.size w rs ws ((w.alloc (.cells (u32v rs) 74)).alloc (.cells (u32v ws) 74)) := by
  have sz : ∀ (w : World) (o : Obj), (w.alloc o).heap.size = w.heap.size + 1 := fun w o => by simp
  refine ⟨?_, ?_, ?_, ?_⟩
  · rw [Go.heap_alloc_old _ _ (by simp only [sz]; omega)]; exact heap_alloc_new _ _
  · exact sz w _ ▸ heap_alloc_new _ _
  · simp only [sz]
  · exact ((Below.refl _ w).alloc (by omega) _).alloc (by simp only [sz]; omega) _
section
variable {g : Nat} {w0 : World} {rs ws : List Nat} {wr : World}
theorem WordsW.wcell (h : WordsW g w0 rs ws wr) (i : Nat) (hi : i < ws.length) : wr.cell? ⟨g + 1, i, none⟩ = some (.int .u32 ((ws.getD i 0 : Nat) : Int)) := by
  rw [cell_of_row wr (g + 1) i _ _ _ h.wc, u32v_get ws i hi]
theorem WordsW.wfro (h : WordsW g w0 rs ws wr) (i : Nat) : wr.frozen? ⟨g + 1, i, none⟩ = false := frozen_of_row wr (g + 1) i _ _ h.wc
theorem WordsW.wput (h : WordsW g w0 rs ws wr) (i x : Nat) : WordsW g w0 rs (ws.set i x) (wr.setCell ⟨g + 1, i, none⟩ (.int .u32 (x : Int))) := by
  refine ⟨?_, ?_, ?_, ?_⟩
  · rw [heap_setCell_other _ _ _ _ (by show g ≠ g + 1; omega)]; exact h.rc
  · rw [heap_setCell_same wr (g + 1) i _ _ _ h.wc, u32v_set]
  · rw [World.size_setCell]; exact h.sz
  · exact h.bl.setCell (by show g ≤ g + 1; omega) _
theorem below_setRow {B : Nat} {a w : World} (h : Below B a w) (g : Nat) (hg : B ≤ g) (cs : Array Value) : Below B a (w.setRow g cs) :=
  ⟨h.os, h.tape, h.output, by rw [size_setRow]; exact h.size, fun k hk => by rw [setRow_other w g k cs (by omega)]; exact h.block k hk⟩
end
end Go.Proofs.YtbflkkffpcaakabDoor
