/- The memory of the document's Mix. -/
import Derived.Test.YtbflkkffpcaakabDoorT
import Derived.Laws.Rows
import Derived.BigQuiet
import Derived.Deep.RegionHeld
namespace Go.Proofs.YtbflkkffpcaakabDoor
open Go.RowKit
/-- Words as an array's cells. -/
def u32v (l : List Nat) : Array Value := (l.map fun (x : Nat) => Value.int .u32 (x : Int)).toArray
theorem u32v_get (l : List Nat) (i : Nat) (h : i < l.length) : (u32v l)[i]? = some (.int .u32 ((l.getD i 0 : Nat) : Int)) := by
  simp [u32v, h]
theorem u32v_set (l : List Nat) (i x : Nat) : (u32v l).setIfInBounds i (.int .u32 (x : Int)) = u32v (l.set i x) := by
  simp [u32v, List.map_set]
theorem set_mid (l : List Nat) (n : Nat) (x : Nat) : (l ++ List.replicate (n + 1) 0).set l.length x = (l ++ [x]) ++ List.replicate n 0 := by
  rw [List.set_append_right _ _ (Nat.le_refl _), Nat.sub_self, List.replicate_succ, List.set_cons_zero]; simp

/-- The memory of Mix: what lies in its four arrays. -/
structure MixW (g : Nat) (w0 : World) (ks ss rs ws : List Nat) (wr : World) : Prop where
  kc : wr.heap[g]? = some (.cells (u32v ks) 74 (0, 0))
  sc : wr.heap[g + 1]? = some (.cells (u32v ss) 63 (0, 0))
  rc : wr.heap[g + 2]? = some (.cells (u32v rs) 63 (0, 0))
  wc : wr.heap[g + 3]? = some (.cells (u32v ws) 74 (0, 0))
  sz : wr.heap.size = g + 4
  bl : Below g w0 wr
theorem MixW.wcell {g w0 ks ss rs ws wr} (h : MixW g w0 ks ss rs ws wr) (i : Nat) (hi : i < ws.length) : wr.cell? ⟨g + 3, i, none⟩ = some (.int .u32 ((ws.getD i 0 : Nat) : Int)) := by
  rw [cell_of_row wr (g + 3) i _ _ _ h.wc, u32v_get ws i hi]
theorem MixW.wput {g w0 ks ss rs ws wr} (h : MixW g w0 ks ss rs ws wr) (i x : Nat) : MixW g w0 ks ss rs (ws.set i x) (wr.setCell ⟨g + 3, i, none⟩ (.int .u32 (x : Int))) := by
  refine ⟨?_, ?_, ?_, ?_, ?_, ?_⟩
  · rw [heap_setCell_other _ _ _ _ (by show g ≠ g + 3; omega)]; exact h.kc
  · rw [heap_setCell_other _ _ _ _ (by show g + 1 ≠ g + 3; omega)]; exact h.sc
  · rw [heap_setCell_other _ _ _ _ (by show g + 2 ≠ g + 3; omega)]; exact h.rc
  · rw [heap_setCell_same wr (g + 3) i _ _ _ h.wc, u32v_set]
  · rw [World.size_setCell]; exact h.sz
  · exact h.bl.setCell (by show g ≤ g + 3; omega) _
theorem MixW.drew {g w0 ks ss rs ws wr} (h : MixW g w0 ks ss rs ws wr) : MixW g w0 ks ss rs ws wr.drew := ⟨h.kc, h.sc, h.rc, h.wc, h.sz, h.bl.drew⟩
theorem MixW.start (w : World) (ks ss rs ws : List Nat) : MixW w.heap.size w ks ss rs ws ((((w.alloc (.cells (u32v ks) 74)).alloc (.cells (u32v ss) 63)).alloc (.cells (u32v rs) 63)).alloc (.cells (u32v ws) 74)) := by
  have sz : ∀ (w : World) (o : Obj), (w.alloc o).heap.size = w.heap.size + 1 := fun w o => by simp
  refine ⟨?_, ?_, ?_, ?_, ?_, ?_⟩
  · rw [Go.heap_alloc_old _ _ (by first | omega | (simp only [sz]; omega)), Go.heap_alloc_old _ _ (by first | omega | (simp only [sz]; omega)), Go.heap_alloc_old _ _ (by first | omega | (simp only [sz]; omega)), heap_alloc_new]
  · rw [Go.heap_alloc_old _ _ (by first | omega | (simp only [sz]; omega)), Go.heap_alloc_old _ _ (by first | omega | (simp only [sz]; omega))]
    exact sz w _ ▸ heap_alloc_new _ _
  · rw [Go.heap_alloc_old _ _ (by first | omega | (simp only [sz]; omega))]
    have := heap_alloc_new ((w.alloc (.cells (u32v ks) 74)).alloc (.cells (u32v ss) 63)) (.cells (u32v rs) 63)
    rwa [sz, sz] at this
  · have := heap_alloc_new (((w.alloc (.cells (u32v ks) 74)).alloc (.cells (u32v ss) 63)).alloc (.cells (u32v rs) 63)) (.cells (u32v ws) 74)
    rwa [sz, sz, sz] at this
  · simp only [sz]
  · exact ((((Below.refl _ w).alloc (by first | omega | (simp only [sz]; omega)) _).alloc (by first | omega | (simp only [sz]; omega)) _).alloc (by first | omega | (simp only [sz]; omega)) _).alloc (by first | omega | (simp only [sz]; omega)) _
theorem MixW.wfro {g w0 ks ss rs ws wr} (h : MixW g w0 ks ss rs ws wr) (i : Nat) : wr.frozen? ⟨g + 3, i, none⟩ = false := frozen_of_row wr (g + 3) i _ _ h.wc

theorem wordsOf_snoc (b : List UInt8) (t : Nat) (h : t < 16) : (wordsOf b).take (t + 1) = (wordsOf b).take t ++ [(b.getD (4 * t) 0).toNat * 16777216 + (b.getD (4 * t + 1) 0).toNat * 65536 + (b.getD (4 * t + 2) 0).toNat * 256 + (b.getD (4 * t + 3) 0).toNat] := by
  rw [List.take_add_one]
  simp [wordsOf, List.getElem?_range h]
theorem wordsOf_len (b : List UInt8) : (wordsOf b).length = 16 := by simp [wordsOf]

theorem MixW.scell {g w0 ks ss rs ws wr} (h : MixW g w0 ks ss rs ws wr) (i : Nat) (hi : i < ss.length) : wr.cell? ⟨g + 1, i, none⟩ = some (.int .u32 ((ss.getD i 0 : Nat) : Int)) := by
  rw [cell_of_row wr (g + 1) i _ _ _ h.sc, u32v_get ss i hi]
/-- .. with the state that is mixed. -/
structure MixZ (g : Nat) (w0 : World) (ks ss rs ws zs : List Nat) (wr : World) : Prop where
  kc : wr.heap[g]? = some (.cells (u32v ks) 74 (0, 0))
  sc : wr.heap[g + 1]? = some (.cells (u32v ss) 63 (0, 0))
  rc : wr.heap[g + 2]? = some (.cells (u32v rs) 63 (0, 0))
  wc : wr.heap[g + 3]? = some (.cells (u32v ws) 74 (0, 0))
  zc : wr.heap[g + 4]? = some (.cells (u32v zs) 63 (0, 0))
  sz : wr.heap.size = g + 5
  bl : Below g w0 wr
theorem MixW.more {g w0 ks ss rs ws wr} (h : MixW g w0 ks ss rs ws wr) (zs : List Nat) : MixZ g w0 ks ss rs ws zs (wr.alloc (.cells (u32v zs) 63)) := by
  have hz := h.sz
  refine ⟨?_, ?_, ?_, ?_, ?_, ?_, ?_⟩
  · rw [Go.heap_alloc_old _ _ (by omega)]; exact h.kc
  · rw [Go.heap_alloc_old _ _ (by omega)]; exact h.sc
  · rw [Go.heap_alloc_old _ _ (by omega)]; exact h.rc
  · rw [Go.heap_alloc_old _ _ (by omega)]; exact h.wc
  · rw [← hz]; exact heap_alloc_new _ _
  · simp [hz]
  · exact h.bl.alloc (by omega) _
section
variable {g : Nat} {w0 : World} {ks ss rs ws zs : List Nat} {wr : World}
theorem MixZ.drew (h : MixZ g w0 ks ss rs ws zs wr) : MixZ g w0 ks ss rs ws zs wr.drew := ⟨h.kc, h.sc, h.rc, h.wc, h.zc, h.sz, h.bl.drew⟩
theorem MixZ.kcell (h : MixZ g w0 ks ss rs ws zs wr) (i : Nat) (hi : i < ks.length) : wr.cell? ⟨g, i, none⟩ = some (.int .u32 ((ks.getD i 0 : Nat) : Int)) := by
  rw [cell_of_row wr g i _ _ _ h.kc, u32v_get ks i hi]
theorem MixZ.scell (h : MixZ g w0 ks ss rs ws zs wr) (i : Nat) (hi : i < ss.length) : wr.cell? ⟨g + 1, i, none⟩ = some (.int .u32 ((ss.getD i 0 : Nat) : Int)) := by
  rw [cell_of_row wr (g + 1) i _ _ _ h.sc, u32v_get ss i hi]
theorem MixZ.wcell (h : MixZ g w0 ks ss rs ws zs wr) (i : Nat) (hi : i < ws.length) : wr.cell? ⟨g + 3, i, none⟩ = some (.int .u32 ((ws.getD i 0 : Nat) : Int)) := by
  rw [cell_of_row wr (g + 3) i _ _ _ h.wc, u32v_get ws i hi]
theorem MixZ.zcell (h : MixZ g w0 ks ss rs ws zs wr) (i : Nat) (hi : i < zs.length) : wr.cell? ⟨g + 4, i, none⟩ = some (.int .u32 ((zs.getD i 0 : Nat) : Int)) := by
  rw [cell_of_row wr (g + 4) i _ _ _ h.zc, u32v_get zs i hi]
theorem MixZ.zfro (h : MixZ g w0 ks ss rs ws zs wr) (i : Nat) : wr.frozen? ⟨g + 4, i, none⟩ = false := frozen_of_row wr (g + 4) i _ _ h.zc
theorem MixZ.sfro (h : MixZ g w0 ks ss rs ws zs wr) (i : Nat) : wr.frozen? ⟨g + 1, i, none⟩ = false := frozen_of_row wr (g + 1) i _ _ h.sc
theorem MixZ.rfro (h : MixZ g w0 ks ss rs ws zs wr) (i : Nat) : wr.frozen? ⟨g + 2, i, none⟩ = false := frozen_of_row wr (g + 2) i _ _ h.rc
theorem MixZ.zput (h : MixZ g w0 ks ss rs ws zs wr) (i x : Nat) : MixZ g w0 ks ss rs ws (zs.set i x) (wr.setCell ⟨g + 4, i, none⟩ (.int .u32 (x : Int))) := by
  refine ⟨?_, ?_, ?_, ?_, ?_, ?_, ?_⟩
  · rw [heap_setCell_other _ _ _ _ (by show g ≠ g + 4; omega)]; exact h.kc
  · rw [heap_setCell_other _ _ _ _ (by show g + 1 ≠ g + 4; omega)]; exact h.sc
  · rw [heap_setCell_other _ _ _ _ (by show g + 2 ≠ g + 4; omega)]; exact h.rc
  · rw [heap_setCell_other _ _ _ _ (by show g + 3 ≠ g + 4; omega)]; exact h.wc
  · rw [heap_setCell_same wr (g + 4) i _ _ _ h.zc, u32v_set]
  · rw [World.size_setCell]; exact h.sz
  · exact h.bl.setCell (by show g ≤ g + 4; omega) _
theorem MixZ.sput (h : MixZ g w0 ks ss rs ws zs wr) (i x : Nat) : MixZ g w0 ks (ss.set i x) rs ws zs (wr.setCell ⟨g + 1, i, none⟩ (.int .u32 (x : Int))) := by
  refine ⟨?_, ?_, ?_, ?_, ?_, ?_, ?_⟩
  · rw [heap_setCell_other _ _ _ _ (by show g ≠ g + 1; omega)]; exact h.kc
  · rw [heap_setCell_same wr (g + 1) i _ _ _ h.sc, u32v_set]
  · rw [heap_setCell_other _ _ _ _ (by show g + 2 ≠ g + 1; omega)]; exact h.rc
  · rw [heap_setCell_other _ _ _ _ (by show g + 3 ≠ g + 1; omega)]; exact h.wc
  · rw [heap_setCell_other _ _ _ _ (by show g + 4 ≠ g + 1; omega)]; exact h.zc
  · rw [World.size_setCell]; exact h.sz
  · exact h.bl.setCell (by show g ≤ g + 1; omega) _
theorem MixZ.rcell (h : MixZ g w0 ks ss rs ws zs wr) (i : Nat) (hi : i < rs.length) : wr.cell? ⟨g + 2, i, none⟩ = some (.int .u32 ((rs.getD i 0 : Nat) : Int)) := by
  rw [cell_of_row wr (g + 2) i _ _ _ h.rc, u32v_get rs i hi]
theorem MixZ.rput (h : MixZ g w0 ks ss rs ws zs wr) (i x : Nat) : MixZ g w0 ks ss (rs.set i x) ws zs (wr.setCell ⟨g + 2, i, none⟩ (.int .u32 (x : Int))) := by
  refine ⟨?_, ?_, ?_, ?_, ?_, ?_, ?_⟩
  · rw [heap_setCell_other _ _ _ _ (by show g ≠ g + 2; omega)]; exact h.kc
  · rw [heap_setCell_other _ _ _ _ (by show g + 1 ≠ g + 2; omega)]; exact h.sc
  · rw [heap_setCell_same wr (g + 2) i _ _ _ h.rc, u32v_set]
  · rw [heap_setCell_other _ _ _ _ (by show g + 3 ≠ g + 2; omega)]; exact h.wc
  · rw [heap_setCell_other _ _ _ _ (by show g + 4 ≠ g + 2; omega)]; exact h.zc
  · rw [World.size_setCell]; exact h.sz
  · exact h.bl.setCell (by show g ≤ g + 2; omega) _
end
theorem eight_of_len (l : List Nat) (h : l.length = 8) : ∃ a b c d e f g h, l = [a, b, c, d, e, f, g, h] := by
  match l, h with
  | [a, b, c, d, e, f, g, h], _ => exact ⟨a, b, c, d, e, f, g, h, rfl⟩
end Go.Proofs.YtbflkkffpcaakabDoor
