/- A round's memory: the words, which of them, a quarter round's answer. -/
import Derived.Test.YtbflkkffpcaakabDoorWE
namespace Go.Proofs.YtbflkkffpcaakabDoor
open Go.RowKit
def i4v (l : List Nat) : Array Value := (l.map fun (x : Nat) => Value.int .i64 (x : Int)).toArray
theorem i4v_get (l : List Nat) (i : Nat) (h : i < l.length) : (i4v l)[i]? = some (.int .i64 ((l.getD i 0 : Nat) : Int)) := by
  simp [i4v, h]
/-- The words of which k are put. -/
def putN (s p y : List Nat) : Nat → List Nat
  | 0 => s
  | k + 1 => (putN s p y k).set (p.getD k 0) (y.getD k 0)
theorem putN_len (s p y : List Nat) (k : Nat) : (putN s p y k).length = s.length := by
  induction k with
  | zero => rfl
  | succ k ih => rw [putN, List.length_set, ih]
theorem putN_4 (s p : List Nat) : putN s p (quarterL (s.getD (p.getD 0 0) 0) (s.getD (p.getD 1 0) 0) (s.getD (p.getD 2 0) 0) (s.getD (p.getD 3 0) 0)) 4 = atP s p := rfl
structure RdW (w0 : World) (B A G : Nat) (s p y : List Nat) (wr : World) : Prop where
  rs : wr.heap[B]? = some (.cells (u32v s) 41 (0, 0))
  ra : wr.heap[A]? = some (.cells (i4v p) 56 (0, 0))
  rq : wr.heap[G]? = some (.cells (u32v y) 58 (0, 0))
  rz : wr.heap[B + 1]? = some (.cells (u32v zeros16) 41 (0, 0))
  ab : A ≠ B
  gb : G ≠ B
  bl : Below B w0 wr
section
variable {w0 wr w' : World} {B A G : Nat} {s p y : List Nat}
theorem RdW.sc (h : RdW w0 B A G s p y wr) (i : Nat) (hi : i < s.length) : wr.cell? ⟨B, i, none⟩ = some (.int .u32 ((s.getD i 0 : Nat) : Int)) := by
  rw [cell_of_row wr B i _ _ _ h.rs, u32v_get s i hi]
theorem RdW.ac (h : RdW w0 B A G s p y wr) (i : Nat) (hi : i < p.length) : wr.cell? ⟨A, i, none⟩ = some (.int .i64 ((p.getD i 0 : Nat) : Int)) := by
  rw [cell_of_row wr A i _ _ _ h.ra, i4v_get p i hi]
theorem RdW.qc (h : RdW w0 B A G s p y wr) (i : Nat) (hi : i < y.length) : wr.cell? ⟨G, i, none⟩ = some (.int .u32 ((y.getD i 0 : Nat) : Int)) := by
  rw [cell_of_row wr G i _ _ _ h.rq, u32v_get y i hi]
theorem RdW.sf (h : RdW w0 B A G s p y wr) (i : Nat) : wr.frozen? ⟨B, i, none⟩ = false := frozen_of_row wr B i _ _ h.rs
theorem RdW.put (h : RdW w0 B A G s p y wr) (i x : Nat) : RdW w0 B A G (s.set i x) p y (wr.setCell ⟨B, i, none⟩ (.int .u32 (x : Int))) :=
  ⟨by rw [heap_setCell_same wr B i _ _ _ h.rs, u32v_set], by rw [heap_setCell_other _ _ _ _ h.ab]; exact h.ra, by rw [heap_setCell_other _ _ _ _ h.gb]; exact h.rq, by rw [heap_setCell_other _ _ _ _ (by show B + 1 ≠ B; omega)]; exact h.rz, h.ab, h.gb, h.bl.setCell (Nat.le_refl _) _⟩
theorem RdW.drew (h : RdW w0 B A G s p y wr) : RdW w0 B A G s p y wr.drew := ⟨h.rs, h.ra, h.rq, h.rz, h.ab, h.gb, h.bl.drew⟩
end
theorem quart_get : ∀ n, n < 8 → (qPlaces.getD n []).length = 4 ∧ ∀ k, k < 4 → (qPlaces.getD n []).getD k 0 < 16 := by decide
/-- What a round goes on from. -/
structure RoW (w0 : World) (B : Nat) (s : List Nat) (wr : World) : Prop where
  rs : wr.heap[B]? = some (.cells (u32v s) 41 (0, 0))
  rz : wr.heap[B + 1]? = some (.cells (u32v zeros16) 41 (0, 0))
  bl : Below B w0 wr
end Go.Proofs.YtbflkkffpcaakabDoor
