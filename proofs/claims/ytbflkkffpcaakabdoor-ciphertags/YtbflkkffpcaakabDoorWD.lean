/- Sixteen words in memory, the four of a quarter round beside them. -/
import Derived.Test.YtbflkkffpcaakabDoorWC
namespace Go.Proofs.YtbflkkffpcaakabDoor
open Go.RowKit
/-- At B the words s, at G other words, at R what a result lies in. -/
structure AtW (w0 : World) (b0 B G R : Nat) (s q z : List Nat) (wr : World) : Prop where
  rs : wr.heap[B]? = some (.cells (u32v s) 41 (0, 0))
  rq : wr.heap[G]? = some (.cells (u32v q) 58 (0, 0))
  rz : wr.heap[R]? = some (.cells (u32v z) 41 (0, 0))
  gb : G ≠ B
  rb : R ≠ B
  le : b0 ≤ B
  bl : Below b0 w0 wr
section
variable {w0 wr w' : World} {b0 B G R : Nat} {s q z : List Nat}
theorem AtW.sc (h : AtW w0 b0 B G R s q z wr) (i : Nat) (hi : i < s.length) : wr.cell? ⟨B, i, none⟩ = some (.int .u32 ((s.getD i 0 : Nat) : Int)) := by
  rw [cell_of_row wr B i _ _ _ h.rs, u32v_get s i hi]
theorem AtW.qc (h : AtW w0 b0 B G R s q z wr) (i : Nat) (hi : i < q.length) : wr.cell? ⟨G, i, none⟩ = some (.int .u32 ((q.getD i 0 : Nat) : Int)) := by
  rw [cell_of_row wr G i _ _ _ h.rq, u32v_get q i hi]
theorem AtW.sf (h : AtW w0 b0 B G R s q z wr) (i : Nat) : wr.frozen? ⟨B, i, none⟩ = false := frozen_of_row wr B i _ _ h.rs
theorem AtW.put (h : AtW w0 b0 B G R s q z wr) (i x : Nat) : AtW w0 b0 B G R (s.set i x) q z (wr.setCell ⟨B, i, none⟩ (.int .u32 (x : Int))) :=
  ⟨by rw [heap_setCell_same wr B i _ _ _ h.rs, u32v_set], by rw [heap_setCell_other _ _ _ _ h.gb]; exact h.rq, by rw [heap_setCell_other _ _ _ _ h.rb]; exact h.rz, h.gb, h.rb, h.le, h.bl.setCell h.le _⟩
theorem AtW.drew (h : AtW w0 b0 B G R s q z wr) : AtW w0 b0 B G R s q z wr.drew := ⟨h.rs, h.rq, h.rz, h.gb, h.rb, h.le, h.bl.drew⟩
end
theorem info_a16 : (Tryd.prog.info? 41).map (·.size) = some 16 := by kernel_rfl
theorem infoU16 (l : List Nat) (h : l.length = 16) : (Tryd.prog.info? 41).map (·.size) = some (u32v l).size := by rw [u32v_size, h]; exact info_a16
theorem infoU4 (l : List Nat) (h : l.length = 4) : (Tryd.prog.info? 58).map (·.size) = some (u32v l).size := by rw [u32v_size, h]; exact info_a4
def zeros16 : List Nat := List.replicate 16 0
/-- A row of four words that is put cell by cell. -/
theorem row_put4 (W : World) (g : Nat) (n0 n1 n2 n3 : Nat) (h : W.heap[g]? = some (.cells (u32v [0, 0, 0, 0]) 58 (0, 0))) :
    ((((W.setCell ⟨g, 0, none⟩ (.int .u32 (n0 : Int))).setCell ⟨g, 1, none⟩ (.int .u32 (n1 : Int))).setCell ⟨g, 2, none⟩ (.int .u32 (n2 : Int))).setCell ⟨g, 3, none⟩ (.int .u32 (n3 : Int))).heap[g]? = some (.cells (u32v [n0, n1, n2, n3]) 58 (0, 0)) := by
  have h0 := heap_setCell_same _ g 0 _ _ (.int .u32 (n0 : Int)) h
  rw [u32v_set] at h0
  have h1 := heap_setCell_same _ g 1 _ _ (.int .u32 (n1 : Int)) h0
  rw [u32v_set] at h1
  have h2 := heap_setCell_same _ g 2 _ _ (.int .u32 (n2 : Int)) h1
  rw [u32v_set] at h2
  have h3 := heap_setCell_same _ g 3 _ _ (.int .u32 (n3 : Int)) h2
  rw [u32v_set] at h3
  exact h3
end Go.Proofs.YtbflkkffpcaakabDoor
