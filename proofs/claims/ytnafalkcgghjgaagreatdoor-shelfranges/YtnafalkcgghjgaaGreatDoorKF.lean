/- A walk over the statements' filled. -/
import Derived.Test.YtnafalkcgghjgaaGreatDoorK
namespace Go.Proofs.YtnafalkcgghjgaaGreatDoor
open Go.RowKit Go.Shelf
def fillN (L : Int) : Nat := if L = 0 then 1024 else if L < 0 ∨ 3000 < L then 1 else L.toNat
def fillS (L : Int) (f : Nat) : ByteArray := strOf (List.replicate (fillN L) (UInt8.ofNat f))
theorem fillN_le (L : Int) : fillN L ≤ 3000 ∧ 1 ≤ fillN L := by unfold fillN; split <;> (try split) <;> omega
theorem fillS_size (L : Int) (f : Nat) : (fillS L f).size = fillN L := by unfold fillS; rw [strOf_size]; simp
def u8r (f m n : Nat) : Array Value := (List.replicate m (Value.int .u8 (f : Int)) ++ List.replicate (n - m) (Value.int .u8 0)).toArray
theorem u8r_made (f n : Nat) : madeCells #[Value.int .u8 0] n = u8r f 0 n := by
  apply Array.ext
  · simp [madeCells, u8r]
  · intro i h1 h2
    simp [madeCells, u8r, Nat.mod_one]
theorem u8r_set (f m n : Nat) (h : m < n) : (u8r f m n).setIfInBounds m (.int .u8 (f : Int)) = u8r f (m + 1) n := by
  simp only [u8r, List.setIfInBounds_toArray]
  congr 1
  rw [List.set_append_right _ _ (by simp)]
  rw [List.length_replicate, Nat.sub_self, show n - m = (n - (m + 1)) + 1 by omega, List.replicate_succ (n := n - (m + 1)), List.set_cons_zero, List.replicate_succ', List.append_assoc]
  rfl
theorem conv_row (W : World) (g n : Nat) (l : List UInt8) (hl : l.length = n) (h : ∀ i, i < n → W.cell? ⟨g, 0 + i, none⟩ = some (.int .u8 (((l.getD i 0).toNat : Nat) : Int))) :
    (convert 67 9 (.slice (some ⟨g, 0, none⟩) n n)).run Tryz.prog W = .ok (.string (strOf l)) W := by
  rw [run_convert_bytes_arg (P := Tryz.prog) W 67 5 Tryz.underlying67 Tryz.underlying5 g 0 n n (l.map fun u => (u.toNat : Int)) (by simpa using hl) (fun i hi => by
    rw [h i hi]
    simp [List.getD, show i < l.length by omega]) 9 Tryz.underlying9]
  congr 3
  simp [strOfNums, List.map_map, Function.comp_def]
  rfl
end Go.Proofs.YtnafalkcgghjgaaGreatDoor
