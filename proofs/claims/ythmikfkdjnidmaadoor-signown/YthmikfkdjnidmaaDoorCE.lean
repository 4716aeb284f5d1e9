/- Walk over the program's Check. -/
import Derived.Test.YthmikfkdjnidmaaDoorCD
namespace Go.Proofs.YthmikfkdjnidmaaDoor
open Go.RowKit
theorem str_at (s : ByteArray) (k x : Nat) (hk : k < s.size) (hx : (s.data.toList.getD k 0).toNat = x) (W : World) : (Instr.index 9 (.string s) (.int .i64 (k : Int))).run Tryd.prog W = .ok (.int .u8 (x : Int)) W := by
  have hk' : k < s.data.size := hk
  rw [run_index_string W 9 s .i64 (k : Int) Tryd.underlying9, dif_pos ⟨by omega, by omega⟩]
  congr 2
  rw [← hx, List.getD_eq_getElem?_getD, Array.getElem?_toList, Array.getElem?_eq_getElem hk']
  rfl
end Go.Proofs.YthmikfkdjnidmaaDoor
