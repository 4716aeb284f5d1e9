/- A nil Window; bytes that were told, written over. -/
import Derived.Test.YteiigaoniipedabK
namespace Go.Proofs.Yteiigaoniipedab
open Go.RowKit
set_option maxHeartbeats 400000 in
theorem put_nil (c : Int) (w : World) : Calls Try.prog 4 #[.pointer none, .int .u8 c] w fun e w' => e = .returned (.tuple #[]) ∧ w' = w := by
  go_enter Try.func4, Try.ntmps4
  go_wp2
  refine bodyPost_ret (v := .tuple #[]) ?_ rfl ⟨rfl, rfl⟩
  simp [results, go_sem]
set_option maxHeartbeats 400000 in
theorem bytes_nil (w : World) : Calls Try.prog 8 #[.pointer none] w fun e w' => e = .returned (.slice none 0 0) ∧ w' = w := by
  go_enter Try.func8, Try.ntmps8
  go_wp2
  go_ret
  exact ⟨rfl, rfl⟩
theorem WinIs.len {w : World} {r g n : Nat} {l : List UInt8} (h : WinIs w r g n l) : l.length ≤ n ∧ 1 ≤ n := by
  obtain ⟨_, _, ring, f, hr, _, _⟩ := h
  exact ⟨hr.kl, by have := hr.kf; omega⟩
theorem conv_u8v (W : World) (g : Nat) (l : List UInt8) (h : W.heap[g]? = some (.cells (u8v l) 5 (0, 0))) : (convert 22 9 (.slice (some ⟨g, 0, none⟩) l.length l.length)).run Try.prog W = .ok (.string (strOf l)) W :=
  conv_row W g 0 l.length l.length l rfl (fun i hi => by rw [Nat.zero_add, cell_of_row W g i _ _ _ h, u8v_get l i hi])
/-- A Window, and beside it K bytes at block b. -/
structure Beside (w0 : World) (r g n : Nat) (l : List UInt8) (b K : Nat) (w : World) : Prop where
  win : WinIs w r g n l
  row : ∃ ms : List UInt8, ms.length = K ∧ w.heap[b]? = some (.cells (u8v ms) 5 (0, 0))
  bel : Below w0.heap.size w0 w
theorem Beside.cell {w0 w : World} {r g n b K : Nat} {l : List UInt8} (h : Beside w0 r g n l b K w) (i : Nat) (hi : i < K) : ∃ x : Nat, x < 256 ∧ w.cell? ⟨b, i, none⟩ = some (.int .u8 (x : Int)) ∧ w.frozen? ⟨b, i, none⟩ = false := by
  obtain ⟨ms, hm, hr⟩ := h.row
  exact ⟨_, UInt8.toNat_lt (ms.getD i 0), by rw [cell_of_row w b i _ _ _ hr, u8v_get ms i (by omega)], frozen_of_row w b i _ _ hr⟩
theorem Beside.put {w0 w : World} {r g n b K : Nat} {l : List UInt8} (h : Beside w0 r g n l b K w) (hb : w0.heap.size ≤ b) (hg : b ≠ g) (hr : b ≠ r) (i y : Nat) (hy : y < 256) : Beside w0 r g n l b K (w.setCell ⟨b, i, none⟩ (.int .u8 (y : Int))) := by
  obtain ⟨ms, hm, hrow⟩ := h.row
  refine ⟨h.win.keep (heap_setCell_other _ _ _ _ (Ne.symm hg)) (heap_setCell_other _ _ _ _ (Ne.symm hr)), ⟨ms.set i (UInt8.ofNat y), by simpa using hm, ?_⟩, h.bel.setCell hb _⟩
  rw [heap_setCell_same w b i _ _ _ hrow, ← u8v_set, UInt8.toNat_ofNat', Nat.mod_eq_of_lt (by omega)]
end Go.Proofs.Yteiigaoniipedab
