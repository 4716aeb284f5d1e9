/- Numbers that came in; what RollWindows wants of a Window and of texts. -/
import Derived.Test.YteiigaoniipedaaK
import Derived.Test.YteiigaoniipedaaC
namespace Go.Proofs.Yteiigaoniipedaa
open Go.RowKit
theorem IsRow.ints {w : World} {a : Option Addr} {len cap : Nat} {zs : List Int} (h : IsRow .i64 w a len cap zs) (h0 : 0 < len) :
    ∃ bb bo, a = some ⟨bb, bo, none⟩ ∧ bb < w.heap.size ∧ ∀ i, i < len → ∃ z : Int, w.cell? ⟨bb, bo + i, none⟩ = some (.int .i64 z) ∧ -9223372036854775808 ≤ z ∧ z ≤ 9223372036854775807 := by
  rcases h with ⟨_, rfl, _, _⟩ | ⟨x, rfl, h1, h2, h3, h4, h5⟩
  · omega
  · obtain ⟨b, o, rfl⟩ := spot_none (h4 0 (by omega))
    have h40 := h4 0 (by omega)
    refine ⟨b, o, rfl, ?_, fun i hi => ?_⟩
    · have := block_lt_of_cell h40
      rwa [add_block] at this
    · have := h4 i (by omega)
      rw [add_at] at this
      have hz := wf_i64 (h5 (zs[i]'(by omega)) (List.getElem_mem _))
      refine ⟨_, this, ?_⟩
      rw [List.getD_eq_getElem?_getD, List.getElem?_eq_getElem (show i < zs.length by omega)]
      exact hz
theorem IsRow.lens {k : IntKind} {w : World} {a : Option Addr} {len cap : Nat} {zs : List Int} (h : IsRow k w a len cap zs) : len ≤ 9223372036854775807 := by
  rcases h with ⟨_, rfl, _, _⟩ | ⟨x, rfl, h1, h2, h3, h4, h5⟩
  · omega
  · unfold maxLen at h2; omega
theorem put_last (L : List UInt8) (c : UInt8) (n : Nat) (h1 : 1 ≤ n) (hL : L.length ≤ n) : lastN (L ++ [c]) n = putL L c n := by
  unfold lastN putL
  rw [List.length_append, List.length_singleton]
  by_cases h : L.length < n
  · rw [if_pos h, show L.length + 1 - n = 0 by omega, List.drop_zero]
  · rw [if_neg h, show L.length + 1 - n = 1 by omega, List.drop_append_of_le_length (by omega)]
theorem putL_len (L : List UInt8) (c : UInt8) (n : Nat) (h1 : 1 ≤ n) (hL : L.length ≤ n) : (putL L c n).length ≤ n := by
  unfold putL
  split <;> simp <;> omega
theorem WinIs.len {w : World} {r g n : Nat} {l : List UInt8} (h : WinIs w r g n l) : l.length ≤ n ∧ 1 ≤ n := by
  obtain ⟨_, _, ring, f, hr, _, _⟩ := h
  exact ⟨hr.kl, by have := hr.kf; omega⟩
theorem WinIs.drew {w : World} {r g n : Nat} {l : List UInt8} (h : WinIs w r g n l) : WinIs w.drew r g n l := h
theorem conv_u8v (W : World) (g : Nat) (l : List UInt8) (h : W.heap[g]? = some (.cells (u8v l) 5 (0, 0))) : (convert 22 9 (.slice (some ⟨g, 0, none⟩) l.length l.length)).run Try.prog W = .ok (.string (strOf l)) W :=
  conv_row W g 0 l.length l.length l rfl (fun i hi => by rw [Nat.zero_add, cell_of_row W g i _ _ _ h, u8v_get l i hi])
end Go.Proofs.Yteiigaoniipedaa
