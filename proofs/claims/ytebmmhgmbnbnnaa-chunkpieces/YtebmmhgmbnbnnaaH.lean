/- A Window in memory: what its ring says of the bytes; the walks over New, Clear, Sum. -/
import Derived.Test.YtebmmhgmbnbnnaaB
namespace Go.Proofs.Ytebmmhgmbnbnnaa
open Go.RowKit
/-- The place of the i-th byte in a ring of n whose first stands at f. -/
def idx (f i n : Nat) : Nat := if f + i < n then f + i else f + i - n
theorem idx_mod (f i n : Nat) (hf : f < n) (hi : i ≤ n) : (f + i) % n = idx f i n := by
  unfold idx
  split
  · exact Nat.mod_eq_of_lt (by omega)
  · rw [Nat.mod_eq_sub_mod (by omega), Nat.mod_eq_of_lt (by omega)]
theorem idx_lt (f i n : Nat) (hf : f < n) (hi : i ≤ n) : idx f i n < n := by unfold idx; split <;> omega
/-- What a ring says. -/
structure Rel (ring : List UInt8) (f n : Nat) (l : List UInt8) : Prop where
  kf : f < n
  kn : ring.length = n
  kl : l.length ≤ n
  ka : ∀ i, i < l.length → l.getD i 0 = ring.getD (idx f i n) 0
theorem getD_set (l : List UInt8) (i j : Nat) (x : UInt8) (hj : j < l.length) : (l.set i x).getD j 0 = if i = j then x else l.getD j 0 := by
  simp only [List.getD_eq_getElem?_getD, List.getElem?_set]
  by_cases h : i = j
  · subst h; simp [hj]
  · simp [h]
theorem Rel.none (n : Nat) (ring : List UInt8) (f : Nat) (hf : f < n) (hr : ring.length = n) : Rel ring f n [] := ⟨hf, hr, by simp, fun i hi => by simp at hi⟩
theorem Rel.add {ring : List UInt8} {f n : Nat} {l : List UInt8} (h : Rel ring f n l) (hl : l.length < n) (c : UInt8) : Rel (ring.set (idx f l.length n) c) f n (l ++ [c]) := by
  have hf := h.kf
  have hn := h.kn
  refine ⟨hf, by simpa using hn, by simp; omega, fun i hi => ?_⟩
  simp only [List.length_append, List.length_singleton] at hi
  have hi2 : idx f i n < ring.length := by rw [hn]; exact idx_lt f i n hf (by omega)
  rw [getD_set _ _ _ _ hi2]
  by_cases he : i = l.length
  · subst he
    rw [if_pos rfl, List.getD_eq_getElem?_getD, List.getElem?_append_right (by omega)]
    simp
  · rw [if_neg (by unfold idx; split <;> split <;> omega), ← h.ka i (by omega), List.getD_eq_getElem?_getD, List.getElem?_append_left (by omega), ← List.getD_eq_getElem?_getD]
theorem Rel.roll {ring : List UInt8} {f n : Nat} {l : List UInt8} (h : Rel ring f n l) (hl : l.length = n) (c : UInt8) : Rel (ring.set f c) (idx f 1 n) n (l.drop 1 ++ [c]) := by
  have hf := h.kf
  have hn := h.kn
  refine ⟨idx_lt f 1 n hf (by omega), by simpa using hn, by simp; omega, fun i hi => ?_⟩
  simp only [List.length_append, List.length_drop, List.length_singleton] at hi
  have hi2 : idx (idx f 1 n) i n < ring.length := by rw [hn]; exact idx_lt _ i n (idx_lt f 1 n hf (by omega)) (by omega)
  rw [getD_set _ _ _ _ hi2]
  by_cases he : i = n - 1
  · rw [if_pos (by unfold idx; split <;> split <;> omega), List.getD_eq_getElem?_getD, List.getElem?_append_right (by simp; omega)]
    simp [he, hl]
  · have e1 : idx (idx f 1 n) i n = idx f (i + 1) n := by unfold idx; split <;> split <;> split <;> omega
    rw [if_neg (by unfold idx; split <;> split <;> omega), e1, ← h.ka (i + 1) (by omega), List.getD_eq_getElem?_getD, List.getElem?_append_left (by simp; omega), List.getElem?_drop, Nat.add_comm, ← List.getD_eq_getElem?_getD]
theorem Rel.first {ring : List UInt8} {f n : Nat} {l : List UInt8} (h : Rel ring f n l) (h0 : 0 < l.length) : ring.getD f 0 = l.getD 0 0 := by
  rw [h.ka 0 h0]
  have := h.kf
  unfold idx
  rw [if_pos (by omega), Nat.add_zero]
/-- The bytes in their order: the ring from the first one on, then from its beginning. -/
theorem Rel.head {ring : List UInt8} {f n : Nat} {l : List UInt8} (h : Rel ring f n l) : (ring.drop f).take l.length = l.take (n - f) := by
  have hf := h.kf
  have hn := h.kn
  have hl := h.kl
  apply List.ext_getElem?
  intro i
  by_cases h1 : i < l.length
  · by_cases h2 : i < n - f
    · rw [List.getElem?_take_of_lt h1, List.getElem?_take_of_lt h2, List.getElem?_drop]
      have := h.ka i h1
      unfold idx at this
      rw [if_pos (by omega)] at this
      rw [List.getElem?_eq_getElem (by omega), List.getElem?_eq_getElem h1] at *
      simp only [List.getD_eq_getElem?_getD, List.getElem?_eq_getElem h1, List.getElem?_eq_getElem (show f + i < ring.length by omega), Option.getD_some] at this
      rw [this]
    · rw [List.getElem?_eq_none (by simp; omega), List.getElem?_eq_none (by simp; omega)]
  · rw [List.getElem?_eq_none (by simp; omega), List.getElem?_eq_none (by simp; omega)]
theorem Rel.tail {ring : List UInt8} {f n : Nat} {l : List UInt8} (h : Rel ring f n l) : ring.take (l.length - (n - f)) = l.drop (n - f) := by
  have hf := h.kf
  have hn := h.kn
  have hl := h.kl
  apply List.ext_getElem?
  intro i
  rw [List.getElem?_drop]
  by_cases h1 : i < l.length - (n - f)
  · rw [List.getElem?_take_of_lt h1]
    have := h.ka (n - f + i) (by omega)
    unfold idx at this
    rw [if_neg (by omega), show f + (n - f + i) - n = i by omega] at this
    simp only [List.getD_eq_getElem?_getD, List.getElem?_eq_getElem (show n - f + i < l.length by omega), List.getElem?_eq_getElem (show i < ring.length by omega), Option.getD_some] at this
    rw [List.getElem?_eq_getElem (by omega), List.getElem?_eq_getElem (by omega), this]
  · rw [List.getElem?_eq_none (by simp; omega), List.getElem?_eq_none (by omega)]
/-- The bytes behind a Put. -/
def putL (l : List UInt8) (c : UInt8) (n : Nat) : List UInt8 := if l.length < n then l ++ [c] else l.drop 1 ++ [c]
/-- Bytes as cells. -/
def u8v (l : List UInt8) : Array Value := (l.map fun (x : UInt8) => Value.int .u8 (x.toNat : Int)).toArray
theorem u8v_size (l : List UInt8) : (u8v l).size = l.length := by simp [u8v]
theorem u8v_get (l : List UInt8) (i : Nat) (h : i < l.length) : (u8v l)[i]? = some (.int .u8 (((l.getD i 0).toNat : Nat) : Int)) := by
  simp [u8v, List.getElem?_eq_getElem h]
theorem u8v_set (l : List UInt8) (i : Nat) (x : UInt8) : (u8v l).setIfInBounds i (.int .u8 (x.toNat : Int)) = u8v (l.set i x) := by
  simp [u8v, List.map_set]
theorem u8v_all (l : List UInt8) : ∀ v ∈ (u8v l).toList, v.oneCell' = true := by
  intro v hv
  simp only [u8v, List.mem_map] at hv
  obtain ⟨x, _, rfl⟩ := hv
  rfl
theorem u8v_made (n : Nat) : madeCells #[Value.int .u8 0] n = u8v (List.replicate n 0) := by
  apply Array.ext
  · simp [madeCells, u8v]
  · intro i h1 h2
    simp [madeCells, u8v, Nat.mod_one]
/-- A Window's cells. -/
def wcells (r n f c s : Nat) : Array Value := #[.slice (some ⟨r, 0, none⟩) n n, .int .i64 (f : Int), .int .i64 (c : Int), .int .u32 (s : Int)]
/-- A Window at block g, its ring at block r, that has the bytes l of at most n. -/
def WinIs (w : World) (r g n : Nat) (l : List UInt8) : Prop :=
  n ≤ 65536 ∧ r ≠ g ∧ ∃ ring f, Rel ring f n l ∧ w.heap[g]? = some (.cells (wcells r n f l.length (wsum l)) 66 (0, 0)) ∧ w.heap[r]? = some (.cells (u8v ring) 5 (0, 0))
theorem WinIs.keep {w w' : World} {r g n : Nat} {l : List UInt8} (h : WinIs w r g n l) (e1 : w'.heap[g]? = w.heap[g]?) (e2 : w'.heap[r]? = w.heap[r]?) : WinIs w' r g n l := by
  obtain ⟨h0, h1, ring, f, hr, hg, hrr⟩ := h
  exact ⟨h0, h1, ring, f, hr, e1.trans hg, e2.trans hrr⟩
theorem WinIs.lt {w : World} {r g n : Nat} {l : List UInt8} (h : WinIs w r g n l) : g < w.heap.size ∧ r < w.heap.size := by
  obtain ⟨_, _, ring, f, _, hg, hrr⟩ := h
  exact ⟨lt_of_some hg, lt_of_some hrr⟩
theorem WinIs.below {w w' : World} {r g n : Nat} {l : List UInt8} (h : WinIs w r g n l) (hb : Below w.heap.size w w') : WinIs w' r g n l := h.keep (hb.block _ h.lt.1) (hb.block _ h.lt.2)
theorem win_cells {w : World} {g r n f c s : Nat} (h : w.heap[g]? = some (.cells (wcells r n f c s) 66 (0, 0))) :
    w.cell? ⟨g, 0, none⟩ = some (.slice (some ⟨r, 0, none⟩) n n) ∧ w.cell? ⟨g, 1, none⟩ = some (.int .i64 (f : Int)) ∧ w.cell? ⟨g, 2, none⟩ = some (.int .i64 (c : Int)) ∧ w.cell? ⟨g, 3, none⟩ = some (.int .u32 (s : Int)) := by
  refine ⟨?_, ?_, ?_, ?_⟩ <;> rw [cell_of_row w g _ _ _ _ h] <;> rfl
end Go.Proofs.Ytebmmhgmbnbnnaa
