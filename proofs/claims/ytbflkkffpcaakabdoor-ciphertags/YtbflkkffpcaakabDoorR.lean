/- A Hash in memory; the program's Write. -/
import Derived.Test.YtbflkkffpcaakabDoorO
import Derived.Laws.CopyRow
import Derived.Laws.IdiomCopy
namespace Go.Proofs.YtbflkkffpcaakabDoor
open Go.RowKit
/-- The cells of a Hash: the state, the rest, the count. -/
def hlist (st : List Nat) (rest : List UInt8) (n : Nat) : List Value := (st.map fun (x : Nat) => Value.int .u32 (x : Int)) ++ ((rest.map fun (x : UInt8) => Value.int .u8 (x.toNat : Int)) ++ [Value.int .i64 (n : Int)])
def hcells (st : List Nat) (rest : List UInt8) (n : Nat) : Array Value := (hlist st rest n).toArray
section
variable {st : List Nat} {rest : List UInt8} {n : Nat}
theorem hcells_size (hs : st.length = 8) (hr : rest.length = 64) : (hcells st rest n).size = 73 := by simp [hcells, hlist, hs, hr]
theorem hcells_s (i : Nat) (hi : i < st.length) : (hcells st rest n)[i]? = some (.int .u32 ((st.getD i 0 : Nat) : Int)) := by
  simp [hcells, hlist, List.getElem?_append_left, hi]
theorem hcells_r (hs : st.length = 8) (i : Nat) (hi : i < rest.length) : (hcells st rest n)[8 + i]? = some (.int .u8 (((rest.getD i 0).toNat : Nat) : Int)) := by
  simp only [hcells, hlist, List.getElem?_toArray]
  rw [List.getElem?_append_right (by simp [hs]), List.getElem?_append_left (by simp [hs]; omega)]
  simp [hs, hi]
theorem hcells_c (hs : st.length = 8) (hr : rest.length = 64) : (hcells st rest n)[72]? = some (.int .i64 (n : Int)) := by
  simp only [hcells, hlist, List.getElem?_toArray]
  rw [List.getElem?_append_right (by simp [hs]), List.getElem?_append_right (by simp [hs, hr])]
  simp [hs, hr]
theorem hcells_sset (i x : Nat) (hi : i < st.length) : (hcells st rest n).setIfInBounds i (.int .u32 (x : Int)) = hcells (st.set i x) rest n := by
  simp only [hcells, hlist, List.setIfInBounds_toArray, List.map_set]
  rw [List.set_append_left _ _ (by simpa using hi)]
theorem hcells_cset (hs : st.length = 8) (hr : rest.length = 64) (m : Nat) : (hcells st rest n).setIfInBounds 72 (.int .i64 (m : Int)) = hcells st rest m := by
  simp only [hcells, hlist, List.setIfInBounds_toArray]
  rw [List.set_append_right _ _ (by simp [hs]), List.set_append_right _ _ (by simp [hs, hr])]
  simp [hs, hr]
/-- A copy into the rest. -/
def over (rest : List UInt8) (k : Nat) (m : List UInt8) : List UInt8 := rest.take k ++ (m ++ rest.drop (k + m.length))
theorem over_len (k : Nat) (m : List UInt8) (h : k + m.length ≤ rest.length) : (over rest k m).length = rest.length := by simp [over]; omega
theorem hcells_over (hs : st.length = 8) (k : Nat) (m : List UInt8) (h : k + m.length ≤ rest.length) :
    ((hcells st rest n).toList.take (8 + k) ++ (u8v m).toList ++ (hcells st rest n).toList.drop (8 + k + (u8v m).toList.length)).toArray = hcells st (over rest k m) n := by
  have e1 : (u8v m).toList = m.map fun (x : UInt8) => Value.int .u8 (x.toNat : Int) := rfl
  have e2 : (hcells st rest n).toList = hlist st rest n := rfl
  rw [e1, e2]
  simp only [hcells, hlist, over, List.length_map, List.map_append, List.map_take, List.map_drop]
  congr 1
  rw [List.take_append, List.take_of_length_le (by simp [hs]), List.length_map, hs, show 8 + k - 8 = k by omega, List.take_append_of_le_length (by simp; omega),
    List.drop_append, List.drop_eq_nil_of_le (by simp [hs]; omega), List.length_map, hs, show 8 + k + m.length - 8 = k + m.length by omega, List.nil_append, List.drop_append_of_le_length (by simp; omega)]
  simp [List.append_assoc]
end
/-- What a state and a rest say of the bytes that came. -/
structure HashOf (st : List Nat) (rest : List UInt8) (l : List UInt8) : Prop where
  s : st = mixTo l (l.length / 64)
  n : rest.length = 64
  r : rest.take (l.length % 64) = l.drop (64 * (l.length / 64))
theorem mixTo_app (l m : List UInt8) : ∀ j, 64 * j ≤ l.length → mixTo (l ++ m) j = mixTo l j
  | 0, _ => rfl
  | j + 1, h => by
    show mixL kL (mixTo (l ++ m) j) (((l ++ m).drop (64 * j)).take 64) = mixL kL (mixTo l j) ((l.drop (64 * j)).take 64)
    rw [mixTo_app l m j (by omega), List.drop_append_of_le_length (by omega), List.take_append_of_le_length (by simp; omega)]
theorem mixL_take (ks s : List Nat) (b : List UInt8) : mixL ks s (b.take 64) = mixL ks s b := by
  have : wordsOf (b.take 64) = wordsOf b := by
    unfold wordsOf
    apply List.map_congr_left
    intro t ht
    have ht' : t < 16 := by simpa using ht
    have g : ∀ j, j < 64 → (b.take 64).getD j 0 = b.getD j 0 := fun j hj => by
      rw [List.getD_eq_getElem?_getD, List.getD_eq_getElem?_getD, List.getElem?_take_of_lt hj]
    rw [g _ (by omega), g _ (by omega), g _ (by omega), g _ (by omega)]
  unfold mixL
  rw [this]
theorem HashOf.less {st : List Nat} {rest l m : List UInt8} (h : HashOf st rest l) (hm : l.length % 64 + m.length < 64) : HashOf st (over rest (l.length % 64) m) (l ++ m) := by
  have hl := h.n
  have hq : (l.length + m.length) / 64 = l.length / 64 := by omega
  have hr : (l.length + m.length) % 64 = l.length % 64 + m.length := by omega
  refine ⟨?_, ?_, ?_⟩
  · rw [List.length_append, hq, mixTo_app l m _ (by omega)]; exact h.s
  · rw [over_len _ _ (by omega)]; exact hl
  · rw [List.length_append, hq, hr, List.drop_append_of_le_length (by omega), ← h.r]
    unfold over
    rw [List.take_append, List.take_of_length_le (by simp; omega), List.length_take, Nat.min_eq_left (by omega), show l.length % 64 + m.length - l.length % 64 = m.length by omega, List.take_append_of_le_length (by omega), List.take_length]
theorem HashOf.full {st : List Nat} {rest l m : List UInt8} (h : HashOf st rest l) (hm : l.length % 64 + m.length = 64) : HashOf (mixL kL st (over rest (l.length % 64) m)) (over rest (l.length % 64) m) (l ++ m) := by
  have hl := h.n
  have hq : (l.length + m.length) / 64 = l.length / 64 + 1 := by omega
  have hr : (l.length + m.length) % 64 = 0 := by omega
  have ho : over rest (l.length % 64) m = (l ++ m).drop (64 * (l.length / 64)) := by
    unfold over
    rw [List.drop_append_of_le_length (by omega), ← h.r, List.drop_eq_nil_of_le (by omega), List.append_nil]
  refine ⟨?_, ?_, ?_⟩
  · rw [List.length_append, hq]
    show _ = mixL kL (mixTo (l ++ m) (l.length / 64)) (((l ++ m).drop (64 * (l.length / 64))).take 64)
    rw [mixTo_app l m _ (by omega), ← h.s, ← ho, mixL_take]
  · rw [over_len _ _ (by omega)]; exact hl
  · rw [List.length_append, hr, hq, List.drop_eq_nil_of_le (by simp; omega)]; rfl
/-- Nothing has changed but block g, and what is new. -/
structure Only (g : Nat) (w0 wr : World) : Prop where
  os : wr.os = w0.os
  tape : wr.tape = w0.tape
  output : wr.output = w0.output
  size : w0.heap.size ≤ wr.heap.size
  block : ∀ k, k < w0.heap.size → k ≠ g → wr.heap[k]? = w0.heap[k]?
section
variable {g : Nat} {w0 wr w1 : World}
theorem Only.refl (g : Nat) (w : World) : Only g w w := ⟨rfl, rfl, rfl, Nat.le_refl _, fun _ _ _ => rfl⟩
theorem Only.drew (h : Only g w0 wr) : Only g w0 wr.drew := ⟨h.os, h.tape, h.output, h.size, h.block⟩
theorem Only.setRow (h : Only g w0 wr) (cs : Array Value) : Only g w0 (wr.setRow g cs) :=
  ⟨h.os, h.tape, h.output, by rw [size_setRow]; exact h.size, fun k hk hg => by rw [setRow_other wr g k cs hg]; exact h.block k hk hg⟩
theorem Only.setCell (h : Only g w0 wr) (i : Nat) (v : Value) : Only g w0 (wr.setCell ⟨g, i, none⟩ v) :=
  ⟨h.os, h.tape, h.output, by rw [World.size_setCell]; exact h.size, fun k hk hg => by rw [heap_setCell_other wr _ k v hg]; exact h.block k hk hg⟩
theorem Only.below (h : Only g w0 wr) (hb : Below wr.heap.size wr w1) : Only g w0 w1 :=
  ⟨hb.os.trans h.os, hb.tape.trans h.tape, hb.output.trans h.output, Nat.le_trans h.size hb.size, fun k hk hg => (hb.block k (Nat.lt_of_lt_of_le hk h.size)).trans (h.block k hk hg)⟩
theorem Only.cell (h : Only g w0 wr) {p : Addr} (hp : p.block < w0.heap.size) (hg : p.block ≠ g) : wr.cell? p = w0.cell? p := World.cell?_of_block (h.block _ hp hg)
theorem Only.trans (h : Only g w0 wr) (h' : Only g wr w1) : Only g w0 w1 :=
  ⟨h'.os.trans h.os, h'.tape.trans h.tape, h'.output.trans h.output, Nat.le_trans h.size h'.size, fun k hk hg => (h'.block k (Nat.lt_of_lt_of_le hk h.size) hg).trans (h.block k hk hg)⟩
theorem Only.toBelow (h : Only g w0 wr) (hg : w0.heap.size ≤ g) : Below w0.heap.size w0 wr := ⟨h.os, h.tape, h.output, h.size, fun k hk => h.block k hk (by omega)⟩
end
/-- Which words the quarter rounds are of. -/
def qPlaces : List (List Nat) := [[0, 4, 8, 12], [1, 5, 9, 13], [2, 6, 10, 14], [3, 7, 11, 15], [0, 5, 10, 15], [1, 6, 11, 12], [2, 7, 8, 13], [3, 4, 9, 14]]
/-- The packages' tables, as they are laid. -/
structure Laid (w : World) : Prop where
  f : ∀ i, i < 8 → w.cell? ⟨1, i, none⟩ = some (.int .u32 ((ivL.getD i 0 : Nat) : Int))
  k : ∀ i, i < 64 → w.cell? ⟨2, i, none⟩ = some (.int .u32 ((kL.getD i 0 : Nat) : Int))
  q : ∀ i, i < 8 → ∀ k, k < 4 → w.cell? ⟨0, i * 4 + k, none⟩ = some (.int .i64 (((qPlaces.getD i []).getD k 0 : Nat) : Int))
theorem Laid.lt {w : World} (h : Laid w) : 2 < w.heap.size := block_lt_of_cell (h.k 0 (by omega))
theorem Laid.below {w w' : World} (h : Laid w) (hb : Below w.heap.size w w') : Laid w' :=
  ⟨fun i hi => by rw [hb.cell (by show 1 < w.heap.size; have := h.lt; omega)]; exact h.f i hi, fun i hi => by rw [hb.cell (by show 2 < w.heap.size; exact h.lt)]; exact h.k i hi, fun i hi k hk => by rw [hb.cell (by show 0 < w.heap.size; have := h.lt; omega)]; exact h.q i hi k hk⟩
theorem Laid.only {g : Nat} {w w' : World} (h : Laid w) (hg : 3 ≤ g) (hb : Only g w w') : Laid w' :=
  ⟨fun i hi => by rw [hb.cell (by show 1 < w.heap.size; have := h.lt; omega) (by show 1 ≠ g; omega)]; exact h.f i hi, fun i hi => by rw [hb.cell (by show 2 < w.heap.size; exact h.lt) (by show 2 ≠ g; omega)]; exact h.k i hi, fun i hi k hk => by rw [hb.cell (by show 0 < w.heap.size; have := h.lt; omega) (by show 0 ≠ g; omega)]; exact h.q i hi k hk⟩
/-- A Hash at block g that has the bytes l. -/
def HashIs (w : World) (g : Nat) (l : List UInt8) : Prop := ∃ st rest, HashOf st rest l ∧ w.heap[g]? = some (.cells (hcells st rest l.length) 65 (0, 0))
/-- Bytes that aren't in block g. -/
def BsA (w : World) (g : Nat) (a : Option Addr) (len cap : Nat) (bs : List UInt8) : Prop :=
  bs.length = len ∧ len ≤ cap ∧ cap ≤ 9223372036854775807 ∧ (0 < len → ∃ bb bo, a = some ⟨bb, bo, none⟩ ∧ bb ≠ g ∧ bb < w.heap.size ∧ ∀ i, i < len → w.cell? ⟨bb, bo + i, none⟩ = some (.int .u8 (((bs.getD i 0).toNat : Nat) : Int)))
theorem mixTo_len (l : List UInt8) (j : Nat) : (mixTo l j).length = 8 := by
  obtain ⟨_, _, _, _, _, _, _, _, e, _⟩ := mixTo_eight l j
  rw [e]; rfl
theorem HashOf.sl {st : List Nat} {rest l : List UInt8} (h : HashOf st rest l) : st.length = 8 := by rw [h.s]; exact mixTo_len _ _
end Go.Proofs.YtbflkkffpcaakabDoor
