/- Seals, derived bytes and chains as mathematics. -/
import Derived.Test.YtbflkkffpcaakabDoorY
import Derived.Laws.BitsAllLaws
namespace Go.Proofs.YtbflkkffpcaakabDoor
open Go.RowKit
/-- The key, or its digest if it is long. -/
def keyOf (k : List UInt8) : List UInt8 := if 64 < k.length then digest k else k
theorem keyOf_len (k : List UInt8) : (keyOf k).length ≤ 64 := by
  unfold keyOf; split
  · rw [digest_len]; omega
  · omega
/-- A key's block. -/
def blockOf (k : List UInt8) : List UInt8 := keyOf k ++ List.replicate (64 - (keyOf k).length) 0
theorem blockOf_len (k : List UInt8) : (blockOf k).length = 64 := by
  have := keyOf_len k
  simp [blockOf]; omega
def xorB (b : List UInt8) (m : UInt8) : List UInt8 := b.map (· ^^^ m)
theorem xorB_len (b : List UInt8) (m : UInt8) : (xorB b m).length = b.length := by simp [xorB]
def behind (b : List UInt8) (m : UInt8) (t : List UInt8) : List UInt8 := digest (xorB b m ++ t)
theorem behind_len (b : List UInt8) (m : UInt8) (t : List UInt8) : (behind b m t).length = 32 := digest_len _
def sealB (b m : List UInt8) : List UInt8 := behind b 92 (behind b 54 m)
theorem sealB_len (b m : List UInt8) : (sealB b m).length = 32 := behind_len _ _ _
def sealL (k m : List UInt8) : List UInt8 := sealB (blockOf k) m
theorem sealL_len (k m : List UInt8) : (sealL k m).length = 32 := behind_len _ _ _
/-- The i-th seal of derived bytes. -/
def deriveT (b l : List UInt8) : Nat → List UInt8
  | 0 => []
  | i + 1 => sealB b (deriveT b l i ++ l ++ [UInt8.ofNat (i + 1)])
theorem deriveT_len (b l : List UInt8) (i : Nat) : (deriveT b l i).length ≤ 32 := by
  cases i with
  | zero => simp [deriveT]
  | succ i => rw [deriveT, sealB_len]; exact Nat.le_refl _
def deriveA (b l : List UInt8) : Nat → List UInt8
  | 0 => []
  | i + 1 => deriveA b l i ++ deriveT b l (i + 1)
theorem deriveA_len (b l : List UInt8) : ∀ i, (deriveA b l i).length = 32 * i
  | 0 => rfl
  | i + 1 => by rw [deriveA, List.length_append, deriveA_len b l i, deriveT, sealB_len]; omega
theorem deriveA_take (b l : List UInt8) (i : Nat) : ∀ j, i ≤ j → ∀ n, n ≤ 32 * i → (deriveA b l j).take n = (deriveA b l i).take n
  | 0, h, n, hn => by obtain rfl : i = 0 := by omega
                      rfl
  | j + 1, h, n, hn => by
    rcases Nat.eq_or_lt_of_le h with rfl | h'
    · rfl
    · rw [deriveA, List.take_append_of_le_length (by rw [deriveA_len]; omega)]
      exact deriveA_take b l i j (by omega) n hn
/-- The first n derived bytes. -/
def derived (k l : List UInt8) (n : Nat) : List UInt8 := (deriveA (blockOf k) l 255).take n
theorem derived_len (k l : List UInt8) (n : Nat) (hn : n ≤ 8160) : (derived k l n).length = n := by
  unfold derived; rw [List.length_take, deriveA_len]; omega
theorem derived_of (k l : List UInt8) (n i : Nat) (hi : i ≤ 255) (hn : n ≤ 32 * i) : (deriveA (blockOf k) l i).take n = derived k l n :=
  (deriveA_take (blockOf k) l i 255 hi n hn).symm
theorem derived_take (k l : List UInt8) (n m : Nat) (h : n ≤ m) : (derived k l m).take n = derived k l n := by
  unfold derived; rw [List.take_take, Nat.min_eq_left h]
def chainL (k : List UInt8) (ps : List (List UInt8)) : List UInt8 := ps.foldl sealL k
/-- A row of bytes of a given type, above all that was. -/
structure RowW (t g : Nat) (w0 : World) (l : List UInt8) (wr : World) : Prop where
  c : wr.heap[g]? = some (.cells (u8v l) t (0, 0))
  bl : Below g w0 wr
theorem RowW.start (t : Nat) (w : World) (l : List UInt8) : RowW t w.heap.size w l (w.alloc (.cells (u8v l) t)) := ⟨heap_alloc_new _ _, (Below.refl _ _).alloc (Nat.le_refl _) _⟩
section
variable {t g : Nat} {w0 wr : World} {l : List UInt8}
theorem RowW.cell (h : RowW t g w0 l wr) (i : Nat) (hi : i < l.length) : wr.cell? ⟨g, i, none⟩ = some (.int .u8 (((l.getD i 0).toNat : Nat) : Int)) := by
  rw [cell_of_row wr g i _ _ _ h.c, u8v_get l i hi]
theorem RowW.fro (h : RowW t g w0 l wr) (i : Nat) : wr.frozen? ⟨g, i, none⟩ = false := frozen_of_row wr g i _ _ h.c
theorem RowW.put (h : RowW t g w0 l wr) (i : Nat) (x : UInt8) : RowW t g w0 (l.set i x) (wr.setCell ⟨g, i, none⟩ (.int .u8 (x.toNat : Int))) := by
  refine ⟨?_, ?_⟩
  · rw [heap_setCell_same wr g i _ _ _ h.c, u8v_set]
  · exact h.bl.setCell (Nat.le_refl _) _
theorem RowW.drew (h : RowW t g w0 l wr) : RowW t g w0 l wr.drew := ⟨h.c, h.bl.drew⟩
end
theorem HashIs.keep {w w' : World} {g : Nat} {l : List UInt8} (h : HashIs w g l) (e : w'.heap[g]? = w.heap[g]?) : HashIs w' g l := by
  obtain ⟨st, rest, ho, hr⟩ := h
  exact ⟨st, rest, ho, e.trans hr⟩
theorem HashIs.lt {w : World} {g : Nat} {l : List UInt8} (h : HashIs w g l) : g < w.heap.size := by
  obtain ⟨_, _, _, hr⟩ := h
  exact lt_of_some hr
/-- A block of which i bytes are turned. -/
def xorTo (b : List UInt8) (m : UInt8) (i : Nat) : List UInt8 := xorB (b.take i) m ++ b.drop i
theorem xorTo_0 (b : List UInt8) (m : UInt8) : xorTo b m 0 = b := by simp [xorTo, xorB]
theorem xorTo_len (b : List UInt8) (m : UInt8) (i : Nat) : (xorTo b m i).length = b.length := by simp [xorTo, xorB_len]; omega
theorem xorTo_at (b : List UInt8) (m : UInt8) (i : Nat) (hi : i < b.length) : (xorTo b m i).getD i 0 = b.getD i 0 := by
  unfold xorTo
  rw [List.getD_eq_getElem?_getD, List.getElem?_append_right (by simp [xorB_len]; omega), xorB_len, List.length_take, Nat.min_eq_left (by omega), Nat.sub_self, List.getElem?_drop, Nat.add_zero, List.getD_eq_getElem?_getD]
theorem xorTo_step (b : List UInt8) (m : UInt8) (i : Nat) (hi : i < b.length) : (xorTo b m i).set i (b.getD i 0 ^^^ m) = xorTo b m (i + 1) := by
  unfold xorTo
  have hl : (xorB (b.take i) m).length = i := by rw [xorB_len, List.length_take]; omega
  rw [List.set_append_right _ _ (by omega), hl, Nat.sub_self, List.drop_eq_getElem_cons hi, List.set_cons_zero, List.take_add_one, List.getElem?_eq_getElem hi]
  have e : b.getD i 0 = b[i] := by simp [hi]
  rw [e]
  simp only [xorB, List.map_append, Option.toList, List.map_cons, List.map_nil, List.append_assoc, List.singleton_append]
theorem xorTo_end (b : List UInt8) (m : UInt8) (n : Nat) (hn : b.length = n) : xorTo b m n = xorB b m := by
  subst hn; simp [xorTo]
end Go.Proofs.YtbflkkffpcaakabDoor
