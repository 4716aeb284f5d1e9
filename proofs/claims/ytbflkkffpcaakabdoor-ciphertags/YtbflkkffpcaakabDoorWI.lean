/- Walk over the document's Block. -/
import Derived.Test.YtbflkkffpcaakabDoorWH
import Derived.Test.YtbflkkffpcaakabDoorQ
namespace Go.Proofs.YtbflkkffpcaakabDoor
open Go.RowKit
theorem words_next4 (t : List UInt8) (i : Nat) (hi : i < 16) : wordsL (t.take (4 * (i + 1))) = (wordsL (t.take (4 * i))).set i (wordAt t i) := by
  apply List.ext_getElem?
  intro j
  by_cases hj : j < 16
  · have e1 : (wordsL (t.take (4 * (i + 1))))[j]? = some (wordAt (t.take (4 * (i + 1))) j) := by simp [wordsL, List.getElem?_range hj]
    have e2 : (wordsL (t.take (4 * i)))[j]? = some (wordAt (t.take (4 * i)) j) := by simp [wordsL, List.getElem?_range hj]
    rw [e1, List.getElem?_set, wordsL_len, e2]
    by_cases h : i = j
    · subst h
      rw [if_pos rfl, if_pos hi, word_at]
      repeat' first | rw [if_pos (by omega)] | rw [if_neg (by omega)]
      rfl
    · rw [if_neg h, word_at, word_at]
      have c0 : (4 * j < 4 * (i + 1)) = (4 * j < 4 * i) := by apply propext; omega
      have c1 : (4 * j + 1 < 4 * (i + 1)) = (4 * j + 1 < 4 * i) := by apply propext; omega
      have c2 : (4 * j + 2 < 4 * (i + 1)) = (4 * j + 2 < 4 * i) := by apply propext; omega
      have c3 : (4 * j + 3 < 4 * (i + 1)) = (4 * j + 3 < 4 * i) := by apply propext; omega
      simp only [c0, c1, c2, c3]
  · rw [List.getElem?_eq_none (by rw [wordsL_len]; omega), List.getElem?_eq_none (by rw [List.length_set, wordsL_len]; omega)]
theorem numBytes_next (n i : Nat) (h : i < 4) : (numBytes n).take (i + 1) = (numBytes n).take i ++ [UInt8.ofNat (n / 256 ^ i)] := by
  rcases (by omega : i = 0 ∨ i = 1 ∨ i = 2 ∨ i = 3) with rfl | rfl | rfl | rfl <;> simp [numBytes]
theorem block_next (f : List Nat) (i x : Nat) (hi : i < 16) (hx : (blockWs f).getD i 0 = x) : (blockL f).take (4 * (i + 1)) = (blockL f).take (4 * i) ++ [UInt8.ofNat (x % 256), UInt8.ofNat (x / 256 % 256), UInt8.ofNat (x / 65536 % 256), UInt8.ofNat (x / 16777216)] := by
  have hl := blockL_len f
  have hm : ∀ y, UInt8.ofNat (y % 256) = UInt8.ofNat y := fun y => by apply UInt8.toNat_inj.1; simp
  have at4 : ∀ k, k < 4 → (blockL f)[4 * i + k]? = some (UInt8.ofNat (x / 2 ^ (8 * k))) := fun k hk => by
    have h := blockL_at f (4 * i + k) (by omega)
    unfold byteAt at h
    rw [show (4 * i + k) / 4 = i by omega, show (4 * i + k) % 4 = k by omega, hx] at h
    rw [← h, List.getD_eq_getElem?_getD, List.getElem?_eq_getElem (by omega)]; rfl
  rw [show 4 * (i + 1) = 4 * i + 3 + 1 by omega, List.take_add_one, at4 3 (by omega), List.take_add_one, at4 2 (by omega), List.take_add_one, at4 1 (by omega), List.take_add_one]
  have h0 := at4 0 (by omega)
  rw [Nat.add_zero] at h0
  rw [h0, hm, hm, hm]
  simp
/-- Two rows of sixteen words. -/
structure RbW (w0 : World) (C D : Nat) (f s : List Nat) (wr : World) : Prop where
  rf : wr.heap[C]? = some (.cells (u32v f) 41 (0, 0))
  rs : wr.heap[D]? = some (.cells (u32v s) 41 (0, 0))
  cd : C ≠ D
  le : w0.heap.size ≤ D
  bl : Below w0.heap.size w0 wr
theorem RbW.on {w0 wr w' : World} {C D : Nat} {f s : List Nat} (h : RbW w0 C D f s wr) (hb : Below wr.heap.size wr w') : RbW w0 C D f s w' :=
  ⟨(hb.block C (lt_of_some h.rf)).trans h.rf, (hb.block D (lt_of_some h.rs)).trans h.rs, h.cd, h.le, h.bl.trans (hb.mono h.bl.size)⟩
theorem RbW.put {w0 wr : World} {C D : Nat} {f s : List Nat} (h : RbW w0 C D f s wr) (s' : List Nat) : RbW w0 C D f s' (wr.setRow D (u32v s')) :=
  ⟨by rw [setRow_other _ _ _ _ h.cd]; exact h.rf, setRow_heap _ _ _ _ _ _ h.rs, h.cd, h.le, below_setRow h.bl D h.le _⟩
end Go.Proofs.YtbflkkffpcaakabDoor
