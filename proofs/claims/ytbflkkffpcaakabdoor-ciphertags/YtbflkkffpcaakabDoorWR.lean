/- Walks over the document's turned and Seal. Walk over the document's Derive. Walks over the document's Seal and Open. -/
import Derived.Test.YtbflkkffpcaakabDoorCE
import Derived.Test.YtbflkkffpcaakabDoorS
import Derived.Test.YtbflkkffpcaakabDoorEB0
import Derived.Test.YtbflkkffpcaakabDoorWQ
namespace Go.Proofs.YtbflkkffpcaakabDoor
open Go.RowKit
/-- The byte of a key at a place, nought behind its end. -/
theorem block_at (k : List UInt8) (i : Nat) (h : k.length ≤ 64) (hi : i < 64) : (fill k).getD i 0 = k.getD i 0 := by
  unfold fill
  rw [List.getD_eq_getElem?_getD, List.getD_eq_getElem?_getD]
  by_cases hl : i < k.length
  · rw [List.getElem?_append_left hl]
  · rw [List.getElem?_append_right (by omega), List.getElem?_replicate, if_pos (by omega), List.getElem?_eq_none (by omega)]
    rfl
theorem xor_next (b : List UInt8) (m : UInt8) (i : Nat) (hi : i < b.length) : xorB (b.take (i + 1)) m = xorB (b.take i) m ++ [b.getD i 0 ^^^ m] := by
  unfold xorB
  rw [List.take_add_one, List.getElem?_eq_getElem hi, List.map_append]
  simp [Option.toList, hi]
end Go.Proofs.YtbflkkffpcaakabDoor
namespace Go.Proofs.YtbflkkffpcaakabDoor
open Go.RowKit
end Go.Proofs.YtbflkkffpcaakabDoor
namespace Go.Proofs.YtbflkkffpcaakabDoor
open Go.RowKit
theorem strs_nb {a b : ByteArray} (h : ¬ a = b) : (a.toList == b.toList) = false := by
  simp only [beq_eq_false_iff_ne, ne_eq]
  intro e
  rw [ByteArray.toList_eq, ByteArray.toList_eq] at e
  exact h (by cases a; cases b; congr 1; exact Array.toList_inj.1 e)
theorem lenBytes_next (n i : Nat) (h : i < 8) : (lenBytes n).take (i + 1) = (lenBytes n).take i ++ [UInt8.ofNat (n / 256 ^ i)] := by
  have hl := lenBytes_len n
  have h1 := lenBytes_at n i h
  rw [List.getD_eq_getElem?_getD, List.getElem?_eq_getElem (by omega), Nat.pow_mul] at h1
  rw [List.take_add_one, List.getElem?_eq_getElem (by omega)]
  simp only [Option.toList]
  rw [show (256 : Nat) = 2 ^ 8 from rfl, ← h1]
  rfl
end Go.Proofs.YtbflkkffpcaakabDoor
