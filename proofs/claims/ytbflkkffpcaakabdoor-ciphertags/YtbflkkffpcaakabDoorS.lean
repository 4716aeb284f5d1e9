/- Walk over the document's Hide. Walk over the document's Mix. Walk over the document's Sum. -/
import Derived.Test.YtbflkkffpcaakabDoorWI
import Derived.Test.YtbflkkffpcaakabDoorW
import Derived.Test.YtbflkkffpcaakabDoorQ
namespace Go.Proofs.YtbflkkffpcaakabDoor
open Go.RowKit
theorem hide_next (f : List Nat) (t : List UInt8) (i b c : Nat) (hi : i < t.length) (hb : (t.getD i 0).toNat = b) (hc : ((blockL (numbered f (i / 64 + 1))).getD (i % 64) 0).toNat = c) :
    hideL f 0 (t.take (i + 1)) = hideL f 0 (t.take i) ++ [UInt8.ofNat (b ^^^ c)] := by
  rw [List.take_add_one, List.getElem?_eq_getElem hi]
  simp only [Option.toList]
  rw [hideL_snoc, List.length_take, Nat.min_eq_left (by omega), Nat.zero_add]
  congr 2
  apply UInt8.toNat_inj.1
  have e : t.getD i 0 = t[i] := by simp [hi]
  have hb8 : b < 256 := by rw [← hb]; exact UInt8.toNat_lt _
  have hc8 : c < 256 := by rw [← hc]; exact UInt8.toNat_lt _
  rw [UInt8.toNat_xor, UInt8.toNat_ofNat', Nat.mod_eq_of_lt (Nat.xor_lt_two_pow (n := 8) hb8 hc8), ← e, hb]
  unfold strmAt
  rw [hc]
end Go.Proofs.YtbflkkffpcaakabDoor
namespace Go.Proofs.YtbflkkffpcaakabDoor
open Go.RowKit
end Go.Proofs.YtbflkkffpcaakabDoor
namespace Go.Proofs.YtbflkkffpcaakabDoor
open Go.RowKit
end Go.Proofs.YtbflkkffpcaakabDoor
