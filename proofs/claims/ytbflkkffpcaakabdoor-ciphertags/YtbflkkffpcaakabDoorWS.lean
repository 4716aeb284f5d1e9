/- Sealed bytes as mathematics. -/
import Derived.Test.YtbflkkffpcaakabDoorWA
import Derived.Test.YtbflkkffpcaakabDoorCA
namespace Go.Proofs.YtbflkkffpcaakabDoor
open Go.RowKit
/-- The text 'strongroom seal' -/
def keysT : List UInt8 := [115, 116, 114, 111, 110, 103, 114, 111, 111, 109, 32, 115, 101, 97, 108]
def keyA (secret : List UInt8) : List UInt8 := (derived secret keysT 64).take 32
def keyZ (secret : List UInt8) : List UInt8 := (derived secret keysT 64).drop 32
theorem keyA_len (s : List UInt8) : (keyA s).length = 32 := by unfold keyA; rw [List.length_take, derived_len _ _ _ (by omega)]; rfl
theorem keyZ_len (s : List UInt8) : (keyZ s).length = 32 := by unfold keyZ; rw [List.length_drop, derived_len _ _ _ (by omega)]
def tagL (secret nonce label hidden : List UInt8) : List UInt8 := (sealL (keyZ secret) (nonce ++ lenBytes label.length ++ label ++ hidden)).take 16
theorem tagL_len (s n l h : List UInt8) : (tagL s n l h).length = 16 := by unfold tagL; rw [List.length_take, sealL_len]; rfl
def hidL (secret nonce text : List UInt8) : List UInt8 := hideL (firstL (keyA secret) nonce) 0 text
theorem hidL_len (s n t : List UInt8) : (hidL s n t).length = t.length := hideL_len _ _ _
theorem hidL_back (s n t : List UInt8) : hidL s n (hidL s n t) = t := hideL_back _ _ _
/-- The sealed bytes. -/
def shutL (secret nonce label text : List UInt8) : List UInt8 := hidL secret nonce text ++ tagL secret nonce label (hidL secret nonce text)
theorem shutL_len (s n l t : List UInt8) : (shutL s n l t).length = t.length + 16 := by unfold shutL; rw [List.length_append, hidL_len, tagL_len]
/-- What sealed bytes are opened as, and the error: 0, 2 (ErrEnd?), as numbers of the errors. -/
def rightL (secret nonce label x : List UInt8) : Prop := x.drop (x.length - 16) = tagL secret nonce label (x.take (x.length - 16))
instance (s n l x : List UInt8) : Decidable (rightL s n l x) := by unfold rightL; infer_instance
theorem right_iff (s n l x : List UInt8) (hx : 16 ≤ x.length) : rightL s n l x ↔ shutL s n l (hidL s n (x.take (x.length - 16))) = x := by
  unfold rightL shutL
  rw [hidL_back]
  constructor
  · intro h
    rw [← h, List.take_append_drop]
  · intro h
    have h2 := congrArg (List.drop (x.length - 16)) h
    rw [List.drop_append_of_le_length (by rw [List.length_take]; omega), List.drop_of_length_le (by rw [List.length_take]; omega), List.nil_append] at h2
    exact h2.symm
theorem shut_right (s n l t : List UInt8) : rightL s n l (shutL s n l t) := by
  have h := shutL_len s n l t
  unfold rightL
  rw [h, Nat.add_sub_cancel]
  unfold shutL
  rw [List.drop_append_of_le_length (by rw [hidL_len]; omega), List.drop_of_length_le (by rw [hidL_len]; omega), List.nil_append, List.take_append_of_le_length (by rw [hidL_len]; omega), List.take_of_length_le (by rw [hidL_len]; omega)]
theorem shut_take (s n l t : List UInt8) : (shutL s n l t).take ((shutL s n l t).length - 16) = hidL s n t := by
  rw [shutL_len, Nat.add_sub_cancel]
  unfold shutL
  rw [List.take_append_of_le_length (by rw [hidL_len]; omega), List.take_of_length_le (by rw [hidL_len]; omega)]
end Go.Proofs.YtbflkkffpcaakabDoor
