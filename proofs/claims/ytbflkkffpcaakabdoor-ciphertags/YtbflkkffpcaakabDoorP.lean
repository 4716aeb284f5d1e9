/- Walk over the document's Pad. -/
import Derived.Test.YtbflkkffpcaakabDoorD
import Derived.Lib.SlBytesRow
namespace Go.Proofs.YtbflkkffpcaakabDoor
open Go.RowKit
def strOf (bs : List UInt8) : ByteArray := ⟨bs.toArray⟩
theorem strOf_append (a b : List UInt8) : strOf (a ++ b) = strOf a ++ strOf b := by
  apply ByteArray.ext; simp [strOf]
theorem strOf_size (a : List UInt8) : (strOf a).size = a.length := by simp [strOf, ByteArray.size]
theorem strOf_list (a : List UInt8) : (strOf a).data.toList = a := rfl
theorem strOf_of (b : ByteArray) : strOf b.data.toList = b := rfl

/-- The bytes of padding: how many noughts; a number's eight bytes, the greatest first. -/
def padZ (n : Nat) : Nat := (119 - n % 64) % 64
def beN : Nat → Nat → List UInt8
  | 0, _ => []
  | k + 1, m => beN k (m / 256) ++ [UInt8.ofNat (m % 256)]
theorem beN_len (k m : Nat) : (beN k m).length = k := by
  induction k generalizing m with
  | zero => rfl
  | succ k ih => simp [beN, ih]
def padL (n : Nat) : List UInt8 := 128 :: List.replicate (padZ n) 0 ++ beN 8 (n * 8 % 18446744073709551616)
/-- From the low end: the byte of m / 256^k goes ahead of the k bytes. -/
theorem beN_front (k m : Nat) : beN (k + 1) m = UInt8.ofNat (m / 256 ^ k % 256) :: beN k m := by
  induction k generalizing m with
  | zero => simp [beN]
  | succ k ih =>
    rw [beN, ih (m / 256), beN, Nat.div_div_eq_div_mul, ← Nat.pow_succ']
    rfl
/-- One byte, made a string. -/
theorem conv_one (W : World) (g c x : Nat) (h : W.cell? ⟨g, 0, none⟩ = some (.int .u8 (x : Int))) : (convert 29 9 (.slice (some ⟨g, 0, none⟩) 1 c)).run Tryd.prog W = .ok (.string (strOf [UInt8.ofNat x])) W := by
  have := run_convert_bytes_arg (P := Tryd.prog) W 29 5 Tryd.underlying29 Tryd.underlying5 g 0 1 c [(x : Int)] rfl (fun i hi => by
    obtain rfl : i = 0 := by omega
    simpa using h) 9 Tryd.underlying9
  rw [this]; rfl
theorem pad_ne {R k : Nat} (hR : R < 64) (hk : k < (119 - R) % 64) : ¬ (R + (k + 1)) % 64 = 56 := by omega
theorem pad_eq {R : Nat} (hR : R < 64) : (R + ((119 - R) % 64 + 1)) % 64 = 56 := by omega

end Go.Proofs.YtbflkkffpcaakabDoor
