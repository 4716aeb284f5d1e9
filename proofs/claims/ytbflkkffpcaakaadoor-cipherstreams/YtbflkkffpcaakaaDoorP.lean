/- Walk over the document's Pad. -/
import Derived.Test.YtbflkkffpcaakaaDoorD
import Derived.Lib.SlBytesRow
namespace Go.Proofs.YtbflkkffpcaakaaDoor
open Go.RowKit
def strOf (bs : List UInt8) : ByteArray := ⟨bs.toArray⟩
theorem strOf_append (a b : List UInt8) : strOf (a ++ b) = strOf a ++ strOf b := by
  apply ByteArray.ext; simp [strOf]
theorem strOf_size (a : List UInt8) : (strOf a).size = a.length := by simp [strOf, ByteArray.size]
theorem strOf_list (a : List UInt8) : (strOf a).data.toList = a := rfl
theorem strOf_of (b : ByteArray) : strOf b.data.toList = b := rfl

/-- The bytes of padding: how many noughts; a number's eight bytes, the greatest first. -/
def padZ (n : Nat) : Nat := (119 - n % 64) % 64
def beN : Nat → Nat → List UInt8
  | 0, _ => []
  | k + 1, m => beN k (m / 256) ++ [UInt8.ofNat (m % 256)]
theorem beN_len (k m : Nat) : (beN k m).length = k := by
  induction k generalizing m with
  | zero => rfl
  | succ k ih => simp [beN, ih]
def padL (n : Nat) : List UInt8 := 128 :: List.replicate (padZ n) 0 ++ beN 8 (n * 8 % 18446744073709551616)
/-- From the low end: the byte of m / 256^k goes ahead of the k bytes. -/
theorem beN_front (k m : Nat) : beN (k + 1) m = UInt8.ofNat (m / 256 ^ k % 256) :: beN k m := by
  induction k generalizing m with
  | zero => simp [beN]
  | succ k ih =>
    rw [beN, ih (m / 256), beN, Nat.div_div_eq_div_mul, ← Nat.pow_succ']
    rfl
/-- One byte, made a string. -/
theorem conv_one (W : World) (g c x : Nat) (h : W.cell? ⟨g, 0, none⟩ = some (.int .u8 (x : Int))) : (convert 42 9 (.slice (some ⟨g, 0, none⟩) 1 c)).run Tryd.prog W = .ok (.string (strOf [UInt8.ofNat x])) W := by
  have := run_convert_bytes_arg (P := Tryd.prog) W 42 5 Tryd.underlying42 Tryd.underlying5 g 0 1 c [(x : Int)] rfl (fun i hi => by
    obtain rfl : i = 0 := by omega
    simpa using h) 9 Tryd.underlying9
  rw [this]; rfl
theorem pad_ne {R k : Nat} (hR : R < 64) (hk : k < (119 - R) % 64) : ¬ (R + (k + 1)) % 64 = 56 := by omega
theorem pad_eq {R : Nat} (hR : R < 64) : (R + ((119 - R) % 64 + 1)) % 64 = 56 := by omega

set_option maxRecDepth 100000 in
set_option maxHeartbeats 800000 in
theorem pad_in (n : Nat) (w : World) (hn : n ≤ 9223372036854775807) :
    Calls Tryd.prog 47 #[.int .i64 (n : Int)] w fun e w' => e = .returned (.string (strOf (padL n))) ∧ Below w.heap.size w w' := by
  obtain ⟨R, hR⟩ : ∃ R, n % 64 = R := ⟨_, rfl⟩
  obtain ⟨m, hm⟩ : ∃ m, n * 8 % 18446744073709551616 = m := ⟨_, rfl⟩
  have hRi : (n : Int) % 64 = (R : Int) := by omega
  have hR64 : R < 64 := by omega
  have hmi : (n : Int) * 8 % 18446744073709551616 = (m : Int) := by omega
  have hm64 : m < 18446744073709551616 := by omega
  have HP : Hid (padL n = 128 :: List.replicate ((119 - R) % 64) 0 ++ beN 8 m) := by
    show padL n = _
    unfold padL padZ; rw [hR, hm]
  clear hR hm
  obtain ⟨Z, hZ⟩ : ∃ Z, (119 - R) % 64 = Z := ⟨_, rfl⟩
  have HZ : Hid ((119 - R) % 64 = Z) := hZ
  have hZ64 : Z ≤ 63 := by omega
  rw [hZ] at HP
  clear hZ
  go_enter Tryd.func47, Tryd.ntmps47
  go_wp2
  go_loop [3] (fun s => ∃ (k : Nat) (S : ByteArray), s = .string S ∧ k ≤ Z ∧ S.size = k + 1 ∧ S = strOf (128 :: List.replicate k 0)) (fun s => 100 - (match s with | .string S => S.size | _ => 0))
  case atStart => exact ⟨0, _, rfl, by omega, rfl, rfl⟩
  case round =>
    obtain ⟨k, S, rfl, hk, hsz, hS⟩ := hrel
    have HS : Hid (S = strOf (128 :: List.replicate k 0)) := hS
    clear hS
    by_cases hlt : k < Z
    · have h1 : (((R : Int) + ((k : Int) + 1)) % 64 == 56) = false := by
        have := pad_ne (R := R) (k := k) hR64 (by rw [HZ.out]; exact hlt)
        simp; omega
      go_wp2
      have e1 : S ++ { data := #[0] } = strOf (128 :: List.replicate (k + 1) 0) := by
        rw [HS.out, show (128 :: List.replicate (k + 1) 0 : List UInt8) = (128 :: List.replicate k 0) ++ [0] by rw [List.replicate_succ']; rfl, strOf_append]
        rfl
      refine ⟨⟨k + 1, _, rfl, by omega, by rw [e1, strOf_size]; simp, e1⟩, ?_⟩
      simp only
      rw [e1, strOf_size, hsz]
      simp; omega
    · obtain rfl : k = Z := by omega
      have h1 : ((R : Int) + ((k : Int) + 1)) % 64 = 56 := by
        have := pad_eq (R := R) hR64
        rw [HZ.out] at this
        omega
      go_wp2
      go_loopw [4, 5, 6] (fun x t i wr => ∃ j : Nat, j ≤ 8 ∧ i = .int .i64 (j : Int) ∧ x = .int .u64 ((m / 256 ^ j : Nat) : Int) ∧ t = .string (strOf (beN j m)) ∧ Below w.heap.size w wr) (fun _ _ i _ => 8 - (intOf i).toNat)
      case atStart => exact ⟨0, by omega, rfl, by simp; rw [IntKind.wrap_u64]; exact hmi, rfl, Below.refl _ _⟩
      case round =>
        obtain ⟨j, hj, rfl, rfl, rfl, hb⟩ := hrel
        by_cases hj8 : j < 8
        · obtain ⟨M, hM⟩ : ∃ M, m / 256 ^ j = M := ⟨_, rfl⟩
          have hMl : M ≤ m := hM ▸ Nat.div_le_self _ _
          obtain ⟨X, hX⟩ : ∃ X, M % 256 = X := ⟨_, rfl⟩
          obtain ⟨M', hM'⟩ : ∃ X, M / 256 = X := ⟨_, rfl⟩
          have HE : Hid (beN (j + 1) m = UInt8.ofNat X :: beN j m) := by
            show beN (j + 1) m = _
            rw [beN_front, hM, hX]
          have HM : Hid (m / 256 ^ (j + 1) = M') := by
            show m / 256 ^ (j + 1) = M'
            rw [Nat.pow_succ, ← Nat.div_div_eq_div_mul, hM, hM']
          have x1 : (M : Int) % 256 = (X : Int) := by omega
          have x2 : (M : Int) / 256 = (M' : Int) := by omega
          have hXl : X < 256 := by omega
          have hT : (strOf (beN j m)).size = j := by rw [strOf_size, beN_len]
          have hT1 : (strOf [UInt8.ofNat X]).size = 1 := rfl
          rw [hM]
          have hcv := fun (W : World) => conv_one W wr.heap.size 1 X
          clear hM hX hM'
          go_wp2
          go_roundw
          case rel =>
            refine ⟨j + 1, by omega, by go_num, by rw [HM.out], ?_, hb.alloc hb.size _⟩
            rw [HE.out, show UInt8.ofNat X :: beN j m = [UInt8.ofNat X] ++ beN j m from rfl, strOf_append]
          case measure => simp [intOf]; omega
        · obtain rfl : j = 8 := by omega
          have hT : (strOf (beN 8 m)).size = 8 := by rw [strOf_size, beN_len]
          obtain ⟨T, hTT⟩ : ∃ T, strOf (beN 8 m) = T := ⟨_, rfl⟩
          have HT : Hid (strOf (beN 8 m) = T) := hTT
          rw [hTT] at hT ⊢
          clear hTT
          go_wp2
          go_ret
          exact ⟨ret_val (by rw [HP.out, strOf_append, ← HS.out, HT.out]; rfl), hb⟩
theorem pad_neg (n : Int) (w : World) (hn : n < 0) :
    Calls Tryd.prog 47 #[.int .i64 n] w fun e w' => e = .returned (.string (strOf [])) ∧ w' = w := by
  go_enter Tryd.func47, Tryd.ntmps47
  go_wp2
  go_ret
  exact ⟨rfl, rfl⟩
end Go.Proofs.YtbflkkffpcaakaaDoor
