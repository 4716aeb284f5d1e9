/- Walks over the program's halves, whole, Sum, Next, Join, and what the statements' lives asks. -/
import Derived.Test.YtebmmhgmbnbnnaaA
namespace Go.Proofs.Ytebmmhgmbnbnnaa
open Go.RowKit
theorem wrap16 (x : Int) : IntKind.u16.wrap x = x % 65536 := by
  simp [IntKind.wrap, IntKind.signed, IntKind.bits]
theorem or_sum (a b : Nat) (ha : a < 65536) (hb : b < 65536) : bits .or .u32 ((65536 * b : Nat) : Int) (a : Int) = ((a + 65536 * b : Nat) : Int) := by
  rw [u32_or_nat _ _ (by omega) (by omega)]
  congr 1
  rw [show 65536 * b = 2 ^ 16 * b by rfl, ← Nat.two_pow_add_eq_or_of_lt (i := 16) (by simpa using ha)]
  omega

set_option maxHeartbeats 400000 in
theorem halves_any (x : Nat) (w : World) (hx : x < 4294967296) :
    Calls Try.prog 38 #[.int .u32 (x : Int)] w fun e w' => e = .returned (.tuple #[.int .u16 ((x % 65536 : Nat) : Int), .int .u16 ((x / 65536 : Nat) : Int)]) ∧ w' = w := by
  go_enter Try.func38, Try.ntmps38
  go_wp2
  go_ret2
  refine ⟨ret_val ?_, rfl⟩
  rw [wrap16]
  simp

set_option maxHeartbeats 400000 in
theorem whole_any (a b : Nat) (w : World) (ha : a < 65536) (hb : b < 65536) :
    Calls Try.prog 34 #[.int .u16 (a : Int), .int .u16 (b : Int)] w fun e w' => e = .returned (.int .u32 ((a + 65536 * b : Nat) : Int)) ∧ w' = w := by
  have ho := or_sum a b ha hb
  go_enter Try.func34, Try.ntmps34
  go_wp2
  go_ret
  refine ⟨ret_int ?_, rfl⟩
  rw [← ho]
  congr 1
  omega

set_option maxRecDepth 100000 in
set_option maxHeartbeats 400000 in
theorem sum_any (a : Option Addr) (len cap : Nat) (bs : List UInt8) (w : World) (hb : BsI w a len cap bs) :
    Calls Try.prog 27 #[.slice a len cap] w fun e w' => e = .returned (.int .u32 (wsum bs : Int)) ∧ w' = w := by
  have HB : Hid (BsI w a len cap bs) := hb
  have hm : len ≤ 9223372036854775807 := Nat.le_trans hb.2.1 hb.2.2.1
  clear hb
  go_enter Try.func27, Try.ntmps27
  go_wp2
  go_loop [3, 4, 9] (fun p q i => ∃ k x y : Nat, k ≤ len ∧ i = .int .i64 k ∧ p = .int .u16 (x : Int) ∧ q = .int .u16 (y : Int) ∧ x = wa (bs.take k) % 65536 ∧ y = wb (bs.take k) % 65536) (fun _ _ i => len - (intOf i).toNat)
  case atStart => exact ⟨0, 0, 0, by omega, rfl, rfl, rfl, by simp [wa], by simp [wb]⟩
  case round =>
    obtain ⟨k, x, y, hk, rfl, rfl, rfl, hx, hy⟩ := hrel
    have hx2 : x < 65536 := by omega
    have hy2 : y < 65536 := by omega
    by_cases hlt : k < len
    · obtain ⟨bb, bo, rfl, hbl, hc⟩ := HB.out.2.2.2 (by omega)
      have hl := HB.out.1
      obtain ⟨c, hcc⟩ : ∃ c : Nat, (bs.getD k 0).toNat = c := ⟨_, rfl⟩
      have hck := hc k hlt
      rw [hcc] at hck
      have hc256 : c < 256 := by rw [← hcc]; exact UInt8.toNat_lt _
      have hs : bs.take (k + 1) = bs.take k ++ [bs.getD k 0] := by
        rw [List.take_add_one, List.getElem?_eq_getElem (by omega)]
        simp [List.getElem?_eq_getElem (show k < bs.length by omega)]
      have HX : Hid ((x + c) % 65536 = wa (bs.take (k + 1)) % 65536) := by
        show _ = _
        rw [hs, wa_snoc, hcc]; omega
      have HY : Hid ((y + (x + c) % 65536) % 65536 = wb (bs.take (k + 1)) % 65536) := by
        show _ = _
        rw [hs, wb_snoc, hcc]; omega
      clear hx hy hs hcc hc hl
      go_wp2
      refine ⟨⟨k + 1, (x + c) % 65536, (y + (x + c) % 65536) % 65536, by omega, by go_num, ?_, ?_, HX.out, HY.out⟩, by simp [intOf]; omega⟩
      · rw [wrap16]; congr 1
      · rw [wrap16, wrap16]; congr 1
    · obtain rfl : k = len := by omega
      have HW : Hid (x + 65536 * y = wsum bs) := by
        show _ = _
        have hl := HB.out.1
        rw [List.take_of_length_le (by omega)] at hx hy
        rw [hx, hy, wsum]
      clear hx hy
      go_wp2_with (go_at_call 34; refine (whole_any x y _ hx2 hy2).mono ?_; rintro e w' ⟨rfl, rfl⟩)
      go_ret
      exact ⟨ret_int (by have := HW.out; omega), rfl⟩

theorem whole_int (A B : Int) (w : World) (hA : 0 ≤ A ∧ A < 65536) (hB : 0 ≤ B ∧ B < 65536) :
    Calls Try.prog 34 #[.int .u16 A, .int .u16 B] w fun e w' => e = .returned (.int .u32 (A + 65536 * B)) ∧ w' = w := by
  obtain ⟨a, rfl⟩ := Int.eq_ofNat_of_zero_le hA.1
  obtain ⟨b, rfl⟩ := Int.eq_ofNat_of_zero_le hB.1
  refine (whole_any a b w (by omega) (by omega)).mono ?_
  rintro e w' ⟨rfl, h⟩
  exact ⟨ret_int (by omega), h⟩
theorem w16 (x : Int) : 0 ≤ IntKind.u16.wrap x ∧ IntKind.u16.wrap x < 65536 := by rw [wrap16]; omega
theorem mul16 (x o : Int) : (x % 65536 * o) % 65536 = (x * o) % 65536 := by
  rw [Int.mul_emod, Int.emod_emod_of_dvd _ (Int.dvd_refl _), ← Int.mul_emod]
theorem nextI_nat (s : Nat) (size : Int) (o i : Nat) : ∃ n : Nat, nextI s size o i = (n : Int) ∧ n < 4294967296 := by
  refine ⟨(nextI s size o i).toNat, ?_, ?_⟩ <;> unfold nextI nextB <;> generalize size * (o : Int) = P <;> unfold nextA <;> omega
theorem joinI_nat (x y : Nat) (size : Int) : ∃ n : Nat, joinI x y size = (n : Int) ∧ n < 4294967296 := by
  refine ⟨(joinI x y size).toNat, ?_, ?_⟩ <;> unfold joinI joinA joinB <;> omega

set_option maxRecDepth 100000 in
set_option maxHeartbeats 400000 in
theorem next_any (s : Nat) (size : Int) (o i : Nat) (w : World) (hs : s < 4294967296) (ho : o < 256) (hi : i < 256) :
    Calls Try.prog 36 #[.int .u32 (s : Int), .int .i64 size, .int .u8 (o : Int), .int .u8 (i : Int)] w fun e w' => e = .returned (.int .u32 (nextI s size o i)) ∧ w' = w := by
  go_enter Try.func36, Try.ntmps36
  go_wp2_with (first | (go_at_call 38; refine (halves_any s _ hs).mono ?_; rintro e w' ⟨rfl, h⟩; subst w') | (go_at_call 34; refine (whole_int _ _ _ (w16 _) (w16 _)).mono ?_; rintro e w' ⟨rfl, h⟩; subst w'))
  go_ret
  refine ⟨ret_int ?_, rfl⟩
  simp only [wrap16, mul16]
  unfold nextI nextB nextA
  generalize size * (o : Int) = P
  omega
set_option maxRecDepth 100000 in
set_option maxHeartbeats 400000 in
theorem join_any (x y : Nat) (size : Int) (w : World) (hx : x < 4294967296) (hy : y < 4294967296) :
    Calls Try.prog 35 #[.int .u32 (x : Int), .int .u32 (y : Int), .int .i64 size] w fun e w' => e = .returned (.int .u32 (joinI x y size)) ∧ w' = w := by
  go_enter Try.func35, Try.ntmps35
  go_wp2_with (first | (go_at_call 38; first | with_reducible refine (halves_any x _ hx).mono ?_ | with_reducible refine (halves_any y _ hy).mono ?_); (rintro e w' ⟨rfl, h⟩; subst w') | (go_at_call 34; refine (whole_int _ _ _ (w16 _) (w16 _)).mono ?_; rintro e w' ⟨rfl, h⟩; subst w'))
  go_ret
  refine ⟨ret_int ?_, rfl⟩
  simp only [wrap16, mul16]
  unfold joinI joinB joinA
  have e : ((x % 65536 : Nat) : Int) = (x : Int) % 65536 := by omega
  rw [e]
  generalize size * ((x : Int) % 65536) = P
  omega
end Go.Proofs.Ytebmmhgmbnbnnaa
