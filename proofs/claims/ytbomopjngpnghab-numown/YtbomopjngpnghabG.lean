/- The walk over num.Get. -/
import Derived.Test.YtbomopjngpnghabA
import Derived.Laws.BitsAllLaws
import Derived.Laws.Bits64
namespace Go.Proofs.Ytbomopjngpnghab
open Go.RowKit

/-- The three answers of a reading. -/
def ans3 (r : Nat × Int × Nat) : Value := .tuple #[.int .u64 (r.1 : Int), .int .i64 r.2.1, .int .i64 (r.2.2 : Int)]

theorem pow_le9 {k : Nat} (h : k ≤ 9) : (128 : Nat) ^ k ≤ 9223372036854775808 := by
  have : (128 : Nat) ^ k ≤ 128 ^ 9 := Nat.pow_le_pow_right (by omega) h
  have e : (128 : Nat) ^ 9 = 9223372036854775808 := by decide
  omega
theorem pow_le8 {k : Nat} (h : k ≤ 8) : (128 : Nat) ^ k ≤ 72057594037927936 := by
  have : (128 : Nat) ^ k ≤ 128 ^ 8 := Nat.pow_le_pow_right (by omega) h
  have e : (128 : Nat) ^ 8 = 72057594037927936 := by decide
  omega

/-- 'n |= uint64(c%128) << (7*i)': a sum, where it fits. -/
theorem or_step (Z X k : Nat) (hz : Z < 128 ^ k) (hk : k ≤ 8 ∨ (k = 9 ∧ X ≤ 1)) :
    bits .or .u64 (Z : Int) (IntKind.u64.wrap ((X : Int) % 128 * 2 ^ (7 * k))) = ((Z + X % 128 * 128 ^ k : Nat) : Int) := by
  have e1 : ((X : Int) % 128 * 2 ^ (7 * k)) = ((X % 128 * 128 ^ k : Nat) : Int) := by
    rw [Int.natCast_mul, Int.natCast_pow, Int.natCast_emod, Int.pow_mul]; rfl
  have hlt : X % 128 * 128 ^ k < 18446744073709551616 := by
    rcases hk with h | ⟨rfl, h⟩
    · have := pow_le8 h
      have : X % 128 * 128 ^ k ≤ 127 * 72057594037927936 := Nat.mul_le_mul (by omega) this
      omega
    · have : X % 128 * 128 ^ 9 ≤ 1 * 128 ^ 9 := Nat.mul_le_mul_right _ (by omega)
      omega
  have hz9 : Z < 18446744073709551616 := by
    have := pow_le9 (k := k) (by omega)
    omega
  rw [e1, IntKind.wrap_u64, Int.emod_eq_of_lt (by omega) (by omega), u64_or_nat Z _ hz9 hlt]
  congr 1
  have hp : (128 : Nat) ^ k = 2 ^ (7 * k) := by rw [Nat.pow_mul]
  rw [hp] at hz ⊢
  rw [Nat.mul_comm, Nat.or_comm, ← Nat.two_pow_add_eq_or_of_lt hz, Nat.add_comm]

theorem or_any (Z : Nat) (y : Int) (hz : Z < 18446744073709551616) :
    ∃ z' : Nat, bits .or .u64 (Z : Int) (IntKind.u64.wrap y) = (z' : Int) ∧ z' < 18446744073709551616 := by
  obtain ⟨m, hm⟩ : ∃ m : Nat, IntKind.u64.wrap y = (m : Int) := ⟨(IntKind.u64.wrap y).toNat, by rw [IntKind.wrap_u64]; omega⟩
  have hm1 : m < 18446744073709551616 := by rw [IntKind.wrap_u64] at hm; omega
  rw [hm, u64_or_nat Z m hz hm1]
  exact ⟨_, rfl, Nat.or_lt_two_pow (n := 64) hz hm1⟩

/-- What the loop of Get holds behind k rounds. -/
def GetRel (bs : List UInt8) (p k Z : Nat) : Prop :=
  k ≤ 10 ∧ p + k ≤ bs.length ∧ Z < 18446744073709551616 ∧ (k < 10 → Z < 128 ^ k) ∧ getL (bs.drop p) 0 0 = getL (bs.drop (p + k)) k Z

theorem getRel_on {bs : List UInt8} {p k Z : Nat} (h : GetRel bs p k Z) (hk : k < 10) (hlt : p + k < bs.length) {x : Int} (hx : x = ((bs[p + k]'hlt).toNat : Int)) (h1 : 128 ≤ x) :
    ∃ Z', bits .or .u64 (Z : Int) (IntKind.u64.wrap (x % 128 * 2 ^ (7 * k))) = ((Z' : Nat) : Int) ∧ GetRel bs p (k + 1) Z' := by
  obtain ⟨_, _, h3, h4, h5⟩ := h
  subst hx
  have hx255 := (bs[p + k]'hlt).toNat_lt
  rw [getL_on (drop_cons bs (p + k) hlt) hk (by omega)] at h5
  by_cases h9 : k = 9
  · subst h9
    obtain ⟨Z', e, hZ'⟩ := or_any Z (((bs[p + 9]'hlt).toNat : Int) % 128 * 2 ^ (7 * 9)) h3
    exact ⟨Z', e, by omega, by omega, hZ', by omega, by rw [h5, getL_ten, getL_ten]⟩
  · have hz := h4 hk
    refine ⟨_, or_step Z _ k hz (.inl (by omega)), by omega, by omega, ?_, ?_, h5⟩
    · have a := pow_le8 (k := k) (by omega)
      have : (bs[p + k]'hlt).toNat % 128 * 128 ^ k ≤ 127 * 72057594037927936 := Nat.mul_le_mul (by omega) a
      omega
    · intro _
      have : (bs[p + k]'hlt).toNat % 128 * 128 ^ k ≤ 127 * 128 ^ k := Nat.mul_le_mul_right _ (by omega)
      rw [Nat.pow_succ]; omega

theorem getAt_in {bs : List UInt8} {p : Nat} (h : p ≤ bs.length) : getAt bs (p : Int) = ((getL (bs.drop p) 0 0).1, if (getL (bs.drop p) 0 0).2.2 = 0 then (p : Int) + (getL (bs.drop p) 0 0).2.1 else 0, (getL (bs.drop p) 0 0).2.2) := by
  unfold getAt
  rw [if_neg (by omega)]
  simp

theorem getRel_ok {bs : List UInt8} {p k Z : Nat} (h : GetRel bs p k Z) (hk : k < 10) (hlt : p + k < bs.length) {x : Int} (hx : x = ((bs[p + k]'hlt).toNat : Int)) (h1 : x < 128) (he : endsB k x = true) :
    ans3 (getAt bs p) = .tuple #[.int .u64 (bits .or .u64 (Z : Int) (IntKind.u64.wrap (x % 128 * 2 ^ (7 * k)))), .int .i64 ((p : Int) + k + 1), .int .i64 0] := by
  obtain ⟨_, _, h3, h4, h5⟩ := h
  subst hx
  simp only [endsB, Bool.and_eq_true, Bool.not_eq_true', Bool.and_eq_false_iff, decide_eq_false_iff_not, Bool.or_eq_true, decide_eq_true_eq] at he
  rw [getL_ok (drop_cons bs (p + k) hlt) hk (by omega) (by omega)] at h5
  rw [getAt_in (by omega), h5, or_step Z _ k (h4 hk) (by omega)]
  simp only [ans3, if_true]
  rw [show (bs[p + k]'hlt).toNat % 128 = (bs[p + k]'hlt).toNat by omega]
  congr 5

theorem getRel_bad {bs : List UInt8} {p k Z : Nat} (h : GetRel bs p k Z) (hk : k < 10) (hlt : p + k < bs.length) {x : Int} (hx : x = ((bs[p + k]'hlt).toNat : Int)) (h1 : x < 128) (he : endsB k x = false) :
    ans3 (getAt bs p) = .tuple #[.int .u64 0, .int .i64 0, .int .i64 4] := by
  obtain ⟨_, _, h3, h4, h5⟩ := h
  subst hx
  simp only [endsB, Bool.and_eq_false_iff, Bool.not_eq_false', Bool.and_eq_true, decide_eq_true_eq, Bool.or_eq_false_iff, decide_eq_false_iff_not] at he
  rw [getL_bad (drop_cons bs (p + k) hlt) hk (by omega) (by omega)] at h5
  rw [getAt_in (by omega), h5]
  rfl

theorem getRel_end {bs : List UInt8} {p k Z : Nat} (h : GetRel bs p k Z) (hk : k < 10) (hlt : ¬ p + k < bs.length) :
    ans3 (getAt bs p) = .tuple #[.int .u64 0, .int .i64 0, .int .i64 3] := by
  obtain ⟨_, _, h3, h4, h5⟩ := h
  rw [getL_end (List.drop_eq_nil_of_le (by omega)) hk] at h5
  rw [getAt_in (by omega), h5]
  rfl

theorem getRel_ten {bs : List UInt8} {p k Z : Nat} (h : GetRel bs p k Z) (hk : ¬ k < 10) :
    ans3 (getAt bs p) = .tuple #[.int .u64 0, .int .i64 0, .int .i64 4] := by
  obtain ⟨h1, _, h3, h4, h5⟩ := h
  obtain rfl : k = 10 := by omega
  rw [getL_ten] at h5
  rw [getAt_in (by omega), h5]
  rfl

theorem ret_val {a b : Value} (h : a = b) : Ending.returned a = .returned b := by rw [h]

set_option maxRecDepth 100000 in
set_option maxHeartbeats 400000 in
theorem get_in (b off len cap : Nat) (bs : List UInt8) (p : Nat) (w : World) (hb : bs.length = len) (hm : len ≤ 9223372036854775807) (hp : p < len)
    (hcell : ∀ i (h : i < bs.length), w.cell? ⟨b, off + i, none⟩ = some (.int .u8 (bs[i].toNat : Int))) :
    Calls Try.prog 11 #[.slice (some ⟨b, off, none⟩) len cap, .int .i64 (p : Int)] w fun e w' => e = .returned (ans3 (getAt bs p)) ∧ w' = w := by
  have HB : Hid (bs.length = len) := hb
  clear hb
  go_enter Try.func11, Try.ntmps11
  go_wp2
  go_loop [7, 18] (fun n j => ∃ k : Nat, ∃ Z : Nat, j = .int .i64 k ∧ n = .int .u64 (Z : Int) ∧ GetRel bs p k Z) (fun _ j => 10 - (intOf j).toNat)
  case atStart => exact ⟨0, 0, rfl, rfl, by omega, by have := HB.out; omega, by omega, by intro _; decide, rfl⟩
  case round =>
    obtain ⟨k, Z, rfl, rfl, hrel⟩ := hrel
    have hk := hrel.1
    have hpk : p + k ≤ len := by have := HB.out; have := hrel.2.1; omega
    by_cases h10 : k < 10
    · by_cases hlt : p + k < len
      · have hlt' : p + k < bs.length := by have := HB.out; omega
        have hc := hcell (p + k) hlt'
        have hxl := (bs[p + k]'hlt').toNat_lt
        obtain ⟨x, hx⟩ : ∃ x : Int, x = ((bs[p + k]'hlt').toNat : Int) := ⟨_, rfl⟩
        rw [← hx] at hc
        have hx0 : 0 ≤ x := by omega
        have hx255 : x ≤ 255 := by omega
        have HX : Hid (x = ((bs[p + k]'hlt').toNat : Int)) := hx
        clear hx hcell hxl
        by_cases hx1 : 128 ≤ x
        · obtain ⟨Z', eZ, rel'⟩ := getRel_on hrel h10 (by have := HB.out; omega) HX.out hx1
          clear hrel
          go_wp2
          go_round
          case rel => exact ⟨k + 1, Z', by go_num, rfl, rel'⟩
          case measure => simp [intOf]; omega
        · by_cases he : endsB k x = true
          · have HR : Hid (ans3 (getAt bs p) = .tuple #[.int .u64 (bits .or .u64 (Z : Int) (IntKind.u64.wrap (x % 128 * 2 ^ (7 * k)))), .int .i64 ((p : Int) + k + 1), .int .i64 0]) := getRel_ok hrel h10 (by have := HB.out; omega) HX.out (by omega) he
            clear hrel
            go_wp2_with (go_at_call 19; refine (ends_any _ _ _ (by omega) (by omega) (by omega) (by omega)).mono ?_; rintro e w' ⟨rfl, rfl⟩)
            go_ret3
            exact ⟨ret_val HR.out.symm, rfl⟩
          · have he' : endsB k x = false := by simpa using he
            have HR : Hid (ans3 (getAt bs p) = .tuple #[.int .u64 0, .int .i64 0, .int .i64 4]) := getRel_bad hrel h10 (by have := HB.out; omega) HX.out (by omega) he'
            clear hrel he
            go_wp2_with (go_at_call 19; refine (ends_any _ _ _ (by omega) (by omega) (by omega) (by omega)).mono ?_; rintro e w' ⟨rfl, rfl⟩)
            go_ret3
            exact ⟨ret_val HR.out.symm, rfl⟩
      · have HR : Hid (ans3 (getAt bs p) = .tuple #[.int .u64 0, .int .i64 0, .int .i64 3]) := getRel_end hrel h10 (by have := HB.out; omega)
        clear hrel
        go_wp2
        go_ret3
        exact ⟨ret_val HR.out.symm, rfl⟩
    · have HR : Hid (ans3 (getAt bs p) = .tuple #[.int .u64 0, .int .i64 0, .int .i64 4]) := getRel_ten hrel h10
      clear hrel
      go_wp2
      go_ret3
      exact ⟨ret_val HR.out.symm, rfl⟩
end Go.Proofs.Ytbomopjngpnghab
