/- Weak sums: mathematics, and walks over the program's and the document's. -/
import Derived.Test.YthmikfkdjnidmaaDoorCE
namespace Go.Proofs.YthmikfkdjnidmaaDoor
open Go.RowKit
/-- The sum of bytes. -/
def wa : List UInt8 → Nat
  | [] => 0
  | x :: l => x.toNat + wa l
/-- The sum of each byte times how many stand from it on. -/
def wb : List UInt8 → Nat
  | [] => 0
  | x :: l => x.toNat * (l.length + 1) + wb l
/-- The weak sum. -/
def wsum (l : List UInt8) : Nat := wa l % 65536 + 65536 * (wb l % 65536)
theorem wsum_lt (l : List UInt8) : wsum l < 4294967296 := by unfold wsum; omega
theorem wa_append (l m : List UInt8) : wa (l ++ m) = wa l + wa m := by
  induction l with
  | nil => simp [wa]
  | cons x l ih => rw [List.cons_append, wa, wa, ih]; omega
theorem wb_append (l m : List UInt8) : wb (l ++ m) = wb l + wa l * m.length + wb m := by
  induction l with
  | nil => simp [wb, wa]
  | cons x l ih =>
    rw [List.cons_append, wb, wb, wa, ih, List.length_append, Nat.add_mul, show x.toNat * (l.length + m.length + 1) = x.toNat * (l.length + 1) + x.toNat * m.length by rw [← Nat.mul_add]; congr 1; omega]
    omega
theorem wa_snoc (l : List UInt8) (c : UInt8) : wa (l ++ [c]) = wa l + c.toNat := by rw [wa_append]; simp [wa]
theorem wb_snoc (l : List UInt8) (c : UInt8) : wb (l ++ [c]) = wb l + wa l + c.toNat := by rw [wb_append]; simp [wb]
theorem wa_le (l : List UInt8) : wa l ≤ 255 * l.length := by
  induction l with
  | nil => simp [wa]
  | cons x l ih => have := x.toNat_lt; rw [wa, List.length_cons]; omega
theorem wb_le (l : List UInt8) : wb l ≤ 255 * l.length * l.length := by
  induction l with
  | nil => simp [wb]
  | cons x l ih =>
    have hx : x.toNat ≤ 255 := by have := x.toNat_lt; omega
    rw [wb, List.length_cons]
    have h1 : x.toNat * (l.length + 1) ≤ 255 * (l.length + 1) := Nat.mul_le_mul_right _ hx
    have h2 : 255 * l.length * l.length ≤ 255 * (l.length + 1) * l.length := Nat.mul_le_mul_right _ (by omega)
    have h3 : 255 * (l.length + 1) * (l.length + 1) = 255 * (l.length + 1) * l.length + 255 * (l.length + 1) := by rw [Nat.mul_add, Nat.mul_one]
    omega
theorem wrap16 (x : Int) : IntKind.u16.wrap x = x % 65536 := by
  simp [IntKind.wrap, IntKind.signed, IntKind.bits]
theorem or_sum (a b : Nat) (ha : a < 65536) (hb : b < 65536) : bits .or .u32 ((65536 * b : Nat) : Int) (a : Int) = ((a + 65536 * b : Nat) : Int) := by
  rw [u32_or_nat _ _ (by omega) (by omega)]
  congr 1
  rw [show 65536 * b = 2 ^ 16 * b by rfl, ← Nat.two_pow_add_eq_or_of_lt (i := 16) (by simpa using ha)]
  omega
set_option maxHeartbeats 400000 in
theorem rollwhole_any (a b : Nat) (w : World) (ha : a < 65536) (hb : b < 65536) :
    Calls Tryd.prog 27 #[.int .u16 (a : Int), .int .u16 (b : Int)] w fun e w' => e = .returned (.int .u32 ((a + 65536 * b : Nat) : Int)) ∧ w' = w := by
  have ho := or_sum a b ha hb
  go_enter Tryd.func27, Tryd.ntmps27
  go_wp2
  go_ret
  refine ⟨ret_int ?_, rfl⟩
  rw [← ho]
  congr 1
  omega
set_option maxRecDepth 100000 in
set_option maxHeartbeats 400000 in
theorem rollsum_any (a : Option Addr) (len cap : Nat) (bs : List UInt8) (w : World) (hb : BsI w a len cap bs) :
    Calls Tryd.prog 22 #[.slice a len cap] w fun e w' => e = .returned (.int .u32 (wsum bs : Int)) ∧ w' = w := by
  have HB : Hid (BsI w a len cap bs) := hb
  have hm : len ≤ 9223372036854775807 := Nat.le_trans hb.2.1 hb.2.2.1
  clear hb
  go_enter Tryd.func22, Tryd.ntmps22
  go_wp2
  go_loop [3, 4, 9] (fun p q i => ∃ k x y : Nat, k ≤ len ∧ i = .int .i64 k ∧ p = .int .u16 (x : Int) ∧ q = .int .u16 (y : Int) ∧ x = wa (bs.take k) % 65536 ∧ y = wb (bs.take k) % 65536) (fun _ _ i => len - (intOf i).toNat)
  case atStart => exact ⟨0, 0, 0, by omega, rfl, rfl, rfl, by simp [wa], by simp [wb]⟩
  case round =>
    obtain ⟨k, x, y, hk, rfl, rfl, rfl, hx, hy⟩ := hrel
    have hx2 : x < 65536 := by omega
    have hy2 : y < 65536 := by omega
    by_cases hlt : k < len
    · obtain ⟨bb, bo, rfl, hbl, hc⟩ := HB.out.2.2.2 (by omega)
      have hl := HB.out.1
      obtain ⟨c, hcc⟩ : ∃ c : Nat, (bs.getD k 0).toNat = c := ⟨_, rfl⟩
      have hck := hc k hlt
      rw [hcc] at hck
      have hc256 : c < 256 := by rw [← hcc]; exact UInt8.toNat_lt _
      have hs : bs.take (k + 1) = bs.take k ++ [bs.getD k 0] := by
        rw [List.take_add_one, List.getElem?_eq_getElem (by omega)]
        simp [List.getElem?_eq_getElem (show k < bs.length by omega)]
      have HX : Hid ((x + c) % 65536 = wa (bs.take (k + 1)) % 65536) := by
        show _ = _
        rw [hs, wa_snoc, hcc]; omega
      have HY : Hid ((y + (x + c) % 65536) % 65536 = wb (bs.take (k + 1)) % 65536) := by
        show _ = _
        rw [hs, wb_snoc, hcc]; omega
      clear hx hy hs hcc hc hl
      go_wp2
      refine ⟨⟨k + 1, (x + c) % 65536, (y + (x + c) % 65536) % 65536, by omega, by go_num, ?_, ?_, HX.out, HY.out⟩, by simp [intOf]; omega⟩
      · rw [wrap16]; congr 1
      · rw [wrap16, wrap16]; congr 1
    · obtain rfl : k = len := by omega
      have HW : Hid (x + 65536 * y = wsum bs) := by
        show _ = _
        have hl := HB.out.1
        rw [List.take_of_length_le (by omega)] at hx hy
        rw [hx, hy, wsum]
      clear hx hy
      go_wp2_with (go_at_call 27; refine (rollwhole_any x y _ hx2 hy2).mono ?_; rintro e w' ⟨rfl, rfl⟩)
      go_ret
      exact ⟨ret_int (by have := HW.out; omega), rfl⟩
theorem wb_drop (bs : List UInt8) (k : Nat) (h : k < bs.length) : wb (bs.drop k) = (bs.getD k 0).toNat * (bs.length - k) + wb (bs.drop (k + 1)) := by
  rw [List.drop_eq_getElem_cons h, wb, List.length_drop, show bs.length - (k + 1) + 1 = bs.length - k by omega]
  congr 3
  simp [List.getElem?_eq_getElem h]
set_option maxRecDepth 100000 in
set_option maxHeartbeats 400000 in
theorem rsum_any (bs : List UInt8) (w : World) (hl : bs.length ≤ 5000) :
    Calls Tryd.prog 24 #[.string (strOf bs)] w fun e w' => e = .returned (.int .u32 (wsum bs : Int)) ∧ w' = w := by
  obtain ⟨L, hL⟩ : ∃ L, bs.length = L := ⟨_, rfl⟩
  have hsz : (strOf bs).size = L := by rw [strOf_size, hL]
  obtain ⟨S, hS⟩ : ∃ S, strOf bs = S := ⟨_, rfl⟩
  have HI : Hid (∀ i (h : i < S.size), S[i]'h = bs.getD i 0) := by
    intro i h
    subst hS
    have h' : i < bs.length := by rw [strOf_size] at h; exact h
    show bs.toArray[i] = _
    simp [List.getElem?_eq_getElem h']
  rw [hS] at hsz ⊢
  have HL : Hid (bs.length = L) := hL
  have hL5 : L ≤ 5000 := by omega
  have HA : Hid (wa bs ≤ 1275000) := by have := wa_le bs; show _ ≤ _; omega
  have HBd : Hid (wb bs ≤ 6375000000) := by
    have h1 := wb_le bs
    have h2 : 255 * bs.length * bs.length ≤ 255 * 5000 * 5000 := Nat.mul_le_mul (Nat.mul_le_mul_left _ hl) hl
    show _ ≤ _; omega
  clear hS hL hl
  go_enter Tryd.func24, Tryd.ntmps24
  go_wp2
  go_loop [3, 4, 5] (fun p q i => ∃ k x y : Nat, k ≤ L ∧ i = .int .i64 k ∧ p = .int .u64 (x : Int) ∧ q = .int .u64 (y : Int) ∧ x + wa (bs.drop k) = wa bs ∧ y + wb (bs.drop k) = wb bs) (fun _ _ i => L - (intOf i).toNat)
  case atStart => exact ⟨0, 0, 0, by omega, rfl, rfl, rfl, by simp, by simp⟩
  case round =>
    obtain ⟨k, x, y, hk, rfl, rfl, rfl, hx, hy⟩ := hrel
    have hx2 : x ≤ 1275000 := by have := HA.out; omega
    have hy2 : y ≤ 6375000000 := by have := HBd.out; omega
    by_cases hlt : k < L
    · have hl : k < bs.length := by rw [HL.out]; exact hlt
      have hks : k < S.size := by rw [hsz]; exact hlt
      obtain ⟨c, hcc⟩ : ∃ c : Nat, (bs.getD k 0).toNat = c := ⟨_, rfl⟩
      have hc256 : c < 256 := by rw [← hcc]; exact UInt8.toNat_lt _
      have hsi : (S[k]'hks).toNat = c := by rw [HI.out k hks, hcc]
      have hwb := wb_drop bs k hl
      have hwa : wa (bs.drop k) = c + wa (bs.drop (k + 1)) := by
        rw [List.drop_eq_getElem_cons hl, wa, ← hcc]
        congr 2
        simp [List.getElem?_eq_getElem hl]
      rw [hcc, HL.out] at hwb
      obtain ⟨P, hP⟩ : ∃ P, c * (L - k) = P := ⟨_, rfl⟩
      have hPi : (c : Int) * ((L : Int) - (k : Int)) = (P : Int) := by
        rw [← hP, ← Int.ofNat_sub (by omega)]; simp
      rw [hP] at hwb
      have HX : Hid (x + c + wa (bs.drop (k + 1)) = wa bs) := by show _ = _; omega
      have HY : Hid (y + P + wb (bs.drop (k + 1)) = wb bs) := by show _ = _; omega
      have hP2 : y + P ≤ 6375000000 := by have := HBd.out; omega
      clear hx hy hwa hwb hcc hP hl
      go_wp2
      exact ⟨⟨k + 1, x + c, y + P, by omega, by go_num, by go_num, by go_num, HX.out, HY.out⟩, by simp [intOf]; omega⟩
    · obtain rfl : k = L := by omega
      have hd : bs.drop k = [] := List.drop_eq_nil_of_le (by rw [HL.out]; omega)
      rw [hd] at hx hy
      have HW : Hid (x % 65536 + 65536 * (y % 65536) = wsum bs) := by
        show _ = _
        simp only [wa, wb, Nat.add_zero] at hx hy
        rw [hx, hy, wsum]
      clear hx hy hd
      go_wp2
      go_ret
      exact ⟨ret_int (by rw [← HW.out]; omega), rfl⟩
end Go.Proofs.YthmikfkdjnidmaaDoor
