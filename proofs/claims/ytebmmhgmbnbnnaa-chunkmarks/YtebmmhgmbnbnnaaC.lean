/- Walks over the document's rest, Sum, Next, Join, Last. -/
import Derived.Test.YtebmmhgmbnbnnaaB
namespace Go.Proofs.Ytebmmhgmbnbnnaa
open Go.RowKit
theorem wb_drop (bs : List UInt8) (k : Nat) (h : k < bs.length) : wb (bs.drop k) = (bs.getD k 0).toNat * (bs.length - k) + wb (bs.drop (k + 1)) := by
  rw [List.drop_eq_getElem_cons h, wb, List.length_drop, show bs.length - (k + 1) + 1 = bs.length - k by omega]
  congr 3
  simp [List.getElem?_eq_getElem h]
set_option maxRecDepth 100000 in
set_option maxHeartbeats 400000 in
theorem rsum_any (bs : List UInt8) (w : World) (hl : bs.length ≤ 5000) :
    Calls Try.prog 28 #[.string (strOf bs)] w fun e w' => e = .returned (.int .u32 (wsum bs : Int)) ∧ w' = w := by
  obtain ⟨L, hL⟩ : ∃ L, bs.length = L := ⟨_, rfl⟩
  have hsz : (strOf bs).size = L := by rw [strOf_size, hL]
  obtain ⟨S, hS⟩ : ∃ S, strOf bs = S := ⟨_, rfl⟩
  have HI : Hid (∀ i (h : i < S.size), S[i]'h = bs.getD i 0) := by
    intro i h
    subst hS
    have h' : i < bs.length := by rw [strOf_size] at h; exact h
    show bs.toArray[i] = _
    simp [List.getElem?_eq_getElem h']
  rw [hS] at hsz ⊢
  have HL : Hid (bs.length = L) := hL
  have hL5 : L ≤ 5000 := by omega
  have HA : Hid (wa bs ≤ 1275000) := by have := wa_le bs; show _ ≤ _; omega
  have HBd : Hid (wb bs ≤ 6375000000) := by
    have h1 := wb_le bs
    have h2 : 255 * bs.length * bs.length ≤ 255 * 5000 * 5000 := Nat.mul_le_mul (Nat.mul_le_mul_left _ hl) hl
    show _ ≤ _; omega
  clear hS hL hl
  go_enter Try.func28, Try.ntmps28
  go_wp2
  go_loop [3, 4, 5] (fun p q i => ∃ k x y : Nat, k ≤ L ∧ i = .int .i64 k ∧ p = .int .u64 (x : Int) ∧ q = .int .u64 (y : Int) ∧ x + wa (bs.drop k) = wa bs ∧ y + wb (bs.drop k) = wb bs) (fun _ _ i => L - (intOf i).toNat)
  case atStart => exact ⟨0, 0, 0, by omega, rfl, rfl, rfl, by simp, by simp⟩
  case round =>
    obtain ⟨k, x, y, hk, rfl, rfl, rfl, hx, hy⟩ := hrel
    have hx2 : x ≤ 1275000 := by have := HA.out; omega
    have hy2 : y ≤ 6375000000 := by have := HBd.out; omega
    by_cases hlt : k < L
    · have hl : k < bs.length := by rw [HL.out]; exact hlt
      have hks : k < S.size := by rw [hsz]; exact hlt
      obtain ⟨c, hcc⟩ : ∃ c : Nat, (bs.getD k 0).toNat = c := ⟨_, rfl⟩
      have hc256 : c < 256 := by rw [← hcc]; exact UInt8.toNat_lt _
      have hsi : (S[k]'hks).toNat = c := by rw [HI.out k hks, hcc]
      have hwb := wb_drop bs k hl
      have hwa : wa (bs.drop k) = c + wa (bs.drop (k + 1)) := by
        rw [List.drop_eq_getElem_cons hl, wa, ← hcc]
        congr 2
        simp [List.getElem?_eq_getElem hl]
      rw [hcc, HL.out] at hwb
      obtain ⟨P, hP⟩ : ∃ P, c * (L - k) = P := ⟨_, rfl⟩
      have hPi : (c : Int) * ((L : Int) - (k : Int)) = (P : Int) := by
        rw [← hP, ← Int.ofNat_sub (by omega)]; simp
      rw [hP] at hwb
      have HX : Hid (x + c + wa (bs.drop (k + 1)) = wa bs) := by show _ = _; omega
      have HY : Hid (y + P + wb (bs.drop (k + 1)) = wb bs) := by show _ = _; omega
      have hP2 : y + P ≤ 6375000000 := by have := HBd.out; omega
      clear hx hy hwa hwb hcc hP hl
      go_wp2
      exact ⟨⟨k + 1, x + c, y + P, by omega, by go_num, by go_num, by go_num, HX.out, HY.out⟩, by simp [intOf]; omega⟩
    · obtain rfl : k = L := by omega
      have hd : bs.drop k = [] := List.drop_eq_nil_of_le (by rw [HL.out]; omega)
      rw [hd] at hx hy
      have HW : Hid (x % 65536 + 65536 * (y % 65536) = wsum bs) := by
        show _ = _
        simp only [wa, wb, Nat.add_zero] at hx hy
        rw [hx, hy, wsum]
      clear hx hy hd
      go_wp2
      go_ret
      exact ⟨ret_int (by rw [← HW.out]; omega), rfl⟩

/-- The last so many bytes. -/
def lastN (l : List UInt8) (n : Nat) : List UInt8 := l.drop (l.length - n)
theorem strOf_from (l : List UInt8) (n : Nat) : (strOf l).extract n (strOf l).size = strOf (l.drop n) := by
  apply ByteArray.ext
  simp [strOf, ByteArray.extract, ByteArray.copySlice, List.extract, ByteArray.size]
  exact List.take_of_length_le (by simp)
theorem sslice_from (O : ByteArray) (p : Nat) (h : p ≤ O.size) (W : World) : (Instr.sliceAt 9 (.string O) (some (.int .i64 (p : Int))) none none).run Try.prog W = .ok (.string (O.extract p O.size)) W := by
  simp [Instr.sliceAt, Instr.slice, run_underlying Try.underlying9, Instr.sliceBounds, Instr.sliceBound, asIntOf, h]
set_option maxHeartbeats 400000 in
theorem last_any (l : List UInt8) (n : Nat) (w : World) (hl : l.length ≤ 9223372036854775807) (hn : n ≤ 9223372036854775807) :
    Calls Try.prog 29 #[.string (strOf l), .int .i64 (n : Int)] w fun e w' => e = .returned (.string (strOf (lastN l n))) ∧ w' = w := by
  have hsz := strOf_size l
  by_cases h : l.length ≤ n
  · have HE : Hid (lastN l n = l) := by show _ = _; unfold lastN; rw [show l.length - n = 0 by omega]; rfl
    have hi : (l.length : Int) ≤ (n : Int) := by omega
    go_enter Try.func29, Try.ntmps29
    go_wp2
    go_ret
    exact ⟨ret_val (by rw [HE.out]; rfl), rfl⟩
  · obtain ⟨p, hp⟩ : ∃ p, l.length - n = p := ⟨_, rfl⟩
    have HE : Hid ((strOf l).extract p l.length = strOf (lastN l n)) := by show _ = _; rw [← hsz, strOf_from, ← hp]; rfl
    have hi : ¬ (l.length : Int) ≤ (n : Int) := by omega
    have hpi : (l.length : Int) - (n : Int) = (p : Int) := by omega
    have hss := sslice_from (strOf l) p (by rw [hsz]; omega) w
    go_enter Try.func29, Try.ntmps29
    go_wp2
    go_ret
    exact ⟨ret_val (by rw [← HE.out]; rfl), rfl⟩
end Go.Proofs.Ytebmmhgmbnbnnaa
