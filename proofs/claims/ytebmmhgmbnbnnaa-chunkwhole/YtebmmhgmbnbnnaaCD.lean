/- Walks over Mark and May, of the program and of the document. -/
import Derived.Test.YtebmmhgmbnbnnaaCC
namespace Go.Proofs.Ytebmmhgmbnbnnaa
open Go.RowKit Ck
set_option maxRecDepth 100000 in
set_option maxHeartbeats 1000000 in
theorem refmay_any (a b c : Int) (w : World) : Calls Try.prog 25 #[.int .i64 a, .int .i64 b, .int .i64 c] w fun e w' => e = .returned (.bool (mayI a b c)) ∧ w' = w := by
  obtain ⟨r, hr⟩ : ∃ r, mayI a b c = r := ⟨_, rfl⟩
  rw [hr]
  have HR : Hid (mayI a b c = r) := hr
  clear hr
  go_enter Try.func25, Try.ntmps25
  go_wp2
  all_goals
    go_ret
    refine ⟨ret_bool ?_, rfl⟩
    rw [← HR.out]
    simp [mayI]
    omega
set_option maxRecDepth 100000 in
set_option maxHeartbeats 1000000 in
theorem may_any (a b c : Int) (w : World) : Calls Try.prog 12 #[.agg #[.int .i64 a, .int .i64 b, .int .i64 c]] w fun e w' => e = .returned (.bool (mayI a b c)) ∧ Below w.heap.size w w' := by
  have HM : Hid (∀ W, Calls Try.prog 25 #[.int .i64 a, .int .i64 b, .int .i64 c] W fun e w' => e = .returned (.bool (mayI a b c)) ∧ w' = W) := fun W => refmay_any a b c W
  go_enter Try.func12, Try.ntmps12
  go_wp2_with (go_at_call 25; refine (HM.out _).mono ?_; rintro e w' ⟨rfl, h⟩; subst w')
  go_ret
  exact ⟨rfl, (Below.refl _ w).alloc (Nat.le_refl _) _⟩
theorem sl_all (a : Option Addr) (n cp : Nat) (W : World) : (Instr.sliceAt 36 (.slice a n cp) (some (.int .i64 0)) none none).run Try.prog W = .ok (.slice a n cp) W := by
    have h1 : (sizeOf 5).run Try.prog W = .ok 1 W := by kernel_rfl
    have e : ∀ ad : Addr, ad.add 0 = ad := fun ad => by unfold Addr.add; split <;> simp_all
    cases a with
    | none => simp [Instr.sliceAt, Instr.slice, run_underlying Try.underlying36, Instr.sliceBounds, Instr.sliceBound, asIntOf, h1]
    | some ad => simp [Instr.sliceAt, Instr.slice, run_underlying Try.underlying36, Instr.sliceBounds, Instr.sliceBound, asIntOf, h1, e]
theorem sl_from (bb bo n cp i : Nat) (hi : i ≤ n) (hc : i < cp) (W : World) : (Instr.sliceAt 36 (.slice (some ⟨bb, bo, none⟩) n cp) (some (.int .i64 (i : Int))) none none).run Try.prog W = .ok (.slice (some ⟨bb, bo + i, none⟩) (n - i) (cp - i)) W := by
  have h1 : (sizeOf 5).run Try.prog W = .ok 1 W := by kernel_rfl
  have e : (⟨bb, bo, none⟩ : Addr).add i = ⟨bb, bo + i, none⟩ := by unfold Addr.add; split <;> simp_all
  have n1 : ¬ cp = i := by omega
  simp [Instr.sliceAt, Instr.slice, run_underlying Try.underlying36, Instr.sliceBounds, Instr.sliceBound, asIntOf, h1, e, hi, n1]
/-- The last 16 bytes, cut from where they begin. -/
theorem sl_last {w : World} {a : Option Addr} {len cap : Nat} {bs : List UInt8} (h : BsI w a len cap bs) :
    ∃ a' l' c', (∀ W : World, (Instr.sliceAt 36 (.slice a len cap) (some (.int .i64 (max 0 ((len : Int) - 16)))) none none).run Try.prog W = .ok (.slice a' l' c') W) ∧ BsI w a' l' c' (lstN 16 bs) := by
  have hl := h.1
  have hc := h.2.1
  by_cases h16 : len ≤ 16
  · have e : max 0 ((len : Int) - 16) = 0 := by omega
    refine ⟨a, len, cap, fun W => ?_, by rw [lstN_all _ _ (by omega)]; exact h⟩
    rw [e]
    exact sl_all a len cap W
  · obtain ⟨bb, bo, rfl, _, _⟩ := h.2.2.2 (by omega)
    have e : max 0 ((len : Int) - 16) = ((len - 16 : Nat) : Int) := by omega
    refine ⟨some ⟨bb, bo + (len - 16), none⟩, len - (len - 16), cap - (len - 16), fun W => ?_, ?_⟩
    · rw [e]; exact sl_from bb bo len cap (len - 16) (by omega) (by omega) W
    · have := h.piece (len - 16) (len - (len - 16)) (cap - (len - 16)) (by omega) (by omega) (by have := h.2.2.1; omega)
      have e2 : (bs.drop (len - 16)).take (len - (len - 16)) = lstN 16 bs := by
        unfold lstN
        rw [hl, List.take_of_length_le (by simp; omega)]
      rwa [e2] at this
set_option maxRecDepth 100000 in
set_option maxHeartbeats 1000000 in
theorem mark_any {w : World} {a : Option Addr} {len cap : Nat} {bs : List UInt8} (h : BsI w a len cap bs) (x : Int) : Calls Try.prog 15 #[.slice a len cap, .int .i64 x] w fun e w' => e = .returned (.bool (markP (lstN 16 bs) (clampB x))) ∧ w' = w := by
  obtain ⟨a', l', c', hs, hb⟩ := sl_last h
  have hsl := hs w
  have hlen : len ≤ 9223372036854775807 := Nat.le_trans h.2.1 h.2.2.1
  have HSU : Hid (Calls Try.prog 27 #[.slice a' l' c'] w fun e w' => e = .returned (.int .u32 (wsum (lstN 16 bs) : Int)) ∧ w' = w) := sum_any a' l' c' _ w hb
  obtain ⟨s, hsm⟩ : ∃ s, wsum (lstN 16 bs) = s := ⟨_, rfl⟩
  rw [hsm] at HSU
  have HMK : Hid (∀ b : Int, b = min (max x 0) 32 → Calls Try.prog 26 #[.int .u32 (s : Int), .int .i64 b] w fun e w' => e = .returned (.bool (markP (lstN 16 bs) (clampB x))) ∧ w' = w) := by
    intro b hb
    have e : b = (clampB x : Int) := by rw [hb]; unfold clampB; omega
    rw [e]
    have := ismark_any s (clampB x) w (clampB_le x)
    unfold markP
    rw [hsm]
    exact this
  clear h hs hb hsm
  go_enter Try.func15, Try.ntmps15
  go_wp2_with (first | (go_at_call 27; refine HSU.out.mono ?_; rintro e w' ⟨rfl, h⟩; subst w') | (go_at_call 26; refine (HMK.out _ rfl).mono ?_; rintro e w' ⟨rfl, h⟩; subst w'))
  go_ret
  exact ⟨rfl, rfl⟩
/-- The document's Mark. -/
theorem last_eq (bs : List UInt8) : lastN bs 16 = lstN 16 bs := rfl
set_option maxRecDepth 100000 in
set_option maxHeartbeats 1000000 in
theorem refmark_any (bs : List UInt8) (x : Int) (w : World) (hl : bs.length ≤ 9223372036854775807) : Calls Try.prog 16 #[.string (strOf bs), .int .i64 x] w fun e w' => e = .returned (.bool (markP (lstN 16 bs) (clampB x))) ∧ w' = w := by
  have HLA : Hid (Calls Try.prog 29 #[.string (strOf bs), .int .i64 16] w fun e w' => e = .returned (.string (strOf (lstN 16 bs))) ∧ w' = w) := last_any bs 16 w hl (by omega)
  have hl16 : (lstN 16 bs).length ≤ 5000 := by rw [lstN_len]; omega
  have HSU : Hid (Calls Try.prog 28 #[.string (strOf (lstN 16 bs))] w fun e w' => e = .returned (.int .u32 (wsum (lstN 16 bs) : Int)) ∧ w' = w) := rsum_any _ w hl16
  obtain ⟨s, hsm⟩ : ∃ s, wsum (lstN 16 bs) = s := ⟨_, rfl⟩
  obtain ⟨N, hN⟩ : ∃ N, s * 2654435761 % 4294967296 = N := ⟨_, rfl⟩
  have hN2 : N < 4294967296 := by omega
  have hNi : (s : Int) * 2654435761 % 4294967296 = (N : Int) := by rw [← hN]; simp
  obtain ⟨T, hT⟩ : ∃ T, strOf (lstN 16 bs) = T := ⟨_, rfl⟩
  obtain ⟨b, hb⟩ : ∃ b, clampB x = b := ⟨_, rfl⟩
  have hb32 : b ≤ 32 := by rw [← hb]; exact clampB_le x
  have HB : Hid (clampB x = b) := hb
  have HM : Hid (markP (lstN 16 bs) b = decide (N / 2 ^ (32 - b) = 0)) := by show _ = _; unfold markP; rw [hsm, hN]
  obtain ⟨R, hR⟩ : ∃ R, decide (N / 2 ^ (32 - b) = 0) = R := ⟨_, rfl⟩
  have HR : Hid (decide (N / 2 ^ (32 - b) = 0) = R) := hR
  rw [hsm, hT] at HSU
  rw [hT] at HLA
  rw [hb, HM.out, hR]
  clear hsm hN hT hl16 hb hl hR
  generalize strOf bs = S at HLA ⊢
  go_enter Try.func16, Try.ntmps16
  go_wp2_with (first | (go_at_call 29; refine HLA.out.mono ?_; rintro e w' ⟨rfl, h⟩; subst w') | (go_at_call 28; refine HSU.out.mono ?_; rintro e w' ⟨rfl, h⟩; subst w'))
  go_loop [6, 7] (fun n i => ∃ k Z : Nat, k ≤ b ∧ i = .int .i64 k ∧ n = .int .u32 (Z : Int) ∧ Z = N * 2 ^ k ∧ Z < 4294967296) (fun _ i => 33 - (intOf i).toNat)
  case atStart => exact ⟨0, N, by omega, rfl, by rw [hNi], by simp, hN2⟩
  case round =>
    obtain ⟨k, Z, hk, rfl, rfl, hZ, hZ2⟩ := hrel
    have HZ : Hid (Z = N * 2 ^ k) := hZ
    clear hZ
    by_cases hkb : k < b
    · have hx : (k : Int) < x := by have := HB.out; unfold clampB at this; omega
      have hk32 : (k : Int) < 32 := by omega
      by_cases hbig : 2147483648 ≤ Z
      · have hbi : (2147483648 : Int) ≤ (Z : Int) := by omega
        go_wp2
        go_ret
        refine ⟨ret_bool ?_, rfl⟩
        exact (decide_eq_false (mk_no hb32 hkb (by rw [← HZ.out]; exact hbig))).symm.trans HR.out
      · have hbi : ¬ (2147483648 : Int) ≤ (Z : Int) := by omega
        go_wp2
        exact ⟨⟨k + 1, Z * 2, by omega, by go_num, by go_num, by rw [Nat.pow_succ, ← Nat.mul_assoc, ← HZ.out], by omega⟩, by simp [intOf]; omega⟩
    · obtain rfl : k = b := by omega
      have HD : Hid (R = true) := HR.out.symm.trans (decide_eq_true (mk_yes hb32 (by rw [← HZ.out]; exact hZ2)))
      by_cases hx : (k : Int) < x
      · have hk32 : ¬ (k : Int) < 32 := by have := HB.out; unfold clampB at this; omega
        go_wp2
        go_ret
        exact ⟨ret_bool HD.out.symm, rfl⟩
      · go_wp2
        go_ret
        exact ⟨ret_bool HD.out.symm, rfl⟩
end Go.Proofs.Ytebmmhgmbnbnnaa
