/- Windows over bytes; slices of slices. -/
import Derived.Test.YtebmmhgmbnbnnaaC
namespace Go.Proofs.Ytebmmhgmbnbnnaa
open Go.RowKit
/-- The window of n bytes from m on. -/
def win (bs : List UInt8) (m n : Nat) : List UInt8 := (bs.drop m).take n
theorem win_len (bs : List UInt8) (m n : Nat) (h : m + n ≤ bs.length) : (win bs m n).length = n := by simp [win]; omega
theorem roll_step (bs : List UInt8) (m n : Nat) (h1 : 1 ≤ n) (hk : m + n < bs.length) :
    nextI (wsum (win bs m n)) (n : Int) (bs.getD m 0).toNat (bs.getD (m + n) 0).toNat = (wsum (win bs (m + 1) n) : Int) := by
  obtain ⟨q, rfl⟩ : ∃ q, n = q + 1 := ⟨n - 1, by omega⟩
  have e1 : win bs m (q + 1) = bs.getD m 0 :: win bs (m + 1) q := by
    unfold win
    rw [List.drop_eq_getElem_cons (by omega), List.take_succ_cons]
    congr 1
    simp [List.getElem?_eq_getElem (show m < bs.length by omega)]
  have e2 : win bs (m + 1) (q + 1) = win bs (m + 1) q ++ [bs.getD (m + (q + 1)) 0] := by
    unfold win
    rw [List.take_add_one, List.getElem?_drop, show m + 1 + q = m + (q + 1) by omega, List.getElem?_eq_getElem hk]
    simp [List.getElem?_eq_getElem hk]
  have := next_wsum (bs.getD m 0) (win bs (m + 1) q) (bs.getD (m + (q + 1)) 0)
  rw [win_len _ _ _ (by omega), ← e1, ← e2] at this
  exact this
theorem sl_to (bb bo n cp m : Nat) (hm : m ≤ cp) (W : World) : (Instr.sliceAt 36 (.slice (some ⟨bb, bo, none⟩) n cp) none (some (.int .i64 (m : Int))) none).run Try.prog W = .ok (.slice (some ⟨bb, bo, none⟩) m cp) W := by
  have h1 : (sizeOf 5).run Try.prog W = .ok 1 W := by kernel_rfl
  have e : (⟨bb, bo, none⟩ : Addr).add 0 = ⟨bb, bo, none⟩ := by unfold Addr.add; split <;> simp_all
  simp [Instr.sliceAt, Instr.slice, run_underlying Try.underlying36, Instr.sliceBounds, Instr.sliceBound, asIntOf, h1, e, hm]
theorem sl_mid (bb bo n cp i j : Nat) (hi : i ≤ j) (hj : j ≤ cp) (hc : i < cp) (W : World) : (Instr.sliceAt 36 (.slice (some ⟨bb, bo, none⟩) n cp) (some (.int .i64 (i : Int))) (some (.int .i64 (j : Int))) none).run Try.prog W = .ok (.slice (some ⟨bb, bo + i, none⟩) (j - i) (cp - i)) W := by
  have h1 : (sizeOf 5).run Try.prog W = .ok 1 W := by kernel_rfl
  have e : (⟨bb, bo, none⟩ : Addr).add i = ⟨bb, bo + i, none⟩ := by unfold Addr.add; split <;> simp_all
  have n1 : ¬ cp = i := by omega
  simp [Instr.sliceAt, Instr.slice, run_underlying Try.underlying36, Instr.sliceBounds, Instr.sliceBound, asIntOf, h1, e, hi, hj, n1]
end Go.Proofs.Ytebmmhgmbnbnnaa
