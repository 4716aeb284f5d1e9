/- Walk over whole. -/
import Derived.Test.YtebmmhgmbnbnnaaCE
namespace Go.Proofs.Ytebmmhgmbnbnnaa
open Go.RowKit Ck
section
variable {w : World} {g q : Nat} {wa : Option Addr} {n wc le mo bi s : Nat}
set_option maxRecDepth 100000 in
set_option maxHeartbeats 2000000 in
theorem whole_less (c0 : w.cell? ⟨g, 0, none⟩ = some (.int .i64 (le : Int))) (c4 : w.cell? ⟨g, 4, none⟩ = some (.slice wa n wc)) (ki : (n : Int) < (le : Int)) : Calls Try.prog 31 #[.pointer (some ⟨g, 0, none⟩)] w fun e w' => e = .returned (.bool false) ∧ w' = w := by
  go_enter Try.func31, Try.ntmps31
  go_wp2
  go_ret
  exact ⟨rfl, rfl⟩
set_option maxRecDepth 100000 in
set_option maxHeartbeats 2000000 in
theorem whole_most {fl : Bool} (c0 : w.cell? ⟨g, 0, none⟩ = some (.int .i64 (le : Int))) (c1 : w.cell? ⟨g, 1, none⟩ = some (.int .i64 (mo : Int))) (c3 : w.cell? ⟨g, 3, none⟩ = some (.pointer (some ⟨q, 0, none⟩))) (c4 : w.cell? ⟨g, 4, none⟩ = some (.slice wa n wc)) (ki : ¬ (n : Int) < (le : Int)) (kj : (mo : Int) ≤ (n : Int))
    (HWS : Hid (Calls Try.prog 37 #[.pointer (some ⟨q, 0, none⟩)] w fun e w' => e = .returned (.tuple #[.int .u32 (s : Int), .bool fl]) ∧ w' = w.drew)) :
    Calls Try.prog 31 #[.pointer (some ⟨g, 0, none⟩)] w fun e w' => e = .returned (.bool true) ∧ w' = w.drew := by
  go_enter Try.func31, Try.ntmps31
  go_wp2_with (go_at_call 37; refine HWS.out.mono ?_; rintro e w' ⟨rfl, h⟩; subst w')
  go_ret
  exact ⟨rfl, rfl⟩
set_option maxRecDepth 100000 in
set_option maxHeartbeats 2000000 in
theorem whole_mark {fl mk : Bool} (c0 : w.cell? ⟨g, 0, none⟩ = some (.int .i64 (le : Int))) (c1 : w.cell? ⟨g, 1, none⟩ = some (.int .i64 (mo : Int))) (c2 : w.cell? ⟨g, 2, none⟩ = some (.int .i64 (bi : Int))) (c3 : w.cell? ⟨g, 3, none⟩ = some (.pointer (some ⟨q, 0, none⟩))) (c4 : w.cell? ⟨g, 4, none⟩ = some (.slice wa n wc)) (ki : ¬ (n : Int) < (le : Int)) (kj : ¬ (mo : Int) ≤ (n : Int))
    (HWS : Hid (Calls Try.prog 37 #[.pointer (some ⟨q, 0, none⟩)] w fun e w' => e = .returned (.tuple #[.int .u32 (s : Int), .bool fl]) ∧ w' = w.drew))
    (HMK : Hid (∀ W, Calls Try.prog 26 #[.int .u32 (s : Int), .int .i64 (bi : Int)] W fun e w' => e = .returned (.bool mk) ∧ w' = W)) :
    Calls Try.prog 31 #[.pointer (some ⟨g, 0, none⟩)] w fun e w' => e = .returned (.bool mk) ∧ w' = w.drew := by
  go_enter Try.func31, Try.ntmps31
  go_wp2_with (first | (go_at_call 37; refine HWS.out.mono ?_; rintro e w' ⟨rfl, h⟩; subst w') | (go_at_call 26; refine (HMK.out _).mono ?_; rintro e w' ⟨rfl, h⟩; subst w'))
  go_ret
  have kk : ¬ mo ≤ n := by omega
  exact ⟨ret_bool (by rw [decide_eq_false kk]; rfl), rfl⟩
end
theorem ends_eq (m : Ms) (P wt : List UInt8) : endsP m P wt = (decide (m.least ≤ wt.length) && (decide (m.most ≤ wt.length) || markP (lstN 16 P) m.bits)) := rfl
theorem mark_ct (m : Ms) (hm : m.Ok) (P : List UInt8) : Hid (∀ W, Calls Try.prog 26 #[.int .u32 (wsum (lstN 16 P) : Int), .int .i64 (m.bits : Int)] W fun e w' => e = .returned (.bool (markP (lstN 16 P) m.bits)) ∧ w' = W) := fun W => by
  have := ismark_any (wsum (lstN 16 P)) m.bits W (by have := hm.bits; omega)
  unfold markP
  exact this
theorem whole_ct {w : World} {g q r : Nat} {wa : Option Addr} {wc : Nat} {m : Ms} {P wt : List UInt8} (h : CtIs w g q r wa wc m P wt) : Calls Try.prog 31 #[.pointer (some ⟨g, 0, none⟩)] w fun e w' => e = .returned (.bool (endsP m P wt)) ∧ (w' = w ∨ w' = w.drew) := by
  obtain ⟨c0, c1, c2, c3, c4⟩ := ct_cells h.row
  have HWS := winsum_any r q 16 _ w h.win
  have HMK := mark_ct m h.ok P
  rw [ends_eq]
  by_cases k1 : m.least ≤ wt.length
  · rw [decide_eq_true k1, Bool.true_and]
    by_cases k2 : m.most ≤ wt.length
    · rw [decide_eq_true k2, Bool.true_or]
      exact (whole_most c0 c1 c3 c4 (by omega) (by omega) HWS).mono fun e w' ⟨h1, h2⟩ => ⟨h1, .inr h2⟩
    · rw [decide_eq_false k2, Bool.false_or]
      exact (whole_mark c0 c1 c2 c3 c4 (by omega) (by omega) HWS HMK).mono fun e w' ⟨h1, h2⟩ => ⟨h1, .inr h2⟩
  · rw [decide_eq_false k1, Bool.false_and]
    exact (whole_less c0 c4 (by omega)).mono fun e w' ⟨h1, h2⟩ => ⟨h1, .inl h2⟩
end Go.Proofs.Ytebmmhgmbnbnnaa
