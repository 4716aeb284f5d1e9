/- Texts that are read: the walks over getCount, num.GetText and the document's GetText. -/
import Derived.Test.YtbomopjngpnghabN
namespace Go.Proofs.Ytbomopjngpnghab
open Go.RowKit

/-- A count of up to most, at a place. -/
def cntAt (bs : List UInt8) (p most : Int) : Nat × Int × Nat :=
  if (getAt bs p).2.2 ≠ 0 then (0, 0, (getAt bs p).2.2) else if max most 0 < (getAt bs p).1 then (0, 0, 2) else getAt bs p
/-- A text of up to most bytes, at a place. -/
def textAt (bs : List UInt8) (p most : Int) : List UInt8 × Int × Nat :=
  if (cntAt bs p most).2.2 ≠ 0 then ([], 0, (cntAt bs p most).2.2) else if (bs.length : Int) - (cntAt bs p most).2.1 < (cntAt bs p most).1 then ([], 0, 3)
  else ((bs.drop (cntAt bs p most).2.1.toNat).take (cntAt bs p most).1, (cntAt bs p most).2.1 + (cntAt bs p most).1, 0)

/-- 'b[l:h]' of a slice of bytes: where it lies, and what it holds. -/
theorem slice_bs (b off len cap l h : Nat) (hlh : l ≤ h) (hh : h ≤ cap) :
    ∃ ao : Addr, (∀ W, (Instr.slice 22 (.slice (some ⟨b, off, none⟩) len cap) (some (.int .i64 (l : Int))) (some (.int .i64 (h : Int))) none).run Try.prog W = .ok (.slice (some ao) (h - l) (cap - l)) W) ∧
      ∀ W bs, h ≤ len → Bs W (some ⟨b, off, none⟩) len cap bs → Bs W (some ao) (h - l) (cap - l) ((bs.drop l).take (h - l)) := by
  have ht' : Try.prog.underlying 22 = some (.slice (Try.prog.elem 22)) := by simp [Program.elem, Try.underlying22]
  have he : Try.prog.elem 22 = 5 := by simp [Program.elem, Try.underlying22]
  by_cases hc : cap = l
  · refine ⟨⟨b, off, none⟩, fun W => ?_, fun W bs hl hb => ?_⟩
    · rw [run_slice_lh W 22 _ _ _ ht' .i64 .i64 _ _ (by omega) (by omega) (by omega), he, size5]
      simp [Result.andThen, sliced, hc]
    · obtain ⟨e1, e2, e3, e4, e5⟩ := hb
      refine ⟨by simp; omega, by omega, by omega, (by intro e; cases e), ?_⟩
      intro ad had i hi
      simp only [List.length_take, List.length_drop] at hi
      omega
  · refine ⟨⟨b, off + l, none⟩, fun W => ?_, fun W bs hl hb => hb.sub l h hlh hl⟩
    rw [run_slice_lh W 22 _ _ _ ht' .i64 .i64 _ _ (by omega) (by omega) (by omega), he, size5]
    by_cases h0 : l = 0
    · subst h0
      simp [Result.andThen, sliced, Addr.add, hc]
    · simp [Result.andThen, sliced, Addr.add, hc, h0]

set_option maxHeartbeats 400000 in
theorem count_any (a : Option Addr) (len cap : Nat) (bs : List UInt8) (p most : Int) (n : Nat) (q : Int) (er : Nat) (hr : cntAt bs p most = (n, q, er)) (w : World) (h : Bs w a len cap bs) (hp : -9223372036854775808 ≤ p ∧ p ≤ 9223372036854775807) (hm : -9223372036854775808 ≤ most ∧ most ≤ 9223372036854775807) :
    Calls Try.prog 17 #[.slice a len cap, .int .i64 p, .int .i64 most] w fun e w' => e = .returned (.tuple #[.int .i64 (n : Int), .int .i64 q, .int .i64 (er : Int)]) ∧ w' = w := by
  obtain ⟨n0, q0, er0, hr0⟩ : ∃ n q er, getAt bs p = (n, q, er) := ⟨_, _, _, rfl⟩
  unfold cntAt at hr
  rw [hr0] at hr
  simp only at hr
  have HR : Hid (getAt bs p = (n0, q0, er0)) := hr0
  clear hr0
  by_cases he : er0 = 0
  · subst he
    rw [if_neg (by simp)] at hr
    by_cases hx : max most 0 < (n0 : Int)
    · rw [if_pos hx] at hr
      simp only [Prod.mk.injEq] at hr
      obtain ⟨rfl, rfl, rfl⟩ := hr
      by_cases h0 : most < 0
      all_goals
        have hx' : max most 0 < (n0 : Int) := hx
        clear hx
        go_enter Try.func17, Try.ntmps17
        go_wp2_with (go_at_call 11; refine (get3 _ _ _ bs _ n0 q0 0 HR.out _ h hp).mono ?_; rintro e w' ⟨rfl, rfl⟩)
        go_ret3
        exact ⟨rfl, rfl⟩
    · rw [if_neg hx] at hr
      simp only [Prod.mk.injEq] at hr
      obtain ⟨rfl, rfl, rfl⟩ := hr
      by_cases h0 : most < 0
      all_goals
        go_enter Try.func17, Try.ntmps17
        go_wp2_with (go_at_call 11; refine (get3 _ _ _ bs _ n0 q0 0 HR.out _ h hp).mono ?_; rintro e w' ⟨rfl, rfl⟩)
        go_ret3
        exact ⟨rfl, rfl⟩
  · rw [if_pos he] at hr
    simp only [Prod.mk.injEq] at hr
    obtain ⟨rfl, rfl, rfl⟩ := hr
    have her' : ((er0 : Int) == 0) = false := by simp [he]
    go_enter Try.func17, Try.ntmps17
    go_wp2_with (go_at_call 11; refine (get3 _ _ _ bs _ n0 q0 er0 HR.out _ h hp).mono ?_; rintro e w' ⟨rfl, rfl⟩)
    go_ret3
    exact ⟨rfl, rfl⟩

/-- What a count that went well says. -/
theorem cntAt_ok {bs : List UInt8} {p most : Int} {n : Nat} {q : Int} (h : cntAt bs p most = (n, q, 0)) : getAt bs p = (n, q, 0) ∧ (n : Int) ≤ max most 0 := by
  unfold cntAt at h
  split at h
  · rename_i h1
    simp only [Prod.mk.injEq] at h
    exact absurd h.2.2 h1
  · split at h
    · simp only [Prod.mk.injEq] at h
      omega
    · rename_i h2
      rw [h] at h2
      exact ⟨h, by omega⟩

set_option maxHeartbeats 800000 in
theorem gtext_any (a : Option Addr) (len cap : Nat) (bs : List UInt8) (p most : Int) (t : List UInt8) (q : Int) (er : Nat) (hr : textAt bs p most = (t, q, er)) (w : World) (h : Bs w a len cap bs) (hp : -9223372036854775808 ≤ p ∧ p ≤ 9223372036854775807) (hm : -9223372036854775808 ≤ most ∧ most ≤ 9223372036854775807) :
    Calls Try.prog 18 #[.slice a len cap, .int .i64 p, .int .i64 most] w fun e w' => e = .returned (.tuple #[.string (strOf t), .int .i64 q, .int .i64 (er : Int)]) ∧ w' = w := by
  obtain ⟨n0, q0, er0, hr0⟩ : ∃ n q er, cntAt bs p most = (n, q, er) := ⟨_, _, _, rfl⟩
  unfold textAt at hr
  rw [hr0] at hr
  simp only at hr
  have HR : Hid (cntAt bs p most = (n0, q0, er0)) := hr0
  have hl := h.1
  have hlm : len ≤ 9223372036854775807 := Nat.le_trans h.2.1 h.2.2.1
  by_cases he : er0 = 0
  · subst he
    rw [if_neg (by simp)] at hr
    obtain ⟨hg, hmx⟩ := cntAt_ok hr0
    obtain ⟨P, Q, rfl, rfl, hPQ, hQ, _, hn⟩ := getAt_ok hg
    clear hr0 hg
    by_cases hx : (bs.length : Int) - (Q : Int) < (n0 : Int)
    · rw [if_pos hx] at hr
      simp only [Prod.mk.injEq] at hr
      obtain ⟨rfl, rfl, rfl⟩ := hr
      have hx' : (len : Int) - (Q : Int) < (n0 : Int) := by omega
      have hQ' : (Q : Int) ≤ len := by omega
      clear hl hx
      go_enter Try.func18, Try.ntmps18
      go_wp2_with (go_at_call 17; refine (count_any _ _ _ bs _ _ n0 Q 0 HR.out _ h hp hm).mono ?_; rintro e w' ⟨rfl, rfl⟩)
      go_ret3
      exact ⟨rfl, rfl⟩
    · rw [if_neg hx] at hr
      simp only [Prod.mk.injEq, Int.toNat_natCast] at hr
      obtain ⟨rfl, rfl, rfl⟩ := hr
      obtain ⟨b, off, rfl, _⟩ := h.at (by omega)
      have hc := h.2.1
      obtain ⟨ao, hs1, hs2⟩ := slice_bs b off len cap Q (Q + n0) (by omega) (by omega)
      have hB := hs2 w bs (by omega) h
      rw [show Q + n0 - Q = n0 by omega] at hB
      have hcv := hB.str
      simp only [show Q + n0 - Q = n0 by omega, Int.natCast_add] at hs1
      have hx' : ¬ (len : Int) - (Q : Int) < (n0 : Int) := by omega
      have hQ' : (Q : Int) + (n0 : Int) ≤ len := by omega
      clear hl hx hB hs2
      go_enter Try.func18, Try.ntmps18
      go_wp2_with (go_at_call 17; refine (count_any _ _ _ bs _ _ n0 Q 0 HR.out _ h hp hm).mono ?_; rintro e w' ⟨rfl, rfl⟩)
      go_ret3
      exact ⟨rfl, rfl⟩
  · rw [if_pos he] at hr
    simp only [Prod.mk.injEq] at hr
    obtain ⟨rfl, rfl, rfl⟩ := hr
    have her' : ((er0 : Int) == 0) = false := by simp [he]
    clear hr0 hl
    go_enter Try.func18, Try.ntmps18
    go_wp2_with (go_at_call 17; refine (count_any _ _ _ bs _ _ n0 q0 er0 HR.out _ h hp hm).mono ?_; rintro e w' ⟨rfl, rfl⟩)
    go_ret3
    exact ⟨rfl, rfl⟩
end Go.Proofs.Ytbomopjngpnghab
