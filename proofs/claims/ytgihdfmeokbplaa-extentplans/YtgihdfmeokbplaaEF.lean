/- What Decode answers of some first bytes of a new area. -/
import Derived.Test.YtgihdfmeokbplaaXW
namespace Go.Proofs.Ytgihdfmeokbplaa
open Ex
theorem rdN_err (bs : List UInt8) (p : Int) {e : Nat} (h : e ≠ 0) : rdN bs p e = (0, p, e) := by unfold rdN; rw [if_pos h]
theorem rdN_full {A R : List UInt8} {m k : Nat} (hm : m ≤ 1048577) (hk : A.length + (putN m).length ≤ k) : rdN ((A ++ putN m ++ R).take k) (A.length : Int) 0 = (m, ((A.length + (putN m).length : Nat) : Int), 0) := by
  have e : ((A ++ putN m ++ R).take k).drop A.length = putN m ++ R.take (k - (A.length + (putN m).length)) := by
    rw [List.append_assoc, List.drop_take, List.drop_left, List.take_append, List.take_of_length_le (by omega), Nat.sub_sub]
  have hl : A.length ≤ ((A ++ putN m ++ R).take k).length := by rw [List.length_take, List.length_append, List.length_append]; omega
  unfold rdN
  rw [if_neg (by simp), getAt_in hl, e, getL_back m (by omega)]
  simp only [if_true, Nat.min_eq_left hm, Int.natCast_add]
theorem rdN_cut {A R : List UInt8} {m k : Nat} (hm : m ≤ 1048577) (hk : k < A.length + (putN m).length) (hk2 : A.length ≤ k) : rdN ((A ++ putN m ++ R).take k) (A.length : Int) 0 = (0, 0, 3) := by
  have e : ((A ++ putN m ++ R).take k).drop A.length = (putN m).take (k - A.length) := by
    rw [List.append_assoc, List.drop_take, List.drop_left, List.take_append_of_le_length (by omega)]
  have hl : A.length ≤ ((A ++ putN m ++ R).take k).length := by rw [List.length_take, List.length_append, List.length_append]; omega
  unfold rdN
  rw [if_neg (by simp), getAt_in hl, e, getL_cut m 0 0 _ (by have := putN10 m (by omega); omega) (by omega)]
  rfl
theorem encB_new (n : Nat) : encB (Ar.new n) = putN n ++ putN 1 ++ putN 0 ++ putN n := by
  simp [encB, Ar.new, encT]
theorem dec_cut {n k : Nat} (h1 : 1 ≤ n) (h2 : n ≤ 1048576) (hk : k < (encB (Ar.new n)).length) : decA ((encB (Ar.new n)).take k) = (none, 4) := by
  rw [encB_new] at hk ⊢
  have l0 := putN10 n (by omega)
  have l1 := putN10 1 (by omega)
  have l2 := putN10 0 (by omega)
  obtain ⟨L, hL⟩ : ∃ L, (putN n ++ putN 1 ++ putN 0 ++ putN n).take k = L := ⟨_, rfl⟩
  have hlen : ¬ 65536 < L.length := by rw [← hL, List.length_take]; simp only [List.length_append] at hk ⊢; omega
  simp only [List.length_append] at hk
  have q0 : (putN n ++ putN 1 ++ putN 0 ++ putN n) = [] ++ putN n ++ (putN 1 ++ putN 0 ++ putN n) := by simp
  have q1 : (putN n ++ putN 1 ++ putN 0 ++ putN n) = putN n ++ putN 1 ++ (putN 0 ++ putN n) := by simp
  have q2 : (putN n ++ putN 1 ++ putN 0 ++ putN n) = (putN n ++ putN 1) ++ putN 0 ++ putN n := by simp
  have q3 : (putN n ++ putN 1 ++ putN 0 ++ putN n) = (putN n ++ putN 1 ++ putN 0) ++ putN n ++ [] := by simp
  rw [hL]
  by_cases c0 : k < (putN n).length
  · have r0 := rdN_cut (A := []) (R := putN 1 ++ putN 0 ++ putN n) (m := n) (k := k) (by omega) (by simpa using c0) (by simp)
    rw [← q0, hL] at r0
    exact decA_none hlen (rdA_bad r0 (by omega))
  have r0 := rdN_full (A := []) (R := putN 1 ++ putN 0 ++ putN n) (m := n) (k := k) (by omega) (by simpa using c0)
  rw [← q0, hL] at r0
  simp only [List.length_nil, Nat.zero_add] at r0
  by_cases c1 : k < (putN n).length + (putN 1).length
  · have r1 := rdN_cut (A := putN n) (R := putN 0 ++ putN n) (m := 1) (k := k) (by omega) c1 (by omega)
    rw [← q1, hL] at r1
    rw [decA_some hlen (rdA_some r0 ⟨h1, h2⟩ r1 rfl), if_neg (by simp)]
  have r1 := rdN_full (A := putN n) (R := putN 0 ++ putN n) (m := 1) (k := k) (by omega) (by omega)
  rw [← q1, hL] at r1
  have hno : Ar.has ⟨n, [], 0⟩ ((0 : Int) + ((0 : Nat) : Int), ((0 : Nat) : Int)) = false := by
    rw [← Bool.not_eq_true, Ar.has_iff]; simp
  by_cases c2 : k < (putN n ++ putN 1).length + (putN 0).length
  · have r2 := rdN_cut (A := putN n ++ putN 1) (R := putN n) (m := 0) (k := k) (by omega) c2 (by rw [List.length_append]; omega)
    rw [← q2, hL, List.length_append] at r2
    have h9 : rdL L n 1 0 0 (((putN n).length + (putN 1).length : Nat) : Int) 0 [] = (none, (0 : Int), 3) := by
      rw [rdL_step (k := 0) r2 (rdN_err L 0 (by omega)), if_pos (.inr hno)]
    exact decA_none hlen (rdA_none r0 ⟨h1, h2⟩ r1 h9)
  have r2 := rdN_full (A := putN n ++ putN 1) (R := putN n) (m := 0) (k := k) (by omega) (by omega)
  rw [← q2, hL, List.length_append] at r2
  have r3 := rdN_cut (A := putN n ++ putN 1 ++ putN 0) (R := []) (m := n) (k := k) (by omega) (by simp only [List.length_append] at c2 ⊢; omega) (by simp only [List.length_append] at c2 ⊢; omega)
  rw [← q3, hL] at r3
  rw [List.length_append, List.length_append] at r3
  have h9 : rdL L n 1 0 0 (((putN n).length + (putN 1).length : Nat) : Int) 0 [] = (none, (0 : Int), 3) := by
    rw [rdL_step (k := 0) r2 r3, if_pos (.inr hno)]
  exact decA_none hlen (rdA_none r0 ⟨h1, h2⟩ r1 h9)
theorem Bs.take_ {w : World} {a : Option Addr} {len cap : Nat} {bs : List UInt8} (h : Bs w a len cap bs) {k : Nat} (hk : k ≤ len) : Bs w a k cap (bs.take k) := by
  obtain ⟨h1, h2, h3, h4, h5⟩ := h
  refine ⟨by rw [List.length_take]; omega, by omega, h3, h4, fun ad ha i hi => ?_⟩
  rw [List.length_take] at hi
  rw [h5 ad ha i (by omega), List.getElem_take]
end Go.Proofs.Ytgihdfmeokbplaa
