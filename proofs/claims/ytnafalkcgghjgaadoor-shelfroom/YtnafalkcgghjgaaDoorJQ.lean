/- Walks over the comparison of changes, and over the sort of at most twelve. -/
import Derived.Test.YtnafalkcgghjgaaDoorJC
namespace Go.Proofs.YtnafalkcgghjgaaDoor
open Go.RowKit Go.Shelf
theorem own_put2 {W : World} {base g cp n e sz : Nat} {xs : List Value} (h : W.ownsRow base e sz (.slice (some ⟨g, 0, none⟩) n cp) n xs) (t : Nat) (x : Value) : (W.setCell ⟨g, t, none⟩ x).ownsRow base e sz (.slice (some ⟨g, 0, none⟩) n cp) n (xs.set t x) := by
  obtain ⟨h1, h2⟩ := h
  refine ⟨by simpa using h1, ?_⟩
  rcases h2 with ⟨h2, _⟩ | ⟨g', cap', cur, e, hb, hr, h3, h4, h5, h6⟩
  · cases h2
  · cases e
    refine .inr ⟨g, cp, cur.setIfInBounds t x, rfl, hb, heap_setCell_same W g t _ _ _ hr, h3, h4, by simpa using h5, ?_⟩
    rw [Array.toList_setIfInBounds, List.take_set, h6]
theorem chsV_set (l : List Chg) (i : Nat) (c : Chg) : ((chsV l).set (i * 2) (.int .i64 (c.1 : Int))).set (i * 2 + 1) (.string c.2) = chsV (l.set i c) := by
  induction l generalizing i with
  | nil => rfl
  | cons x l ih =>
    cases i with
    | zero => rfl
    | succ i =>
      have e : chsV (x :: l) = .int .i64 (x.1 : Int) :: .string x.2 :: chsV l := rfl
      rw [e, show (i + 1) * 2 = i * 2 + 1 + 1 by omega, List.set_cons_succ, List.set_cons_succ, List.set_cons_succ, List.set_cons_succ, ih]
      rfl
/-- In order up to i, but for what stands at j. -/
def Ins (i j : Nat) (l : List Chg) : Prop := ∀ p q, p < q → q ≤ i → q ≠ j → (l.getD p (0, ByteArray.empty)).1 ≤ (l.getD q (0, ByteArray.empty)).1
def Srt (i : Nat) (l : List Chg) : Prop := ∀ p q, p < q → q < i → (l.getD p (0, ByteArray.empty)).1 ≤ (l.getD q (0, ByteArray.empty)).1
theorem Srt.ins {i : Nat} {l : List Chg} (h : Srt i l) : Ins i i l := fun p q hpq hq hne => h p q hpq (by omega)
theorem Ins.srt0 {i : Nat} {l : List Chg} (h : Ins i 0 l) : Srt (i + 1) l := fun p q hpq hq => h p q hpq (by omega) (by omega)
theorem Ins.srt {i k : Nat} {l : List Chg} (h : Ins i (k + 1) l) (hki : k + 1 ≤ i) (hle : (l.getD k (0, ByteArray.empty)).1 ≤ (l.getD (k + 1) (0, ByteArray.empty)).1) : Srt (i + 1) l := by
  intro p q hpq hq
  by_cases e : q = k + 1
  · subst e
    by_cases e2 : p = k
    · subst e2; exact hle
    · exact Nat.le_trans (h p k (by omega) (by omega) (by omega)) hle
  · exact h p q hpq (by omega) e
theorem getD_set (l : List Chg) (i j : Nat) (c : Chg) (hi : i < l.length) : (l.set i c).getD j (0, ByteArray.empty) = if i = j then c else l.getD j (0, ByteArray.empty) := by
  rw [List.getD_eq_getElem?_getD, List.getD_eq_getElem?_getD]
  split
  · rename_i e
    subst e
    rw [List.getElem?_set_self hi]; rfl
  · rename_i e
    rw [List.getElem?_set_ne e]
theorem Ins.swap {i k : Nat} {l : List Chg} (h : Ins i (k + 1) l) (hki : k + 1 ≤ i) (hl : i < l.length) (hlt : (l.getD (k + 1) (0, ByteArray.empty)).1 < (l.getD k (0, ByteArray.empty)).1) :
    Ins i k ((l.set (k + 1) (l.getD k (0, ByteArray.empty))).set k (l.getD (k + 1) (0, ByteArray.empty))) := by
  intro p q hpq hq hne
  have e : ∀ j, ((l.set (k + 1) (l.getD k (0, ByteArray.empty))).set k (l.getD (k + 1) (0, ByteArray.empty))).getD j (0, ByteArray.empty) = if k = j then l.getD (k + 1) (0, ByteArray.empty) else if k + 1 = j then l.getD k (0, ByteArray.empty) else l.getD j (0, ByteArray.empty) := by
    intro j
    rw [getD_set _ _ _ _ (by rw [List.length_set]; omega), getD_set _ _ _ _ (by omega)]
  rw [e p, e q]
  by_cases q1 : k = q
  · omega
  · rw [if_neg q1]
    by_cases q2 : k + 1 = q
    · rw [if_pos q2]
      by_cases p1 : k = p
      · rw [if_pos p1]; omega
      · rw [if_neg p1, if_neg (by omega)]
        exact h p k (by omega) (by omega) (by omega)
    · rw [if_neg q2]
      by_cases p1 : k = p
      · rw [if_pos p1]
        exact h (k + 1) q (by omega) hq (by omega)
      · rw [if_neg p1]
        by_cases p2 : k + 1 = p
        · rw [if_pos p2]
          exact h k q (by omega) hq (by omega)
        · rw [if_neg p2]
          exact h p q hpq hq (by omega)
theorem swap_perm (l : List Chg) (k : Nat) (hl : k + 1 < l.length) : ((l.set (k + 1) (l.getD k (0, ByteArray.empty))).set k (l.getD (k + 1) (0, ByteArray.empty))).Perm l := by
  have e1 : l.getD k (0, ByteArray.empty) = l[k] := by rw [List.getD_eq_getElem?_getD, List.getElem?_eq_getElem (by omega)]; rfl
  have e2 : l.getD (k + 1) (0, ByteArray.empty) = l[k + 1] := by rw [List.getD_eq_getElem?_getD, List.getElem?_eq_getElem hl]; rfl
  rw [e1, e2]
  exact List.set_set_perm hl (by omega)
theorem Srt.pairwise {l : List Chg} (h : Srt l.length l) : l.Pairwise (fun a b => a.1 ≤ b.1) := by
  rw [List.pairwise_iff_getElem]
  intro i j hi hj hij
  have := h i j hij hj
  rw [List.getD_eq_getElem?_getD, List.getD_eq_getElem?_getD, List.getElem?_eq_getElem hi, List.getElem?_eq_getElem hj] at this
  exact this
theorem own_pair {W : World} {base g cp n : Nat} {l : List Chg} (h : W.ownsRow base 102 2 (.slice (some ⟨g, 0, none⟩) n cp) n (chsV l)) (j : Nat) (hj : j < l.length) (p : Nat) (s : ByteArray) (hc : l.getD j (0, ByteArray.empty) = (p, s)) :
    W.cell? ⟨g, j * 2, none⟩ = some (.int .i64 (p : Int)) ∧ W.cell? ⟨g, j * 2 + 1, none⟩ = some (.string s) := by
  have e : l[j]? = some (p, s) := by
    rw [List.getD_eq_getElem?_getD, List.getElem?_eq_getElem hj] at hc
    rw [List.getElem?_eq_getElem hj]
    exact congrArg some hc
  obtain ⟨e1, e2⟩ := chsV_at l j _ e
  rw [Nat.mul_comm] at e1 e2
  exact ⟨own_at h e1, own_at h e2⟩
end Go.Proofs.YtnafalkcgghjgaaDoor
