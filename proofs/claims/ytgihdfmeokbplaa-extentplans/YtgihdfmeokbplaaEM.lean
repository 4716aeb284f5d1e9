/- Holes: rows of free extents, what of an area they cover, and what is left of them when an extent is taken or given back. -/
import Derived.Test.YtgihdfmeokbplaaNM
namespace Go.Proofs.Ytgihdfmeokbplaa.Ex
abbrev Sp := Int × Int
def en (s : Sp) : Int := s.1 + s.2
def inS (s : Sp) (i : Int) : Bool := decide (s.1 ≤ i) && decide (i < en s)
def cov (l : List Sp) (i : Int) : Bool := l.any fun s => inS s i
def Gd (lo sz : Int) : List Sp → Prop
  | [] => True
  | s :: t => lo ≤ s.1 ∧ 1 ≤ s.2 ∧ en s ≤ sz ∧ Gd (en s + 1) sz t
def beh (lo : Int) : List Sp → Int
  | [] => lo
  | s :: t => beh (en s + 1) t
theorem inS_iff (s : Sp) (i : Int) : inS s i = true ↔ s.1 ≤ i ∧ i < s.1 + s.2 := by
  unfold inS
  rw [Bool.and_eq_true, decide_eq_true_eq, decide_eq_true_eq]
  exact Iff.rfl
theorem inS_no (s : Sp) (i : Int) : inS s i = false ↔ ¬ (s.1 ≤ i ∧ i < s.1 + s.2) := by rw [← inS_iff]; simp
theorem cov_cons (s : Sp) (t : List Sp) (i : Int) : cov (s :: t) i = (inS s i || cov t i) := by simp [cov]
theorem cov_nil (i : Int) : cov [] i = false := rfl
theorem cov_app (a b : List Sp) (i : Int) : cov (a ++ b) i = (cov a i || cov b i) := by simp [cov]
theorem cov_iff (l : List Sp) (i : Int) : cov l i = true ↔ ∃ s ∈ l, s.1 ≤ i ∧ i < s.1 + s.2 := by
  simp only [cov, List.any_eq_true, inS_iff]
theorem cov_no (l : List Sp) (i : Int) : cov l i = false ↔ ∀ s ∈ l, ¬ (s.1 ≤ i ∧ i < s.1 + s.2) := by
  rw [← Bool.not_eq_true, cov_iff]
  constructor
  · intro h s hs hi; exact h ⟨s, hs, hi⟩
  · rintro h ⟨s, hs, hi⟩; exact h s hs hi
theorem Gd.mono {lo lo' sz : Int} {l : List Sp} (h : Gd lo sz l) (hl : lo' ≤ lo) : Gd lo' sz l := by
  cases l with
  | nil => trivial
  | cons s t => exact ⟨by have := h.1; omega, h.2⟩
theorem Gd.mem {sz : Int} : ∀ {l : List Sp} {lo : Int}, Gd lo sz l → ∀ {s : Sp}, s ∈ l → lo ≤ s.1 ∧ 1 ≤ s.2 ∧ s.1 + s.2 ≤ sz
  | s :: t, lo, h, x, hx => by
    rcases List.mem_cons.1 hx with rfl | hx
    · exact ⟨h.1, h.2.1, h.2.2.1⟩
    · have := Gd.mem h.2.2.2 hx
      have h1 := h.1; have h2 := h.2.1
      simp only [en] at this
      omega
theorem Gd.low {lo sz : Int} {l : List Sp} (h : Gd lo sz l) {i : Int} (hi : i < lo) : cov l i = false := by
  rw [cov_no]; intro s hs hc; have := h.mem hs; omega
theorem Gd.high {lo sz : Int} {l : List Sp} (h : Gd lo sz l) {i : Int} (hi : sz ≤ i) : cov l i = false := by
  rw [cov_no]; intro s hs hc; have := h.mem hs; omega
theorem Gd_app {sz : Int} : ∀ (a b : List Sp) (lo : Int), Gd lo sz (a ++ b) ↔ Gd lo sz a ∧ Gd (beh lo a) sz b
  | [], b, lo => by simp [Gd, beh]
  | s :: t, b, lo => by
    simp only [List.cons_append, Gd, beh, Gd_app t b]
    constructor
    · rintro ⟨a1, a2, a3, a4, a5⟩; exact ⟨⟨a1, a2, a3, a4⟩, a5⟩
    · rintro ⟨⟨a1, a2, a3, a4⟩, a5⟩; exact ⟨a1, a2, a3, a4, a5⟩
theorem beh_app (a b : List Sp) (lo : Int) : beh lo (a ++ b) = beh (beh lo a) b := by
  induction a generalizing lo with
  | nil => rfl
  | cons s t ih => exact ih _
theorem Gd.beh_ge {sz : Int} : ∀ {l : List Sp} {lo : Int}, Gd lo sz l → lo ≤ beh lo l
  | [], _, _ => Int.le_refl _
  | s :: t, lo, h => by
    have := Gd.beh_ge h.2.2.2
    have h1 := h.1; have h2 := h.2.1
    simp only [en] at this
    simp only [beh, en]
    omega
theorem Gd.beh_mem {sz : Int} : ∀ {l : List Sp} {lo : Int}, Gd lo sz l → ∀ {s : Sp}, s ∈ l → s.1 + s.2 + 1 ≤ beh lo l
  | s :: t, lo, h, x, hx => by
    rcases List.mem_cons.1 hx with rfl | hx
    · have := Gd.beh_ge h.2.2.2
      simpa [beh, en] using this
    · exact Gd.beh_mem h.2.2.2 hx
/-- What is covered tells the row. -/
theorem Gd.unique {sz sz' : Int} : ∀ {l m : List Sp} {lo : Int}, Gd lo sz l → Gd lo sz' m → (∀ i, cov l i = cov m i) → l = m
  | [], [], _, _, _, _ => rfl
  | [], s :: t, _, _, h, e => by
    have := e s.1
    rw [cov_nil, cov_cons, (inS_iff s s.1).2 (by have := h.2.1; omega)] at this
    cases this
  | s :: t, [], _, h, _, e => by
    have := e s.1
    rw [cov_nil, cov_cons, (inS_iff s s.1).2 (by have := h.2.1; omega)] at this
    cases this
  | s :: t, s' :: t', lo, h, h', e => by
    obtain ⟨a1, a2, a3, a4⟩ := h
    obtain ⟨b1, b2, b3, b4⟩ := h'
    have lowT : ∀ {i : Int}, i < s.1 + s.2 + 1 → cov t i = false := fun hi => a4.low (by simpa [en] using hi)
    have lowT' : ∀ {i : Int}, i < s'.1 + s'.2 + 1 → cov t' i = false := fun hi => b4.low (by simpa [en] using hi)
    have e1 : s.1 = s'.1 := by
      rcases Int.lt_trichotomy s.1 s'.1 with hl | he | hl
      · have := e s.1
        rw [cov_cons, cov_cons, (inS_iff s s.1).2 (by omega), (inS_no s' s.1).2 (by omega), lowT' (by omega)] at this
        cases this
      · exact he
      · have := e s'.1
        rw [cov_cons, cov_cons, (inS_iff s' s'.1).2 (by omega), (inS_no s s'.1).2 (by omega), lowT (by omega)] at this
        cases this
    have e2 : s.2 = s'.2 := by
      rcases Int.lt_trichotomy s.2 s'.2 with hl | he | hl
      · have := e (s.1 + s.2)
        rw [cov_cons, cov_cons, (inS_no s _).2 (by omega), (inS_iff s' _).2 (by omega), lowT (by omega)] at this
        cases this
      · exact he
      · have := e (s'.1 + s'.2)
        rw [cov_cons, cov_cons, (inS_no s' _).2 (by omega), (inS_iff s _).2 (by omega), lowT' (by omega)] at this
        cases this
    have es : s = s' := Prod.ext e1 e2
    subst es
    refine congrArg _ (Gd.unique a4 b4 fun i => ?_)
    have := e i
    rw [cov_cons, cov_cons] at this
    by_cases hi : i < s.1 + s.2 + 1
    · rw [lowT hi, lowT' hi]
    · rw [(inS_no s i).2 (by omega)] at this
      simpa using this
/-- How many bytes they are. -/
def sumS (l : List Sp) : Int := (l.map (·.2)).sum
theorem sumS_app (a b : List Sp) : sumS (a ++ b) = sumS a + sumS b := by simp [sumS]
theorem sumS_cons (s : Sp) (b : List Sp) : sumS (s :: b) = s.2 + sumS b := by simp [sumS]
theorem sumS_nil : sumS [] = 0 := rfl
theorem Gd.sum {sz : Int} : ∀ {l : List Sp} {lo : Int}, Gd lo sz l → lo ≤ sz → 0 ≤ sumS l ∧ sumS l ≤ sz - lo
  | [], lo, _, hl => by simp [sumS]; omega
  | s :: t, lo, h, _ => by
    have h1 := h.1; have h2 := h.2.1; have h3 := h.2.2.1
    rw [sumS_cons]
    cases t with
    | nil => simp [sumS, en] at *; omega
    | cons x y =>
      have hx := h.2.2.2.1; have hx2 := h.2.2.2.2.1; have hx3 := h.2.2.2.2.2.1
      have := Gd.sum h.2.2.2 (by simp only [en] at *; omega)
      simp only [en] at *
      omega
theorem Gd.len {sz : Int} : ∀ {l : List Sp} {lo : Int}, Gd lo sz l → lo ≤ sz + 1 → 2 * (l.length : Int) ≤ sz - lo + 1
  | [], lo, _, hl => by simp; omega
  | s :: t, lo, h, _ => by
    have h1 := h.1; have h2 := h.2.1; have h3 := h.2.2.1
    have := Gd.len h.2.2.2 (by simp only [en] at *; omega)
    simp only [en, List.length_cons] at *
    omega
/-- What is left of a hole. -/
def leftL (h s : Sp) : List Sp := (if h.1 < s.1 then [(h.1, s.1 - h.1)] else []) ++ (if en s < en h then [(en s, en h - en s)] else [])
def cutL (l : List Sp) (i : Nat) (s : Sp) : List Sp :=
  match l[i]? with
  | some h => l.take i ++ leftL h s ++ l.drop (i + 1)
  | none => l
theorem split_at {α : Type} {l : List α} {i : Nat} {x : α} (h : l[i]? = some x) : l = l.take i ++ x :: l.drop (i + 1) := by
  obtain ⟨hi, rfl⟩ := List.getElem?_eq_some_iff.1 h
  rw [← List.drop_eq_getElem_cons hi, List.take_append_drop]
theorem left_good {lo sz : Int} {h s : Sp} (hl : lo ≤ h.1) (hz : en h ≤ sz) (h1 : h.1 ≤ s.1) (h2 : en s ≤ en h) (h3 : 1 ≤ s.2) : Gd lo sz (leftL h s) ∧ beh lo (leftL h s) ≤ max lo (en h + 1) := by
  unfold leftL en at *
  split <;> split <;> simp [Gd, beh, en] <;> omega
theorem left_cov {h s : Sp} (h1 : h.1 ≤ s.1) (h2 : en s ≤ en h) (h3 : 1 ≤ s.2) (x : Int) : cov (leftL h s) x = (inS h x && !inS s x) := by
  rw [Bool.eq_iff_iff, cov_iff]
  simp only [Bool.and_eq_true, Bool.not_eq_true', inS_iff, inS_no]
  unfold leftL en at *
  split <;> split <;> simp <;> omega
theorem left_sum {h s : Sp} (h1 : h.1 ≤ s.1) (h2 : en s ≤ en h) : sumS (leftL h s) = h.2 - s.2 := by
  unfold leftL sumS en at *
  split <;> split <;> simp <;> omega
theorem cut_good {lo sz : Int} {l : List Sp} (hg : Gd lo sz l) {i : Nat} {h s : Sp} (hi : l[i]? = some h) (h1 : h.1 ≤ s.1) (h2 : en s ≤ en h) (h3 : 1 ≤ s.2) :
    Gd lo sz (cutL l i s) ∧ (∀ x, cov (cutL l i s) x = (cov l x && !inS s x)) ∧ sumS (cutL l i s) = sumS l - s.2 ∧ (cutL l i s).length ≤ l.length + 1 := by
  have e := split_at hi
  have hg2 := hg
  rw [e, Gd_app] at hg2
  obtain ⟨g1, g2⟩ := hg2
  obtain ⟨k1, k2, k3, k4⟩ := g2
  obtain ⟨m1, m2⟩ := left_good k1 k3 h1 h2 h3
  have ec : cutL l i s = l.take i ++ leftL h s ++ l.drop (i + 1) := by simp only [cutL, hi]
  refine ⟨?_, fun x => ?_, ?_, ?_⟩
  · rw [ec, Gd_app, Gd_app]
    refine ⟨⟨g1, m1⟩, k4.mono ?_⟩
    rw [beh_app]
    simp only [en] at *
    omega
  · rw [ec]
    conv => rhs; rw [e]
    rw [cov_app, cov_app, cov_app, cov_cons, left_cov h1 h2 h3]
    by_cases hx : inS s x = true
    · have hx' := (inS_iff s x).1 hx
      have c1 : cov (l.take i) x = false := by
        rw [cov_no]; intro y hy hc
        have := g1.beh_mem hy
        omega
      have c2 : cov (l.drop (i + 1)) x = false := k4.low (by simp only [en] at *; omega)
      rw [c1, c2, hx]; simp
    · rw [Bool.not_eq_true] at hx
      rw [hx]; simp [Bool.or_assoc]
  · rw [ec]
    conv => rhs; rw [e]
    rw [sumS_app, sumS_app, sumS_app, sumS_cons, left_sum h1 h2]
    omega
  · rw [ec]
    conv => rhs; rw [e]
    have : (leftL h s).length ≤ 2 := by unfold leftL; split <;> split <;> simp
    simp only [List.length_append, List.length_cons]
    omega
/-- What an extent becomes with the holes that it touches. -/
def touchA (A : List Sp) (s : Sp) : Bool := match A.getLast? with | some p => decide (en p = s.1) | none => false
def touchB (B : List Sp) (s : Sp) : Bool := match B.head? with | some p => decide (p.1 = en s) | none => false
def frA (A : List Sp) (s : Sp) : Int := match A.getLast? with | some p => if en p = s.1 then p.1 else s.1 | none => s.1
def toB (B : List Sp) (s : Sp) : Int := match B.head? with | some p => if p.1 = en s then en p else en s | none => en s
def cutAe (A : List Sp) (s : Sp) : List Sp := if touchA A s then A.dropLast else A
def cutBe (B : List Sp) (s : Sp) : List Sp := if touchB B s then B.tail else B
def joinL (A B : List Sp) (s : Sp) : List Sp := cutAe A s ++ (frA A s, toB B s - frA A s) :: cutBe B s
theorem none_in (a x : Int) : (decide (a ≤ x) && decide (x < a)) = false := by
  rw [Bool.and_eq_false_iff, decide_eq_false_iff_not, decide_eq_false_iff_not]; omega
theorem snoc_cases {α : Type} (A : List α) : A = [] ∨ ∃ A' p, A = A' ++ [p] := by
  rcases List.eq_nil_or_concat A with h | ⟨A', p, h⟩
  · exact .inl h
  · exact .inr ⟨A', p, by simpa using h⟩
theorem sideA {lo sz : Int} {A : List Sp} {s : Sp} (hg : Gd lo sz A) (hA : ∀ h ∈ A, h.1 + h.2 ≤ s.1) (hlo : lo ≤ s.1) :
    Gd lo sz (cutAe A s) ∧ beh lo (cutAe A s) ≤ frA A s ∧ frA A s ≤ s.1 ∧ (∀ x, cov A x = (cov (cutAe A s) x || (decide (frA A s ≤ x) && decide (x < s.1)))) ∧ sumS A = sumS (cutAe A s) + (s.1 - frA A s) ∧ (cutAe A s).length ≤ A.length := by
  rcases snoc_cases A with rfl | ⟨A', p, rfl⟩
  · have e : frA [] s = s.1 := rfl
    refine ⟨trivial, by simpa [cutAe, frA, beh, touchA] using hlo, by simp [frA], fun x => ?_, by simp [cutAe, frA, touchA], by simp [cutAe, touchA]⟩
    rw [e, none_in]; simp [cutAe, touchA, cov]
  · rw [Gd_app] at hg
    obtain ⟨g1, g2, g3, g4, -⟩ := hg
    have hp := hA p (by simp)
    by_cases ht : en p = s.1
    · have e1 : cutAe (A' ++ [p]) s = A' := by simp [cutAe, touchA, ht]
      have e2 : frA (A' ++ [p]) s = p.1 := by simp [frA, ht]
      simp only [en] at ht
      rw [e1, e2]
      refine ⟨g1, g2, by omega, fun x => ?_, ?_, by simp⟩
      · rw [cov_app, cov_cons, cov_nil, inS, en, ht]; simp
      · rw [sumS_app, sumS_cons, sumS_nil]; omega
    · have e1 : cutAe (A' ++ [p]) s = A' ++ [p] := by simp [cutAe, touchA, ht]
      have e2 : frA (A' ++ [p]) s = s.1 := by simp [frA, ht]
      simp only [en] at ht
      rw [e1, e2]
      refine ⟨(Gd_app _ _ _).2 ⟨g1, g2, g3, g4, trivial⟩, ?_, Int.le_refl _, fun x => ?_, by omega, Nat.le_refl _⟩
      · rw [beh_app]; simp only [beh, en]; omega
      · rw [none_in, Bool.or_false]
theorem sideB {lo sz : Int} {B : List Sp} {s : Sp} (hg : Gd lo sz B) (hB : ∀ h ∈ B, s.1 + s.2 ≤ h.1) (hz : en s ≤ sz) :
    Gd (toB B s + 1) sz (cutBe B s) ∧ en s ≤ toB B s ∧ toB B s ≤ sz ∧ (∀ x, cov B x = (cov (cutBe B s) x || (decide (en s ≤ x) && decide (x < toB B s)))) ∧ sumS B = sumS (cutBe B s) + (toB B s - en s) ∧ (cutBe B s).length ≤ B.length := by
  cases B with
  | nil =>
    refine ⟨trivial, by simp [toB], by simpa [toB] using hz, fun x => ?_, by simp [cutBe, toB, touchB], by simp [cutBe, touchB]⟩
    have e : toB [] s = en s := rfl
    rw [e, none_in]; simp [cutBe, touchB, cov]
  | cons p B' =>
    obtain ⟨g2, g3, g4, g5⟩ := hg
    have hp := hB p (by simp)
    by_cases ht : p.1 = en s
    · have e1 : cutBe (p :: B') s = B' := by simp [cutBe, touchB, ht]
      have e2 : toB (p :: B') s = en p := by simp [toB, ht]
      rw [e1, e2]
      refine ⟨g5, by simp only [en] at *; omega, g4, fun x => ?_, ?_, by simp⟩
      · rw [cov_cons, inS, ← ht, Bool.or_comm]
      · rw [sumS_cons]; simp only [en] at *; omega
    · have e1 : cutBe (p :: B') s = p :: B' := by simp [cutBe, touchB, ht]
      have e2 : toB (p :: B') s = en s := by simp [toB, ht]
      rw [e1, e2]
      refine ⟨⟨by simp only [en] at *; omega, g3, g4, g5⟩, Int.le_refl _, hz, fun x => ?_, by omega, Nat.le_refl _⟩
      rw [none_in, Bool.or_false]
theorem join_good {lo sz : Int} {A B : List Sp} (hg : Gd lo sz (A ++ B)) {s : Sp} (hA : ∀ h ∈ A, h.1 + h.2 ≤ s.1) (hB : ∀ h ∈ B, s.1 + s.2 ≤ h.1) (hlo : lo ≤ s.1) (hz : en s ≤ sz) (h1 : 1 ≤ s.2) :
    Gd lo sz (joinL A B s) ∧ (∀ x, cov (joinL A B s) x = (cov (A ++ B) x || inS s x)) ∧ sumS (joinL A B s) = sumS (A ++ B) + s.2 ∧ (joinL A B s).length ≤ A.length + B.length + 1 := by
  rw [Gd_app] at hg
  obtain ⟨a1, a2, a3, a4, a5, a6⟩ := sideA hg.1 hA hlo
  obtain ⟨b1, b2, b3, b4, b5, b6⟩ := sideB hg.2 hB hz
  have hs : en s = s.1 + s.2 := rfl
  refine ⟨?_, fun x => ?_, ?_, ?_⟩
  · unfold joinL
    rw [Gd_app]
    refine ⟨a1, a2, ?_, ?_, ?_⟩
    · show 1 ≤ toB B s - frA A s; omega
    · show frA A s + (toB B s - frA A s) ≤ sz; omega
    · have : en (frA A s, toB B s - frA A s) = toB B s := by simp only [en]; omega
      rw [this]; exact b1
  · rw [joinL, cov_app, cov_cons, cov_app, a4, b4, inS, inS, en]
    have e3 : frA A s + (toB B s - frA A s) = toB B s := by omega
    rw [e3]
    rw [Bool.eq_iff_iff]
    simp only [Bool.or_eq_true, Bool.and_eq_true, decide_eq_true_eq]
    by_cases c1 : cov (cutAe A s) x = true <;> by_cases c2 : cov (cutBe B s) x = true <;> simp [c1, c2] <;> omega
  · rw [joinL, sumS_app, sumS_cons, sumS_app, a5, b5]
    show _ + (toB B s - frA A s + _) = _
    omega
  · rw [joinL]; simp only [List.length_append, List.length_cons]; omega
end Go.Proofs.Ytgihdfmeokbplaa.Ex
