/- What Plan goes through: the mathematics. -/
import Derived.Test.YtgihdfmeokbplaaPD
import Derived.Test.YtgihdfmeokbplaaXP
namespace Go.Proofs.Ytgihdfmeokbplaa
open Go.RowKit Ex
/-- The going through the sorted spans: none begins within the one before it, each is taken. -/
def chkL (X : Ar) : Int → List Sp → Bool
  | _, [] => true
  | b, s :: t => decide (b ≤ s.1) && takD X.hs s && chkL X (s.1 + s.2) t
def endL (b : Int) : List Sp → Int
  | [] => b
  | s :: t => endL (s.1 + s.2) t
theorem chkL_snoc (X : Ar) (b : Int) (l : List Sp) (s : Sp) : chkL X b (l ++ [s]) = (chkL X b l && decide (endL b l ≤ s.1) && takD X.hs s) := by
  induction l generalizing b with
  | nil => simp [chkL, endL]; try rfl
  | cons a l ih => simp only [List.cons_append, chkL, endL, ih, Bool.and_assoc]; try rfl
theorem endL_snoc (b : Int) (l : List Sp) (s : Sp) : endL b (l ++ [s]) = s.1 + s.2 := by
  induction l generalizing b with
  | nil => rfl
  | cons a l ih => exact ih _
theorem chkL_app (X : Ar) (b : Int) (l m : List Sp) (h : chkL X b l = false) : chkL X b (l ++ m) = false := by
  induction l generalizing b with
  | nil => simp [chkL] at h
  | cons a l ih =>
    simp only [List.cons_append, chkL] at h ⊢
    cases h1 : (decide (b ≤ a.1) && takD X.hs a) with
    | false => simp
    | true => rw [h1] at h; simp only [Bool.true_and] at h ⊢; exact ih _ h
def PlanTo (w w' : World) (X : Ar) (l : List Sp) (e : Ending) : Prop := Below w.heap.size w w' ∧
  (((∃ s ∈ l, X.has s = false) ∧ e = .returned (.tuple #[.slice none 0 0, .int .i64 9])) ∨
   ((∀ s ∈ l, X.has s = true) ∧ ∃ l' : List Sp, l'.Perm l ∧ (∀ (i j : Nat) (p q : Sp), i < j → l'[i]? = some p → l'[j]? = some q → p.1 ≤ q.1) ∧
     ((chkL X 0 l' = false ∧ e = .returned (.tuple #[.slice none 0 0, .int .i64 8])) ∨
      (chkL X 0 l' = true ∧ ∃ a c, e = .returned (.tuple #[.slice a (movL 0 l').length c, .int .i64 0]) ∧ w'.ownsRow w.heap.size 54 3 (.slice a (movL 0 l').length c) (movL 0 l').length (mvsV (movL 0 l'))))))
theorem sum_chk (X : Ar) : ∀ (l : List Sp) (b : Int), chkL X b l = true → (∀ s ∈ l, X.has s = true) → 0 ≤ b → b ≤ X.sz → 0 ≤ sumS l ∧ sumS l ≤ endL b l - b ∧ endL b l ≤ X.sz
  | [], b, _, _, h0, hz => ⟨by simp [sumS], by simp [sumS, endL], hz⟩
  | s :: t, b, hc, hh, h0, hz => by
    simp only [chkL, Bool.and_eq_true, decide_eq_true_eq] at hc
    have hs := (Ar.has_iff X s).1 (hh s List.mem_cons_self)
    obtain ⟨h1, h2, h3⟩ := sum_chk X t (s.1 + s.2) hc.2 (fun x hx => hh x (List.mem_cons_of_mem _ hx)) (by omega) (by omega)
    rw [sumS_cons, endL]
    exact ⟨by omega, by omega, h3⟩
theorem chk_take (X : Ar) (l : List Sp) (b : Int) (h : chkL X b l = true) (k : Nat) : chkL X b (l.take k) = true := by
  cases hc : chkL X b (l.take k) with
  | true => rfl
  | false => have := chkL_app X b _ (l.drop k) hc; rw [List.take_append_drop] at this; rw [this] at h; cases h
/-- Do two spans overlap? -/
def ovl (a b : Sp) : Prop := a.1 < b.1 + b.2 ∧ b.1 < a.1 + a.2
theorem ovl_symm {a b : Sp} (h : ovl a b) : ovl b a := ⟨h.2, h.1⟩
/-- Spans that are gone through without a fault. -/
def FineL (X : Ar) (l : List Sp) : Prop := (∀ s ∈ l, takD X.hs s = true) ∧ l.Pairwise fun a b => ¬ ovl a b
theorem chk_fine (X : Ar) : ∀ (l : List Sp) (b : Int), (∀ s ∈ l, 1 ≤ s.2) → chkL X b l = true → (∀ s ∈ l, b ≤ s.1) ∧ FineL X l
  | [], _, _, _ => ⟨fun s hs => (by cases hs), fun s hs => (by cases hs), List.Pairwise.nil⟩
  | s :: t, b, h1, hc => by
    simp only [chkL, Bool.and_eq_true, decide_eq_true_eq] at hc
    obtain ⟨h2, h3, h4⟩ := chk_fine X t (s.1 + s.2) (fun x hx => h1 x (List.mem_cons_of_mem _ hx)) hc.2
    have hs := h1 s List.mem_cons_self
    refine ⟨fun x hx => ?_, fun x hx => ?_, List.Pairwise.cons (fun x hx ho => ?_) h4⟩
    · rcases List.mem_cons.1 hx with rfl | hx
      · exact hc.1.1
      · have := h2 x hx; omega
    · rcases List.mem_cons.1 hx with rfl | hx
      · exact hc.1.2
      · exact h3 x hx
    · have := h2 x hx
      have := ho.2
      omega
theorem fine_chk (X : Ar) : ∀ (l : List Sp) (b : Int), (∀ s ∈ l, 1 ≤ s.2) → (∀ s ∈ l, b ≤ s.1) → l.Pairwise (fun a c => a.1 ≤ c.1) → FineL X l → chkL X b l = true
  | [], _, _, _, _, _ => rfl
  | s :: t, b, h1, hb, hso, hf => by
    have hs := List.pairwise_cons.1 hso
    have hp := List.pairwise_cons.1 hf.2
    simp only [chkL, Bool.and_eq_true, decide_eq_true_eq]
    refine ⟨⟨hb s List.mem_cons_self, hf.1 s List.mem_cons_self⟩, fine_chk X t _ (fun x hx => h1 x (List.mem_cons_of_mem _ hx)) (fun x hx => ?_) hs.2 ⟨fun x hx => hf.1 x (List.mem_cons_of_mem _ hx), hp.2⟩⟩
    have h3 := hs.1 x hx
    have h4 := hp.1 x hx
    have h5 := h1 x (List.mem_cons_of_mem _ hx)
    rcases Int.lt_or_le x.1 (s.1 + s.2) with h6 | h6
    · exact absurd ⟨by omega, h6⟩ h4
    · exact h6
/-- A row that is sorted is in order, one by one. -/
theorem sorted_pw {l : List Sp} (h : ∀ (i j : Nat) (p q : Sp), i < j → l[i]? = some p → l[j]? = some q → p.1 ≤ q.1) : l.Pairwise fun a c => a.1 ≤ c.1 := by
  rw [List.pairwise_iff_getElem]
  intro i j hi hj hij
  exact h i j _ _ hij (List.getElem?_eq_getElem hi) (List.getElem?_eq_getElem hj)
/-- Whatever order they are gone through in. -/
theorem chk_iff (X : Ar) {l l' : List Sp} (hp : l'.Perm l) (hso : ∀ (i j : Nat) (p q : Sp), i < j → l'[i]? = some p → l'[j]? = some q → p.1 ≤ q.1) (h1 : ∀ s ∈ l, 1 ≤ s.2) (h0 : ∀ s ∈ l, 0 ≤ s.1) : chkL X 0 l' = true ↔ FineL X l := by
  have h1' : ∀ s ∈ l', 1 ≤ s.2 := fun s hs => h1 s (hp.mem_iff.1 hs)
  have h0' : ∀ s ∈ l', 0 ≤ s.1 := fun s hs => h0 s (hp.mem_iff.1 hs)
  have key : FineL X l' ↔ FineL X l := by
    unfold FineL
    rw [hp.pairwise_iff (fun {a b} hab hba => hab (ovl_symm hba))]
    constructor
    · exact fun h => ⟨fun s hs => h.1 s (hp.mem_iff.2 hs), h.2⟩
    · exact fun h => ⟨fun s hs => h.1 s (hp.mem_iff.1 hs), h.2⟩
  rw [← key]
  exact ⟨fun h => (chk_fine X l' 0 h1' h).2, fun h => fine_chk X l' 0 h1' h0' (sorted_pw hso) h⟩
end Go.Proofs.Ytgihdfmeokbplaa
