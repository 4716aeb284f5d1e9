/- Chunks as mathematics. -/
import Derived.Test.YtebmmhgmbnbnnaaM
namespace Go.Proofs.Ytebmmhgmbnbnnaa
namespace Ck
/-- A measure. -/
structure Ms where
  least : Nat
  most : Nat
  bits : Nat
structure Ms.Ok (m : Ms) : Prop where
  one : 1 ≤ m.least
  le : m.least ≤ m.most
  top : m.most ≤ 1024
  bits : m.bits ≤ 16
/-- The last n of some bytes. -/
def lstN (n : Nat) (l : List UInt8) : List UInt8 := l.drop (l.length - n)
theorem lstN_len (n : Nat) (l : List UInt8) : (lstN n l).length = min n l.length := by simp [lstN]; omega
theorem lstN_app (n : Nat) (a b : List UInt8) (h : n ≤ b.length) : lstN n (a ++ b) = lstN n b := by
  unfold lstN
  rw [List.drop_append, List.length_append, List.drop_eq_nil_of_le (by omega), List.nil_append]
  congr 1
  omega
theorem lstN_all (n : Nat) (l : List UInt8) (h : l.length ≤ n) : lstN n l = l := by
  unfold lstN; rw [show l.length - n = 0 by omega]; rfl
theorem lstN_lstN (l : List UInt8) (n : Nat) : lstN n (lstN n l) = lstN n l := lstN_all _ _ (by rw [lstN_len]; omega)
theorem lstN_snoc (n : Nat) (l : List UInt8) (c : UInt8) (hn : 1 ≤ n) : lstN n (l ++ [c]) = if (lstN n l).length < n then lstN n l ++ [c] else (lstN n l).drop 1 ++ [c] := by
  rw [lstN_len]
  by_cases h : l.length < n
  · rw [if_pos (by omega), lstN_all n l (by omega), lstN_all _ _ (by simp; omega)]
  · rw [if_neg (by omega)]
    unfold lstN
    rw [List.drop_drop, List.drop_append, List.length_append, List.length_singleton, show l.length + 1 - n - l.length = 0 by omega, List.drop_zero]
    congr 2
    omega
/-- Is a place with that window a mark? -/
def markP (win : List UInt8) (bits : Nat) : Bool := decide (wsum win * 2654435761 % 4294967296 / 2 ^ (32 - bits) = 0)
/-- Does the chunk w end behind the text P? -/
def endsP (m : Ms) (P w : List UInt8) : Bool := decide (m.least ≤ w.length) && (decide (m.most ≤ w.length) || markP (lstN 16 P) m.bits)
/-- What goes through behind the text P, w of which waits: the chunks that are whole, and what waits then. -/
def goC (m : Ms) : List UInt8 → List UInt8 → List UInt8 → List (List UInt8) × List UInt8
  | _, w, [] => ([], w)
  | P, w, c :: t =>
    if endsP m (P ++ [c]) (w ++ [c]) then ((w ++ [c]) :: (goC m (P ++ [c]) [] t).1, (goC m (P ++ [c]) [] t).2) else goC m (P ++ [c]) (w ++ [c]) t
theorem goC_nil (m : Ms) (P w : List UInt8) : goC m P w [] = ([], w) := rfl
theorem goC_yes (m : Ms) (P w : List UInt8) (c : UInt8) (t : List UInt8) (h : endsP m (P ++ [c]) (w ++ [c]) = true) : goC m P w (c :: t) = ((w ++ [c]) :: (goC m (P ++ [c]) [] t).1, (goC m (P ++ [c]) [] t).2) := by
  rw [goC, if_pos h]
theorem goC_no (m : Ms) (P w : List UInt8) (c : UInt8) (t : List UInt8) (h : endsP m (P ++ [c]) (w ++ [c]) = false) : goC m P w (c :: t) = goC m (P ++ [c]) (w ++ [c]) t := by
  rw [goC, if_neg (by simp [h])]
theorem goC_append (m : Ms) (a : List UInt8) : ∀ P w b, goC m P w (a ++ b) = ((goC m P w a).1 ++ (goC m (P ++ a) (goC m P w a).2 b).1, (goC m (P ++ a) (goC m P w a).2 b).2) := by
  induction a with
  | nil => intro P w b; simp [goC_nil]
  | cons c t ih =>
    intro P w b
    rw [List.cons_append]
    rcases h : endsP m (P ++ [c]) (w ++ [c]) with _ | _
    · rw [goC_no m P w c _ h, goC_no m P w c _ h, ih, List.append_assoc, List.singleton_append]
    · rw [goC_yes m P w c _ h, goC_yes m P w c _ h, ih, List.append_assoc, List.singleton_append]
      rfl
/-- One byte more. -/
theorem goC_snoc (m : Ms) (P w t : List UInt8) (c : UInt8) :
    goC m P w (t ++ [c]) = if endsP m (P ++ t ++ [c]) ((goC m P w t).2 ++ [c]) then ((goC m P w t).1 ++ [(goC m P w t).2 ++ [c]], []) else ((goC m P w t).1, (goC m P w t).2 ++ [c]) := by
  rw [goC_append]
  rcases h : endsP m (P ++ t ++ [c]) ((goC m P w t).2 ++ [c]) with _ | _
  · rw [goC_no _ _ _ _ _ h, goC_nil]; simp
  · rw [goC_yes _ _ _ _ _ h, goC_nil]; simp
theorem goC_join (m : Ms) (t : List UInt8) : ∀ P w, (goC m P w t).1.flatten ++ (goC m P w t).2 = w ++ t := by
  induction t with
  | nil => intro P w; simp [goC_nil]
  | cons c t ih =>
    intro P w
    rcases h : endsP m (P ++ [c]) (w ++ [c]) with _ | _
    · rw [goC_no m P w c _ h, ih, List.append_assoc, List.singleton_append]
    · rw [goC_yes m P w c _ h]
      simp only [List.flatten_cons]
      rw [List.append_assoc, ih]
      simp
theorem endsP_least {m : Ms} {P w : List UInt8} (h : endsP m P w = true) : m.least ≤ w.length := by
  simp [endsP] at h; exact h.1
theorem endsP_most {m : Ms} {P w : List UInt8} (hm : m.Ok) (h : endsP m P w = false) : w.length < m.most := by
  have := hm.le
  simp [endsP] at h
  by_cases hl : m.least ≤ w.length
  · exact (h hl).1
  · omega
theorem goC_sizes {m : Ms} (hm : m.Ok) (t : List UInt8) : ∀ P w, w.length < m.most → (∀ x ∈ (goC m P w t).1, m.least ≤ x.length ∧ x.length ≤ m.most) ∧ (goC m P w t).2.length < m.most := by
  induction t with
  | nil => intro P w hw; simp [goC_nil, hw]
  | cons c t ih =>
    intro P w hw
    rcases h : endsP m (P ++ [c]) (w ++ [c]) with _ | _
    · rw [goC_no m P w c _ h]
      exact ih _ _ (endsP_most hm h)
    · rw [goC_yes m P w c _ h]
      have h1 := endsP_least h
      have hz := ih (P ++ [c]) [] (by have := hm.one; have := hm.le; simp; omega)
      refine ⟨?_, hz.2⟩
      intro x hx
      rcases List.mem_cons.mp hx with rfl | hx
      · refine ⟨h1, ?_⟩
        simp; omega
      · exact hz.1 x hx
/-- All chunks of a text. -/
def lastC (w : List UInt8) : List (List UInt8) := if w = [] then [] else [w]
def cutL (m : Ms) (t : List UInt8) : List (List UInt8) := (goC m [] [] t).1 ++ lastC (goC m [] [] t).2
theorem lastC_flat (w : List UInt8) : (lastC w).flatten = w := by
  unfold lastC; split
  · next h => simp [h]
  · simp
theorem cutL_join (m : Ms) (t : List UInt8) : (cutL m t).flatten = t := by
  rw [cutL, List.flatten_append, lastC_flat, goC_join, List.nil_append]
theorem cutL_size {m : Ms} (hm : m.Ok) (t : List UInt8) : ∀ x ∈ cutL m t, 1 ≤ x.length ∧ x.length ≤ m.most := by
  have hz := goC_sizes hm t [] [] (by have := hm.one; have := hm.le; simp; omega)
  intro x hx
  rcases List.mem_append.mp hx with hx | hx
  · have := hz.1 x hx; have := hm.one; omega
  · unfold lastC at hx
    split at hx
    · simp at hx
    · next h =>
      rw [List.mem_singleton] at hx
      rw [hx]
      have h0 : (goC m [] [] t).2.length ≠ 0 := fun h2 => h (List.eq_nil_of_length_eq_zero h2)
      omega
/-- Each chunk but the last one has least bytes or more. -/
theorem cutL_least {m : Ms} (hm : m.Ok) (t : List UInt8) (i : Nat) (hi : i + 1 < (cutL m t).length) : m.least ≤ ((cutL m t).getD i []).length := by
  have hz := goC_sizes hm t [] [] (by have := hm.one; have := hm.le; simp; omega)
  have hl : (lastC (goC m [] [] t).2).length ≤ 1 := by unfold lastC; split <;> simp
  have h1 : i < (goC m [] [] t).1.length := by unfold cutL at hi; rw [List.length_append] at hi; omega
  unfold cutL
  rw [List.getD_eq_getElem?_getD, List.getElem?_append_left h1, List.getElem?_eq_getElem h1]
  exact (hz.1 _ (List.getElem_mem h1)).1
/-- Where chunks end. -/
def endsL (at_ : Nat) : List (List UInt8) → List Nat
  | [] => []
  | c :: l => (at_ + c.length) :: endsL (at_ + c.length) l
theorem endsL_append (l k : List (List UInt8)) : ∀ a, endsL a (l ++ k) = endsL a l ++ endsL (a + l.flatten.length) k := by
  induction l with
  | nil => intro a; simp [endsL]
  | cons c l ih => intro a; rw [List.cons_append, endsL, endsL, ih, List.cons_append, List.flatten_cons, List.length_append, Nat.add_assoc]
theorem endsL_len (l : List (List UInt8)) : ∀ a, (endsL a l).length = l.length := by
  induction l with
  | nil => intro a; rfl
  | cons c l ih => intro a; simp [endsL, ih]
theorem endsL_le (l : List (List UInt8)) : ∀ a, ∀ p ∈ endsL a l, p ≤ a + l.flatten.length := by
  induction l with
  | nil => intro a p hp; simp [endsL] at hp
  | cons c l ih =>
    intro a p hp
    rw [List.flatten_cons, List.length_append]
    rcases List.mem_cons.mp hp with rfl | hp
    · omega
    · have := ih _ p hp; omega
theorem endsL_take (l : List (List UInt8)) (i : Nat) (hi : i < l.length) : ∀ a, (endsL a l).getD i 0 = a + (l.take (i + 1)).flatten.length := by
  induction l generalizing i with
  | nil => simp at hi
  | cons c l ih =>
    intro a
    match i, hi with
    | 0, _ => simp [endsL]
    | i + 1, hi =>
      rw [endsL, List.getD_cons_succ, ih i (by simpa using hi), List.take_succ_cons, List.flatten_cons, List.length_append, Nat.add_assoc]
theorem ends_gt (m : Ms) (t : List UInt8) : ∀ P w a, ∀ p ∈ endsL a (goC m P w t).1, a + w.length < p := by
  induction t with
  | nil => intro P w a p hp; simp [goC_nil, endsL] at hp
  | cons c t ih =>
    intro P w a p hp
    rcases h : endsP m (P ++ [c]) (w ++ [c]) with _ | _
    · rw [goC_no m P w c _ h] at hp
      have := ih _ _ _ p hp
      simp at this; omega
    · rw [goC_yes m P w c _ h, endsL] at hp
      rcases List.mem_cons.mp hp with rfl | hp
      · simp
      · have := ih _ _ _ p hp
        simp at this; omega
/-- A chunk ends at a place just if nothing waits there. -/
theorem ends_iff (m : Ms) (t : List UInt8) : ∀ P w a p, p < t.length → (a + w.length + (p + 1) ∈ endsL a (goC m P w t).1 ↔ (goC m P w (t.take (p + 1))).2 = []) := by
  induction t with
  | nil => intro P w a p hp; simp at hp
  | cons c t ih =>
    intro P w a p hp
    rw [List.take_succ_cons]
    rcases h : endsP m (P ++ [c]) (w ++ [c]) with _ | _
    · rw [goC_no m P w c _ h, goC_no m P w c _ h]
      match p with
      | 0 =>
        rw [List.take_zero, goC_nil]
        constructor
        · intro hm
          have := ends_gt m t (P ++ [c]) (w ++ [c]) a _ hm
          simp at this
          omega
        · intro h2; simp at h2
      | p + 1 =>
        have := ih (P ++ [c]) (w ++ [c]) a p (by simpa using hp)
        rw [← this, List.length_append, List.length_singleton]
        rw [show a + w.length + (p + 1 + 1) = a + (w.length + 1) + (p + 1) by omega]
    · rw [goC_yes m P w c _ h, goC_yes m P w c _ h, endsL]
      match p with
      | 0 => simp [goC_nil, Nat.add_assoc]
      | p + 1 =>
        have := ih (P ++ [c]) [] (a + (w ++ [c]).length) p (by simpa using hp)
        simp only [List.length_nil, Nat.add_zero] at this
        rw [← this, List.mem_cons, List.length_append, List.length_singleton]
        rw [show a + w.length + (p + 1 + 1) = a + (w.length + 1) + (p + 1) by omega]
        constructor
        · rintro (h3 | h3)
          · omega
          · exact h3
        · exact .inr
/-- What comes behind 16 bytes hangs on no byte ahead of them. -/
theorem goC_tail (m : Ms) (y : List UInt8) : ∀ P x w, 16 ≤ x.length → goC m (P ++ x) w y = goC m x w y := by
  induction y with
  | nil => intro P x w _; rfl
  | cons c y ih =>
    intro P x w hx
    have e : endsP m (P ++ x ++ [c]) (w ++ [c]) = endsP m (x ++ [c]) (w ++ [c]) := by
      unfold endsP
      rw [List.append_assoc, lstN_app _ _ _ (by simp; omega)]
    rcases h : endsP m (x ++ [c]) (w ++ [c]) with _ | _
    · rw [goC_no _ _ _ _ _ (e.trans h), goC_no _ _ _ _ _ h, List.append_assoc, ih _ _ _ (by simp; omega)]
    · rw [goC_yes _ _ _ _ _ (e.trans h), goC_yes _ _ _ _ _ h, List.append_assoc, ih _ _ _ (by simp; omega)]
/-- Is a text cut behind its first p bytes? -/
def cutAt (m : Ms) (t : List UInt8) (p : Nat) : Prop := (goC m [] [] (t.take p)).2 = []
theorem cut_iff (m : Ms) (t : List UInt8) (p : Nat) (h0 : 1 ≤ p) (hp : p < t.length) : p ∈ endsL 0 (cutL m t) ↔ cutAt m t p := by
  obtain ⟨q, rfl⟩ : ∃ q, p = q + 1 := ⟨p - 1, by omega⟩
  have := ends_iff m t [] [] 0 q (by omega)
  simp only [List.length_nil, Nat.zero_add] at this
  unfold cutAt
  rw [← this, cutL, endsL_append, List.mem_append]
  constructor
  · rintro (h | h)
    · exact h
    · exfalso
      have e := congrArg List.length (cutL_join m t)
      rw [cutL, List.flatten_append, List.length_append, lastC_flat] at e
      unfold lastC at h
      split at h
      · simp [endsL] at h
      · simp only [endsL, List.mem_singleton, Nat.zero_add] at h
        omega
  · exact .inl
/-- Behind a cut in common all cuts are the same. -/
theorem cut_common (m : Ms) (a b t : List UInt8) (i j : Nat) (hi : 16 ≤ i) (hij : i ≤ j) (hj : j ≤ t.length) (ha : cutAt m (a ++ t) (a.length + i)) (hb : cutAt m (b ++ t) (b.length + i)) :
    cutAt m (a ++ t) (a.length + j) ↔ cutAt m (b ++ t) (b.length + j) := by
  have key : ∀ c : List UInt8, cutAt m (c ++ t) (c.length + i) → (goC m [] [] ((c ++ t).take (c.length + j))).2 = (goC m (t.take i) [] ((t.take j).drop i)).2 := by
    intro c hc
    have e1 : ∀ k, (c ++ t).take (c.length + k) = c ++ t.take k := by
      intro k
      rw [List.take_append, List.take_of_length_le (by omega)]
      congr 2; omega
    unfold cutAt at hc
    rw [e1] at hc
    have e2 : t.take i ++ (t.take j).drop i = t.take j := by
      conv => rhs; rw [← List.take_append_drop i (t.take j)]
      rw [List.take_take, Nat.min_eq_left hij]
    have hl : 16 ≤ (t.take i).length := by rw [List.length_take]; omega
    rw [e1, ← e2, ← List.append_assoc, goC_append, hc, List.nil_append, goC_tail m _ c (t.take i) [] hl, e2]
  unfold cutAt
  rw [key a ha, key b hb]
/-- The highest bits of a number that is doubled again and again. -/
theorem mark_bits (n b : Nat) : n % 4294967296 / 2 ^ (32 - b) = 0 ↔ n % 4294967296 < 2 ^ (32 - b) := by
  rw [Nat.div_eq_zero_iff]
  have : 0 < 2 ^ (32 - b) := Nat.two_pow_pos _
  omega
end Ck
end Go.Proofs.Ytebmmhgmbnbnnaa
