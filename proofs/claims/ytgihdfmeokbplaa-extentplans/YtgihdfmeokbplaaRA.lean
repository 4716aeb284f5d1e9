/- What moves make of an area: the mathematics of ExtentPlans. -/
import Derived.Test.YtgihdfmeokbplaaQF
namespace Go.Proofs.Ytgihdfmeokbplaa
open Go.RowKit Ex
/-- So many bytes of a move. -/
def mv1 (f : Int → Int) (to fr : Int) : Nat → Int → Int
  | 0 => f
  | k + 1 => fun x => if x = to + k then mv1 f to fr k (fr + k) else mv1 f to fr k x
theorem mv1_spec (f : Int → Int) (to fr : Int) (h : to ≤ fr) (hf : ∀ x, fr ≤ x → f x = x) : ∀ (k : Nat) (x : Int), mv1 f to fr k x = if to ≤ x ∧ x < to + k then fr + (x - to) else f x
  | 0, x => by rw [if_neg (by omega)]; rfl
  | k + 1, x => by
    simp only [mv1]
    rw [mv1_spec f to fr h hf k, mv1_spec f to fr h hf k]
    by_cases hx : x = to + k
    · rw [if_pos hx, if_neg (by omega), if_pos (by omega), hf _ (by omega)]
      omega
    · rw [if_neg hx]
      by_cases h2 : to ≤ x ∧ x < to + k
      · rw [if_pos h2, if_pos (by omega)]
      · rw [if_neg h2, if_neg (by omega)]
def runM (f : Int → Int) (l : List MvV) : Int → Int := l.foldl (fun f m => mv1 f m.to m.from_ m.size.toNat) f
/-- The extents one behind the other, each with its bytes. -/
def PackAt (f : Int → Int) : Int → List Sp → Prop
  | _, [] => True
  | t, s :: r => (∀ k : Int, 0 ≤ k → k < s.2 → f (t + k) = s.1 + k) ∧ PackAt f (t + s.2) r
theorem run_pack (X : Ar) : ∀ (l : List Sp) (f : Int → Int) (t b : Int), t ≤ b → (∀ x, b ≤ x → f x = x) → chkL X b l = true → (∀ s ∈ l, 1 ≤ s.2) → (∀ x, x < t → runM f (movL t l) x = f x) ∧ PackAt (runM f (movL t l)) t l
  | [], _, _, _, _, _, _, _ => ⟨fun _ _ => rfl, trivial⟩
  | s :: r, f, t, b, htb, hf, hc, h1 => by
    simp only [chkL, Bool.and_eq_true, decide_eq_true_eq] at hc
    have hs := h1 s List.mem_cons_self
    have h1r : ∀ s ∈ r, 1 ≤ s.2 := fun x hx => h1 x (List.mem_cons_of_mem _ hx)
    simp only [movL]
    by_cases he : s.1 = t
    · rw [if_pos he]
      obtain ⟨g1, g2⟩ := run_pack X r f (t + s.2) (s.1 + s.2) (by omega) (fun x hx => hf x (by omega)) hc.2 h1r
      refine ⟨fun x hx => g1 x (by omega), fun k h0 hk => ?_, g2⟩
      have := g1 (t + k) (by omega)
      rw [this, hf _ (by omega)]
      omega
    · rw [if_neg he]
      have hm := mv1_spec f t s.1 (by omega) (fun x hx => hf x (by omega)) s.2.toNat
      have e : ∀ x, runM f (⟨s.1, t, s.2⟩ :: movL (t + s.2) r) x = runM (mv1 f t s.1 s.2.toNat) (movL (t + s.2) r) x := fun _ => rfl
      obtain ⟨g1, g2⟩ := run_pack X r (mv1 f t s.1 s.2.toNat) (t + s.2) (s.1 + s.2) (by omega) (fun x hx => by rw [hm, if_neg (by omega)]; exact hf x (by omega)) hc.2 h1r
      refine ⟨fun x hx => ?_, fun k h0 hk => ?_, g2⟩
      · rw [e, g1 x (by omega), hm, if_neg (by omega)]
      · rw [e, g1 _ (by omega), hm, if_pos (by omega)]
        omega
theorem mov_in (X : Ar) : ∀ (l : List Sp) (t b : Int), 0 ≤ t → t ≤ b → chkL X b l = true → (∀ s ∈ l, X.has s = true) → ∀ m ∈ movL t l, 0 ≤ m.to ∧ m.to ≤ m.from_ ∧ 1 ≤ m.size ∧ m.from_ + m.size ≤ X.sz
  | [], _, _, _, _, _, _, m, hm => by cases hm
  | s :: r, t, b, h0, htb, hc, hh, m, hm => by
    simp only [chkL, Bool.and_eq_true, decide_eq_true_eq] at hc
    have hs := (Ar.has_iff X s).1 (hh s List.mem_cons_self)
    simp only [movL] at hm
    have hr := mov_in X r (t + s.2) (s.1 + s.2) (by omega) (by omega) hc.2 (fun x hx => hh x (List.mem_cons_of_mem _ hx)) m
    by_cases he : s.1 = t
    · rw [if_pos he] at hm
      exact hr hm
    · rw [if_neg he] at hm
      rcases List.mem_cons.1 hm with hm | hm
      · subst hm
        exact ⟨h0, by simp only; omega, by simp only; omega, by simp only; omega⟩
      · exact hr hm
theorem pack_at : ∀ (l : List Sp) (f : Int → Int) (t : Int), PackAt f t l → ∀ (n : Nat) (s : Sp), l[n]? = some s → ∀ k : Int, 0 ≤ k → k < s.2 → f (t + sumS (l.take n) + k) = s.1 + k
  | [], _, _, _, n, s, hs, _, _, _ => by cases hs
  | a :: r, f, t, h, 0, s, hs, k, h0, hk => by
    simp only [List.getElem?_cons_zero, Option.some.injEq] at hs
    subst hs
    rw [List.take_zero, sumS_nil, Int.add_zero]
    exact h.1 k h0 hk
  | a :: r, f, t, h, n + 1, s, hs, k, h0, hk => by
    simp only [List.getElem?_cons_succ] at hs
    have := pack_at r f (t + a.2) h.2 n s hs k h0 hk
    rw [List.take_succ_cons, sumS_cons]
    rw [show t + (a.2 + sumS (r.take n)) = t + a.2 + sumS (r.take n) by omega]
    exact this
/-- The least extent from e on. -/
def leastL (e : Int) (z : Sp) (l : List Sp) : Sp := l.foldl (fun b s => if s.1 < b.1 ∧ e ≤ s.1 then s else b) z
theorem least_snoc (e : Int) (z : Sp) (l : List Sp) (s : Sp) : leastL e z (l ++ [s]) = if s.1 < (leastL e z l).1 ∧ e ≤ s.1 then s else leastL e z l := by
  unfold leastL
  rw [List.foldl_append]
  rfl
theorem least_mem (e : Int) (z : Sp) (l : List Sp) : leastL e z l = z ∨ (leastL e z l ∈ l ∧ e ≤ (leastL e z l).1) := by
  suffices h : ∀ (l : List Sp) (b : Sp), leastL e b l = b ∨ (leastL e b l ∈ l ∧ e ≤ (leastL e b l).1) from h l z
  intro l
  induction l with
  | nil => intro b; exact .inl rfl
  | cons s l ih =>
    intro b
    have e1 : leastL e b (s :: l) = leastL e (if s.1 < b.1 ∧ e ≤ s.1 then s else b) l := rfl
    rw [e1]
    by_cases hs : s.1 < b.1 ∧ e ≤ s.1
    · rw [if_pos hs]
      rcases ih s with h | h
      · right; rw [h]; exact ⟨List.mem_cons_self, hs.2⟩
      · exact .inr ⟨List.mem_cons_of_mem _ h.1, h.2⟩
    · rw [if_neg hs]
      rcases ih b with h | h
      · exact .inl h
      · exact .inr ⟨List.mem_cons_of_mem _ h.1, h.2⟩
theorem least_le (e : Int) : ∀ (l : List Sp) (b : Sp), (leastL e b l).1 ≤ b.1 ∧ ∀ s ∈ l, e ≤ s.1 → (leastL e b l).1 ≤ s.1
  | [], b => ⟨Int.le_refl _, fun s hs => by cases hs⟩
  | s :: l, b => by
    have e1 : leastL e b (s :: l) = leastL e (if s.1 < b.1 ∧ e ≤ s.1 then s else b) l := rfl
    rw [e1]
    obtain ⟨h1, h2⟩ := least_le e l (if s.1 < b.1 ∧ e ≤ s.1 then s else b)
    by_cases hs : s.1 < b.1 ∧ e ≤ s.1
    · rw [if_pos hs] at h1 h2 ⊢
      refine ⟨by omega, fun t ht he => ?_⟩
      rcases List.mem_cons.1 ht with rfl | ht
      · exact h1
      · exact h2 t ht he
    · rw [if_neg hs] at h1 h2 ⊢
      refine ⟨h1, fun t ht he => ?_⟩
      rcases List.mem_cons.1 ht with rfl | ht
      · omega
      · exact h2 t ht he
theorem chk_from (X : Ar) (l : List Sp) (b : Int) (hc : chkL X b l = true) (h1 : ∀ s ∈ l, 1 ≤ s.2) (n : Nat) : (∀ s ∈ l.take n, s.1 < endL b (l.take n)) ∧ ∀ s ∈ l.drop n, endL b (l.take n) ≤ s.1 := by
  induction n generalizing b l with
  | zero => exact ⟨fun s hs => by simp at hs, fun s hs => by
      rw [List.drop_zero] at hs
      exact (chk_fine X l b h1 hc).1 s hs⟩
  | succ n ih =>
    cases l with
    | nil => exact ⟨fun s hs => by simp at hs, fun s hs => by simp at hs⟩
    | cons a r =>
      simp only [chkL, Bool.and_eq_true, decide_eq_true_eq] at hc
      have h1r : ∀ s ∈ r, 1 ≤ s.2 := fun x hx => h1 x (List.mem_cons_of_mem _ hx)
      obtain ⟨g1, g2⟩ := ih r (a.1 + a.2) hc.2 h1r
      have ha := h1 a List.mem_cons_self
      have hle : a.1 + a.2 ≤ endL (a.1 + a.2) (r.take n) := by
        cases hr : r.take n with
        | nil => exact Int.le_refl _
        | cons x y =>
          have hx : x ∈ r.take n := by rw [hr]; exact List.mem_cons_self
          have h3 := g1 x hx
          have h4 := (chk_fine X r (a.1 + a.2) h1r hc.2).1 x (List.mem_of_mem_take hx)
          rw [hr] at h3
          omega
      refine ⟨fun s hs => ?_, fun s hs => ?_⟩
      · rw [List.take_succ_cons] at hs ⊢
        rcases List.mem_cons.1 hs with rfl | hs
        · show s.1 < endL (s.1 + s.2) (r.take n); omega
        · exact g1 s hs
      · rw [List.drop_succ_cons] at hs
        rw [List.take_succ_cons]
        exact g2 s hs
/-- The least that begins behind the first ones is the next. -/
theorem least_next (X : Ar) {l out : List Sp} (hp : l.Perm out) (hc : chkL X 0 l = true) (h1 : ∀ s ∈ l, 1 ≤ s.2) (z : Sp) (hz : ∀ s ∈ l, s.1 < z.1) {n : Nat} {s : Sp} (hs : l[n]? = some s) : leastL (endL 0 (l.take n)) z out = s := by
  obtain ⟨c1, c2⟩ := chk_from X l 0 hc h1 n
  have hsm := List.mem_of_getElem? hs
  have hsd : l.drop n = s :: l.drop (n + 1) := by
    obtain ⟨hn, e⟩ := List.getElem?_eq_some_iff.1 hs
    rw [List.drop_eq_getElem_cons hn, e]
  have hse : endL 0 (l.take n) ≤ s.1 := c2 s (by rw [hsd]; exact List.mem_cons_self)
  have hlater : ∀ t ∈ l, endL 0 (l.take n) ≤ t.1 → t = s ∨ s.1 < t.1 := fun t ht he => by
    rw [← List.take_append_drop n l] at ht
    rcases List.mem_append.1 ht with ht | ht
    · have := c1 t ht; omega
    · rw [hsd] at ht
      rcases List.mem_cons.1 ht with ht | ht
      · exact .inl ht
      · right
        have h2 := (chk_from X l 0 hc h1 (n + 1)).2 t ht
        have h3 : s ∈ l.take (n + 1) := by rw [List.take_add_one, hs]; simp
        have h4 := (chk_from X l 0 hc h1 (n + 1)).1 s h3
        omega
  obtain ⟨l1, l2⟩ := least_le (endL 0 (l.take n)) out z
  have hso := l2 s (hp.mem_iff.1 hsm) hse
  rcases least_mem (endL 0 (l.take n)) z out with h | ⟨h, he⟩
  · have := hz s hsm
    rw [h] at hso
    omega
  · rcases hlater _ (hp.mem_iff.2 h) he with h9 | h9
    · exact h9
    · omega
/-- A row of numbers. -/
def arrI (f : Int → Int) (sz : Nat) : Array Value := ((List.range sz).map fun (i : Nat) => Value.int .i64 (f (i : Int))).toArray
theorem arrI_size (f : Int → Int) (sz : Nat) : (arrI f sz).size = sz := by simp [arrI]
theorem arrI_at (f : Int → Int) (sz i : Nat) (h : i < sz) : (arrI f sz)[i]? = some (.int .i64 (f (i : Int))) := by simp [arrI, h]
theorem arrI_set (f : Int → Int) (sz i : Nat) (v : Int) : (arrI f sz).setIfInBounds i (.int .i64 v) = arrI (fun x => if x = (i : Int) then v else f x) sz := by
  apply Array.ext_getElem?
  intro j
  rw [Array.getElem?_setIfInBounds, arrI_size]
  by_cases hj : j < sz
  · rw [arrI_at _ _ _ hj, arrI_at _ _ _ hj]
    by_cases e : i = j
    · subst e; simp [hj]
    · rw [if_neg e, if_neg (by omega)]
  · rw [Array.getElem?_eq_none (by rw [arrI_size]; omega), Array.getElem?_eq_none (by rw [arrI_size]; omega)]
    split
    · next e => subst e; rw [if_neg hj]
    · rfl
end Go.Proofs.Ytgihdfmeokbplaa
