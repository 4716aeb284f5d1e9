/- Plain mathematics of names, paths and places. -/
namespace Go.Proofs.YtcmdcmbiilfngabDoor.Pt
/-- May this byte stand in a name? -/
def okN (n : Nat) : Bool := decide ((97 ≤ n ∧ n ≤ 122) ∨ (48 ≤ n ∧ n ≤ 57) ∨ n = 45 ∨ n = 95 ∨ n = 46)
/-- Could these bytes be a name, but for their kinds? -/
def headB (l : List UInt8) : Bool := decide (l ≠ [] ∧ l.length ≤ 12 ∧ l ≠ [46] ∧ l ≠ [46, 46])
def allB (l : List UInt8) : Bool := l.all fun c => okN c.toNat
def nameL (l : List UInt8) : Bool := headB l && allB l
/-- What stands between the slashes. -/
def cutL : List UInt8 → List (List UInt8)
  | [] => [[]]
  | c :: r => if c = 47 then [] :: cutL r else (match cutL r with | [] => [[c]] | h :: t => (c :: h) :: t)
def goodL (l : List UInt8) : Bool := decide (l.length ≤ 32) && (cutL l).all nameL
def placeL (l : List UInt8) : Bool := decide (l = []) || goodL l
def partsL (l : List UInt8) : List (List UInt8) := if goodL l = true then cutL l else []
/-- Names with slashes between them. -/
def glueL : List (List UInt8) → List UInt8
  | [] => []
  | [a] => a
  | a :: b :: r => a ++ 47 :: glueL (b :: r)
def aboveL (l : List UInt8) : List UInt8 := if goodL l = true then glueL (cutL l).dropLast else []
def preB (a b : List UInt8) : Bool := (a ++ [47]).isPrefixOf b
def coversL (a b : List UInt8) : Bool := placeL a && placeL b && (decide (a = []) || decide (a = b) || preB a b)
def meetL (a b : List UInt8) : List UInt8 × Bool := if coversL a b = true then (b, true) else if coversL b a = true then (a, true) else ([], false)
def movesB (p f t : List UInt8) : Bool := goodL p && goodL f && goodL t && coversL f p
def movedL (p f t : List UInt8) : List UInt8 × Nat := if movesB p f t = true then (if goodL (t ++ p.drop f.length) = true then (t ++ p.drop f.length, 0) else ([], 2)) else ([], 1)
def joinL (ls : List (List UInt8)) : List UInt8 × Nat := if ls = [] then ([], 1) else if ls.all nameL = true then (if (glueL ls).length ≤ 32 then (glueL ls, 0) else ([], 2)) else ([], 1)

theorem cutL_ne (l : List UInt8) : cutL l ≠ [] := by
  cases l with
  | nil => simp [cutL]
  | cons c r =>
    unfold cutL
    split
    · simp
    · split <;> simp
theorem cutL_cons {c : UInt8} (hc : c ≠ 47) {r h : List UInt8} {t : List (List UInt8)} (e : cutL r = h :: t) : cutL (c :: r) = (c :: h) :: t := by
  rw [cutL, if_neg hc, e]
theorem cutL_slash : ∀ (n : Nat) (l : List UInt8), (∀ j, j < n → l[j]? ≠ some 47) → l[n]? = some 47 → cutL l = l.take n :: cutL (l.drop (n + 1))
  | 0, l, _, hn => by
    cases l with
    | nil => simp at hn
    | cons c r => simp at hn; subst hn; simp [cutL]
  | n + 1, l, h, hn => by
    cases l with
    | nil => simp at hn
    | cons c r =>
      have hc : c ≠ 47 := by have := h 0 (by omega); simpa using this
      have ih := cutL_slash n r (fun j hj => by have := h (j + 1) (by omega); simpa using this) (by simpa using hn)
      rw [cutL_cons hc ih]
      simp
theorem cutL_none : ∀ l : List UInt8, (47 : UInt8) ∉ l → cutL l = [l]
  | [], _ => rfl
  | c :: r, h => by
    have hc : c ≠ 47 := fun e => h (by simp [e])
    rw [cutL_cons hc (cutL_none r (fun e => h (by simp [e])))]
theorem cutL_append (r : List UInt8) : ∀ a : List UInt8, cutL (a ++ 47 :: r) = cutL a ++ cutL r
  | [] => by simp [cutL]
  | c :: a => by
    have ih := cutL_append r a
    by_cases hc : c = 47
    · subst hc; simp [cutL, ih]
    · obtain ⟨x, t, e⟩ : ∃ x t, cutL a = x :: t := by
        cases h : cutL a with
        | nil => exact absurd h (cutL_ne a)
        | cons x t => exact ⟨x, t, rfl⟩
      rw [List.cons_append, cutL_cons hc (show cutL (a ++ 47 :: r) = x :: (t ++ cutL r) by rw [ih, e]; rfl), cutL_cons hc e]
      rfl
theorem glueL_cons (a : List UInt8) {r : List (List UInt8)} (hr : r ≠ []) : glueL (a :: r) = a ++ 47 :: glueL r := by
  cases r with
  | nil => exact absurd rfl hr
  | cons b r => rfl
theorem glue_cut : ∀ l : List UInt8, glueL (cutL l) = l
  | [] => rfl
  | c :: r => by
    have ih := glue_cut r
    by_cases hc : c = 47
    · subst hc
      rw [show cutL (47 :: r) = [] :: cutL r by simp [cutL], glueL_cons _ (cutL_ne r), ih]
      rfl
    · obtain ⟨x, t, e⟩ : ∃ x t, cutL r = x :: t := by
        cases h : cutL r with
        | nil => exact absurd h (cutL_ne r)
        | cons x t => exact ⟨x, t, rfl⟩
      rw [cutL_cons hc e]
      rw [e] at ih
      cases t with
      | nil => simp [glueL] at ih ⊢; exact ih
      | cons y t => simp [glueL] at ih ⊢; exact ih
theorem cut_glue : ∀ ls : List (List UInt8), ls ≠ [] → (∀ a ∈ ls, (47 : UInt8) ∉ a) → cutL (glueL ls) = ls
  | [], h, _ => absurd rfl h
  | [a], _, h => cutL_none a (h a (by simp))
  | a :: b :: r, _, h => by
    rw [glueL, cutL_append, cutL_none a (h a (by simp)), cut_glue (b :: r) (by simp) (fun x hx => h x (by simp at hx ⊢; exact .inr hx))]
    rfl
theorem glue_append : ∀ (a b : List (List UInt8)), a ≠ [] → b ≠ [] → glueL (a ++ b) = glueL a ++ 47 :: glueL b
  | [], _, h, _ => absurd rfl h
  | [a], b, _, hb => by rw [List.singleton_append, glueL_cons a hb]; rfl
  | a :: a' :: r, b, _, hb => by
    rw [List.cons_append, glueL_cons a (by simp), glue_append (a' :: r) b (by simp) hb, glueL_cons a (r := a' :: r) (by simp)]
    simp
def lenSum (ls : List (List UInt8)) : Nat := (ls.map List.length).sum
theorem glue_len : ∀ ls : List (List UInt8), ls ≠ [] → (glueL ls).length + 1 = ls.length + lenSum ls
  | [], h => absurd rfl h
  | [a], _ => by simp [glueL, lenSum]; omega
  | a :: b :: r, _ => by
    have ih := glue_len (b :: r) (by simp)
    rw [glueL_cons a (by simp)]
    simp only [lenSum, List.map_cons, List.sum_cons, List.length_append, List.length_cons] at ih ⊢
    omega
theorem name_noslash {l : List UInt8} (h : nameL l = true) : (47 : UInt8) ∉ l := by
  intro hm
  simp only [nameL, allB, Bool.and_eq_true, List.all_eq_true] at h
  have := h.2 _ hm
  exact absurd this (by decide)
theorem name_ne {l : List UInt8} (h : nameL l = true) : l ≠ [] := by
  simp only [nameL, headB, Bool.and_eq_true, decide_eq_true_eq] at h
  exact h.1.1
theorem name_le {l : List UInt8} (h : nameL l = true) : l.length ≤ 12 := by
  simp only [nameL, headB, Bool.and_eq_true, decide_eq_true_eq] at h
  exact h.1.2.1
theorem name_nil : nameL [] = false := by decide
theorem good_iff {l : List UInt8} : goodL l = true ↔ l.length ≤ 32 ∧ ∀ x ∈ cutL l, nameL x = true := by
  simp [goodL]
theorem good_nil : goodL [] = false := by decide
theorem good_ne {l : List UInt8} (h : goodL l = true) : l ≠ [] := by
  intro e; subst e; rw [good_nil] at h; cases h
theorem place_good {l : List UInt8} (h : goodL l = true) : placeL l = true := by simp [placeL, h]
theorem place_nil : placeL [] = true := by decide
theorem place_iff {l : List UInt8} : placeL l = true ↔ l = [] ∨ goodL l = true := by simp [placeL]
theorem pre_iff {a b : List UInt8} : preB a b = true ↔ ∃ r, b = a ++ 47 :: r := by
  rw [preB, List.isPrefixOf_iff_prefix]
  constructor
  · rintro ⟨r, rfl⟩; exact ⟨r, by simp⟩
  · rintro ⟨r, rfl⟩; exact ⟨r, by simp⟩
theorem covers_iff {a b : List UInt8} : coversL a b = true ↔ placeL a = true ∧ placeL b = true ∧ (a = [] ∨ a = b ∨ ∃ r, b = a ++ 47 :: r) := by
  simp only [coversL, Bool.and_eq_true, Bool.or_eq_true, decide_eq_true_eq, pre_iff, or_assoc, and_assoc]
theorem covers_trans {a b c : List UInt8} (h1 : coversL a b = true) (h2 : coversL b c = true) : coversL a c = true := by
  rw [covers_iff] at *
  obtain ⟨pa, pb, h1⟩ := h1
  obtain ⟨_, pc, h2⟩ := h2
  refine ⟨pa, pc, ?_⟩
  rcases h1 with rfl | rfl | ⟨r, rfl⟩
  · exact .inl rfl
  · exact h2
  · rcases h2 with h | rfl | ⟨s, rfl⟩
    · simp at h
    · exact .inr (.inr ⟨r, rfl⟩)
    · exact .inr (.inr ⟨r ++ 47 :: s, by simp⟩)
theorem covers_anti {a b : List UInt8} (h1 : coversL a b = true) (h2 : coversL b a = true) : a = b := by
  rw [covers_iff] at *
  obtain ⟨pa, pb, h1⟩ := h1
  obtain ⟨_, _, h2⟩ := h2
  rcases h1 with rfl | rfl | ⟨r, rfl⟩
  · rcases h2 with rfl | rfl | ⟨s, e⟩
    · rfl
    · rfl
    · simp at e
  · rfl
  · rcases h2 with h | h | ⟨s, e⟩
    · simp at h
    · exact h.symm
    · have := congrArg List.length e
      simp only [List.length_append, List.length_cons] at this
      omega
theorem covers_nil (a : List UInt8) : coversL [] a = placeL a := by
  simp [coversL, place_nil]
theorem covers_self (a : List UInt8) : coversL a a = placeL a := by
  simp [coversL]
theorem covers_place {a b : List UInt8} (h : coversL a b = true) : placeL a = true ∧ placeL b = true := by
  rw [covers_iff] at h
  exact ⟨h.1, h.2.1⟩
theorem covers_com {a b c : List UInt8} (h1 : coversL a c = true) (h2 : coversL b c = true) : coversL a b = true ∨ coversL b a = true := by
  rw [covers_iff] at h1 h2
  obtain ⟨pa, pc, h1⟩ := h1
  obtain ⟨pb, _, h2⟩ := h2
  rw [covers_iff, covers_iff]
  rcases h1 with rfl | rfl | ⟨r, rfl⟩
  · exact .inl ⟨pa, pb, .inl rfl⟩
  · exact .inr ⟨pb, pc, h2⟩
  · rcases h2 with rfl | rfl | ⟨s, e⟩
    · exact .inr ⟨pb, pa, .inl rfl⟩
    · exact .inl ⟨pa, pb, .inr (.inr ⟨r, rfl⟩)⟩
    · rcases List.append_eq_append_iff.1 e with ⟨t, rfl, e2⟩ | ⟨t, rfl, e2⟩
      · cases t with
        | nil => exact .inl ⟨pa, pb, .inr (.inl (by simp))⟩
        | cons x t =>
          simp at e2
          obtain ⟨rfl, _⟩ := e2
          exact .inl ⟨pa, pb, .inr (.inr ⟨t, rfl⟩)⟩
      · cases t with
        | nil => exact .inl ⟨pa, pb, .inr (.inl (by simp))⟩
        | cons x t =>
          simp at e2
          obtain ⟨rfl, _⟩ := e2
          exact .inr ⟨pb, pa, .inr (.inr ⟨t, rfl⟩)⟩
theorem meet_sym (a b : List UInt8) : meetL a b = meetL b a := by
  unfold meetL
  by_cases h1 : coversL a b = true
  · by_cases h2 : coversL b a = true
    · rw [if_pos h1, if_pos h2, covers_anti h1 h2]
    · rw [if_pos h1, if_neg h2, if_pos h1]
  · by_cases h2 : coversL b a = true
    · rw [if_neg h1, if_pos h2, if_pos h2]
    · rw [if_neg h1, if_neg h2, if_neg h2, if_neg h1]
theorem meet_covers {a b : List UInt8} (h : (meetL a b).2 = true) : coversL a (meetL a b).1 = true ∧ coversL b (meetL a b).1 = true := by
  unfold meetL at *
  by_cases h1 : coversL a b = true
  · rw [if_pos h1]
    exact ⟨h1, by rw [covers_self]; exact (covers_place h1).2⟩
  · rw [if_neg h1] at h ⊢
    by_cases h2 : coversL b a = true
    · rw [if_pos h2]
      exact ⟨by rw [covers_self]; exact (covers_place h2).2, h2⟩
    · rw [if_neg h2] at h; cases h
theorem meet_both {a b c : List UInt8} (h1 : coversL a c = true) (h2 : coversL b c = true) : (meetL a b).2 = true ∧ coversL (meetL a b).1 c = true := by
  unfold meetL
  by_cases h : coversL a b = true
  · rw [if_pos h]; exact ⟨rfl, h2⟩
  · rw [if_neg h]
    rcases covers_com h1 h2 with h3 | h3
    · exact absurd h3 h
    · rw [if_pos h3]; exact ⟨rfl, h1⟩

/-- The document's word for covering: name by name. -/
theorem covers_parts {a b : List UInt8} (ha : goodL a = true) (hb : placeL b = true) : coversL a b = (partsL a).isPrefixOf (partsL b) := by
  rw [Bool.eq_iff_iff, covers_iff, List.isPrefixOf_iff_prefix]
  rw [show partsL a = cutL a by simp [partsL, ha]]
  constructor
  · rintro ⟨_, _, h | rfl | ⟨r, rfl⟩⟩
    · exact absurd h (good_ne ha)
    · rw [show partsL a = cutL a by simp [partsL, ha]]; exact List.prefix_refl _
    · have hg : goodL (a ++ 47 :: r) = true := by
        rcases place_iff.1 hb with h | h
        · simp at h
        · exact h
      rw [show partsL (a ++ 47 :: r) = cutL (a ++ 47 :: r) by simp [partsL, hg], cutL_append]
      exact List.prefix_append _ _
  · rintro ⟨t, e⟩
    refine ⟨place_good ha, hb, ?_⟩
    have hg : goodL b = true := by
      rcases place_iff.1 hb with rfl | h
      · simp [partsL, good_nil] at e
        exact absurd e.1 (cutL_ne a)
      · exact h
    rw [show partsL b = cutL b by simp [partsL, hg]] at e
    have e2 := congrArg glueL e
    rw [glue_cut] at e2
    cases t with
    | nil => rw [List.append_nil, glue_cut] at e2; exact .inr (.inl e2)
    | cons x t =>
      rw [glue_append _ _ (cutL_ne a) (by simp), glue_cut] at e2
      exact .inr (.inr ⟨_, e2.symm⟩)

/-- What stands behind a path that covers. -/
theorem covers_rest {f p : List UInt8} (hf : goodL f = true) (h : coversL f p = true) : p = f ∨ ∃ r, p = f ++ 47 :: r := by
  rw [covers_iff] at h
  rcases h.2.2 with e | e | e
  · exact absurd e (good_ne hf)
  · exact .inl e.symm
  · exact .inr e
theorem good_app {f r : List UInt8} : goodL (f ++ 47 :: r) = true ↔ (f ++ 47 :: r).length ≤ 32 ∧ (∀ x ∈ cutL f, nameL x = true) ∧ ∀ x ∈ cutL r, nameL x = true := by
  rw [good_iff, cutL_append]
  constructor
  · rintro ⟨h1, h2⟩; exact ⟨h1, fun x hx => h2 x (by simp [hx]), fun x hx => h2 x (by simp [hx])⟩
  · rintro ⟨h1, h2, h3⟩
    refine ⟨h1, fun x hx => ?_⟩
    rcases List.mem_append.1 hx with h | h
    · exact h2 x h
    · exact h3 x h
theorem moves_iff {p f t : List UInt8} : movesB p f t = true ↔ goodL p = true ∧ goodL f = true ∧ goodL t = true ∧ coversL f p = true := by
  simp [movesB, and_assoc]
/-- The document's word for what has moved: names behind names. -/
theorem moved_names {p f t : List UInt8} (h : movesB p f t = true) : glueL (partsL t ++ (partsL p).drop (partsL f).length) = t ++ p.drop f.length ∧ (goodL (t ++ p.drop f.length) = true ↔ (t ++ p.drop f.length).length ≤ 32) := by
  obtain ⟨hp, hf, ht, hc⟩ := moves_iff.1 h
  rw [show partsL t = cutL t by simp [partsL, ht], show partsL p = cutL p by simp [partsL, hp], show partsL f = cutL f by simp [partsL, hf]]
  rcases covers_rest hf hc with rfl | ⟨r, rfl⟩
  · simp only [List.drop_length, List.append_nil]
    exact ⟨glue_cut t, ⟨fun h => (good_iff.1 h).1, fun _ => ht⟩⟩
  · rw [cutL_append, List.drop_left, List.drop_left, glue_append _ _ (cutL_ne t) (cutL_ne r), glue_cut, glue_cut]
    refine ⟨rfl, ⟨fun h => (good_iff.1 h).1, fun h => good_app.2 ⟨h, (good_iff.1 ht).2, (good_app.1 hp).2.2⟩⟩⟩
theorem moved_back {p f t q : List UInt8} (h : movedL p f t = (q, 0)) : movedL q t f = (p, 0) ∧ coversL t q = true ∧ goodL q = true ∧ goodL p = true ∧ goodL f = true ∧ goodL t = true ∧ (cutL q).length + (cutL f).length = (cutL p).length + (cutL t).length := by
  unfold movedL at h
  split at h
  · rename_i hm
    obtain ⟨hp, hf, ht, hc⟩ := moves_iff.1 hm
    split at h
    · rename_i hg
      simp only [Prod.mk.injEq, and_true] at h
      subst h
      have hcov : coversL t (t ++ p.drop f.length) = true := by
        rw [covers_iff]
        refine ⟨place_good ht, place_good hg, .inr ?_⟩
        rcases covers_rest hf hc with rfl | ⟨r, rfl⟩
        · exact .inl (by simp)
        · exact .inr ⟨r, by simp⟩
      have hb : f ++ (t ++ p.drop f.length).drop t.length = p := by
        rw [List.drop_left]
        rcases covers_rest hf hc with rfl | ⟨r, rfl⟩
        · simp
        · simp
      have hlen : (cutL (t ++ p.drop f.length)).length + (cutL f).length = (cutL p).length + (cutL t).length := by
        rcases covers_rest hf hc with rfl | ⟨r, rfl⟩
        · simp; omega
        · rw [List.drop_left, cutL_append, cutL_append]; simp; omega
      refine ⟨?_, hcov, hg, hp, hf, ht, hlen⟩
      rw [movedL, if_pos (moves_iff.2 ⟨hg, ht, hf, hcov⟩), hb, if_pos hp]
    · simp at h
  · simp at h
theorem moved_bad {p f t q : List UInt8} {e : Nat} (h : movedL p f t = (q, e)) (he : e ≠ 0) : q = [] := by
  unfold movedL at h
  split at h
  · split at h
    · simp only [Prod.mk.injEq] at h; exact absurd h.2.symm he
    · simp only [Prod.mk.injEq] at h; exact h.1.symm
  · simp only [Prod.mk.injEq] at h; exact h.1.symm
theorem moved_err (p f t : List UInt8) : (movedL p f t).2 ≤ 2 := by
  unfold movedL
  split
  · split <;> simp
  · simp

/-- What is above a path. -/
theorem glue_take_good {p : List UInt8} (hp : goodL p = true) (k : Nat) (h0 : 0 < k) : goodL (glueL ((cutL p).take k)) = true ∧ cutL (glueL ((cutL p).take k)) = (cutL p).take k := by
  have hn := (good_iff.1 hp).2
  have hne : (cutL p).take k ≠ [] := by
    intro e
    have := congrArg List.length e
    have hl := List.length_pos_iff.2 (cutL_ne p)
    rw [List.length_take, List.length_nil] at this
    omega
  have hc := cut_glue ((cutL p).take k) hne (fun a ha => name_noslash (hn a (List.mem_of_mem_take ha)))
  refine ⟨good_iff.2 ⟨?_, ?_⟩, hc⟩
  · by_cases hk : (cutL p).drop k = []
    · have : (cutL p).take k = cutL p := by
        have := List.take_append_drop k (cutL p); rw [hk, List.append_nil] at this; exact this
      rw [this, glue_cut]; exact (good_iff.1 hp).1
    · have e := glue_append ((cutL p).take k) ((cutL p).drop k) hne hk
      rw [List.take_append_drop, glue_cut] at e
      have := congrArg List.length e
      have h32 := (good_iff.1 hp).1
      simp at this
      omega
  · intro x hx
    rw [hc] at hx
    exact hn x (List.mem_of_mem_take hx)
theorem glue_take_covers {p : List UInt8} (hp : goodL p = true) (k : Nat) : coversL (glueL ((cutL p).take k)) p = true := by
  by_cases h0 : k = 0
  · subst h0
    rw [List.take_zero, show glueL [] = [] from rfl, covers_nil]; exact place_good hp
  · obtain ⟨hg, hc⟩ := glue_take_good hp k (by omega)
    rw [covers_parts hg (place_good hp), List.isPrefixOf_iff_prefix, partsL, if_pos hg, hc, partsL, if_pos hp]
    exact List.take_prefix _ _
theorem above_take {p : List UInt8} (hp : goodL p = true) (k : Nat) (hk : k + 1 ≤ (cutL p).length) : aboveL (glueL ((cutL p).take (k + 1))) = glueL ((cutL p).take k) := by
  obtain ⟨hg, hc⟩ := glue_take_good hp (k + 1) (by omega)
  rw [aboveL, if_pos hg, hc, List.dropLast_eq_take, List.take_take, List.length_take]
  congr 2
  omega
theorem glue_take_nil {p : List UInt8} (hp : goodL p = true) (k : Nat) : glueL ((cutL p).take k) = [] ↔ k = 0 := by
  constructor
  · intro e
    by_cases h0 : k = 0
    · exact h0
    · exact absurd e (good_ne (glue_take_good hp k (by omega)).1)
  · rintro rfl; rfl
theorem cut_count (l : List UInt8) : (cutL l).length ≤ l.length + 1 := by
  induction l with
  | nil => simp [cutL]
  | cons c r ih =>
    by_cases hc : c = 47
    · subst hc; simp [cutL]; exact ih
    · obtain ⟨x, t, e⟩ : ∃ x t, cutL r = x :: t := by
        cases h : cutL r with
        | nil => exact absurd h (cutL_ne r)
        | cons x t => exact ⟨x, t, rfl⟩
      rw [cutL_cons hc e]
      rw [e] at ih
      simp at ih ⊢; omega
theorem cut_sizes (l : List UInt8) (x : List UInt8) (h : x ∈ cutL l) : x.length ≤ l.length := by
  induction l generalizing x with
  | nil => simp [cutL] at h; simp [h]
  | cons c r ih =>
    by_cases hc : c = 47
    · subst hc
      simp [cutL] at h
      rcases h with rfl | h
      · simp
      · have := ih x h; simp; omega
    · obtain ⟨y, t, e⟩ : ∃ x t, cutL r = x :: t := by
        cases h : cutL r with
        | nil => exact absurd h (cutL_ne r)
        | cons x t => exact ⟨x, t, rfl⟩
      rw [cutL_cons hc e] at h
      rw [e] at ih
      simp at h
      rcases h with rfl | h
      · have := ih y (by simp); simp; omega
      · have := ih x (by simp [h]); simp; omega
/-- What is above, by the last slash. -/
theorem above_slash {l : List UInt8} (hl : goodL l = true) (n : Nat) (hn : l[n]? = some 47) (h : ∀ j, n < j → l[j]? ≠ some 47) : aboveL l = l.take n := by
  have hlt : n < l.length := by
    rcases Nat.lt_or_ge n l.length with h | h
    · exact h
    · rw [List.getElem?_eq_none h] at hn; cases hn
  have e : l = l.take n ++ 47 :: l.drop (n + 1) := by
    have h1 := List.take_append_drop n l
    rw [List.drop_eq_getElem_cons hlt] at h1
    rw [List.getElem?_eq_getElem hlt, Option.some.injEq] at hn
    rw [hn] at h1; exact h1.symm
  have hno : (47 : UInt8) ∉ l.drop (n + 1) := by
    intro hm
    obtain ⟨j, hj, hje⟩ := List.getElem_of_mem hm
    have h2 := h (n + 1 + j) (by omega)
    rw [List.getElem_drop] at hje
    have hj2 : n + 1 + j < l.length := by simp at hj; omega
    rw [List.getElem?_eq_getElem hj2, hje] at h2
    exact h2 rfl
  rw [aboveL, if_pos hl]
  have hc := cutL_append (l.drop (n + 1)) (l.take n)
  rw [← e, cutL_none _ hno] at hc
  rw [hc, List.dropLast_concat, glue_cut]
theorem above_one {l : List UInt8} (hl : goodL l = true) (h : ∀ j : Nat, l[j]? ≠ some 47) : aboveL l = [] := by
  have hno : (47 : UInt8) ∉ l := by
    intro hm
    obtain ⟨j, hj, hje⟩ := List.getElem_of_mem hm
    exact h j (by rw [List.getElem?_eq_getElem hj, hje])
  rw [aboveL, if_pos hl, cutL_none l hno]
  rfl
theorem join_parts (p : List UInt8) (h : goodL p = true) : joinL (partsL p) = (p, 0) := by
  rw [partsL, if_pos h, joinL, if_neg (cutL_ne p), if_pos (by rw [List.all_eq_true]; exact (good_iff.1 h).2), glue_cut, if_pos (good_iff.1 h).1]
theorem join_none (p : List UInt8) (h : goodL p = false) : joinL (partsL p) = ([], 1) := by
  rw [partsL, if_neg (by simp [h])]; rfl
end Go.Proofs.YtcmdcmbiilfngabDoor.Pt
