/- A table of contents beside the document's list of them: nothing of the program. -/
import Derived.Test.YtjpkngbjjgimjaaDoorKV
namespace Go.Proofs.YtjpkngbjjgimjaaDoor
open Go.RowKit
/-- A table has just the contents of a list, each with its digest. -/
structure Doc (W k : Nat) (T : List Pr) (L : List Cn) : Prop where
  tb : Tb W k T
  mem : ∀ c, In W k T c ↔ c ∈ L
  dig : ∀ c ∈ L, c.sum = digW W c.data
  two : L.Pairwise fun a b => a.data ≠ b.data ∧ ixOf a ≠ ixOf b
theorem sum_ext {α : Type} (f : α → Nat) : ∀ {A B : List α}, A.Nodup → B.Nodup → (∀ x, x ∈ A ↔ x ∈ B) → (A.map f).sum = (B.map f).sum
  | [], B, _, _, h => by
    cases B with
    | nil => rfl
    | cons b B => exact absurd ((h b).2 (List.mem_cons_self ..)) (by simp)
  | a :: A, B, hA, hB, h => by
    obtain ⟨B1, B2, rfl⟩ := List.append_of_mem ((h a).1 (List.mem_cons_self ..))
    rw [List.nodup_cons] at hA
    rw [List.nodup_append] at hB
    obtain ⟨n1, n2, n3⟩ := hB
    rw [List.nodup_cons] at n2
    have ih := sum_ext f (A := A) (B := B1 ++ B2) hA.2 (List.nodup_append.2 ⟨n1, n2.2, fun x hx y hy => n3 x hx y (List.mem_cons_of_mem _ hy)⟩) (fun x => by
      constructor
      · intro hx
        have := (h x).1 (List.mem_cons_of_mem _ hx)
        rcases List.mem_append.1 this with h1 | h1
        · exact List.mem_append_left _ h1
        · rcases List.mem_cons.1 h1 with h2 | h2
          · subst h2
            exact absurd hx hA.1
          · exact List.mem_append_right _ h2
      · intro hx
        have hx2 : x ∈ B1 ++ a :: B2 := by
          rcases List.mem_append.1 hx with h1 | h1
          · exact List.mem_append_left _ h1
          · exact List.mem_append_right _ (List.mem_cons_of_mem _ h1)
        rcases List.mem_cons.1 ((h x).2 hx2) with h2 | h2
        · subst h2
          exfalso
          rcases List.mem_append.1 hx with h1 | h1
          · exact n3 x h1 x (List.mem_cons_self ..) rfl
          · exact n2.1 h1
        · exact h2)
    simp only [List.map_cons, List.sum_cons, List.map_append, List.sum_append] at ih ⊢
    omega
section
variable {W k : Nat} {T : List Pr} {L : List Cn}
theorem Doc.nil (W k : Nat) (hk : k ≤ 80000) : Doc W k [] [] := ⟨Tb.nil W k hk, fun _ => ⟨(fun h => nomatch h.1), (fun h => nomatch h)⟩, (fun _ h => nomatch h), List.Pairwise.nil⟩
theorem Doc.nodup (h : Doc W k T L) : L.Nodup := h.two.imp fun h e => h.1 (by rw [e])
theorem Doc.id (h : Doc W k T L) {c d : Cn} (hc : c ∈ L) (hd : d ∈ L) (e : ixOf c = ixOf d) : c = d := In.id h.tb ((h.mem c).2 hc) ((h.mem d).2 hd) e
theorem pw_eq {α : Type} {R : α → α → Prop} (hs : ∀ a b, R a b → R b a) : ∀ {l : List α}, l.Pairwise R → ∀ {a b : α}, a ∈ l → b ∈ l → ¬ R a b → a = b
  | [], _, a, _, ha, _, _ => by cases ha
  | x :: l, h, a, b, ha, hb, hr => by
    rw [List.pairwise_cons] at h
    rcases List.mem_cons.1 ha with ha1 | ha1
    · rcases List.mem_cons.1 hb with hb1 | hb1
      · rw [ha1, hb1]
      · subst ha1
        exact absurd (h.1 b hb1) hr
    · rcases List.mem_cons.1 hb with hb1 | hb1
      · subst hb1
        exact absurd (hs _ _ (h.1 a ha1)) hr
      · exact pw_eq hs h.2 ha1 hb1 hr
theorem Doc.data (h : Doc W k T L) {c d : Cn} (hc : c ∈ L) (hd : d ∈ L) (e : c.data = d.data) : c = d :=
  pw_eq (R := fun a b : Cn => a.data ≠ b.data ∧ ixOf a ≠ ixOf b) (fun _ _ h => ⟨h.1.symm, h.2.symm⟩) h.two hc hd (fun h => h.1 e)
theorem consT_mem (h : Tb W k T) (c : Cn) : c ∈ consT W T ↔ In W k T c := by
  unfold consT
  rw [List.mem_filterMap]
  constructor
  · rintro ⟨p, hp, hq⟩
    obtain ⟨d, rfl, hok⟩ := h.each p hp
    rw [hok.parse h.small] at hq
    obtain rfl := Option.some.inj hq
    exact ⟨hp, hok⟩
  · rintro ⟨h1, h2⟩
    exact ⟨_, h1, h2.parse h.small⟩
theorem consT_nodup (h : Tb W k T) : (consT W T).Nodup := by
  unfold consT List.Nodup
  rw [List.pairwise_filterMap]
  refine List.Pairwise.imp_of_mem ?_ h.rise
  intro p q hp hq hlt a ha b hb e
  obtain ⟨c, rfl, hok⟩ := h.each p hp
  obtain ⟨d, rfl, hod⟩ := h.each q hq
  rw [hok.parse h.small] at ha
  rw [hod.parse h.small] at hb
  obtain rfl := Option.some.inj ha
  obtain rfl := Option.some.inj hb
  subst e
  rw [sl_irr] at hlt
  cases hlt
/-- What Count tells. -/
theorem Doc.count (h : Doc W k T L) : (allC W T).length = L.length ∧ dataSum (allC W T) = dataSum L := by
  have hm : ∀ c, c ∈ consT W T ↔ c ∈ L := fun c => (consT_mem h.tb c).trans (h.mem c)
  rw [h.tb.all]
  refine ⟨?_, sum_ext (fun c : Cn => c.data.size) (consT_nodup h.tb) h.nodup hm⟩
  have := sum_ext (fun _ : Cn => 1) (consT_nodup h.tb) h.nodup hm
  have e : ∀ l : List Cn, (l.map fun _ => 1).sum = l.length := fun l => by induction l with
    | nil => rfl
    | cons x l ih => simp only [List.map_cons, List.sum_cons, List.length_cons, ih]; omega
  rw [e, e] at this
  exact this
theorem Doc.len (h : Doc W k T L) : L.length ≤ k := by
  have h1 := h.count.1
  rw [h.tb.all, h.tb.sz.1] at h1
  have := h.tb.few
  omega
/-- Where an ID stands. -/
def atF (L : List Cn) (s : ByteArray) (n : Int) : Option Nat := L.findIdx? fun c => decide (c.sum = s ∧ (c.n : Int) = n)
theorem at_some {s : ByteArray} {n : Int} {i : Nat} (h : atF L s n = some i) : ∃ c, L[i]? = some c ∧ c.sum = s ∧ (c.n : Int) = n := by
  unfold atF at h
  rw [List.findIdx?_eq_some_iff_getElem] at h
  obtain ⟨hi, h1, _⟩ := h
  have := of_decide_eq_true h1
  exact ⟨_, List.getElem?_eq_getElem hi, this.1, this.2⟩
theorem at_none {s : ByteArray} {n : Int} (h : atF L s n = none) : ∀ c ∈ L, ¬ (c.sum = s ∧ (c.n : Int) = n) := by
  unfold atF at h
  rw [List.findIdx?_eq_none_iff] at h
  exact fun c hc => of_decide_eq_false (h c hc)
theorem at_mk {s : ByteArray} {n : Int} {i : Nat} {c : Cn} (h1 : L[i]? = some c) (h2 : c.sum = s ∧ (c.n : Int) = n) (h3 : ∀ j, j < i → ∀ d, L[j]? = some d → ¬ (d.sum = s ∧ (d.n : Int) = n)) : atF L s n = some i := by
  unfold atF
  rw [List.findIdx?_eq_some_iff_getElem]
  obtain ⟨hi, e⟩ := List.getElem?_eq_some_iff.1 h1
  refine ⟨hi, by rw [e]; exact decide_eq_true h2, fun j hj => ?_⟩
  have := h3 j hj _ (List.getElem?_eq_getElem (by omega))
  simpa using this
theorem at_no {s : ByteArray} {n : Int} (h : ∀ c ∈ L, ¬ (c.sum = s ∧ (c.n : Int) = n)) : atF L s n = none := by
  unfold atF
  rw [List.findIdx?_eq_none_iff]
  exact fun c hc => decide_eq_false (h c hc)
/-- What an ID tells. -/
theorem Doc.look (h : Doc W k T L) (s : ByteArray) (n : Int) : lookF W T s n = (atF L s n).bind fun i => L[i]? := by
  cases ha : atF L s n with
  | none =>
    cases hl : lookF W T s n with
    | none => rfl
    | some c =>
      obtain ⟨h1, h2, h3⟩ := look_in h.tb hl
      exact absurd ⟨h2, h3⟩ (at_none ha c ((h.mem c).1 h1))
  | some i =>
    obtain ⟨c, hc, h2, h3⟩ := at_some ha
    have hin := (h.mem c).2 (List.mem_of_getElem? hc)
    have := h.tb.look hin.1 hin.2
    rw [h2, h3] at this
    rw [this]
    exact hc.symm
/-- A list of contents one of which has so many references, or goes. -/
def withL (L : List Cn) (i r : Nat) : List Cn := match L[i]? with
  | some c => L.take i ++ (if 0 < r then [{ c with refs := r }] else []) ++ L.drop (i + 1)
  | none => L
theorem withL_mem {i r : Nat} {c : Cn} (hn : L.Nodup) (hc : L[i]? = some c) (d : Cn) : d ∈ withL L i r ↔ (0 < r ∧ d = { c with refs := r }) ∨ (d ∈ L ∧ d ≠ c) := by
  unfold withL
  rw [hc]
  simp only
  have hl := list_at hc
  have hmem : d ∈ L ↔ d ∈ L.take i ∨ d = c ∨ d ∈ L.drop (i + 1) := by
    have e : d ∈ L ↔ d ∈ L.take i ++ c :: L.drop (i + 1) := by rw [← hl]
    rw [e, List.mem_append, List.mem_cons]
  have hnd : (L.take i ++ c :: L.drop (i + 1)).Nodup := by rw [← hl]; exact hn
  rw [List.nodup_append] at hnd
  obtain ⟨_, n2, n3⟩ := hnd
  rw [List.nodup_cons] at n2
  rw [List.mem_append, List.mem_append, hmem]
  constructor
  · rintro ((h1 | h1) | h1)
    · exact .inr ⟨.inl h1, fun e => n3 d h1 c (List.mem_cons_self ..) e⟩
    · split at h1
      · rename_i hr
        simp only [List.mem_cons, List.not_mem_nil, or_false] at h1
        exact .inl ⟨hr, h1⟩
      · cases h1
    · exact .inr ⟨.inr (.inr h1), fun e => by subst e; exact n2.1 h1⟩
  · rintro (⟨hr, h1⟩ | ⟨h1 | h1 | h1, h2⟩)
    · rw [if_pos hr]
      exact .inl (.inr (by simp [h1]))
    · exact .inl (.inl h1)
    · exact absurd h1 h2
    · exact .inr h1
theorem withL_two {i r : Nat} {c : Cn} (h : L.Pairwise fun a b => a.data ≠ b.data ∧ ixOf a ≠ ixOf b) (hc : L[i]? = some c) : (withL L i r).Pairwise fun a b => a.data ≠ b.data ∧ ixOf a ≠ ixOf b := by
  unfold withL
  rw [hc]
  simp only
  have hl := list_at hc
  rw [hl] at h
  rw [List.pairwise_append, List.pairwise_cons] at h
  obtain ⟨h1, ⟨h2, h3⟩, h4⟩ := h
  rw [List.pairwise_append, List.pairwise_append]
  have key : ∀ x ∈ (if 0 < r then [{ c with refs := r }] else [] : List Cn), x.data = c.data ∧ ixOf x = ixOf c := fun x hx => by
    split at hx
    · simp only [List.mem_cons, List.not_mem_nil, or_false] at hx
      subst hx
      exact ⟨rfl, rfl⟩
    · cases hx
  refine ⟨⟨h1, by split <;> simp, fun a ha b hb => ?_⟩, h3, fun a ha b hb => ?_⟩
  · rw [(key b hb).1, (key b hb).2]
    exact h4 a ha c (List.mem_cons_self ..)
  · rcases List.mem_append.1 ha with ha | ha
    · exact h4 a ha b (List.mem_cons_of_mem _ hb)
    · rw [(key a ha).1, (key a ha).2]
      exact h2 b hb
/-- A content gets other references. -/
theorem Doc.set (h : Doc W k T L) {i r : Nat} {c : Cn} (hc : L[i]? = some c) (hr : 0 < r) (hrk : r ≤ k) : Doc W k (putT T (keyB c.sum c.n) (valB r c.data)) (withL L i r) := by
  have hcL := List.mem_of_getElem? hc
  have hin := (h.mem c).2 hcL
  have hok : OkC W k { c with refs := r } := ⟨hin.2.1, hin.2.2.1, hr, hrk, hin.2.2.2.2.2⟩
  refine ⟨h.tb.set (c := { c with refs := r }) hok (.inl (get_mem h.tb.rise hin.1).1), fun d => ?_, fun d hd => ?_, withL_two h.two hc⟩
  · rw [in_set (c := { c with refs := r }) h.tb hok d, withL_mem h.nodup hc d, h.mem d]
    constructor
    · rintro (e | ⟨h1, h2⟩)
      · exact .inl ⟨hr, e⟩
      · exact .inr ⟨h1, fun e => h2 (by rw [e]; rfl)⟩
    · rintro (⟨_, e⟩ | ⟨h1, h2⟩)
      · exact .inl e
      · exact .inr ⟨h1, fun e => h2 (h.id h1 hcL e)⟩
  · rcases (withL_mem h.nodup hc d).1 hd with ⟨_, e⟩ | ⟨h1, _⟩
    · rw [e]
      exact h.dig c hcL
    · exact h.dig d h1
theorem Doc.drop (h : Doc W k T L) {i : Nat} {c : Cn} (hc : L[i]? = some c) : Doc W k (dropT T (keyB c.sum c.n)) (withL L i 0) := by
  have hcL := List.mem_of_getElem? hc
  have hin := (h.mem c).2 hcL
  refine ⟨h.tb.drop _, fun d => ?_, fun d hd => ?_, withL_two h.two hc⟩
  · rw [in_drop h.tb hin.2 d, withL_mem h.nodup hc d, h.mem d]
    constructor
    · rintro ⟨h1, h2⟩
      exact .inr ⟨h1, fun e => h2 (by rw [e])⟩
    · rintro (⟨h1, _⟩ | ⟨h1, h2⟩)
      · exact absurd h1 (by omega)
      · exact ⟨h1, fun e => h2 (h.id h1 hcL e)⟩
  · rcases (withL_mem h.nodup hc d).1 hd with ⟨h1, _⟩ | ⟨h1, _⟩
    · exact absurd h1 (by omega)
    · exact h.dig d h1
theorem Doc.up {k' : Nat} (h : Doc W k T L) (hk : k ≤ k') (hs : k' ≤ 80000) : Doc W k' T L := ⟨h.tb.mono hk hs, fun c => (In.up h.tb hk hs).trans (h.mem c), h.dig, h.two⟩
/-- A new content. -/
theorem Doc.add (h : Doc W k T L) {c : Cn} (hok : OkC W k c) (hl : T.length < k) (hd : c.sum = digW W c.data) (h1 : ∀ d ∈ L, d.data ≠ c.data) (h2 : ∀ d ∈ L, ixOf d ≠ ixOf c) : Doc W k (putT T (keyB c.sum c.n) (valB c.refs c.data)) (L ++ [c]) := by
  refine ⟨h.tb.set hok (.inr hl), fun d => ?_, fun d hd' => ?_, ?_⟩
  · rw [in_set h.tb hok d, h.mem d, List.mem_append]
    constructor
    · rintro (e | ⟨e, _⟩)
      · exact .inr (by simp [e])
      · exact .inl e
    · rintro (e | e)
      · exact .inr ⟨e, h2 d e⟩
      · exact .inl (by simpa using e)
  · rcases List.mem_append.1 hd' with e | e
    · exact h.dig d e
    · have : d = c := by simpa using e
      rw [this]
      exact hd
  · rw [List.pairwise_append]
    refine ⟨h.two, by simp, fun a ha b hb => ?_⟩
    have : b = c := by simpa using hb
    subst this
    exact ⟨h1 a ha, h2 a ha⟩
/-- The first place of a text's bytes. -/
def datF (L : List Cn) (data : ByteArray) : Option Nat := L.findIdx? fun c => decide (c.data = data)
theorem named_low (data : ByteArray) : ∀ (l : List Cn) (f : Cn), (∀ c ∈ l, c.data ≠ data) → (l.Pairwise fun a b => a.n < b.n) → (∀ c ∈ l, f.n ≤ c.n) → ∀ j, f.n ≤ j → j < (namedL data l f).n → ∃ c ∈ l, c.n = j
  | [], f, _, _, _, j, h1, h2 => by
    have : (namedL data [] f).n = f.n := rfl
    omega
  | c :: l, f, h, hp, hn, j, h1, h2 => by
    obtain ⟨hp1, hp2⟩ := List.pairwise_cons.1 hp
    have hd := fun x hx => h x (List.mem_cons_of_mem c hx)
    unfold namedL at h2
    rw [if_neg (h c (List.mem_cons_self ..))] at h2
    by_cases he : c.n = f.n
    · rw [if_pos he] at h2
      by_cases hj : j = f.n
      · exact ⟨c, List.mem_cons_self .., by omega⟩
      · obtain ⟨d, hd1, hd2⟩ := named_low data l { f with n := f.n + 1 } hd hp2 (fun x hx => by have := hp1 x hx; show f.n + 1 ≤ x.n; omega) j (by show f.n + 1 ≤ j; omega) h2
        exact ⟨d, List.mem_cons_of_mem _ hd1, hd2⟩
    · rw [if_neg he] at h2
      have hc1 := hn c (List.mem_cons_self ..)
      rw [named_stay data l f hd (fun x hx => by have := hp1 x hx; omega)] at h2
      omega
/-- Bytes that aren't there: the number of their content is the least that is free. -/
theorem Doc.named (h : Doc W k T L) (hW : W ≤ 32) {data : ByteArray} (hno : ∀ c ∈ L, c.data ≠ data) : ∃ m, namedF W T data = ⟨digW W data, m, 0, data⟩ ∧ m ≤ T.length ∧ (∀ c ∈ L, ¬ (c.sum = digW W data ∧ c.n = m)) ∧ ∀ j, j < m → ∃ c ∈ L, c.sum = digW W data ∧ c.n = j := by
  have hs := digW_size W hW data
  have hnt : ¬ There W T data := by
    rintro ⟨c, hc, e⟩
    obtain ⟨h1, h2, _⟩ := (h.tb.mem hs c).1 hc
    exact hno c ((h.mem c).1 ⟨h1, h2⟩) e
  have hal : ∀ c ∈ alikeL W T (digW W data), c ∈ L ∧ c.sum = digW W data := fun c hc => by
    obtain ⟨h1, h2, h3⟩ := (h.tb.mem hs c).1 hc
    exact ⟨(h.mem c).1 ⟨h1, h2⟩, h3⟩
  obtain ⟨m, e1, e2, e3, e4⟩ := named_new data (alikeL W T (digW W data)) ⟨digW W data, 0, 0, data⟩ (fun c hc hd => hnt ⟨c, hc, hd⟩) (fun c _ => Nat.zero_le _) (h.tb.nums hs)
  have h5 := alike_len W T (digW W data)
  have e1' : namedF W T data = ⟨digW W data, m, 0, data⟩ := e1
  refine ⟨m, e1', by have : m ≤ 0 + (alikeL W T (digW W data)).length := e3; omega, fun c hc hh => ?_, fun j hj => ?_⟩
  · have hin := (h.mem c).2 hc
    exact e4 c ((h.tb.mem hs c).2 ⟨hin.1, hin.2, hh.1⟩) hh.2
  · obtain ⟨c, hc, hn⟩ := named_low data (alikeL W T (digW W data)) ⟨digW W data, 0, 0, data⟩ (fun c hc => hno c (hal c hc).1) (h.tb.nums hs) (fun c _ => Nat.zero_le _) j (Nat.zero_le _) (by
      have : (namedL data (alikeL W T (digW W data)) ⟨digW W data, 0, 0, data⟩).n = m := by rw [e1]
      omega)
    exact ⟨c, (hal c hc).1, (hal c hc).2, hn⟩
/-- The IDs of a digest, by their numbers. -/
def idsF (L : List Cn) (s : ByteArray) : Nat → List Ix
  | 0 => []
  | n + 1 => idsF L s n ++ if (atF L s (n : Int)).isSome then [(s, n)] else []
theorem ids_mem (L : List Cn) (s : ByteArray) : ∀ (N : Nat) (x : Ix), x ∈ idsF L s N ↔ x.1 = s ∧ x.2 < N ∧ (atF L s (x.2 : Int)).isSome = true
  | 0, x => by simp [idsF]
  | N + 1, x => by
    unfold idsF
    rw [List.mem_append, ids_mem L s N x]
    constructor
    · rintro (⟨h1, h2, h3⟩ | h1)
      · exact ⟨h1, by omega, h3⟩
      · split at h1
        · rename_i hh
          have : x = (s, N) := by simpa using h1
          subst this
          exact ⟨rfl, by show N < N + 1; omega, hh⟩
        · cases h1
    · rintro ⟨h1, h2, h3⟩
      by_cases he : x.2 = N
      · right
        rw [he] at h3
        rw [if_pos h3]
        simp [Prod.ext_iff, h1, he]
      · exact .inl ⟨h1, by omega, h3⟩
theorem ids_rise (L : List Cn) (s : ByteArray) : ∀ N : Nat, (idsF L s N).Pairwise fun a b => a.2 < b.2
  | 0 => List.Pairwise.nil
  | N + 1 => by
    unfold idsF
    rw [List.pairwise_append]
    refine ⟨ids_rise L s N, by split <;> simp, fun a ha b hb => ?_⟩
    have h1 := ((ids_mem L s N a).1 ha).2.1
    split at hb
    · have : b = (s, N) := by simpa using hb
      subst this
      exact h1
    · cases hb
theorem ix_ext : ∀ {A B : List Ix}, (A.Pairwise fun a b => a.2 < b.2) → (B.Pairwise fun a b => a.2 < b.2) → (∀ p, p ∈ A ↔ p ∈ B) → A = B
  | [], [], _, _, _ => rfl
  | [], b :: B, _, _, h => absurd ((h b).2 (List.mem_cons_self ..)) (by simp)
  | a :: A, [], _, _, h => absurd ((h a).1 (List.mem_cons_self ..)) (by simp)
  | a :: A, b :: B, hA, hB, h => by
    obtain ⟨a1, a2⟩ := List.pairwise_cons.1 hA
    obtain ⟨b1, b2⟩ := List.pairwise_cons.1 hB
    have e : a = b := by
      rcases List.mem_cons.1 ((h a).1 (List.mem_cons_self ..)) with e | e
      · exact e
      · rcases List.mem_cons.1 ((h b).2 (List.mem_cons_self ..)) with e' | e'
        · exact e'.symm
        · have h1 := b1 a e
          have h2 := a1 b e'
          omega
    subst e
    rw [ix_ext a2 b2 fun p => ?_]
    constructor
    · intro hp
      rcases List.mem_cons.1 ((h p).1 (List.mem_cons_of_mem _ hp)) with e | e
      · have := a1 p hp
        rw [e] at this
        omega
      · exact e
    · intro hp
      rcases List.mem_cons.1 ((h p).2 (List.mem_cons_of_mem _ hp)) with e | e
      · have := b1 p hp
        rw [e] at this
        omega
      · exact e
/-- What Find tells. -/
theorem Doc.find (h : Doc W k T L) {s : ByteArray} (hs : s.size = W) : (alikeL W T s).map ixOf = idsF L s 256 := by
  refine ix_ext ?_ (ids_rise L s 256) fun x => ?_
  · rw [List.pairwise_map]
    exact h.tb.nums hs
  · rw [List.mem_map, ids_mem]
    constructor
    · rintro ⟨c, hc, rfl⟩
      obtain ⟨h1, h2, h3⟩ := (h.tb.mem hs c).1 hc
      refine ⟨h3, h2.2.1, ?_⟩
      cases ha : atF L s ((ixOf c).2 : Int) with
      | some _ => rfl
      | none => exact absurd ⟨h3, rfl⟩ (at_none ha c ((h.mem c).1 ⟨h1, h2⟩))
    · rintro ⟨h1, h2, h3⟩
      cases ha : atF L s (x.2 : Int) with
      | none => rw [ha] at h3; cases h3
      | some i =>
        obtain ⟨c, hc, h5, h6⟩ := at_some ha
        have hin := (h.mem c).2 (List.mem_of_getElem? hc)
        exact ⟨c, (h.tb.mem hs c).2 ⟨hin.1, hin.2, h5⟩, Prod.ext (by show c.sum = x.1; rw [h5, h1]) (by show c.n = x.2; omega)⟩
theorem Doc.find_no {s : ByteArray} (hs : ¬ s.size = W) : (alikeL W T s).map ixOf = [] := by
  unfold alikeL
  rw [if_neg hs]
  rfl
end
end Go.Proofs.YtjpkngbjjgimjaaDoor
