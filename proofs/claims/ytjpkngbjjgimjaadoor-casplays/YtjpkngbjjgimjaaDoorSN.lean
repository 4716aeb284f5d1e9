/- Leaves that have a table, in plain mathematics. -/
import Derived.Test.YtjpkngbjjgimjaaDoorSM
namespace Go.Proofs.YtjpkngbjjgimjaaDoor
/-- A leaf: its page, and its entries. -/
structure Lf where
  page : Int
  es : List Pr
def Lf.sz (x : Lf) : Nat := szL x.es
def flat (L : List Lf) : List Pr := L.flatMap Lf.es
theorem flat_app (A B : List Lf) : flat (A ++ B) = flat A ++ flat B := by simp [flat]
theorem flat_cons (x : Lf) (B : List Lf) : flat (x :: B) = x.es ++ flat B := by simp [flat]
theorem flat_one (x : Lf) : flat [x] = x.es := by simp [flat]
theorem flat_nil : flat [] = [] := rfl
def lsz (L : List Lf) : Nat := (L.map Lf.sz).sum
theorem lsz_flat (L : List Lf) : lsz L = szL (flat L) := by
  induction L with
  | nil => rfl
  | cons x L ih => rw [flat_cons, szL_app, ← ih]; simp [lsz, Lf.sz]
/-- No two side by side fit into one. -/
def Adj (L : List Lf) : Prop := ∀ i a b, L[i]? = some a → L[i + 1]? = some b → 1023 < a.sz + b.sz
theorem Adj.one (x : Lf) : Adj [x] := fun i a b _ hb => by simp at hb
theorem Adj.snoc {I : List Lf} {l x : Lf} (h : Adj (I ++ [l])) (hx : 1023 < l.sz + x.sz) : Adj (I ++ [l] ++ [x]) := by
  intro i a b ha hb
  have hlt : i + 1 < I.length + 2 := by
    have := (List.getElem?_eq_some_iff.1 hb).1
    simpa using this
  by_cases hi : i + 1 < I.length + 1
  · rw [List.getElem?_append_left (by simp; omega)] at ha hb
    exact h i a b ha hb
  · obtain rfl : i = I.length := by omega
    rw [List.getElem?_append_left (by simp), List.getElem?_append_right (by simp)] at ha
    rw [List.getElem?_append_right (by simp)] at hb
    simp at ha hb
    subst ha; subst hb
    exact hx
theorem Adj.last {I : List Lf} {l y : Lf} (h : Adj (I ++ [l])) (hy : l.sz ≤ y.sz) : Adj (I ++ [y]) := by
  intro i a b ha hb
  have hlt : i + 1 < I.length + 1 := by
    have := (List.getElem?_eq_some_iff.1 hb).1
    simpa using this
  rw [List.getElem?_append_left (by omega)] at ha
  have ha' : (I ++ [l])[i]? = some a := by rw [List.getElem?_append_left (by omega)]; exact ha
  by_cases hi : i + 1 < I.length
  · rw [List.getElem?_append_left hi] at hb
    exact h i a b ha' (by rw [List.getElem?_append_left hi]; exact hb)
  · have e : i + 1 = I.length := by omega
    rw [List.getElem?_append_right (by omega)] at hb
    rw [show i + 1 - I.length = 0 by omega] at hb
    simp at hb
    subst hb
    have := h i a l ha' (by rw [List.getElem?_append_right (by omega), show i + 1 - I.length = 0 by omega]; rfl)
    omega
theorem Adj.tail {x : Lf} {L : List Lf} (h : Adj (x :: L)) : Adj L := fun i a b ha hb => h (i + 1) a b (by simpa using ha) (by simpa using hb)
theorem Adj.two {x y : Lf} {L : List Lf} (h : Adj (x :: y :: L)) : 1023 < x.sz + y.sz := h 0 x y rfl rfl
/-- So there are few. -/
theorem Adj.few : ∀ {L : List Lf}, Adj L → 512 * (L.length - 1) ≤ lsz L
  | [], _ => by simp
  | [x], _ => by simp
  | x :: y :: L, h => by
    have h1 := h.two
    have h2 := (h.tail.tail).few
    simp only [lsz, List.map_cons, List.sum_cons, List.length_cons] at *
    omega
/-- Leaves but for their pages: one may have none yet. -/
structure Pre (n : Nat) (L : List Lf) : Prop where
  hd : L.head?.map Lf.page = some 0
  pg : ∀ x ∈ L, -1 ≤ x.page ∧ x.page < (n : Int)
  nd : (L.map Lf.page).Nodup
  sz : ∀ x ∈ L, x.sz ≤ 1023
  adj : Adj L
  srt : Rise (flat L)
  may : ∀ p ∈ flat L, May p
structure Shape (n : Nat) (L : List Lf) : Prop extends Pre n L where
  pos : ∀ x ∈ L, 0 ≤ x.page
theorem Pre.ne {n : Nat} {L : List Lf} (h : Pre n L) : L ≠ [] := fun e => by have := h.hd; rw [e] at this; simp at this
theorem Pre.len {n : Nat} {L : List Lf} (h : Pre n L) : 1 ≤ L.length := by
  have := h.ne
  cases L with
  | nil => exact absurd rfl this
  | cons x L => simp
theorem nodup_sub {α : Type} [DecidableEq α] : ∀ {l m : List α}, l.Nodup → (∀ x ∈ l, x ∈ m) → l.length ≤ m.length
  | [], _, _, _ => by simp
  | x :: l, m, hn, hs => by
    rw [List.nodup_cons] at hn
    have hx := hs x (List.mem_cons_self ..)
    have := nodup_sub (m := m.erase x) hn.2 (fun y hy => (List.mem_erase_of_ne (fun e => hn.1 (by rw [← e]; exact hy))).2 (hs y (List.mem_cons_of_mem _ hy)))
    rw [List.length_erase_of_mem hx] at this
    have := List.length_pos_of_mem hx
    rw [List.length_cons]
    omega
theorem nodup_at {α : Type} {l : List α} (h : l.Nodup) {i j : Nat} {x : α} (hi : l[i]? = some x) (hj : l[j]? = some x) : i = j := by
  unfold List.Nodup at h
  rw [List.pairwise_iff_getElem] at h
  obtain ⟨li, ei⟩ := List.getElem?_eq_some_iff.1 hi
  obtain ⟨lj, ej⟩ := List.getElem?_eq_some_iff.1 hj
  rcases Nat.lt_trichotomy i j with hij | hij | hij
  · exact absurd (ei.trans ej.symm) (h i j li lj hij)
  · exact hij
  · exact absurd (ej.trans ei.symm) (h j i lj li hij)
theorem nodup_of {α : Type} {l : List α} (h : ∀ (i j : Nat) (x : α), l[i]? = some x → l[j]? = some x → i = j) : l.Nodup := by
  unfold List.Nodup
  rw [List.pairwise_iff_getElem]
  intro i j li lj hij e
  have := h i j l[i] (List.getElem?_eq_getElem li) (by rw [List.getElem?_eq_getElem lj, e])
  omega
theorem nodup_len {n : Nat} : ∀ (l : List Nat), l.Nodup → (∀ x ∈ l, x < n) → l.length ≤ n := by
  intro l hn hl
  have := nodup_sub (m := List.range n) hn (fun x hx => List.mem_range.2 (hl x hx))
  simpa using this
theorem Shape.len {n : Nat} {L : List Lf} (h : Shape n L) : L.length ≤ n := by
  have := nodup_len (n := n) (L.map fun x => x.page.toNat) (by
    have hnd := h.nd
    rw [List.Nodup, List.pairwise_map] at hnd ⊢
    refine List.Pairwise.imp_of_mem (fun {a b} ha hb hab e => hab ?_) hnd
    have := h.pos a ha
    have := h.pos b hb
    omega) (by
    intro x hx
    obtain ⟨y, hy, rfl⟩ := List.mem_map.1 hx
    have := (h.pg y hy).2
    have := h.pos y hy
    omega)
  simpa using this
/-- All but a table's only leaf have entries. -/
theorem Pre.full {n : Nat} {L : List Lf} (h : Pre n L) (i : Nat) (x : Lf) (hx : L[i]? = some x) (h2 : 2 ≤ L.length) : x.es ≠ [] := by
  intro e
  have hz : x.sz = 0 := by unfold Lf.sz; rw [e]; rfl
  have hi := (List.getElem?_eq_some_iff.1 hx).1
  by_cases hi0 : i = 0
  · subst hi0
    have hy := List.getElem?_eq_getElem (show 0 + 1 < L.length by omega)
    have := h.adj 0 x _ hx hy
    have := h.sz _ (List.getElem_mem (show 0 + 1 < L.length by omega))
    omega
  · have hy := List.getElem?_eq_getElem (show i - 1 < L.length by omega)
    have := h.adj (i - 1) _ x hy (by rw [show i - 1 + 1 = i by omega]; exact hx)
    have := h.sz _ (List.getElem_mem (show i - 1 < L.length by omega))
    omega
theorem Pre.large {n : Nat} {L : List Lf} (h : Pre n L) (hl : n < L.length) (hn : 2 ≤ n) : 510 * (n - 2) < szL (flat L) := by
  have := h.adj.few
  rw [lsz_flat] at this
  omega
/-- Leaves put together, the first k of them. -/
structure Jn (L : List Lf) (k : Nat) (J : List Lf) : Prop where
  fl : flat J = flat (L.take k)
  pg : (J.map Lf.page).Sublist ((L.take k).map Lf.page)
  hd : (J.map Lf.page).head? = (L.map Lf.page).head?
  adj : Adj J
  sz : ∀ x ∈ J, x.sz ≤ 1023
theorem Jn.start {x : Lf} {L : List Lf} (hx : x.sz ≤ 1023) : Jn (x :: L) 1 [x] :=
  ⟨by simp, by simp, rfl, Adj.one x, fun y hy => by simp at hy; rw [hy]; exact hx⟩
theorem take_snoc {α : Type} {L : List α} {k : Nat} {x : α} (h : L[k]? = some x) : L.take (k + 1) = L.take k ++ [x] := by rw [List.take_add_one, h]; rfl
theorem Jn.add {L I : List Lf} {k : Nat} {l x : Lf} (h : Jn L k (I ++ [l])) (hx : L[k]? = some x) (hs : x.sz ≤ 1023) (ha : 1023 < l.sz + x.sz) : Jn L (k + 1) (I ++ [l] ++ [x]) := by
  refine ⟨?_, ?_, ?_, h.adj.snoc ha, ?_⟩
  · rw [flat_app, h.fl, take_snoc hx, flat_app]
  · rw [take_snoc hx, List.map_append (l₁ := I ++ [l]), List.map_append (l₁ := L.take k)]
    exact h.pg.append (List.Sublist.refl _)
  · rw [← h.hd]
    cases I <;> simp
  · intro y hy
    rcases List.mem_append.1 hy with hy | hy
    · exact h.sz y hy
    · simp at hy; rw [hy]; exact hs
theorem Jn.join {L I : List Lf} {k : Nat} {l x : Lf} (h : Jn L k (I ++ [l])) (hx : L[k]? = some x) (ha : l.sz + x.sz ≤ 1023) : Jn L (k + 1) (I ++ [⟨l.page, l.es ++ x.es⟩]) := by
  have hz : (Lf.mk l.page (l.es ++ x.es)).sz = l.sz + x.sz := szL_app _ _
  refine ⟨?_, ?_, ?_, h.adj.last (by rw [hz]; omega), ?_⟩
  · have := h.fl
    rw [flat_app, flat_one] at this ⊢
    rw [take_snoc hx, flat_app, ← this, flat_one]
    simp
  · rw [take_snoc hx, List.map_append (l₁ := L.take k)]
    have e : (I ++ [Lf.mk l.page (l.es ++ x.es)]).map Lf.page = (I ++ [l]).map Lf.page := by simp
    rw [e]
    exact h.pg.trans (List.sublist_append_left _ _)
  · rw [← h.hd]
    cases I <;> simp
  · intro y hy
    rcases List.mem_append.1 hy with hy | hy
    · exact h.sz y (List.mem_append_left _ hy)
    · simp only [List.mem_singleton] at hy; rw [hy, hz]; exact ha
/-- Leaves of which one is another one, put together. -/
theorem Jn.pre {n : Nat} {L Q J : List Lf} {i : Nat} {x : Lf} (h : Shape n L) (hx : L[i]? = some x) (hQ : Q.map Lf.page = [x.page] ∨ Q.map Lf.page = [x.page, -1]) (j : Jn (L.take i ++ Q ++ L.drop (i + 1)) (L.take i ++ Q ++ L.drop (i + 1)).length J)
    (hs : Rise (flat J)) (hm : ∀ p ∈ flat J, May p) : Pre n J := by
  obtain ⟨j1, j2, j3, j4, j5⟩ := j
  rw [List.take_length] at j1 j2
  have hLe : L = L.take i ++ x :: L.drop (i + 1) := by
    obtain ⟨hi, e⟩ := List.getElem?_eq_some_iff.1 hx
    rw [← e, ← List.drop_eq_getElem_cons hi, List.take_append_drop]
  have hp : L.map Lf.page = (L.take i).map Lf.page ++ x.page :: (L.drop (i + 1)).map Lf.page := by
    conv => lhs; rw [hLe]
    simp
  have hnd := h.nd
  rw [hp] at hnd
  have hneg : ∀ q ∈ L.map Lf.page, 0 ≤ q ∧ q < (n : Int) := by
    intro q hq
    obtain ⟨y, hy, rfl⟩ := List.mem_map.1 hq
    exact ⟨h.pos y hy, (h.pg y hy).2⟩
  have hL := hneg
  rw [hp] at hneg
  have hM : (L.take i ++ Q ++ L.drop (i + 1)).map Lf.page = (L.take i).map Lf.page ++ Q.map Lf.page ++ (L.drop (i + 1)).map Lf.page := by simp
  rw [hM] at j2
  have hMn : ((L.take i).map Lf.page ++ Q.map Lf.page ++ (L.drop (i + 1)).map Lf.page).Nodup ∧ ∀ q ∈ (L.take i).map Lf.page ++ Q.map Lf.page ++ (L.drop (i + 1)).map Lf.page, -1 ≤ q ∧ q < (n : Int) := by
    generalize (L.take i).map Lf.page = A at *
    generalize (L.drop (i + 1)).map Lf.page = B at *
    rcases hQ with hQ | hQ
    · rw [hQ]
      rw [List.append_assoc, List.singleton_append]
      exact ⟨hnd, fun q hq => by have := hneg q hq; omega⟩
    · rw [hQ, List.append_assoc]
      show (A ++ (x.page :: (-1) :: B)).Nodup ∧ ∀ q ∈ A ++ (x.page :: (-1) :: B), _
      constructor
      · have e : (A ++ (x.page :: (-1) :: B)).Perm ((-1) :: (A ++ (x.page :: B))) := by
          have := List.perm_middle (a := (-1 : Int)) (l₁ := A ++ [x.page]) (l₂ := B)
          simpa using this
        rw [e.nodup_iff, List.nodup_cons]
        exact ⟨fun hm => by have := hneg _ hm; omega, hnd⟩
      · intro q hq
        rcases List.mem_append.1 hq with hq | hq
        · have := hneg q (List.mem_append_left _ hq); omega
        · rcases List.mem_cons.1 hq with rfl | hq
          · have := hneg x.page (by simp); omega
          · rcases List.mem_cons.1 hq with rfl | hq
            · have := hneg x.page (by simp); omega
            · have := hneg q (by simp [hq]); omega
  refine ⟨?_, fun y hy => hMn.2 _ (j2.subset (List.mem_map_of_mem hy)), hMn.1.sublist j2, j5, j4, hs, hm⟩
  have hh := h.hd
  rw [← List.head?_map] at hh ⊢
  rw [j3, hM, ← hh, hp]
  have hq : (Q.map Lf.page).head? = some x.page := by rcases hQ with hQ | hQ <;> rw [hQ] <;> rfl
  generalize (L.take i).map Lf.page = A at *
  generalize Q.map Lf.page = C at *
  cases A with
  | nil =>
    cases C with
    | nil => simp at hq
    | cons c C => simpa using hq
  | cons a A => simp
/-- A leaf that is one entry too great is parted so that both sides fit. -/
theorem parted {S A last : Nat} (hS : S ≤ 1490) (hl : last ≤ 467) (hla : last ≤ A) (hA : S ≤ 2 * A) (hA' : 2 * (A - last) < S) (hAS : A ≤ S) : if S - (A - last) < A then (A - last ≤ 1023 ∧ S - (A - last) ≤ 1023) else (A ≤ 1023 ∧ S - A ≤ 1023) := by
  split <;> omega
theorem sz_take_drop (l : List Pr) (i : Nat) : szL (l.take i) + szL (l.drop i) = szL l := by rw [← szL_app, List.take_append_drop]
theorem sz_take_succ {l : List Pr} {i : Nat} {p : Pr} (h : l[i]? = some p) : szL (l.take (i + 1)) = szL (l.take i) + eSz p := by rw [take_snoc h, szL_app, szL_cons, szL_nil]; rfl
/-- Leaves that are packed: entries that are left. -/
structure Pk (T : List Pr) (P : List Lf) (rest : List Pr) : Prop where
  fl : flat P ++ rest = T
  pg : P.map Lf.page = (List.range P.length).map fun (i : Nat) => (i : Int)
  sz : ∀ x ∈ P, x.sz ≤ 1023
  adj : Adj P
  lst : ∀ I l, P = I ++ [l] → ∀ p, rest.head? = some p → 1023 < l.sz + eSz p
theorem Pk.start (T : List Pr) : Pk T [] T := ⟨rfl, rfl, fun x hx => by simp at hx, fun i a b ha _ => by simp at ha, fun I l h => by simp at h⟩
theorem Pk.add {T : List Pr} {P : List Lf} {rest : List Pr} (h : Pk T P rest) {at_ : Nat} (h0 : 1 ≤ at_) (hl : at_ ≤ rest.length) (hs : szL (rest.take at_) ≤ 1023) (hn : ∀ p, rest[at_]? = some p → 1023 < szL (rest.take at_) + eSz p) :
    Pk T (P ++ [⟨(P.length : Int), rest.take at_⟩]) (rest.drop at_) := by
  have hne : ∃ p q, rest = p :: q := by
    cases rest with
    | nil => simp at hl; omega
    | cons p q => exact ⟨p, q, rfl⟩
  obtain ⟨p, q, rfl⟩ := hne
  have hfirst : eSz p ≤ szL ((p :: q).take at_) := by
    obtain ⟨m, rfl⟩ : ∃ m, at_ = m + 1 := ⟨at_ - 1, by omega⟩
    rw [List.take_succ_cons, szL_cons]; omega
  refine ⟨?_, ?_, ?_, ?_, ?_⟩
  · rw [flat_app, flat_one, List.append_assoc]
    show flat P ++ (List.take at_ (p :: q) ++ List.drop at_ (p :: q)) = T
    rw [List.take_append_drop]
    exact h.fl
  · rw [List.map_append, h.pg, List.length_append, List.length_singleton, List.range_succ, List.map_append]
    rfl
  · intro x hx
    rcases List.mem_append.1 hx with hx | hx
    · exact h.sz x hx
    · simp only [List.mem_singleton] at hx; rw [hx]; exact hs
  · rcases List.eq_nil_or_concat P with e | ⟨I, l, e⟩
    · rw [e]; exact Adj.one _
    · have e' : P = I ++ [l] := by simpa using e
      have := h.lst I l e' p rfl
      have ha := h.adj
      rw [e'] at ha ⊢
      exact ha.snoc (Nat.lt_of_lt_of_le this (Nat.add_le_add_left hfirst _))
  · intro I l e r hr
    have el := (List.append_inj' e rfl).2
    simp only [List.cons.injEq, and_true] at el
    rw [← el]
    rw [List.head?_drop] at hr
    exact hn r hr
theorem Pk.pre {n : Nat} {T : List Pr} {P : List Lf} (h : Pk T P []) (hT : T ≠ []) (hs : Rise T) (hm : ∀ p ∈ T, May p) (hl : P.length ≤ n) : Shape n P := by
  have hf : flat P = T := by have := h.fl; rwa [List.append_nil] at this
  have hne : P ≠ [] := fun e => hT (by rw [← hf, e]; rfl)
  have hpg : ∀ x ∈ P, 0 ≤ x.page ∧ x.page < (n : Int) := by
    intro x hx
    have : x.page ∈ P.map Lf.page := List.mem_map_of_mem hx
    rw [h.pg] at this
    obtain ⟨i, hi, e⟩ := List.mem_map.1 this
    have := List.mem_range.1 hi
    omega
  refine { hd := ?_, pg := fun x hx => by have := hpg x hx; omega, nd := ?_, sz := h.sz, adj := h.adj, srt := by rw [hf]; exact hs, may := by rw [hf]; exact hm, pos := fun x hx => (hpg x hx).1 }
  · rw [← List.head?_map, h.pg]
    cases P with
    | nil => exact absurd rfl hne
    | cons x P => simp [List.range_succ_eq_map]
  · rw [h.pg, List.Nodup, List.pairwise_map]
    exact (List.nodup_range (n := P.length)).imp (fun hab e => hab (by omega))
theorem Pk.large {n : Nat} {T : List Pr} {P : List Lf} (h : Pk T P []) (hl : n < P.length) (hn : 2 ≤ n) : 510 * (n - 2) < szL T := by
  have hf : flat P = T := by have := h.fl; rwa [List.append_nil] at this
  have := h.adj.few
  rw [lsz_flat, hf] at this
  omega
/-- The leaf that has no page gets the first that is free. -/
def noAt (L : List Lf) : Nat := L.findIdx fun x => x.page == -1
theorem Pre.all {n : Nat} {L : List Lf} (h : Pre n L) (hn : ∀ x ∈ L, x.page ≠ -1) : Shape n L := { h with pos := fun x hx => by have := (h.pg x hx).1; have := hn x hx; omega }
theorem free_page {n : Nat} {L : List Lf} (hl : L.length ≤ n) {x : Lf} (hx : x ∈ L) (hp : x.page = -1) (p : Nat) (hall : ∀ q : Nat, q < p → ∃ y ∈ L, y.page = (q : Int)) : p < n := by
  rcases Nat.lt_or_ge p n with hlt | hge
  · exact hlt
  · exfalso
    have hs : ∀ q ∈ ((-1 : Int) :: (List.range n).map fun (i : Nat) => (i : Int)), q ∈ L.map Lf.page := by
      intro q hq
      rcases List.mem_cons.1 hq with rfl | hq
      · exact List.mem_map.2 ⟨x, hx, hp⟩
      · obtain ⟨i, hi, rfl⟩ := List.mem_map.1 hq
        obtain ⟨y, hy, e⟩ := hall i (by have := List.mem_range.1 hi; omega)
        exact List.mem_map.2 ⟨y, hy, e⟩
    have hnd : ((-1 : Int) :: (List.range n).map fun (i : Nat) => (i : Int)).Nodup := by
      rw [List.nodup_cons]
      refine ⟨fun hm => ?_, ?_⟩
      · obtain ⟨i, _, e⟩ := List.mem_map.1 hm
        omega
      · rw [List.Nodup, List.pairwise_map]
        exact (List.nodup_range (n := n)).imp (fun hab e => hab (by omega))
    have := nodup_sub hnd hs
    simp at this
    omega
theorem set_flat {L : List Lf} {i : Nat} {x : Lf} (hx : L[i]? = some x) (p : Int) : flat (L.set i ⟨p, x.es⟩) = flat L := by
  induction L generalizing i with
  | nil => simp at hx
  | cons y L ih =>
    cases i with
    | zero => simp only [List.getElem?_cons_zero, Option.some.injEq] at hx; subst hx; simp [flat_cons]
    | succ i => simp only [List.getElem?_cons_succ] at hx; simp only [List.set_cons_succ, flat_cons, ih hx]
theorem Pre.placed {n : Nat} {L : List Lf} (h : Pre n L) {i : Nat} {x : Lf} (hx : L[i]? = some x) (hp : x.page = -1) (p : Nat) (hpn : p < n) (hfree : ∀ y ∈ L, y.page ≠ (p : Int)) : Shape n (L.set i ⟨(p : Int), x.es⟩) := by
  have hi := (List.getElem?_eq_some_iff.1 hx).1
  have hxL : x ∈ L := List.mem_of_getElem? hx
  have hmem : ∀ y ∈ L.set i ⟨(p : Int), x.es⟩, (∃ j, j ≠ i ∧ L[j]? = some y) ∨ y = ⟨(p : Int), x.es⟩ := by
    intro y hy
    obtain ⟨j, hj⟩ := List.mem_iff_getElem?.1 hy
    by_cases e : i = j
    · subst e
      rw [List.getElem?_set_self hi] at hj
      exact .inr (by cases hj; rfl)
    · rw [List.getElem?_set_ne e] at hj
      exact .inl ⟨j, fun e' => e e'.symm, hj⟩
  have hother : ∀ j y, j ≠ i → L[j]? = some y → y.page ≠ -1 := by
    intro j y hj hy e
    exact hj (nodup_at h.nd (x := -1) (by simp [hy, e]) (by simp [hx, hp]))
  have hpos : ∀ y ∈ L.set i ⟨(p : Int), x.es⟩, 0 ≤ y.page ∧ y.page < (n : Int) := by
    intro y hy
    rcases hmem y hy with ⟨j, hj, e⟩ | rfl
    · have := h.pg y (List.mem_of_getElem? e)
      have := hother j y hj e
      omega
    · simp only; omega
  have hfl := set_flat hx (p : Int)
  refine { hd := ?_, pg := fun y hy => by have := hpos y hy; omega, nd := ?_, sz := ?_, adj := ?_, srt := by rw [hfl]; exact h.srt, may := by rw [hfl]; exact h.may, pos := fun y hy => (hpos y hy).1 }
  · have hh := h.hd
    cases L with
    | nil => simp at hx
    | cons y L =>
      cases i with
      | zero =>
        simp only [List.getElem?_cons_zero, Option.some.injEq] at hx
        subst hx
        simp [hp] at hh
      | succ i => simpa using hh
  · rw [List.map_set]
    have hno : ∀ j : Nat, (L.map Lf.page)[j]? ≠ some (p : Int) := by
      intro j e
      rw [List.getElem?_map] at e
      cases hj : L[j]? with
      | none => rw [hj] at e; simp at e
      | some y => rw [hj] at e; simp at e; exact hfree y (List.mem_of_getElem? hj) e
    have hil : i < (L.map Lf.page).length := by simpa using hi
    refine nodup_of fun a b q ha hb => ?_
    by_cases hai : i = a
    · by_cases hbi : i = b
      · omega
      · subst hai
        rw [List.getElem?_set_self hil] at ha
        rw [List.getElem?_set_ne hbi] at hb
        cases ha
        exact absurd hb (hno b)
    · rw [List.getElem?_set_ne hai] at ha
      by_cases hbi : i = b
      · subst hbi
        rw [List.getElem?_set_self hil] at hb
        cases hb
        exact absurd ha (hno a)
      · rw [List.getElem?_set_ne hbi] at hb
        exact nodup_at h.nd ha hb
  · intro y hy
    rcases hmem y hy with ⟨j, hj, e⟩ | rfl
    · exact h.sz y (List.mem_of_getElem? e)
    · exact h.sz x hxL
  · have hsz : ∀ j : Nat, ((L.set i ⟨(p : Int), x.es⟩)[j]?).map Lf.sz = (L[j]?).map Lf.sz := by
      intro j
      by_cases e : i = j
      · subst e
        rw [List.getElem?_set_self hi, hx]
        rfl
      · rw [List.getElem?_set_ne e]
    intro j a b ha hb
    have e1 := hsz j
    have e2 := hsz (j + 1)
    rw [ha] at e1
    rw [hb] at e2
    simp only [Option.map_some] at e1 e2
    cases hc : L[j]? with
    | none => rw [hc] at e1; simp at e1
    | some c =>
      cases hd : L[j + 1]? with
      | none => rw [hd] at e2; simp at e2
      | some d =>
        rw [hc] at e1
        rw [hd] at e2
        simp only [Option.map_some, Option.some.injEq] at e1 e2
        have := h.adj j c d hc hd
        omega
/-- Where a key is looked for: the leaf, and the place in it. -/
structure At (L : List Lf) (k : ByteArray) (i : Nat) (x : Lf) (a : Nat) : Prop where
  hx : L[i]? = some x
  lo : 0 < i → ∀ p, x.es.head? = some p → sl k p.1 = false
  hi : ∀ y, L[i + 1]? = some y → ∀ p, y.es.head? = some p → sl k p.1 = true
  al : a ≤ x.es.length
  alo : 0 < a → ∀ p, x.es[a - 1]? = some p → sl p.1 k = true
  ahi : ∀ p, x.es[a]? = some p → sl p.1 k = false
theorem srt_app {A B : List Pr} (h : Rise (A ++ B)) : Rise A ∧ Rise B ∧ ∀ p ∈ A, ∀ q ∈ B, sl p.1 q.1 = true := List.pairwise_append.1 h
theorem list_at {α : Type} {L : List α} {i : Nat} {x : α} (h : L[i]? = some x) : L = L.take i ++ x :: L.drop (i + 1) := by
  obtain ⟨hi, e⟩ := List.getElem?_eq_some_iff.1 h
  rw [← e, ← List.drop_eq_getElem_cons hi, List.take_append_drop]
theorem flat_at {L : List Lf} {i : Nat} {x : Lf} (h : L[i]? = some x) : flat L = flat (L.take i) ++ (x.es ++ flat (L.drop (i + 1))) := by
  conv => lhs; rw [list_at h]
  rw [flat_app, flat_cons]
theorem At.find {n : Nat} {L : List Lf} {k : ByteArray} {i : Nat} {x : Lf} {a : Nat} (h : At L k i x a) (s : Pre n L) :
    lowT (flat L) k = flat (L.take i) ++ x.es.take a ∧ highT (flat L) k = x.es.drop a ++ flat (L.drop (i + 1)) ∧ isT (flat L) k = hasK (x.es.drop a) k := by
  obtain ⟨hx, hlo, hhi, hal, halo, hahi⟩ := h
  have hf := flat_at hx
  have hs := s.srt
  rw [hf] at hs
  obtain ⟨_, hs2, hs3⟩ := srt_app hs
  obtain ⟨hs4, _, hs6⟩ := srt_app hs2
  have hi := (List.getElem?_eq_some_iff.1 hx).1
  have e : flat L = (flat (L.take i) ++ x.es.take a) ++ (x.es.drop a ++ flat (L.drop (i + 1))) := by
    rw [hf]; simp only [List.append_assoc]; rw [← List.append_assoc (x.es.take a), List.take_append_drop]
  have hnext : ∀ p, (flat (L.drop (i + 1))).head? = some p → sl k p.1 = true := by
    intro p hp
    cases hy : L[i + 1]? with
    | none =>
      have : L.drop (i + 1) = [] := List.drop_eq_nil_of_le (by rw [List.getElem?_eq_none_iff] at hy; exact hy)
      rw [this] at hp
      simp [flat] at hp
    | some y =>
      have hyl := (List.getElem?_eq_some_iff.1 hy).1
      have hne := s.full (i + 1) y hy (by omega)
      have e2 : L.drop (i + 1) = y :: L.drop (i + 1 + 1) := by
        obtain ⟨hi', e'⟩ := List.getElem?_eq_some_iff.1 hy
        rw [← e', ← List.drop_eq_getElem_cons hi']
      rw [e2, flat_cons] at hp
      refine hhi y hy p ?_
      cases hye : y.es with
      | nil => exact absurd hye hne
      | cons q r => rw [hye] at hp; simpa using hp
  have hL : ∀ p ∈ flat (L.take i) ++ x.es.take a, sl p.1 k = true := by
    intro p hp
    rcases List.mem_append.1 hp with hp | hp
    · have hi0 : 0 < i := by
        rcases Nat.eq_zero_or_pos i with rfl | h
        · simp [flat] at hp
        · exact h
      have hne := s.full i x hx (by omega)
      cases hxe : x.es with
      | nil => exact absurd hxe hne
      | cons q r =>
        have := hlo hi0 q (by rw [hxe]; rfl)
        exact sl_le_trans (hs3 p hp q (by rw [hxe]; simp)) this
    · have ha0 : 0 < a := by
        rcases Nat.eq_zero_or_pos a with rfl | h
        · simp at hp
        · exact h
      have hl := List.getElem?_eq_getElem (show a - 1 < x.es.length by omega)
      have h1 := halo ha0 _ hl
      obtain ⟨j, hj⟩ := List.mem_iff_getElem?.1 hp
      have hjl := (List.getElem?_eq_some_iff.1 hj).1
      simp only [List.length_take] at hjl
      rw [List.getElem?_take] at hj
      rw [if_pos (by omega)] at hj
      by_cases hja : j = a - 1
      · rw [hja, hl] at hj
        cases hj
        exact h1
      · refine sl_trans ?_ h1
        unfold Rise at hs4
        rw [List.pairwise_iff_getElem] at hs4
        have := hs4 j (a - 1) (by omega) (by omega) (by omega)
        rw [← (List.getElem?_eq_some_iff.1 hj).2]
        exact this
  have hH : ∀ p, (x.es.drop a ++ flat (L.drop (i + 1))).head? = some p → sl p.1 k = false := by
    intro p hp
    by_cases hal' : a = x.es.length
    · rw [List.drop_eq_nil_of_le (by omega), List.nil_append] at hp
      exact sl_asym (hnext p hp)
    · have hl := List.getElem?_eq_getElem (show a < x.es.length by omega)
      rw [List.drop_eq_getElem_cons (by omega)] at hp
      simp only [List.cons_append, List.head?_cons, Option.some.injEq] at hp
      rw [← hp]
      exact hahi _ hl
  obtain ⟨r1, r2⟩ := spl hL hH
  rw [← e] at r1 r2
  refine ⟨r1, r2, ?_⟩
  unfold isT
  rw [r2]
  cases hd : x.es.drop a with
  | cons p q => rfl
  | nil =>
    rw [List.nil_append]
    cases hc : flat (L.drop (i + 1)) with
    | nil => rfl
    | cons p q =>
      have := hnext p (by rw [hc]; rfl)
      simp only [hasK, decide_eq_false_iff_not]
      exact fun e => sl_ne this e.symm
theorem hasK_drop {l : List Pr} {a : Nat} {k : ByteArray} : hasK (l.drop a) k = (match l[a]? with | some p => decide (p.1 = k) | none => false) := by
  cases h : l[a]? with
  | none => rw [List.drop_eq_nil_of_le (by rw [List.getElem?_eq_none_iff] at h; exact h)]; rfl
  | some p =>
    obtain ⟨hi, e⟩ := List.getElem?_eq_some_iff.1 h
    rw [List.drop_eq_getElem_cons hi, e]
    rfl
end Go.Proofs.YtjpkngbjjgimjaaDoor
