/- Areas: what a rule picks, where a byte stands among the holes, what is taken, and what the document's bytes tell of it. -/
import Derived.Test.YtgihdfmeokbplaaEM
namespace Go.Proofs.Ytgihdfmeokbplaa.Ex
/-- An area: its size, its holes, where Next goes on. -/
structure Ar where
  sz : Nat
  hs : List Sp
  nx : Int
structure Ar.Ok (X : Ar) : Prop where
  s1 : 1 ≤ X.sz
  s2 : X.sz ≤ 1048576
  g : Gd 0 X.sz X.hs
  n1 : 0 ≤ X.nx
  n2 : X.nx ≤ X.sz
def Ar.new (n : Nat) : Ar := ⟨n, [(0, (n : Int))], 0⟩
theorem Ar.new_ok {n : Nat} (h1 : 1 ≤ n) (h2 : n ≤ 1048576) : (Ar.new n).Ok := ⟨h1, h2, ⟨by simp, by simp; omega, by simp [en, Ar.new], trivial⟩, by simp [Ar.new], by simp [Ar.new]⟩
theorem Ar.Ok.len {X : Ar} (h : X.Ok) : X.hs.length ≤ 524289 := by
  have := h.g.len (by omega)
  have := h.s2
  omega
theorem Ar.Ok.mem {X : Ar} (h : X.Ok) {s : Sp} (hs : s ∈ X.hs) : 0 ≤ s.1 ∧ 1 ≤ s.2 ∧ s.1 + s.2 ≤ X.sz := h.g.mem hs
/-- What is picked among the first k holes. -/
def pickK (ch : Sp → Sp → Bool) (n : Int) (hs : List Sp) : Nat → Option Nat
  | 0 => none
  | k + 1 => match hs[k]? with
    | none => pickK ch n hs k
    | some h => if (decide (n ≤ h.2) && (match pickK ch n hs k with | none => true | some a => ch h (hs.getD a (0, 0)))) = true then some k else pickK ch n hs k
theorem pickK_on {ch : Sp → Sp → Bool} {n : Int} {hs : List Sp} {k : Nat} {h : Sp} (e : hs[k]? = some h) : pickK ch n hs (k + 1) = if (decide (n ≤ h.2) && (match pickK ch n hs k with | none => true | some a => ch h (hs.getD a (0, 0)))) = true then some k else pickK ch n hs k := by
  simp only [pickK, e]
theorem pickK_lt {ch : Sp → Sp → Bool} {n : Int} {hs : List Sp} : ∀ {k a : Nat}, pickK ch n hs k = some a → a < k ∧ ∃ h, hs[a]? = some h ∧ n ≤ h.2
  | k + 1, a, e => by
    cases hk : hs[k]? with
    | none =>
      simp only [pickK, hk] at e
      obtain ⟨h1, h2⟩ := pickK_lt e
      exact ⟨by omega, h2⟩
    | some h =>
      rw [pickK_on hk] at e
      by_cases hc : (decide (n ≤ h.2) && (match pickK ch n hs k with | none => true | some a => ch h (hs.getD a (0, 0)))) = true
      · rw [if_pos hc] at e
        cases e
        exact ⟨by omega, h, hk, by rw [Bool.and_eq_true, decide_eq_true_eq] at hc; exact hc.1⟩
      · rw [if_neg hc] at e
        obtain ⟨h1, h2⟩ := pickK_lt e
        exact ⟨by omega, h2⟩
theorem pickK_none {ch : Sp → Sp → Bool} {n : Int} {hs : List Sp} : ∀ {k : Nat}, pickK ch n hs k = none → ∀ j h, j < k → hs[j]? = some h → h.2 < n
  | k + 1, e, j, h, hj, hh => by
    cases hk : hs[k]? with
    | none =>
      simp only [pickK, hk] at e
      rcases Nat.lt_or_ge j k with hl | hl
      · exact pickK_none e j h hl hh
      · obtain rfl : j = k := by omega
        rw [hh] at hk; cases hk
    | some x =>
      rw [pickK_on hk] at e
      by_cases hc : (decide (n ≤ x.2) && (match pickK ch n hs k with | none => true | some a => ch x (hs.getD a (0, 0)))) = true
      · rw [if_pos hc] at e; cases e
      · rw [if_neg hc] at e
        rcases Nat.lt_or_ge j k with hl | hl
        · exact pickK_none e j h hl hh
        · obtain rfl : j = k := by omega
          rw [hh] at hk
          cases hk
          rw [e] at hc
          rw [Bool.and_true, decide_eq_true_eq] at hc
          omega
/-- A rule's choice. -/
def ruleC (rule nx : Int) : Sp → Sp → Bool := fun h s =>
  if rule = 1 then decide (h.2 < s.2) else if rule = 2 then decide (s.2 < h.2) else if rule = 3 then decide (s.1 < nx) && decide (nx ≤ h.1) else false
def Ar.pick (X : Ar) (n rule : Int) : Option Nat := pickK (ruleC rule X.nx) n X.hs X.hs.length
/-- What an Alloc tells and leaves, where its arguments may be. -/
def Ar.alloc (X : Ar) (n rule : Int) : Ar × Int × Int :=
  if n < 1 ∨ rule < 0 ∨ 3 < rule then (X, 0, 1)
  else match X.pick n rule with
    | none => (X, 0, 5)
    | some a => (⟨X.sz, cutL X.hs a ((X.hs.getD a (0, 0)).1, n), if rule = 3 then (X.hs.getD a (0, 0)).1 + n else X.nx⟩, (X.hs.getD a (0, 0)).1, 0)
def Ar.has (X : Ar) (s : Sp) : Bool := decide (0 ≤ s.1) && decide (1 ≤ s.2) && decide (s.1 ≤ X.sz) && decide (s.2 ≤ X.sz - s.1)
theorem Ar.has_iff (X : Ar) (s : Sp) : X.has s = true ↔ 0 ≤ s.1 ∧ 1 ≤ s.2 ∧ s.1 + s.2 ≤ X.sz := by
  simp only [Ar.has, Bool.and_eq_true, decide_eq_true_eq]; omega
/-- Where a byte stands among the holes. -/
structure At (l : List Sp) (x : Int) (r : Nat) : Prop where
  len : r ≤ l.length
  lo : 0 < r → ∀ h, l[r - 1]? = some h → en h ≤ x
  hi : ∀ h, l[r]? = some h → x < en h
theorem Gd.order {sz : Int} : ∀ {l : List Sp} {lo : Int}, Gd lo sz l → ∀ {i j : Nat} {a b : Sp}, i < j → l[i]? = some a → l[j]? = some b → en a + 1 ≤ b.1
  | s :: t, lo, h, i, j, a, b, hij, ha, hb => by
    cases j with
    | zero => omega
    | succ j =>
      rw [List.getElem?_cons_succ] at hb
      cases i with
      | zero =>
        rw [List.getElem?_cons_zero] at ha
        cases ha
        exact (h.2.2.2.mem (List.mem_of_getElem? hb)).1
      | succ i =>
        rw [List.getElem?_cons_succ] at ha
        exact Gd.order h.2.2.2 (by omega) ha hb
theorem mem_dropA {α : Type} {l : List α} {r : Nat} {y : α} (h : y ∈ l.drop r) : ∃ i, l[r + i]? = some y := by
  obtain ⟨i, hi, rfl⟩ := List.getElem_of_mem h
  exact ⟨i, by rw [List.getElem_drop]; exact List.getElem?_eq_getElem _⟩
theorem mem_takeA {α : Type} {l : List α} {r : Nat} {y : α} (h : y ∈ l.take r) : ∃ i, i < r ∧ l[i]? = some y := by
  obtain ⟨i, hi, rfl⟩ := List.getElem_of_mem h
  rw [List.length_take, Nat.lt_min] at hi
  exact ⟨i, hi.1, by rw [List.getElem_take]; exact List.getElem?_eq_getElem _⟩
theorem At.split {sz lo : Int} {l : List Sp} (hg : Gd lo sz l) {x : Int} {r : Nat} (h : At l x r) : (∀ s ∈ l.take r, s.1 + s.2 ≤ x) ∧ (∀ s ∈ l.drop r, x < s.1 + s.2) := by
  constructor
  · intro s hs
    obtain ⟨i, hi, e1⟩ := mem_takeA hs
    have hrl := h.len
    obtain ⟨q, hq⟩ : ∃ q, l[r - 1]? = some q := ⟨_, List.getElem?_eq_getElem (by omega)⟩
    have h1 := h.lo (by omega) q hq
    rcases Nat.lt_or_ge i (r - 1) with hl | hl
    · have := hg.order hl e1 hq
      have hm := hg.mem (List.mem_of_getElem? hq)
      simp only [en] at *
      omega
    · have : i = r - 1 := by omega
      subst this
      rw [e1] at hq
      cases hq
      exact h1
  · intro s hs
    obtain ⟨i, e1⟩ := mem_dropA hs
    have hil := (List.getElem?_eq_some_iff.1 e1).1
    obtain ⟨q, hq⟩ : ∃ q, l[r]? = some q := ⟨_, List.getElem?_eq_getElem (by omega)⟩
    have h1 := h.hi q hq
    rcases Nat.eq_zero_or_pos i with rfl | hl
    · rw [Nat.add_zero] at e1
      rw [e1] at hq
      cases hq
      exact h1
    · have := hg.order (show r < r + i by omega) hq e1
      have hm := hg.mem (List.mem_of_getElem? e1)
      simp only [en] at *
      omega
/-- All of an extent is taken. -/
def takB (l : List Sp) (s : Sp) : Prop := ∀ x, s.1 ≤ x → x < s.1 + s.2 → cov l x = false
def freB (l : List Sp) (s : Sp) : Prop := ∀ x, s.1 ≤ x → x < s.1 + s.2 → cov l x = true
theorem At.tak {sz lo : Int} {l : List Sp} (hg : Gd lo sz l) {s : Sp} {r : Nat} (h : At l s.1 r) (h1 : 1 ≤ s.2) : takB l s ↔ (∀ q, l[r]? = some q → s.1 + s.2 ≤ q.1) := by
  obtain ⟨ha, hb⟩ := h.split hg
  constructor
  · intro ht q hq
    have hx := h.hi q hq
    have hm := hg.mem (List.mem_of_getElem? hq)
    simp only [en] at hx
    refine Int.not_lt.1 fun hc => ?_
    have := ht (max s.1 q.1) (by omega) (by omega)
    rw [cov_no] at this
    exact this q (List.mem_of_getElem? hq) (by omega)
  · intro hq x h1 h2
    rw [cov_no]
    intro y hy hc
    rw [← List.take_append_drop r l] at hy
    rcases List.mem_append.1 hy with hy | hy
    · have := ha y hy; omega
    · obtain ⟨i, e1⟩ := mem_dropA hy
      have hil := (List.getElem?_eq_some_iff.1 e1).1
      obtain ⟨q, hq2⟩ : ∃ q, l[r]? = some q := ⟨_, List.getElem?_eq_getElem (by omega)⟩
      have h3 := hq q hq2
      rcases Nat.eq_zero_or_pos i with rfl | hl
      · rw [Nat.add_zero] at e1
        rw [e1] at hq2
        cases hq2
        omega
      · have := hg.order (show r < r + i by omega) hq2 e1
        have hm := hg.mem (List.mem_of_getElem? hq2)
        simp only [en] at *
        omega
theorem At.fre {sz lo : Int} {l : List Sp} (hg : Gd lo sz l) {s : Sp} {r : Nat} (h : At l s.1 r) (h1 : 1 ≤ s.2) : freB l s ↔ ∃ q, l[r]? = some q ∧ q.1 ≤ s.1 ∧ en s ≤ en q := by
  obtain ⟨ha, hb⟩ := h.split hg
  constructor
  · intro ht
    have c0 := ht s.1 (Int.le_refl _) (by omega)
    rw [cov_iff] at c0
    obtain ⟨y, hy, hc⟩ := c0
    rw [← List.take_append_drop r l] at hy
    rcases List.mem_append.1 hy with hy | hy
    · have := ha y hy; omega
    · obtain ⟨i, e1⟩ := mem_dropA hy
      have hil := (List.getElem?_eq_some_iff.1 e1).1
      obtain ⟨q, hq⟩ : ∃ q, l[r]? = some q := ⟨_, List.getElem?_eq_getElem (by omega)⟩
      have hx := h.hi q hq
      have hq1 : y = q := by
        rcases Nat.eq_zero_or_pos i with rfl | hl
        · rw [Nat.add_zero] at e1; rw [e1] at hq; exact Option.some.inj hq
        · have := hg.order (show r < r + i by omega) hq e1
          simp only [en] at *
          omega
      rw [hq1] at hc
      refine ⟨q, hq, hc.1, ?_⟩
      refine Int.not_lt.1 fun hlt => ?_
      simp only [en] at hlt hx
      have c1 := ht (q.1 + q.2) (by omega) (by omega)
      rw [cov_iff] at c1
      obtain ⟨z, hz, hzc⟩ := c1
      obtain ⟨k, hk, rfl⟩ := List.getElem_of_mem hz
      have e2 : l[k]? = some l[k] := List.getElem?_eq_getElem hk
      rcases Nat.lt_trichotomy k r with hl | hl | hl
      · have := hg.order hl e2 hq
        simp only [en] at *
        omega
      · subst hl
        rw [e2] at hq
        cases hq
        omega
      · have := hg.order hl hq e2
        simp only [en] at *
        omega
  · rintro ⟨q, hq, h2, h3⟩ x hx1 hx2
    rw [cov_iff]
    simp only [en] at h3
    exact ⟨q, List.mem_of_getElem? hq, by omega, by omega⟩
/-- The place of the first hole that ends behind a byte. -/
def findK (l : List Sp) (x : Int) : Nat := (l.findIdx? fun h => decide (x < en h)).getD l.length
/-- What Take and Give tell and leave. -/
def freD (l : List Sp) (s : Sp) : Bool := match l[findK l s.1]? with
  | some q => decide (q.1 ≤ s.1) && decide (en s ≤ en q)
  | none => false
def takD (l : List Sp) (s : Sp) : Bool := match l[findK l s.1]? with
  | some q => decide (en s ≤ q.1)
  | none => true
def Ar.take (X : Ar) (s : Sp) : Ar × Int :=
  if X.has s = false then (X, 9) else if freD X.hs s = true then (⟨X.sz, cutL X.hs (findK X.hs s.1) s, X.nx⟩, 0) else (X, 8)
def Ar.give (X : Ar) (s : Sp) : Ar × Int :=
  if X.has s = false then (X, 9) else if takD X.hs s = true then (⟨X.sz, joinL (X.hs.take (findK X.hs s.1)) (X.hs.drop (findK X.hs s.1)) s, X.nx⟩, 0) else (X, 8)
theorem find_at {l : List Sp} {x : Int} : At l x (findK l x) := by
  unfold findK
  cases h : l.findIdx? fun h => decide (x < en h) with
  | none =>
    rw [List.findIdx?_eq_none_iff] at h
    refine ⟨by simp, fun _ q hq => ?_, fun q hq => ?_⟩
    · have := h q (List.mem_of_getElem? hq); simpa using this
    · simp at hq
  | some i =>
    rw [List.findIdx?_eq_some_iff_getElem] at h
    obtain ⟨hi, h1, h2⟩ := h
    simp only [Option.getD_some]
    refine ⟨by omega, fun h0 q hq => ?_, fun q hq => ?_⟩
    · have h3 := h2 (i - 1) (by omega)
      rw [List.getElem?_eq_getElem (by omega)] at hq
      cases hq
      simpa using h3
    · rw [List.getElem?_eq_getElem hi] at hq
      cases hq
      simpa using h1
theorem At.unique {l : List Sp} {x : Int} {sz lo : Int} (hg : Gd lo sz l) {r r' : Nat} (h : At l x r) (h' : At l x r') : r = r' := by
  have key : ∀ {a b : Nat}, At l x a → At l x b → a < b → False := fun {a b} ha hb hab => by
    have hbl := hb.len
    obtain ⟨q, hq⟩ : ∃ q, l[b - 1]? = some q := ⟨_, List.getElem?_eq_getElem (by omega)⟩
    obtain ⟨p, hp⟩ : ∃ q, l[a]? = some q := ⟨_, List.getElem?_eq_getElem (by omega)⟩
    have h1 := hb.lo (by omega) q hq
    have h2 := ha.hi p hp
    rcases Nat.lt_or_ge a (b - 1) with hl | hl
    · have := hg.order hl hp hq
      have := hg.mem (List.mem_of_getElem? hq)
      simp only [en] at *
      omega
    · have : a = b - 1 := by omega
      subst this
      rw [hp] at hq
      cases hq
      omega
  rcases Nat.lt_trichotomy r r' with hl | hl | hl
  · exact (key h h' hl).elim
  · exact hl
  · exact (key h' h hl).elim
theorem find_of {l : List Sp} {x : Int} {sz lo : Int} (hg : Gd lo sz l) {r : Nat} (h : At l x r) : findK l x = r := find_at.unique hg h
theorem freD_iff {l : List Sp} {s : Sp} {sz lo : Int} (hg : Gd lo sz l) (h1 : 1 ≤ s.2) : freD l s = true ↔ freB l s := by
  rw [(find_at (l := l) (x := s.1)).fre hg h1]
  unfold freD
  cases e : l[findK l s.1]? with
  | none => simp
  | some q => simp
theorem takD_iff {l : List Sp} {s : Sp} {sz lo : Int} (hg : Gd lo sz l) (h1 : 1 ≤ s.2) : takD l s = true ↔ takB l s := by
  rw [(find_at (l := l) (x := s.1)).tak hg h1]
  unfold takD
  cases e : l[findK l s.1]? with
  | none => simp
  | some q => simp only [decide_eq_true_eq, Option.some.injEq, forall_eq']; exact Iff.rfl
theorem Ar.take_ok {X : Ar} (h : X.Ok) (s : Sp) : (X.take s).1.Ok ∧ (X.take s).1.sz = X.sz ∧ (X.take s).1.nx = X.nx ∧ (∀ x, cov (X.take s).1.hs x = if (X.take s).2 = 0 then (cov X.hs x && !inS s x) else cov X.hs x) ∧ ((X.take s).2 = 0 → X.has s = true ∧ freB X.hs s ∧ sumS (X.take s).1.hs = sumS X.hs - s.2) ∧ (X.take s).1.hs.length ≤ X.hs.length + 1 := by
  unfold Ar.take
  cases hh : X.has s with
  | false => exact ⟨h, rfl, rfl, fun x => by simp, fun hc => by simp at hc, by simp⟩
  | true =>
    rw [if_neg (by simp)]
    by_cases hf0 : freD X.hs s = true
    · rw [if_pos hf0]
      obtain ⟨h0, h1, h2⟩ := (X.has_iff s).1 hh
      have hf := (freD_iff h.g h1).1 hf0
      obtain ⟨q, hq, q1, q2⟩ := ((find_at (l := X.hs) (x := s.1)).fre h.g h1).1 hf
      obtain ⟨c1, c2, c3, c4⟩ := cut_good h.g hq q1 q2 h1
      exact ⟨⟨h.s1, h.s2, c1, h.n1, h.n2⟩, rfl, rfl, fun x => by simp [c2], fun _ => ⟨rfl, hf, c3⟩, c4⟩
    · rw [if_neg hf0]
      exact ⟨h, rfl, rfl, fun x => by simp, fun hc => by simp at hc, by simp⟩
theorem Ar.give_ok {X : Ar} (h : X.Ok) (s : Sp) : (X.give s).1.Ok ∧ (X.give s).1.sz = X.sz ∧ (X.give s).1.nx = X.nx ∧ (∀ x, cov (X.give s).1.hs x = if (X.give s).2 = 0 then (cov X.hs x || inS s x) else cov X.hs x) ∧ ((X.give s).2 = 0 → X.has s = true ∧ takB X.hs s ∧ sumS (X.give s).1.hs = sumS X.hs + s.2) ∧ (X.give s).1.hs.length ≤ X.hs.length + 1 := by
  unfold Ar.give
  cases hh : X.has s with
  | false => exact ⟨h, rfl, rfl, fun x => by simp, fun hc => by simp at hc, by simp⟩
  | true =>
    rw [if_neg (by simp)]
    by_cases hf0 : takD X.hs s = true
    · rw [if_pos hf0]
      obtain ⟨h0, h1, h2⟩ := (X.has_iff s).1 hh
      have hf := (takD_iff h.g h1).1 hf0
      have hat := find_at (l := X.hs) (x := s.1)
      have ht := (hat.tak h.g h1).1 hf
      obtain ⟨sa, sb⟩ := hat.split h.g
      have hB : ∀ y ∈ X.hs.drop (findK X.hs s.1), s.1 + s.2 ≤ y.1 := fun y hy => by
        obtain ⟨i, e1⟩ := mem_dropA hy
        have hil := (List.getElem?_eq_some_iff.1 e1).1
        obtain ⟨q, hq2⟩ : ∃ q, X.hs[findK X.hs s.1]? = some q := ⟨_, List.getElem?_eq_getElem (by omega)⟩
        have h3 := ht q hq2
        rcases Nat.eq_zero_or_pos i with rfl | hl
        · rw [Nat.add_zero] at e1
          rw [e1] at hq2
          cases hq2
          exact h3
        · have := h.g.order (show findK X.hs s.1 < findK X.hs s.1 + i by omega) hq2 e1
          have hm := h.g.mem (List.mem_of_getElem? hq2)
          simp only [en] at *
          omega
      obtain ⟨c1, c2, c3, c4⟩ := join_good (A := X.hs.take (findK X.hs s.1)) (B := X.hs.drop (findK X.hs s.1)) (by rw [List.take_append_drop]; exact h.g) sa hB h0 h2 h1
      rw [List.take_append_drop] at c2 c3
      exact ⟨⟨h.s1, h.s2, c1, h.n1, h.n2⟩, rfl, rfl, fun x => by simp [c2], fun _ => ⟨rfl, hf, c3⟩, by
        refine Nat.le_trans c4 ?_
        rw [← List.length_append, List.take_append_drop]
        exact Nat.le_refl _⟩
    · rw [if_neg hf0]
      exact ⟨h, rfl, rfl, fun x => by simp, fun hc => by simp at hc, by simp⟩
theorem Ar.pick_some {X : Ar} {n rule : Int} {a : Nat} (e : X.pick n rule = some a) : ∃ h, X.hs[a]? = some h ∧ X.hs.getD a (0, 0) = h ∧ n ≤ h.2 := by
  obtain ⟨_, h, h1, h2⟩ := pickK_lt e
  exact ⟨h, h1, by rw [List.getD_eq_getElem?_getD, h1]; rfl, h2⟩
theorem Ar.alloc_ok {X : Ar} (h : X.Ok) (n rule : Int) : (X.alloc n rule).1.Ok ∧ (X.alloc n rule).1.sz = X.sz ∧ (X.alloc n rule).1.hs.length ≤ X.hs.length + 1 ∧
    ((X.alloc n rule).2.2 ≠ 0 → (X.alloc n rule).1 = X ∧ (X.alloc n rule).2.1 = 0) ∧
    ((X.alloc n rule).2.2 = 5 → 1 ≤ n ∧ ∀ s ∈ X.hs, s.2 < n) ∧
    ((X.alloc n rule).2.2 = 0 → 1 ≤ n ∧ (0 ≤ rule ∧ rule ≤ 3) ∧ freB X.hs ((X.alloc n rule).2.1, n) ∧ 0 ≤ (X.alloc n rule).2.1 ∧ (X.alloc n rule).2.1 + n ≤ X.sz ∧ (∀ x, cov (X.alloc n rule).1.hs x = (cov X.hs x && !inS ((X.alloc n rule).2.1, n) x)) ∧ sumS (X.alloc n rule).1.hs = sumS X.hs - n) := by
  unfold Ar.alloc
  by_cases ha : n < 1 ∨ rule < 0 ∨ 3 < rule
  · rw [if_pos ha]
    exact ⟨h, rfl, by simp, fun _ => ⟨rfl, rfl⟩, fun hc => by simp at hc, fun hc => by simp at hc⟩
  · rw [if_neg ha]
    cases e : X.pick n rule with
    | none =>
      refine ⟨h, rfl, by simp, fun _ => ⟨rfl, rfl⟩, fun _ => ⟨by omega, fun s hs => ?_⟩, fun hc => by simp at hc⟩
      obtain ⟨i, hi, rfl⟩ := List.getElem_of_mem hs
      exact pickK_none e i _ hi (List.getElem?_eq_getElem hi)
    | some a =>
      obtain ⟨q, hq, hd, hn⟩ := Ar.pick_some e
      dsimp only
      rw [hd]
      have hm := h.mem (List.mem_of_getElem? hq)
      obtain ⟨c1, c2, c3, c4⟩ := cut_good (s := (q.1, n)) h.g hq (Int.le_refl _) (by simp only [en]; omega) (by show 1 ≤ n; omega)
      refine ⟨⟨h.s1, h.s2, c1, ?_, ?_⟩, rfl, c4, fun hc => absurd rfl hc, fun hc => by simp at hc, fun _ => ⟨by omega, by omega, fun x h1 h2 => ?_, hm.1, by show q.1 + n ≤ _; omega, c2, c3⟩⟩
      · show 0 ≤ (if rule = 3 then q.1 + n else X.nx)
        split
        · omega
        · exact h.n1
      · show (if rule = 3 then q.1 + n else X.nx) ≤ (X.sz : Int)
        split
        · omega
        · exact h.n2
      · rw [cov_iff]
        exact ⟨q, List.mem_of_getElem? hq, h1, by have : x < q.1 + n := h2; omega⟩
/-- The greatest hole. -/
def maxS (l : List Sp) : Int := l.foldl (fun n h => max n h.2) 0
theorem foldl_max (l : List Sp) : ∀ n : Int, n ≤ l.foldl (fun n h => max n h.2) n ∧ ∀ s ∈ l, s.2 ≤ l.foldl (fun n h => max n h.2) n := by
  induction l with
  | nil => intro n; exact ⟨Int.le_refl _, fun s hs => by cases hs⟩
  | cons a t ih =>
    intro n
    obtain ⟨h1, h2⟩ := ih (max n a.2)
    refine ⟨by simp only [List.foldl_cons]; omega, fun s hs => ?_⟩
    rcases List.mem_cons.1 hs with rfl | hs
    · simp only [List.foldl_cons]; omega
    · exact h2 s hs
theorem foldl_mem (l : List Sp) : ∀ n : Int, l.foldl (fun n h => max n h.2) n = n ∨ ∃ s ∈ l, l.foldl (fun n h => max n h.2) n = s.2 := by
  induction l with
  | nil => intro n; exact .inl rfl
  | cons a t ih =>
    intro n
    simp only [List.foldl_cons]
    rcases ih (max n a.2) with h | ⟨s, hs, h⟩
    · rw [h]
      rcases Int.le_total n a.2 with hl | hl
      · exact .inr ⟨a, by simp, by omega⟩
      · exact .inl (by omega)
    · exact .inr ⟨s, by simp [hs], h⟩
end Go.Proofs.Ytgihdfmeokbplaa.Ex
