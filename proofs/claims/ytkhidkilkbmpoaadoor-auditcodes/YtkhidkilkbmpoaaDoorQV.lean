/- Plain mathematics of layer 13: a reader that keeps its first error; Decode as the program does it. No program is named here. -/
import Derived.Test.YtkhidkilkbmpoaaDoorRA
import Derived.Test.YtkhidkilkbmpoaaDoorNT
namespace Go.Proofs.YtkhidkilkbmpoaaDoor
def KP63 : Nat := 9223372036854775807
theorem getAt_plQ (bs : List UInt8) (p : Int) : 0 ≤ (getAt bs p).2.1 ∧ (getAt bs p).2.1 ≤ bs.length ∧ (getAt bs p).1 < 18446744073709551616 := by
  by_cases h : (getAt bs p).2.2 = 0
  · obtain ⟨P, Q, h1, h2, h3, h4, _, h6⟩ := getAt_ok (bs := bs) (p := p) (n := (getAt bs p).1) (q := (getAt bs p).2.1) (Prod.ext rfl (Prod.ext rfl h))
    rw [h2]
    exact ⟨by omega, by omega, h6⟩
  · unfold getAt at h ⊢
    split
    · exact ⟨by simp, by simp, by simp⟩
    · next hb =>
      rw [if_neg hb] at h
      simp only at h ⊢
      rw [if_neg h]
      have := getL_no (bs.drop p.toNat) 0 0 h
      rw [this.1]
      exact ⟨by omega, by omega, by omega⟩
theorem cntAt_pl (bs : List UInt8) (p m : Int) : 0 ≤ (cntAt bs p m).2.1 ∧ (cntAt bs p m).2.1 ≤ bs.length := by
  unfold cntAt
  split
  · simp
  · split
    · simp
    · exact ⟨(getAt_plQ bs p).1, (getAt_plQ bs p).2.1⟩
theorem textAt_pl (bs : List UInt8) (p m : Int) : 0 ≤ (textAt bs p m).2.1 ∧ (textAt bs p m).2.1 ≤ bs.length := by
  have h := cntAt_pl bs p m
  unfold textAt
  split
  · simp
  · split
    · simp
    · simp only; omega
/-- The next number; behind an error nought. -/
def rdN (bs : List UInt8) (p : Int) (e : Nat) : Nat × Int × Nat := if e ≠ 0 then (0, p, e) else (min (getAt bs p).1 KP63, (getAt bs p).2.1, (getAt bs p).2.2)
def rdT (bs : List UInt8) (p : Int) (e : Nat) (m : Int) : List UInt8 × Int × Nat := if e ≠ 0 then ([], p, e) else textAt bs p m
theorem rdN_0 (bs : List UInt8) (p : Int) : rdN bs p 0 = (min (getAt bs p).1 KP63, (getAt bs p).2.1, (getAt bs p).2.2) := by unfold rdN; rw [if_neg (by simp)]
theorem rdT_0 (bs : List UInt8) (p m : Int) : rdT bs p 0 m = textAt bs p m := by unfold rdT; rw [if_neg (by simp)]
theorem rdN_e {bs : List UInt8} {p : Int} {e : Nat} (h : e ≠ 0) : rdN bs p e = (0, p, e) := by unfold rdN; rw [if_pos h]
theorem rdT_e {bs : List UInt8} {p m : Int} {e : Nat} (h : e ≠ 0) : rdT bs p e m = ([], p, e) := by unfold rdT; rw [if_pos h]
def inP (bs : List UInt8) (p : Int) : Prop := -9223372036854775808 ≤ p ∧ p ≤ 9223372036854775807 ∧ bs.length ≤ 9223372036854775807
theorem rdN_in {bs : List UInt8} {p : Int} {e : Nat} (h : inP bs p) : inP bs (rdN bs p e).2.1 := by
  unfold rdN
  split
  · exact h
  · have := getAt_plQ bs p
    exact ⟨by simp only; omega, by simp only; have := h.2.2; omega, h.2.2⟩
theorem rdT_in {bs : List UInt8} {p m : Int} {e : Nat} (h : inP bs p) : inP bs (rdT bs p e m).2.1 := by
  unfold rdT
  split
  · exact h
  · have := textAt_pl bs p m
    exact ⟨by omega, by have := h.2.2; omega, h.2.2⟩
theorem rdN_lt (bs : List UInt8) (p : Int) (e : Nat) : (rdN bs p e).1 ≤ KP63 := by
  unfold rdN
  split
  · simp
  · simp only; omega
/-- The next entry. -/
def rdE (bs : List UInt8) (p : Int) (e : Nat) : En × Int × Nat :=
  (⟨((rdN bs p e).1 : Int),
    ((rdN bs (rdN bs p e).2.1 (rdN bs p e).2.2).1 : Int),
    ((rdN bs (rdN bs (rdN bs p e).2.1 (rdN bs p e).2.2).2.1 (rdN bs (rdN bs p e).2.1 (rdN bs p e).2.2).2.2).1 : Int),
    baOf (rdT bs (rdN bs (rdN bs (rdN bs p e).2.1 (rdN bs p e).2.2).2.1 (rdN bs (rdN bs p e).2.1 (rdN bs p e).2.2).2.2).2.1 (rdN bs (rdN bs (rdN bs p e).2.1 (rdN bs p e).2.2).2.1 (rdN bs (rdN bs p e).2.1 (rdN bs p e).2.2).2.2).2.2 32).1,
    ((rdN bs (rdT bs (rdN bs (rdN bs (rdN bs p e).2.1 (rdN bs p e).2.2).2.1 (rdN bs (rdN bs p e).2.1 (rdN bs p e).2.2).2.2).2.1 (rdN bs (rdN bs (rdN bs p e).2.1 (rdN bs p e).2.2).2.1 (rdN bs (rdN bs p e).2.1 (rdN bs p e).2.2).2.2).2.2 32).2.1 (rdT bs (rdN bs (rdN bs (rdN bs p e).2.1 (rdN bs p e).2.2).2.1 (rdN bs (rdN bs p e).2.1 (rdN bs p e).2.2).2.2).2.1 (rdN bs (rdN bs (rdN bs p e).2.1 (rdN bs p e).2.2).2.1 (rdN bs (rdN bs p e).2.1 (rdN bs p e).2.2).2.2).2.2 32).2.2).1 : Int)⟩,
   (rdN bs (rdT bs (rdN bs (rdN bs (rdN bs p e).2.1 (rdN bs p e).2.2).2.1 (rdN bs (rdN bs p e).2.1 (rdN bs p e).2.2).2.2).2.1 (rdN bs (rdN bs (rdN bs p e).2.1 (rdN bs p e).2.2).2.1 (rdN bs (rdN bs p e).2.1 (rdN bs p e).2.2).2.2).2.2 32).2.1 (rdT bs (rdN bs (rdN bs (rdN bs p e).2.1 (rdN bs p e).2.2).2.1 (rdN bs (rdN bs p e).2.1 (rdN bs p e).2.2).2.2).2.1 (rdN bs (rdN bs (rdN bs p e).2.1 (rdN bs p e).2.2).2.1 (rdN bs (rdN bs p e).2.1 (rdN bs p e).2.2).2.2).2.2 32).2.2).2)
theorem rdE_by {bs : List UInt8} {p p1 p2 p3 p4 p5 : Int} {e e1 e2 e3 e4 e5 n1 n2 n3 n5 : Nat} {t : List UInt8} (h1 : rdN bs p e = (n1, p1, e1)) (h2 : rdN bs p1 e1 = (n2, p2, e2)) (h3 : rdN bs p2 e2 = (n3, p3, e3)) (h4 : rdT bs p3 e3 32 = (t, p4, e4)) (h5 : rdN bs p4 e4 = (n5, p5, e5)) : rdE bs p e = (⟨(n1 : Int), (n2 : Int), (n3 : Int), baOf t, (n5 : Int)⟩, p5, e5) := by
  unfold rdE
  simp only [h1, h2, h3, h4, h5]
theorem rdE_in {bs : List UInt8} {p : Int} {e : Nat} (h : inP bs p) : inP bs (rdE bs p e).2.1 := rdN_in (rdT_in (rdN_in (rdN_in (rdN_in h))))
theorem rdE_err {bs : List UInt8} {p : Int} {e : Nat} (h : e ≠ 0) : (rdE bs p e).2.2 = e := by
  rw [rdE_by (rdN_e h) (rdN_e h) (rdN_e h) (rdT_e h) (rdN_e h)]
theorem rdE_ok (bs : List UInt8) (p : Int) : (∀ c q, entAt KP63 bs p = some (c, q) → rdE bs p 0 = (c, q, 0)) ∧ (entAt KP63 bs p = none → (rdE bs p 0).2.2 ≠ 0) := by
  obtain ⟨n1, p1, e1, h1⟩ : ∃ n q e, getAt bs p = (n, q, e) := ⟨_, _, _, rfl⟩
  have k1 := rdN_0 bs p
  rw [h1] at k1
  by_cases x1 : e1 = 0
  rotate_left
  · have hn : entAt KP63 bs p = none := entAt_1 (by rw [h1]; exact x1)
    refine ⟨fun c q h => (by rw [hn] at h; cases h), fun _ => ?_⟩
    rw [rdE_by k1 (rdN_e x1) (rdN_e x1) (rdT_e x1) (rdN_e x1)]
    exact x1
  subst x1
  obtain ⟨n2, p2, e2, h2⟩ : ∃ n q e, getAt bs p1 = (n, q, e) := ⟨_, _, _, rfl⟩
  have k2 := rdN_0 bs p1
  rw [h2] at k2
  by_cases x2 : e2 = 0
  rotate_left
  · have hn : entAt KP63 bs p = none := entAt_2 h1 (by rw [h2]; exact x2)
    refine ⟨fun c q h => (by rw [hn] at h; cases h), fun _ => ?_⟩
    rw [rdE_by k1 k2 (rdN_e x2) (rdT_e x2) (rdN_e x2)]
    exact x2
  subst x2
  obtain ⟨n3, p3, e3, h3⟩ : ∃ n q e, getAt bs p2 = (n, q, e) := ⟨_, _, _, rfl⟩
  have k3 := rdN_0 bs p2
  rw [h3] at k3
  by_cases x3 : e3 = 0
  rotate_left
  · have hn : entAt KP63 bs p = none := entAt_3 h1 h2 (by rw [h3]; exact x3)
    refine ⟨fun c q h => (by rw [hn] at h; cases h), fun _ => ?_⟩
    rw [rdE_by k1 k2 k3 (rdT_e x3) (rdN_e x3)]
    exact x3
  subst x3
  obtain ⟨t, p4, e4, h4⟩ : ∃ n q e, textAt bs p3 32 = (n, q, e) := ⟨_, _, _, rfl⟩
  have k4 := rdT_0 bs p3 32
  rw [h4] at k4
  by_cases x4 : e4 = 0
  rotate_left
  · have hn : entAt KP63 bs p = none := entAt_4 h1 h2 h3 (by rw [h4]; exact x4)
    refine ⟨fun c q h => (by rw [hn] at h; cases h), fun _ => ?_⟩
    rw [rdE_by k1 k2 k3 k4 (rdN_e x4)]
    exact x4
  subst x4
  obtain ⟨n5, p5, e5, h5⟩ : ∃ n q e, getAt bs p4 = (n, q, e) := ⟨_, _, _, rfl⟩
  have k5 := rdN_0 bs p4
  rw [h5] at k5
  by_cases x5 : e5 = 0
  rotate_left
  · have hn : entAt KP63 bs p = none := entAt_5 h1 h2 h3 h4 (by rw [h5]; exact x5)
    refine ⟨fun c q h => (by rw [hn] at h; cases h), fun _ => ?_⟩
    rw [rdE_by k1 k2 k3 k4 k5]
    exact x5
  subst x5
  rw [entAt_yes h1 h2 h3 h4 h5, rdE_by k1 k2 k3 k4 k5]
  refine ⟨fun c q h => ?_, fun h => by cases h⟩
  obtain ⟨rfl, rfl⟩ := Prod.mk.inj (Option.some.inj h)
  rfl
/-- Entries that are read one behind the other. -/
def foldE (bs : List UInt8) (p : Int) (e : Nat) : Nat → List En × Int × Nat
  | 0 => ([], p, e)
  | i + 1 => ((foldE bs p e i).1 ++ [(rdE bs (foldE bs p e i).2.1 (foldE bs p e i).2.2).1], (rdE bs (foldE bs p e i).2.1 (foldE bs p e i).2.2).2)
theorem foldE_in {bs : List UInt8} {p : Int} {e : Nat} (h : inP bs p) : ∀ i, inP bs (foldE bs p e i).2.1
  | 0 => h
  | i + 1 => rdE_in (foldE_in h i)
theorem foldE_len (bs : List UInt8) (p : Int) (e : Nat) : ∀ i, (foldE bs p e i).1.length = i
  | 0 => rfl
  | i + 1 => by show ((foldE bs p e i).1 ++ [_]).length = i + 1; rw [List.length_append, foldE_len bs p e i]; rfl
theorem foldE_err {bs : List UInt8} {p : Int} {e : Nat} (h : e ≠ 0) : ∀ i, (foldE bs p e i).2.2 = e
  | 0 => rfl
  | i + 1 => by
    show (rdE bs (foldE bs p e i).2.1 (foldE bs p e i).2.2).2.2 = e
    have := foldE_err (bs := bs) (p := p) h i
    rw [this]
    exact rdE_err h
theorem foldE_ok (bs : List UInt8) (p : Int) : ∀ n, (∀ l q, entsAt KP63 bs p n = some (l, q) → foldE bs p 0 n = (l, q, 0)) ∧ (entsAt KP63 bs p n = none → (foldE bs p 0 n).2.2 ≠ 0)
  | 0 => ⟨fun l q h => by cases h; rfl, fun h => by cases h⟩
  | n + 1 => by
    obtain ⟨i1, i2⟩ := foldE_ok bs p n
    cases hc : entsAt KP63 bs p n with
    | none =>
      have j := i2 hc
      have hx : entsAt KP63 bs p (n + 1) = none := by rw [entsAt, hc]
      refine ⟨fun l q h => (by rw [hx] at h; cases h), fun _ => ?_⟩
      show (rdE bs (foldE bs p 0 n).2.1 (foldE bs p 0 n).2.2).2.2 ≠ 0
      rw [rdE_err j]
      exact j
    | some r =>
      obtain ⟨l, q⟩ := r
      have j := i1 l q hc
      obtain ⟨k1, k2⟩ := rdE_ok bs q
      cases hd : entAt KP63 bs q with
      | none =>
        have hx := ents_none hc hd
        refine ⟨fun l q h => (by rw [hx] at h; cases h), fun _ => ?_⟩
        show (rdE bs (foldE bs p 0 n).2.1 (foldE bs p 0 n).2.2).2.2 ≠ 0
        rw [j]
        exact k2 hd
      | some r2 =>
        obtain ⟨c, s⟩ := r2
        have hx := ents_next hc hd
        refine ⟨fun l' q' h => ?_, fun h => (by rw [hx] at h; cases h)⟩
        rw [hx] at h
        obtain ⟨rfl, rfl⟩ := Prod.mk.inj (Option.some.inj h)
        show ((foldE bs p 0 n).1 ++ [(rdE bs (foldE bs p 0 n).2.1 (foldE bs p 0 n).2.2).1], (rdE bs (foldE bs p 0 n).2.1 (foldE bs p 0 n).2.2).2) = _
        rw [j]
        simp only
        rw [k1 c s hd]
/-- How the program's steps make what the document says. -/
theorem dec_prog {bs t : List UInt8} {p1 p2 p3 q : Int} {n m e1 e2 e3 e4 : Nat} {l : List En} (h1 : rdT bs 0 0 32 = (t, p1, e1)) (h2 : rdN bs p1 e1 = (n, p2, e2)) (h3 : rdN bs p2 e2 = (m, p3, e3)) (h4 : foldE bs p3 e3 (min m 9) = (l, q, e4)) :
    decA KP63 bs = if e4 = 0 ∧ q = (bs.length : Int) ∧ mayA ⟨baOf t, (n : Int), l⟩ = true then some ⟨baOf t, (n : Int), l⟩ else none := by
  rw [rdT_0] at h1
  have hl := foldE_len bs p3 e3 (min m 9)
  rw [h4] at hl
  simp only at hl
  have he : ∀ e, e ≠ 0 → e3 = e → e4 ≠ 0 := fun e h0 h => by
    have := foldE_err (bs := bs) (p := p3) h0 (min m 9)
    rw [← h, h4] at this
    simp only at this
    omega
  by_cases x1 : e1 = 0
  rotate_left
  · rw [rdN_e x1] at h2
    simp only [Prod.mk.injEq] at h2
    obtain ⟨_, _, rfl⟩ := h2
    rw [rdN_e x1] at h3
    simp only [Prod.mk.injEq] at h3
    rw [decA_1 (by rw [h1]; exact x1), if_neg (fun h => he e1 x1 h3.2.2.symm h.1)]
  subst x1
  rw [rdN_0] at h2
  obtain ⟨n', p2', e2', g2⟩ : ∃ n q e, getAt bs p1 = (n, q, e) := ⟨_, _, _, rfl⟩
  rw [g2] at h2
  simp only [Prod.mk.injEq] at h2
  obtain ⟨rfl, rfl, rfl⟩ := h2
  by_cases x2 : e2' = 0
  rotate_left
  · rw [rdN_e x2] at h3
    simp only [Prod.mk.injEq] at h3
    rw [decA_2 h1 (by rw [g2]; exact x2), if_neg (fun h => he e2' x2 h3.2.2.symm h.1)]
  subst x2
  rw [rdN_0] at h3
  obtain ⟨m', p3', e3', g3⟩ : ∃ n q e, getAt bs p2' = (n, q, e) := ⟨_, _, _, rfl⟩
  rw [g3] at h3
  simp only [Prod.mk.injEq] at h3
  obtain ⟨rfl, rfl, rfl⟩ := h3
  by_cases x3 : e3' = 0
  rotate_left
  · rw [decA_3 h1 g2 (by rw [g3]; exact x3), if_neg (fun h => he e3' x3 rfl h.1)]
  subst x3
  by_cases x4 : 8 < m'
  · rw [decA_4 h1 g2 g3 x4, if_neg (fun h => ?_)]
    have := mayA_len h.2.2
    simp only at this
    unfold KP63 at hl
    omega
  · rw [decA_yes h1 g2 g3 x4]
    have hmm : min (min m' KP63) 9 = m' := by unfold KP63; omega
    rw [hmm] at h4
    obtain ⟨i1, i2⟩ := foldE_ok bs p3' m'
    unfold restA
    cases hc : entsAt KP63 bs p3' m' with
    | none =>
      have := i2 hc
      rw [h4] at this
      simp only
      rw [if_neg (fun h => this h.1)]
    | some r =>
      obtain ⟨l', q'⟩ := r
      have := i1 l' q' hc
      rw [h4] at this
      simp only [Prod.mk.injEq] at this
      obtain ⟨rfl, rfl, rfl⟩ := this
      simp only
      by_cases hz : q = (bs.length : Int) ∧ mayA ⟨baOf t, ((min n' KP63 : Nat) : Int), l⟩ = true
      · rw [if_pos hz, if_pos ⟨by trivial, hz.1, hz.2⟩]
      · rw [if_neg hz, if_neg (fun h => hz h.2)]
end Go.Proofs.YtkhidkilkbmpoaaDoor
