/- Tokens that are minted and narrowed again and again: mathematics, and a walk over the statements' made. -/
import Derived.Test.YtcmdcmbiilfngabDoorKN
namespace Go.Proofs.YtcmdcmbiilfngabDoor
open Go.RowKit
/-- Minted, and narrowed by the first i, as far as it goes. -/
def madeF (k : List UInt8) (t n : Int) (l : List Cv) : Nat → Tk × Nat
  | 0 => mintT k t n
  | i + 1 => if (madeF k t n l i).2 = 0 then (match l[i]? with | none => madeF k t n l i | some c => narrowT (madeF k t n l i).1 c) else madeF k t n l i
theorem madeF_step {k : List UInt8} {t n : Int} {l : List Cv} {i : Nat} {c : Cv} (hc : l[i]? = some c) (h : (madeF k t n l i).2 = 0) : madeF k t n l (i + 1) = narrowT (madeF k t n l i).1 c := by
  conv => lhs; unfold madeF
  rw [if_pos h, hc]
theorem madeF_stop {k : List UInt8} {t n : Int} {l : List Cv} {i : Nat} (h : (madeF k t n l i).2 ≠ 0) : ∀ j, madeF k t n l (i + j) = madeF k t n l i
  | 0 => rfl
  | j + 1 => by
    have ih := madeF_stop h j
    rw [← Nat.add_assoc]
    conv => lhs; unfold madeF
    rw [ih, if_neg h]
def madeB (t n : Int) (l : List Cv) : Bool := knownT t n && decide (l.length ≤ 8) && l.all Cv.ok
theorem madeB_iff {t n : Int} {l : List Cv} : madeB t n l = true ↔ knownT t n = true ∧ l.length ≤ 8 ∧ ∀ c ∈ l, c.ok = true := by simp [madeB, and_assoc]
def madeR (k : List UInt8) (t n : Int) (l : List Cv) : Tk := ⟨t, n, l, strOf (sealT k t n l)⟩
theorem madeR_may {k : List UInt8} {t n : Int} {l : List Cv} (h : madeB t n l = true) : mayT (madeR k t n l) = true := by
  obtain ⟨h1, h2, h3⟩ := madeB_iff.1 h
  exact may_iff.2 ⟨h1, h2, by show (strOf (sealT k t n l)).size = 32; rw [strOf_size, seal_len], h3⟩
theorem madeF_good {k : List UInt8} {t n : Int} {l : List Cv} (hk : knownT t n = true) : ∀ i, i ≤ l.length → i ≤ 8 → (∀ c ∈ l.take i, c.ok = true) → madeF k t n l i = (madeR k t n (l.take i), 0)
  | 0, _, _, _ => by
    unfold madeF mintT
    rw [if_pos hk]
    rfl
  | i + 1, hi, h8, hok => by
    obtain ⟨c, hc⟩ : ∃ c, l[i]? = some c := ⟨_, List.getElem?_eq_getElem (by omega)⟩
    have hts := take_snocK hc
    have hok0 : ∀ c ∈ l.take i, c.ok = true := fun d hd => hok d (by rw [hts]; exact List.mem_append_left _ hd)
    have hcok : c.ok = true := hok c (by rw [hts]; simp)
    have ih := madeF_good (k := k) hk i (by omega) (by omega) hok0
    have hm : mayT (madeR k t n (l.take i)) = true := madeR_may (madeB_iff.2 ⟨hk, by rw [List.length_take]; omega, hok0⟩)
    rw [madeF_step hc (by rw [ih]), ih]
    unfold narrowT
    rw [if_pos ⟨hm, hcok⟩, if_neg (by show (l.take i).length ≠ 8; rw [List.length_take]; omega)]
    rw [hts]
    unfold madeR
    simp only
    rw [seal_snoc]
    rfl
theorem narrow_bad {t : Tk} {c : Cv} (h : (narrowT t c).2 ≠ 0) : (narrowT t c).1 = zeroT := by
  unfold narrowT at h ⊢
  split
  · split
    · rfl
    · next h1 h2 => rw [if_pos h1, if_neg h2] at h; exact absurd rfl h
  · rfl
theorem madeF_bad {k : List UInt8} {t n : Int} {l : List Cv} : ∀ i, (madeF k t n l i).2 ≠ 0 → (madeF k t n l i).1 = zeroT
  | 0, h => by
    unfold madeF mintT at h ⊢
    split
    · next h1 => rw [if_pos h1] at h; exact absurd rfl h
    · rfl
  | i + 1, h => by
    by_cases h0 : (madeF k t n l i).2 = 0
    · cases hc : l[i]? with
      | none =>
        have e : madeF k t n l (i + 1) = madeF k t n l i := by conv => lhs; unfold madeF; rw [if_pos h0, hc]
        rw [e] at h
        exact absurd h0 h
      | some c =>
        rw [madeF_step hc h0] at h ⊢
        exact narrow_bad h
    · have e := madeF_stop h0 1
      rw [e] at h ⊢
      exact madeF_bad i h
theorem madeF_fail {k : List UInt8} {t n : Int} {l : List Cv} (h : madeB t n l = false) : (madeF k t n l l.length).2 ≠ 0 := by
  cases hk : knownT t n with
  | false =>
    have h0 : (madeF k t n l 0).2 ≠ 0 := by unfold madeF mintT; rw [if_neg (by rw [hk]; decide)]; decide
    have e := madeF_stop h0 l.length
    rw [Nat.zero_add] at e
    rw [e]
    exact h0
  | true =>
    by_cases hall : ∀ c ∈ l.take 8, c.ok = true
    · by_cases hl : l.length ≤ 8
      · exfalso
        have : madeB t n l = true := madeB_iff.2 ⟨hk, hl, by rw [List.take_of_length_le hl] at hall; exact hall⟩
        rw [h] at this
        cases this
      · have h8 := madeF_good (k := k) hk 8 (by omega) (by omega) hall
        obtain ⟨c, hc⟩ : ∃ c, l[8]? = some c := ⟨_, List.getElem?_eq_getElem (by omega)⟩
        have h9 := madeF_step (k := k) (t := t) (n := n) hc (by rw [h8])
        have hne : (madeF k t n l 9).2 ≠ 0 := by
          rw [h9, h8]
          unfold narrowT
          split
          · rw [if_pos (by show (l.take 8).length = 8; rw [List.length_take]; omega)]; decide
          · decide
        have e := madeF_stop hne (l.length - 9)
        rw [show 9 + (l.length - 9) = l.length by omega] at e
        rw [e]
        exact hne
    · -- the first that isn't good
      have key : ∀ i, i ≤ 8 → i ≤ l.length → (∀ c ∈ l.take i, c.ok = true) ∨ (madeF k t n l i).2 ≠ 0 := by
        intro i
        induction i with
        | zero => intro _ _; exact .inl (by simp)
        | succ i ih =>
          intro h8 hl
          rcases ih (by omega) (by omega) with hg | hb
          · obtain ⟨c, hc⟩ : ∃ c, l[i]? = some c := ⟨_, List.getElem?_eq_getElem (by omega)⟩
            cases hcok : c.ok with
            | true => exact .inl (all_take hc hg hcok)
            | false =>
              refine .inr ?_
              have hgi := madeF_good (k := k) hk i (by omega) (by omega) hg
              rw [madeF_step hc (by rw [hgi])]
              unfold narrowT
              rw [if_neg (fun h => by rw [hcok] at h; exact absurd h.2 (by decide))]
              decide
          · exact .inr (by rw [madeF_stop hb 1]; exact hb)
      rcases key (min 8 l.length) (by omega) (by omega) with hg | hb
      · exfalso
        apply hall
        have e : l.take (min 8 l.length) = l.take 8 := by
          by_cases h8 : 8 ≤ l.length
          · rw [Nat.min_eq_left h8]
          · rw [Nat.min_eq_right (by omega), List.take_of_length_le (Nat.le_refl _), List.take_of_length_le (by omega)]
        rw [e] at hg
        exact hg
      · have e := madeF_stop hb (l.length - min 8 l.length)
        rw [show min 8 l.length + (l.length - min 8 l.length) = l.length by omega] at e
        rw [e]
        exact hb
/-- What made tells. -/
def madeT (k : List UInt8) (t n : Int) (l : List Cv) : Tk × Bool := if madeB t n l = true then (madeR k t n l, true) else (zeroT, false)
theorem madeT_of {k : List UInt8} {t n : Int} {l : List Cv} : madeT k t n l = ((madeF k t n l l.length).1, decide ((madeF k t n l l.length).2 = 0)) := by
  unfold madeT
  cases h : madeB t n l with
  | true =>
    obtain ⟨h1, h2, h3⟩ := madeB_iff.1 h
    have e := madeF_good (k := k) h1 l.length (Nat.le_refl _) h2 (by rw [List.take_of_length_le (Nat.le_refl _)]; exact h3)
    rw [List.take_of_length_le (Nat.le_refl _)] at e
    rw [e]
    rfl
  | false =>
    have h1 := madeF_fail (k := k) h
    rw [madeF_bad _ h1, decide_eq_false h1]
    rfl
/-- A token and a word of yes or no that are handed on; its caveats are new. -/
def MdOw (w : World) (r : Tk × Bool) (e : Ending) (w' : World) : Prop := ∃ (a : Option Addr) (n c : Nat), e = .returned (.tuple #[.agg #[.int .i64 r.1.tenant, .int .i64 r.1.number, .slice a n c, .string r.1.sig], .bool r.2]) ∧ Rw (fun x => w.heap.size ≤ x) w' 39 3 a n c (cvR r.1.cavs) ∧ Below w.heap.size w w'
/-- A token and a word of yes or no that are handed on. -/
def MdTo (w : World) (r : Tk × Bool) (e : Ending) (w' : World) : Prop := ∃ (a : Option Addr) (n c : Nat), e = .returned (.tuple #[.agg #[.int .i64 r.1.tenant, .int .i64 r.1.number, .slice a n c, .string r.1.sig], .bool r.2]) ∧ Kw w' a n c r.1.cavs ∧ Below w.heap.size w w'
theorem narrow_paths {t : Tk} {c : Cv} {M : Nat} (h : ∀ d ∈ t.cavs, d.path.size ≤ M) (hc : c.path.size ≤ M) : ∀ d ∈ (narrowT t c).1.cavs, d.path.size ≤ M := by
  unfold narrowT
  split
  · split
    · intro d hd; cases hd
    · intro d hd
      rcases List.mem_append.1 hd with hd | hd
      · exact h d hd
      · rw [List.mem_singleton.1 hd]; exact hc
  · intro d hd; cases hd
theorem madeF_paths {k : List UInt8} {t n : Int} {l : List Cv} {M : Nat} (h : ∀ d ∈ l, d.path.size ≤ M) : ∀ i, ∀ d ∈ (madeF k t n l i).1.cavs, d.path.size ≤ M
  | 0 => by
    unfold madeF mintT
    split <;> intro d hd <;> cases hd
  | i + 1 => by
    by_cases h0 : (madeF k t n l i).2 = 0
    · cases hc : l[i]? with
      | none =>
        have e : madeF k t n l (i + 1) = madeF k t n l i := by conv => lhs; unfold madeF; rw [if_pos h0, hc]
        rw [e]
        exact madeF_paths h i
      | some c =>
        rw [madeF_step hc h0]
        exact narrow_paths (madeF_paths h i) (h c (List.mem_of_getElem? hc))
    · rw [madeF_stop h0 1]
      exact madeF_paths h i
end Go.Proofs.YtcmdcmbiilfngabDoor
