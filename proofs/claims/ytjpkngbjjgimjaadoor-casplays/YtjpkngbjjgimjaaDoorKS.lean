/- What a table holds of a list of bytes that were put: nothing of the program. -/
import Derived.Test.YtjpkngbjjgimjaaDoorKR
namespace Go.Proofs.YtjpkngbjjgimjaaDoor
open Go.RowKit
def cnt (l : List ByteArray) (x : ByteArray) : Nat := (l.filter fun y => decide (y = x)).length
theorem cnt_pos {l : List ByteArray} {x : ByteArray} (h : 0 < cnt l x) : x ∈ l := by
  obtain ⟨y, hy⟩ := List.exists_mem_of_length_pos h
  obtain ⟨h1, h2⟩ := List.mem_filter.1 hy
  rw [← of_decide_eq_true h2]
  exact h1
theorem cnt_snoc (l : List ByteArray) (x y : ByteArray) : cnt (l ++ [y]) x = cnt l x + if y = x then 1 else 0 := by
  unfold cnt
  rw [List.filter_append, List.length_append]
  by_cases h : y = x
  · rw [if_pos h, List.filter_cons, decide_eq_true h, if_pos rfl]; rfl
  · rw [if_neg h, List.filter_cons, decide_eq_false h]; rfl
theorem cnt_none {l : List ByteArray} {x : ByteArray} (h : ¬ x ∈ l) : cnt l x = 0 := by
  rcases Nat.eq_zero_or_pos (cnt l x) with h1 | h1
  · exact h1
  · exact absurd (cnt_pos h1) h
theorem cnt_le (l : List ByteArray) (x : ByteArray) : cnt l x ≤ l.length := List.length_filter_le ..
/-- The content that stands in a table. -/
def In (W k : Nat) (T : List Pr) (c : Cn) : Prop := encP c ∈ T ∧ OkC W k c
/-- A table holds what was put, and nothing else: of the same bytes one content, with as many references as they were put. -/
structure Held (W : Nat) (T : List Pr) (l : List ByteArray) : Prop where
  tb : Tb W l.length T
  has : ∀ x ∈ l, ∃ c, In W l.length T c ∧ c.data = x
  own : ∀ c, In W l.length T c → c.sum = digW W c.data ∧ c.refs = cnt l c.data
  one : ∀ c c', In W l.length T c → In W l.length T c' → c.data = c'.data → c = c'
theorem Held.nil (W : Nat) : Held W [] [] := ⟨Tb.nil W 0 (by omega), (fun _ h => nomatch h), (fun c h => nomatch h.1), (fun c _ h => nomatch h.1)⟩
theorem get_unique {T : List Pr} (h : Rise T) {k v u : ByteArray} (hv : (k, v) ∈ T) (hu : (k, u) ∈ T) : v = u := by
  have h1 : getT T k = some v := (get_mem h hv).2
  have h2 : getT T k = some u := (get_mem h hu).2
  exact Option.some.inj (h1.symm.trans h2)
theorem enc_inj {W k : Nat} {c d : Cn} (hk : k ≤ 80000) (hc : OkC W k c) (hd : OkC W k d) (h : encP c = encP d) : c = d := by
  have h1 := hc.parse hk
  rw [h, hd.parse hk] at h1
  exact (Option.some.inj h1).symm
theorem key_inj {W k : Nat} {c d : Cn} (hc : OkC W k c) (hd : OkC W k d) (h : keyB c.sum c.n = keyB d.sum d.n) : c.sum = d.sum ∧ c.n = d.n := by
  have es : c.sum = d.sum := by
    refine key_eq (n := c.n) (m := d.n) (l := d.n) (hc.1.trans hd.1.symm) ?_ ?_
    · rw [h]; exact sl_irr _
    · rw [h]; exact sl_irr _
  refine ⟨es, ?_⟩
  rw [es] at h
  have hl := congrArg (fun x : ByteArray => x.data.toList) h
  simp only [keyB_list, List.cons.injEq, true_and] at hl
  have h6 := List.append_cancel_left hl
  simp only [List.cons.injEq, and_true] at h6
  have h7 := congrArg UInt8.toNat h6
  rw [ofNat_toNat c.n hc.2.1, ofNat_toNat d.n hd.2.1] at h7
  exact h7
/-- Two contents of a table that have one ID are one. -/
theorem In.id {W k : Nat} {T : List Pr} (h : Tb W k T) {c d : Cn} (hc : In W k T c) (hd : In W k T d) (he : ixOf c = ixOf d) : c = d := by
  obtain ⟨e1, e2⟩ := Prod.mk.inj (show (c.sum, c.n) = (d.sum, d.n) from he)
  refine enc_inj h.small hc.2 hd.2 ?_
  have h1 : (keyB c.sum c.n, valB c.refs c.data) ∈ T := hc.1
  have h2 : (keyB d.sum d.n, valB d.refs d.data) ∈ T := hd.1
  rw [e1, e2] at h1
  show (keyB c.sum c.n, valB c.refs c.data) = (keyB d.sum d.n, valB d.refs d.data)
  rw [e1, e2, get_unique h.rise h1 h2]
theorem Held.there {W : Nat} {T : List Pr} {l : List ByteArray} (h : Held W T l) (hW : W ≤ 32) (data : ByteArray) : There W T data ↔ data ∈ l := by
  constructor
  · rintro ⟨c, hc, rfl⟩
    obtain ⟨h1, h2, _⟩ := (h.tb.mem (digW_size W hW _) c).1 hc
    have h3 := (h.own c ⟨h1, h2⟩).2
    have h4 := h2.2.2.1
    exact cnt_pos (by omega)
  · intro hm
    obtain ⟨c, hc, rfl⟩ := h.has data hm
    exact ⟨c, (h.tb.mem (digW_size W hW _) c).2 ⟨hc.1, hc.2, (h.own c hc).1⟩, rfl⟩
/-- What is in a table behind a Put. -/
theorem in_put {W k : Nat} {T : List Pr} {c : Cn} (h : Tb W k T) (hc : OkC W (k + 1) { c with refs := c.refs + 1 }) (hk : k + 1 ≤ 80000) (d : Cn) :
    In W (k + 1) (putT T (keyB c.sum c.n) (valB (c.refs + 1) c.data)) d ↔ d = { c with refs := c.refs + 1 } ∨ (In W k T d ∧ ixOf d ≠ ixOf c) := by
  constructor
  · rintro ⟨h1, h2⟩
    rcases mem_put h1 with h9 | h9
    · obtain ⟨d', e, hok⟩ := h.each _ h9
      have hdd : d = d' := enc_inj hk h2 (hok.mono (by omega)) e
      subst hdd
      by_cases he : ixOf d = ixOf c
      · obtain ⟨e1, e2⟩ := Prod.mk.inj (show (d.sum, d.n) = (c.sum, c.n) from he)
        left
        have hr := (h.rise.put (keyB c.sum c.n) (valB (c.refs + 1) c.data))
        have hin : (keyB c.sum c.n, valB (c.refs + 1) c.data) ∈ putT T (keyB c.sum c.n) (valB (c.refs + 1) c.data) := by
          unfold putT
          exact List.mem_append_right _ (List.mem_cons_self ..)
        have hin2 : (keyB d.sum d.n, valB d.refs d.data) ∈ putT T (keyB c.sum c.n) (valB (c.refs + 1) c.data) := h1
        rw [e1, e2] at hin2
        have := get_unique hr hin2 hin
        refine enc_inj hk h2 hc ?_
        show (keyB d.sum d.n, valB d.refs d.data) = (keyB c.sum c.n, valB (c.refs + 1) c.data)
        rw [e1, e2, this]
      · exact .inr ⟨⟨h9, hok⟩, he⟩
    · left
      exact enc_inj hk h2 hc h9
  · rintro (rfl | ⟨⟨h1, h2⟩, h3⟩)
    · refine ⟨?_, hc⟩
      unfold putT
      exact List.mem_append_right _ (List.mem_cons_self ..)
    · refine ⟨?_, h2.mono (by omega)⟩
      have hp := parted_at (T := T) (keyB c.sum c.n)
      rw [hp] at h1
      unfold putT
      rcases List.mem_append.1 h1 with h1 | h1
      · exact List.mem_append_left _ h1
      · rcases List.mem_append.1 h1 with h1 | h1
        · exfalso
          cases hg : getT T (keyB c.sum c.n) with
          | none => rw [hg] at h1; cases h1
          | some v =>
            rw [hg] at h1
            simp only [List.mem_cons, List.not_mem_nil, or_false] at h1
            have hk1 : keyB d.sum d.n = keyB c.sum c.n := (Prod.mk.inj (show (keyB d.sum d.n, valB d.refs d.data) = (keyB c.sum c.n, v) from h1)).1
            have := key_inj (d := { c with refs := c.refs + 1 }) (h2.mono (by omega)) hc hk1
            exact h3 (Prod.ext this.1 this.2)
        · exact List.mem_append_right _ (List.mem_cons_of_mem _ h1)
/-- What a Put of bytes leaves of what is held, and the ID that it tells. -/
theorem Held.put {W : Nat} {T : List Pr} {l : List ByteArray} (h : Held W T l) (hW : W ≤ 32) {data : ByteArray} (hd : data.size ≤ 128) (hk : l.length + 1 ≤ 200) :
    Held W (putT T (keyB (namedF W T data).sum (namedF W T data).n) (valB ((namedF W T data).refs + 1) (namedF W T data).data)) (l ++ [data]) ∧ (namedF W T data).data = data ∧ (namedF W T data).n < 256 ∧ (namedF W T data).refs = cnt l data ∧ (namedF W T data).sum = digW W data ∧ (∀ d, In W l.length T d → (ixOf d = ixOf (namedF W T data) ↔ d.data = data)) ∧ ∀ d, In W (l.length + 1) (putT T (keyB (namedF W T data).sum (namedF W T data).n) (valB ((namedF W T data).refs + 1) (namedF W T data).data)) d ↔ d = { namedF W T data with refs := (namedF W T data).refs + 1 } ∨ (In W l.length T d ∧ ixOf d ≠ ixOf (namedF W T data)) := by
  have key : (namedF W T data).data = data ∧ (namedF W T data).n < 256 ∧ (namedF W T data).refs = cnt l data ∧ (namedF W T data).sum = digW W data ∧ ∀ d, In W l.length T d → (ixOf d = ixOf (namedF W T data) ↔ d.data = data) := by
    by_cases ht : There W T data
    · obtain ⟨o1, o2, o3, o4⟩ := h.tb.old hW ht
      have hin : In W l.length T (namedF W T data) := ⟨o1, o2⟩
      refine ⟨o3, o2.2.1, by rw [(h.own _ hin).2, o3], o4, fun d hd => ⟨fun e => ?_, fun e => ?_⟩⟩
      · rw [In.id h.tb hd hin e, o3]
      · rw [h.one d _ hd hin (by rw [e, o3])]
    · obtain ⟨m, e1, e2, e3⟩ := h.tb.new hW ht
      have hfew := h.tb.few
      have hnm := fun hm => ht ((h.there hW data).2 hm)
      rw [e1]
      refine ⟨rfl, by show m < 256; omega, (cnt_none hnm).symm, rfl, fun d hd => ⟨fun e => ?_, fun e => ?_⟩⟩
      · exfalso
        obtain ⟨g1, g2⟩ := Prod.mk.inj (show (d.sum, d.n) = (digW W data, m) from e)
        have h1 := (get_mem h.tb.rise hd.1).1
        have h1 : isT T (keyB d.sum d.n) = true := h1
        rw [g1, g2, e3 (by omega)] at h1
        cases h1
      · exact absurd (cnt_pos (by have := (h.own d hd).2; have := hd.2.2.2.1; rw [← e]; omega)) hnm
  obtain ⟨k1, k2, k3, k4, k5⟩ := key
  obtain ⟨c, hc⟩ : ∃ c, namedF W T data = c := ⟨_, rfl⟩
  rw [hc] at k1 k2 k3 k4 k5 ⊢
  have hcl := cnt_le l data
  have hok : OkC W (l.length + 1) { c with refs := c.refs + 1 } := ⟨by rw [k4]; exact digW_size W hW data, k2, by show 1 ≤ c.refs + 1; omega, by show c.refs + 1 ≤ l.length + 1; omega, by show c.data.size ≤ 128; rw [k1]; exact hd⟩
  have hin := in_put (c := c) h.tb hok (by omega)
  have hl : (l ++ [data]).length = l.length + 1 := by simp
  refine ⟨⟨?_, ?_, ?_, ?_⟩, k1, k2, k3, k4, k5, hin⟩
  · rw [hl]
    exact h.tb.put (by omega) hok.1 k2 (by omega) hok.2.2.2.2
  · rw [hl]
    intro x hx
    by_cases he : x = data
    · exact ⟨_, (hin _).2 (.inl rfl), by rw [he]; exact k1⟩
    · rcases List.mem_append.1 hx with hx | hx
      · obtain ⟨d, hd, hdx⟩ := h.has x hx
        exact ⟨d, (hin d).2 (.inr ⟨hd, fun e => he (by rw [← hdx]; exact (k5 d hd).1 e)⟩), hdx⟩
      · simp only [List.mem_cons, List.not_mem_nil, or_false] at hx
        exact absurd hx he
  · rw [hl]
    intro d hd
    rcases (hin d).1 hd with rfl | ⟨hd, hne⟩
    · refine ⟨by show c.sum = digW W c.data; rw [k4, k1], ?_⟩
      show c.refs + 1 = _
      rw [cnt_snoc, k1, if_pos rfl, k3]
    · refine ⟨(h.own d hd).1, ?_⟩
      rw [cnt_snoc, if_neg (fun e => hne ((k5 d hd).2 e.symm)), (h.own d hd).2]
      rfl
  · rw [hl]
    intro d e hd he hde
    rcases (hin d).1 hd with rfl | ⟨hd, hne⟩
    · rcases (hin e).1 he with rfl | ⟨he, hne⟩
      · rfl
      · exact absurd ((k5 e he).2 (by rw [← hde]; exact k1)) hne
    · rcases (hin e).1 he with rfl | ⟨he, hne'⟩
      · exact absurd ((k5 d hd).2 (by rw [hde]; exact k1)) hne
      · exact h.one d e hd he hde
end Go.Proofs.YtjpkngbjjgimjaaDoor
