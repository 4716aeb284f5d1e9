/- A table of contents with one entry beside them: nothing of the program. -/
import Derived.Test.YtjpkngbjjgimjaaDoorKW
namespace Go.Proofs.YtjpkngbjjgimjaaDoor
open Go.RowKit
/-- A key that is no content's. -/
def Oth (k0 : ByteArray) : Prop := ∃ b l, k0.data.toList = b :: l ∧ b ≠ 99
theorem Oth.ne {k0 : ByteArray} (h : Oth k0) (s : ByteArray) (n : Nat) : keyB s n ≠ k0 := by
  rintro rfl
  obtain ⟨b, l, e, hb⟩ := h
  rw [keyB_list] at e
  simp only [List.cons.injEq] at e
  exact hb e.1.symm
theorem Oth.out {k0 : ByteArray} (h : Oth k0) (s t : ByteArray) (n m : Nat) : sl k0 (keyB s n) = true ∨ sl (keyB t m) k0 = true := by
  obtain ⟨b, l, e, hb⟩ := h
  rw [sl_list, sl_list, keyB_list, keyB_list, e]
  simp only [Op.bytesLess, Bool.or_eq_true, decide_eq_true_eq, Bool.and_eq_true, beq_iff_eq]
  have h1 : b.toNat ≠ (99 : UInt8).toNat := fun e => hb (UInt8.toNat_inj.1 e)
  rcases Nat.lt_or_ge b.toNat (99 : UInt8).toNat with h2 | h2
  · exact .inl (.inl (UInt8.lt_iff_toNat_lt.2 h2))
  · exact .inr (.inl (UInt8.lt_iff_toNat_lt.2 (by omega)))
theorem get_iff {T : List Pr} (h : Rise T) (k v : ByteArray) : getT T k = some v ↔ (k, v) ∈ T := by
  constructor
  · intro hg
    exact mem_high (by rw [(get_some hg).2]; exact List.mem_cons_self ..)
  · intro hm
    exact (get_mem h hm).2
theorem get_same {A B : List Pr} (hA : Rise A) (hB : Rise B) (k : ByteArray) (h : ∀ v, (k, v) ∈ A ↔ (k, v) ∈ B) : getT A k = getT B k ∧ isT A k = isT B k := by
  have e : getT A k = getT B k := by
    cases hg : getT A k with
    | none =>
      cases hg2 : getT B k with
      | none => rfl
      | some v =>
        have := (get_iff hA k v).2 ((h v).2 ((get_iff hB k v).1 hg2))
        rw [hg] at this
        cases this
    | some v => exact ((get_iff hB k v).2 ((h v).1 ((get_iff hA k v).1 hg))).symm
  refine ⟨e, ?_⟩
  cases hg : getT A k with
  | none =>
    rw [(get_none hg).1, (get_none (e.symm.trans hg)).1]
  | some v =>
    rw [(get_some hg).1, (get_some (e.symm.trans hg)).1]
section
variable {W k : Nat} {T : List Pr} {k0 v0 : ByteArray}
theorem Tb.oth (h : Tb W k T) (h0 : Oth k0) {p : Pr} (hp : p ∈ T) : p.1 ≠ k0 := by
  obtain ⟨c, rfl, _⟩ := h.each p hp
  exact h0.ne c.sum c.n
theorem bes_mem (h : Tb W k T) (h0 : Oth k0) (p : Pr) : p ∈ putT T k0 v0 ↔ p = (k0, v0) ∨ p ∈ T := by
  rw [put_mem h.rise]
  constructor
  · rintro (e | ⟨e, _⟩)
    · exact .inl e
    · exact .inr e
  · rintro (e | e)
    · exact .inl e
    · exact .inr ⟨e, h.oth h0 e⟩
theorem bes_isT (h : Tb W k T) (h0 : Oth k0) : isT T k0 = false := by
  cases hi : isT T k0 with
  | false => rfl
  | true =>
    obtain ⟨v, hv⟩ := isT_mem hi
    exact absurd rfl (h.oth h0 hv)
theorem bes_len (h : Tb W k T) (h0 : Oth k0) : (putT T k0 v0).length = T.length + 1 := put_more v0 (bes_isT h h0)
theorem bes_betw (h : Tb W k T) (h0 : Oth k0) (a b : ByteArray) : betw W (putT T k0 v0) a b = betw W T a b := by
  have hl := bes_len (v0 := v0) h h0
  have hf := h.few
  have hs := h.small
  unfold betw
  rw [range_full _ _ _ (by omega), range_full _ _ _ (by omega)]
  congr 1
  refine rise_ext (mid_rise (h.rise.put _ _) _ _) (mid_rise h.rise _ _) fun p => ?_
  unfold midT
  rw [List.mem_filter, List.mem_filter, bes_mem h h0]
  constructor
  · rintro ⟨rfl | h1, h2⟩
    · exfalso
      simp only [Bool.and_eq_true, Bool.not_eq_true'] at h2
      rcases h0.out a b 0 255 with h3 | h3
      · rw [h3] at h2; cases h2.1
      · rw [h3] at h2; cases h2.2
    · exact ⟨h1, h2⟩
  · rintro ⟨h1, h2⟩
    exact ⟨.inr h1, h2⟩
theorem bes_named (h : Tb W k T) (h0 : Oth k0) (data : ByteArray) : namedF W (putT T k0 v0) data = namedF W T data := by
  unfold namedF alikeL
  rw [bes_betw h h0]
theorem bes_all (h : Tb W k T) (h0 : Oth k0) : allC W (putT T k0 v0) = allC W T := by
  unfold allC
  rw [bes_betw h h0]
theorem bes_get (h : Tb W k T) (h0 : Oth k0) (s : ByteArray) (n : Nat) : getT (putT T k0 v0) (keyB s n) = getT T (keyB s n) ∧ isT (putT T k0 v0) (keyB s n) = isT T (keyB s n) :=
  get_same (h.rise.put _ _) h.rise _ fun v => by
    rw [bes_mem h h0]
    constructor
    · rintro (e | e)
      · exact absurd (Prod.mk.inj e).1 (h0.ne s n)
      · exact e
    · exact .inr
theorem bes_look (h : Tb W k T) (h0 : Oth k0) (s : ByteArray) (n : Int) : lookF W (putT T k0 v0) s n = lookF W T s n := by
  unfold lookF
  rw [(bes_get h h0 s n.toNat).1, (bes_get h h0 s n.toNat).2]
theorem bes_put (h : Tb W k T) (h0 : Oth k0) (s : ByteArray) (n : Nat) (u : ByteArray) : putT (putT T k0 v0) (keyB s n) u = putT (putT T (keyB s n) u) k0 v0 := by
  refine rise_ext ((h.rise.put _ _).put _ _) ((h.rise.put _ _).put _ _) fun p => ?_
  rw [put_mem (h.rise.put _ _), put_mem h.rise, put_mem (h.rise.put _ _), put_mem h.rise]
  have hne := h0.ne s n
  constructor
  · rintro (rfl | ⟨rfl | ⟨h1, h2⟩, h3⟩)
    · exact .inr ⟨.inl rfl, hne⟩
    · exact .inl rfl
    · exact .inr ⟨.inr ⟨h1, h3⟩, h2⟩
  · rintro (rfl | ⟨rfl | ⟨h1, h2⟩, h3⟩)
    · exact .inr ⟨.inl rfl, hne.symm⟩
    · exact .inl rfl
    · exact .inr ⟨.inr ⟨h1, h3⟩, h2⟩
theorem bes_drop (h : Tb W k T) (h0 : Oth k0) (s : ByteArray) (n : Nat) : dropT (putT T k0 v0) (keyB s n) = putT (dropT T (keyB s n)) k0 v0 := by
  refine rise_ext ((h.rise.put _ _).drop _) ((h.rise.drop _).put _ _) fun p => ?_
  rw [drop_mem (h.rise.put _ _), put_mem h.rise, put_mem (h.rise.drop _), drop_mem h.rise]
  have hne := h0.ne s n
  constructor
  · rintro ⟨rfl | ⟨h1, h2⟩, h3⟩
    · exact .inl rfl
    · exact .inr ⟨⟨h1, h3⟩, h2⟩
  · rintro (rfl | ⟨⟨h1, h2⟩, h3⟩)
    · exact ⟨.inl rfl, hne.symm⟩
    · exact ⟨.inr ⟨h1, h3⟩, h2⟩
end
theorem bes_one (k0 v0 : ByteArray) : putT [] k0 v0 = [(k0, v0)] := by
  unfold putT restT isT lowT highT
  simp [hasK]
theorem bes_got (k0 v0 : ByteArray) : getT [(k0, v0)] k0 = some v0 ∧ isT [(k0, v0)] k0 = true := by
  unfold getT isT highT
  simp [sl_irr, hasK]
theorem oth_of {k0 : ByteArray} {b : Nat} (h1 : 0 < k0.size) (hb : (k0.data.toList.getD 0 0).toNat = b) (h : b ≠ 99) : Oth k0 := by
  cases e : k0.data.toList with
  | nil =>
    have : k0.data.toList.length = k0.size := rfl
    rw [e] at this
    simp at this
    omega
  | cons x l =>
    refine ⟨x, l, e, fun hx => h ?_⟩
    rw [← hb, e, hx]
    rfl
theorem cellsPr : Tryd.prog.cellsOf 63 = 2 := by kernel_rfl
set_option maxRecDepth 100000 in
/-- An entry read out of two cells. -/
theorem pair_of {H : Type} {enc : TypeId × Value → H} {W : World} {base : Nat} {spare : Nat → Bool} {held : Bool} {fuel : Nat} {cs : List Value} {x : DataW H × List MemPlace} (hf : DataW.trod enc Tryd.prog W base spare held fuel 63 cs = some x)
    (hw : ∀ n ∈ x.1.weights Tryd.prog 63, n ≤ reachBytes) : ∃ (s t : ByteArray), cs = [.string s, .string t] ∧ s.size ≤ 140737488351232 ∧ t.size ≤ 140737488351232 := by
  obtain ⟨xs, n, _, hx0, hl, hx, hi⟩ := DataW.trod_struct Tryd.underlying63 hf
  rw [cellsPr] at hl
  match cs, hl with
  | [c0, c1], _ =>
    match xs, hx with
    | [x0, x1], _ =>
      have h0 : DataW.trod enc Tryd.prog W base spare held n 9 (([c0, c1].drop 0).take (Tryd.prog.cellsOf 9)) = some x0 := hi 0 _ rfl
      rw [show Tryd.prog.cellsOf 9 = 1 by kernel_rfl, show ([c0, c1].drop 0).take 1 = [c0] from rfl] at h0
      have h1 : DataW.trod enc Tryd.prog W base spare held n 9 (([c0, c1].drop 1).take (Tryd.prog.cellsOf 9)) = some x1 := hi 1 _ rfl
      rw [show Tryd.prog.cellsOf 9 = 1 by kernel_rfl, show ([c0, c1].drop 1).take 1 = [c1] from rfl] at h1
      obtain ⟨y0, e0, f0, w0⟩ := DataW.trod_string Tryd.underlying9 h0
      obtain ⟨y1, e1, f1, w1⟩ := DataW.trod_string Tryd.underlying9 h1
      simp only [List.cons.injEq, and_true] at e0 e1
      subst e0 e1
      subst hx0
      have key0 : y0.size ≤ 140737488351232 := by
        have := hw y0.data.toList.length (by
          simp only [DataW.weights, Tryd.underlying63]
          exact DataW.weights_mem_each (ts := [9, 9]) (j := 0) rfl (d := .lit (.string y0.data.toList)) (by simp [f0]) _ (by simp [DataW.weights]))
        simpa [reachBytes] using this
      have key1 : y1.size ≤ 140737488351232 := by
        have := hw y1.data.toList.length (by
          simp only [DataW.weights, Tryd.underlying63]
          exact DataW.weights_mem_each (ts := [9, 9]) (j := 1) rfl (d := .lit (.string y1.data.toList)) (by simp [f1]) _ (by simp [DataW.weights]))
        simpa [reachBytes] using this
      exact ⟨y0, y1, rfl, key0, key1⟩
set_option maxRecDepth 100000 in
theorem pair_arg {H : Type} {enc : TypeId × Value → H} {W : World} {b0 base : Nat} {spare : Nat → Bool} {held : Bool} {v : Value} {d : DataW H} {p : List MemPlace} {ts : List TypeId} {ds : List (DataW H)} {j : Nat} (hv : Value.okWide Tryd.prog W .any b0 63 v) (h : DataW.Trod enc Tryd.prog W base spare held 63 v d p)
    (hsz : (DataW.weightsEach Tryd.prog ts ds).all (· ≤ reachBytes) = true) (ht : ts[j]? = some 63) (hd : ds[j]? = some d) : ∃ (s t : ByteArray), v = .agg #[.string s, .string t] ∧ s.size ≤ 140737488351232 ∧ t.size ≤ 140737488351232 := by
  unfold Value.okWide at hv
  rw [Tryd.underlying63] at hv
  obtain ⟨cs, rfl, _, _⟩ := hv
  obtain ⟨fuel, hf⟩ := h
  obtain ⟨s, t, ho, h1, h2⟩ := pair_of (cs := cs.toList) (by simpa [Value.cells] using hf) (fun n hn => by
    have := List.all_eq_true.1 hsz n (DataW.weights_mem_each ht hd n hn)
    simpa using this)
  exact ⟨s, t, by congr 1; exact Array.toList_inj.1 ho, h1, h2⟩
end Go.Proofs.YtjpkngbjjgimjaaDoor
