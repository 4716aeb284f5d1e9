/- A content of a table is set, or goes; how many references each has of a list of IDs: nothing of the program. -/
import Derived.Test.YtjpkngbjjgimjaaDoorKU
namespace Go.Proofs.YtjpkngbjjgimjaaDoor
open Go.RowKit
theorem put_mem {T : List Pr} (h : Rise T) (k v : ByteArray) (p : Pr) : p ∈ putT T k v ↔ p = (k, v) ∨ (p ∈ T ∧ p.1 ≠ k) := by
  have hin : (k, v) ∈ putT T k v := by unfold putT; exact List.mem_append_right _ (List.mem_cons_self ..)
  constructor
  · intro hp
    by_cases he : p = (k, v)
    · exact .inl he
    · refine .inr ⟨(mem_put hp).resolve_right he, fun e => he ?_⟩
      obtain ⟨p1, p2⟩ := p
      simp only at e
      subst e
      rw [get_unique (h.put p1 v) hp hin]
  · rintro (rfl | ⟨h1, h2⟩)
    · exact hin
    · have hp := parted_at (T := T) k
      rw [hp] at h1
      unfold putT
      rcases List.mem_append.1 h1 with h1 | h1
      · exact List.mem_append_left _ h1
      · rcases List.mem_append.1 h1 with h1 | h1
        · exfalso
          cases hg : getT T k with
          | none => rw [hg] at h1; cases h1
          | some u =>
            rw [hg] at h1
            simp only [List.mem_cons, List.not_mem_nil, or_false] at h1
            exact h2 (by rw [h1])
        · exact List.mem_append_right _ (List.mem_cons_of_mem _ h1)
theorem drop_mem {T : List Pr} (h : Rise T) (k : ByteArray) (p : Pr) : p ∈ dropT T k ↔ p ∈ T ∧ p.1 ≠ k := by
  constructor
  · intro hp
    unfold dropT at hp
    rcases List.mem_append.1 hp with hp | hp
    · exact ⟨mem_low hp, sl_ne (low_lt p hp)⟩
    · exact ⟨mem_high (rest_sub T k p hp), (sl_ne ((rest_gt h k).2 p hp)).symm⟩
  · rintro ⟨h1, h2⟩
    have hp := parted_at (T := T) k
    rw [hp] at h1
    unfold dropT
    rcases List.mem_append.1 h1 with h1 | h1
    · exact List.mem_append_left _ h1
    · rcases List.mem_append.1 h1 with h1 | h1
      · exfalso
        cases hg : getT T k with
        | none => rw [hg] at h1; cases h1
        | some u =>
          rw [hg] at h1
          simp only [List.mem_cons, List.not_mem_nil, or_false] at h1
          exact h2 (by rw [h1])
      · exact List.mem_append_right _ h1
theorem rise_ext : ∀ {A B : List Pr}, Rise A → Rise B → (∀ p, p ∈ A ↔ p ∈ B) → A = B
  | [], [], _, _, _ => rfl
  | [], b :: B, _, _, h => absurd ((h b).2 (List.mem_cons_self ..)) (by simp)
  | a :: A, [], _, _, h => absurd ((h a).1 (List.mem_cons_self ..)) (by simp)
  | a :: A, b :: B, hA, hB, h => by
    obtain ⟨a1, a2⟩ := List.pairwise_cons.1 hA
    obtain ⟨b1, b2⟩ := List.pairwise_cons.1 hB
    have e : a = b := by
      rcases List.mem_cons.1 ((h a).1 (List.mem_cons_self ..)) with e | e
      · exact e
      · rcases List.mem_cons.1 ((h b).2 (List.mem_cons_self ..)) with e' | e'
        · exact e'.symm
        · have h1 := b1 a e
          have h2 := a1 b e'
          rw [sl_asym h1] at h2
          cases h2
    subst e
    rw [rise_ext a2 b2 fun p => ?_]
    constructor
    · intro hp
      rcases List.mem_cons.1 ((h p).1 (List.mem_cons_of_mem _ hp)) with e | e
      · have := a1 p hp
        rw [e, sl_irr] at this
        cases this
      · exact e
    · intro hp
      rcases List.mem_cons.1 ((h p).2 (List.mem_cons_of_mem _ hp)) with e | e
      · have := b1 p hp
        rw [e, sl_irr] at this
        cases this
      · exact e
theorem keys_inj {W : Nat} {s t : ByteArray} {n m : Nat} (hs : s.size = W) (ht : t.size = W) (hn : n < 256) (hm : m < 256) (h : keyB s n = keyB t m) : s = t ∧ n = m := by
  have es : s = t := by
    refine key_eq (n := n) (m := m) (l := m) (hs.trans ht.symm) ?_ ?_
    · rw [h]; exact sl_irr _
    · rw [h]; exact sl_irr _
  refine ⟨es, ?_⟩
  rw [es] at h
  have hl := congrArg (fun x : ByteArray => x.data.toList) h
  simp only [keyB_list, List.cons.injEq, true_and] at hl
  have h6 := List.append_cancel_left hl
  simp only [List.cons.injEq, and_true] at h6
  have h7 := congrArg UInt8.toNat h6
  rw [ofNat_toNat n hn, ofNat_toNat m hm] at h7
  exact h7
section
variable {W k : Nat} {T : List Pr} {c : Cn}
theorem in_set (h : Tb W k T) (hc : OkC W k c) (d : Cn) : In W k (putT T (keyB c.sum c.n) (valB c.refs c.data)) d ↔ d = c ∨ (In W k T d ∧ ixOf d ≠ ixOf c) := by
  constructor
  · rintro ⟨h1, h2⟩
    rcases (put_mem h.rise _ _ _).1 h1 with h9 | ⟨h9, h8⟩
    · exact .inl (enc_inj h.small h2 hc h9)
    · refine .inr ⟨⟨h9, h2⟩, fun e => h8 ?_⟩
      obtain ⟨e1, e2⟩ := Prod.mk.inj (show (d.sum, d.n) = (c.sum, c.n) from e)
      show keyB d.sum d.n = _
      rw [e1, e2]
  · rintro (rfl | ⟨⟨h1, h2⟩, h3⟩)
    · exact ⟨(put_mem h.rise _ _ _).2 (.inl rfl), hc⟩
    · refine ⟨(put_mem h.rise _ _ _).2 (.inr ⟨h1, fun e => h3 ?_⟩), h2⟩
      have := key_inj h2 hc e
      exact Prod.ext this.1 this.2
theorem in_drop (h : Tb W k T) (hc : OkC W k c) (d : Cn) : In W k (dropT T (keyB c.sum c.n)) d ↔ In W k T d ∧ ixOf d ≠ ixOf c := by
  constructor
  · rintro ⟨h1, h2⟩
    obtain ⟨h9, h8⟩ := (drop_mem h.rise _ _).1 h1
    refine ⟨⟨h9, h2⟩, fun e => h8 ?_⟩
    obtain ⟨e1, e2⟩ := Prod.mk.inj (show (d.sum, d.n) = (c.sum, c.n) from e)
    show keyB d.sum d.n = _
    rw [e1, e2]
  · rintro ⟨⟨h1, h2⟩, h3⟩
    refine ⟨(drop_mem h.rise _ _).2 ⟨h1, fun e => h3 ?_⟩, h2⟩
    have := key_inj h2 hc e
    exact Prod.ext this.1 this.2
theorem Tb.set (h : Tb W k T) (hc : OkC W k c) (hl : isT T (keyB c.sum c.n) = true ∨ T.length < k) : Tb W k (putT T (keyB c.sum c.n) (valB c.refs c.data)) := by
  refine ⟨h.rise.put _ _, fun p hp => ?_, ?_, h.small⟩
  · rcases mem_put hp with hp | rfl
    · exact h.each p hp
    · exact ⟨c, rfl, hc⟩
  · rcases hl with hl | hl
    · rw [put_same _ hl]
      exact h.few
    · have := put_len T (keyB c.sum c.n) (valB c.refs c.data)
      omega
theorem Tb.drop (h : Tb W k T) (key : ByteArray) : Tb W k (dropT T key) :=
  ⟨h.rise.drop _, fun p hp => h.each p ((drop_mem h.rise _ _).1 hp).1, Nat.le_trans (drop_len ..) h.few, h.small⟩
theorem In.up {k' : Nat} (h : Tb W k T) (hk : k ≤ k') (hs : k' ≤ 80000) : In W k' T c ↔ In W k T c := by
  constructor
  · rintro ⟨h1, h2⟩
    obtain ⟨d, e, hok⟩ := h.each _ h1
    have := enc_inj hs h2 (hok.mono hk) e
    subst this
    exact ⟨h1, hok⟩
  · rintro ⟨h1, h2⟩
    exact ⟨h1, h2.mono hk⟩
theorem look_in (h : Tb W k T) {s : ByteArray} {n : Int} (hl : lookF W T s n = some c) : In W k T c ∧ c.sum = s ∧ (c.n : Int) = n := by
  unfold lookF at hl
  split at hl
  · rename_i hh
    obtain ⟨h1, h2, h3, h4⟩ := hh
    obtain ⟨v, hv⟩ := isT_mem h4
    obtain ⟨d, e, hok⟩ := h.each _ hv
    have hg : getT T (keyB s n.toNat) = some v := (get_mem h.rise hv).2
    rw [hg] at hl
    have e' : (keyB s n.toNat, v) = encP d := e
    have hl : parseF W (keyB s n.toNat, v) = some c := hl
    rw [e', hok.parse h.small] at hl
    obtain rfl := Option.some.inj hl
    obtain ⟨k1, _⟩ := Prod.mk.inj (show (keyB s n.toNat, v) = (keyB d.sum d.n, valB d.refs d.data) from e')
    obtain ⟨g1, g2⟩ := keys_inj h1 hok.1 (by omega) hok.2.1 k1
    exact ⟨⟨by rw [← e']; exact hv, hok⟩, g1.symm, by omega⟩
  · cases hl
end
def cid (l : List Ix) (x : Ix) : Nat := (l.filter fun y => decide (y = x)).length
theorem cid_app (a b : List Ix) (x : Ix) : cid (a ++ b) x = cid a x + cid b x := by unfold cid; rw [List.filter_append, List.length_append]
theorem cid_one (y x : Ix) : cid [y] x = if y = x then 1 else 0 := by
  unfold cid
  by_cases h : y = x
  · rw [if_pos h, List.filter_cons, decide_eq_true h, if_pos rfl]; rfl
  · rw [if_neg h, List.filter_cons, decide_eq_false h]; rfl
theorem cid_pos {l : List Ix} {x : Ix} (h : 0 < cid l x) : x ∈ l := by
  obtain ⟨y, hy⟩ := List.exists_mem_of_length_pos h
  obtain ⟨h1, h2⟩ := List.mem_filter.1 hy
  rw [← of_decide_eq_true h2]
  exact h1
theorem cid_mem {l : List Ix} {x : Ix} (h : x ∈ l) : 0 < cid l x := List.length_pos_of_mem (List.mem_filter.2 ⟨h, by simp⟩)
theorem cid_le (l : List Ix) (x : Ix) : cid l x ≤ l.length := List.length_filter_le ..
/-- The references of each content are as many as a list has of its ID. -/
structure Rf (W k : Nat) (T : List Pr) (ids : List Ix) : Prop where
  tb : Tb W k T
  refs : ∀ c, In W k T c → c.refs = cid ids (ixOf c)
  has : ∀ x ∈ ids, ∃ c, In W k T c ∧ ixOf c = x
section
variable {W k : Nat} {T : List Pr} {ids : List Ix}
theorem Rf.nil (W k : Nat) (hk : k ≤ 80000) : Rf W k [] [] := ⟨Tb.nil W k hk, (fun _ h => nomatch h.1), (fun _ h => nomatch h)⟩
theorem Rf.more (h : Rf W k T ids) {c : Cn} (hc : OkC W k { c with refs := c.refs + 1 }) (hr : c.refs = cid ids (ixOf c)) (hl : isT T (keyB c.sum c.n) = true ∨ T.length < k) : Rf W k (putT T (keyB c.sum c.n) (valB (c.refs + 1) c.data)) (ids ++ [ixOf c]) := by
  have hin := in_set (c := { c with refs := c.refs + 1 }) h.tb hc
  refine ⟨h.tb.set (c := { c with refs := c.refs + 1 }) hc hl, fun d hd => ?_, fun x hx => ?_⟩
  · rw [cid_app, cid_one]
    rcases (hin d).1 hd with rfl | ⟨hd, hne⟩
    · show c.refs + 1 = cid ids (ixOf c) + if ixOf c = ixOf c then 1 else 0
      rw [if_pos rfl, hr]
    · rw [if_neg (fun e => hne e.symm), h.refs d hd]
      rfl
  · by_cases he : x = ixOf c
    · exact ⟨_, (hin _).2 (.inl rfl), he.symm⟩
    · rcases List.mem_append.1 hx with hx | hx
      · obtain ⟨d, hd, e⟩ := h.has x hx
        exact ⟨d, (hin d).2 (.inr ⟨hd, fun e' => he (by rw [← e]; exact e')⟩), e⟩
      · simp only [List.mem_cons, List.not_mem_nil, or_false] at hx
        exact absurd hx he
/-- What a Put of bytes leaves. -/
theorem Rf.put (h : Rf W k T ids) (hW : W ≤ 32) {data : ByteArray} (hd : data.size ≤ 128) (hi : ids.length < k) (hT : T.length < k) (hT2 : T.length < 256) :
    Rf W k (putT T (keyB (namedF W T data).sum (namedF W T data).n) (valB ((namedF W T data).refs + 1) (namedF W T data).data)) (ids ++ [ixOf (namedF W T data)]) ∧ (namedF W T data).n < 256 ∧ (namedF W T data).refs ≤ ids.length := by
  have key : (namedF W T data).n < 256 ∧ (namedF W T data).refs = cid ids (ixOf (namedF W T data)) ∧ (namedF W T data).sum.size = W ∧ (namedF W T data).data.size ≤ 128 := by
    by_cases ht : There W T data
    · obtain ⟨o1, o2, o3, o4⟩ := h.tb.old hW ht
      exact ⟨o2.2.1, h.refs _ ⟨o1, o2⟩, o2.1, o2.2.2.2.2⟩
    · obtain ⟨m, e1, e2, e3⟩ := h.tb.new hW ht
      rw [e1]
      refine ⟨by show m < 256; omega, ?_, digW_size W hW data, hd⟩
      show 0 = cid ids (digW W data, m)
      rcases Nat.eq_zero_or_pos (cid ids (digW W data, m)) with h1 | h1
      · exact h1.symm
      · exfalso
        obtain ⟨c, hc, e⟩ := h.has _ (cid_pos h1)
        obtain ⟨g1, g2⟩ := Prod.mk.inj (show (c.sum, c.n) = (digW W data, m) from e)
        have h5 : isT T (keyB c.sum c.n) = true := (get_mem h.tb.rise hc.1).1
        rw [g1, g2, e3 (by omega)] at h5
        cases h5
  obtain ⟨k1, k2, k3, k4⟩ := key
  have hcl := cid_le ids (ixOf (namedF W T data))
  refine ⟨h.more ⟨k3, k1, ?_, ?_, k4⟩ k2 (.inr hT), k1, by omega⟩
  · show 1 ≤ (namedF W T data).refs + 1
    omega
  · show (namedF W T data).refs + 1 ≤ k
    omega
/-- What Again leaves, of an ID that is held. -/
theorem Rf.again (h : Rf W k T ids) (hi : ids.length < k) {x : Ix} (hx : x ∈ ids) :
    ∃ c, lookF W T x.1 (x.2 : Int) = some c ∧ ixOf c = x ∧ c.refs ≤ ids.length ∧ isT T (keyB c.sum c.n) = true ∧ Rf W k (putT T (keyB c.sum c.n) (valB (c.refs + 1) c.data)) (ids ++ [x]) := by
  obtain ⟨c, hc, rfl⟩ := h.has x hx
  have hr := h.refs c hc
  have hcl := cid_le ids (ixOf c)
  have hi2 : isT T (keyB c.sum c.n) = true := (get_mem h.tb.rise hc.1).1
  refine ⟨c, h.tb.look hc.1 hc.2, rfl, by omega, hi2, h.more ⟨hc.2.1, hc.2.2.1, by show 1 ≤ c.refs + 1; omega, by show c.refs + 1 ≤ k; omega, hc.2.2.2.2.2⟩ hr (.inl hi2)⟩
/-- What Take leaves, of an ID that is held. -/
theorem Rf.take (h : Rf W k T ids) {j : Nat} {x : Ix} (hx : ids[j]? = some x) :
    ∃ c, lookF W T x.1 (x.2 : Int) = some c ∧ ixOf c = x ∧ isT T (keyB c.sum c.n) = true ∧ (c.refs = 1 → Rf W k (dropT T (keyB x.1 x.2)) (ids.take j ++ ids.drop (j + 1))) ∧ (c.refs ≠ 1 → Rf W k (putT T (keyB c.sum c.n) (valB (c.refs - 1) c.data)) (ids.take j ++ ids.drop (j + 1))) := by
  have hm := List.mem_of_getElem? hx
  obtain ⟨c, hc, e⟩ := h.has x hm
  have hr := h.refs c hc
  rw [e] at hr
  have hi2 : isT T (keyB c.sum c.n) = true := (get_mem h.tb.rise hc.1).1
  obtain ⟨e1, e2⟩ := Prod.mk.inj (show (c.sum, c.n) = (x.1, x.2) from e)
  have hsub : ∀ y, y ∈ ids.take j ++ ids.drop (j + 1) → y ∈ ids := fun y hy => by
    rcases List.mem_append.1 hy with hy | hy
    · exact List.mem_of_mem_take hy
    · exact List.mem_of_mem_drop hy
  have hcnt : ∀ y, cid (ids.take j ++ ids.drop (j + 1)) y + (if x = y then 1 else 0) = cid ids y := fun y => by
    have hl := list_at hx
    have h5 : cid ids y = cid (ids.take j ++ x :: ids.drop (j + 1)) y := by rw [← hl]
    have h6 : cid (x :: ids.drop (j + 1)) y = cid [x] y + cid (ids.drop (j + 1)) y := by rw [← cid_app]; rfl
    rw [h5, cid_app, cid_app, h6, cid_one]
    omega
  refine ⟨c, by rw [← e1, ← e2]; exact h.tb.look hc.1 hc.2, e, hi2, fun h1 => ?_, fun h1 => ?_⟩
  · rw [← e1, ← e2]
    have hin := in_drop h.tb hc.2
    refine ⟨h.tb.drop _, fun d hd => ?_, fun y hy => ?_⟩
    · obtain ⟨hd, hne⟩ := (hin d).1 hd
      have := hcnt (ixOf d)
      rw [if_neg (fun e' => hne (by rw [e]; exact e'.symm))] at this
      rw [h.refs d hd]
      omega
    · obtain ⟨d, hd, ed⟩ := h.has y (hsub y hy)
      refine ⟨d, (hin d).2 ⟨hd, fun e' => ?_⟩, ed⟩
      have h5 := cid_mem hy
      have h6 := hcnt y
      have h7 : x = y := by rw [← e, ← ed]; exact e'.symm
      rw [if_pos h7, ← h7] at h6
      rw [← h7] at h5
      omega
  · have hk1 : c.refs ≤ k := hc.2.2.2.2.1
    have hk0 : 1 ≤ c.refs := hc.2.2.2.1
    have hok : OkC W k { c with refs := c.refs - 1 } := ⟨hc.2.1, hc.2.2.1, by show 1 ≤ c.refs - 1; omega, by show c.refs - 1 ≤ k; omega, hc.2.2.2.2.2⟩
    have hin := in_set (c := { c with refs := c.refs - 1 }) h.tb hok
    refine ⟨h.tb.set (c := { c with refs := c.refs - 1 }) hok (.inl hi2), fun d hd => ?_, fun y hy => ?_⟩
    · rcases (hin d).1 hd with rfl | ⟨hd, hne⟩
      · have := hcnt x
        rw [if_pos rfl] at this
        show c.refs - 1 = cid _ (ixOf c)
        rw [e]
        omega
      · have := hcnt (ixOf d)
        rw [if_neg (fun e' => hne (by show ixOf d = ixOf c; rw [e]; exact e'.symm))] at this
        rw [h.refs d hd]
        omega
    · by_cases hy2 : y = x
      · exact ⟨_, (hin _).2 (.inl rfl), by show ixOf c = y; rw [e, hy2]⟩
      · obtain ⟨d, hd, ed⟩ := h.has y (hsub y hy)
        exact ⟨d, (hin d).2 (.inr ⟨hd, fun e' => hy2 (by rw [← ed, ← e]; exact e')⟩), ed⟩
theorem Rf.end (h : Rf W k T []) : T = [] := by
  cases T with
  | nil => rfl
  | cons p T =>
    exfalso
    obtain ⟨c, e, hok⟩ := h.tb.each p (List.mem_cons_self ..)
    have := h.refs c ⟨by rw [← e]; exact List.mem_cons_self .., hok⟩
    have := hok.2.2.1
    simp [cid] at *
    omega
end
end Go.Proofs.YtjpkngbjjgimjaaDoor
