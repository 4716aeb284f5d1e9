/- What a table of contents is like: nothing of the program. -/
import Derived.Test.YtjpkngbjjgimjaaDoorKP
import Derived.Test.YtjpkngbjjgimjaaDoorKL
namespace Go.Proofs.YtjpkngbjjgimjaaDoor
open Go.RowKit
def encP (c : Cn) : Pr := (keyB c.sum c.n, valB c.refs c.data)
def OkC (W k : Nat) (c : Cn) : Prop := c.sum.size = W ∧ c.n < 256 ∧ 1 ≤ c.refs ∧ c.refs ≤ k ∧ c.data.size ≤ 128
/-- A table of contents, none of which has more than k references. -/
structure Tb (W k : Nat) (T : List Pr) : Prop where
  rise : Rise T
  each : ∀ p ∈ T, ∃ c, p = encP c ∧ OkC W k c
  few : T.length ≤ k
  small : k ≤ 80000
theorem Tb.nil (W k : Nat) (hk : k ≤ 80000) : Tb W k [] := ⟨List.Pairwise.nil, (fun _ h => nomatch h), by simp, hk⟩
theorem OkC.mono {W k k' : Nat} {c : Cn} (h : OkC W k c) (hk : k ≤ k') : OkC W k' c := ⟨h.1, h.2.1, h.2.2.1, by have := h.2.2.2.1; omega, h.2.2.2.2⟩
theorem OkC.parse {W k : Nat} {c : Cn} (h : OkC W k c) (hk : k ≤ 80000) : parseF W (encP c) = some c := parse_enc h.1 h.2.1 h.2.2.1 (by have := h.2.2.2.1; omega) h.2.2.2.2
theorem bl_app2 : ∀ {a b : List UInt8} (x y : List UInt8), a.length = b.length → Op.bytesLess a b = true → Op.bytesLess (a ++ x) (b ++ y) = true
  | [], [], x, y, _, h => by simp [Op.bytesLess] at h
  | [], _ :: _, x, y, h, _ => by simp at h
  | _ :: _, [], x, y, h, _ => by simp at h
  | p :: a, q :: b, x, y, h, hb => by
    simp only [List.length_cons, Nat.add_right_cancel_iff] at h
    simp only [List.cons_append, Op.bytesLess, Bool.or_eq_true, decide_eq_true_eq, Bool.and_eq_true, beq_iff_eq] at hb ⊢
    rcases hb with hb | ⟨e, hb⟩
    · exact .inl hb
    · exact .inr ⟨e, bl_app2 x y h hb⟩
theorem key_lt {s t : ByteArray} {n m : Nat} (hs : s.size = t.size) (h : sl s t = true) : sl (keyB s n) (keyB t m) = true := by
  rw [sl_list] at h ⊢
  rw [keyB_list, keyB_list]
  have := bl_app2 (a := 99 :: s.data.toList) (b := 99 :: t.data.toList) [UInt8.ofNat n] [UInt8.ofNat m] (by simp; exact hs) (by
    have := bl_app [99] s.data.toList t.data.toList
    simpa using this.trans h)
  simpa using this
theorem key_eq {s t : ByteArray} {n m l : Nat} (hs : s.size = t.size) (h1 : sl (keyB s n) (keyB t m) = false) (h2 : sl (keyB t l) (keyB s n) = false) : s = t := by
  refine sl_tot ?_ ?_
  · cases h : sl s t with
    | false => rfl
    | true => rw [key_lt hs h] at h1; cases h1
  · cases h : sl t s with
    | false => rfl
    | true => rw [key_lt hs.symm h] at h2; cases h2
theorem key_num {s : ByteArray} {n m : Nat} (hn : n < 256) (hm : m < 256) (h : sl (keyB s n) (keyB s m) = true) : n < m := by
  rw [sl_list, keyB_list, keyB_list] at h
  have e := bl_app (99 :: s.data.toList) [UInt8.ofNat n] [UInt8.ofNat m]
  simp only [List.cons_append] at e
  rw [e] at h
  simp only [Op.bytesLess, Bool.or_eq_true, decide_eq_true_eq, Bool.and_eq_true, beq_iff_eq] at h
  rcases h with h | ⟨_, h⟩
  · have := UInt8.lt_iff_toNat_lt.1 h
    rw [ofNat_toNat n hn, ofNat_toNat m hm] at this
    exact this
  · simp at h
theorem Tb.mem {W k : Nat} {T : List Pr} (h : Tb W k T) {sum : ByteArray} (hs : sum.size = W) (c : Cn) : c ∈ alikeL W T sum ↔ encP c ∈ T ∧ OkC W k c ∧ c.sum = sum := by
  unfold alikeL betw
  rw [if_pos hs, range_full _ _ _ (by have := h.few; have := h.small; omega)]
  constructor
  · intro hc
    obtain ⟨p, hp, hq⟩ := List.mem_filterMap.1 hc
    obtain ⟨h1, h2, h3⟩ := mid_mem hp
    obtain ⟨c', rfl, hok⟩ := h.each p h1
    rw [hok.parse h.small] at hq
    obtain rfl := Option.some.inj hq
    exact ⟨h1, hok, key_eq (hok.1.trans hs.symm) h2 h3⟩
  · rintro ⟨h1, hok, rfl⟩
    refine List.mem_filterMap.2 ⟨encP c, ?_, hok.parse h.small⟩
    unfold midT
    refine List.mem_filter.2 ⟨h1, ?_⟩
    show (!sl (keyB c.sum c.n) (keyB c.sum 0) && !sl (keyB c.sum 255) (keyB c.sum c.n)) = true
    rw [key_first, key_last]
    rfl
theorem Tb.nums {W k : Nat} {T : List Pr} (h : Tb W k T) {sum : ByteArray} (hs : sum.size = W) : (alikeL W T sum).Pairwise fun a b => a.n < b.n := by
  unfold alikeL betw
  rw [if_pos hs, range_full _ _ _ (by have := h.few; have := h.small; omega)]
  rw [List.pairwise_filterMap]
  refine List.Pairwise.imp_of_mem ?_ (mid_rise h.rise (keyB sum 0) (keyB sum 255))
  intro p q hp hq hlt a ha b hb
  obtain ⟨h1, h2, h3⟩ := mid_mem hp
  obtain ⟨c', rfl, hok⟩ := h.each p h1
  rw [hok.parse h.small] at ha
  obtain rfl := Option.some.inj ha
  obtain ⟨g1, g2, g3⟩ := mid_mem hq
  obtain ⟨d', rfl, hod⟩ := h.each q g1
  rw [hod.parse h.small] at hb
  obtain rfl := Option.some.inj hb
  have e1 := key_eq (hok.1.trans hs.symm) h2 h3
  have e2 := key_eq (hod.1.trans hs.symm) g2 g3
  have hlt : sl (keyB c'.sum c'.n) (keyB d'.sum d'.n) = true := hlt
  rw [e1, e2] at hlt
  exact key_num hok.2.1 hod.2.1 hlt
theorem Tb.look {W k : Nat} {T : List Pr} (h : Tb W k T) {c : Cn} (hc : encP c ∈ T) (hok : OkC W k c) : lookF W T c.sum (c.n : Int) = some c := by
  obtain ⟨h1, h2⟩ := get_mem h.rise hc
  unfold lookF
  simp only [Int.toNat_natCast]
  have h1 : isT T (keyB c.sum c.n) = true := h1
  have h2 : getT T (keyB c.sum c.n) = some (valB c.refs c.data) := h2
  rw [if_pos ⟨hok.1, by omega, by have := hok.2.1; omega, h1⟩, h2]
  exact hok.parse h.small
theorem isT_mem {T : List Pr} {key : ByteArray} (h : isT T key = true) : ∃ v, (key, v) ∈ T := by
  cases hg : getT T key with
  | none => rw [(get_none hg).1] at h; cases h
  | some v => exact ⟨v, mem_high (by rw [(get_some hg).2]; exact List.mem_cons_self ..)⟩
theorem named_there (data : ByteArray) : ∀ (l : List Cn) (f : Cn), (∃ c ∈ l, c.data = data) → namedL data l f ∈ l ∧ (namedL data l f).data = data
  | [], f, h => by obtain ⟨c, hc, _⟩ := h; cases hc
  | c :: l, f, h => by
    unfold namedL
    split
    · rename_i hd
      exact ⟨List.mem_cons_self .., hd⟩
    · rename_i hd
      obtain ⟨c', hc', hd'⟩ := h
      rcases List.mem_cons.1 hc' with rfl | hm
      · exact absurd hd' hd
      · have := named_there data l (if c.n = f.n then { f with n := f.n + 1 } else f) ⟨c', hm, hd'⟩
        exact ⟨List.mem_cons_of_mem _ this.1, this.2⟩
theorem named_stay (data : ByteArray) : ∀ (l : List Cn) (f : Cn), (∀ c ∈ l, c.data ≠ data) → (∀ c ∈ l, f.n < c.n) → namedL data l f = f
  | [], f, _, _ => rfl
  | c :: l, f, h, hn => by
    unfold namedL
    have := hn c (List.mem_cons_self ..)
    rw [if_neg (h c (List.mem_cons_self ..)), if_neg (by omega)]
    exact named_stay data l f (fun x hx => h x (List.mem_cons_of_mem _ hx)) (fun x hx => hn x (List.mem_cons_of_mem _ hx))
theorem named_new (data : ByteArray) : ∀ (l : List Cn) (f : Cn), (∀ c ∈ l, c.data ≠ data) → (∀ c ∈ l, f.n ≤ c.n) → (l.Pairwise fun a b => a.n < b.n) → ∃ m, namedL data l f = { f with n := m } ∧ f.n ≤ m ∧ m ≤ f.n + l.length ∧ ∀ c ∈ l, c.n ≠ m
  | [], f, _, _, _ => ⟨f.n, rfl, Nat.le_refl _, by simp, fun _ h => by cases h⟩
  | c :: l, f, h, hn, hp => by
    obtain ⟨hp1, hp2⟩ := List.pairwise_cons.1 hp
    have h1 := hn c (List.mem_cons_self ..)
    have hd := fun x hx => h x (List.mem_cons_of_mem c hx)
    unfold namedL
    rw [if_neg (h c (List.mem_cons_self ..))]
    by_cases he : c.n = f.n
    · rw [if_pos he]
      obtain ⟨m, e1, e2, e3, e4⟩ := named_new data l { f with n := f.n + 1 } hd (fun x hx => by have := hp1 x hx; show f.n + 1 ≤ x.n; omega) hp2
      refine ⟨m, e1, by have : f.n + 1 ≤ m := e2; omega, by have : m ≤ f.n + 1 + l.length := e3; simp only [List.length_cons]; omega, fun x hx => ?_⟩
      rcases List.mem_cons.1 hx with rfl | hx
      · have : f.n + 1 ≤ m := e2
        omega
      · exact e4 x hx
    · rw [if_neg he]
      refine ⟨f.n, named_stay data l f hd (fun x hx => by have := hp1 x hx; omega), Nat.le_refl _, by omega, fun x hx => ?_⟩
      rcases List.mem_cons.1 hx with rfl | hx
      · exact he
      · have := hp1 x hx
        omega
theorem mem_put {T : List Pr} {k v : ByteArray} {p : Pr} (h : p ∈ putT T k v) : p ∈ T ∨ p = (k, v) := by
  unfold putT at h
  rcases List.mem_append.1 h with h | h
  · exact .inl (mem_low h)
  · rcases List.mem_cons.1 h with h | h
    · exact .inr h
    · exact .inl (mem_high (rest_sub T k p h))
theorem put_same {T : List Pr} {k : ByteArray} (v : ByteArray) (h : isT T k = true) : (putT T k v).length = T.length := by
  cases hg : getT T k with
  | none => rw [(get_none hg).1] at h; cases h
  | some u =>
    have e := congrArg List.length (low_high T k)
    rw [(get_some hg).2] at e
    unfold putT
    simp only [List.length_append, List.length_cons] at e ⊢
    omega
theorem put_more {T : List Pr} {k : ByteArray} (v : ByteArray) (h : isT T k = false) : (putT T k v).length = T.length + 1 := by
  cases hg : getT T k with
  | some u => rw [(get_some hg).1] at h; cases h
  | none =>
    have e := congrArg List.length (low_high T k)
    rw [(get_none hg).2] at e
    unfold putT
    simp only [List.length_append, List.length_cons] at e ⊢
    omega
/-- A content gets one reference more. -/
theorem Tb.put {W k : Nat} {T : List Pr} (h : Tb W k T) (hk : k + 1 ≤ 80000) {c : Cn} (hs : c.sum.size = W) (hn : c.n < 256) (hr : c.refs ≤ k) (hd : c.data.size ≤ 128) : Tb W (k + 1) (putT T (keyB c.sum c.n) (valB (c.refs + 1) c.data)) := by
  refine ⟨h.rise.put _ _, fun p hp => ?_, ?_, hk⟩
  · rcases mem_put hp with hp | rfl
    · obtain ⟨c', e, hok⟩ := h.each p hp
      exact ⟨c', e, hok.mono (by omega)⟩
    · exact ⟨{ c with refs := c.refs + 1 }, rfl, hs, hn, by show 1 ≤ c.refs + 1; omega, by show c.refs + 1 ≤ k + 1; omega, hd⟩
  · have := put_len T (keyB c.sum c.n) (valB (c.refs + 1) c.data)
    have := h.few
    omega
theorem Tb.mono {W k k' : Nat} {T : List Pr} (h : Tb W k T) (hk : k ≤ k') (hs : k' ≤ 80000) : Tb W k' T := ⟨h.rise, fun p hp => by obtain ⟨c, e, hok⟩ := h.each p hp; exact ⟨c, e, hok.mono hk⟩, by have := h.few; omega, hs⟩
/-- Bytes that are there. -/
def There (W : Nat) (T : List Pr) (data : ByteArray) : Prop := ∃ c ∈ alikeL W T (digW W data), c.data = data
theorem Tb.old {W k : Nat} {T : List Pr} (h : Tb W k T) (hW : W ≤ 32) {data : ByteArray} (ht : There W T data) : encP (namedF W T data) ∈ T ∧ OkC W k (namedF W T data) ∧ (namedF W T data).data = data ∧ (namedF W T data).sum = digW W data := by
  have hn := named_there data _ ⟨digW W data, 0, 0, data⟩ ht
  have hm := (h.mem (digW_size W hW data) _).1 hn.1
  exact ⟨hm.1, hm.2.1, hn.2, hm.2.2⟩
theorem Tb.new {W k : Nat} {T : List Pr} (h : Tb W k T) (hW : W ≤ 32) {data : ByteArray} (ht : ¬ There W T data) : ∃ m, namedF W T data = ⟨digW W data, m, 0, data⟩ ∧ m ≤ T.length ∧ (m < 256 → isT T (keyB (digW W data) m) = false) := by
  have hs := digW_size W hW data
  obtain ⟨m, e1, e2, e3, e4⟩ := named_new data (alikeL W T (digW W data)) ⟨digW W data, 0, 0, data⟩ (fun c hc hd => ht ⟨c, hc, hd⟩) (fun c _ => Nat.zero_le _) (h.nums hs)
  have h5 := alike_len W T (digW W data)
  refine ⟨m, e1, by have : m ≤ 0 + (alikeL W T (digW W data)).length := e3; omega, fun hm => ?_⟩
  cases hi : isT T (keyB (digW W data) m) with
  | false => rfl
  | true =>
    obtain ⟨v, hv⟩ := isT_mem hi
    obtain ⟨c, hc, hok⟩ := h.each _ hv
    obtain ⟨hc1, hc2⟩ := Prod.mk.inj (show (keyB (digW W data) m, v) = (keyB c.sum c.n, valB c.refs c.data) from hc)
    have es : c.sum = digW W data := by
      refine key_eq (n := c.n) (m := m) (l := m) (hok.1.trans hs.symm) ?_ ?_
      · rw [← hc1]; exact sl_irr _
      · rw [← hc1]; exact sl_irr _
    have hin : c ∈ alikeL W T (digW W data) := (h.mem hs c).2 ⟨by rw [← hc]; exact hv, hok, es⟩
    refine absurd ?_ (e4 c hin)
    rw [es] at hc1
    have hl := congrArg (fun x : ByteArray => x.data.toList) hc1
    simp only [keyB_list, List.cons.injEq, true_and] at hl
    have h6 := List.append_cancel_left hl
    simp only [List.cons.injEq, and_true] at h6
    have h7 := congrArg UInt8.toNat h6
    rw [ofNat_toNat m hm, ofNat_toNat c.n hok.2.1] at h7
    exact h7.symm
end Go.Proofs.YtjpkngbjjgimjaaDoor
