/- Plain mathematics of layer 11: pieces, how they are made of a text, what they make, their bytes. No program is named here. -/
import Derived.Test.YtbhnmjjfammlkaaDoorNM
namespace Go.Proofs.YtbhnmjjfammlkaaDoor
/-- A piece: a block's number, or bytes. -/
structure Pc where
  copy : Bool
  n : Int
  data : ByteArray
  deriving DecidableEq
def Pc.blk (i : Nat) : Pc := ⟨true, (i : Int), ⟨#[]⟩⟩
def Pc.byt (s : List UInt8) : Pc := ⟨false, 0, ⟨s.toArray⟩⟩
def Pc.ok (p : Pc) : Bool := if p.copy then decide (0 ≤ p.n) && decide (p.data.size = 0) else decide (p.n = 0) && decide (p.data.size ≠ 0)
/-- No two side by side are bytes; b: is the one ahead bytes? -/
def apart : Bool → List Pc → Bool
  | _, [] => true
  | b, p :: l => (p.copy || !b) && apart (!p.copy) l
def mayP (l : List Pc) : Bool := decide (l.length ≤ 1024) && l.all Pc.ok && apart false l
/-- What is held against the walk: the place i is well, seen from the one ahead. -/
def wellAt (l : List Pc) (i : Nat) : Bool := match l[i]? with
  | none => true
  | some p => p.ok && (p.copy || decide (i = 0) || (match l[i - 1]? with | none => true | some q => q.copy))
theorem apart_iff : ∀ (l : List Pc) (b : Bool), apart b l = true ↔ (∀ p, l[0]? = some p → p.copy = true ∨ b = false) ∧ ∀ i p q, l[i + 1]? = some p → l[i]? = some q → p.copy = true ∨ q.copy = true
  | [], b => by simp [apart]
  | x :: l, b => by
    unfold apart
    rw [Bool.and_eq_true, apart_iff l]
    constructor
    · rintro ⟨h1, h2, h3⟩
      refine ⟨fun p hp => ?_, fun i p q hp hq => ?_⟩
      · simp only [List.getElem?_cons_zero, Option.some.injEq] at hp
        subst hp
        simpa using h1
      · cases i with
        | zero =>
          simp only [List.getElem?_cons_zero, Option.some.injEq] at hq
          subst hq
          rw [List.getElem?_cons_succ] at hp
          rcases h2 p hp with h | h
          · exact .inl h
          · exact .inr (by simpa using h)
        | succ i => exact h3 i p q (by simpa using hp) (by simpa using hq)
    · rintro ⟨h1, h2⟩
      refine ⟨by simpa using h1 x (by simp), fun p hp => ?_, fun i p q hp hq => h2 (i + 1) p q (by simpa using hp) (by simpa using hq)⟩
      rcases h2 0 p x (by simpa using hp) (by simp) with h | h
      · exact .inl h
      · exact .inr (by simpa using h)
theorem may_iff (l : List Pc) : mayP l = true ↔ l.length ≤ 1024 ∧ ∀ i, i < l.length → wellAt l i = true := by
  unfold mayP
  rw [Bool.and_eq_true, Bool.and_eq_true, decide_eq_true_eq, List.all_eq_true, apart_iff]
  constructor
  · rintro ⟨⟨h1, h2⟩, _, h3⟩
    refine ⟨h1, fun i hi => ?_⟩
    have e := List.getElem?_eq_getElem hi
    unfold wellAt
    rw [e]
    simp only [Bool.and_eq_true, Bool.or_eq_true, decide_eq_true_eq]
    refine ⟨h2 _ (List.getElem_mem hi), ?_⟩
    by_cases h0 : i = 0
    · exact .inl (.inr h0)
    · have e2 := List.getElem?_eq_getElem (show i - 1 < l.length by omega)
      rw [e2]
      rcases h3 (i - 1) _ _ (by rw [show i - 1 + 1 = i by omega]; exact e) e2 with h | h
      · exact .inl (.inl h)
      · exact .inr h
  · rintro ⟨h1, h2⟩
    refine ⟨⟨h1, fun p hp => ?_⟩, fun _ _ => .inr rfl, fun i p q hp hq => ?_⟩
    · obtain ⟨i, hi⟩ := List.getElem?_of_mem hp
      have := h2 i (List.getElem?_eq_some_iff.1 hi).1
      unfold wellAt at this
      rw [hi] at this
      simp only [Bool.and_eq_true] at this
      exact this.1
    · have := h2 (i + 1) (List.getElem?_eq_some_iff.1 hp).1
      unfold wellAt at this
      rw [hp] at this
      simp only [Bool.and_eq_true, Bool.or_eq_true, decide_eq_true_eq, Nat.add_sub_cancel, hq] at this
      rcases this.2 with (h | h) | h
      · exact .inl h
      · omega
      · exact .inr h
def bytP (bs : List UInt8) : List Pc := if bs = [] then [] else [Pc.byt bs]
/-- Pieces of a text: nx tells the place that is copied, and how many bytes are gone; bs: bytes by themselves so far. -/
def makeP (nx : List UInt8 → Option (Nat × Nat)) (bs : List UInt8) : List UInt8 → List Pc
  | [] => bytP bs
  | c :: r => match nx (c :: r) with
    | none => makeP nx (bs ++ [c]) r
    | some (i, n) => bytP bs ++ Pc.blk i :: makeP nx [] (r.drop (n - 1))
termination_by t => t.length
decreasing_by all_goals (simp; try omega)
section
variable {nx : List UInt8 → Option (Nat × Nat)} {bs : List UInt8}
theorem makeP_nil : makeP nx bs [] = bytP bs := by rw [makeP]
theorem makeP_none {c : UInt8} {r : List UInt8} (h : nx (c :: r) = none) : makeP nx bs (c :: r) = makeP nx (bs ++ [c]) r := by rw [makeP, h]
theorem makeP_some {t : List UInt8} {i n : Nat} (h0 : t ≠ []) (h : nx t = some (i, n)) (hn : 1 ≤ n) : makeP nx bs t = bytP bs ++ Pc.blk i :: makeP nx [] (t.drop n) := by
  cases t with
  | nil => exact absurd rfl h0
  | cons c r =>
    rw [makeP, h]
    simp only
    rw [show n = (n - 1) + 1 by omega, List.drop_succ_cons, Nat.add_sub_cancel]
/-- What pieces make. -/
def textP (blk : Nat → List UInt8) (l : List Pc) : List UInt8 := l.flatMap fun p => if p.copy then blk p.n.toNat else p.data.data.toList
theorem textP_byt (blk : Nat → List UInt8) : textP blk (bytP bs) = bs := by
  unfold bytP
  split
  · next h => rw [h]; rfl
  · simp [textP, Pc.byt]
theorem textP_app (blk : Nat → List UInt8) (a b : List Pc) : textP blk (a ++ b) = textP blk a ++ textP blk b := by unfold textP; rw [List.flatMap_append]
theorem textP_blk (blk : Nat → List UInt8) (i : Nat) (l : List Pc) : textP blk (Pc.blk i :: l) = blk i ++ textP blk l := by simp [textP, Pc.blk]
/-- Where each place that is copied has just the bytes that are gone, the pieces make the text. -/
theorem make_text (blk : Nat → List UInt8) : ∀ (m : Nat) (t bs : List UInt8), t.length = m → (∀ k i n, k < t.length → nx (t.drop k) = some (i, n) → 1 ≤ n ∧ blk i = (t.drop k).take n) → textP blk (makeP nx bs t) = bs ++ t := by
  intro m
  induction m using Nat.strongRecOn with
  | ind m ih =>
    intro t bs hm h
    cases t with
    | nil => rw [makeP_nil, textP_byt, List.append_nil]
    | cons c r =>
      cases hx : nx (c :: r) with
      | none =>
        rw [makeP_none hx, ih r.length (by simp at hm; omega) r _ rfl (fun k i n hk he => ?_), List.append_assoc]
        · rfl
        · have := h (k + 1) i n (by simp; omega) (by rw [List.drop_succ_cons]; exact he)
          rwa [List.drop_succ_cons] at this
      | some q =>
        obtain ⟨i, n⟩ := q
        obtain ⟨hn, hb⟩ := h 0 i n (by simp) hx
        rw [List.drop_zero] at hb
        rw [makeP_some (by simp) hx hn, textP_app, textP_byt, textP_blk, hb]
        rw [ih ((c :: r).drop n).length (by rw [List.length_drop, hm]; simp at hm; omega) _ [] rfl (fun k i' n' hk he => ?_), List.nil_append, List.take_append_drop]
        rw [List.length_drop] at hk
        rw [List.drop_drop] at he ⊢
        exact h (n + k) i' n' (by omega) he
theorem bytP_ok : ∀ p ∈ bytP bs, p.ok = true := by
  intro p hp
  unfold bytP at hp
  split at hp
  · cases hp
  · next h =>
    rw [List.mem_singleton.1 hp]
    have : bs.length ≠ 0 := fun e => h (List.eq_nil_of_length_eq_zero e)
    simp [Pc.ok, Pc.byt, ByteArray.size, h]
theorem blk_ok (i : Nat) : (Pc.blk i).ok = true := by simp [Pc.ok, Pc.blk, ByteArray.size]
/-- The pieces that are made may be, as far as their number goes. -/
theorem make_may : ∀ (m : Nat) (t bs : List UInt8), t.length = m → (∀ p ∈ makeP nx bs t, p.ok = true) ∧ apart false (makeP nx bs t) = true ∧ (makeP nx bs t).length ≤ t.length + (bytP bs).length := by
  intro m
  induction m using Nat.strongRecOn with
  | ind m ih =>
    intro t bs hm
    have hb1 : (bytP bs).length ≤ 1 := by unfold bytP; split <;> simp
    have hba : apart false (bytP bs) = true := by unfold bytP; split <;> simp [apart]
    cases t with
    | nil => rw [makeP_nil]; exact ⟨bytP_ok, hba, by simp⟩
    | cons c r =>
      simp only [List.length_cons] at hm
      cases hx : nx (c :: r) with
      | none =>
        rw [makeP_none hx]
        obtain ⟨h1, h2, h3⟩ := ih r.length (by omega) r (bs ++ [c]) rfl
        have : (bytP (bs ++ [c])).length ≤ 1 := by unfold bytP; split <;> simp
        exact ⟨h1, h2, by simp only [List.length_cons]; omega⟩
      | some q =>
        obtain ⟨i, n⟩ := q
        rw [makeP, hx]
        simp only
        obtain ⟨h1, h2, h3⟩ := ih (r.drop (n - 1)).length (by rw [List.length_drop]; omega) _ [] rfl
        refine ⟨fun p hp => ?_, ?_, ?_⟩
        · rcases List.mem_append.1 hp with hp | hp
          · exact bytP_ok p hp
          · rcases List.mem_cons.1 hp with rfl | hp
            · exact blk_ok i
            · exact h1 p hp
        · unfold bytP
          split
          · simpa [apart, Pc.blk] using h2
          · simpa [apart, Pc.blk, Pc.byt] using h2
        · rw [List.length_append, List.length_cons]
          rw [List.length_drop] at h3
          have : (bytP ([] : List UInt8)).length = 0 := rfl
          simp only [List.length_cons]
          omega
/-- Without a basis nothing but bytes. -/
theorem make_none (h : ∀ t, nx t = none) : ∀ (t bs : List UInt8), makeP nx bs t = bytP (bs ++ t)
  | [], bs => by rw [makeP_nil, List.append_nil]
  | c :: r, bs => by rw [makeP_none (h _), make_none h r, List.append_assoc]; rfl
/-- Of the basis itself nothing but blocks. -/
theorem make_whole {s : Nat} (hs : 1 ≤ s) : ∀ (m : Nat) (t : List UInt8), t.length = m → (∀ j, j * s < t.length → ∃ i, nx (t.drop (j * s)) = some (i, min s (t.length - j * s))) → (∀ p ∈ makeP nx [] t, p.copy = true ∧ p.data = ⟨#[]⟩) ∧ (makeP nx [] t).length = (t.length + s - 1) / s := by
  intro m
  induction m using Nat.strongRecOn with
  | ind m ih =>
    intro t hm h
    cases t with
    | nil =>
      rw [makeP_nil]
      refine ⟨fun p hp => by simp [bytP] at hp, ?_⟩
      have e : (([] : List UInt8).length + s - 1) / s = 0 := Nat.div_eq_of_lt (by simp; omega)
      rw [e]
      rfl
    | cons c r =>
      obtain ⟨i, hi⟩ := h 0 (by simp)
      simp only [Nat.zero_mul, List.drop_zero, Nat.sub_zero] at hi
      have hl : 1 ≤ (c :: r).length := by simp
      have hmin : 1 ≤ min s (c :: r).length := by omega
      rw [makeP_some (by simp) hi hmin]
      obtain ⟨n, hn⟩ : ∃ n, min s (c :: r).length = n := ⟨_, rfl⟩
      obtain ⟨l, hlen⟩ : ∃ l, (c :: r).length = l := ⟨_, rfl⟩
      rw [hn] at hmin ⊢
      rw [hlen] at hl hn h
      have hd : ((c :: r).drop n).length = l - n := by rw [List.length_drop, hlen]
      obtain ⟨h1, h2⟩ := ih ((c :: r).drop n).length (by rw [hd]; omega) _ rfl (fun j hj => by
        rw [hd] at hj
        have hns : n = s := by omega
        obtain ⟨i', hi'⟩ := h (j + 1) (by rw [Nat.add_mul]; omega)
        refine ⟨i', ?_⟩
        rw [List.drop_drop, hd]
        rw [show n + j * s = (j + 1) * s by rw [Nat.add_mul]; omega, show l - n - j * s = l - (j + 1) * s by rw [Nat.add_mul]; omega]
        exact hi')
      refine ⟨fun p hp => ?_, ?_⟩
      · simp only [bytP, if_true, List.nil_append, List.mem_cons] at hp
        rcases hp with rfl | hp
        · exact ⟨rfl, rfl⟩
        · exact h1 p hp
      · simp only [bytP, if_true, List.nil_append, List.length_cons]
        rw [h2, hd, show r.length + 1 = l from hlen]
        by_cases hls : l ≤ s
        · have : n = l := by omega
          rw [this, Nat.sub_self, Nat.div_eq_of_lt (by omega)]
          exact (Nat.div_eq_of_lt_le (by omega) (by omega)).symm
        · have : n = s := by omega
          rw [this, show l + s - 1 = (l - s + s - 1) + s by omega, Nat.add_div_right _ (by omega)]
end
/-- A piece's bytes. -/
def pcB (p : Pc) : List UInt8 := if p.copy then putN (2 * p.n.toNat + 1) else putN (2 * p.data.size) ++ p.data.data.toList
def pcsB (l : List Pc) : List UInt8 := l.flatMap pcB
def encD (l : List Pc) : List UInt8 := putN l.length ++ pcsB l
/-- As many pieces, and what is left. -/
def decR : Nat → List UInt8 → Option (List Pc × List UInt8)
  | 0, b => some ([], b)
  | k + 1, b =>
    if (getL b 0 0).2.2 ≠ 0 then none
    else if (getL b 0 0).1 % 2 = 1 then (decR k (b.drop (getL b 0 0).2.1)).map fun x => (Pc.blk ((getL b 0 0).1 / 2) :: x.1, x.2)
    else if (b.drop (getL b 0 0).2.1).length < (getL b 0 0).1 / 2 then none
    else (decR k ((b.drop (getL b 0 0).2.1).drop ((getL b 0 0).1 / 2))).map fun x => (Pc.byt ((b.drop (getL b 0 0).2.1).take ((getL b 0 0).1 / 2)) :: x.1, x.2)
def decD (b : List UInt8) : Option (List Pc) :=
  if (getL b 0 0).2.2 ≠ 0 ∨ 1024 < (getL b 0 0).1 then none
  else match decR (getL b 0 0).1 (b.drop (getL b 0 0).2.1) with
    | some (l, []) => if mayP l then some l else none
    | _ => none
/-- A piece as it is read. -/
def Pc.red (p : Pc) : Prop := (∃ i, p = Pc.blk i ∧ 2 * i + 1 < 2 ^ 64) ∨ ∃ s, p = Pc.byt s ∧ 2 * s.length < 2 ^ 64
theorem pcB_blk (i : Nat) : pcB (Pc.blk i) = putN (2 * i + 1) := by simp [pcB, Pc.blk]
theorem pcB_byt (s : List UInt8) : pcB (Pc.byt s) = putN (2 * s.length) ++ s := by simp [pcB, Pc.byt, ByteArray.size]
theorem decR_enc : ∀ (l : List Pc) (rest : List UInt8), (∀ p ∈ l, p.red) → decR l.length (pcsB l ++ rest) = some (l, rest)
  | [], rest, _ => rfl
  | p :: l, rest, h => by
    have ih := decR_enc l rest (fun q hq => h q (List.mem_cons_of_mem _ hq))
    have e : pcsB (p :: l) ++ rest = pcB p ++ (pcsB l ++ rest) := by unfold pcsB; rw [List.flatMap_cons, List.append_assoc]
    rw [e, List.length_cons]
    rcases h p (List.mem_cons_self ..) with ⟨i, rfl, hi⟩ | ⟨s, rfl, hs⟩
    · rw [pcB_blk]
      unfold decR
      rw [getL_back _ hi]
      simp only [ne_eq, not_true_eq_false, if_false]
      rw [if_pos (by omega), List.drop_left, ih, show (2 * i + 1) / 2 = i by omega]
      rfl
    · rw [pcB_byt, List.append_assoc]
      unfold decR
      rw [getL_back _ hs]
      simp only [ne_eq, not_true_eq_false, if_false]
      rw [if_neg (by omega), List.drop_left, show 2 * s.length / 2 = s.length by omega, if_neg (by rw [List.length_append]; omega), List.drop_left, List.take_left, ih]
      rfl
theorem decR_red : ∀ (k : Nat) (b : List UInt8) (l : List Pc) (r : List UInt8), decR k b = some (l, r) → (∀ p ∈ l, p.red) ∧ l.length = k ∧ pcsB l ++ r = b
  | 0, b, l, r, h => by
    simp only [decR, Option.some.injEq, Prod.mk.injEq] at h
    obtain ⟨rfl, rfl⟩ := h
    exact ⟨(fun _ h => nomatch h), rfl, rfl⟩
  | k + 1, b, l, r, h => by
    unfold decR at h
    split at h
    · cases h
    · next h0 =>
      obtain ⟨m, hm⟩ : ∃ m, (getL b 0 0).1 = m := ⟨_, rfl⟩
      obtain ⟨q, hq⟩ : ∃ q, (getL b 0 0).2.1 = q := ⟨_, rfl⟩
      have h0' : (getL b 0 0).2.2 = 0 := by omega
      rw [hm, hq] at h
      have hg : getL b 0 0 = (m, q, 0) := Prod.ext hm (Prod.ext hq h0')
      obtain ⟨n, e1, e2, e3, e4, _, e6⟩ := getL_least b 0 0 m q hg (by omega)
      simp only [Nat.pow_zero, Nat.mul_one, Nat.zero_add, Nat.sub_zero] at e1 e2 e3 e4 e6
      subst e1
      have hb : putN m ++ b.drop q = b := by rw [e3]; exact List.take_append_drop q b
      split at h
      · next hodd =>
        cases hr : decR k (b.drop q) with
        | none => rw [hr] at h; cases h
        | some x =>
          obtain ⟨l', r'⟩ := x
          rw [hr] at h
          simp only [Option.map_some, Option.some.injEq, Prod.mk.injEq] at h
          obtain ⟨rfl, rfl⟩ := h
          obtain ⟨i1, i2, i3⟩ := decR_red k _ l' r' hr
          refine ⟨fun p hp => ?_, by simp [i2], ?_⟩
          · rcases List.mem_cons.1 hp with rfl | hp
            · exact .inl ⟨m / 2, rfl, by omega⟩
            · exact i1 p hp
          · unfold pcsB at i3 ⊢
            rw [List.flatMap_cons, pcB_blk, List.append_assoc, i3, show 2 * (m / 2) + 1 = m by omega]
            exact hb
      · next hev =>
        split at h
        · cases h
        · next hlen =>
          cases hr : decR k ((b.drop q).drop (m / 2)) with
          | none => rw [hr] at h; cases h
          | some x =>
            obtain ⟨l', r'⟩ := x
            rw [hr] at h
            simp only [Option.map_some, Option.some.injEq, Prod.mk.injEq] at h
            obtain ⟨rfl, rfl⟩ := h
            obtain ⟨i1, i2, i3⟩ := decR_red k _ l' r' hr
            have ht : ((b.drop q).take (m / 2)).length = m / 2 := by rw [List.length_take]; omega
            refine ⟨fun p hp => ?_, by simp [i2], ?_⟩
            · rcases List.mem_cons.1 hp with rfl | hp
              · exact .inr ⟨_, rfl, by rw [ht]; omega⟩
              · exact i1 p hp
            · unfold pcsB at i3 ⊢
              rw [List.flatMap_cons, pcB_byt, ht, List.append_assoc, List.append_assoc, i3, List.take_append_drop, show 2 * (m / 2) = m by omega]
              exact hb
/-- Bytes that are pieces are just the bytes that those pieces have. -/
theorem decD_enc {b : List UInt8} {l : List Pc} (h : decD b = some l) : encD l = b ∧ mayP l = true ∧ (∀ p ∈ l, p.red) := by
  unfold decD at h
  split at h
  · cases h
  · next h0 =>
    obtain ⟨m, hm⟩ : ∃ m, (getL b 0 0).1 = m := ⟨_, rfl⟩
    obtain ⟨q, hq⟩ : ∃ q, (getL b 0 0).2.1 = q := ⟨_, rfl⟩
    have h0' : (getL b 0 0).2.2 = 0 := by omega
    rw [hm, hq] at h
    have hg : getL b 0 0 = (m, q, 0) := Prod.ext hm (Prod.ext hq h0')
    obtain ⟨n, e1, e2, e3, e4, _, e6⟩ := getL_least b 0 0 m q hg (by omega)
    simp only [Nat.pow_zero, Nat.mul_one, Nat.zero_add, Nat.sub_zero] at e1 e2 e3 e4 e6
    subst e1
    have hb : putN m ++ b.drop q = b := by rw [e3]; exact List.take_append_drop q b
    split at h
    · next l' hr =>
      split at h
      · next hmay =>
        cases h
        obtain ⟨i1, i2, i3⟩ := decR_red _ _ _ _ hr
        refine ⟨?_, hmay, i1⟩
        unfold encD
        rw [List.append_nil] at i3
        rw [i2, i3]
        exact hb
      · cases h
    · cases h
/-- There and back. -/
theorem dec_encD {l : List Pc} (hm : mayP l = true) (hr : ∀ p ∈ l, p.red) : decD (encD l) = some l := by
  have hl : l.length ≤ 1024 := by unfold mayP at hm; simp at hm; exact hm.1.1
  unfold decD encD
  rw [getL_back _ (by omega)]
  simp only [ne_eq, not_true_eq_false, false_or]
  rw [if_neg (by omega), List.drop_left]
  have := decR_enc l [] hr
  rw [List.append_nil] at this
  rw [this]
  simp only [hm, if_true]
/-- Cut short they are none. -/
theorem decD_cut {b : List UInt8} {l : List Pc} (h : decD b = some l) {k : Nat} (hk : k < b.length) : decD (b.take k) = none := by
  cases h' : decD (b.take k) with
  | none => rfl
  | some l' =>
    exfalso
    obtain ⟨e1, m1, r1⟩ := decD_enc h
    obtain ⟨e2, m2, r2⟩ := decD_enc h'
    have hl : l.length ≤ 1024 := by unfold mayP at m1; simp at m1; exact m1.1.1
    have hl2 : l'.length ≤ 1024 := by unfold mayP at m2; simp at m2; exact m2.1.1
    have hb : encD l = encD l' ++ b.drop k := by rw [e1, e2, List.take_append_drop]
    unfold encD at hb
    have g1 := getL_back l.length (by omega) (pcsB l)
    have g2 := getL_back l'.length (by omega) (pcsB l' ++ b.drop k)
    rw [← List.append_assoc, ← hb, g1] at g2
    simp only [Prod.mk.injEq] at g2
    have hd := congrArg (List.drop (putN l.length).length) hb
    rw [List.drop_left, List.append_assoc, show putN l.length = putN l'.length by rw [g2.1], List.drop_left] at hd
    have d1 := decR_enc l [] r1
    have d2 := decR_enc l' (b.drop k) r2
    rw [List.append_nil, hd, g2.1, d2] at d1
    simp only [Option.some.injEq, Prod.mk.injEq] at d1
    have := congrArg List.length d1.2
    rw [List.length_drop] at this
    simp at this
    omega
end Go.Proofs.YtbhnmjjfammlkaaDoor
