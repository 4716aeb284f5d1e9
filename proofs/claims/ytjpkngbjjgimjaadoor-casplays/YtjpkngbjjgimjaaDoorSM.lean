/- A table of entries in order, and leaves that have it, in plain mathematics. -/
import GoSem.Op.String
import Derived.WalkKit
import Derived.ProofKit
namespace Go.Proofs.YtjpkngbjjgimjaaDoor
/-- Is a text ahead of another one? -/
def sl (a b : ByteArray) : Bool := Op.bytesLess a.toList b.toList
theorem bl_irr : ∀ l : List UInt8, Op.bytesLess l l = false
  | [] => rfl
  | a :: l => by simp [Op.bytesLess, bl_irr l]
theorem bl_trans : ∀ {a b c : List UInt8}, Op.bytesLess a b = true → Op.bytesLess b c = true → Op.bytesLess a c = true
  | _, [], _, h, _ => by simp [Op.bytesLess] at h
  | _, _ :: _, [], _, h => by simp [Op.bytesLess] at h
  | [], _ :: _, _ :: _, _, _ => rfl
  | a :: x, b :: y, c :: z, h, k => by
    simp only [Op.bytesLess, Bool.or_eq_true, decide_eq_true_eq, Bool.and_eq_true, beq_iff_eq] at *
    rcases h with h | ⟨rfl, h⟩
    · rcases k with k | ⟨rfl, k⟩
      · exact .inl (UInt8.lt_trans h k)
      · exact .inl h
    · rcases k with k | ⟨rfl, k⟩
      · exact .inl k
      · exact .inr ⟨rfl, bl_trans h k⟩
theorem bl_tot : ∀ {a b : List UInt8}, Op.bytesLess a b = false → Op.bytesLess b a = false → a = b
  | [], [], _, _ => rfl
  | [], _ :: _, h, _ => by simp [Op.bytesLess] at h
  | _ :: _, [], _, h => by simp [Op.bytesLess] at h
  | a :: x, b :: y, h, k => by
    simp only [Op.bytesLess, Bool.or_eq_false_iff, decide_eq_false_iff_not, Bool.and_eq_false_iff, beq_eq_false_iff_ne] at h k
    have e : a = b := by
      have h1 := h.1
      have k1 := k.1
      rw [UInt8.lt_iff_toNat_lt] at h1 k1
      exact UInt8.toNat_inj.1 (by omega)
    subst e
    rcases h.2 with h2 | h2
    · exact absurd rfl h2
    · rcases k.2 with k2 | k2
      · exact absurd rfl k2
      · rw [bl_tot h2 k2]
theorem sl_irr (a : ByteArray) : sl a a = false := bl_irr _
theorem sl_trans {a b c : ByteArray} (h : sl a b = true) (k : sl b c = true) : sl a c = true := bl_trans h k
theorem sl_tot {a b : ByteArray} (h : sl a b = false) (k : sl b a = false) : a = b := by
  have := bl_tot h k
  rw [ByteArray.toList_eq a, ByteArray.toList_eq b] at this
  exact ByteArray.ext (Array.toList_inj.1 this)
theorem sl_asym {a b : ByteArray} (h : sl a b = true) : sl b a = false := by
  cases e : sl b a with
  | false => rfl
  | true => have := sl_trans h e; rw [sl_irr] at this; cases this
theorem sl_ne {a b : ByteArray} (h : sl a b = true) : a ≠ b := fun e => by rw [e, sl_irr] at h; cases h
/-- Not ahead, and another one: behind. -/
theorem sl_gt {a b : ByteArray} (h : sl a b = false) (hn : a ≠ b) : sl b a = true := by
  cases e : sl b a with
  | true => rfl
  | false => exact absurd (sl_tot h e) hn
theorem sl_le_trans {a b c : ByteArray} (h : sl a b = true) (k : sl c b = false) : sl a c = true := by
  cases e : sl b c with
  | true => exact sl_trans h e
  | false => rw [← sl_tot e k]; exact h
theorem sl_of_le_lt {a b c : ByteArray} (h : sl b a = false) (k : sl b c = true) : sl a c = true := by
  cases e : sl a b with
  | true => exact sl_trans e k
  | false => rw [sl_tot e h]; exact k
/-- An entry: a key and its value. -/
abbrev Pr := ByteArray × ByteArray
def eSz (p : Pr) : Nat := 3 + p.1.size + p.2.size
def szL (l : List Pr) : Nat := (l.map eSz).sum
theorem szL_nil : szL [] = 0 := rfl
theorem szL_cons (p : Pr) (l : List Pr) : szL (p :: l) = eSz p + szL l := by simp [szL]
theorem szL_app (a b : List Pr) : szL (a ++ b) = szL a + szL b := by simp [szL]
def May (p : Pr) : Prop := 1 ≤ p.1.size ∧ p.1.size ≤ 64 ∧ p.2.size ≤ 400
theorem May.sz {p : Pr} (h : May p) : 4 ≤ eSz p ∧ eSz p ≤ 467 := by
  obtain ⟨h1, h2, h3⟩ := h
  unfold eSz; omega
theorem szL_len {l : List Pr} (h : ∀ p ∈ l, May p) : 4 * l.length ≤ szL l := by
  induction l with
  | nil => simp
  | cons p l ih =>
    have := (h p (List.mem_cons_self ..)).sz
    have := ih fun q hq => h q (List.mem_cons_of_mem _ hq)
    rw [szL_cons, List.length_cons]; omega
theorem szL_mem {l : List Pr} {p : Pr} (h : p ∈ l) : eSz p ≤ szL l := by
  induction l with
  | nil => simp at h
  | cons q l ih =>
    rw [szL_cons]
    rcases List.mem_cons.1 h with rfl | h
    · omega
    · have := ih h; omega
def Rise (l : List Pr) : Prop := l.Pairwise fun a b => sl a.1 b.1 = true
/-- The entries ahead of a key, and those from it on. -/
def lowT (T : List Pr) (k : ByteArray) : List Pr := T.takeWhile fun p => sl p.1 k
def highT (T : List Pr) (k : ByteArray) : List Pr := T.dropWhile fun p => sl p.1 k
theorem low_high (T : List Pr) (k : ByteArray) : lowT T k ++ highT T k = T := List.takeWhile_append_dropWhile
theorem spl {X Y : List Pr} {k : ByteArray} (lo : ∀ p ∈ X, sl p.1 k = true) (hi : ∀ p, Y.head? = some p → sl p.1 k = false) : lowT (X ++ Y) k = X ∧ highT (X ++ Y) k = Y := by
  unfold lowT highT
  have e1 : (X ++ Y).takeWhile (fun p => sl p.1 k) = X ++ Y.takeWhile (fun p => sl p.1 k) := List.takeWhile_append_of_pos lo
  have e2 : (X ++ Y).dropWhile (fun p => sl p.1 k) = Y.dropWhile (fun p => sl p.1 k) := List.dropWhile_append_of_pos lo
  rw [e1, e2]
  cases Y with
  | nil => simp
  | cons y Y =>
    have := hi y rfl
    simp [this]
theorem low_lt {T : List Pr} {k : ByteArray} : ∀ p ∈ lowT T k, sl p.1 k = true := by
  intro p hp
  exact List.all_eq_true.1 (List.all_takeWhile (p := fun p : Pr => sl p.1 k) (l := T)) p hp
theorem high_hd {T : List Pr} {k : ByteArray} {p : Pr} (h : (highT T k).head? = some p) : sl p.1 k = false := by
  have := List.head?_dropWhile_not (fun p : Pr => sl p.1 k) T
  unfold highT at h
  rw [h] at this
  simpa using this
def hasK (Y : List Pr) (k : ByteArray) : Bool := match Y with
  | [] => false
  | p :: _ => decide (p.1 = k)
def isT (T : List Pr) (k : ByteArray) : Bool := hasK (highT T k) k
/-- What stands behind a key. -/
def restT (T : List Pr) (k : ByteArray) : List Pr := if isT T k then (highT T k).tail else highT T k
def getT (T : List Pr) (k : ByteArray) : Option ByteArray := if isT T k then (highT T k).head?.map Prod.snd else none
def putT (T : List Pr) (k v : ByteArray) : List Pr := lowT T k ++ (k, v) :: restT T k
def dropT (T : List Pr) (k : ByteArray) : List Pr := lowT T k ++ restT T k
def rangeT (T : List Pr) (f t : ByteArray) (m : Int) : List Pr := (T.filter fun p => !sl p.1 f && !sl t p.1).take m.toNat
theorem dropT_none {T : List Pr} {k : ByteArray} (h : isT T k = false) : dropT T k = T := by
  unfold dropT restT
  rw [h]
  exact low_high T k
theorem Rise.parts {T : List Pr} (h : Rise T) (k : ByteArray) : Rise (lowT T k) ∧ Rise (highT T k) ∧ ∀ p ∈ lowT T k, ∀ q ∈ highT T k, sl p.1 q.1 = true := by
  unfold Rise at h
  rw [← low_high T k, List.pairwise_append] at h
  exact h
theorem rest_gt {T : List Pr} (h : Rise T) (k : ByteArray) : Rise (restT T k) ∧ ∀ p ∈ restT T k, sl k p.1 = true := by
  obtain ⟨_, h2, _⟩ := h.parts k
  have hh := fun p => high_hd (T := T) (k := k) (p := p)
  unfold restT isT
  generalize highT T k = Y at *
  cases Y with
  | nil => exact ⟨List.Pairwise.nil, fun p hp => by simp [hasK] at hp⟩
  | cons y Y =>
    have hy := hh y rfl
    unfold Rise at h2
    rw [List.pairwise_cons] at h2
    by_cases e : y.1 = k
    · simp only [hasK, e, decide_true, if_true, List.tail_cons]
      exact ⟨h2.2, fun p hp => by rw [← e]; exact h2.1 p hp⟩
    · simp only [hasK, e, decide_false, Bool.false_eq_true, if_false]
      refine ⟨List.pairwise_cons.2 h2, fun p hp => ?_⟩
      have hk := sl_gt hy e
      rcases List.mem_cons.1 hp with rfl | hp
      · exact hk
      · exact sl_trans hk (h2.1 p hp)
theorem rest_sub (T : List Pr) (k : ByteArray) : ∀ p ∈ restT T k, p ∈ highT T k := by
  intro p hp
  unfold restT at hp
  split at hp
  · exact List.mem_of_mem_tail hp
  · exact hp
theorem Rise.put {T : List Pr} (h : Rise T) (k v : ByteArray) : Rise (putT T k v) := by
  obtain ⟨h1, _, h3⟩ := h.parts k
  obtain ⟨r1, r2⟩ := rest_gt h k
  unfold Rise putT
  rw [List.pairwise_append, List.pairwise_cons]
  refine ⟨h1, ⟨r2, r1⟩, fun p hp q hq => ?_⟩
  rcases List.mem_cons.1 hq with rfl | hq
  · exact low_lt p hp
  · exact h3 p hp q (rest_sub T k q hq)
theorem Rise.drop {T : List Pr} (h : Rise T) (k : ByteArray) : Rise (dropT T k) := by
  obtain ⟨h1, _, h3⟩ := h.parts k
  obtain ⟨r1, r2⟩ := rest_gt h k
  unfold Rise dropT
  rw [List.pairwise_append]
  exact ⟨h1, r1, fun p hp q hq => h3 p hp q (rest_sub T k q hq)⟩
theorem mem_low {T : List Pr} {k : ByteArray} {p : Pr} (h : p ∈ lowT T k) : p ∈ T := by rw [← low_high T k]; exact List.mem_append_left _ h
theorem mem_high {T : List Pr} {k : ByteArray} {p : Pr} (h : p ∈ highT T k) : p ∈ T := by rw [← low_high T k]; exact List.mem_append_right _ h
theorem may_put {T : List Pr} (h : ∀ p ∈ T, May p) {k v : ByteArray} (hm : May (k, v)) : ∀ p ∈ putT T k v, May p := by
  intro p hp
  rcases List.mem_append.1 hp with hp | hp
  · exact h p (mem_low hp)
  · rcases List.mem_cons.1 hp with rfl | hp
    · exact hm
    · exact h p (mem_high (rest_sub T k p hp))
theorem may_drop {T : List Pr} (h : ∀ p ∈ T, May p) (k : ByteArray) : ∀ p ∈ dropT T k, May p := by
  intro p hp
  rcases List.mem_append.1 hp with hp | hp
  · exact h p (mem_low hp)
  · exact h p (mem_high (rest_sub T k p hp))
theorem get_some {T : List Pr} {k v : ByteArray} (h : getT T k = some v) : isT T k = true ∧ highT T k = (k, v) :: restT T k := by
  unfold getT at h
  unfold restT
  by_cases hi : isT T k = true
  · rw [if_pos hi] at h
    rw [if_pos hi]
    refine ⟨hi, ?_⟩
    unfold isT at hi
    generalize highT T k = Y at *
    cases Y with
    | nil => simp at h
    | cons y Y =>
      simp only [hasK, decide_eq_true_eq] at hi
      simp only [List.head?_cons, Option.map_some, Option.some.injEq] at h
      subst hi; subst h
      rfl
  · rw [if_neg hi] at h; cases h
theorem get_none {T : List Pr} {k : ByteArray} (h : getT T k = none) : isT T k = false ∧ highT T k = restT T k := by
  unfold getT at h
  unfold restT
  by_cases hi : isT T k = true
  · rw [if_pos hi] at h
    unfold isT at hi
    generalize highT T k = Y at *
    cases Y with
    | nil => simp [hasK] at hi
    | cons y Y => simp at h
  · rw [if_neg hi]
    exact ⟨by simpa using hi, rfl⟩
theorem sz_put (T : List Pr) (k v : ByteArray) : szL (putT T k v) + (match getT T k with | some u => eSz (k, u) | none => 0) = szL T + eSz (k, v) := by
  have e : szL T = szL (lowT T k) + szL (highT T k) := by rw [← szL_app, low_high]
  unfold putT
  rw [szL_app, szL_cons, e]
  cases h : getT T k with
  | none =>
    have := (get_none h).2
    rw [← this]
    simp only; omega
  | some u =>
    have := (get_some h).2
    simp only
    rw [this, szL_cons]
    omega
end Go.Proofs.YtjpkngbjjgimjaaDoor
