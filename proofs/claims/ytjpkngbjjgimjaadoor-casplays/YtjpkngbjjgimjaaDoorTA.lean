/- Ranges of a table that meet, in plain mathematics. The document's table: Same, Find, Get, Size, Range. -/
import Derived.Test.YtjpkngbjjgimjaaDoorSM
import Derived.Test.YtjpkngbjjgimjaaDoorSA
import Derived.BigQuiet
namespace Go.Proofs.YtjpkngbjjgimjaaDoor
/-- The entries from one key to another one. -/
def midT (T : List Pr) (f t : ByteArray) : List Pr := T.filter fun p => !sl p.1 f && !sl t p.1
theorem range_mid (T : List Pr) (f t : ByteArray) (m : Int) : rangeT T f t m = (midT T f t).take m.toNat := rfl
theorem mid_len (T : List Pr) (f t : ByteArray) : (midT T f t).length ≤ T.length := List.length_filter_le _ _
theorem range_full {T : List Pr} (f t : ByteArray) (m : Int) (h : (T.length : Int) ≤ m) : rangeT T f t m = midT T f t := by
  rw [range_mid]
  refine List.take_of_length_le ?_
  have := mid_len T f t
  omega
theorem mid_rise {T : List Pr} (h : Rise T) (f t : ByteArray) : Rise (midT T f t) := List.Pairwise.filter _ h
theorem mid_mem {T : List Pr} {f t : ByteArray} {p : Pr} (h : p ∈ midT T f t) : p ∈ T ∧ sl p.1 f = false ∧ sl t p.1 = false := by
  unfold midT at h
  rw [List.mem_filter] at h
  simpa using h
theorem get_mem {T : List Pr} (h : Rise T) {p : Pr} (hp : p ∈ T) : isT T p.1 = true ∧ getT T p.1 = some p.2 := by
  have hh : p ∈ highT T p.1 := by
    rw [← low_high T p.1] at hp
    rcases List.mem_append.1 hp with h1 | h1
    · have := low_lt p h1
      rw [sl_irr] at this
      cases this
    · exact h1
  have hr := (h.parts p.1).2.1
  have hd := fun q => high_hd (T := T) (k := p.1) (p := q)
  unfold getT
  unfold isT
  generalize highT T p.1 = Y at *
  cases Y with
  | nil => simp at hh
  | cons y Y =>
    have e : y = p := by
      rcases List.mem_cons.1 hh with e | hm
      · exact e.symm
      · have h1 := hd y rfl
        have h2 := (List.pairwise_cons.1 hr).1 p hm
        rw [h1] at h2
        cases h2
    subst e
    simp [hasK]
theorem mid_low {X : List Pr} {k f t : ByteArray} (hx : ∀ p ∈ X, sl p.1 k = true) (h : sl t k = false) : midT X f t = X.filter fun p => !sl p.1 f := by
  unfold midT
  refine List.filter_congr fun p hp => ?_
  have h1 : sl t p.1 = false := sl_asym (sl_le_trans (hx p hp) h)
  rw [h1]
  simp
theorem mid_none {X : List Pr} {k t : ByteArray} (hx : ∀ p ∈ X, sl p.1 k = true) : midT X k t = [] := by
  unfold midT
  rw [List.filter_eq_nil_iff]
  intro p hp
  rw [hx p hp]
  simp
theorem mid_gone {X : List Pr} {k f : ByteArray} (hx : ∀ p ∈ X, sl k p.1 = true) : midT X f k = [] := by
  unfold midT
  rw [List.filter_eq_nil_iff]
  intro p hp
  rw [hx p hp]
  simp
theorem mid_high {X : List Pr} {k f t : ByteArray} (hx : ∀ p ∈ X, sl k p.1 = true) (h : sl k f = false) : midT X f t = X.filter fun p => !sl t p.1 := by
  unfold midT
  refine List.filter_congr fun p hp => ?_
  have h1 : sl p.1 f = false := by
    refine sl_asym ?_
    exact sl_of_le_lt h (hx p hp)
  rw [h1]
  simp
theorem mid_app (X Y : List Pr) (f t : ByteArray) : midT (X ++ Y) f t = midT X f t ++ midT Y f t := List.filter_append ..
theorem mid_one {k v f t : ByteArray} (h : sl k f = false) (h2 : sl t k = false) : midT [(k, v)] f t = [(k, v)] := by
  unfold midT
  simp [h, h2]
/-- A table, parted at a key. -/
theorem parted_at {T : List Pr} (k : ByteArray) : T = lowT T k ++ ((match getT T k with | some v => [(k, v)] | none => []) ++ restT T k) := by
  cases h : getT T k with
  | none =>
    have := (get_none h).2
    simp only [List.nil_append]
    rw [← this, low_high]
  | some v =>
    have := (get_some h).2
    simp only [List.cons_append, List.nil_append]
    rw [← this, low_high]
theorem one_range {T : List Pr} (h : Rise T) (k : ByteArray) : rangeT T k k 5 = if isT T k then [(k, (getT T k).getD ByteArray.empty)] else [] := by
  have hr := rest_gt h k
  have e : midT T k k = match getT T k with | some v => [(k, v)] | none => [] := by
    conv => lhs; rw [parted_at (T := T) k]
    rw [mid_app, mid_app, mid_none low_lt, mid_gone hr.2]
    cases getT T k with
    | none => rfl
    | some v => simp only [List.nil_append, List.append_nil]; exact mid_one (sl_irr k) (sl_irr k)
  rw [range_mid, e]
  cases hg : getT T k with
  | none => rw [(get_none hg).1]; rfl
  | some v => rw [(get_some hg).1]; rfl
theorem mid_join {T : List Pr} (h : Rise T) {a b c : ByteArray} (h1 : sl b a = false) (h2 : sl c b = false) : midT T a b ++ (if isT T b then (midT T b c).drop 1 else midT T b c) = midT T a c := by
  have hr := rest_gt h b
  have e1 : midT T a b = ((lowT T b).filter fun p => !sl p.1 a) ++ (match getT T b with | some v => [(b, v)] | none => []) := by
    conv => lhs; rw [parted_at (T := T) b]
    rw [mid_app, mid_app, mid_low low_lt (sl_irr b), mid_gone hr.2, List.append_nil]
    cases getT T b with
    | none => rfl
    | some v => simp only; rw [mid_one h1 (sl_irr b)]
  have e2 : midT T b c = (match getT T b with | some v => [(b, v)] | none => []) ++ ((restT T b).filter fun p => !sl c p.1) := by
    conv => lhs; rw [parted_at (T := T) b]
    rw [mid_app, mid_app, mid_none low_lt, mid_high hr.2 (sl_irr b), List.nil_append]
    cases getT T b with
    | none => rfl
    | some v => simp only; rw [mid_one (sl_irr b) h2]
  have e3 : midT T a c = ((lowT T b).filter fun p => !sl p.1 a) ++ ((match getT T b with | some v => [(b, v)] | none => []) ++ ((restT T b).filter fun p => !sl c p.1)) := by
    conv => lhs; rw [parted_at (T := T) b]
    rw [mid_app, mid_app, mid_low low_lt h2, mid_high hr.2 h1]
    cases getT T b with
    | none => rfl
    | some v => simp only; rw [mid_one h1 h2]
  rw [e1, e2, e3]
  cases hg : getT T b with
  | none => rw [(get_none hg).1]; simp
  | some v => rw [(get_some hg).1]; simp
theorem take_min (l : List Pr) (m : Int) : (l.take m.toNat) = l.take (max 0 (min m (l.length : Int))).toNat := by
  by_cases h : m ≤ (l.length : Int)
  · congr 1
    omega
  · rw [List.take_of_length_le (by omega), List.take_of_length_le (by omega)]
end Go.Proofs.YtjpkngbjjgimjaaDoor
namespace Go.Proofs.YtjpkngbjjgimjaaDoor
open Go.RowKit
theorem below_drewN {B : Nat} {a w : World} (h : Below B a w) : ∀ n : Nat, Below B a (w.drewN n)
  | 0 => by rw [World.drewN_zero]; exact h
  | n + 1 => by rw [← World.drew_drewN]; exact (below_drewN h n).drew
theorem eqin_pair (a b c d : ByteArray) (w : World) : (Op.equalIn 10000 63 (.agg #[.string a, .string b]) (.agg #[.string c, .string d])).run Tryd.prog w = .ok (decide (a = c ∧ b = d)) w := by
  have u9 := Tryd.underlying9
  have a9 := Tryd.isAgg9
  have z9 := Tryd.sizeOf9
  have hS : Tryd.prog.underlying 63 = some (.struct (Tryd.prog.fieldsOf 63)) := by kernel_rfl
  have hp : Tryd.prog.stoodInHeld 63 = false := by kernel_rfl
  rw [show (10000 : Nat) = 9999 + 1 from rfl, run_equalIn_agg w 9999 63 _ _ hS hp]
  simp only [Program.fieldsOf, Tryd.underlying63]
  go_simp
  by_cases h1 : a = c
  · subst h1
    by_cases h2 : b = d
    · subst h2; simp
    · have := str_ne h2
      simp [h2, this]
  · have := str_ne h1
    simp [h1, this]
theorem leq_sl (a b : ByteArray) : (Op.bytesLess a.toList b.toList || a.toList == b.toList) = !sl b a := by
  unfold sl
  cases h1 : Op.bytesLess b.toList a.toList with
  | true =>
    have h2 : Op.bytesLess a.toList b.toList = false := sl_asym (a := b) (b := a) h1
    have h3 : (a.toList == b.toList) = false := by
      have h4 := sl_ne (a := b) (b := a) h1
      exact str_nb (fun e => h4 e.symm)
    rw [h2, h3]; rfl
  | false =>
    cases h2 : Op.bytesLess a.toList b.toList with
    | true => rfl
    | false =>
      have := sl_tot (a := a) (b := b) h2 h1
      subst this
      simp
theorem take_eq_succ {l k : List Pr} {i : Nat} {p q : Pr} (h : l.take i = k.take i) (hp : l[i]? = some p) (hq : k[i]? = some q) (e : p = q) : l.take (i + 1) = k.take (i + 1) := by
  rw [take_snoc hp, take_snoc hq, h, e]
end Go.Proofs.YtjpkngbjjgimjaaDoor
