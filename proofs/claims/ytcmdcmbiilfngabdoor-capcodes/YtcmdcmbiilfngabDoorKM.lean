/- Plain mathematics of layer 12: caveats, tokens, what they let, where they meet, their bytes. No program is named here. -/
import Derived.Test.YtcmdcmbiilfngabDoorNM
import Derived.Test.YtcmdcmbiilfngabDoorPM
namespace Go.Proofs.YtcmdcmbiilfngabDoor
open Pt (placeL coversL meetL)
/-- A string of bytes. -/
def baOf (l : List UInt8) : ByteArray := ⟨l.toArray⟩
theorem baOf_list (l : List UInt8) : (baOf l).data.toList = l := rfl
theorem baOf_of (s : ByteArray) : baOf s.data.toList = s := rfl
/-- A caveat. -/
structure Cv where
  path : ByteArray
  rights : Int
  til : Int
  deriving DecidableEq
/-- A token. -/
structure Tk where
  tenant : Int
  number : Int
  cavs : List Cv
  sig : ByteArray
def Cv.pl (c : Cv) : List UInt8 := c.path.data.toList
def Cv.ok (c : Cv) : Bool := placeL c.pl && decide (0 ≤ c.rights ∧ c.rights ≤ 7 ∧ 0 ≤ c.til ∧ c.til ≤ 1099511627776)
theorem Cv.ok_iff {c : Cv} : c.ok = true ↔ placeL c.pl = true ∧ 0 ≤ c.rights ∧ c.rights ≤ 7 ∧ 0 ≤ c.til ∧ c.til ≤ 1099511627776 := by
  unfold Cv.ok; rw [Bool.and_eq_true, decide_eq_true_eq]
def knownT (t n : Int) : Bool := decide (1 ≤ t ∧ t ≤ 8 ∧ 0 ≤ n ∧ n ≤ 1073741824)
theorem known_iff {t n : Int} : knownT t n = true ↔ 1 ≤ t ∧ t ≤ 8 ∧ 0 ≤ n ∧ n ≤ 1073741824 := by unfold knownT; rw [decide_eq_true_eq]
def mayT (t : Tk) : Bool := knownT t.tenant t.number && decide (t.cavs.length ≤ 8) && decide (t.sig.size = 32) && t.cavs.all Cv.ok
theorem may_iff {t : Tk} : mayT t = true ↔ knownT t.tenant t.number = true ∧ t.cavs.length ≤ 8 ∧ t.sig.size = 32 ∧ ∀ c ∈ t.cavs, c.ok = true := by
  unfold mayT; simp [and_assoc]
/-- Has it the right x? -/
def hasR (r x : Int) : Bool := decide (r / x % 2 = 1)
/-- The rights that two have. -/
def bothR (a b : Int) : Int := (if hasR a 1 && hasR b 1 then 1 else 0) + (if hasR a 2 && hasR b 2 then 2 else 0) + (if hasR a 4 && hasR b 4 then 4 else 0)
def rightB (x : Int) : Bool := decide (x = 1 ∨ x = 2 ∨ x = 4)
theorem both_fin : ∀ a b : Fin 8, (0 ≤ bothR (a.val : Int) (b.val : Int) ∧ bothR (a.val : Int) (b.val : Int) ≤ 7) ∧ (hasR (bothR (a.val : Int) (b.val : Int)) 1 = (hasR (a.val : Int) 1 && hasR (b.val : Int) 1)) ∧ (hasR (bothR (a.val : Int) (b.val : Int)) 2 = (hasR (a.val : Int) 2 && hasR (b.val : Int) 2)) ∧ (hasR (bothR (a.val : Int) (b.val : Int)) 4 = (hasR (a.val : Int) 4 && hasR (b.val : Int) 4)) := by decide +kernel
theorem both_ok {a b : Int} (ha : 0 ≤ a ∧ a ≤ 7) (hb : 0 ≤ b ∧ b ≤ 7) : (0 ≤ bothR a b ∧ bothR a b ≤ 7) ∧ ∀ x, rightB x = true → hasR (bothR a b) x = (hasR a x && hasR b x) := by
  obtain ⟨n, rfl⟩ : ∃ n : Nat, a = (n : Int) := ⟨a.toNat, by omega⟩
  obtain ⟨m, rfl⟩ : ∃ m : Nat, b = (m : Int) := ⟨b.toNat, by omega⟩
  obtain ⟨h0, h1, h2, h4⟩ := both_fin ⟨n, by omega⟩ ⟨m, by omega⟩
  refine ⟨h0, fun x hx => ?_⟩
  unfold rightB at hx
  rcases of_decide_eq_true hx with rfl | rfl | rfl
  · exact h1
  · exact h2
  · exact h4
/-- Does a caveat let x on p at now? -/
def Cv.lets (c : Cv) (x : Int) (p : List UInt8) (now : Int) : Bool := coversL c.pl p && hasR c.rights x && decide (now ≤ c.til)
def letsT (t : Tk) (x : Int) (p : List UInt8) (now : Int) : Bool := rightB x && placeL p && mayT t && t.cavs.all fun c => c.lets x p now
/-- The caveat that lets all. -/
def topC : Cv := ⟨baOf [], 7, 1099511627776⟩
def zeroC : Cv := ⟨baOf [], 0, 0⟩
theorem top_ok : topC.ok = true := by rw [Cv.ok_iff]; exact ⟨Pt.place_nil, by decide⟩
/-- Where two caveats meet. -/
def meetC (m c : Cv) : Option Cv := if (meetL m.pl c.pl).2 = true then some ⟨baOf (meetL m.pl c.pl).1, bothR m.rights c.rights, min m.til c.til⟩ else none
def meetF (l : List Cv) : Option Cv := l.foldl (fun m c => m.bind fun m => meetC m c) (some topC)
theorem meetF_nil : meetF [] = some topC := rfl
theorem meetF_snoc (l : List Cv) (c : Cv) : meetF (l ++ [c]) = (meetF l).bind fun m => meetC m c := by unfold meetF; rw [List.foldl_append]; rfl
theorem meetF_none (k : List Cv) : ∀ (l : List Cv), meetF l = none → meetF (l ++ k) = none := by
  intro l h
  have key : ∀ k : List Cv, k.foldl (fun (m : Option Cv) c => m.bind fun m => meetC m c) none = none := by
    intro k
    induction k with
    | nil => rfl
    | cons c k ih => exact ih
  unfold meetF at h ⊢
  rw [List.foldl_append, h]
  exact key k
def meetT (t : Tk) : Cv × Bool := if mayT t = true then (match meetF t.cavs with | none => (zeroC, false) | some m => (m, true)) else (zeroC, false)
theorem meetL_place {a b : List UInt8} (h : (meetL a b).2 = true) : placeL (meetL a b).1 = true := (Pt.covers_place (Pt.meet_covers h).1).2
theorem meetC_some {m c k : Cv} (hm : m.ok = true) (hc : c.ok = true) (h : meetC m c = some k) : k.ok = true ∧ ∀ x p now, rightB x = true → k.lets x p now = (m.lets x p now && c.lets x p now) := by
  unfold meetC at h
  split at h
  · rename_i h2
    obtain rfl := Option.some.inj h
    rw [Cv.ok_iff] at hm hc
    obtain ⟨hb, hx⟩ := both_ok ⟨hm.2.1, hm.2.2.1⟩ ⟨hc.2.1, hc.2.2.1⟩
    refine ⟨?_, fun x p now hr => ?_⟩
    · rw [Cv.ok_iff]
      refine ⟨?_, hb.1, hb.2, ?_, ?_⟩
      · exact meetL_place h2
      · show 0 ≤ min m.til c.til; omega
      · show min m.til c.til ≤ _; omega
    · unfold Cv.lets
      rw [hx x hr]
      have e1 : coversL (baOf (meetL m.pl c.pl).1).data.toList p = (coversL m.pl p && coversL c.pl p) := by
        rw [baOf_list, Bool.eq_iff_iff, Bool.and_eq_true]
        have hmc := Pt.meet_covers h2
        constructor
        · exact fun h => ⟨Pt.covers_trans hmc.1 h, Pt.covers_trans hmc.2 h⟩
        · exact fun ⟨h3, h4⟩ => (Pt.meet_both h3 h4).2
      have e2 : decide (now ≤ min m.til c.til) = (decide (now ≤ m.til) && decide (now ≤ c.til)) := by
        rw [Bool.eq_iff_iff, Bool.and_eq_true, decide_eq_true_eq, decide_eq_true_eq, decide_eq_true_eq]
        omega
      show (coversL (baOf (meetL m.pl c.pl).1).data.toList p && (hasR m.rights x && hasR c.rights x) && decide (now ≤ min m.til c.til)) = _
      rw [e1, e2]
      cases coversL m.pl p <;> cases coversL c.pl p <;> cases hasR m.rights x <;> cases hasR c.rights x <;> cases decide (now ≤ m.til) <;> cases decide (now ≤ c.til) <;> rfl
  · cases h
theorem meetC_none {m c : Cv} (h : meetC m c = none) (x : Int) (p : List UInt8) (now : Int) : (m.lets x p now && c.lets x p now) = false := by
  unfold meetC at h
  split at h
  · cases h
  · rename_i h2
    cases h3 : m.lets x p now && c.lets x p now with
    | false => rfl
    | true =>
      unfold Cv.lets at h3
      simp only [Bool.and_eq_true] at h3
      exact absurd (Pt.meet_both h3.1.1.1 h3.2.1.1).1 h2
theorem top_lets {x : Int} {p : List UInt8} {now : Int} (hx : rightB x = true) (hp : placeL p = true) : topC.lets x p now = decide (now ≤ 1099511627776) := by
  unfold Cv.lets
  have e1 : coversL topC.pl p = true := by show coversL [] p = true; rw [Pt.covers_nil, hp]
  have e2 : hasR topC.rights x = true := by
    unfold rightB at hx
    rcases of_decide_eq_true hx with rfl | rfl | rfl <;> rfl
  rw [e1, e2]
  rfl
theorem meetF_all : ∀ (n : Nat) (l : List Cv), l.length = n → (∀ c ∈ l, c.ok = true) → (∀ m, meetF l = some m → m.ok = true ∧ ∀ x p now, rightB x = true → placeL p = true → m.lets x p now = (l.all (fun c => c.lets x p now) && decide (now ≤ 1099511627776))) ∧ (meetF l = none → ∀ x p now, l.all (fun c => c.lets x p now) = false)
  | 0, l, hl, _ => by
    obtain rfl := List.eq_nil_of_length_eq_zero hl
    refine ⟨fun m hm => ?_, fun h => ?_⟩
    · rw [meetF_nil] at hm
      obtain rfl := Option.some.inj hm
      exact ⟨top_ok, fun x p now hx hp => by rw [top_lets hx hp]; rfl⟩
    · rw [meetF_nil] at h; cases h
  | n + 1, l, hl, hok => by
    obtain ⟨k, c, rfl⟩ : ∃ k c, l = k ++ [c] := by
      rcases List.eq_nil_or_concat l with h | ⟨k, c, h⟩
      · rw [h] at hl; simp at hl
      · exact ⟨k, c, by simpa using h⟩
    have hkl : k.length = n := by simpa using hl
    obtain ⟨ih1, ih2⟩ := meetF_all n k hkl (fun c hc => hok c (by simp [hc]))
    have hc := hok c (by simp)
    rw [meetF_snoc]
    refine ⟨fun m hm => ?_, fun h x p now => ?_⟩
    · cases hk : meetF k with
      | none => rw [hk] at hm; cases hm
      | some m0 =>
        rw [hk] at hm
        obtain ⟨h0, h1⟩ := ih1 m0 hk
        obtain ⟨h2, h3⟩ := meetC_some h0 hc hm
        refine ⟨h2, fun x p now hx hp => ?_⟩
        rw [h3 x p now hx, h1 x p now hx hp, List.all_append]
        simp only [List.all_cons, List.all_nil, Bool.and_true]
        cases k.all (fun c => c.lets x p now) <;> cases decide (now ≤ (1099511627776 : Int)) <;> cases c.lets x p now <;> rfl
    · rw [List.all_append]
      simp only [List.all_cons, List.all_nil, Bool.and_true]
      cases hk : meetF k with
      | none => rw [ih2 hk]; rfl
      | some m0 =>
        rw [hk] at h
        obtain ⟨h0, h1⟩ := ih1 m0 hk
        have h5 := fun x p now => meetC_none (m := m0) (c := c) h x p now
        cases ha : k.all (fun c => c.lets x p now) with
        | false => rfl
        | true =>
          cases hcl : c.lets x p now with
          | false => rfl
          | true =>
            -- the time isn't above the one that c lets, so m0 lets it as well, but for a right that is none
            exfalso
            have hcl2 := hcl
            unfold Cv.lets at hcl2
            simp only [Bool.and_eq_true, decide_eq_true_eq] at hcl2
            have hpp : placeL p = true := (Pt.covers_place hcl2.1.1).2
            have hto : now ≤ 1099511627776 := by have := (Cv.ok_iff.1 hc); omega
            have hcov : ∀ e ∈ k, coversL e.pl p = true := fun e he => by
              have := List.all_eq_true.1 ha e he
              unfold Cv.lets at this
              simp only [Bool.and_eq_true] at this
              exact this.1.1
            -- the paths meet, whatever the right
            have hcm : coversL m0.pl p = true := by
              have hr : rightB 1 = true := rfl
              have key : ∀ (l : List Cv) (m : Cv), meetF l = some m → (∀ e ∈ l, coversL e.pl p = true) → coversL m.pl p = true := by
                intro l
                obtain ⟨N, hN⟩ : ∃ N, l.length = N := ⟨_, rfl⟩
                induction N generalizing l with
                | zero =>
                  intro m hm _
                  obtain rfl := List.eq_nil_of_length_eq_zero hN
                  rw [meetF_nil] at hm
                  obtain rfl := Option.some.inj hm
                  show coversL [] p = true
                  rw [Pt.covers_nil, hpp]
                | succ N ih =>
                  intro m hm he
                  obtain ⟨j, d, rfl⟩ : ∃ j d, l = j ++ [d] := by
                    rcases List.eq_nil_or_concat l with h | ⟨j, d, h⟩
                    · rw [h] at hN; simp at hN
                    · exact ⟨j, d, by simpa using h⟩
                  rw [meetF_snoc] at hm
                  cases hj : meetF j with
                  | none => rw [hj] at hm; cases hm
                  | some m1 =>
                    rw [hj] at hm
                    have h1 := ih j (by simpa using hN) m1 hj (fun e h => he e (by simp [h]))
                    have h2 := he d (by simp)
                    change meetC m1 d = some m at hm
                    unfold meetC at hm
                    split at hm
                    · obtain rfl := Option.some.inj hm
                      exact (Pt.meet_both h1 h2).2
                    · cases hm
              exact key k m0 hk hcov
            change meetC m0 c = none at h
            unfold meetC at h
            split at h
            · cases h
            · rename_i h6
              exact h6 (Pt.meet_both hcm hcl2.1.1).1
/-- A text's bytes: how many, and they. -/
def textN (t : List UInt8) : List UInt8 := putN t.length ++ t
/-- A caveat's bytes. -/
def Cv.bytes (c : Cv) : List UInt8 := textN c.pl ++ putN c.rights.toNat ++ putN c.til.toNat
def headB (t n : Int) : List UInt8 := putN t.toNat ++ putN n.toNat
def cvsB (l : List Cv) : List UInt8 := l.flatMap Cv.bytes
def encT (t : Tk) : List UInt8 := headB t.tenant t.number ++ putN t.cavs.length ++ cvsB t.cavs ++ textN t.sig.data.toList
/-- A count of up to most, at a place. -/
def cntAt (bs : List UInt8) (p most : Int) : Nat × Int × Nat :=
  if (getAt bs p).2.2 ≠ 0 then (0, 0, (getAt bs p).2.2) else if max most 0 < (getAt bs p).1 then (0, 0, 2) else getAt bs p
/-- A text of up to most bytes, at a place. -/
def textAt (bs : List UInt8) (p most : Int) : List UInt8 × Int × Nat :=
  if (cntAt bs p most).2.2 ≠ 0 then ([], 0, (cntAt bs p most).2.2) else if (bs.length : Int) - (cntAt bs p most).2.1 < (cntAt bs p most).1 then ([], 0, 3)
  else ((bs.drop (cntAt bs p most).2.1.toNat).take (cntAt bs p most).1, (cntAt bs p most).2.1 + (cntAt bs p most).1, 0)
/-- The caveat at a place; numbers above K are K. -/
def cavAt (K : Nat) (bs : List UInt8) (p : Int) : Except Nat (Cv × Int) :=
  if (textAt bs p 32).2.2 ≠ 0 then .error (textAt bs p 32).2.2
  else if (getAt bs (textAt bs p 32).2.1).2.2 ≠ 0 then .error (getAt bs (textAt bs p 32).2.1).2.2
  else if (getAt bs (getAt bs (textAt bs p 32).2.1).2.1).2.2 ≠ 0 then .error (getAt bs (getAt bs (textAt bs p 32).2.1).2.1).2.2
  else .ok (⟨baOf (textAt bs p 32).1, ((min (getAt bs (textAt bs p 32).2.1).1 K : Nat) : Int), ((min (getAt bs (getAt bs (textAt bs p 32).2.1).2.1).1 K : Nat) : Int)⟩, (getAt bs (getAt bs (textAt bs p 32).2.1).2.1).2.1)
def cavsAt (K : Nat) (bs : List UInt8) (p : Int) : Nat → Except Nat (List Cv × Int)
  | 0 => .ok ([], p)
  | n + 1 => match cavsAt K bs p n with
    | .error e => .error e
    | .ok (l, q) => match cavAt K bs q with
      | .error e => .error e
      | .ok (c, r) => .ok (l ++ [c], r)
/-- Behind the three numbers. -/
def restAt (K : Nat) (bs : List UInt8) (t n : Nat) (count : Nat) (p : Int) : Except Nat (Tk × Int) :=
  match cavsAt K bs p count with
  | .error e => .error e
  | .ok (l, q) => if (textAt bs q 32).2.2 ≠ 0 then .error (textAt bs q 32).2.2
    else if mayT ⟨((min t K : Nat) : Int), ((min n K : Nat) : Int), l, baOf (textAt bs q 32).1⟩ = true then .ok (⟨((min t K : Nat) : Int), ((min n K : Nat) : Int), l, baOf (textAt bs q 32).1⟩, (textAt bs q 32).2.1) else .error 4
def decAt (K : Nat) (bs : List UInt8) (p : Int) : Except Nat (Tk × Int) :=
  if (getAt bs p).2.2 ≠ 0 then .error (getAt bs p).2.2
  else if (getAt bs (getAt bs p).2.1).2.2 ≠ 0 then .error (getAt bs (getAt bs p).2.1).2.2
  else if (getAt bs (getAt bs (getAt bs p).2.1).2.1).2.2 ≠ 0 then .error (getAt bs (getAt bs (getAt bs p).2.1).2.1).2.2
  else if 8 < (getAt bs (getAt bs (getAt bs p).2.1).2.1).1 then .error 4
  else restAt K bs (getAt bs p).1 (getAt bs (getAt bs p).2.1).1 (getAt bs (getAt bs (getAt bs p).2.1).2.1).1 (getAt bs (getAt bs (getAt bs p).2.1).2.1).2.1
/-- Two numbers that are one, or both too great. -/
def nearI (x y : Int) : Prop := x = y ∨ (1099511627776 < x ∧ 1099511627776 < y)
theorem near_min {K L : Nat} (hK : 2199023255552 ≤ K) (hL : 2199023255552 ≤ L) (n : Nat) : nearI ((min n K : Nat) : Int) ((min n L : Nat) : Int) := by
  unfold nearI; omega
def nearC (c d : Cv) : Prop := c.path = d.path ∧ nearI c.rights d.rights ∧ nearI c.til d.til
theorem near_ok {c d : Cv} (h : nearC c d) : c.ok = d.ok ∧ (c.ok = true → c = d) := by
  obtain ⟨p, r, u⟩ := c
  obtain ⟨p2, r2, u2⟩ := d
  obtain ⟨h1, h2, h3⟩ := h
  simp only at h1 h2 h3
  subst h1
  unfold nearI at h2 h3
  refine ⟨?_, fun h => ?_⟩
  · rw [Bool.eq_iff_iff, Cv.ok_iff, Cv.ok_iff]
    simp only [Cv.pl]
    constructor
    · rintro ⟨a, b⟩; exact ⟨a, by omega⟩
    · rintro ⟨a, b⟩; exact ⟨a, by omega⟩
  · rw [Cv.ok_iff] at h
    simp only at h
    obtain ⟨_, h⟩ := h
    rw [show r = r2 by omega, show u = u2 by omega]
inductive NearL : List Cv → List Cv → Prop
  | nil : NearL [] []
  | snoc {a b : List Cv} {c d : Cv} : NearL a b → nearC c d → NearL (a ++ [c]) (b ++ [d])
theorem NearL.all {a b : List Cv} (h : NearL a b) : a.length = b.length ∧ a.all Cv.ok = b.all Cv.ok ∧ (a.all Cv.ok = true → a = b) := by
  induction h with
  | nil => exact ⟨rfl, rfl, fun _ => rfl⟩
  | snoc _ h2 ih =>
    obtain ⟨i1, i2, i3⟩ := ih
    obtain ⟨j1, j2⟩ := near_ok h2
    refine ⟨by simp [i1], by simp [List.all_append, i2, j1], fun h => ?_⟩
    rw [List.all_append, Bool.and_eq_true] at h
    rw [i3 h.1, j2 (by simpa using h.2)]
theorem cavs_near {K L : Nat} (hK : 2199023255552 ≤ K) (hL : 2199023255552 ≤ L) (bs : List UInt8) (p : Int) : ∀ n, (∃ e, cavsAt K bs p n = .error e ∧ cavsAt L bs p n = .error e) ∨ ∃ a b q, cavsAt K bs p n = .ok (a, q) ∧ cavsAt L bs p n = .ok (b, q) ∧ NearL a b
  | 0 => .inr ⟨[], [], p, rfl, rfl, .nil⟩
  | n + 1 => by
    rcases cavs_near hK hL bs p n with ⟨e, h1, h2⟩ | ⟨a, b, q, h1, h2, h3⟩
    · refine .inl ⟨e, ?_, ?_⟩
      · unfold cavsAt; rw [h1]
      · unfold cavsAt; rw [h2]
    · have key : (∃ e, cavAt K bs q = .error e ∧ cavAt L bs q = .error e) ∨ ∃ c d r, cavAt K bs q = .ok (c, r) ∧ cavAt L bs q = .ok (d, r) ∧ nearC c d := by
        unfold cavAt
        by_cases x1 : (textAt bs q 32).2.2 ≠ 0
        · rw [if_pos x1, if_pos x1]; exact .inl ⟨_, rfl, rfl⟩
        · rw [if_neg x1, if_neg x1]
          by_cases x2 : (getAt bs (textAt bs q 32).2.1).2.2 ≠ 0
          · rw [if_pos x2, if_pos x2]; exact .inl ⟨_, rfl, rfl⟩
          · rw [if_neg x2, if_neg x2]
            by_cases x3 : (getAt bs (getAt bs (textAt bs q 32).2.1).2.1).2.2 ≠ 0
            · rw [if_pos x3, if_pos x3]; exact .inl ⟨_, rfl, rfl⟩
            · rw [if_neg x3, if_neg x3]
              exact .inr ⟨_, _, _, rfl, rfl, rfl, near_min hK hL _, near_min hK hL _⟩
      rcases key with ⟨e, k1, k2⟩ | ⟨c, d, r, k1, k2, k3⟩
      · refine .inl ⟨e, ?_, ?_⟩
        · unfold cavsAt; rw [h1]; simp only; rw [k1]
        · unfold cavsAt; rw [h2]; simp only; rw [k2]
      · refine .inr ⟨a ++ [c], b ++ [d], r, ?_, ?_, .snoc h3 k3⟩
        · unfold cavsAt; rw [h1]; simp only; rw [k1]
        · unfold cavsAt; rw [h2]; simp only; rw [k2]
theorem near_may {t n t2 n2 : Int} {a b : List Cv} {s : ByteArray} (h1 : nearI t t2) (h2 : nearI n n2) (h3 : NearL a b) : mayT ⟨t, n, a, s⟩ = mayT ⟨t2, n2, b, s⟩ ∧ (mayT ⟨t, n, a, s⟩ = true → (⟨t, n, a, s⟩ : Tk) = ⟨t2, n2, b, s⟩) := by
  obtain ⟨i1, i2, i3⟩ := h3.all
  unfold nearI at h1 h2
  refine ⟨?_, fun h => ?_⟩
  · unfold mayT
    simp only
    rw [i1, i2]
    have : knownT t n = knownT t2 n2 := by
      rw [Bool.eq_iff_iff, known_iff, known_iff]
      omega
    rw [this]
  · unfold mayT at h
    simp only [Bool.and_eq_true] at h
    have hk := known_iff.1 h.1.1.1
    rw [show t = t2 by omega, show n = n2 by omega, i3 h.2]
theorem dec_near {K L : Nat} (hK : 2199023255552 ≤ K) (hL : 2199023255552 ≤ L) (bs : List UInt8) (p : Int) : decAt K bs p = decAt L bs p := by
  unfold decAt restAt
  split
  · rfl
  · split
    · rfl
    · split
      · rfl
      · split
        · rfl
        · rcases cavs_near hK hL bs (getAt bs (getAt bs (getAt bs p).2.1).2.1).2.1 (getAt bs (getAt bs (getAt bs p).2.1).2.1).1 with ⟨e, h1, h2⟩ | ⟨a, b, q, h1, h2, h3⟩
          · rw [h1, h2]
          · rw [h1, h2]
            simp only
            obtain ⟨m1, m2⟩ := near_may (s := baOf (textAt bs q 32).1) (near_min hK hL (getAt bs p).1) (near_min hK hL (getAt bs (getAt bs p).2.1).1) h3
            split
            · rfl
            · by_cases hm : mayT ⟨((min (getAt bs p).1 K : Nat) : Int), ((min (getAt bs (getAt bs p).2.1).1 K : Nat) : Int), a, baOf (textAt bs q 32).1⟩ = true
              · rw [if_pos hm, if_pos (by rw [← m1]; exact hm), m2 hm]
              · rw [if_neg hm, if_neg (by rw [← m1]; exact hm)]
/-- There and back. -/
theorem getAt_back {pre post : List UInt8} {n : Nat} (h : n < 2 ^ 64) : getAt (pre ++ (putN n ++ post)) (pre.length : Int) = (n, ((pre.length + (putN n).length : Nat) : Int), 0) := by
  unfold getAt
  rw [if_neg (by simp only [List.length_append]; omega), Int.toNat_natCast, List.drop_left, getL_back n h post]
  simp
theorem textAt_back {pre post t : List UInt8} {m : Nat} (h : t.length ≤ m) (hm : m < 1000000) : textAt (pre ++ (textN t ++ post)) (pre.length : Int) (m : Int) = (t, ((pre.length + (textN t).length : Nat) : Int), 0) := by
  have e1 : pre ++ (textN t ++ post) = pre ++ (putN t.length ++ (t ++ post)) := by unfold textN; simp
  have h1 : getAt (pre ++ (textN t ++ post)) (pre.length : Int) = (t.length, ((pre.length + (putN t.length).length : Nat) : Int), 0) := by rw [e1]; exact getAt_back (by omega)
  have h2 : cntAt (pre ++ (textN t ++ post)) (pre.length : Int) (m : Int) = (t.length, ((pre.length + (putN t.length).length : Nat) : Int), 0) := by
    unfold cntAt
    rw [h1]
    rw [if_neg (by simp), if_neg (by simp; omega)]
  unfold textAt
  rw [h2]
  rw [if_neg (by simp), if_neg (by simp [textN]; omega)]
  simp only [Int.toNat_natCast]
  have e2 : (pre ++ (textN t ++ post)).drop (pre.length + (putN t.length).length) = t ++ post := by
    rw [e1, ← List.append_assoc, ← List.length_append, List.drop_left]
  rw [e2, List.take_left]
  simp [textN]
  omega
theorem cav_back {pre post : List UInt8} {c : Cv} {K : Nat} (hK : 2199023255552 ≤ K) (hc : c.ok = true) : cavAt K (pre ++ (c.bytes ++ post)) (pre.length : Int) = .ok (c, ((pre.length + c.bytes.length : Nat) : Int)) := by
  obtain ⟨p, r, u⟩ := c
  rw [Cv.ok_iff] at hc
  obtain ⟨hp, hr⟩ := hc
  simp only at hr
  have hpl : (Cv.pl ⟨p, r, u⟩).length ≤ 32 := by
    rcases Pt.place_iff.1 hp with h | h
    · rw [h]; simp
    · exact (Pt.good_iff.1 h).1
  obtain ⟨l, hl⟩ : ∃ l, Cv.pl ⟨p, r, u⟩ = l := ⟨_, rfl⟩
  obtain ⟨rn, rfl⟩ : ∃ n : Nat, r = (n : Int) := ⟨r.toNat, by omega⟩
  obtain ⟨un, rfl⟩ : ∃ n : Nat, u = (n : Int) := ⟨u.toNat, by omega⟩
  have e0 : Cv.bytes ⟨p, (rn : Int), (un : Int)⟩ = textN l ++ (putN rn ++ putN un) := by
    unfold Cv.bytes
    rw [hl]
    simp
  rw [hl] at hpl
  have hpb : p = baOf l := by rw [← hl]; rfl
  rw [e0]
  have f1 : pre ++ (textN l ++ (putN rn ++ putN un) ++ post) = pre ++ (textN l ++ (putN rn ++ putN un ++ post)) := by simp
  have f2 : pre ++ (textN l ++ (putN rn ++ putN un) ++ post) = (pre ++ textN l) ++ (putN rn ++ (putN un ++ post)) := by simp
  have f3 : pre ++ (textN l ++ (putN rn ++ putN un) ++ post) = (pre ++ textN l ++ putN rn) ++ (putN un ++ post) := by simp
  have h1 : textAt (pre ++ (textN l ++ (putN rn ++ putN un) ++ post)) (pre.length : Int) 32 = (l, (((pre ++ textN l).length : Nat) : Int), 0) := by
    rw [f1, List.length_append]
    exact textAt_back (m := 32) hpl (by omega)
  have h2 : getAt (pre ++ (textN l ++ (putN rn ++ putN un) ++ post)) ((pre ++ textN l).length : Int) = (rn, (((pre ++ textN l ++ putN rn).length : Nat) : Int), 0) := by
    rw [f2, List.length_append (as := pre ++ textN l) (bs := putN rn)]
    exact getAt_back (by omega)
  have h3 : getAt (pre ++ (textN l ++ (putN rn ++ putN un) ++ post)) ((pre ++ textN l ++ putN rn).length : Int) = (un, (((pre ++ textN l ++ putN rn ++ putN un).length : Nat) : Int), 0) := by
    rw [f3, List.length_append (as := pre ++ textN l ++ putN rn) (bs := putN un)]
    exact getAt_back (by omega)
  unfold cavAt
  rw [h1]
  simp only
  rw [h2]
  simp only
  rw [h3]
  simp only
  rw [if_neg (by simp), if_neg (by simp), if_neg (by simp), Nat.min_eq_left (by omega), Nat.min_eq_left (by omega), hpb]
  congr 2
  simp
theorem cvsB_snoc (l : List Cv) (c : Cv) : cvsB (l ++ [c]) = cvsB l ++ c.bytes := by unfold cvsB; simp
theorem cavs_back {K : Nat} (hK : 2199023255552 ≤ K) : ∀ (n : Nat) (l : List Cv) (pre post : List UInt8), l.length = n → (∀ c ∈ l, c.ok = true) → cavsAt K (pre ++ (cvsB l ++ post)) (pre.length : Int) n = .ok (l, ((pre.length + (cvsB l).length : Nat) : Int))
  | 0, l, pre, post, hl, _ => by
    obtain rfl := List.eq_nil_of_length_eq_zero hl
    simp [cavsAt, cvsB]
  | n + 1, l, pre, post, hl, hok => by
    obtain ⟨k, c, rfl⟩ : ∃ k c, l = k ++ [c] := by
      rcases List.eq_nil_or_concat l with h | ⟨k, c, h⟩
      · rw [h] at hl; simp at hl
      · exact ⟨k, c, by simpa using h⟩
    have ih := cavs_back hK n k pre (c.bytes ++ post) (by simpa using hl) (fun c hc => hok c (by simp [hc]))
    have f : pre ++ (cvsB (k ++ [c]) ++ post) = pre ++ (cvsB k ++ (c.bytes ++ post)) := by rw [cvsB_snoc]; simp
    unfold cavsAt
    rw [f, ih]
    simp only
    have f2 : pre ++ (cvsB k ++ (c.bytes ++ post)) = (pre ++ cvsB k) ++ (c.bytes ++ post) := by simp
    rw [f2, ← List.length_append, cav_back hK (hok c (by simp))]
    simp only [cvsB_snoc, List.length_append]
    congr 2
    omega
theorem dec_back {K : Nat} (hK : 2199023255552 ≤ K) {t : Tk} (hm : mayT t = true) (pre post : List UInt8) : decAt K (pre ++ (encT t ++ post)) (pre.length : Int) = .ok (t, ((pre.length + (encT t).length : Nat) : Int)) := by
  have hm0 := hm
  obtain ⟨a, b, l, s⟩ := t
  rw [may_iff] at hm
  simp only at hm
  obtain ⟨hk, hl, hs, hok⟩ := hm
  have hk := known_iff.1 hk
  obtain ⟨an, rfl⟩ : ∃ n : Nat, a = (n : Int) := ⟨a.toNat, by omega⟩
  obtain ⟨bn, rfl⟩ : ∃ n : Nat, b = (n : Int) := ⟨b.toNat, by omega⟩
  obtain ⟨B, hB⟩ : ∃ B, pre ++ (encT ⟨(an : Int), (bn : Int), l, s⟩ ++ post) = B := ⟨_, rfl⟩
  have e0 : encT ⟨(an : Int), (bn : Int), l, s⟩ = putN an ++ (putN bn ++ (putN l.length ++ (cvsB l ++ textN s.data.toList))) := by
    unfold encT headB
    simp
  have f1 : B = pre ++ (putN an ++ (putN bn ++ putN l.length ++ cvsB l ++ textN s.data.toList ++ post)) := by rw [← hB, e0]; simp
  have f2 : B = (pre ++ putN an) ++ (putN bn ++ (putN l.length ++ cvsB l ++ textN s.data.toList ++ post)) := by rw [← hB, e0]; simp
  have f3 : B = (pre ++ putN an ++ putN bn) ++ (putN l.length ++ (cvsB l ++ textN s.data.toList ++ post)) := by rw [← hB, e0]; simp
  have f4 : B = (pre ++ putN an ++ putN bn ++ putN l.length) ++ (cvsB l ++ (textN s.data.toList ++ post)) := by rw [← hB, e0]; simp
  have f5 : B = (pre ++ putN an ++ putN bn ++ putN l.length ++ cvsB l) ++ (textN s.data.toList ++ post) := by rw [← hB, e0]; simp
  have h1 : getAt B (pre.length : Int) = (an, ((pre ++ putN an).length : Int), 0) := by
    rw [f1, List.length_append (as := pre) (bs := putN an)]; exact getAt_back (by omega)
  have h2 : getAt B ((pre ++ putN an).length : Int) = (bn, ((pre ++ putN an ++ putN bn).length : Int), 0) := by
    rw [f2, List.length_append (as := pre ++ putN an) (bs := putN bn)]; exact getAt_back (by omega)
  have h3 : getAt B ((pre ++ putN an ++ putN bn).length : Int) = (l.length, ((pre ++ putN an ++ putN bn ++ putN l.length).length : Int), 0) := by
    rw [f3, List.length_append (as := pre ++ putN an ++ putN bn) (bs := putN l.length)]; exact getAt_back (by omega)
  have h4 : cavsAt K B ((pre ++ putN an ++ putN bn ++ putN l.length).length : Int) l.length = .ok (l, ((pre ++ putN an ++ putN bn ++ putN l.length ++ cvsB l).length : Int)) := by
    rw [f4, List.length_append (as := pre ++ putN an ++ putN bn ++ putN l.length) (bs := cvsB l)]
    exact cavs_back hK l.length l _ _ rfl hok
  have h5 : textAt B ((pre ++ putN an ++ putN bn ++ putN l.length ++ cvsB l).length : Int) 32 = (s.data.toList, ((pre ++ putN an ++ putN bn ++ putN l.length ++ cvsB l ++ textN s.data.toList).length : Int), 0) := by
    rw [f5, List.length_append (as := pre ++ putN an ++ putN bn ++ putN l.length ++ cvsB l) (bs := textN s.data.toList)]
    exact textAt_back (m := 32) (by rw [Array.length_toList]; show s.size ≤ 32; omega) (by omega)
  rw [hB]
  unfold decAt
  rw [h1]
  simp only
  rw [h2]
  simp only
  rw [h3]
  simp only
  rw [if_neg (by simp), if_neg (by simp), if_neg (by simp), if_neg (by omega)]
  unfold restAt
  rw [h4]
  simp only
  rw [h5]
  simp only
  rw [if_neg (by simp), Nat.min_eq_left (by omega), Nat.min_eq_left (by omega), baOf_of, if_pos hm0, e0]
  congr 2
  simp
end Go.Proofs.YtcmdcmbiilfngabDoor
