/- Plain mathematics of layer 13: an audit's bytes, there and back. No program is named here. -/
import Derived.Test.YtkhidkilkbmpoaaDoorQM
namespace Go.Proofs.YtkhidkilkbmpoaaDoor
/-- The bytes of entries; of an audit. -/
def entsB (l : List En) : List UInt8 := l.flatMap En.bytes
theorem entsB_snoc (l : List En) (e : En) : entsB (l ++ [e]) = entsB l ++ e.bytes := by unfold entsB; simp
def headA (a : Au) : List UInt8 := textN a.anchor.data.toList ++ putN a.last.toNat ++ putN a.ents.length
def encA (a : Au) : List UInt8 := headA a ++ entsB a.ents
/-- The entry at a place; numbers above K are K. -/
def entAt (K : Nat) (bs : List UInt8) (p : Int) : Option (En × Int) :=
  if (getAt bs p).2.2 ≠ 0 then none
  else if (getAt bs (getAt bs p).2.1).2.2 ≠ 0 then none
  else if (getAt bs (getAt bs (getAt bs p).2.1).2.1).2.2 ≠ 0 then none
  else if (textAt bs (getAt bs (getAt bs (getAt bs p).2.1).2.1).2.1 32).2.2 ≠ 0 then none
  else if (getAt bs (textAt bs (getAt bs (getAt bs (getAt bs p).2.1).2.1).2.1 32).2.1).2.2 ≠ 0 then none
  else some (⟨((min (getAt bs p).1 K : Nat) : Int), ((min (getAt bs (getAt bs p).2.1).1 K : Nat) : Int), ((min (getAt bs (getAt bs (getAt bs p).2.1).2.1).1 K : Nat) : Int), baOf (textAt bs (getAt bs (getAt bs (getAt bs p).2.1).2.1).2.1 32).1, ((min (getAt bs (textAt bs (getAt bs (getAt bs (getAt bs p).2.1).2.1).2.1 32).2.1).1 K : Nat) : Int)⟩, (getAt bs (textAt bs (getAt bs (getAt bs (getAt bs p).2.1).2.1).2.1 32).2.1).2.1)
/-- The same, thing by thing. -/
theorem entAt_yes {K : Nat} {bs : List UInt8} {p p1 p2 p3 p4 p5 : Int} {n1 n2 n3 n5 : Nat} {t : List UInt8} (h1 : getAt bs p = (n1, p1, 0)) (h2 : getAt bs p1 = (n2, p2, 0)) (h3 : getAt bs p2 = (n3, p3, 0)) (h4 : textAt bs p3 32 = (t, p4, 0)) (h5 : getAt bs p4 = (n5, p5, 0)) :
    entAt K bs p = some (⟨((min n1 K : Nat) : Int), ((min n2 K : Nat) : Int), ((min n3 K : Nat) : Int), baOf t, ((min n5 K : Nat) : Int)⟩, p5) := by
  unfold entAt; simp [h1, h2, h3, h4, h5]
theorem entAt_1 {K : Nat} {bs : List UInt8} {p : Int} (h1 : (getAt bs p).2.2 ≠ 0) : entAt K bs p = none := by unfold entAt; rw [if_pos h1]
theorem entAt_2 {K : Nat} {bs : List UInt8} {p p1 : Int} {n1 : Nat} (h1 : getAt bs p = (n1, p1, 0)) (h2 : (getAt bs p1).2.2 ≠ 0) : entAt K bs p = none := by unfold entAt; simp [h1, h2]
theorem entAt_3 {K : Nat} {bs : List UInt8} {p p1 p2 : Int} {n1 n2 : Nat} (h1 : getAt bs p = (n1, p1, 0)) (h2 : getAt bs p1 = (n2, p2, 0)) (h3 : (getAt bs p2).2.2 ≠ 0) : entAt K bs p = none := by unfold entAt; simp [h1, h2, h3]
theorem entAt_4 {K : Nat} {bs : List UInt8} {p p1 p2 p3 : Int} {n1 n2 n3 : Nat} (h1 : getAt bs p = (n1, p1, 0)) (h2 : getAt bs p1 = (n2, p2, 0)) (h3 : getAt bs p2 = (n3, p3, 0)) (h4 : (textAt bs p3 32).2.2 ≠ 0) : entAt K bs p = none := by unfold entAt; simp [h1, h2, h3, h4]
theorem entAt_5 {K : Nat} {bs : List UInt8} {p p1 p2 p3 p4 : Int} {n1 n2 n3 : Nat} {t : List UInt8} (h1 : getAt bs p = (n1, p1, 0)) (h2 : getAt bs p1 = (n2, p2, 0)) (h3 : getAt bs p2 = (n3, p3, 0)) (h4 : textAt bs p3 32 = (t, p4, 0)) (h5 : (getAt bs p4).2.2 ≠ 0) : entAt K bs p = none := by unfold entAt; simp [h1, h2, h3, h4, h5]
/-- Every reading is one of these. -/
theorem entAt_parts (bs : List UInt8) (p : Int) : (∀ K, entAt K bs p = none) ∨ ∃ n1 n2 n3 n5 t p1 p2 p3 p4 p5, getAt bs p = (n1, p1, 0) ∧ getAt bs p1 = (n2, p2, 0) ∧ getAt bs p2 = (n3, p3, 0) ∧ textAt bs p3 32 = (t, p4, 0) ∧ getAt bs p4 = (n5, p5, 0) := by
  obtain ⟨n1, p1, e1, h1⟩ : ∃ n q e, getAt bs p = (n, q, e) := ⟨_, _, _, rfl⟩
  obtain ⟨n2, p2, e2, h2⟩ : ∃ n q e, getAt bs p1 = (n, q, e) := ⟨_, _, _, rfl⟩
  obtain ⟨n3, p3, e3, h3⟩ : ∃ n q e, getAt bs p2 = (n, q, e) := ⟨_, _, _, rfl⟩
  obtain ⟨t, p4, e4, h4⟩ : ∃ n q e, textAt bs p3 32 = (n, q, e) := ⟨_, _, _, rfl⟩
  obtain ⟨n5, p5, e5, h5⟩ : ∃ n q e, getAt bs p4 = (n, q, e) := ⟨_, _, _, rfl⟩
  by_cases x1 : e1 = 0
  · subst x1
    by_cases x2 : e2 = 0
    · subst x2
      by_cases x3 : e3 = 0
      · subst x3
        by_cases x4 : e4 = 0
        · subst x4
          by_cases x5 : e5 = 0
          · subst x5; exact .inr ⟨n1, n2, n3, n5, t, p1, p2, p3, p4, p5, h1, h2, h3, h4, h5⟩
          · exact .inl fun K => entAt_5 h1 h2 h3 h4 (by rw [h5]; exact x5)
        · exact .inl fun K => entAt_4 h1 h2 h3 (by rw [h4]; exact x4)
      · exact .inl fun K => entAt_3 h1 h2 (by rw [h3]; exact x3)
    · exact .inl fun K => entAt_2 h1 (by rw [h2]; exact x2)
  · exact .inl fun K => entAt_1 (by rw [h1]; exact x1)
def entsAt (K : Nat) (bs : List UInt8) (p : Int) : Nat → Option (List En × Int)
  | 0 => some ([], p)
  | n + 1 => match entsAt K bs p n with
    | none => none
    | some (l, q) => match entAt K bs q with
      | none => none
      | some (e, r) => some (l ++ [e], r)
theorem ents_stop {K : Nat} {bs : List UInt8} {p : Int} {i : Nat} (h : entsAt K bs p i = none) : ∀ j, entsAt K bs p (i + j) = none
  | 0 => h
  | j + 1 => by rw [← Nat.add_assoc, entsAt, ents_stop h j]
theorem ents_next {K : Nat} {bs : List UInt8} {p q r : Int} {i : Nat} {l : List En} {e : En} (h : entsAt K bs p i = some (l, q)) (h2 : entAt K bs q = some (e, r)) : entsAt K bs p (i + 1) = some (l ++ [e], r) := by rw [entsAt, h]; simp only; rw [h2]
theorem ents_none {K : Nat} {bs : List UInt8} {p q : Int} {i : Nat} {l : List En} (h : entsAt K bs p i = some (l, q)) (h2 : entAt K bs q = none) : entsAt K bs p (i + 1) = none := by rw [entsAt, h]; simp only; rw [h2]
/-- Behind the head. -/
def restA (K : Nat) (bs : List UInt8) (t : List UInt8) (last : Nat) (many : Nat) (p : Int) : Option Au := match entsAt K bs p many with
  | none => none
  | some (l, q) => if q = (bs.length : Int) ∧ mayA ⟨baOf t, ((min last K : Nat) : Int), l⟩ = true then some ⟨baOf t, ((min last K : Nat) : Int), l⟩ else none
/-- The audit of bytes. -/
def decA (K : Nat) (bs : List UInt8) : Option Au :=
  if (textAt bs 0 32).2.2 ≠ 0 then none
  else if (getAt bs (textAt bs 0 32).2.1).2.2 ≠ 0 then none
  else if (getAt bs (getAt bs (textAt bs 0 32).2.1).2.1).2.2 ≠ 0 then none
  else if 8 < (getAt bs (getAt bs (textAt bs 0 32).2.1).2.1).1 then none
  else restA K bs (textAt bs 0 32).1 (getAt bs (textAt bs 0 32).2.1).1 (getAt bs (getAt bs (textAt bs 0 32).2.1).2.1).1 (getAt bs (getAt bs (textAt bs 0 32).2.1).2.1).2.1
theorem decA_1 {K : Nat} {bs : List UInt8} (h1 : (textAt bs 0 32).2.2 ≠ 0) : decA K bs = none := by unfold decA; rw [if_pos h1]
theorem decA_2 {K : Nat} {bs t : List UInt8} {p1 : Int} (h1 : textAt bs 0 32 = (t, p1, 0)) (h2 : (getAt bs p1).2.2 ≠ 0) : decA K bs = none := by unfold decA; simp [h1, h2]
theorem decA_3 {K : Nat} {bs t : List UInt8} {p1 p2 : Int} {n : Nat} (h1 : textAt bs 0 32 = (t, p1, 0)) (h2 : getAt bs p1 = (n, p2, 0)) (h3 : (getAt bs p2).2.2 ≠ 0) : decA K bs = none := by unfold decA; simp [h1, h2, h3]
theorem decA_4 {K : Nat} {bs t : List UInt8} {p1 p2 p3 : Int} {n m : Nat} (h1 : textAt bs 0 32 = (t, p1, 0)) (h2 : getAt bs p1 = (n, p2, 0)) (h3 : getAt bs p2 = (m, p3, 0)) (h4 : 8 < m) : decA K bs = none := by unfold decA; simp [h1, h2, h3, h4]
theorem decA_yes {K : Nat} {bs t : List UInt8} {p1 p2 p3 : Int} {n m : Nat} (h1 : textAt bs 0 32 = (t, p1, 0)) (h2 : getAt bs p1 = (n, p2, 0)) (h3 : getAt bs p2 = (m, p3, 0)) (h4 : ¬ 8 < m) : decA K bs = restA K bs t n m p3 := by unfold decA; simp [h1, h2, h3, h4]
/-- Which K it is doesn't matter. -/
def nearE (c d : En) : Prop := nearI c.seq d.seq ∧ nearI c.time d.time ∧ nearI c.kind d.kind ∧ c.path = d.path ∧ nearI c.errno d.errno
theorem nearE_ok {c d : En} (h : nearE c d) : c.ok = d.ok ∧ (c.ok = true → c = d) := by
  obtain ⟨a1, a2, a3, a4, a5⟩ := c
  obtain ⟨b1, b2, b3, b4, b5⟩ := d
  obtain ⟨h1, h2, h3, h4, h5⟩ := h
  simp only at h1 h2 h3 h4 h5
  subst h4
  unfold nearI at h1 h2 h3 h5
  refine ⟨?_, fun h => ?_⟩
  · rw [Bool.eq_iff_iff, En.ok_iff, En.ok_iff]
    simp only
    omega
  · rw [En.ok_iff] at h
    simp only at h
    rw [show a1 = b1 by omega, show a2 = b2 by omega, show a3 = b3 by omega, show a5 = b5 by omega]
inductive NearA : List En → List En → Prop
  | nil : NearA [] []
  | snoc {a b : List En} {c d : En} : NearA a b → nearE c d → NearA (a ++ [c]) (b ++ [d])
theorem NearA.all {a b : List En} (h : NearA a b) : a.length = b.length ∧ ∀ s, runB s a = true → a = b := by
  induction h with
  | nil => exact ⟨rfl, fun _ _ => rfl⟩
  | snoc _ h2 ih =>
    obtain ⟨i1, i2⟩ := ih
    refine ⟨by simp [i1], fun s hs => ?_⟩
    obtain ⟨h3, h4, _⟩ := run_snoc.1 hs
    rw [i2 s h3, (nearE_ok h2).2 h4]
theorem NearA.symm {a b : List En} (h : NearA a b) : NearA b a := by
  have hn : ∀ {x y : Int}, nearI x y → nearI y x := fun h => by unfold nearI at h ⊢; omega
  induction h with
  | nil => exact .nil
  | snoc _ h2 ih => exact .snoc ih ⟨hn h2.1, hn h2.2.1, hn h2.2.2.1, h2.2.2.2.1.symm, hn h2.2.2.2.2⟩
theorem ents_near {K L : Nat} (hK : 2199023255552 ≤ K) (hL : 2199023255552 ≤ L) (bs : List UInt8) (p : Int) : ∀ n, (entsAt K bs p n = none ∧ entsAt L bs p n = none) ∨ ∃ a b q, entsAt K bs p n = some (a, q) ∧ entsAt L bs p n = some (b, q) ∧ NearA a b
  | 0 => .inr ⟨[], [], p, rfl, rfl, .nil⟩
  | n + 1 => by
    rcases ents_near hK hL bs p n with ⟨h1, h2⟩ | ⟨a, b, q, h1, h2, h3⟩
    · exact .inl ⟨by rw [entsAt, h1], by rw [entsAt, h2]⟩
    · rcases entAt_parts bs q with h4 | ⟨n1, n2, n3, n5, t, p1, p2, p3, p4, p5, g1, g2, g3, g4, g5⟩
      · exact .inl ⟨ents_none h1 (h4 K), ents_none h2 (h4 L)⟩
      · exact .inr ⟨_, _, p5, ents_next h1 (entAt_yes g1 g2 g3 g4 g5), ents_next h2 (entAt_yes g1 g2 g3 g4 g5), .snoc h3 ⟨near_min hK hL _, near_min hK hL _, near_min hK hL _, rfl, near_min hK hL _⟩⟩
theorem near_one {x y : Int} {a b : List En} {k : ByteArray} (h1 : nearI x y) (h2 : NearA a b) (h : mayA ⟨k, x, a⟩ = true) : (⟨k, x, a⟩ : Au) = ⟨k, y, b⟩ := by
  have hm := mayA_iff.1 h
  simp only at hm
  unfold nearI at h1
  rw [show x = y by omega, h2.all.2 _ hm.2.2.2.2]
theorem rest_near {K L : Nat} (hK : 2199023255552 ≤ K) (hL : 2199023255552 ≤ L) (bs t : List UInt8) (last many : Nat) (p : Int) : restA K bs t last many p = restA L bs t last many p := by
  unfold restA
  rcases ents_near hK hL bs p many with ⟨h1, h2⟩ | ⟨a, b, q, h1, h2, h3⟩
  · rw [h1, h2]
  · rw [h1, h2]
    simp only
    have hn := near_min hK hL last
    have hn2 := near_min hL hK last
    by_cases hc : q = (bs.length : Int) ∧ mayA ⟨baOf t, ((min last K : Nat) : Int), a⟩ = true
    · have he := near_one hn h3 hc.2
      rw [if_pos hc, ← he, if_pos hc]
    · by_cases hd : q = (bs.length : Int) ∧ mayA ⟨baOf t, ((min last L : Nat) : Int), b⟩ = true
      · have he := near_one hn2 h3.symm hd.2
        rw [he] at hd
        exact absurd hd hc
      · rw [if_neg hc, if_neg hd]
theorem decA_near {K L : Nat} (hK : 2199023255552 ≤ K) (hL : 2199023255552 ≤ L) (bs : List UInt8) : decA K bs = decA L bs := by
  unfold decA
  rw [rest_near hK hL]
/-- There and back. -/
theorem ent_back {pre post : List UInt8} {e : En} {K : Nat} (hK : 2199023255552 ≤ K) (he : e.ok = true) : entAt K (pre ++ (e.bytes ++ post)) (pre.length : Int) = some (e, ((pre.length + e.bytes.length : Nat) : Int)) := by
  obtain ⟨q, u, k, p, r⟩ := e
  rw [En.ok_iff] at he
  simp only at he
  obtain ⟨l, hl⟩ : ∃ l, En.pl ⟨q, u, k, p, r⟩ = l := ⟨_, rfl⟩
  have hpl : l.length ≤ 32 := by rw [← hl, En.pl_len]; exact he.2.2.2.2.2.2.1
  have hpb : p = baOf l := by rw [← hl]; rfl
  obtain ⟨qn, rfl⟩ : ∃ n : Nat, q = (n : Int) := ⟨q.toNat, by omega⟩
  obtain ⟨un, rfl⟩ : ∃ n : Nat, u = (n : Int) := ⟨u.toNat, by omega⟩
  obtain ⟨kn, rfl⟩ : ∃ n : Nat, k = (n : Int) := ⟨k.toNat, by omega⟩
  obtain ⟨rn, rfl⟩ : ∃ n : Nat, r = (n : Int) := ⟨r.toNat, by omega⟩
  obtain ⟨B, hB⟩ : ∃ B, pre ++ (En.bytes ⟨(qn : Int), (un : Int), (kn : Int), p, (rn : Int)⟩ ++ post) = B := ⟨_, rfl⟩
  have e0 : En.bytes ⟨(qn : Int), (un : Int), (kn : Int), p, (rn : Int)⟩ = putN qn ++ (putN un ++ (putN kn ++ (textN l ++ putN rn))) := by
    unfold En.bytes; rw [hl]; simp
  have f1 : B = pre ++ (putN qn ++ (putN un ++ putN kn ++ textN l ++ putN rn ++ post)) := by rw [← hB, e0]; simp
  have f2 : B = (pre ++ putN qn) ++ (putN un ++ (putN kn ++ textN l ++ putN rn ++ post)) := by rw [← hB, e0]; simp
  have f3 : B = (pre ++ putN qn ++ putN un) ++ (putN kn ++ (textN l ++ putN rn ++ post)) := by rw [← hB, e0]; simp
  have f4 : B = (pre ++ putN qn ++ putN un ++ putN kn) ++ (textN l ++ (putN rn ++ post)) := by rw [← hB, e0]; simp
  have f5 : B = (pre ++ putN qn ++ putN un ++ putN kn ++ textN l) ++ (putN rn ++ post) := by rw [← hB, e0]; simp
  have h1 : getAt B (pre.length : Int) = (qn, ((pre ++ putN qn).length : Int), 0) := by
    rw [f1, show (pre ++ putN qn).length = pre.length + (putN qn).length from List.length_append]; exact getAt_back (by omega)
  have h2 : getAt B ((pre ++ putN qn).length : Int) = (un, ((pre ++ putN qn ++ putN un).length : Int), 0) := by
    rw [f2, show (pre ++ putN qn ++ putN un).length = (pre ++ putN qn).length + (putN un).length from List.length_append]; exact getAt_back (by omega)
  have h3 : getAt B ((pre ++ putN qn ++ putN un).length : Int) = (kn, ((pre ++ putN qn ++ putN un ++ putN kn).length : Int), 0) := by
    rw [f3, show (pre ++ putN qn ++ putN un ++ putN kn).length = (pre ++ putN qn ++ putN un).length + (putN kn).length from List.length_append]; exact getAt_back (by omega)
  have h4 : textAt B ((pre ++ putN qn ++ putN un ++ putN kn).length : Int) 32 = (l, ((pre ++ putN qn ++ putN un ++ putN kn ++ textN l).length : Int), 0) := by
    rw [f4, show (pre ++ putN qn ++ putN un ++ putN kn ++ textN l).length = (pre ++ putN qn ++ putN un ++ putN kn).length + (textN l).length from List.length_append]; exact textAt_back (m := 32) hpl (by omega)
  have h5 : getAt B ((pre ++ putN qn ++ putN un ++ putN kn ++ textN l).length : Int) = (rn, ((pre ++ putN qn ++ putN un ++ putN kn ++ textN l ++ putN rn).length : Int), 0) := by
    rw [f5, show (pre ++ putN qn ++ putN un ++ putN kn ++ textN l ++ putN rn).length = (pre ++ putN qn ++ putN un ++ putN kn ++ textN l).length + (putN rn).length from List.length_append]; exact getAt_back (by omega)
  rw [hB, entAt_yes h1 h2 h3 h4 h5, Nat.min_eq_left (by omega), Nat.min_eq_left (by omega), Nat.min_eq_left (by omega), Nat.min_eq_left (by omega), ← hpb, e0]
  congr 2
  simp
theorem ents_back {K : Nat} (hK : 2199023255552 ≤ K) : ∀ (n : Nat) (l : List En) (pre post : List UInt8), l.length = n → (∀ e ∈ l, e.ok = true) → entsAt K (pre ++ (entsB l ++ post)) (pre.length : Int) n = some (l, ((pre.length + (entsB l).length : Nat) : Int))
  | 0, l, pre, post, hl, _ => by
    obtain rfl := List.eq_nil_of_length_eq_zero hl
    simp [entsAt, entsB]
  | n + 1, l, pre, post, hl, hok => by
    obtain ⟨k, e, rfl⟩ : ∃ k e, l = k ++ [e] := by
      rcases List.eq_nil_or_concat l with h | ⟨k, e, h⟩
      · rw [h] at hl; simp at hl
      · exact ⟨k, e, by simpa using h⟩
    have ih := ents_back hK n k pre (e.bytes ++ post) (by simpa using hl) (fun x hx => hok x (by simp [hx]))
    have f : pre ++ (entsB (k ++ [e]) ++ post) = pre ++ (entsB k ++ (e.bytes ++ post)) := by rw [entsB_snoc]; simp
    have f2 : pre ++ (entsB k ++ (e.bytes ++ post)) = (pre ++ entsB k) ++ (e.bytes ++ post) := by simp
    have hb := ent_back (pre := pre ++ entsB k) (post := post) hK (hok e (by simp))
    rw [← f2, List.length_append] at hb
    rw [f, ents_next ih hb, entsB_snoc]
    congr 2
    simp only [List.length_append]
    omega
theorem run_ok {l : List En} {s : Int} (h : runB s l = true) : ∀ e ∈ l, e.ok = true := fun e he => by
  obtain ⟨i, hi⟩ := List.getElem?_of_mem he
  exact ((run_iff l s).1 h i e hi).1
theorem decA_back {K : Nat} (hK : 2199023255552 ≤ K) {a : Au} (hm : mayA a = true) : decA K (encA a) = some a := by
  have hm0 := hm
  obtain ⟨k, n, l⟩ := a
  rw [mayA_iff] at hm
  simp only at hm
  obtain ⟨m1, m2, m3, m4, m5⟩ := hm
  obtain ⟨nn, rfl⟩ : ∃ m : Nat, n = (m : Int) := ⟨n.toNat, by omega⟩
  obtain ⟨B, hB⟩ : ∃ B, encA ⟨k, (nn : Int), l⟩ = B := ⟨_, rfl⟩
  obtain ⟨t, ht⟩ : ∃ t, k.data.toList = t := ⟨_, rfl⟩
  have htl : t.length = 32 := by rw [← ht, Array.length_toList]; exact m1
  have htk : k = baOf t := by rw [← ht]; rfl
  have e0 : B = textN t ++ (putN nn ++ (putN l.length ++ entsB l)) := by rw [← hB]; unfold encA headA; simp [ht]
  have f1 : B = [] ++ (textN t ++ (putN nn ++ (putN l.length ++ entsB l))) := by rw [e0]; simp
  have f2 : B = textN t ++ (putN nn ++ (putN l.length ++ entsB l)) := e0
  have f3 : B = (textN t ++ putN nn) ++ (putN l.length ++ entsB l) := by rw [e0]; simp
  have f4 : B = (textN t ++ putN nn ++ putN l.length) ++ (entsB l ++ []) := by rw [e0]; simp
  have h1 : textAt B 0 32 = (t, ((textN t).length : Int), 0) := by
    have := textAt_back (pre := []) (post := putN nn ++ (putN l.length ++ entsB l)) (t := t) (m := 32) (by omega) (by omega)
    rw [← f1] at this
    simpa using this
  have h2 : getAt B ((textN t).length : Int) = (nn, ((textN t ++ putN nn).length : Int), 0) := by
    rw [f2, show (textN t ++ putN nn).length = (textN t).length + (putN nn).length from List.length_append]; exact getAt_back (by omega)
  have h3 : getAt B ((textN t ++ putN nn).length : Int) = (l.length, ((textN t ++ putN nn ++ putN l.length).length : Int), 0) := by
    rw [f3, show (textN t ++ putN nn ++ putN l.length).length = (textN t ++ putN nn).length + (putN l.length).length from List.length_append]; exact getAt_back (by omega)
  have h4 : entsAt K B ((textN t ++ putN nn ++ putN l.length).length : Int) l.length = some (l, (B.length : Int)) := by
    have := ents_back hK l.length l (textN t ++ putN nn ++ putN l.length) [] rfl (run_ok m5)
    rw [← f4] at this
    rw [this, f4]
    congr 2
    simp
    omega
  rw [hB, decA_yes h1 h2 h3 (by omega)]
  unfold restA
  rw [h4]
  simp only
  rw [Nat.min_eq_left (by omega), ← htk, if_pos ⟨trivial, hm0⟩]
/-- A piece of bytes. -/
def segB (bs : List UInt8) (P Q : Nat) : List UInt8 := (bs.drop P).take (Q - P)
theorem seg_app {bs : List UInt8} {P Q R : Nat} (h1 : P ≤ Q) (h2 : Q ≤ R) : segB bs P Q ++ segB bs Q R = segB bs P R := by
  unfold segB
  rw [show R - P = (Q - P) + (R - Q) by omega, List.take_add, List.drop_drop, show P + (Q - P) = Q by omega]
theorem seg_all (bs : List UInt8) : segB bs 0 bs.length = bs := by unfold segB; simp
theorem seg_nil (bs : List UInt8) (P : Nat) : segB bs P P = [] := by unfold segB; simp
theorem getAt_seg {bs : List UInt8} {p : Int} {n : Nat} {q : Int} (h : getAt bs p = (n, q, 0)) : ∃ P Q : Nat, p = P ∧ q = Q ∧ P ≤ Q ∧ Q ≤ bs.length ∧ segB bs P Q = putN n := by
  unfold getAt at h
  split at h
  · simp at h
  · rename_i hb
    simp only [Prod.mk.injEq] at h
    obtain ⟨h1, h2, h3⟩ := h
    rw [if_pos h3] at h2
    obtain ⟨m, e1, e2, e3, e4, _, e6⟩ := getL_least (bs.drop p.toNat) 0 0 (getL (bs.drop p.toNat) 0 0).1 (getL (bs.drop p.toNat) 0 0).2.1 (Prod.ext rfl (Prod.ext rfl h3)) (by omega)
    simp only [Nat.pow_zero, Nat.mul_one, Nat.zero_add, Nat.sub_zero] at e1 e2 e3 e4 e6
    have em : m = n := by omega
    subst em
    have hp := putN_pos m
    have hl := List.length_drop (i := p.toNat) (l := bs)
    refine ⟨p.toNat, p.toNat + (putN m).length, by omega, by omega, by omega, by omega, ?_⟩
    unfold segB
    rw [show p.toNat + (putN m).length - p.toNat = (putN m).length by omega, e3, e2]
    simp
theorem textAt_seg {bs t : List UInt8} {p m : Int} {q : Int} (h : textAt bs p m = (t, q, 0)) : ∃ P Q : Nat, p = P ∧ q = Q ∧ P ≤ Q ∧ Q ≤ bs.length ∧ segB bs P Q = textN t := by
  obtain ⟨n, r, e, hc⟩ : ∃ n r e, cntAt bs p m = (n, r, e) := ⟨_, _, _, rfl⟩
  unfold textAt at h
  rw [hc] at h
  simp only at h
  by_cases he : e = 0
  · subst he
    rw [if_neg (by simp)] at h
    have hg : getAt bs p = (n, r, 0) := by
      unfold cntAt at hc
      split at hc
      · rename_i hx; simp only [Prod.mk.injEq] at hc; exact absurd hc.2.2 hx
      · split at hc
        · simp at hc
        · exact hc
    obtain ⟨P, Q, rfl, rfl, h1, h2, h3⟩ := getAt_seg hg
    by_cases hx : (bs.length : Int) - (Q : Int) < (n : Int)
    · rw [if_pos hx] at h; simp at h
    · rw [if_neg hx] at h
      simp only [Prod.mk.injEq, Int.toNat_natCast] at h
      obtain ⟨rfl, rfl, _⟩ := h
      refine ⟨P, Q + n, rfl, by omega, by omega, by omega, ?_⟩
      rw [← seg_app h1 (by omega : Q ≤ Q + n), h3]
      unfold textN segB
      rw [show Q + n - Q = n by omega]
      have : ((bs.drop Q).take n).length = n := by rw [List.length_take, List.length_drop]; omega
      rw [this]
  · rw [if_pos he] at h
    simp only [Prod.mk.injEq] at h
    exact absurd h.2.2 he
theorem ent_seg {K : Nat} (hK : 2199023255552 ≤ K) {bs : List UInt8} {p q : Int} {e : En} (h : entAt K bs p = some (e, q)) (hok : e.ok = true) : ∃ P Q : Nat, p = P ∧ q = Q ∧ P ≤ Q ∧ Q ≤ bs.length ∧ segB bs P Q = e.bytes := by
  rcases entAt_parts bs p with h0 | ⟨n1, n2, n3, n5, t, p1, p2, p3, p4, p5, g1, g2, g3, g4, g5⟩
  · rw [h0 K] at h; cases h
  · rw [entAt_yes g1 g2 g3 g4 g5] at h
    obtain ⟨rfl, rfl⟩ := Prod.mk.inj (Option.some.inj h)
    rw [En.ok_iff] at hok
    simp only at hok
    obtain ⟨P0, P1, rfl, rfl, a1, b1, c1⟩ := getAt_seg g1
    obtain ⟨P1', P2, e1, rfl, a2, b2, c2⟩ := getAt_seg g2
    obtain ⟨P2', P3, e2, rfl, a3, b3, c3⟩ := getAt_seg g3
    obtain ⟨P3', P4, e3, rfl, a4, b4, c4⟩ := textAt_seg g4
    obtain ⟨P4', P5, e4, rfl, a5, b5, c5⟩ := getAt_seg g5
    obtain rfl : P1 = P1' := by omega
    obtain rfl : P2 = P2' := by omega
    obtain rfl : P3 = P3' := by omega
    obtain rfl : P4 = P4' := by omega
    refine ⟨P0, P5, rfl, rfl, by omega, b5, ?_⟩
    rw [← seg_app (by omega : P0 ≤ P4) a5, ← seg_app (by omega : P0 ≤ P3) a4, ← seg_app (by omega : P0 ≤ P2) a3, ← seg_app a1 a2, c1, c2, c3, c4, c5]
    unfold En.bytes
    simp only [Int.toNat_natCast]
    rw [Nat.min_eq_left (by omega), Nat.min_eq_left (by omega), Nat.min_eq_left (by omega), Nat.min_eq_left (by omega)]
    rfl
theorem ents_seg {K : Nat} (hK : 2199023255552 ≤ K) {bs : List UInt8} {P : Nat} (hP : P ≤ bs.length) : ∀ (n : Nat) (l : List En) (q : Int), entsAt K bs (P : Int) n = some (l, q) → l.length = n ∧ ((∀ e ∈ l, e.ok = true) → ∃ Q : Nat, q = Q ∧ P ≤ Q ∧ Q ≤ bs.length ∧ segB bs P Q = entsB l)
  | 0, l, q, h => by
    unfold entsAt at h
    obtain ⟨rfl, rfl⟩ := Prod.mk.inj (Option.some.inj h)
    exact ⟨rfl, fun _ => ⟨P, rfl, Nat.le_refl _, hP, by rw [seg_nil]; rfl⟩⟩
  | n + 1, l, q, h => by
    unfold entsAt at h
    cases h1 : entsAt K bs (P : Int) n with
    | none => rw [h1] at h; cases h
    | some x =>
      obtain ⟨k, r⟩ := x
      rw [h1] at h
      simp only at h
      cases h2 : entAt K bs r with
      | none => rw [h2] at h; cases h
      | some y =>
        obtain ⟨e, r2⟩ := y
        rw [h2] at h
        obtain ⟨rfl, rfl⟩ := Prod.mk.inj (Option.some.inj h)
        obtain ⟨i1, i2⟩ := ents_seg hK hP n k r h1
        refine ⟨by simp [i1], fun hok => ?_⟩
        obtain ⟨Q, rfl, a1, a2, a3⟩ := i2 (fun e he => hok e (by simp [he]))
        obtain ⟨Q', R, e1, rfl, b1, b2, b3⟩ := ent_seg hK h2 (hok e (by simp))
        obtain rfl : Q = Q' := by omega
        exact ⟨R, rfl, by omega, b2, by rw [← seg_app a1 b1, a3, b3, entsB_snoc]⟩
/-- What is read is just what is written. -/
theorem decA_enc {K : Nat} (hK : 2199023255552 ≤ K) {bs : List UInt8} {a : Au} (h : decA K bs = some a) : encA a = bs ∧ mayA a = true := by
  obtain ⟨t, p1, e1, h1⟩ : ∃ n q e, textAt bs 0 32 = (n, q, e) := ⟨_, _, _, rfl⟩
  obtain ⟨n, p2, e2, h2⟩ : ∃ n q e, getAt bs p1 = (n, q, e) := ⟨_, _, _, rfl⟩
  obtain ⟨m, p3, e3, h3⟩ : ∃ n q e, getAt bs p2 = (n, q, e) := ⟨_, _, _, rfl⟩
  by_cases x1 : e1 = 0
  · subst x1
    by_cases x2 : e2 = 0
    · subst x2
      by_cases x3 : e3 = 0
      · subst x3
        by_cases x4 : 8 < m
        · rw [decA_4 h1 h2 h3 x4] at h; cases h
        · rw [decA_yes h1 h2 h3 x4] at h
          unfold restA at h
          obtain ⟨P0, P1, e0, rfl, a1, b1, c1⟩ := textAt_seg h1
          obtain ⟨P1', P2, e1, rfl, a2, b2, c2⟩ := getAt_seg h2
          obtain ⟨P2', P3, e2, rfl, a3, b3, c3⟩ := getAt_seg h3
          obtain rfl : P1 = P1' := by omega
          obtain rfl : P2 = P2' := by omega
          obtain rfl : P0 = 0 := by omega
          cases h4 : entsAt K bs (P3 : Int) m with
          | none => rw [h4] at h; cases h
          | some x =>
            obtain ⟨l, q⟩ := x
            rw [h4] at h
            simp only at h
            split at h
            · rename_i hc
              obtain rfl := Option.some.inj h
              have hm := mayA_iff.1 hc.2
              simp only at hm
              obtain ⟨i1, i2⟩ := ents_seg hK b3 m l q h4
              obtain ⟨Q, rfl, d1, d2, d3⟩ := i2 (run_ok hm.2.2.2.2)
              obtain rfl : Q = bs.length := by omega
              refine ⟨?_, hc.2⟩
              unfold encA headA
              simp only [Int.toNat_natCast, baOf_list]
              rw [Nat.min_eq_left (by omega), i1, ← c1, ← c2, ← c3, ← d3, seg_app a1 a2, seg_app (by omega) a3, seg_app (by omega) d1, seg_all]
            · cases h
      · rw [decA_3 h1 h2 (by rw [h3]; exact x3)] at h; cases h
    · rw [decA_2 h1 (by rw [h2]; exact x2)] at h; cases h
  · rw [decA_1 (by rw [h1]; exact x1)] at h; cases h
theorem ent_len {e : En} (h : e.ok = true) : e.bytes.length ≤ 100 := by
  rw [En.ok_iff] at h
  have h1 := putN_le10 e.seq.toNat (by omega)
  have h2 := putN_le10 e.time.toNat (by omega)
  have h3 := putN_le10 e.kind.toNat (by omega)
  have h4 := putN_le10 e.errno.toNat (by omega)
  have h5 := e.pl_len
  have h6 := putN_le10 e.pl.length (by omega)
  unfold En.bytes textN
  simp only [List.length_append]
  omega
theorem entsB_len {l : List En} (h : ∀ e ∈ l, e.ok = true) : (entsB l).length ≤ 100 * l.length := by
  induction l with
  | nil => simp [entsB]
  | cons e l ih =>
    have h1 := ent_len (h e (by simp))
    have h2 := ih (fun x hx => h x (by simp [hx]))
    unfold entsB at h2 ⊢
    rw [List.flatMap_cons, List.length_append, List.length_cons]
    omega
theorem encA_len {a : Au} (h : mayA a = true) : (encA a).length ≤ 1000 := by
  have hm := mayA_iff.1 h
  have h1 := entsB_len (run_ok hm.2.2.2.2)
  have h2 := putN_le10 a.last.toNat (by omega)
  have h3 := putN_le10 a.ents.length (by omega)
  have h4 : a.anchor.data.toList.length = 32 := by rw [Array.length_toList]; exact hm.1
  have h5 := putN_le10 a.anchor.data.toList.length (by omega)
  unfold encA headA textN
  simp only [List.length_append]
  omega
end Go.Proofs.YtkhidkilkbmpoaaDoor
