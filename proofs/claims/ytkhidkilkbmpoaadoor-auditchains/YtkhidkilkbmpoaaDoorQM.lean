/- Plain mathematics of layer 13: entries, audits, how they go on, their digests, what follows, their bytes. No program is named here. -/
import Derived.Test.YtkhidkilkbmpoaaDoorCA
import Derived.Test.YtkhidkilkbmpoaaDoorQT
namespace Go.Proofs.YtkhidkilkbmpoaaDoor
/-- An entry. -/
structure En where
  seq : Int
  time : Int
  kind : Int
  path : ByteArray
  errno : Int
  deriving DecidableEq
def En.pl (e : En) : List UInt8 := e.path.data.toList
theorem En.pl_len (e : En) : e.pl.length = e.path.size := by unfold En.pl; rw [Array.length_toList]; rfl
def En.ok (e : En) : Bool := decide (1 ≤ e.seq ∧ e.seq ≤ 2147483648 ∧ 0 ≤ e.time ∧ e.time ≤ 1099511627776 ∧ 0 ≤ e.kind ∧ e.kind ≤ 100 ∧ e.path.size ≤ 32 ∧ 0 ≤ e.errno ∧ e.errno ≤ 100)
theorem En.ok_iff {e : En} : e.ok = true ↔ 1 ≤ e.seq ∧ e.seq ≤ 2147483648 ∧ 0 ≤ e.time ∧ e.time ≤ 1099511627776 ∧ 0 ≤ e.kind ∧ e.kind ≤ 100 ∧ e.path.size ≤ 32 ∧ 0 ≤ e.errno ∧ e.errno ≤ 100 := by
  unfold En.ok; rw [decide_eq_true_eq]
/-- An entry under a number. -/
def En.at (e : En) (n : Int) : En := ⟨n, e.time, e.kind, e.path, e.errno⟩
/-- An entry's bytes. -/
def En.bytes (e : En) : List UInt8 := putN e.seq.toNat ++ putN e.time.toNat ++ putN e.kind.toNat ++ textN e.pl ++ putN e.errno.toNat
/-- An audit. -/
structure Au where
  anchor : ByteArray
  last : Int
  ents : List En
/-- Entries that may be, whose numbers go up from s by one. -/
def runB : Int → List En → Bool
  | _, [] => true
  | s, e :: l => e.ok && decide (e.seq = s) && runB (s + 1) l
theorem run_iff : ∀ (l : List En) (s : Int), runB s l = true ↔ ∀ (i : Nat) (e : En), l[i]? = some e → e.ok = true ∧ e.seq = s + (i : Int)
  | [], s => by simp [runB]
  | e :: l, s => by
    unfold runB
    rw [Bool.and_eq_true, Bool.and_eq_true, decide_eq_true_eq, run_iff l (s + 1)]
    constructor
    · rintro ⟨⟨h1, h2⟩, h3⟩ i x hx
      cases i with
      | zero =>
        obtain rfl : e = x := by simpa using hx
        exact ⟨h1, by simpa using h2⟩
      | succ i =>
        obtain ⟨h4, h5⟩ := h3 i x (by simpa using hx)
        exact ⟨h4, by rw [h5]; omega⟩
    · intro h
      obtain ⟨h1, h2⟩ := h 0 e rfl
      refine ⟨⟨h1, by simpa using h2⟩, fun i x hx => ?_⟩
      obtain ⟨h4, h5⟩ := h (i + 1) x (by simpa using hx)
      exact ⟨h4, by rw [h5]; omega⟩
theorem run_snoc {l : List En} {s : Int} {e : En} : runB s (l ++ [e]) = true ↔ runB s l = true ∧ e.ok = true ∧ e.seq = s + (l.length : Int) := by
  induction l generalizing s with
  | nil => simp [runB]
  | cons x l ih =>
    simp only [List.cons_append, runB, Bool.and_eq_true, decide_eq_true_eq, List.length_cons]
    rw [ih]
    constructor
    · rintro ⟨h1, h2, h3, h4⟩; exact ⟨⟨h1, h2⟩, h3, by omega⟩
    · rintro ⟨⟨h1, h2⟩, h3, h4⟩; exact ⟨h1, h2, h3, by omega⟩
def mayA (a : Au) : Bool := decide (a.anchor.size = 32 ∧ 0 ≤ a.last ∧ a.last ≤ 2147483648 ∧ (a.ents.length : Int) = min a.last 8) && runB (a.last - (a.ents.length : Int) + 1) a.ents
theorem mayA_iff {a : Au} : mayA a = true ↔ a.anchor.size = 32 ∧ 0 ≤ a.last ∧ a.last ≤ 2147483648 ∧ (a.ents.length : Int) = min a.last 8 ∧ runB (a.last - (a.ents.length : Int) + 1) a.ents = true := by
  unfold mayA; rw [Bool.and_eq_true, decide_eq_true_eq]; simp only [and_assoc]
theorem mayA_len {a : Au} (h : mayA a = true) : a.ents.length ≤ 8 := by have := mayA_iff.1 h; omega
/-- The digest of entries behind an anchor. -/
def chA (k : List UInt8) (l : List En) : List UInt8 := l.foldl (fun k e => sealL k e.bytes) k
theorem chA_nil (k : List UInt8) : chA k [] = k := rfl
theorem chA_cons (k : List UInt8) (e : En) (l : List En) : chA k (e :: l) = chA (sealL k e.bytes) l := rfl
theorem chA_app (k : List UInt8) (l m : List En) : chA k (l ++ m) = chA (chA k l) m := by unfold chA; rw [List.foldl_append]
theorem chA_snoc (k : List UInt8) (l : List En) (e : En) : chA k (l ++ [e]) = sealL (chA k l) e.bytes := by rw [chA_app]; rfl
theorem chA_len {k : List UInt8} (h : k.length = 32) (l : List En) : (chA k l).length = 32 := by
  induction l generalizing k with
  | nil => exact h
  | cons e l ih => rw [chA_cons]; exact ih (sealL_len _ _)
def zeros32 : List UInt8 := List.replicate 32 0
def zeroAu : Au := ⟨baOf [], 0, []⟩
def newAu : Au := ⟨baOf zeros32, 0, []⟩
theorem new_may : mayA newAu = true := by rw [mayA_iff]; refine ⟨rfl, ?_, ?_, ?_, rfl⟩ <;> decide
/-- Entries of which the first goes, if they are more than 8. -/
def cutAu (k : ByteArray) (last : Int) (l : List En) : Au := if 8 < l.length then ⟨baOf (chA k.data.toList (l.take 1)), last, l.drop 1⟩ else ⟨k, last, l⟩
def addA (a : Au) (e : En) : Au × Nat := if mayA a = true ∧ (e.at (a.last + 1)).ok = true then (cutAu a.anchor (a.last + 1) (a.ents ++ [e.at (a.last + 1)]), 0) else (zeroAu, 1)
def digA (a : Au) : List UInt8 := if mayA a = true then chA a.anchor.data.toList a.ents else []
theorem add_iff {a : Au} {e : En} : (addA a e).2 = 0 ↔ mayA a = true ∧ (e.at (a.last + 1)).ok = true := by
  unfold addA; split <;> simp_all
theorem add_yes {a : Au} {e : En} (h : mayA a = true) (h2 : (e.at (a.last + 1)).ok = true) : addA a e = (cutAu a.anchor (a.last + 1) (a.ents ++ [e.at (a.last + 1)]), 0) := by
  unfold addA; rw [if_pos ⟨h, h2⟩]
theorem zero_not : mayA zeroAu = false := by
  cases h : mayA zeroAu with
  | false => rfl
  | true => have := (mayA_iff.1 h).1; exact absurd this (by decide)
theorem cut_may {k : ByteArray} {last : Int} {l : List En} (hk : k.size = 32) (h0 : 0 ≤ last) (h1 : last ≤ 2147483648) (hl : (l.length : Int) = min last 9) (hr : runB (last - (l.length : Int) + 1) l = true) : mayA (cutAu k last l) = true ∧ chA (cutAu k last l).anchor.data.toList (cutAu k last l).ents = chA k.data.toList l := by
  unfold cutAu
  split
  · rename_i h8
    cases l with
    | nil => simp at h8
    | cons e l =>
      simp only [List.take_succ_cons, List.take_zero, List.drop_succ_cons, List.drop_zero, List.length_cons] at *
      refine ⟨?_, ?_⟩
      · rw [mayA_iff]
        simp only
        refine ⟨?_, h0, h1, by omega, ?_⟩
        · show (chA k.data.toList [e]).toArray.size = 32
          rw [List.size_toArray]
          exact chA_len (by rw [Array.length_toList]; exact hk) _
        · unfold runB at hr
          rw [Bool.and_eq_true] at hr
          rw [show last - (l.length : Int) + 1 = last - ((l.length + 1 : Nat) : Int) + 1 + 1 by omega]
          exact hr.2
      · rw [baOf_list]; rfl
  · rename_i h8
    refine ⟨?_, rfl⟩
    rw [mayA_iff]
    simp only
    exact ⟨hk, h0, h1, by omega, hr⟩
theorem add_facts {a : Au} {e : En} (h : mayA a = true) (h2 : (e.at (a.last + 1)).ok = true) : mayA (addA a e).1 = true ∧ chA (addA a e).1.anchor.data.toList (addA a e).1.ents = sealL (chA a.anchor.data.toList a.ents) (e.at (a.last + 1)).bytes := by
  rw [add_yes h h2]
  obtain ⟨m1, m2, m3, m4, m5⟩ := mayA_iff.1 h
  have hs := (En.ok_iff.1 h2).2.1
  change a.last + 1 ≤ 2147483648 at hs
  have hc := cut_may (k := a.anchor) (last := a.last + 1) (l := a.ents ++ [e.at (a.last + 1)]) m1 (by omega) hs (by simp; omega) (by
    rw [run_snoc]
    refine ⟨?_, h2, ?_⟩
    · rw [show a.last + 1 - ((a.ents ++ [e.at (a.last + 1)]).length : Int) + 1 = a.last - (a.ents.length : Int) + 1 by simp; omega]
      exact m5
    · show a.last + 1 = _
      simp; omega)
  rw [chA_snoc] at hc
  exact hc
theorem add_last {a : Au} {e : En} (h : mayA a = true) (h2 : (e.at (a.last + 1)).ok = true) : (addA a e).1.last = a.last + 1 ∧ ∃ l, (addA a e).1.ents = l ++ [e.at (a.last + 1)] ∧ (l = a.ents ∨ (a.ents.length = 8 ∧ l = a.ents.drop 1)) ∧ ((addA a e).1.anchor = a.anchor ∧ l = a.ents ∨ a.ents.length = 8 ∧ l = a.ents.drop 1 ∧ (addA a e).1.anchor = baOf (chA a.anchor.data.toList (a.ents.take 1))) := by
  rw [add_yes h h2]
  have hm := mayA_len h
  unfold cutAu
  split
  · rename_i h8
    have h9 : a.ents.length = 8 := by simp at h8; omega
    refine ⟨rfl, a.ents.drop 1, ?_, .inr ⟨h9, rfl⟩, .inr ⟨h9, rfl, ?_⟩⟩
    · simp only
      rw [List.drop_append_of_le_length (by omega)]
    · simp only
      rw [List.take_append_of_le_length (by omega)]
  · exact ⟨rfl, a.ents, rfl, .inl rfl, .inl ⟨rfl, rfl⟩⟩
/-- What follows. -/
def pairsB (l m : List En) : Bool := l.all fun x => m.all fun y => !decide (x.seq = y.seq) || decide (x = y)
theorem pairs_iff {l m : List En} : pairsB l m = true ↔ ∀ x ∈ l, ∀ y ∈ m, x.seq = y.seq → x = y := by
  unfold pairsB
  simp only [List.all_eq_true, Bool.or_eq_true, Bool.not_eq_true', decide_eq_false_iff_not, decide_eq_true_eq]
  constructor
  · intro h x hx y hy hs
    rcases h x hx y hy with h1 | h1
    · exact absurd hs h1
    · exact h1
  · intro h x hx y hy
    by_cases hs : x.seq = y.seq
    · exact .inr (h x hx y hy hs)
    · exact .inl hs
/-- Has b kept the one behind a's last one, or is a's last one b's? Then a's digest is to be the one that b gives up to there. -/
def tailB (a b : Au) : Bool := if b.last - (b.ents.length : Int) ≤ a.last then decide (chA a.anchor.data.toList a.ents = chA b.anchor.data.toList (b.ents.take (a.last - (b.last - (b.ents.length : Int))).toNat)) else true
def folA (a b : Au) : Bool := mayA a && mayA b && decide (a.last ≤ b.last) && pairsB a.ents b.ents && tailB a b
theorem folA_iff {a b : Au} : folA a b = true ↔ mayA a = true ∧ mayA b = true ∧ a.last ≤ b.last ∧ pairsB a.ents b.ents = true ∧ tailB a b = true := by
  unfold folA; simp only [Bool.and_eq_true, decide_eq_true_eq, and_assoc]
theorem run_uniq {l : List En} {s : Int} (h : runB s l = true) {x y : En} (hx : x ∈ l) (hy : y ∈ l) (he : x.seq = y.seq) : x = y := by
  obtain ⟨i, hi⟩ := List.getElem?_of_mem hx
  obtain ⟨j, hj⟩ := List.getElem?_of_mem hy
  have h1 := ((run_iff l s).1 h i x hi).2
  have h2 := ((run_iff l s).1 h j y hj).2
  have : i = j := by omega
  subst this
  rw [hi] at hj
  exact Option.some.inj hj
theorem fol_self (a : Au) : folA a a = mayA a := by
  cases h : mayA a with
  | false => unfold folA; rw [h]; rfl
  | true =>
    rw [folA_iff]
    have hm := mayA_iff.1 h
    refine ⟨h, h, Int.le_refl _, pairs_iff.2 fun x hx y hy he => run_uniq hm.2.2.2.2 hx hy he, ?_⟩
    unfold tailB
    rw [if_pos (by omega), decide_eq_true_eq, show (a.last - (a.last - (a.ents.length : Int))).toNat = a.ents.length by omega, List.take_length]
theorem fol_add {a : Au} {e : En} (h : mayA a = true) (h2 : (e.at (a.last + 1)).ok = true) : folA a (addA a e).1 = true := by
  obtain ⟨hb, _⟩ := add_facts h h2
  obtain ⟨hl, l, he, h3, h4⟩ := add_last h h2
  rw [folA_iff]
  have hm := mayA_iff.1 h
  have hm2 := mayA_iff.1 hb
  refine ⟨h, hb, by omega, pairs_iff.2 fun x hx y hy hxy => ?_, ?_⟩
  · rw [he] at hy
    have hsub : ∀ z ∈ l, z ∈ a.ents := by
      rcases h3 with rfl | ⟨_, rfl⟩
      · exact fun z hz => hz
      · exact fun z hz => List.mem_of_mem_drop hz
    rcases List.mem_append.1 hy with hy | hy
    · exact run_uniq hm.2.2.2.2 hx (hsub y hy) hxy
    · obtain rfl := List.mem_singleton.1 hy
      obtain ⟨i, hi⟩ := List.getElem?_of_mem hx
      have h5 := ((run_iff _ _).1 hm.2.2.2.2 i x hi).2
      have hlt : i < a.ents.length := by
        rcases Nat.lt_or_ge i a.ents.length with h | h
        · exact h
        · rw [List.getElem?_eq_none h] at hi; cases hi
      change x.seq = a.last + 1 at hxy
      omega
  · unfold tailB
    rw [hl, he]
    simp only [List.length_append, List.length_cons, List.length_nil]
    have hll : l.length = a.ents.length ∨ (a.ents.length = 8 ∧ l.length = 7) := by
      rcases h3 with rfl | ⟨h8, rfl⟩
      · exact .inl rfl
      · exact .inr ⟨h8, by simp; omega⟩
    rw [if_pos (by omega), decide_eq_true_eq, show (a.last - (a.last + 1 - ((l.length + (0 + 1) : Nat) : Int))).toNat = l.length by omega, List.take_left]
    rcases h4 with ⟨h5, rfl⟩ | ⟨h8, rfl, h5⟩
    · rw [h5]
    · rw [h5, baOf_list, ← chA_app, List.take_append_drop]
/-- All that there ever were, under their numbers. -/
def numE (l : List En) : List En := l.mapIdx fun i e => e.at ((i : Int) + 1)
theorem numE_len (l : List En) : (numE l).length = l.length := by simp [numE]
theorem numE_snoc (l : List En) (e : En) : numE (l ++ [e]) = numE l ++ [e.at ((l.length : Int) + 1)] := by simp [numE, List.mapIdx_append]
def ofA (l : List En) : Au := ⟨baOf (chA zeros32 ((numE l).take (l.length - 8))), (l.length : Int), (numE l).drop (l.length - 8)⟩
theorem of_nil : ofA [] = newAu := rfl
theorem of_dig (l : List En) : chA (ofA l).anchor.data.toList (ofA l).ents = chA zeros32 (numE l) := by
  unfold ofA
  simp only
  rw [baOf_list, ← chA_app, List.take_append_drop]
theorem of_next (l : List En) (e : En) : cutAu (ofA l).anchor ((ofA l).last + 1) ((ofA l).ents ++ [e.at ((ofA l).last + 1)]) = ofA (l ++ [e]) := by
  have hn := numE_len l
  unfold cutAu ofA
  simp only [List.length_append, List.length_cons, List.length_nil, List.length_drop, hn, Nat.zero_add]
  rw [numE_snoc]
  split
  · rename_i h8
    rw [baOf_list, ← chA_app]
    have e1 : (numE l).take (l.length - 8) ++ ((numE l).drop (l.length - 8) ++ [e.at ((l.length : Int) + 1)]).take 1 = (numE l ++ [e.at ((l.length : Int) + 1)]).take (l.length + 1 - 8) := by
      rw [List.take_append_of_le_length (by rw [List.length_drop]; omega), List.take_append_of_le_length (by omega), show l.length + 1 - 8 = (l.length - 8) + 1 by omega, List.take_add]
    have e2 : ((numE l).drop (l.length - 8) ++ [e.at ((l.length : Int) + 1)]).drop 1 = (numE l ++ [e.at ((l.length : Int) + 1)]).drop (l.length + 1 - 8) := by
      rw [List.drop_append_of_le_length (by rw [List.length_drop]; omega), List.drop_append_of_le_length (by omega), List.drop_drop, show l.length - 8 + 1 = l.length + 1 - 8 by omega]
    rw [e1, e2]
    congr 1
  · rename_i h8
    have h9 : l.length - 8 = 0 := by omega
    have h10 : l.length + 1 - 8 = 0 := by omega
    rw [h9, h10]
    simp
theorem of_may : ∀ (l : List En), (l.length : Int) ≤ 1000 → (∀ e ∈ l, ∀ n : Int, 1 ≤ n → n ≤ 1000 → (e.at n).ok = true) → mayA (ofA l) = true := by
  intro l
  obtain ⟨N, hN⟩ : ∃ N, l.length = N := ⟨_, rfl⟩
  induction N generalizing l with
  | zero =>
    intro _ _
    obtain rfl := List.eq_nil_of_length_eq_zero hN
    exact new_may
  | succ N ih =>
    intro hl hok
    obtain ⟨k, e, rfl⟩ : ∃ k e, l = k ++ [e] := by
      rcases List.eq_nil_or_concat l with h | ⟨k, e, h⟩
      · rw [h] at hN; simp at hN
      · exact ⟨k, e, by simpa using h⟩
    have hk : k.length = N := by simpa using hN
    have hm := ih k hk (by omega) (fun x hx => hok x (by simp [hx]))
    have he : (e.at ((ofA k).last + 1)).ok = true := hok e (by simp) _ (by show 1 ≤ (k.length : Int) + 1; omega) (by show (k.length : Int) + 1 ≤ 1000; omega)
    have hf := (add_facts hm he).1
    rw [add_yes hm he, of_next] at hf
    exact hf
theorem of_add {l : List En} {e : En} (h : mayA (ofA l) = true) (h2 : (e.at ((l.length : Int) + 1)).ok = true) : addA (ofA l) e = (ofA (l ++ [e]), 0) := by
  rw [add_yes h h2, of_next]
theorem at_at (e : En) (n m : Int) : (e.at n).at m = e.at m := rfl
theorem at_self (e : En) : e.at e.seq = e := rfl
end Go.Proofs.YtkhidkilkbmpoaaDoor
