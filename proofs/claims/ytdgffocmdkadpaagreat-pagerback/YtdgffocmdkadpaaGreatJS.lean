/- Marks, and what a store has behind a failure, in plain mathematics. A disk that is turned by calls: what is left of it, and of the memory. What the library proves of a Builder's WriteString and String, and what load makes of it. -/
import Derived.Test.YtdgffocmdkadpaaGreatMA
import Derived.Test.YtdgffocmdkadpaaGreatPJ
namespace Go.Proofs.YtdgffocmdkadpaaGreat
/-- Does a mark tell a page? -/
def tells (m : ByteArray) (i : Nat) : Bool := (m.data.toList.getD (i / 8) 0).toNat.testBit (i % 8)
def markB (L : List UInt8) (p : Nat) : List UInt8 := L.set (p / 8) (L.getD (p / 8) 0 ||| UInt8.ofNat (2 ^ (p % 8)))
def markBs (ps : List Nat) : List UInt8 := ps.foldl markB (List.replicate 256 0)
def markOf (ps : List Nat) : ByteArray := ⟨(markBs ps).toArray⟩
theorem markB_len (L : List UInt8) (p : Nat) : (markB L p).length = L.length := by simp [markB]
theorem foldB_len (ps : List Nat) (L : List UInt8) : (ps.foldl markB L).length = L.length := by
  induction ps generalizing L with
  | nil => rfl
  | cons p ps ih => rw [List.foldl_cons, ih, markB_len]
theorem markBs_len (ps : List Nat) : (markBs ps).length = 256 := by unfold markBs; rw [foldB_len, List.length_replicate]
theorem markBs_snoc (ps : List Nat) (p : Nat) : markBs (ps ++ [p]) = markB (markBs ps) p := by unfold markBs; rw [List.foldl_append]; rfl
theorem markOf_size (ps : List Nat) : (markOf ps).size = 256 := by
  show (markBs ps).toArray.size = 256
  simp [markBs_len]
theorem unit_nat (b : Nat) (h : b < 8) : (UInt8.ofNat (2 ^ b)).toNat = 2 ^ b := by
  have : 2 ^ b < 256 := by
    have : 2 ^ b < 2 ^ 8 := Nat.pow_lt_pow_right (by omega) h
    simpa using this
  rw [UInt8.toNat_ofNat']
  exact Nat.mod_eq_of_lt this
def tellsB (L : List UInt8) (i : Nat) : Bool := (L.getD (i / 8) 0).toNat.testBit (i % 8)
theorem tellsB_mark (L : List UInt8) (p i : Nat) (hp : p / 8 < L.length) : tellsB (markB L p) i = (tellsB L i || decide (i = p)) := by
  unfold tellsB markB
  by_cases h : p / 8 = i / 8
  · rw [← h, List.getD_eq_getElem?_getD, List.getElem?_set_self hp, Option.getD_some, UInt8.toNat_or, Nat.testBit_or, unit_nat _ (Nat.mod_lt _ (by omega)), Nat.testBit_two_pow]
    congr 1
    rw [decide_eq_decide]
    omega
  · rw [List.getD_eq_getElem?_getD, List.getElem?_set_ne h, ← List.getD_eq_getElem?_getD]
    have : ¬ i = p := fun e => h (by rw [e])
    simp [this]
theorem tellsB_fold (ps : List Nat) (L : List UInt8) (hl : L.length = 256) (hp : ∀ p ∈ ps, p < 128) (i : Nat) : tellsB (ps.foldl markB L) i = (tellsB L i || decide (i ∈ ps)) := by
  induction ps generalizing L with
  | nil => simp
  | cons p ps ih =>
    have := hp p (List.mem_cons_self ..)
    rw [List.foldl_cons, ih _ (by rw [markB_len, hl]) (fun q hq => hp q (List.mem_cons_of_mem _ hq)), tellsB_mark _ _ _ (by omega), Bool.or_assoc]
    congr 1
    by_cases h1 : i = p <;> by_cases h2 : i ∈ ps <;> simp [h1, h2]
theorem tellsB_zero (i : Nat) : tellsB (List.replicate 256 0) i = false := by
  unfold tellsB
  have : (List.replicate 256 (0 : UInt8)).getD (i / 8) 0 = 0 := by
    rw [List.getD_eq_getElem?_getD, List.getElem?_replicate]
    split <;> rfl
  rw [this]
  simp
theorem tells_mark (ps : List Nat) (hp : ∀ p ∈ ps, p < 128) (i : Nat) : tells (markOf ps) i = decide (i ∈ ps) := by
  show tellsB (markBs ps) i = _
  unfold markBs
  rw [tellsB_fold _ _ List.length_replicate hp, tellsB_zero, Bool.false_or]
theorem tells_nought (i : Nat) : tells nought0 i = false := tellsB_zero i
/-- Where the good bytes of a sector of a page are. -/
def gd (n : Nat) (m : ByteArray) (k : Nat) : Nat := if tells m (k / 4) then 1 + k else 1 + 4 * n + k
abbrev at_ (K : List ByteArray) (a : Nat) : ByteArray := K.getD a ByteArray.empty
/-- What a store has, when it is recovered. -/
def Rec (n : Nat) (K : List ByteArray) (P : Nat → ByteArray) : Prop := ∀ k, k < 4 * n → at_ K (gd n (at_ K 0) k) = P k
def Tidy (n : Nat) (K : List ByteArray) : Prop := ∀ i, i < n → tells (at_ K 0) i = false
theorem Rec.tidy {n : Nat} {K : List ByteArray} {P : Nat → ByteArray} (h : Rec n K P) (ht : Tidy n K) (k : Nat) (hk : k < 4 * n) : at_ K (1 + 4 * n + k) = P k := by
  have := h k hk
  unfold gd at this
  rw [ht (k / 4) (by omega)] at this
  exact this
theorem at_set (K : List ByteArray) (a b : Nat) (s : ByteArray) (h : a < K.length) : at_ (K.set a s) b = if a = b then s else at_ K b := by
  unfold at_
  split
  · rename_i e
    subst e
    rw [List.getD_eq_getElem?_getD, List.getElem?_set_self h]; rfl
  · rename_i e
    rw [List.getD_eq_getElem?_getD, List.getElem?_set_ne e, ← List.getD_eq_getElem?_getD]
/-- Writes of which each one that is at the same place says the same. -/
theorem over_fun (K : List ByteArray) (ws : List Wt) (V : Nat → ByteArray) (hV : ∀ q ∈ ws, q.2 = V q.1) (hl : ∀ q ∈ ws, q.1 < K.length) (a : Nat) : ((∃ q ∈ ws, q.1 = a) → at_ (over K ws) a = V a) ∧ ((∀ q ∈ ws, q.1 ≠ a) → at_ (over K ws) a = at_ K a) := by
  induction ws generalizing K with
  | nil => exact ⟨fun ⟨q, hq, _⟩ => by simp at hq, fun _ => rfl⟩
  | cons q ws ih =>
    have hq := hV q (List.mem_cons_self ..)
    have hl0 := hl q (List.mem_cons_self ..)
    obtain ⟨i1, i2⟩ := ih (lay K q) (fun r hr => hV r (List.mem_cons_of_mem _ hr)) (fun r hr => by simpa [lay] using hl r (List.mem_cons_of_mem _ hr))
    refine ⟨fun ⟨r, hr, hra⟩ => ?_, fun h => ?_⟩
    · show at_ (over (lay K q) ws) a = V a
      by_cases he : ∃ r ∈ ws, r.1 = a
      · exact i1 he
      · have hn : ∀ r ∈ ws, r.1 ≠ a := fun r hr e => he ⟨r, hr, e⟩
        rw [i2 hn]
        have : q.1 = a := by
          rcases List.mem_cons.1 hr with rfl | hr
          · exact hra
          · exact absurd hra (hn r hr)
        unfold lay
        rw [at_set _ _ _ _ hl0, if_pos this, hq, this]
    · show at_ (over (lay K q) ws) a = at_ K a
      rw [i2 (fun r hr => h r (List.mem_cons_of_mem _ hr))]
      unfold lay
      rw [at_set _ _ _ _ hl0, if_neg (h q (List.mem_cons_self ..))]
theorem upTo_some (K : List ByteArray) (p : Nat → Bool) (ws : List Wt) (k a : Nat) : at_ (upTo K p ws k) a = at_ K a ∨ ∃ q ∈ ws, q.1 = a ∧ q.2 = at_ (upTo K p ws k) a := by
  induction k with
  | zero => exact .inl rfl
  | succ k ih =>
    simp only [upTo]
    split
    · rename_i q hq
      split
      · by_cases he : q.1 < (upTo K p ws k).length
        · unfold lay
          rw [at_set _ _ _ _ he]
          split
          · rename_i e
            exact .inr ⟨q, List.mem_of_getElem? hq, e, rfl⟩
          · exact ih
        · have : lay (upTo K p ws k) q = upTo K p ws k := by unfold lay; exact List.set_eq_of_length_le (by omega)
          rw [this]; exact ih
      · exact ih
    · exact ih
/-- Writes elsewhere leave what is recovered. -/
theorem Rec.elsewhere {n : Nat} {K K' : List ByteArray} {P : Nat → ByteArray} (h : Rec n K P) (ws : List Wt) (hK : ∀ a, at_ K' a = at_ K a ∨ ∃ q ∈ ws, q.1 = a) (h0 : ∀ q ∈ ws, q.1 ≠ 0) (hg : ∀ k, k < 4 * n → ∀ q ∈ ws, q.1 ≠ gd n (at_ K 0) k) : Rec n K' P := by
  have e0 : at_ K' 0 = at_ K 0 := by
    rcases hK 0 with e | ⟨q, hq, e⟩
    · exact e
    · exact absurd e (h0 q hq)
  intro k hk
  rw [e0]
  rcases hK (gd n (at_ K 0) k) with e | ⟨q, hq, e⟩
  · rw [e]; exact h k hk
  · exact absurd e (hg k hk q hq)
theorem mem_layW {first : Nat} {l : List Chg} {q : Wt} (h : q ∈ layW first l) : ∃ c ∈ l, ∃ j, j < 4 ∧ q = (first + 4 * c.1 + j, sec c.2 j) := by
  simp only [layW, List.mem_flatMap] at h
  obtain ⟨c, hc, hq⟩ := h
  refine ⟨c, hc, ?_⟩
  simp only [laidW, List.mem_cons, List.not_mem_nil, or_false] at hq
  rcases hq with rfl | rfl | rfl | rfl
  · exact ⟨0, by omega, rfl⟩
  · exact ⟨1, by omega, rfl⟩
  · exact ⟨2, by omega, rfl⟩
  · exact ⟨3, by omega, rfl⟩
theorem layW_mem {first : Nat} {l : List Chg} {c : Chg} (h : c ∈ l) (j : Nat) (hj : j < 4) : (first + 4 * c.1 + j, sec c.2 j) ∈ layW first l := by
  simp only [layW, List.mem_flatMap]
  refine ⟨c, h, ?_⟩
  match j, hj with
  | 0, _ => simp [laidW]
  | 1, _ => simp [laidW]
  | 2, _ => simp [laidW]
  | 3, _ => simp [laidW]
theorem one_upTo (K : List ByteArray) (p : Nat → Bool) (q : Wt) (j : Nat) : upTo K p ([q].take j) ([q].take j).length = K ∨ upTo K p ([q].take j) ([q].take j).length = lay K q := by
  match j with
  | 0 => exact .inl rfl
  | j + 1 =>
    have : [q].take (j + 1) = [q] := by simp
    rw [this]
    simp only [List.length_singleton, upTo, List.getElem?_cons_zero]
    split
    · exact .inr rfl
    · exact .inl rfl
theorem mem_take' {α : Type} {l : List α} {j : Nat} {x : α} (h : x ∈ l.take j) : x ∈ l := List.mem_of_mem_take h
/-- What is left is done: the pages, and the mark. -/
theorem fin_safe (n : Nat) (D : Dk) (l : List Chg) (P : Nat → ByteArray) (hu : D.up = true) (hw : D.waits = []) (hl : 8 * n + 1 ≤ D.kept.length) (hr : Rec n D.kept P)
    (ht : ∀ i, i < n → (tells (at_ D.kept 0) i = true ↔ ∃ c ∈ l, c.1 = i)) (hn : ∀ c ∈ l, c.1 < n) (hP : ∀ c ∈ l, ∀ j, j < 4 → sec c.2 j = P (4 * c.1 + j)) :
    (codeS D (finS n l) = 0 ∧ (runS D (finS n l)).up = true ∧ (runS D (finS n l)).waits = [] ∧ Tidy n (runS D (finS n l)).kept ∧ Rec n (runS D (finS n l)).kept P) ∨
      (codeS D (finS n l) = 10 ∧ (runS D (finS n l)).up = false ∧ ∀ p, Rec n (upTo (runS D (finS n l)).kept p (runS D (finS n l)).waits (runS D (finS n l)).waits.length) P) := by
  unfold finS layL markL
  rw [codeS_app D ((layW (1 + 4 * n) l).map some ++ [none]) [some (0, nought0), none], runS_app D ((layW (1 + 4 * n) l).map some ++ [none]) [some (0, nought0), none]]
  have hws : ∀ q ∈ layW (1 + 4 * n) l, ∃ c ∈ l, ∃ j, j < 4 ∧ q = (1 + 4 * n + 4 * c.1 + j, sec c.2 j) := fun q hq => mem_layW hq
  have h0 : ∀ q ∈ layW (1 + 4 * n) l, q.1 ≠ 0 := by
    intro q hq
    obtain ⟨c, _, j, _, rfl⟩ := hws q hq
    simp only; omega
  have hg : ∀ k, k < 4 * n → ∀ q ∈ layW (1 + 4 * n) l, q.1 ≠ gd n (at_ D.kept 0) k := by
    intro k hk q hq
    obtain ⟨c, hc, j, hj, rfl⟩ := hws q hq
    have hcn := hn c hc
    unfold gd
    split
    · simp only; omega
    · rename_i hnt
      intro e
      simp only at e
      have : k / 4 = c.1 := by omega
      exact hnt ((ht (k / 4) (by omega)).2 ⟨c, hc, this.symm⟩)
  rcases phase D (layW (1 + 4 * n) l) hu hw with ⟨h1, h2, h3, h4⟩ | ⟨h1, h2, h3, j, h4⟩
  · rw [h1]
    simp only [if_true]
    have hV : ∀ q ∈ layW (1 + 4 * n) l, q.2 = P (q.1 - (1 + 4 * n)) := by
      intro q hq
      obtain ⟨c, hc, j, hj, rfl⟩ := hws q hq
      simp only
      rw [hP c hc j hj]
      congr 1; omega
    have hlen : ∀ q ∈ layW (1 + 4 * n) l, q.1 < D.kept.length := by
      intro q hq
      obtain ⟨c, hc, j, hj, rfl⟩ := hws q hq
      have := hn c hc
      simp only; omega
    have hov := over_fun D.kept _ (fun a => P (a - (1 + 4 * n))) hV hlen
    have hK : ∀ a, at_ (over D.kept (layW (1 + 4 * n) l)) a = at_ D.kept a ∨ ∃ q ∈ layW (1 + 4 * n) l, q.1 = a := by
      intro a
      by_cases he : ∃ q ∈ layW (1 + 4 * n) l, q.1 = a
      · exact .inr he
      · exact .inl ((hov a).2 (fun q hq e => he ⟨q, hq, e⟩))
    have hr3 : Rec n (over D.kept (layW (1 + 4 * n) l)) P := hr.elsewhere _ hK h0 hg
    have hpg : ∀ k, k < 4 * n → at_ (over D.kept (layW (1 + 4 * n) l)) (1 + 4 * n + k) = P k := by
      intro k hk
      by_cases ht1 : tells (at_ D.kept 0) (k / 4) = true
      · obtain ⟨c, hc, hck⟩ := (ht (k / 4) (by omega)).1 ht1
        have hm := layW_mem (first := 1 + 4 * n) hc (k % 4) (Nat.mod_lt _ (by omega))
        have e : 1 + 4 * n + 4 * c.1 + k % 4 = 1 + 4 * n + k := by omega
        rw [e] at hm
        rw [(hov (1 + 4 * n + k)).1 ⟨_, hm, rfl⟩]
        congr 1; omega
      · rw [(hov (1 + 4 * n + k)).2 (fun q hq e => by
          have := hg k hk q hq
          unfold gd at this
          rw [if_neg ht1] at this
          exact this e)]
        have := hr k hk
        unfold gd at this
        rw [if_neg ht1] at this
        exact this
    generalize hD3 : runS D ((layW (1 + 4 * n) l).map some ++ [none]) = D3 at *
    have hlen3 : 0 < D3.kept.length := by rw [h2, over_len]; omega
    have hr0 : Tidy n (lay D3.kept (0, nought0)) ∧ Rec n (lay D3.kept (0, nought0)) P := by
      have e0 : at_ (lay D3.kept (0, nought0)) 0 = nought0 := by unfold lay; rw [at_set _ _ _ _ hlen3, if_pos rfl]
      refine ⟨fun i _ => by rw [e0]; exact tells_nought i, fun k hk => ?_⟩
      rw [e0]
      unfold gd
      rw [tells_nought]
      simp only [Bool.false_eq_true, if_false]
      unfold lay
      rw [at_set _ _ _ _ hlen3, if_neg (by omega), h2]
      exact hpg k hk
    rcases phase D3 [(0, nought0)] h4 h3 with ⟨i1, i2, i3, i4⟩ | ⟨i1, i2, i3, j, i4⟩
    · left
      refine ⟨i1, i4, i3, ?_⟩
      have e : (runS D3 [some (0, nought0), none]).kept = lay D3.kept (0, nought0) := i2
      rw [e]; exact hr0
    · right
      refine ⟨i1, i3, fun p => ?_⟩
      have e : (runS D3 [some (0, nought0), none]).kept = D3.kept := i2
      have e' : (runS D3 [some (0, nought0), none]).waits = [((0 : Nat), nought0)].take j := i4
      rw [e, e']
      rcases one_upTo D3.kept p (0, nought0) j with e | e
      · rw [e, h2]; exact hr3
      · rw [e]; exact hr0.2
  · right
    rw [h1]
    simp only [show ¬ (10 : Nat) = 0 by omega, if_false]
    refine ⟨trivial, h3, fun p => ?_⟩
    rw [h2, h4]
    refine hr.elsewhere (layW (1 + 4 * n) l) (fun a => ?_) h0 hg
    rcases upTo_some D.kept p ((layW (1 + 4 * n) l).take j) ((layW (1 + 4 * n) l).take j).length a with e | ⟨q, hq, e, _⟩
    · exact .inl e
    · exact .inr ⟨q, mem_take' hq, e⟩
/-- What pages have behind changes. -/
def newP (P : Nat → ByteArray) (l : List Chg) (k : Nat) : ByteArray := match l.find? (fun c => c.1 == k / 4) with
  | some c => sec c.2 (k % 4)
  | none => P k
theorem newP_none {P : Nat → ByteArray} {l : List Chg} {k : Nat} (h : ∀ c ∈ l, c.1 ≠ k / 4) : newP P l k = P k := by
  unfold newP
  have : l.find? (fun c => c.1 == k / 4) = none := by
    rw [List.find?_eq_none]
    intro c hc
    simpa using h c hc
  rw [this]
theorem newP_some {P : Nat → ByteArray} {l : List Chg} (hd : l.Pairwise (fun a b => a.1 ≠ b.1)) {c : Chg} (hc : c ∈ l) (k : Nat) (hk : c.1 = k / 4) : newP P l k = sec c.2 (k % 4) := by
  unfold newP
  have : l.find? (fun c => c.1 == k / 4) = some c := by
    induction l with
    | nil => simp at hc
    | cons x l ih =>
      rw [List.pairwise_cons] at hd
      rcases List.mem_cons.1 hc with rfl | hc
      · simp [hk]
      · have : ¬ x.1 = k / 4 := by rw [← hk]; exact hd.1 c hc
        rw [List.find?_cons_of_neg (by simpa using this)]
        exact ih hd.2 hc
  rw [this]
/-- A commit: as a whole, or not at all. -/
theorem commit_safe (n : Nat) (D : Dk) (l : List Chg) (m : ByteArray) (P : Nat → ByteArray) (hn8 : n ≤ 128) (hu : D.up = true) (hw : D.waits = []) (hl : 8 * n + 1 ≤ D.kept.length) (hr : Rec n D.kept P) (htd : Tidy n D.kept)
    (hm : ∀ i, i < n → (tells m i = true ↔ ∃ c ∈ l, c.1 = i)) (hn : ∀ c ∈ l, c.1 < n) (hd : l.Pairwise (fun a b => a.1 ≠ b.1)) :
    (codeS D (commitS n l m) = 0 ∧ (runS D (commitS n l m)).up = true ∧ (runS D (commitS n l m)).waits = [] ∧ Tidy n (runS D (commitS n l m)).kept ∧ Rec n (runS D (commitS n l m)).kept (newP P l)) ∨
      (codeS D (commitS n l m) = 10 ∧ (runS D (commitS n l m)).up = false ∧ ∀ p, Rec n (upTo (runS D (commitS n l m)).kept p (runS D (commitS n l m)).waits (runS D (commitS n l m)).waits.length) P ∨ Rec n (upTo (runS D (commitS n l m)).kept p (runS D (commitS n l m)).waits (runS D (commitS n l m)).waits.length) (newP P l)) := by
  unfold commitS layL
  rw [codeS_app D ((layW 1 l).map some ++ [none]) (markL m ++ finS n l), runS_app D ((layW 1 l).map some ++ [none]) (markL m ++ finS n l)]
  have hws : ∀ q ∈ layW 1 l, ∃ c ∈ l, ∃ j, j < 4 ∧ q = (1 + 4 * c.1 + j, sec c.2 j) := fun q hq => mem_layW hq
  have h0 : ∀ q ∈ layW 1 l, q.1 ≠ 0 := by
    intro q hq
    obtain ⟨c, _, j, _, rfl⟩ := hws q hq
    simp only; omega
  have hg : ∀ k, k < 4 * n → ∀ q ∈ layW 1 l, q.1 ≠ gd n (at_ D.kept 0) k := by
    intro k hk q hq
    obtain ⟨c, hc, j, hj, rfl⟩ := hws q hq
    have hcn := hn c hc
    unfold gd
    rw [htd (k / 4) (by omega)]
    simp only [Bool.false_eq_true, if_false]; omega
  rcases phase D (layW 1 l) hu hw with ⟨h1, h2, h3, h4⟩ | ⟨h1, h2, h3, j, h4⟩
  · rw [h1]
    simp only [if_true]
    have hlen : ∀ q ∈ layW 1 l, q.1 < D.kept.length := by
      intro q hq
      obtain ⟨c, hc, j, hj, rfl⟩ := hws q hq
      have := hn c hc
      simp only; omega
    have hV : ∀ q ∈ layW 1 l, q.2 = newP P l (q.1 - 1) := by
      intro q hq
      obtain ⟨c, hc, j, hj, rfl⟩ := hws q hq
      simp only
      rw [newP_some hd hc (1 + 4 * c.1 + j - 1) (by omega)]
      congr 1; omega
    have hov := over_fun D.kept _ (fun a => newP P l (a - 1)) hV hlen
    have hK : ∀ a, at_ (over D.kept (layW 1 l)) a = at_ D.kept a ∨ ∃ q ∈ layW 1 l, q.1 = a := by
      intro a
      by_cases he : ∃ q ∈ layW 1 l, q.1 = a
      · exact .inr he
      · exact .inl ((hov a).2 (fun q hq e => he ⟨q, hq, e⟩))
    have hr1 : Rec n (over D.kept (layW 1 l)) P := hr.elsewhere _ hK h0 hg
    have e01 : at_ (over D.kept (layW 1 l)) 0 = at_ D.kept 0 := (hov 0).2 h0
    have ht1 : Tidy n (over D.kept (layW 1 l)) := fun i hi => by rw [e01]; exact htd i hi
    have hcp : ∀ k, k < 4 * n → (∃ c ∈ l, c.1 = k / 4) → at_ (over D.kept (layW 1 l)) (1 + k) = newP P l k := by
      intro k hk ⟨c, hc, hck⟩
      have hm := layW_mem (first := 1) hc (k % 4) (Nat.mod_lt _ (by omega))
      have e : 1 + 4 * c.1 + k % 4 = 1 + k := by omega
      rw [e] at hm
      rw [(hov (1 + k)).1 ⟨_, hm, rfl⟩]
      congr 1; omega
    generalize hD1 : runS D ((layW 1 l).map some ++ [none]) = D1 at *
    have hlen1 : D1.kept.length = D.kept.length := by rw [h2, over_len]
    have hr2 : Rec n (lay D1.kept (0, m)) (newP P l) := by
      have e0 : at_ (lay D1.kept (0, m)) 0 = m := by unfold lay; rw [at_set _ _ _ _ (by omega), if_pos rfl]
      intro k hk
      rw [e0]
      unfold gd
      by_cases hc : ∃ c ∈ l, c.1 = k / 4
      · rw [if_pos ((hm (k / 4) (by omega)).2 hc)]
        unfold lay
        rw [at_set _ _ _ _ (by omega), if_neg (by omega), h2]
        exact hcp k hk hc
      · rw [if_neg (fun e => hc ((hm (k / 4) (by omega)).1 e))]
        unfold lay
        rw [at_set _ _ _ _ (by omega), if_neg (by omega), h2, newP_none (fun c hc' e => hc ⟨c, hc', e⟩)]
        exact hr1.tidy ht1 k hk
    have e0 : at_ (lay D1.kept (0, m)) 0 = m := by unfold lay; rw [at_set _ _ _ _ (by omega), if_pos rfl]
    rw [codeS_app D1 (markL m) (finS n l), runS_app D1 (markL m) (finS n l)]
    rcases phase D1 [(0, m)] h4 h3 with ⟨i1, i2, i3, i4⟩ | ⟨i1, i2, i3, j, i4⟩
    · have i1' : codeS D1 (markL m) = 0 := i1
      have i2' : (runS D1 (markL m)).kept = lay D1.kept (0, m) := i2
      have i3' : (runS D1 (markL m)).waits = [] := i3
      have i4' : (runS D1 (markL m)).up = true := i4
      rw [i1']
      simp only [if_true]
      generalize runS D1 (markL m) = D2 at *
      rcases fin_safe n D2 l (newP P l) i4' i3' (by rw [i2']; simp only [lay, List.length_set]; omega) (by rw [i2']; exact hr2) (by rw [i2', e0]; exact hm) hn
        (fun c hc j hj => by rw [newP_some hd hc (4 * c.1 + j) (by omega)]; congr 1; omega) with h | ⟨h1, h2, h3⟩
      · exact .inl h
      · exact .inr ⟨h1, h2, fun p => .inr (h3 p)⟩
    · right
      have i1' : codeS D1 (markL m) = 10 := i1
      have i2' : (runS D1 (markL m)).kept = D1.kept := i2
      have i3' : (runS D1 (markL m)).up = false := i3
      have i4' : (runS D1 (markL m)).waits = [((0 : Nat), m)].take j := i4
      rw [i1']
      simp only [show ¬ (10 : Nat) = 0 by omega, if_false]
      refine ⟨trivial, i3', fun p => ?_⟩
      rw [i2', i4']
      rcases one_upTo D1.kept p (0, m) j with e | e
      · rw [e, h2]; exact .inl hr1
      · rw [e]; exact .inr hr2
  · right
    rw [h1]
    simp only [show ¬ (10 : Nat) = 0 by omega, if_false]
    refine ⟨trivial, h3, fun p => .inl ?_⟩
    rw [h2, h4]
    refine hr.elsewhere (layW 1 l) (fun a => ?_) h0 hg
    rcases upTo_some D.kept p ((layW 1 l).take j) ((layW 1 l).take j).length a with e | ⟨q, hq, e, _⟩
    · exact .inl e
    · exact .inr ⟨q, mem_take' hq, e⟩
/-- Recovery. -/
def pageAt (K : List ByteArray) (a : Nat) : ByteArray := at_ K a ++ at_ K (a + 1) ++ at_ K (a + 2) ++ at_ K (a + 3)
def toldL (n : Nat) (K : List ByteArray) : List Nat := (List.range n).filter fun i => tells (at_ K 0) i
def recL (n : Nat) (K : List ByteArray) : List Chg := (toldL n K).map fun i => (i, pageAt K (1 + 4 * i))
def recS (n : Nat) (K : List ByteArray) : List Stp := if toldL n K = [] then [] else finS n (recL n K)
theorem ext_ba {a b : ByteArray} (h : a.data = b.data) : a = b := ByteArray.ext h
theorem sec_page (a b c d : ByteArray) (ha : a.size = 256) (hb : b.size = 256) (hc : c.size = 256) (hd : d.size = 256) : sec (a ++ b ++ c ++ d) 0 = a ∧ sec (a ++ b ++ c ++ d) 1 = b ∧ sec (a ++ b ++ c ++ d) 2 = c ∧ sec (a ++ b ++ c ++ d) 3 = d := by
  have ha' : a.data.size = 256 := ha
  have hb' : b.data.size = 256 := hb
  have hc' : c.data.size = 256 := hc
  have hd' : d.data.size = 256 := hd
  refine ⟨?_, ?_, ?_, ?_⟩ <;> apply ByteArray.ext <;> simp only [sec, ByteArray.data_extract, ByteArray.data_append] <;> apply Array.ext' <;> simp only [Array.toList_extract, Array.toList_append, List.extract_eq_take_drop] <;> simp only [List.drop_append, List.take_append, Array.length_toList, List.length_append, List.length_drop, ha', hb', hc'] <;> simp [ha', hb', hc', hd', List.take_of_length_le, List.drop_of_length_le]
end Go.Proofs.YtdgffocmdkadpaaGreat
namespace Go.Proofs.YtdgffocmdkadpaaGreat
open Go.RowKit Go.Shelf
theorem nought_is : nought = nought0 := rfl
/-- A call on a disk at S has made it D'; but for S nothing has turned; its blocks are those of S, and new ones. -/
def Mut (S : Nat → Prop) (w : World) (g : Nat) (D' : Dk) (w' : World) : Prop := ∃ S', DiskIs w' S' g D' ∧ Upd S w w' ∧ ∀ x, S' x → S x ∨ w.heap.size ≤ x
theorem Mut.same {S : Nat → Prop} {w : World} {g : Nat} {D : Dk} (h : DiskIs w S g D) : Mut S w g D w := ⟨S, h, Upd.refl _ _, fun _ h => .inl h⟩
theorem Mut.below {S : Nat → Prop} {w w' : World} {g : Nat} {D : Dk} (h : DiskIs w S g D) (hb : Below w.heap.size w w') : Mut S w g D w' := ⟨S, h.below hb, Upd.of_below hb, fun _ h => .inl h⟩
theorem Mut.trans {S S1 : Nat → Prop} {w w1 w2 : World} {g : Nat} {D2 : Dk} (hu : Upd S w w1) (hs : ∀ x, S1 x → S x ∨ w.heap.size ≤ x) (m : Mut S1 w1 g D2 w2) : Mut S w g D2 w2 := by
  obtain ⟨S2, hd, hu2, hs2⟩ := m
  refine ⟨S2, hd, hu.trans hu2 (fun x hx hl => (hs x hx).elim id (fun h => by omega)), fun x hx => ?_⟩
  rcases hs2 x hx with h | h
  · exact hs x h
  · have := hu.size
    exact .inr (by omega)
theorem Mut.then {S : Nat → Prop} {w w1 w2 : World} {g : Nat} {D1 D2 : Dk} (m : Mut S w g D1 w1) (k : ∀ S1, DiskIs w1 S1 g D1 → (∀ x, S1 x → S x ∨ w.heap.size ≤ x) → Upd S w w1 → Mut S1 w1 g D2 w2) : Mut S w g D2 w2 := by
  obtain ⟨S1, hd, hu, hs⟩ := m
  exact Mut.trans hu hs (k S1 hd hs hu)
theorem Mut.after {S : Nat → Prop} {w w1 w2 : World} {g : Nat} {D : Dk} (m : Mut S w g D w1) (hb : Below w1.heap.size w1 w2) : Mut S w g D w2 := m.then fun _ hd _ _ => Mut.below hd hb
theorem Mut.drew {S : Nat → Prop} {w w1 : World} {g : Nat} {D : Dk} (m : Mut S w g D w1) : Mut S w g D w1.drew := m.after (Below.refl _ _).drew
theorem Mut.size {S : Nat → Prop} {w w1 : World} {g : Nat} {D : Dk} (m : Mut S w g D w1) : w.heap.size ≤ w1.heap.size := by
  obtain ⟨_, _, hu, _⟩ := m
  exact hu.size
theorem Mut.block {S : Nat → Prop} {w w1 : World} {g : Nat} {D : Dk} (m : Mut S w g D w1) {x : Nat} (hx : x < w.heap.size) (hs : ¬ S x) : w1.heap[x]? = w.heap[x]? := by
  obtain ⟨_, _, hu, _⟩ := m
  exact hu.block x hx hs
theorem Mut.cell {S : Nat → Prop} {w w1 : World} {g : Nat} {D : Dk} (m : Mut S w g D w1) {x : Addr} (hx : x.block < w.heap.size) (hs : ¬ S x.block) : w1.cell? x = w.cell? x := World.cell?_of_block (w := w) (m.block hx hs)
/-- The start of a call: of w as well as of a world behind it. -/
theorem Mut.from {S : Nat → Prop} {w w1 w2 : World} {g : Nat} {D : Dk} (hb : Below w.heap.size w w1) (m : Mut S w1 g D w2) : Mut S w g D w2 := Mut.trans (Upd.of_below hb) (fun _ h => .inl h) m
def Dk.wcode (D : Dk) (a : Int) (s : ByteArray) : Nat := if D.reach a = 0 then (if s.size = 256 then 0 else 1) else D.reach a
def Dk.wput (D : Dk) (a : Int) (s : ByteArray) : Dk := if D.reach a = 0 ∧ s.size = 256 then D.wrote a.toNat s else D
theorem write_ok {S : Nat → Prop} {w : World} {g : Nat} {D : Dk} (h : DiskIs w S g D) (a : Nat) (s : ByteArray) (ha : a < D.kept.length) (hs : s.size = 256) (hw : D.writes < 1000000) : Calls Tryz.prog 95 #[.pointer (some ⟨g, 0, none⟩), .int .i64 (a : Int), .string s] w fun e w' => e = .returned (.int .i64 (codeS D [some (a, s)] : Int)) ∧ Mut S w g (runS D [some (a, s)]) w' := by
  unfold codeS runS codeS runS doS
  cases hu : D.up
  · refine (write_bad h (a : Int) s (by unfold Dk.reach; rw [hu]; simp)).mono ?_
    rintro e w' ⟨rfl, hw'⟩
    subst w'
    refine ⟨?_, Mut.same h⟩
    unfold Dk.reach
    rw [hu]
    rfl
  · refine (write_any h a s hu ha hs hw).mono ?_
    rintro e w' ⟨rfl, hd, hup⟩
    exact ⟨rfl, _, hd, hup, fun x hx => hx.imp id (fun h => h.1)⟩
theorem flush_ok {S : Nat → Prop} {w : World} {g : Nat} {D : Dk} (h : DiskIs w S g D) : Calls Tryz.prog 94 #[.pointer (some ⟨g, 0, none⟩)] w fun e w' => e = .returned (.int .i64 (codeS D [none] : Int)) ∧ Mut S w g (runS D [none]) w' := by
  unfold codeS runS codeS runS doS
  cases hu : D.up
  · refine (flush_down h hu).mono ?_
    rintro e w' ⟨rfl, hw'⟩
    subst w'
    exact ⟨rfl, Mut.same h⟩
  · refine (flush_any h hu).mono ?_
    rintro e w' ⟨rfl, hd, hup⟩
    exact ⟨rfl, _, hd, hup, fun x hx => .inl hx⟩
/-- A Journal in memory. -/
def Jat (w : World) (jb g n : Nat) : Prop := w.heap[jb]? = some (.cells #[.pointer (some ⟨g, 0, none⟩), .int .i64 (n : Int)] 86 (0, 0))
theorem Jat.lt {w : World} {jb g n : Nat} (h : Jat w jb g n) : jb < w.heap.size := lt_of_some h
theorem Jat.cells {w : World} {jb g n : Nat} (h : Jat w jb g n) : w.cell? ⟨jb, 0, none⟩ = some (.pointer (some ⟨g, 0, none⟩)) ∧ w.cell? ⟨jb, 1, none⟩ = some (.int .i64 (n : Int)) := by
  refine ⟨?_, ?_⟩ <;> rw [cell_of_row w jb _ _ _ _ h] <;> rfl
theorem Jat.below {w w' : World} {jb g n : Nat} (h : Jat w jb g n) (hb : Below w.heap.size w w') : Jat w' jb g n := (hb.block jb h.lt).trans h
theorem Jat.upd {w w' : World} {S : Nat → Prop} {jb g n : Nat} (h : Jat w jb g n) (hu : Upd S w w') (hs : ¬ S jb) : Jat w' jb g n := (hu.block jb h.lt hs).trans h
theorem Jat.mut {w w' : World} {S : Nat → Prop} {g' : Nat} {D : Dk} {jb g n : Nat} (h : Jat w jb g n) (m : Mut S w g' D w') (hs : ¬ S jb) : Jat w' jb g n := (m.block h.lt hs).trans h
set_option maxHeartbeats 400000 in
theorem pagesAt_any {w : World} {jb g n : Nat} (h : Jat w jb g n) (hn : n ≤ 128) : Calls Tryz.prog 96 #[.pointer (some ⟨jb, 0, none⟩)] w fun e w' => e = .returned (.int .i64 ((1 + 4 * n : Nat) : Int)) ∧ w' = w := by
  obtain ⟨c0, c1⟩ := h.cells
  clear h
  go_enter Tryz.func96, Tryz.ntmps96
  go_wp2
  go_ret
  refine ⟨ret_int ?_, rfl⟩
  go_num
set_option maxHeartbeats 400000 in
theorem has_any {w : World} {jb g n : Nat} (h : Jat w jb g n) (p : Int) : Calls Tryz.prog 88 #[.pointer (some ⟨jb, 0, none⟩), .int .i64 p] w fun e w' => e = .returned (.bool (decide (0 ≤ p ∧ p < (n : Int)))) ∧ w' = w := by
  obtain ⟨c0, c1⟩ := h.cells
  clear h
  by_cases h0 : p < 0
  · have h0' : ¬ (0 : Int) ≤ p := by omega
    go_enter Tryz.func88, Tryz.ntmps88
    go_wp2
    go_ret
    exact ⟨ret_bool (by first | rfl | (simp; done) | (simp; omega)), rfl⟩
  · have h0' : (0 : Int) ≤ p := by omega
    by_cases h1 : p < (n : Int)
    · go_enter Tryz.func88, Tryz.ntmps88
      go_wp2
      go_ret
      exact ⟨ret_bool (by first | rfl | (simp; done) | (simp; omega)), rfl⟩
    · go_enter Tryz.func88, Tryz.ntmps88
      go_wp2
      go_ret
      exact ⟨ret_bool (by first | rfl | (simp; done) | (simp; omega)), rfl⟩
def needN (p : Int) : Nat := if p < 1 ∨ 128 < p then 0 else 1 + 8 * p.toNat
set_option maxHeartbeats 400000 in
theorem need_any (p : Int) (w : World) : Calls Tryz.prog 70 #[.int .i64 p] w fun e w' => e = .returned (.int .i64 (needN p : Int)) ∧ w' = w := by
  unfold needN
  by_cases h0 : p < 1
  · rw [if_pos (.inl h0)]
    go_enter Tryz.func70, Tryz.ntmps70
    go_wp2
    go_ret
    exact ⟨rfl, rfl⟩
  · by_cases h1 : 128 < p
    · rw [if_pos (.inr h1)]
      go_enter Tryz.func70, Tryz.ntmps70
      go_wp2
      go_ret
      exact ⟨rfl, rfl⟩
    · rw [if_neg (by omega)]
      obtain ⟨n, rfl⟩ := Int.eq_ofNat_of_zero_le (show 0 ≤ p by omega)
      go_enter Tryz.func70, Tryz.ntmps70
      go_wp2
      go_ret
      refine ⟨ret_int ?_, rfl⟩
      go_num
end Go.Proofs.YtdgffocmdkadpaaGreat
namespace Go.Proofs.YtdgffocmdkadpaaGreat
open Go.RowKit Go.Shelf
theorem lays166 : Go.Proofs.Lays.n166 Tryz.prog Tryz.lays105_ren := {
  mixed := Tryz.lays105.mixed
  f166 := Tryz.lays105.f166
  f240 := Tryz.lays105.f240
  f276 := Tryz.lays105.f276
  t0 := Tryz.lays105.t0
  a0 := Tryz.lays105.a0
  z0 := Tryz.lays105.z0
  v0 := Tryz.lays105.v0
  t3 := Tryz.lays105.t3
  a3 := Tryz.lays105.a3
  z3 := Tryz.lays105.z3
  v3 := Tryz.lays105.v3
  t4 := Tryz.lays105.t4
  a4 := Tryz.lays105.a4
  z4 := Tryz.lays105.z4
  v4 := Tryz.lays105.v4
  t9 := Tryz.lays105.t9
  a9 := Tryz.lays105.a9
  z9 := Tryz.lays105.z9
  v9 := Tryz.lays105.v9
  t20 := Tryz.lays105.t20
  a20 := Tryz.lays105.a20
  z20 := Tryz.lays105.z20
  v20 := Tryz.lays105.v20
  t37 := Tryz.lays105.t37
  a37 := Tryz.lays105.a37
  z37 := Tryz.lays105.z37
  v37 := Tryz.lays105.v37
  t70 := Tryz.lays105.t70
  a70 := Tryz.lays105.a70
  z70 := Tryz.lays105.z70
  v70 := Tryz.lays105.v70
  t72 := Tryz.lays105.t72
  a72 := Tryz.lays105.a72
  z72 := Tryz.lays105.z72
  v72 := Tryz.lays105.v72
  t75 := Tryz.lays105.t75
  a75 := Tryz.lays105.a75
  z75 := Tryz.lays105.z75
  v75 := Tryz.lays105.v75
  t164 := Tryz.lays105.t164
  a164 := Tryz.lays105.a164
  z164 := Tryz.lays105.z164
  v164 := Tryz.lays105.v164 }
theorem wstr_any (B b : Nat) (bs : List Value) (s : ByteArray) (w : World) (h : Lib.IsBuilder 157 5 B b bs w) (hlen : bs.length + s.size ≤ 140737488355328) (hBw : B ≤ w.heap.size) :
    Calls Tryz.prog 115 #[.pointer (some ⟨b, 0, none⟩), .string s] w fun e w' => e = .returned (.tuple #[.int .i64 s.size, .nilIface]) ∧ (Lib.BuilderAt 157 5 B b (.pointer (some ⟨b, 0, none⟩)) (bs ++ Lib.strCells s) w' ∧ Below B w w') :=
  Any.Builder_WriteString lays166 Tryz.Builder_Extra_105 B b bs s w h hlen hBw
end Go.Proofs.YtdgffocmdkadpaaGreat
