/- A disk, in plain mathematics. -/
namespace Go.Proofs.YtnafalkcgghjgaaGreatDoor
/-- A write that waits: where, and what. -/
abbrev Wt := Nat × ByteArray
/-- A disk: what is there for good, what waits. -/
structure Dk where
  kept : List ByteArray
  waits : List Wt
  writes : Nat
  fuse : Nat
  up : Bool
def lay (l : List ByteArray) (p : Wt) : List ByteArray := l.set p.1 p.2
def over (l : List ByteArray) (ws : List Wt) : List ByteArray := ws.foldl lay l
def Dk.seen (D : Dk) : List ByteArray := over D.kept D.waits
def Dk.size (D : Dk) : Nat := D.kept.length
structure Dk.Ok (D : Dk) : Prop where
  n1 : 1 ≤ D.kept.length
  n2 : D.kept.length ≤ 2048
  at_ : ∀ p ∈ D.waits, p.1 < D.kept.length
  fu : D.fuse ≤ 9223372036854775807
  ww : D.waits.length ≤ D.writes
  wr : D.writes ≤ 1000000
theorem over_len (l : List ByteArray) (ws : List Wt) : (over l ws).length = l.length := by
  induction ws generalizing l with
  | nil => rfl
  | cons p ws ih => show (over (lay l p) ws).length = _; rw [ih]; simp [lay]
theorem over_snoc (l : List ByteArray) (ws : List Wt) (p : Wt) : over l (ws ++ [p]) = (over l ws).set p.1 p.2 := by simp [over, lay]
theorem seen_len (D : Dk) : D.seen.length = D.kept.length := over_len _ _
/-- The first k of the writes, those that are picked. -/
def upTo (l : List ByteArray) (p : Nat → Bool) (ws : List Wt) : Nat → List ByteArray
  | 0 => l
  | k + 1 => match ws[k]? with
    | some q => if p k then lay (upTo l p ws k) q else upTo l p ws k
    | none => upTo l p ws k
theorem upTo_len (l : List ByteArray) (p : Nat → Bool) (ws : List Wt) (k : Nat) : (upTo l p ws k).length = l.length := by
  induction k with
  | zero => rfl
  | succ k ih =>
    simp only [upTo]
    split
    · split
      · simp [lay, ih]
      · exact ih
    · exact ih
theorem upTo_pick {l : List ByteArray} {p : Nat → Bool} {ws : List Wt} {k : Nat} {q : Wt} (h : ws[k]? = some q) (hp : p k = true) : upTo l p ws (k + 1) = (upTo l p ws k).set q.1 q.2 := by
  simp [upTo, h, hp, lay]
theorem upTo_leave {l : List ByteArray} {p : Nat → Bool} {ws : List Wt} {k : Nat} {q : Wt} (h : ws[k]? = some q) (hp : p k = false) : upTo l p ws (k + 1) = upTo l p ws k := by
  simp [upTo, h, hp]
/-- The first k sectors that were written, as they are for good. -/
def backTo (s K : List ByteArray) (ws : List Wt) : Nat → List ByteArray
  | 0 => s
  | k + 1 => match ws[k]? with
    | some q => (backTo s K ws k).set q.1 (K.getD q.1 ByteArray.empty)
    | none => backTo s K ws k
theorem backTo_len (s K : List ByteArray) (ws : List Wt) (k : Nat) : (backTo s K ws k).length = s.length := by
  induction k with
  | zero => rfl
  | succ k ih =>
    simp only [backTo]
    split
    · simp [ih]
    · exact ih
theorem backTo_step {s K : List ByteArray} {ws : List Wt} {k : Nat} {q : Wt} (h : ws[k]? = some q) : backTo s K ws (k + 1) = (backTo s K ws k).set q.1 (K.getD q.1 ByteArray.empty) := by
  simp [backTo, h]
theorem over_other (l : List ByteArray) (ws : List Wt) (j : Nat) (h : ∀ q ∈ ws, q.1 ≠ j) : (over l ws)[j]? = l[j]? := by
  induction ws generalizing l with
  | nil => rfl
  | cons p ws ih =>
    show (over (lay l p) ws)[j]? = _
    rw [ih _ (fun q hq => h q (List.mem_cons_of_mem _ hq))]
    simp only [lay, List.getElem?_set]
    rw [if_neg (h p (List.mem_cons_self ..))]
theorem upTo_other (l : List ByteArray) (p : Nat → Bool) (ws : List Wt) (j : Nat) (h : ∀ q ∈ ws, q.1 ≠ j) (k : Nat) : (upTo l p ws k)[j]? = l[j]? := by
  induction k with
  | zero => rfl
  | succ k ih =>
    simp only [upTo]
    split
    · rename_i q hq
      split
      · simp only [lay, List.getElem?_set]
        rw [if_neg (h q (List.mem_of_getElem? hq))]
        exact ih
      · exact ih
    · exact ih
theorem backTo_at (s K : List ByteArray) (ws : List Wt) (hsK : s.length = K.length) (j : Nat) (hj : j < K.length) (k : Nat) :
    ((∃ i q, i < k ∧ ws[i]? = some q ∧ q.1 = j) → (backTo s K ws k)[j]? = K[j]?) ∧ ((∀ i q, i < k → ws[i]? = some q → q.1 ≠ j) → (backTo s K ws k)[j]? = s[j]?) := by
  induction k with
  | zero => exact ⟨fun ⟨i, _, hi, _⟩ => by omega, fun _ => rfl⟩
  | succ k ih =>
    cases hk : ws[k]? with
    | none =>
      have e : backTo s K ws (k + 1) = backTo s K ws k := by simp [backTo, hk]
      rw [e]
      refine ⟨fun ⟨i, q, hi, hq, hj⟩ => ih.1 ⟨i, q, ?_, hq, hj⟩, fun h => ih.2 fun i q hi => h i q (by omega)⟩
      rcases Nat.lt_or_ge i k with h | h
      · exact h
      · obtain rfl : i = k := by omega
        rw [hk] at hq; cases hq
    | some q =>
      rw [backTo_step hk]
      by_cases hq : q.1 = j
      · have : ((backTo s K ws k).set q.1 (K.getD q.1 ByteArray.empty))[j]? = K[j]? := by
          rw [hq, List.getElem?_set_self (by rw [backTo_len, hsK]; exact hj), List.getD_eq_getElem?_getD, List.getElem?_eq_getElem hj]
          rfl
        exact ⟨fun _ => this, fun h => absurd hq (h k q (by omega) hk)⟩
      · rw [List.getElem?_set_ne hq]
        refine ⟨fun ⟨i, q', hi, hq', hj⟩ => ih.1 ⟨i, q', ?_, hq', hj⟩, fun h => ih.2 fun i q hi => h i q (by omega)⟩
        rcases Nat.lt_or_ge i k with h | h
        · exact h
        · obtain rfl : i = k := by omega
          rw [hk] at hq'
          cases hq'
          exact absurd hj hq
/-- When all were gone through, what is read is what is there for good. -/
theorem back_end (l : List ByteArray) (p : Nat → Bool) (ws : List Wt) : backTo (over l ws) (upTo l p ws ws.length) ws ws.length = upTo l p ws ws.length := by
  apply List.ext_getElem?
  intro j
  have hl1 := over_len l ws
  have hl2 := upTo_len l p ws ws.length
  by_cases hj : j < l.length
  · have hb := backTo_at (over l ws) (upTo l p ws ws.length) ws (by rw [hl1, hl2]) j (by rw [hl2]; exact hj) ws.length
    by_cases h : ∃ i q, i < ws.length ∧ ws[i]? = some q ∧ q.1 = j
    · exact hb.1 h
    · have h' : ∀ q ∈ ws, q.1 ≠ j := by
        intro q hq e
        obtain ⟨i, hi, he⟩ := List.getElem_of_mem hq
        exact h ⟨i, q, hi, by rw [List.getElem?_eq_getElem hi, he], e⟩
      rw [hb.2 (fun i q _ hq => h' q (List.mem_of_getElem? hq)), over_other l ws j h', upTo_other l p ws j h']
  · rw [List.getElem?_eq_none (by rw [backTo_len, hl1]; omega), List.getElem?_eq_none (by rw [hl2]; omega)]
/-- All are picked. -/
theorem upTo_all (l : List ByteArray) (ws : List Wt) (p : Nat → Bool) (hp : ∀ i, i < ws.length → p i = true) : upTo l p ws ws.length = over l ws := by
  have : ∀ k, k ≤ ws.length → upTo l p ws k = over l (ws.take k) := by
    intro k
    induction k with
    | zero => intro _; rfl
    | succ k ih =>
      intro hk
      have e : ws[k]? = some ws[k] := List.getElem?_eq_getElem (by omega)
      rw [upTo_pick e (hp k (by omega)), ih (by omega), List.take_succ_eq_append_getElem (by omega), over_snoc]
  rw [this _ (Nat.le_refl _), List.take_length]
theorem upTo_none (l : List ByteArray) (ws : List Wt) (p : Nat → Bool) (hp : ∀ i, p i = false) (k : Nat) : upTo l p ws k = l := by
  induction k with
  | zero => rfl
  | succ k ih =>
    simp only [upTo, hp]
    split <;> simpa using ih
/-- What the functions make of a disk. -/
def Dk.off (D : Dk) : Nat := if D.up then 0 else 10
def Dk.reach (D : Dk) (a : Int) : Nat := if D.up then (if a < 0 ∨ (D.kept.length : Int) ≤ a then 9 else 0) else 10
def Dk.wrote (D : Dk) (a : Nat) (s : ByteArray) : Dk := { D with waits := D.waits ++ [(a, s)], writes := D.writes + 1, fuse := D.fuse - 1, up := decide (D.fuse ≠ 1) }
def Dk.settled (D : Dk) (p : Nat → Bool) : Dk := { D with kept := upTo D.kept p D.waits D.waits.length, waits := [] }
def Dk.failed (D : Dk) (p : Nat → Bool) : Dk := { D.settled p with fuse := 0, up := false }
def Dk.fused (D : Dk) (n : Nat) : Dk := { D with fuse := n }
def Dk.started (D : Dk) : Dk := { D with up := true }
def Dk.new (n : Nat) (z : ByteArray) : Dk := { kept := List.replicate n z, waits := [], writes := 0, fuse := 0, up := true }
theorem Dk.Ok.wrote {D : Dk} (h : D.Ok) (a : Nat) (s : ByteArray) (ha : a < D.kept.length) (hw : D.writes < 1000000) : (D.wrote a s).Ok := by
  obtain ⟨h1, h2, h3, h4, h5, h6⟩ := h
  refine ⟨h1, h2, ?_, ?_, ?_, hw⟩
  · intro p hp
    simp only [Dk.wrote, List.mem_append, List.mem_singleton] at hp
    rcases hp with hp | rfl
    · exact h3 p hp
    · exact ha
  · simp only [Dk.wrote]; omega
  · simp only [Dk.wrote, List.length_append, List.length_singleton]; omega
theorem Dk.Ok.settled {D : Dk} (h : D.Ok) (p : Nat → Bool) : (D.settled p).Ok := by
  obtain ⟨h1, h2, h3, h4, h5, h6⟩ := h
  refine ⟨?_, ?_, ?_, h4, ?_, h6⟩
  · simpa [Dk.settled, upTo_len] using h1
  · simpa [Dk.settled, upTo_len] using h2
  · intro p hp; simp [Dk.settled] at hp
  · simp [Dk.settled]
theorem Dk.Ok.failed {D : Dk} (h : D.Ok) (p : Nat → Bool) : (D.failed p).Ok := by
  obtain ⟨h1, h2, h3, h4, h5, h6⟩ := h.settled p
  exact ⟨h1, h2, h3, by simp [Dk.failed], h5, h6⟩
theorem Dk.Ok.fused {D : Dk} (h : D.Ok) (n : Nat) (hn : n ≤ 9223372036854775807) : (D.fused n).Ok := ⟨h.n1, h.n2, h.at_, hn, h.ww, h.wr⟩
theorem Dk.Ok.started {D : Dk} (h : D.Ok) : (D.started).Ok := ⟨h.n1, h.n2, h.at_, h.fu, h.ww, h.wr⟩
theorem Dk.Ok.new (n : Nat) (z : ByteArray) (h1 : 1 ≤ n) (h2 : n ≤ 2048) : (Dk.new n z).Ok := by
  refine ⟨by simpa [Dk.new] using h1, by simpa [Dk.new] using h2, ?_, by simp [Dk.new], by simp [Dk.new], by simp [Dk.new]⟩
  intro p hp; simp [Dk.new] at hp
end Go.Proofs.YtnafalkcgghjgaaGreatDoor
