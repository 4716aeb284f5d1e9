/- Steps that are done to a disk, in plain mathematics: writes and flushes, up to the first that isn't done. -/
import Derived.Test.YtnafalkcgghjgaaGreatDoorM
namespace Go.Proofs.YtnafalkcgghjgaaGreatDoor
/-- A step: a write, or a flush (none). -/
abbrev Stp := Option Wt
def doS (D : Dk) : Stp → Dk
  | some q => D.wrote q.1 q.2
  | none => D.settled fun _ => true
def runS : Dk → List Stp → Dk
  | D, [] => D
  | D, s :: l => if D.up then runS (doS D s) l else D
def codeS : Dk → List Stp → Nat
  | _, [] => 0
  | D, s :: l => if D.up then codeS (doS D s) l else 10
theorem codeS_or (D : Dk) (l : List Stp) : codeS D l = 0 ∨ codeS D l = 10 := by
  induction l generalizing D with
  | nil => exact .inl rfl
  | cons s l ih =>
    simp only [codeS]
    split
    · exact ih _
    · exact .inr rfl
theorem codeS_app (D : Dk) (a b : List Stp) : codeS D (a ++ b) = if codeS D a = 0 then codeS (runS D a) b else 10 := by
  induction a generalizing D with
  | nil => simp [codeS, runS]
  | cons s l ih =>
    simp only [List.cons_append, codeS, runS]
    by_cases h : D.up = true
    · simp only [h, if_true]; exact ih _
    · simp [h]
theorem runS_app (D : Dk) (a b : List Stp) : runS D (a ++ b) = if codeS D a = 0 then runS (runS D a) b else runS D a := by
  induction a generalizing D with
  | nil => simp [codeS, runS]
  | cons s l ih =>
    simp only [List.cons_append, codeS, runS]
    by_cases h : D.up = true
    · simp only [h, if_true]; exact ih _
    · simp [h]
theorem doS_len (D : Dk) (s : Stp) : (doS D s).kept.length = D.kept.length := by
  cases s with
  | none => exact upTo_len _ _ _ _
  | some q => rfl
theorem runS_len (D : Dk) (l : List Stp) : (runS D l).kept.length = D.kept.length := by
  induction l generalizing D with
  | nil => rfl
  | cons s l ih =>
    simp only [runS]
    split
    · rw [ih, doS_len]
    · rfl
theorem doS_writes (D : Dk) (s : Stp) : (doS D s).writes ≤ D.writes + 1 := by
  cases s with
  | none => exact Nat.le_succ _
  | some q => exact Nat.le_refl _
theorem runS_writes (D : Dk) (l : List Stp) : (runS D l).writes ≤ D.writes + l.length := by
  induction l generalizing D with
  | nil => exact Nat.le_refl _
  | cons s l ih =>
    simp only [runS, List.length_cons]
    split
    · have := ih (doS D s)
      have := doS_writes D s
      omega
    · omega
theorem doS_ok {D : Dk} (h : D.Ok) (s : Stp) (hs : ∀ q, s = some q → q.1 < D.kept.length) (hw : D.writes < 1000000) : (doS D s).Ok := by
  cases s with
  | none => exact h.settled _
  | some q => exact h.wrote _ _ (hs q rfl) hw
/-- Without a fuse nothing fails. -/
theorem runS_free (D : Dk) (l : List Stp) (hu : D.up = true) (hf : D.fuse = 0) : codeS D l = 0 ∧ (runS D l).up = true ∧ (runS D l).fuse = 0 := by
  induction l generalizing D with
  | nil => exact ⟨rfl, hu, hf⟩
  | cons s l ih =>
    simp only [codeS, runS, hu, if_true]
    apply ih
    · cases s with
      | none => exact hu
      | some q => simp [doS, Dk.wrote, hf]
    · cases s with
      | none => exact hf
      | some q => simp [doS, Dk.wrote, hf]
theorem runS_count (D : Dk) (l : List Stp) (hc : codeS D l = 0) : (runS D l).writes = D.writes + (l.filter Option.isSome).length := by
  induction l generalizing D with
  | nil => rfl
  | cons s l ih =>
    simp only [codeS, runS] at hc ⊢
    by_cases hu : D.up = true
    · simp only [hu, if_true] at hc ⊢
      rw [ih _ hc]
      cases s with
      | none => simp [doS, Dk.settled]
      | some q => simp [doS, Dk.wrote]; omega
    · simp [hu] at hc
/-- A page's four sectors. -/
def sec (s : ByteArray) (i : Nat) : ByteArray := s.extract (256 * i) (256 * i + 256)
theorem sec_size (s : ByteArray) (i : Nat) (hs : s.size = 1024) (hi : i < 4) : (sec s i).size = 256 := by
  simp only [sec, ByteArray.size_extract, hs]; omega
def laidW (a : Nat) (s : ByteArray) : List Wt := [(a, sec s 0), (a + 1, sec s 1), (a + 2, sec s 2), (a + 3, sec s 3)]
def laidL (a : Nat) (s : ByteArray) : List Stp := (laidW a s).map some
/-- A change: a page, and its bytes. -/
abbrev Chg := Nat × ByteArray
def layW (first : Nat) (l : List Chg) : List Wt := l.flatMap fun c => laidW (first + 4 * c.1) c.2
def layL (first : Nat) (l : List Chg) : List Stp := (layW first l).map some ++ [none]
def nought0 : ByteArray := ⟨(List.replicate 256 0).toArray⟩
def markL (m : ByteArray) : List Stp := [some (0, m), none]
def finS (n : Nat) (l : List Chg) : List Stp := layL (1 + 4 * n) l ++ markL nought0
def commitS (n : Nat) (l : List Chg) (m : ByteArray) : List Stp := layL 1 l ++ (markL m ++ finS n l)
/-- A phase: writes, and a flush. -/
theorem phase_aux (D : Dk) (ws : List Wt) (hu : D.up = true) :
    (codeS D (ws.map some ++ [none]) = 0 ∧ (runS D (ws.map some ++ [none])).kept = over D.kept (D.waits ++ ws) ∧ (runS D (ws.map some ++ [none])).waits = [] ∧ (runS D (ws.map some ++ [none])).up = true) ∨
      (codeS D (ws.map some ++ [none]) = 10 ∧ (runS D (ws.map some ++ [none])).kept = D.kept ∧ (runS D (ws.map some ++ [none])).up = false ∧ ∃ j, (runS D (ws.map some ++ [none])).waits = D.waits ++ ws.take j) := by
  induction ws generalizing D with
  | nil =>
    left
    simp only [List.map_nil, List.nil_append, codeS, runS, hu, if_true, doS, List.append_nil]
    exact ⟨trivial, upTo_all _ _ _ (fun _ _ => rfl), rfl, hu⟩
  | cons q ws ih =>
    simp only [List.map_cons, List.cons_append, codeS, runS, hu, if_true, doS]
    by_cases hv : (D.wrote q.1 q.2).up = true
    · rcases ih (D.wrote q.1 q.2) hv with ⟨h1, h2, h3, h4⟩ | ⟨h1, h2, h3, j, h4⟩
      · left
        refine ⟨h1, ?_, h3, h4⟩
        rw [h2]
        simp [Dk.wrote]
      · right
        refine ⟨h1, h2, h3, j + 1, ?_⟩
        rw [h4]
        simp [Dk.wrote]
    · right
      have hv' : (D.wrote q.1 q.2).up = false := by simpa using hv
      have e1 : ∀ l, l ≠ [] → codeS (D.wrote q.1 q.2) l = 10 ∧ runS (D.wrote q.1 q.2) l = D.wrote q.1 q.2 := by
        intro l hl
        cases l with
        | nil => exact absurd rfl hl
        | cons s l => simp [codeS, runS, hv']
      obtain ⟨e2, e3⟩ := e1 (ws.map some ++ [none]) (by simp)
      rw [e2, e3]
      exact ⟨rfl, rfl, hv', 1, by simp [Dk.wrote]⟩
theorem phase (D : Dk) (ws : List Wt) (hu : D.up = true) (hw : D.waits = []) :
    (codeS D (ws.map some ++ [none]) = 0 ∧ (runS D (ws.map some ++ [none])).kept = over D.kept ws ∧ (runS D (ws.map some ++ [none])).waits = [] ∧ (runS D (ws.map some ++ [none])).up = true) ∨
      (codeS D (ws.map some ++ [none]) = 10 ∧ (runS D (ws.map some ++ [none])).kept = D.kept ∧ (runS D (ws.map some ++ [none])).up = false ∧ ∃ j, (runS D (ws.map some ++ [none])).waits = ws.take j) := by
  have := phase_aux D ws hu
  simp only [hw, List.nil_append] at this
  exact this
end Go.Proofs.YtnafalkcgghjgaaGreatDoor
