/- Walks over New and the statements' filled. Steps that are done to a disk, in plain mathematics: writes and flushes, up to the first that isn't done. -/
import Derived.Test.YtnafalkcgghjgaaGreatDoorI
import Derived.Test.YtnafalkcgghjgaaGreatDoorA
namespace Go.Proofs.YtnafalkcgghjgaaGreatDoor
open Go.RowKit Go.Shelf
/-- The blocks that were made since. -/
def fresh (w w' : World) : Nat → Prop := fun x => w.heap.size ≤ x ∧ x < w'.heap.size
/-- A sector of noughts. -/
def nought : ByteArray := strOf (List.replicate 256 0)
theorem nought_rep : (⟨(Lib.repeatL (⟨#[0]⟩ : ByteArray).data.toList 256).toArray⟩ : ByteArray) = nought := by
  have e : Lib.repeatL [(0 : UInt8)] 256 = List.replicate 256 0 := by decide +kernel
  show (⟨(Lib.repeatL [0] 256).toArray⟩ : ByteArray) = _
  rw [e]; rfl
set_option maxHeartbeats 400000 in
theorem new_bad (x : Int) (w : World) (h : x < 1 ∨ 2048 < x) : Calls Tryz.prog 35 #[.int .i64 x] w fun e w' => e = .returned (.tuple #[.pointer none, .int .i64 1]) ∧ w' = w := by
  by_cases h1 : x < 1
  · clear h
    go_enter Tryz.func35, Tryz.ntmps35
    go_wp2
    go_ret2
    exact ⟨rfl, rfl⟩
  · have h2 : 2048 < x := by omega
    clear h
    go_enter Tryz.func35, Tryz.ntmps35
    go_wp2
    go_ret2
    exact ⟨rfl, rfl⟩
theorem own_rowV (W : World) (g : Nat) (z : ByteArray) (n : Nat) (h : W.heap[g]? = some (.cells (rowV z n n) 9 (0, 0))) (hn : n ≤ 2048) : W.ownsRow 0 9 1 (.slice (some ⟨g, 0, none⟩) n n) n (strsV (List.replicate n z)) := by
  refine ⟨by simp [strsV], .inr ⟨g, n, rowV z n n, rfl, Nat.zero_le _, h, Nat.le_refl _, by unfold maxLen; omega, by rw [rowV_size z n n (Nat.le_refl _)]; omega, ?_⟩⟩
  simp [rowV, strsV]
set_option maxRecDepth 100000 in
set_option maxHeartbeats 1000000 in
theorem new_any (n : Nat) (w : World) (h1 : 1 ≤ n) (h2 : n ≤ 2048) :
    Calls Tryz.prog 35 #[.int .i64 (n : Int)] w fun e w' => ∃ g, e = .returned (.tuple #[.pointer (some ⟨g, 0, none⟩), .int .i64 0]) ∧ DiskIs w' (fresh w w') g (Dk.new n nought) ∧ Below w.heap.size w w' := by
  have k1 : ¬ (n : Int) < 1 := by omega
  have k2 : ¬ (2048 : Int) < (n : Int) := by omega
  have HR := Tryz.strings_Repeat ⟨#[0]⟩ 256 w (by omega) (by decide)
  rw [nought_rep] at HR
  generalize hz : nought = z at HR ⊢
  clear hz
  go_enter Tryz.func35, Tryz.ntmps35
  go_wp2_with fail
  refine HR.mono ?_
  rintro e w1 ⟨rfl, hb1⟩
  clear HR
  obtain ⟨b, hb⟩ : ∃ b, w1.heap.size = b := ⟨_, rfl⟩
  obtain ⟨W2, hW2⟩ : ∃ W2, w1.alloc (.cells #[.string z] 9) = W2 := ⟨_, rfl⟩
  have hB2 : Below w.heap.size w W2 := by rw [← hW2]; exact hb1.alloc hb1.size _
  have HRP := repeat_any b z n W2 h1 h2 (by rw [← hW2, ← hb, cell_of_row _ w1.heap.size _ _ _ _ (heap_alloc_new w1 _)]; rfl)
  obtain ⟨c, hc⟩ : ∃ c, W2.heap.size = c := ⟨_, rfl⟩
  rw [hc] at HRP
  go_wp2_with fail
  refine HRP.mono ?_
  rintro e w3 ⟨rfl, hr3, hb3⟩
  have ho3 := own_rowV w3 c z n hr3 h2
  have HCS := cloneS_any c n n (List.replicate n z) w3 ho3 (by omega)
  have hB3 : Below w.heap.size w w3 := hB2.trans (hb3.mono (by rw [← hc]; exact hB2.size))
  have hcl : c < w3.heap.size := lt_of_some hr3
  clear HRP
  go_wp2_with fail
  refine HCS.mono ?_
  rintro e w4 ⟨g2, k2', rfl, hg2, ho4, hb4⟩
  have ho3' : w4.ownsRow 0 9 1 (.slice (some ⟨c, 0, none⟩) n n) n (strsV (List.replicate n z)) := own_keep ho3 (fun x hx => by rw [ob_slice] at hx; cases hx; exact hb4.block c hcl)
  have hB4 : Below w.heap.size w w4 := hB3.trans (hb4.mono hB3.size)
  have hl2 := (ho4.lt g2 rfl).2
  have hwc : w.heap.size ≤ c := by rw [← hc]; exact hB2.size
  have HF : Hid (∀ W5, W5 = w4.alloc (.cells #[.slice (some ⟨c, 0, none⟩) n n, .slice (some ⟨g2, 0, none⟩) n k2', .slice none 0 0, .int .i64 0, .int .i64 0, .bool true] 97) → DiskIs W5 (fresh w W5) w4.heap.size (Dk.new n z) ∧ Below w.heap.size w W5) := by
    rintro W5 rfl
    have hs : (w4.alloc (.cells #[.slice (some ⟨c, 0, none⟩) n n, .slice (some ⟨g2, 0, none⟩) n k2', .slice none 0 0, .int .i64 0, .int .i64 0, .bool true] 97)).heap.size = w4.heap.size + 1 := by simp
    have hl : (Dk.new n z).kept.length = n := by simp [Dk.new]
    have h34 := hb4.size
    refine ⟨⟨c, n, g2, k2', none, 0, { ok := Dk.Ok.new n z h1 h2, c := ?_, k := ?_, s := ?_, q := World.ownsRow_nil _ _ _ _, kg := by omega, sg := by omega, ks := by omega, wg := (by intro x hx; cases hx), Sg := ?_, Sk := ?_, Ss := ?_, Sw := (by intro x hx; cases hx), bd := fun x hx => hx.2 }⟩, hB4.alloc hB4.size _⟩
    · rw [heap_alloc_new]
      unfold dcells
      rw [hl]
      rfl
    · rw [hl]; exact ho3'.alloc _
    · rw [hl]; exact ho4.alloc _
    · exact ⟨by have := hB4.size; omega, by rw [hs]; omega⟩
    · exact ⟨by omega, by rw [hs]; omega⟩
    · exact ⟨by have := hB3.size; omega, by rw [hs]; omega⟩
  clear HCS ho3 ho3' ho4 hb4 hb3 hB3 hB4 hr3
  go_wp2
  go_ret2
  exact ⟨w4.heap.size, rfl, HF.out _ rfl⟩
end Go.Proofs.YtnafalkcgghjgaaGreatDoor
namespace Go.Proofs.YtnafalkcgghjgaaGreatDoor
/-- A step: a write, or a flush (none). -/
abbrev Stp := Option Wt
def doS (D : Dk) : Stp → Dk
  | some q => D.wrote q.1 q.2
  | none => D.settled fun _ => true
def runS : Dk → List Stp → Dk
  | D, [] => D
  | D, s :: l => if D.up then runS (doS D s) l else D
def codeS : Dk → List Stp → Nat
  | _, [] => 0
  | D, s :: l => if D.up then codeS (doS D s) l else 10
theorem codeS_or (D : Dk) (l : List Stp) : codeS D l = 0 ∨ codeS D l = 10 := by
  induction l generalizing D with
  | nil => exact .inl rfl
  | cons s l ih =>
    simp only [codeS]
    split
    · exact ih _
    · exact .inr rfl
theorem codeS_app (D : Dk) (a b : List Stp) : codeS D (a ++ b) = if codeS D a = 0 then codeS (runS D a) b else 10 := by
  induction a generalizing D with
  | nil => simp [codeS, runS]
  | cons s l ih =>
    simp only [List.cons_append, codeS, runS]
    by_cases h : D.up = true
    · simp only [h, if_true]; exact ih _
    · simp [h]
theorem runS_app (D : Dk) (a b : List Stp) : runS D (a ++ b) = if codeS D a = 0 then runS (runS D a) b else runS D a := by
  induction a generalizing D with
  | nil => simp [codeS, runS]
  | cons s l ih =>
    simp only [List.cons_append, codeS, runS]
    by_cases h : D.up = true
    · simp only [h, if_true]; exact ih _
    · simp [h]
theorem doS_len (D : Dk) (s : Stp) : (doS D s).kept.length = D.kept.length := by
  cases s with
  | none => exact upTo_len _ _ _ _
  | some q => rfl
theorem runS_len (D : Dk) (l : List Stp) : (runS D l).kept.length = D.kept.length := by
  induction l generalizing D with
  | nil => rfl
  | cons s l ih =>
    simp only [runS]
    split
    · rw [ih, doS_len]
    · rfl
theorem doS_writes (D : Dk) (s : Stp) : (doS D s).writes ≤ D.writes + 1 := by
  cases s with
  | none => exact Nat.le_succ _
  | some q => exact Nat.le_refl _
theorem runS_writes (D : Dk) (l : List Stp) : (runS D l).writes ≤ D.writes + l.length := by
  induction l generalizing D with
  | nil => exact Nat.le_refl _
  | cons s l ih =>
    simp only [runS, List.length_cons]
    split
    · have := ih (doS D s)
      have := doS_writes D s
      omega
    · omega
theorem doS_ok {D : Dk} (h : D.Ok) (s : Stp) (hs : ∀ q, s = some q → q.1 < D.kept.length) (hw : D.writes < 1000000) : (doS D s).Ok := by
  cases s with
  | none => exact h.settled _
  | some q => exact h.wrote _ _ (hs q rfl) hw
/-- Without a fuse nothing fails. -/
theorem runS_free (D : Dk) (l : List Stp) (hu : D.up = true) (hf : D.fuse = 0) : codeS D l = 0 ∧ (runS D l).up = true ∧ (runS D l).fuse = 0 := by
  induction l generalizing D with
  | nil => exact ⟨rfl, hu, hf⟩
  | cons s l ih =>
    simp only [codeS, runS, hu, if_true]
    apply ih
    · cases s with
      | none => exact hu
      | some q => simp [doS, Dk.wrote, hf]
    · cases s with
      | none => exact hf
      | some q => simp [doS, Dk.wrote, hf]
theorem runS_count (D : Dk) (l : List Stp) (hc : codeS D l = 0) : (runS D l).writes = D.writes + (l.filter Option.isSome).length := by
  induction l generalizing D with
  | nil => rfl
  | cons s l ih =>
    simp only [codeS, runS] at hc ⊢
    by_cases hu : D.up = true
    · simp only [hu, if_true] at hc ⊢
      rw [ih _ hc]
      cases s with
      | none => simp [doS, Dk.settled]
      | some q => simp [doS, Dk.wrote]; omega
    · simp [hu] at hc
/-- A page's four sectors. -/
def sec (s : ByteArray) (i : Nat) : ByteArray := s.extract (256 * i) (256 * i + 256)
theorem sec_size (s : ByteArray) (i : Nat) (hs : s.size = 1024) (hi : i < 4) : (sec s i).size = 256 := by
  simp only [sec, ByteArray.size_extract, hs]; omega
def laidW (a : Nat) (s : ByteArray) : List Wt := [(a, sec s 0), (a + 1, sec s 1), (a + 2, sec s 2), (a + 3, sec s 3)]
def laidL (a : Nat) (s : ByteArray) : List Stp := (laidW a s).map some
/-- A change: a page, and its bytes. -/
abbrev Chg := Nat × ByteArray
def layW (first : Nat) (l : List Chg) : List Wt := l.flatMap fun c => laidW (first + 4 * c.1) c.2
def layL (first : Nat) (l : List Chg) : List Stp := (layW first l).map some ++ [none]
def nought0 : ByteArray := ⟨(List.replicate 256 0).toArray⟩
def markL (m : ByteArray) : List Stp := [some (0, m), none]
def finS (n : Nat) (l : List Chg) : List Stp := layL (1 + 4 * n) l ++ markL nought0
def commitS (n : Nat) (l : List Chg) (m : ByteArray) : List Stp := layL 1 l ++ (markL m ++ finS n l)
/-- A phase: writes, and a flush. -/
theorem phase_aux (D : Dk) (ws : List Wt) (hu : D.up = true) :
    (codeS D (ws.map some ++ [none]) = 0 ∧ (runS D (ws.map some ++ [none])).kept = over D.kept (D.waits ++ ws) ∧ (runS D (ws.map some ++ [none])).waits = [] ∧ (runS D (ws.map some ++ [none])).up = true) ∨
      (codeS D (ws.map some ++ [none]) = 10 ∧ (runS D (ws.map some ++ [none])).kept = D.kept ∧ (runS D (ws.map some ++ [none])).up = false ∧ ∃ j, (runS D (ws.map some ++ [none])).waits = D.waits ++ ws.take j) := by
  induction ws generalizing D with
  | nil =>
    left
    simp only [List.map_nil, List.nil_append, codeS, runS, hu, if_true, doS, List.append_nil]
    exact ⟨trivial, upTo_all _ _ _ (fun _ _ => rfl), rfl, hu⟩
  | cons q ws ih =>
    simp only [List.map_cons, List.cons_append, codeS, runS, hu, if_true, doS]
    by_cases hv : (D.wrote q.1 q.2).up = true
    · rcases ih (D.wrote q.1 q.2) hv with ⟨h1, h2, h3, h4⟩ | ⟨h1, h2, h3, j, h4⟩
      · left
        refine ⟨h1, ?_, h3, h4⟩
        rw [h2]
        simp [Dk.wrote]
      · right
        refine ⟨h1, h2, h3, j + 1, ?_⟩
        rw [h4]
        simp [Dk.wrote]
    · right
      have hv' : (D.wrote q.1 q.2).up = false := by simpa using hv
      have e1 : ∀ l, l ≠ [] → codeS (D.wrote q.1 q.2) l = 10 ∧ runS (D.wrote q.1 q.2) l = D.wrote q.1 q.2 := by
        intro l hl
        cases l with
        | nil => exact absurd rfl hl
        | cons s l => simp [codeS, runS, hv']
      obtain ⟨e2, e3⟩ := e1 (ws.map some ++ [none]) (by simp)
      rw [e2, e3]
      exact ⟨rfl, rfl, hv', 1, by simp [Dk.wrote]⟩
theorem phase (D : Dk) (ws : List Wt) (hu : D.up = true) (hw : D.waits = []) :
    (codeS D (ws.map some ++ [none]) = 0 ∧ (runS D (ws.map some ++ [none])).kept = over D.kept ws ∧ (runS D (ws.map some ++ [none])).waits = [] ∧ (runS D (ws.map some ++ [none])).up = true) ∨
      (codeS D (ws.map some ++ [none]) = 10 ∧ (runS D (ws.map some ++ [none])).kept = D.kept ∧ (runS D (ws.map some ++ [none])).up = false ∧ ∃ j, (runS D (ws.map some ++ [none])).waits = ws.take j) := by
  have := phase_aux D ws hu
  simp only [hw, List.nil_append] at this
  exact this
end Go.Proofs.YtnafalkcgghjgaaGreatDoor
