/- A disk beside other memory of the statements' own. -/
import Derived.Test.YtdlmciicapigjaaQ
namespace Go.Proofs.Ytdlmciicapigjaa
open Go.RowKit Go.Shelf
/-- A call on a disk at S has made it D'; but for S nothing has turned; its blocks are those of S, and new ones. -/
def Mut (S : Nat → Prop) (w : World) (g : Nat) (D' : Dk) (w' : World) : Prop := ∃ S', DiskIs w' S' g D' ∧ Upd S w w' ∧ ∀ x, S' x → S x ∨ w.heap.size ≤ x
theorem Mut.same {S : Nat → Prop} {w : World} {g : Nat} {D : Dk} (h : DiskIs w S g D) : Mut S w g D w := ⟨S, h, Upd.refl _ _, fun _ h => .inl h⟩
theorem write_m {S : Nat → Prop} {w : World} {g : Nat} {D : Dk} (h : DiskIs w S g D) (a : Int) (s : ByteArray) (hw : D.writes < 1000000) : Calls Try.prog 11 #[.pointer (some ⟨g, 0, none⟩), .int .i64 a, .string s] w fun e w' => e = .returned (.int .i64 (D.wcode a s : Int)) ∧ Mut S w g (D.wput a s) w' := by
  unfold Dk.wcode Dk.wput
  by_cases hr : D.reach a = 0
  · rw [if_pos hr]
    by_cases hs : s.size = 256
    · rw [if_pos hs, if_pos ⟨hr, hs⟩]
      obtain ⟨hu, h0, h1⟩ := reach_zero hr
      obtain ⟨n, rfl⟩ := Int.eq_ofNat_of_zero_le h0
      refine (write_any h n s hu (by omega) hs hw).mono ?_
      rintro e w' ⟨rfl, hd, hup⟩
      exact ⟨rfl, _, hd, hup, fun x hx => hx.imp id (fun h => h.1)⟩
    · rw [if_neg hs, if_neg (fun e => hs e.2)]
      refine (write_short h a s hr hs).mono ?_
      rintro e w' ⟨rfl, hw'⟩
      subst w'
      exact ⟨rfl, Mut.same h⟩
  · rw [if_neg hr, if_neg (fun e => hr e.1)]
    refine (write_bad h a s hr).mono ?_
    rintro e w' ⟨rfl, hw'⟩
    subst w'
    exact ⟨rfl, Mut.same h⟩
theorem flush_m {S : Nat → Prop} {w : World} {g : Nat} {D : Dk} (h : DiskIs w S g D) : Calls Try.prog 12 #[.pointer (some ⟨g, 0, none⟩)] w fun e w' => e = .returned (.int .i64 (D.off : Int)) ∧ Mut S w g (if D.up then D.settled fun _ => true else D) w' := by
  unfold Dk.off
  cases hu : D.up
  · refine (flush_down h hu).mono ?_
    rintro e w' ⟨rfl, hw'⟩
    subst w'
    exact ⟨rfl, Mut.same h⟩
  · refine (flush_any h hu).mono ?_
    rintro e w' ⟨rfl, hd, hup⟩
    exact ⟨rfl, _, hd, hup, fun x hx => .inl hx⟩
theorem start_m {S : Nat → Prop} {w : World} {g : Nat} {D : Dk} (h : DiskIs w S g D) (hu : D.up = false) (hw : D.waits = []) : Calls Try.prog 14 #[.pointer (some ⟨g, 0, none⟩)] w fun e w' => e = .returned (.int .i64 0) ∧ Mut S w g D.started w' := by
  refine (start_any h hu hw).mono ?_
  rintro e w' ⟨rfl, hd, hup⟩
  exact ⟨rfl, _, hd, hup, fun x hx => .inl hx⟩
theorem fail_m {S : Nat → Prop} {w0 w : World} {g : Nat} {D : Dk} (h : DiskIs w S g D) (a : Option Addr) (len cap : Nat) (bs : List Bool) (hb : Bls w0 a len cap bs) (h0 : Below w0.heap.size w0 w) (hS : ∀ x, S x → w0.heap.size ≤ x) :
    Calls Try.prog 10 #[.pointer (some ⟨g, 0, none⟩), .slice a len cap] w fun e w' => e = .returned (.tuple #[]) ∧ Mut S w g (D.failed (pickOf bs)) w' := by
  refine (fail_picks h a len cap bs hb h0 hS).mono ?_
  rintro e w' ⟨rfl, hd, hup⟩
  exact ⟨rfl, _, hd, hup, fun x hx => .inl hx⟩
/-- A disk that was made since w0, apart from the blocks X. -/
def HasX (w0 : World) (X : Nat → Prop) (w : World) (g : Nat) (D : Dk) : Prop := Below w0.heap.size w0 w ∧ (∀ x, X x → x < w.heap.size ∧ w0.heap.size ≤ x) ∧ ∃ S, DiskIs w S g D ∧ ∀ x, S x → w0.heap.size ≤ x ∧ ¬ X x
theorem HasX.mut {w0 w w' : World} {X S : Nat → Prop} {g : Nat} {D' : Dk} (h0 : Below w0.heap.size w0 w) (hX : ∀ x, X x → x < w.heap.size ∧ w0.heap.size ≤ x) (hS : ∀ x, S x → w0.heap.size ≤ x ∧ ¬ X x) (m : Mut S w g D' w') : HasX w0 X w' g D' ∧ ∀ x, X x → w'.heap[x]? = w.heap[x]? := by
  obtain ⟨S', hd, hu, hs⟩ := m
  refine ⟨⟨h0.trans (hu.below h0.size (fun x hx => (hS x hx).1)), fun x hx => ⟨Nat.lt_of_lt_of_le (hX x hx).1 hu.size, (hX x hx).2⟩, S', hd, fun x hx => ?_⟩, fun x hx => hu.block x (hX x hx).1 (fun s => (hS x s).2 hx)⟩
  rcases hs x hx with h | h
  · exact hS x h
  · exact ⟨Nat.le_trans h0.size h, fun hx' => by have := (hX x hx').1; omega⟩
theorem HasX.below {w0 w w' : World} {X : Nat → Prop} {g : Nat} {D : Dk} (h : HasX w0 X w g D) (hb : Below w.heap.size w w') : HasX w0 X w' g D ∧ ∀ x, X x → w'.heap[x]? = w.heap[x]? := by
  obtain ⟨h0, hX, S, hd, hS⟩ := h
  exact ⟨⟨h0.trans (hb.mono h0.size), fun x hx => ⟨Nat.lt_of_lt_of_le (hX x hx).1 hb.size, (hX x hx).2⟩, S, hd.below hb, hS⟩, fun x hx => hb.block x (hX x hx).1⟩
theorem write_x {w0 w : World} {X : Nat → Prop} {g : Nat} {D : Dk} (h : HasX w0 X w g D) (a : Int) (s : ByteArray) (hw : D.writes < 1000000) : Calls Try.prog 11 #[.pointer (some ⟨g, 0, none⟩), .int .i64 a, .string s] w fun e w' => e = .returned (.int .i64 (D.wcode a s : Int)) ∧ HasX w0 X w' g (D.wput a s) ∧ ∀ x, X x → w'.heap[x]? = w.heap[x]? := by
  obtain ⟨h0, hX, S, hd, hS⟩ := h
  refine (write_m hd a s hw).mono ?_
  rintro e w' ⟨rfl, m⟩
  exact ⟨rfl, HasX.mut h0 hX hS m⟩
theorem fail_x {w0 w : World} {X : Nat → Prop} {g : Nat} {D : Dk} (h : HasX w0 X w g D) (a : Option Addr) (len cap : Nat) (bs : List Bool) (hb : Bls w0 a len cap bs) : Calls Try.prog 10 #[.pointer (some ⟨g, 0, none⟩), .slice a len cap] w fun e w' => e = .returned (.tuple #[]) ∧ HasX w0 X w' g (D.failed (pickOf bs)) ∧ ∀ x, X x → w'.heap[x]? = w.heap[x]? := by
  obtain ⟨h0, hX, S, hd, hS⟩ := h
  refine (fail_m hd a len cap bs hb h0 (fun x hx => (hS x hx).1)).mono ?_
  rintro e w' ⟨rfl, m⟩
  exact ⟨rfl, HasX.mut h0 hX hS m⟩
theorem start_x {w0 w : World} {X : Nat → Prop} {g : Nat} {D : Dk} (h : HasX w0 X w g D) (hu : D.up = false) (hw : D.waits = []) : Calls Try.prog 14 #[.pointer (some ⟨g, 0, none⟩)] w fun e w' => e = .returned (.int .i64 0) ∧ HasX w0 X w' g D.started ∧ ∀ x, X x → w'.heap[x]? = w.heap[x]? := by
  obtain ⟨h0, hX, S, hd, hS⟩ := h
  refine (start_m hd hu hw).mono ?_
  rintro e w' ⟨rfl, m⟩
  exact ⟨rfl, HasX.mut h0 hX hS m⟩
theorem up_x {w0 w : World} {X : Nat → Prop} {g : Nat} {D : Dk} (h : HasX w0 X w g D) : Calls Try.prog 18 #[.pointer (some ⟨g, 0, none⟩)] w fun e w' => e = .returned (.bool D.up) ∧ w' = w := by
  obtain ⟨_, _, S, h, _⟩ := h
  exact up_any h
theorem waits_x {w0 w : World} {X : Nat → Prop} {g : Nat} {D : Dk} (h : HasX w0 X w g D) : Calls Try.prog 16 #[.pointer (some ⟨g, 0, none⟩)] w fun e w' => e = .returned (.int .i64 (D.waits.length : Int)) ∧ w' = w := by
  obtain ⟨_, _, S, h, _⟩ := h
  exact waits_any h
theorem all_x {w0 w : World} {X : Nat → Prop} {g : Nat} {D : Dk} (h : HasX w0 X w g D) (hu : D.up = true) :
    Calls Try.prog 26 #[.pointer (some ⟨g, 0, none⟩)] w fun e w' => ∃ a cap, e = .returned (.slice (some ⟨a, 0, none⟩) D.kept.length cap) ∧ w.heap.size ≤ a ∧ w'.ownsRow 0 9 1 (.slice (some ⟨a, 0, none⟩) D.kept.length cap) D.kept.length (strsV D.seen) ∧ Below w.heap.size w w' := by
  obtain ⟨_, _, S, h, _⟩ := h
  exact all_any' h hu
theorem all_h {w0 w : World} {g : Nat} {D : Dk} (h : Has w0 w g D) (hu : D.up = true) :
    Calls Try.prog 26 #[.pointer (some ⟨g, 0, none⟩)] w fun e w' => ∃ a cap, e = .returned (.slice (some ⟨a, 0, none⟩) D.kept.length cap) ∧ w.heap.size ≤ a ∧ w'.ownsRow 0 9 1 (.slice (some ⟨a, 0, none⟩) D.kept.length cap) D.kept.length (strsV D.seen) ∧ Below w.heap.size w w' := by
  obtain ⟨_, S, h, _⟩ := h
  exact all_any' h hu
/-- A row of bools. -/
def blsV (bs : List Bool) : Array Value := (bs.map fun b => Value.bool b).toArray
theorem blsV_made (n : Nat) : madeCells #[Value.bool false] n = blsV (List.replicate n false) := by
  apply Array.ext
  · simp [madeCells, blsV]
  · intro i h1 h2
    simp [madeCells, blsV, Nat.mod_one]
theorem blsV_set (bs : List Bool) (i : Nat) (b : Bool) : (blsV bs).setIfInBounds i (.bool b) = blsV (bs.set i b) := by
  simp [blsV, List.map_set]
theorem blsV_get (bs : List Bool) (i : Nat) (h : i < bs.length) : (blsV bs)[i]? = some (.bool (bs.getD i false)) := by
  simp [blsV, List.getElem?_eq_getElem h]
theorem make_bls (w : World) (n : Nat) (hn : n ≤ 1000000) : (Instr.makeSlice 44 (.int .i64 (n : Int)) (.int .i64 (n : Int))).run Try.prog w = .ok (.slice (some ⟨w.heap.size, 0, none⟩) n n) (w.alloc (.cells (blsV (List.replicate n false)) 4)) := by
  have := run_make (P := Try.prog) w 44 4 _ (.bool false) Try.underlying44 rfl rfl .i64 .i64 (n : Int) (n : Int) (by omega) (by omega) (by show (1 : Int) * _ ≤ _; omega) (by omega)
  rw [this, show (n : Int).toNat = n by omega, ← blsV_made, show Try.prog.types[4].size = 1 from rfl, Nat.mul_one]
  rfl
theorem own_str {W : World} {a n cap : Nat} {l : List ByteArray} (h : W.ownsRow 0 9 1 (.slice (some ⟨a, 0, none⟩) n cap) n (strsV l)) (i : Nat) (hi : i < n) : W.cell? ⟨a, i, none⟩ = some (.string (l.getD i ByteArray.empty)) := by
  have hl : l.length = n := by have := h.1; simpa [strsV] using this
  exact own_at h (by rw [strsV_at, List.getD_eq_getElem?_getD, List.getElem?_eq_getElem (by omega)]; rfl)
end Go.Proofs.Ytdlmciicapigjaa
