/- What DiskFlushed wants. -/
import Derived.Test.YtdlmciicapigjaaR
namespace Go.Proofs.Ytdlmciicapigjaa
open Go.RowKit Go.Shelf
theorem HasX.poke {w0 w : World} {X : Nat → Prop} {g : Nat} {D : Dk} (h : HasX w0 X w g D) (b i : Nat) (v : Value) (hb : X b) : HasX w0 X (w.setCell ⟨b, i, none⟩ v) g D := by
  obtain ⟨h0, hX, S, hd, hS⟩ := h
  have hbb := Below.setCell (Below.refl b w) (p := ⟨b, i, none⟩) (Nat.le_refl _) v
  refine ⟨h0.setCell (hX b hb).2 v, fun x hx => ⟨Nat.lt_of_lt_of_le (hX x hx).1 hbb.size, (hX x hx).2⟩, S, hd.keep (fun x hx => ?_), hS⟩
  exact heap_setCell_other _ _ _ _ (fun e => (hS x hx).2 (by rw [e]; exact hb))
theorem HasX.drew {w0 w : World} {X : Nat → Prop} {g : Nat} {D : Dk} (h : HasX w0 X w g D) : HasX w0 X w.drew g D := (h.below (Below.refl _ w).drew).1
theorem Has.x {w0 w w' : World} {g : Nat} {D : Dk} (h : Has w0 w g D) (hb : Below w.heap.size w w') (X : Nat → Prop) (hX : ∀ x, X x → w.heap.size ≤ x ∧ x < w'.heap.size) : HasX w0 X w' g D := by
  obtain ⟨h0, S, hd, hS⟩ := h
  exact ⟨h0.trans (hb.mono h0.size), fun x hx => ⟨(hX x hx).2, Nat.le_trans h0.size (hX x hx).1⟩, S, hd.below hb, fun x hx => ⟨hS x hx, fun e => by have := hd.bd x hx; have := (hX x e).1; omega⟩⟩
/-- Behind the writes since the flush: what was flushed is kept, and where writes wait is marked. -/
structure Later (D : Dk) (K : List ByteArray) (bs : List Bool) (k : Nat) : Prop where
  kept : D.kept = K
  up : D.up = true
  fu : D.fuse = 0
  wr : D.writes ≤ 60 + k
  bl : bs.length = K.length
  wt : ∀ q ∈ D.waits, bs.getD q.1 false = true
theorem wcode_zero {D : Dk} {a : Int} {s : ByteArray} (h : D.wcode a s = 0) : D.reach a = 0 ∧ s.size = 256 := by
  unfold Dk.wcode at h
  split at h
  · rename_i h1
    split at h
    · rename_i h2
      exact ⟨h1, h2⟩
    · omega
  · rename_i h1
    exact absurd h h1
theorem wput_other {D : Dk} {a : Int} {s : ByteArray} (h : ¬ D.wcode a s = 0) : D.wput a s = D := by
  unfold Dk.wput
  rw [if_neg]
  rintro ⟨h1, h2⟩
  exact h (by unfold Dk.wcode; rw [if_pos h1, if_pos h2])
theorem Later.other {D : Dk} {K : List ByteArray} {bs : List Bool} {k : Nat} (h : Later D K bs k) : Later D K bs (k + 1) := ⟨h.kept, h.up, h.fu, by have := h.wr; omega, h.bl, h.wt⟩
theorem Later.write {D : Dk} {K : List ByteArray} {bs : List Bool} {k : Nat} (h : Later D K bs k) (a : Nat) (s : ByteArray) (hc : D.wcode (a : Int) s = 0) : Later (D.wput (a : Int) s) K (bs.set a true) (k + 1) := by
  obtain ⟨h1, h2⟩ := wcode_zero hc
  obtain ⟨_, _, h3⟩ := reach_zero h1
  have e : D.wput (a : Int) s = D.wrote a s := by unfold Dk.wput; rw [if_pos ⟨h1, h2⟩]; rfl
  rw [e]
  have hb := h.bl
  refine ⟨h.kept, ?_, ?_, ?_, by simpa using h.bl, ?_⟩
  · show decide (D.fuse ≠ 1) = true
    rw [h.fu]; rfl
  · show D.fuse - 1 = 0
    rw [h.fu]
  · show D.writes + 1 ≤ _
    have := h.wr; omega
  · intro q hq
    have hq' : q ∈ D.waits ++ [(a, s)] := hq
    have hk := h.kept
    rw [List.mem_append, List.mem_singleton] at hq'
    simp only [List.getD_eq_getElem?_getD, List.getElem?_set]
    by_cases e : a = q.1
    · rw [if_pos e, if_pos (by rw [hb, ← hk]; omega)]
      rfl
    · rw [if_neg e, ← List.getD_eq_getElem?_getD]
      rcases hq' with hq' | rfl
      · exact h.wt q hq'
      · exact absurd rfl e
/-- A sector to which nothing was written since has what was flushed. -/
theorem Later.stays {D : Dk} {K : List ByteArray} {bs : List Bool} {k : Nat} (h : Later D K bs k) (p : Nat → Bool) (j : Nat) (hj : bs.getD j false = false) : ((D.failed p).started).seen.getD j ByteArray.empty = K.getD j ByteArray.empty := by
  show (upTo D.kept p D.waits D.waits.length).getD j _ = _
  rw [List.getD_eq_getElem?_getD, upTo_other _ _ _ _ (fun q hq e => by have := h.wt q hq; rw [e, hj] at this; cases this), h.kept, List.getD_eq_getElem?_getD]
theorem Later.size {D : Dk} {K : List ByteArray} {bs : List Bool} {k : Nat} (h : Later D K bs k) (p : Nat → Bool) : ((D.failed p).started).kept.length = K.length := by
  show (upTo D.kept p D.waits D.waits.length).length = _
  rw [upTo_len, h.kept]
end Go.Proofs.Ytdlmciicapigjaa
