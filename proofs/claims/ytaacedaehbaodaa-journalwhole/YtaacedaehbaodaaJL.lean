/- What the statement on refusals wants: two stores, and the changes turned round. -/
import Derived.Test.YtaacedaehbaodaaJK
namespace Go.Proofs.Ytaacedaehbaodaa
open Go.RowKit Go.Shelf
structure Two (w0 w : World) (S : Nat → Prop) (g jb : Nat) (D : Dk) (T : Nat → Prop) (c kb : Nat) (C : Dk) (n : Nat) : Prop where
  a : Own1 w0 w S g jb n D
  b : Own1 w0 w T c kb n C
  dis : ∀ x, S x → ¬ T x
  nj : ¬ T jb
  nk : ¬ S kb
theorem Two.below {w0 w w' : World} {S : Nat → Prop} {g jb : Nat} {D : Dk} {T : Nat → Prop} {c kb : Nat} {C : Dk} {n : Nat} (h : Two w0 w S g jb D T c kb C n) (hb : Below w.heap.size w w') : Two w0 w' S g jb D T c kb C n :=
  ⟨h.a.below hb, h.b.below hb, h.dis, h.nj, h.nk⟩
theorem Two.onA {w0 w w' : World} {S : Nat → Prop} {g jb : Nat} {D D' : Dk} {T : Nat → Prop} {c kb : Nat} {C : Dk} {n : Nat} (h : Two w0 w S g jb D T c kb C n) (m : Mut S w g D' w') : ∃ S', Two w0 w' S' g jb D' T c kb C n ∧ Upd S w w' := by
  obtain ⟨S', ha, hs, hu⟩ := h.a.mut m
  have hT := h.b.d.bd
  exact ⟨S', ⟨ha, ⟨ha.bl, h.b.d.upd hu (fun x hx hs' => h.dis x hs' hx), h.b.j.upd hu h.nk, h.b.nj, h.b.s0, h.b.j0⟩, fun x hx ht => (hs x hx).elim (fun k => h.dis x k ht) (fun k => by have := hT x ht; omega), h.nj, fun hx => (hs _ hx).elim h.nk (fun k => by have := h.b.j.lt; omega)⟩, hu⟩
theorem Two.onB {w0 w w' : World} {S : Nat → Prop} {g jb : Nat} {D : Dk} {T : Nat → Prop} {c kb : Nat} {C C' : Dk} {n : Nat} (h : Two w0 w S g jb D T c kb C n) (m : Mut T w c C' w') : ∃ T', Two w0 w' S g jb D T' c kb C' n := by
  obtain ⟨T', hb, hs, hu⟩ := h.b.mut m
  have hS := h.a.d.bd
  exact ⟨T', ⟨hb.bl, h.a.d.upd hu (fun x hx hs' => h.dis x hx hs'), h.a.j.upd hu h.nj, h.a.nj, h.a.s0, h.a.j0⟩, hb, fun x hx ht => (hs x ht).elim (fun k => h.dis x hx k) (fun k => by have := hS x hx; omega), fun hx => (hs _ hx).elim h.nj (fun k => by have := h.a.j.lt; omega), h.nk⟩
theorem chk_reverse (n : Nat) (l : List Chi) : chk n l.reverse = 0 ↔ chk n l = 0 := by
  have key : ∀ l : List Chi, chk n l = 0 → chk n l.reverse = 0 := by
    intro l h
    obtain ⟨h1, h2, h3⟩ := chk_zero h
    refine chk_ok (fun c hc => h1 c (List.mem_reverse.1 hc)) ?_ (fun c hc => h3 c (List.mem_reverse.1 hc))
    rw [List.map_reverse]
    exact List.Pairwise.perm h2 (List.reverse_perm _).symm (fun h => Ne.symm h)
  constructor
  · intro h
    have := key _ h
    rwa [List.reverse_reverse] at this
  · exact key l
theorem srtC_reverse {n : Nat} {l : List Chi} (h : chk n l = 0) : srtC l.reverse = srtC l := by
  obtain ⟨h1, h2, _⟩ := chk_zero h
  refine srtC_unique h1 h2 ?_ (srtC_sorted _)
  exact (srtC_perm _).trans ((List.reverse_perm l).map natC)
/-- The pages behind a commit to a whole store. -/
theorem com_pages {n : Nat} {D : Dk} (h : Good n D) (hn : n ≤ 128) (l : List Chi) (hck : chk n l = 0) : pgs n (comDisk n D l).kept = (List.range n).map (pgP (newP (ownP n D.kept) (srtC l))) := by
  obtain ⟨_, h2, _, h4⟩ := h.commit hn l
  unfold pgs
  refine List.map_congr_left (fun i hi => page_rec (h4 hck) h2.td i (by simpa using hi))
theorem com_writes {n : Nat} {D : Dk} (h : Good n D) (l : List Chi) (hck : chk n l = 0) : (comDisk n D l).writes = D.writes + (if l = [] then 0 else 8 * l.length + 2) := by
  unfold comDisk
  rw [if_pos ⟨hck, h.up⟩, runS_count _ _ (runS_free _ _ h.up h.fu).1]
  congr 1
  unfold comSteps
  split
  · rfl
  · rw [count_commit, srtC_len]
theorem Ci.mut {w w' : World} {S : Nat → Prop} {a : Option Addr} {len cap : Nat} {l : List Chi} (h : Ci w a len cap l) (hu : Upd S w w') (hn : ∀ x, ob a = some x → ¬ S x) : Ci w' a len cap l := h.keep hu.size fun x hx hl => hu.block x hl (hn x hx)
theorem drop_rev (l : List Chi) (q : Nat) (h : q < l.length) : (l.drop q).reverse = (l.drop (q + 1)).reverse ++ [l[q]] := by
  rw [List.drop_eq_getElem_cons h, List.reverse_cons]
theorem Ps.nil (w : World) : Ps w none 0 0 [] := ⟨rfl, Nat.le_refl _, by omega, by omega⟩
end Go.Proofs.Ytaacedaehbaodaa
