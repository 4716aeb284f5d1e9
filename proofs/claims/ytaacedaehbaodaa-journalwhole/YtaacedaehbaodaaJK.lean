/- What the statements on failures want. -/
import Derived.Test.YtaacedaehbaodaaJP
import Derived.Test.YtaacedaehbaodaaJJ
namespace Go.Proofs.Ytaacedaehbaodaa
open Go.RowKit Go.Shelf
theorem Good.restart {n : Nat} {D : Dk} (h : Good n D) (p : Nat → Bool) : Good n ((D.failed p).started) ∧ ((D.failed p).started).kept = D.kept ∧ ((D.failed p).started).writes = D.writes := by
  have e : ((D.failed p).started).kept = D.kept := by
    show upTo D.kept p D.waits D.waits.length = D.kept
    rw [h.wt]
    rfl
  refine ⟨⟨rfl, rfl, rfl, by rw [e]; exact h.ln, (h.sz.failed p).started, by rw [e]; exact h.td⟩, e, rfl⟩
theorem Ss.mut {w w' : World} {S : Nat → Prop} {g : Nat} {D : Dk} {a : Option Addr} {len cap : Nat} {l : List ByteArray} (h : Ss w a len cap l) (m : Mut S w g D w') (hn : ∀ x, ob a = some x → ¬ S x) : Ss w' a len cap l := h.keep m.size fun x hx hl => m.block hl (hn x hx)
theorem Ss.lt {w : World} {a : Option Addr} {len cap : Nat} {l : List ByteArray} (h : Ss w a len cap l) (h0 : 0 < len) : ∀ x, ob a = some x → x < w.heap.size := by
  obtain ⟨b, o, rfl, hb, _⟩ := h.2.2.2 h0
  intro x hx
  cases hx
  exact hb
/-- A store, and beside it a slice of strings of the statement's own. -/
structure Kept (w0 w : World) (S : Nat → Prop) (g : Nat) (D : Dk) (a : Option Addr) (len cap : Nat) (l : List ByteArray) : Prop where
  bl : Below w0.heap.size w0 w
  d : DiskIs w S g D
  s0 : ∀ x, S x → w0.heap.size ≤ x
  r : Ss w a len cap l
  nr : ∀ x, ob a = some x → ¬ S x
theorem Kept.below {w0 w w' : World} {S : Nat → Prop} {g : Nat} {D : Dk} {a : Option Addr} {len cap : Nat} {l : List ByteArray} (h : Kept w0 w S g D a len cap l) (hb : Below w.heap.size w w') : Kept w0 w' S g D a len cap l :=
  ⟨h.bl.trans (hb.mono h.bl.size), h.d.below hb, h.s0, h.r.below hb, h.nr⟩
theorem Kept.turn {w0 w w' : World} {S S' : Nat → Prop} {g : Nat} {D D' : Dk} {a : Option Addr} {len cap : Nat} {l : List ByteArray} (h : Kept w0 w S g D a len cap l) (h0 : 0 < len) (hd : DiskIs w' S' g D') (hu : Upd S w w') (hs : ∀ x, S' x → S x ∨ w.heap.size ≤ x) : Kept w0 w' S' g D' a len cap l := by
  have hlt := h.r.lt h0
  exact ⟨h.bl.trans (hu.below h.bl.size h.s0), hd, fun x hx => (hs x hx).elim (h.s0 x) (fun k => Nat.le_trans h.bl.size k), h.r.keep hu.size (fun x hx hl => hu.block x hl (h.nr x hx)), fun x hx hS => (hs x hS).elim (h.nr x hx) (fun k => by have := hlt x hx; omega)⟩
theorem Kept.mut {w0 w w' : World} {S : Nat → Prop} {g : Nat} {D D' : Dk} {a : Option Addr} {len cap : Nat} {l : List ByteArray} (h : Kept w0 w S g D a len cap l) (h0 : 0 < len) (m : Mut S w g D' w') : ∃ S', Kept w0 w' S' g D' a len cap l := by
  obtain ⟨S', hd, hu, hs⟩ := m
  exact ⟨S', h.turn h0 hd hu hs⟩
end Go.Proofs.Ytaacedaehbaodaa
