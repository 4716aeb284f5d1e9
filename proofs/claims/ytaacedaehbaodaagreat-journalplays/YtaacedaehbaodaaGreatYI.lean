/- Between two steps of JournalPlays. -/
import Derived.Test.YtaacedaehbaodaaGreatYH
namespace Go.Proofs.YtaacedaehbaodaaGreat
open Go.RowKit Go.Shelf
def jn0 (g n : Nat) : Obj := .cells #[.pointer (some ⟨g, 0, none⟩), .int .i64 (n : Int)] 78 (0, 0)
def Pl (w0 : World) (n xb g jb lb lc : Nat) (wa : Option Addr) (wc : Nat) (D : Dk) (V : World) : Prop := ∃ S, St w0 n xb jb (jn0 g n) S g jb D lb lc wa wc D (rcells lb lc wa wc D) V
theorem St.pl {w0 : World} {n xb xo : Nat} {oo : Obj} {S : Nat → Prop} {g jb : Nat} {D : Dk} {lb lc : Nat} {wa : Option Addr} {wc : Nat} {V : World} (h : St w0 n xb xo oo S g jb D lb lc wa wc D (rcells lb lc wa wc D) V) : Pl w0 n xb g jb lb lc wa wc D V := ⟨S, h.re h.j h.sj h.jx⟩
theorem Pl.bl {w0 : World} {n xb g jb lb lc : Nat} {wa : Option Addr} {wc : Nat} {D : Dk} {V : World} (h : Pl w0 n xb g jb lb lc wa wc D V) : Below w0.heap.size w0 V := by
  obtain ⟨S, h⟩ := h
  exact h.bl
theorem Pl.st {w0 : World} {n xb g jb lb lc : Nat} {wa : Option Addr} {wc : Nat} {D : Dk} {V : World} (h : Pl w0 n xb g jb lb lc wa wc D V) (cs : Array Value) : ∃ S, St w0 n xb V.heap.size (.cells cs 41 (0, 0)) S g jb D lb lc wa wc D (rcells lb lc wa wc D) (V.alloc (.cells cs 41)) := by
  obtain ⟨S, h⟩ := h
  have hk := h.keep ((Below.refl _ V).alloc (Nat.le_refl _) (.cells cs 41))
  have e1 := lt_of_some h.hx
  refine ⟨S, hk.re (heap_alloc_new V _) (fun hs => ?_) (by omega)⟩
  have := h.d.bd _ hs
  omega
set_option linter.unusedVariables false in
theorem Pl.new {w w2 w3 W V5 : World} {g n lb lc : Nat} {D : Dk} {S' : Nat → Prop} (hb2 : Below w.heap.size w w2) (hlb : w2.heap.size ≤ lb) (hr : RefAt w3 lb lc none 0 D) (hb3 : Below w2.heap.size w2 w3) (hW : w3.alloc (.cells (rcells lb lc none 0 D) 32) = W)
    (hj : Jat V5 W.heap.size g n) (hd5 : DiskIs V5 S' g D) (hu : Upd (fresh w w2) W V5) (hs : ∀ x, S' x → fresh w w2 x ∨ W.heap.size ≤ x) (hns : ¬ S' W.heap.size) : Pl w n w3.heap.size g W.heap.size lb lc none 0 D V5 := by
  have s2 := hb2.size
  have s3 := hb3.size
  have sW : W.heap.size = w3.heap.size + 1 := by rw [← hW]; simp
  have hbW : Below w3.heap.size w3 W := by rw [← hW]; exact (Below.refl _ w3).alloc (Nat.le_refl _) _
  have hlt := hr.lt.1
  have hf : ∀ x, w2.heap.size ≤ x → ¬ fresh w w2 x := fun x hx h => by have := h.2; omega
  have hf' : ∀ x, w2.heap.size ≤ x → x < W.heap.size → ¬ S' x := fun x hx hx2 h => by
    rcases hs x h with h | h
    · exact hf x hx h
    · omega
  have hbw : Below w.heap.size w W := hb2.trans ((hb3.mono s2).trans (hbW.mono (by omega)))
  refine ⟨S', ⟨hbw.trans (hu.below (by omega) (fun k hk => hk.1)), hd5, ?_, hj, ?_, hj, ?_, by omega, hf' _ s3 (by omega), hns, hns, hf' _ hlb (by omega), (fun x hx => by cases hx), by omega, (fun x hx => by cases hx), by omega, by omega⟩⟩
  · exact (hr.below hbW).keep (hu.block _ (by omega) (hf _ hlb)) (fun x hx => by cases hx)
  · rw [hu.block _ (by omega) (hf _ s3), ← hW]
    exact heap_alloc_new w3 _
  · intro x hx
    rcases hs x hx with h | h
    · exact h.1
    · omega
end Go.Proofs.YtaacedaehbaodaaGreat
