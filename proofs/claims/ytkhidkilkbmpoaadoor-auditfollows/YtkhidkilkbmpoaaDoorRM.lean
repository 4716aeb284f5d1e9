/- Audits that are handed on and boxed. One block that changes; entries whose kinds are turned in place. An audit beside all entries that there ever were. -/
import Derived.Test.YtkhidkilkbmpoaaDoorQH
import Derived.Test.YtkhidkilkbmpoaaDoorRJ
namespace Go.Proofs.YtkhidkilkbmpoaaDoor
open Go.RowKit
/-- A box that has an audit, with a word beside it. -/
def BxTo (t : TypeId) (V : World) (r : Au × Nat) (v e : Value) (wx : World) : Prop := ∃ (bb : Nat) (a : Option Addr) (n c : Nat), v = .pointer (some ⟨bb, 0, none⟩) ∧ e = .int .i64 (r.2 : Int) ∧ wx.heap[bb]? = some (.cells #[.string r.1.anchor, .int .i64 r.1.last, .slice a n c] t (0, 0)) ∧ Nw V.heap.size wx a n c r.1.ents ∧ Below V.heap.size V wx ∧ V.heap.size ≤ bb
/-- The box is filled. -/
theorem BxTo.fill {t : TypeId} {V U : World} {r : Au × Nat} {ub : Nat} {a : Option Addr} {n c : Nat} {x0 x1 x2 : Value} (hu : U.heap[ub]? = some (.cells #[x0, x1, x2] t (0, 0))) (hb : Below V.heap.size V U) (hub : V.heap.size ≤ ub) {G : Nat → Prop} (hr : Rw G U 36 5 a n c (enR r.1.ents)) (hG : ∀ x, G x → V.heap.size ≤ x ∧ x ≠ ub) :
    BxTo t V r (.pointer (some ⟨ub, 0, none⟩)) (.int .i64 (r.2 : Int)) (((U.setCell ⟨ub, 0, none⟩ (.string r.1.anchor)).setCell ⟨ub, 1, none⟩ (.int .i64 r.1.last)).setCell ⟨ub, 2, none⟩ (.slice a n c)) := by
  refine ⟨ub, a, n, c, rfl, rfl, set3 hu _ _ _, ?_, below3s hb hub _ _ _, hub⟩
  have h1 : Rw G (((U.setCell ⟨ub, 0, none⟩ (.string r.1.anchor)).setCell ⟨ub, 1, none⟩ (.int .i64 r.1.last)).setCell ⟨ub, 2, none⟩ (.slice a n c)) 36 5 a n c (enR r.1.ents) := Rw.keep (w := U) hr (below3s (Below.refl 0 U) (Nat.zero_le ub) _ _ _).size (fun b hb _ => other3s (hG b hb).2 _ _ _)
  exact Rw.mono h1 (fun x hx _ => (hG x hx).1)
end Go.Proofs.YtkhidkilkbmpoaaDoor
namespace Go.Proofs.YtkhidkilkbmpoaaDoor
open Go.RowKit
/-- Nothing but the block g was changed. -/
def Ex (g : Nat) (w w' : World) : Prop := Below 0 w w' ∧ ∀ k, k < w.heap.size → k ≠ g → w'.heap[k]? = w.heap[k]?
theorem Ex.refl (g : Nat) (w : World) : Ex g w w := ⟨Below.refl _ _, fun _ _ _ => rfl⟩
theorem Ex.trans {g : Nat} {a b c : World} (h1 : Ex g a b) (h2 : Ex g b c) : Ex g a c := ⟨h1.1.trans (h2.1.mono (Nat.zero_le _)), fun k hk hg => (h2.2 k (Nat.lt_of_lt_of_le hk h1.1.size) hg).trans (h1.2 k hk hg)⟩
theorem Ex.drew {g : Nat} {a b : World} (h : Ex g a b) : Ex g a b.drew := ⟨h.1.drew, h.2⟩
theorem Ex.set {g : Nat} {a b : World} (h : Ex g a b) (o : Nat) (v : Value) : Ex g a (b.setCell ⟨g, o, none⟩ v) := ⟨h.1.setCell (Nat.zero_le _) _, fun k hk hg => by rw [heap_setCell_other _ _ _ _ hg]; exact h.2 k hk hg⟩
theorem Ex.of {g : Nat} {a b : World} (h : Below a.heap.size a b) : Ex g a b := ⟨h.mono (Nat.zero_le _), fun k hk _ => h.block k hk⟩
theorem Ex.below {g B : Nat} {a b : World} (h : Ex g a b) (hB : B ≤ g) (hs : B ≤ a.heap.size) : Below B a b := ⟨h.1.os, h.1.tape, h.1.output, h.1.size, fun k hk => h.2 k (by omega) (by omega)⟩
theorem Ex.setHi {g c : Nat} {a b : World} (h : Ex g a b) (hc : a.heap.size ≤ c) (o : Nat) (v : Value) : Ex g a (b.setCell ⟨c, o, none⟩ v) := ⟨h.1.setCell (Nat.zero_le _) _, fun k hk hg => by rw [heap_setCell_other _ _ _ _ (by show k ≠ c; omega)]; exact h.2 k hk hg⟩
/-- Kinds that are turned. -/
def bumpK (d : Int) (e : En) : En := ⟨e.seq, e.time, e.kind + d, e.path, e.errno⟩
def bumpL (d : Int) (i : Nat) (l : List En) : List En := (l.take i).map (bumpK d) ++ l.drop i
theorem bump_zero (d : Int) (l : List En) : bumpL d 0 l = l := by simp [bumpL]
theorem bump_all (d : Int) {i : Nat} {l : List En} (h : l.length ≤ i) : bumpL d i l = l.map (bumpK d) := by
  unfold bumpL
  rw [List.take_of_length_le h, List.drop_eq_nil_of_le h, List.append_nil]
theorem bump_get (d : Int) {i : Nat} {l : List En} {e : En} (h : l[i]? = some e) : (bumpL d i l)[i]? = some e := by
  have hi := lt_of_get h
  unfold bumpL
  rw [List.getElem?_append_right (by simp; omega), List.length_map, List.length_take, Nat.min_eq_left (by omega), List.getElem?_drop, Nat.sub_self, Nat.add_zero]
  exact h
theorem bump_set (d : Int) {i : Nat} {l : List En} {e : En} (h : l[i]? = some e) : (bumpL d i l).set i (bumpK d e) = bumpL d (i + 1) l := by
  have hi := lt_of_get h
  unfold bumpL
  have hl : ((l.take i).map (bumpK d)).length = i := by rw [List.length_map, List.length_take]; omega
  rw [List.set_append_right _ _ (by omega), hl, Nat.sub_self, List.drop_eq_getElem_cons hi, List.set_cons_zero, take_snocK h, List.map_append, List.append_assoc]
  rfl
theorem bump_back (l : List En) : (l.map (bumpK 1)).map (bumpK (-1)) = l := by
  rw [List.map_map]
  have : bumpK (-1) ∘ bumpK 1 = id := by
    funext e
    obtain ⟨a, b, c, d, f⟩ := e
    simp only [Function.comp, bumpK, id, En.mk.injEq, true_and, and_true]
    omega
  rw [this, List.map_id]
theorem enR_set : ∀ (l : List En) (i : Nat) (e : En) (z : Int), l[i]? = some e → (enR l).set (i * 5 + 2) (.int .i64 z) = enR (l.set i ⟨e.seq, e.time, z, e.path, e.errno⟩)
  | [], i, e, z, h => by cases h
  | x :: l, 0, e, z, h => by
    obtain rfl : x = e := by simpa using h
    rfl
  | x :: l, i + 1, e, z, h => by
    have ih := enR_set l i e z (by simpa using h)
    have e1 : enR (x :: l) = enC x ++ enR l := rfl
    have e2 : enR ((x :: l).set (i + 1) ⟨e.seq, e.time, z, e.path, e.errno⟩) = enC x ++ enR (l.set i ⟨e.seq, e.time, z, e.path, e.errno⟩) := rfl
    rw [e1, e2, List.set_append_right _ _ (by rw [enC_len]; omega), enC_len, show (i + 1) * 5 + 2 - 5 = i * 5 + 2 by omega, ih]
theorem own_kind {w : World} {base g n c : Nat} {l : List En} {i : Nat} {e : En} (h : w.ownsRow base 36 5 (.slice (some ⟨g, 0, none⟩) n c) n (enR l)) (hi : l[i]? = some e) (z : Int) :
    (w.setCell ⟨g, i * 5 + 2, none⟩ (.int .i64 z)).ownsRow base 36 5 (.slice (some ⟨g, 0, none⟩) n c) n (enR (l.set i ⟨e.seq, e.time, z, e.path, e.errno⟩)) := by
  have hlen : (enR l).length = n * 5 := h.1
  have hil := lt_of_get hi
  have hl5 : l.length = n := by unfold enR at hlen; rw [fm_len enC_len] at hlen; omega
  rcases h.2 with ⟨e1, _⟩ | ⟨g', cap, cur, e1, hb, hg, h1, h2, h3, h4⟩
  · cases e1
  · cases e1
    refine ⟨?_, .inr ⟨g, c, _, rfl, hb, heap_setCell_same _ _ _ _ _ _ hg, h1, h2, by simpa using h3, ?_⟩⟩
    · rw [← enR_set l i e z hi, List.length_set]; exact hlen
    · rw [← enR_set l i e z hi, ← h4, Array.toList_setIfInBounds, List.take_set]
theorem own_fz {w : World} {base g n c : Nat} {xs : List Value} (h : w.ownsRow base 36 5 (.slice (some ⟨g, 0, none⟩) n c) n xs) (o : Nat) : w.frozen? ⟨g, o, none⟩ = false := by
  rcases h.2 with ⟨e1, _⟩ | ⟨g', cap, cur, e1, hb, hg, _⟩
  · cases e1
  · cases e1
    exact frozen_of_row w g o _ _ hg
end Go.Proofs.YtkhidkilkbmpoaaDoor
namespace Go.Proofs.YtkhidkilkbmpoaaDoor
open Go.RowKit
theorem ok_at {e : En} (h : e.ok = true) {n : Int} (h1 : 1 ≤ n) (h2 : n ≤ 1000) : (e.at n).ok = true := by
  rw [En.ok_iff] at h ⊢
  refine ⟨h1, ?_, h.2.2.1, h.2.2.2.1, h.2.2.2.2.1, h.2.2.2.2.2.1, h.2.2.2.2.2.2.1, h.2.2.2.2.2.2.2.1, h.2.2.2.2.2.2.2.2⟩
  show n ≤ 2147483648
  omega
theorem of_at (K : List En) (e : En) (n : Int) : ofA (K ++ [e.at n]) = ofA (K ++ [e]) := by
  unfold ofA
  rw [numE_snoc, numE_snoc, at_at]
  simp
theorem num_next {K : List En} (h : numE K = K) (e : En) : numE (K ++ [e.at ((K.length : Int) + 1)]) = K ++ [e.at ((K.length : Int) + 1)] := by
  rw [numE_snoc, at_at, h]
/-- An audit at ab, and all entries at al; they lie apart. -/
def Ply (w : World) (B ab : Nat) (K : List En) (al : Option Addr) (an ac : Nat) (wr : World) : Prop :=
  wr.ownsRow B 36 5 (.slice al an ac) an (enR K) ∧ numE K = K ∧ (∀ e ∈ K, e.ok = true) ∧ (∃ (xa : Option Addr) (xn xc : Nat), wr.heap[ab]? = some (.cells #[.string (ofA K).anchor, .int .i64 (an : Int), .slice xa xn xc] 27 (0, 0)) ∧ Rw (fun x => x ≠ ab ∧ ob al ≠ some x) wr 36 5 xa xn xc (enR (ofA K).ents)) ∧ Below w.heap.size w wr
theorem Ply.below {w : World} {B ab : Nat} {K : List En} {al : Option Addr} {an ac : Nat} {wr W : World} (h : Ply w B ab K al an ac wr) (hb : Below wr.heap.size wr W) : Ply w B ab K al an ac W := by
  obtain ⟨h1, h2, h3, ⟨xa, xn, xc, h4, h5⟩, h6⟩ := h
  exact ⟨own_keep h1 (fun j hj => hb.block j (h1.lt j hj).2), h2, h3, ⟨xa, xn, xc, (hb.block ab (lt_of_some h4)).trans h4, h5.below hb⟩, h6.trans (hb.mono h6.size)⟩
theorem Ply.len {w : World} {B ab : Nat} {K : List En} {al : Option Addr} {an ac : Nat} {wr : World} (h : Ply w B ab K al an ac wr) : K.length = an := (Ew.own h.1).len
theorem Ply.may {w : World} {B ab : Nat} {K : List En} {al : Option Addr} {an ac : Nat} {wr : World} (h : Ply w B ab K al an ac wr) (hn : an ≤ 100) : mayA (ofA K) = true := of_may K (by have := h.len; omega) (fun e he n h1 h2 => ok_at (h.2.2.1 e he) h1 h2)
theorem Ply.dig {w : World} {B ab : Nat} {K : List En} {al : Option Addr} {an ac : Nat} {wr : World} (h : Ply w B ab K al an ac wr) (hn : an ≤ 100) : digA ⟨(ofA K).anchor, (an : Int), (ofA K).ents⟩ = chA zeros32 K := by
  have e : (⟨(ofA K).anchor, (an : Int), (ofA K).ents⟩ : Au) = ofA K := by rw [← h.len]; rfl
  rw [e]
  unfold digA
  rw [if_pos (h.may hn), of_dig, h.2.1]
theorem Ply.add {w : World} {B ab : Nat} {K : List En} {al : Option Addr} {an ac : Nat} {wr : World} (h : Ply w B ab K al an ac wr) (hn : an ≤ 100) (e : En) (h2 : (e.at ((an : Int) + 1)).ok = true) : addA ⟨(ofA K).anchor, (an : Int), (ofA K).ents⟩ e = (ofA (K ++ [e.at ((an : Int) + 1)]), 0) := by
  have e1 : (⟨(ofA K).anchor, (an : Int), (ofA K).ents⟩ : Au) = ofA K := by rw [← h.len]; rfl
  rw [e1, of_at]
  exact of_add (h.may hn) (by rw [h.len]; exact h2)
theorem Ply.not {w : World} {B ab : Nat} {K : List En} {al : Option Addr} {an ac : Nat} {wr : World} (_h : Ply w B ab K al an ac wr) (e : En) (h2 : (e.at ((an : Int) + 1)).ok = false) : addA ⟨(ofA K).anchor, (an : Int), (ofA K).ents⟩ e = (zeroAu, 1) := add_no (fun h => by rw [h2] at h; exact absurd h.2 (by decide))
/-- It went on: the audit's box takes over what was told. -/
theorem Ply.on {w : World} {B ab : Nat} {K : List En} {al : Option Addr} {an ac : Nat} {V V2 W : World} {e : En} (h : Ply w B ab K al an ac V) (hab : ab < B) (hwab : w.heap.size ≤ ab)
    {al2 : Option Addr} {ac2 : Nat} (ho : V2.ownsRow B 36 5 (.slice al2 (an + 1) ac2) (an + 1) (enR (K ++ [e.at ((an : Int) + 1)]))) (hok : (e.at ((an : Int) + 1)).ok = true)
    {ba : Option Addr} {bn bc : Nat} (hr : Rw (fun x => V.heap.size ≤ x ∧ ob al2 ≠ some x) V2 36 5 ba bn bc (enR (ofA (K ++ [e.at ((an : Int) + 1)])).ents)) (hvb : ab < V.heap.size)
    {x0 x1 x2 : Value} (hb : V2.heap[ab]? = some (.cells #[x0, x1, x2] 27 (0, 0))) (hB : Below w.heap.size w V2)
    (hW : ((V2.setCell ⟨ab, 0, none⟩ (.string (ofA (K ++ [e.at ((an : Int) + 1)])).anchor)).setCell ⟨ab, 1, none⟩ (.int .i64 ((an + 1 : Nat) : Int))).setCell ⟨ab, 2, none⟩ (.slice ba bn bc) = W) : Ply w B ab (K ++ [e.at ((an : Int) + 1)]) al2 (an + 1) ac2 W := by
  have hl := h.len
  rw [← hW]
  refine ⟨own_keep ho (fun j hj => other3s (by have := (ho.lt j hj).1; omega) _ _ _), ?_, fun x hx => ?_, ⟨ba, bn, bc, set3 hb _ _ _, ?_⟩, below3s hB hwab _ _ _⟩
  · rw [← hl]; exact num_next h.2.1 e
  · rcases List.mem_append.1 hx with hx | hx
    · exact h.2.2.1 x hx
    · rw [List.mem_singleton.1 hx]; exact hok
  · have h1 : Rw (fun x => x ≠ ab ∧ ob al2 ≠ some x) V2 36 5 ba bn bc (enR (ofA (K ++ [e.at ((an : Int) + 1)])).ents) := Rw.mono hr (fun x hx _ => ⟨by omega, hx.2⟩)
    exact Rw.keep h1 (below3s (Below.refl 0 V2) (Nat.zero_le ab) _ _ _).size (fun b hb _ => other3s hb.1 _ _ _)
end Go.Proofs.YtkhidkilkbmpoaaDoor
