/- A row of extents that begins anywhere: what is put behind it, and its first one taken away. -/
import Derived.Test.YtgihdfmeokbplaaRA
namespace Go.Proofs.Ytgihdfmeokbplaa
open Go.RowKit Ex
/-- A row of the law's own, that begins anywhere in its block. -/
structure GR (w : World) (B : Nat) (a : Option Addr) (n cap : Nat) (l : List Sp) : Prop where
  sp : SpW w a n cap l
  fr : ∀ x, ob a = some x → B ≤ x ∧ x < w.heap.size
  rm : 0 < cap → ∃ g o cur, a = some ⟨g, o, none⟩ ∧ w.heap[g]? = some (.cells cur 37 (0, 0)) ∧ o + cap * 2 ≤ cur.size
theorem GR.nil (w : World) (B : Nat) : GR w B none 0 0 [] := ⟨SpW.nil_ w, fun x hx => (by cases hx), fun h => absurd h (by omega)⟩
theorem GR.keep {w w' : World} {B : Nat} {a : Option Addr} {n cap : Nat} {l : List Sp} (h : GR w B a n cap l) (hk : ∀ x, ob a = some x → w'.heap[x]? = w.heap[x]?) (hs : w.heap.size ≤ w'.heap.size) : GR w' B a n cap l := by
  refine ⟨h.sp.keep (fun x hx _ => hk x hx) hs, fun x hx => ⟨(h.fr x hx).1, Nat.lt_of_lt_of_le (h.fr x hx).2 hs⟩, fun hn => ?_⟩
  obtain ⟨g, o, cur, rfl, hg, hc⟩ := h.rm hn
  exact ⟨g, o, cur, rfl, (hk g rfl).trans hg, hc⟩
theorem GR.below {w w' : World} {B : Nat} {a : Option Addr} {n cap : Nat} {l : List Sp} (h : GR w B a n cap l) (hb : Below w.heap.size w w') : GR w' B a n cap l := h.keep (fun x hx => hb.block x (h.fr x hx).2) hb.size
theorem GR.upd {w w' : World} {S : Nat → Prop} {B : Nat} {a : Option Addr} {n cap : Nat} {l : List Sp} (h : GR w B a n cap l) (hu : Upd S w w') (hd : ∀ x, ob a = some x → ¬ S x) : GR w' B a n cap l := h.keep (fun x hx => hu.block x (h.fr x hx).2 (hd x hx)) hu.size
/-- Its first one taken away. -/
theorem GR.tail {w : World} {B b o n cap : Nat} {l : List Sp} (h : GR w B (some ⟨b, o, none⟩) n cap l) (hn : 0 < n) : GR w B (if cap = 1 then some ⟨b, o, none⟩ else some ⟨b, o + 2, none⟩) (n - 1) (cap - 1) (l.drop 1) := by
  have hcp := h.sp.hcp
  obtain ⟨b', o', e, hb, hc⟩ := h.sp.hat hn
  cases e
  refine ⟨⟨by rw [List.length_drop, h.sp.hl], by omega, by have := h.sp.hmx; omega, (fun e => by split at e <;> cases e), fun h0 => ?_⟩, fun x hx => h.fr x (by split at hx <;> exact hx), fun h0 => ?_⟩
  · rw [if_neg (by omega)]
    refine ⟨b, o + 2, rfl, hb, fun i q hq => ?_⟩
    rw [List.getElem?_drop] at hq
    obtain ⟨e1, e2⟩ := hc (1 + i) q hq
    rw [show o + 2 + i * 2 = o + (1 + i) * 2 by omega]
    exact ⟨e1, e2⟩
  · obtain ⟨g, o1, cur, e, hg, hcu⟩ := h.rm (by omega)
    cases e
    rw [if_neg (by omega)]
    exact ⟨b, o + 2, cur, rfl, hg, by omega⟩
theorem setCells_two (w : World) (b o : Nat) (x y : Value) : w.setCells b o [x, y] = (w.setCell ⟨b, o, none⟩ x).setCell ⟨b, o + 1, none⟩ y := by
  simp [World.setCells]
theorem spsV_two (v : Sp) : spsV [v] = [.int .i64 v.1, .int .i64 v.2] := rfl
/-- One more behind. -/
theorem GR.add {w : World} {B : Nat} {a : Option Addr} {n cap C : Nat} {l : List Sp} {v : Sp} (h : GR w B a n cap l) (hB : B ≤ w.heap.size) (hn : n ≤ 100000) (hv : Blk w C (spsV [v])) :
    ∃ a' c' w', (Builtin.append_ #[33, 33] 33 #[.slice a n cap, .slice (some ⟨C, 0, none⟩) 1 1]).run Try.prog w = .ok (.slice a' (n + 1) c') w' ∧ GR w' B a' (n + 1) c' (l ++ [v]) ∧ (∀ x, ob a' = some x → ob a = some x ∨ x = w.heap.size) ∧ Upd (fun x => ob a = some x) w w' := by
  obtain ⟨i0, hi, hz0, hzs, hzb⟩ := info_parts info37
  have hl := h.sp.hl
  have hcp := h.sp.hcp
  have hsrc : Src Try.prog i0.size 33 (.slice (some ⟨C, 0, none⟩) 1 1) 1 (spsV [v]) w := by
    rw [hzs]; exact Src.ofSlice w Try.underlying33 ⟨C, 0, none⟩ 1 1 (spsV [v]) (by rw [spsV_len]; rfl) (cells_two hv) (spsV_one _)
  by_cases hroom : n < cap
  · obtain ⟨g, o, cur, rfl, hg, hcu⟩ := h.rm (by omega)
    have hr := run_append_room_src (P := Try.prog) w 33 33 33 37 i0 Try.underlying33 hi g o n cap _ 1 (spsV [v]) hsrc (by omega) (fun j hj => by
        rw [spsV_len] at hj
        rw [cell_of_row _ _ _ _ _ _ hg, hzs]
        simp only [List.length_singleton] at hj
        rw [Array.getElem?_eq_getElem (by omega)]
        rfl) (fun j _ => frozen_of_row w g _ _ _ hg)
    rw [hzs, spsV_two, setCells_two] at hr
    have e1 : (w.setCell ⟨g, o + n * 2, none⟩ (.int .i64 v.1)).heap[g]? = some (.cells (cur.setIfInBounds (o + n * 2) (.int .i64 v.1)) 37 (0, 0)) := heap_setCell_same _ _ _ _ _ _ hg
    have e2 : ((w.setCell ⟨g, o + n * 2, none⟩ (.int .i64 v.1)).setCell ⟨g, o + n * 2 + 1, none⟩ (.int .i64 v.2)).heap[g]? = some (.cells ((cur.setIfInBounds (o + n * 2) (.int .i64 v.1)).setIfInBounds (o + n * 2 + 1) (.int .i64 v.2)) 37 (0, 0)) := heap_setCell_same _ _ _ _ _ _ e1
    obtain ⟨w', hw'⟩ : ∃ w', (w.setCell ⟨g, o + n * 2, none⟩ (.int .i64 v.1)).setCell ⟨g, o + n * 2 + 1, none⟩ (.int .i64 v.2) = w' := ⟨_, rfl⟩
    rw [hw'] at hr e2
    have hu : Upd (fun x => ob (some ⟨g, o, none⟩) = some x) w w' := by
      rw [← hw']
      have hS : ∀ y, (fun x => ob (some ⟨g, o, none⟩) = some x) (Addr.block ⟨g, y, none⟩) := fun _ => rfl
      exact Upd.setCell (S := fun x => ob (some ⟨g, o, none⟩) = some x) (Upd.setCell (S := fun x => ob (some ⟨g, o, none⟩) = some x) (Upd.refl _ w) (p := ⟨g, o + n * 2, none⟩) (fun _ => hS _) _) (p := ⟨g, o + n * 2 + 1, none⟩) (fun _ => hS _) _
    refine ⟨_, _, w', hr, ⟨⟨by rw [List.length_append, hl]; rfl, by omega, h.sp.hmx, (by intro e; cases e), fun _ => ⟨g, o, rfl, lt_of_some e2, fun i q hq => ?_⟩⟩, fun x hx => ⟨(h.fr x hx).1, Nat.lt_of_lt_of_le (h.fr x hx).2 hu.size⟩, fun _ => ⟨g, o, _, rfl, e2, by simp only [Array.size_setIfInBounds]; exact hcu⟩⟩, fun x hx => .inl hx, hu⟩
    rw [cell_of_row _ _ _ _ _ _ e2, cell_of_row _ _ _ _ _ _ e2]
    by_cases hin : i < n
    · rw [List.getElem?_append_left (by omega)] at hq
      obtain ⟨b', o', e, _, hc⟩ := h.sp.hat (by omega)
      cases e
      obtain ⟨c1, c2⟩ := hc i q hq
      rw [cell_of_row _ _ _ _ _ _ hg] at c1 c2
      rw [Array.getElem?_setIfInBounds_ne (by omega), Array.getElem?_setIfInBounds_ne (by omega), Array.getElem?_setIfInBounds_ne (by omega), Array.getElem?_setIfInBounds_ne (by omega)]
      exact ⟨c1, c2⟩
    · have hie : i = n := by
        have := (List.getElem?_eq_some_iff.1 hq).1
        rw [List.length_append, hl] at this
        simp at this
        omega
      subst hie
      rw [List.getElem?_append_right (by omega), hl, Nat.sub_self] at hq
      cases hq
      rw [Array.getElem?_setIfInBounds_ne (by omega), Array.getElem?_setIfInBounds_self_of_lt (by omega), Array.getElem?_setIfInBounds_self_of_lt (by simp only [Array.size_setIfInBounds]; omega)]
      exact ⟨rfl, rfl⟩
  · have he : cap = n := by omega
    subst he
    have hr := run_append_grow_src (P := Try.prog) w 33 33 33 37 i0 _ Try.underlying33 hi hz0 a cap cap (spsV l) (by rw [hzs]; exact h.sp.first) _ 1 (spsV [v]) hsrc (by omega) (by omega) (by rw [hzb]; exact Go.growslice_fits (by omega) (by omega))
    have hon := out_new (w := w) (B := B) (n := cap) (m := 1) (l := l) (news := [v]) hB hl rfl cap (by unfold maxLen; omega) (Value.agg #[.int .i64 0, .int .i64 0]).cells rfl
    refine ⟨_, _, _, hr, ⟨hon.sp, hon.fr, fun _ => ?_⟩, fun x hx => .inr (by cases hx; rfl), Upd.of_below ((Below.refl _ w).drew.alloc (Nat.le_refl _) _)⟩
    have hge := grownCap_ge w (cap + 1) cap 37
    refine ⟨w.heap.size, 0, _, rfl, heap_alloc_new w.drew _, ?_⟩
    have hz2 : (Value.agg #[.int .i64 0, .int .i64 0]).cells.size = 2 := rfl
    simp only [Array.size_append, size_zeroCells, List.size_toArray, List.length_append, spsV_len, hl, hz2, List.length_singleton]
    omega
theorem GR.row {w : World} {B b o n cap : Nat} {l : List Sp} (h : GR w B (some ⟨b, o, none⟩) n cap l) (hn : 0 < n) : ∃ cur, w.heap[b]? = some (.cells cur 37 (0, 0)) ∧ o + cap * 2 ≤ cur.size ∧ ∀ i q, l[i]? = some q → cur[o + i * 2]? = some (.int .i64 q.1) ∧ cur[o + i * 2 + 1]? = some (.int .i64 q.2) := by
  have hcp := h.sp.hcp
  obtain ⟨g, o', cur, e, hg, hc⟩ := h.rm (by omega)
  cases e
  obtain ⟨b', o', e, _, hcs⟩ := h.sp.hat hn
  cases e
  refine ⟨cur, hg, hc, fun i q hq => ?_⟩
  obtain ⟨c1, c2⟩ := hcs i q hq
  rw [cell_of_row _ _ _ _ _ _ hg] at c1 c2
  exact ⟨c1, c2⟩
/-- Two of them change their places. -/
theorem GR.swap {w : World} {B b o n cap : Nat} {l : List Sp} (h : GR w B (some ⟨b, o, none⟩) n cap l) {i k : Nat} {p q : Sp} (hi : l[i]? = some p) (hk : l[k]? = some q) {W : World} (hW : W = (((w.setCell ⟨b, o + i * 2, none⟩ (.int .i64 q.1)).setCell ⟨b, o + i * 2 + 1, none⟩ (.int .i64 q.2)).setCell ⟨b, o + k * 2, none⟩ (.int .i64 p.1)).setCell ⟨b, o + k * 2 + 1, none⟩ (.int .i64 p.2)) :
    GR W B (some ⟨b, o, none⟩) n cap ((l.set i q).set k p) ∧ Upd (fun x => x = b) w W := by
  have hl := h.sp.hl
  have hin := (List.getElem?_eq_some_iff.1 hi).1
  have hkn := (List.getElem?_eq_some_iff.1 hk).1
  have hcp := h.sp.hcp
  obtain ⟨cur, hg, hcu, hcs⟩ := h.row (by omega)
  have e1 : (w.setCell ⟨b, o + i * 2, none⟩ (.int .i64 q.1)).heap[b]? = some (.cells (cur.setIfInBounds (o + i * 2) (.int .i64 q.1)) 37 (0, 0)) := heap_setCell_same _ _ _ _ _ _ hg
  have e2 : ((w.setCell ⟨b, o + i * 2, none⟩ (.int .i64 q.1)).setCell ⟨b, o + i * 2 + 1, none⟩ (.int .i64 q.2)).heap[b]? = some (.cells ((cur.setIfInBounds (o + i * 2) (.int .i64 q.1)).setIfInBounds (o + i * 2 + 1) (.int .i64 q.2)) 37 (0, 0)) := heap_setCell_same _ _ _ _ _ _ e1
  have e3 : (((w.setCell ⟨b, o + i * 2, none⟩ (.int .i64 q.1)).setCell ⟨b, o + i * 2 + 1, none⟩ (.int .i64 q.2)).setCell ⟨b, o + k * 2, none⟩ (.int .i64 p.1)).heap[b]? = some (.cells (((cur.setIfInBounds (o + i * 2) (.int .i64 q.1)).setIfInBounds (o + i * 2 + 1) (.int .i64 q.2)).setIfInBounds (o + k * 2) (.int .i64 p.1)) 37 (0, 0)) := heap_setCell_same _ _ _ _ _ _ e2
  have e4 : W.heap[b]? = some (.cells ((((cur.setIfInBounds (o + i * 2) (.int .i64 q.1)).setIfInBounds (o + i * 2 + 1) (.int .i64 q.2)).setIfInBounds (o + k * 2) (.int .i64 p.1)).setIfInBounds (o + k * 2 + 1) (.int .i64 p.2)) 37 (0, 0)) := by rw [hW]; exact heap_setCell_same _ _ _ _ _ _ e3
  have hu : Upd (fun x => x = b) w W := by
    rw [hW]
    exact ((((Upd.refl (fun x => x = b) w).setCell (p := ⟨b, o + i * 2, none⟩) (fun _ => rfl) _).setCell (p := ⟨b, o + i * 2 + 1, none⟩) (fun _ => rfl) _).setCell (p := ⟨b, o + k * 2, none⟩) (fun _ => rfl) _).setCell (p := ⟨b, o + k * 2 + 1, none⟩) (fun _ => rfl) _
  refine ⟨⟨⟨by simp only [List.length_set]; exact hl, hcp, h.sp.hmx, (by intro e; cases e), fun _ => ⟨b, o, rfl, lt_of_some e4, fun j u hu2 => ?_⟩⟩, fun x hx => ⟨(h.fr x hx).1, Nat.lt_of_lt_of_le (h.fr x hx).2 hu.size⟩, fun _ => ⟨b, o, _, rfl, e4, by simp only [Array.size_setIfInBounds]; exact hcu⟩⟩, hu⟩
  rw [cell_of_row _ _ _ _ _ _ e4, cell_of_row _ _ _ _ _ _ e4]
  simp only [Array.getElem?_setIfInBounds, Array.size_setIfInBounds]
  rw [List.getElem?_set, List.getElem?_set] at hu2
  simp only [List.length_set] at hu2
  have hj0 : j < l.length := by
    rcases Nat.lt_or_ge j l.length with h9 | h9
    · exact h9
    · rw [if_neg (by omega), if_neg (by omega), List.getElem?_eq_none h9] at hu2; cases hu2
  by_cases hjk : k = j
  · subst hjk
    rw [if_pos rfl, if_pos hkn] at hu2
    cases hu2
    rw [if_neg (by omega), if_pos rfl, if_pos (by omega), if_pos rfl, if_pos (by omega)]
    exact ⟨rfl, rfl⟩
  · rw [if_neg hjk] at hu2
    by_cases hji : i = j
    · subst hji
      rw [if_pos rfl, if_pos hin] at hu2
      cases hu2
      rw [if_neg (by omega), if_neg (by omega), if_neg (by omega), if_pos rfl, if_pos (by omega), if_neg (by omega), if_neg (by omega), if_pos rfl, if_pos (by omega)]
      exact ⟨rfl, rfl⟩
    · rw [if_neg hji] at hu2
      obtain ⟨c1, c2⟩ := hcs j u hu2
      rw [if_neg (by omega), if_neg (by omega), if_neg (by omega), if_neg (by omega), if_neg (by omega), if_neg (by omega), if_neg (by omega), if_neg (by omega)]
      exact ⟨c1, c2⟩
theorem swap_perm {l : List Sp} {i k : Nat} {p q : Sp} (hi : l[i]? = some p) (hk : l[k]? = some q) : ((l.set i q).set k p).Perm l := by
  obtain ⟨h1, e1⟩ := List.getElem?_eq_some_iff.1 hi
  obtain ⟨h2, e2⟩ := List.getElem?_eq_some_iff.1 hk
  rw [← e1, ← e2]
  exact List.set_set_perm h1 h2
end Go.Proofs.Ytgihdfmeokbplaa
