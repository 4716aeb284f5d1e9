/- A row of extents that are out: what is put behind it, and taken out of it. -/
import Derived.Test.YtgihdfmeokbplaaXP
import Derived.Test.YtgihdfmeokbplaaXQ
import Derived.Test.YtgihdfmeokbplaaEB
import Derived.Deep.AppendSrc
import Derived.Deep.Upon
namespace Go.Proofs.Ytgihdfmeokbplaa
open Go.RowKit Ex
/-- A row that is the law's own, or that has no room. -/
structure OutR (w : World) (B : Nat) (a : Option Addr) (n cap : Nat) (l : List Sp) : Prop where
  sp : SpW w a n cap l
  fr : ∀ x, ob a = some x → B ≤ x ∧ x < w.heap.size
  rm : cap = n ∨ w.ownsRow 0 37 2 (.slice a n cap) n (spsV l)
theorem OutR.nil (w : World) (B : Nat) : OutR w B none 0 0 [] := ⟨SpW.nil_ w, fun x hx => (by cases hx), .inl rfl⟩
theorem OutR.keep {w w' : World} {B : Nat} {a : Option Addr} {n cap : Nat} {l : List Sp} (h : OutR w B a n cap l) (hk : ∀ x, ob a = some x → w'.heap[x]? = w.heap[x]?) (hs : w.heap.size ≤ w'.heap.size) : OutR w' B a n cap l :=
  ⟨h.sp.keep (fun x hx _ => hk x hx) hs, fun x hx => ⟨(h.fr x hx).1, Nat.lt_of_lt_of_le (h.fr x hx).2 hs⟩, h.rm.imp_right fun h2 => own_keep h2 (fun x hx => hk x (by rw [ob_slice] at hx; exact hx))⟩
theorem OutR.below {w w' : World} {B : Nat} {a : Option Addr} {n cap : Nat} {l : List Sp} (h : OutR w B a n cap l) (hb : Below w.heap.size w w') : OutR w' B a n cap l := h.keep (fun x hx => hb.block x (h.fr x hx).2) hb.size
theorem OutR.upd {w w' : World} {S : Nat → Prop} {B : Nat} {a : Option Addr} {n cap : Nat} {l : List Sp} (h : OutR w B a n cap l) (hu : Upd S w w') (hd : ∀ x, ob a = some x → ¬ S x) : OutR w' B a n cap l := h.keep (fun x hx => hu.block x (h.fr x hx).2 (hd x hx)) hu.size
theorem SpW.cells {w : World} {a : Option Addr} {n cap : Nat} {l : List Sp} (h : SpW w a n cap l) : ∀ ad, a = some ad → ∀ j u, (spsV l)[j]? = some u → w.cell? (ad.add j) = some u := fun ad ha j u hj => by
  have hjl := (List.getElem?_eq_some_iff.1 hj).1
  rw [spsV_len, h.hl] at hjl
  obtain ⟨b, o, e, hb, hc⟩ := h.hat (by omega)
  rw [ha] at e
  cases e
  obtain ⟨q, hq⟩ : ∃ q, l[j / 2]? = some q := ⟨_, List.getElem?_eq_getElem (by rw [h.hl]; omega)⟩
  obtain ⟨e1, e2⟩ := hc (j / 2) q hq
  obtain ⟨e3, e4⟩ := spsV_at l (j / 2) q hq
  rw [add_at]
  rcases Nat.mod_two_eq_zero_or_one j with hm | hm
  · have hj2 : j / 2 * 2 = j := by omega
    rw [hj2] at e1 e3
    rw [e3] at hj
    cases hj
    exact e1
  · have hj2 : j / 2 * 2 + 1 = j := by omega
    rw [hj2] at e4
    rw [Nat.add_assoc, hj2] at e2
    rw [e4] at hj
    cases hj
    exact e2
theorem SpW.first {w : World} {a : Option Addr} {n cap : Nat} {l : List Sp} (h : SpW w a n cap l) : (Builtin.firstCells 2 n (.slice a n cap)).run Try.prog w.drew = .ok (spsV l).toArray w.drew := by
  have hl : (spsV l).length = n * 2 := by rw [spsV_len, h.hl]
  cases a with
  | none =>
    have h0 := h.hnil rfl
    have h1 := h.hcp
    obtain rfl : n = 0 := by omega
    have : l = [] := List.eq_nil_of_length_eq_zero h.hl
    subst this
    exact run_firstCells_none w.drew 2 0 0 cap
  | some ad => exact run_firstCells_some w.drew 2 n ad n cap (spsV l) hl (h.cells ad rfl)
theorem out_new {w : World} {B n m : Nat} {l news : List Sp} (hB : B ≤ w.heap.size) (hl : l.length = n) (hm : news.length = m) (old : Nat) (hlim : n + m ≤ maxLen) (z : Array Value) (hz : z.size = 2) :
    OutR (w.drew.alloc (.cells ((spsV l ++ spsV news).toArray ++ Builtin.zeroCells z (grownCap w (n + m) old 37 - (n + m))) 37)) B (some ⟨w.heap.size, 0, none⟩) (n + m) (grownCap w (n + m) old 37) (l ++ news) := by
  have hge := grownCap_ge w (n + m) old 37
  have hle := grownCap_le_maxLen w (n + m) old 37 hlim
  have hk : Blk (w.drew.alloc (.cells ((spsV l ++ spsV news).toArray ++ Builtin.zeroCells z (grownCap w (n + m) old 37 - (n + m))) 37)) w.heap.size ((spsV l ++ spsV news).toArray ++ Builtin.zeroCells z (grownCap w (n + m) old 37 - (n + m))).toList := by
    unfold Blk
    rw [Array.toArray_toList]
    exact heap_alloc_new w.drew _
  have ho := hk.own (n := n + m) (cap := grownCap w (n + m) old 37) (xs := l ++ news) hge hle (by
    simp only [Array.length_toList, Array.size_append, size_zeroCells, List.size_toArray, List.length_append, spsV_len, hz]
    omega) (by rw [List.length_append, hl, hm]) (by
    simp only [Array.toList_append]
    rw [List.take_left' (by simp only [List.length_append, spsV_len]; omega), spsV_app])
  exact ⟨SpW.own ho, fun x hx => by cases hx; exact ⟨hB, hk.lt⟩, .inr ho⟩
/-- One more behind. -/
theorem out_add {w : World} {B : Nat} {a : Option Addr} {n cap C : Nat} {l : List Sp} {v : Sp} (h : OutR w B a n cap l) (hB : B ≤ w.heap.size) (hn : n ≤ 100000) (hv : Blk w C (spsV [v])) :
    ∃ a' c' w', (Builtin.append_ #[33, 33] 33 #[.slice a n cap, .slice (some ⟨C, 0, none⟩) 1 1]).run Try.prog w = .ok (.slice a' (n + 1) c') w' ∧ OutR w' B a' (n + 1) c' (l ++ [v]) ∧ (∀ x, ob a' = some x → ob a = some x ∨ x = w.heap.size) ∧ Upd (fun x => ob a = some x) w w' := by
  obtain ⟨i0, hi, hz0, hzs, hzb⟩ := info_parts info37
  have hl := h.sp.hl
  rcases h.rm with he | ho
  · subst he
    have hsrc : Src Try.prog i0.size 33 (.slice (some ⟨C, 0, none⟩) 1 1) 1 (spsV [v]) w := by
      rw [hzs]; exact Src.ofSlice w Try.underlying33 ⟨C, 0, none⟩ 1 1 (spsV [v]) (by rw [spsV_len]; rfl) (cells_two hv) (spsV_one _)
    have hr := run_append_grow_src (P := Try.prog) w 33 33 33 37 i0 _ Try.underlying33 hi hz0 a cap cap (spsV l) (by rw [hzs]; exact h.sp.first) _ 1 (spsV [v]) hsrc (by omega) (by omega) (by rw [hzb]; exact Go.growslice_fits (by omega) (by omega))
    exact ⟨_, _, _, hr, out_new (m := 1) (news := [v]) hB hl rfl cap (by unfold maxLen; omega) _ rfl, fun x hx => .inr (by cases hx; rfl), Upd.of_below ((Below.refl _ w).drew.alloc (Nat.le_refl _) _)⟩
  · obtain ⟨g, cp, w', hr, h2, h3, h4, h5⟩ := run_append_lies (P := Try.prog) w 33 33 0 37 i0 (.agg #[.int .i64 0, .int .i64 0]) 2 16 Try.underlying33 hi hz0 hzs hzb rfl (by decide) _ n (spsV l) ho ⟨C, 0, none⟩ 1 1 (spsV [v]) (by rw [spsV_len]; rfl) (cells_two hv) (spsV_one _) (by omega) (by unfold maxLen; omega) (by omega) (Nat.zero_le _) _ rfl
    rw [ob_slice] at h3 h4
    have ho2 : w'.ownsRow 0 37 2 (.slice (some ⟨g, 0, none⟩) (n + 1) cp) (n + 1) (spsV (l ++ [v])) := by rw [spsV_app]; exact h2
    refine ⟨_, _, _, hr, ⟨SpW.own ho2, fun x hx => ?_, .inr ho2⟩, fun x hx => ?_, (Upd.refl _ w).grown h3 (fun k hk _ => hk)⟩
    · cases hx
      refine ⟨?_, h5⟩
      rcases h4 with h4 | h4
      · exact (h.fr g h4).1
      · show B ≤ g; omega
    · cases hx
      rcases h4 with h4 | h4
      · exact .inl h4
      · exact .inr h4
/-- One taken out. -/
theorem out_cut {w : World} {B : Nat} {b o n cap k : Nat} {l : List Sp} (h : OutR w B (some ⟨b, o, none⟩) n cap l) (hB : B ≤ w.heap.size) (hn : n ≤ 100000) (hk : k < n) (a2 : Option Addr) (c2 : Nat) (ha2 : k + 1 < n → a2 = some ⟨b, o + (k + 1) * 2, none⟩) :
    ∃ a' c' w', (Builtin.append_ #[33, 33] 33 #[.slice (some ⟨b, o, none⟩) k k, .slice a2 (n - (k + 1)) c2]).run Try.prog w = .ok (.slice a' (n - 1) c') w' ∧ OutR w' B a' (n - 1) c' (l.take k ++ l.drop (k + 1)) ∧ (∀ x, ob a' = some x → x = b ∨ x = w.heap.size) ∧ Below w.heap.size w w' := by
  obtain ⟨i0, hi, hz0, hzs, hzb⟩ := info_parts info37
  have hl := h.sp.hl
  have hcp := h.sp.hcp
  have hmx := h.sp.hmx
  obtain ⟨b', o', e, hb, hc⟩ := h.sp.hat (by omega)
  cases e
  have hsk : SpW w (some ⟨b, o, none⟩) k k (l.take k) := ⟨by rw [List.length_take]; omega, Nat.le_refl _, by omega, fun e => (by cases e), fun h0 => ⟨b, o, rfl, hb, fun i q hq => hc i q (by rw [List.getElem?_take] at hq; split at hq; exact hq; cases hq)⟩⟩
  by_cases hk1 : k + 1 < n
  · rw [ha2 hk1]
    have hdl : (l.drop (k + 1)).length = n - (k + 1) := by rw [List.length_drop, hl]
    have hsrc : Src Try.prog i0.size 33 (.slice (some ⟨b, o + (k + 1) * 2, none⟩) (n - (k + 1)) c2) (n - (k + 1)) (spsV (l.drop (k + 1))) w := by
      rw [hzs]
      refine Src.ofSlice w Try.underlying33 ⟨b, o + (k + 1) * 2, none⟩ (n - (k + 1)) c2 _ (by rw [spsV_len, hdl]) (fun j u hj => ?_) (spsV_one _)
      have := h.sp.cells _ rfl ((k + 1) * 2 + j) u (by rw [← hj, ← spsV_drop, List.getElem?_drop])
      rw [add_at] at this ⊢
      rw [Nat.add_assoc]; exact this
    have hr := run_append_grow_src (P := Try.prog) w 33 33 33 37 i0 _ Try.underlying33 hi hz0 (some ⟨b, o, none⟩) k k (spsV (l.take k)) (by rw [hzs]; exact hsk.first) _ (n - (k + 1)) _ hsrc (by omega) (by omega) (by rw [hzb]; exact Go.growslice_fits (by omega) (by omega))
    have hon := out_new (w := w) (B := B) (n := k) (m := n - (k + 1)) (l := l.take k) (news := l.drop (k + 1)) hB hsk.hl hdl k (by unfold maxLen; omega) (Value.agg #[.int .i64 0, .int .i64 0]).cells rfl
    have e1 : k + (n - (k + 1)) = n - 1 := by omega
    rw [e1] at hr hon
    exact ⟨_, _, _, hr, hon, fun x hx => .inr (by cases hx; rfl), (Below.refl _ w).drew.alloc (Nat.le_refl _) _⟩
  · have e1 : n - (k + 1) = 0 := by omega
    have e2 : n - 1 = k := by omega
    have e3 : l.drop (k + 1) = [] := List.drop_of_length_le (by omega)
    rw [e1, e2, e3, List.append_nil]
    have hsrc : Src Try.prog i0.size 33 (.slice a2 0 c2) 0 [] w := by
      cases a2 with
      | none => exact Src.ofNil w Try.underlying33 c2
      | some ad => exact Src.ofSlice w Try.underlying33 ad 0 c2 [] (by simp) (fun j u hj => by simp at hj) (fun u hu => by cases hu)
    refine ⟨_, _, _, run_append_nothing (P := Try.prog) w 33 33 33 37 i0 Try.underlying33 hi (some ⟨b, o, none⟩) k k (Nat.le_refl _) _ hsrc, ⟨hsk, fun x hx => h.fr x hx, .inl rfl⟩, fun x hx => .inl (by cases hx; rfl), Below.refl _ _⟩
end Go.Proofs.Ytgihdfmeokbplaa
