/- Walks over the rules' closures and pick. -/
import Derived.Test.YtgihdfmeokbplaaXB
import Derived.Shelf.RegionOpen
namespace Go.Proofs.Ytgihdfmeokbplaa
open Go.RowKit Ex
theorem keepc {V V2 : World} (h : Below V.heap.size V V2) {p : Addr} {v : Value} (hc : V.cell? p = some v) : V2.cell? p = some v := (h.cell (p := p) (World.block_lt_of_cell? V p hc)).trans hc
abbrev spA (s : Sp) : Value := .agg #[.int .i64 s.1, .int .i64 s.2]
set_option maxHeartbeats 400000 in
theorem ch1_any (h s : Sp) (w : World) : Calls Try.prog 56 #[spA h, spA s] w fun e w' => e = .returned (.bool (decide (h.2 < s.2))) ∧ Below w.heap.size w w' := by
  go_enter Try.func56, Try.ntmps56
  go_wp2
  go_ret
  exact ⟨rfl, ((Below.refl _ w).alloc (Nat.le_refl _) _).alloc (by simp) _⟩
set_option maxHeartbeats 400000 in
theorem ch2_any (h s : Sp) (w : World) : Calls Try.prog 57 #[spA h, spA s] w fun e w' => e = .returned (.bool (decide (s.2 < h.2))) ∧ Below w.heap.size w w' := by
  go_enter Try.func57, Try.ntmps57
  go_wp2
  go_ret
  refine ⟨ret_bool ?_, ((Below.refl _ w).alloc (Nat.le_refl _) _).alloc (by simp) _⟩
  first | rfl | (by_cases hh : s.2 < h.2 <;> simp [hh] <;> omega)
set_option maxHeartbeats 400000 in
theorem ch4_any (h s : Sp) (w : World) : Calls Try.prog 59 #[spA h, spA s] w fun e w' => e = .returned (.bool false) ∧ Below w.heap.size w w' := by
  go_enter Try.func59, Try.ntmps59
  go_wp2
  go_ret
  exact ⟨rfl, ((Below.refl _ w).alloc (Nat.le_refl _) _).alloc (by simp) _⟩
set_option maxHeartbeats 400000 in
theorem ch3_any (h s : Sp) (B : Nat) (nx : Int) (w : World) (hB : w.cell? ⟨B, 0, none⟩ = some (.int .i64 nx)) : Calls Try.prog 58 #[spA h, spA s, .pointer (some ⟨B, 0, none⟩)] w fun e w' => e = .returned (.bool (decide (s.1 < nx) && decide (nx ≤ h.1))) ∧ Below w.heap.size w w' := by
  have hBl : B < w.heap.size := World.block_lt_of_cell? w _ hB
  have hn1 : B ≠ w.heap.size := by omega
  by_cases h1 : s.1 < nx
  · by_cases h2 : nx ≤ h.1
    · rw [decide_eq_true h1, decide_eq_true h2]
      go_enter Try.func58, Try.ntmps58
      go_wp2
      go_ret
      exact ⟨rfl, ((Below.refl _ w).alloc (Nat.le_refl _) _).alloc (by simp) _⟩
    · rw [decide_eq_true h1, decide_eq_false h2]
      go_enter Try.func58, Try.ntmps58
      go_wp2
      go_ret
      exact ⟨rfl, ((Below.refl _ w).alloc (Nat.le_refl _) _).alloc (by simp) _⟩
  · rw [decide_eq_false h1]
    go_enter Try.func58, Try.ntmps58
    go_wp2
    go_ret
    exact ⟨rfl, ((Below.refl _ w).alloc (Nat.le_refl _) _).alloc (by simp) _⟩
/-- A function value that chooses as ch does, in worlds behind w. -/
def ChV (w : World) (f : Nat) (lb : Array Value) (ch : Sp → Sp → Bool) : Prop :=
  (∀ args w, (callFunc f args).run Try.prog w = .ok (.enter f args) w) ∧ ∀ (h s : Sp) (W : World), Below w.heap.size w W → Calls Try.prog f (#[spA h, spA s] ++ lb) W fun e w' => e = .returned (.bool (ch h s)) ∧ Below W.heap.size W w'
theorem ChV.later {w w1 : World} {f : Nat} {lb : Array Value} {ch : Sp → Sp → Bool} (h : ChV w f lb ch) (hb : Below w.heap.size w w1) : ChV w1 f lb ch := ⟨h.1, fun a s W hW => h.2 a s W (hb.trans (hW.mono hb.size))⟩
set_option maxHeartbeats 400000 in
theorem chooser_any (rule nx : Int) (w : World) : Calls Try.prog 35 #[.int .i64 rule, .int .i64 nx] w fun e w' => ∃ f lb, e = .returned (.func (.func f) #[] lb) ∧ ChV w' f lb (ruleC rule nx) ∧ Below w.heap.size w w' := by
  have hb1 : Below w.heap.size w (w.alloc (.cells #[.int .i64 nx] 3)) := (Below.refl _ w).alloc (Nat.le_refl _) _
  by_cases h1 : rule = 1
  · subst h1
    go_enter Try.func35, Try.ntmps35
    go_wp2
    go_ret
    exact ⟨56, #[], rfl, ⟨enters_of Try.func56 (by kernel_rfl) rfl, fun h s W _ => (ch1_any h s W).mono fun e w' h => ⟨by rw [h.1]; rfl, h.2⟩⟩, hb1⟩
  by_cases h2 : rule = 2
  · subst h2
    go_enter Try.func35, Try.ntmps35
    go_wp2
    go_ret
    exact ⟨57, #[], rfl, ⟨enters_of Try.func57 (by kernel_rfl) rfl, fun h s W _ => (ch2_any h s W).mono fun e w' h => ⟨by rw [h.1]; rfl, h.2⟩⟩, hb1⟩
  by_cases h3 : rule = 3
  · subst h3
    have hc : (w.alloc (.cells #[.int .i64 nx] 3)).cell? ⟨w.heap.size, 0, none⟩ = some (.int .i64 nx) := by rw [cell_of_row _ w.heap.size _ _ _ _ (heap_alloc_new w _)]; rfl
    have hl : w.heap.size < (w.alloc (.cells #[.int .i64 nx] 3)).heap.size := World.block_lt_of_cell? _ _ hc
    go_enter Try.func35, Try.ntmps35
    go_wp2
    go_ret
    exact ⟨58, #[.pointer (some ⟨w.heap.size, 0, none⟩)], rfl, ⟨enters_of Try.func58 (by kernel_rfl) rfl, fun h s W hW => (ch3_any h s w.heap.size nx W (by rw [hW.cell (p := ⟨w.heap.size, 0, none⟩) hl]; exact hc)).mono fun e w' h => ⟨by rw [h.1]; rfl, h.2⟩⟩, hb1⟩
  · go_enter Try.func35, Try.ntmps35
    go_wp2
    go_ret
    exact ⟨59, #[], rfl, ⟨enters_of Try.func59 (by kernel_rfl) rfl, fun h s W _ => (ch4_any h s W).mono fun e w' h => ⟨by rw [h.1, ruleC, if_neg h1, if_neg h2, if_neg h3], h.2⟩⟩, hb1⟩
/-- What pick tells. -/
def pickA (o : Option Nat) : Value := match o with
  | some a => .tuple #[.int .i64 (a : Int), .bool true]
  | none => .tuple #[.int .i64 0, .bool false]
def atV (o : Option Nat) : Value := .int .i64 ((o.getD 0 : Nat) : Int)
def okV (o : Option Nat) : Value := .bool o.isSome
theorem pick_skip {ch : Sp → Sp → Bool} {n : Int} {hs : List Sp} {k : Nat} {h : Sp} (e : hs[k]? = some h) (hn : ¬ n ≤ h.2) : pickK ch n hs (k + 1) = pickK ch n hs k := by
  rw [pickK_on e, decide_eq_false hn]; rfl
theorem pick_first {ch : Sp → Sp → Bool} {n : Int} {hs : List Sp} {k : Nat} {h : Sp} (e : hs[k]? = some h) (hn : n ≤ h.2) (h0 : pickK ch n hs k = none) : pickK ch n hs (k + 1) = some k := by
  rw [pickK_on e, decide_eq_true hn, h0]; rfl
theorem pick_more {ch : Sp → Sp → Bool} {n : Int} {hs : List Sp} {k a : Nat} {h p : Sp} (e : hs[k]? = some h) (hn : n ≤ h.2) (h0 : pickK ch n hs k = some a) (hp : hs[a]? = some p) : pickK ch n hs (k + 1) = if ch h p = true then some k else some a := by
  rw [pickK_on e, decide_eq_true hn, h0]
  simp only [Bool.true_and, List.getD_eq_getElem?_getD, hp, Option.getD_some]
end Go.Proofs.Ytgihdfmeokbplaa
