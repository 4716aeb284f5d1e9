/- The walks over the document's GetList and Same. -/
import Derived.Test.YtbomopjngpnghabJ
import Derived.Deep.RegionWith
namespace Go.Proofs.Ytbomopjngpnghab
open Go.RowKit

set_option maxHeartbeats 800000 in
theorem same_yes (b1 o1 c1 b2 o2 c2 n : Nat) (ss : List ByteArray) (w : World) (hl : ss.length = n) (hn : n ≤ 9223372036854775807) (h1 : ∀ i (h : i < ss.length), w.cell? ⟨b1, o1 + i, none⟩ = some (.string ss[i])) (h2 : ∀ i (h : i < ss.length), w.cell? ⟨b2, o2 + i, none⟩ = some (.string ss[i])) :
    Calls Try.prog 10 #[.slice (some ⟨b1, o1, none⟩) n c1, .slice (some ⟨b2, o2, none⟩) n c2] w fun e w' => e = .returned (.bool true) ∧ Below w.heap.size w w' := by
  have HL : Hid (ss.length = n) := hl
  have H1 : Hid (∀ i (h : i < ss.length), w.cell? ⟨b1, o1 + i, none⟩ = some (.string ss[i])) := h1
  have H2 : Hid (∀ i (h : i < ss.length), w.cell? ⟨b2, o2 + i, none⟩ = some (.string ss[i])) := h2
  clear hl h1 h2
  go_enter Try.func10, Try.ntmps10
  go_wp2
  go_loopw [5] (fun i wr => ∃ k : Nat, k ≤ n ∧ i = .int .i64 k ∧ Below w.heap.size w wr) (fun i _ => n - (intOf i).toNat)
  case atStart => exact ⟨0, by omega, rfl, Below.refl _ _⟩
  case round =>
    obtain ⟨k, hk, rfl, hbel⟩ := hrel
    by_cases hlt : k < n
    · have hlt' : k < ss.length := by have := HL.out; omega
      have hc1 : wr.cell? ⟨b1, o1 + k, none⟩ = some (.string ss[k]) := by
        have := H1.out k hlt'
        rw [hbel.cell (World.block_lt_of_cell? w _ this)]; exact this
      have hc2 : wr.cell? ⟨b2, o2 + k, none⟩ = some (.string ss[k]) := by
        have := H2.out k hlt'
        rw [hbel.cell (World.block_lt_of_cell? w _ this)]; exact this
      generalize ss[k] = s at hc1 hc2
      have hi1 : (k : Int) < (n : Int) := by omega
      go_wp2
      go_region
      all_goals
        go_wp2
        go_roundw
        case rel => exact ⟨k + 1, by omega, by go_num, hbel.drew⟩
        case measure => simp [intOf]; omega
    · go_wp2
      go_ret
      exact ⟨rfl, hbel⟩

theorem Ss.none (w : World) : Ss w none 0 0 [] := ⟨rfl, by omega, by omega, fun _ => rfl, by intro ad h; cases h⟩

set_option maxHeartbeats 400000 in
theorem same_zero (a b : Option Addr) (c1 c2 : Nat) (w : World) :
    Calls Try.prog 10 #[.slice a 0 c1, .slice b 0 c2] w fun e w' => e = .returned (.bool true) ∧ w' = w := by
  go_enter Try.func10, Try.ntmps10
  go_wp2
  refine wp_loop_rounds 1 ?_
  rw [rounds_succ]
  go_wp2
  go_ret
  exact ⟨rfl, rfl⟩

theorem same_any (a b : Option Addr) (n m c1 c2 : Nat) (ss : List ByteArray) (w : World) (h1 : Ss w a n c1 ss) (h2 : Ss w b m c2 ss) :
    Calls Try.prog 10 #[.slice a n c1, .slice b m c2] w fun e w' => e = .returned (.bool true) ∧ Below w.heap.size w w' := by
  obtain rfl : n = m := h1.1.symm.trans h2.1
  by_cases h0 : 0 < n
  · obtain ⟨b1, o1, rfl, hc1⟩ := h1.at h0
    obtain ⟨b2, o2, rfl, hc2⟩ := h2.at h0
    exact same_yes b1 o1 c1 b2 o2 c2 n ss w h1.1 (Nat.le_trans h1.2.1 h1.2.2.1) hc1 hc2
  · obtain rfl : n = 0 := by omega
    exact (same_zero a b c1 c2 w).mono fun e w' ⟨he, hw⟩ => ⟨he, hw ▸ Below.refl _ _⟩
end Go.Proofs.Ytbomopjngpnghab
