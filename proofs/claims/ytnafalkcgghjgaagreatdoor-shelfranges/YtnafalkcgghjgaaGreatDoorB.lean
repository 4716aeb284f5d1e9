/- Walks over the small functions of a Disk: off, reach, Size, Waits, Writes, Up, Read, burn, Start, Fuse. -/
import Derived.Test.YtnafalkcgghjgaaGreatDoorA
namespace Go.Proofs.YtnafalkcgghjgaaGreatDoor
open Go.RowKit
set_option maxHeartbeats 400000 in
theorem off_nil (w : World) : Calls Tryz.prog 45 #[.pointer none] w fun e w' => e = .returned (.int .i64 1) ∧ w' = w := by
  go_enter Tryz.func45, Tryz.ntmps45
  go_wp2
  go_ret
  exact ⟨rfl, rfl⟩
set_option maxHeartbeats 400000 in
theorem off_any {S : Nat → Prop} {g : Nat} {D : Dk} {w : World} (h : DiskIs w S g D) : Calls Tryz.prog 45 #[.pointer (some ⟨g, 0, none⟩)] w fun e w' => e = .returned (.int .i64 (D.off : Int)) ∧ w' = w := by
  obtain ⟨kb, kc, sb, sc, wa, wc, h⟩ := h
  obtain ⟨c0, c1, c2, c3, c4, c5⟩ := h.cells
  unfold Dk.off
  cases hu : D.up <;> rw [hu] at c5
  · go_enter Tryz.func45, Tryz.ntmps45
    go_wp2
    go_ret
    exact ⟨rfl, rfl⟩
  · go_enter Tryz.func45, Tryz.ntmps45
    go_wp2
    go_ret
    exact ⟨rfl, rfl⟩
set_option maxHeartbeats 400000 in
theorem reach_nil (a : Int) (w : World) : Calls Tryz.prog 101 #[.pointer none, .int .i64 a] w fun e w' => e = .returned (.int .i64 1) ∧ w' = w := by
  have H := off_nil w
  go_enter Tryz.func101, Tryz.ntmps101
  go_wp2_with fail
  refine H.mono ?_
  rintro e w' ⟨rfl, rfl⟩
  go_wp2
  go_ret
  exact ⟨rfl, rfl⟩
set_option maxHeartbeats 400000 in
theorem reach_any {S : Nat → Prop} {g : Nat} {D : Dk} {w : World} (h : DiskIs w S g D) (a : Int) : Calls Tryz.prog 101 #[.pointer (some ⟨g, 0, none⟩), .int .i64 a] w fun e w' => e = .returned (.int .i64 (D.reach a : Int)) ∧ w' = w := by
  have H := off_any h
  obtain ⟨kb, kc, sb, sc, wa, wc, h⟩ := h
  obtain ⟨c0, c1, c2, c3, c4, c5⟩ := h.cells
  unfold Dk.off at H
  unfold Dk.reach
  cases hu : D.up <;> rw [hu] at H
  · go_enter Tryz.func101, Tryz.ntmps101
    go_wp2_with fail
    refine H.mono ?_
    rintro e w' ⟨rfl, rfl⟩
    go_wp2
    go_ret
    exact ⟨rfl, rfl⟩
  · by_cases h1 : a < 0
    · have e1 : (a < 0 ∨ (D.kept.length : Int) ≤ a) := .inl h1
      go_enter Tryz.func101, Tryz.ntmps101
      go_wp2_with fail
      refine H.mono ?_
      rintro e w' ⟨rfl, rfl⟩
      go_wp2
      go_ret
      exact ⟨rfl, rfl⟩
    · by_cases h2 : (D.kept.length : Int) ≤ a
      · have HE : Hid (a < 0 ∨ (D.kept.length : Int) ≤ a) := .inr h2
        go_enter Tryz.func101, Tryz.ntmps101
        go_wp2_with fail
        refine H.mono ?_
        rintro e w' ⟨rfl, rfl⟩
        go_wp2
        go_ret
        exact ⟨rfl, rfl⟩
      · have HE : Hid (¬ (a < 0 ∨ (D.kept.length : Int) ≤ a)) := fun e => e.elim h1 h2
        go_enter Tryz.func101, Tryz.ntmps101
        go_wp2_with fail
        refine H.mono ?_
        rintro e w' ⟨rfl, rfl⟩
        go_wp2
        go_ret
        exact ⟨rfl, rfl⟩
set_option maxHeartbeats 400000 in
theorem size_nil (w : World) : Calls Tryz.prog 49 #[.pointer none] w fun e w' => e = .returned (.int .i64 0) ∧ w' = w := by
  go_enter Tryz.func49, Tryz.ntmps49
  go_wp2
  go_ret
  exact ⟨rfl, rfl⟩
set_option maxHeartbeats 400000 in
theorem size_any {S : Nat → Prop} {g : Nat} {D : Dk} {w : World} (h : DiskIs w S g D) : Calls Tryz.prog 49 #[.pointer (some ⟨g, 0, none⟩)] w fun e w' => e = .returned (.int .i64 (D.kept.length : Int)) ∧ w' = w := by
  obtain ⟨kb, kc, sb, sc, wa, wc, h⟩ := h
  obtain ⟨c0, c1, c2, c3, c4, c5⟩ := h.cells
  go_enter Tryz.func49, Tryz.ntmps49
  go_wp2
  go_ret
  exact ⟨rfl, rfl⟩
set_option maxHeartbeats 400000 in
theorem up_nil (w : World) : Calls Tryz.prog 52 #[.pointer none] w fun e w' => e = .returned (.bool false) ∧ w' = w := by
  go_enter Tryz.func52, Tryz.ntmps52
  go_wp2
  go_ret
  exact ⟨rfl, rfl⟩
set_option maxHeartbeats 400000 in
theorem up_any {S : Nat → Prop} {g : Nat} {D : Dk} {w : World} (h : DiskIs w S g D) : Calls Tryz.prog 52 #[.pointer (some ⟨g, 0, none⟩)] w fun e w' => e = .returned (.bool D.up) ∧ w' = w := by
  obtain ⟨kb, kc, sb, sc, wa, wc, h⟩ := h
  obtain ⟨c0, c1, c2, c3, c4, c5⟩ := h.cells
  go_enter Tryz.func52, Tryz.ntmps52
  go_wp2
  go_ret
  exact ⟨rfl, rfl⟩
set_option maxHeartbeats 400000 in
theorem read_nil (a : Int) (w : World) : Calls Tryz.prog 77 #[.pointer none, .int .i64 a] w fun e w' => e = .returned (.tuple #[.string ⟨#[]⟩, .int .i64 1]) ∧ w' = w := by
  have H := reach_nil a w
  go_enter Tryz.func77, Tryz.ntmps77
  go_wp2_with fail
  refine H.mono ?_
  rintro e w' ⟨rfl, rfl⟩
  go_wp2
  go_ret2
  exact ⟨rfl, rfl⟩
theorem reach_zero {D : Dk} {a : Int} (h : D.reach a = 0) : D.up = true ∧ 0 ≤ a ∧ a < (D.kept.length : Int) := by
  unfold Dk.reach at h
  split at h
  · split at h
    · omega
    · rename_i h1 h2
      refine ⟨h1, ?_, ?_⟩ <;> (rcases Int.lt_or_le a 0 with h3 | h3 <;> rcases Int.lt_or_le a (D.kept.length : Int) with h4 | h4 <;> simp_all)
  · omega
theorem reach_other {D : Dk} {a : Int} (h : ¬ D.reach a = 0) : D.reach a = 9 ∨ D.reach a = 10 := by
  unfold Dk.reach at *
  split at h <;> simp_all
set_option maxHeartbeats 400000 in
theorem read_bad {S : Nat → Prop} {g : Nat} {D : Dk} {w : World} (h : DiskIs w S g D) (a : Int) (hr : ¬ D.reach a = 0) : Calls Tryz.prog 77 #[.pointer (some ⟨g, 0, none⟩), .int .i64 a] w fun e w' => e = .returned (.tuple #[.string ⟨#[]⟩, .int .i64 (D.reach a : Int)]) ∧ w' = w := by
  have H := reach_any h a
  have hr2 := reach_other hr
  generalize D.reach a = r at *
  have hne : ¬ (r : Int) = 0 := by omega
  clear h
  go_enter Tryz.func77, Tryz.ntmps77
  go_wp2_with fail
  refine H.mono ?_
  rintro e w' ⟨rfl, rfl⟩
  go_wp2
  go_ret2
  exact ⟨rfl, rfl⟩
set_option maxHeartbeats 400000 in
theorem read_any {S : Nat → Prop} {g : Nat} {D : Dk} {w : World} (h : DiskIs w S g D) (i : Nat) (hu : D.up = true) (hi : i < D.kept.length) : Calls Tryz.prog 77 #[.pointer (some ⟨g, 0, none⟩), .int .i64 (i : Int)] w fun e w' => e = .returned (.tuple #[.string (D.seen.getD i ByteArray.empty), .int .i64 0]) ∧ w' = w := by
  have H := reach_any h (i : Int)
  have hr : D.reach (i : Int) = 0 := by unfold Dk.reach; rw [if_pos hu, if_neg (by omega)]
  rw [hr] at H
  obtain ⟨kb, kc, sb, sc, wa, wc, h⟩ := h
  obtain ⟨c0, c1, c2, c3, c4, c5⟩ := h.cells
  have cs := h.seenAt i hi
  have k1 : (i : Int) < (D.kept.length : Int) := by omega
  generalize D.seen.getD i ByteArray.empty = t at *
  go_enter Tryz.func77, Tryz.ntmps77
  go_wp2_with fail
  refine H.mono ?_
  rintro e w' ⟨rfl, rfl⟩
  go_wp2
  go_ret2
  exact ⟨rfl, rfl⟩
end Go.Proofs.YtnafalkcgghjgaaGreatDoor
