/- Walks over the program's New, Clear, Sum of a Window. -/
import Derived.Test.YtebmmhgmbnbnnaaH
namespace Go.Proofs.Ytebmmhgmbnbnnaa
open Go.RowKit
set_option maxHeartbeats 400000 in
theorem clear_any (r g n : Nat) (l : List UInt8) (B : Nat) (w : World) (h : WinIs w r g n l) (hB : B ≤ g) :
    Calls Try.prog 33 #[.pointer (some ⟨g, 0, none⟩)] w fun e w' => e = .returned (.tuple #[]) ∧ WinIs w' r g n [] ∧ Below B w w' := by
  obtain ⟨h0, h1, ring, f, hr, hg, hrr⟩ := h
  obtain ⟨c0, c1, c2, c3⟩ := win_cells hg
  have f1 := frozen_of_row w g 1 _ _ hg
  have f2 := frozen_of_row w g 2 _ _ hg
  have f3 := frozen_of_row w g 3 _ _ hg
  go_enter Try.func33, Try.ntmps33
  have HW : Hid (WinIs (((w.setCell ⟨g, 1, none⟩ (.int .i64 0)).setCell ⟨g, 2, none⟩ (.int .i64 0)).setCell ⟨g, 3, none⟩ (.int .u32 0)) r g n []) := by
    refine ⟨h0, h1, ring, 0, Rel.none n ring 0 (by have := hr.kf; omega) hr.kn, ?_, ?_⟩
    · rw [heap_setCell_same _ g 3 _ _ _ (heap_setCell_same _ g 2 _ _ _ (heap_setCell_same w g 1 _ _ _ hg))]
      rfl
    · rw [heap_setCell_other _ _ _ _ h1, heap_setCell_other _ _ _ _ h1, heap_setCell_other _ _ _ _ h1]
      exact hrr
  go_wp2
  refine bodyPost_end (v := .tuple #[]) ?_ rfl ⟨rfl, HW.out, (((Below.refl _ w).setCell hB _).setCell hB _).setCell hB _⟩
  simp [results, go_sem]
set_option maxHeartbeats 400000 in
theorem clear_nil (w : World) : Calls Try.prog 33 #[.pointer none] w fun e w' => e = .returned (.tuple #[]) ∧ w' = w := by
  go_enter Try.func33, Try.ntmps33
  go_wp2
  refine bodyPost_ret (v := .tuple #[]) ?_ rfl ⟨rfl, rfl⟩
  simp [results, go_sem]
set_option maxHeartbeats 400000 in
theorem wsum_nil (w : World) : Calls Try.prog 37 #[.pointer none] w fun e w' => e = .returned (.tuple #[.int .u32 0, .bool false]) ∧ w' = w := by
  go_enter Try.func37, Try.ntmps37
  go_wp2
  go_ret2
  exact ⟨rfl, rfl⟩
set_option maxHeartbeats 400000 in
theorem new_bad (x : Int) (w : World) (h : x < 1 ∨ 65536 < x) : Calls Try.prog 24 #[.int .i64 x] w fun e w' => e = .returned (.tuple #[.pointer none, .int .i64 1]) ∧ w' = w := by
  by_cases h1 : x < 1
  · go_enter Try.func24, Try.ntmps24
    go_wp2
    go_ret2
    exact ⟨rfl, rfl⟩
  · have h2 : 65536 < x := by omega
    go_enter Try.func24, Try.ntmps24
    go_wp2
    go_ret2
    exact ⟨rfl, rfl⟩
set_option maxRecDepth 100000 in
set_option maxHeartbeats 400000 in
theorem new_any (n : Nat) (w : World) (h1 : 1 ≤ n) (h2 : n ≤ 65536) : Calls Try.prog 24 #[.int .i64 (n : Int)] w fun e w' => e = .returned (.tuple #[.pointer (some ⟨w.heap.size + 1, 0, none⟩), .int .i64 0]) ∧ WinIs w' w.heap.size (w.heap.size + 1) n [] ∧ Below w.heap.size w w' := by
  have k1 : ¬ (n : Int) < 1 := by omega
  have k2 : ¬ (65536 : Int) < (n : Int) := by omega
  have hmk : (Instr.makeSlice 36 (.int .i64 (n : Int)) (.int .i64 (n : Int))).run Try.prog w = .ok (.slice (some ⟨w.heap.size, 0, none⟩) n n) (w.alloc (.cells (u8v (List.replicate n 0)) 5)) := by
    have := run_make (P := Try.prog) w 36 5 _ (.int .u8 0) Try.underlying36 rfl rfl .i64 .i64 (n : Int) (n : Int) (by omega) (by omega) (by show (1 : Int) * _ ≤ _; omega) (by omega)
    rw [this, show (n : Int).toNat = n by omega, ← u8v_made, show Try.prog.types[5].size = 1 from rfl, Nat.mul_one]
    rfl
  go_enter Try.func24, Try.ntmps24
  go_wp2_with (simp only [hmk])
  go_ret2
  refine ⟨rfl, ⟨h2, by omega, List.replicate n 0, 0, Rel.none n _ 0 (by omega) (by simp), ?_, ?_⟩, ?_⟩
  · have := heap_alloc_new (w.alloc (.cells (u8v (List.replicate n 0)) 5)) (.cells (wcells w.heap.size n 0 0 0) 66 (0, 0))
    rw [show (w.alloc (.cells (u8v (List.replicate n 0)) 5)).heap.size = w.heap.size + 1 by simp] at this
    exact this
  · rw [Go.heap_alloc_old _ _ (by simp)]
    exact heap_alloc_new w _
  · exact ((Below.refl _ w).alloc (Nat.le_refl _) _).alloc (by simp) _
set_option maxRecDepth 100000 in
set_option maxHeartbeats 400000 in
theorem winsum_any (r g n : Nat) (l : List UInt8) (w : World) (h : WinIs w r g n l) :
    Calls Try.prog 37 #[.pointer (some ⟨g, 0, none⟩)] w fun e w' => e = .returned (.tuple #[.int .u32 (wsum l : Int), .bool (decide (l.length = n))]) ∧ w' = w.drew := by
  obtain ⟨h0, h1, ring, f, hr, hg, hrr⟩ := h
  obtain ⟨c0, c1, c2, c3⟩ := win_cells hg
  go_enter Try.func37, Try.ntmps37
  go_wp2
  go_region
  all_goals
    go_wp2
    go_ret2
    refine ⟨ret_val ?_, rfl⟩
    have e : ((l.length : Int) == (n : Int)) = decide (l.length = n) := by
      by_cases h : l.length = n
      · rw [h]; simp
      · have : ¬ (l.length : Int) = (n : Int) := by omega
        simp [h, this]
    rw [e]
    rfl
end Go.Proofs.Ytebmmhgmbnbnnaa
