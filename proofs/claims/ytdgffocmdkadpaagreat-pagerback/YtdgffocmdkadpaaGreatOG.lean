/- A walk over the statements' filled. A walk over the statements' lives. Steps that came in. -/
import Derived.Test.YtdgffocmdkadpaaGreatPJ
import Derived.Test.YtdgffocmdkadpaaGreatPQ
import Derived.Test.YtdgffocmdkadpaaGreatOC
import Derived.WalkKit
import Derived.ProofKit
import Derived.OpenShut
import Derived.SizedLaws
import Derived.Deep.Slices
namespace Go.Proofs.YtdgffocmdkadpaaGreat
open Go.RowKit Go.Shelf
set_option maxRecDepth 100000 in
set_option maxHeartbeats 1000000 in
theorem filled_none (q0 q1 k : Int) (f : Nat) (w : World) (hf : f < 256) (T : ByteArray) (hT : strOf (List.replicate 1024 (UInt8.ofNat f)) = T) :
    Calls Tryz.prog 37 #[.agg #[.int .i64 q0, .int .i64 q1, .int .i64 k, .int .i64 0, .int .u8 (f : Int)]] w fun e w' => e = .returned (.string T) ∧ Below w.heap.size w w' := by
  have HT : Hid (strOf (List.replicate 1024 (UInt8.ofNat f)) = T) := hT
  clear hT
  obtain ⟨b, hb⟩ : ∃ b, w.heap.size = b := ⟨_, rfl⟩
  obtain ⟨W1, hW1⟩ : ∃ W1, w.alloc (.cells #[.int .i64 q0, .int .i64 q1, .int .i64 k, .int .i64 0, .int .u8 (f : Int)] 57) = W1 := ⟨_, rfl⟩
  have hb1 : Below b w W1 := by rw [← hW1, ← hb]; exact (Below.refl _ w).alloc (Nat.le_refl _) _
  have hr1 : W1.heap[b]? = some (.cells #[.int .i64 q0, .int .i64 q1, .int .i64 k, .int .i64 0, .int .u8 (f : Int)] 57 (0, 0)) := by rw [← hW1, ← hb]; exact heap_alloc_new w _
  have cL : W1.cell? ⟨b, 3, none⟩ = some (.int .i64 0) := by rw [cell_of_row _ b _ _ _ _ hr1]; rfl
  have hmk : (Instr.makeSlice 22 (.int .i64 1024) (.int .i64 1024)).run Tryz.prog W1 = .ok (.slice (some ⟨W1.heap.size, 0, none⟩) 1024 1024) (W1.alloc (.cells (u8r f 0 1024) 5)) := by
    have := run_make (P := Tryz.prog) W1 22 5 _ (.int .u8 0) Tryz.underlying22 rfl rfl .i64 .i64 1024 1024 (by omega) (by omega) (by show (1 : Int) * _ ≤ _; omega) (by omega)
    rw [this, show (1024 : Int).toNat = 1024 by omega, ← u8r_made f, show Tryz.prog.types[5].size = 1 from rfl, Nat.mul_one]
    rfl
  obtain ⟨c, hc⟩ : ∃ c, W1.heap.size = c := ⟨_, rfl⟩
  obtain ⟨W2, hW2⟩ : ∃ W2, W1.alloc (.cells (u8r f 0 1024) 5) = W2 := ⟨_, rfl⟩
  rw [hW2, hc] at hmk
  have hbc : b < c := by rw [← hc]; exact lt_of_some hr1
  have HI : Hid (W2.heap[c]? = some (.cells (u8r f 0 1024) 5 (0, 0)) ∧ W2.heap[b]? = some (.cells #[.int .i64 q0, .int .i64 q1, .int .i64 k, .int .i64 0, .int .u8 (f : Int)] 57 (0, 0)) ∧ Below b w W2) := by
    rw [← hW2]
    refine ⟨by rw [← hc]; exact heap_alloc_new W1 _, ?_, hb1.alloc (by omega) _⟩
    rw [Below.heap_alloc _ _ _ (by omega)]
    exact hr1
  clear hb1 hr1
  go_enter Tryz.func37, Tryz.ntmps37
  go_wp2
  go_loopw [5] (fun v wr => ∃ m : Nat, m ≤ 1024 ∧ v = .int .i64 m ∧ wr.heap[c]? = some (.cells (u8r f m 1024) 5 (0, 0)) ∧ wr.heap[b]? = some (.cells #[.int .i64 q0, .int .i64 q1, .int .i64 k, .int .i64 0, .int .u8 (f : Int)] 57 (0, 0)) ∧ Below b w wr) (fun v _ => 1024 - (intOf v).toNat)
  case atStart => exact ⟨0, by omega, rfl, HI.out⟩
  case round =>
    clear HI cL hmk hW1 hW2
    obtain ⟨m, hm, rfl, hrc, hrb, hbel⟩ := hrel
    by_cases hlt : m < 1024
    · have kk : (m : Int) < 1024 := by omega
      have cf : wr.cell? ⟨b, 4, none⟩ = some (.int .u8 (f : Int)) := by rw [cell_of_row _ b _ _ _ _ hrb]; rfl
      have cm : wr.cell? ⟨c, m, none⟩ = some (.int .u8 0) := by
        rw [cell_of_row _ c _ _ _ _ hrc]
        simp only [u8r, List.getElem?_toArray]
        rw [List.getElem?_append_right (by simp), List.getElem?_replicate, if_pos (by simp; omega)]
      have fm := frozen_of_row wr c m _ _ hrc
      have HN : Hid ((wr.setCell ⟨c, m, none⟩ (.int .u8 (f : Int))).heap[c]? = some (.cells (u8r f (m + 1) 1024) 5 (0, 0)) ∧ (wr.setCell ⟨c, m, none⟩ (.int .u8 (f : Int))).heap[b]? = some (.cells #[.int .i64 q0, .int .i64 q1, .int .i64 k, .int .i64 0, .int .u8 (f : Int)] 57 (0, 0)) ∧ Below b w (wr.setCell ⟨c, m, none⟩ (.int .u8 (f : Int)))) := by
        refine ⟨?_, ?_, hbel.setCell (by show _ ≤ c; omega) _⟩
        · rw [heap_setCell_same wr c m _ _ _ hrc, u8r_set f m 1024 hlt]
        · rw [heap_setCell_other _ _ _ _ (by show b ≠ c; omega)]; exact hrb
      clear hrc hrb hbel
      go_wp2
      exact ⟨⟨m + 1, by omega, by go_num, HN.out⟩, by simp [intOf]; omega⟩
    · obtain rfl : m = 1024 := by omega
      have kk : ¬ (1024 : Int) < 1024 := by omega
      have hcv : (convert 22 9 (.slice (some ⟨c, 0, none⟩) 1024 1024)).run Tryz.prog wr = .ok (.string (strOf (List.replicate 1024 (UInt8.ofNat f)))) wr := by
        refine conv_row wr c 1024 _ (by simp) (fun i hi => ?_)
        rw [cell_of_row _ c _ _ _ _ hrc, Nat.zero_add]
        simp only [u8r, List.getElem?_toArray]
        rw [List.getElem?_append_left (by simpa using hi), List.getElem?_replicate, if_pos hi, List.getD_eq_getElem?_getD, List.getElem?_replicate, if_pos hi]
        simp [Nat.mod_eq_of_lt hf]
      clear hrc hrb
      rw [HT.out] at hcv
      go_wp2
      go_ret
      exact ⟨rfl, hbel⟩
set_option maxRecDepth 100000 in
set_option maxHeartbeats 1000000 in
theorem filled_less (q0 q1 k L : Int) (f : Nat) (w : World) (hf : f < 256) (h1 : L < 0) (T : ByteArray) (hT : strOf (List.replicate 1 (UInt8.ofNat f)) = T) :
    Calls Tryz.prog 37 #[.agg #[.int .i64 q0, .int .i64 q1, .int .i64 k, .int .i64 L, .int .u8 (f : Int)]] w fun e w' => e = .returned (.string T) ∧ Below w.heap.size w w' := by
  have HT : Hid (strOf (List.replicate 1 (UInt8.ofNat f)) = T) := hT
  clear hT
  have h0 : ¬ L = 0 := by omega
  obtain ⟨b, hb⟩ : ∃ b, w.heap.size = b := ⟨_, rfl⟩
  obtain ⟨W1, hW1⟩ : ∃ W1, w.alloc (.cells #[.int .i64 q0, .int .i64 q1, .int .i64 k, .int .i64 L, .int .u8 (f : Int)] 57) = W1 := ⟨_, rfl⟩
  have hb1 : Below b w W1 := by rw [← hW1, ← hb]; exact (Below.refl _ w).alloc (Nat.le_refl _) _
  have hr1 : W1.heap[b]? = some (.cells #[.int .i64 q0, .int .i64 q1, .int .i64 k, .int .i64 L, .int .u8 (f : Int)] 57 (0, 0)) := by rw [← hW1, ← hb]; exact heap_alloc_new w _
  have cL : W1.cell? ⟨b, 3, none⟩ = some (.int .i64 L) := by rw [cell_of_row _ b _ _ _ _ hr1]; rfl
  have hmk : (Instr.makeSlice 22 (.int .i64 1) (.int .i64 1)).run Tryz.prog W1 = .ok (.slice (some ⟨W1.heap.size, 0, none⟩) 1 1) (W1.alloc (.cells (u8r f 0 1) 5)) := by
    have := run_make (P := Tryz.prog) W1 22 5 _ (.int .u8 0) Tryz.underlying22 rfl rfl .i64 .i64 1 1 (by omega) (by omega) (by show (1 : Int) * _ ≤ _; omega) (by omega)
    rw [this, show (1 : Int).toNat = 1 by omega, ← u8r_made f, show Tryz.prog.types[5].size = 1 from rfl, Nat.mul_one]
    rfl
  obtain ⟨c, hc⟩ : ∃ c, W1.heap.size = c := ⟨_, rfl⟩
  obtain ⟨W2, hW2⟩ : ∃ W2, W1.alloc (.cells (u8r f 0 1) 5) = W2 := ⟨_, rfl⟩
  rw [hW2, hc] at hmk
  have hbc : b < c := by rw [← hc]; exact lt_of_some hr1
  have HI : Hid (W2.heap[c]? = some (.cells (u8r f 0 1) 5 (0, 0)) ∧ W2.heap[b]? = some (.cells #[.int .i64 q0, .int .i64 q1, .int .i64 k, .int .i64 L, .int .u8 (f : Int)] 57 (0, 0)) ∧ Below b w W2) := by
    rw [← hW2]
    refine ⟨by rw [← hc]; exact heap_alloc_new W1 _, ?_, hb1.alloc (by omega) _⟩
    rw [Below.heap_alloc _ _ _ (by omega)]
    exact hr1
  clear hb1 hr1
  go_enter Tryz.func37, Tryz.ntmps37
  go_wp2
  go_loopw [5] (fun v wr => ∃ m : Nat, m ≤ 1 ∧ v = .int .i64 m ∧ wr.heap[c]? = some (.cells (u8r f m 1) 5 (0, 0)) ∧ wr.heap[b]? = some (.cells #[.int .i64 q0, .int .i64 q1, .int .i64 k, .int .i64 L, .int .u8 (f : Int)] 57 (0, 0)) ∧ Below b w wr) (fun v _ => 1 - (intOf v).toNat)
  case atStart => exact ⟨0, by omega, rfl, HI.out⟩
  case round =>
    clear HI cL hmk hW1 hW2
    obtain ⟨m, hm, rfl, hrc, hrb, hbel⟩ := hrel
    by_cases hlt : m < 1
    · have kk : (m : Int) < 1 := by omega
      have cf : wr.cell? ⟨b, 4, none⟩ = some (.int .u8 (f : Int)) := by rw [cell_of_row _ b _ _ _ _ hrb]; rfl
      have cm : wr.cell? ⟨c, m, none⟩ = some (.int .u8 0) := by
        rw [cell_of_row _ c _ _ _ _ hrc]
        simp only [u8r, List.getElem?_toArray]
        rw [List.getElem?_append_right (by simp), List.getElem?_replicate, if_pos (by simp; omega)]
      have fm := frozen_of_row wr c m _ _ hrc
      have HN : Hid ((wr.setCell ⟨c, m, none⟩ (.int .u8 (f : Int))).heap[c]? = some (.cells (u8r f (m + 1) 1) 5 (0, 0)) ∧ (wr.setCell ⟨c, m, none⟩ (.int .u8 (f : Int))).heap[b]? = some (.cells #[.int .i64 q0, .int .i64 q1, .int .i64 k, .int .i64 L, .int .u8 (f : Int)] 57 (0, 0)) ∧ Below b w (wr.setCell ⟨c, m, none⟩ (.int .u8 (f : Int)))) := by
        refine ⟨?_, ?_, hbel.setCell (by show _ ≤ c; omega) _⟩
        · rw [heap_setCell_same wr c m _ _ _ hrc, u8r_set f m 1 hlt]
        · rw [heap_setCell_other _ _ _ _ (by show b ≠ c; omega)]; exact hrb
      clear hrc hrb hbel
      go_wp2
      exact ⟨⟨m + 1, by omega, by go_num, HN.out⟩, by simp [intOf]; omega⟩
    · obtain rfl : m = 1 := by omega
      have kk : ¬ (1 : Int) < 1 := by omega
      have hcv : (convert 22 9 (.slice (some ⟨c, 0, none⟩) 1 1)).run Tryz.prog wr = .ok (.string (strOf (List.replicate 1 (UInt8.ofNat f)))) wr := by
        refine conv_row wr c 1 _ (by simp) (fun i hi => ?_)
        rw [cell_of_row _ c _ _ _ _ hrc, Nat.zero_add]
        simp only [u8r, List.getElem?_toArray]
        rw [List.getElem?_append_left (by simpa using hi), List.getElem?_replicate, if_pos hi, List.getD_eq_getElem?_getD, List.getElem?_replicate, if_pos hi]
        simp [Nat.mod_eq_of_lt hf]
      clear hrc hrb
      rw [HT.out] at hcv
      go_wp2
      go_ret
      exact ⟨rfl, hbel⟩
set_option maxRecDepth 100000 in
set_option maxHeartbeats 1000000 in
theorem filled_more (q0 q1 k L : Int) (f : Nat) (w : World) (hf : f < 256) (h1 : 3000 < L) (T : ByteArray) (hT : strOf (List.replicate 1 (UInt8.ofNat f)) = T) :
    Calls Tryz.prog 37 #[.agg #[.int .i64 q0, .int .i64 q1, .int .i64 k, .int .i64 L, .int .u8 (f : Int)]] w fun e w' => e = .returned (.string T) ∧ Below w.heap.size w w' := by
  have HT : Hid (strOf (List.replicate 1 (UInt8.ofNat f)) = T) := hT
  clear hT
  have h0 : ¬ L = 0 := by omega
  have h01 : ¬ L < 0 := by omega
  obtain ⟨b, hb⟩ : ∃ b, w.heap.size = b := ⟨_, rfl⟩
  obtain ⟨W1, hW1⟩ : ∃ W1, w.alloc (.cells #[.int .i64 q0, .int .i64 q1, .int .i64 k, .int .i64 L, .int .u8 (f : Int)] 57) = W1 := ⟨_, rfl⟩
  have hb1 : Below b w W1 := by rw [← hW1, ← hb]; exact (Below.refl _ w).alloc (Nat.le_refl _) _
  have hr1 : W1.heap[b]? = some (.cells #[.int .i64 q0, .int .i64 q1, .int .i64 k, .int .i64 L, .int .u8 (f : Int)] 57 (0, 0)) := by rw [← hW1, ← hb]; exact heap_alloc_new w _
  have cL : W1.cell? ⟨b, 3, none⟩ = some (.int .i64 L) := by rw [cell_of_row _ b _ _ _ _ hr1]; rfl
  have hmk : (Instr.makeSlice 22 (.int .i64 1) (.int .i64 1)).run Tryz.prog W1 = .ok (.slice (some ⟨W1.heap.size, 0, none⟩) 1 1) (W1.alloc (.cells (u8r f 0 1) 5)) := by
    have := run_make (P := Tryz.prog) W1 22 5 _ (.int .u8 0) Tryz.underlying22 rfl rfl .i64 .i64 1 1 (by omega) (by omega) (by show (1 : Int) * _ ≤ _; omega) (by omega)
    rw [this, show (1 : Int).toNat = 1 by omega, ← u8r_made f, show Tryz.prog.types[5].size = 1 from rfl, Nat.mul_one]
    rfl
  obtain ⟨c, hc⟩ : ∃ c, W1.heap.size = c := ⟨_, rfl⟩
  obtain ⟨W2, hW2⟩ : ∃ W2, W1.alloc (.cells (u8r f 0 1) 5) = W2 := ⟨_, rfl⟩
  rw [hW2, hc] at hmk
  have hbc : b < c := by rw [← hc]; exact lt_of_some hr1
  have HI : Hid (W2.heap[c]? = some (.cells (u8r f 0 1) 5 (0, 0)) ∧ W2.heap[b]? = some (.cells #[.int .i64 q0, .int .i64 q1, .int .i64 k, .int .i64 L, .int .u8 (f : Int)] 57 (0, 0)) ∧ Below b w W2) := by
    rw [← hW2]
    refine ⟨by rw [← hc]; exact heap_alloc_new W1 _, ?_, hb1.alloc (by omega) _⟩
    rw [Below.heap_alloc _ _ _ (by omega)]
    exact hr1
  clear hb1 hr1
  go_enter Tryz.func37, Tryz.ntmps37
  go_wp2
  go_loopw [5] (fun v wr => ∃ m : Nat, m ≤ 1 ∧ v = .int .i64 m ∧ wr.heap[c]? = some (.cells (u8r f m 1) 5 (0, 0)) ∧ wr.heap[b]? = some (.cells #[.int .i64 q0, .int .i64 q1, .int .i64 k, .int .i64 L, .int .u8 (f : Int)] 57 (0, 0)) ∧ Below b w wr) (fun v _ => 1 - (intOf v).toNat)
  case atStart => exact ⟨0, by omega, rfl, HI.out⟩
  case round =>
    clear HI cL hmk hW1 hW2
    obtain ⟨m, hm, rfl, hrc, hrb, hbel⟩ := hrel
    by_cases hlt : m < 1
    · have kk : (m : Int) < 1 := by omega
      have cf : wr.cell? ⟨b, 4, none⟩ = some (.int .u8 (f : Int)) := by rw [cell_of_row _ b _ _ _ _ hrb]; rfl
      have cm : wr.cell? ⟨c, m, none⟩ = some (.int .u8 0) := by
        rw [cell_of_row _ c _ _ _ _ hrc]
        simp only [u8r, List.getElem?_toArray]
        rw [List.getElem?_append_right (by simp), List.getElem?_replicate, if_pos (by simp; omega)]
      have fm := frozen_of_row wr c m _ _ hrc
      have HN : Hid ((wr.setCell ⟨c, m, none⟩ (.int .u8 (f : Int))).heap[c]? = some (.cells (u8r f (m + 1) 1) 5 (0, 0)) ∧ (wr.setCell ⟨c, m, none⟩ (.int .u8 (f : Int))).heap[b]? = some (.cells #[.int .i64 q0, .int .i64 q1, .int .i64 k, .int .i64 L, .int .u8 (f : Int)] 57 (0, 0)) ∧ Below b w (wr.setCell ⟨c, m, none⟩ (.int .u8 (f : Int)))) := by
        refine ⟨?_, ?_, hbel.setCell (by show _ ≤ c; omega) _⟩
        · rw [heap_setCell_same wr c m _ _ _ hrc, u8r_set f m 1 hlt]
        · rw [heap_setCell_other _ _ _ _ (by show b ≠ c; omega)]; exact hrb
      clear hrc hrb hbel
      go_wp2
      exact ⟨⟨m + 1, by omega, by go_num, HN.out⟩, by simp [intOf]; omega⟩
    · obtain rfl : m = 1 := by omega
      have kk : ¬ (1 : Int) < 1 := by omega
      have hcv : (convert 22 9 (.slice (some ⟨c, 0, none⟩) 1 1)).run Tryz.prog wr = .ok (.string (strOf (List.replicate 1 (UInt8.ofNat f)))) wr := by
        refine conv_row wr c 1 _ (by simp) (fun i hi => ?_)
        rw [cell_of_row _ c _ _ _ _ hrc, Nat.zero_add]
        simp only [u8r, List.getElem?_toArray]
        rw [List.getElem?_append_left (by simpa using hi), List.getElem?_replicate, if_pos hi, List.getD_eq_getElem?_getD, List.getElem?_replicate, if_pos hi]
        simp [Nat.mod_eq_of_lt hf]
      clear hrc hrb
      rw [HT.out] at hcv
      go_wp2
      go_ret
      exact ⟨rfl, hbel⟩
set_option maxRecDepth 100000 in
set_option maxHeartbeats 1000000 in
theorem filled_just (q0 q1 k : Int) (f : Nat) (w : World) (hf : f < 256) (n : Nat) (hn : n ≤ 3000) (h2 : 1 ≤ n) (T : ByteArray) (hT : strOf (List.replicate n (UInt8.ofNat f)) = T) :
    Calls Tryz.prog 37 #[.agg #[.int .i64 q0, .int .i64 q1, .int .i64 k, .int .i64 (n : Int), .int .u8 (f : Int)]] w fun e w' => e = .returned (.string T) ∧ Below w.heap.size w w' := by
  have HT : Hid (strOf (List.replicate n (UInt8.ofNat f)) = T) := hT
  clear hT
  have h0 : ¬ (n : Int) = 0 := by omega
  have h01 : ¬ (n : Int) < 0 := by omega
  have h02 : ¬ (3000 : Int) < (n : Int) := by omega
  obtain ⟨b, hb⟩ : ∃ b, w.heap.size = b := ⟨_, rfl⟩
  obtain ⟨W1, hW1⟩ : ∃ W1, w.alloc (.cells #[.int .i64 q0, .int .i64 q1, .int .i64 k, .int .i64 (n : Int), .int .u8 (f : Int)] 57) = W1 := ⟨_, rfl⟩
  have hb1 : Below b w W1 := by rw [← hW1, ← hb]; exact (Below.refl _ w).alloc (Nat.le_refl _) _
  have hr1 : W1.heap[b]? = some (.cells #[.int .i64 q0, .int .i64 q1, .int .i64 k, .int .i64 (n : Int), .int .u8 (f : Int)] 57 (0, 0)) := by rw [← hW1, ← hb]; exact heap_alloc_new w _
  have cL : W1.cell? ⟨b, 3, none⟩ = some (.int .i64 (n : Int)) := by rw [cell_of_row _ b _ _ _ _ hr1]; rfl
  have hmk : (Instr.makeSlice 22 (.int .i64 (n : Int)) (.int .i64 (n : Int))).run Tryz.prog W1 = .ok (.slice (some ⟨W1.heap.size, 0, none⟩) n n) (W1.alloc (.cells (u8r f 0 n) 5)) := by
    have := run_make (P := Tryz.prog) W1 22 5 _ (.int .u8 0) Tryz.underlying22 rfl rfl .i64 .i64 (n : Int) (n : Int) (by omega) (by omega) (by show (1 : Int) * _ ≤ _; omega) (by omega)
    rw [this, show ((n : Int) : Int).toNat = n by omega, ← u8r_made f, show Tryz.prog.types[5].size = 1 from rfl, Nat.mul_one]
    rfl
  obtain ⟨c, hc⟩ : ∃ c, W1.heap.size = c := ⟨_, rfl⟩
  obtain ⟨W2, hW2⟩ : ∃ W2, W1.alloc (.cells (u8r f 0 n) 5) = W2 := ⟨_, rfl⟩
  rw [hW2, hc] at hmk
  have hbc : b < c := by rw [← hc]; exact lt_of_some hr1
  have HI : Hid (W2.heap[c]? = some (.cells (u8r f 0 n) 5 (0, 0)) ∧ W2.heap[b]? = some (.cells #[.int .i64 q0, .int .i64 q1, .int .i64 k, .int .i64 (n : Int), .int .u8 (f : Int)] 57 (0, 0)) ∧ Below b w W2) := by
    rw [← hW2]
    refine ⟨by rw [← hc]; exact heap_alloc_new W1 _, ?_, hb1.alloc (by omega) _⟩
    rw [Below.heap_alloc _ _ _ (by omega)]
    exact hr1
  clear hb1 hr1
  go_enter Tryz.func37, Tryz.ntmps37
  go_wp2
  go_loopw [5] (fun v wr => ∃ m : Nat, m ≤ n ∧ v = .int .i64 m ∧ wr.heap[c]? = some (.cells (u8r f m n) 5 (0, 0)) ∧ wr.heap[b]? = some (.cells #[.int .i64 q0, .int .i64 q1, .int .i64 k, .int .i64 (n : Int), .int .u8 (f : Int)] 57 (0, 0)) ∧ Below b w wr) (fun v _ => n - (intOf v).toNat)
  case atStart => exact ⟨0, by omega, rfl, HI.out⟩
  case round =>
    clear HI cL hmk hW1 hW2
    obtain ⟨m, hm, rfl, hrc, hrb, hbel⟩ := hrel
    by_cases hlt : m < n
    · have kk : (m : Int) < (n : Int) := by omega
      have cf : wr.cell? ⟨b, 4, none⟩ = some (.int .u8 (f : Int)) := by rw [cell_of_row _ b _ _ _ _ hrb]; rfl
      have cm : wr.cell? ⟨c, m, none⟩ = some (.int .u8 0) := by
        rw [cell_of_row _ c _ _ _ _ hrc]
        simp only [u8r, List.getElem?_toArray]
        rw [List.getElem?_append_right (by simp), List.getElem?_replicate, if_pos (by simp; omega)]
      have fm := frozen_of_row wr c m _ _ hrc
      have HN : Hid ((wr.setCell ⟨c, m, none⟩ (.int .u8 (f : Int))).heap[c]? = some (.cells (u8r f (m + 1) n) 5 (0, 0)) ∧ (wr.setCell ⟨c, m, none⟩ (.int .u8 (f : Int))).heap[b]? = some (.cells #[.int .i64 q0, .int .i64 q1, .int .i64 k, .int .i64 (n : Int), .int .u8 (f : Int)] 57 (0, 0)) ∧ Below b w (wr.setCell ⟨c, m, none⟩ (.int .u8 (f : Int)))) := by
        refine ⟨?_, ?_, hbel.setCell (by show _ ≤ c; omega) _⟩
        · rw [heap_setCell_same wr c m _ _ _ hrc, u8r_set f m n hlt]
        · rw [heap_setCell_other _ _ _ _ (by show b ≠ c; omega)]; exact hrb
      clear hrc hrb hbel
      go_wp2
      exact ⟨⟨m + 1, by omega, by go_num, HN.out⟩, by simp [intOf]; omega⟩
    · obtain rfl : n = m := by omega
      have kk : ¬ ((n : Int) : Int) < (n : Int) := by omega
      have hcv : (convert 22 9 (.slice (some ⟨c, 0, none⟩) n n)).run Tryz.prog wr = .ok (.string (strOf (List.replicate n (UInt8.ofNat f)))) wr := by
        refine conv_row wr c n _ (by simp) (fun i hi => ?_)
        rw [cell_of_row _ c _ _ _ _ hrc, Nat.zero_add]
        simp only [u8r, List.getElem?_toArray]
        rw [List.getElem?_append_left (by simpa using hi), List.getElem?_replicate, if_pos hi, List.getD_eq_getElem?_getD, List.getElem?_replicate, if_pos hi]
        simp [Nat.mod_eq_of_lt hf]
      clear hrc hrb
      rw [HT.out] at hcv
      go_wp2
      go_ret
      exact ⟨rfl, hbel⟩
theorem filled_any (q0 q1 k L : Int) (f : Nat) (w : World) (hf : f < 256) :
    Calls Tryz.prog 37 #[.agg #[.int .i64 q0, .int .i64 q1, .int .i64 k, .int .i64 L, .int .u8 (f : Int)]] w fun e w' => e = .returned (.string (fillS L f)) ∧ Below w.heap.size w w' := by
  unfold fillS fillN
  by_cases h0 : L = 0
  · rw [if_pos h0, h0]
    exact filled_none q0 q1 k f w hf _ rfl
  · rw [if_neg h0]
    by_cases h1 : L < 0
    · rw [if_pos (.inl h1)]
      exact filled_less q0 q1 k L f w hf h1 _ rfl
    · by_cases h2 : 3000 < L
      · rw [if_pos (.inr h2)]
        exact filled_more q0 q1 k L f w hf h2 _ rfl
      · rw [if_neg (by omega)]
        have := filled_just q0 q1 k f w hf L.toNat (by omega) (by omega) _ rfl
        rw [show ((L.toNat : Nat) : Int) = L by omega] at this
        exact this
end Go.Proofs.YtdgffocmdkadpaaGreat
namespace Go.Proofs.YtdgffocmdkadpaaGreat
open Go.RowKit Go.Shelf Pg
section
variable {h0 : Nat} {F : Nat → Prop} {w : World} {S : Nat → Prop} {g : Nat} {D : Dk} {pb jb n : Nat} {X : Px}
/-- Alloc, where it is known which page is the first that is free. -/
theorem palloc_at (h : Pgr h0 F w S g D pb jb n X) (i : Nat) (hi1 : 1 ≤ i) (hi : i < n) (hf : X.now.h.has i = false) (hu : ∀ j, j < i → X.now.h.has j = true) : Calls Tryz.prog 28 #[.pointer (some ⟨pb, 0, none⟩)] w fun e w' => e = .returned (.tuple #[.int .i64 (i : Int), .int .i64 0]) ∧ PTo h0 F w g D pb jb n (X.alc i) w' := by
  refine (palloc_any h).mono ?_
  rintro e w' (⟨i', h1, h2, h3, h4, rfl, h5⟩ | ⟨h1, rfl, h2⟩)
  · have : i' = i := by
      rcases Nat.lt_trichotomy i' i with hl | hl | hl
      · have := hu i' hl; rw [h3] at this; cases this
      · exact hl
      · have := h4 i hl; rw [hf] at this; cases this
    subst this
    exact ⟨rfl, h5⟩
  · have := h1 i hi; rw [hf] at this; cases this
theorem palloc_full (h : Pgr h0 F w S g D pb jb n X) (hu : ∀ j, j < n → X.now.h.has j = true) : Calls Tryz.prog 28 #[.pointer (some ⟨pb, 0, none⟩)] w fun e w' => e = .returned (.tuple #[.int .i64 0, .int .i64 5]) ∧ PTo h0 F w g D pb jb n X w' := by
  refine (palloc_any h).mono ?_
  rintro e w' (⟨i', h1, h2, h3, h4, rfl, h5⟩ | ⟨h1, rfl, h2⟩)
  · have := hu i' h2; rw [h3] at this; cases this
  · exact ⟨rfl, h2⟩
end
set_option maxRecDepth 100000 in
set_option maxHeartbeats 4000000 in
theorem lives_any (w : World) : Calls Tryz.prog 9 #[] w fun e w' => e = .returned (.bool true) ∧ Below w.heap.size w w' := by
  have HO := opened_any (fun _ => False) 3 w (by omega) (by omega) (fun x hx => hx.elim)
  go_enter Tryz.func9, Tryz.ntmps9
  go_wp2_with fail
  refine HO.mono ?_
  rintro e w1 ⟨g, jb, pb, S, rfl, hP1, _, hb1⟩
  obtain ⟨h0, hh0⟩ : ∃ h0, w.heap.size = h0 := ⟨_, rfl⟩
  rw [hh0] at hP1 hb1
  have HA := palloc_at hP1 1 (by omega) (by omega) (by decide +kernel) (by decide +kernel)
  have HB1 : Hid (Below h0 w w1) := hb1
  clear HO hP1 hb1
  go_wp2_with fail
  refine HA.mono ?_
  rintro e w2 ⟨rfl, F2, S2, hP2, _, hb2⟩
  have HB2 : Hid (Below h0 w w2) := HB1.out.trans hb2
  have HA2 := palloc_at hP2 2 (by omega) (by omega) (by decide +kernel) (by decide +kernel)
  clear HA hP2 hb2 HB1
  go_wp2_with fail
  refine HA2.mono ?_
  rintro e w3 ⟨rfl, F3, S3, hP3, _, hb3⟩
  have HB3 : Hid (Below h0 w w3) := HB2.out.trans hb3
  have HA3 := palloc_full hP3 (by decide +kernel)
  clear HA2 hP3 hb3 HB2
  go_wp2_with fail
  refine HA3.mono ?_
  rintro e w4 ⟨rfl, F4, S4, hP4, _, hb4⟩
  have HB4 : Hid (Below h0 w w4) := HB3.out.trans hb4
  have HG := pgive_any hP4 1
  have e1 : (((px0 3).alc 1).alc 2).gcode 3 1 = 0 := by decide +kernel
  have e2 : (((px0 3).alc 1).alc 2).gput 3 1 = (((px0 3).alc 1).alc 2).giv 1 := by
    unfold Px.gput
    rw [if_pos e1]
    rfl
  rw [e1, e2] at HG
  clear HA3 hP4 hb4 HB3 e1 e2
  go_wp2_with fail
  refine HG.mono ?_
  rintro e w5 ⟨rfl, F5, S5, hP5, _, hb5⟩
  have HB5 : Hid (Below h0 w w5) := HB4.out.trans hb5
  have HA5 := palloc_at hP5 1 (by omega) (by omega) (by decide +kernel) (by decide +kernel)
  clear HG hP5 hb5 HB4
  go_wp2_with fail
  refine HA5.mono ?_
  rintro e w6 ⟨rfl, _, _, _, _, hb6⟩
  have HB6 : Hid (Below h0 w w6) := HB5.out.trans hb6
  clear HA5 hb6 HB5
  go_wp2
  go_ret
  exact ⟨rfl, by rw [hh0]; exact HB6.out⟩
theorem lives_h {w0 w : World} (h : Below w0.heap.size w0 w) : Calls Tryz.prog 9 #[] w fun e w' => e = .returned (.bool true) ∧ Below w0.heap.size w0 w' :=
  (lives_any w).mono fun _ _ hx => ⟨hx.1, h.trans (hx.2.mono h.size)⟩
end Go.Proofs.YtdgffocmdkadpaaGreat
namespace Go.Proofs.YtdgffocmdkadpaaGreat
open Go.ChangeShapes Go.WideShapes Go.ChangeAt Go.RowKit Go.Deep Go.Shelf
/-- What an Op says. -/
structure OV where
  kind : Int
  id : Int
  k : Int
  long : Int
  fill : Nat
def OV.agg (o : OV) : Value := .agg #[.int .i64 o.kind, .int .i64 o.id, .int .i64 o.k, .int .i64 o.long, .int .u8 (o.fill : Int)]
def OV.cells (o : OV) : List Value := [.int .i64 o.kind, .int .i64 o.id, .int .i64 o.k, .int .i64 o.long, .int .u8 (o.fill : Int)]
def InI (x : Int) : Prop := -9223372036854775808 ≤ x ∧ x ≤ 9223372036854775807
def OV.In (o : OV) : Prop := InI o.kind ∧ InI o.id ∧ InI o.k ∧ InI o.long ∧ o.fill < 256
instance : Inhabited OV := ⟨⟨0, 0, 0, 0, 0⟩⟩
set_option maxRecDepth 100000
theorem cellsOp : Tryz.prog.cellsOf 57 = 5 := by kernel_rfl
theorem op_of {H : Type} {enc : TypeId × Value → H} {W : World} {base : Nat} {spare : Nat → Bool} {held : Bool} {fuel : Nat} {cs : List Value} {x : DataW H × List MemPlace} (hf : DataW.trod enc Tryz.prog W base spare held fuel 57 cs = some x) : ∃ o : OV, cs = o.cells ∧ o.In := by
  obtain ⟨xs, n, _, _, hl, hx, hi⟩ := DataW.trod_struct Tryz.underlying57 hf
  rw [cellsOp] at hl
  match cs, hl with
  | [c0, c1, c2, c3, c4], _ =>
    match xs, hx with
    | [x0, x1, x2, x3, x4], _ =>
      have h0 : DataW.trod enc Tryz.prog W base spare held n 3 (([c0, c1, c2, c3, c4].drop 0).take (Tryz.prog.cellsOf 3)) = some x0 := hi 0 _ rfl
      rw [show Tryz.prog.cellsOf 3 = 1 by kernel_rfl, show ([c0, c1, c2, c3, c4].drop 0).take 1 = [c0] from rfl] at h0
      have h1 : DataW.trod enc Tryz.prog W base spare held n 3 (([c0, c1, c2, c3, c4].drop 1).take (Tryz.prog.cellsOf 3)) = some x1 := hi 1 _ rfl
      rw [show Tryz.prog.cellsOf 3 = 1 by kernel_rfl, show ([c0, c1, c2, c3, c4].drop 1).take 1 = [c1] from rfl] at h1
      have h2 : DataW.trod enc Tryz.prog W base spare held n 3 (([c0, c1, c2, c3, c4].drop 2).take (Tryz.prog.cellsOf 3)) = some x2 := hi 2 _ rfl
      rw [show Tryz.prog.cellsOf 3 = 1 by kernel_rfl, show ([c0, c1, c2, c3, c4].drop 2).take 1 = [c2] from rfl] at h2
      have h3 : DataW.trod enc Tryz.prog W base spare held n 3 (([c0, c1, c2, c3, c4].drop 3).take (Tryz.prog.cellsOf 3)) = some x3 := hi 3 _ rfl
      rw [show Tryz.prog.cellsOf 3 = 1 by kernel_rfl, show ([c0, c1, c2, c3, c4].drop 3).take 1 = [c3] from rfl] at h3
      have h4 : DataW.trod enc Tryz.prog W base spare held n 5 (([c0, c1, c2, c3, c4].drop 4).take (Tryz.prog.cellsOf 5)) = some x4 := hi 4 _ rfl
      rw [show Tryz.prog.cellsOf 5 = 1 by kernel_rfl, show ([c0, c1, c2, c3, c4].drop 4).take 1 = [c4] from rfl] at h4
      obtain ⟨y0, e0, _, w0⟩ := DataW.trod_int Tryz.underlying3 h0
      obtain ⟨y1, e1, _, w1⟩ := DataW.trod_int Tryz.underlying3 h1
      obtain ⟨y2, e2, _, w2⟩ := DataW.trod_int Tryz.underlying3 h2
      obtain ⟨y3, e3, _, w3⟩ := DataW.trod_int Tryz.underlying3 h3
      obtain ⟨y4, e4, _, w4⟩ := DataW.trod_int Tryz.underlying5 h4
      simp only [List.cons.injEq, and_true] at e0 e1 e2 e3 e4
      have r := wf_u8 w4
      obtain ⟨f, rfl⟩ := Int.eq_ofNat_of_zero_le r.1
      subst e0 e1 e2 e3 e4
      exact ⟨⟨y0, y1, y2, y3, f⟩, rfl, wf_i64 w0, wf_i64 w1, wf_i64 w2, wf_i64 w3, by show f < 256; omega⟩
theorem op_arg {H : Type} {enc : TypeId × Value → H} {W : World} {b0 base : Nat} {spare : Nat → Bool} {held : Bool} {v : Value} {d : DataW H} {p : List MemPlace} (hv : Value.okWide Tryz.prog W .any b0 57 v) (h : DataW.Trod enc Tryz.prog W base spare held 57 v d p) : ∃ o : OV, v = o.agg ∧ o.In := by
  unfold Value.okWide at hv
  rw [Tryz.underlying57] at hv
  obtain ⟨cs, rfl, hz, _⟩ := hv
  obtain ⟨fuel, hf⟩ := h
  have hf : DataW.trod enc Tryz.prog W base spare held fuel 57 cs.toList = some (d, p) := by simpa [Value.cells] using hf
  obtain ⟨o, ho, hi⟩ := op_of hf
  refine ⟨o, ?_, hi⟩
  unfold OV.agg
  congr 1
  rw [← Array.toArray_toList (xs := cs), ho]
  rfl
/-- Steps that lie in memory. -/
def Os (w : World) (a : Option Addr) (len cap : Nat) (l : List OV) : Prop :=
  l.length = len ∧ len ≤ cap ∧ cap ≤ 9223372036854775807 ∧ (0 < len → ∃ b o, a = some ⟨b, o, none⟩ ∧ b < w.heap.size ∧ ∀ i (h : i < l.length),
    w.cell? ⟨b, o + i * 5, none⟩ = some (.int .i64 l[i].kind) ∧ w.cell? ⟨b, o + i * 5 + 1, none⟩ = some (.int .i64 l[i].id) ∧ w.cell? ⟨b, o + i * 5 + 2, none⟩ = some (.int .i64 l[i].k) ∧
      w.cell? ⟨b, o + i * 5 + 3, none⟩ = some (.int .i64 l[i].long) ∧ w.cell? ⟨b, o + i * 5 + 4, none⟩ = some (.int .u8 (l[i].fill : Int)) ∧ l[i].In)
theorem ops_of {H : Type} {enc : TypeId × Value → H} {W : World} {base : Nat} {spare : Nat → Bool} {held : Bool} {fuel : Nat} {a : Option Addr} {len cap : Nat} {x : DataW H × List MemPlace}
    (hf : DataW.trod enc Tryz.prog W base spare held fuel 46 [.slice a len cap] = some x) : ∃ l, Os W a len cap l := by
  rcases open_slice Tryz.underlying46 hf with ⟨hcs, _⟩ | ⟨ad, l, c, m, n, D, Pl, hcs, _, hl, hm, hmm, hx, hV⟩
  · simp only [List.cons.injEq, Value.slice.injEq, and_true] at hcs
    obtain ⟨rfl, rfl, rfl⟩ := hcs
    exact ⟨[], rfl, by omega, by omega, by omega⟩
  · simp only [List.cons.injEq, Value.slice.injEq, and_true] at hcs
    obtain ⟨rfl, rfl, rfl⟩ := hcs
    subst hx
    have hlm : len ≤ m := by rw [hmm]; split <;> omega
    rw [cellsOp] at hV
    have hb : ∀ i, i < len → ∃ o : OV, (W.cell? (ad.add (i * 5)) = some (.int .i64 o.kind) ∧ W.cell? ((ad.add (i * 5)).add 1) = some (.int .i64 o.id) ∧ W.cell? ((ad.add (i * 5)).add 2) = some (.int .i64 o.k) ∧ W.cell? ((ad.add (i * 5)).add 3) = some (.int .i64 o.long) ∧ W.cell? ((ad.add (i * 5)).add 4) = some (.int .u8 (o.fill : Int))) ∧ o.In := by
      intro i hi
      obtain ⟨cs', h1, h2⟩ := hV i (by omega)
      obtain ⟨o, rfl, hr⟩ := op_of h2
      obtain ⟨_, _, hc⟩ := World.cells?_some h1
      refine ⟨o, ⟨?_, hc 1 (by omega), hc 2 (by omega), hc 3 (by omega), hc 4 (by omega)⟩, hr⟩
      have := hc 0 (by omega)
      rwa [show (ad.add (i * 5)).add 0 = ad.add (i * 5) by rw [add_add, Nat.add_zero]] at this
    obtain ⟨f, hf⟩ := choose_lt (α := OV) hb
    refine ⟨(List.range len).map f, by simp, hl, by simpa [maxLen] using hm, fun h0 => ?_⟩
    obtain ⟨bb, oo, spot⟩ := ad
    have hspot : spot = none := by simpa [Addr.add] using World.cell?_spot (hf 0 h0).1.1
    subst hspot
    refine ⟨bb, oo, rfl, ?_, fun i hi => ?_⟩
    · have := World.block_lt_of_cell? W _ (hf 0 h0).1.1
      rwa [add_at] at this
    · simp only [List.length_map, List.length_range] at hi
      have := hf i hi
      simp only [add_at] at this
      simp only [List.getElem_map, List.getElem_range]
      exact ⟨this.1.1, this.1.2.1, this.1.2.2.1, this.1.2.2.2.1, this.1.2.2.2.2, this.2⟩
theorem Os.on {w w' : World} {a : Option Addr} {len cap : Nat} {l : List OV} (h : Os w a len cap l) (hb : Below w.heap.size w w') : Os w' a len cap l := by
  obtain ⟨h1, h2, h3, h4⟩ := h
  refine ⟨h1, h2, h3, fun h0 => ?_⟩
  obtain ⟨b, o, rfl, hlt, hc⟩ := h4 h0
  refine ⟨b, o, rfl, Nat.lt_of_lt_of_le hlt hb.size, fun i hi => ?_⟩
  obtain ⟨d0, d1, d2, d3, d4, d5⟩ := hc i hi
  exact ⟨by rw [hb.cell hlt]; exact d0, by rw [hb.cell hlt]; exact d1, by rw [hb.cell hlt]; exact d2, by rw [hb.cell hlt]; exact d3, by rw [hb.cell hlt]; exact d4, d5⟩
end Go.Proofs.YtdgffocmdkadpaaGreat
