/- A walk over the statements' filled. -/
import Derived.Test.YtaacedaehbaodaaGreatK
namespace Go.Proofs.YtaacedaehbaodaaGreat
open Go.RowKit Go.Shelf
def fillN (L : Int) : Nat := if L = 0 then 1024 else if L < 0 ∨ 3000 < L then 1 else L.toNat
def fillS (L : Int) (f : Nat) : ByteArray := strOf (List.replicate (fillN L) (UInt8.ofNat f))
theorem fillN_le (L : Int) : fillN L ≤ 3000 ∧ 1 ≤ fillN L := by unfold fillN; split <;> (try split) <;> omega
theorem fillS_size (L : Int) (f : Nat) : (fillS L f).size = fillN L := by unfold fillS; rw [strOf_size]; simp
def u8r (f m n : Nat) : Array Value := (List.replicate m (Value.int .u8 (f : Int)) ++ List.replicate (n - m) (Value.int .u8 0)).toArray
theorem u8r_made (f n : Nat) : madeCells #[Value.int .u8 0] n = u8r f 0 n := by
  apply Array.ext
  · simp [madeCells, u8r]
  · intro i h1 h2
    simp [madeCells, u8r, Nat.mod_one]
theorem u8r_set (f m n : Nat) (h : m < n) : (u8r f m n).setIfInBounds m (.int .u8 (f : Int)) = u8r f (m + 1) n := by
  simp only [u8r, List.setIfInBounds_toArray]
  congr 1
  rw [List.set_append_right _ _ (by simp)]
  rw [List.length_replicate, Nat.sub_self, show n - m = (n - (m + 1)) + 1 by omega, List.replicate_succ (n := n - (m + 1)), List.set_cons_zero, List.replicate_succ', List.append_assoc]
  rfl
theorem conv_row (W : World) (g n : Nat) (l : List UInt8) (hl : l.length = n) (h : ∀ i, i < n → W.cell? ⟨g, 0 + i, none⟩ = some (.int .u8 (((l.getD i 0).toNat : Nat) : Int))) :
    (convert 76 9 (.slice (some ⟨g, 0, none⟩) n n)).run Tryz.prog W = .ok (.string (strOf l)) W := by
  rw [run_convert_bytes_arg (P := Tryz.prog) W 76 5 Tryz.underlying76 Tryz.underlying5 g 0 n n (l.map fun u => (u.toNat : Int)) (by simpa using hl) (fun i hi => by
    rw [h i hi]
    simp [List.getD, show i < l.length by omega]) 9 Tryz.underlying9]
  congr 3
  simp [strOfNums, List.map_map, Function.comp_def]
  rfl
set_option maxRecDepth 100000 in
set_option maxHeartbeats 1000000 in
theorem filled_none (k : Int) (f : Nat) (w : World) (hf : f < 256) (T : ByteArray) (hT : strOf (List.replicate 1024 (UInt8.ofNat f)) = T) :
    Calls Tryz.prog 26 #[.agg #[.int .i64 k, .int .i64 0, .int .u8 (f : Int)]] w fun e w' => e = .returned (.string T) ∧ Below w.heap.size w w' := by
  have HT : Hid (strOf (List.replicate 1024 (UInt8.ofNat f)) = T) := hT
  clear hT
  obtain ⟨b, hb⟩ : ∃ b, w.heap.size = b := ⟨_, rfl⟩
  obtain ⟨W1, hW1⟩ : ∃ W1, w.alloc (.cells #[.int .i64 k, .int .i64 0, .int .u8 (f : Int)] 66) = W1 := ⟨_, rfl⟩
  have hb1 : Below b w W1 := by rw [← hW1, ← hb]; exact (Below.refl _ w).alloc (Nat.le_refl _) _
  have hr1 : W1.heap[b]? = some (.cells #[.int .i64 k, .int .i64 0, .int .u8 (f : Int)] 66 (0, 0)) := by rw [← hW1, ← hb]; exact heap_alloc_new w _
  have cL : W1.cell? ⟨b, 1, none⟩ = some (.int .i64 0) := by rw [cell_of_row _ b _ _ _ _ hr1]; rfl
  have hmk : (Instr.makeSlice 76 (.int .i64 1024) (.int .i64 1024)).run Tryz.prog W1 = .ok (.slice (some ⟨W1.heap.size, 0, none⟩) 1024 1024) (W1.alloc (.cells (u8r f 0 1024) 5)) := by
    have := run_make (P := Tryz.prog) W1 76 5 _ (.int .u8 0) Tryz.underlying76 rfl rfl .i64 .i64 1024 1024 (by omega) (by omega) (by show (1 : Int) * _ ≤ _; omega) (by omega)
    rw [this, show (1024 : Int).toNat = 1024 by omega, ← u8r_made f, show Tryz.prog.types[5].size = 1 from rfl, Nat.mul_one]
    rfl
  obtain ⟨c, hc⟩ : ∃ c, W1.heap.size = c := ⟨_, rfl⟩
  obtain ⟨W2, hW2⟩ : ∃ W2, W1.alloc (.cells (u8r f 0 1024) 5) = W2 := ⟨_, rfl⟩
  rw [hW2, hc] at hmk
  have hbc : b < c := by rw [← hc]; exact lt_of_some hr1
  have HI : Hid (W2.heap[c]? = some (.cells (u8r f 0 1024) 5 (0, 0)) ∧ W2.heap[b]? = some (.cells #[.int .i64 k, .int .i64 0, .int .u8 (f : Int)] 66 (0, 0)) ∧ Below b w W2) := by
    rw [← hW2]
    refine ⟨by rw [← hc]; exact heap_alloc_new W1 _, ?_, hb1.alloc (by omega) _⟩
    rw [Below.heap_alloc _ _ _ (by omega)]
    exact hr1
  clear hb1 hr1
  go_enter Tryz.func26, Tryz.ntmps26
  go_wp2
  go_loopw [5] (fun v wr => ∃ m : Nat, m ≤ 1024 ∧ v = .int .i64 m ∧ wr.heap[c]? = some (.cells (u8r f m 1024) 5 (0, 0)) ∧ wr.heap[b]? = some (.cells #[.int .i64 k, .int .i64 0, .int .u8 (f : Int)] 66 (0, 0)) ∧ Below b w wr) (fun v _ => 1024 - (intOf v).toNat)
  case atStart => exact ⟨0, by omega, rfl, HI.out⟩
  case round =>
    clear HI cL hmk hW1 hW2
    obtain ⟨m, hm, rfl, hrc, hrb, hbel⟩ := hrel
    by_cases hlt : m < 1024
    · have kk : (m : Int) < 1024 := by omega
      have cf : wr.cell? ⟨b, 2, none⟩ = some (.int .u8 (f : Int)) := by rw [cell_of_row _ b _ _ _ _ hrb]; rfl
      have cm : wr.cell? ⟨c, m, none⟩ = some (.int .u8 0) := by
        rw [cell_of_row _ c _ _ _ _ hrc]
        simp only [u8r, List.getElem?_toArray]
        rw [List.getElem?_append_right (by simp), List.getElem?_replicate, if_pos (by simp; omega)]
      have fm := frozen_of_row wr c m _ _ hrc
      have HN : Hid ((wr.setCell ⟨c, m, none⟩ (.int .u8 (f : Int))).heap[c]? = some (.cells (u8r f (m + 1) 1024) 5 (0, 0)) ∧ (wr.setCell ⟨c, m, none⟩ (.int .u8 (f : Int))).heap[b]? = some (.cells #[.int .i64 k, .int .i64 0, .int .u8 (f : Int)] 66 (0, 0)) ∧ Below b w (wr.setCell ⟨c, m, none⟩ (.int .u8 (f : Int)))) := by
        refine ⟨?_, ?_, hbel.setCell (by show _ ≤ c; omega) _⟩
        · rw [heap_setCell_same wr c m _ _ _ hrc, u8r_set f m 1024 hlt]
        · rw [heap_setCell_other _ _ _ _ (by show b ≠ c; omega)]; exact hrb
      clear hrc hrb hbel
      go_wp2
      exact ⟨⟨m + 1, by omega, by go_num, HN.out⟩, by simp [intOf]; omega⟩
    · obtain rfl : m = 1024 := by omega
      have kk : ¬ (1024 : Int) < 1024 := by omega
      have hcv : (convert 76 9 (.slice (some ⟨c, 0, none⟩) 1024 1024)).run Tryz.prog wr = .ok (.string (strOf (List.replicate 1024 (UInt8.ofNat f)))) wr := by
        refine conv_row wr c 1024 _ (by simp) (fun i hi => ?_)
        rw [cell_of_row _ c _ _ _ _ hrc, Nat.zero_add]
        simp only [u8r, List.getElem?_toArray]
        rw [List.getElem?_append_left (by simpa using hi), List.getElem?_replicate, if_pos hi, List.getD_eq_getElem?_getD, List.getElem?_replicate, if_pos hi]
        simp [Nat.mod_eq_of_lt hf]
      clear hrc hrb
      rw [HT.out] at hcv
      go_wp2
      go_ret
      exact ⟨rfl, hbel⟩
set_option maxRecDepth 100000 in
set_option maxHeartbeats 1000000 in
theorem filled_less (k L : Int) (f : Nat) (w : World) (hf : f < 256) (h1 : L < 0) (T : ByteArray) (hT : strOf (List.replicate 1 (UInt8.ofNat f)) = T) :
    Calls Tryz.prog 26 #[.agg #[.int .i64 k, .int .i64 L, .int .u8 (f : Int)]] w fun e w' => e = .returned (.string T) ∧ Below w.heap.size w w' := by
  have HT : Hid (strOf (List.replicate 1 (UInt8.ofNat f)) = T) := hT
  clear hT
  have h0 : ¬ L = 0 := by omega
  obtain ⟨b, hb⟩ : ∃ b, w.heap.size = b := ⟨_, rfl⟩
  obtain ⟨W1, hW1⟩ : ∃ W1, w.alloc (.cells #[.int .i64 k, .int .i64 L, .int .u8 (f : Int)] 66) = W1 := ⟨_, rfl⟩
  have hb1 : Below b w W1 := by rw [← hW1, ← hb]; exact (Below.refl _ w).alloc (Nat.le_refl _) _
  have hr1 : W1.heap[b]? = some (.cells #[.int .i64 k, .int .i64 L, .int .u8 (f : Int)] 66 (0, 0)) := by rw [← hW1, ← hb]; exact heap_alloc_new w _
  have cL : W1.cell? ⟨b, 1, none⟩ = some (.int .i64 L) := by rw [cell_of_row _ b _ _ _ _ hr1]; rfl
  have hmk : (Instr.makeSlice 76 (.int .i64 1) (.int .i64 1)).run Tryz.prog W1 = .ok (.slice (some ⟨W1.heap.size, 0, none⟩) 1 1) (W1.alloc (.cells (u8r f 0 1) 5)) := by
    have := run_make (P := Tryz.prog) W1 76 5 _ (.int .u8 0) Tryz.underlying76 rfl rfl .i64 .i64 1 1 (by omega) (by omega) (by show (1 : Int) * _ ≤ _; omega) (by omega)
    rw [this, show (1 : Int).toNat = 1 by omega, ← u8r_made f, show Tryz.prog.types[5].size = 1 from rfl, Nat.mul_one]
    rfl
  obtain ⟨c, hc⟩ : ∃ c, W1.heap.size = c := ⟨_, rfl⟩
  obtain ⟨W2, hW2⟩ : ∃ W2, W1.alloc (.cells (u8r f 0 1) 5) = W2 := ⟨_, rfl⟩
  rw [hW2, hc] at hmk
  have hbc : b < c := by rw [← hc]; exact lt_of_some hr1
  have HI : Hid (W2.heap[c]? = some (.cells (u8r f 0 1) 5 (0, 0)) ∧ W2.heap[b]? = some (.cells #[.int .i64 k, .int .i64 L, .int .u8 (f : Int)] 66 (0, 0)) ∧ Below b w W2) := by
    rw [← hW2]
    refine ⟨by rw [← hc]; exact heap_alloc_new W1 _, ?_, hb1.alloc (by omega) _⟩
    rw [Below.heap_alloc _ _ _ (by omega)]
    exact hr1
  clear hb1 hr1
  go_enter Tryz.func26, Tryz.ntmps26
  go_wp2
  go_loopw [5] (fun v wr => ∃ m : Nat, m ≤ 1 ∧ v = .int .i64 m ∧ wr.heap[c]? = some (.cells (u8r f m 1) 5 (0, 0)) ∧ wr.heap[b]? = some (.cells #[.int .i64 k, .int .i64 L, .int .u8 (f : Int)] 66 (0, 0)) ∧ Below b w wr) (fun v _ => 1 - (intOf v).toNat)
  case atStart => exact ⟨0, by omega, rfl, HI.out⟩
  case round =>
    clear HI cL hmk hW1 hW2
    obtain ⟨m, hm, rfl, hrc, hrb, hbel⟩ := hrel
    by_cases hlt : m < 1
    · have kk : (m : Int) < 1 := by omega
      have cf : wr.cell? ⟨b, 2, none⟩ = some (.int .u8 (f : Int)) := by rw [cell_of_row _ b _ _ _ _ hrb]; rfl
      have cm : wr.cell? ⟨c, m, none⟩ = some (.int .u8 0) := by
        rw [cell_of_row _ c _ _ _ _ hrc]
        simp only [u8r, List.getElem?_toArray]
        rw [List.getElem?_append_right (by simp), List.getElem?_replicate, if_pos (by simp; omega)]
      have fm := frozen_of_row wr c m _ _ hrc
      have HN : Hid ((wr.setCell ⟨c, m, none⟩ (.int .u8 (f : Int))).heap[c]? = some (.cells (u8r f (m + 1) 1) 5 (0, 0)) ∧ (wr.setCell ⟨c, m, none⟩ (.int .u8 (f : Int))).heap[b]? = some (.cells #[.int .i64 k, .int .i64 L, .int .u8 (f : Int)] 66 (0, 0)) ∧ Below b w (wr.setCell ⟨c, m, none⟩ (.int .u8 (f : Int)))) := by
        refine ⟨?_, ?_, hbel.setCell (by show _ ≤ c; omega) _⟩
        · rw [heap_setCell_same wr c m _ _ _ hrc, u8r_set f m 1 hlt]
        · rw [heap_setCell_other _ _ _ _ (by show b ≠ c; omega)]; exact hrb
      clear hrc hrb hbel
      go_wp2
      exact ⟨⟨m + 1, by omega, by go_num, HN.out⟩, by simp [intOf]; omega⟩
    · obtain rfl : m = 1 := by omega
      have kk : ¬ (1 : Int) < 1 := by omega
      have hcv : (convert 76 9 (.slice (some ⟨c, 0, none⟩) 1 1)).run Tryz.prog wr = .ok (.string (strOf (List.replicate 1 (UInt8.ofNat f)))) wr := by
        refine conv_row wr c 1 _ (by simp) (fun i hi => ?_)
        rw [cell_of_row _ c _ _ _ _ hrc, Nat.zero_add]
        simp only [u8r, List.getElem?_toArray]
        rw [List.getElem?_append_left (by simpa using hi), List.getElem?_replicate, if_pos hi, List.getD_eq_getElem?_getD, List.getElem?_replicate, if_pos hi]
        simp [Nat.mod_eq_of_lt hf]
      clear hrc hrb
      rw [HT.out] at hcv
      go_wp2
      go_ret
      exact ⟨rfl, hbel⟩
set_option maxRecDepth 100000 in
set_option maxHeartbeats 1000000 in
theorem filled_more (k L : Int) (f : Nat) (w : World) (hf : f < 256) (h1 : 3000 < L) (T : ByteArray) (hT : strOf (List.replicate 1 (UInt8.ofNat f)) = T) :
    Calls Tryz.prog 26 #[.agg #[.int .i64 k, .int .i64 L, .int .u8 (f : Int)]] w fun e w' => e = .returned (.string T) ∧ Below w.heap.size w w' := by
  have HT : Hid (strOf (List.replicate 1 (UInt8.ofNat f)) = T) := hT
  clear hT
  have h0 : ¬ L = 0 := by omega
  have h01 : ¬ L < 0 := by omega
  obtain ⟨b, hb⟩ : ∃ b, w.heap.size = b := ⟨_, rfl⟩
  obtain ⟨W1, hW1⟩ : ∃ W1, w.alloc (.cells #[.int .i64 k, .int .i64 L, .int .u8 (f : Int)] 66) = W1 := ⟨_, rfl⟩
  have hb1 : Below b w W1 := by rw [← hW1, ← hb]; exact (Below.refl _ w).alloc (Nat.le_refl _) _
  have hr1 : W1.heap[b]? = some (.cells #[.int .i64 k, .int .i64 L, .int .u8 (f : Int)] 66 (0, 0)) := by rw [← hW1, ← hb]; exact heap_alloc_new w _
  have cL : W1.cell? ⟨b, 1, none⟩ = some (.int .i64 L) := by rw [cell_of_row _ b _ _ _ _ hr1]; rfl
  have hmk : (Instr.makeSlice 76 (.int .i64 1) (.int .i64 1)).run Tryz.prog W1 = .ok (.slice (some ⟨W1.heap.size, 0, none⟩) 1 1) (W1.alloc (.cells (u8r f 0 1) 5)) := by
    have := run_make (P := Tryz.prog) W1 76 5 _ (.int .u8 0) Tryz.underlying76 rfl rfl .i64 .i64 1 1 (by omega) (by omega) (by show (1 : Int) * _ ≤ _; omega) (by omega)
    rw [this, show (1 : Int).toNat = 1 by omega, ← u8r_made f, show Tryz.prog.types[5].size = 1 from rfl, Nat.mul_one]
    rfl
  obtain ⟨c, hc⟩ : ∃ c, W1.heap.size = c := ⟨_, rfl⟩
  obtain ⟨W2, hW2⟩ : ∃ W2, W1.alloc (.cells (u8r f 0 1) 5) = W2 := ⟨_, rfl⟩
  rw [hW2, hc] at hmk
  have hbc : b < c := by rw [← hc]; exact lt_of_some hr1
  have HI : Hid (W2.heap[c]? = some (.cells (u8r f 0 1) 5 (0, 0)) ∧ W2.heap[b]? = some (.cells #[.int .i64 k, .int .i64 L, .int .u8 (f : Int)] 66 (0, 0)) ∧ Below b w W2) := by
    rw [← hW2]
    refine ⟨by rw [← hc]; exact heap_alloc_new W1 _, ?_, hb1.alloc (by omega) _⟩
    rw [Below.heap_alloc _ _ _ (by omega)]
    exact hr1
  clear hb1 hr1
  go_enter Tryz.func26, Tryz.ntmps26
  go_wp2
  go_loopw [5] (fun v wr => ∃ m : Nat, m ≤ 1 ∧ v = .int .i64 m ∧ wr.heap[c]? = some (.cells (u8r f m 1) 5 (0, 0)) ∧ wr.heap[b]? = some (.cells #[.int .i64 k, .int .i64 L, .int .u8 (f : Int)] 66 (0, 0)) ∧ Below b w wr) (fun v _ => 1 - (intOf v).toNat)
  case atStart => exact ⟨0, by omega, rfl, HI.out⟩
  case round =>
    clear HI cL hmk hW1 hW2
    obtain ⟨m, hm, rfl, hrc, hrb, hbel⟩ := hrel
    by_cases hlt : m < 1
    · have kk : (m : Int) < 1 := by omega
      have cf : wr.cell? ⟨b, 2, none⟩ = some (.int .u8 (f : Int)) := by rw [cell_of_row _ b _ _ _ _ hrb]; rfl
      have cm : wr.cell? ⟨c, m, none⟩ = some (.int .u8 0) := by
        rw [cell_of_row _ c _ _ _ _ hrc]
        simp only [u8r, List.getElem?_toArray]
        rw [List.getElem?_append_right (by simp), List.getElem?_replicate, if_pos (by simp; omega)]
      have fm := frozen_of_row wr c m _ _ hrc
      have HN : Hid ((wr.setCell ⟨c, m, none⟩ (.int .u8 (f : Int))).heap[c]? = some (.cells (u8r f (m + 1) 1) 5 (0, 0)) ∧ (wr.setCell ⟨c, m, none⟩ (.int .u8 (f : Int))).heap[b]? = some (.cells #[.int .i64 k, .int .i64 L, .int .u8 (f : Int)] 66 (0, 0)) ∧ Below b w (wr.setCell ⟨c, m, none⟩ (.int .u8 (f : Int)))) := by
        refine ⟨?_, ?_, hbel.setCell (by show _ ≤ c; omega) _⟩
        · rw [heap_setCell_same wr c m _ _ _ hrc, u8r_set f m 1 hlt]
        · rw [heap_setCell_other _ _ _ _ (by show b ≠ c; omega)]; exact hrb
      clear hrc hrb hbel
      go_wp2
      exact ⟨⟨m + 1, by omega, by go_num, HN.out⟩, by simp [intOf]; omega⟩
    · obtain rfl : m = 1 := by omega
      have kk : ¬ (1 : Int) < 1 := by omega
      have hcv : (convert 76 9 (.slice (some ⟨c, 0, none⟩) 1 1)).run Tryz.prog wr = .ok (.string (strOf (List.replicate 1 (UInt8.ofNat f)))) wr := by
        refine conv_row wr c 1 _ (by simp) (fun i hi => ?_)
        rw [cell_of_row _ c _ _ _ _ hrc, Nat.zero_add]
        simp only [u8r, List.getElem?_toArray]
        rw [List.getElem?_append_left (by simpa using hi), List.getElem?_replicate, if_pos hi, List.getD_eq_getElem?_getD, List.getElem?_replicate, if_pos hi]
        simp [Nat.mod_eq_of_lt hf]
      clear hrc hrb
      rw [HT.out] at hcv
      go_wp2
      go_ret
      exact ⟨rfl, hbel⟩
set_option maxRecDepth 100000 in
set_option maxHeartbeats 1000000 in
theorem filled_just (k : Int) (f : Nat) (w : World) (hf : f < 256) (n : Nat) (hn : n ≤ 3000) (h2 : 1 ≤ n) (T : ByteArray) (hT : strOf (List.replicate n (UInt8.ofNat f)) = T) :
    Calls Tryz.prog 26 #[.agg #[.int .i64 k, .int .i64 (n : Int), .int .u8 (f : Int)]] w fun e w' => e = .returned (.string T) ∧ Below w.heap.size w w' := by
  have HT : Hid (strOf (List.replicate n (UInt8.ofNat f)) = T) := hT
  clear hT
  have h0 : ¬ (n : Int) = 0 := by omega
  have h01 : ¬ (n : Int) < 0 := by omega
  have h02 : ¬ (3000 : Int) < (n : Int) := by omega
  obtain ⟨b, hb⟩ : ∃ b, w.heap.size = b := ⟨_, rfl⟩
  obtain ⟨W1, hW1⟩ : ∃ W1, w.alloc (.cells #[.int .i64 k, .int .i64 (n : Int), .int .u8 (f : Int)] 66) = W1 := ⟨_, rfl⟩
  have hb1 : Below b w W1 := by rw [← hW1, ← hb]; exact (Below.refl _ w).alloc (Nat.le_refl _) _
  have hr1 : W1.heap[b]? = some (.cells #[.int .i64 k, .int .i64 (n : Int), .int .u8 (f : Int)] 66 (0, 0)) := by rw [← hW1, ← hb]; exact heap_alloc_new w _
  have cL : W1.cell? ⟨b, 1, none⟩ = some (.int .i64 (n : Int)) := by rw [cell_of_row _ b _ _ _ _ hr1]; rfl
  have hmk : (Instr.makeSlice 76 (.int .i64 (n : Int)) (.int .i64 (n : Int))).run Tryz.prog W1 = .ok (.slice (some ⟨W1.heap.size, 0, none⟩) n n) (W1.alloc (.cells (u8r f 0 n) 5)) := by
    have := run_make (P := Tryz.prog) W1 76 5 _ (.int .u8 0) Tryz.underlying76 rfl rfl .i64 .i64 (n : Int) (n : Int) (by omega) (by omega) (by show (1 : Int) * _ ≤ _; omega) (by omega)
    rw [this, show ((n : Int) : Int).toNat = n by omega, ← u8r_made f, show Tryz.prog.types[5].size = 1 from rfl, Nat.mul_one]
    rfl
  obtain ⟨c, hc⟩ : ∃ c, W1.heap.size = c := ⟨_, rfl⟩
  obtain ⟨W2, hW2⟩ : ∃ W2, W1.alloc (.cells (u8r f 0 n) 5) = W2 := ⟨_, rfl⟩
  rw [hW2, hc] at hmk
  have hbc : b < c := by rw [← hc]; exact lt_of_some hr1
  have HI : Hid (W2.heap[c]? = some (.cells (u8r f 0 n) 5 (0, 0)) ∧ W2.heap[b]? = some (.cells #[.int .i64 k, .int .i64 (n : Int), .int .u8 (f : Int)] 66 (0, 0)) ∧ Below b w W2) := by
    rw [← hW2]
    refine ⟨by rw [← hc]; exact heap_alloc_new W1 _, ?_, hb1.alloc (by omega) _⟩
    rw [Below.heap_alloc _ _ _ (by omega)]
    exact hr1
  clear hb1 hr1
  go_enter Tryz.func26, Tryz.ntmps26
  go_wp2
  go_loopw [5] (fun v wr => ∃ m : Nat, m ≤ n ∧ v = .int .i64 m ∧ wr.heap[c]? = some (.cells (u8r f m n) 5 (0, 0)) ∧ wr.heap[b]? = some (.cells #[.int .i64 k, .int .i64 (n : Int), .int .u8 (f : Int)] 66 (0, 0)) ∧ Below b w wr) (fun v _ => n - (intOf v).toNat)
  case atStart => exact ⟨0, by omega, rfl, HI.out⟩
  case round =>
    clear HI cL hmk hW1 hW2
    obtain ⟨m, hm, rfl, hrc, hrb, hbel⟩ := hrel
    by_cases hlt : m < n
    · have kk : (m : Int) < (n : Int) := by omega
      have cf : wr.cell? ⟨b, 2, none⟩ = some (.int .u8 (f : Int)) := by rw [cell_of_row _ b _ _ _ _ hrb]; rfl
      have cm : wr.cell? ⟨c, m, none⟩ = some (.int .u8 0) := by
        rw [cell_of_row _ c _ _ _ _ hrc]
        simp only [u8r, List.getElem?_toArray]
        rw [List.getElem?_append_right (by simp), List.getElem?_replicate, if_pos (by simp; omega)]
      have fm := frozen_of_row wr c m _ _ hrc
      have HN : Hid ((wr.setCell ⟨c, m, none⟩ (.int .u8 (f : Int))).heap[c]? = some (.cells (u8r f (m + 1) n) 5 (0, 0)) ∧ (wr.setCell ⟨c, m, none⟩ (.int .u8 (f : Int))).heap[b]? = some (.cells #[.int .i64 k, .int .i64 (n : Int), .int .u8 (f : Int)] 66 (0, 0)) ∧ Below b w (wr.setCell ⟨c, m, none⟩ (.int .u8 (f : Int)))) := by
        refine ⟨?_, ?_, hbel.setCell (by show _ ≤ c; omega) _⟩
        · rw [heap_setCell_same wr c m _ _ _ hrc, u8r_set f m n hlt]
        · rw [heap_setCell_other _ _ _ _ (by show b ≠ c; omega)]; exact hrb
      clear hrc hrb hbel
      go_wp2
      exact ⟨⟨m + 1, by omega, by go_num, HN.out⟩, by simp [intOf]; omega⟩
    · obtain rfl : n = m := by omega
      have kk : ¬ ((n : Int) : Int) < (n : Int) := by omega
      have hcv : (convert 76 9 (.slice (some ⟨c, 0, none⟩) n n)).run Tryz.prog wr = .ok (.string (strOf (List.replicate n (UInt8.ofNat f)))) wr := by
        refine conv_row wr c n _ (by simp) (fun i hi => ?_)
        rw [cell_of_row _ c _ _ _ _ hrc, Nat.zero_add]
        simp only [u8r, List.getElem?_toArray]
        rw [List.getElem?_append_left (by simpa using hi), List.getElem?_replicate, if_pos hi, List.getD_eq_getElem?_getD, List.getElem?_replicate, if_pos hi]
        simp [Nat.mod_eq_of_lt hf]
      clear hrc hrb
      rw [HT.out] at hcv
      go_wp2
      go_ret
      exact ⟨rfl, hbel⟩
theorem filled_any (k L : Int) (f : Nat) (w : World) (hf : f < 256) :
    Calls Tryz.prog 26 #[.agg #[.int .i64 k, .int .i64 L, .int .u8 (f : Int)]] w fun e w' => e = .returned (.string (fillS L f)) ∧ Below w.heap.size w w' := by
  unfold fillS fillN
  by_cases h0 : L = 0
  · rw [if_pos h0, h0]
    exact filled_none k f w hf _ rfl
  · rw [if_neg h0]
    by_cases h1 : L < 0
    · rw [if_pos (.inl h1)]
      exact filled_less k L f w hf h1 _ rfl
    · by_cases h2 : 3000 < L
      · rw [if_pos (.inr h2)]
        exact filled_more k L f w hf h2 _ rfl
      · rw [if_neg (by omega)]
        have := filled_just k f w hf L.toNat (by omega) (by omega) _ rfl
        rw [show ((L.toNat : Nat) : Int) = L by omega] at this
        exact this
end Go.Proofs.YtaacedaehbaodaaGreat
