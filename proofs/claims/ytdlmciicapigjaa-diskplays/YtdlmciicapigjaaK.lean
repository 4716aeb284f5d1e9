/- Walks over New and the statements' filled. -/
import Derived.Test.YtdlmciicapigjaaJ
namespace Go.Proofs.Ytdlmciicapigjaa
open Go.RowKit Go.Shelf
/-- A sector of noughts. -/
def nought : ByteArray := strOf (List.replicate 256 0)
theorem nought_rep : (⟨(Lib.repeatL (⟨#[0]⟩ : ByteArray).data.toList 256).toArray⟩ : ByteArray) = nought := by
  have e : Lib.repeatL [(0 : UInt8)] 256 = List.replicate 256 0 := by decide +kernel
  show (⟨(Lib.repeatL [0] 256).toArray⟩ : ByteArray) = _
  rw [e]; rfl
set_option maxHeartbeats 400000 in
theorem new_bad (x : Int) (w : World) (h : x < 1 ∨ 2048 < x) : Calls Try.prog 8 #[.int .i64 x] w fun e w' => e = .returned (.tuple #[.pointer none, .int .i64 1]) ∧ w' = w := by
  by_cases h1 : x < 1
  · clear h
    go_enter Try.func8, Try.ntmps8
    go_wp2
    go_ret2
    exact ⟨rfl, rfl⟩
  · have h2 : 2048 < x := by omega
    clear h
    go_enter Try.func8, Try.ntmps8
    go_wp2
    go_ret2
    exact ⟨rfl, rfl⟩
theorem own_rowV (W : World) (g : Nat) (z : ByteArray) (n : Nat) (h : W.heap[g]? = some (.cells (rowV z n n) 9 (0, 0))) (hn : n ≤ 2048) : W.ownsRow 0 9 1 (.slice (some ⟨g, 0, none⟩) n n) n (strsV (List.replicate n z)) := by
  refine ⟨by simp [strsV], .inr ⟨g, n, rowV z n n, rfl, Nat.zero_le _, h, Nat.le_refl _, by unfold maxLen; omega, by rw [rowV_size z n n (Nat.le_refl _)]; omega, ?_⟩⟩
  simp [rowV, strsV]
set_option maxRecDepth 100000 in
set_option maxHeartbeats 1000000 in
theorem new_any (n : Nat) (w : World) (h1 : 1 ≤ n) (h2 : n ≤ 2048) :
    Calls Try.prog 8 #[.int .i64 (n : Int)] w fun e w' => ∃ g, e = .returned (.tuple #[.pointer (some ⟨g, 0, none⟩), .int .i64 0]) ∧ DiskIs w' (fresh w w') g (Dk.new n nought) ∧ Below w.heap.size w w' := by
  have k1 : ¬ (n : Int) < 1 := by omega
  have k2 : ¬ (2048 : Int) < (n : Int) := by omega
  have HR := Try.strings_Repeat ⟨#[0]⟩ 256 w (by omega) (by decide)
  rw [nought_rep] at HR
  generalize hz : nought = z at HR ⊢
  clear hz
  go_enter Try.func8, Try.ntmps8
  go_wp2_with fail
  refine HR.mono ?_
  rintro e w1 ⟨rfl, hb1⟩
  clear HR
  obtain ⟨b, hb⟩ : ∃ b, w1.heap.size = b := ⟨_, rfl⟩
  obtain ⟨W2, hW2⟩ : ∃ W2, w1.alloc (.cells #[.string z] 9) = W2 := ⟨_, rfl⟩
  have hB2 : Below w.heap.size w W2 := by rw [← hW2]; exact hb1.alloc hb1.size _
  have HRP := repeat_any b z n W2 h1 h2 (by rw [← hW2, ← hb, cell_of_row _ w1.heap.size _ _ _ _ (heap_alloc_new w1 _)]; rfl)
  obtain ⟨c, hc⟩ : ∃ c, W2.heap.size = c := ⟨_, rfl⟩
  rw [hc] at HRP
  go_wp2_with fail
  refine HRP.mono ?_
  rintro e w3 ⟨rfl, hr3, hb3⟩
  have ho3 := own_rowV w3 c z n hr3 h2
  have HCS := cloneS_any c n n (List.replicate n z) w3 ho3 (by omega)
  have hB3 : Below w.heap.size w w3 := hB2.trans (hb3.mono (by rw [← hc]; exact hB2.size))
  have hcl : c < w3.heap.size := lt_of_some hr3
  clear HRP
  go_wp2_with fail
  refine HCS.mono ?_
  rintro e w4 ⟨g2, k2', rfl, hg2, ho4, hb4⟩
  have ho3' : w4.ownsRow 0 9 1 (.slice (some ⟨c, 0, none⟩) n n) n (strsV (List.replicate n z)) := own_keep ho3 (fun x hx => by rw [ob_slice] at hx; cases hx; exact hb4.block c hcl)
  have hB4 : Below w.heap.size w w4 := hB3.trans (hb4.mono hB3.size)
  have hl2 := (ho4.lt g2 rfl).2
  have hwc : w.heap.size ≤ c := by rw [← hc]; exact hB2.size
  have HF : Hid (∀ W5, W5 = w4.alloc (.cells #[.slice (some ⟨c, 0, none⟩) n n, .slice (some ⟨g2, 0, none⟩) n k2', .slice none 0 0, .int .i64 0, .int .i64 0, .bool true] 63) → DiskIs W5 (fresh w W5) w4.heap.size (Dk.new n z) ∧ Below w.heap.size w W5) := by
    rintro W5 rfl
    have hs : (w4.alloc (.cells #[.slice (some ⟨c, 0, none⟩) n n, .slice (some ⟨g2, 0, none⟩) n k2', .slice none 0 0, .int .i64 0, .int .i64 0, .bool true] 63)).heap.size = w4.heap.size + 1 := by simp
    have hl : (Dk.new n z).kept.length = n := by simp [Dk.new]
    have h34 := hb4.size
    refine ⟨⟨c, n, g2, k2', none, 0, { ok := Dk.Ok.new n z h1 h2, c := ?_, k := ?_, s := ?_, q := World.ownsRow_nil _ _ _ _, kg := by omega, sg := by omega, ks := by omega, wg := (by intro x hx; cases hx), Sg := ?_, Sk := ?_, Ss := ?_, Sw := (by intro x hx; cases hx), bd := fun x hx => hx.2 }⟩, hB4.alloc hB4.size _⟩
    · rw [heap_alloc_new]
      unfold dcells
      rw [hl]
      rfl
    · rw [hl]; exact ho3'.alloc _
    · rw [hl]; exact ho4.alloc _
    · exact ⟨by have := hB4.size; omega, by rw [hs]; omega⟩
    · exact ⟨by omega, by rw [hs]; omega⟩
    · exact ⟨by have := hB3.size; omega, by rw [hs]; omega⟩
  clear HCS ho3 ho3' ho4 hb4 hb3 hB3 hB4 hr3
  go_wp2
  go_ret2
  exact ⟨w4.heap.size, rfl, HF.out _ rfl⟩
/-- What the statements fill a write with. -/
def fillN (L : Int) : Nat := if L = 0 then 256 else if L < 0 ∨ 1000 < L then 1 else L.toNat
def fillS (L : Int) (f : Nat) : ByteArray := strOf (List.replicate (fillN L) (UInt8.ofNat f))
theorem fillN_le (L : Int) : fillN L ≤ 1000 ∧ 1 ≤ fillN L := by unfold fillN; split <;> (try split) <;> omega
theorem fillS_size (L : Int) (f : Nat) : (fillS L f).size = fillN L := by unfold fillS; rw [strOf_size]; simp
def u8r (f m n : Nat) : Array Value := (List.replicate m (Value.int .u8 (f : Int)) ++ List.replicate (n - m) (Value.int .u8 0)).toArray
theorem u8r_made (f n : Nat) : madeCells #[Value.int .u8 0] n = u8r f 0 n := by
  apply Array.ext
  · simp [madeCells, u8r]
  · intro i h1 h2
    simp [madeCells, u8r, Nat.mod_one]
theorem u8r_set (f m n : Nat) (h : m < n) : (u8r f m n).setIfInBounds m (.int .u8 (f : Int)) = u8r f (m + 1) n := by
  simp only [u8r, List.setIfInBounds_toArray]
  congr 1
  rw [List.set_append_right _ _ (by simp)]
  rw [List.length_replicate, Nat.sub_self, show n - m = (n - (m + 1)) + 1 by omega, List.replicate_succ (n := n - (m + 1)), List.set_cons_zero, List.replicate_succ', List.append_assoc]
  rfl
theorem conv_row (W : World) (g n : Nat) (l : List UInt8) (hl : l.length = n) (h : ∀ i, i < n → W.cell? ⟨g, 0 + i, none⟩ = some (.int .u8 (((l.getD i 0).toNat : Nat) : Int))) :
    (convert 69 9 (.slice (some ⟨g, 0, none⟩) n n)).run Try.prog W = .ok (.string (strOf l)) W := by
  rw [run_convert_bytes_arg (P := Try.prog) W 69 5 Try.underlying69 Try.underlying5 g 0 n n (l.map fun u => (u.toNat : Int)) (by simpa using hl) (fun i hi => by
    rw [h i hi]
    simp [List.getD, show i < l.length by omega]) 9 Try.underlying9]
  congr 3
  simp [strOfNums, List.map_map, Function.comp_def]
  rfl
set_option maxRecDepth 100000 in
set_option maxHeartbeats 1000000 in
theorem filled_none (k a : Int) (f : Nat) (pa : Option Addr) (pl pc : Nat) (w : World) (hf : f < 256) (T : ByteArray) (hT : strOf (List.replicate 256 (UInt8.ofNat f)) = T) :
    Calls Try.prog 27 #[.agg #[.int .i64 k, .int .i64 a, .int .i64 0, .int .u8 (f : Int), .slice pa pl pc]] w fun e w' => e = .returned (.string T) ∧ Below w.heap.size w w' := by
  have HT : Hid (strOf (List.replicate 256 (UInt8.ofNat f)) = T) := hT
  clear hT
  obtain ⟨b, hb⟩ : ∃ b, w.heap.size = b := ⟨_, rfl⟩
  obtain ⟨W1, hW1⟩ : ∃ W1, w.alloc (.cells #[.int .i64 k, .int .i64 a, .int .i64 0, .int .u8 (f : Int), .slice pa pl pc] 46) = W1 := ⟨_, rfl⟩
  have hb1 : Below b w W1 := by rw [← hW1, ← hb]; exact (Below.refl _ w).alloc (Nat.le_refl _) _
  have hr1 : W1.heap[b]? = some (.cells #[.int .i64 k, .int .i64 a, .int .i64 0, .int .u8 (f : Int), .slice pa pl pc] 46 (0, 0)) := by rw [← hW1, ← hb]; exact heap_alloc_new w _
  have cL : W1.cell? ⟨b, 2, none⟩ = some (.int .i64 0) := by rw [cell_of_row _ b _ _ _ _ hr1]; rfl
  have hmk : (Instr.makeSlice 69 (.int .i64 256) (.int .i64 256)).run Try.prog W1 = .ok (.slice (some ⟨W1.heap.size, 0, none⟩) 256 256) (W1.alloc (.cells (u8r f 0 256) 5)) := by
    have := run_make (P := Try.prog) W1 69 5 _ (.int .u8 0) Try.underlying69 rfl rfl .i64 .i64 256 256 (by omega) (by omega) (by show (1 : Int) * _ ≤ _; omega) (by omega)
    rw [this, show (256 : Int).toNat = 256 by omega, ← u8r_made f, show Try.prog.types[5].size = 1 from rfl, Nat.mul_one]
    rfl
  obtain ⟨c, hc⟩ : ∃ c, W1.heap.size = c := ⟨_, rfl⟩
  obtain ⟨W2, hW2⟩ : ∃ W2, W1.alloc (.cells (u8r f 0 256) 5) = W2 := ⟨_, rfl⟩
  rw [hW2, hc] at hmk
  have hbc : b < c := by rw [← hc]; exact lt_of_some hr1
  have HI : Hid (W2.heap[c]? = some (.cells (u8r f 0 256) 5 (0, 0)) ∧ W2.heap[b]? = some (.cells #[.int .i64 k, .int .i64 a, .int .i64 0, .int .u8 (f : Int), .slice pa pl pc] 46 (0, 0)) ∧ Below b w W2) := by
    rw [← hW2]
    refine ⟨by rw [← hc]; exact heap_alloc_new W1 _, ?_, hb1.alloc (by omega) _⟩
    rw [Below.heap_alloc _ _ _ (by omega)]
    exact hr1
  clear hb1 hr1
  go_enter Try.func27, Try.ntmps27
  go_wp2
  go_loopw [5] (fun v wr => ∃ m : Nat, m ≤ 256 ∧ v = .int .i64 m ∧ wr.heap[c]? = some (.cells (u8r f m 256) 5 (0, 0)) ∧ wr.heap[b]? = some (.cells #[.int .i64 k, .int .i64 a, .int .i64 0, .int .u8 (f : Int), .slice pa pl pc] 46 (0, 0)) ∧ Below b w wr) (fun v _ => 256 - (intOf v).toNat)
  case atStart => exact ⟨0, by omega, rfl, HI.out⟩
  case round =>
    clear HI cL hmk hW1 hW2
    obtain ⟨m, hm, rfl, hrc, hrb, hbel⟩ := hrel
    by_cases hlt : m < 256
    · have kk : (m : Int) < 256 := by omega
      have cf : wr.cell? ⟨b, 3, none⟩ = some (.int .u8 (f : Int)) := by rw [cell_of_row _ b _ _ _ _ hrb]; rfl
      have cm : wr.cell? ⟨c, m, none⟩ = some (.int .u8 0) := by
        rw [cell_of_row _ c _ _ _ _ hrc]
        simp only [u8r, List.getElem?_toArray]
        rw [List.getElem?_append_right (by simp), List.getElem?_replicate, if_pos (by simp; omega)]
      have fm := frozen_of_row wr c m _ _ hrc
      have HN : Hid ((wr.setCell ⟨c, m, none⟩ (.int .u8 (f : Int))).heap[c]? = some (.cells (u8r f (m + 1) 256) 5 (0, 0)) ∧ (wr.setCell ⟨c, m, none⟩ (.int .u8 (f : Int))).heap[b]? = some (.cells #[.int .i64 k, .int .i64 a, .int .i64 0, .int .u8 (f : Int), .slice pa pl pc] 46 (0, 0)) ∧ Below b w (wr.setCell ⟨c, m, none⟩ (.int .u8 (f : Int)))) := by
        refine ⟨?_, ?_, hbel.setCell (by show _ ≤ c; omega) _⟩
        · rw [heap_setCell_same wr c m _ _ _ hrc, u8r_set f m 256 hlt]
        · rw [heap_setCell_other _ _ _ _ (by show b ≠ c; omega)]; exact hrb
      clear hrc hrb hbel
      go_wp2
      exact ⟨⟨m + 1, by omega, by go_num, HN.out⟩, by simp [intOf]; omega⟩
    · obtain rfl : m = 256 := by omega
      have kk : ¬ (256 : Int) < 256 := by omega
      have hcv : (convert 69 9 (.slice (some ⟨c, 0, none⟩) 256 256)).run Try.prog wr = .ok (.string (strOf (List.replicate 256 (UInt8.ofNat f)))) wr := by
        refine conv_row wr c 256 _ (by simp) (fun i hi => ?_)
        rw [cell_of_row _ c _ _ _ _ hrc, Nat.zero_add]
        simp only [u8r, List.getElem?_toArray]
        rw [List.getElem?_append_left (by simpa using hi), List.getElem?_replicate, if_pos hi, List.getD_eq_getElem?_getD, List.getElem?_replicate, if_pos hi]
        simp [Nat.mod_eq_of_lt hf]
      clear hrc hrb
      rw [HT.out] at hcv
      go_wp2
      go_ret
      exact ⟨rfl, hbel⟩
set_option maxRecDepth 100000 in
set_option maxHeartbeats 1000000 in
theorem filled_less (k a L : Int) (f : Nat) (pa : Option Addr) (pl pc : Nat) (w : World) (hf : f < 256) (h1 : L < 0) (T : ByteArray) (hT : strOf (List.replicate 1 (UInt8.ofNat f)) = T) :
    Calls Try.prog 27 #[.agg #[.int .i64 k, .int .i64 a, .int .i64 L, .int .u8 (f : Int), .slice pa pl pc]] w fun e w' => e = .returned (.string T) ∧ Below w.heap.size w w' := by
  have HT : Hid (strOf (List.replicate 1 (UInt8.ofNat f)) = T) := hT
  clear hT
  have h0 : ¬ L = 0 := by omega
  obtain ⟨b, hb⟩ : ∃ b, w.heap.size = b := ⟨_, rfl⟩
  obtain ⟨W1, hW1⟩ : ∃ W1, w.alloc (.cells #[.int .i64 k, .int .i64 a, .int .i64 L, .int .u8 (f : Int), .slice pa pl pc] 46) = W1 := ⟨_, rfl⟩
  have hb1 : Below b w W1 := by rw [← hW1, ← hb]; exact (Below.refl _ w).alloc (Nat.le_refl _) _
  have hr1 : W1.heap[b]? = some (.cells #[.int .i64 k, .int .i64 a, .int .i64 L, .int .u8 (f : Int), .slice pa pl pc] 46 (0, 0)) := by rw [← hW1, ← hb]; exact heap_alloc_new w _
  have cL : W1.cell? ⟨b, 2, none⟩ = some (.int .i64 L) := by rw [cell_of_row _ b _ _ _ _ hr1]; rfl
  have hmk : (Instr.makeSlice 69 (.int .i64 1) (.int .i64 1)).run Try.prog W1 = .ok (.slice (some ⟨W1.heap.size, 0, none⟩) 1 1) (W1.alloc (.cells (u8r f 0 1) 5)) := by
    have := run_make (P := Try.prog) W1 69 5 _ (.int .u8 0) Try.underlying69 rfl rfl .i64 .i64 1 1 (by omega) (by omega) (by show (1 : Int) * _ ≤ _; omega) (by omega)
    rw [this, show (1 : Int).toNat = 1 by omega, ← u8r_made f, show Try.prog.types[5].size = 1 from rfl, Nat.mul_one]
    rfl
  obtain ⟨c, hc⟩ : ∃ c, W1.heap.size = c := ⟨_, rfl⟩
  obtain ⟨W2, hW2⟩ : ∃ W2, W1.alloc (.cells (u8r f 0 1) 5) = W2 := ⟨_, rfl⟩
  rw [hW2, hc] at hmk
  have hbc : b < c := by rw [← hc]; exact lt_of_some hr1
  have HI : Hid (W2.heap[c]? = some (.cells (u8r f 0 1) 5 (0, 0)) ∧ W2.heap[b]? = some (.cells #[.int .i64 k, .int .i64 a, .int .i64 L, .int .u8 (f : Int), .slice pa pl pc] 46 (0, 0)) ∧ Below b w W2) := by
    rw [← hW2]
    refine ⟨by rw [← hc]; exact heap_alloc_new W1 _, ?_, hb1.alloc (by omega) _⟩
    rw [Below.heap_alloc _ _ _ (by omega)]
    exact hr1
  clear hb1 hr1
  go_enter Try.func27, Try.ntmps27
  go_wp2
  go_loopw [5] (fun v wr => ∃ m : Nat, m ≤ 1 ∧ v = .int .i64 m ∧ wr.heap[c]? = some (.cells (u8r f m 1) 5 (0, 0)) ∧ wr.heap[b]? = some (.cells #[.int .i64 k, .int .i64 a, .int .i64 L, .int .u8 (f : Int), .slice pa pl pc] 46 (0, 0)) ∧ Below b w wr) (fun v _ => 1 - (intOf v).toNat)
  case atStart => exact ⟨0, by omega, rfl, HI.out⟩
  case round =>
    clear HI cL hmk hW1 hW2
    obtain ⟨m, hm, rfl, hrc, hrb, hbel⟩ := hrel
    by_cases hlt : m < 1
    · have kk : (m : Int) < 1 := by omega
      have cf : wr.cell? ⟨b, 3, none⟩ = some (.int .u8 (f : Int)) := by rw [cell_of_row _ b _ _ _ _ hrb]; rfl
      have cm : wr.cell? ⟨c, m, none⟩ = some (.int .u8 0) := by
        rw [cell_of_row _ c _ _ _ _ hrc]
        simp only [u8r, List.getElem?_toArray]
        rw [List.getElem?_append_right (by simp), List.getElem?_replicate, if_pos (by simp; omega)]
      have fm := frozen_of_row wr c m _ _ hrc
      have HN : Hid ((wr.setCell ⟨c, m, none⟩ (.int .u8 (f : Int))).heap[c]? = some (.cells (u8r f (m + 1) 1) 5 (0, 0)) ∧ (wr.setCell ⟨c, m, none⟩ (.int .u8 (f : Int))).heap[b]? = some (.cells #[.int .i64 k, .int .i64 a, .int .i64 L, .int .u8 (f : Int), .slice pa pl pc] 46 (0, 0)) ∧ Below b w (wr.setCell ⟨c, m, none⟩ (.int .u8 (f : Int)))) := by
        refine ⟨?_, ?_, hbel.setCell (by show _ ≤ c; omega) _⟩
        · rw [heap_setCell_same wr c m _ _ _ hrc, u8r_set f m 1 hlt]
        · rw [heap_setCell_other _ _ _ _ (by show b ≠ c; omega)]; exact hrb
      clear hrc hrb hbel
      go_wp2
      exact ⟨⟨m + 1, by omega, by go_num, HN.out⟩, by simp [intOf]; omega⟩
    · obtain rfl : m = 1 := by omega
      have kk : ¬ (1 : Int) < 1 := by omega
      have hcv : (convert 69 9 (.slice (some ⟨c, 0, none⟩) 1 1)).run Try.prog wr = .ok (.string (strOf (List.replicate 1 (UInt8.ofNat f)))) wr := by
        refine conv_row wr c 1 _ (by simp) (fun i hi => ?_)
        rw [cell_of_row _ c _ _ _ _ hrc, Nat.zero_add]
        simp only [u8r, List.getElem?_toArray]
        rw [List.getElem?_append_left (by simpa using hi), List.getElem?_replicate, if_pos hi, List.getD_eq_getElem?_getD, List.getElem?_replicate, if_pos hi]
        simp [Nat.mod_eq_of_lt hf]
      clear hrc hrb
      rw [HT.out] at hcv
      go_wp2
      go_ret
      exact ⟨rfl, hbel⟩
set_option maxRecDepth 100000 in
set_option maxHeartbeats 1000000 in
theorem filled_more (k a L : Int) (f : Nat) (pa : Option Addr) (pl pc : Nat) (w : World) (hf : f < 256) (h1 : 1000 < L) (T : ByteArray) (hT : strOf (List.replicate 1 (UInt8.ofNat f)) = T) :
    Calls Try.prog 27 #[.agg #[.int .i64 k, .int .i64 a, .int .i64 L, .int .u8 (f : Int), .slice pa pl pc]] w fun e w' => e = .returned (.string T) ∧ Below w.heap.size w w' := by
  have HT : Hid (strOf (List.replicate 1 (UInt8.ofNat f)) = T) := hT
  clear hT
  have h0 : ¬ L = 0 := by omega
  have h01 : ¬ L < 0 := by omega
  obtain ⟨b, hb⟩ : ∃ b, w.heap.size = b := ⟨_, rfl⟩
  obtain ⟨W1, hW1⟩ : ∃ W1, w.alloc (.cells #[.int .i64 k, .int .i64 a, .int .i64 L, .int .u8 (f : Int), .slice pa pl pc] 46) = W1 := ⟨_, rfl⟩
  have hb1 : Below b w W1 := by rw [← hW1, ← hb]; exact (Below.refl _ w).alloc (Nat.le_refl _) _
  have hr1 : W1.heap[b]? = some (.cells #[.int .i64 k, .int .i64 a, .int .i64 L, .int .u8 (f : Int), .slice pa pl pc] 46 (0, 0)) := by rw [← hW1, ← hb]; exact heap_alloc_new w _
  have cL : W1.cell? ⟨b, 2, none⟩ = some (.int .i64 L) := by rw [cell_of_row _ b _ _ _ _ hr1]; rfl
  have hmk : (Instr.makeSlice 69 (.int .i64 1) (.int .i64 1)).run Try.prog W1 = .ok (.slice (some ⟨W1.heap.size, 0, none⟩) 1 1) (W1.alloc (.cells (u8r f 0 1) 5)) := by
    have := run_make (P := Try.prog) W1 69 5 _ (.int .u8 0) Try.underlying69 rfl rfl .i64 .i64 1 1 (by omega) (by omega) (by show (1 : Int) * _ ≤ _; omega) (by omega)
    rw [this, show (1 : Int).toNat = 1 by omega, ← u8r_made f, show Try.prog.types[5].size = 1 from rfl, Nat.mul_one]
    rfl
  obtain ⟨c, hc⟩ : ∃ c, W1.heap.size = c := ⟨_, rfl⟩
  obtain ⟨W2, hW2⟩ : ∃ W2, W1.alloc (.cells (u8r f 0 1) 5) = W2 := ⟨_, rfl⟩
  rw [hW2, hc] at hmk
  have hbc : b < c := by rw [← hc]; exact lt_of_some hr1
  have HI : Hid (W2.heap[c]? = some (.cells (u8r f 0 1) 5 (0, 0)) ∧ W2.heap[b]? = some (.cells #[.int .i64 k, .int .i64 a, .int .i64 L, .int .u8 (f : Int), .slice pa pl pc] 46 (0, 0)) ∧ Below b w W2) := by
    rw [← hW2]
    refine ⟨by rw [← hc]; exact heap_alloc_new W1 _, ?_, hb1.alloc (by omega) _⟩
    rw [Below.heap_alloc _ _ _ (by omega)]
    exact hr1
  clear hb1 hr1
  go_enter Try.func27, Try.ntmps27
  go_wp2
  go_loopw [5] (fun v wr => ∃ m : Nat, m ≤ 1 ∧ v = .int .i64 m ∧ wr.heap[c]? = some (.cells (u8r f m 1) 5 (0, 0)) ∧ wr.heap[b]? = some (.cells #[.int .i64 k, .int .i64 a, .int .i64 L, .int .u8 (f : Int), .slice pa pl pc] 46 (0, 0)) ∧ Below b w wr) (fun v _ => 1 - (intOf v).toNat)
  case atStart => exact ⟨0, by omega, rfl, HI.out⟩
  case round =>
    clear HI cL hmk hW1 hW2
    obtain ⟨m, hm, rfl, hrc, hrb, hbel⟩ := hrel
    by_cases hlt : m < 1
    · have kk : (m : Int) < 1 := by omega
      have cf : wr.cell? ⟨b, 3, none⟩ = some (.int .u8 (f : Int)) := by rw [cell_of_row _ b _ _ _ _ hrb]; rfl
      have cm : wr.cell? ⟨c, m, none⟩ = some (.int .u8 0) := by
        rw [cell_of_row _ c _ _ _ _ hrc]
        simp only [u8r, List.getElem?_toArray]
        rw [List.getElem?_append_right (by simp), List.getElem?_replicate, if_pos (by simp; omega)]
      have fm := frozen_of_row wr c m _ _ hrc
      have HN : Hid ((wr.setCell ⟨c, m, none⟩ (.int .u8 (f : Int))).heap[c]? = some (.cells (u8r f (m + 1) 1) 5 (0, 0)) ∧ (wr.setCell ⟨c, m, none⟩ (.int .u8 (f : Int))).heap[b]? = some (.cells #[.int .i64 k, .int .i64 a, .int .i64 L, .int .u8 (f : Int), .slice pa pl pc] 46 (0, 0)) ∧ Below b w (wr.setCell ⟨c, m, none⟩ (.int .u8 (f : Int)))) := by
        refine ⟨?_, ?_, hbel.setCell (by show _ ≤ c; omega) _⟩
        · rw [heap_setCell_same wr c m _ _ _ hrc, u8r_set f m 1 hlt]
        · rw [heap_setCell_other _ _ _ _ (by show b ≠ c; omega)]; exact hrb
      clear hrc hrb hbel
      go_wp2
      exact ⟨⟨m + 1, by omega, by go_num, HN.out⟩, by simp [intOf]; omega⟩
    · obtain rfl : m = 1 := by omega
      have kk : ¬ (1 : Int) < 1 := by omega
      have hcv : (convert 69 9 (.slice (some ⟨c, 0, none⟩) 1 1)).run Try.prog wr = .ok (.string (strOf (List.replicate 1 (UInt8.ofNat f)))) wr := by
        refine conv_row wr c 1 _ (by simp) (fun i hi => ?_)
        rw [cell_of_row _ c _ _ _ _ hrc, Nat.zero_add]
        simp only [u8r, List.getElem?_toArray]
        rw [List.getElem?_append_left (by simpa using hi), List.getElem?_replicate, if_pos hi, List.getD_eq_getElem?_getD, List.getElem?_replicate, if_pos hi]
        simp [Nat.mod_eq_of_lt hf]
      clear hrc hrb
      rw [HT.out] at hcv
      go_wp2
      go_ret
      exact ⟨rfl, hbel⟩
set_option maxRecDepth 100000 in
set_option maxHeartbeats 1000000 in
theorem filled_just (k a : Int) (f : Nat) (pa : Option Addr) (pl pc : Nat) (w : World) (hf : f < 256) (n : Nat) (hn : n ≤ 1000) (h2 : 1 ≤ n) (T : ByteArray) (hT : strOf (List.replicate n (UInt8.ofNat f)) = T) :
    Calls Try.prog 27 #[.agg #[.int .i64 k, .int .i64 a, .int .i64 (n : Int), .int .u8 (f : Int), .slice pa pl pc]] w fun e w' => e = .returned (.string T) ∧ Below w.heap.size w w' := by
  have HT : Hid (strOf (List.replicate n (UInt8.ofNat f)) = T) := hT
  clear hT
  have h0 : ¬ (n : Int) = 0 := by omega
  have h01 : ¬ (n : Int) < 0 := by omega
  have h02 : ¬ (1000 : Int) < (n : Int) := by omega
  obtain ⟨b, hb⟩ : ∃ b, w.heap.size = b := ⟨_, rfl⟩
  obtain ⟨W1, hW1⟩ : ∃ W1, w.alloc (.cells #[.int .i64 k, .int .i64 a, .int .i64 (n : Int), .int .u8 (f : Int), .slice pa pl pc] 46) = W1 := ⟨_, rfl⟩
  have hb1 : Below b w W1 := by rw [← hW1, ← hb]; exact (Below.refl _ w).alloc (Nat.le_refl _) _
  have hr1 : W1.heap[b]? = some (.cells #[.int .i64 k, .int .i64 a, .int .i64 (n : Int), .int .u8 (f : Int), .slice pa pl pc] 46 (0, 0)) := by rw [← hW1, ← hb]; exact heap_alloc_new w _
  have cL : W1.cell? ⟨b, 2, none⟩ = some (.int .i64 (n : Int)) := by rw [cell_of_row _ b _ _ _ _ hr1]; rfl
  have hmk : (Instr.makeSlice 69 (.int .i64 (n : Int)) (.int .i64 (n : Int))).run Try.prog W1 = .ok (.slice (some ⟨W1.heap.size, 0, none⟩) n n) (W1.alloc (.cells (u8r f 0 n) 5)) := by
    have := run_make (P := Try.prog) W1 69 5 _ (.int .u8 0) Try.underlying69 rfl rfl .i64 .i64 (n : Int) (n : Int) (by omega) (by omega) (by show (1 : Int) * _ ≤ _; omega) (by omega)
    rw [this, show ((n : Int) : Int).toNat = n by omega, ← u8r_made f, show Try.prog.types[5].size = 1 from rfl, Nat.mul_one]
    rfl
  obtain ⟨c, hc⟩ : ∃ c, W1.heap.size = c := ⟨_, rfl⟩
  obtain ⟨W2, hW2⟩ : ∃ W2, W1.alloc (.cells (u8r f 0 n) 5) = W2 := ⟨_, rfl⟩
  rw [hW2, hc] at hmk
  have hbc : b < c := by rw [← hc]; exact lt_of_some hr1
  have HI : Hid (W2.heap[c]? = some (.cells (u8r f 0 n) 5 (0, 0)) ∧ W2.heap[b]? = some (.cells #[.int .i64 k, .int .i64 a, .int .i64 (n : Int), .int .u8 (f : Int), .slice pa pl pc] 46 (0, 0)) ∧ Below b w W2) := by
    rw [← hW2]
    refine ⟨by rw [← hc]; exact heap_alloc_new W1 _, ?_, hb1.alloc (by omega) _⟩
    rw [Below.heap_alloc _ _ _ (by omega)]
    exact hr1
  clear hb1 hr1
  go_enter Try.func27, Try.ntmps27
  go_wp2
  go_loopw [5] (fun v wr => ∃ m : Nat, m ≤ n ∧ v = .int .i64 m ∧ wr.heap[c]? = some (.cells (u8r f m n) 5 (0, 0)) ∧ wr.heap[b]? = some (.cells #[.int .i64 k, .int .i64 a, .int .i64 (n : Int), .int .u8 (f : Int), .slice pa pl pc] 46 (0, 0)) ∧ Below b w wr) (fun v _ => n - (intOf v).toNat)
  case atStart => exact ⟨0, by omega, rfl, HI.out⟩
  case round =>
    clear HI cL hmk hW1 hW2
    obtain ⟨m, hm, rfl, hrc, hrb, hbel⟩ := hrel
    by_cases hlt : m < n
    · have kk : (m : Int) < (n : Int) := by omega
      have cf : wr.cell? ⟨b, 3, none⟩ = some (.int .u8 (f : Int)) := by rw [cell_of_row _ b _ _ _ _ hrb]; rfl
      have cm : wr.cell? ⟨c, m, none⟩ = some (.int .u8 0) := by
        rw [cell_of_row _ c _ _ _ _ hrc]
        simp only [u8r, List.getElem?_toArray]
        rw [List.getElem?_append_right (by simp), List.getElem?_replicate, if_pos (by simp; omega)]
      have fm := frozen_of_row wr c m _ _ hrc
      have HN : Hid ((wr.setCell ⟨c, m, none⟩ (.int .u8 (f : Int))).heap[c]? = some (.cells (u8r f (m + 1) n) 5 (0, 0)) ∧ (wr.setCell ⟨c, m, none⟩ (.int .u8 (f : Int))).heap[b]? = some (.cells #[.int .i64 k, .int .i64 a, .int .i64 (n : Int), .int .u8 (f : Int), .slice pa pl pc] 46 (0, 0)) ∧ Below b w (wr.setCell ⟨c, m, none⟩ (.int .u8 (f : Int)))) := by
        refine ⟨?_, ?_, hbel.setCell (by show _ ≤ c; omega) _⟩
        · rw [heap_setCell_same wr c m _ _ _ hrc, u8r_set f m n hlt]
        · rw [heap_setCell_other _ _ _ _ (by show b ≠ c; omega)]; exact hrb
      clear hrc hrb hbel
      go_wp2
      exact ⟨⟨m + 1, by omega, by go_num, HN.out⟩, by simp [intOf]; omega⟩
    · obtain rfl : n = m := by omega
      have kk : ¬ ((n : Int) : Int) < (n : Int) := by omega
      have hcv : (convert 69 9 (.slice (some ⟨c, 0, none⟩) n n)).run Try.prog wr = .ok (.string (strOf (List.replicate n (UInt8.ofNat f)))) wr := by
        refine conv_row wr c n _ (by simp) (fun i hi => ?_)
        rw [cell_of_row _ c _ _ _ _ hrc, Nat.zero_add]
        simp only [u8r, List.getElem?_toArray]
        rw [List.getElem?_append_left (by simpa using hi), List.getElem?_replicate, if_pos hi, List.getD_eq_getElem?_getD, List.getElem?_replicate, if_pos hi]
        simp [Nat.mod_eq_of_lt hf]
      clear hrc hrb
      rw [HT.out] at hcv
      go_wp2
      go_ret
      exact ⟨rfl, hbel⟩
theorem filled_any (k a L : Int) (f : Nat) (pa : Option Addr) (pl pc : Nat) (w : World) (hf : f < 256) :
    Calls Try.prog 27 #[.agg #[.int .i64 k, .int .i64 a, .int .i64 L, .int .u8 (f : Int), .slice pa pl pc]] w fun e w' => e = .returned (.string (fillS L f)) ∧ Below w.heap.size w w' := by
  unfold fillS fillN
  by_cases h0 : L = 0
  · rw [if_pos h0, h0]
    exact filled_none k a f pa pl pc w hf _ rfl
  · rw [if_neg h0]
    by_cases h1 : L < 0
    · rw [if_pos (.inl h1)]
      exact filled_less k a L f pa pl pc w hf h1 _ rfl
    · by_cases h2 : 1000 < L
      · rw [if_pos (.inr h2)]
        exact filled_more k a L f pa pl pc w hf h2 _ rfl
      · rw [if_neg (by omega)]
        have := filled_just k a f pa pl pc w hf L.toNat (by omega) (by omega) _ rfl
        rw [show ((L.toNat : Nat) : Int) = L by omega] at this
        exact this
end Go.Proofs.Ytdlmciicapigjaa
