/- Walk over the program's firstWords. -/
import Derived.Test.YtbflkkffpcaakabDoorWF
import Derived.Test.YtbflkkffpcaakabDoorCE
namespace Go.Proofs.YtbflkkffpcaakabDoor
open Go.RowKit
theorem take_at (t : List UInt8) (n m : Nat) : (t.take n).getD m 0 = if m < n then t.getD m 0 else 0 := by
  rw [List.getD_eq_getElem?_getD, List.getElem?_take]
  split
  · rw [List.getD_eq_getElem?_getD]
  · rfl
theorem word_at (t : List UInt8) (n j : Nat) : wordAt (t.take n) j = (if 4 * j < n then (t.getD (4 * j) 0).toNat else 0) + 256 * (if 4 * j + 1 < n then (t.getD (4 * j + 1) 0).toNat else 0) + 65536 * (if 4 * j + 2 < n then (t.getD (4 * j + 2) 0).toNat else 0) + 16777216 * (if 4 * j + 3 < n then (t.getD (4 * j + 3) 0).toNat else 0) := by
  unfold wordAt
  simp only [take_at]
  split <;> split <;> split <;> split <;> simp
theorem word_next (t : List UInt8) (i : Nat) : wordAt (t.take (i + 1)) (i / 4) = wordAt (t.take i) (i / 4) + (t.getD i 0).toNat * 2 ^ (i % 4 * 8) ∧ wordAt (t.take i) (i / 4) < 2 ^ (i % 4 * 8) := by
  obtain ⟨j, hj⟩ : ∃ j, i / 4 = j := ⟨_, rfl⟩
  have h0 := (t.getD (4 * j) 0).toNat_lt
  have h1 := (t.getD (4 * j + 1) 0).toNat_lt
  have h2 := (t.getD (4 * j + 2) 0).toNat_lt
  rw [word_at, word_at, hj]
  have hr : i % 4 = 0 ∨ i % 4 = 1 ∨ i % 4 = 2 ∨ i % 4 = 3 := by omega
  rcases hr with hr | hr | hr | hr
  · obtain rfl : i = 4 * j := by omega
    rw [hr]
    refine ⟨?_, ?_⟩
    · repeat' first | rw [if_pos (by omega)] | rw [if_neg (by omega)]
      omega
    · repeat' first | rw [if_pos (by omega)] | rw [if_neg (by omega)]
      omega
  · obtain rfl : i = 4 * j + 1 := by omega
    rw [hr]
    refine ⟨?_, ?_⟩
    · repeat' first | rw [if_pos (by omega)] | rw [if_neg (by omega)]
      omega
    · repeat' first | rw [if_pos (by omega)] | rw [if_neg (by omega)]
      omega
  · obtain rfl : i = 4 * j + 2 := by omega
    rw [hr]
    refine ⟨?_, ?_⟩
    · repeat' first | rw [if_pos (by omega)] | rw [if_neg (by omega)]
      omega
    · repeat' first | rw [if_pos (by omega)] | rw [if_neg (by omega)]
      omega
  · obtain rfl : i = 4 * j + 3 := by omega
    rw [hr]
    refine ⟨?_, ?_⟩
    · repeat' first | rw [if_pos (by omega)] | rw [if_neg (by omega)]
      omega
    · repeat' first | rw [if_pos (by omega)] | rw [if_neg (by omega)]
      omega
theorem word_same (t : List UInt8) (i j : Nat) (h : j ≠ i / 4) : wordAt (t.take (i + 1)) j = wordAt (t.take i) j := by
  rw [word_at, word_at]
  have e0 : (4 * j < i + 1) = (4 * j < i) := by apply propext; omega
  have e1 : (4 * j + 1 < i + 1) = (4 * j + 1 < i) := by apply propext; omega
  have e2 : (4 * j + 2 < i + 1) = (4 * j + 2 < i) := by apply propext; omega
  have e3 : (4 * j + 3 < i + 1) = (4 * j + 3 < i) := by apply propext; omega
  simp only [e0, e1, e2, e3]
theorem words_next (t : List UInt8) (i : Nat) : wordsL (t.take (i + 1)) = (wordsL (t.take i)).set (i / 4) (wordAt (t.take i) (i / 4) + (t.getD i 0).toNat * 2 ^ (i % 4 * 8)) := by
  apply List.ext_getElem?
  intro j
  by_cases hj : j < 16
  · have e1 : (wordsL (t.take (i + 1)))[j]? = some (wordAt (t.take (i + 1)) j) := by simp [wordsL, List.getElem?_range hj]
    have e2 : (wordsL (t.take i))[j]? = some (wordAt (t.take i) j) := by simp [wordsL, List.getElem?_range hj]
    rw [e1, List.getElem?_set, wordsL_len, e2]
    by_cases h : i / 4 = j
    · rw [if_pos h, if_pos (by omega), ← h, (word_next t i).1]
    · rw [if_neg h, word_same t i j (by omega)]
  · rw [List.getElem?_eq_none (by rw [wordsL_len]; omega), List.getElem?_eq_none (by rw [List.length_set, wordsL_len]; omega)]
theorem or_add (x b k : Nat) (hx : x < 2 ^ k) : x ||| (b * 2 ^ k) = x + b * 2 ^ k := by
  rw [Nat.or_comm, Nat.mul_comm, ← Nat.two_pow_add_eq_or_of_lt hx, Nat.add_comm]
theorem words_0 : wordsL [] = zeros16 := by decide
set_option maxRecDepth 100000 in
set_option maxHeartbeats 2000000 in
theorem first_any (key nonce : ByteArray) (w : World) (hk : key.size = 32) (hn : nonce.size = 12) :
    Calls Tryd.prog 16 #[.string key, .string nonce] w fun e w' => e = .returned (.agg (u32v (firstL key.data.toList nonce.data.toList))) ∧ Below w.heap.size w w' := by
  obtain ⟨B, hB⟩ : ∃ B, w.heap.size = B := ⟨_, rfl⟩
  obtain ⟨T, hT⟩ : ∃ T, (⟨#[101, 120, 112, 97, 110, 100, 32, 51, 50, 45, 98, 121, 116, 101, 32, 107]⟩ ++ key ++ ⟨#[0, 0, 0, 0]⟩ ++ nonce : ByteArray) = T := ⟨_, rfl⟩
  have hTs : T.size = 64 := by
    rw [← hT, ByteArray.size_append, ByteArray.size_append, ByteArray.size_append, hk, hn]; rfl
  have hTl : T.data.toList = beginT key.data.toList [0, 0, 0, 0] nonce.data.toList := by
    rw [← hT]; simp [beginT, expandL]
  obtain ⟨W1, hW1⟩ : ∃ W, (w.alloc (.cells #[Value.int IntKind.u32 0, Value.int IntKind.u32 0, Value.int IntKind.u32 0, Value.int IntKind.u32 0, Value.int IntKind.u32 0, Value.int IntKind.u32 0, Value.int IntKind.u32 0, Value.int IntKind.u32 0, Value.int IntKind.u32 0, Value.int IntKind.u32 0, Value.int IntKind.u32 0, Value.int IntKind.u32 0, Value.int IntKind.u32 0, Value.int IntKind.u32 0, Value.int IntKind.u32 0, Value.int IntKind.u32 0] 41)).alloc (.cells #[Value.int IntKind.u32 0, Value.int IntKind.u32 0, Value.int IntKind.u32 0, Value.int IntKind.u32 0, Value.int IntKind.u32 0, Value.int IntKind.u32 0, Value.int IntKind.u32 0, Value.int IntKind.u32 0, Value.int IntKind.u32 0, Value.int IntKind.u32 0, Value.int IntKind.u32 0, Value.int IntKind.u32 0, Value.int IntKind.u32 0, Value.int IntKind.u32 0, Value.int IntKind.u32 0, Value.int IntKind.u32 0] 41) = W := ⟨_, rfl⟩
  have hROW : ((w.alloc (.cells (u32v zeros16) 41)).alloc (.cells (u32v zeros16) 41)).heap[B]? = some (.cells (u32v zeros16) 41 (0, 0)) := by
    rw [← hB, Go.heap_alloc_old _ _ (by simp)]; exact heap_alloc_new _ _
  have hRZ : ((w.alloc (.cells (u32v zeros16) 41)).alloc (.cells (u32v zeros16) 41)).heap[B + 1]? = some (.cells (u32v zeros16) 41 (0, 0)) := by
    have := heap_alloc_new (w.alloc (.cells (u32v zeros16) 41)) (.cells (u32v zeros16) 41)
    rw [← hB]
    simpa using this
  replace hROW : W1.heap[B]? = some (.cells (u32v zeros16) 41 (0, 0)) := by rw [← hW1]; exact hROW
  replace hRZ : W1.heap[B + 1]? = some (.cells (u32v (wordsL (T.data.toList.take 0))) 41 (0, 0)) := by rw [← hW1, List.take_zero, words_0]; exact hRZ
  have hbl : Below B w W1 := by rw [← hW1, ← hB]; exact ((Below.refl _ w).alloc (Nat.le_refl _) _).alloc (by simp) _
  have HST : Hid (W1.heap[B]? = some (.cells (u32v zeros16) 41 (0, 0)) ∧ W1.heap[B + 1]? = some (.cells (u32v (wordsL (T.data.toList.take 0))) 41 (0, 0)) ∧ Below B w W1) := ⟨hROW, hRZ, hbl⟩
  obtain ⟨F, hF⟩ : ∃ F, firstL key.data.toList nonce.data.toList = F := ⟨_, rfl⟩
  have HE : Hid (wordsL (T.data.toList.take 64) = F ∧ F.length = 16) := by
    refine ⟨?_, by rw [← hF, firstL_len]⟩
    rw [List.take_of_length_le (by show T.size ≤ 64; omega), hTl, ← hF]; rfl
  rw [hF]
  have HB : Hid (w.heap.size = B) := hB
  clear hROW hRZ hbl hTl hF
  go_enter Tryd.func16, Tryd.ntmps16
  go_wp2
  go_loopw [15] (fun v15 wr => ∃ i : Nat, i ≤ 64 ∧ v15 = .int .i64 (i : Int) ∧ wr.heap[B]? = some (.cells (u32v zeros16) 41 (0, 0)) ∧ wr.heap[B + 1]? = some (.cells (u32v (wordsL (T.data.toList.take i))) 41 (0, 0)) ∧ Below B w wr) (fun v _ => 64 - (intOf v).toNat)
  case atStart => exact ⟨0, by omega, rfl, HST.out⟩
  case round =>
    clear HST
    obtain ⟨i, hi, rfl, h1, h2, h3⟩ := hrel
    by_cases hlt : i < 64
    · have kk : (i : Int) < 64 := by omega
      obtain ⟨b, hb⟩ : ∃ b : Nat, (T.data.toList.getD i 0).toNat = b := ⟨_, rfl⟩
      have hb8 : b < 256 := by rw [← hb]; exact UInt8.toNat_lt _
      obtain ⟨x, hx⟩ : ∃ x, wordAt (T.data.toList.take i) (i / 4) = x := ⟨_, rfl⟩
      obtain ⟨hwn, hxl⟩ := word_next T.data.toList i
      have hws := words_next T.data.toList i
      rw [hx] at hxl hws
      rw [hb] at hws
      obtain ⟨q, hq⟩ : ∃ q, i / 4 = q := ⟨_, rfl⟩
      obtain ⟨r, hr⟩ : ∃ r, i % 4 * 8 = r := ⟨_, rfl⟩
      rw [hr] at hxl hws
      rw [hq] at hws
      have hr24 : r ≤ 24 := by omega
      have hq16 : q < 16 := by omega
      have hp : 2 ^ r ≤ 2 ^ 24 := Nat.pow_le_pow_right (by omega) hr24
      have hbl2 : b * 2 ^ r < 4294967296 := by
        have : b * 2 ^ r ≤ 255 * 2 ^ 24 := Nat.mul_le_mul (by omega) hp
        omega
      have kq : (i : Int) / 4 = (q : Int) := by omega
      have kr : (i : Int) % 4 * 8 = (r : Int) := by omega
      have cs : wr.cell? ⟨B + 1, q, none⟩ = some (.int .u32 (x : Int)) := by
        rw [cell_of_row _ _ _ _ _ _ h2, u32v_get _ _ (by rw [wordsL_len]; exact hq16), wordsL_at _ _ hq16, ← hq, hx]
      have fs := frozen_of_row wr (B + 1) q _ _ h2
      have hix := str_at T i b (by omega) hb
      obtain ⟨v, hv⟩ : ∃ v, x + b * 2 ^ r = v := ⟨_, rfl⟩
      have ho : bits BinOp.or IntKind.u32 (x : Int) ((b : Int) * 2 ^ r % 4294967296) = (v : Int) := by
        rw [← hv]
        have e2 : (b : Int) * 2 ^ r % 4294967296 = ((b * 2 ^ r % 4294967296 : Nat) : Int) := by simp
        rw [Nat.mod_eq_of_lt hbl2] at e2
        rw [e2, u32_or_nat _ _ (by omega) hbl2, or_add x b r hxl]
      obtain ⟨W9, hW9⟩ : ∃ W, wr.setCell ⟨B + 1, q, none⟩ (.int .u32 (v : Int)) = W := ⟨_, rfl⟩
      have HNX : Hid (W9.drew.heap[B]? = some (.cells (u32v zeros16) 41 (0, 0)) ∧ W9.drew.heap[B + 1]? = some (.cells (u32v (wordsL (T.data.toList.take (i + 1)))) 41 (0, 0)) ∧ Below B w W9.drew) := by
        rw [← hW9]
        refine ⟨?_, ?_, (h3.setCell (Nat.le_succ _) _).drew⟩
        · show (wr.setCell _ _).heap[B]? = _
          rw [heap_setCell_other _ _ _ _ (by show B ≠ B + 1; omega)]; exact h1
        · show (wr.setCell _ _).heap[B + 1]? = _
          rw [heap_setCell_same _ _ _ _ _ _ h2, u32v_set, hws, hv]
      clear hws hwn hb hx hv h1 h2 h3 hbl2 hp hxl hq hr hi
      go_wp2_with fail
      go_region
      go_wp2
      exact ⟨⟨i + 1, by omega, by go_num, HNX.out⟩, by simp [intOf]; omega⟩
    · obtain rfl : i = 64 := by omega
      have HR : Hid (wr.heap[B]? = some (.cells (u32v zeros16) 41 (0, 0)) ∧ wr.heap[B + 1]? = some (.cells (u32v (wordsL (T.data.toList.take 64))) 41 (0, 0)) ∧ Below B w wr) := ⟨h1, h2, h3⟩
      clear h1 h2 h3
      rw [HE.out.1] at HR
      have HI := infoU16 F HE.out.2
      have HFL : Hid (F.length = 16) := HE.out.2
      go_wp2_with (first | (refine wpList_load_row rfl 41 _ rfl (B + 1) rfl 41 (u32v F) (0, 0) _ HR.out.2.1 Tryd.underlying41 rfl HI ?_) | (refine wpList_store_row rfl 41 _ _ rfl B (u32v F) rfl rfl 41 (u32v zeros16) HR.out.1 HI (by rw [u32v_size, u32v_size, HFL.out]; rfl) (u32v_all _) ?_))
      refine bodyPost_ret (v := .agg (u32v F)) ?_ rfl ⟨rfl, HB.out ▸ below_setRow HR.out.2.2 B (Nat.le_refl _) _⟩
      exact results_cell_row rfl _ _ B 41 _ (0, 0) _ rfl (setRow_heap _ _ _ _ _ _ HR.out.1) Tryd.underlying41 rfl HI
end Go.Proofs.YtbflkkffpcaakabDoor
