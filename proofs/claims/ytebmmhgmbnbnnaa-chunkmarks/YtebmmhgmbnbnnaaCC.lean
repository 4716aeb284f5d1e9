/- Measures and marks. -/
import Derived.Test.YtebmmhgmbnbnnaaCB
import Derived.Test.YtebmmhgmbnbnnaaE
import Derived.Laws.IdiomStrings
namespace Go.Proofs.Ytebmmhgmbnbnnaa
open Go.RowKit Ck
/-- May a measure be? -/
def mayI (a b c : Int) : Bool := decide (1 ≤ a) && decide (a ≤ b) && decide (b ≤ 1024) && decide (0 ≤ c) && decide (c ≤ 16)
set_option maxRecDepth 100000 in
set_option maxHeartbeats 1000000 in
theorem ismeasure_any (a b c : Int) (w : World) : Calls Try.prog 23 #[.agg #[.int .i64 a, .int .i64 b, .int .i64 c]] w fun e w' => e = .returned (.bool (mayI a b c)) ∧ Below w.heap.size w w' := by
  obtain ⟨r, hr⟩ : ∃ r, mayI a b c = r := ⟨_, rfl⟩
  rw [hr]
  have HR : Hid (mayI a b c = r) := hr
  clear hr
  go_enter Try.func23, Try.ntmps23
  go_wp2
  all_goals
    go_ret
    refine ⟨ret_bool ?_, (Below.refl _ w).alloc (Nat.le_refl _) _⟩
    rw [← HR.out]
    simp [mayI]
    omega
theorem pow_cut (k : Nat) (hk : k ≤ 32) : 2 ^ (32 - k) * 2 ^ k = 4294967296 := by
  rw [← Nat.pow_add, show 32 - k + k = 32 by omega]
theorem mk_yes {N k : Nat} (hk : k ≤ 32) (h : N * 2 ^ k < 4294967296) : N / 2 ^ (32 - k) = 0 := by
  apply Nat.div_eq_of_lt
  rw [← pow_cut k hk] at h
  exact Nat.lt_of_mul_lt_mul_right h
theorem mk_no {N k c : Nat} (hc : c ≤ 32) (hk : k < c) (h : 2147483648 ≤ N * 2 ^ k) : ¬ N / 2 ^ (32 - c) = 0 := by
  intro h0
  have h1 : N < 2 ^ (32 - c) := by
    rcases Nat.div_eq_zero_iff.1 h0 with h2 | h2
    · have := Nat.two_pow_pos (32 - c); omega
    · exact h2
  have h2 : 2 ^ (32 - c) * 2 ^ (k + 1) ≤ 4294967296 := by
    rw [← Nat.pow_add]
    exact Nat.pow_le_pow_right (n := 2) (by omega) (show 32 - c + (k + 1) ≤ 32 by omega)
  have h3 : N * 2 ^ (k + 1) < 2 ^ (32 - c) * 2 ^ (k + 1) := Nat.mul_lt_mul_of_pos_right h1 (Nat.two_pow_pos _)
  have h4 : N * 2 ^ (k + 1) = 2 * (N * 2 ^ k) := by rw [Nat.pow_succ]; rw [← Nat.mul_assoc]; omega
  omega
set_option maxRecDepth 100000 in
set_option maxHeartbeats 1000000 in
theorem ismark_any (s b : Nat) (w : World) (hb : b ≤ 32) : Calls Try.prog 26 #[.int .u32 (s : Int), .int .i64 (b : Int)] w fun e w' => e = .returned (.bool (decide (s * 2654435761 % 4294967296 / 2 ^ (32 - b) = 0))) ∧ w' = w := by
  go_enter Try.func26, Try.ntmps26
  go_wp2
  go_ret
  refine ⟨ret_bool ?_, rfl⟩
  have e : (s : Int) * 2654435761 % 4294967296 / 2 ^ (32 - b) = ((s * 2654435761 % 4294967296 / 2 ^ (32 - b) : Nat) : Int) := by simp
  rw [e]
  by_cases h : s * 2654435761 % 4294967296 / 2 ^ (32 - b) = 0
  · rw [h]; rfl
  · have h2 : ¬ ((s * 2654435761 % 4294967296 / 2 ^ (32 - b) : Nat) : Int) = 0 := by omega
    rw [decide_eq_false h]
    exact beq_eq_false_iff_ne.2 h2
/-- How many bits count. -/
def clampB (x : Int) : Nat := (min (max x 0) 32).toNat
theorem clampB_le (x : Int) : clampB x ≤ 32 := by unfold clampB; omega
theorem clampB_nat (b : Nat) (h : b ≤ 32) : clampB (b : Int) = b := by unfold clampB; omega
/-- '[]byte(s)': the bytes lie in a new row. -/
theorem bytes_of (w : World) (bs : List UInt8) (hs : bs.length ≤ 9223372036854775807) :
    ∃ cap W, (convert 9 36 (.string (strOf bs))).run Try.prog w = .ok (.slice (some ⟨w.heap.size, 0, none⟩) bs.length cap) W ∧ Below w.heap.size w W ∧ w.heap.size < W.heap.size ∧ BsI W (some ⟨w.heap.size, 0, none⟩) bs.length cap bs := by
  have hz : (strOf bs).size = bs.length := strOf_size bs
  have hcap := grownCap_le_maxLen w bs.length 0 5 (by simpa [maxLen] using hs)
  have hge := grownCap_ge w bs.length 0 5
  have hlt : w.heap.size < (w.drew.alloc (.cells (bytesRow (strOf bs) (grownCap w bs.length 0 5)) 5)).heap.size := by simp [World.alloc, World.drew, -World.alloc_eq, -World.drew_eq]
  refine ⟨_, _, run_bytes_of_string w 9 36 5 (strOf bs) Try.underlying9 Try.underlying36 Try.underlying5, (Below.refl _ w).drew.alloc (Nat.le_refl _) _, ?_, ?_⟩
  · simp [World.alloc, World.drew, -World.alloc_eq, -World.drew_eq]
  · refine ⟨rfl, ?_, ?_, fun _ => ⟨_, 0, rfl, ?_, fun i hi => ?_⟩⟩
    · rw [hz]; exact hge
    · rw [hz]; simpa [maxLen] using hcap
    · simp [World.alloc, World.drew, -World.alloc_eq, -World.drew_eq]
    · have hi' : i < (strOf bs).data.size := by show i < (strOf bs).size; rw [hz]; exact hi
      rw [Nat.zero_add, cell_of_row _ w.heap.size i _ _ _ (heap_alloc_new w.drew _)]
      unfold bytesRow
      rw [Array.getElem?_append_left (by simpa using hi'), Array.getElem?_map, Array.getElem?_eq_getElem hi', List.getD_eq_getElem?_getD, List.getElem?_eq_getElem hi]
      rfl
end Go.Proofs.Ytebmmhgmbnbnnaa
