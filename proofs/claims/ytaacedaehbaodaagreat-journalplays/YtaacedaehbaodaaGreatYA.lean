/- Walks over the document's Told, Mark and laid. -/
import Derived.Test.YtaacedaehbaodaaGreatJP
namespace Go.Proofs.YtaacedaehbaodaaGreat
open Go.RowKit Go.Shelf
set_option maxRecDepth 100000 in
set_option maxHeartbeats 1000000 in
theorem rtold_any (m : ByteArray) (hm : m.size = 256) (p : Nat) (hp : p < 128) (w : World) : Calls Tryz.prog 51 #[.string m, .int .i64 (p : Int)] w fun e w' => e = .returned (.bool (tells m p)) ∧ w' = w := by
  have hk8 : p / 8 < m.size := by omega
  obtain ⟨y, hy⟩ : ∃ y, m[p / 8].toNat = y := ⟨_, rfl⟩
  have hy8 : y < 256 := by rw [← hy]; exact UInt8.toNat_lt _
  have HT : Hid (tells m p = decide (y / 2 ^ (p % 8) % 2 = 1)) := by
    show tells m p = _
    unfold tells
    have e : m.data.toList.getD (p / 8) 0 = m[p / 8] := by
      rw [List.getD_eq_getElem?_getD, Array.getElem?_toList, Array.getElem?_eq_getElem hk8]
      rfl
    rw [e, hy, Nat.testBit_eq_decide_div_mod_eq]
  obtain ⟨r, hr⟩ : ∃ r, p % 8 = r := ⟨_, rfl⟩
  have hr8 : r < 8 := by omega
  have kr : (p : Int) % 8 = (r : Int) := by omega
  rw [hr] at HT
  clear hr
  go_enter Tryz.func51, Tryz.ntmps51
  go_wp2
  go_loopw [5, 6] (fun vc vn wr => ∃ k : Nat, k ≤ r ∧ vn = .int .i64 k ∧ vc = .int .u8 ((y / 2 ^ k : Nat) : Int) ∧ wr = w) (fun _ vn _ => r - (intOf vn).toNat)
  case atStart => exact ⟨0, by omega, rfl, by simp, rfl⟩
  case round =>
    obtain ⟨k, hk, rfl, rfl, hwr⟩ := hrel
    subst wr
    obtain ⟨c, hc⟩ : ∃ c, y / 2 ^ k = c := ⟨_, rfl⟩
    have hc8 : c < 256 := by rw [← hc]; exact Nat.lt_of_le_of_lt (Nat.div_le_self _ _) hy8
    have HC : Hid (y / 2 ^ (k + 1) = c / 2) := by
      show _ = _
      rw [← hc, Nat.div_div_eq_div_mul, ← Nat.pow_succ]
    have HC0 : Hid (y / 2 ^ k = c) := hc
    rw [hc]
    by_cases hlt : k < r
    · have kk : (k : Int) < (r : Int) := by omega
      clear hc
      go_wp2
      exact ⟨⟨k + 1, by omega, by go_num, by rw [HC.out]; simp, trivial⟩, by simp [intOf]; omega⟩
    · obtain rfl : k = r := by omega
      have kk : ¬ (k : Int) < (k : Int) := by omega
      clear hc
      go_wp2
      go_ret
      refine ⟨ret_bool ?_, rfl⟩
      rw [HT.out, HC0.out]
      by_cases h1 : c % 2 = 1
      · have : (c : Int) % 2 = 1 := by omega
        simp [h1, this]
      · have : ¬ (c : Int) % 2 = 1 := by omega
        simp [h1, this]
/-- The pages below i that are told. -/
def belowL (l : List Nat) (i : Nat) : List Nat := (List.range i).filter fun p => decide (p ∈ l)
theorem belowL_succ (l : List Nat) (i : Nat) : belowL l (i + 1) = belowL l i ++ (if i ∈ l then [i] else []) := by
  unfold belowL
  rw [List.range_succ, List.filter_append]
  congr 1
  by_cases h : i ∈ l <;> simp [h]
theorem belowL_mem (l : List Nat) (i p : Nat) : p ∈ belowL l i ↔ p < i ∧ p ∈ l := by
  unfold belowL
  rw [List.mem_filter, List.mem_range, decide_eq_true_iff]
theorem mark_tells (ps : List Nat) (hp : ∀ p ∈ ps, p < 128) (i : Nat) : tellsB (markBs ps) i = decide (i ∈ ps) := tells_mark ps hp i
theorem mark_byte (ps : List Nat) (hp : ∀ p ∈ ps, p < 128) (j b : Nat) (hb : b < 8) : ((markBs ps).getD j 0).toNat.testBit b = decide (8 * j + b ∈ ps) := by
  have := mark_tells ps hp (8 * j + b)
  unfold tellsB at this
  rw [show (8 * j + b) / 8 = j by omega, show (8 * j + b) % 8 = b by omega] at this
  exact this
/-- A mark is fixed by the pages that it tells. -/
theorem mark_unique (ps qs : List Nat) (hp : ∀ p ∈ ps, p < 128) (hq : ∀ p ∈ qs, p < 128) (h : ∀ p, p ∈ ps ↔ p ∈ qs) : markBs ps = markBs qs := by
  apply List.ext_getElem
  · rw [markBs_len, markBs_len]
  · intro j h1 h2
    have g1 : (markBs ps)[j] = (markBs ps).getD j 0 := by rw [List.getD_eq_getElem?_getD, List.getElem?_eq_getElem h1]; rfl
    have g2 : (markBs qs)[j] = (markBs qs).getD j 0 := by rw [List.getD_eq_getElem?_getD, List.getElem?_eq_getElem h2]; rfl
    rw [g1, g2]
    apply UInt8.toNat_inj.1
    apply Nat.eq_of_testBit_eq
    intro b
    by_cases hb : b < 8
    · rw [mark_byte ps hp j b hb, mark_byte qs hq j b hb]
      simp only [h]
    · rw [Nat.testBit_lt_two_pow (Nat.lt_of_lt_of_le (UInt8.toNat_lt _) (Nat.pow_le_pow_right (n := 2) (by omega) (show 8 ≤ b by omega))), Nat.testBit_lt_two_pow (Nat.lt_of_lt_of_le (UInt8.toNat_lt _) (Nat.pow_le_pow_right (n := 2) (by omega) (show 8 ≤ b by omega)))]
theorem mark_low (l : List Nat) (hl : ∀ p ∈ l, p < 128) (i : Nat) : ((markBs (belowL l i)).getD (i / 8) 0).toNat < 2 ^ (i % 8) := by
  apply Nat.lt_pow_two_of_testBit
  intro b hb
  by_cases h8 : b < 8
  · rw [mark_byte _ (fun p hp => hl p ((belowL_mem l i p).1 hp).2) _ b h8, decide_eq_false_iff_not, belowL_mem]
    omega
  · exact Nat.testBit_lt_two_pow (Nat.lt_of_lt_of_le (UInt8.toNat_lt _) (Nat.pow_le_pow_right (n := 2) (by omega) (show 8 ≤ b by omega)))
theorem mark_add (y r : Nat) (h : y < 2 ^ r) : y + 2 ^ r = y ||| 2 ^ r := by
  have := Nat.two_pow_add_eq_or_of_lt h 1
  rw [Nat.mul_one] at this
  rw [Nat.add_comm, this, Nat.or_comm]
end Go.Proofs.YtaacedaehbaodaaGreat
