/- Walks over the small functions: isSize, isRule, end, between, within, has, New, Size, Free, Largest, Holes. -/
import Derived.Test.YtgihdfmeokbplaaXA
namespace Go.Proofs.Ytgihdfmeokbplaa
open Go.RowKit Ex
def fits (x : Int) : Prop := -9223372036854775808 ≤ x ∧ x ≤ 9223372036854775807
def wr64 (x : Int) : Int := IntKind.i64.wrap x
theorem wr64_in {x : Int} (h : fits x) : wr64 x = x := by unfold wr64 fits at *; rw [IntKind.wrap_i64]; omega
set_option maxHeartbeats 400000 in
theorem isSize_any (n : Int) (w : World) : Calls Try.prog 28 #[.int .i64 n] w fun e w' => e = .returned (.bool (decide (1 ≤ n) && decide (n ≤ 1048576))) ∧ w' = w := by
  by_cases h1 : 1 ≤ n
  · by_cases h2 : n ≤ 1048576
    · rw [decide_eq_true h1, decide_eq_true h2]
      go_enter Try.func28, Try.ntmps28
      go_wp2
      go_ret
      exact ⟨rfl, rfl⟩
    · rw [decide_eq_true h1, decide_eq_false h2]
      go_enter Try.func28, Try.ntmps28
      go_wp2
      go_ret
      exact ⟨rfl, rfl⟩
  · rw [decide_eq_false h1]
    go_enter Try.func28, Try.ntmps28
    go_wp2
    go_ret
    exact ⟨rfl, rfl⟩
set_option maxHeartbeats 400000 in
theorem isRule_any (n : Int) (w : World) : Calls Try.prog 33 #[.int .i64 n] w fun e w' => e = .returned (.bool (decide (0 ≤ n) && decide (n < 4))) ∧ w' = w := by
  by_cases h1 : 0 ≤ n
  · by_cases h2 : n < 4
    · rw [decide_eq_true h1, decide_eq_true h2]
      go_enter Try.func33, Try.ntmps33
      go_wp2
      go_ret
      exact ⟨rfl, rfl⟩
    · rw [decide_eq_true h1, decide_eq_false h2]
      go_enter Try.func33, Try.ntmps33
      go_wp2
      go_ret
      exact ⟨rfl, rfl⟩
  · rw [decide_eq_false h1]
    go_enter Try.func33, Try.ntmps33
    go_wp2
    go_ret
    exact ⟨rfl, rfl⟩
set_option maxHeartbeats 400000 in
theorem end_any (a b : Int) (w : World) (h : fits (a + b)) : Calls Try.prog 37 #[.agg #[.int .i64 a, .int .i64 b]] w fun e w' => e = .returned (.int .i64 (a + b)) ∧ Below w.heap.size w w' := by
  have hw : IntKind.i64.wrap (a + b) = a + b := wr64_in h
  go_enter Try.func37, Try.ntmps37
  go_wp2
  go_ret
  exact ⟨rfl, (Below.refl _ w).alloc (Nat.le_refl _) _⟩
set_option maxHeartbeats 400000 in
theorem between_any (a b : Int) (w : World) (h : fits (b - a)) : Calls Try.prog 53 #[.int .i64 a, .int .i64 b] w fun e w' => e = .returned (.agg #[.int .i64 a, .int .i64 (b - a)]) ∧ Below w.heap.size w w' := by
  have hw : IntKind.i64.wrap (b - a) = b - a := wr64_in h
  go_enter Try.func53, Try.ntmps53
  go_wp2
  refine bodyPost_ret (v := .agg #[.int .i64 a, .int .i64 (b - a)]) ?_ rfl ⟨rfl, ?_⟩
  · simp [results, go_sem]
  · exact (Below.refl _ w).alloc (Nat.le_refl _) _
set_option maxHeartbeats 400000 in
theorem size_nil (w : World) : Calls Try.prog 26 #[.pointer none] w fun e w' => e = .returned (.int .i64 0) ∧ w' = w := by
  go_enter Try.func26, Try.ntmps26
  go_wp2
  go_ret
  exact ⟨rfl, rfl⟩
set_option maxHeartbeats 400000 in
theorem asize_any {w : World} {S : Nat → Prop} {ab : Nat} {X : Ar} (h : AIs w S ab X) : Calls Try.prog 26 #[.pointer (some ⟨ab, 0, none⟩)] w fun e w' => e = .returned (.int .i64 (X.sz : Int)) ∧ w' = w := by
  obtain ⟨ha, hc, h⟩ := h
  obtain ⟨c0, c1, c2⟩ := h.cells
  clear h
  go_enter Try.func26, Try.ntmps26
  go_wp2
  go_ret
  exact ⟨rfl, rfl⟩
set_option maxHeartbeats 400000 in
theorem free_nil (w : World) : Calls Try.prog 11 #[.pointer none] w fun e w' => e = .returned (.int .i64 0) ∧ w' = w := by
  go_enter Try.func11, Try.ntmps11
  go_wp2
  go_ret
  exact ⟨rfl, rfl⟩
set_option maxHeartbeats 400000 in
theorem largest_nil (w : World) : Calls Try.prog 16 #[.pointer none] w fun e w' => e = .returned (.int .i64 0) ∧ w' = w := by
  go_enter Try.func16, Try.ntmps16
  go_wp2
  go_ret
  exact ⟨rfl, rfl⟩
theorem sum_step {l : List Sp} {k : Nat} {q : Sp} (h : l[k]? = some q) : sumS (l.take (k + 1)) = sumS (l.take k) + q.2 := by
  rw [List.take_add_one, h, sumS_app]
  simp [sumS]
theorem sum_part {sz : Int} {l : List Sp} (h : Gd 0 sz l) (h0 : 0 ≤ sz) (k : Nat) : 0 ≤ sumS (l.take k) ∧ sumS (l.take k) ≤ sz := by
  have hg : Gd 0 sz (l.take k) := by
    rw [← List.take_append_drop k l, Gd_app] at h
    exact h.1
  have := hg.sum h0
  omega
set_option maxRecDepth 100000 in
set_option maxHeartbeats 2000000 in
theorem free_any {w : World} {S : Nat → Prop} {ab : Nat} {X : Ar} (h : AIs w S ab X) : Calls Try.prog 11 #[.pointer (some ⟨ab, 0, none⟩)] w fun e w' => e = .returned (.int .i64 (sumS X.hs)) ∧ Below w.heap.size w w' := by
  obtain ⟨ha, hc, h⟩ := h
  obtain ⟨c0, c1, c2⟩ := h.cells
  have HS : Hid (SpW w ha X.hs.length hc X.hs ∧ X.Ok) := ⟨h.sp, h.ok⟩
  have hlen := h.ok.len
  obtain ⟨N, hN⟩ : ∃ N, X.hs.length = N := ⟨_, rfl⟩
  rw [hN] at c1 HS hlen
  have HN : Hid (X.hs.length = N) := hN
  clear h c0 c2 hN
  go_enter Try.func11, Try.ntmps11
  go_wp2
  go_loopw [3, 13] (fun vn vi wr => ∃ k : Nat, k ≤ N ∧ vi = .int .i64 (k : Int) ∧ vn = .int .i64 (sumS (X.hs.take k)) ∧ Below w.heap.size w wr) (fun _ vi _ => N - (intOf vi).toNat)
  case atStart => exact ⟨0, by omega, rfl, rfl, Below.refl _ _⟩
  case round =>
    obtain ⟨k, hk, rfl, rfl, hb⟩ := hrel
    have HB : Hid (Below w.heap.size w wr) := hb
    by_cases hlt : k < N
    · have kk : (k : Int) < (N : Int) := by omega
      obtain ⟨b, o, rfl, hbl, hcs⟩ := HS.out.1.hat (by omega)
      obtain ⟨q, hq⟩ : ∃ q, X.hs[k]? = some q := ⟨_, List.getElem?_eq_getElem (by rw [HN.out]; exact hlt)⟩
      obtain ⟨d1, d2⟩ := hcs k q hq
      rw [← hb.cell (p := ⟨b, o + k * 2, none⟩) hbl] at d1
      rw [← hb.cell (p := ⟨b, o + k * 2 + 1, none⟩) hbl] at d2
      have hst := sum_step hq
      have hp := sum_part HS.out.2.g (by omega) (k + 1)
      have hp2 := HS.out.2.s2
      obtain ⟨s0, hs0⟩ : ∃ s0, sumS (X.hs.take k) = s0 := ⟨_, rfl⟩
      rw [hs0] at hst ⊢
      have hw : IntKind.i64.wrap (s0 + q.2) = s0 + q.2 := wr64_in ⟨by omega, by omega⟩
      have HF : Hid (sumS (X.hs.take (k + 1)) = s0 + q.2) := hst
      clear hcs hst hp hp2 hs0 hb hq
      go_wp2
      exact ⟨⟨k + 1, by omega, by go_num, by rw [HF.out], HB.out.alloc HB.out.size _⟩, by simp [intOf]; omega⟩
    · obtain rfl : k = N := by omega
      have kk : ¬ (k : Int) < (k : Int) := by omega
      rw [List.take_of_length_le (by rw [HN.out]; exact Nat.le_refl _)]
      clear hb
      go_wp2
      go_ret
      exact ⟨rfl, HB.out⟩
def maxK (l : List Sp) : Int := l.foldl (fun n h => max n h.2) 0
theorem max_step {l : List Sp} {k : Nat} {q : Sp} (h : l[k]? = some q) : maxK (l.take (k + 1)) = max (maxK (l.take k)) q.2 := by
  rw [List.take_add_one, h]
  simp [maxK, List.foldl_append]
set_option maxRecDepth 100000 in
set_option maxHeartbeats 2000000 in
theorem largest_any {w : World} {S : Nat → Prop} {ab : Nat} {X : Ar} (h : AIs w S ab X) : Calls Try.prog 16 #[.pointer (some ⟨ab, 0, none⟩)] w fun e w' => e = .returned (.int .i64 (maxK X.hs)) ∧ Below w.heap.size w w' := by
  obtain ⟨ha, hc, h⟩ := h
  obtain ⟨c0, c1, c2⟩ := h.cells
  have HS : Hid (SpW w ha X.hs.length hc X.hs ∧ X.Ok) := ⟨h.sp, h.ok⟩
  have hlen := h.ok.len
  obtain ⟨N, hN⟩ : ∃ N, X.hs.length = N := ⟨_, rfl⟩
  rw [hN] at c1 HS hlen
  have HN : Hid (X.hs.length = N) := hN
  clear h c0 c2 hN
  go_enter Try.func16, Try.ntmps16
  go_wp2
  go_loopw [3, 13] (fun vn vi wr => ∃ k : Nat, k ≤ N ∧ vi = .int .i64 (k : Int) ∧ vn = .int .i64 (maxK (X.hs.take k)) ∧ Below w.heap.size w wr) (fun _ vi _ => N - (intOf vi).toNat)
  case atStart => exact ⟨0, by omega, rfl, rfl, Below.refl _ _⟩
  case round =>
    obtain ⟨k, hk, rfl, rfl, hb⟩ := hrel
    have HB : Hid (Below w.heap.size w wr) := hb
    by_cases hlt : k < N
    · have kk : (k : Int) < (N : Int) := by omega
      obtain ⟨b, o, rfl, hbl, hcs⟩ := HS.out.1.hat (by omega)
      obtain ⟨q, hq⟩ : ∃ q, X.hs[k]? = some q := ⟨_, List.getElem?_eq_getElem (by rw [HN.out]; exact hlt)⟩
      obtain ⟨d1, d2⟩ := hcs k q hq
      rw [← hb.cell (p := ⟨b, o + k * 2, none⟩) hbl] at d1
      rw [← hb.cell (p := ⟨b, o + k * 2 + 1, none⟩) hbl] at d2
      have hst := max_step hq
      obtain ⟨s0, hs0⟩ : ∃ s0, maxK (X.hs.take k) = s0 := ⟨_, rfl⟩
      rw [hs0] at hst ⊢
      have HF : Hid (maxK (X.hs.take (k + 1)) = max s0 q.2) := hst
      clear hcs hst hs0 hb hq
      go_wp2
      exact ⟨⟨k + 1, by omega, by go_num, by rw [HF.out]; exact congrArg _ (by rw [Int.max_def]; split <;> split <;> omega), HB.out.alloc HB.out.size _⟩, by simp [intOf]; omega⟩
    · obtain rfl : k = N := by omega
      have kk : ¬ (k : Int) < (k : Int) := by omega
      rw [List.take_of_length_le (by rw [HN.out]; exact Nat.le_refl _)]
      clear hb
      go_wp2
      go_ret
      exact ⟨rfl, HB.out⟩
end Go.Proofs.Ytgihdfmeokbplaa
