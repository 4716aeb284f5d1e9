/- The document's All, Set, Change, New. -/
import Derived.Test.YtgihdfmeokbplaaQA
namespace Go.Proofs.Ytgihdfmeokbplaa
open Go.RowKit Ex
theorem own_put {W : World} {base g cp n e : Nat} {xs : List Value} (h : W.ownsRow base e 1 (.slice (some ⟨g, 0, none⟩) n cp) n xs) (t : Nat) (x : Value) : (W.setCell ⟨g, t, none⟩ x).ownsRow base e 1 (.slice (some ⟨g, 0, none⟩) n cp) n (xs.set t x) := by
  obtain ⟨h1, h2⟩ := h
  refine ⟨by simpa using h1, ?_⟩
  rcases h2 with ⟨h2, _⟩ | ⟨g', cap', cur, e, hb, hr, h3, h4, h5, h6⟩
  · cases h2
  · cases e
    refine .inr ⟨g, cp, cur.setIfInBounds t x, rfl, hb, heap_setCell_same W g t _ _ _ hr, h3, h4, by simpa using h5, ?_⟩
    rw [Array.toList_setIfInBounds, List.take_set, h6]
theorem own_fro {W : World} {base g cp n e sz : Nat} {xs : List Value} (h : W.ownsRow base e sz (.slice (some ⟨g, 0, none⟩) n cp) n xs) (t : Nat) : W.frozen? ⟨g, t, none⟩ = false := by
  rcases h.2 with ⟨h2, _⟩ | ⟨g', cap', cur, e, hb, hr, _⟩
  · cases h2
  · cases e
    exact frozen_of_row W g t _ _ hr
/-- Is all of a span so? -/
def allB (F : List Bool) (s : Sp) (fr : Bool) : Prop := ∀ i : Nat, i < s.2.toNat → F[s.1.toNat + i]? = some fr
instance (F : List Bool) (s : Sp) (fr : Bool) : Decidable (allB F s fr) := by unfold allB; infer_instance
set_option maxRecDepth 100000 in
set_option maxHeartbeats 2000000 in
theorem all_any {w : World} {a : Option Addr} {n c : Nat} {F : List Bool} (h : Fw w a n c F) (nx : Int) (s : Sp) (fr : Bool) (h0 : 0 ≤ s.1) (h1 : 1 ≤ s.2) (h2 : s.1 + s.2 ≤ (n : Int)) (hn : n ≤ 1048576) : Calls Try.prog 24 #[raA a n c nx, spA s, .bool fr] w fun e w' => e = .returned (.bool (decide (allB F s fr))) ∧ Below w.heap.size w w' := by
  have hln := h.len
  obtain ⟨p, q⟩ := s
  simp only at h0 h1 h2
  obtain ⟨p, rfl⟩ := Int.eq_ofNat_of_zero_le h0
  obtain ⟨q, rfl⟩ := Int.eq_ofNat_of_zero_le (show 0 ≤ q by omega)
  obtain ⟨b, o, rfl, hbl, hc⟩ := h.at (by omega)
  obtain ⟨R, hR⟩ : ∃ R, decide (allB F ((p : Int), (q : Int)) fr) = R := ⟨_, rfl⟩
  have HR : Hid (R = true ↔ ∀ i : Nat, i < q → F[p + i]? = some fr) := by
    show _ ↔ _
    rw [← hR, decide_eq_true_iff]
    unfold allB
    simp
  rw [hR]
  have HC : Hid (∀ i (x : Bool), F[i]? = some x → w.cell? ⟨b, o + i, none⟩ = some (.bool x)) := hc
  have HL : Hid (F.length = n) := hln
  obtain ⟨B, hB⟩ : ∃ B, w.heap.size = B := ⟨_, rfl⟩
  obtain ⟨W1, hW1⟩ : ∃ W1, w.alloc (.cells #[.slice (some ⟨b, o, none⟩) n c, .int .i64 nx] 31) = W1 := ⟨_, rfl⟩
  obtain ⟨B1, hB1⟩ : ∃ B1, W1.heap.size = B1 := ⟨_, rfl⟩
  obtain ⟨W2, hW2⟩ : ∃ W2, W1.alloc (.cells #[.int .i64 (p : Int), .int .i64 (q : Int)] 37) = W2 := ⟨_, rfl⟩
  have hb1 : Below w.heap.size w W1 := by rw [← hW1]; exact (Below.refl _ w).alloc (Nat.le_refl _) _
  have hb12 : Below W1.heap.size W1 W2 := by rw [← hW2]; exact (Below.refl _ W1).alloc (Nat.le_refl _) _
  have hb2 : Below w.heap.size w W2 := hb1.trans (hb12.mono hb1.size)
  have r1 : W1.heap[B]? = some (.cells #[.slice (some ⟨b, o, none⟩) n c, .int .i64 nx] 31 (0, 0)) := by rw [← hW1, ← hB]; exact heap_alloc_new w _
  have r2 : W2.heap[B1]? = some (.cells #[.int .i64 (p : Int), .int .i64 (q : Int)] 37 (0, 0)) := by rw [← hW2, ← hB1]; exact heap_alloc_new W1 _
  have r12 : W2.heap[B]? = some (.cells #[.slice (some ⟨b, o, none⟩) n c, .int .i64 nx] 31 (0, 0)) := (hb12.block _ (lt_of_some r1)).trans r1
  have c0 : W2.cell? ⟨B, 0, none⟩ = some (.slice (some ⟨b, o, none⟩) n c) := by rw [cell_of_row _ _ _ _ _ _ r12]; rfl
  have s0 : W2.cell? ⟨B1, 0, none⟩ = some (.int .i64 (p : Int)) := by rw [cell_of_row _ _ _ _ _ _ r2]; rfl
  have s1 : W2.cell? ⟨B1, 1, none⟩ = some (.int .i64 (q : Int)) := by rw [cell_of_row _ _ _ _ _ _ r2]; rfl
  have HB2 : Hid (Below w.heap.size w W2) := hb2
  clear h hR hc hln hb1 hb12 hb2 r1 r2 r12
  unfold raA spA
  go_enter Try.func24, Try.ntmps24
  go_wp2
  go_loop [7] (fun v => ∃ i : Nat, i ≤ q ∧ v = .int .i64 (i : Int) ∧ (∀ j : Nat, j < i → F[p + j]? = some fr)) (fun v => q - (intOf v).toNat)
  case atStart => exact ⟨0, by omega, rfl, fun j hj => absurd hj (by omega)⟩
  case round =>
    obtain ⟨i, hi, rfl, hall⟩ := hrel
    by_cases hlt : i < q
    · have kk : (i : Int) < (q : Int) := by omega
      obtain ⟨k, hk⟩ : ∃ k, p + i = k := ⟨_, rfl⟩
      have kp : (p : Int) + (i : Int) = (k : Int) := by omega
      have kn : (k : Int) < (n : Int) := by omega
      obtain ⟨x, hx⟩ : ∃ x, F[k]? = some x := ⟨_, List.getElem?_eq_getElem (by rw [HL.out]; omega)⟩
      have t1 : W2.cell? ⟨b, o + k, none⟩ = some (.bool x) := (HB2.out.cell hbl).trans (HC.out k x hx)
      by_cases hxf : x = fr
      · have kx : (x == fr) = true := by rw [hxf]; simp
        have HA : Hid (∀ j : Nat, j < i + 1 → F[p + j]? = some fr) := fun j hj => by
          by_cases hji : j < i
          · exact hall j hji
          · obtain rfl : j = i := by omega
            rw [hk, hx, hxf]
        clear hall hx hk hxf
        go_wp2
        exact ⟨⟨i + 1, by omega, by go_num, HA.out⟩, by simp [intOf]; omega⟩
      · have kx : (x == fr) = false := by simp [hxf]
        have HF : Hid (R = false) := by
          show _ = _
          cases hR : R with
          | false => rfl
          | true =>
            have := (HR.out.1 hR) i hlt
            rw [hk, hx] at this
            exact absurd (Option.some.inj this) hxf
        clear hall hx hk hxf
        go_wp2
        go_ret
        exact ⟨ret_bool HF.out.symm, hB ▸ HB2.out⟩
    · obtain rfl : q = i := by omega
      have kk : ¬ (q : Int) < (q : Int) := by omega
      have HF : Hid (R = true) := HR.out.2 hall
      clear hall
      go_wp2
      go_ret
      exact ⟨ret_bool HF.out.symm, hB ▸ HB2.out⟩
end Go.Proofs.Ytgihdfmeokbplaa
