/- The document's Set, Change, New. -/
import Derived.Test.YtgihdfmeokbplaaQB
namespace Go.Proofs.Ytgihdfmeokbplaa
open Go.RowKit Ex
/-- What Set leaves: a span is so, all else as it was. -/
def SetL (F F' : List Bool) (s : Sp) (fr : Bool) : Prop := F'.length = F.length ∧ ∀ i : Nat, i < F.length → F'[i]? = if inS s (i : Int) then some fr else F[i]?
set_option maxRecDepth 100000 in
set_option maxHeartbeats 4000000 in
theorem set_any {w : World} {a : Option Addr} {n c : Nat} {F : List Bool} (h : Fw w a n c F) (nx : Int) (s : Sp) (fr : Bool) (h0 : 0 ≤ s.1) (h1 : 1 ≤ s.2) (h2 : s.1 + s.2 ≤ (n : Int)) (hn : n ≤ 900000) : Calls Try.prog 49 #[raA a n c nx, spA s, .bool fr] w fun e w' => ∃ a' c' F', e = .returned (raA a' n c' nx) ∧ Fw w' a' n c' F' ∧ SetL F F' s fr ∧ Below w.heap.size w w' ∧ (∀ x, ob a' = some x → w.heap.size ≤ x) := by
  have hln := h.len
  obtain ⟨p, q⟩ := s
  simp only at h0 h1 h2
  obtain ⟨p, rfl⟩ := Int.eq_ofNat_of_zero_le h0
  obtain ⟨q, rfl⟩ := Int.eq_ofNat_of_zero_le (show 0 ≤ q by omega)
  have HL : Hid (F.length = n) := hln
  obtain ⟨B, hB⟩ : ∃ B, w.heap.size = B := ⟨_, rfl⟩
  obtain ⟨W1, hW1⟩ : ∃ W1, w.alloc (.cells #[.slice a n c, .int .i64 nx] 31) = W1 := ⟨_, rfl⟩
  obtain ⟨B1, hB1⟩ : ∃ B1, W1.heap.size = B1 := ⟨_, rfl⟩
  obtain ⟨W2, hW2⟩ : ∃ W2, W1.alloc (.cells #[.int .i64 (p : Int), .int .i64 (q : Int)] 37) = W2 := ⟨_, rfl⟩
  obtain ⟨B2, hB2⟩ : ∃ B2, W2.heap.size = B2 := ⟨_, rfl⟩
  obtain ⟨W3, hW3⟩ : ∃ W3, W2.alloc (.cells #[.slice none 0 0, .int .i64 0] 31) = W3 := ⟨_, rfl⟩
  obtain ⟨B3, hB3⟩ : ∃ B3, W3.heap.size = B3 := ⟨_, rfl⟩
  obtain ⟨W4, hW4⟩ : ∃ W4, W3.alloc (.cells #[.slice none 0 0, .int .i64 nx] 31) = W4 := ⟨_, rfl⟩
  have b1 : Below w.heap.size w W1 := by rw [← hW1]; exact (Below.refl _ w).alloc (Nat.le_refl _) _
  have b2 : Below W1.heap.size W1 W2 := by rw [← hW2]; exact (Below.refl _ W1).alloc (Nat.le_refl _) _
  have b3 : Below W2.heap.size W2 W3 := by rw [← hW3]; exact (Below.refl _ W2).alloc (Nat.le_refl _) _
  have b4 : Below W3.heap.size W3 W4 := by rw [← hW4]; exact (Below.refl _ W3).alloc (Nat.le_refl _) _
  have bw4 : Below w.heap.size w W4 := b1.trans ((b2.trans ((b3.trans (b4.mono b3.size)).mono b2.size)).mono b1.size)
  have r0 : W1.heap[B]? = some (.cells #[.slice a n c, .int .i64 nx] 31 (0, 0)) := by rw [← hW1, ← hB]; exact heap_alloc_new w _
  have r1 : W2.heap[B1]? = some (.cells #[.int .i64 (p : Int), .int .i64 (q : Int)] 37 (0, 0)) := by rw [← hW2, ← hB1]; exact heap_alloc_new W1 _
  have r2 : W3.heap[B2]? = some (.cells #[.slice none 0 0, .int .i64 0] 31 (0, 0)) := by rw [← hW3, ← hB2]; exact heap_alloc_new W2 _
  have r3 : W4.heap[B3]? = some (.cells #[.slice none 0 0, .int .i64 nx] 31 (0, 0)) := by rw [← hW4, ← hB3]; exact heap_alloc_new W3 _
  have r0' : W4.heap[B]? = some (.cells #[.slice a n c, .int .i64 nx] 31 (0, 0)) := by
    have l0 := lt_of_some r0
    rw [b4.block _ (by have := b2.size; have := b3.size; omega), b3.block _ (by have := b2.size; omega), b2.block _ l0]; exact r0
  have r1' : W4.heap[B1]? = some (.cells #[.int .i64 (p : Int), .int .i64 (q : Int)] 37 (0, 0)) := by
    have l1 := lt_of_some r1
    rw [b4.block _ (by have := b3.size; omega), b3.block _ l1]; exact r1
  have r2' : W4.heap[B2]? = some (.cells #[.slice none 0 0, .int .i64 0] 31 (0, 0)) := (b4.block _ (lt_of_some r2)).trans r2
  have z1 : W1.cell? ⟨B, 1, none⟩ = some (.int .i64 nx) := by rw [cell_of_row _ _ _ _ _ _ r0]; rfl
  have z2 : W3.cell? ⟨B, 1, none⟩ = some (.int .i64 nx) := by
    have l0 := lt_of_some r0
    rw [b3.cell (p := ⟨B, 1, none⟩) (by have := b2.size; show B < _; omega), b2.cell (p := ⟨B, 1, none⟩) l0]; exact z1
  have c0 : W4.cell? ⟨B, 0, none⟩ = some (.slice a n c) := by rw [cell_of_row _ _ _ _ _ _ r0']; rfl
  have c3 : W4.cell? ⟨B3, 0, none⟩ = some (.slice none 0 0) := by rw [cell_of_row _ _ _ _ _ _ r3]; rfl
  obtain ⟨ga, gc, W5, hrA, hoA, hgA, hatA⟩ := addF_own W4 (base := W4.heap.size) (l := []) (World.ownsRow_nil _ _ _ _) (h.below bw4) (by omega) (Nat.le_refl _)
  rw [List.nil_append, Nat.zero_add] at hoA
  rw [Nat.zero_add] at hrA
  have hg5 : ∀ x, x < W4.heap.size → W5.heap[x]? = W4.heap[x]? := fun x hx => hgA.block x hx (fun e => by cases e)
  obtain ⟨g, rfl⟩ : ∃ g, ga = some ⟨g, 0, none⟩ := by
    rcases hoA.2 with ⟨_, h3⟩ | ⟨g, cp, cur, e, _⟩
    · omega
    · cases e; exact ⟨g, rfl⟩
  have hg4 : W4.heap.size ≤ g := (hoA.lt g rfl).1
  have l3 := lt_of_some r3
  have r35 : W5.heap[B3]? = some (.cells #[.slice none 0 0, .int .i64 nx] 31 (0, 0)) := (hg5 _ l3).trans r3
  have f35 := frozen_of_row W5 B3 0 _ _ r35
  have c35 : W5.cell? ⟨B3, 0, none⟩ = some (.slice none 0 0) := by rw [cell_of_row _ _ _ _ _ _ r35]; rfl
  have bw5 : Below w.heap.size w W5 := bw4.trans ⟨hgA.os, hgA.tape, hgA.output, hgA.size, fun x hx => hg5 x (Nat.lt_of_lt_of_le hx bw4.size)⟩
  have HP : Hid (p + q ≤ n ∧ 1 ≤ q) := ⟨by omega, by omega⟩
  have HST : Hid (∀ V, V = W5.setCell ⟨B3, 0, none⟩ (.slice (some ⟨g, 0, none⟩) n gc) → V.heap[B3]? = some (.cells #[.slice (some ⟨g, 0, none⟩) n gc, .int .i64 nx] 31 (0, 0)) ∧ V.heap[B1]? = some (.cells #[.int .i64 (p : Int), .int .i64 (q : Int)] 37 (0, 0)) ∧ V.heap[B2]? = some (.cells #[.slice none 0 0, .int .i64 0] 31 (0, 0)) ∧ V.ownsRow w.heap.size 4 1 (.slice (some ⟨g, 0, none⟩) n gc) n (blR F) ∧ Below w.heap.size w V) := by
    intro V hV
    have n1 : B1 ≠ B3 := by have := lt_of_some r1; have := b3.size; omega
    have n2 : B2 ≠ B3 := by have := lt_of_some r2; omega
    subst hV
    refine ⟨by rw [heap_setCell_same _ _ _ _ _ _ r35]; rfl, by rw [heap_setCell_other _ _ _ _ n1]; exact (hg5 _ (lt_of_some r1')).trans r1', by rw [heap_setCell_other _ _ _ _ n2]; exact (hg5 _ (lt_of_some r2')).trans r2', ?_, bw5.setCell (by show w.heap.size ≤ B3; rw [← hB3]; exact (b1.trans ((b2.trans (b3.mono b2.size)).mono b1.size)).size) _⟩
    refine own_keep (own_base hoA bw4.size) (fun x hx => ?_)
    cases hx
    exact heap_setCell_other _ _ _ _ (by show g ≠ B3; omega)
  have HD : Hid (g ≠ B1 ∧ g ≠ B2 ∧ g ≠ B3 ∧ w.heap.size ≤ g ∧ w.heap.size ≤ B2) := by
    refine ⟨?_, ?_, by omega, Nat.le_trans bw4.size hg4, ?_⟩
    · have := lt_of_some r1'; omega
    · have := lt_of_some r2'; omega
    · rw [← hB2]; exact (b1.trans (b2.mono b1.size)).size
  clear h hln b1 b2 b3 b4 bw4 bw5 r0 r1 r2 r3 r0' r1' r2' r35 hoA hgA hatA hg5 hg4 l3 h0 h1 h2
  unfold raA spA
  go_enter Try.func49, Try.ntmps49
  go_wp2_with (at_builtin; refine wpList_app W4 rfl _ _ _ _ rfl rfl rfl (hrA _) ?_)
  have HS0 := HST.out _ rfl
  go_loopw [8] (fun v wr => ∃ (i : Nat) (Fk : List Bool), i ≤ q ∧ v = .int .i64 (i : Int) ∧ Fk.length = n ∧ (∀ j : Nat, j < n → Fk[j]? = if p ≤ j ∧ j < p + i then some fr else F[j]?) ∧ wr.heap[B3]? = some (.cells #[.slice (some ⟨g, 0, none⟩) n gc, .int .i64 nx] 31 (0, 0)) ∧ wr.heap[B1]? = some (.cells #[.int .i64 (p : Int), .int .i64 (q : Int)] 37 (0, 0)) ∧ wr.heap[B2]? = some (.cells #[.slice none 0 0, .int .i64 0] 31 (0, 0)) ∧ wr.ownsRow w.heap.size 4 1 (.slice (some ⟨g, 0, none⟩) n gc) n (blR Fk) ∧ Below w.heap.size w wr) (fun v _ => q - (intOf v).toNat)
  case atStart =>
    refine ⟨0, F, by omega, rfl, HL.out, fun j hj => ?_, HS0.1, HS0.2.1, HS0.2.2.1, HS0.2.2.2.1, HS0.2.2.2.2⟩
    rw [if_neg (by omega)]
  case round =>
    clear HS0 HST
    obtain ⟨i, Fk, hi, rfl, hFl, hFk, r3, r1, r2, hown, hbw⟩ := hrel
    have d3 : wr.cell? ⟨B3, 0, none⟩ = some (.slice (some ⟨g, 0, none⟩) n gc) := by rw [cell_of_row _ _ _ _ _ _ r3]; rfl
    have d1 : wr.cell? ⟨B1, 0, none⟩ = some (.int .i64 (p : Int)) := by rw [cell_of_row _ _ _ _ _ _ r1]; rfl
    have d2 : wr.cell? ⟨B1, 1, none⟩ = some (.int .i64 (q : Int)) := by rw [cell_of_row _ _ _ _ _ _ r1]; rfl
    by_cases hlt : i < q
    · have kk : (i : Int) < (q : Int) := by omega
      obtain ⟨k, hk⟩ : ∃ k, p + i = k := ⟨_, rfl⟩
      have kp : (p : Int) + (i : Int) = (k : Int) := by omega
      have hkn : k < n := by have := HP.out; omega
      have kn : (k : Int) < (n : Int) := by omega
      obtain ⟨x, hx⟩ : ∃ x, Fk[k]? = some x := ⟨_, List.getElem?_eq_getElem (by omega)⟩
      have t1 : wr.cell? ⟨g, k, none⟩ = some (.bool x) := own_at hown (by rw [blR_map, List.getElem?_map, hx]; rfl)
      have tf := own_fro hown k
      have HN : Hid (∀ V, V = wr.setCell ⟨g, k, none⟩ (.bool fr) → (Fk.set k fr).length = n ∧ (∀ j : Nat, j < n → (Fk.set k fr)[j]? = if p ≤ j ∧ j < p + (i + 1) then some fr else F[j]?) ∧ V.heap[B3]? = some (.cells #[.slice (some ⟨g, 0, none⟩) n gc, .int .i64 nx] 31 (0, 0)) ∧ V.heap[B1]? = some (.cells #[.int .i64 (p : Int), .int .i64 (q : Int)] 37 (0, 0)) ∧ V.heap[B2]? = some (.cells #[.slice none 0 0, .int .i64 0] 31 (0, 0)) ∧ V.ownsRow w.heap.size 4 1 (.slice (some ⟨g, 0, none⟩) n gc) n (blR (Fk.set k fr)) ∧ Below w.heap.size w V) := by
        intro V hV
        obtain ⟨n1, n2, n3, n4, n5⟩ := HD.out
        have ho := own_put hown k (.bool fr)
        rw [blR_set, ← hV] at ho
        subst hV
        refine ⟨by simpa using hFl, fun j hj => ?_, by rw [heap_setCell_other _ _ _ _ (Ne.symm n3)]; exact r3, by rw [heap_setCell_other _ _ _ _ (Ne.symm n1)]; exact r1, by rw [heap_setCell_other _ _ _ _ (Ne.symm n2)]; exact r2, ho, hbw.setCell n4 _⟩
        rw [List.getElem?_set]
        by_cases hjk : k = j
        · subst hjk
          rw [if_pos rfl, if_pos (by omega), if_pos (by omega)]
        · rw [if_neg hjk, hFk j hj]
          by_cases h5 : p ≤ j ∧ j < p + i
          · rw [if_pos h5, if_pos (by omega)]
          · rw [if_neg h5, if_neg (by omega)]
      clear hFl hFk r3 r1 r2 hown hbw hx hk
      go_wp2
      obtain ⟨e1, e2, e3, e4, e5, e6, e7⟩ := HN.out _ rfl
      exact ⟨⟨i + 1, _, by omega, by go_num, e1, e2, e3, e4, e5, e6, e7⟩, by simp [intOf]; omega⟩
    · obtain rfl : q = i := by omega
      have kk : ¬ (q : Int) < (q : Int) := by omega
      have d4 : wr.cell? ⟨B3, 1, none⟩ = some (.int .i64 nx) := by rw [cell_of_row _ _ _ _ _ _ r3]; rfl
      have f20 := frozen_of_row wr B2 0 _ _ r2
      have f21 := frozen_of_row wr B2 1 _ _ r2
      have g20 : wr.cell? ⟨B2, 0, none⟩ = some (.slice none 0 0) := by rw [cell_of_row _ _ _ _ _ _ r2]; rfl
      have g21 : wr.cell? ⟨B2, 1, none⟩ = some (.int .i64 0) := by rw [cell_of_row _ _ _ _ _ _ r2]; rfl
      have HN : Hid (∀ V, V = (wr.setCell ⟨B2, 0, none⟩ (.slice (some ⟨g, 0, none⟩) n gc)).setCell ⟨B2, 1, none⟩ (.int .i64 nx) → V.heap[B2]? = some (.cells #[.slice (some ⟨g, 0, none⟩) n gc, .int .i64 nx] 31 (0, 0)) ∧ Fw V (some ⟨g, 0, none⟩) n gc Fk ∧ SetL F Fk ((p : Int), (q : Int)) fr ∧ Below w.heap.size w V) := by
        intro V hV
        obtain ⟨n1, n2, n3, n4, n5⟩ := HD.out
        subst hV
        refine ⟨?_, Rw.own (own_keep hown (fun x hx => ?_)) (fun _ _ => trivial), ⟨by rw [hFl, HL.out], fun j hj => ?_⟩, (hbw.setCell n5 _).setCell n5 _⟩
        · have e1 : (wr.setCell ⟨B2, 0, none⟩ (.slice (some ⟨g, 0, none⟩) n gc)).heap[B2]? = some (.cells #[.slice (some ⟨g, 0, none⟩) n gc, .int .i64 0] 31 (0, 0)) := by rw [heap_setCell_same _ _ _ _ _ _ r2]; rfl
          rw [heap_setCell_same _ _ _ _ _ _ e1]; rfl
        · cases hx
          rw [heap_setCell_other _ _ _ _ n2, heap_setCell_other _ _ _ _ n2]
        · rw [HL.out] at hj
          rw [hFk j hj]
          by_cases h5 : p ≤ j ∧ j < p + q
          · rw [if_pos h5, if_pos (by rw [inS_iff]; simp only; omega)]
          · rw [if_neg h5, if_neg (by rw [inS_iff]; simp only; omega)]
      clear hFl hFk r3 r1 r2 hown hbw
      go_wp2
      obtain ⟨e1, e2, e3, e4⟩ := HN.out _ rfl
      refine bodyPost_ret (v := raA (some ⟨g, 0, none⟩) n gc nx) ?_ rfl ⟨some ⟨g, 0, none⟩, gc, rfl, Fk, e2, e3, hB ▸ e4, fun x hx => by cases hx; exact hB ▸ HD.out.2.2.2.1⟩
      exact res_ra (fn := Try.f49) (p := 6) (by rfl) _ _ B2 _ (by rfl) e1 infoRA
end Go.Proofs.Ytgihdfmeokbplaa
