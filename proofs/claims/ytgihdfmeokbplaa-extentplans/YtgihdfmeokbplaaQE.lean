/- The document's New. -/
import Derived.Test.YtgihdfmeokbplaaQD
namespace Go.Proofs.Ytgihdfmeokbplaa
open Go.RowKit Ex
set_option maxRecDepth 100000 in
set_option maxHeartbeats 4000000 in
theorem refnew_any (n : Nat) (hn : n ≤ 900000) (w : World) : Calls Try.prog 12 #[.int .i64 (n : Int)] w fun e w' => ∃ a c, e = .returned (raA a n c 0) ∧ Rw (fun x => w.heap.size ≤ x) w' 4 1 a n c (blR (List.replicate n true)) ∧ Below w.heap.size w w' := by
  obtain ⟨B, hB⟩ : ∃ B, w.heap.size = B := ⟨_, rfl⟩
  obtain ⟨W1, hW1⟩ : ∃ W1, w.alloc (.cells #[.slice none 0 0, .int .i64 0] 31) = W1 := ⟨_, rfl⟩
  obtain ⟨B1, hB1⟩ : ∃ B1, W1.heap.size = B1 := ⟨_, rfl⟩
  obtain ⟨W2, hW2⟩ : ∃ W2, W1.alloc (.cells #[.slice none 0 0, .int .i64 0] 31) = W2 := ⟨_, rfl⟩
  have b1 : Below w.heap.size w W1 := by rw [← hW1]; exact (Below.refl _ w).alloc (Nat.le_refl _) _
  have b2 : Below W1.heap.size W1 W2 := by rw [← hW2]; exact (Below.refl _ W1).alloc (Nat.le_refl _) _
  have bw2 : Below w.heap.size w W2 := b1.trans (b2.mono b1.size)
  have r0 : W1.heap[B]? = some (.cells #[.slice none 0 0, .int .i64 0] 31 (0, 0)) := by rw [← hW1, ← hB]; exact heap_alloc_new w _
  have r1 : W2.heap[B1]? = some (.cells #[.slice none 0 0, .int .i64 0] 31 (0, 0)) := by rw [← hW2, ← hB1]; exact heap_alloc_new W1 _
  have r0' : W2.heap[B]? = some (.cells #[.slice none 0 0, .int .i64 0] 31 (0, 0)) := (b2.block _ (lt_of_some r0)).trans r0
  have x0 : W2.cell? ⟨B1, 0, none⟩ = some (.slice none 0 0) := by rw [cell_of_row _ _ _ _ _ _ r1]; rfl
  have x1 : W2.cell? ⟨B1, 1, none⟩ = some (.int .i64 0) := by rw [cell_of_row _ _ _ _ _ _ r1]; rfl
  have x2 := frozen_of_row W2 B1 0 _ _ r1
  have x3 := frozen_of_row W2 B1 1 _ _ r1
  have hB1w : w.heap.size ≤ B1 := by rw [← hB1]; exact b1.size
  have HST : Hid (∀ V, V = (W2.setCell ⟨B1, 0, none⟩ (.slice none 0 0)).setCell ⟨B1, 1, none⟩ (.int .i64 0) → V.heap[B1]? = some (.cells #[.slice none 0 0, .int .i64 0] 31 (0, 0)) ∧ V.heap[B]? = some (.cells #[.slice none 0 0, .int .i64 0] 31 (0, 0)) ∧ Below w.heap.size w V ∧ W2.heap.size ≤ V.heap.size) := by
    intro V hV
    subst hV
    have hne : B ≠ B1 := by have := lt_of_some r0; omega
    have e1 : (W2.setCell ⟨B1, 0, none⟩ (.slice none 0 0)).heap[B1]? = some (.cells #[.slice none 0 0, .int .i64 0] 31 (0, 0)) := by rw [heap_setCell_same _ _ _ _ _ _ r1]; rfl
    exact ⟨by rw [heap_setCell_same _ _ _ _ _ _ e1]; rfl, by rw [heap_setCell_other _ _ _ _ hne, heap_setCell_other _ _ _ _ hne]; exact r0', (bw2.setCell hB1w _).setCell hB1w _, by simp⟩
  have HD : Hid (w.heap.size ≤ B ∧ w.heap.size ≤ B1 ∧ B < W2.heap.size ∧ B1 < W2.heap.size ∧ B ≠ B1 ∧ w.heap.size ≤ W2.heap.size) := by
    have l0 := lt_of_some r0
    have l1 := lt_of_some r1
    have l0' := lt_of_some r0'
    exact ⟨by omega, by have := b1.size; omega, l0', l1, by omega, bw2.size⟩
  clear b1 b2 bw2 r0 r1 r0' hB1w
  go_enter Try.func12, Try.ntmps12
  go_wp2
  have HS0 := HST.out _ rfl
  go_loopw [4] (fun v wr => ∃ (i c' : Nat) (a' : Option Addr), i ≤ n ∧ v = .int .i64 (i : Int) ∧ wr.heap[B1]? = some (.cells #[.slice a' i c', .int .i64 0] 31 (0, 0)) ∧ wr.heap[B]? = some (.cells #[.slice none 0 0, .int .i64 0] 31 (0, 0)) ∧ wr.ownsRow W2.heap.size 4 1 (.slice a' i c') i (blR (List.replicate i true)) ∧ Below w.heap.size w wr ∧ W2.heap.size ≤ wr.heap.size) (fun v _ => n - (intOf v).toNat)
  case atStart => exact ⟨0, 0, none, by omega, rfl, HS0.1, HS0.2.1, World.ownsRow_nil _ _ _ _, HS0.2.2.1, HS0.2.2.2⟩
  case round =>
    clear HST HS0
    obtain ⟨i, c', a', hi, rfl, r1, r0, hown, hbw, hsz⟩ := hrel
    have d1 : wr.cell? ⟨B1, 0, none⟩ = some (.slice a' i c') := by rw [cell_of_row _ _ _ _ _ _ r1]; rfl
    by_cases hlt : i < n
    · have kk : (i : Int) < (n : Int) := by omega
      obtain ⟨V4, hV4⟩ : ∃ V4, wr.alloc (.cells #[.bool true] 4) = V4 := ⟨_, rfl⟩
      have hB4 : Below wr.heap.size wr V4 := by rw [← hV4]; exact (Below.refl _ wr).alloc (Nat.le_refl _) _
      have r4 : V4.heap[wr.heap.size]? = some (.cells #[.bool true] 4 (0, 0)) := by rw [← hV4]; exact heap_alloc_new wr _
      have ho4 := own_keep hown (W' := V4) (fun k hk => hB4.block k (hown.lt k hk).2)
      have hw4 : Below w.heap.size w V4 := hbw.trans (hB4.mono hbw.size)
      obtain ⟨aA, cA, VA, hrA, hoA, hgA, hatA⟩ := addF_own V4 ho4 (blRow r4) (by omega) (Nat.le_trans hsz hB4.size)
      have hlA : ∀ x, ob a' = some x → W2.heap.size ≤ x := fun x hx => (hown.lt x (by rw [ob_slice]; exact hx)).1
      have l1 := lt_of_some r1
      have l0 := lt_of_some r0
      have hd := HD.out
      have r1A : VA.heap[B1]? = some (.cells #[.slice a' i c', .int .i64 0] 31 (0, 0)) := (hgA.block _ (Nat.lt_of_lt_of_le l1 hB4.size) (fun e => by have := hlA B1 e.symm; omega)).trans ((hB4.block _ l1).trans r1)
      have r0A : VA.heap[B]? = some (.cells #[.slice none 0 0, .int .i64 0] 31 (0, 0)) := (hgA.block _ (Nat.lt_of_lt_of_le l0 hB4.size) (fun e => by have := hlA B e.symm; omega)).trans ((hB4.block _ l0).trans r0)
      have fA := frozen_of_row VA B1 0 _ _ r1A
      have cA1 : VA.cell? ⟨B1, 0, none⟩ = some (.slice a' i c') := by rw [cell_of_row _ _ _ _ _ _ r1A]; rfl
      have hwA : Below w.heap.size w VA := hw4.grown hgA hw4.size (fun k hk => Nat.le_trans hd.2.2.2.2.2 (hlA k hk))
      have HN : Hid (∀ V, V = VA.setCell ⟨B1, 0, none⟩ (.slice aA (i + 1) cA) → V.heap[B1]? = some (.cells #[.slice aA (i + 1) cA, .int .i64 0] 31 (0, 0)) ∧ V.heap[B]? = some (.cells #[.slice none 0 0, .int .i64 0] 31 (0, 0)) ∧ V.ownsRow W2.heap.size 4 1 (.slice aA (i + 1) cA) (i + 1) (blR (List.replicate (i + 1) true)) ∧ Below w.heap.size w V ∧ W2.heap.size ≤ V.heap.size) := by
        intro V hV
        subst hV
        refine ⟨by rw [heap_setCell_same _ _ _ _ _ _ r1A]; rfl, by rw [heap_setCell_other _ _ _ _ hd.2.2.2.2.1]; exact r0A, ?_, hwA.setCell hd.2.1 _, ?_⟩
        · rw [List.replicate_succ']
          refine own_keep hoA (fun x hx => ?_)
          have := (hoA.lt x hx).1
          have hx2 : x ≠ B1 := by omega
          exact heap_setCell_other _ _ _ _ hx2
        · have := hgA.size
          have := hB4.size
          simp
          omega
      clear r1 r0 hown hbw hsz hB4 r4 ho4 hw4 hoA hgA hatA hlA l1 l0 hd r1A r0A hwA
      go_wp2_with (at_builtin; refine wpList_app V4 rfl _ _ _ _ rfl rfl rfl (hrA _) ?_)
      obtain ⟨e1, e2, e3, e4, e5⟩ := HN.out _ rfl
      exact ⟨⟨i + 1, cA, aA, by omega, by go_num, e1, e2, e3, e4, e5⟩, by simp [intOf]; omega⟩
    · obtain rfl : n = i := by omega
      have kk : ¬ (n : Int) < (n : Int) := by omega
      have d4 : wr.cell? ⟨B1, 1, none⟩ = some (.int .i64 0) := by rw [cell_of_row _ _ _ _ _ _ r1]; rfl
      have f20 := frozen_of_row wr B 0 _ _ r0
      have f21 := frozen_of_row wr B 1 _ _ r0
      have g20 : wr.cell? ⟨B, 0, none⟩ = some (.slice none 0 0) := by rw [cell_of_row _ _ _ _ _ _ r0]; rfl
      have g21 : wr.cell? ⟨B, 1, none⟩ = some (.int .i64 0) := by rw [cell_of_row _ _ _ _ _ _ r0]; rfl
      have HN : Hid (∀ V, V = (wr.setCell ⟨B, 0, none⟩ (.slice a' n c')).setCell ⟨B, 1, none⟩ (.int .i64 0) → V.heap[B]? = some (.cells #[.slice a' n c', .int .i64 0] 31 (0, 0)) ∧ Rw (fun x => w.heap.size ≤ x) V 4 1 a' n c' (blR (List.replicate n true)) ∧ Below w.heap.size w V) := by
        intro V hV
        have hd := HD.out
        subst hV
        have e1 : (wr.setCell ⟨B, 0, none⟩ (.slice a' n c')).heap[B]? = some (.cells #[.slice a' n c', .int .i64 0] 31 (0, 0)) := by rw [heap_setCell_same _ _ _ _ _ _ r0]; rfl
        refine ⟨by rw [heap_setCell_same _ _ _ _ _ _ e1]; rfl, Rw.own (own_keep hown (fun x hx => ?_)) (fun x hx => Nat.le_trans hd.2.2.2.2.2 hx), (hbw.setCell hd.1 _).setCell hd.1 _⟩
        have := (hown.lt x hx).1
        have hx2 : x ≠ B := by omega
        rw [heap_setCell_other _ _ _ _ hx2, heap_setCell_other _ _ _ _ hx2]
      clear r1 r0 hown hbw hsz
      go_wp2
      obtain ⟨e1, e2, e3⟩ := HN.out _ rfl
      refine bodyPost_ret (v := raA a' n c' 0) ?_ rfl ⟨a', c', rfl, e2.mono (fun x hx _ => by omega), hB ▸ e3⟩
      exact res_ra (fn := Try.f12) (p := 2) (by rfl) _ _ B _ (by rfl) e1 infoRA
theorem fits_new (n : Nat) : FitsA (Ar.new n) (List.replicate n true) := by
  refine ⟨by simp [Ar.new], fun i b hb => ?_⟩
  have hi := (List.getElem?_eq_some_iff.1 hb).1
  simp only [List.length_replicate] at hi
  rw [List.getElem?_replicate, if_pos hi] at hb
  rw [← Option.some.inj hb]
  symm
  rw [Ar.new, cov_iff]
  exact ⟨_, List.mem_singleton.2 rfl, by simp only; omega, by simp only; omega⟩
end Go.Proofs.Ytgihdfmeokbplaa
