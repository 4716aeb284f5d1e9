/- Walk over the program's Bytes of a Window. -/
import Derived.Test.YteiigaoniipedabJ
namespace Go.Proofs.Yteiigaoniipedab
open Go.RowKit
theorem below_row {B : Nat} {a w : World} (h : Below B a w) (g : Nat) (hg : B ≤ g) (cs : Array Value) : Below B a (w.setRow g cs) :=
  ⟨h.os, h.tape, h.output, by rw [size_setRow]; exact h.size, fun k hk => by rw [setRow_other w g k cs (by omega)]; exact h.block k hk⟩
theorem sl_from (bb bo n cp m : Nat) (hm : m ≤ n) (W : World) : (Instr.sliceAt 22 (.slice (some ⟨bb, bo, none⟩) n cp) (some (.int .i64 (m : Int))) none none).run Try.prog W = .ok (.slice (if cp = m then some ⟨bb, bo, none⟩ else some ⟨bb, bo + m, none⟩) (n - m) (cp - m)) W := by
  have h1 : (sizeOf 5).run Try.prog W = .ok 1 W := by kernel_rfl
  have e : (⟨bb, bo, none⟩ : Addr).add m = ⟨bb, bo + m, none⟩ := by unfold Addr.add; split <;> simp_all
  simp [Instr.sliceAt, Instr.slice, run_underlying Try.underlying22, Instr.sliceBounds, Instr.sliceBound, asIntOf, h1, e, hm]
theorem row_get (w : World) (r : Nat) (ring : List UInt8) (hrr : w.heap[r]? = some (.cells (u8v ring) 5 (0, 0))) (o : Nat) (mm : List UInt8) (hm : ∀ j, j < mm.length → o + j < ring.length ∧ ring.getD (o + j) 0 = mm.getD j 0) :
    ∀ j v, (u8v mm).toList[j]? = some v → w.cell? ((⟨r, o, none⟩ : Addr).add j) = some v := by
  intro j v hv
  have hj : j < mm.length := by
    rcases Nat.lt_or_ge j mm.length with h | h
    · exact h
    · rw [List.getElem?_eq_none (by simpa [u8v] using h)] at hv; cases hv
  rw [add_at, cell_of_row w r (o + j) _ _ _ hrr, u8v_get ring (o + j) (hm j hj).1, (hm j hj).2, ← u8v_get mm j hj, ← Array.getElem?_toList]
  exact hv
set_option maxRecDepth 100000 in
set_option maxHeartbeats 1000000 in
theorem bytes_any (r g n : Nat) (l : List UInt8) (w : World) (h : WinIs w r g n l) :
    Calls Try.prog 8 #[.pointer (some ⟨g, 0, none⟩)] w fun e w' => e = .returned (.slice (some ⟨w.heap.size, 0, none⟩) l.length l.length) ∧ w'.heap[w.heap.size]? = some (.cells (u8v l) 5 (0, 0)) ∧ Below w.heap.size w w' := by
  obtain ⟨h0, h1, ring, f, hr, hg, hrr⟩ := h
  have hgl := lt_of_some hg
  have hrl := lt_of_some hrr
  have hf := hr.kf
  have hl := hr.kl
  have hlr := hr.kn
  have hhead := hr.head
  have htail := hr.tail
  obtain ⟨k, hk⟩ : ∃ k, l.length = k := ⟨_, rfl⟩
  rw [hk] at hg hl hhead htail ⊢
  obtain ⟨c0, c1, c2, c3⟩ := win_cells hg
  obtain ⟨mm, hmm⟩ : ∃ mm, l.take (n - f) = mm := ⟨_, rfl⟩
  obtain ⟨m, hm⟩ : ∃ m, mm.length = m := ⟨_, rfl⟩
  have hmk : m = min k (n - f) := by rw [← hm, ← hmm, List.length_take, hk]; omega
  have hmak : (Instr.makeSlice 22 (.int .i64 (k : Int)) (.int .i64 (k : Int))).run Try.prog w = .ok (.slice (some ⟨w.heap.size, 0, none⟩) k k) (w.alloc (.cells (u8v (List.replicate k 0)) 5)) := by
    have := run_make (P := Try.prog) w 22 5 _ (.int .u8 0) Try.underlying22 rfl rfl .i64 .i64 (k : Int) (k : Int) (by omega) (by omega) (by show (1 : Int) * _ ≤ _; omega) (by omega)
    rw [this, show (k : Int).toNat = k by omega, ← u8v_made, show Try.prog.types[5].size = 1 from rfl, Nat.mul_one]
    rfl
  have HB1 : Hid (Below w.heap.size w (w.alloc (.cells (u8v (List.replicate k 0)) 5))) := (Below.refl _ w).alloc (Nat.le_refl _) _
  have HB2 : Hid (Below w.heap.size w ((w.alloc (.cells (u8v (List.replicate k 0)) 5)).drew.setRow w.heap.size (u8v (mm ++ List.replicate (k - m) 0)))) := Go.Proofs.Yteiigaoniipedab.below_row HB1.out.drew _ (Nat.le_refl _) _
  have HB3 : Hid (Below w.heap.size w (((w.alloc (.cells (u8v (List.replicate k 0)) 5)).drew.setRow w.heap.size (u8v (mm ++ List.replicate (k - m) 0))).drew.setRow w.heap.size (u8v l))) := Go.Proofs.Yteiigaoniipedab.below_row HB2.out.drew _ (Nat.le_refl _) _
  have HC : Hid (∀ W : World, Below w.heap.size w W → W.cell? ⟨g, 0, none⟩ = some (.slice (some ⟨r, 0, none⟩) n n) ∧ W.cell? ⟨g, 1, none⟩ = some (.int .i64 (f : Int))) := fun W hW => ⟨by rw [hW.cell hgl]; exact c0, by rw [hW.cell hgl]; exact c1⟩
  have HS1 : Hid (∀ W : World, (Instr.sliceAt 22 (.slice (some ⟨r, 0, none⟩) n n) (some (.int .i64 (f : Int))) none none).run Try.prog W = .ok (.slice (some ⟨r, f, none⟩) (n - f) (n - f)) W) := by
    intro W
    have := sl_from r 0 n n f (by omega) W
    rw [if_neg (by omega), Nat.zero_add] at this
    exact this
  obtain ⟨ad, had⟩ : ∃ ad, (if k = m then 0 else m) = ad := ⟨_, rfl⟩
  have HS2 : Hid (∀ W : World, (Instr.sliceAt 22 (.slice (some ⟨w.heap.size, 0, none⟩) k k) (some (.int .i64 (m : Int))) none none).run Try.prog W = .ok (.slice (some ⟨w.heap.size, ad, none⟩) (k - m) (k - m)) W) := by
    intro W
    have := sl_from w.heap.size 0 k k m (by omega) W
    rw [this, ← had]
    by_cases e : k = m
    · rw [if_pos e, if_pos e]
    · rw [if_neg e, if_neg e, Nat.zero_add]
  have hrow1 : (w.alloc (.cells (u8v (List.replicate k 0)) 5)).drew.heap[w.heap.size]? = some (.cells (u8v (List.replicate k 0)) 5 (0, 0)) := heap_alloc_new w _
  have hrow2 : ((w.alloc (.cells (u8v (List.replicate k 0)) 5)).drew.setRow w.heap.size (u8v (mm ++ List.replicate (k - m) 0))).drew.heap[w.heap.size]? = some (.cells (u8v (mm ++ List.replicate (k - m) 0)) 5 (0, 0)) := setRow_heap _ _ _ _ _ _ hrow1
  have HC1 : Hid ((Builtin.copy_ #[22, 22] 3 #[.slice (some ⟨w.heap.size, 0, none⟩) k k, .slice (some ⟨r, f, none⟩) (n - f) (n - f)]).run Try.prog (w.alloc (.cells (u8v (List.replicate k 0)) 5)).drew = .ok (.int .i64 (m : Int)) ((w.alloc (.cells (u8v (List.replicate k 0)) 5)).drew.setRow w.heap.size (u8v (mm ++ List.replicate (k - m) 0)))) := by
    have := run_copy_row (P := Try.prog) (w.alloc (.cells (u8v (List.replicate k 0)) 5)).drew 22 22 3 5 w.heap.size 0 k k ⟨r, f, none⟩ (n - f) (n - f) (u8v (List.replicate k 0)) 5 (u8v mm).toList Try.underlying22 (by kernel_rfl) hrow1 (by simp only [u8v, List.length_map]; rw [hm]; show m = min (n - f) k; omega)
      (row_get _ r ring ((HB1.out.drew.block _ hrl).trans hrr) f mm (fun j hj => by
        have e : mm.getD j 0 = (ring.drop f).getD j 0 := by
          rw [← hmm, ← hhead]
          simp only [List.getD_eq_getElem?_getD]
          rw [List.getElem?_take_of_lt (by omega)]
        refine ⟨by omega, ?_⟩
        rw [e]
        simp only [List.getD_eq_getElem?_getD, List.getElem?_drop]))
      (by rw [u8v_size]; simp only [u8v, List.length_map, List.length_replicate]; omega) (u8v_all mm)
    show _ = _
    rw [this]
    have e1 : (u8v mm).toList.length = m := by simp [u8v, hm]
    have e2 : ((u8v (List.replicate k 0)).toList.take 0 ++ (u8v mm).toList ++ (u8v (List.replicate k 0)).toList.drop (0 + (u8v mm).toList.length)).toArray = u8v (mm ++ List.replicate (k - m) 0) := by
      rw [e1]; simp [u8v]
    rw [e2, e1]
    rfl
  have HC2 : Hid ((Builtin.copy_ #[22, 22] 3 #[.slice (some ⟨w.heap.size, ad, none⟩) (k - m) (k - m), .slice (some ⟨r, 0, none⟩) n n]).run Try.prog ((w.alloc (.cells (u8v (List.replicate k 0)) 5)).drew.setRow w.heap.size (u8v (mm ++ List.replicate (k - m) 0))).drew = .ok (.int .i64 ((k - m : Nat) : Int)) (((w.alloc (.cells (u8v (List.replicate k 0)) 5)).drew.setRow w.heap.size (u8v (mm ++ List.replicate (k - m) 0))).drew.setRow w.heap.size (u8v l))) := by
    have htl : (ring.take (k - m)).length = k - m := by rw [List.length_take]; omega
    have := run_copy_row (P := Try.prog) ((w.alloc (.cells (u8v (List.replicate k 0)) 5)).drew.setRow w.heap.size (u8v (mm ++ List.replicate (k - m) 0))).drew 22 22 3 5 w.heap.size ad (k - m) (k - m) ⟨r, 0, none⟩ n n (u8v (mm ++ List.replicate (k - m) 0)) 5 (u8v (ring.take (k - m))).toList Try.underlying22 (by kernel_rfl) hrow2 (by simp only [u8v, List.length_map]; rw [htl]; show k - m = min n (k - m); omega)
      (row_get _ r ring ((HB2.out.drew.block _ hrl).trans hrr) 0 _ (fun j hj => by
        rw [htl] at hj
        refine ⟨by omega, ?_⟩
        rw [Nat.zero_add]
        simp only [List.getD_eq_getElem?_getD]
        rw [List.getElem?_take_of_lt hj]))
      (by rw [u8v_size]; simp only [u8v, List.length_map, List.length_replicate, List.length_append]; rw [htl, hm, ← had]; split <;> omega) (u8v_all _)
    show _ = _
    rw [this]
    have e1 : (u8v (ring.take (k - m))).toList.length = k - m := by simp only [u8v, List.length_map]; exact htl
    have e2 : ((u8v (mm ++ List.replicate (k - m) 0)).toList.take ad ++ (u8v (ring.take (k - m))).toList ++ (u8v (mm ++ List.replicate (k - m) 0)).toList.drop (ad + (u8v (ring.take (k - m))).toList.length)).toArray = u8v l := by
      rw [e1]
      have el : l = mm ++ ring.take (k - m) := by
        rw [← hmm]
        by_cases e : k ≤ n - f
        · rw [show k - m = 0 by omega, List.take_zero, List.append_nil, List.take_of_length_le (by omega)]
        · rw [show k - m = k - (n - f) by omega, htail, List.take_append_drop]
      by_cases e : k = m
      · have e3 : k - m = 0 := by omega
        rw [if_pos e] at had
        rw [← had, el]
        simp [u8v, e3]
      · rw [if_neg e] at had
        rw [← had, el]
        simp [u8v, ← hm]
    rw [e2, e1]
    rfl
  have HR3 : Hid ((((w.alloc (.cells (u8v (List.replicate k 0)) 5)).drew.setRow w.heap.size (u8v (mm ++ List.replicate (k - m) 0))).drew.setRow w.heap.size (u8v l)).heap[w.heap.size]? = some (.cells (u8v l) 5 (0, 0))) := setRow_heap _ _ _ _ _ _ hrow2
  clear hr hg hrr hhead htail hlr hm hmm hmk had hrow1 hrow2
  go_enter Try.func8, Try.ntmps8
  go_wp2_with (simp only [hmak])
  refine wp_region_held_drew (S := fun W => W.cell? ⟨g, 0, none⟩ = some (.slice (some ⟨r, 0, none⟩) n n) ∧ W.cell? ⟨g, 1, none⟩ = some (.int .i64 (f : Int))) (by kernel_rfl) (HC.out _ HB1.out.drew) (fun hHeld => ?_)
  refine wpAnyH_take (i := 0) (v := ?va_0) rfl (by kernel_rfl) (by kernel_rfl) (by kernel_rfl) (fun _ _ _ h => h) (Or.inl ⟨by kernel_rfl, ?ya_0⟩) hHeld ?ra_0
  case ya_0 => (intro W hSW; have hS1 := hSW.1; have hS2 := hSW.2; clear hSW; have hs1 := HS1.out W; have hs2 := HS2.out W; go_simp; (try with_reducible rfl))
  change wpAnyH _ _ _ _ _ _ _ (Act.put _ (some 12) _) _
  simp only [Act.put, List.setIfInBounds_toArray, List.set_cons_zero, List.set_cons_succ]
  refine wpAnyH_take (i := 1) (v := ?va_1) rfl (by kernel_rfl) (by kernel_rfl) (by kernel_rfl) (fun _ _ _ h => h) (Or.inl ⟨by kernel_rfl, ?ya_1⟩) hHeld ?ra_1
  case ya_1 => (intro W hSW; have hS1 := hSW.1; have hS2 := hSW.2; clear hSW; have hs1 := HS1.out W; have hs2 := HS2.out W; go_simp; (try with_reducible rfl))
  change wpAnyH _ _ _ _ _ _ _ (Act.put _ (some 13) _) _
  simp only [Act.put, List.setIfInBounds_toArray, List.set_cons_zero, List.set_cons_succ]
  refine wpAnyH_take (i := 2) (v := ?va_2) rfl (by kernel_rfl) (by kernel_rfl) (by kernel_rfl) (fun _ _ _ h => h) (Or.inl ⟨by kernel_rfl, ?ya_2⟩) hHeld ?ra_2
  case ya_2 => (intro W hSW; have hS1 := hSW.1; have hS2 := hSW.2; clear hSW; have hs1 := HS1.out W; have hs2 := HS2.out W; go_simp; (try with_reducible rfl))
  change wpAnyH _ _ _ _ _ _ _ (Act.put _ (some 14) _) _
  simp only [Act.put, List.setIfInBounds_toArray, List.set_cons_zero, List.set_cons_succ]
  refine wpAnyH_take (i := 3) (v := ?va_3) rfl (by kernel_rfl) (by kernel_rfl) (by kernel_rfl) (fun _ _ _ h => h) (Or.inl ⟨by kernel_rfl, ?ya_3⟩) hHeld ?ra_3
  case ya_3 => (intro W hSW; have hS1 := hSW.1; have hS2 := hSW.2; clear hSW; have hs1 := HS1.out W; have hs2 := HS2.out W; go_simp; (try with_reducible rfl))
  change wpAnyH _ _ _ _ _ _ _ (Act.put _ (some 15) _) _
  simp only [Act.put, List.setIfInBounds_toArray, List.set_cons_zero, List.set_cons_succ]
  refine wpAnyH_take (i := 4) (v := ?va_4) rfl (by kernel_rfl) (by kernel_rfl) (by kernel_rfl) (fun _ _ _ h => h) (Or.inl ⟨by kernel_rfl, ?ya_4⟩) hHeld ?ra_4
  case ya_4 => (intro W hSW; have hS1 := hSW.1; have hS2 := hSW.2; clear hSW; have hs1 := HS1.out W; have hs2 := HS2.out W; go_simp; (try with_reducible rfl))
  change wpAnyH _ _ _ _ _ _ _ (Act.put _ (some 16) _) _
  simp only [Act.put, List.setIfInBounds_toArray, List.set_cons_zero, List.set_cons_succ]
  refine wpAnyH_take (i := 5) (v := ?va_5) rfl (by kernel_rfl) (by kernel_rfl) (by kernel_rfl) (fun _ _ _ h => h) (Or.inl ⟨by kernel_rfl, ?ya_5⟩) hHeld ?ra_5
  case ya_5 => (intro W hSW; have hS1 := hSW.1; have hS2 := hSW.2; clear hSW; have hs1 := HS1.out W; have hs2 := HS2.out W; go_simp; (try with_reducible rfl))
  change wpAnyH _ _ _ _ _ _ _ (Act.put _ (some 17) _) _
  simp only [Act.put, List.setIfInBounds_toArray, List.set_cons_zero, List.set_cons_succ]
  refine wpAnyH_take (i := 6) (v := ?va_6) rfl (by kernel_rfl) (by kernel_rfl) (by kernel_rfl) (fun _ _ _ h => h) (Or.inl ⟨by kernel_rfl, ?ya_6⟩) hHeld ?ra_6
  case ya_6 => (intro W hSW; have hS1 := hSW.1; have hS2 := hSW.2; clear hSW; have hs1 := HS1.out W; have hs2 := HS2.out W; go_simp; (try with_reducible rfl))
  change wpAnyH _ _ _ _ _ _ _ (Act.put _ (some 18) _) _
  simp only [Act.put, List.setIfInBounds_toArray, List.set_cons_zero, List.set_cons_succ]
  refine wpAnyH_take (i := 7) (v := ?va_7) rfl (by kernel_rfl) (by kernel_rfl) (by kernel_rfl) (fun _ _ _ h => h) (Or.inl ⟨by kernel_rfl, ?ya_7⟩) hHeld ?ra_7
  case ya_7 => (intro W hSW; have hS1 := hSW.1; have hS2 := hSW.2; clear hSW; have hs1 := HS1.out W; have hs2 := HS2.out W; go_simp; (try with_reducible rfl))
  change wpAnyH _ _ _ _ _ _ _ (Act.put _ (some 19) _) _
  simp only [Act.put, List.setIfInBounds_toArray, List.set_cons_zero, List.set_cons_succ]
  refine wpAnyH_take (i := 8) (v := ?va_8) rfl (by kernel_rfl) (by kernel_rfl) (by kernel_rfl) (fun _ _ _ h => h) (Or.inl ⟨by kernel_rfl, ?ya_8⟩) hHeld ?ra_8
  case ya_8 => (intro W hSW; have hS1 := hSW.1; have hS2 := hSW.2; clear hSW; have hs1 := HS1.out W; have hs2 := HS2.out W; go_simp; (try with_reducible rfl))
  change wpAnyH _ _ _ _ _ _ _ (Act.put _ (some 20) _) _
  simp only [Act.put, List.setIfInBounds_toArray, List.set_cons_zero, List.set_cons_succ]
  refine wpAnyH_take (i := 9) (v := ?va_9) rfl (by kernel_rfl) (by kernel_rfl) (by kernel_rfl) (fun _ _ _ h => h) (Or.inl ⟨by kernel_rfl, ?ya_9⟩) hHeld ?ra_9
  case ya_9 => (intro W hSW; have hS1 := hSW.1; have hS2 := hSW.2; clear hSW; have hs1 := HS1.out W; have hs2 := HS2.out W; go_simp; (try with_reducible rfl))
  change wpAnyH _ _ _ _ _ _ _ (Act.put _ (some 21) _) _
  simp only [Act.put, List.setIfInBounds_toArray, List.set_cons_zero, List.set_cons_succ]
  have hcp := HC1.out
  refine wpAnyH_ready (rs := [10]) (by kernel_rfl) (by simp) ?_
  refine AllReadyH.cons rfl (fun K hK => ?_) AllReadyH.nil
  go_simp
  refine hK.out _ _ (HC.out _ HB2.out) (fun hHeld => ?_)
  clear hK K
  refine wpAnyH_take (i := 11) (v := ?va_11) rfl (by kernel_rfl) (by kernel_rfl) (by kernel_rfl) (fun _ _ _ h => h) (Or.inl ⟨by kernel_rfl, ?ya_11⟩) hHeld ?ra_11
  case ya_11 => (intro W hSW; have hS1 := hSW.1; have hS2 := hSW.2; clear hSW; have hs1 := HS1.out W; have hs2 := HS2.out W; go_simp; (try with_reducible rfl))
  change wpAnyH _ _ _ _ _ _ _ (Act.put _ (some 4) _) _
  simp only [Act.put, List.setIfInBounds_toArray, List.set_cons_zero, List.set_cons_succ]
  refine wpAnyH_done (by kernel_rfl) ?_ _
  go_wp2
  refine wp_region_held_drew (S := fun W => W.cell? ⟨g, 0, none⟩ = some (.slice (some ⟨r, 0, none⟩) n n) ∧ W.cell? ⟨g, 1, none⟩ = some (.int .i64 (f : Int))) (by kernel_rfl) (HC.out _ HB2.out.drew) (fun hHeld => ?_)
  refine wpAnyH_take (i := 0) (v := ?vb_0) rfl (by kernel_rfl) (by kernel_rfl) (by kernel_rfl) (fun _ _ _ h => h) (Or.inl ⟨by kernel_rfl, ?yb_0⟩) hHeld ?rb_0
  case yb_0 => (intro W hSW; have hS1 := hSW.1; have hS2 := hSW.2; clear hSW; have hs1 := HS1.out W; have hs2 := HS2.out W; go_simp; (try with_reducible rfl))
  change wpAnyH _ _ _ _ _ _ _ (Act.put _ (some 23) _) _
  simp only [Act.put, List.setIfInBounds_toArray, List.set_cons_zero, List.set_cons_succ]
  refine wpAnyH_take (i := 1) (v := ?vb_1) rfl (by kernel_rfl) (by kernel_rfl) (by kernel_rfl) (fun _ _ _ h => h) (Or.inl ⟨by kernel_rfl, ?yb_1⟩) hHeld ?rb_1
  case yb_1 => (intro W hSW; have hS1 := hSW.1; have hS2 := hSW.2; clear hSW; have hs1 := HS1.out W; have hs2 := HS2.out W; go_simp; (try with_reducible rfl))
  change wpAnyH _ _ _ _ _ _ _ (Act.put _ (some 24) _) _
  simp only [Act.put, List.setIfInBounds_toArray, List.set_cons_zero, List.set_cons_succ]
  refine wpAnyH_take (i := 2) (v := ?vb_2) rfl (by kernel_rfl) (by kernel_rfl) (by kernel_rfl) (fun _ _ _ h => h) (Or.inl ⟨by kernel_rfl, ?yb_2⟩) hHeld ?rb_2
  case yb_2 => (intro W hSW; have hS1 := hSW.1; have hS2 := hSW.2; clear hSW; have hs1 := HS1.out W; have hs2 := HS2.out W; go_simp; (try with_reducible rfl))
  change wpAnyH _ _ _ _ _ _ _ (Act.put _ (some 25) _) _
  simp only [Act.put, List.setIfInBounds_toArray, List.set_cons_zero, List.set_cons_succ]
  refine wpAnyH_take (i := 3) (v := ?vb_3) rfl (by kernel_rfl) (by kernel_rfl) (by kernel_rfl) (fun _ _ _ h => h) (Or.inl ⟨by kernel_rfl, ?yb_3⟩) hHeld ?rb_3
  case yb_3 => (intro W hSW; have hS1 := hSW.1; have hS2 := hSW.2; clear hSW; have hs1 := HS1.out W; have hs2 := HS2.out W; go_simp; (try with_reducible rfl))
  change wpAnyH _ _ _ _ _ _ _ (Act.put _ (some 26) _) _
  simp only [Act.put, List.setIfInBounds_toArray, List.set_cons_zero, List.set_cons_succ]
  refine wpAnyH_take (i := 4) (v := ?vb_4) rfl (by kernel_rfl) (by kernel_rfl) (by kernel_rfl) (fun _ _ _ h => h) (Or.inl ⟨by kernel_rfl, ?yb_4⟩) hHeld ?rb_4
  case yb_4 => (intro W hSW; have hS1 := hSW.1; have hS2 := hSW.2; clear hSW; have hs1 := HS1.out W; have hs2 := HS2.out W; go_simp; (try with_reducible rfl))
  change wpAnyH _ _ _ _ _ _ _ (Act.put _ (some 27) _) _
  simp only [Act.put, List.setIfInBounds_toArray, List.set_cons_zero, List.set_cons_succ]
  refine wpAnyH_take (i := 5) (v := ?vb_5) rfl (by kernel_rfl) (by kernel_rfl) (by kernel_rfl) (fun _ _ _ h => h) (Or.inl ⟨by kernel_rfl, ?yb_5⟩) hHeld ?rb_5
  case yb_5 => (intro W hSW; have hS1 := hSW.1; have hS2 := hSW.2; clear hSW; have hs1 := HS1.out W; have hs2 := HS2.out W; go_simp; (try with_reducible rfl))
  change wpAnyH _ _ _ _ _ _ _ (Act.put _ (some 28) _) _
  simp only [Act.put, List.setIfInBounds_toArray, List.set_cons_zero, List.set_cons_succ]
  refine wpAnyH_take (i := 6) (v := ?vb_6) rfl (by kernel_rfl) (by kernel_rfl) (by kernel_rfl) (fun _ _ _ h => h) (Or.inl ⟨by kernel_rfl, ?yb_6⟩) hHeld ?rb_6
  case yb_6 => (intro W hSW; have hS1 := hSW.1; have hS2 := hSW.2; clear hSW; have hs1 := HS1.out W; have hs2 := HS2.out W; go_simp; (try with_reducible rfl))
  change wpAnyH _ _ _ _ _ _ _ (Act.put _ (some 29) _) _
  simp only [Act.put, List.setIfInBounds_toArray, List.set_cons_zero, List.set_cons_succ]
  have hcp := HC2.out
  refine wpAnyH_ready (rs := [7]) (by kernel_rfl) (by simp) ?_
  refine AllReadyH.cons rfl (fun K hK => ?_) AllReadyH.nil
  go_simp
  refine hK.out _ _ (HC.out _ HB3.out) (fun hHeld => ?_)
  clear hK K
  refine wpAnyH_done (by kernel_rfl) ?_ _
  go_wp2
  go_ret
  exact ⟨rfl, HR3.out, HB3.out⟩
end Go.Proofs.Yteiigaoniipedab
