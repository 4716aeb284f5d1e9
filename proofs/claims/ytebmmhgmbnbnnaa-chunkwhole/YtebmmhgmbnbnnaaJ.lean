/- Walk over the program's Put of a Window. -/
import Derived.Test.YtebmmhgmbnbnnaaU
namespace Go.Proofs.Ytebmmhgmbnbnnaa
open Go.RowKit
set_option maxRecDepth 100000 in
set_option maxHeartbeats 1000000 in
theorem put_any (r g n : Nat) (l : List UInt8) (c : Nat) (w : World) (h : WinIs w r g n l) (hc : c < 256) :
    Calls Try.prog 30 #[.pointer (some ⟨g, 0, none⟩), .int .u8 (c : Int)] w fun e w' => e = .returned (.tuple #[]) ∧ WinIs w' r g n (putL l (UInt8.ofNat c) n) ∧ Upd (fun x => x = g ∨ x = r) w w' := by
  obtain ⟨h0, h1, ring, f, hr, hg, hrr⟩ := h
  have hgl := lt_of_some hg
  have hrl := lt_of_some hrr
  have hf := hr.kf
  have hl := hr.kl
  have hlr := hr.kn
  obtain ⟨k, hk⟩ : ∃ k, l.length = k := ⟨_, rfl⟩
  obtain ⟨s, hs⟩ : ∃ s, wsum l = s := ⟨_, rfl⟩
  have hs2 : s < 4294967296 := by rw [← hs]; exact wsum_lt _
  rw [hk, hs] at hg
  rw [hk] at hl
  obtain ⟨c0, c1, c2, c3⟩ := win_cells hg
  obtain ⟨t, ht⟩ : ∃ t, idx f k n = t := ⟨_, rfl⟩
  have htn : t < n := by rw [← ht]; exact idx_lt f k n hf hl
  have hmod : (f + k) % n = t := by rw [idx_mod f k n hf hl, ht]
  have e1 : ((f : Int) + (k : Int)) % (n : Int) = (t : Int) := by rw [← hmod]; simp
  have e2 : Int.tmod ((f : Int) + (k : Int)) (n : Int) = (t : Int) := by rw [Int.tmod_eq_emod_of_nonneg (by omega), e1]
  have hn0 : ¬ (n : Int) = 0 := by omega
  have f2 := frozen_of_row w g 2 _ _ hg
  have f3 := frozen_of_row w g 3 _ _ hg
  have f1 := frozen_of_row w g 1 _ _ hg
  obtain ⟨o', ho'⟩ : ∃ o : Nat, (ring.getD t 0).toNat = o := ⟨_, rfl⟩
  have ct : w.cell? ⟨r, t, none⟩ = some (.int .u8 (o' : Int)) := by rw [cell_of_row w r t _ _ _ hrr, u8v_get ring t (by omega), ho']
  have ft := frozen_of_row w r t _ _ hrr
  have hwt : IntKind.i64.wrap (t : Int) = (t : Int) := wrapI _ (by omega) (by omega)
  by_cases hlt : k < n
  · have hi : (k : Int) < (n : Int) := by omega
    obtain ⟨s', hs'⟩ : ∃ s', wsum (l ++ [UInt8.ofNat c]) = s' := ⟨_, rfl⟩
    obtain ⟨s1, hs1⟩ : ∃ s1, wsum [UInt8.ofNat c] = s1 := ⟨_, rfl⟩
    have hs12 : s1 < 4294967296 := by rw [← hs1]; exact wsum_lt _
    have HAL : Hid (∀ o : Obj, (w.alloc o).cell? ⟨g, 3, none⟩ = some (.int .u32 (s : Int))) := fun o => (World.cell?_alloc_lt _ _ _ hgl).trans c3
    have c3a : (w.alloc (.cells #[.int .u8 (c : Int)] 5)).cell? ⟨g, 3, none⟩ = some (.int .u32 (s : Int)) := (World.cell?_alloc_lt _ _ _ hgl).trans c3
    have c2a : (w.alloc (.cells #[.int .u8 (c : Int)] 5)).cell? ⟨g, 2, none⟩ = some (.int .i64 (k : Int)) := (World.cell?_alloc_lt _ _ _ hgl).trans c2
    have c0a : (w.alloc (.cells #[.int .u8 (c : Int)] 5)).cell? ⟨g, 0, none⟩ = some (.slice (some ⟨r, 0, none⟩) n n) := (World.cell?_alloc_lt _ _ _ hgl).trans c0
    have cta : (w.alloc (.cells #[.int .u8 (c : Int)] 5)).cell? ⟨r, t, none⟩ = some (.int .u8 (o' : Int)) := (World.cell?_alloc_lt _ _ _ hrl).trans ct
    have f2a := frozen_of_row _ g 2 _ _ ((Go.heap_alloc_old w (.cells #[.int .u8 (c : Int)] 5) hgl).trans hg)
    have f3a := frozen_of_row _ g 3 _ _ ((Go.heap_alloc_old w (.cells #[.int .u8 (c : Int)] 5) hgl).trans hg)
    have fta := frozen_of_row _ r t _ _ ((Go.heap_alloc_old w (.cells #[.int .u8 (c : Int)] 5) hrl).trans hrr)
    have HSU : Hid (Calls Try.prog 27 #[.slice (some ⟨w.heap.size, 0, none⟩) 1 1] (w.alloc (.cells #[.int .u8 (c : Int)] 5)).drew.drew fun e w' => e = .returned (.int .u32 (s1 : Int)) ∧ w' = (w.alloc (.cells #[.int .u8 (c : Int)] 5)).drew.drew) := by
      rw [← hs1]
      refine sum_any _ 1 1 [UInt8.ofNat c] _ ⟨rfl, by omega, by omega, fun _ => ⟨w.heap.size, 0, rfl, by simp, fun i hi => ?_⟩⟩
      match i, hi with
      | 0, _ =>
        show (w.alloc (.cells #[.int .u8 (c : Int)] 5)).cell? _ = _
        rw [cell_of_row _ w.heap.size _ _ _ _ (heap_alloc_new w _)]
        simp [Nat.mod_eq_of_lt hc]
    have HJO : Hid (∀ W : World, Calls Try.prog 35 #[.int .u32 (s : Int), .int .u32 (s1 : Int), .int .i64 1] W fun e w' => e = .returned (.int .u32 (s' : Int)) ∧ w' = W) := by
      intro W
      have := join_any s s1 1 W hs2 hs12
      have e := join_wsum l [UInt8.ofNat c]
      rw [hs, hs1, hs'] at e
      have e3 : joinI s s1 1 = (s' : Int) := e
      rw [e3] at this
      exact this
    have HW : Hid (WinIs ((((w.setCell ⟨g, 3, none⟩ (.int .u32 (s' : Int))).setCell ⟨g, 2, none⟩ (.int .i64 ((k : Int) + 1))).setCell ⟨r, t, none⟩ (.int .u8 (c : Int))).alloc (.cells #[.int .u8 (c : Int)] 5)).drew.drew r g n (putL l (UInt8.ofNat c) n)) := by
      have e : putL l (UInt8.ofNat c) n = l ++ [UInt8.ofNat c] := if_pos (by omega)
      have hrel := hr.add (by omega) (UInt8.ofNat c)
      rw [hk, ht] at hrel
      rw [e]
      refine ⟨h0, h1, _, f, hrel, ?_, ?_⟩
      · refine (Go.heap_alloc_old _ _ (by simpa using hgl)).trans ?_
        rw [heap_setCell_other _ _ _ _ (Ne.symm h1), heap_setCell_same _ g 2 _ _ _ (heap_setCell_same w g 3 _ _ _ hg), hs', List.length_append, hk]
        rfl
      · refine (Go.heap_alloc_old _ _ (by simpa using hrl)).trans ?_
        have e2 : ((w.setCell ⟨g, 3, none⟩ (.int .u32 (s' : Int))).setCell ⟨g, 2, none⟩ (.int .i64 ((k : Int) + 1))).heap[r]? = some (.cells (u8v ring) 5 (0, 0)) := by
          rw [heap_setCell_other _ _ _ _ h1, heap_setCell_other _ _ _ _ h1]; exact hrr
        rw [heap_setCell_same _ r t _ _ _ e2, ← u8v_set, UInt8.toNat_ofNat', Nat.mod_eq_of_lt (by omega)]
    have HBW : Hid (Upd (fun x => x = g ∨ x = r) w ((((w.setCell ⟨g, 3, none⟩ (.int .u32 (s' : Int))).setCell ⟨g, 2, none⟩ (.int .i64 ((k : Int) + 1))).setCell ⟨r, t, none⟩ (.int .u8 (c : Int))).alloc (.cells #[.int .u8 (c : Int)] 5)).drew.drew) := by
      exact Upd.drew (Upd.drew (Upd.alloc ((((Upd.refl (fun x => x = g ∨ x = r) w).setCell (fun _ => .inl rfl) _).setCell (fun _ => .inl rfl) _).setCell (fun _ => .inr rfl) _) _))
    clear hr hg hrr hs hk ht hmod ho' hs' hs1 hlr
    go_enter Try.func30, Try.ntmps30
    go_wp2
    go_region
    go_wp2
    refine wp_region_held_drew (S := fun _ => True) (by kernel_rfl) (trivial) (fun hHeld => ?_)
    refine wpAnyH_take (i := 0) (v := ?va_0) rfl (by kernel_rfl) (by kernel_rfl) (by kernel_rfl) (fun _ _ _ h => h) (Or.inl ⟨by kernel_rfl, ?ya_0⟩) hHeld ?ra_0
    case ya_0 => (intro W hSW; clear hSW; go_simp; (try with_reducible rfl))
    change wpAnyH _ _ _ _ _ _ _ (Act.put _ (some 30) _) _
    simp only [Act.put, List.setIfInBounds_toArray, List.set_cons_zero, List.set_cons_succ]
    refine wpAnyH_take (i := 1) (v := ?va_1) rfl (by kernel_rfl) (by kernel_rfl) (by kernel_rfl) (fun _ _ _ h => h) (Or.inl ⟨by kernel_rfl, ?ya_1⟩) hHeld ?ra_1
    case ya_1 => (intro W hSW; clear hSW; go_simp; (try with_reducible rfl))
    change wpAnyH _ _ _ _ _ _ _ (Act.put _ (some 31) _) _
    simp only [Act.put, List.setIfInBounds_toArray, List.set_cons_zero, List.set_cons_succ]
    refine wpAnyH_take (i := 2) (v := ?va_2) rfl (by kernel_rfl) (by kernel_rfl) (by kernel_rfl) (fun _ _ _ h => h) (Or.inl ⟨by kernel_rfl, ?ya_2⟩) hHeld ?ra_2
    case ya_2 => (intro W hSW; clear hSW; go_simp; (try with_reducible rfl))
    change wpAnyH _ _ _ _ _ _ _ (Act.put _ (some 32) _) _
    simp only [Act.put, List.setIfInBounds_toArray, List.set_cons_zero, List.set_cons_succ]
    refine wpAnyH_take (i := 3) (v := ?va_3) rfl (by kernel_rfl) (by kernel_rfl) (by kernel_rfl) (fun _ _ _ h => h) (Or.inl ⟨by kernel_rfl, ?ya_3⟩) hHeld ?ra_3
    case ya_3 => (intro W hSW; clear hSW; go_simp; (try with_reducible rfl))
    change wpAnyH _ _ _ _ _ _ _ (Act.put _ (some 33) _) _
    simp only [Act.put, List.setIfInBounds_toArray, List.set_cons_zero, List.set_cons_succ]
    refine wpAnyH_take (i := 5) (v := ?va_5) rfl (by kernel_rfl) (by kernel_rfl) (by kernel_rfl) (fun _ _ _ h => h) (Or.inl ⟨by kernel_rfl, ?ya_5⟩) hHeld ?ra_5
    case ya_5 => (intro W hSW; clear hSW; go_simp; (try with_reducible rfl))
    change wpAnyH _ _ _ _ _ _ _ (Act.put _ (some 35) _) _
    simp only [Act.put, List.setIfInBounds_toArray, List.set_cons_zero, List.set_cons_succ]
    refine wpAnyH_ready (rs := [4, 6]) (by kernel_rfl) (by simp) ?_
    refine AllReadyH.cons rfl (fun K hK => ?_) (AllReadyH.cons rfl (fun K hK => ?_) AllReadyH.nil)
    · go_simp
      refine hK.out _ _ (trivial) (fun hHeld => ?_)
      clear hK K
      try simp only [Act.put, List.setIfInBounds_toArray, List.set_cons_zero, List.set_cons_succ]
      refine wpAnyH_ready (rs := [6]) (by kernel_rfl) (by simp) ?_
      refine AllReadyH.cons rfl (fun K hK => ?_) AllReadyH.nil
      go_simp
      refine hK.out _ _ (trivial) (fun hHeld => ?_)
      clear hK K
      try simp only [Act.put, List.setIfInBounds_toArray, List.set_cons_zero, List.set_cons_succ]
      refine wpAnyH_ready (rs := [7]) (by kernel_rfl) (by simp) ?_
      refine AllReadyH.cons rfl (fun K hK => ?_) AllReadyH.nil
      go_simp
      refine (HSU.out).mono ?_
      rintro e w1 ⟨rfl, h⟩; subst w1
      refine hK.out _ _ (trivial) (fun hHeld => ?_)
      clear hK K
      try simp only [Act.put, List.setIfInBounds_toArray, List.set_cons_zero, List.set_cons_succ]
      refine wpAnyH_ready (rs := [8]) (by kernel_rfl) (by simp) ?_
      refine AllReadyH.cons rfl (fun K hK => ?_) AllReadyH.nil
      go_simp
      refine (HJO.out _).mono ?_
      rintro e w1 ⟨rfl, h⟩; subst w1
      refine hK.out _ _ (trivial) (fun hHeld => ?_)
      clear hK K
      try simp only [Act.put, List.setIfInBounds_toArray, List.set_cons_zero, List.set_cons_succ]
      refine wpAnyH_take (i := 9) (v := ?vp_9) rfl (by kernel_rfl) (by kernel_rfl) (by kernel_rfl) (fun _ _ _ h => h) (Or.inl ⟨by kernel_rfl, ?yp_9⟩) hHeld ?rp_9
      case yp_9 => (intro W hSW; clear hSW; go_simp; (try with_reducible rfl))
      change wpAnyH _ _ _ _ _ _ _ (Act.put _ (some 39) _) _
      simp only [Act.put, List.setIfInBounds_toArray, List.set_cons_zero, List.set_cons_succ]
      refine wpAnyH_take (i := 10) (v := ?vp_10) rfl (by kernel_rfl) (by kernel_rfl) (by kernel_rfl) (fun _ _ _ h => h) (Or.inl ⟨by kernel_rfl, ?yp_10⟩) hHeld ?rp_10
      case yp_10 => (intro W hSW; clear hSW; go_simp; (try with_reducible rfl))
      change wpAnyH _ _ _ _ _ _ _ (Act.put _ (some 40) _) _
      simp only [Act.put, List.setIfInBounds_toArray, List.set_cons_zero, List.set_cons_succ]
      refine wpAnyH_ready (rs := [11]) (by kernel_rfl) (by simp) ?_
      refine AllReadyH.cons rfl (fun K hK => ?_) AllReadyH.nil
      go_simp
      refine hK.out _ _ (trivial) (fun hHeld => ?_)
      clear hK K
      try simp only [Act.put, List.setIfInBounds_toArray, List.set_cons_zero, List.set_cons_succ]
      refine wpAnyH_done (by kernel_rfl) ?_ _
      go_wp2
      refine bodyPost_end (v := .tuple #[]) ?_ rfl ⟨rfl, HW.out, HBW.out⟩
      simp [results, go_sem]
    · go_simp
      refine hK.out _ _ (trivial) (fun hHeld => ?_)
      clear hK K
      try simp only [Act.put, List.setIfInBounds_toArray, List.set_cons_zero, List.set_cons_succ]
      refine wpAnyH_ready (rs := [4, 7]) (by kernel_rfl) (by simp) ?_
      refine AllReadyH.cons rfl (fun K hK => ?_) (AllReadyH.cons rfl (fun K hK => ?_) AllReadyH.nil)
      · go_simp
        refine hK.out _ _ (trivial) (fun hHeld => ?_)
        clear hK K
        try simp only [Act.put, List.setIfInBounds_toArray, List.set_cons_zero, List.set_cons_succ]
        refine wpAnyH_ready (rs := [7]) (by kernel_rfl) (by simp) ?_
        refine AllReadyH.cons rfl (fun K hK => ?_) AllReadyH.nil
        go_simp
        refine (HSU.out).mono ?_
        rintro e w1 ⟨rfl, h⟩; subst w1
        refine hK.out _ _ (trivial) (fun hHeld => ?_)
        clear hK K
        try simp only [Act.put, List.setIfInBounds_toArray, List.set_cons_zero, List.set_cons_succ]
        refine wpAnyH_ready (rs := [8]) (by kernel_rfl) (by simp) ?_
        refine AllReadyH.cons rfl (fun K hK => ?_) AllReadyH.nil
        go_simp
        refine (HJO.out _).mono ?_
        rintro e w1 ⟨rfl, h⟩; subst w1
        refine hK.out _ _ (trivial) (fun hHeld => ?_)
        clear hK K
        try simp only [Act.put, List.setIfInBounds_toArray, List.set_cons_zero, List.set_cons_succ]
        refine wpAnyH_take (i := 9) (v := ?vq_9) rfl (by kernel_rfl) (by kernel_rfl) (by kernel_rfl) (fun _ _ _ h => h) (Or.inl ⟨by kernel_rfl, ?yq_9⟩) hHeld ?rq_9
        case yq_9 => (intro W hSW; clear hSW; go_simp; (try with_reducible rfl))
        change wpAnyH _ _ _ _ _ _ _ (Act.put _ (some 39) _) _
        simp only [Act.put, List.setIfInBounds_toArray, List.set_cons_zero, List.set_cons_succ]
        refine wpAnyH_take (i := 10) (v := ?vq_10) rfl (by kernel_rfl) (by kernel_rfl) (by kernel_rfl) (fun _ _ _ h => h) (Or.inl ⟨by kernel_rfl, ?yq_10⟩) hHeld ?rq_10
        case yq_10 => (intro W hSW; clear hSW; go_simp; (try with_reducible rfl))
        change wpAnyH _ _ _ _ _ _ _ (Act.put _ (some 40) _) _
        simp only [Act.put, List.setIfInBounds_toArray, List.set_cons_zero, List.set_cons_succ]
        refine wpAnyH_ready (rs := [11]) (by kernel_rfl) (by simp) ?_
        refine AllReadyH.cons rfl (fun K hK => ?_) AllReadyH.nil
        go_simp
        refine hK.out _ _ (trivial) (fun hHeld => ?_)
        clear hK K
        try simp only [Act.put, List.setIfInBounds_toArray, List.set_cons_zero, List.set_cons_succ]
        refine wpAnyH_done (by kernel_rfl) ?_ _
        go_wp2
        refine bodyPost_end (v := .tuple #[]) ?_ rfl ⟨rfl, HW.out, HBW.out⟩
        simp [results, go_sem]
      · go_simp
        refine (HSU.out).mono ?_
        rintro e w1 ⟨rfl, h⟩; subst w1
        refine hK.out _ _ (trivial) (fun hHeld => ?_)
        clear hK K
        try simp only [Act.put, List.setIfInBounds_toArray, List.set_cons_zero, List.set_cons_succ]
        refine wpAnyH_ready (rs := [4]) (by kernel_rfl) (by simp) ?_
        refine AllReadyH.cons rfl (fun K hK => ?_) AllReadyH.nil
        go_simp
        refine hK.out _ _ (trivial) (fun hHeld => ?_)
        clear hK K
        try simp only [Act.put, List.setIfInBounds_toArray, List.set_cons_zero, List.set_cons_succ]
        refine wpAnyH_ready (rs := [8]) (by kernel_rfl) (by simp) ?_
        refine AllReadyH.cons rfl (fun K hK => ?_) AllReadyH.nil
        go_simp
        refine (HJO.out _).mono ?_
        rintro e w1 ⟨rfl, h⟩; subst w1
        refine hK.out _ _ (trivial) (fun hHeld => ?_)
        clear hK K
        try simp only [Act.put, List.setIfInBounds_toArray, List.set_cons_zero, List.set_cons_succ]
        refine wpAnyH_take (i := 9) (v := ?vs_9) rfl (by kernel_rfl) (by kernel_rfl) (by kernel_rfl) (fun _ _ _ h => h) (Or.inl ⟨by kernel_rfl, ?ys_9⟩) hHeld ?rs_9
        case ys_9 => (intro W hSW; clear hSW; go_simp; (try with_reducible rfl))
        change wpAnyH _ _ _ _ _ _ _ (Act.put _ (some 39) _) _
        simp only [Act.put, List.setIfInBounds_toArray, List.set_cons_zero, List.set_cons_succ]
        refine wpAnyH_take (i := 10) (v := ?vs_10) rfl (by kernel_rfl) (by kernel_rfl) (by kernel_rfl) (fun _ _ _ h => h) (Or.inl ⟨by kernel_rfl, ?ys_10⟩) hHeld ?rs_10
        case ys_10 => (intro W hSW; clear hSW; go_simp; (try with_reducible rfl))
        change wpAnyH _ _ _ _ _ _ _ (Act.put _ (some 40) _) _
        simp only [Act.put, List.setIfInBounds_toArray, List.set_cons_zero, List.set_cons_succ]
        refine wpAnyH_ready (rs := [11]) (by kernel_rfl) (by simp) ?_
        refine AllReadyH.cons rfl (fun K hK => ?_) AllReadyH.nil
        go_simp
        refine hK.out _ _ (trivial) (fun hHeld => ?_)
        clear hK K
        try simp only [Act.put, List.setIfInBounds_toArray, List.set_cons_zero, List.set_cons_succ]
        refine wpAnyH_done (by kernel_rfl) ?_ _
        go_wp2
        refine bodyPost_end (v := .tuple #[]) ?_ rfl ⟨rfl, HW.out, HBW.out⟩
        simp [results, go_sem]
  · have hi : ¬ (k : Int) < (n : Int) := by omega
    obtain rfl : k = n := by omega
    obtain rfl : t = f := by rw [← ht]; unfold idx; rw [if_neg (by omega)]; omega
    obtain ⟨u, hu⟩ : ∃ u, idx t 1 k = u := ⟨_, rfl⟩
    have hun : u < k := by rw [← hu]; exact idx_lt t 1 k hf (by omega)
    have e3 : ((t : Int) + 1) % (k : Int) = (u : Int) := by
      have : (t + 1) % k = u := by rw [idx_mod t 1 k hf (by omega), hu]
      rw [← this]; simp
    have e4 : Int.tmod ((t : Int) + 1) (k : Int) = (u : Int) := by rw [Int.tmod_eq_emod_of_nonneg (by omega), e3]
    obtain ⟨s', hs'⟩ : ∃ s', wsum (l.drop 1 ++ [UInt8.ofNat c]) = s' := ⟨_, rfl⟩
    have hoc : o' < 256 := by rw [← ho']; exact UInt8.toNat_lt _
    have HNX : Hid (∀ W : World, Calls Try.prog 36 #[.int .u32 (s : Int), .int .i64 (k : Int), .int .u8 (o' : Int), .int .u8 (c : Int)] W fun e w' => e = .returned (.int .u32 (s' : Int)) ∧ w' = W) := by
      intro W
      have := next_any s (k : Int) o' c W hs2 hoc hc
      have ef := hr.first (by omega)
      rw [ef] at ho'
      match l, hk with
      | x :: q, hk =>
        have en := next_wsum x q (UInt8.ofNat c)
        have e0 : (q.length + 1 : Nat) = k := by simpa using hk
        rw [e0, hs, UInt8.toNat_ofNat', Nat.mod_eq_of_lt (by omega)] at en
        have ho2 : x.toNat = o' := by simpa using ho'
        have hs3 : wsum (q ++ [UInt8.ofNat c]) = s' := by simpa using hs'
        rw [ho2, hs3] at en
        rw [en] at this
        exact this
    have HW : Hid (WinIs (((w.setCell ⟨g, 3, none⟩ (.int .u32 (s' : Int))).setCell ⟨g, 1, none⟩ (.int .i64 (u : Int))).setCell ⟨r, t, none⟩ (.int .u8 (c : Int))).drew.drew r g k (putL l (UInt8.ofNat c) k)) := by
      have e : putL l (UInt8.ofNat c) k = l.drop 1 ++ [UInt8.ofNat c] := if_neg (by omega)
      have hrel := hr.roll hk (UInt8.ofNat c)
      rw [hu] at hrel
      rw [e]
      refine ⟨h0, h1, _, u, hrel, ?_, ?_⟩
      · show (((w.setCell ⟨g, 3, none⟩ (.int .u32 (s' : Int))).setCell ⟨g, 1, none⟩ (.int .i64 (u : Int))).setCell ⟨r, t, none⟩ (.int .u8 (c : Int))).heap[g]? = _
        rw [heap_setCell_other _ _ _ _ (Ne.symm h1), heap_setCell_same _ g 1 _ _ _ (heap_setCell_same w g 3 _ _ _ hg), hs', List.length_append, List.length_drop, hk, show k - 1 + [UInt8.ofNat c].length = k by simp; omega]
        rfl
      · have e2 : ((w.setCell ⟨g, 3, none⟩ (.int .u32 (s' : Int))).setCell ⟨g, 1, none⟩ (.int .i64 (u : Int))).heap[r]? = some (.cells (u8v ring) 5 (0, 0)) := by
          rw [heap_setCell_other _ _ _ _ h1, heap_setCell_other _ _ _ _ h1]; exact hrr
        show (((w.setCell ⟨g, 3, none⟩ (.int .u32 (s' : Int))).setCell ⟨g, 1, none⟩ (.int .i64 (u : Int))).setCell ⟨r, t, none⟩ (.int .u8 (c : Int))).heap[r]? = _
        rw [heap_setCell_same _ r t _ _ _ e2, ← u8v_set, UInt8.toNat_ofNat', Nat.mod_eq_of_lt (by omega)]
    have HBW : Hid (Upd (fun x => x = g ∨ x = r) w (((w.setCell ⟨g, 3, none⟩ (.int .u32 (s' : Int))).setCell ⟨g, 1, none⟩ (.int .i64 (u : Int))).setCell ⟨r, t, none⟩ (.int .u8 (c : Int))).drew.drew) := ((((Upd.refl (fun x => x = g ∨ x = r) w).setCell (fun _ => .inl rfl) _).setCell (fun _ => .inl rfl) _).setCell (fun _ => .inr rfl) _).drew.drew
    have HS17 : Hid ((w.setCell ⟨g, 3, none⟩ (.int .u32 (s' : Int))).cell? ⟨g, 0, none⟩ = some (.slice (some ⟨r, 0, none⟩) k k) ∧ (w.setCell ⟨g, 3, none⟩ (.int .u32 (s' : Int))).cell? ⟨r, t, none⟩ = some (.int .u8 (o' : Int))) :=
      ⟨(World.cell?_setCell_other _ _ _ _ (by simp)).trans c0, (World.cell?_setCell_other _ _ _ _ (by intro h; cases h; exact h1 rfl)).trans ct⟩
    clear hr hg hrr hs hk ht hmod ho' hs' hlr hu
    go_enter Try.func30, Try.ntmps30
    go_wp2
    go_region
    go_wp2
    refine wp_region_held_drew (S := fun W => W.cell? ⟨g, 0, none⟩ = some (.slice (some ⟨r, 0, none⟩) k k) ∧ W.cell? ⟨r, t, none⟩ = some (.int .u8 (o' : Int))) (by kernel_rfl) (⟨c0, ct⟩) (fun hHeld => ?_)
    refine wpAnyH_take (i := 0) (v := ?vb_0) rfl (by kernel_rfl) (by kernel_rfl) (by kernel_rfl) (fun _ _ _ h => h) (Or.inl ⟨by kernel_rfl, ?yb_0⟩) hHeld ?rb_0
    case yb_0 => (intro W hSW; have hS1 := hSW.1; have hS2 := hSW.2; clear hSW; go_simp; (try with_reducible rfl))
    change wpAnyH _ _ _ _ _ _ _ (Act.put _ (some 48) _) _
    simp only [Act.put, List.setIfInBounds_toArray, List.set_cons_zero, List.set_cons_succ]
    refine wpAnyH_take (i := 1) (v := ?vb_1) rfl (by kernel_rfl) (by kernel_rfl) (by kernel_rfl) (fun _ _ _ h => h) (Or.inl ⟨by kernel_rfl, ?yb_1⟩) hHeld ?rb_1
    case yb_1 => (intro W hSW; have hS1 := hSW.1; have hS2 := hSW.2; clear hSW; go_simp; (try with_reducible rfl))
    change wpAnyH _ _ _ _ _ _ _ (Act.put _ (some 49) _) _
    simp only [Act.put, List.setIfInBounds_toArray, List.set_cons_zero, List.set_cons_succ]
    refine wpAnyH_take (i := 2) (v := ?vb_2) rfl (by kernel_rfl) (by kernel_rfl) (by kernel_rfl) (fun _ _ _ h => h) (Or.inl ⟨by kernel_rfl, ?yb_2⟩) hHeld ?rb_2
    case yb_2 => (intro W hSW; have hS1 := hSW.1; have hS2 := hSW.2; clear hSW; go_simp; (try with_reducible rfl))
    change wpAnyH _ _ _ _ _ _ _ (Act.put _ (some 50) _) _
    simp only [Act.put, List.setIfInBounds_toArray, List.set_cons_zero, List.set_cons_succ]
    refine wpAnyH_take (i := 3) (v := ?vb_3) rfl (by kernel_rfl) (by kernel_rfl) (by kernel_rfl) (fun _ _ _ h => h) (Or.inl ⟨by kernel_rfl, ?yb_3⟩) hHeld ?rb_3
    case yb_3 => (intro W hSW; have hS1 := hSW.1; have hS2 := hSW.2; clear hSW; go_simp; (try with_reducible rfl))
    change wpAnyH _ _ _ _ _ _ _ (Act.put _ (some 51) _) _
    simp only [Act.put, List.setIfInBounds_toArray, List.set_cons_zero, List.set_cons_succ]
    refine wpAnyH_take (i := 5) (v := ?vb_5) rfl (by kernel_rfl) (by kernel_rfl) (by kernel_rfl) (fun _ _ _ h => h) (Or.inl ⟨by kernel_rfl, ?yb_5⟩) hHeld ?rb_5
    case yb_5 => (intro W hSW; have hS1 := hSW.1; have hS2 := hSW.2; clear hSW; go_simp; (try with_reducible rfl))
    change wpAnyH _ _ _ _ _ _ _ (Act.put _ (some 53) _) _
    simp only [Act.put, List.setIfInBounds_toArray, List.set_cons_zero, List.set_cons_succ]
    refine wpAnyH_take (i := 6) (v := ?vb_6) rfl (by kernel_rfl) (by kernel_rfl) (by kernel_rfl) (fun _ _ _ h => h) (Or.inl ⟨by kernel_rfl, ?yb_6⟩) hHeld ?rb_6
    case yb_6 => (intro W hSW; have hS1 := hSW.1; have hS2 := hSW.2; clear hSW; go_simp; (try with_reducible rfl))
    change wpAnyH _ _ _ _ _ _ _ (Act.put _ (some 54) _) _
    simp only [Act.put, List.setIfInBounds_toArray, List.set_cons_zero, List.set_cons_succ]
    refine wpAnyH_take (i := 7) (v := ?vb_7) rfl (by kernel_rfl) (by kernel_rfl) (by kernel_rfl) (fun _ _ _ h => h) (Or.inl ⟨by kernel_rfl, ?yb_7⟩) hHeld ?rb_7
    case yb_7 => (intro W hSW; have hS1 := hSW.1; have hS2 := hSW.2; clear hSW; go_simp; (try with_reducible rfl))
    change wpAnyH _ _ _ _ _ _ _ (Act.put _ (some 55) _) _
    simp only [Act.put, List.setIfInBounds_toArray, List.set_cons_zero, List.set_cons_succ]
    refine wpAnyH_take (i := 8) (v := ?vb_8) rfl (by kernel_rfl) (by kernel_rfl) (by kernel_rfl) (fun _ _ _ h => h) (Or.inl ⟨by kernel_rfl, ?yb_8⟩) hHeld ?rb_8
    case yb_8 => (intro W hSW; have hS1 := hSW.1; have hS2 := hSW.2; clear hSW; go_simp; (try with_reducible rfl))
    change wpAnyH _ _ _ _ _ _ _ (Act.put _ (some 56) _) _
    simp only [Act.put, List.setIfInBounds_toArray, List.set_cons_zero, List.set_cons_succ]
    refine wpAnyH_take (i := 9) (v := ?vb_9) rfl (by kernel_rfl) (by kernel_rfl) (by kernel_rfl) (fun _ _ _ h => h) (Or.inl ⟨by kernel_rfl, ?yb_9⟩) hHeld ?rb_9
    case yb_9 => (intro W hSW; have hS1 := hSW.1; have hS2 := hSW.2; clear hSW; go_simp; (try with_reducible rfl))
    change wpAnyH _ _ _ _ _ _ _ (Act.put _ (some 57) _) _
    simp only [Act.put, List.setIfInBounds_toArray, List.set_cons_zero, List.set_cons_succ]
    refine wpAnyH_take (i := 10) (v := ?vb_10) rfl (by kernel_rfl) (by kernel_rfl) (by kernel_rfl) (fun _ _ _ h => h) (Or.inl ⟨by kernel_rfl, ?yb_10⟩) hHeld ?rb_10
    case yb_10 => (intro W hSW; have hS1 := hSW.1; have hS2 := hSW.2; clear hSW; go_simp; (try with_reducible rfl))
    change wpAnyH _ _ _ _ _ _ _ (Act.put _ (some 58) _) _
    simp only [Act.put, List.setIfInBounds_toArray, List.set_cons_zero, List.set_cons_succ]
    refine wpAnyH_take (i := 11) (v := ?vb_11) rfl (by kernel_rfl) (by kernel_rfl) (by kernel_rfl) (fun _ _ _ h => h) (Or.inl ⟨by kernel_rfl, ?yb_11⟩) hHeld ?rb_11
    case yb_11 => (intro W hSW; have hS1 := hSW.1; have hS2 := hSW.2; clear hSW; go_simp; (try with_reducible rfl))
    change wpAnyH _ _ _ _ _ _ _ (Act.put _ (some 59) _) _
    simp only [Act.put, List.setIfInBounds_toArray, List.set_cons_zero, List.set_cons_succ]
    refine wpAnyH_take (i := 12) (v := ?vb_12) rfl (by kernel_rfl) (by kernel_rfl) (by kernel_rfl) (fun _ _ _ h => h) (Or.inl ⟨by kernel_rfl, ?yb_12⟩) hHeld ?rb_12
    case yb_12 => (intro W hSW; have hS1 := hSW.1; have hS2 := hSW.2; clear hSW; go_simp; (try with_reducible rfl))
    change wpAnyH _ _ _ _ _ _ _ (Act.put _ (some 60) _) _
    simp only [Act.put, List.setIfInBounds_toArray, List.set_cons_zero, List.set_cons_succ]
    refine wpAnyH_take (i := 13) (v := ?vb_13) rfl (by kernel_rfl) (by kernel_rfl) (by kernel_rfl) (fun _ _ _ h => h) (Or.inl ⟨by kernel_rfl, ?yb_13⟩) hHeld ?rb_13
    case yb_13 => (intro W hSW; have hS1 := hSW.1; have hS2 := hSW.2; clear hSW; go_simp; (try with_reducible rfl))
    change wpAnyH _ _ _ _ _ _ _ (Act.put _ (some 61) _) _
    simp only [Act.put, List.setIfInBounds_toArray, List.set_cons_zero, List.set_cons_succ]
    refine wpAnyH_ready (rs := [4]) (by kernel_rfl) (by simp) ?_
    refine AllReadyH.cons rfl (fun K hK => ?_) AllReadyH.nil
    go_simp
    refine hK.out _ _ (⟨c0, ct⟩) (fun hHeld => ?_)
    clear hK K
    refine wpAnyH_ready (rs := [14]) (by kernel_rfl) (by simp) ?_
    refine AllReadyH.cons rfl (fun K hK => ?_) AllReadyH.nil
    go_simp
    refine (HNX.out _).mono ?_
    rintro e w1 ⟨rfl, h⟩; subst w1
    refine hK.out _ _ (⟨c0, ct⟩) (fun hHeld => ?_)
    clear hK K
    try simp only [Act.put, List.setIfInBounds_toArray, List.set_cons_zero, List.set_cons_succ]
    refine wpAnyH_take (i := 15) (v := ?vb_15) rfl (by kernel_rfl) (by kernel_rfl) (by kernel_rfl) (fun _ _ _ h => h) (Or.inl ⟨by kernel_rfl, ?yb_15⟩) hHeld ?rb_15
    case yb_15 => (intro W hSW; have hS1 := hSW.1; have hS2 := hSW.2; clear hSW; go_simp; (try with_reducible rfl))
    change wpAnyH _ _ _ _ _ _ _ (Act.put _ (some 63) _) _
    simp only [Act.put, List.setIfInBounds_toArray, List.set_cons_zero, List.set_cons_succ]
    refine wpAnyH_take (i := 16) (v := ?vb_16) rfl (by kernel_rfl) (by kernel_rfl) (by kernel_rfl) (fun _ _ _ h => h) (Or.inl ⟨by kernel_rfl, ?yb_16⟩) hHeld ?rb_16
    case yb_16 => (intro W hSW; have hS1 := hSW.1; have hS2 := hSW.2; clear hSW; go_simp; (try with_reducible rfl))
    change wpAnyH _ _ _ _ _ _ _ (Act.put _ (some 64) _) _
    simp only [Act.put, List.setIfInBounds_toArray, List.set_cons_zero, List.set_cons_succ]
    refine wpAnyH_ready (rs := [17]) (by kernel_rfl) (by simp) ?_
    refine AllReadyH.cons rfl (fun K hK => ?_) AllReadyH.nil
    go_simp
    refine hK.out _ _ (HS17.out) (fun hHeld => ?_)
    clear hK K
    refine wpAnyH_done (by kernel_rfl) ?_ _
    go_wp2
    refine bodyPost_end (v := .tuple #[]) ?_ rfl ⟨rfl, HW.out, HBW.out⟩
    simp [results, go_sem]
end Go.Proofs.Ytebmmhgmbnbnnaa
