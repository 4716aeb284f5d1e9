/- The document's Fail and Flush. -/
import Derived.Test.YtaacedaehbaodaaGreatU
namespace Go.Proofs.YtaacedaehbaodaaGreat
open Go.RowKit Go.Shelf
theorem rcells_settled (H lc : Nat) (p : Nat → Bool) (D : Dk) : rcells H lc none 0 (D.settled p) = #[.slice (some ⟨H, 0, none⟩) D.kept.length lc, .slice none 0 0, .int .i64 (D.fuse : Int), .int .i64 (D.writes : Int), .bool (!D.up)] := by
  simp [rcells, Dk.settled, upTo_len]
theorem rcells_failed (H lc : Nat) (p : Nat → Bool) (D : Dk) : rcells H lc none 0 (D.failed p) = #[.slice (some ⟨H, 0, none⟩) D.kept.length lc, .slice none 0 0, .int .i64 0, .int .i64 (D.writes : Int), .bool true] := by
  simp [rcells, Dk.failed, Dk.settled, upTo_len]
set_option maxRecDepth 100000 in
set_option maxHeartbeats 4000000 in
theorem afail_any {w : World} {lb lc : Nat} {wa : Option Addr} {wc : Nat} {D : Dk} (h : RefAt w lb lc wa wc D)  :
    Calls Tryz.prog 17 #[.agg #[.slice (some ⟨lb, 0, none⟩) D.kept.length lc, .slice wa D.waits.length wc, .int .i64 (D.fuse : Int), .int .i64 (D.writes : Int), .bool (!D.up)], .slice none 0 0, .bool true] w fun e w' => ∃ lb' lc', e = .returned (.agg (rcells lb' lc' none 0 (D.settled (fun _ => true)))) ∧ w.heap.size ≤ lb' ∧ RefAt w' lb' lc' none 0 (D.settled (fun _ => true)) ∧ Below w.heap.size w w' := by
  obtain ⟨i0, hi, hz0, hz1, hz2⟩ := info_parts info9
  obtain ⟨dn, hdn⟩ : ∃ dn, (!D.up) = dn := ⟨_, rfl⟩
  have HH : Hid (RefAt w lb lc wa wc D) := h
  have hn1 := h.ok.n1
  have hn2 := h.ok.n2
  have hN6 : D.waits.length ≤ 1000000 := by have := h.ok.ww; have := h.ok.wr; omega

  obtain ⟨N, hN⟩ : ∃ N, D.waits.length = N := ⟨_, rfl⟩
  obtain ⟨n, hn⟩ : ∃ n, D.kept.length = n := ⟨_, rfl⟩
  obtain ⟨b, hb⟩ : ∃ b, w.heap.size = b := ⟨_, rfl⟩
  obtain ⟨W1, hW1⟩ : ∃ W, w.alloc (.cells #[.slice (some ⟨lb, 0, none⟩) n lc, .slice wa N wc, .int .i64 (D.fuse : Int), .int .i64 (D.writes : Int), .bool dn] 32) = W := ⟨_, rfl⟩
  obtain ⟨r, hr⟩ : ∃ r, W1.heap.size = r := ⟨_, rfl⟩
  obtain ⟨W2, hW2⟩ : ∃ W, W1.alloc (.cells #[.slice none 0 0, .slice none 0 0, .int .i64 0, .int .i64 0, .bool false] 32) = W := ⟨_, rfl⟩
  obtain ⟨H, hH⟩ : ∃ H, W2.heap.size = H := ⟨_, rfl⟩
  have hb1 : Below w.heap.size w W1 := by rw [← hW1]; exact (Below.refl _ w).alloc (Nat.le_refl _) _
  have hb2 : Below W1.heap.size W1 W2 := by rw [← hW2]; exact (Below.refl _ W1).alloc (Nat.le_refl _) _
  have hrb1 : W1.heap[b]? = some (.cells #[.slice (some ⟨lb, 0, none⟩) n lc, .slice wa N wc, .int .i64 (D.fuse : Int), .int .i64 (D.writes : Int), .bool dn] 32 (0, 0)) := by rw [← hW1, ← hb]; exact heap_alloc_new w _
  have hbr : b < r := by rw [← hr]; exact lt_of_some hrb1
  have hrb2 : W2.heap[b]? = some (.cells #[.slice (some ⟨lb, 0, none⟩) n lc, .slice wa N wc, .int .i64 (D.fuse : Int), .int .i64 (D.writes : Int), .bool dn] 32 (0, 0)) := (hb2.block b (by omega)).trans hrb1
  have hrr2 : W2.heap[r]? = some (.cells #[.slice none 0 0, .slice none 0 0, .int .i64 0, .int .i64 0, .bool false] 32 (0, 0)) := by rw [← hW2, ← hr]; exact heap_alloc_new W1 _
  have hrH : r < H := by rw [← hH]; exact lt_of_some hrr2
  have hbw2 : Below w.heap.size w W2 := hb1.trans (hb2.mono hb1.size)
  have HBw2 : Hid (Below w.heap.size w W2) := hbw2
  have c0 : W2.cell? ⟨b, 0, none⟩ = some (.slice (some ⟨lb, 0, none⟩) n lc) := by rw [cell_of_row _ b _ _ _ _ hrb2]; rfl
  have HRB : Hid (∀ V, Below H W2 V → V.heap[b]? = some (.cells #[.slice (some ⟨lb, 0, none⟩) n lc, .slice wa N wc, .int .i64 (D.fuse : Int), .int .i64 (D.writes : Int), .bool dn] 32 (0, 0)) ∧ V.heap[r]? = some (.cells #[.slice none 0 0, .slice none 0 0, .int .i64 0, .int .i64 0, .bool false] 32 (0, 0)) ∧ Below w.heap.size w V) := fun V hV => ⟨(hV.block b (by omega)).trans hrb2, (hV.block r (by omega)).trans hrr2, HBw2.out.trans (hV.mono (by rw [← hH]; exact hbw2.size))⟩
  have hl2 := (h.below hbw2).l
  rw [hn] at hl2 hn1 hn2
  have HL2 : Hid (W2.ownsRow 0 9 1 (.slice (some ⟨lb, 0, none⟩) n lc) n (strsV D.kept)) := hl2
  rw [hN] at hN6
  rw [hn, hN, hdn]
  clear h hb1 hb2 hrb1 hrb2 hrr2 hbw2 hl2 
  go_enter Tryz.func17, Tryz.ntmps17
  go_wp2_with (at_builtin; refine wpList_append_lies _ rfl _ _ 29 rfl 0 9 i0 (.string ByteArray.empty) 1 16 Tryz.underlying29 hi hz0 hz1 hz2 rfl (by decide) _ 0 [] rfl (World.ownsRow_nil _ _ _ _) ⟨lb, 0, none⟩ n lc (strsV D.kept) rfl (by rw [strsV_len, hn]; omega) (fun j u hu => by rw [add_at, Nat.zero_add]; exact own_at HL2.out hu) (strsV_one _) (by omega) (by unfold maxLen; omega) (by omega) (Nat.zero_le _) H hH ?_)
  intro lb' lc' w3 hown hgrow hg hlt
  obtain rfl : H = lb' := by
    rcases hg with hg | hg
    · simp [Value.ownBlock] at hg
    · exact hg.symm
  try simp only [Nat.zero_add, List.nil_append] at hown
  have HOr0 : Hid (w3.ownsRow 0 9 1 (.slice (some ⟨H, 0, none⟩) n lc') n (strsV (upTo D.kept (fun _ => true) D.waits 0))) := hown
  have HBr0 : Hid (Below H W2 w3) := by
    show Below H W2 w3
    rw [← hH]
    exact (Below.refl _ W2).grown hgrow (Nat.le_refl _) (by intro k hk; simp [Value.ownBlock] at hk)
  clear hown hgrow hg hlt c0 hW1 hW2 hr hH
  go_wp2
  go_loopw [8] (fun v wr => ∃ i : Nat, i ≤ N ∧ v = .int .i64 i ∧ wr.ownsRow 0 9 1 (.slice (some ⟨H, 0, none⟩) n lc') n (strsV (upTo D.kept (fun _ => true) D.waits i)) ∧ Below H W2 wr) (fun v _ => N - (intOf v).toNat)
  case atStart => exact ⟨0, by omega, rfl, HOr0.out, HBr0.out⟩
  case round =>
    clear HOr0 HBr0
    obtain ⟨i, hiN, rfl, hOr, hBr⟩ := hrel
    have HOr : Hid (wr.ownsRow 0 9 1 (.slice (some ⟨H, 0, none⟩) n lc') n (strsV (upTo D.kept (fun _ => true) D.waits i))) := hOr
    have HBr : Hid (Below H W2 wr) := hBr
    obtain ⟨rb, rr, hBw⟩ := HRB.out wr hBr
    have HBw : Hid (Below w.heap.size w wr) := hBw
    have e1 : wr.cell? ⟨b, 1, none⟩ = some (.slice wa N wc) := by rw [cell_of_row _ b _ _ _ _ rb]; rfl
    clear hOr hBr hBw
    by_cases hlt : i < N
    · have kiN : (i : Int) < (N : Int) := by omega
      obtain ⟨⟨qa, qt⟩, hq⟩ : ∃ q, D.waits[i]? = some q := ⟨_, List.getElem?_eq_getElem (by omega)⟩
      have hqn : qa < n := by rw [← hn]; exact HH.out.ok.at_ (qa, qt) (List.mem_of_getElem? hq)
      obtain ⟨wb, rfl, hwl, hwc⟩ := HH.out.wat (by omega)
      obtain ⟨ca, cb⟩ := hwc i _ hq
      rw [← HBw.out.cell hwl] at ca cb
      have kqn : (qa : Int) < (n : Int) := by omega
      have HQ : Hid (D.waits[i]? = some (qa, qt)) := hq
      have hHb : H ≠ b := by omega
      have hHw : H ≠ wb := by omega
      clear hwc hq rb rr
      · skip
        have hpi : (fun _ => true) i = true := rfl
        have HN : Hid ((wr.drew.setCell ⟨H, qa, none⟩ (.string qt)).ownsRow 0 9 1 (.slice (some ⟨H, 0, none⟩) n lc') n (strsV (upTo D.kept (fun _ => true) D.waits (i + 1))) ∧ Below H W2 (wr.drew.setCell ⟨H, qa, none⟩ (.string qt))) := by
          refine ⟨?_, HBr.out.drew.setCell (Nat.le_refl _) _⟩
          rw [upTo_pick HQ.out hpi, ← strsV_set]
          exact own_put HOr.out _ _
        have fH : wr.drew.frozen? ⟨H, qa, none⟩ = false := own_fro HOr.out qa
        obtain ⟨old, cH⟩ : ∃ old, wr.drew.cell? ⟨H, qa, none⟩ = some (.string old) := ⟨_, own_str HOr.out qa (by omega)⟩
        clear HOr hpi
        go_wp2
        refine wp_region_held_drew (S := fun V => V.cell? ⟨b, 1, none⟩ = some (.slice (some ⟨wb, 0, none⟩) N wc) ∧ V.cell? ⟨wb, i * 2, none⟩ = some (.int .i64 (qa : Int)) ∧ V.cell? ⟨wb, i * 2 + 1, none⟩ = some (.string qt)) (by kernel_rfl) (⟨e1, ca, cb⟩) (fun hHeld => ?_)
        refine wpAnyH_take (i := 0) (v := ?vap0) rfl (by kernel_rfl) (by kernel_rfl) (by kernel_rfl) (fun _ _ _ h => h) (Or.inl ⟨by first | kernel_rfl | rfl, ?yap0⟩) hHeld ?rap0
        case yap0 => (intro W hSW; (try dsimp only at hSW); go_simp; (try with_reducible rfl))
        change wpAnyH _ _ _ _ _ _ _ (Act.put _ (some 33) _) _
        simp only [Act.put, List.setIfInBounds_toArray, List.set_cons_zero, List.set_cons_succ]
        refine wpAnyH_take (i := 1) (v := ?vap1) rfl (by kernel_rfl) (by kernel_rfl) (by kernel_rfl) (fun _ _ _ h => h) (Or.inl ⟨by first | kernel_rfl | rfl, ?yap1⟩) hHeld ?rap1
        case yap1 => (intro W hSW; (try dsimp only at hSW); go_simp; (try with_reducible rfl))
        change wpAnyH _ _ _ _ _ _ _ (Act.put _ (some 34) _) _
        simp only [Act.put, List.setIfInBounds_toArray, List.set_cons_zero, List.set_cons_succ]
        refine wpAnyH_take (i := 2) (v := ?vap2) rfl (by kernel_rfl) (by kernel_rfl) (by kernel_rfl) (fun _ _ _ h => h) (Or.inl ⟨by first | kernel_rfl | rfl, ?yap2⟩) hHeld ?rap2
        case yap2 => (intro W hSW; (try dsimp only at hSW); go_simp; (try with_reducible rfl))
        change wpAnyH _ _ _ _ _ _ _ (Act.put _ (some 35) _) _
        simp only [Act.put, List.setIfInBounds_toArray, List.set_cons_zero, List.set_cons_succ]
        refine wpAnyH_take (i := 3) (v := ?vap3) rfl (by kernel_rfl) (by kernel_rfl) (by kernel_rfl) (fun _ _ _ h => h) (Or.inl ⟨by first | kernel_rfl | rfl, ?yap3⟩) hHeld ?rap3
        case yap3 => (intro W hSW; (try dsimp only at hSW); go_simp; (try with_reducible rfl))
        change wpAnyH _ _ _ _ _ _ _ (Act.put _ (some 36) _) _
        simp only [Act.put, List.setIfInBounds_toArray, List.set_cons_zero, List.set_cons_succ]
        refine wpAnyH_take (i := 4) (v := ?vap4) rfl (by kernel_rfl) (by kernel_rfl) (by kernel_rfl) (fun _ _ _ h => h) (Or.inl ⟨by first | kernel_rfl | rfl, ?yap4⟩) hHeld ?rap4
        case yap4 => (intro W hSW; (try dsimp only at hSW); go_simp; (try with_reducible rfl))
        change wpAnyH _ _ _ _ _ _ _ (Act.put _ (some 37) _) _
        simp only [Act.put, List.setIfInBounds_toArray, List.set_cons_zero, List.set_cons_succ]
        refine wpAnyH_take (i := 5) (v := ?vap5) rfl (by kernel_rfl) (by kernel_rfl) (by kernel_rfl) (fun _ _ _ h => h) (Or.inl ⟨by first | kernel_rfl | rfl, ?yap5⟩) hHeld ?rap5
        case yap5 => (intro W hSW; (try dsimp only at hSW); go_simp; (try with_reducible rfl))
        change wpAnyH _ _ _ _ _ _ _ (Act.put _ (some 38) _) _
        simp only [Act.put, List.setIfInBounds_toArray, List.set_cons_zero, List.set_cons_succ]
        refine wpAnyH_take (i := 6) (v := ?vap6) rfl (by kernel_rfl) (by kernel_rfl) (by kernel_rfl) (fun _ _ _ h => h) (Or.inl ⟨by first | kernel_rfl | rfl, ?yap6⟩) hHeld ?rap6
        case yap6 => (intro W hSW; (try dsimp only at hSW); go_simp; (try with_reducible rfl))
        change wpAnyH _ _ _ _ _ _ _ (Act.put _ (some 39) _) _
        simp only [Act.put, List.setIfInBounds_toArray, List.set_cons_zero, List.set_cons_succ]
        refine wpAnyH_take (i := 7) (v := ?vap7) rfl (by kernel_rfl) (by kernel_rfl) (by kernel_rfl) (fun _ _ _ h => h) (Or.inl ⟨by first | kernel_rfl | rfl, ?yap7⟩) hHeld ?rap7
        case yap7 => (intro W hSW; (try dsimp only at hSW); go_simp; (try with_reducible rfl))
        change wpAnyH _ _ _ _ _ _ _ (Act.put _ (some 40) _) _
        simp only [Act.put, List.setIfInBounds_toArray, List.set_cons_zero, List.set_cons_succ]
        refine wpAnyH_take (i := 8) (v := ?vap8) rfl (by kernel_rfl) (by kernel_rfl) (by kernel_rfl) (fun _ _ _ h => h) (Or.inl ⟨by first | kernel_rfl | rfl, ?yap8⟩) hHeld ?rap8
        case yap8 => (intro W hSW; (try dsimp only at hSW); go_simp; (try with_reducible rfl))
        change wpAnyH _ _ _ _ _ _ _ (Act.put _ (some 41) _) _
        simp only [Act.put, List.setIfInBounds_toArray, List.set_cons_zero, List.set_cons_succ]
        refine wpAnyH_take (i := 9) (v := ?vap9) rfl (by kernel_rfl) (by kernel_rfl) (by kernel_rfl) (fun _ _ _ h => h) (Or.inl ⟨by first | kernel_rfl | rfl, ?yap9⟩) hHeld ?rap9
        case yap9 => (intro W hSW; (try dsimp only at hSW); go_simp; (try with_reducible rfl))
        change wpAnyH _ _ _ _ _ _ _ (Act.put _ (some 42) _) _
        simp only [Act.put, List.setIfInBounds_toArray, List.set_cons_zero, List.set_cons_succ]
        refine wpAnyH_take (i := 10) (v := ?vap10) rfl (by kernel_rfl) (by kernel_rfl) (by kernel_rfl) (fun _ _ _ h => h) (Or.inl ⟨by first | kernel_rfl | rfl, ?yap10⟩) hHeld ?rap10
        case yap10 => (intro W hSW; (try dsimp only at hSW); go_simp; (try with_reducible rfl))
        change wpAnyH _ _ _ _ _ _ _ (Act.put _ (some 43) _) _
        simp only [Act.put, List.setIfInBounds_toArray, List.set_cons_zero, List.set_cons_succ]
        refine wpAnyH_take (i := 11) (v := ?vap11) rfl (by kernel_rfl) (by kernel_rfl) (by kernel_rfl) (fun _ _ _ h => h) (Or.inl ⟨by first | kernel_rfl | rfl, ?yap11⟩) hHeld ?rap11
        case yap11 => (intro W hSW; (try dsimp only at hSW); go_simp; (try with_reducible rfl))
        change wpAnyH _ _ _ _ _ _ _ (Act.put _ (some 44) _) _
        simp only [Act.put, List.setIfInBounds_toArray, List.set_cons_zero, List.set_cons_succ]
        refine wpAnyH_take (i := 12) (v := ?vap12) rfl (by kernel_rfl) (by kernel_rfl) (by kernel_rfl) (fun _ _ _ h => h) (Or.inl ⟨by first | kernel_rfl | rfl, ?yap12⟩) hHeld ?rap12
        case yap12 => (intro W hSW; (try dsimp only at hSW); go_simp; (try with_reducible rfl))
        change wpAnyH _ _ _ _ _ _ _ (Act.put _ (some 45) _) _
        simp only [Act.put, List.setIfInBounds_toArray, List.set_cons_zero, List.set_cons_succ]
        refine wpAnyH_take (i := 13) (v := ?vap13) rfl (by kernel_rfl) (by kernel_rfl) (by kernel_rfl) (fun _ _ _ h => h) (Or.inl ⟨by first | kernel_rfl | rfl, ?yap13⟩) hHeld ?rap13
        case yap13 => (intro W hSW; (try dsimp only at hSW); go_simp; (try with_reducible rfl))
        change wpAnyH _ _ _ _ _ _ _ (Act.put _ (some 46) _) _
        simp only [Act.put, List.setIfInBounds_toArray, List.set_cons_zero, List.set_cons_succ]
        refine wpAnyH_ready (rs := [14]) (by kernel_rfl) (by simp) ?_
        refine AllReadyH.cons rfl (fun K hK => ?_) AllReadyH.nil
        go_simp
        refine hK.out _ _ (⟨by show (wr.setCell ⟨H, qa, none⟩ (.string qt)).cell? _ = _; rw [World.cell?_setCell_far _ _ _ _ hHb]; exact e1, by show (wr.setCell ⟨H, qa, none⟩ (.string qt)).cell? _ = _; rw [World.cell?_setCell_far _ _ _ _ hHw]; exact ca, by show (wr.setCell ⟨H, qa, none⟩ (.string qt)).cell? _ = _; rw [World.cell?_setCell_far _ _ _ _ hHw]; exact cb⟩) (fun hHeld => ?_)
        clear hK K
        refine wpAnyH_done (by kernel_rfl) ?_ _
        clear hHeld cH fH
        go_wp2
        exact ⟨⟨i + 1, by omega, by go_num, HN.out⟩, by simp [intOf]; omega⟩
    · obtain rfl : i = N := by omega
      have kiN : ¬ (i : Int) < (i : Int) := by omega
      have e0 : wr.cell? ⟨b, 0, none⟩ = some (.slice (some ⟨lb, 0, none⟩) n lc) := by rw [cell_of_row _ b _ _ _ _ rb]; rfl
      have e2 : wr.cell? ⟨b, 2, none⟩ = some (.int .i64 (D.fuse : Int)) := by rw [cell_of_row _ b _ _ _ _ rb]; rfl
      have e3 : wr.cell? ⟨b, 3, none⟩ = some (.int .i64 (D.writes : Int)) := by rw [cell_of_row _ b _ _ _ _ rb]; rfl
      have e4 : wr.cell? ⟨b, 4, none⟩ = some (.bool dn) := by rw [cell_of_row _ b _ _ _ _ rb]; rfl
      have fb : ∀ k, wr.frozen? ⟨b, k, none⟩ = false := fun k => frozen_of_row wr b k _ _ rb
      have z0 : wr.cell? ⟨r, 0, none⟩ = some (.slice none 0 0) := by rw [cell_of_row _ r _ _ _ _ rr]; rfl
      have z1 : wr.cell? ⟨r, 1, none⟩ = some (.slice none 0 0) := by rw [cell_of_row _ r _ _ _ _ rr]; rfl
      have z2 : wr.cell? ⟨r, 2, none⟩ = some (.int .i64 0) := by rw [cell_of_row _ r _ _ _ _ rr]; rfl
      have z3 : wr.cell? ⟨r, 3, none⟩ = some (.int .i64 0) := by rw [cell_of_row _ r _ _ _ _ rr]; rfl
      have z4 : wr.cell? ⟨r, 4, none⟩ = some (.bool false) := by rw [cell_of_row _ r _ _ _ _ rr]; rfl
      have fr : ∀ k, wr.frozen? ⟨r, k, none⟩ = false := fun k => frozen_of_row wr r k _ _ rr
      have nbr : ¬ b = r := by omega
      have nrb : ¬ r = b := by omega
      go_wp2
      refine bodyPost_ret (v := .agg #[.slice (some ⟨H, 0, none⟩) n lc', .slice none 0 0, .int .i64 (D.fuse : Int), .int .i64 (D.writes : Int), .bool dn]) ?_ rfl ⟨H, lc', ?_, by omega, ⟨?_, ?_, World.ownsRow_nil _ _ _ _, fun _ => ⟨rfl, rfl⟩⟩, ?_⟩
      · simp [results, go_sem, z0, z1, z2, z3, z4]
      · rw [rcells_settled, hn, hdn]
      · exact HH.out.ok.settled (fun _ => true)
      · have hkl : ((D.settled (fun _ => true))).kept.length = n := by
          show (upTo _ _ _ _).length = n
          rw [upTo_len, hn]
        have hke : ((D.settled (fun _ => true))).kept = upTo D.kept (fun _ => true) D.waits i := by
          show upTo _ _ _ D.waits.length = _
          rw [hN]
        rw [hkl, hke]
        refine own_keep HOr.out (fun x hx => ?_)
        rw [ob_slice] at hx
        cases hx
        have n1 : H ≠ b := by omega
        have n2 : H ≠ r := by omega
        rw [heap_setCell_other _ _ _ _ n2, heap_setCell_other _ _ _ _ n2, heap_setCell_other _ _ _ _ n2, heap_setCell_other _ _ _ _ n2, heap_setCell_other _ _ _ _ n2, heap_setCell_other _ _ _ _ n1, heap_setCell_other _ _ _ _ n1]
      · have hbb := HBw.out
        rw [hb] at hbb
        have hrb : b ≤ r := by omega
        exact (((((((hbb.setCell (p := ⟨b, _, none⟩) (Nat.le_refl _) _).setCell (p := ⟨b, _, none⟩) (Nat.le_refl _) _).setCell (p := ⟨r, _, none⟩) hrb _).setCell (p := ⟨r, _, none⟩) hrb _).setCell (p := ⟨r, _, none⟩) hrb _).setCell (p := ⟨r, _, none⟩) hrb _).setCell (p := ⟨r, _, none⟩) hrb _)
set_option maxRecDepth 100000 in
set_option maxHeartbeats 4000000 in
theorem rfail_any {w : World} {lb lc : Nat} {wa : Option Addr} {wc : Nat} {D : Dk} (h : RefAt w lb lc wa wc D) (a : Option Addr) (len cap : Nat) (bs : List Bool) (hbs : Bls w a len cap bs) :
    Calls Tryz.prog 17 #[.agg #[.slice (some ⟨lb, 0, none⟩) D.kept.length lc, .slice wa D.waits.length wc, .int .i64 (D.fuse : Int), .int .i64 (D.writes : Int), .bool (!D.up)], .slice a len cap, .bool false] w fun e w' => ∃ lb' lc', e = .returned (.agg (rcells lb' lc' none 0 (D.failed (pickOf bs)))) ∧ w.heap.size ≤ lb' ∧ RefAt w' lb' lc' none 0 (D.failed (pickOf bs)) ∧ Below w.heap.size w w' := by
  obtain ⟨i0, hi, hz0, hz1, hz2⟩ := info_parts info9
  obtain ⟨dn, hdn⟩ : ∃ dn, (!D.up) = dn := ⟨_, rfl⟩
  have HH : Hid (RefAt w lb lc wa wc D) := h
  have hn1 := h.ok.n1
  have hn2 := h.ok.n2
  have hN6 : D.waits.length ≤ 1000000 := by have := h.ok.ww; have := h.ok.wr; omega
  have HBS : Hid (Bls w a len cap bs) := hbs
  obtain ⟨N, hN⟩ : ∃ N, D.waits.length = N := ⟨_, rfl⟩
  obtain ⟨n, hn⟩ : ∃ n, D.kept.length = n := ⟨_, rfl⟩
  obtain ⟨b, hb⟩ : ∃ b, w.heap.size = b := ⟨_, rfl⟩
  obtain ⟨W1, hW1⟩ : ∃ W, w.alloc (.cells #[.slice (some ⟨lb, 0, none⟩) n lc, .slice wa N wc, .int .i64 (D.fuse : Int), .int .i64 (D.writes : Int), .bool dn] 32) = W := ⟨_, rfl⟩
  obtain ⟨r, hr⟩ : ∃ r, W1.heap.size = r := ⟨_, rfl⟩
  obtain ⟨W2, hW2⟩ : ∃ W, W1.alloc (.cells #[.slice none 0 0, .slice none 0 0, .int .i64 0, .int .i64 0, .bool false] 32) = W := ⟨_, rfl⟩
  obtain ⟨H, hH⟩ : ∃ H, W2.heap.size = H := ⟨_, rfl⟩
  have hb1 : Below w.heap.size w W1 := by rw [← hW1]; exact (Below.refl _ w).alloc (Nat.le_refl _) _
  have hb2 : Below W1.heap.size W1 W2 := by rw [← hW2]; exact (Below.refl _ W1).alloc (Nat.le_refl _) _
  have hrb1 : W1.heap[b]? = some (.cells #[.slice (some ⟨lb, 0, none⟩) n lc, .slice wa N wc, .int .i64 (D.fuse : Int), .int .i64 (D.writes : Int), .bool dn] 32 (0, 0)) := by rw [← hW1, ← hb]; exact heap_alloc_new w _
  have hbr : b < r := by rw [← hr]; exact lt_of_some hrb1
  have hrb2 : W2.heap[b]? = some (.cells #[.slice (some ⟨lb, 0, none⟩) n lc, .slice wa N wc, .int .i64 (D.fuse : Int), .int .i64 (D.writes : Int), .bool dn] 32 (0, 0)) := (hb2.block b (by omega)).trans hrb1
  have hrr2 : W2.heap[r]? = some (.cells #[.slice none 0 0, .slice none 0 0, .int .i64 0, .int .i64 0, .bool false] 32 (0, 0)) := by rw [← hW2, ← hr]; exact heap_alloc_new W1 _
  have hrH : r < H := by rw [← hH]; exact lt_of_some hrr2
  have hbw2 : Below w.heap.size w W2 := hb1.trans (hb2.mono hb1.size)
  have HBw2 : Hid (Below w.heap.size w W2) := hbw2
  have c0 : W2.cell? ⟨b, 0, none⟩ = some (.slice (some ⟨lb, 0, none⟩) n lc) := by rw [cell_of_row _ b _ _ _ _ hrb2]; rfl
  have HRB : Hid (∀ V, Below H W2 V → V.heap[b]? = some (.cells #[.slice (some ⟨lb, 0, none⟩) n lc, .slice wa N wc, .int .i64 (D.fuse : Int), .int .i64 (D.writes : Int), .bool dn] 32 (0, 0)) ∧ V.heap[r]? = some (.cells #[.slice none 0 0, .slice none 0 0, .int .i64 0, .int .i64 0, .bool false] 32 (0, 0)) ∧ Below w.heap.size w V) := fun V hV => ⟨(hV.block b (by omega)).trans hrb2, (hV.block r (by omega)).trans hrr2, HBw2.out.trans (hV.mono (by rw [← hH]; exact hbw2.size))⟩
  have hl2 := (h.below hbw2).l
  rw [hn] at hl2 hn1 hn2
  have HL2 : Hid (W2.ownsRow 0 9 1 (.slice (some ⟨lb, 0, none⟩) n lc) n (strsV D.kept)) := hl2
  rw [hN] at hN6
  rw [hn, hN, hdn]
  clear h hb1 hb2 hrb1 hrb2 hrr2 hbw2 hl2 hbs
  go_enter Tryz.func17, Tryz.ntmps17
  go_wp2_with (at_builtin; refine wpList_append_lies _ rfl _ _ 29 rfl 0 9 i0 (.string ByteArray.empty) 1 16 Tryz.underlying29 hi hz0 hz1 hz2 rfl (by decide) _ 0 [] rfl (World.ownsRow_nil _ _ _ _) ⟨lb, 0, none⟩ n lc (strsV D.kept) rfl (by rw [strsV_len, hn]; omega) (fun j u hu => by rw [add_at, Nat.zero_add]; exact own_at HL2.out hu) (strsV_one _) (by omega) (by unfold maxLen; omega) (by omega) (Nat.zero_le _) H hH ?_)
  intro lb' lc' w3 hown hgrow hg hlt
  obtain rfl : H = lb' := by
    rcases hg with hg | hg
    · simp [Value.ownBlock] at hg
    · exact hg.symm
  try simp only [Nat.zero_add, List.nil_append] at hown
  have HOr0 : Hid (w3.ownsRow 0 9 1 (.slice (some ⟨H, 0, none⟩) n lc') n (strsV (upTo D.kept (pickOf bs) D.waits 0))) := hown
  have HBr0 : Hid (Below H W2 w3) := by
    show Below H W2 w3
    rw [← hH]
    exact (Below.refl _ W2).grown hgrow (Nat.le_refl _) (by intro k hk; simp [Value.ownBlock] at hk)
  clear hown hgrow hg hlt c0 hW1 hW2 hr hH
  go_wp2
  go_loopw [8] (fun v wr => ∃ i : Nat, i ≤ N ∧ v = .int .i64 i ∧ wr.ownsRow 0 9 1 (.slice (some ⟨H, 0, none⟩) n lc') n (strsV (upTo D.kept (pickOf bs) D.waits i)) ∧ Below H W2 wr) (fun v _ => N - (intOf v).toNat)
  case atStart => exact ⟨0, by omega, rfl, HOr0.out, HBr0.out⟩
  case round =>
    clear HOr0 HBr0
    obtain ⟨i, hiN, rfl, hOr, hBr⟩ := hrel
    have HOr : Hid (wr.ownsRow 0 9 1 (.slice (some ⟨H, 0, none⟩) n lc') n (strsV (upTo D.kept (pickOf bs) D.waits i))) := hOr
    have HBr : Hid (Below H W2 wr) := hBr
    obtain ⟨rb, rr, hBw⟩ := HRB.out wr hBr
    have HBw : Hid (Below w.heap.size w wr) := hBw
    have e1 : wr.cell? ⟨b, 1, none⟩ = some (.slice wa N wc) := by rw [cell_of_row _ b _ _ _ _ rb]; rfl
    clear hOr hBr hBw
    by_cases hlt : i < N
    · have kiN : (i : Int) < (N : Int) := by omega
      obtain ⟨⟨qa, qt⟩, hq⟩ : ∃ q, D.waits[i]? = some q := ⟨_, List.getElem?_eq_getElem (by omega)⟩
      have hqn : qa < n := by rw [← hn]; exact HH.out.ok.at_ (qa, qt) (List.mem_of_getElem? hq)
      obtain ⟨wb, rfl, hwl, hwc⟩ := HH.out.wat (by omega)
      obtain ⟨ca, cb⟩ := hwc i _ hq
      rw [← HBw.out.cell hwl] at ca cb
      have kqn : (qa : Int) < (n : Int) := by omega
      have HQ : Hid (D.waits[i]? = some (qa, qt)) := hq
      have hHb : H ≠ b := by omega
      have hHw : H ≠ wb := by omega
      clear hwc hq rb rr
      · skip
        by_cases hil : i < len
        · have kil : (i : Int) < (len : Int) := by omega
          obtain ⟨pb, po, rfl, hpc⟩ := HBS.out.2.2.2 (by omega)
          have hlb := HBS.out.1
          have cpk := hpc i (by omega)
          have hpl := World.block_lt_of_cell? w _ cpk
          rw [← HBw.out.cell hpl] at cpk
          cases hbi : bs[i]'(by omega) with
          | true =>
            rw [hbi] at cpk
            have hpi : (pickOf bs) i = true := by unfold pickOf; rw [List.getD_eq_getElem?_getD, List.getElem?_eq_getElem (by omega), hbi]; rfl
            clear hpc hbi
            have HN : Hid ((wr.drew.setCell ⟨H, qa, none⟩ (.string qt)).ownsRow 0 9 1 (.slice (some ⟨H, 0, none⟩) n lc') n (strsV (upTo D.kept (pickOf bs) D.waits (i + 1))) ∧ Below H W2 (wr.drew.setCell ⟨H, qa, none⟩ (.string qt))) := by
              refine ⟨?_, HBr.out.drew.setCell (Nat.le_refl _) _⟩
              rw [upTo_pick HQ.out hpi, ← strsV_set]
              exact own_put HOr.out _ _
            have fH : wr.drew.frozen? ⟨H, qa, none⟩ = false := own_fro HOr.out qa
            obtain ⟨old, cH⟩ : ∃ old, wr.drew.cell? ⟨H, qa, none⟩ = some (.string old) := ⟨_, own_str HOr.out qa (by omega)⟩
            clear HOr hpi
            go_wp2
            refine wp_region_held_drew (S := fun V => V.cell? ⟨b, 1, none⟩ = some (.slice (some ⟨wb, 0, none⟩) N wc) ∧ V.cell? ⟨wb, i * 2, none⟩ = some (.int .i64 (qa : Int)) ∧ V.cell? ⟨wb, i * 2 + 1, none⟩ = some (.string qt)) (by kernel_rfl) (⟨e1, ca, cb⟩) (fun hHeld => ?_)
            refine wpAnyH_take (i := 0) (v := ?vrp20) rfl (by kernel_rfl) (by kernel_rfl) (by kernel_rfl) (fun _ _ _ h => h) (Or.inl ⟨by first | kernel_rfl | rfl, ?yrp20⟩) hHeld ?rrp20
            case yrp20 => (intro W hSW; (try dsimp only at hSW); go_simp; (try with_reducible rfl))
            change wpAnyH _ _ _ _ _ _ _ (Act.put _ (some 33) _) _
            simp only [Act.put, List.setIfInBounds_toArray, List.set_cons_zero, List.set_cons_succ]
            refine wpAnyH_take (i := 1) (v := ?vrp21) rfl (by kernel_rfl) (by kernel_rfl) (by kernel_rfl) (fun _ _ _ h => h) (Or.inl ⟨by first | kernel_rfl | rfl, ?yrp21⟩) hHeld ?rrp21
            case yrp21 => (intro W hSW; (try dsimp only at hSW); go_simp; (try with_reducible rfl))
            change wpAnyH _ _ _ _ _ _ _ (Act.put _ (some 34) _) _
            simp only [Act.put, List.setIfInBounds_toArray, List.set_cons_zero, List.set_cons_succ]
            refine wpAnyH_take (i := 2) (v := ?vrp22) rfl (by kernel_rfl) (by kernel_rfl) (by kernel_rfl) (fun _ _ _ h => h) (Or.inl ⟨by first | kernel_rfl | rfl, ?yrp22⟩) hHeld ?rrp22
            case yrp22 => (intro W hSW; (try dsimp only at hSW); go_simp; (try with_reducible rfl))
            change wpAnyH _ _ _ _ _ _ _ (Act.put _ (some 35) _) _
            simp only [Act.put, List.setIfInBounds_toArray, List.set_cons_zero, List.set_cons_succ]
            refine wpAnyH_take (i := 3) (v := ?vrp23) rfl (by kernel_rfl) (by kernel_rfl) (by kernel_rfl) (fun _ _ _ h => h) (Or.inl ⟨by first | kernel_rfl | rfl, ?yrp23⟩) hHeld ?rrp23
            case yrp23 => (intro W hSW; (try dsimp only at hSW); go_simp; (try with_reducible rfl))
            change wpAnyH _ _ _ _ _ _ _ (Act.put _ (some 36) _) _
            simp only [Act.put, List.setIfInBounds_toArray, List.set_cons_zero, List.set_cons_succ]
            refine wpAnyH_take (i := 4) (v := ?vrp24) rfl (by kernel_rfl) (by kernel_rfl) (by kernel_rfl) (fun _ _ _ h => h) (Or.inl ⟨by first | kernel_rfl | rfl, ?yrp24⟩) hHeld ?rrp24
            case yrp24 => (intro W hSW; (try dsimp only at hSW); go_simp; (try with_reducible rfl))
            change wpAnyH _ _ _ _ _ _ _ (Act.put _ (some 37) _) _
            simp only [Act.put, List.setIfInBounds_toArray, List.set_cons_zero, List.set_cons_succ]
            refine wpAnyH_take (i := 5) (v := ?vrp25) rfl (by kernel_rfl) (by kernel_rfl) (by kernel_rfl) (fun _ _ _ h => h) (Or.inl ⟨by first | kernel_rfl | rfl, ?yrp25⟩) hHeld ?rrp25
            case yrp25 => (intro W hSW; (try dsimp only at hSW); go_simp; (try with_reducible rfl))
            change wpAnyH _ _ _ _ _ _ _ (Act.put _ (some 38) _) _
            simp only [Act.put, List.setIfInBounds_toArray, List.set_cons_zero, List.set_cons_succ]
            refine wpAnyH_take (i := 6) (v := ?vrp26) rfl (by kernel_rfl) (by kernel_rfl) (by kernel_rfl) (fun _ _ _ h => h) (Or.inl ⟨by first | kernel_rfl | rfl, ?yrp26⟩) hHeld ?rrp26
            case yrp26 => (intro W hSW; (try dsimp only at hSW); go_simp; (try with_reducible rfl))
            change wpAnyH _ _ _ _ _ _ _ (Act.put _ (some 39) _) _
            simp only [Act.put, List.setIfInBounds_toArray, List.set_cons_zero, List.set_cons_succ]
            refine wpAnyH_take (i := 7) (v := ?vrp27) rfl (by kernel_rfl) (by kernel_rfl) (by kernel_rfl) (fun _ _ _ h => h) (Or.inl ⟨by first | kernel_rfl | rfl, ?yrp27⟩) hHeld ?rrp27
            case yrp27 => (intro W hSW; (try dsimp only at hSW); go_simp; (try with_reducible rfl))
            change wpAnyH _ _ _ _ _ _ _ (Act.put _ (some 40) _) _
            simp only [Act.put, List.setIfInBounds_toArray, List.set_cons_zero, List.set_cons_succ]
            refine wpAnyH_take (i := 8) (v := ?vrp28) rfl (by kernel_rfl) (by kernel_rfl) (by kernel_rfl) (fun _ _ _ h => h) (Or.inl ⟨by first | kernel_rfl | rfl, ?yrp28⟩) hHeld ?rrp28
            case yrp28 => (intro W hSW; (try dsimp only at hSW); go_simp; (try with_reducible rfl))
            change wpAnyH _ _ _ _ _ _ _ (Act.put _ (some 41) _) _
            simp only [Act.put, List.setIfInBounds_toArray, List.set_cons_zero, List.set_cons_succ]
            refine wpAnyH_take (i := 9) (v := ?vrp29) rfl (by kernel_rfl) (by kernel_rfl) (by kernel_rfl) (fun _ _ _ h => h) (Or.inl ⟨by first | kernel_rfl | rfl, ?yrp29⟩) hHeld ?rrp29
            case yrp29 => (intro W hSW; (try dsimp only at hSW); go_simp; (try with_reducible rfl))
            change wpAnyH _ _ _ _ _ _ _ (Act.put _ (some 42) _) _
            simp only [Act.put, List.setIfInBounds_toArray, List.set_cons_zero, List.set_cons_succ]
            refine wpAnyH_take (i := 10) (v := ?vrp210) rfl (by kernel_rfl) (by kernel_rfl) (by kernel_rfl) (fun _ _ _ h => h) (Or.inl ⟨by first | kernel_rfl | rfl, ?yrp210⟩) hHeld ?rrp210
            case yrp210 => (intro W hSW; (try dsimp only at hSW); go_simp; (try with_reducible rfl))
            change wpAnyH _ _ _ _ _ _ _ (Act.put _ (some 43) _) _
            simp only [Act.put, List.setIfInBounds_toArray, List.set_cons_zero, List.set_cons_succ]
            refine wpAnyH_take (i := 11) (v := ?vrp211) rfl (by kernel_rfl) (by kernel_rfl) (by kernel_rfl) (fun _ _ _ h => h) (Or.inl ⟨by first | kernel_rfl | rfl, ?yrp211⟩) hHeld ?rrp211
            case yrp211 => (intro W hSW; (try dsimp only at hSW); go_simp; (try with_reducible rfl))
            change wpAnyH _ _ _ _ _ _ _ (Act.put _ (some 44) _) _
            simp only [Act.put, List.setIfInBounds_toArray, List.set_cons_zero, List.set_cons_succ]
            refine wpAnyH_take (i := 12) (v := ?vrp212) rfl (by kernel_rfl) (by kernel_rfl) (by kernel_rfl) (fun _ _ _ h => h) (Or.inl ⟨by first | kernel_rfl | rfl, ?yrp212⟩) hHeld ?rrp212
            case yrp212 => (intro W hSW; (try dsimp only at hSW); go_simp; (try with_reducible rfl))
            change wpAnyH _ _ _ _ _ _ _ (Act.put _ (some 45) _) _
            simp only [Act.put, List.setIfInBounds_toArray, List.set_cons_zero, List.set_cons_succ]
            refine wpAnyH_take (i := 13) (v := ?vrp213) rfl (by kernel_rfl) (by kernel_rfl) (by kernel_rfl) (fun _ _ _ h => h) (Or.inl ⟨by first | kernel_rfl | rfl, ?yrp213⟩) hHeld ?rrp213
            case yrp213 => (intro W hSW; (try dsimp only at hSW); go_simp; (try with_reducible rfl))
            change wpAnyH _ _ _ _ _ _ _ (Act.put _ (some 46) _) _
            simp only [Act.put, List.setIfInBounds_toArray, List.set_cons_zero, List.set_cons_succ]
            refine wpAnyH_ready (rs := [14]) (by kernel_rfl) (by simp) ?_
            refine AllReadyH.cons rfl (fun K hK => ?_) AllReadyH.nil
            go_simp
            refine hK.out _ _ (⟨by show (wr.setCell ⟨H, qa, none⟩ (.string qt)).cell? _ = _; rw [World.cell?_setCell_far _ _ _ _ hHb]; exact e1, by show (wr.setCell ⟨H, qa, none⟩ (.string qt)).cell? _ = _; rw [World.cell?_setCell_far _ _ _ _ hHw]; exact ca, by show (wr.setCell ⟨H, qa, none⟩ (.string qt)).cell? _ = _; rw [World.cell?_setCell_far _ _ _ _ hHw]; exact cb⟩) (fun hHeld => ?_)
            clear hK K
            refine wpAnyH_done (by kernel_rfl) ?_ _
            clear hHeld cH fH
            go_wp2
            exact ⟨⟨i + 1, by omega, by go_num, HN.out⟩, by simp [intOf]; omega⟩
          | false =>
            rw [hbi] at cpk
            have hpi : (pickOf bs) i = false := by unfold pickOf; rw [List.getD_eq_getElem?_getD, List.getElem?_eq_getElem (by omega), hbi]; rfl
            clear hpc hbi
            have HN : Hid (wr.ownsRow 0 9 1 (.slice (some ⟨H, 0, none⟩) n lc') n (strsV (upTo D.kept (pickOf bs) D.waits (i + 1))) ∧ Below H W2 wr) := by
              refine ⟨?_, HBr.out⟩
              rw [upTo_leave HQ.out hpi]
              exact HOr.out
            clear HOr hpi
            go_wp2
            exact ⟨⟨i + 1, by omega, by go_num, HN.out⟩, by simp [intOf]; omega⟩
        · have kil : ¬ (i : Int) < (len : Int) := by omega
          have hlb := HBS.out.1
          have hpi : (pickOf bs) i = false := by unfold pickOf; rw [List.getD_eq_getElem?_getD, List.getElem?_eq_none (by omega)]; rfl
          have HN : Hid (wr.ownsRow 0 9 1 (.slice (some ⟨H, 0, none⟩) n lc') n (strsV (upTo D.kept (pickOf bs) D.waits (i + 1))) ∧ Below H W2 wr) := by
            refine ⟨?_, HBr.out⟩
            rw [upTo_leave HQ.out hpi]
            exact HOr.out
          clear HOr hpi
          go_wp2
          exact ⟨⟨i + 1, by omega, by go_num, HN.out⟩, by simp [intOf]; omega⟩
    · obtain rfl : i = N := by omega
      have kiN : ¬ (i : Int) < (i : Int) := by omega
      have e0 : wr.cell? ⟨b, 0, none⟩ = some (.slice (some ⟨lb, 0, none⟩) n lc) := by rw [cell_of_row _ b _ _ _ _ rb]; rfl
      have e2 : wr.cell? ⟨b, 2, none⟩ = some (.int .i64 (D.fuse : Int)) := by rw [cell_of_row _ b _ _ _ _ rb]; rfl
      have e3 : wr.cell? ⟨b, 3, none⟩ = some (.int .i64 (D.writes : Int)) := by rw [cell_of_row _ b _ _ _ _ rb]; rfl
      have e4 : wr.cell? ⟨b, 4, none⟩ = some (.bool dn) := by rw [cell_of_row _ b _ _ _ _ rb]; rfl
      have fb : ∀ k, wr.frozen? ⟨b, k, none⟩ = false := fun k => frozen_of_row wr b k _ _ rb
      have z0 : wr.cell? ⟨r, 0, none⟩ = some (.slice none 0 0) := by rw [cell_of_row _ r _ _ _ _ rr]; rfl
      have z1 : wr.cell? ⟨r, 1, none⟩ = some (.slice none 0 0) := by rw [cell_of_row _ r _ _ _ _ rr]; rfl
      have z2 : wr.cell? ⟨r, 2, none⟩ = some (.int .i64 0) := by rw [cell_of_row _ r _ _ _ _ rr]; rfl
      have z3 : wr.cell? ⟨r, 3, none⟩ = some (.int .i64 0) := by rw [cell_of_row _ r _ _ _ _ rr]; rfl
      have z4 : wr.cell? ⟨r, 4, none⟩ = some (.bool false) := by rw [cell_of_row _ r _ _ _ _ rr]; rfl
      have fr : ∀ k, wr.frozen? ⟨r, k, none⟩ = false := fun k => frozen_of_row wr r k _ _ rr
      have nbr : ¬ b = r := by omega
      have nrb : ¬ r = b := by omega
      go_wp2
      refine bodyPost_ret (v := .agg #[.slice (some ⟨H, 0, none⟩) n lc', .slice none 0 0, .int .i64 0, .int .i64 (D.writes : Int), .bool true]) ?_ rfl ⟨H, lc', ?_, by omega, ⟨?_, ?_, World.ownsRow_nil _ _ _ _, fun _ => ⟨rfl, rfl⟩⟩, ?_⟩
      · simp [results, go_sem, z0, z1, z2, z3, z4]
      · rw [rcells_failed, hn]
      · exact HH.out.ok.failed (pickOf bs)
      · have hkl : ((D.failed (pickOf bs))).kept.length = n := by
          show (upTo _ _ _ _).length = n
          rw [upTo_len, hn]
        have hke : ((D.failed (pickOf bs))).kept = upTo D.kept (pickOf bs) D.waits i := by
          show upTo _ _ _ D.waits.length = _
          rw [hN]
        rw [hkl, hke]
        refine own_keep HOr.out (fun x hx => ?_)
        rw [ob_slice] at hx
        cases hx
        have n1 : H ≠ b := by omega
        have n2 : H ≠ r := by omega
        rw [heap_setCell_other _ _ _ _ n2, heap_setCell_other _ _ _ _ n2, heap_setCell_other _ _ _ _ n2, heap_setCell_other _ _ _ _ n2, heap_setCell_other _ _ _ _ n2, heap_setCell_other _ _ _ _ n1, heap_setCell_other _ _ _ _ n1, heap_setCell_other _ _ _ _ n1, heap_setCell_other _ _ _ _ n1]
      · have hbb := HBw.out
        rw [hb] at hbb
        have hrb : b ≤ r := by omega
        exact (((((((((hbb.setCell (p := ⟨b, _, none⟩) (Nat.le_refl _) _).setCell (p := ⟨b, _, none⟩) (Nat.le_refl _) _).setCell (p := ⟨b, _, none⟩) (Nat.le_refl _) _).setCell (p := ⟨b, _, none⟩) (Nat.le_refl _) _).setCell (p := ⟨r, _, none⟩) hrb _).setCell (p := ⟨r, _, none⟩) hrb _).setCell (p := ⟨r, _, none⟩) hrb _).setCell (p := ⟨r, _, none⟩) hrb _).setCell (p := ⟨r, _, none⟩) hrb _)
def Dk.lput (D : Dk) : Dk := if D.up then D.settled (fun _ => true) else D
/-- The same disk of the document's, or one in memory that was made since. -/
structure RefTo (w w' : World) (lb : Nat) (wa : Option Addr) (lb' : Nat) (wa' : Option Addr) : Prop where
  l : lb' = lb ∨ w.heap.size ≤ lb'
  q : ∀ x, ob wa' = some x → ob wa = some x ∨ w.heap.size ≤ x
  b : Below w.heap.size w w'
theorem RefTo.same {w w' : World} {lb : Nat} {wa : Option Addr} (hb : Below w.heap.size w w') : RefTo w w' lb wa lb wa := ⟨.inl rfl, fun _ h => .inl h, hb⟩
set_option maxRecDepth 100000 in
set_option maxHeartbeats 4000000 in
theorem rflush_any {w : World} {lb lc : Nat} {wa : Option Addr} {wc : Nat} {D : Dk} (h : RefAt w lb lc wa wc D) :
    Calls Tryz.prog 33 #[.agg #[.slice (some ⟨lb, 0, none⟩) D.kept.length lc, .slice wa D.waits.length wc, .int .i64 (D.fuse : Int), .int .i64 (D.writes : Int), .bool (!D.up)]] w fun e w' => ∃ lb' lc' wa' wc', e = .returned (.tuple #[.agg (rcells lb' lc' wa' wc' D.lput), .int .i64 (D.off : Int)]) ∧ RefAt w' lb' lc' wa' wc' D.lput ∧ RefTo w w' lb wa lb' wa' := by
  obtain ⟨dn, hdn⟩ : ∃ dn, (!D.up) = dn := ⟨_, rfl⟩
  have HW : Hid (∀ W, Calls Tryz.prog 46 #[.agg #[.slice (some ⟨lb, 0, none⟩) D.kept.length lc, .slice wa D.waits.length wc, .int .i64 (D.fuse : Int), .int .i64 (D.writes : Int), .bool dn], .int .i64 0] W fun e w' => e = .returned (.int .i64 (D.reach 0 : Int)) ∧ w' = W.alloc (.cells #[.slice (some ⟨lb, 0, none⟩) D.kept.length lc, .slice wa D.waits.length wc, .int .i64 (D.fuse : Int), .int .i64 (D.writes : Int), .bool dn] 32)) := fun W => why_exact dn hdn 0
  have hn1 := h.ok.n1
  unfold Dk.lput Dk.off
  cases hu : D.up
  · have hr : D.reach 0 = 10 := by unfold Dk.reach; rw [hu]; rfl
    rw [hr] at HW
    rw [hu, Bool.not_false] at hdn
    subst hdn
    rw [Bool.not_false]
    have HH : Hid (RefAt w lb lc wa wc D) := h
    clear h
    go_enter Tryz.func33, Tryz.ntmps33
    go_wp2_with fail
    refine (HW.out _).mono ?_
    rintro e w2 ⟨rfl, hw2⟩
    subst w2
    go_wp2
    refine bodyPost_ret (v := .tuple #[.agg #[.slice (some ⟨lb, 0, none⟩) D.kept.length lc, .slice wa D.waits.length wc, .int .i64 (D.fuse : Int), .int .i64 (D.writes : Int), .bool true], .int .i64 10]) ?_ rfl ⟨lb, lc, wa, wc, ?_, ?_⟩
    · simp [results, go_sem]
    · simp [rcells, hu]
    · have hb : ∀ a b c, Below w.heap.size w (((w.alloc a).alloc b).alloc c) := fun a b c => (((Below.refl _ w).alloc (Nat.le_refl _) _).alloc (by simp) _).alloc (by simp; omega) _
      exact ⟨HH.out.below (hb _ _ _), RefTo.same (hb _ _ _)⟩
  · have hr : D.reach 0 = 0 := by
      unfold Dk.reach
      rw [if_pos hu, if_neg (by omega)]
    rw [hr] at HW
    have HFA : Hid (∀ W, Below w.heap.size w W → Calls Tryz.prog 17 #[.agg #[.slice (some ⟨lb, 0, none⟩) D.kept.length lc, .slice wa D.waits.length wc, .int .i64 (D.fuse : Int), .int .i64 (D.writes : Int), .bool dn], .slice none 0 0, .bool true] W fun e w' => ∃ lb' lc', e = .returned (.agg (rcells lb' lc' none 0 (D.settled fun _ => true))) ∧ W.heap.size ≤ lb' ∧ RefAt w' lb' lc' none 0 (D.settled fun _ => true) ∧ Below W.heap.size W w') := fun W hW => by
      rw [← hdn]
      exact afail_any (h.below hW)
    rw [hu, Bool.not_true] at hdn
    subst hdn
    rw [Bool.not_true]
    simp only [if_true]
    clear h
    go_enter Tryz.func33, Tryz.ntmps33
    go_wp2_with fail
    refine (HW.out _).mono ?_
    rintro e w2 ⟨rfl, hw2⟩
    obtain ⟨W2, hW2⟩ : ∃ W2, w2 = W2 := ⟨_, rfl⟩
    have hrr : w2.heap[w.heap.size + 1]? = some (.cells #[.slice none 0 0, .slice none 0 0, .int .i64 0, .int .i64 0, .bool false] 32 (0, 0)) := by
      rw [hw2, Below.heap_alloc _ _ _ (by simp)]
      have := heap_alloc_new (w.alloc (.cells #[.slice (some ⟨lb, 0, none⟩) D.kept.length lc, .slice wa D.waits.length wc, .int .i64 (D.fuse : Int), .int .i64 (D.writes : Int), .bool false] 32)) (.cells #[.slice none 0 0, .slice none 0 0, .int .i64 0, .int .i64 0, .bool false] 32)
      simpa using this
    have hrb : w2.heap[w.heap.size]? = some (.cells #[.slice (some ⟨lb, 0, none⟩) D.kept.length lc, .slice wa D.waits.length wc, .int .i64 (D.fuse : Int), .int .i64 (D.writes : Int), .bool false] 32 (0, 0)) := by
      rw [hw2, Below.heap_alloc _ _ _ (by simp; omega), Below.heap_alloc _ _ _ (by simp)]
      exact heap_alloc_new w _
    have hb2 : Below w.heap.size w w2 := by rw [hw2]; exact (((Below.refl _ w).alloc (Nat.le_refl _) _).alloc (by simp) _).alloc (by simp; omega) _
    have c0 : w2.cell? ⟨w.heap.size, 0, none⟩ = some (.slice (some ⟨lb, 0, none⟩) D.kept.length lc) := by rw [cell_of_row _ w.heap.size _ _ _ _ hrb]; rfl
    have c1 : w2.cell? ⟨w.heap.size, 1, none⟩ = some (.slice wa D.waits.length wc) := by rw [cell_of_row _ w.heap.size _ _ _ _ hrb]; rfl
    have c2 : w2.cell? ⟨w.heap.size, 2, none⟩ = some (.int .i64 (D.fuse : Int)) := by rw [cell_of_row _ w.heap.size _ _ _ _ hrb]; rfl
    have c3 : w2.cell? ⟨w.heap.size, 3, none⟩ = some (.int .i64 (D.writes : Int)) := by rw [cell_of_row _ w.heap.size _ _ _ _ hrb]; rfl
    have c4 : w2.cell? ⟨w.heap.size, 4, none⟩ = some (.bool false) := by rw [cell_of_row _ w.heap.size _ _ _ _ hrb]; rfl
    have HF := HFA.out w2 hb2
    have hrl : w.heap.size + 1 < w2.heap.size := lt_of_some hrr
    clear hw2 hrb hW2 HFA HW W2
    go_wp2_with fail
    refine HF.mono ?_
    rintro e w3 ⟨lb', lc', rfl, hlb', hR3, hb3⟩
    have hrr3 := (hb3.block _ hrl).trans hrr
    obtain ⟨r, hre⟩ : ∃ r, w.heap.size + 1 = r := ⟨_, rfl⟩
    rw [hre] at hrr3 hrl
    have z0 : w3.cell? ⟨r, 0, none⟩ = some (.slice none 0 0) := by rw [cell_of_row _ r _ _ _ _ hrr3]; rfl
    have z1 : w3.cell? ⟨r, 1, none⟩ = some (.slice none 0 0) := by rw [cell_of_row _ r _ _ _ _ hrr3]; rfl
    have z2 : w3.cell? ⟨r, 2, none⟩ = some (.int .i64 0) := by rw [cell_of_row _ r _ _ _ _ hrr3]; rfl
    have z3 : w3.cell? ⟨r, 3, none⟩ = some (.int .i64 0) := by rw [cell_of_row _ r _ _ _ _ hrr3]; rfl
    have z4 : w3.cell? ⟨r, 4, none⟩ = some (.bool false) := by rw [cell_of_row _ r _ _ _ _ hrr3]; rfl
    have fr : ∀ k, w3.frozen? ⟨r, k, none⟩ = false := fun k => frozen_of_row w3 r k _ _ hrr3
    have HR3 : Hid (RefAt w3 lb' lc' none 0 (D.settled fun _ => true)) := hR3
    have HB3 : Hid (Below w.heap.size w w3) := hb2.trans (hb3.mono hb2.size)
    have hbs := hb2.size
    rw [rcells_settled, hu, Bool.not_true]
    clear HF hrr hrr3 hb3 hR3 c0 c1 c2 c3 c4
    go_wp2
    refine bodyPost_ret (v := .tuple #[.agg #[.slice (some ⟨lb', 0, none⟩) D.kept.length lc', .slice none 0 0, .int .i64 (D.fuse : Int), .int .i64 (D.writes : Int), .bool false], .int .i64 0]) ?_ rfl ⟨lb', lc', none, 0, ?_, ?_, .inr ?_, (by intro x hx; cases hx), ?_⟩
    · simp [results, go_sem, z0, z1, z2, z3, z4]
    · rw [rcells_settled, hu]
      rfl
    · refine HR3.out.keep ?_ (by intro x hx; cases hx)
      have n2 : lb' ≠ r := by omega
      rw [heap_setCell_other _ _ _ _ n2, heap_setCell_other _ _ _ _ n2, heap_setCell_other _ _ _ _ n2, heap_setCell_other _ _ _ _ n2, heap_setCell_other _ _ _ _ n2]
    · omega
    · have hrb : w.heap.size ≤ r := by omega
      exact ((((HB3.out.setCell (p := ⟨r, _, none⟩) hrb _).setCell (p := ⟨r, _, none⟩) hrb _).setCell (p := ⟨r, _, none⟩) hrb _).setCell (p := ⟨r, _, none⟩) hrb _).setCell (p := ⟨r, _, none⟩) hrb _
end Go.Proofs.YtaacedaehbaodaaGreat
