/- A walk over the document's Open. -/
import Derived.Test.YtaacedaehbaodaaGreatYE
import Derived.Test.YtaacedaehbaodaaGreatMC
import Derived.Test.YtaacedaehbaodaaGreatJG
namespace Go.Proofs.YtaacedaehbaodaaGreat
open Go.RowKit Go.Shelf
theorem page_sz {K : List ByteArray} (hK : ∀ s ∈ K, s.size = 256) (a : Nat) (ha : a + 4 ≤ K.length) : (pageAt K a).size = 1024 := by
  have h : ∀ j, j < K.length → (at_ K j).size = 256 := fun j hj => hK _ (by unfold at_; rw [List.getD_eq_getElem?_getD, List.getElem?_eq_getElem hj]; exact List.getElem_mem _)
  unfold pageAt
  rw [ByteArray.size_append, ByteArray.size_append, ByteArray.size_append, h a (by omega), h (a + 1) (by omega), h (a + 2) (by omega), h (a + 3) (by omega)]
def recUp (K : List ByteArray) (i : Nat) : List Chg := ((List.range i).filter fun j => tells (at_ K 0) j).map fun j => (j, pageAt K (1 + 4 * j))
theorem recUp_succ (K : List ByteArray) (i : Nat) : recUp K (i + 1) = if tells (at_ K 0) i = true then recUp K i ++ [(i, pageAt K (1 + 4 * i))] else recUp K i := by
  unfold recUp
  rw [List.range_succ, List.filter_append, List.map_append]
  by_cases h : tells (at_ K 0) i = true
  · rw [if_pos h]
    congr 1
    rw [List.filter_cons, if_pos h]
    rfl
  · rw [if_neg h]
    rw [List.filter_cons, if_neg h, List.filter_nil, List.map_nil, List.append_nil]
theorem recUp_all (n : Nat) (K : List ByteArray) : recUp K n = recL n K := rfl
theorem recUp_len (K : List ByteArray) (i : Nat) : (recUp K i).length ≤ i := by
  unfold recUp
  rw [List.length_map]
  exact Nat.le_trans (List.length_filter_le _ _) (by rw [List.length_range]; exact Nat.le_refl _)
theorem recUp_mem {K : List ByteArray} {i : Nat} {c : Chg} (h : c ∈ recUp K i) : c.1 < i ∧ c.2 = pageAt K (1 + 4 * c.1) := by
  unfold recUp at h
  obtain ⟨j, hj, rfl⟩ := List.mem_map.1 h
  exact ⟨List.mem_range.1 (List.mem_filter.1 hj).1, rfl⟩
theorem laid_ok {a : Nat} {s : ByteArray} (hs : s.size = 1024) {q : Wt} (h : some q ∈ laidL a s) : a ≤ q.1 ∧ q.1 < a + 4 ∧ q.2.size = 256 := by
  unfold laidL laidW at h
  simp only [List.map_cons, List.map_nil, List.mem_cons, Option.some.injEq, List.not_mem_nil, or_false] at h
  rcases h with rfl | rfl | rfl | rfl
  · exact ⟨by show a ≤ a; omega, by show a < a + 4; omega, sec_size s 0 hs (by omega)⟩
  · exact ⟨by show a ≤ a + 1; omega, by show a + 1 < a + 4; omega, sec_size s 1 hs (by omega)⟩
  · exact ⟨by show a ≤ a + 2; omega, by show a + 2 < a + 4; omega, sec_size s 2 hs (by omega)⟩
  · exact ⟨by show a ≤ a + 3; omega, by show a + 3 < a + 4; omega, sec_size s 3 hs (by omega)⟩
theorem lays_ok {f n : Nat} {l : List Chg} (hl : ∀ c ∈ l, c.1 < n ∧ c.2.size = 1024) {q : Wt} (h : some q ∈ laysL f l) : f ≤ q.1 ∧ q.1 < f + 4 * n ∧ q.2.size = 256 := by
  unfold laysL at h
  obtain ⟨c, hc, hq⟩ := List.mem_flatMap.1 h
  obtain ⟨h1, h2⟩ := hl c hc
  obtain ⟨h3, h4, h5⟩ := laid_ok h2 hq
  exact ⟨by omega, by omega, h5⟩
theorem recS_nil {n : Nat} {K : List ByteArray} (h : recL n K = []) : recS n K = [] := by
  unfold recS
  rw [if_pos]
  unfold recL at h
  exact List.map_eq_nil_iff.1 h
theorem recS_cons {n : Nat} {K : List ByteArray} (h : ¬ recL n K = []) : recS n K = laysL (1 + 4 * n) (recL n K) ++ [none, some (0, nought), none] := by
  unfold recS
  rw [if_neg (fun e => h (by unfold recL; rw [e]; rfl))]
  unfold finS markL
  rw [layL_is, List.append_assoc]
  rfl
set_option maxRecDepth 100000 in
set_option maxHeartbeats 4000000 in
theorem ropen_any {w : World} {lb lc : Nat} {wa : Option Addr} {wc : Nat} {D : Dk} (h : RefAt w lb lc wa wc D) (n : Nat) (hn1 : 1 ≤ n) (hn : n ≤ 128) (hkn : 8 * n + 1 ≤ D.kept.length) (hu : D.up = true) (hw : D.waits = []) (hsz : ∀ s ∈ D.kept, s.size = 256) (hwr : D.writes + 4 * n + 3 < 1000000) :
    Calls Tryz.prog 21 #[.agg #[.slice (some ⟨lb, 0, none⟩) D.kept.length lc, .slice wa D.waits.length wc, .int .i64 (D.fuse : Int), .int .i64 (D.writes : Int), .bool (!D.up)], .int .i64 (n : Int)] w fun e w' => ∃ lb' lc' wa' wc', e = .returned (.tuple #[.agg (rcells lb' lc' wa' wc' (runS D (recS n D.kept))), .int .i64 (codeS D (recS n D.kept) : Int)]) ∧ RefAt w' lb' lc' wa' wc' (runS D (recS n D.kept)) ∧ RefTo w w' lb wa lb' wa' := by
  obtain ⟨i0, hi0, hz0, hz1, hz2⟩ := info_parts info81
  have hseen : D.seen = D.kept := by unfold Dk.seen; rw [hw]; rfl
  have hat : ∀ j, j < D.kept.length → (at_ D.kept j).size = 256 := fun j hj => hsz _ (by unfold at_; rw [List.getD_eq_getElem?_getD, List.getElem?_eq_getElem hj]; exact List.getElem_mem _)
  have hnd : needN (n : Int) = 8 * n + 1 := by
    unfold needN
    rw [if_neg (by omega)]
    omega
  obtain ⟨hlw, hqw⟩ := h.lt
  have HN : Hid (∀ W, Calls Tryz.prog 6 #[.int .i64 (n : Int)] W fun e w' => e = .returned (.int .i64 ((8 * n + 1 : Nat) : Int)) ∧ w' = W) := fun W => by
    have := rneed_any (n : Int) W
    rw [hnd] at this
    exact this
  have HRD : Hid (∀ W, Below w.heap.size w W → Calls Tryz.prog 50 #[.agg #[.slice (some ⟨lb, 0, none⟩) D.kept.length lc, .slice wa D.waits.length wc, .int .i64 (D.fuse : Int), .int .i64 (D.writes : Int), .bool (!D.up)], .int .i64 0] W fun e w' => e = .returned (.tuple #[.string (at_ D.kept 0), .int .i64 0]) ∧ Below W.heap.size W w') := fun W hW => by
    have hr := rread_any (h.below hW) ((0 : Nat) : Int)
    rw [(rd_at D 0 hu (by omega)).1, (rd_at D 0 hu (by omega)).2, hseen] at hr
    exact hr
  have HPG : Hid (∀ W i, Below w.heap.size w W → i < n → Calls Tryz.prog 23 #[.agg #[.slice (some ⟨lb, 0, none⟩) D.kept.length lc, .slice wa D.waits.length wc, .int .i64 (D.fuse : Int), .int .i64 (D.writes : Int), .bool (!D.up)], .int .i64 ((1 + 4 * i : Nat) : Int)] W fun e w' => e = .returned (.tuple #[.string (pageAt D.kept (1 + 4 * i)), .int .i64 0]) ∧ Below W.heap.size W w') := fun W i hW hi => by
    have hr := rpage_any (h.below hW) (1 + 4 * i) hu (by omega) (fun j hj => by rw [hseen]; exact hat _ (by omega))
    rw [hseen] at hr
    exact hr
  have HRUN : Hid (∀ W (a : Option Addr) (len cap : Nat), Below w.heap.size w W → Ci W a len cap ((laysL (1 + 4 * n) (recL n D.kept) ++ [none, some (0, nought), none]).map stC) → Calls Tryz.prog 12 #[.agg #[.slice (some ⟨lb, 0, none⟩) D.kept.length lc, .slice wa D.waits.length wc, .int .i64 (D.fuse : Int), .int .i64 (D.writes : Int), .bool (!D.up)], .slice a len cap] W fun e w' => ∃ lb' lc' wa' wc', e = .returned (.tuple #[.agg (rcells lb' lc' wa' wc' (runS D (laysL (1 + 4 * n) (recL n D.kept) ++ [none, some (0, nought), none]))), .int .i64 (codeS D (laysL (1 + 4 * n) (recL n D.kept) ++ [none, some (0, nought), none]) : Int)]) ∧ RefAt w' lb' lc' wa' wc' (runS D (laysL (1 + 4 * n) (recL n D.kept) ++ [none, some (0, nought), none])) ∧ RefTo W w' lb wa lb' wa') := fun W a len cap hW hC => by
    refine rrun_any (h.below hW) a len cap _ hC (fun q hq => ?_) ?_
    · rcases List.mem_append.1 hq with hq | hq
      · have := lays_ok (n := n) (fun c hc => by
          have hc' := recUp_mem (i := n) hc
          exact ⟨hc'.1, by rw [hc'.2]; exact page_sz hsz _ (by omega)⟩) hq
        exact ⟨by omega, this.2.2⟩
      · simp only [List.mem_cons, Option.some.injEq, List.not_mem_nil, or_false, reduceCtorEq, false_or] at hq
        subst hq
        exact ⟨by show 0 < _; omega, nought_size⟩
    · have := recUp_len D.kept n
      rw [recUp_all] at this
      simp only [List.length_append, laysL_len, List.length_cons, List.length_nil]
      omega
  have HRF : Hid (∀ V, Below w.heap.size w V → RefAt V lb lc wa wc D) := fun V hV => h.below hV
  have HM0 : Hid (∀ W, Calls Tryz.prog 36 #[.slice none 0 0] W fun e w' => e = .returned (.string nought) ∧ Below W.heap.size W w') := fun W => rmark_any none 0 0 [] ⟨rfl, Nat.le_refl _, by omega, by omega⟩ n hn (fun c hc => by simp at hc) (by simp) (by omega)
  have hms := hat 0 (by omega)
  have HPS : Hid (∀ i, i < n → (pageAt D.kept (1 + 4 * i)).size = 1024) := fun i hi => page_sz hsz _ (by omega)
  have HT : Hid (∀ W i, i < n → Calls Tryz.prog 51 #[.string (at_ D.kept 0), .int .i64 (i : Int)] W fun e w' => e = .returned (.bool (tells (at_ D.kept 0) i)) ∧ w' = W) := fun W i hi => rtold_any _ hms i (by omega) W
  obtain ⟨m, hm⟩ : ∃ m, at_ D.kept 0 = m := ⟨_, rfl⟩
  obtain ⟨kl, hkl⟩ : ∃ kl, D.kept.length = kl := ⟨_, rfl⟩
  obtain ⟨wl, hwl⟩ : ∃ wl, D.waits.length = wl := ⟨_, rfl⟩
  obtain ⟨dn, hdn⟩ : ∃ dn, (!D.up) = dn := ⟨_, rfl⟩
  obtain ⟨fs, hfs⟩ : ∃ fs, (D.fuse : Int) = fs := ⟨_, rfl⟩
  obtain ⟨ws, hws⟩ : ∃ ws, (D.writes : Int) = ws := ⟨_, rfl⟩
  have HKL : Hid (rcells lb lc wa wc D = #[.slice (some ⟨lb, 0, none⟩) kl lc, .slice wa wl wc, .int .i64 fs, .int .i64 ws, .bool dn]) := by
    show _ = _
    unfold rcells
    rw [hkl, hwl, hdn, hfs, hws]
  rw [hkl, hwl, hdn, hfs, hws] at HRD HPG HRUN ⊢
  rw [hm] at HRD HT hms
  rw [hkl] at hkn
  have HM : Hid (at_ D.kept 0 = m) := hm
  obtain ⟨W1, hW1⟩ : ∃ W1, w.alloc (.cells #[.slice (some ⟨lb, 0, none⟩) kl lc, .slice wa wl wc, .int .i64 fs, .int .i64 ws, .bool dn] 32) = W1 := ⟨_, rfl⟩
  obtain ⟨W2, hW2⟩ : ∃ W2, W1.alloc (.cells #[.slice none 0 0, .slice none 0 0, .int .i64 0, .int .i64 0, .bool false] 32) = W2 := ⟨_, rfl⟩
  obtain ⟨B, hB⟩ : ∃ B, w.heap.size = B := ⟨_, rfl⟩
  have hs1 : W1.heap.size = B + 1 := by rw [← hW1, ← hB]; simp
  have hs2 : W2.heap.size = B + 2 := by rw [← hW2]; simp [hs1]
  have HB2 : Hid (Below w.heap.size w W2) := by rw [← hW2, ← hW1]; exact ((Below.refl _ w).alloc (Nat.le_refl _) _).alloc (by simp) _
  have HX0 : Hid (W2.heap[B]? = some (.cells #[.slice (some ⟨lb, 0, none⟩) kl lc, .slice wa wl wc, .int .i64 fs, .int .i64 ws, .bool dn] 32 (0, 0)) ∧ W2.heap[B + 1]? = some (.cells #[.slice none 0 0, .slice none 0 0, .int .i64 0, .int .i64 0, .bool false] 32 (0, 0))) := by
    refine ⟨?_, ?_⟩
    · rw [← hW2, Below.heap_alloc _ _ _ (by omega), ← hW1, ← hB]; exact heap_alloc_new w _
    · rw [← hW2, ← hs1]; exact heap_alloc_new W1 _
  have HX : Hid (∀ V, Below (B + 2) W2 V → Below w.heap.size w V ∧ V.heap[B]? = some (.cells #[.slice (some ⟨lb, 0, none⟩) kl lc, .slice wa wl wc, .int .i64 fs, .int .i64 ws, .bool dn] 32 (0, 0)) ∧ V.heap[B + 1]? = some (.cells #[.slice none 0 0, .slice none 0 0, .int .i64 0, .int .i64 0, .bool false] 32 (0, 0))) := fun V hV =>
    ⟨HB2.out.trans (hV.mono (by omega)), (hV.block B (by omega)).trans HX0.out.1, (hV.block (B + 1) (by omega)).trans HX0.out.2⟩
  obtain ⟨y0, _, _, _, _, _⟩ := row_at HX0.out.1
  have k1 : ¬ ((8 * n + 1 : Nat) : Int) = 0 := by omega
  have k2 : ¬ (kl : Int) < ((8 * n + 1 : Nat) : Int) := by omega
  obtain ⟨nd, hnd2⟩ : ∃ nd : Int, ((8 * n + 1 : Nat) : Int) = nd := ⟨_, rfl⟩
  rw [hnd2] at HN k1 k2
  have k1b : (nd == 0) = false := by rw [beq_eq_false_iff_ne]; exact k1
  have k2b : decide ((kl : Int) < nd) = false := decide_eq_false k2
  clear h hsz hw hseen hat hnd hkl hwl hdn hfs hws hnd2 hm hu
  go_enter Tryz.func21, Tryz.ntmps21
  go_wp2
  refine wp_region_held_drew (S := fun V => V.cell? ⟨B, 0, none⟩ = some (.slice (some ⟨lb, 0, none⟩) kl lc)) (by kernel_rfl) (y0) (fun hHeld => ?_)
  refine wpAnyH_take (i := 0) (v := ?vw0) rfl (by kernel_rfl) (by kernel_rfl) (by kernel_rfl) (fun _ _ _ h => h) (Or.inl ⟨by first | kernel_rfl | rfl, ?yw0⟩) hHeld ?rw0
  case yw0 => (intro W hSW; (try dsimp only at hSW); go_simp; (try with_reducible rfl))
  change wpAnyH _ _ _ _ _ _ _ (Act.put _ (some 12) _) _
  simp only [Act.put, List.setIfInBounds_toArray, List.set_cons_zero, List.set_cons_succ]
  refine wpAnyH_ready (rs := [1]) (by kernel_rfl) (by simp) ?_
  refine AllReadyH.cons rfl (fun K hK => ?_) AllReadyH.nil
  go_simp
  refine (HN.out _).mono ?_
  rintro e V1 ⟨rfl, hV⟩; subst V1
  refine hK.out _ _ (y0) (fun hHeld => ?_)
  clear hK K
  try simp only [Act.put, List.setIfInBounds_toArray, List.set_cons_zero, List.set_cons_succ]
  refine wpAnyH_take (i := 2) (v := ?vw2) rfl (by kernel_rfl) (by kernel_rfl) (by kernel_rfl) (fun _ _ _ h => h) (Or.inl ⟨by first | kernel_rfl | rfl, ?yw2⟩) hHeld ?rw2
  case yw2 => (intro W hSW; (try dsimp only at hSW); go_simp; (try with_reducible rfl))
  change wpAnyH _ _ _ _ _ _ _ (Act.put _ (some 14) _) _
  simp only [Act.put, List.setIfInBounds_toArray, List.set_cons_zero, List.set_cons_succ]
  refine wpAnyH_take (i := 3) (v := ?vw3) rfl (by kernel_rfl) (by kernel_rfl) (by kernel_rfl) (fun _ _ _ h => h) (Or.inl ⟨by first | kernel_rfl | rfl, ?yw3⟩) hHeld ?rw3
  case yw3 => (intro W hSW; (try dsimp only at hSW); go_simp; (try with_reducible rfl))
  change wpAnyH _ _ _ _ _ _ _ (Act.put _ (some 15) _) _
  simp only [Act.put, List.setIfInBounds_toArray, List.set_cons_zero, List.set_cons_succ]
  refine wpAnyH_take (i := 4) (v := ?vw4) rfl (by kernel_rfl) (by kernel_rfl) (by kernel_rfl) (fun _ _ _ h => h) (Or.inl ⟨by first | kernel_rfl | rfl, ?yw4⟩) hHeld ?rw4
  case yw4 => (intro W hSW; (try dsimp only at hSW); go_simp; (try with_reducible rfl))
  change wpAnyH _ _ _ _ _ _ _ (Act.put _ (some 16) _) _
  simp only [Act.put, List.setIfInBounds_toArray, List.set_cons_zero, List.set_cons_succ]
  refine wpAnyH_take (i := 5) (v := ?vw5) rfl (by kernel_rfl) (by kernel_rfl) (by kernel_rfl) (fun _ _ _ h => h) (Or.inl ⟨by first | kernel_rfl | rfl, ?yw5⟩) hHeld ?rw5
  case yw5 => (intro W hSW; (try dsimp only at hSW); go_simp; (try with_reducible rfl))
  change wpAnyH _ _ _ _ _ _ _ (Act.put _ (some 17) _) _
  simp only [Act.put, List.setIfInBounds_toArray, List.set_cons_zero, List.set_cons_succ]
  refine wpAnyH_take (i := 6) (v := ?vw6) rfl (by kernel_rfl) (by kernel_rfl) (by kernel_rfl) (fun _ _ _ h => h) (Or.inl ⟨by first | kernel_rfl | rfl, ?yw6⟩) hHeld ?rw6
  case yw6 => (intro W hSW; (try dsimp only at hSW); go_simp; (try with_reducible rfl))
  change wpAnyH _ _ _ _ _ _ _ (Act.put _ (some 18) _) _
  simp only [Act.put, List.setIfInBounds_toArray, List.set_cons_zero, List.set_cons_succ]
  refine wpAnyH_take (i := 7) (v := ?vw7) rfl (by kernel_rfl) (by kernel_rfl) (by kernel_rfl) (fun _ _ _ h => h) (Or.inl ⟨by first | kernel_rfl | rfl, ?yw7⟩) hHeld ?rw7
  case yw7 => (intro W hSW; (try dsimp only at hSW); go_simp; (try with_reducible rfl))
  change wpAnyH _ _ _ _ _ _ _ (Act.put _ (some 19) _) _
  simp only [Act.put, List.setIfInBounds_toArray, List.set_cons_zero, List.set_cons_succ]
  refine wpAnyH_ready (rs := [8]) (by kernel_rfl) (by simp) ?_
  refine AllReadyH.cons rfl (fun K hK => ?_) AllReadyH.nil
  go_simp
  refine (HN.out _).mono ?_
  rintro e V1 ⟨rfl, hV⟩; subst V1
  refine hK.out _ _ (y0) (fun hHeld => ?_)
  clear hK K
  try simp only [Act.put, List.setIfInBounds_toArray, List.set_cons_zero, List.set_cons_succ]
  refine wpAnyH_take (i := 9) (v := ?vw9) rfl (by kernel_rfl) (by kernel_rfl) (by kernel_rfl) (fun _ _ _ h => h) (Or.inl ⟨by first | kernel_rfl | rfl, ?yw9⟩) hHeld ?rw9
  case yw9 => (intro W hSW; (try dsimp only at hSW); go_simp; (try with_reducible rfl))
  change wpAnyH _ _ _ _ _ _ _ (Act.put _ (some 21) _) _
  simp only [Act.put, List.setIfInBounds_toArray, List.set_cons_zero, List.set_cons_succ]
  refine wpAnyH_take (i := 10) (v := ?vw10) rfl (by kernel_rfl) (by kernel_rfl) (by kernel_rfl) (fun _ _ _ h => h) (Or.inl ⟨by first | kernel_rfl | rfl, ?yw10⟩) hHeld ?rw10
  case yw10 => (intro W hSW; (try dsimp only at hSW); go_simp; (try with_reducible rfl))
  change wpAnyH _ _ _ _ _ _ _ (Act.put _ (some 22) _) _
  simp only [Act.put, List.setIfInBounds_toArray, List.set_cons_zero, List.set_cons_succ]
  refine wpAnyH_done (by kernel_rfl) ?_ _
  clear y0 hHeld
  obtain ⟨W3, hW3⟩ : ∃ W3, W2.drew = W3 := ⟨_, rfl⟩
  have HB3 : Hid (Below (B + 2) W2 W3) := by rw [← hW3]; exact (Below.refl (B + 2) W2).drew
  obtain ⟨y0, y1, y2, y3, y4, _⟩ := row_at (HX.out W3 HB3.out).2.1
  have HRD3 := HRD.out W3 (HX.out W3 HB3.out).1
  go_wp2_with fail
  refine HRD3.mono ?_
  rintro e W4 ⟨rfl, hV4⟩
  have hs3 := HB3.out.size
  have HI : Hid (StR (B + 2) W4 (.slice none 0 0) (laysL (1 + 4 * n) (recUp D.kept 0)) ∧ Below (B + 2) W2 W4) := ⟨StR.nil _ _, HB3.out.trans (hV4.mono (by omega))⟩
  clear HRD3 hV4 y0 y1 y2 y3 y4 HB3 hs3
  go_wp2
  go_loopw [8, 9] (fun vl vi wr => ∃ i : Nat, i ≤ n ∧ vi = .int .i64 i ∧ StR (B + 2) wr vl (laysL (1 + 4 * n) (recUp D.kept i)) ∧ Below (B + 2) W2 wr) (fun _ vi _ => n - (intOf vi).toNat)
  case atStart => exact ⟨0, by omega, rfl, HI.out⟩
  case round =>
    clear HI
    obtain ⟨i, hin, rfl, hst, hbel⟩ := hrel
    by_cases hlt : i < n
    · have kk : (i : Int) < (n : Int) := by omega
      have HTI := HT.out wr i hlt
      obtain ⟨t, ht⟩ : ∃ t, tells m i = t := ⟨_, rfl⟩
      rw [ht] at HTI
      have HNX : Hid (recUp D.kept (i + 1) = if t = true then recUp D.kept i ++ [(i, pageAt D.kept (1 + 4 * i))] else recUp D.kept i) := by
        show _ = _
        rw [recUp_succ, HM.out, ht]
      have HST : Hid (StR (B + 2) wr u8 (laysL (1 + 4 * n) (recUp D.kept i))) := hst
      have HBE : Hid (Below (B + 2) W2 wr) := hbel
      have hbs := hbel.size
      clear hst hbel ht
      cases t with
      | false =>
        have hx := HST.out
        rw [← (HNX.out.trans (if_neg (by decide)))] at hx
        have HN2 : Hid (_ ∧ _) := And.intro hx HBE.out
        clear hx
        go_wp2_with fail
        refine HTI.mono ?_
        rintro e V1 ⟨rfl, hV1⟩
        subst V1
        clear HTI
        go_wp2
        exact ⟨⟨i + 1, by omega, by go_num, HN2.out⟩, by simp [intOf]; omega⟩
      | true =>
        obtain ⟨y0, y1, y2, y3, y4, _⟩ := row_at (HX.out wr HBE.out).2.1
        have HP1 := HPG.out wr i (HX.out wr HBE.out).1 hlt
        have hps := HPS.out i hlt
        have kpi : ((1 + 4 * i : Nat) : Int) = 1 + 4 * (i : Int) := by omega
        rw [kpi] at HP1
        obtain ⟨P, hP⟩ : ∃ P, pageAt D.kept (1 + 4 * i) = P := ⟨_, rfl⟩
        rw [hP] at HP1 hps HNX
        go_wp2_with fail
        refine HTI.mono ?_
        rintro e V1 ⟨rfl, hV1⟩
        subst V1
        clear HTI hP
        go_wp2_with fail
        refine HP1.mono ?_
        rintro e V1 ⟨rfl, hV1⟩
        have HLL : (laysL (1 + 4 * n) (recUp D.kept i)).length ≤ 100000 := by
          have := recUp_len D.kept i
          rw [laysL_len]
          omega
        have HB1 : Hid (Below (B + 2) W2 V1) := HBE.out.trans (hV1.mono (by omega))
        have hsv := HB1.out.size
        have HLA := rlaid_s (HST.out.keep hV1) HLL (by omega) (1 + 4 * (n + i)) (by omega) P hps
        rw [show ((1 + 4 * (n + i) : Nat) : Int) = 1 + 4 * ((n : Int) + (i : Int)) by omega] at HLA
        clear HP1 hV1 y0 y1 y2 y3 y4 HLL HST HBE
        go_wp2_with fail
        refine HLA.mono ?_
        rintro e V3 ⟨v3, rfl, hst3, hb3⟩
        have HN2 : Hid (StR (B + 2) V3 v3 (laysL (1 + 4 * n) (recUp D.kept (i + 1))) ∧ Below (B + 2) W2 V3) := by
          have hnx : recUp D.kept (i + 1) = recUp D.kept i ++ [(i, P)] := by rw [HNX.out]; simp
          rw [hnx, laysL_snoc]
          refine ⟨?_, HB1.out.trans hb3⟩
          rw [show 1 + 4 * n + 4 * (i, P).1 = 1 + 4 * (n + i) by show 1 + 4 * n + 4 * i = _; omega]
          exact hst3
        clear HLA hst3 hb3
        go_wp2
        exact ⟨⟨i + 1, by omega, by go_num, HN2.out⟩, by simp [intOf]; omega⟩
    · obtain rfl : i = n := by omega
      have kk : ¬ (i : Int) < (i : Int) := by omega
      rw [recUp_all] at hst
      have hrl := recUp_len D.kept i
      rw [recUp_all] at hrl
      obtain ⟨ax, cx, hvx, hox⟩ := hst
      subst hvx
      have hlx : (laysL (1 + 4 * i) (recL i D.kept)).length = 4 * (recL i D.kept).length := laysL_len _ _
      obtain ⟨XS, hXS⟩ : ∃ XS, laysL (1 + 4 * i) (recL i D.kept) = XS := ⟨_, rfl⟩
      obtain ⟨kx, hkx⟩ : ∃ kx, XS.length = kx := ⟨_, rfl⟩
      rw [hXS, hkx] at hox hlx
      rw [hXS] at HRUN
      rw [hXS, hkx]
      have HXS : Hid (laysL (1 + 4 * i) (recL i D.kept) = XS ∧ XS.length = kx) := ⟨hXS, hkx⟩
      have HOX : Hid (wr.ownsRow (B + 2) 81 2 (.slice ax kx cx) kx (chiV (XS.map stC))) := hox
      have HBX : Hid (Below (B + 2) W2 wr) := hbel
      have hbs := hbel.size
      have hkb : kx ≤ 4 * i := by omega
      have HLX : Hid (kx = 4 * (recL i D.kept).length) := hlx
      clear hox hbel hkx hXS hlx hrl
      by_cases h0 : kx = 0
      · subst h0
        have HE : Hid (runS D (recS i D.kept) = D ∧ codeS D (recS i D.kept) = 0) := by
          rw [recS_nil (List.eq_nil_of_length_eq_zero (by have := HLX.out; omega))]
          exact ⟨rfl, rfl⟩
        obtain ⟨y0, y1, y2, y3, y4, y5⟩ := row_at (HX.out wr HBX.out).2.1
        obtain ⟨u0, u1, u2, u3, u4, u5⟩ := row_at (HX.out wr HBX.out).2.2
        have kz : ((0 : Nat) : Int) = 0 := rfl
        have HFN : Hid (∀ V, V = (((((wr.setCell ⟨B + 1, 0, none⟩ (.slice (some ⟨lb, 0, none⟩) kl lc)).setCell ⟨B + 1, 1, none⟩ (.slice wa wl wc)).setCell ⟨B + 1, 2, none⟩ (.int .i64 fs)).setCell ⟨B + 1, 3, none⟩ (.int .i64 ws)).setCell ⟨B + 1, 4, none⟩ (.bool dn)) →
            (V.heap[B + 1]? = some (.cells #[.slice (some ⟨lb, 0, none⟩) kl lc, .slice wa wl wc, .int .i64 fs, .int .i64 ws, .bool dn] 32 (0, 0)) ∧ RefAt V lb lc wa wc D ∧ RefTo w V lb wa lb wa)) := by
          rintro V rfl
          have hb5 : Below w.heap.size w (((((wr.setCell ⟨B + 1, 0, none⟩ (.slice (some ⟨lb, 0, none⟩) kl lc)).setCell ⟨B + 1, 1, none⟩ (.slice wa wl wc)).setCell ⟨B + 1, 2, none⟩ (.int .i64 fs)).setCell ⟨B + 1, 3, none⟩ (.int .i64 ws)).setCell ⟨B + 1, 4, none⟩ (.bool dn)) := five_below' (HX.out wr HBX.out).1 (B + 1) (by omega) _ _ _ _ _
          exact ⟨five_heap wr (B + 1) _ _ _ _ _ _ _ _ _ _ _ (HX.out wr HBX.out).2.2, HRF.out _ hb5, .inl rfl, fun x hx => .inl hx, hb5⟩
        go_wp2
        obtain ⟨V9, hV9⟩ : ∃ V9, (((((wr.setCell ⟨B + 1, 0, none⟩ (.slice (some ⟨lb, 0, none⟩) kl lc)).setCell ⟨B + 1, 1, none⟩ (.slice wa wl wc)).setCell ⟨B + 1, 2, none⟩ (.int .i64 fs)).setCell ⟨B + 1, 3, none⟩ (.int .i64 ws)).setCell ⟨B + 1, 4, none⟩ (.bool dn)) = V9 := ⟨_, rfl⟩
        rw [hV9]
        obtain ⟨g1, g2, g3⟩ := HFN.out V9 hV9.symm
        obtain ⟨z0, z1, z2, z3, z4, _⟩ := row_at g1
        refine bodyPost_ret (v := .tuple #[.agg #[.slice (some ⟨lb, 0, none⟩) kl lc, .slice wa wl wc, .int .i64 fs, .int .i64 ws, .bool dn], .int .i64 0]) ?_ rfl ⟨lb, lc, wa, wc, ?_, ?_, g3⟩
        · simp [results, go_sem, z0, z1, z2, z3, z4]
        · rw [HE.out.1, HE.out.2, HKL.out]; rfl
        · rw [HE.out.1]; exact g2
      · have kz : ¬ (kx : Int) = 0 := by omega
        have HRS : Hid (recS i D.kept = XS ++ [none, some (0, nought), none]) := by
          show _ = _
          rw [recS_cons (fun e => h0 (by have hlx := HLX.out; rw [e] at hlx; simpa using hlx)), HXS.out.1]
        have HMM := HM0.out wr
        go_wp2_with fail
        refine HMM.mono ?_
        rintro e w5 ⟨rfl, hb5⟩
        have HO5 : Hid (w5.ownsRow (B + 2) 81 2 (.slice ax kx cx) kx (chiV (XS.map stC))) := own_keep HOX.out (fun x hx => hb5.block x (HOX.out.lt x hx).2)
        have HB5 : Hid (Below (B + 2) W2 w5) := HBX.out.trans (hb5.mono (by omega))
        have hbs5 := HB5.out.size
        clear HMM hb5 HOX HBX hbs
        go_wp2_with (at_builtin; refine wpList_append_lies _ rfl _ _ 50 rfl (B + 2) 81 i0 (.agg #[.int .i64 0, .string ByteArray.empty]) 2 24 Tryz.underlying50 hi0 hz0 hz1 hz2 rfl (by decide) _ kx (chiV (XS.map stC)) rfl (HO5.out.alloc _) ⟨w5.heap.size, 0, none⟩ 3 3 [.int .i64 (-1), .string ⟨#[]⟩, .int .i64 0, .string nought, .int .i64 (-1), .string ⟨#[]⟩] rfl rfl (World.news_of_block (heap_alloc_new w5 _)) (by simp [Value.oneCell']) (by omega) (by unfold maxLen; omega) (by omega) (by simp; omega) _ rfl ?_)
        intro g6 c6 w6 hown6 hgrow6 hg6 hlt6
        have HB6 : Hid (Below (B + 2) W2 w6) := Below.grown (HB5.out.alloc (by omega) _) hgrow6 (by simp; omega) (fun j hj => (HO5.out.lt _ hj).1)
        have hbs6 := HB6.out.size
        have hlen6 : (XS ++ [none, some (0, nought), none]).length = kx + 3 := by rw [List.length_append, HXS.out.2]; rfl
        have HN6 : Hid (w6.ownsRow (B + 2) 81 2 (.slice (some ⟨g6, 0, none⟩) (kx + 3) c6) (kx + 3) (chiV ((XS ++ [none, some (0, nought), none]).map stC))) := by
          rw [List.map_append, chiV_app, three_row]
          exact hown6
        have HR6 := HRUN.out w6 (some ⟨g6, 0, none⟩) (kx + 3) c6 (HX.out w6 HB6.out).1 (Ci.own HN6.out (by rw [List.length_map]; exact hlen6))
        rw [← HRS.out] at HR6
        obtain ⟨D9, hD9⟩ : ∃ D9, runS D (recS i D.kept) = D9 := ⟨_, rfl⟩
        obtain ⟨c9, hc9⟩ : ∃ c9, codeS D (recS i D.kept) = c9 := ⟨_, rfl⟩
        rw [hD9, hc9] at HR6
        have HD9 : Hid (runS D (recS i D.kept) = D9 ∧ codeS D (recS i D.kept) = c9) := ⟨hD9, hc9⟩
        obtain ⟨y0, y1, y2, y3, y4, _⟩ := row_at (HX.out w6 HB6.out).2.1
        clear hown6 hgrow6 hg6 hlt6 HO5 HB5 hlen6 hbs5 HN6 HRS hD9 hc9 HRUN
        go_wp2_with fail
        refine HR6.mono ?_
        rintro e V7 ⟨lb9, lc9, wa9, wc9, rfl, hr9, ht9⟩
        have HX7 : Hid (V7.heap[B + 1]? = some (.cells #[.slice none 0 0, .slice none 0 0, .int .i64 0, .int .i64 0, .bool false] 32 (0, 0))) := (ht9.b.block (B + 1) (by omega)).trans (HX.out w6 HB6.out).2.2
        obtain ⟨u0, u1, u2, u3, u4, u5⟩ := row_at HX7.out
        have HFN : Hid (∀ V, V = (((((V7.setCell ⟨B + 1, 0, none⟩ (.slice (some ⟨lb9, 0, none⟩) D9.kept.length lc9)).setCell ⟨B + 1, 1, none⟩ (.slice wa9 D9.waits.length wc9)).setCell ⟨B + 1, 2, none⟩ (.int .i64 (D9.fuse : Int))).setCell ⟨B + 1, 3, none⟩ (.int .i64 (D9.writes : Int))).setCell ⟨B + 1, 4, none⟩ (.bool (!D9.up))) →
            (V.heap[B + 1]? = some (.cells #[.slice (some ⟨lb9, 0, none⟩) D9.kept.length lc9, .slice wa9 D9.waits.length wc9, .int .i64 (D9.fuse : Int), .int .i64 (D9.writes : Int), .bool (!D9.up)] 32 (0, 0)) ∧ RefAt V lb9 lc9 wa9 wc9 D9 ∧ RefTo w V lb wa lb9 wa9)) := by
          rintro V rfl
          have hbw := (HX.out w6 HB6.out).1
          have hbw2 := hbw.size
          refine ⟨five_heap V7 (B + 1) _ _ _ _ _ _ _ _ _ _ _ HX7.out, hr9.keep (five_other _ _ _ _ _ _ _ _ ?_) (fun x hx => five_other _ _ _ _ _ _ _ _ ?_), ⟨?_, fun x hx => ?_, five_below' (hbw.trans (ht9.b.mono hbw2)) _ (by omega) _ _ _ _ _⟩⟩
          · rcases ht9.l with e | e <;> omega
          · rcases ht9.q x hx with e | e
            · have := hqw x e; omega
            · omega
          · rcases ht9.l with e | e
            · exact .inl e
            · exact .inr (by omega)
          · rcases ht9.q x hx with e | e
            · exact .inl e
            · exact .inr (by omega)
        unfold rcells
        clear HR6 hr9 ht9 y0 y1 y2 y3 y4
        go_wp2
        obtain ⟨V9, hV9⟩ : ∃ V9, (((((V7.setCell ⟨B + 1, 0, none⟩ (.slice (some ⟨lb9, 0, none⟩) D9.kept.length lc9)).setCell ⟨B + 1, 1, none⟩ (.slice wa9 D9.waits.length wc9)).setCell ⟨B + 1, 2, none⟩ (.int .i64 (D9.fuse : Int))).setCell ⟨B + 1, 3, none⟩ (.int .i64 (D9.writes : Int))).setCell ⟨B + 1, 4, none⟩ (.bool (!D9.up))) = V9 := ⟨_, rfl⟩
        rw [hV9]
        obtain ⟨g1, g2, g3⟩ := HFN.out V9 hV9.symm
        obtain ⟨z0, z1, z2, z3, z4, _⟩ := row_at g1
        refine bodyPost_ret (v := .tuple #[.agg #[.slice (some ⟨lb9, 0, none⟩) D9.kept.length lc9, .slice wa9 D9.waits.length wc9, .int .i64 (D9.fuse : Int), .int .i64 (D9.writes : Int), .bool (!D9.up)], .int .i64 (c9 : Int)]) ?_ rfl ⟨lb9, lc9, wa9, wc9, by rw [HD9.out.1, HD9.out.2]; rfl, by rw [HD9.out.1]; exact g2, g3⟩
        simp [results, go_sem, z0, z1, z2, z3, z4]
end Go.Proofs.YtaacedaehbaodaaGreat
