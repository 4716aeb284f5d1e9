/- Walk over the program's round. -/
import Derived.Test.YtbflkkffpcaakabDoorWF0
namespace Go.Proofs.YtbflkkffpcaakabDoor
open Go.RowKit
set_option maxRecDepth 100000 in
set_option maxHeartbeats 4000000 in
theorem round_any (s : List Nat) (w : World) (hs : s.length = 16) (hw : Wd s) (hL : Laid w) :
    Calls Tryd.prog 22 #[.agg (u32v s)] w fun e w' => e = .returned (.agg (u32v (roundN s 8))) ∧ Below w.heap.size w w' := by
  obtain ⟨B, hB⟩ : ∃ B, w.heap.size = B := ⟨_, rfl⟩
  have h2 : 2 < B := by rw [← hB]; exact hL.lt
  obtain ⟨W1, hW1⟩ : ∃ W, (w.alloc (.cells (u32v s) 41)).alloc (.cells #[Value.int IntKind.u32 0, Value.int IntKind.u32 0, Value.int IntKind.u32 0, Value.int IntKind.u32 0, Value.int IntKind.u32 0, Value.int IntKind.u32 0, Value.int IntKind.u32 0, Value.int IntKind.u32 0, Value.int IntKind.u32 0, Value.int IntKind.u32 0, Value.int IntKind.u32 0, Value.int IntKind.u32 0, Value.int IntKind.u32 0, Value.int IntKind.u32 0, Value.int IntKind.u32 0, Value.int IntKind.u32 0] 41) = W := ⟨_, rfl⟩
  have hROW : W1.heap[B]? = some (.cells (u32v s) 41 (0, 0)) := by
    rw [← hW1, ← hB, Go.heap_alloc_old _ _ (by simp)]; exact heap_alloc_new _ _
  have hRZ : ((w.alloc (.cells (u32v s) 41)).alloc (.cells (u32v zeros16) 41)).heap[B + 1]? = some (.cells (u32v zeros16) 41 (0, 0)) := by
    have := heap_alloc_new (w.alloc (.cells (u32v s) 41)) (.cells (u32v zeros16) 41)
    rw [← hB]
    simpa using this
  replace hRZ : W1.heap[B + 1]? = some (.cells (u32v zeros16) 41 (0, 0)) := by rw [← hW1]; exact hRZ
  have hbl : Below B w W1 := by rw [← hW1, ← hB]; exact ((Below.refl _ w).alloc (Nat.le_refl _) _).alloc (by simp) _
  have HST : Hid (RoW w B (roundN s 0) W1) := ⟨by rw [roundN_0]; exact hROW, hRZ, hbl⟩
  have HLB : Hid (∀ V, Below B w V → Laid V) := fun V hV => hL.below (by rw [hB]; exact hV)
  have HS : Hid (s.length = 16 ∧ Wd s) := ⟨hs, hw⟩
  have HB : Hid (w.heap.size = B) := hB
  clear hROW hRZ hbl hs hw hL
  go_enter Tryd.func22, Tryd.ntmps22
  go_wp2_with fail
  go_loopw [7] (fun v7 wr => ∃ n : Nat, n ≤ 8 ∧ v7 = .int .i64 (n : Int) ∧ RoW w B (roundN s n) wr) (fun v _ => 8 - (intOf v).toNat)
  case atStart => exact ⟨0, by omega, rfl, HST.out⟩
  case round =>
    clear HST
    obtain ⟨n, hn, rfl, hrel⟩ := hrel
    by_cases hlt : n < 8
    · have kn : (n : Int) < 8 := by omega
      obtain ⟨p0, p1, p2, p3, hp⟩ : ∃ p0 p1 p2 p3, qPlaces.getD n [] = [p0, p1, p2, p3] := by
        obtain ⟨hl4, _⟩ := quart_get n hlt
        match hq : qPlaces.getD n [], hl4 with
        | [a, b, c, d], _ => exact ⟨a, b, c, d, rfl⟩
      have hq := (quart_get n hlt).2
      have hQ := (HLB.out wr hrel.bl).q n hlt
      rw [hp] at hq hQ
      have l0 : p0 < 16 := hq 0 (by omega)
      have l1 : p1 < 16 := hq 1 (by omega)
      have l2 : p2 < 16 := hq 2 (by omega)
      have l3 : p3 < 16 := hq 3 (by omega)
      have c0 : wr.cell? ⟨0, n * 4, none⟩ = some (.int .i64 (p0 : Int)) := hQ 0 (by omega)
      have c1 : wr.cell? ⟨0, n * 4 + 1, none⟩ = some (.int .i64 (p1 : Int)) := hQ 1 (by omega)
      have c2 : wr.cell? ⟨0, n * 4 + 2, none⟩ = some (.int .i64 (p2 : Int)) := hQ 2 (by omega)
      have c3 : wr.cell? ⟨0, n * 4 + 3, none⟩ = some (.int .i64 (p3 : Int)) := hQ 3 (by omega)
      clear hq hQ
      have HN : Hid (roundN s (n + 1) = atP (roundN s n) [p0, p1, p2, p3]) := by show _ = _; rw [roundN_step s n hlt, hp]
      obtain ⟨S, hS⟩ : ∃ S, roundN s n = S := ⟨_, rfl⟩
      rw [hS] at HN hrel
      have hSl : S.length = 16 := by rw [← hS, roundN_len, HS.out.1]
      have hSw : Wd S := by rw [← hS]; exact roundN_wd HS.out.2 n
      obtain ⟨x0, hx0⟩ : ∃ x, S.getD p0 0 = x := ⟨_, rfl⟩
      obtain ⟨x1, hx1⟩ : ∃ x, S.getD p1 0 = x := ⟨_, rfl⟩
      obtain ⟨x2, hx2⟩ : ∃ x, S.getD p2 0 = x := ⟨_, rfl⟩
      obtain ⟨x3, hx3⟩ : ∃ x, S.getD p3 0 = x := ⟨_, rfl⟩
      have lx1 : x1 < 4294967296 := hx1 ▸ hSw.getD p1
      have lx3 : x3 < 4294967296 := hx3 ▸ hSw.getD p3
      obtain ⟨y0, y1, y2, y3, hy⟩ : ∃ y0 y1 y2 y3, quarterL x0 x1 x2 x3 = [y0, y1, y2, y3] := ⟨_, _, _, _, rfl⟩
      have HQ : Hid (∀ W, Calls Tryd.prog 25 #[.agg #[.int .u32 (x0 : Int), .int .u32 (x1 : Int), .int .u32 (x2 : Int), .int .u32 (x3 : Int)]] W fun e w' => e = .returned (.agg #[.int .u32 (y0 : Int), .int .u32 (y1 : Int), .int .u32 (y2 : Int), .int .u32 (y3 : Int)]) ∧ Below W.heap.size W w') := fun W => by
        have h := quarter_any x0 x1 x2 x3 W lx1 lx3
        rw [hy] at h
        exact h
      have HP4 : Hid (putN S [p0, p1, p2, p3] [y0, y1, y2, y3] 4 = roundN s (n + 1)) := by
        show _ = _
        rw [HN.out, ← putN_4]
        show putN S [p0, p1, p2, p3] [y0, y1, y2, y3] 4 = putN S [p0, p1, p2, p3] (quarterL (S.getD p0 0) (S.getD p1 0) (S.getD p2 0) (S.getD p3 0)) 4
        rw [hx0, hx1, hx2, hx3, hy]
      obtain ⟨A, hA⟩ : ∃ A, wr.heap.size = A := ⟨_, rfl⟩
      obtain ⟨U1, hU1⟩ : ∃ W, wr.alloc (.cells #[.int .i64 (p0 : Int), .int .i64 (p1 : Int), .int .i64 (p2 : Int), .int .i64 (p3 : Int)] 56) = W := ⟨_, rfl⟩
      have hb1 : Below A wr U1 := by rw [← hU1, ← hA]; exact (Below.refl _ _).alloc (Nat.le_refl _) _
      have hsz : U1.heap.size = A + 1 := by rw [← hU1, ← hA]; simp
      have hra : U1.heap[A]? = some (.cells (i4v [p0, p1, p2, p3]) 56 (0, 0)) := by rw [← hU1, ← hA]; exact heap_alloc_new _ _
      have hAB : B + 1 < A := by rw [← hA]; exact lt_of_some hrel.rz
      have HU : Hid (RoW w B S U1) := ⟨(hb1.block B (by omega)).trans hrel.rs, (hb1.block (B + 1) (by omega)).trans hrel.rz, hrel.bl.trans (hb1.mono (by omega))⟩
      have HSC : Hid (∀ V, Below U1.heap.size U1 V → V.cell? ⟨A, 0, none⟩ = some (.int .i64 (p0 : Int)) ∧ V.cell? ⟨A, 1, none⟩ = some (.int .i64 (p1 : Int)) ∧ V.cell? ⟨A, 2, none⟩ = some (.int .i64 (p2 : Int)) ∧ V.cell? ⟨A, 3, none⟩ = some (.int .i64 (p3 : Int)) ∧ V.cell? ⟨B, p0, none⟩ = some (.int .u32 (x0 : Int)) ∧ V.cell? ⟨B, p1, none⟩ = some (.int .u32 (x1 : Int)) ∧ V.cell? ⟨B, p2, none⟩ = some (.int .u32 (x2 : Int)) ∧ V.cell? ⟨B, p3, none⟩ = some (.int .u32 (x3 : Int))) := fun V hV => by
        have hr : V.heap[B]? = some (.cells (u32v S) 41 (0, 0)) := (hV.block B (by omega)).trans HU.out.rs
        have ha : V.heap[A]? = some (.cells (i4v [p0, p1, p2, p3]) 56 (0, 0)) := (hV.block A (by omega)).trans hra
        refine ⟨?_, ?_, ?_, ?_, ?_, ?_, ?_, ?_⟩
        · rw [cell_of_row _ _ _ _ _ _ ha]; rfl
        · rw [cell_of_row _ _ _ _ _ _ ha]; rfl
        · rw [cell_of_row _ _ _ _ _ _ ha]; rfl
        · rw [cell_of_row _ _ _ _ _ _ ha]; rfl
        · rw [cell_of_row _ _ _ _ _ _ hr, u32v_get _ _ (by omega), hx0]
        · rw [cell_of_row _ _ _ _ _ _ hr, u32v_get _ _ (by omega), hx1]
        · rw [cell_of_row _ _ _ _ _ _ hr, u32v_get _ _ (by omega), hx2]
        · rw [cell_of_row _ _ _ _ _ _ hr, u32v_get _ _ (by omega), hx3]
      have HTO : Hid (∀ V G, Below U1.heap.size U1 V → G ≠ B → V.heap[G]? = some (.cells (u32v [y0, y1, y2, y3]) 58 (0, 0)) → RdW w B A G S [p0, p1, p2, p3] [y0, y1, y2, y3] V) := fun V G hV hg hr =>
        ⟨(hV.block B (by omega)).trans HU.out.rs, (hV.block A (by omega)).trans hra, hr, (hV.block (B + 1) (by omega)).trans HU.out.rz, by omega, hg, HU.out.bl.trans (hV.mono (by omega))⟩
      have HSL : Hid (S.length = 16) := hSl
      have HLT : Hid ([p0, p1, p2, p3].length = 4 ∧ ∀ k, k < 4 → [p0, p1, p2, p3].getD k 0 < 16) := ⟨rfl, fun k hk => by rw [← hp]; exact (quart_get n hlt).2 k hk⟩
      have kp0 : (p0 : Int) < 16 := by omega
      have kp1 : (p1 : Int) < 16 := by omega
      have kp2 : (p2 : Int) < 16 := by omega
      have kp3 : (p3 : Int) < 16 := by omega
      clear hp hx0 hx1 hx2 hx3 hy hS hSl hSw hrel hra hb1 lx1 lx3
      go_wp2_with fail
      refine wp_region_held_drew (S := fun W => W.cell? ⟨A, 0, none⟩ = some (.int .i64 (p0 : Int)) ∧ W.cell? ⟨A, 1, none⟩ = some (.int .i64 (p1 : Int)) ∧ W.cell? ⟨A, 2, none⟩ = some (.int .i64 (p2 : Int)) ∧ W.cell? ⟨A, 3, none⟩ = some (.int .i64 (p3 : Int)) ∧ W.cell? ⟨B, p0, none⟩ = some (.int .u32 (x0 : Int)) ∧ W.cell? ⟨B, p1, none⟩ = some (.int .u32 (x1 : Int)) ∧ W.cell? ⟨B, p2, none⟩ = some (.int .u32 (x2 : Int)) ∧ W.cell? ⟨B, p3, none⟩ = some (.int .u32 (x3 : Int))) (by kernel_rfl) (HSC.out _ (Below.refl _ _).drew) (fun hHeld => ?_)
      refine wpAnyH_take (i := 0) (v := ?va_0) rfl (by kernel_rfl) (by kernel_rfl) (by kernel_rfl) (fun _ _ _ h => h) (Or.inl ⟨by first | kernel_rfl | rfl, ?ya_0⟩) hHeld ?ra_0
      case ya_0 => (intro W hSW; (try dsimp only at hSW); go_simp; (try with_reducible rfl))
      change wpAnyH _ _ _ _ _ _ _ (Act.put _ (some 13) _) _
      simp only [Act.put, List.setIfInBounds_toArray, List.set_cons_zero, List.set_cons_succ]
      refine wpAnyH_take (i := 1) (v := ?va_1) rfl (by kernel_rfl) (by kernel_rfl) (by kernel_rfl) (fun _ _ _ h => h) (Or.inl ⟨by first | kernel_rfl | rfl, ?ya_1⟩) hHeld ?ra_1
      case ya_1 => (intro W hSW; (try dsimp only at hSW); go_simp; (try with_reducible rfl))
      change wpAnyH _ _ _ _ _ _ _ (Act.put _ (some 14) _) _
      simp only [Act.put, List.setIfInBounds_toArray, List.set_cons_zero, List.set_cons_succ]
      refine wpAnyH_take (i := 2) (v := ?va_2) rfl (by kernel_rfl) (by kernel_rfl) (by kernel_rfl) (fun _ _ _ h => h) (Or.inl ⟨by first | kernel_rfl | rfl, ?ya_2⟩) hHeld ?ra_2
      case ya_2 => (intro W hSW; (try dsimp only at hSW); go_simp; (try with_reducible rfl))
      change wpAnyH _ _ _ _ _ _ _ (Act.put _ (some 15) _) _
      simp only [Act.put, List.setIfInBounds_toArray, List.set_cons_zero, List.set_cons_succ]
      refine wpAnyH_take (i := 3) (v := ?va_3) rfl (by kernel_rfl) (by kernel_rfl) (by kernel_rfl) (fun _ _ _ h => h) (Or.inl ⟨by first | kernel_rfl | rfl, ?ya_3⟩) hHeld ?ra_3
      case ya_3 => (intro W hSW; (try dsimp only at hSW); go_simp; (try with_reducible rfl))
      change wpAnyH _ _ _ _ _ _ _ (Act.put _ (some 16) _) _
      simp only [Act.put, List.setIfInBounds_toArray, List.set_cons_zero, List.set_cons_succ]
      refine wpAnyH_take (i := 4) (v := ?va_4) rfl (by kernel_rfl) (by kernel_rfl) (by kernel_rfl) (fun _ _ _ h => h) (Or.inl ⟨by first | kernel_rfl | rfl, ?ya_4⟩) hHeld ?ra_4
      case ya_4 => (intro W hSW; (try dsimp only at hSW); go_simp; (try with_reducible rfl))
      change wpAnyH _ _ _ _ _ _ _ (Act.put _ (some 17) _) _
      simp only [Act.put, List.setIfInBounds_toArray, List.set_cons_zero, List.set_cons_succ]
      refine wpAnyH_take (i := 5) (v := ?va_5) rfl (by kernel_rfl) (by kernel_rfl) (by kernel_rfl) (fun _ _ _ h => h) (Or.inl ⟨by first | kernel_rfl | rfl, ?ya_5⟩) hHeld ?ra_5
      case ya_5 => (intro W hSW; (try dsimp only at hSW); go_simp; (try with_reducible rfl))
      change wpAnyH _ _ _ _ _ _ _ (Act.put _ (some 18) _) _
      simp only [Act.put, List.setIfInBounds_toArray, List.set_cons_zero, List.set_cons_succ]
      refine wpAnyH_take (i := 6) (v := ?va_6) rfl (by kernel_rfl) (by kernel_rfl) (by kernel_rfl) (fun _ _ _ h => h) (Or.inl ⟨by first | kernel_rfl | rfl, ?ya_6⟩) hHeld ?ra_6
      case ya_6 => (intro W hSW; (try dsimp only at hSW); go_simp; (try with_reducible rfl))
      change wpAnyH _ _ _ _ _ _ _ (Act.put _ (some 19) _) _
      simp only [Act.put, List.setIfInBounds_toArray, List.set_cons_zero, List.set_cons_succ]
      refine wpAnyH_take (i := 7) (v := ?va_7) rfl (by kernel_rfl) (by kernel_rfl) (by kernel_rfl) (fun _ _ _ h => h) (Or.inl ⟨by first | kernel_rfl | rfl, ?ya_7⟩) hHeld ?ra_7
      case ya_7 => (intro W hSW; (try dsimp only at hSW); go_simp; (try with_reducible rfl))
      change wpAnyH _ _ _ _ _ _ _ (Act.put _ (some 20) _) _
      simp only [Act.put, List.setIfInBounds_toArray, List.set_cons_zero, List.set_cons_succ]
      refine wpAnyH_take (i := 8) (v := ?va_8) rfl (by kernel_rfl) (by kernel_rfl) (by kernel_rfl) (fun _ _ _ h => h) (Or.inl ⟨by first | kernel_rfl | rfl, ?ya_8⟩) hHeld ?ra_8
      case ya_8 => (intro W hSW; (try dsimp only at hSW); go_simp; (try with_reducible rfl))
      change wpAnyH _ _ _ _ _ _ _ (Act.put _ (some 21) _) _
      simp only [Act.put, List.setIfInBounds_toArray, List.set_cons_zero, List.set_cons_succ]
      refine wpAnyH_take (i := 9) (v := ?va_9) rfl (by kernel_rfl) (by kernel_rfl) (by kernel_rfl) (fun _ _ _ h => h) (Or.inl ⟨by first | kernel_rfl | rfl, ?ya_9⟩) hHeld ?ra_9
      case ya_9 => (intro W hSW; (try dsimp only at hSW); go_simp; (try with_reducible rfl))
      change wpAnyH _ _ _ _ _ _ _ (Act.put _ (some 22) _) _
      simp only [Act.put, List.setIfInBounds_toArray, List.set_cons_zero, List.set_cons_succ]
      refine wpAnyH_take (i := 10) (v := ?va_10) rfl (by kernel_rfl) (by kernel_rfl) (by kernel_rfl) (fun _ _ _ h => h) (Or.inl ⟨by first | kernel_rfl | rfl, ?ya_10⟩) hHeld ?ra_10
      case ya_10 => (intro W hSW; (try dsimp only at hSW); go_simp; (try with_reducible rfl))
      change wpAnyH _ _ _ _ _ _ _ (Act.put _ (some 23) _) _
      simp only [Act.put, List.setIfInBounds_toArray, List.set_cons_zero, List.set_cons_succ]
      refine wpAnyH_take (i := 11) (v := ?va_11) rfl (by kernel_rfl) (by kernel_rfl) (by kernel_rfl) (fun _ _ _ h => h) (Or.inl ⟨by first | kernel_rfl | rfl, ?ya_11⟩) hHeld ?ra_11
      case ya_11 => (intro W hSW; (try dsimp only at hSW); go_simp; (try with_reducible rfl))
      change wpAnyH _ _ _ _ _ _ _ (Act.put _ (some 24) _) _
      simp only [Act.put, List.setIfInBounds_toArray, List.set_cons_zero, List.set_cons_succ]
      refine wpAnyH_take (i := 12) (v := ?va_12) rfl (by kernel_rfl) (by kernel_rfl) (by kernel_rfl) (fun _ _ _ h => h) (Or.inl ⟨by first | kernel_rfl | rfl, ?ya_12⟩) hHeld ?ra_12
      case ya_12 => (intro W hSW; (try dsimp only at hSW); go_simp; (try with_reducible rfl))
      change wpAnyH _ _ _ _ _ _ _ (Act.put _ (some 25) _) _
      simp only [Act.put, List.setIfInBounds_toArray, List.set_cons_zero, List.set_cons_succ]
      refine wpAnyH_take (i := 13) (v := ?va_13) rfl (by kernel_rfl) (by kernel_rfl) (by kernel_rfl) (fun _ _ _ h => h) (Or.inl ⟨by first | kernel_rfl | rfl, ?ya_13⟩) hHeld ?ra_13
      case ya_13 => (intro W hSW; (try dsimp only at hSW); go_simp; (try with_reducible rfl))
      change wpAnyH _ _ _ _ _ _ _ (Act.put _ (some 26) _) _
      simp only [Act.put, List.setIfInBounds_toArray, List.set_cons_zero, List.set_cons_succ]
      refine wpAnyH_take (i := 14) (v := ?va_14) rfl (by kernel_rfl) (by kernel_rfl) (by kernel_rfl) (fun _ _ _ h => h) (Or.inl ⟨by first | kernel_rfl | rfl, ?ya_14⟩) hHeld ?ra_14
      case ya_14 => (intro W hSW; (try dsimp only at hSW); go_simp; (try with_reducible rfl))
      change wpAnyH _ _ _ _ _ _ _ (Act.put _ (some 27) _) _
      simp only [Act.put, List.setIfInBounds_toArray, List.set_cons_zero, List.set_cons_succ]
      refine wpAnyH_take (i := 15) (v := ?va_15) rfl (by kernel_rfl) (by kernel_rfl) (by kernel_rfl) (fun _ _ _ h => h) (Or.inl ⟨by first | kernel_rfl | rfl, ?ya_15⟩) hHeld ?ra_15
      case ya_15 => (intro W hSW; (try dsimp only at hSW); go_simp; (try with_reducible rfl))
      change wpAnyH _ _ _ _ _ _ _ (Act.put _ (some 28) _) _
      simp only [Act.put, List.setIfInBounds_toArray, List.set_cons_zero, List.set_cons_succ]
      refine wpAnyH_take (i := 16) (v := ?va_16) rfl (by kernel_rfl) (by kernel_rfl) (by kernel_rfl) (fun _ _ _ h => h) (Or.inl ⟨by first | kernel_rfl | rfl, ?ya_16⟩) hHeld ?ra_16
      case ya_16 => (intro W hSW; (try dsimp only at hSW); go_simp; (try with_reducible rfl))
      change wpAnyH _ _ _ _ _ _ _ (Act.put _ (some 29) _) _
      simp only [Act.put, List.setIfInBounds_toArray, List.set_cons_zero, List.set_cons_succ]
      refine wpAnyH_ready (rs := [17, 18]) (by kernel_rfl) (by simp) ?_
      refine AllReadyH.cons rfl (fun K hK => ?_) (AllReadyH.cons rfl (fun K hK => ?_) AllReadyH.nil)
      · go_simp
        refine (HQ.out _).mono ?_
        rintro e w6 ⟨rfl, hb6⟩
        have HB6 : Hid (Below U1.heap.size U1 w6) := (Below.refl _ U1).drew.trans (hb6.mono (Nat.le_refl _))
        have hB6 : U1.heap.size ≤ w6.heap.size := HB6.out.size
        clear hb6
        refine hK.out _ _ (HSC.out _ HB6.out) (fun hHeld => ?_)
        clear hK K
        try simp only [Act.put, List.setIfInBounds_toArray, List.set_cons_zero, List.set_cons_succ]
        refine wpAnyH_ready (rs := [18]) (by kernel_rfl) (by simp) ?_
        refine AllReadyH.cons rfl (fun K hK => ?_) AllReadyH.nil
        go_simp
        refine hK.out _ _ (HSC.out _ (HB6.out.alloc HB6.out.size _)) (fun hHeld => ?_)
        clear hK K
        refine wpAnyH_ready (rs := [19]) (by kernel_rfl) (by simp) ?_
        refine AllReadyH.cons rfl (fun K hK => ?_) AllReadyH.nil
        go_simp
        refine hK.out _ _ (HSC.out _ (HB6.out.alloc HB6.out.size _)) (fun hHeld => ?_)
        clear hK K
        refine wpAnyH_done (by kernel_rfl) ?_ _
        obtain ⟨W5, hW5⟩ : ∃ W, w6.alloc (.cells #[.int .u32 (y0 : Int), .int .u32 (y1 : Int), .int .u32 (y2 : Int), .int .u32 (y3 : Int)] 58) = W := ⟨_, rfl⟩
        have HT : Hid (RdW w B A (w6.heap.size) S [p0, p1, p2, p3] [y0, y1, y2, y3] W5) := by
          show RdW _ _ _ _ _ _ _ _
          rw [← hW5]
          exact HTO.out _ _ (HB6.out.alloc HB6.out.size _) (by omega) (heap_alloc_new _ _)
        try rw [hW5]
        clear hW5
        obtain ⟨G, hG⟩ : ∃ G, w6.heap.size = G := ⟨_, rfl⟩
        try rw [hG]
        rw [hG] at HT
        clear hG HSC HTO HQ HU kp0 kp1 kp2 kp3 c0 c1 c2 c3 hU1 HB6 hB6 hHeld
        go_wp2_with fail
        go_loopw [31] (fun v31 wr => ∃ k : Nat, k ≤ 4 ∧ v31 = .int .i64 (k : Int) ∧ RdW w B A G (putN S [p0, p1, p2, p3] [y0, y1, y2, y3] k) [p0, p1, p2, p3] [y0, y1, y2, y3] wr) (fun v _ => 4 - (intOf v).toNat)
        case atStart => exact ⟨0, by omega, rfl, HT.out⟩
        case round =>
          clear HT
          obtain ⟨k, hk, rfl, hrel⟩ := hrel
          by_cases hk4 : k < 4
          · have kk : (k : Int) < 4 := by omega
            have ca := hrel.ac k hk4
            have cq := hrel.qc k hk4
            have hpk := HLT.out.2 k hk4
            obtain ⟨pk, hpk'⟩ : ∃ x, [p0, p1, p2, p3].getD k 0 = x := ⟨_, rfl⟩
            obtain ⟨yk, hyk⟩ : ∃ x, [y0, y1, y2, y3].getD k 0 = x := ⟨_, rfl⟩
            have HX := hrel.put pk yk
            rw [hpk'] at ca hpk
            rw [hyk] at cq
            have cs := hrel.sc pk (by rw [putN_len, HSL.out]; exact hpk)
            have fs := hrel.sf pk
            obtain ⟨W9, hW9⟩ : ∃ W, wr.setCell ⟨B, pk, none⟩ (.int .u32 (yk : Int)) = W := ⟨_, rfl⟩
            rw [hW9, ← hpk', ← hyk] at HX
            have HX' : Hid (RdW w B A G (putN S [p0, p1, p2, p3] [y0, y1, y2, y3] (k + 1)) [p0, p1, p2, p3] [y0, y1, y2, y3] W9.drew) := HX.drew
            have kpk : (pk : Int) < 16 := by omega
            obtain ⟨z, hz⟩ : ∃ z, wr.cell? ⟨B, pk, none⟩ = some z := ⟨_, cs⟩
            clear cs hrel HX hpk' hyk hpk
            go_wp2_with fail
            go_region
            go_wp2
            exact ⟨⟨k + 1, by omega, by go_num, HX'.out⟩, by simp [intOf]; omega⟩
          · obtain rfl : k = 4 := by omega
            rw [HP4.out] at hrel
            have HX : Hid (RoW w B (roundN s (n + 1)) wr) := ⟨hrel.rs, hrel.rz, hrel.bl⟩
            clear hrel
            go_wp2
            exact ⟨⟨n + 1, by omega, by go_num, HX.out⟩, by simp [intOf]; omega⟩
      · go_simp
        refine hK.out _ _ (HSC.out _ ((Below.refl _ _).drew.alloc (Nat.le_refl _) _)) (fun hHeld => ?_)
        clear hK K
        try simp only [Act.put, List.setIfInBounds_toArray, List.set_cons_zero, List.set_cons_succ]
        refine wpAnyH_ready (rs := [17]) (by kernel_rfl) (by simp) ?_
        refine AllReadyH.cons rfl (fun K hK => ?_) AllReadyH.nil
        go_simp
        refine (HQ.out _).mono ?_
        rintro e w7 ⟨rfl, hb7⟩
        have hz7 : w7.heap[A + 1]? = some (.cells (u32v [0, 0, 0, 0]) 58 (0, 0)) := (hb7.block (A + 1) (by simp; omega)).trans (by rw [← hsz]; exact heap_alloc_new U1.drew _)
        have HB7 : Hid (Below U1.heap.size U1 w7) := ((Below.refl _ U1).drew.alloc (Nat.le_refl _) _).trans (hb7.mono (by simp))
        clear hb7
        refine hK.out _ _ (HSC.out _ HB7.out) (fun hHeld => ?_)
        clear hK K
        try simp only [Act.put, List.setIfInBounds_toArray, List.set_cons_zero, List.set_cons_succ]
        have zc0 : w7.cell? ⟨A + 1, 0, none⟩ = some (.int .u32 0) := by rw [cell_of_row w7 _ 0 _ _ _ hz7]; rfl
        have zf0 : w7.frozen? ⟨A + 1, 0, none⟩ = false := frozen_of_row w7 _ 0 _ _ hz7
        have zc1 : w7.cell? ⟨A + 1, 1, none⟩ = some (.int .u32 0) := by rw [cell_of_row w7 _ 1 _ _ _ hz7]; rfl
        have zf1 : w7.frozen? ⟨A + 1, 1, none⟩ = false := frozen_of_row w7 _ 1 _ _ hz7
        have zc2 : w7.cell? ⟨A + 1, 2, none⟩ = some (.int .u32 0) := by rw [cell_of_row w7 _ 2 _ _ _ hz7]; rfl
        have zf2 : w7.frozen? ⟨A + 1, 2, none⟩ = false := frozen_of_row w7 _ 2 _ _ hz7
        have zc3 : w7.cell? ⟨A + 1, 3, none⟩ = some (.int .u32 0) := by rw [cell_of_row w7 _ 3 _ _ _ hz7]; rfl
        have zf3 : w7.frozen? ⟨A + 1, 3, none⟩ = false := frozen_of_row w7 _ 3 _ _ hz7
        have HZ7 : Hid (w7.heap[A + 1]? = some (.cells (u32v [0, 0, 0, 0]) 58 (0, 0))) := hz7
        have HB8 : Hid (Below U1.heap.size U1 ((((w7.setCell ⟨A + 1, 0, none⟩ (.int .u32 (y0 : Int))).setCell ⟨A + 1, 1, none⟩ (.int .u32 (y1 : Int))).setCell ⟨A + 1, 2, none⟩ (.int .u32 (y2 : Int))).setCell ⟨A + 1, 3, none⟩ (.int .u32 (y3 : Int)))) := ((((HB7.out.setCell (Nat.le_of_eq hsz) _).setCell (Nat.le_of_eq hsz) _).setCell (Nat.le_of_eq hsz) _).setCell (Nat.le_of_eq hsz) _)
        clear hz7
        refine wpAnyH_ready (rs := [19]) (by kernel_rfl) (by simp) ?_
        refine AllReadyH.cons rfl (fun K hK => ?_) AllReadyH.nil
        go_simp
        refine hK.out _ _ (HSC.out _ HB8.out) (fun hHeld => ?_)
        clear hK K
        refine wpAnyH_done (by kernel_rfl) ?_ _
        obtain ⟨W5, hW5⟩ : ∃ W, (((w7.setCell ⟨A + 1, 0, none⟩ (.int .u32 (y0 : Int))).setCell ⟨A + 1, 1, none⟩ (.int .u32 (y1 : Int))).setCell ⟨A + 1, 2, none⟩ (.int .u32 (y2 : Int))).setCell ⟨A + 1, 3, none⟩ (.int .u32 (y3 : Int)) = W := ⟨_, rfl⟩
        have HT : Hid (RdW w B A (A + 1) S [p0, p1, p2, p3] [y0, y1, y2, y3] W5) := by
          show RdW _ _ _ _ _ _ _ _
          rw [← hW5]
          exact HTO.out _ (A + 1) HB8.out (by omega) (row_put4 w7 (A + 1) y0 y1 y2 y3 HZ7.out)
        try rw [hW5]
        clear hW5
        obtain ⟨G, hG⟩ : ∃ G, A + 1 = G := ⟨_, rfl⟩
        try rw [hG]
        rw [hG] at HT
        clear hG HSC HTO HQ HU kp0 kp1 kp2 kp3 c0 c1 c2 c3 hU1 HB7 HB8 HZ7 zc0 zc1 zc2 zc3 zf0 zf1 zf2 zf3 hHeld
        go_wp2_with fail
        go_loopw [31] (fun v31 wr => ∃ k : Nat, k ≤ 4 ∧ v31 = .int .i64 (k : Int) ∧ RdW w B A G (putN S [p0, p1, p2, p3] [y0, y1, y2, y3] k) [p0, p1, p2, p3] [y0, y1, y2, y3] wr) (fun v _ => 4 - (intOf v).toNat)
        case atStart => exact ⟨0, by omega, rfl, HT.out⟩
        case round =>
          clear HT
          obtain ⟨k, hk, rfl, hrel⟩ := hrel
          by_cases hk4 : k < 4
          · have kk : (k : Int) < 4 := by omega
            have ca := hrel.ac k hk4
            have cq := hrel.qc k hk4
            have hpk := HLT.out.2 k hk4
            obtain ⟨pk, hpk'⟩ : ∃ x, [p0, p1, p2, p3].getD k 0 = x := ⟨_, rfl⟩
            obtain ⟨yk, hyk⟩ : ∃ x, [y0, y1, y2, y3].getD k 0 = x := ⟨_, rfl⟩
            have HX := hrel.put pk yk
            rw [hpk'] at ca hpk
            rw [hyk] at cq
            have cs := hrel.sc pk (by rw [putN_len, HSL.out]; exact hpk)
            have fs := hrel.sf pk
            obtain ⟨W9, hW9⟩ : ∃ W, wr.setCell ⟨B, pk, none⟩ (.int .u32 (yk : Int)) = W := ⟨_, rfl⟩
            rw [hW9, ← hpk', ← hyk] at HX
            have HX' : Hid (RdW w B A G (putN S [p0, p1, p2, p3] [y0, y1, y2, y3] (k + 1)) [p0, p1, p2, p3] [y0, y1, y2, y3] W9.drew) := HX.drew
            have kpk : (pk : Int) < 16 := by omega
            obtain ⟨z, hz⟩ : ∃ z, wr.cell? ⟨B, pk, none⟩ = some z := ⟨_, cs⟩
            clear cs hrel HX hpk' hyk hpk
            go_wp2_with fail
            go_region
            go_wp2
            exact ⟨⟨k + 1, by omega, by go_num, HX'.out⟩, by simp [intOf]; omega⟩
          · obtain rfl : k = 4 := by omega
            rw [HP4.out] at hrel
            have HX : Hid (RoW w B (roundN s (n + 1)) wr) := ⟨hrel.rs, hrel.rz, hrel.bl⟩
            clear hrel
            go_wp2
            exact ⟨⟨n + 1, by omega, by go_num, HX.out⟩, by simp [intOf]; omega⟩
    · obtain rfl : n = 8 := by omega
      have HR : Hid (RoW w B (roundN s 8) wr) := hrel
      clear hrel
      have HI := infoU16 (roundN s 8) (by rw [roundN_len, HS.out.1])
      go_wp2_with (first | (refine wpList_load_row rfl 41 _ rfl B rfl 41 (u32v (roundN s 8)) (0, 0) _ HR.out.rs Tryd.underlying41 rfl HI ?_) | (refine wpList_store_row rfl 41 _ _ rfl (B + 1) (u32v (roundN s 8)) rfl rfl 41 (u32v zeros16) HR.out.rz HI (by rw [u32v_size, u32v_size, roundN_len, HS.out.1]; rfl) (u32v_all _) ?_))
      refine bodyPost_ret (v := .agg (u32v (roundN s 8))) ?_ rfl ⟨rfl, HB.out ▸ below_setRow HR.out.bl (B + 1) (Nat.le_succ _) _⟩
      exact results_cell_row rfl _ _ (B + 1) 41 _ (0, 0) _ rfl (setRow_heap _ _ _ _ _ _ HR.out.rz) Tryd.underlying41 rfl HI
end Go.Proofs.YtbflkkffpcaakabDoor
