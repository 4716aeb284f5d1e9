/- A walk over the document's Changed. -/
import Derived.Test.YtdgffocmdkadpaaGreatRK
namespace Go.Proofs.YtdgffocmdkadpaaGreat
open Go.RowKit Go.Shelf Pg
def ChTo (n : Nat) (w : World) (e : Ending) (w' : World) : Prop := ∃ (a : Option Addr) (c : Nat) (l : List Nat), e = .returned (.slice a l.length c) ∧ (∀ x ∈ l, x < n) ∧ l.length ≤ n ∧ w'.ownsRow w.heap.size 3 1 (.slice a l.length c) l.length (intsV l) ∧ Below w.heap.size w w'
set_option maxRecDepth 100000 in
set_option maxHeartbeats 8000000 in
theorem rchanged_any {F : Nat → Prop} {w : World} {n : Nat} {gs ns : Array Value} {pv : Value} {oa : Option Addr} {oc : Nat} {os : List ByteArray} (hg : DSt F w n (.agg gs)) (hs : DSt F w n (.agg ns)) (ho : Rw F w 9 1 oa n oc (strsV os)) (hn : 1 ≤ n) (hn2 : n ≤ 128) : Calls Tryz.prog 103 #[pgR gs ns pv, .slice oa n oc] w fun e w' => ChTo n w e w' := by
  obtain ⟨gua, guc, gda, gdc, gus, gds, g0, g1, g2, g3, gser, eg, hgu, hgd⟩ := hg
  obtain ⟨nua, nuc, nda, ndc, nus, nds, n0, n1, n2, n3, nser, en, hnu, hnd⟩ := hs
  cases eg
  cases en
  obtain ⟨_, gb, go, rfl, hgbl, _, hgc⟩ := bools_row hgu hn
  obtain ⟨_, nb, no, rfl, hnbl, _, hnc⟩ := bools_row hnu hn
  obtain ⟨_, db, dO, rfl, hdbl, _, hdc⟩ := strs_row hnd hn
  obtain ⟨_, ob_, oo, rfl, hobl, _, hoc⟩ := strs_row ho hn
  have k1 := rw_cap hgu
  have k2 := rw_cap hnu
  have k3 := rw_cap hnd
  have k4 := rw_cap ho
  obtain ⟨B, hB⟩ : ∃ B, w.heap.size = B := ⟨_, rfl⟩
  rw [hB] at hgbl hnbl hdbl hobl
  unfold pgR
  obtain ⟨row, hrow⟩ : ∃ row : Array Value, #[.slice (some ⟨gb, go, none⟩) n guc, .slice gda n gdc, .int .i64 g0, .int .i64 g1, .int .i64 g2, .int .i64 g3, .int .u64 gser] ++ #[.slice (some ⟨nb, no, none⟩) n nuc, .slice (some ⟨db, dO, none⟩) n ndc, .int .i64 n0, .int .i64 n1, .int .i64 n2, .int .i64 n3, .int .u64 nser] ++ #[pv] = row := ⟨_, rfl⟩
  rw [hrow]
  have hrz : row.size = 15 := by rw [← hrow]; rfl
  obtain ⟨W1, hW1⟩ : ∃ W1, w.alloc (.cells row 53) = W1 := ⟨_, rfl⟩
  have q1 : W1.heap[B]? = some (.cells row 53 (0, 0)) := by rw [← hW1, ← hB]; exact heap_alloc_new w _
  have s1 : W1.heap.size = B + 1 := by rw [← hW1, ← hB]; simp
  have b1 : Below B w W1 := by rw [← hW1, ← hB]; exact (Below.refl _ w).alloc (Nat.le_refl _) _
  have hl9 := load_part (P := Tryz.prog) W1 B 9 39 _ _ _ _ [.int .i64 n0, .int .i64 n1, .int .i64 n2, .int .i64 n3] q1 Tryz.underlying39 rfl info_a4 (fun j v hv => by
    rw [← hrow]
    have hj : j < 4 := (List.getElem?_eq_some_iff.1 hv).1
    match j, hj with
    | 0, _ => exact hv
    | 1, _ => exact hv
    | 2, _ => exact hv
    | 3, _ => exact hv)
  have hl2 := load_part (P := Tryz.prog) W1 B 2 39 _ _ _ _ [.int .i64 g0, .int .i64 g1, .int .i64 g2, .int .i64 g3] q1 Tryz.underlying39 rfl info_a4 (fun j v hv => by
    rw [← hrow]
    have hj : j < 4 := (List.getElem?_eq_some_iff.1 hv).1
    match j, hj with
    | 0, _ => exact hv
    | 1, _ => exact hv
    | 2, _ => exact hv
    | 3, _ => exact hv)
  have heq : ∃ hd0 : Bool, (Op.equalIn 10000 39 (.agg #[.int .i64 n0, .int .i64 n1, .int .i64 n2, .int .i64 n3]) (.agg #[.int .i64 g0, .int .i64 g1, .int .i64 g2, .int .i64 g3])).run Tryz.prog W1 = .ok hd0 W1 := ⟨_, eq_array (P := Tryz.prog) W1 9998 39 3 4 .i64 _ _ (fun i => match i with | 0 => n0 | 1 => n1 | 2 => n2 | _ => n3) (fun i => match i with | 0 => g0 | 1 => g1 | 2 => g2 | _ => g3) Tryz.underlying39 Tryz.underlying3 (by kernel_rfl) (by kernel_rfl) (fun i hi => by match i, hi with | 0, _ => rfl | 1, _ => rfl | 2, _ => rfl | 3, _ => rfl) (fun i hi => by match i, hi with | 0, _ => rfl | 1, _ => rfl | 2, _ => rfl | 3, _ => rfl)⟩
  obtain ⟨hd0, heq⟩ := heq
  have HQ : Hid (row[0]? = some (.slice (some ⟨gb, go, none⟩) n guc) ∧ row[7]? = some (.slice (some ⟨nb, no, none⟩) n nuc) ∧ row[8]? = some (.slice (some ⟨db, dO, none⟩) n ndc)) := by rw [← hrow]; exact ⟨rfl, rfl, rfl⟩
  have HC : Hid ((∀ i, i < n → w.cell? ⟨gb, go + i, none⟩ = some (.bool (gus.getD i false))) ∧ (∀ i, i < n → w.cell? ⟨nb, no + i, none⟩ = some (.bool (nus.getD i false))) ∧ (∀ i, i < n → w.cell? ⟨db, dO + i, none⟩ = some (.string (nds.getD i ByteArray.empty))) ∧ ∀ i, i < n → w.cell? ⟨ob_, oo + i, none⟩ = some (.string (os.getD i ByteArray.empty))) := ⟨hgc, hnc, hdc, hoc⟩
  have HI : Hid (W1.heap[B]? = some (.cells row 53 (0, 0)) ∧ Below B w W1) := ⟨q1, b1⟩
  clear hgu hgd hnu hnd ho hgc hnc hdc hoc hrow q1 b1
  go_enter Tryz.func103, Tryz.ntmps103
  go_wp2_with (first | (refine wpList_load_w (by kernel_rfl) _ _ rfl rfl hl9 ?_) | (refine wpList_load_w (by kernel_rfl) _ _ rfl rfl hl2 ?_))
  go_loopw [6, 7] (fun v6 v7 wr => ∃ (i : Nat) (hd : Bool), i ≤ n ∧ v7 = .int .i64 (i : Int) ∧ v6 = .bool hd ∧ wr.heap[B]? = some (.cells row 53 (0, 0)) ∧ Below B w wr) (fun _ v _ => n - (intOf v).toNat)
  case atStart => exact ⟨0, _, by omega, rfl, rfl, HI.out⟩
  case round =>
    clear HI hl9 hl2 heq hW1 s1
    obtain ⟨i, hd, hi, rfl, rfl, hr, hbw⟩ := hrel
    have c0 : wr.cell? ⟨B, 0, none⟩ = some (.slice (some ⟨gb, go, none⟩) n guc) := by rw [cell_of_row wr B _ _ _ _ hr]; exact HQ.out.1
    have c7 : wr.cell? ⟨B, 7, none⟩ = some (.slice (some ⟨nb, no, none⟩) n nuc) := by rw [cell_of_row wr B _ _ _ _ hr]; exact HQ.out.2.1
    have HK : Hid (wr.heap[B]? = some (.cells row 53 (0, 0)) ∧ Below B w wr) := ⟨hr, hbw⟩
    by_cases hlt : i < n
    · have kk : (i : Int) < (n : Int) := by omega
      have d1 : wr.cell? ⟨nb, no + i, none⟩ = some (.bool (nus.getD i false)) := by rw [hbw.cell hnbl]; exact HC.out.2.1 i hlt
      have d2 : wr.cell? ⟨gb, go + i, none⟩ = some (.bool (gus.getD i false)) := by rw [hbw.cell hgbl]; exact HC.out.1 i hlt
      obtain ⟨x1, hx1⟩ : ∃ x, nus.getD i false = x := ⟨_, rfl⟩
      obtain ⟨x2, hx2⟩ : ∃ x, gus.getD i false = x := ⟨_, rfl⟩
      rw [hx1] at d1
      rw [hx2] at d2
      clear hx1 hx2 hr hbw
      cases hd with
      | true =>
        go_wp2
        refine wp_region_held_drew (S := fun W => W.cell? ⟨B, 7, none⟩ = some (.slice (some ⟨nb, no, none⟩) n nuc) ∧ W.cell? ⟨B, 0, none⟩ = some (.slice (some ⟨gb, go, none⟩) n guc) ∧ W.cell? ⟨nb, no + i, none⟩ = some (.bool x1) ∧ W.cell? ⟨gb, go + i, none⟩ = some (.bool x2)) (by kernel_rfl) (⟨c7, c0, d1, d2⟩) (fun hHeld => ?_)
        refine wpAnyH_take (i := 0) (v := ?vt0) rfl (by kernel_rfl) (by kernel_rfl) (by kernel_rfl) (fun _ _ _ h => h) (Or.inl ⟨by first | kernel_rfl | rfl, ?yt0⟩) hHeld ?rt0
        case yt0 => (intro W hSW; (try dsimp only at hSW); go_simp; (try with_reducible rfl))
        change wpAnyH _ _ _ _ _ _ _ (Act.put _ (some 24) _) _
        simp only [Act.put, List.setIfInBounds_toArray, List.set_cons_zero, List.set_cons_succ]
        refine wpAnyH_take (i := 1) (v := ?vt1) rfl (by kernel_rfl) (by kernel_rfl) (by kernel_rfl) (fun _ _ _ h => h) (Or.inl ⟨by first | kernel_rfl | rfl, ?yt1⟩) hHeld ?rt1
        case yt1 => (intro W hSW; (try dsimp only at hSW); go_simp; (try with_reducible rfl))
        change wpAnyH _ _ _ _ _ _ _ (Act.put _ (some 25) _) _
        simp only [Act.put, List.setIfInBounds_toArray, List.set_cons_zero, List.set_cons_succ]
        refine wpAnyH_take (i := 2) (v := undef) rfl (by kernel_rfl) (by kernel_rfl) (by kernel_rfl) (fun _ _ _ h => h) (Or.inr ⟨by first | kernel_rfl | rfl, rfl⟩) hHeld ?_
        change wpAnyH _ _ _ _ _ _ _ (Act.put _ (some 26) _) _
        simp only [Act.put, List.setIfInBounds_toArray, List.set_cons_zero, List.set_cons_succ]
        refine wpAnyH_take (i := 3) (v := undef) rfl (by kernel_rfl) (by kernel_rfl) (by kernel_rfl) (fun _ _ _ h => h) (Or.inr ⟨by first | kernel_rfl | rfl, rfl⟩) hHeld ?_
        change wpAnyH _ _ _ _ _ _ _ (Act.put _ (some 27) _) _
        simp only [Act.put, List.setIfInBounds_toArray, List.set_cons_zero, List.set_cons_succ]
        refine wpAnyH_take (i := 4) (v := undef) rfl (by kernel_rfl) (by kernel_rfl) (by kernel_rfl) (fun _ _ _ h => h) (Or.inr ⟨by first | kernel_rfl | rfl, rfl⟩) hHeld ?_
        change wpAnyH _ _ _ _ _ _ _ (Act.put _ (some 28) _) _
        simp only [Act.put, List.setIfInBounds_toArray, List.set_cons_zero, List.set_cons_succ]
        refine wpAnyH_take (i := 5) (v := undef) rfl (by kernel_rfl) (by kernel_rfl) (by kernel_rfl) (fun _ _ _ h => h) (Or.inr ⟨by first | kernel_rfl | rfl, rfl⟩) hHeld ?_
        change wpAnyH _ _ _ _ _ _ _ (Act.put _ (some 29) _) _
        simp only [Act.put, List.setIfInBounds_toArray, List.set_cons_zero, List.set_cons_succ]
        refine wpAnyH_take (i := 6) (v := undef) rfl (by kernel_rfl) (by kernel_rfl) (by kernel_rfl) (fun _ _ _ h => h) (Or.inr ⟨by first | kernel_rfl | rfl, rfl⟩) hHeld ?_
        change wpAnyH _ _ _ _ _ _ _ (Act.put _ (some 30) _) _
        simp only [Act.put, List.setIfInBounds_toArray, List.set_cons_zero, List.set_cons_succ]
        refine wpAnyH_take (i := 7) (v := undef) rfl (by kernel_rfl) (by kernel_rfl) (by kernel_rfl) (fun _ _ _ h => h) (Or.inr ⟨by first | kernel_rfl | rfl, rfl⟩) hHeld ?_
        change wpAnyH _ _ _ _ _ _ _ (Act.put _ (some 31) _) _
        simp only [Act.put, List.setIfInBounds_toArray, List.set_cons_zero, List.set_cons_succ]
        refine wpAnyH_take (i := 8) (v := undef) rfl (by kernel_rfl) (by kernel_rfl) (by kernel_rfl) (fun _ _ _ h => h) (Or.inr ⟨by first | kernel_rfl | rfl, rfl⟩) hHeld ?_
        change wpAnyH _ _ _ _ _ _ _ (Act.put _ (some 32) _) _
        simp only [Act.put, List.setIfInBounds_toArray, List.set_cons_zero, List.set_cons_succ]
        refine wpAnyH_take (i := 9) (v := undef) rfl (by kernel_rfl) (by kernel_rfl) (by kernel_rfl) (fun _ _ _ h => h) (Or.inr ⟨by first | kernel_rfl | rfl, rfl⟩) hHeld ?_
        change wpAnyH _ _ _ _ _ _ _ (Act.put _ (some 33) _) _
        simp only [Act.put, List.setIfInBounds_toArray, List.set_cons_zero, List.set_cons_succ]
        refine wpAnyH_take (i := 10) (v := undef) rfl (by kernel_rfl) (by kernel_rfl) (by kernel_rfl) (fun _ _ _ h => h) (Or.inr ⟨by first | kernel_rfl | rfl, rfl⟩) hHeld ?_
        change wpAnyH _ _ _ _ _ _ _ (Act.put _ (some 34) _) _
        simp only [Act.put, List.setIfInBounds_toArray, List.set_cons_zero, List.set_cons_succ]
        refine wpAnyH_take (i := 11) (v := undef) rfl (by kernel_rfl) (by kernel_rfl) (by kernel_rfl) (fun _ _ _ h => h) (Or.inr ⟨by first | kernel_rfl | rfl, rfl⟩) hHeld ?_
        change wpAnyH _ _ _ _ _ _ _ (Act.put _ (some 35) _) _
        simp only [Act.put, List.setIfInBounds_toArray, List.set_cons_zero, List.set_cons_succ]
        refine wpAnyH_take (i := 12) (v := undef) rfl (by kernel_rfl) (by kernel_rfl) (by kernel_rfl) (fun _ _ _ h => h) (Or.inr ⟨by first | kernel_rfl | rfl, rfl⟩) hHeld ?_
        change wpAnyH _ _ _ _ _ _ _ (Act.put _ (some 36) _) _
        simp only [Act.put, List.setIfInBounds_toArray, List.set_cons_zero, List.set_cons_succ]
        refine wpAnyH_take (i := 13) (v := undef) rfl (by kernel_rfl) (by kernel_rfl) (by kernel_rfl) (fun _ _ _ h => h) (Or.inr ⟨by first | kernel_rfl | rfl, rfl⟩) hHeld ?_
        change wpAnyH _ _ _ _ _ _ _ (Act.put _ (some 37) _) _
        simp only [Act.put, List.setIfInBounds_toArray, List.set_cons_zero, List.set_cons_succ]
        refine wpAnyH_take (i := 14) (v := undef) rfl (by kernel_rfl) (by kernel_rfl) (by kernel_rfl) (fun _ _ _ h => h) (Or.inr ⟨by first | kernel_rfl | rfl, rfl⟩) hHeld ?_
        change wpAnyH _ _ _ _ _ _ _ (Act.put _ (some 38) _) _
        simp only [Act.put, List.setIfInBounds_toArray, List.set_cons_zero, List.set_cons_succ]
        refine wpAnyH_take (i := 15) (v := .bool true) rfl (by kernel_rfl) (by kernel_rfl) (by kernel_rfl) (fun _ _ _ h => h) (Or.inl ⟨by first | kernel_rfl | rfl, ?yt15⟩) hHeld ?rt15
        case yt15 => (intro W hSW; (try dsimp only at hSW); go_simp; (try with_reducible rfl))
        change wpAnyH _ _ _ _ _ _ _ (Act.put _ (some 39) _) _
        simp only [Act.put, List.setIfInBounds_toArray, List.set_cons_zero, List.set_cons_succ]
        refine wpAnyH_take (i := 16) (v := ?vt16) rfl (by kernel_rfl) (by kernel_rfl) (by kernel_rfl) (fun _ _ _ h => h) (Or.inl ⟨by first | kernel_rfl | rfl, ?yt16⟩) hHeld ?rt16
        case yt16 => (intro W hSW; (try dsimp only at hSW); go_simp; (try with_reducible rfl))
        change wpAnyH _ _ _ _ _ _ _ (Act.put _ (some 6) _) _
        simp only [Act.put, List.setIfInBounds_toArray, List.set_cons_zero, List.set_cons_succ]
        refine wpAnyH_done (by kernel_rfl) ?_ _
        go_wp2
        exact ⟨⟨i + 1, _, by omega, by go_num, rfl, HK.out.1, below_drew HK.out.2⟩, by simp [intOf]; omega⟩
      | false =>
        go_wp2
        refine wp_region_held_drew (S := fun W => W.cell? ⟨B, 7, none⟩ = some (.slice (some ⟨nb, no, none⟩) n nuc) ∧ W.cell? ⟨B, 0, none⟩ = some (.slice (some ⟨gb, go, none⟩) n guc) ∧ W.cell? ⟨nb, no + i, none⟩ = some (.bool x1) ∧ W.cell? ⟨gb, go + i, none⟩ = some (.bool x2)) (by kernel_rfl) (⟨c7, c0, d1, d2⟩) (fun hHeld => ?_)
        refine wpAnyH_take (i := 0) (v := ?vf0) rfl (by kernel_rfl) (by kernel_rfl) (by kernel_rfl) (fun _ _ _ h => h) (Or.inl ⟨by first | kernel_rfl | rfl, ?yf0⟩) hHeld ?rf0
        case yf0 => (intro W hSW; (try dsimp only at hSW); go_simp; (try with_reducible rfl))
        change wpAnyH _ _ _ _ _ _ _ (Act.put _ (some 24) _) _
        simp only [Act.put, List.setIfInBounds_toArray, List.set_cons_zero, List.set_cons_succ]
        refine wpAnyH_take (i := 1) (v := ?vf1) rfl (by kernel_rfl) (by kernel_rfl) (by kernel_rfl) (fun _ _ _ h => h) (Or.inl ⟨by first | kernel_rfl | rfl, ?yf1⟩) hHeld ?rf1
        case yf1 => (intro W hSW; (try dsimp only at hSW); go_simp; (try with_reducible rfl))
        change wpAnyH _ _ _ _ _ _ _ (Act.put _ (some 25) _) _
        simp only [Act.put, List.setIfInBounds_toArray, List.set_cons_zero, List.set_cons_succ]
        refine wpAnyH_take (i := 2) (v := ?vf2) rfl (by kernel_rfl) (by kernel_rfl) (by kernel_rfl) (fun _ _ _ h => h) (Or.inl ⟨by first | kernel_rfl | rfl, ?yf2⟩) hHeld ?rf2
        case yf2 => (intro W hSW; (try dsimp only at hSW); go_simp; (try with_reducible rfl))
        change wpAnyH _ _ _ _ _ _ _ (Act.put _ (some 26) _) _
        simp only [Act.put, List.setIfInBounds_toArray, List.set_cons_zero, List.set_cons_succ]
        refine wpAnyH_take (i := 3) (v := ?vf3) rfl (by kernel_rfl) (by kernel_rfl) (by kernel_rfl) (fun _ _ _ h => h) (Or.inl ⟨by first | kernel_rfl | rfl, ?yf3⟩) hHeld ?rf3
        case yf3 => (intro W hSW; (try dsimp only at hSW); go_simp; (try with_reducible rfl))
        change wpAnyH _ _ _ _ _ _ _ (Act.put _ (some 27) _) _
        simp only [Act.put, List.setIfInBounds_toArray, List.set_cons_zero, List.set_cons_succ]
        refine wpAnyH_take (i := 4) (v := ?vf4) rfl (by kernel_rfl) (by kernel_rfl) (by kernel_rfl) (fun _ _ _ h => h) (Or.inl ⟨by first | kernel_rfl | rfl, ?yf4⟩) hHeld ?rf4
        case yf4 => (intro W hSW; (try dsimp only at hSW); go_simp; (try with_reducible rfl))
        change wpAnyH _ _ _ _ _ _ _ (Act.put _ (some 28) _) _
        simp only [Act.put, List.setIfInBounds_toArray, List.set_cons_zero, List.set_cons_succ]
        refine wpAnyH_take (i := 5) (v := ?vf5) rfl (by kernel_rfl) (by kernel_rfl) (by kernel_rfl) (fun _ _ _ h => h) (Or.inl ⟨by first | kernel_rfl | rfl, ?yf5⟩) hHeld ?rf5
        case yf5 => (intro W hSW; (try dsimp only at hSW); go_simp; (try with_reducible rfl))
        change wpAnyH _ _ _ _ _ _ _ (Act.put _ (some 29) _) _
        simp only [Act.put, List.setIfInBounds_toArray, List.set_cons_zero, List.set_cons_succ]
        refine wpAnyH_take (i := 6) (v := ?vf6) rfl (by kernel_rfl) (by kernel_rfl) (by kernel_rfl) (fun _ _ _ h => h) (Or.inl ⟨by first | kernel_rfl | rfl, ?yf6⟩) hHeld ?rf6
        case yf6 => (intro W hSW; (try dsimp only at hSW); go_simp; (try with_reducible rfl))
        change wpAnyH _ _ _ _ _ _ _ (Act.put _ (some 30) _) _
        simp only [Act.put, List.setIfInBounds_toArray, List.set_cons_zero, List.set_cons_succ]
        refine wpAnyH_take (i := 7) (v := ?vf7) rfl (by kernel_rfl) (by kernel_rfl) (by kernel_rfl) (fun _ _ _ h => h) (Or.inl ⟨by first | kernel_rfl | rfl, ?yf7⟩) hHeld ?rf7
        case yf7 => (intro W hSW; (try dsimp only at hSW); go_simp; (try with_reducible rfl))
        change wpAnyH _ _ _ _ _ _ _ (Act.put _ (some 31) _) _
        simp only [Act.put, List.setIfInBounds_toArray, List.set_cons_zero, List.set_cons_succ]
        refine wpAnyH_take (i := 8) (v := ?vf8) rfl (by kernel_rfl) (by kernel_rfl) (by kernel_rfl) (fun _ _ _ h => h) (Or.inl ⟨by first | kernel_rfl | rfl, ?yf8⟩) hHeld ?rf8
        case yf8 => (intro W hSW; (try dsimp only at hSW); go_simp; (try with_reducible rfl))
        change wpAnyH _ _ _ _ _ _ _ (Act.put _ (some 32) _) _
        simp only [Act.put, List.setIfInBounds_toArray, List.set_cons_zero, List.set_cons_succ]
        refine wpAnyH_take (i := 9) (v := ?vf9) rfl (by kernel_rfl) (by kernel_rfl) (by kernel_rfl) (fun _ _ _ h => h) (Or.inl ⟨by first | kernel_rfl | rfl, ?yf9⟩) hHeld ?rf9
        case yf9 => (intro W hSW; (try dsimp only at hSW); go_simp; (try with_reducible rfl))
        change wpAnyH _ _ _ _ _ _ _ (Act.put _ (some 33) _) _
        simp only [Act.put, List.setIfInBounds_toArray, List.set_cons_zero, List.set_cons_succ]
        refine wpAnyH_take (i := 10) (v := ?vf10) rfl (by kernel_rfl) (by kernel_rfl) (by kernel_rfl) (fun _ _ _ h => h) (Or.inl ⟨by first | kernel_rfl | rfl, ?yf10⟩) hHeld ?rf10
        case yf10 => (intro W hSW; (try dsimp only at hSW); go_simp; (try with_reducible rfl))
        change wpAnyH _ _ _ _ _ _ _ (Act.put _ (some 34) _) _
        simp only [Act.put, List.setIfInBounds_toArray, List.set_cons_zero, List.set_cons_succ]
        refine wpAnyH_take (i := 11) (v := ?vf11) rfl (by kernel_rfl) (by kernel_rfl) (by kernel_rfl) (fun _ _ _ h => h) (Or.inl ⟨by first | kernel_rfl | rfl, ?yf11⟩) hHeld ?rf11
        case yf11 => (intro W hSW; (try dsimp only at hSW); go_simp; (try with_reducible rfl))
        change wpAnyH _ _ _ _ _ _ _ (Act.put _ (some 35) _) _
        simp only [Act.put, List.setIfInBounds_toArray, List.set_cons_zero, List.set_cons_succ]
        refine wpAnyH_take (i := 12) (v := ?vf12) rfl (by kernel_rfl) (by kernel_rfl) (by kernel_rfl) (fun _ _ _ h => h) (Or.inl ⟨by first | kernel_rfl | rfl, ?yf12⟩) hHeld ?rf12
        case yf12 => (intro W hSW; (try dsimp only at hSW); go_simp; (try with_reducible rfl))
        change wpAnyH _ _ _ _ _ _ _ (Act.put _ (some 36) _) _
        simp only [Act.put, List.setIfInBounds_toArray, List.set_cons_zero, List.set_cons_succ]
        refine wpAnyH_take (i := 13) (v := ?vf13) rfl (by kernel_rfl) (by kernel_rfl) (by kernel_rfl) (fun _ _ _ h => h) (Or.inl ⟨by first | kernel_rfl | rfl, ?yf13⟩) hHeld ?rf13
        case yf13 => (intro W hSW; (try dsimp only at hSW); go_simp; (try with_reducible rfl))
        change wpAnyH _ _ _ _ _ _ _ (Act.put _ (some 37) _) _
        simp only [Act.put, List.setIfInBounds_toArray, List.set_cons_zero, List.set_cons_succ]
        refine wpAnyH_take (i := 14) (v := ?vf14) rfl (by kernel_rfl) (by kernel_rfl) (by kernel_rfl) (fun _ _ _ h => h) (Or.inl ⟨by first | kernel_rfl | rfl, ?yf14⟩) hHeld ?rf14
        case yf14 => (intro W hSW; (try dsimp only at hSW); go_simp; (try with_reducible rfl))
        change wpAnyH _ _ _ _ _ _ _ (Act.put _ (some 38) _) _
        simp only [Act.put, List.setIfInBounds_toArray, List.set_cons_zero, List.set_cons_succ]
        refine wpAnyH_take (i := 15) (v := ?vf15) rfl (by kernel_rfl) (by kernel_rfl) (by kernel_rfl) (fun _ _ _ h => h) (Or.inl ⟨by first | kernel_rfl | rfl, ?yf15⟩) hHeld ?rf15
        case yf15 => (intro W hSW; (try dsimp only at hSW); go_simp; (try with_reducible rfl))
        change wpAnyH _ _ _ _ _ _ _ (Act.put _ (some 39) _) _
        simp only [Act.put, List.setIfInBounds_toArray, List.set_cons_zero, List.set_cons_succ]
        refine wpAnyH_take (i := 16) (v := ?vf16) rfl (by kernel_rfl) (by kernel_rfl) (by kernel_rfl) (fun _ _ _ h => h) (Or.inl ⟨by first | kernel_rfl | rfl, ?yf16⟩) hHeld ?rf16
        case yf16 => (intro W hSW; (try dsimp only at hSW); go_simp; (try with_reducible rfl))
        change wpAnyH _ _ _ _ _ _ _ (Act.put _ (some 6) _) _
        simp only [Act.put, List.setIfInBounds_toArray, List.set_cons_zero, List.set_cons_succ]
        refine wpAnyH_done (by kernel_rfl) ?_ _
        go_wp2
        exact ⟨⟨i + 1, _, by omega, by go_num, rfl, HK.out.1, below_drew HK.out.2⟩, by simp [intOf]; omega⟩
    · have kk : ¬ (i : Int) < (n : Int) := by omega
      cases hd with
      | false =>
        have HI2 : Hid (∃ (i' : Nat) (a : Option Addr) (c : Nat) (l : List Nat), 1 ≤ i' ∧ i' ≤ n ∧ Value.int .i64 1 = .int .i64 (i' : Int) ∧ Value.slice none 0 0 = .slice a l.length c ∧ (∀ x ∈ l, x < n) ∧ l.length ≤ i' ∧ wr.ownsRow (B + 1) 3 1 (.slice a l.length c) l.length (intsV l) ∧ wr.heap[B]? = some (.cells row 53 (0, 0)) ∧ Below B w wr) := ⟨1, none, 0, [], by omega, by omega, rfl, rfl, fun x hx => (by cases hx), by simp, World.ownsRow_nil _ _ _ _, HK.out⟩
        clear hr hbw HK c0
        go_wp2
        go_loopw [5, 8] (fun v5 v8 wr => ∃ (i : Nat) (a : Option Addr) (c : Nat) (l : List Nat), 1 ≤ i ∧ i ≤ n ∧ v8 = .int .i64 (i : Int) ∧ v5 = .slice a l.length c ∧ (∀ x ∈ l, x < n) ∧ l.length ≤ i ∧ wr.ownsRow (B + 1) 3 1 (.slice a l.length c) l.length (intsV l) ∧ wr.heap[B]? = some (.cells row 53 (0, 0)) ∧ Below B w wr) (fun _ v _ => n - (intOf v).toNat)
        case atStart => exact HI2.out
        case round =>
          clear HI2
          obtain ⟨i, a, c, l, hi1, hi, rfl, rfl, hlx, hll, hol, hr, hbw⟩ := hrel
          have c7 : wr.cell? ⟨B, 7, none⟩ = some (.slice (some ⟨nb, no, none⟩) n nuc) := by rw [cell_of_row wr B _ _ _ _ hr]; exact HQ.out.2.1
          have c8 : wr.cell? ⟨B, 8, none⟩ = some (.slice (some ⟨db, dO, none⟩) n ndc) := by rw [cell_of_row wr B _ _ _ _ hr]; exact HQ.out.2.2
          obtain ⟨m, hm⟩ : ∃ m, l.length = m := ⟨_, rfl⟩
          have HK : Hid ((∀ x ∈ l, x < n) ∧ l.length ≤ i ∧ wr.ownsRow (B + 1) 3 1 (.slice a m c) m (intsV l) ∧ wr.heap[B]? = some (.cells row 53 (0, 0)) ∧ Below B w wr ∧ l.length = m) := ⟨hlx, hll, by rw [← hm]; exact hol, hr, hbw, hm⟩
          have hml : m ≤ 128 := by omega
          rw [hm]
          by_cases hlt : i < n
          · have kk : (i : Int) < (n : Int) := by omega
            have d1 : wr.cell? ⟨nb, no + i, none⟩ = some (.bool (nus.getD i false)) := by rw [hbw.cell hnbl]; exact HC.out.2.1 i hlt
            have e1 : wr.cell? ⟨db, dO + i, none⟩ = some (.string (nds.getD i ByteArray.empty)) := by rw [hbw.cell hdbl]; exact HC.out.2.2.1 i hlt
            have e2 : wr.cell? ⟨ob_, oo + i, none⟩ = some (.string (os.getD i ByteArray.empty)) := by rw [hbw.cell hobl]; exact HC.out.2.2.2 i hlt
            obtain ⟨bu, hbu⟩ : ∃ bu, nus.getD i false = bu := ⟨_, rfl⟩
            obtain ⟨s1, hs1⟩ : ∃ s, nds.getD i ByteArray.empty = s := ⟨_, rfl⟩
            obtain ⟨s2, hs2⟩ : ∃ s, os.getD i ByteArray.empty = s := ⟨_, rfl⟩
            rw [hbu] at d1
            rw [hs1] at e1
            rw [hs2] at e2
            clear hbu hs1 hs2 hlx hll hol hr hbw hm
            have HST : Hid (∃ (i' : Nat) (a : Option Addr) (c : Nat) (l' : List Nat), i' = i + 1 ∧ l'.length = m ∧ (∀ x ∈ l', x < n) ∧ l'.length ≤ i + 1) := ⟨_, a, c, l, rfl, HK.out.2.2.2.2.2, HK.out.1, by have := HK.out.2.1; omega⟩
            cases bu with
            | false =>
              go_wp2
              refine wp_region_held_drew (S := fun W => W.cell? ⟨B, 7, none⟩ = some (.slice (some ⟨nb, no, none⟩) n nuc) ∧ W.cell? ⟨B, 8, none⟩ = some (.slice (some ⟨db, dO, none⟩) n ndc) ∧ W.cell? ⟨nb, no + i, none⟩ = some (.bool false) ∧ W.cell? ⟨db, dO + i, none⟩ = some (.string s1) ∧ W.cell? ⟨ob_, oo + i, none⟩ = some (.string s2)) (by kernel_rfl) (⟨c7, c8, d1, e1, e2⟩) (fun hHeld => ?_)
              refine wpAnyH_take (i := 0) (v := ?vAf0) rfl (by kernel_rfl) (by kernel_rfl) (by kernel_rfl) (fun _ _ _ h => h) (Or.inl ⟨by first | kernel_rfl | rfl, ?yAf0⟩) hHeld ?rAf0
              case yAf0 => (intro W hSW; (try dsimp only at hSW); go_simp; (try with_reducible rfl))
              change wpAnyH _ _ _ _ _ _ _ (Act.put _ (some 52) _) _
              simp only [Act.put, List.setIfInBounds_toArray, List.set_cons_zero, List.set_cons_succ]
              refine wpAnyH_take (i := 1) (v := ?vAf1) rfl (by kernel_rfl) (by kernel_rfl) (by kernel_rfl) (fun _ _ _ h => h) (Or.inl ⟨by first | kernel_rfl | rfl, ?yAf1⟩) hHeld ?rAf1
              case yAf1 => (intro W hSW; (try dsimp only at hSW); go_simp; (try with_reducible rfl))
              change wpAnyH _ _ _ _ _ _ _ (Act.put _ (some 53) _) _
              simp only [Act.put, List.setIfInBounds_toArray, List.set_cons_zero, List.set_cons_succ]
              refine wpAnyH_take (i := 2) (v := ?vAf2) rfl (by kernel_rfl) (by kernel_rfl) (by kernel_rfl) (fun _ _ _ h => h) (Or.inl ⟨by first | kernel_rfl | rfl, ?yAf2⟩) hHeld ?rAf2
              case yAf2 => (intro W hSW; (try dsimp only at hSW); go_simp; (try with_reducible rfl))
              change wpAnyH _ _ _ _ _ _ _ (Act.put _ (some 54) _) _
              simp only [Act.put, List.setIfInBounds_toArray, List.set_cons_zero, List.set_cons_succ]
              refine wpAnyH_take (i := 3) (v := ?vAf3) rfl (by kernel_rfl) (by kernel_rfl) (by kernel_rfl) (fun _ _ _ h => h) (Or.inl ⟨by first | kernel_rfl | rfl, ?yAf3⟩) hHeld ?rAf3
              case yAf3 => (intro W hSW; (try dsimp only at hSW); go_simp; (try with_reducible rfl))
              change wpAnyH _ _ _ _ _ _ _ (Act.put _ (some 55) _) _
              simp only [Act.put, List.setIfInBounds_toArray, List.set_cons_zero, List.set_cons_succ]
              refine wpAnyH_take (i := 4) (v := ?vAf4) rfl (by kernel_rfl) (by kernel_rfl) (by kernel_rfl) (fun _ _ _ h => h) (Or.inl ⟨by first | kernel_rfl | rfl, ?yAf4⟩) hHeld ?rAf4
              case yAf4 => (intro W hSW; (try dsimp only at hSW); go_simp; (try with_reducible rfl))
              change wpAnyH _ _ _ _ _ _ _ (Act.put _ (some 56) _) _
              simp only [Act.put, List.setIfInBounds_toArray, List.set_cons_zero, List.set_cons_succ]
              refine wpAnyH_take (i := 5) (v := ?vAf5) rfl (by kernel_rfl) (by kernel_rfl) (by kernel_rfl) (fun _ _ _ h => h) (Or.inl ⟨by first | kernel_rfl | rfl, ?yAf5⟩) hHeld ?rAf5
              case yAf5 => (intro W hSW; (try dsimp only at hSW); go_simp; (try with_reducible rfl))
              change wpAnyH _ _ _ _ _ _ _ (Act.put _ (some 57) _) _
              simp only [Act.put, List.setIfInBounds_toArray, List.set_cons_zero, List.set_cons_succ]
              refine wpAnyH_take (i := 6) (v := ?vAf6) rfl (by kernel_rfl) (by kernel_rfl) (by kernel_rfl) (fun _ _ _ h => h) (Or.inl ⟨by first | kernel_rfl | rfl, ?yAf6⟩) hHeld ?rAf6
              case yAf6 => (intro W hSW; (try dsimp only at hSW); go_simp; (try with_reducible rfl))
              change wpAnyH _ _ _ _ _ _ _ (Act.put _ (some 58) _) _
              simp only [Act.put, List.setIfInBounds_toArray, List.set_cons_zero, List.set_cons_succ]
              refine wpAnyH_take (i := 7) (v := undef) rfl (by kernel_rfl) (by kernel_rfl) (by kernel_rfl) (fun _ _ _ h => h) (Or.inr ⟨by first | kernel_rfl | rfl, rfl⟩) hHeld ?_
              change wpAnyH _ _ _ _ _ _ _ (Act.put _ (some 59) _) _
              simp only [Act.put, List.setIfInBounds_toArray, List.set_cons_zero, List.set_cons_succ]
              refine wpAnyH_take (i := 8) (v := undef) rfl (by kernel_rfl) (by kernel_rfl) (by kernel_rfl) (fun _ _ _ h => h) (Or.inr ⟨by first | kernel_rfl | rfl, rfl⟩) hHeld ?_
              change wpAnyH _ _ _ _ _ _ _ (Act.put _ (some 60) _) _
              simp only [Act.put, List.setIfInBounds_toArray, List.set_cons_zero, List.set_cons_succ]
              refine wpAnyH_take (i := 9) (v := undef) rfl (by kernel_rfl) (by kernel_rfl) (by kernel_rfl) (fun _ _ _ h => h) (Or.inr ⟨by first | kernel_rfl | rfl, rfl⟩) hHeld ?_
              change wpAnyH _ _ _ _ _ _ _ (Act.put _ (some 61) _) _
              simp only [Act.put, List.setIfInBounds_toArray, List.set_cons_zero, List.set_cons_succ]
              refine wpAnyH_take (i := 10) (v := undef) rfl (by kernel_rfl) (by kernel_rfl) (by kernel_rfl) (fun _ _ _ h => h) (Or.inr ⟨by first | kernel_rfl | rfl, rfl⟩) hHeld ?_
              change wpAnyH _ _ _ _ _ _ _ (Act.put _ (some 62) _) _
              simp only [Act.put, List.setIfInBounds_toArray, List.set_cons_zero, List.set_cons_succ]
              refine wpAnyH_take (i := 11) (v := undef) rfl (by kernel_rfl) (by kernel_rfl) (by kernel_rfl) (fun _ _ _ h => h) (Or.inr ⟨by first | kernel_rfl | rfl, rfl⟩) hHeld ?_
              change wpAnyH _ _ _ _ _ _ _ (Act.put _ (some 63) _) _
              simp only [Act.put, List.setIfInBounds_toArray, List.set_cons_zero, List.set_cons_succ]
              refine wpAnyH_take (i := 12) (v := undef) rfl (by kernel_rfl) (by kernel_rfl) (by kernel_rfl) (fun _ _ _ h => h) (Or.inr ⟨by first | kernel_rfl | rfl, rfl⟩) hHeld ?_
              change wpAnyH _ _ _ _ _ _ _ (Act.put _ (some 64) _) _
              simp only [Act.put, List.setIfInBounds_toArray, List.set_cons_zero, List.set_cons_succ]
              refine wpAnyH_take (i := 13) (v := undef) rfl (by kernel_rfl) (by kernel_rfl) (by kernel_rfl) (fun _ _ _ h => h) (Or.inr ⟨by first | kernel_rfl | rfl, rfl⟩) hHeld ?_
              change wpAnyH _ _ _ _ _ _ _ (Act.put _ (some 65) _) _
              simp only [Act.put, List.setIfInBounds_toArray, List.set_cons_zero, List.set_cons_succ]
              refine wpAnyH_take (i := 14) (v := undef) rfl (by kernel_rfl) (by kernel_rfl) (by kernel_rfl) (fun _ _ _ h => h) (Or.inr ⟨by first | kernel_rfl | rfl, rfl⟩) hHeld ?_
              change wpAnyH _ _ _ _ _ _ _ (Act.put _ (some 66) _) _
              simp only [Act.put, List.setIfInBounds_toArray, List.set_cons_zero, List.set_cons_succ]
              refine wpAnyH_take (i := 15) (v := undef) rfl (by kernel_rfl) (by kernel_rfl) (by kernel_rfl) (fun _ _ _ h => h) (Or.inr ⟨by first | kernel_rfl | rfl, rfl⟩) hHeld ?_
              change wpAnyH _ _ _ _ _ _ _ (Act.put _ (some 67) _) _
              simp only [Act.put, List.setIfInBounds_toArray, List.set_cons_zero, List.set_cons_succ]
              refine wpAnyH_take (i := 16) (v := undef) rfl (by kernel_rfl) (by kernel_rfl) (by kernel_rfl) (fun _ _ _ h => h) (Or.inr ⟨by first | kernel_rfl | rfl, rfl⟩) hHeld ?_
              change wpAnyH _ _ _ _ _ _ _ (Act.put _ (some 68) _) _
              simp only [Act.put, List.setIfInBounds_toArray, List.set_cons_zero, List.set_cons_succ]
              refine wpAnyH_take (i := 17) (v := undef) rfl (by kernel_rfl) (by kernel_rfl) (by kernel_rfl) (fun _ _ _ h => h) (Or.inr ⟨by first | kernel_rfl | rfl, rfl⟩) hHeld ?_
              change wpAnyH _ _ _ _ _ _ _ (Act.put _ (some 69) _) _
              simp only [Act.put, List.setIfInBounds_toArray, List.set_cons_zero, List.set_cons_succ]
              refine wpAnyH_take (i := 18) (v := .bool false) rfl (by kernel_rfl) (by kernel_rfl) (by kernel_rfl) (fun _ _ _ h => h) (Or.inl ⟨by first | kernel_rfl | rfl, ?yAf18⟩) hHeld ?rAf18
              case yAf18 => (intro W hSW; (try dsimp only at hSW); go_simp; (try with_reducible rfl))
              change wpAnyH _ _ _ _ _ _ _ (Act.put _ (some 70) _) _
              simp only [Act.put, List.setIfInBounds_toArray, List.set_cons_zero, List.set_cons_succ]
              refine wpAnyH_done (by kernel_rfl) ?_ _
              go_wp2
              exact ⟨⟨i + 1, a, c, l, by omega, by omega, by go_num, by rw [HK.out.2.2.2.2.2], HK.out.1, by have := HK.out.2.1; omega, by rw [HK.out.2.2.2.2.2]; exact own_keep HK.out.2.2.1 (fun k hk => rfl), HK.out.2.2.2.1, below_drew HK.out.2.2.2.2.1⟩, by simp [intOf]; omega⟩
            | true =>
              by_cases hse : s1 = s2
              · subst hse
                go_wp2
                refine wp_region_held_drew (S := fun W => W.cell? ⟨B, 7, none⟩ = some (.slice (some ⟨nb, no, none⟩) n nuc) ∧ W.cell? ⟨B, 8, none⟩ = some (.slice (some ⟨db, dO, none⟩) n ndc) ∧ W.cell? ⟨nb, no + i, none⟩ = some (.bool true) ∧ W.cell? ⟨db, dO + i, none⟩ = some (.string s1) ∧ W.cell? ⟨ob_, oo + i, none⟩ = some (.string s1)) (by kernel_rfl) (⟨c7, c8, d1, e1, e2⟩) (fun hHeld => ?_)
                refine wpAnyH_take (i := 0) (v := ?vAs0) rfl (by kernel_rfl) (by kernel_rfl) (by kernel_rfl) (fun _ _ _ h => h) (Or.inl ⟨by first | kernel_rfl | rfl, ?yAs0⟩) hHeld ?rAs0
                case yAs0 => (intro W hSW; (try dsimp only at hSW); go_simp; (try with_reducible rfl))
                change wpAnyH _ _ _ _ _ _ _ (Act.put _ (some 52) _) _
                simp only [Act.put, List.setIfInBounds_toArray, List.set_cons_zero, List.set_cons_succ]
                refine wpAnyH_take (i := 1) (v := ?vAs1) rfl (by kernel_rfl) (by kernel_rfl) (by kernel_rfl) (fun _ _ _ h => h) (Or.inl ⟨by first | kernel_rfl | rfl, ?yAs1⟩) hHeld ?rAs1
                case yAs1 => (intro W hSW; (try dsimp only at hSW); go_simp; (try with_reducible rfl))
                change wpAnyH _ _ _ _ _ _ _ (Act.put _ (some 53) _) _
                simp only [Act.put, List.setIfInBounds_toArray, List.set_cons_zero, List.set_cons_succ]
                refine wpAnyH_take (i := 2) (v := ?vAs2) rfl (by kernel_rfl) (by kernel_rfl) (by kernel_rfl) (fun _ _ _ h => h) (Or.inl ⟨by first | kernel_rfl | rfl, ?yAs2⟩) hHeld ?rAs2
                case yAs2 => (intro W hSW; (try dsimp only at hSW); go_simp; (try with_reducible rfl))
                change wpAnyH _ _ _ _ _ _ _ (Act.put _ (some 54) _) _
                simp only [Act.put, List.setIfInBounds_toArray, List.set_cons_zero, List.set_cons_succ]
                refine wpAnyH_take (i := 3) (v := ?vAs3) rfl (by kernel_rfl) (by kernel_rfl) (by kernel_rfl) (fun _ _ _ h => h) (Or.inl ⟨by first | kernel_rfl | rfl, ?yAs3⟩) hHeld ?rAs3
                case yAs3 => (intro W hSW; (try dsimp only at hSW); go_simp; (try with_reducible rfl))
                change wpAnyH _ _ _ _ _ _ _ (Act.put _ (some 55) _) _
                simp only [Act.put, List.setIfInBounds_toArray, List.set_cons_zero, List.set_cons_succ]
                refine wpAnyH_take (i := 4) (v := ?vAs4) rfl (by kernel_rfl) (by kernel_rfl) (by kernel_rfl) (fun _ _ _ h => h) (Or.inl ⟨by first | kernel_rfl | rfl, ?yAs4⟩) hHeld ?rAs4
                case yAs4 => (intro W hSW; (try dsimp only at hSW); go_simp; (try with_reducible rfl))
                change wpAnyH _ _ _ _ _ _ _ (Act.put _ (some 56) _) _
                simp only [Act.put, List.setIfInBounds_toArray, List.set_cons_zero, List.set_cons_succ]
                refine wpAnyH_take (i := 5) (v := ?vAs5) rfl (by kernel_rfl) (by kernel_rfl) (by kernel_rfl) (fun _ _ _ h => h) (Or.inl ⟨by first | kernel_rfl | rfl, ?yAs5⟩) hHeld ?rAs5
                case yAs5 => (intro W hSW; (try dsimp only at hSW); go_simp; (try with_reducible rfl))
                change wpAnyH _ _ _ _ _ _ _ (Act.put _ (some 57) _) _
                simp only [Act.put, List.setIfInBounds_toArray, List.set_cons_zero, List.set_cons_succ]
                refine wpAnyH_take (i := 6) (v := ?vAs6) rfl (by kernel_rfl) (by kernel_rfl) (by kernel_rfl) (fun _ _ _ h => h) (Or.inl ⟨by first | kernel_rfl | rfl, ?yAs6⟩) hHeld ?rAs6
                case yAs6 => (intro W hSW; (try dsimp only at hSW); go_simp; (try with_reducible rfl))
                change wpAnyH _ _ _ _ _ _ _ (Act.put _ (some 58) _) _
                simp only [Act.put, List.setIfInBounds_toArray, List.set_cons_zero, List.set_cons_succ]
                refine wpAnyH_take (i := 7) (v := ?vAs7) rfl (by kernel_rfl) (by kernel_rfl) (by kernel_rfl) (fun _ _ _ h => h) (Or.inl ⟨by first | kernel_rfl | rfl, ?yAs7⟩) hHeld ?rAs7
                case yAs7 => (intro W hSW; (try dsimp only at hSW); go_simp; (try with_reducible rfl))
                change wpAnyH _ _ _ _ _ _ _ (Act.put _ (some 59) _) _
                simp only [Act.put, List.setIfInBounds_toArray, List.set_cons_zero, List.set_cons_succ]
                refine wpAnyH_take (i := 8) (v := ?vAs8) rfl (by kernel_rfl) (by kernel_rfl) (by kernel_rfl) (fun _ _ _ h => h) (Or.inl ⟨by first | kernel_rfl | rfl, ?yAs8⟩) hHeld ?rAs8
                case yAs8 => (intro W hSW; (try dsimp only at hSW); go_simp; (try with_reducible rfl))
                change wpAnyH _ _ _ _ _ _ _ (Act.put _ (some 60) _) _
                simp only [Act.put, List.setIfInBounds_toArray, List.set_cons_zero, List.set_cons_succ]
                refine wpAnyH_take (i := 9) (v := ?vAs9) rfl (by kernel_rfl) (by kernel_rfl) (by kernel_rfl) (fun _ _ _ h => h) (Or.inl ⟨by first | kernel_rfl | rfl, ?yAs9⟩) hHeld ?rAs9
                case yAs9 => (intro W hSW; (try dsimp only at hSW); go_simp; (try with_reducible rfl))
                change wpAnyH _ _ _ _ _ _ _ (Act.put _ (some 61) _) _
                simp only [Act.put, List.setIfInBounds_toArray, List.set_cons_zero, List.set_cons_succ]
                refine wpAnyH_take (i := 10) (v := ?vAs10) rfl (by kernel_rfl) (by kernel_rfl) (by kernel_rfl) (fun _ _ _ h => h) (Or.inl ⟨by first | kernel_rfl | rfl, ?yAs10⟩) hHeld ?rAs10
                case yAs10 => (intro W hSW; (try dsimp only at hSW); go_simp; (try with_reducible rfl))
                change wpAnyH _ _ _ _ _ _ _ (Act.put _ (some 62) _) _
                simp only [Act.put, List.setIfInBounds_toArray, List.set_cons_zero, List.set_cons_succ]
                refine wpAnyH_take (i := 11) (v := ?vAs11) rfl (by kernel_rfl) (by kernel_rfl) (by kernel_rfl) (fun _ _ _ h => h) (Or.inl ⟨by first | kernel_rfl | rfl, ?yAs11⟩) hHeld ?rAs11
                case yAs11 => (intro W hSW; (try dsimp only at hSW); go_simp; (try with_reducible rfl))
                change wpAnyH _ _ _ _ _ _ _ (Act.put _ (some 63) _) _
                simp only [Act.put, List.setIfInBounds_toArray, List.set_cons_zero, List.set_cons_succ]
                refine wpAnyH_take (i := 12) (v := ?vAs12) rfl (by kernel_rfl) (by kernel_rfl) (by kernel_rfl) (fun _ _ _ h => h) (Or.inl ⟨by first | kernel_rfl | rfl, ?yAs12⟩) hHeld ?rAs12
                case yAs12 => (intro W hSW; (try dsimp only at hSW); go_simp; (try with_reducible rfl))
                change wpAnyH _ _ _ _ _ _ _ (Act.put _ (some 64) _) _
                simp only [Act.put, List.setIfInBounds_toArray, List.set_cons_zero, List.set_cons_succ]
                refine wpAnyH_take (i := 13) (v := ?vAs13) rfl (by kernel_rfl) (by kernel_rfl) (by kernel_rfl) (fun _ _ _ h => h) (Or.inl ⟨by first | kernel_rfl | rfl, ?yAs13⟩) hHeld ?rAs13
                case yAs13 => (intro W hSW; (try dsimp only at hSW); go_simp; (try with_reducible rfl))
                change wpAnyH _ _ _ _ _ _ _ (Act.put _ (some 65) _) _
                simp only [Act.put, List.setIfInBounds_toArray, List.set_cons_zero, List.set_cons_succ]
                refine wpAnyH_take (i := 14) (v := ?vAs14) rfl (by kernel_rfl) (by kernel_rfl) (by kernel_rfl) (fun _ _ _ h => h) (Or.inl ⟨by first | kernel_rfl | rfl, ?yAs14⟩) hHeld ?rAs14
                case yAs14 => (intro W hSW; (try dsimp only at hSW); go_simp; (try with_reducible rfl))
                change wpAnyH _ _ _ _ _ _ _ (Act.put _ (some 66) _) _
                simp only [Act.put, List.setIfInBounds_toArray, List.set_cons_zero, List.set_cons_succ]
                refine wpAnyH_take (i := 15) (v := ?vAs15) rfl (by kernel_rfl) (by kernel_rfl) (by kernel_rfl) (fun _ _ _ h => h) (Or.inl ⟨by first | kernel_rfl | rfl, ?yAs15⟩) hHeld ?rAs15
                case yAs15 => (intro W hSW; (try dsimp only at hSW); go_simp; (try with_reducible rfl))
                change wpAnyH _ _ _ _ _ _ _ (Act.put _ (some 67) _) _
                simp only [Act.put, List.setIfInBounds_toArray, List.set_cons_zero, List.set_cons_succ]
                refine wpAnyH_take (i := 16) (v := ?vAs16) rfl (by kernel_rfl) (by kernel_rfl) (by kernel_rfl) (fun _ _ _ h => h) (Or.inl ⟨by first | kernel_rfl | rfl, ?yAs16⟩) hHeld ?rAs16
                case yAs16 => (intro W hSW; (try dsimp only at hSW); go_simp; (try with_reducible rfl))
                change wpAnyH _ _ _ _ _ _ _ (Act.put _ (some 68) _) _
                simp only [Act.put, List.setIfInBounds_toArray, List.set_cons_zero, List.set_cons_succ]
                refine wpAnyH_take (i := 17) (v := .bool false) rfl (by kernel_rfl) (by kernel_rfl) (by kernel_rfl) (fun _ _ _ h => h) (Or.inl ⟨by first | kernel_rfl | rfl, ?yAs17⟩) hHeld ?rAs17
                case yAs17 => (intro W hSW; (try dsimp only at hSW); go_simp; (try with_reducible rfl))
                change wpAnyH _ _ _ _ _ _ _ (Act.put _ (some 69) _) _
                simp only [Act.put, List.setIfInBounds_toArray, List.set_cons_zero, List.set_cons_succ]
                refine wpAnyH_take (i := 18) (v := .bool false) rfl (by kernel_rfl) (by kernel_rfl) (by kernel_rfl) (fun _ _ _ h => h) (Or.inl ⟨by first | kernel_rfl | rfl, ?yAs18⟩) hHeld ?rAs18
                case yAs18 => (intro W hSW; (try dsimp only at hSW); go_simp; (try with_reducible rfl))
                change wpAnyH _ _ _ _ _ _ _ (Act.put _ (some 70) _) _
                simp only [Act.put, List.setIfInBounds_toArray, List.set_cons_zero, List.set_cons_succ]
                refine wpAnyH_done (by kernel_rfl) ?_ _
                go_wp2
                exact ⟨⟨i + 1, a, c, l, by omega, by omega, by go_num, by rw [HK.out.2.2.2.2.2], HK.out.1, by have := HK.out.2.1; omega, by rw [HK.out.2.2.2.2.2]; exact own_keep HK.out.2.2.1 (fun k hk => rfl), HK.out.2.2.2.1, below_drew HK.out.2.2.2.2.1⟩, by simp [intOf]; omega⟩
              · have ht := str_nb hse
                have hne := str_ne hse
                have hor : wr.drew.ownsRow (B + 1) 3 1 (.slice a m c) m (intsV l) := own_keep HK.out.2.2.1 (fun k hk => rfl)
                have hrr : wr.drew.heap[B]? = some (.cells row 53 (0, 0)) := HK.out.2.2.2.1
                have hbr : Below B w wr.drew := below_drew HK.out.2.2.2.2.1
                have hBl : B < wr.drew.heap.size := lt_of_some hrr
                obtain ⟨V3, hV3⟩ : ∃ V3, wr.drew.alloc (.cells #[.int .i64 (i : Int)] 3) = V3 := ⟨_, rfl⟩
                have hs3 : V3.heap.size = wr.drew.heap.size + 1 := by rw [← hV3]; simp
                have ho3 : V3.ownsRow (B + 1) 3 1 (.slice a m c) m (intsV l) := by rw [← hV3]; exact hor.alloc _
                have hr3 : V3.heap[B]? = some (.cells row 53 (0, 0)) := by rw [← hV3, Below.heap_alloc _ _ _ hBl]; exact hrr
                have hb3 : Below B w V3 := by rw [← hV3]; exact hbr.alloc (by omega) _
                obtain ⟨aA, cA, V4, hrA, hoA, hgA⟩ := addN_own V3 (x := i) (b := wr.drew.heap.size) ho3 (by rw [← hV3]; exact heap_alloc_new wr.drew _) (by omega) (by omega)
                have hl3 : ∀ x, ob a = some x → B + 1 ≤ x := fun x hx => (ho3.lt x (by rw [ob_slice]; exact hx)).1
                have HN : Hid (V4.ownsRow (B + 1) 3 1 (.slice aA (m + 1) cA) (m + 1) (intsV (l ++ [i])) ∧ V4.heap[B]? = some (.cells row 53 (0, 0)) ∧ Below B w V4) := ⟨hoA, (hgA.block B (by omega) (fun e => by have := hl3 B e.symm; omega)).trans hr3, hb3.grown hgA (by omega) (fun x hx => by have := hl3 x hx; omega)⟩
                clear hor hrr hbr ho3 hr3 hb3 hoA hgA hl3 hse
                go_wp2
                refine wp_region_held_drew (S := fun W => W.cell? ⟨B, 7, none⟩ = some (.slice (some ⟨nb, no, none⟩) n nuc) ∧ W.cell? ⟨B, 8, none⟩ = some (.slice (some ⟨db, dO, none⟩) n ndc) ∧ W.cell? ⟨nb, no + i, none⟩ = some (.bool true) ∧ W.cell? ⟨db, dO + i, none⟩ = some (.string s1) ∧ W.cell? ⟨ob_, oo + i, none⟩ = some (.string s2)) (by kernel_rfl) (⟨c7, c8, d1, e1, e2⟩) (fun hHeld => ?_)
                refine wpAnyH_take (i := 0) (v := ?vAn0) rfl (by kernel_rfl) (by kernel_rfl) (by kernel_rfl) (fun _ _ _ h => h) (Or.inl ⟨by first | kernel_rfl | rfl, ?yAn0⟩) hHeld ?rAn0
                case yAn0 => (intro W hSW; (try dsimp only at hSW); go_simp; (try with_reducible rfl))
                change wpAnyH _ _ _ _ _ _ _ (Act.put _ (some 52) _) _
                simp only [Act.put, List.setIfInBounds_toArray, List.set_cons_zero, List.set_cons_succ]
                refine wpAnyH_take (i := 1) (v := ?vAn1) rfl (by kernel_rfl) (by kernel_rfl) (by kernel_rfl) (fun _ _ _ h => h) (Or.inl ⟨by first | kernel_rfl | rfl, ?yAn1⟩) hHeld ?rAn1
                case yAn1 => (intro W hSW; (try dsimp only at hSW); go_simp; (try with_reducible rfl))
                change wpAnyH _ _ _ _ _ _ _ (Act.put _ (some 53) _) _
                simp only [Act.put, List.setIfInBounds_toArray, List.set_cons_zero, List.set_cons_succ]
                refine wpAnyH_take (i := 2) (v := ?vAn2) rfl (by kernel_rfl) (by kernel_rfl) (by kernel_rfl) (fun _ _ _ h => h) (Or.inl ⟨by first | kernel_rfl | rfl, ?yAn2⟩) hHeld ?rAn2
                case yAn2 => (intro W hSW; (try dsimp only at hSW); go_simp; (try with_reducible rfl))
                change wpAnyH _ _ _ _ _ _ _ (Act.put _ (some 54) _) _
                simp only [Act.put, List.setIfInBounds_toArray, List.set_cons_zero, List.set_cons_succ]
                refine wpAnyH_take (i := 3) (v := ?vAn3) rfl (by kernel_rfl) (by kernel_rfl) (by kernel_rfl) (fun _ _ _ h => h) (Or.inl ⟨by first | kernel_rfl | rfl, ?yAn3⟩) hHeld ?rAn3
                case yAn3 => (intro W hSW; (try dsimp only at hSW); go_simp; (try with_reducible rfl))
                change wpAnyH _ _ _ _ _ _ _ (Act.put _ (some 55) _) _
                simp only [Act.put, List.setIfInBounds_toArray, List.set_cons_zero, List.set_cons_succ]
                refine wpAnyH_take (i := 4) (v := ?vAn4) rfl (by kernel_rfl) (by kernel_rfl) (by kernel_rfl) (fun _ _ _ h => h) (Or.inl ⟨by first | kernel_rfl | rfl, ?yAn4⟩) hHeld ?rAn4
                case yAn4 => (intro W hSW; (try dsimp only at hSW); go_simp; (try with_reducible rfl))
                change wpAnyH _ _ _ _ _ _ _ (Act.put _ (some 56) _) _
                simp only [Act.put, List.setIfInBounds_toArray, List.set_cons_zero, List.set_cons_succ]
                refine wpAnyH_take (i := 5) (v := ?vAn5) rfl (by kernel_rfl) (by kernel_rfl) (by kernel_rfl) (fun _ _ _ h => h) (Or.inl ⟨by first | kernel_rfl | rfl, ?yAn5⟩) hHeld ?rAn5
                case yAn5 => (intro W hSW; (try dsimp only at hSW); go_simp; (try with_reducible rfl))
                change wpAnyH _ _ _ _ _ _ _ (Act.put _ (some 57) _) _
                simp only [Act.put, List.setIfInBounds_toArray, List.set_cons_zero, List.set_cons_succ]
                refine wpAnyH_take (i := 6) (v := ?vAn6) rfl (by kernel_rfl) (by kernel_rfl) (by kernel_rfl) (fun _ _ _ h => h) (Or.inl ⟨by first | kernel_rfl | rfl, ?yAn6⟩) hHeld ?rAn6
                case yAn6 => (intro W hSW; (try dsimp only at hSW); go_simp; (try with_reducible rfl))
                change wpAnyH _ _ _ _ _ _ _ (Act.put _ (some 58) _) _
                simp only [Act.put, List.setIfInBounds_toArray, List.set_cons_zero, List.set_cons_succ]
                refine wpAnyH_take (i := 7) (v := ?vAn7) rfl (by kernel_rfl) (by kernel_rfl) (by kernel_rfl) (fun _ _ _ h => h) (Or.inl ⟨by first | kernel_rfl | rfl, ?yAn7⟩) hHeld ?rAn7
                case yAn7 => (intro W hSW; (try dsimp only at hSW); go_simp; (try with_reducible rfl))
                change wpAnyH _ _ _ _ _ _ _ (Act.put _ (some 59) _) _
                simp only [Act.put, List.setIfInBounds_toArray, List.set_cons_zero, List.set_cons_succ]
                refine wpAnyH_take (i := 8) (v := ?vAn8) rfl (by kernel_rfl) (by kernel_rfl) (by kernel_rfl) (fun _ _ _ h => h) (Or.inl ⟨by first | kernel_rfl | rfl, ?yAn8⟩) hHeld ?rAn8
                case yAn8 => (intro W hSW; (try dsimp only at hSW); go_simp; (try with_reducible rfl))
                change wpAnyH _ _ _ _ _ _ _ (Act.put _ (some 60) _) _
                simp only [Act.put, List.setIfInBounds_toArray, List.set_cons_zero, List.set_cons_succ]
                refine wpAnyH_take (i := 9) (v := ?vAn9) rfl (by kernel_rfl) (by kernel_rfl) (by kernel_rfl) (fun _ _ _ h => h) (Or.inl ⟨by first | kernel_rfl | rfl, ?yAn9⟩) hHeld ?rAn9
                case yAn9 => (intro W hSW; (try dsimp only at hSW); go_simp; (try with_reducible rfl))
                change wpAnyH _ _ _ _ _ _ _ (Act.put _ (some 61) _) _
                simp only [Act.put, List.setIfInBounds_toArray, List.set_cons_zero, List.set_cons_succ]
                refine wpAnyH_take (i := 10) (v := ?vAn10) rfl (by kernel_rfl) (by kernel_rfl) (by kernel_rfl) (fun _ _ _ h => h) (Or.inl ⟨by first | kernel_rfl | rfl, ?yAn10⟩) hHeld ?rAn10
                case yAn10 => (intro W hSW; (try dsimp only at hSW); go_simp; (try with_reducible rfl))
                change wpAnyH _ _ _ _ _ _ _ (Act.put _ (some 62) _) _
                simp only [Act.put, List.setIfInBounds_toArray, List.set_cons_zero, List.set_cons_succ]
                refine wpAnyH_take (i := 11) (v := ?vAn11) rfl (by kernel_rfl) (by kernel_rfl) (by kernel_rfl) (fun _ _ _ h => h) (Or.inl ⟨by first | kernel_rfl | rfl, ?yAn11⟩) hHeld ?rAn11
                case yAn11 => (intro W hSW; (try dsimp only at hSW); go_simp; (try with_reducible rfl))
                change wpAnyH _ _ _ _ _ _ _ (Act.put _ (some 63) _) _
                simp only [Act.put, List.setIfInBounds_toArray, List.set_cons_zero, List.set_cons_succ]
                refine wpAnyH_take (i := 12) (v := ?vAn12) rfl (by kernel_rfl) (by kernel_rfl) (by kernel_rfl) (fun _ _ _ h => h) (Or.inl ⟨by first | kernel_rfl | rfl, ?yAn12⟩) hHeld ?rAn12
                case yAn12 => (intro W hSW; (try dsimp only at hSW); go_simp; (try with_reducible rfl))
                change wpAnyH _ _ _ _ _ _ _ (Act.put _ (some 64) _) _
                simp only [Act.put, List.setIfInBounds_toArray, List.set_cons_zero, List.set_cons_succ]
                refine wpAnyH_take (i := 13) (v := ?vAn13) rfl (by kernel_rfl) (by kernel_rfl) (by kernel_rfl) (fun _ _ _ h => h) (Or.inl ⟨by first | kernel_rfl | rfl, ?yAn13⟩) hHeld ?rAn13
                case yAn13 => (intro W hSW; (try dsimp only at hSW); go_simp; (try with_reducible rfl))
                change wpAnyH _ _ _ _ _ _ _ (Act.put _ (some 65) _) _
                simp only [Act.put, List.setIfInBounds_toArray, List.set_cons_zero, List.set_cons_succ]
                refine wpAnyH_take (i := 14) (v := ?vAn14) rfl (by kernel_rfl) (by kernel_rfl) (by kernel_rfl) (fun _ _ _ h => h) (Or.inl ⟨by first | kernel_rfl | rfl, ?yAn14⟩) hHeld ?rAn14
                case yAn14 => (intro W hSW; (try dsimp only at hSW); go_simp; (try with_reducible rfl))
                change wpAnyH _ _ _ _ _ _ _ (Act.put _ (some 66) _) _
                simp only [Act.put, List.setIfInBounds_toArray, List.set_cons_zero, List.set_cons_succ]
                refine wpAnyH_take (i := 15) (v := ?vAn15) rfl (by kernel_rfl) (by kernel_rfl) (by kernel_rfl) (fun _ _ _ h => h) (Or.inl ⟨by first | kernel_rfl | rfl, ?yAn15⟩) hHeld ?rAn15
                case yAn15 => (intro W hSW; (try dsimp only at hSW); go_simp; (try with_reducible rfl))
                change wpAnyH _ _ _ _ _ _ _ (Act.put _ (some 67) _) _
                simp only [Act.put, List.setIfInBounds_toArray, List.set_cons_zero, List.set_cons_succ]
                refine wpAnyH_take (i := 16) (v := ?vAn16) rfl (by kernel_rfl) (by kernel_rfl) (by kernel_rfl) (fun _ _ _ h => h) (Or.inl ⟨by first | kernel_rfl | rfl, ?yAn16⟩) hHeld ?rAn16
                case yAn16 => (intro W hSW; (try dsimp only at hSW); go_simp; (try with_reducible rfl))
                change wpAnyH _ _ _ _ _ _ _ (Act.put _ (some 68) _) _
                simp only [Act.put, List.setIfInBounds_toArray, List.set_cons_zero, List.set_cons_succ]
                refine wpAnyH_take (i := 17) (v := .bool true) rfl (by kernel_rfl) (by kernel_rfl) (by kernel_rfl) (fun _ _ _ h => h) (Or.inl ⟨by first | kernel_rfl | rfl, ?yAn17⟩) hHeld ?rAn17
                case yAn17 => (intro W hSW; (try dsimp only at hSW); go_simp; (try with_reducible rfl))
                change wpAnyH _ _ _ _ _ _ _ (Act.put _ (some 69) _) _
                simp only [Act.put, List.setIfInBounds_toArray, List.set_cons_zero, List.set_cons_succ]
                refine wpAnyH_take (i := 18) (v := .bool true) rfl (by kernel_rfl) (by kernel_rfl) (by kernel_rfl) (fun _ _ _ h => h) (Or.inl ⟨by first | kernel_rfl | rfl, ?yAn18⟩) hHeld ?rAn18
                case yAn18 => (intro W hSW; (try dsimp only at hSW); go_simp; (try with_reducible rfl))
                change wpAnyH _ _ _ _ _ _ _ (Act.put _ (some 70) _) _
                simp only [Act.put, List.setIfInBounds_toArray, List.set_cons_zero, List.set_cons_succ]
                refine wpAnyH_done (by kernel_rfl) ?_ _
                go_wp2_with ((at_builtin; refine wpList_app V3 rfl _ _ _ _ rfl rfl rfl (hrA _) ?_))
                have hl1 : (l ++ [i]).length = m + 1 := by rw [List.length_append, HK.out.2.2.2.2.2]; rfl
                exact ⟨⟨i + 1, aA, cA, l ++ [i], by omega, by omega, by go_num, by rw [hl1], fun x hx => (List.mem_append.1 hx).elim (HK.out.1 x) (fun h => by rw [List.mem_singleton.1 h]; exact hlt), by have := HK.out.2.1; rw [hl1]; have := HK.out.2.2.2.2.2; omega, by rw [hl1]; exact HN.out.1, HN.out.2.1, HN.out.2.2⟩, by simp [intOf]; omega⟩
          · obtain rfl : i = n := by omega
            have kk : ¬ (i : Int) < (i : Int) := by omega
            clear hlx hll hol hr hbw hm
            go_wp2
            go_ret
            exact ⟨a, c, l, by rw [HK.out.2.2.2.2.2]; rfl, HK.out.1, HK.out.2.1, by rw [HK.out.2.2.2.2.2, hB]; exact own_base HK.out.2.2.1 (by omega), by rw [hB]; exact HK.out.2.2.2.2.1⟩
      | true =>
        have hBl : B < wr.heap.size := lt_of_some hr
        obtain ⟨V3, hV3⟩ : ∃ V3, wr.alloc (.cells #[.int .i64 ((0 : Nat) : Int)] 3) = V3 := ⟨_, rfl⟩
        have hs3 : V3.heap.size = wr.heap.size + 1 := by rw [← hV3]; simp
        have hr3 : V3.heap[B]? = some (.cells row 53 (0, 0)) := by rw [← hV3, Below.heap_alloc _ _ _ hBl]; exact hr
        have hb3 : Below B w V3 := by rw [← hV3]; exact hbw.alloc (by omega) _
        obtain ⟨aA, cA, V4, hrA, hoA, hgA⟩ := addN_own V3 (base := B + 1) (n := 0) (c := 0) (a := none) (l := []) (x := 0) (b := wr.heap.size) (World.ownsRow_nil _ _ _ _) (by rw [← hV3]; exact heap_alloc_new wr _) (by omega) (by omega)
        have hV3 : wr.alloc (.cells #[.int .i64 0] 3) = V3 := hV3
        have HI2 : Hid (∃ (i' : Nat) (a : Option Addr) (c : Nat) (l : List Nat), 1 ≤ i' ∧ i' ≤ n ∧ Value.int .i64 1 = .int .i64 (i' : Int) ∧ Value.slice aA (0 + 1) cA = .slice a l.length c ∧ (∀ x ∈ l, x < n) ∧ l.length ≤ i' ∧ V4.ownsRow (B + 1) 3 1 (.slice a l.length c) l.length (intsV l) ∧ V4.heap[B]? = some (.cells row 53 (0, 0)) ∧ Below B w V4) := ⟨1, aA, cA, [0], by omega, by omega, rfl, rfl, fun x hx => (by rw [List.mem_singleton.1 hx]; omega), by simp, hoA, (hgA.block B (by omega) (fun e => by cases e)).trans hr3, hb3.grown hgA (by omega) (fun x hx => by cases hx)⟩
        clear hr hbw HK c0 hr3 hb3 hoA hgA
        go_wp2_with ((at_builtin; refine wpList_app V3 rfl _ _ _ _ rfl rfl rfl (hrA _) ?_))
        go_loopw [5, 8] (fun v5 v8 wr => ∃ (i : Nat) (a : Option Addr) (c : Nat) (l : List Nat), 1 ≤ i ∧ i ≤ n ∧ v8 = .int .i64 (i : Int) ∧ v5 = .slice a l.length c ∧ (∀ x ∈ l, x < n) ∧ l.length ≤ i ∧ wr.ownsRow (B + 1) 3 1 (.slice a l.length c) l.length (intsV l) ∧ wr.heap[B]? = some (.cells row 53 (0, 0)) ∧ Below B w wr) (fun _ v _ => n - (intOf v).toNat)
        case atStart => exact HI2.out
        case round =>
          clear HI2
          obtain ⟨i, a, c, l, hi1, hi, rfl, rfl, hlx, hll, hol, hr, hbw⟩ := hrel
          have c7 : wr.cell? ⟨B, 7, none⟩ = some (.slice (some ⟨nb, no, none⟩) n nuc) := by rw [cell_of_row wr B _ _ _ _ hr]; exact HQ.out.2.1
          have c8 : wr.cell? ⟨B, 8, none⟩ = some (.slice (some ⟨db, dO, none⟩) n ndc) := by rw [cell_of_row wr B _ _ _ _ hr]; exact HQ.out.2.2
          obtain ⟨m, hm⟩ : ∃ m, l.length = m := ⟨_, rfl⟩
          have HK : Hid ((∀ x ∈ l, x < n) ∧ l.length ≤ i ∧ wr.ownsRow (B + 1) 3 1 (.slice a m c) m (intsV l) ∧ wr.heap[B]? = some (.cells row 53 (0, 0)) ∧ Below B w wr ∧ l.length = m) := ⟨hlx, hll, by rw [← hm]; exact hol, hr, hbw, hm⟩
          have hml : m ≤ 128 := by omega
          rw [hm]
          by_cases hlt : i < n
          · have kk : (i : Int) < (n : Int) := by omega
            have d1 : wr.cell? ⟨nb, no + i, none⟩ = some (.bool (nus.getD i false)) := by rw [hbw.cell hnbl]; exact HC.out.2.1 i hlt
            have e1 : wr.cell? ⟨db, dO + i, none⟩ = some (.string (nds.getD i ByteArray.empty)) := by rw [hbw.cell hdbl]; exact HC.out.2.2.1 i hlt
            have e2 : wr.cell? ⟨ob_, oo + i, none⟩ = some (.string (os.getD i ByteArray.empty)) := by rw [hbw.cell hobl]; exact HC.out.2.2.2 i hlt
            obtain ⟨bu, hbu⟩ : ∃ bu, nus.getD i false = bu := ⟨_, rfl⟩
            obtain ⟨s1, hs1⟩ : ∃ s, nds.getD i ByteArray.empty = s := ⟨_, rfl⟩
            obtain ⟨s2, hs2⟩ : ∃ s, os.getD i ByteArray.empty = s := ⟨_, rfl⟩
            rw [hbu] at d1
            rw [hs1] at e1
            rw [hs2] at e2
            clear hbu hs1 hs2 hlx hll hol hr hbw hm
            have HST : Hid (∃ (i' : Nat) (a : Option Addr) (c : Nat) (l' : List Nat), i' = i + 1 ∧ l'.length = m ∧ (∀ x ∈ l', x < n) ∧ l'.length ≤ i + 1) := ⟨_, a, c, l, rfl, HK.out.2.2.2.2.2, HK.out.1, by have := HK.out.2.1; omega⟩
            cases bu with
            | false =>
              go_wp2
              refine wp_region_held_drew (S := fun W => W.cell? ⟨B, 7, none⟩ = some (.slice (some ⟨nb, no, none⟩) n nuc) ∧ W.cell? ⟨B, 8, none⟩ = some (.slice (some ⟨db, dO, none⟩) n ndc) ∧ W.cell? ⟨nb, no + i, none⟩ = some (.bool false) ∧ W.cell? ⟨db, dO + i, none⟩ = some (.string s1) ∧ W.cell? ⟨ob_, oo + i, none⟩ = some (.string s2)) (by kernel_rfl) (⟨c7, c8, d1, e1, e2⟩) (fun hHeld => ?_)
              refine wpAnyH_take (i := 0) (v := ?vBf0) rfl (by kernel_rfl) (by kernel_rfl) (by kernel_rfl) (fun _ _ _ h => h) (Or.inl ⟨by first | kernel_rfl | rfl, ?yBf0⟩) hHeld ?rBf0
              case yBf0 => (intro W hSW; (try dsimp only at hSW); go_simp; (try with_reducible rfl))
              change wpAnyH _ _ _ _ _ _ _ (Act.put _ (some 52) _) _
              simp only [Act.put, List.setIfInBounds_toArray, List.set_cons_zero, List.set_cons_succ]
              refine wpAnyH_take (i := 1) (v := ?vBf1) rfl (by kernel_rfl) (by kernel_rfl) (by kernel_rfl) (fun _ _ _ h => h) (Or.inl ⟨by first | kernel_rfl | rfl, ?yBf1⟩) hHeld ?rBf1
              case yBf1 => (intro W hSW; (try dsimp only at hSW); go_simp; (try with_reducible rfl))
              change wpAnyH _ _ _ _ _ _ _ (Act.put _ (some 53) _) _
              simp only [Act.put, List.setIfInBounds_toArray, List.set_cons_zero, List.set_cons_succ]
              refine wpAnyH_take (i := 2) (v := ?vBf2) rfl (by kernel_rfl) (by kernel_rfl) (by kernel_rfl) (fun _ _ _ h => h) (Or.inl ⟨by first | kernel_rfl | rfl, ?yBf2⟩) hHeld ?rBf2
              case yBf2 => (intro W hSW; (try dsimp only at hSW); go_simp; (try with_reducible rfl))
              change wpAnyH _ _ _ _ _ _ _ (Act.put _ (some 54) _) _
              simp only [Act.put, List.setIfInBounds_toArray, List.set_cons_zero, List.set_cons_succ]
              refine wpAnyH_take (i := 3) (v := ?vBf3) rfl (by kernel_rfl) (by kernel_rfl) (by kernel_rfl) (fun _ _ _ h => h) (Or.inl ⟨by first | kernel_rfl | rfl, ?yBf3⟩) hHeld ?rBf3
              case yBf3 => (intro W hSW; (try dsimp only at hSW); go_simp; (try with_reducible rfl))
              change wpAnyH _ _ _ _ _ _ _ (Act.put _ (some 55) _) _
              simp only [Act.put, List.setIfInBounds_toArray, List.set_cons_zero, List.set_cons_succ]
              refine wpAnyH_take (i := 4) (v := ?vBf4) rfl (by kernel_rfl) (by kernel_rfl) (by kernel_rfl) (fun _ _ _ h => h) (Or.inl ⟨by first | kernel_rfl | rfl, ?yBf4⟩) hHeld ?rBf4
              case yBf4 => (intro W hSW; (try dsimp only at hSW); go_simp; (try with_reducible rfl))
              change wpAnyH _ _ _ _ _ _ _ (Act.put _ (some 56) _) _
              simp only [Act.put, List.setIfInBounds_toArray, List.set_cons_zero, List.set_cons_succ]
              refine wpAnyH_take (i := 5) (v := ?vBf5) rfl (by kernel_rfl) (by kernel_rfl) (by kernel_rfl) (fun _ _ _ h => h) (Or.inl ⟨by first | kernel_rfl | rfl, ?yBf5⟩) hHeld ?rBf5
              case yBf5 => (intro W hSW; (try dsimp only at hSW); go_simp; (try with_reducible rfl))
              change wpAnyH _ _ _ _ _ _ _ (Act.put _ (some 57) _) _
              simp only [Act.put, List.setIfInBounds_toArray, List.set_cons_zero, List.set_cons_succ]
              refine wpAnyH_take (i := 6) (v := ?vBf6) rfl (by kernel_rfl) (by kernel_rfl) (by kernel_rfl) (fun _ _ _ h => h) (Or.inl ⟨by first | kernel_rfl | rfl, ?yBf6⟩) hHeld ?rBf6
              case yBf6 => (intro W hSW; (try dsimp only at hSW); go_simp; (try with_reducible rfl))
              change wpAnyH _ _ _ _ _ _ _ (Act.put _ (some 58) _) _
              simp only [Act.put, List.setIfInBounds_toArray, List.set_cons_zero, List.set_cons_succ]
              refine wpAnyH_take (i := 7) (v := undef) rfl (by kernel_rfl) (by kernel_rfl) (by kernel_rfl) (fun _ _ _ h => h) (Or.inr ⟨by first | kernel_rfl | rfl, rfl⟩) hHeld ?_
              change wpAnyH _ _ _ _ _ _ _ (Act.put _ (some 59) _) _
              simp only [Act.put, List.setIfInBounds_toArray, List.set_cons_zero, List.set_cons_succ]
              refine wpAnyH_take (i := 8) (v := undef) rfl (by kernel_rfl) (by kernel_rfl) (by kernel_rfl) (fun _ _ _ h => h) (Or.inr ⟨by first | kernel_rfl | rfl, rfl⟩) hHeld ?_
              change wpAnyH _ _ _ _ _ _ _ (Act.put _ (some 60) _) _
              simp only [Act.put, List.setIfInBounds_toArray, List.set_cons_zero, List.set_cons_succ]
              refine wpAnyH_take (i := 9) (v := undef) rfl (by kernel_rfl) (by kernel_rfl) (by kernel_rfl) (fun _ _ _ h => h) (Or.inr ⟨by first | kernel_rfl | rfl, rfl⟩) hHeld ?_
              change wpAnyH _ _ _ _ _ _ _ (Act.put _ (some 61) _) _
              simp only [Act.put, List.setIfInBounds_toArray, List.set_cons_zero, List.set_cons_succ]
              refine wpAnyH_take (i := 10) (v := undef) rfl (by kernel_rfl) (by kernel_rfl) (by kernel_rfl) (fun _ _ _ h => h) (Or.inr ⟨by first | kernel_rfl | rfl, rfl⟩) hHeld ?_
              change wpAnyH _ _ _ _ _ _ _ (Act.put _ (some 62) _) _
              simp only [Act.put, List.setIfInBounds_toArray, List.set_cons_zero, List.set_cons_succ]
              refine wpAnyH_take (i := 11) (v := undef) rfl (by kernel_rfl) (by kernel_rfl) (by kernel_rfl) (fun _ _ _ h => h) (Or.inr ⟨by first | kernel_rfl | rfl, rfl⟩) hHeld ?_
              change wpAnyH _ _ _ _ _ _ _ (Act.put _ (some 63) _) _
              simp only [Act.put, List.setIfInBounds_toArray, List.set_cons_zero, List.set_cons_succ]
              refine wpAnyH_take (i := 12) (v := undef) rfl (by kernel_rfl) (by kernel_rfl) (by kernel_rfl) (fun _ _ _ h => h) (Or.inr ⟨by first | kernel_rfl | rfl, rfl⟩) hHeld ?_
              change wpAnyH _ _ _ _ _ _ _ (Act.put _ (some 64) _) _
              simp only [Act.put, List.setIfInBounds_toArray, List.set_cons_zero, List.set_cons_succ]
              refine wpAnyH_take (i := 13) (v := undef) rfl (by kernel_rfl) (by kernel_rfl) (by kernel_rfl) (fun _ _ _ h => h) (Or.inr ⟨by first | kernel_rfl | rfl, rfl⟩) hHeld ?_
              change wpAnyH _ _ _ _ _ _ _ (Act.put _ (some 65) _) _
              simp only [Act.put, List.setIfInBounds_toArray, List.set_cons_zero, List.set_cons_succ]
              refine wpAnyH_take (i := 14) (v := undef) rfl (by kernel_rfl) (by kernel_rfl) (by kernel_rfl) (fun _ _ _ h => h) (Or.inr ⟨by first | kernel_rfl | rfl, rfl⟩) hHeld ?_
              change wpAnyH _ _ _ _ _ _ _ (Act.put _ (some 66) _) _
              simp only [Act.put, List.setIfInBounds_toArray, List.set_cons_zero, List.set_cons_succ]
              refine wpAnyH_take (i := 15) (v := undef) rfl (by kernel_rfl) (by kernel_rfl) (by kernel_rfl) (fun _ _ _ h => h) (Or.inr ⟨by first | kernel_rfl | rfl, rfl⟩) hHeld ?_
              change wpAnyH _ _ _ _ _ _ _ (Act.put _ (some 67) _) _
              simp only [Act.put, List.setIfInBounds_toArray, List.set_cons_zero, List.set_cons_succ]
              refine wpAnyH_take (i := 16) (v := undef) rfl (by kernel_rfl) (by kernel_rfl) (by kernel_rfl) (fun _ _ _ h => h) (Or.inr ⟨by first | kernel_rfl | rfl, rfl⟩) hHeld ?_
              change wpAnyH _ _ _ _ _ _ _ (Act.put _ (some 68) _) _
              simp only [Act.put, List.setIfInBounds_toArray, List.set_cons_zero, List.set_cons_succ]
              refine wpAnyH_take (i := 17) (v := undef) rfl (by kernel_rfl) (by kernel_rfl) (by kernel_rfl) (fun _ _ _ h => h) (Or.inr ⟨by first | kernel_rfl | rfl, rfl⟩) hHeld ?_
              change wpAnyH _ _ _ _ _ _ _ (Act.put _ (some 69) _) _
              simp only [Act.put, List.setIfInBounds_toArray, List.set_cons_zero, List.set_cons_succ]
              refine wpAnyH_take (i := 18) (v := .bool false) rfl (by kernel_rfl) (by kernel_rfl) (by kernel_rfl) (fun _ _ _ h => h) (Or.inl ⟨by first | kernel_rfl | rfl, ?yBf18⟩) hHeld ?rBf18
              case yBf18 => (intro W hSW; (try dsimp only at hSW); go_simp; (try with_reducible rfl))
              change wpAnyH _ _ _ _ _ _ _ (Act.put _ (some 70) _) _
              simp only [Act.put, List.setIfInBounds_toArray, List.set_cons_zero, List.set_cons_succ]
              refine wpAnyH_done (by kernel_rfl) ?_ _
              go_wp2
              exact ⟨⟨i + 1, a, c, l, by omega, by omega, by go_num, by rw [HK.out.2.2.2.2.2], HK.out.1, by have := HK.out.2.1; omega, by rw [HK.out.2.2.2.2.2]; exact own_keep HK.out.2.2.1 (fun k hk => rfl), HK.out.2.2.2.1, below_drew HK.out.2.2.2.2.1⟩, by simp [intOf]; omega⟩
            | true =>
              by_cases hse : s1 = s2
              · subst hse
                go_wp2
                refine wp_region_held_drew (S := fun W => W.cell? ⟨B, 7, none⟩ = some (.slice (some ⟨nb, no, none⟩) n nuc) ∧ W.cell? ⟨B, 8, none⟩ = some (.slice (some ⟨db, dO, none⟩) n ndc) ∧ W.cell? ⟨nb, no + i, none⟩ = some (.bool true) ∧ W.cell? ⟨db, dO + i, none⟩ = some (.string s1) ∧ W.cell? ⟨ob_, oo + i, none⟩ = some (.string s1)) (by kernel_rfl) (⟨c7, c8, d1, e1, e2⟩) (fun hHeld => ?_)
                refine wpAnyH_take (i := 0) (v := ?vBs0) rfl (by kernel_rfl) (by kernel_rfl) (by kernel_rfl) (fun _ _ _ h => h) (Or.inl ⟨by first | kernel_rfl | rfl, ?yBs0⟩) hHeld ?rBs0
                case yBs0 => (intro W hSW; (try dsimp only at hSW); go_simp; (try with_reducible rfl))
                change wpAnyH _ _ _ _ _ _ _ (Act.put _ (some 52) _) _
                simp only [Act.put, List.setIfInBounds_toArray, List.set_cons_zero, List.set_cons_succ]
                refine wpAnyH_take (i := 1) (v := ?vBs1) rfl (by kernel_rfl) (by kernel_rfl) (by kernel_rfl) (fun _ _ _ h => h) (Or.inl ⟨by first | kernel_rfl | rfl, ?yBs1⟩) hHeld ?rBs1
                case yBs1 => (intro W hSW; (try dsimp only at hSW); go_simp; (try with_reducible rfl))
                change wpAnyH _ _ _ _ _ _ _ (Act.put _ (some 53) _) _
                simp only [Act.put, List.setIfInBounds_toArray, List.set_cons_zero, List.set_cons_succ]
                refine wpAnyH_take (i := 2) (v := ?vBs2) rfl (by kernel_rfl) (by kernel_rfl) (by kernel_rfl) (fun _ _ _ h => h) (Or.inl ⟨by first | kernel_rfl | rfl, ?yBs2⟩) hHeld ?rBs2
                case yBs2 => (intro W hSW; (try dsimp only at hSW); go_simp; (try with_reducible rfl))
                change wpAnyH _ _ _ _ _ _ _ (Act.put _ (some 54) _) _
                simp only [Act.put, List.setIfInBounds_toArray, List.set_cons_zero, List.set_cons_succ]
                refine wpAnyH_take (i := 3) (v := ?vBs3) rfl (by kernel_rfl) (by kernel_rfl) (by kernel_rfl) (fun _ _ _ h => h) (Or.inl ⟨by first | kernel_rfl | rfl, ?yBs3⟩) hHeld ?rBs3
                case yBs3 => (intro W hSW; (try dsimp only at hSW); go_simp; (try with_reducible rfl))
                change wpAnyH _ _ _ _ _ _ _ (Act.put _ (some 55) _) _
                simp only [Act.put, List.setIfInBounds_toArray, List.set_cons_zero, List.set_cons_succ]
                refine wpAnyH_take (i := 4) (v := ?vBs4) rfl (by kernel_rfl) (by kernel_rfl) (by kernel_rfl) (fun _ _ _ h => h) (Or.inl ⟨by first | kernel_rfl | rfl, ?yBs4⟩) hHeld ?rBs4
                case yBs4 => (intro W hSW; (try dsimp only at hSW); go_simp; (try with_reducible rfl))
                change wpAnyH _ _ _ _ _ _ _ (Act.put _ (some 56) _) _
                simp only [Act.put, List.setIfInBounds_toArray, List.set_cons_zero, List.set_cons_succ]
                refine wpAnyH_take (i := 5) (v := ?vBs5) rfl (by kernel_rfl) (by kernel_rfl) (by kernel_rfl) (fun _ _ _ h => h) (Or.inl ⟨by first | kernel_rfl | rfl, ?yBs5⟩) hHeld ?rBs5
                case yBs5 => (intro W hSW; (try dsimp only at hSW); go_simp; (try with_reducible rfl))
                change wpAnyH _ _ _ _ _ _ _ (Act.put _ (some 57) _) _
                simp only [Act.put, List.setIfInBounds_toArray, List.set_cons_zero, List.set_cons_succ]
                refine wpAnyH_take (i := 6) (v := ?vBs6) rfl (by kernel_rfl) (by kernel_rfl) (by kernel_rfl) (fun _ _ _ h => h) (Or.inl ⟨by first | kernel_rfl | rfl, ?yBs6⟩) hHeld ?rBs6
                case yBs6 => (intro W hSW; (try dsimp only at hSW); go_simp; (try with_reducible rfl))
                change wpAnyH _ _ _ _ _ _ _ (Act.put _ (some 58) _) _
                simp only [Act.put, List.setIfInBounds_toArray, List.set_cons_zero, List.set_cons_succ]
                refine wpAnyH_take (i := 7) (v := ?vBs7) rfl (by kernel_rfl) (by kernel_rfl) (by kernel_rfl) (fun _ _ _ h => h) (Or.inl ⟨by first | kernel_rfl | rfl, ?yBs7⟩) hHeld ?rBs7
                case yBs7 => (intro W hSW; (try dsimp only at hSW); go_simp; (try with_reducible rfl))
                change wpAnyH _ _ _ _ _ _ _ (Act.put _ (some 59) _) _
                simp only [Act.put, List.setIfInBounds_toArray, List.set_cons_zero, List.set_cons_succ]
                refine wpAnyH_take (i := 8) (v := ?vBs8) rfl (by kernel_rfl) (by kernel_rfl) (by kernel_rfl) (fun _ _ _ h => h) (Or.inl ⟨by first | kernel_rfl | rfl, ?yBs8⟩) hHeld ?rBs8
                case yBs8 => (intro W hSW; (try dsimp only at hSW); go_simp; (try with_reducible rfl))
                change wpAnyH _ _ _ _ _ _ _ (Act.put _ (some 60) _) _
                simp only [Act.put, List.setIfInBounds_toArray, List.set_cons_zero, List.set_cons_succ]
                refine wpAnyH_take (i := 9) (v := ?vBs9) rfl (by kernel_rfl) (by kernel_rfl) (by kernel_rfl) (fun _ _ _ h => h) (Or.inl ⟨by first | kernel_rfl | rfl, ?yBs9⟩) hHeld ?rBs9
                case yBs9 => (intro W hSW; (try dsimp only at hSW); go_simp; (try with_reducible rfl))
                change wpAnyH _ _ _ _ _ _ _ (Act.put _ (some 61) _) _
                simp only [Act.put, List.setIfInBounds_toArray, List.set_cons_zero, List.set_cons_succ]
                refine wpAnyH_take (i := 10) (v := ?vBs10) rfl (by kernel_rfl) (by kernel_rfl) (by kernel_rfl) (fun _ _ _ h => h) (Or.inl ⟨by first | kernel_rfl | rfl, ?yBs10⟩) hHeld ?rBs10
                case yBs10 => (intro W hSW; (try dsimp only at hSW); go_simp; (try with_reducible rfl))
                change wpAnyH _ _ _ _ _ _ _ (Act.put _ (some 62) _) _
                simp only [Act.put, List.setIfInBounds_toArray, List.set_cons_zero, List.set_cons_succ]
                refine wpAnyH_take (i := 11) (v := ?vBs11) rfl (by kernel_rfl) (by kernel_rfl) (by kernel_rfl) (fun _ _ _ h => h) (Or.inl ⟨by first | kernel_rfl | rfl, ?yBs11⟩) hHeld ?rBs11
                case yBs11 => (intro W hSW; (try dsimp only at hSW); go_simp; (try with_reducible rfl))
                change wpAnyH _ _ _ _ _ _ _ (Act.put _ (some 63) _) _
                simp only [Act.put, List.setIfInBounds_toArray, List.set_cons_zero, List.set_cons_succ]
                refine wpAnyH_take (i := 12) (v := ?vBs12) rfl (by kernel_rfl) (by kernel_rfl) (by kernel_rfl) (fun _ _ _ h => h) (Or.inl ⟨by first | kernel_rfl | rfl, ?yBs12⟩) hHeld ?rBs12
                case yBs12 => (intro W hSW; (try dsimp only at hSW); go_simp; (try with_reducible rfl))
                change wpAnyH _ _ _ _ _ _ _ (Act.put _ (some 64) _) _
                simp only [Act.put, List.setIfInBounds_toArray, List.set_cons_zero, List.set_cons_succ]
                refine wpAnyH_take (i := 13) (v := ?vBs13) rfl (by kernel_rfl) (by kernel_rfl) (by kernel_rfl) (fun _ _ _ h => h) (Or.inl ⟨by first | kernel_rfl | rfl, ?yBs13⟩) hHeld ?rBs13
                case yBs13 => (intro W hSW; (try dsimp only at hSW); go_simp; (try with_reducible rfl))
                change wpAnyH _ _ _ _ _ _ _ (Act.put _ (some 65) _) _
                simp only [Act.put, List.setIfInBounds_toArray, List.set_cons_zero, List.set_cons_succ]
                refine wpAnyH_take (i := 14) (v := ?vBs14) rfl (by kernel_rfl) (by kernel_rfl) (by kernel_rfl) (fun _ _ _ h => h) (Or.inl ⟨by first | kernel_rfl | rfl, ?yBs14⟩) hHeld ?rBs14
                case yBs14 => (intro W hSW; (try dsimp only at hSW); go_simp; (try with_reducible rfl))
                change wpAnyH _ _ _ _ _ _ _ (Act.put _ (some 66) _) _
                simp only [Act.put, List.setIfInBounds_toArray, List.set_cons_zero, List.set_cons_succ]
                refine wpAnyH_take (i := 15) (v := ?vBs15) rfl (by kernel_rfl) (by kernel_rfl) (by kernel_rfl) (fun _ _ _ h => h) (Or.inl ⟨by first | kernel_rfl | rfl, ?yBs15⟩) hHeld ?rBs15
                case yBs15 => (intro W hSW; (try dsimp only at hSW); go_simp; (try with_reducible rfl))
                change wpAnyH _ _ _ _ _ _ _ (Act.put _ (some 67) _) _
                simp only [Act.put, List.setIfInBounds_toArray, List.set_cons_zero, List.set_cons_succ]
                refine wpAnyH_take (i := 16) (v := ?vBs16) rfl (by kernel_rfl) (by kernel_rfl) (by kernel_rfl) (fun _ _ _ h => h) (Or.inl ⟨by first | kernel_rfl | rfl, ?yBs16⟩) hHeld ?rBs16
                case yBs16 => (intro W hSW; (try dsimp only at hSW); go_simp; (try with_reducible rfl))
                change wpAnyH _ _ _ _ _ _ _ (Act.put _ (some 68) _) _
                simp only [Act.put, List.setIfInBounds_toArray, List.set_cons_zero, List.set_cons_succ]
                refine wpAnyH_take (i := 17) (v := .bool false) rfl (by kernel_rfl) (by kernel_rfl) (by kernel_rfl) (fun _ _ _ h => h) (Or.inl ⟨by first | kernel_rfl | rfl, ?yBs17⟩) hHeld ?rBs17
                case yBs17 => (intro W hSW; (try dsimp only at hSW); go_simp; (try with_reducible rfl))
                change wpAnyH _ _ _ _ _ _ _ (Act.put _ (some 69) _) _
                simp only [Act.put, List.setIfInBounds_toArray, List.set_cons_zero, List.set_cons_succ]
                refine wpAnyH_take (i := 18) (v := .bool false) rfl (by kernel_rfl) (by kernel_rfl) (by kernel_rfl) (fun _ _ _ h => h) (Or.inl ⟨by first | kernel_rfl | rfl, ?yBs18⟩) hHeld ?rBs18
                case yBs18 => (intro W hSW; (try dsimp only at hSW); go_simp; (try with_reducible rfl))
                change wpAnyH _ _ _ _ _ _ _ (Act.put _ (some 70) _) _
                simp only [Act.put, List.setIfInBounds_toArray, List.set_cons_zero, List.set_cons_succ]
                refine wpAnyH_done (by kernel_rfl) ?_ _
                go_wp2
                exact ⟨⟨i + 1, a, c, l, by omega, by omega, by go_num, by rw [HK.out.2.2.2.2.2], HK.out.1, by have := HK.out.2.1; omega, by rw [HK.out.2.2.2.2.2]; exact own_keep HK.out.2.2.1 (fun k hk => rfl), HK.out.2.2.2.1, below_drew HK.out.2.2.2.2.1⟩, by simp [intOf]; omega⟩
              · have ht := str_nb hse
                have hne := str_ne hse
                have hor : wr.drew.ownsRow (B + 1) 3 1 (.slice a m c) m (intsV l) := own_keep HK.out.2.2.1 (fun k hk => rfl)
                have hrr : wr.drew.heap[B]? = some (.cells row 53 (0, 0)) := HK.out.2.2.2.1
                have hbr : Below B w wr.drew := below_drew HK.out.2.2.2.2.1
                have hBl : B < wr.drew.heap.size := lt_of_some hrr
                obtain ⟨V3, hV3⟩ : ∃ V3, wr.drew.alloc (.cells #[.int .i64 (i : Int)] 3) = V3 := ⟨_, rfl⟩
                have hs3 : V3.heap.size = wr.drew.heap.size + 1 := by rw [← hV3]; simp
                have ho3 : V3.ownsRow (B + 1) 3 1 (.slice a m c) m (intsV l) := by rw [← hV3]; exact hor.alloc _
                have hr3 : V3.heap[B]? = some (.cells row 53 (0, 0)) := by rw [← hV3, Below.heap_alloc _ _ _ hBl]; exact hrr
                have hb3 : Below B w V3 := by rw [← hV3]; exact hbr.alloc (by omega) _
                obtain ⟨aA, cA, V4, hrA, hoA, hgA⟩ := addN_own V3 (x := i) (b := wr.drew.heap.size) ho3 (by rw [← hV3]; exact heap_alloc_new wr.drew _) (by omega) (by omega)
                have hl3 : ∀ x, ob a = some x → B + 1 ≤ x := fun x hx => (ho3.lt x (by rw [ob_slice]; exact hx)).1
                have HN : Hid (V4.ownsRow (B + 1) 3 1 (.slice aA (m + 1) cA) (m + 1) (intsV (l ++ [i])) ∧ V4.heap[B]? = some (.cells row 53 (0, 0)) ∧ Below B w V4) := ⟨hoA, (hgA.block B (by omega) (fun e => by have := hl3 B e.symm; omega)).trans hr3, hb3.grown hgA (by omega) (fun x hx => by have := hl3 x hx; omega)⟩
                clear hor hrr hbr ho3 hr3 hb3 hoA hgA hl3 hse
                go_wp2
                refine wp_region_held_drew (S := fun W => W.cell? ⟨B, 7, none⟩ = some (.slice (some ⟨nb, no, none⟩) n nuc) ∧ W.cell? ⟨B, 8, none⟩ = some (.slice (some ⟨db, dO, none⟩) n ndc) ∧ W.cell? ⟨nb, no + i, none⟩ = some (.bool true) ∧ W.cell? ⟨db, dO + i, none⟩ = some (.string s1) ∧ W.cell? ⟨ob_, oo + i, none⟩ = some (.string s2)) (by kernel_rfl) (⟨c7, c8, d1, e1, e2⟩) (fun hHeld => ?_)
                refine wpAnyH_take (i := 0) (v := ?vBn0) rfl (by kernel_rfl) (by kernel_rfl) (by kernel_rfl) (fun _ _ _ h => h) (Or.inl ⟨by first | kernel_rfl | rfl, ?yBn0⟩) hHeld ?rBn0
                case yBn0 => (intro W hSW; (try dsimp only at hSW); go_simp; (try with_reducible rfl))
                change wpAnyH _ _ _ _ _ _ _ (Act.put _ (some 52) _) _
                simp only [Act.put, List.setIfInBounds_toArray, List.set_cons_zero, List.set_cons_succ]
                refine wpAnyH_take (i := 1) (v := ?vBn1) rfl (by kernel_rfl) (by kernel_rfl) (by kernel_rfl) (fun _ _ _ h => h) (Or.inl ⟨by first | kernel_rfl | rfl, ?yBn1⟩) hHeld ?rBn1
                case yBn1 => (intro W hSW; (try dsimp only at hSW); go_simp; (try with_reducible rfl))
                change wpAnyH _ _ _ _ _ _ _ (Act.put _ (some 53) _) _
                simp only [Act.put, List.setIfInBounds_toArray, List.set_cons_zero, List.set_cons_succ]
                refine wpAnyH_take (i := 2) (v := ?vBn2) rfl (by kernel_rfl) (by kernel_rfl) (by kernel_rfl) (fun _ _ _ h => h) (Or.inl ⟨by first | kernel_rfl | rfl, ?yBn2⟩) hHeld ?rBn2
                case yBn2 => (intro W hSW; (try dsimp only at hSW); go_simp; (try with_reducible rfl))
                change wpAnyH _ _ _ _ _ _ _ (Act.put _ (some 54) _) _
                simp only [Act.put, List.setIfInBounds_toArray, List.set_cons_zero, List.set_cons_succ]
                refine wpAnyH_take (i := 3) (v := ?vBn3) rfl (by kernel_rfl) (by kernel_rfl) (by kernel_rfl) (fun _ _ _ h => h) (Or.inl ⟨by first | kernel_rfl | rfl, ?yBn3⟩) hHeld ?rBn3
                case yBn3 => (intro W hSW; (try dsimp only at hSW); go_simp; (try with_reducible rfl))
                change wpAnyH _ _ _ _ _ _ _ (Act.put _ (some 55) _) _
                simp only [Act.put, List.setIfInBounds_toArray, List.set_cons_zero, List.set_cons_succ]
                refine wpAnyH_take (i := 4) (v := ?vBn4) rfl (by kernel_rfl) (by kernel_rfl) (by kernel_rfl) (fun _ _ _ h => h) (Or.inl ⟨by first | kernel_rfl | rfl, ?yBn4⟩) hHeld ?rBn4
                case yBn4 => (intro W hSW; (try dsimp only at hSW); go_simp; (try with_reducible rfl))
                change wpAnyH _ _ _ _ _ _ _ (Act.put _ (some 56) _) _
                simp only [Act.put, List.setIfInBounds_toArray, List.set_cons_zero, List.set_cons_succ]
                refine wpAnyH_take (i := 5) (v := ?vBn5) rfl (by kernel_rfl) (by kernel_rfl) (by kernel_rfl) (fun _ _ _ h => h) (Or.inl ⟨by first | kernel_rfl | rfl, ?yBn5⟩) hHeld ?rBn5
                case yBn5 => (intro W hSW; (try dsimp only at hSW); go_simp; (try with_reducible rfl))
                change wpAnyH _ _ _ _ _ _ _ (Act.put _ (some 57) _) _
                simp only [Act.put, List.setIfInBounds_toArray, List.set_cons_zero, List.set_cons_succ]
                refine wpAnyH_take (i := 6) (v := ?vBn6) rfl (by kernel_rfl) (by kernel_rfl) (by kernel_rfl) (fun _ _ _ h => h) (Or.inl ⟨by first | kernel_rfl | rfl, ?yBn6⟩) hHeld ?rBn6
                case yBn6 => (intro W hSW; (try dsimp only at hSW); go_simp; (try with_reducible rfl))
                change wpAnyH _ _ _ _ _ _ _ (Act.put _ (some 58) _) _
                simp only [Act.put, List.setIfInBounds_toArray, List.set_cons_zero, List.set_cons_succ]
                refine wpAnyH_take (i := 7) (v := ?vBn7) rfl (by kernel_rfl) (by kernel_rfl) (by kernel_rfl) (fun _ _ _ h => h) (Or.inl ⟨by first | kernel_rfl | rfl, ?yBn7⟩) hHeld ?rBn7
                case yBn7 => (intro W hSW; (try dsimp only at hSW); go_simp; (try with_reducible rfl))
                change wpAnyH _ _ _ _ _ _ _ (Act.put _ (some 59) _) _
                simp only [Act.put, List.setIfInBounds_toArray, List.set_cons_zero, List.set_cons_succ]
                refine wpAnyH_take (i := 8) (v := ?vBn8) rfl (by kernel_rfl) (by kernel_rfl) (by kernel_rfl) (fun _ _ _ h => h) (Or.inl ⟨by first | kernel_rfl | rfl, ?yBn8⟩) hHeld ?rBn8
                case yBn8 => (intro W hSW; (try dsimp only at hSW); go_simp; (try with_reducible rfl))
                change wpAnyH _ _ _ _ _ _ _ (Act.put _ (some 60) _) _
                simp only [Act.put, List.setIfInBounds_toArray, List.set_cons_zero, List.set_cons_succ]
                refine wpAnyH_take (i := 9) (v := ?vBn9) rfl (by kernel_rfl) (by kernel_rfl) (by kernel_rfl) (fun _ _ _ h => h) (Or.inl ⟨by first | kernel_rfl | rfl, ?yBn9⟩) hHeld ?rBn9
                case yBn9 => (intro W hSW; (try dsimp only at hSW); go_simp; (try with_reducible rfl))
                change wpAnyH _ _ _ _ _ _ _ (Act.put _ (some 61) _) _
                simp only [Act.put, List.setIfInBounds_toArray, List.set_cons_zero, List.set_cons_succ]
                refine wpAnyH_take (i := 10) (v := ?vBn10) rfl (by kernel_rfl) (by kernel_rfl) (by kernel_rfl) (fun _ _ _ h => h) (Or.inl ⟨by first | kernel_rfl | rfl, ?yBn10⟩) hHeld ?rBn10
                case yBn10 => (intro W hSW; (try dsimp only at hSW); go_simp; (try with_reducible rfl))
                change wpAnyH _ _ _ _ _ _ _ (Act.put _ (some 62) _) _
                simp only [Act.put, List.setIfInBounds_toArray, List.set_cons_zero, List.set_cons_succ]
                refine wpAnyH_take (i := 11) (v := ?vBn11) rfl (by kernel_rfl) (by kernel_rfl) (by kernel_rfl) (fun _ _ _ h => h) (Or.inl ⟨by first | kernel_rfl | rfl, ?yBn11⟩) hHeld ?rBn11
                case yBn11 => (intro W hSW; (try dsimp only at hSW); go_simp; (try with_reducible rfl))
                change wpAnyH _ _ _ _ _ _ _ (Act.put _ (some 63) _) _
                simp only [Act.put, List.setIfInBounds_toArray, List.set_cons_zero, List.set_cons_succ]
                refine wpAnyH_take (i := 12) (v := ?vBn12) rfl (by kernel_rfl) (by kernel_rfl) (by kernel_rfl) (fun _ _ _ h => h) (Or.inl ⟨by first | kernel_rfl | rfl, ?yBn12⟩) hHeld ?rBn12
                case yBn12 => (intro W hSW; (try dsimp only at hSW); go_simp; (try with_reducible rfl))
                change wpAnyH _ _ _ _ _ _ _ (Act.put _ (some 64) _) _
                simp only [Act.put, List.setIfInBounds_toArray, List.set_cons_zero, List.set_cons_succ]
                refine wpAnyH_take (i := 13) (v := ?vBn13) rfl (by kernel_rfl) (by kernel_rfl) (by kernel_rfl) (fun _ _ _ h => h) (Or.inl ⟨by first | kernel_rfl | rfl, ?yBn13⟩) hHeld ?rBn13
                case yBn13 => (intro W hSW; (try dsimp only at hSW); go_simp; (try with_reducible rfl))
                change wpAnyH _ _ _ _ _ _ _ (Act.put _ (some 65) _) _
                simp only [Act.put, List.setIfInBounds_toArray, List.set_cons_zero, List.set_cons_succ]
                refine wpAnyH_take (i := 14) (v := ?vBn14) rfl (by kernel_rfl) (by kernel_rfl) (by kernel_rfl) (fun _ _ _ h => h) (Or.inl ⟨by first | kernel_rfl | rfl, ?yBn14⟩) hHeld ?rBn14
                case yBn14 => (intro W hSW; (try dsimp only at hSW); go_simp; (try with_reducible rfl))
                change wpAnyH _ _ _ _ _ _ _ (Act.put _ (some 66) _) _
                simp only [Act.put, List.setIfInBounds_toArray, List.set_cons_zero, List.set_cons_succ]
                refine wpAnyH_take (i := 15) (v := ?vBn15) rfl (by kernel_rfl) (by kernel_rfl) (by kernel_rfl) (fun _ _ _ h => h) (Or.inl ⟨by first | kernel_rfl | rfl, ?yBn15⟩) hHeld ?rBn15
                case yBn15 => (intro W hSW; (try dsimp only at hSW); go_simp; (try with_reducible rfl))
                change wpAnyH _ _ _ _ _ _ _ (Act.put _ (some 67) _) _
                simp only [Act.put, List.setIfInBounds_toArray, List.set_cons_zero, List.set_cons_succ]
                refine wpAnyH_take (i := 16) (v := ?vBn16) rfl (by kernel_rfl) (by kernel_rfl) (by kernel_rfl) (fun _ _ _ h => h) (Or.inl ⟨by first | kernel_rfl | rfl, ?yBn16⟩) hHeld ?rBn16
                case yBn16 => (intro W hSW; (try dsimp only at hSW); go_simp; (try with_reducible rfl))
                change wpAnyH _ _ _ _ _ _ _ (Act.put _ (some 68) _) _
                simp only [Act.put, List.setIfInBounds_toArray, List.set_cons_zero, List.set_cons_succ]
                refine wpAnyH_take (i := 17) (v := .bool true) rfl (by kernel_rfl) (by kernel_rfl) (by kernel_rfl) (fun _ _ _ h => h) (Or.inl ⟨by first | kernel_rfl | rfl, ?yBn17⟩) hHeld ?rBn17
                case yBn17 => (intro W hSW; (try dsimp only at hSW); go_simp; (try with_reducible rfl))
                change wpAnyH _ _ _ _ _ _ _ (Act.put _ (some 69) _) _
                simp only [Act.put, List.setIfInBounds_toArray, List.set_cons_zero, List.set_cons_succ]
                refine wpAnyH_take (i := 18) (v := .bool true) rfl (by kernel_rfl) (by kernel_rfl) (by kernel_rfl) (fun _ _ _ h => h) (Or.inl ⟨by first | kernel_rfl | rfl, ?yBn18⟩) hHeld ?rBn18
                case yBn18 => (intro W hSW; (try dsimp only at hSW); go_simp; (try with_reducible rfl))
                change wpAnyH _ _ _ _ _ _ _ (Act.put _ (some 70) _) _
                simp only [Act.put, List.setIfInBounds_toArray, List.set_cons_zero, List.set_cons_succ]
                refine wpAnyH_done (by kernel_rfl) ?_ _
                go_wp2_with ((at_builtin; refine wpList_app V3 rfl _ _ _ _ rfl rfl rfl (hrA _) ?_))
                have hl1 : (l ++ [i]).length = m + 1 := by rw [List.length_append, HK.out.2.2.2.2.2]; rfl
                exact ⟨⟨i + 1, aA, cA, l ++ [i], by omega, by omega, by go_num, by rw [hl1], fun x hx => (List.mem_append.1 hx).elim (HK.out.1 x) (fun h => by rw [List.mem_singleton.1 h]; exact hlt), by have := HK.out.2.1; rw [hl1]; have := HK.out.2.2.2.2.2; omega, by rw [hl1]; exact HN.out.1, HN.out.2.1, HN.out.2.2⟩, by simp [intOf]; omega⟩
          · obtain rfl : i = n := by omega
            have kk : ¬ (i : Int) < (i : Int) := by omega
            clear hlx hll hol hr hbw hm
            go_wp2
            go_ret
            exact ⟨a, c, l, by rw [HK.out.2.2.2.2.2]; rfl, HK.out.1, HK.out.2.1, by rw [HK.out.2.2.2.2.2, hB]; exact own_base HK.out.2.2.1 (by omega), by rw [hB]; exact HK.out.2.2.2.2.1⟩
end Go.Proofs.YtdgffocmdkadpaaGreat
