/- A step of both disks. -/
import Derived.Test.YtdlmciicapigjaaZA
namespace Go.Proofs.Ytdlmciicapigjaa
open Go.RowKit Go.Shelf
set_option maxRecDepth 100000 in
set_option maxHeartbeats 4000000 in
theorem step_read {w0 w : World} {xb : Nat} {xo : Obj} {g lb lc : Nat} {wa : Option Addr} {wc : Nat} {D : Dk} (h : Pair w0 xb xo w g lb lc wa wc D) (ad lo : Int) (fi : Nat) (pa : Option Addr) (pl pc : Nat) (bs : List Bool) (_had : ad ≤ 9223372036854775807) (_hfi : fi < 256) (hbs : Bls w0 pa pl pc bs) (_hw : D.writes < 999999) :
    Calls Try.prog 23 #[.pointer (some ⟨g, 0, none⟩), .agg #[.slice (some ⟨lb, 0, none⟩) D.kept.length lc, .slice wa D.waits.length wc, .int .i64 (D.fuse : Int), .int .i64 (D.writes : Int), .bool (!D.up)], .agg #[.int .i64 2, .int .i64 ad, .int .i64 lo, .int .u8 (fi : Int), .slice pa pl pc]] w fun e w' => ∃ g' lb' lc' wa' wc' D', e = .returned (.tuple #[.pointer (some ⟨g', 0, none⟩), .agg (rcells lb' lc' wa' wc' D'), .bool true]) ∧ Pair w0 xb xo w' g' lb' lc' wa' wc' D' ∧ D'.kept.length = D.kept.length ∧ D'.writes ≤ D.writes + 1 := by
  obtain ⟨dn, hdn⟩ : ∃ dn, (!D.up) = dn := ⟨_, rfl⟩
  obtain ⟨S, hst0⟩ := h.st ⟨2, ad, lo, fi, pa, pl, pc, bs⟩ #[.slice (some ⟨lb, 0, none⟩) D.kept.length lc, .slice wa D.waits.length wc, .int .i64 (D.fuse : Int), .int .i64 (D.writes : Int), .bool dn]
  obtain ⟨V0, hV0⟩ : ∃ V, (((w.alloc (.cells #[.slice (some ⟨lb, 0, none⟩) D.kept.length lc, .slice wa D.waits.length wc, .int .i64 (D.fuse : Int), .int .i64 (D.writes : Int), .bool dn] 40)).alloc (.cells #[.int .i64 2, .int .i64 ad, .int .i64 lo, .int .u8 (fi : Int), .slice pa pl pc] 46)).alloc (.cells #[.slice none 0 0, .slice none 0 0, .int .i64 0, .int .i64 0, .bool false] 40)) = V := ⟨_, rfl⟩
  have HST0 : Hid (St w0 xb xo w.heap.size (w.heap.size + 1) (w.heap.size + 2) ⟨2, ad, lo, fi, pa, pl, pc, bs⟩ S g D lb lc wa wc D #[.slice (some ⟨lb, 0, none⟩) D.kept.length lc, .slice wa D.waits.length wc, .int .i64 (D.fuse : Int), .int .i64 (D.writes : Int), .bool dn] V0) := by rw [← hV0]; exact hst0
  have HDN : Hid ((!D.up) = dn) := hdn
  have HBS : Hid (Bls w0 pa pl pc bs) := hbs
  rw [hdn]
  clear h hst0 hdn hbs
  go_enter Try.func23, Try.ntmps23
  obtain ⟨x4, hx4⟩ : ∃ x, w.heap.size = x := ⟨_, rfl⟩
  obtain ⟨x5, hx5⟩ : ∃ x, x4 + 1 = x := ⟨_, rfl⟩
  obtain ⟨x7, hx7⟩ : ∃ x, x5 + 1 = x := ⟨_, rfl⟩
  rw [show w.heap.size + 2 = x7 by omega, show w.heap.size + 1 = x5 by omega, hx4] at HST0
  obtain ⟨o0, o1, o2, o3, o4⟩ := HST0.out.at5
  have HST9 : Hid _ := HST0.out
  rw [← HDN.out] at HST9
  clear HST0
  go_wp2
  try rw [hV0]
  obtain ⟨n', hn'⟩ : ∃ n', D.kept.length = n' := ⟨_, rfl⟩
  obtain ⟨N', hN'⟩ : ∃ N', D.waits.length = N' := ⟨_, rfl⟩
  obtain ⟨F', hF'⟩ : ∃ F' : Int, (D.fuse : Int) = F' := ⟨_, rfl⟩
  obtain ⟨M', hM'⟩ : ∃ M' : Int, (D.writes : Int) = M' := ⟨_, rfl⟩
  obtain ⟨B', hB'⟩ : ∃ B', (!D.up) = B' := ⟨_, rfl⟩
  have HRC : Hid (rcells lb lc wa wc D = #[.slice (some ⟨lb, 0, none⟩) n' lc, .slice wa N' wc, .int .i64 F', .int .i64 M', .bool B']) := by
    show _ = _
    unfold rcells
    rw [hn', hN', hF', hM', hB']
  have HS : Hid (St w0 xb xo x4 x5 x7 ⟨2, ad, lo, fi, pa, pl, pc, bs⟩ S g D lb lc wa wc D #[.slice (some ⟨lb, 0, none⟩) n' lc, .slice wa N' wc, .int .i64 F', .int .i64 M', .bool B'] V0) := by
    have := HST9.out
    rw [hn', hN', hF', hM', hB'] at this
    exact this
  obtain ⟨f0, f1, f2, f3, f4, ff⟩ := HS.out.drew.at4
  obtain ⟨z0, z1, z2, z3, z4, zf⟩ := HS.out.drew.at7
  obtain ⟨y0, y1, y2, y3, y4, yf⟩ := HS.out.at7
  have n74 : x7 ≠ x4 := by have := HS.out.n4; omega
  have HPR : Hid (∀ v0 v1 v2 v3 v4, Pair w0 xb xo (((((V0.drew.setCell ⟨x7, 0, none⟩ v0).setCell ⟨x7, 1, none⟩ v1).setCell ⟨x7, 2, none⟩ v2).setCell ⟨x7, 3, none⟩ v3).setCell ⟨x7, 4, none⟩ v4) g lb lc wa wc D) := fun v0 v1 v2 v3 v4 => HS.out.drew.pair v0 v1 v2 v3 v4
  have HK4 : Hid (∀ v0 v1 v2 v3 v4 (V : World), V.heap = (((((V0.setCell ⟨x7, 0, none⟩ v0).setCell ⟨x7, 1, none⟩ v1).setCell ⟨x7, 2, none⟩ v2).setCell ⟨x7, 3, none⟩ v3).setCell ⟨x7, 4, none⟩ v4).heap → (V.cell? ⟨x4, 0, none⟩ = some (.slice (some ⟨lb, 0, none⟩) n' lc) ∧ V.cell? ⟨x4, 1, none⟩ = some (.slice wa N' wc) ∧ V.cell? ⟨x4, 2, none⟩ = some (.int .i64 F') ∧ V.cell? ⟨x4, 3, none⟩ = some (.int .i64 M') ∧ V.cell? ⟨x4, 4, none⟩ = some (.bool B'))) := by
    intro v0 v1 v2 v3 v4 V hV
    have hrow : V.heap[x4]? = some (.cells #[.slice (some ⟨lb, 0, none⟩) n' lc, .slice wa N' wc, .int .i64 F', .int .i64 M', .bool B'] 40 (0, 0)) := by
      rw [hV, five_other V0 x7 x4 _ _ _ _ _ (Ne.symm n74)]
      exact HS.out.h4
    refine ⟨?_, ?_, ?_, ?_, ?_⟩ <;> rw [cell_of_row V x4 _ _ _ _ hrow] <;> rfl
  clear HST9 HS hn' hN' hF' hM' hB'
  refine wp_region_held_drew (S := fun V => V.cell? ⟨x4, 0, none⟩ = some (.slice (some ⟨lb, 0, none⟩) n' lc) ∧ V.cell? ⟨x4, 1, none⟩ = some (.slice wa N' wc) ∧ V.cell? ⟨x4, 2, none⟩ = some (.int .i64 F') ∧ V.cell? ⟨x4, 3, none⟩ = some (.int .i64 M') ∧ V.cell? ⟨x4, 4, none⟩ = some (.bool B')) (by kernel_rfl) (⟨f0, f1, f2, f3, f4⟩) (fun hHeld => ?_)
  refine wpAnyH_take (i := 0) (v := ?vz0) rfl (by kernel_rfl) (by kernel_rfl) (by kernel_rfl) (fun _ _ _ h => h) (Or.inl ⟨by first | kernel_rfl | rfl, ?yz0⟩) hHeld ?rz0
  case yz0 => (intro W hSW; (try dsimp only at hSW); go_simp; (try with_reducible rfl))
  change wpAnyH _ _ _ _ _ _ _ (Act.put _ (some 88) _) _
  simp only [Act.put, List.setIfInBounds_toArray, List.set_cons_zero, List.set_cons_succ]
  refine wpAnyH_take (i := 1) (v := ?vz1) rfl (by kernel_rfl) (by kernel_rfl) (by kernel_rfl) (fun _ _ _ h => h) (Or.inl ⟨by first | kernel_rfl | rfl, ?yz1⟩) hHeld ?rz1
  case yz1 => (intro W hSW; (try dsimp only at hSW); go_simp; (try with_reducible rfl))
  change wpAnyH _ _ _ _ _ _ _ (Act.put _ (some 89) _) _
  simp only [Act.put, List.setIfInBounds_toArray, List.set_cons_zero, List.set_cons_succ]
  refine wpAnyH_take (i := 2) (v := ?vz2) rfl (by kernel_rfl) (by kernel_rfl) (by kernel_rfl) (fun _ _ _ h => h) (Or.inl ⟨by first | kernel_rfl | rfl, ?yz2⟩) hHeld ?rz2
  case yz2 => (intro W hSW; (try dsimp only at hSW); go_simp; (try with_reducible rfl))
  change wpAnyH _ _ _ _ _ _ _ (Act.put _ (some 90) _) _
  simp only [Act.put, List.setIfInBounds_toArray, List.set_cons_zero, List.set_cons_succ]
  refine wpAnyH_take (i := 3) (v := ?vz3) rfl (by kernel_rfl) (by kernel_rfl) (by kernel_rfl) (fun _ _ _ h => h) (Or.inl ⟨by first | kernel_rfl | rfl, ?yz3⟩) hHeld ?rz3
  case yz3 => (intro W hSW; (try dsimp only at hSW); go_simp; (try with_reducible rfl))
  change wpAnyH _ _ _ _ _ _ _ (Act.put _ (some 91) _) _
  simp only [Act.put, List.setIfInBounds_toArray, List.set_cons_zero, List.set_cons_succ]
  refine wpAnyH_take (i := 4) (v := ?vz4) rfl (by kernel_rfl) (by kernel_rfl) (by kernel_rfl) (fun _ _ _ h => h) (Or.inl ⟨by first | kernel_rfl | rfl, ?yz4⟩) hHeld ?rz4
  case yz4 => (intro W hSW; (try dsimp only at hSW); go_simp; (try with_reducible rfl))
  change wpAnyH _ _ _ _ _ _ _ (Act.put _ (some 92) _) _
  simp only [Act.put, List.setIfInBounds_toArray, List.set_cons_zero, List.set_cons_succ]
  refine wpAnyH_take (i := 5) (v := ?vz5) rfl (by kernel_rfl) (by kernel_rfl) (by kernel_rfl) (fun _ _ _ h => h) (Or.inl ⟨by first | kernel_rfl | rfl, ?yz5⟩) hHeld ?rz5
  case yz5 => (intro W hSW; (try dsimp only at hSW); go_simp; (try with_reducible rfl))
  change wpAnyH _ _ _ _ _ _ _ (Act.put _ (some 6) _) _
  simp only [Act.put, List.setIfInBounds_toArray, List.set_cons_zero, List.set_cons_succ]
  refine wpAnyH_ready (rs := [6]) (by kernel_rfl) (by simp) ?_
  refine AllReadyH.cons rfl (fun K hK => ?_) AllReadyH.nil
  go_simp
  refine hK.out _ _ (HK4.out _ _ _ _ _ _ rfl) (fun hHeld => ?_)
  clear hK K
  refine wpAnyH_take (i := 7) (v := ?vz7) rfl (by kernel_rfl) (by kernel_rfl) (by kernel_rfl) (fun _ _ _ h => h) (Or.inl ⟨by first | kernel_rfl | rfl, ?yz7⟩) hHeld ?rz7
  case yz7 => (intro W hSW; (try dsimp only at hSW); go_simp; (try with_reducible rfl))
  change wpAnyH _ _ _ _ _ _ _ (Act.put _ (some 8) _) _
  simp only [Act.put, List.setIfInBounds_toArray, List.set_cons_zero, List.set_cons_succ]
  refine wpAnyH_done (by kernel_rfl) ?_ _
  clear hHeld f0 f1 f2 f3 f4 ff
  go_wp2
  refine bodyPost_ret (v := .tuple #[.pointer (some ⟨g, 0, none⟩), .agg #[.slice (some ⟨lb, 0, none⟩) n' lc, .slice wa N' wc, .int .i64 F', .int .i64 M', .bool B'], .bool true]) ?_ rfl ⟨g, lb, lc, wa, wc, D, ?_, ?_, ⟨rfl, Nat.le_succ _⟩⟩
  · simp [results, go_sem, y0, y1, y2, y3, y4]
  · rw [HRC.out]
  · exact HPR.out _ _ _ _ _
end Go.Proofs.Ytdlmciicapigjaa
