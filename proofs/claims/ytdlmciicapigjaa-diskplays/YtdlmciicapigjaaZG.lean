/- A step of both disks. -/
import Derived.Test.YtdlmciicapigjaaZA
namespace Go.Proofs.Ytdlmciicapigjaa
open Go.RowKit Go.Shelf
set_option maxRecDepth 100000 in
set_option maxHeartbeats 4000000 in
theorem step_write {w0 w : World} {xb : Nat} {xo : Obj} {g lb lc : Nat} {wa : Option Addr} {wc : Nat} {D : Dk} (h : Pair w0 xb xo w g lb lc wa wc D) (ad lo : Int) (fi : Nat) (pa : Option Addr) (pl pc : Nat) (bs : List Bool) (_had : ad ≤ 9223372036854775807) (hfi : fi < 256) (hbs : Bls w0 pa pl pc bs) (hw : D.writes < 999999) :
    Calls Try.prog 23 #[.pointer (some ⟨g, 0, none⟩), .agg #[.slice (some ⟨lb, 0, none⟩) D.kept.length lc, .slice wa D.waits.length wc, .int .i64 (D.fuse : Int), .int .i64 (D.writes : Int), .bool (!D.up)], .agg #[.int .i64 0, .int .i64 ad, .int .i64 lo, .int .u8 (fi : Int), .slice pa pl pc]] w fun e w' => ∃ g' lb' lc' wa' wc' D', e = .returned (.tuple #[.pointer (some ⟨g', 0, none⟩), .agg (rcells lb' lc' wa' wc' D'), .bool true]) ∧ Pair w0 xb xo w' g' lb' lc' wa' wc' D' ∧ D'.kept.length = D.kept.length ∧ D'.writes ≤ D.writes + 1 := by
  obtain ⟨dn, hdn⟩ : ∃ dn, (!D.up) = dn := ⟨_, rfl⟩
  obtain ⟨S, hst0⟩ := h.st ⟨0, ad, lo, fi, pa, pl, pc, bs⟩ #[.slice (some ⟨lb, 0, none⟩) D.kept.length lc, .slice wa D.waits.length wc, .int .i64 (D.fuse : Int), .int .i64 (D.writes : Int), .bool dn]
  obtain ⟨V0, hV0⟩ : ∃ V, (((w.alloc (.cells #[.slice (some ⟨lb, 0, none⟩) D.kept.length lc, .slice wa D.waits.length wc, .int .i64 (D.fuse : Int), .int .i64 (D.writes : Int), .bool dn] 40)).alloc (.cells #[.int .i64 0, .int .i64 ad, .int .i64 lo, .int .u8 (fi : Int), .slice pa pl pc] 46)).alloc (.cells #[.slice none 0 0, .slice none 0 0, .int .i64 0, .int .i64 0, .bool false] 40)) = V := ⟨_, rfl⟩
  have HST0 : Hid (St w0 xb xo w.heap.size (w.heap.size + 1) (w.heap.size + 2) ⟨0, ad, lo, fi, pa, pl, pc, bs⟩ S g D lb lc wa wc D #[.slice (some ⟨lb, 0, none⟩) D.kept.length lc, .slice wa D.waits.length wc, .int .i64 (D.fuse : Int), .int .i64 (D.writes : Int), .bool dn] V0) := by rw [← hV0]; exact hst0
  have HDN : Hid ((!D.up) = dn) := hdn
  have HBS : Hid (Bls w0 pa pl pc bs) := hbs
  rw [hdn]
  clear h hst0 hdn hbs
  go_enter Try.func23, Try.ntmps23
  obtain ⟨x4, hx4⟩ : ∃ x, w.heap.size = x := ⟨_, rfl⟩
  obtain ⟨x5, hx5⟩ : ∃ x, x4 + 1 = x := ⟨_, rfl⟩
  obtain ⟨x7, hx7⟩ : ∃ x, x5 + 1 = x := ⟨_, rfl⟩
  rw [show w.heap.size + 2 = x7 by omega, show w.heap.size + 1 = x5 by omega, hx4] at HST0
  have HX : Hid (St w0 xb xo x4 x5 x7 ⟨0, ad, lo, fi, pa, pl, pc, bs⟩ S g D lb lc wa wc D #[.slice (some ⟨lb, 0, none⟩) D.kept.length lc, .slice wa D.waits.length wc, .int .i64 (D.fuse : Int), .int .i64 (D.writes : Int), .bool dn] V0) := HST0.out
  obtain ⟨a0, a1, a2, a3, a4, af⟩ := HX.out.at4
  obtain ⟨a0', a1', a2', a3', a4', af'⟩ := HX.out.drew.at4
  obtain ⟨o0', o1', o2', o3', o4'⟩ := HX.out.at5
  obtain ⟨o0, o1, o2, o3, o4⟩ := HX.out.drew.at5
  obtain ⟨T, hT⟩ : ∃ T, fillS lo fi = T := ⟨_, rfl⟩
  have HFI : Hid (∀ V, Calls Try.prog 27 #[.agg #[.int .i64 0, .int .i64 ad, .int .i64 lo, .int .u8 (fi : Int), .slice pa pl pc]] V fun e w' => e = .returned (.string T) ∧ Below V.heap.size V w') := by
    intro V
    rw [← hT]; exact filled_any 0 ad lo fi pa pl pc V hfi
  have HFI1 := HFI.out V0.drew
  obtain ⟨D', hD'⟩ : ∃ D', D.wput ad T = D' := ⟨_, rfl⟩
  obtain ⟨cd, hcd⟩ : ∃ cd, D.wcode ad T = cd := ⟨_, rfl⟩
  have HKD : Hid (D'.kept.length = D.kept.length ∧ D'.writes ≤ D.writes + 1) := by
    rw [← hD']
    unfold Dk.wput
    split
    · exact ⟨rfl, Nat.le_refl _⟩
    · exact ⟨rfl, Nat.le_succ _⟩
  have HWT : Hid (∀ V, St w0 xb xo x4 x5 x7 ⟨0, ad, lo, fi, pa, pl, pc, bs⟩ S g D lb lc wa wc D #[.slice (some ⟨lb, 0, none⟩) D.kept.length lc, .slice wa D.waits.length wc, .int .i64 (D.fuse : Int), .int .i64 (D.writes : Int), .bool dn] V → Calls Try.prog 39 #[.agg #[.slice (some ⟨lb, 0, none⟩) D.kept.length lc, .slice wa D.waits.length wc, .int .i64 (D.fuse : Int), .int .i64 (D.writes : Int), .bool dn], .int .i64 ad, .string T] V fun e w' => ∃ lb' lc' wa' wc', e = .returned (.tuple #[.agg (rcells lb' lc' wa' wc' D'), .int .i64 (cd : Int)]) ∧ St w0 xb xo x4 x5 x7 ⟨0, ad, lo, fi, pa, pl, pc, bs⟩ S g D lb' lc' wa' wc' D' #[.slice (some ⟨lb, 0, none⟩) D.kept.length lc, .slice wa D.waits.length wc, .int .i64 (D.fuse : Int), .int .i64 (D.writes : Int), .bool dn] w') := by
    intro V hV
    have := rwrite_any hV.r ad T (by omega)
    rw [HDN.out, hD', hcd] at this
    refine this.mono ?_
    rintro e w' ⟨lb', lc', wa', wc', rfl, hr, ht⟩
    exact ⟨lb', lc', wa', wc', rfl, hV.ref hr ht⟩
  have HPW : Hid (∀ V, DiskIs V S g D → Calls Try.prog 11 #[.pointer (some ⟨g, 0, none⟩), .int .i64 ad, .string T] V fun e w' => e = .returned (.int .i64 (cd : Int)) ∧ Mut S V g D' w') := by
    intro V hV
    have := write_m hV ad T (by omega)
    rw [hD', hcd] at this
    exact this
  clear HST0 hT hD' hcd
  go_wp2
  try rw [hV0]
  refine wp_region_held_drew (S := fun V => V.cell? ⟨x5, 0, none⟩ = some (.int .i64 0) ∧ V.cell? ⟨x5, 1, none⟩ = some (.int .i64 ad) ∧ V.cell? ⟨x5, 2, none⟩ = some (.int .i64 lo) ∧ V.cell? ⟨x5, 3, none⟩ = some (.int .u8 (fi : Int)) ∧ V.cell? ⟨x5, 4, none⟩ = some (.slice pa pl pc)) (by kernel_rfl) (⟨o0, o1, o2, o3, o4⟩) (fun hHeld => ?_)
  refine wpAnyH_take (i := 1) (v := ?vp1) rfl (by kernel_rfl) (by kernel_rfl) (by kernel_rfl) (fun _ _ _ h => h) (Or.inl ⟨by first | kernel_rfl | rfl, ?yp1⟩) hHeld ?rp1
  case yp1 => (intro W hSW; (try dsimp only at hSW); go_simp; (try with_reducible rfl))
  change wpAnyH _ _ _ _ _ _ _ (Act.put _ (some 32) _) _
  simp only [Act.put, List.setIfInBounds_toArray, List.set_cons_zero, List.set_cons_succ]
  refine wpAnyH_take (i := 2) (v := ?vp2) rfl (by kernel_rfl) (by kernel_rfl) (by kernel_rfl) (fun _ _ _ h => h) (Or.inl ⟨by first | kernel_rfl | rfl, ?yp2⟩) hHeld ?rp2
  case yp2 => (intro W hSW; (try dsimp only at hSW); go_simp; (try with_reducible rfl))
  change wpAnyH _ _ _ _ _ _ _ (Act.put _ (some 33) _) _
  simp only [Act.put, List.setIfInBounds_toArray, List.set_cons_zero, List.set_cons_succ]
  refine wpAnyH_take (i := 3) (v := ?vp3) rfl (by kernel_rfl) (by kernel_rfl) (by kernel_rfl) (fun _ _ _ h => h) (Or.inl ⟨by first | kernel_rfl | rfl, ?yp3⟩) hHeld ?rp3
  case yp3 => (intro W hSW; (try dsimp only at hSW); go_simp; (try with_reducible rfl))
  change wpAnyH _ _ _ _ _ _ _ (Act.put _ (some 34) _) _
  simp only [Act.put, List.setIfInBounds_toArray, List.set_cons_zero, List.set_cons_succ]
  refine wpAnyH_ready (rs := [0, 4]) (by kernel_rfl) (by simp) ?_
  refine AllReadyH.cons rfl (fun K hK => ?_) (AllReadyH.cons rfl (fun K hK => ?_) AllReadyH.nil)
  · go_simp
    refine hK.out _ _ (hHeld) (fun hHeld => ?_)
    clear hK K
    try simp only [Act.put, List.setIfInBounds_toArray, List.set_cons_zero, List.set_cons_succ]
    refine wpAnyH_ready (rs := [4]) (by kernel_rfl) (by simp) ?_
    refine AllReadyH.cons rfl (fun K hK => ?_) AllReadyH.nil
    go_simp
    refine (HFI1).mono ?_
    rintro e V1 ⟨rfl, hb1⟩; have HS1 : Hid (St w0 xb xo x4 x5 x7 ⟨0, ad, lo, fi, pa, pl, pc, bs⟩ S g D lb lc wa wc D #[.slice (some ⟨lb, 0, none⟩) D.kept.length lc, .slice wa D.waits.length wc, .int .i64 (D.fuse : Int), .int .i64 (D.writes : Int), .bool dn] V1) := HX.out.drew.keep hb1; clear hb1; obtain ⟨m0, m1, m2, m3, m4⟩ := HS1.out.at5; obtain ⟨k0, k1, k2, k3, k4, kf⟩ := HS1.out.at4
    refine hK.out _ _ (⟨m0, m1, m2, m3, m4⟩) (fun hHeld => ?_)
    clear hK K
    try simp only [Act.put, List.setIfInBounds_toArray, List.set_cons_zero, List.set_cons_succ]
    refine wpAnyH_ready (rs := [5]) (by kernel_rfl) (by simp) ?_
    refine AllReadyH.cons rfl (fun K hK => ?_) AllReadyH.nil
    go_simp
    refine ((HWT.out V1 HS1.out)).mono ?_
    rintro e V2 ⟨lb', lc', wa', wc', rfl, hs2⟩; have HS2 : Hid (St w0 xb xo x4 x5 x7 ⟨0, ad, lo, fi, pa, pl, pc, bs⟩ S g D lb' lc' wa' wc' D' #[.slice (some ⟨lb, 0, none⟩) D.kept.length lc, .slice wa D.waits.length wc, .int .i64 (D.fuse : Int), .int .i64 (D.writes : Int), .bool dn] V2) := hs2; clear hs2; unfold rcells; obtain ⟨m0, m1, m2, m3, m4⟩ := HS2.out.at5; obtain ⟨b0, b1, b2, b3, b4, bf⟩ := HS2.out.at4
    refine hK.out _ _ (⟨m0, m1, m2, m3, m4⟩) (fun hHeld => ?_)
    clear hK K
    try simp only [Act.put, List.setIfInBounds_toArray, List.set_cons_zero, List.set_cons_succ]
    refine wpAnyH_take (i := 6) (v := ?vA6) rfl (by kernel_rfl) (by kernel_rfl) (by kernel_rfl) (fun _ _ _ h => h) (Or.inl ⟨by first | kernel_rfl | rfl, ?yA6⟩) hHeld ?rA6
    case yA6 => (intro W hSW; (try dsimp only at hSW); go_simp; (try with_reducible rfl))
    change wpAnyH _ _ _ _ _ _ _ (Act.put _ (some 30) _) _
    simp only [Act.put, List.setIfInBounds_toArray, List.set_cons_zero, List.set_cons_succ]
    refine wpAnyH_take (i := 7) (v := ?vA7) rfl (by kernel_rfl) (by kernel_rfl) (by kernel_rfl) (fun _ _ _ h => h) (Or.inl ⟨by first | kernel_rfl | rfl, ?yA7⟩) hHeld ?rA7
    case yA7 => (intro W hSW; (try dsimp only at hSW); go_simp; (try with_reducible rfl))
    change wpAnyH _ _ _ _ _ _ _ (Act.put _ (some 37) _) _
    simp only [Act.put, List.setIfInBounds_toArray, List.set_cons_zero, List.set_cons_succ]
    refine wpAnyH_take (i := 8) (v := ?vA8) rfl (by kernel_rfl) (by kernel_rfl) (by kernel_rfl) (fun _ _ _ h => h) (Or.inl ⟨by first | kernel_rfl | rfl, ?yA8⟩) hHeld ?rA8
    case yA8 => (intro W hSW; (try dsimp only at hSW); go_simp; (try with_reducible rfl))
    change wpAnyH _ _ _ _ _ _ _ (Act.put _ (some 38) _) _
    simp only [Act.put, List.setIfInBounds_toArray, List.set_cons_zero, List.set_cons_succ]
    have HST2 : Hid (St w0 xb xo x4 x5 x7 ⟨0, ad, lo, fi, pa, pl, pc, bs⟩ S g D lb' lc' wa' wc' D' #[.slice (some ⟨lb', 0, none⟩) D'.kept.length lc', .slice wa' D'.waits.length wc', .int .i64 (D'.fuse : Int), .int .i64 (D'.writes : Int), .bool (!D'.up)] (((((V2.setCell ⟨x4, 0, none⟩ (.slice (some ⟨lb', 0, none⟩) D'.kept.length lc')).setCell ⟨x4, 1, none⟩ (.slice wa' D'.waits.length wc')).setCell ⟨x4, 2, none⟩ (.int .i64 (D'.fuse : Int))).setCell ⟨x4, 3, none⟩ (.int .i64 (D'.writes : Int))).setCell ⟨x4, 4, none⟩ (.bool (!D'.up)))) := HS2.out.five _ _ _ _ _
    obtain ⟨V3, hV3⟩ : ∃ V3, (((((V2.setCell ⟨x4, 0, none⟩ (.slice (some ⟨lb', 0, none⟩) D'.kept.length lc')).setCell ⟨x4, 1, none⟩ (.slice wa' D'.waits.length wc')).setCell ⟨x4, 2, none⟩ (.int .i64 (D'.fuse : Int))).setCell ⟨x4, 3, none⟩ (.int .i64 (D'.writes : Int))).setCell ⟨x4, 4, none⟩ (.bool (!D'.up))) = V3 := ⟨_, rfl⟩
    rw [hV3] at HST2
    obtain ⟨q0, q1, q2, q3, q4⟩ := HST2.out.at5
    refine wpAnyH_ready (rs := [9]) (by kernel_rfl) (by simp) ?_
    refine AllReadyH.cons rfl (fun K hK => ?_) AllReadyH.nil
    go_simp
    try rw [hV3]
    refine hK.out _ _ (⟨q0, q1, q2, q3, q4⟩) (fun hHeld => ?_)
    clear hK K
    refine wpAnyH_take (i := 10) (v := ?vA10) rfl (by kernel_rfl) (by kernel_rfl) (by kernel_rfl) (fun _ _ _ h => h) (Or.inl ⟨by first | kernel_rfl | rfl, ?yA10⟩) hHeld ?rA10
    case yA10 => (intro W hSW; (try dsimp only at hSW); go_simp; (try with_reducible rfl))
    change wpAnyH _ _ _ _ _ _ _ (Act.put _ (some 10) _) _
    simp only [Act.put, List.setIfInBounds_toArray, List.set_cons_zero, List.set_cons_succ]
    refine wpAnyH_done (by kernel_rfl) ?_ _
    clear hHeld b0 b1 b2 b3 b4 bf m0 m1 m2 m3 m4 k0 k1 k2 k3 k4 kf hV3 HS2 HS1
    obtain ⟨d0, d1, d2, d3, d4⟩ := HST2.out.drew.at5
    have HFI2 := HFI.out V3.drew
    go_wp2
    refine wp_region_held_drew (S := fun V => V.cell? ⟨x5, 0, none⟩ = some (.int .i64 0) ∧ V.cell? ⟨x5, 1, none⟩ = some (.int .i64 ad) ∧ V.cell? ⟨x5, 2, none⟩ = some (.int .i64 lo) ∧ V.cell? ⟨x5, 3, none⟩ = some (.int .u8 (fi : Int)) ∧ V.cell? ⟨x5, 4, none⟩ = some (.slice pa pl pc)) (by kernel_rfl) (⟨d0, d1, d2, d3, d4⟩) (fun hHeld => ?_)
    refine wpAnyH_take (i := 0) (v := ?vAt0) rfl (by kernel_rfl) (by kernel_rfl) (by kernel_rfl) (fun _ _ _ h => h) (Or.inl ⟨by first | kernel_rfl | rfl, ?yAt0⟩) hHeld ?rAt0
    case yAt0 => (intro W hSW; (try dsimp only at hSW); go_simp; (try with_reducible rfl))
    change wpAnyH _ _ _ _ _ _ _ (Act.put _ (some 39) _) _
    simp only [Act.put, List.setIfInBounds_toArray, List.set_cons_zero, List.set_cons_succ]
    refine wpAnyH_take (i := 1) (v := ?vAt1) rfl (by kernel_rfl) (by kernel_rfl) (by kernel_rfl) (fun _ _ _ h => h) (Or.inl ⟨by first | kernel_rfl | rfl, ?yAt1⟩) hHeld ?rAt1
    case yAt1 => (intro W hSW; (try dsimp only at hSW); go_simp; (try with_reducible rfl))
    change wpAnyH _ _ _ _ _ _ _ (Act.put _ (some 40) _) _
    simp only [Act.put, List.setIfInBounds_toArray, List.set_cons_zero, List.set_cons_succ]
    refine wpAnyH_take (i := 2) (v := ?vAt2) rfl (by kernel_rfl) (by kernel_rfl) (by kernel_rfl) (fun _ _ _ h => h) (Or.inl ⟨by first | kernel_rfl | rfl, ?yAt2⟩) hHeld ?rAt2
    case yAt2 => (intro W hSW; (try dsimp only at hSW); go_simp; (try with_reducible rfl))
    change wpAnyH _ _ _ _ _ _ _ (Act.put _ (some 41) _) _
    simp only [Act.put, List.setIfInBounds_toArray, List.set_cons_zero, List.set_cons_succ]
    refine wpAnyH_take (i := 3) (v := ?vAt3) rfl (by kernel_rfl) (by kernel_rfl) (by kernel_rfl) (fun _ _ _ h => h) (Or.inl ⟨by first | kernel_rfl | rfl, ?yAt3⟩) hHeld ?rAt3
    case yAt3 => (intro W hSW; (try dsimp only at hSW); go_simp; (try with_reducible rfl))
    change wpAnyH _ _ _ _ _ _ _ (Act.put _ (some 42) _) _
    simp only [Act.put, List.setIfInBounds_toArray, List.set_cons_zero, List.set_cons_succ]
    refine wpAnyH_ready (rs := [4]) (by kernel_rfl) (by simp) ?_
    refine AllReadyH.cons rfl (fun K hK => ?_) AllReadyH.nil
    go_simp
    refine (HFI2).mono ?_
    rintro e V4 ⟨rfl, hb4⟩; have HS4 : Hid _ := HST2.out.drew.keep hb4; clear hb4; obtain ⟨d0, d1, d2, d3, d4⟩ := HS4.out.at5
    refine hK.out _ _ (⟨d0, d1, d2, d3, d4⟩) (fun hHeld => ?_)
    clear hK K
    try simp only [Act.put, List.setIfInBounds_toArray, List.set_cons_zero, List.set_cons_succ]
    refine wpAnyH_ready (rs := [5]) (by kernel_rfl) (by simp) ?_
    refine AllReadyH.cons rfl (fun K hK => ?_) AllReadyH.nil
    go_simp
    refine ((HPW.out V4 HS4.out.d)).mono ?_
    rintro e V9 ⟨rfl, hm⟩; obtain ⟨S9, hst9⟩ := HS4.out.mut hm; have HST9 : Hid (St w0 xb xo x4 x5 x7 ⟨0, ad, lo, fi, pa, pl, pc, bs⟩ S9 g D' lb' lc' wa' wc' D' #[.slice (some ⟨lb', 0, none⟩) D'.kept.length lc', .slice wa' D'.waits.length wc', .int .i64 (D'.fuse : Int), .int .i64 (D'.writes : Int), .bool (!D'.up)] V9) := hst9; clear hst9 hm; obtain ⟨d0, d1, d2, d3, d4⟩ := HST9.out.at5
    refine hK.out _ _ (⟨d0, d1, d2, d3, d4⟩) (fun hHeld => ?_)
    clear hK K
    try simp only [Act.put, List.setIfInBounds_toArray, List.set_cons_zero, List.set_cons_succ]
    refine wpAnyH_take (i := 6) (v := ?vAt6) rfl (by kernel_rfl) (by kernel_rfl) (by kernel_rfl) (fun _ _ _ h => h) (Or.inl ⟨by first | kernel_rfl | rfl, ?yAt6⟩) hHeld ?rAt6
    case yAt6 => (intro W hSW; (try dsimp only at hSW); go_simp; (try with_reducible rfl))
    change wpAnyH _ _ _ _ _ _ _ (Act.put _ (some 9) _) _
    simp only [Act.put, List.setIfInBounds_toArray, List.set_cons_zero, List.set_cons_succ]
    refine wpAnyH_done (by kernel_rfl) ?_ _
    clear hHeld HFI2 HS4 d0 d1 d2 d3 d4 q0 q1 q2 q3 q4 HST2 HX HFI HWT HPW
    go_wp2
    obtain ⟨n', hn'⟩ : ∃ n', D'.kept.length = n' := ⟨_, rfl⟩
    obtain ⟨N', hN'⟩ : ∃ N', D'.waits.length = N' := ⟨_, rfl⟩
    obtain ⟨F', hF'⟩ : ∃ F' : Int, (D'.fuse : Int) = F' := ⟨_, rfl⟩
    obtain ⟨M', hM'⟩ : ∃ M' : Int, (D'.writes : Int) = M' := ⟨_, rfl⟩
    obtain ⟨B', hB'⟩ : ∃ B', (!D'.up) = B' := ⟨_, rfl⟩
    have HRC : Hid (rcells lb' lc' wa' wc' D' = #[.slice (some ⟨lb', 0, none⟩) n' lc', .slice wa' N' wc', .int .i64 F', .int .i64 M', .bool B']) := by
      show _ = _
      unfold rcells
      rw [hn', hN', hF', hM', hB']
    have HS9 : Hid (St w0 xb xo x4 x5 x7 ⟨0, ad, lo, fi, pa, pl, pc, bs⟩ S9 g D' lb' lc' wa' wc' D' #[.slice (some ⟨lb', 0, none⟩) n' lc', .slice wa' N' wc', .int .i64 F', .int .i64 M', .bool B'] V9) := by
      have := HST9.out
      rw [hn', hN', hF', hM', hB'] at this
      exact this
    obtain ⟨f0, f1, f2, f3, f4, ff⟩ := HS9.out.drew.at4
    obtain ⟨z0, z1, z2, z3, z4, zf⟩ := HS9.out.drew.at7
    obtain ⟨y0, y1, y2, y3, y4, yf⟩ := HS9.out.at7
    have n74 : x7 ≠ x4 := by have := HS9.out.n4; omega
    have HPR : Hid (∀ v0 v1 v2 v3 v4, Pair w0 xb xo (((((V9.drew.setCell ⟨x7, 0, none⟩ v0).setCell ⟨x7, 1, none⟩ v1).setCell ⟨x7, 2, none⟩ v2).setCell ⟨x7, 3, none⟩ v3).setCell ⟨x7, 4, none⟩ v4) g lb' lc' wa' wc' D') := fun v0 v1 v2 v3 v4 => HS9.out.drew.pair v0 v1 v2 v3 v4
    have HK4 : Hid (∀ v0 v1 v2 v3 v4 (V : World), V.heap = (((((V9.setCell ⟨x7, 0, none⟩ v0).setCell ⟨x7, 1, none⟩ v1).setCell ⟨x7, 2, none⟩ v2).setCell ⟨x7, 3, none⟩ v3).setCell ⟨x7, 4, none⟩ v4).heap → (V.cell? ⟨x4, 0, none⟩ = some (.slice (some ⟨lb', 0, none⟩) n' lc') ∧ V.cell? ⟨x4, 1, none⟩ = some (.slice wa' N' wc') ∧ V.cell? ⟨x4, 2, none⟩ = some (.int .i64 F') ∧ V.cell? ⟨x4, 3, none⟩ = some (.int .i64 M') ∧ V.cell? ⟨x4, 4, none⟩ = some (.bool B'))) := by
      intro v0 v1 v2 v3 v4 V hV
      have hrow : V.heap[x4]? = some (.cells #[.slice (some ⟨lb', 0, none⟩) n' lc', .slice wa' N' wc', .int .i64 F', .int .i64 M', .bool B'] 40 (0, 0)) := by
        rw [hV, five_other V9 x7 x4 _ _ _ _ _ (Ne.symm n74)]
        exact HS9.out.h4
      refine ⟨?_, ?_, ?_, ?_, ?_⟩ <;> rw [cell_of_row V x4 _ _ _ _ hrow] <;> rfl
    clear HST9 HS9 hn' hN' hF' hM' hB'
    refine wp_region_held_drew (S := fun V => V.cell? ⟨x4, 0, none⟩ = some (.slice (some ⟨lb', 0, none⟩) n' lc') ∧ V.cell? ⟨x4, 1, none⟩ = some (.slice wa' N' wc') ∧ V.cell? ⟨x4, 2, none⟩ = some (.int .i64 F') ∧ V.cell? ⟨x4, 3, none⟩ = some (.int .i64 M') ∧ V.cell? ⟨x4, 4, none⟩ = some (.bool B')) (by kernel_rfl) (⟨f0, f1, f2, f3, f4⟩) (fun hHeld => ?_)
    refine wpAnyH_take (i := 0) (v := ?vAz0) rfl (by kernel_rfl) (by kernel_rfl) (by kernel_rfl) (fun _ _ _ h => h) (Or.inl ⟨by first | kernel_rfl | rfl, ?yAz0⟩) hHeld ?rAz0
    case yAz0 => (intro W hSW; (try dsimp only at hSW); go_simp; (try with_reducible rfl))
    change wpAnyH _ _ _ _ _ _ _ (Act.put _ (some 88) _) _
    simp only [Act.put, List.setIfInBounds_toArray, List.set_cons_zero, List.set_cons_succ]
    refine wpAnyH_take (i := 1) (v := ?vAz1) rfl (by kernel_rfl) (by kernel_rfl) (by kernel_rfl) (fun _ _ _ h => h) (Or.inl ⟨by first | kernel_rfl | rfl, ?yAz1⟩) hHeld ?rAz1
    case yAz1 => (intro W hSW; (try dsimp only at hSW); go_simp; (try with_reducible rfl))
    change wpAnyH _ _ _ _ _ _ _ (Act.put _ (some 89) _) _
    simp only [Act.put, List.setIfInBounds_toArray, List.set_cons_zero, List.set_cons_succ]
    refine wpAnyH_take (i := 2) (v := ?vAz2) rfl (by kernel_rfl) (by kernel_rfl) (by kernel_rfl) (fun _ _ _ h => h) (Or.inl ⟨by first | kernel_rfl | rfl, ?yAz2⟩) hHeld ?rAz2
    case yAz2 => (intro W hSW; (try dsimp only at hSW); go_simp; (try with_reducible rfl))
    change wpAnyH _ _ _ _ _ _ _ (Act.put _ (some 90) _) _
    simp only [Act.put, List.setIfInBounds_toArray, List.set_cons_zero, List.set_cons_succ]
    refine wpAnyH_take (i := 3) (v := ?vAz3) rfl (by kernel_rfl) (by kernel_rfl) (by kernel_rfl) (fun _ _ _ h => h) (Or.inl ⟨by first | kernel_rfl | rfl, ?yAz3⟩) hHeld ?rAz3
    case yAz3 => (intro W hSW; (try dsimp only at hSW); go_simp; (try with_reducible rfl))
    change wpAnyH _ _ _ _ _ _ _ (Act.put _ (some 91) _) _
    simp only [Act.put, List.setIfInBounds_toArray, List.set_cons_zero, List.set_cons_succ]
    refine wpAnyH_take (i := 4) (v := ?vAz4) rfl (by kernel_rfl) (by kernel_rfl) (by kernel_rfl) (fun _ _ _ h => h) (Or.inl ⟨by first | kernel_rfl | rfl, ?yAz4⟩) hHeld ?rAz4
    case yAz4 => (intro W hSW; (try dsimp only at hSW); go_simp; (try with_reducible rfl))
    change wpAnyH _ _ _ _ _ _ _ (Act.put _ (some 92) _) _
    simp only [Act.put, List.setIfInBounds_toArray, List.set_cons_zero, List.set_cons_succ]
    refine wpAnyH_take (i := 5) (v := ?vAz5) rfl (by kernel_rfl) (by kernel_rfl) (by kernel_rfl) (fun _ _ _ h => h) (Or.inl ⟨by first | kernel_rfl | rfl, ?yAz5⟩) hHeld ?rAz5
    case yAz5 => (intro W hSW; (try dsimp only at hSW); go_simp; (try with_reducible rfl))
    change wpAnyH _ _ _ _ _ _ _ (Act.put _ (some 6) _) _
    simp only [Act.put, List.setIfInBounds_toArray, List.set_cons_zero, List.set_cons_succ]
    refine wpAnyH_ready (rs := [6]) (by kernel_rfl) (by simp) ?_
    refine AllReadyH.cons rfl (fun K hK => ?_) AllReadyH.nil
    go_simp
    refine hK.out _ _ (HK4.out _ _ _ _ _ _ rfl) (fun hHeld => ?_)
    clear hK K
    refine wpAnyH_take (i := 7) (v := ?vAz7) rfl (by kernel_rfl) (by kernel_rfl) (by kernel_rfl) (fun _ _ _ h => h) (Or.inl ⟨by first | kernel_rfl | rfl, ?yAz7⟩) hHeld ?rAz7
    case yAz7 => (intro W hSW; (try dsimp only at hSW); go_simp; (try with_reducible rfl))
    change wpAnyH _ _ _ _ _ _ _ (Act.put _ (some 8) _) _
    simp only [Act.put, List.setIfInBounds_toArray, List.set_cons_zero, List.set_cons_succ]
    refine wpAnyH_done (by kernel_rfl) ?_ _
    clear hHeld f0 f1 f2 f3 f4 ff
    go_wp2
    refine bodyPost_ret (v := .tuple #[.pointer (some ⟨g, 0, none⟩), .agg #[.slice (some ⟨lb', 0, none⟩) n' lc', .slice wa' N' wc', .int .i64 F', .int .i64 M', .bool B'], .bool true]) ?_ rfl ⟨g, lb', lc', wa', wc', D', ?_, ?_, HKD.out⟩
    · simp [results, go_sem, y0, y1, y2, y3, y4]
    · rw [HRC.out]
    · exact HPR.out _ _ _ _ _
  · go_simp
    refine (HFI1).mono ?_
    rintro e V1 ⟨rfl, hb1⟩; have HS1 : Hid (St w0 xb xo x4 x5 x7 ⟨0, ad, lo, fi, pa, pl, pc, bs⟩ S g D lb lc wa wc D #[.slice (some ⟨lb, 0, none⟩) D.kept.length lc, .slice wa D.waits.length wc, .int .i64 (D.fuse : Int), .int .i64 (D.writes : Int), .bool dn] V1) := HX.out.drew.keep hb1; clear hb1; obtain ⟨m0, m1, m2, m3, m4⟩ := HS1.out.at5; obtain ⟨k0, k1, k2, k3, k4, kf⟩ := HS1.out.at4
    refine hK.out _ _ (⟨m0, m1, m2, m3, m4⟩) (fun hHeld => ?_)
    clear hK K
    try simp only [Act.put, List.setIfInBounds_toArray, List.set_cons_zero, List.set_cons_succ]
    refine wpAnyH_ready (rs := [0]) (by kernel_rfl) (by simp) ?_
    refine AllReadyH.cons rfl (fun K hK => ?_) AllReadyH.nil
    go_simp
    refine hK.out _ _ (hHeld) (fun hHeld => ?_)
    clear hK K
    try simp only [Act.put, List.setIfInBounds_toArray, List.set_cons_zero, List.set_cons_succ]
    refine wpAnyH_ready (rs := [5]) (by kernel_rfl) (by simp) ?_
    refine AllReadyH.cons rfl (fun K hK => ?_) AllReadyH.nil
    go_simp
    refine ((HWT.out V1 HS1.out)).mono ?_
    rintro e V2 ⟨lb', lc', wa', wc', rfl, hs2⟩; have HS2 : Hid (St w0 xb xo x4 x5 x7 ⟨0, ad, lo, fi, pa, pl, pc, bs⟩ S g D lb' lc' wa' wc' D' #[.slice (some ⟨lb, 0, none⟩) D.kept.length lc, .slice wa D.waits.length wc, .int .i64 (D.fuse : Int), .int .i64 (D.writes : Int), .bool dn] V2) := hs2; clear hs2; unfold rcells; obtain ⟨m0, m1, m2, m3, m4⟩ := HS2.out.at5; obtain ⟨b0, b1, b2, b3, b4, bf⟩ := HS2.out.at4
    refine hK.out _ _ (⟨m0, m1, m2, m3, m4⟩) (fun hHeld => ?_)
    clear hK K
    try simp only [Act.put, List.setIfInBounds_toArray, List.set_cons_zero, List.set_cons_succ]
    refine wpAnyH_take (i := 6) (v := ?vB6) rfl (by kernel_rfl) (by kernel_rfl) (by kernel_rfl) (fun _ _ _ h => h) (Or.inl ⟨by first | kernel_rfl | rfl, ?yB6⟩) hHeld ?rB6
    case yB6 => (intro W hSW; (try dsimp only at hSW); go_simp; (try with_reducible rfl))
    change wpAnyH _ _ _ _ _ _ _ (Act.put _ (some 30) _) _
    simp only [Act.put, List.setIfInBounds_toArray, List.set_cons_zero, List.set_cons_succ]
    refine wpAnyH_take (i := 7) (v := ?vB7) rfl (by kernel_rfl) (by kernel_rfl) (by kernel_rfl) (fun _ _ _ h => h) (Or.inl ⟨by first | kernel_rfl | rfl, ?yB7⟩) hHeld ?rB7
    case yB7 => (intro W hSW; (try dsimp only at hSW); go_simp; (try with_reducible rfl))
    change wpAnyH _ _ _ _ _ _ _ (Act.put _ (some 37) _) _
    simp only [Act.put, List.setIfInBounds_toArray, List.set_cons_zero, List.set_cons_succ]
    refine wpAnyH_take (i := 8) (v := ?vB8) rfl (by kernel_rfl) (by kernel_rfl) (by kernel_rfl) (fun _ _ _ h => h) (Or.inl ⟨by first | kernel_rfl | rfl, ?yB8⟩) hHeld ?rB8
    case yB8 => (intro W hSW; (try dsimp only at hSW); go_simp; (try with_reducible rfl))
    change wpAnyH _ _ _ _ _ _ _ (Act.put _ (some 38) _) _
    simp only [Act.put, List.setIfInBounds_toArray, List.set_cons_zero, List.set_cons_succ]
    have HST2 : Hid (St w0 xb xo x4 x5 x7 ⟨0, ad, lo, fi, pa, pl, pc, bs⟩ S g D lb' lc' wa' wc' D' #[.slice (some ⟨lb', 0, none⟩) D'.kept.length lc', .slice wa' D'.waits.length wc', .int .i64 (D'.fuse : Int), .int .i64 (D'.writes : Int), .bool (!D'.up)] (((((V2.setCell ⟨x4, 0, none⟩ (.slice (some ⟨lb', 0, none⟩) D'.kept.length lc')).setCell ⟨x4, 1, none⟩ (.slice wa' D'.waits.length wc')).setCell ⟨x4, 2, none⟩ (.int .i64 (D'.fuse : Int))).setCell ⟨x4, 3, none⟩ (.int .i64 (D'.writes : Int))).setCell ⟨x4, 4, none⟩ (.bool (!D'.up)))) := HS2.out.five _ _ _ _ _
    obtain ⟨V3, hV3⟩ : ∃ V3, (((((V2.setCell ⟨x4, 0, none⟩ (.slice (some ⟨lb', 0, none⟩) D'.kept.length lc')).setCell ⟨x4, 1, none⟩ (.slice wa' D'.waits.length wc')).setCell ⟨x4, 2, none⟩ (.int .i64 (D'.fuse : Int))).setCell ⟨x4, 3, none⟩ (.int .i64 (D'.writes : Int))).setCell ⟨x4, 4, none⟩ (.bool (!D'.up))) = V3 := ⟨_, rfl⟩
    rw [hV3] at HST2
    obtain ⟨q0, q1, q2, q3, q4⟩ := HST2.out.at5
    refine wpAnyH_ready (rs := [9]) (by kernel_rfl) (by simp) ?_
    refine AllReadyH.cons rfl (fun K hK => ?_) AllReadyH.nil
    go_simp
    try rw [hV3]
    refine hK.out _ _ (⟨q0, q1, q2, q3, q4⟩) (fun hHeld => ?_)
    clear hK K
    refine wpAnyH_take (i := 10) (v := ?vB10) rfl (by kernel_rfl) (by kernel_rfl) (by kernel_rfl) (fun _ _ _ h => h) (Or.inl ⟨by first | kernel_rfl | rfl, ?yB10⟩) hHeld ?rB10
    case yB10 => (intro W hSW; (try dsimp only at hSW); go_simp; (try with_reducible rfl))
    change wpAnyH _ _ _ _ _ _ _ (Act.put _ (some 10) _) _
    simp only [Act.put, List.setIfInBounds_toArray, List.set_cons_zero, List.set_cons_succ]
    refine wpAnyH_done (by kernel_rfl) ?_ _
    clear hHeld b0 b1 b2 b3 b4 bf m0 m1 m2 m3 m4 k0 k1 k2 k3 k4 kf hV3 HS2 HS1
    obtain ⟨d0, d1, d2, d3, d4⟩ := HST2.out.drew.at5
    have HFI2 := HFI.out V3.drew
    go_wp2
    refine wp_region_held_drew (S := fun V => V.cell? ⟨x5, 0, none⟩ = some (.int .i64 0) ∧ V.cell? ⟨x5, 1, none⟩ = some (.int .i64 ad) ∧ V.cell? ⟨x5, 2, none⟩ = some (.int .i64 lo) ∧ V.cell? ⟨x5, 3, none⟩ = some (.int .u8 (fi : Int)) ∧ V.cell? ⟨x5, 4, none⟩ = some (.slice pa pl pc)) (by kernel_rfl) (⟨d0, d1, d2, d3, d4⟩) (fun hHeld => ?_)
    refine wpAnyH_take (i := 0) (v := ?vBt0) rfl (by kernel_rfl) (by kernel_rfl) (by kernel_rfl) (fun _ _ _ h => h) (Or.inl ⟨by first | kernel_rfl | rfl, ?yBt0⟩) hHeld ?rBt0
    case yBt0 => (intro W hSW; (try dsimp only at hSW); go_simp; (try with_reducible rfl))
    change wpAnyH _ _ _ _ _ _ _ (Act.put _ (some 39) _) _
    simp only [Act.put, List.setIfInBounds_toArray, List.set_cons_zero, List.set_cons_succ]
    refine wpAnyH_take (i := 1) (v := ?vBt1) rfl (by kernel_rfl) (by kernel_rfl) (by kernel_rfl) (fun _ _ _ h => h) (Or.inl ⟨by first | kernel_rfl | rfl, ?yBt1⟩) hHeld ?rBt1
    case yBt1 => (intro W hSW; (try dsimp only at hSW); go_simp; (try with_reducible rfl))
    change wpAnyH _ _ _ _ _ _ _ (Act.put _ (some 40) _) _
    simp only [Act.put, List.setIfInBounds_toArray, List.set_cons_zero, List.set_cons_succ]
    refine wpAnyH_take (i := 2) (v := ?vBt2) rfl (by kernel_rfl) (by kernel_rfl) (by kernel_rfl) (fun _ _ _ h => h) (Or.inl ⟨by first | kernel_rfl | rfl, ?yBt2⟩) hHeld ?rBt2
    case yBt2 => (intro W hSW; (try dsimp only at hSW); go_simp; (try with_reducible rfl))
    change wpAnyH _ _ _ _ _ _ _ (Act.put _ (some 41) _) _
    simp only [Act.put, List.setIfInBounds_toArray, List.set_cons_zero, List.set_cons_succ]
    refine wpAnyH_take (i := 3) (v := ?vBt3) rfl (by kernel_rfl) (by kernel_rfl) (by kernel_rfl) (fun _ _ _ h => h) (Or.inl ⟨by first | kernel_rfl | rfl, ?yBt3⟩) hHeld ?rBt3
    case yBt3 => (intro W hSW; (try dsimp only at hSW); go_simp; (try with_reducible rfl))
    change wpAnyH _ _ _ _ _ _ _ (Act.put _ (some 42) _) _
    simp only [Act.put, List.setIfInBounds_toArray, List.set_cons_zero, List.set_cons_succ]
    refine wpAnyH_ready (rs := [4]) (by kernel_rfl) (by simp) ?_
    refine AllReadyH.cons rfl (fun K hK => ?_) AllReadyH.nil
    go_simp
    refine (HFI2).mono ?_
    rintro e V4 ⟨rfl, hb4⟩; have HS4 : Hid _ := HST2.out.drew.keep hb4; clear hb4; obtain ⟨d0, d1, d2, d3, d4⟩ := HS4.out.at5
    refine hK.out _ _ (⟨d0, d1, d2, d3, d4⟩) (fun hHeld => ?_)
    clear hK K
    try simp only [Act.put, List.setIfInBounds_toArray, List.set_cons_zero, List.set_cons_succ]
    refine wpAnyH_ready (rs := [5]) (by kernel_rfl) (by simp) ?_
    refine AllReadyH.cons rfl (fun K hK => ?_) AllReadyH.nil
    go_simp
    refine ((HPW.out V4 HS4.out.d)).mono ?_
    rintro e V9 ⟨rfl, hm⟩; obtain ⟨S9, hst9⟩ := HS4.out.mut hm; have HST9 : Hid (St w0 xb xo x4 x5 x7 ⟨0, ad, lo, fi, pa, pl, pc, bs⟩ S9 g D' lb' lc' wa' wc' D' #[.slice (some ⟨lb', 0, none⟩) D'.kept.length lc', .slice wa' D'.waits.length wc', .int .i64 (D'.fuse : Int), .int .i64 (D'.writes : Int), .bool (!D'.up)] V9) := hst9; clear hst9 hm; obtain ⟨d0, d1, d2, d3, d4⟩ := HST9.out.at5
    refine hK.out _ _ (⟨d0, d1, d2, d3, d4⟩) (fun hHeld => ?_)
    clear hK K
    try simp only [Act.put, List.setIfInBounds_toArray, List.set_cons_zero, List.set_cons_succ]
    refine wpAnyH_take (i := 6) (v := ?vBt6) rfl (by kernel_rfl) (by kernel_rfl) (by kernel_rfl) (fun _ _ _ h => h) (Or.inl ⟨by first | kernel_rfl | rfl, ?yBt6⟩) hHeld ?rBt6
    case yBt6 => (intro W hSW; (try dsimp only at hSW); go_simp; (try with_reducible rfl))
    change wpAnyH _ _ _ _ _ _ _ (Act.put _ (some 9) _) _
    simp only [Act.put, List.setIfInBounds_toArray, List.set_cons_zero, List.set_cons_succ]
    refine wpAnyH_done (by kernel_rfl) ?_ _
    clear hHeld HFI2 HS4 d0 d1 d2 d3 d4 q0 q1 q2 q3 q4 HST2 HX HFI HWT HPW
    go_wp2
    obtain ⟨n', hn'⟩ : ∃ n', D'.kept.length = n' := ⟨_, rfl⟩
    obtain ⟨N', hN'⟩ : ∃ N', D'.waits.length = N' := ⟨_, rfl⟩
    obtain ⟨F', hF'⟩ : ∃ F' : Int, (D'.fuse : Int) = F' := ⟨_, rfl⟩
    obtain ⟨M', hM'⟩ : ∃ M' : Int, (D'.writes : Int) = M' := ⟨_, rfl⟩
    obtain ⟨B', hB'⟩ : ∃ B', (!D'.up) = B' := ⟨_, rfl⟩
    have HRC : Hid (rcells lb' lc' wa' wc' D' = #[.slice (some ⟨lb', 0, none⟩) n' lc', .slice wa' N' wc', .int .i64 F', .int .i64 M', .bool B']) := by
      show _ = _
      unfold rcells
      rw [hn', hN', hF', hM', hB']
    have HS9 : Hid (St w0 xb xo x4 x5 x7 ⟨0, ad, lo, fi, pa, pl, pc, bs⟩ S9 g D' lb' lc' wa' wc' D' #[.slice (some ⟨lb', 0, none⟩) n' lc', .slice wa' N' wc', .int .i64 F', .int .i64 M', .bool B'] V9) := by
      have := HST9.out
      rw [hn', hN', hF', hM', hB'] at this
      exact this
    obtain ⟨f0, f1, f2, f3, f4, ff⟩ := HS9.out.drew.at4
    obtain ⟨z0, z1, z2, z3, z4, zf⟩ := HS9.out.drew.at7
    obtain ⟨y0, y1, y2, y3, y4, yf⟩ := HS9.out.at7
    have n74 : x7 ≠ x4 := by have := HS9.out.n4; omega
    have HPR : Hid (∀ v0 v1 v2 v3 v4, Pair w0 xb xo (((((V9.drew.setCell ⟨x7, 0, none⟩ v0).setCell ⟨x7, 1, none⟩ v1).setCell ⟨x7, 2, none⟩ v2).setCell ⟨x7, 3, none⟩ v3).setCell ⟨x7, 4, none⟩ v4) g lb' lc' wa' wc' D') := fun v0 v1 v2 v3 v4 => HS9.out.drew.pair v0 v1 v2 v3 v4
    have HK4 : Hid (∀ v0 v1 v2 v3 v4 (V : World), V.heap = (((((V9.setCell ⟨x7, 0, none⟩ v0).setCell ⟨x7, 1, none⟩ v1).setCell ⟨x7, 2, none⟩ v2).setCell ⟨x7, 3, none⟩ v3).setCell ⟨x7, 4, none⟩ v4).heap → (V.cell? ⟨x4, 0, none⟩ = some (.slice (some ⟨lb', 0, none⟩) n' lc') ∧ V.cell? ⟨x4, 1, none⟩ = some (.slice wa' N' wc') ∧ V.cell? ⟨x4, 2, none⟩ = some (.int .i64 F') ∧ V.cell? ⟨x4, 3, none⟩ = some (.int .i64 M') ∧ V.cell? ⟨x4, 4, none⟩ = some (.bool B'))) := by
      intro v0 v1 v2 v3 v4 V hV
      have hrow : V.heap[x4]? = some (.cells #[.slice (some ⟨lb', 0, none⟩) n' lc', .slice wa' N' wc', .int .i64 F', .int .i64 M', .bool B'] 40 (0, 0)) := by
        rw [hV, five_other V9 x7 x4 _ _ _ _ _ (Ne.symm n74)]
        exact HS9.out.h4
      refine ⟨?_, ?_, ?_, ?_, ?_⟩ <;> rw [cell_of_row V x4 _ _ _ _ hrow] <;> rfl
    clear HST9 HS9 hn' hN' hF' hM' hB'
    refine wp_region_held_drew (S := fun V => V.cell? ⟨x4, 0, none⟩ = some (.slice (some ⟨lb', 0, none⟩) n' lc') ∧ V.cell? ⟨x4, 1, none⟩ = some (.slice wa' N' wc') ∧ V.cell? ⟨x4, 2, none⟩ = some (.int .i64 F') ∧ V.cell? ⟨x4, 3, none⟩ = some (.int .i64 M') ∧ V.cell? ⟨x4, 4, none⟩ = some (.bool B')) (by kernel_rfl) (⟨f0, f1, f2, f3, f4⟩) (fun hHeld => ?_)
    refine wpAnyH_take (i := 0) (v := ?vBz0) rfl (by kernel_rfl) (by kernel_rfl) (by kernel_rfl) (fun _ _ _ h => h) (Or.inl ⟨by first | kernel_rfl | rfl, ?yBz0⟩) hHeld ?rBz0
    case yBz0 => (intro W hSW; (try dsimp only at hSW); go_simp; (try with_reducible rfl))
    change wpAnyH _ _ _ _ _ _ _ (Act.put _ (some 88) _) _
    simp only [Act.put, List.setIfInBounds_toArray, List.set_cons_zero, List.set_cons_succ]
    refine wpAnyH_take (i := 1) (v := ?vBz1) rfl (by kernel_rfl) (by kernel_rfl) (by kernel_rfl) (fun _ _ _ h => h) (Or.inl ⟨by first | kernel_rfl | rfl, ?yBz1⟩) hHeld ?rBz1
    case yBz1 => (intro W hSW; (try dsimp only at hSW); go_simp; (try with_reducible rfl))
    change wpAnyH _ _ _ _ _ _ _ (Act.put _ (some 89) _) _
    simp only [Act.put, List.setIfInBounds_toArray, List.set_cons_zero, List.set_cons_succ]
    refine wpAnyH_take (i := 2) (v := ?vBz2) rfl (by kernel_rfl) (by kernel_rfl) (by kernel_rfl) (fun _ _ _ h => h) (Or.inl ⟨by first | kernel_rfl | rfl, ?yBz2⟩) hHeld ?rBz2
    case yBz2 => (intro W hSW; (try dsimp only at hSW); go_simp; (try with_reducible rfl))
    change wpAnyH _ _ _ _ _ _ _ (Act.put _ (some 90) _) _
    simp only [Act.put, List.setIfInBounds_toArray, List.set_cons_zero, List.set_cons_succ]
    refine wpAnyH_take (i := 3) (v := ?vBz3) rfl (by kernel_rfl) (by kernel_rfl) (by kernel_rfl) (fun _ _ _ h => h) (Or.inl ⟨by first | kernel_rfl | rfl, ?yBz3⟩) hHeld ?rBz3
    case yBz3 => (intro W hSW; (try dsimp only at hSW); go_simp; (try with_reducible rfl))
    change wpAnyH _ _ _ _ _ _ _ (Act.put _ (some 91) _) _
    simp only [Act.put, List.setIfInBounds_toArray, List.set_cons_zero, List.set_cons_succ]
    refine wpAnyH_take (i := 4) (v := ?vBz4) rfl (by kernel_rfl) (by kernel_rfl) (by kernel_rfl) (fun _ _ _ h => h) (Or.inl ⟨by first | kernel_rfl | rfl, ?yBz4⟩) hHeld ?rBz4
    case yBz4 => (intro W hSW; (try dsimp only at hSW); go_simp; (try with_reducible rfl))
    change wpAnyH _ _ _ _ _ _ _ (Act.put _ (some 92) _) _
    simp only [Act.put, List.setIfInBounds_toArray, List.set_cons_zero, List.set_cons_succ]
    refine wpAnyH_take (i := 5) (v := ?vBz5) rfl (by kernel_rfl) (by kernel_rfl) (by kernel_rfl) (fun _ _ _ h => h) (Or.inl ⟨by first | kernel_rfl | rfl, ?yBz5⟩) hHeld ?rBz5
    case yBz5 => (intro W hSW; (try dsimp only at hSW); go_simp; (try with_reducible rfl))
    change wpAnyH _ _ _ _ _ _ _ (Act.put _ (some 6) _) _
    simp only [Act.put, List.setIfInBounds_toArray, List.set_cons_zero, List.set_cons_succ]
    refine wpAnyH_ready (rs := [6]) (by kernel_rfl) (by simp) ?_
    refine AllReadyH.cons rfl (fun K hK => ?_) AllReadyH.nil
    go_simp
    refine hK.out _ _ (HK4.out _ _ _ _ _ _ rfl) (fun hHeld => ?_)
    clear hK K
    refine wpAnyH_take (i := 7) (v := ?vBz7) rfl (by kernel_rfl) (by kernel_rfl) (by kernel_rfl) (fun _ _ _ h => h) (Or.inl ⟨by first | kernel_rfl | rfl, ?yBz7⟩) hHeld ?rBz7
    case yBz7 => (intro W hSW; (try dsimp only at hSW); go_simp; (try with_reducible rfl))
    change wpAnyH _ _ _ _ _ _ _ (Act.put _ (some 8) _) _
    simp only [Act.put, List.setIfInBounds_toArray, List.set_cons_zero, List.set_cons_succ]
    refine wpAnyH_done (by kernel_rfl) ?_ _
    clear hHeld f0 f1 f2 f3 f4 ff
    go_wp2
    refine bodyPost_ret (v := .tuple #[.pointer (some ⟨g, 0, none⟩), .agg #[.slice (some ⟨lb', 0, none⟩) n' lc', .slice wa' N' wc', .int .i64 F', .int .i64 M', .bool B'], .bool true]) ?_ rfl ⟨g, lb', lc', wa', wc', D', ?_, ?_, HKD.out⟩
    · simp [results, go_sem, y0, y1, y2, y3, y4]
    · rw [HRC.out]
    · exact HPR.out _ _ _ _ _
end Go.Proofs.Ytdlmciicapigjaa
