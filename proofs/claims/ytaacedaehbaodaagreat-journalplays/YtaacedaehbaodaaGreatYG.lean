/- The statements' same. -/
import Derived.Test.YtaacedaehbaodaaGreatYF
namespace Go.Proofs.YtaacedaehbaodaaGreat
open Go.RowKit Go.Shelf
set_option maxRecDepth 100000 in
set_option maxHeartbeats 4000000 in
theorem same_any {w : World} {S : Nat → Prop} {g lb lc : Nat} {wa : Option Addr} {wc : Nat} {D : Dk} (hd : DiskIs w S g D) (hr : RefAt w lb lc wa wc D) :
    Calls Tryz.prog 24 #[.pointer (some ⟨g, 0, none⟩), .agg #[.slice (some ⟨lb, 0, none⟩) D.kept.length lc, .slice wa D.waits.length wc, .int .i64 (D.fuse : Int), .int .i64 (D.writes : Int), .bool (!D.up)]] w fun e w' => e = .returned (.bool true) ∧ Below w.heap.size w w' := by
  obtain ⟨dn, hdn⟩ : ∃ dn, (!D.up) = dn := ⟨_, rfl⟩
  have hn2 := hr.ok.n2
  obtain ⟨W1, hW1⟩ : ∃ W, w.alloc (.cells (rcells lb lc wa wc D) 32) = W := ⟨_, rfl⟩
  have hbx := boxed w (rcells lb lc wa wc D)
  rw [hW1] at hbx
  obtain ⟨c0', c1', c2', c3', c4'⟩ := hbx.at
  have HD : Hid (∀ V, Below W1.heap.size W1 V → DiskIs V S g D ∧ RefAt V lb lc wa wc D ∧ Below w.heap.size w V) := fun V hV => by
    have h1 : Below w.heap.size w V := hbx.bl.trans (hV.mono hbx.bl.size)
    exact ⟨hd.below h1, hr.below h1, h1⟩
  have hbd : w.heap.size < W1.heap.size := by have := lt_of_some hbx.r; exact this
  have hdW := hd.below hbx.bl
  have HWA : Hid (Calls Tryz.prog 55 #[.pointer (some ⟨g, 0, none⟩)] W1.drew fun e w' => e = .returned (.int .i64 (D.waits.length : Int)) ∧ w' = W1.drew) := waits_any (hdW.below (Below.refl _ W1).drew)
  have HWS : Hid (Calls Tryz.prog 27 #[.pointer (some ⟨g, 0, none⟩)] W1.drew fun e w' => e = .returned (.int .i64 (D.writes : Int)) ∧ w' = W1.drew) := writes_any (hdW.below (Below.refl _ W1).drew)
  obtain ⟨uu, huu⟩ : ∃ uu, D.up = uu := ⟨_, rfl⟩
  have HUP : Hid (Calls Tryz.prog 38 #[.pointer (some ⟨g, 0, none⟩)] W1.drew fun e w' => e = .returned (.bool uu) ∧ w' = W1.drew) := by rw [← huu]; exact up_any (hdW.below (Below.refl _ W1).drew)
  have hud : (uu == dn) = false := by rw [← hdn, ← huu]; cases D.up <;> rfl
  have HRD : Hid (∀ V i, Below W1.heap.size W1 V → Calls Tryz.prog 56 #[.pointer (some ⟨g, 0, none⟩), .int .i64 i] V fun e w' => e = .returned (.tuple #[.string (D.rd i), .int .i64 (D.reach i : Int)]) ∧ w' = V) := fun V i hV => read_code (HD.out V hV).1 i
  have HRR : Hid (∀ V i, Below W1.heap.size W1 V → Calls Tryz.prog 50 #[.agg #[.slice (some ⟨lb, 0, none⟩) D.kept.length lc, .slice wa D.waits.length wc, .int .i64 (D.fuse : Int), .int .i64 (D.writes : Int), .bool dn], .int .i64 i] V fun e w' => e = .returned (.tuple #[.string (D.rd i), .int .i64 (D.reach i : Int)]) ∧ Below V.heap.size V w') := fun V i hV => by
    rw [← hdn]
    exact rread_any (HD.out V hV).2.1 i
  have hW1' : w.alloc (.cells #[.slice (some ⟨lb, 0, none⟩) D.kept.length lc, .slice wa D.waits.length wc, .int .i64 (D.fuse : Int), .int .i64 (D.writes : Int), .bool dn] 32) = W1 := by rw [← hdn]; exact hW1
  rw [hdn] at c4' ⊢
  obtain ⟨n, hn⟩ : ∃ n, D.kept.length = n := ⟨_, rfl⟩
  obtain ⟨N, hN⟩ : ∃ N, D.waits.length = N := ⟨_, rfl⟩
  obtain ⟨M, hM⟩ : ∃ M, D.writes = M := ⟨_, rfl⟩
  rw [hn] at HRR hW1' c0' hn2 ⊢
  rw [hN] at HWA HRR hW1' c1' ⊢
  rw [hM] at HWS HRR hW1' c3' ⊢
  obtain ⟨b, hb⟩ : ∃ b, w.heap.size = b := ⟨_, rfl⟩
  rw [hb] at c0' c1' c2' c3' c4' hbd
  have c0 : W1.drew.cell? ⟨b, 0, none⟩ = some (.slice (some ⟨lb, 0, none⟩) n lc) := c0'
  have c1 : W1.drew.cell? ⟨b, 1, none⟩ = some (.slice wa N wc) := c1'
  have c3 : W1.drew.cell? ⟨b, 3, none⟩ = some (.int .i64 (M : Int)) := c3'
  have c4 : W1.drew.cell? ⟨b, 4, none⟩ = some (.bool dn) := c4'
  have HC : Hid (∀ V, Below W1.heap.size W1 V → V.cell? ⟨b, 0, none⟩ = some (.slice (some ⟨lb, 0, none⟩) n lc) ∧ V.cell? ⟨b, 1, none⟩ = some (.slice wa N wc) ∧ V.cell? ⟨b, 2, none⟩ = some (.int .i64 (D.fuse : Int)) ∧ V.cell? ⟨b, 3, none⟩ = some (.int .i64 (M : Int)) ∧ V.cell? ⟨b, 4, none⟩ = some (.bool dn)) := fun V hV =>
    ⟨by rw [hV.cell hbd]; exact c0', by rw [hV.cell hbd]; exact c1', by rw [hV.cell hbd]; exact c2', by rw [hV.cell hbd]; exact c3', by rw [hV.cell hbd]; exact c4'⟩
  have HBW : Hid (Below w.heap.size w W1) := hbx.bl
  clear hdn hW1 hbx hd hr hdW huu c0' c1' c2' c3' c4' hn hN hM
  go_enter Tryz.func24, Tryz.ntmps24
  go_wp2
  refine wp_region_held_drew (S := fun V => V.cell? ⟨b, 0, none⟩ = some (.slice (some ⟨lb, 0, none⟩) n lc) ∧ V.cell? ⟨b, 1, none⟩ = some (.slice wa N wc) ∧ V.cell? ⟨b, 3, none⟩ = some (.int .i64 (M : Int)) ∧ V.cell? ⟨b, 4, none⟩ = some (.bool dn)) (by kernel_rfl) (⟨c0, c1, c3, c4⟩) (fun hHeld => ?_)
  refine wpAnyH_take (i := 0) (v := ?vp0) rfl (by kernel_rfl) (by kernel_rfl) (by kernel_rfl) (fun _ _ _ h => h) (Or.inl ⟨by first | kernel_rfl | rfl, ?yp0⟩) hHeld ?rp0
  case yp0 => (intro W hSW; (try dsimp only at hSW); go_simp; (try with_reducible rfl))
  change wpAnyH _ _ _ _ _ _ _ (Act.put _ (some 10) _) _
  simp only [Act.put, List.setIfInBounds_toArray, List.set_cons_zero, List.set_cons_succ]
  refine wpAnyH_take (i := 2) (v := ?vp2) rfl (by kernel_rfl) (by kernel_rfl) (by kernel_rfl) (fun _ _ _ h => h) (Or.inl ⟨by first | kernel_rfl | rfl, ?yp2⟩) hHeld ?rp2
  case yp2 => (intro W hSW; (try dsimp only at hSW); go_simp; (try with_reducible rfl))
  change wpAnyH _ _ _ _ _ _ _ (Act.put _ (some 12) _) _
  simp only [Act.put, List.setIfInBounds_toArray, List.set_cons_zero, List.set_cons_succ]
  refine wpAnyH_take (i := 3) (v := ?vp3) rfl (by kernel_rfl) (by kernel_rfl) (by kernel_rfl) (fun _ _ _ h => h) (Or.inl ⟨by first | kernel_rfl | rfl, ?yp3⟩) hHeld ?rp3
  case yp3 => (intro W hSW; (try dsimp only at hSW); go_simp; (try with_reducible rfl))
  change wpAnyH _ _ _ _ _ _ _ (Act.put _ (some 13) _) _
  simp only [Act.put, List.setIfInBounds_toArray, List.set_cons_zero, List.set_cons_succ]
  refine wpAnyH_ready (rs := [1]) (by kernel_rfl) (by simp) ?_
  refine AllReadyH.cons rfl (fun K hK => ?_) AllReadyH.nil
  go_simp
  refine (HUP.out).mono ?_
  rintro e V1 ⟨rfl, hV⟩; subst V1
  refine hK.out _ _ (hHeld) (fun hHeld => ?_)
  clear hK K
  try simp only [Act.put, List.setIfInBounds_toArray, List.set_cons_zero, List.set_cons_succ]
  refine wpAnyH_take (i := 4) (v := ?vp4) rfl (by kernel_rfl) (by kernel_rfl) (by kernel_rfl) (fun _ _ _ h => h) (Or.inl ⟨by first | kernel_rfl | rfl, ?yp4⟩) hHeld ?rp4
  case yp4 => (intro W hSW; (try dsimp only at hSW); go_simp; (try with_reducible rfl))
  change wpAnyH _ _ _ _ _ _ _ (Act.put _ (some 14) _) _
  simp only [Act.put, List.setIfInBounds_toArray, List.set_cons_zero, List.set_cons_succ]
  refine wpAnyH_take (i := 5) (v := ?vp5) rfl (by kernel_rfl) (by kernel_rfl) (by kernel_rfl) (fun _ _ _ h => h) (Or.inl ⟨by first | kernel_rfl | rfl, ?yp5⟩) hHeld ?rp5
  case yp5 => (intro W hSW; (try dsimp only at hSW); go_simp; (try with_reducible rfl))
  change wpAnyH _ _ _ _ _ _ _ (Act.put _ (some 15) _) _
  simp only [Act.put, List.setIfInBounds_toArray, List.set_cons_zero, List.set_cons_succ]
  refine wpAnyH_take (i := 6) (v := ?vp6) rfl (by kernel_rfl) (by kernel_rfl) (by kernel_rfl) (fun _ _ _ h => h) (Or.inl ⟨by first | kernel_rfl | rfl, ?yp6⟩) hHeld ?rp6
  case yp6 => (intro W hSW; (try dsimp only at hSW); go_simp; (try with_reducible rfl))
  change wpAnyH _ _ _ _ _ _ _ (Act.put _ (some 16) _) _
  simp only [Act.put, List.setIfInBounds_toArray, List.set_cons_zero, List.set_cons_succ]
  refine wpAnyH_take (i := 8) (v := ?vp8) rfl (by kernel_rfl) (by kernel_rfl) (by kernel_rfl) (fun _ _ _ h => h) (Or.inl ⟨by first | kernel_rfl | rfl, ?yp8⟩) hHeld ?rp8
  case yp8 => (intro W hSW; (try dsimp only at hSW); go_simp; (try with_reducible rfl))
  change wpAnyH _ _ _ _ _ _ _ (Act.put _ (some 18) _) _
  simp only [Act.put, List.setIfInBounds_toArray, List.set_cons_zero, List.set_cons_succ]
  refine wpAnyH_take (i := 9) (v := ?vp9) rfl (by kernel_rfl) (by kernel_rfl) (by kernel_rfl) (fun _ _ _ h => h) (Or.inl ⟨by first | kernel_rfl | rfl, ?yp9⟩) hHeld ?rp9
  case yp9 => (intro W hSW; (try dsimp only at hSW); go_simp; (try with_reducible rfl))
  change wpAnyH _ _ _ _ _ _ _ (Act.put _ (some 19) _) _
  simp only [Act.put, List.setIfInBounds_toArray, List.set_cons_zero, List.set_cons_succ]
  refine wpAnyH_take (i := 10) (v := ?vp10) rfl (by kernel_rfl) (by kernel_rfl) (by kernel_rfl) (fun _ _ _ h => h) (Or.inl ⟨by first | kernel_rfl | rfl, ?yp10⟩) hHeld ?rp10
  case yp10 => (intro W hSW; (try dsimp only at hSW); go_simp; (try with_reducible rfl))
  change wpAnyH _ _ _ _ _ _ _ (Act.put _ (some 20) _) _
  simp only [Act.put, List.setIfInBounds_toArray, List.set_cons_zero, List.set_cons_succ]
  refine wpAnyH_ready (rs := [7]) (by kernel_rfl) (by simp) ?_
  refine AllReadyH.cons rfl (fun K hK => ?_) AllReadyH.nil
  go_simp
  refine (HWA.out).mono ?_
  rintro e V1 ⟨rfl, hV⟩; subst V1
  refine hK.out _ _ (hHeld) (fun hHeld => ?_)
  clear hK K
  try simp only [Act.put, List.setIfInBounds_toArray, List.set_cons_zero, List.set_cons_succ]
  refine wpAnyH_take (i := 11) (v := ?vp11) rfl (by kernel_rfl) (by kernel_rfl) (by kernel_rfl) (fun _ _ _ h => h) (Or.inl ⟨by first | kernel_rfl | rfl, ?yp11⟩) hHeld ?rp11
  case yp11 => (intro W hSW; (try dsimp only at hSW); go_simp; (try with_reducible rfl))
  change wpAnyH _ _ _ _ _ _ _ (Act.put _ (some 21) _) _
  simp only [Act.put, List.setIfInBounds_toArray, List.set_cons_zero, List.set_cons_succ]
  refine wpAnyH_take (i := 12) (v := ?vp12) rfl (by kernel_rfl) (by kernel_rfl) (by kernel_rfl) (fun _ _ _ h => h) (Or.inl ⟨by first | kernel_rfl | rfl, ?yp12⟩) hHeld ?rp12
  case yp12 => (intro W hSW; (try dsimp only at hSW); go_simp; (try with_reducible rfl))
  change wpAnyH _ _ _ _ _ _ _ (Act.put _ (some 22) _) _
  simp only [Act.put, List.setIfInBounds_toArray, List.set_cons_zero, List.set_cons_succ]
  refine wpAnyH_take (i := 13) (v := ?vp13) rfl (by kernel_rfl) (by kernel_rfl) (by kernel_rfl) (fun _ _ _ h => h) (Or.inl ⟨by first | kernel_rfl | rfl, ?yp13⟩) hHeld ?rp13
  case yp13 => (intro W hSW; (try dsimp only at hSW); go_simp; (try with_reducible rfl))
  change wpAnyH _ _ _ _ _ _ _ (Act.put _ (some 23) _) _
  simp only [Act.put, List.setIfInBounds_toArray, List.set_cons_zero, List.set_cons_succ]
  refine wpAnyH_take (i := 14) (v := ?vp14) rfl (by kernel_rfl) (by kernel_rfl) (by kernel_rfl) (fun _ _ _ h => h) (Or.inl ⟨by first | kernel_rfl | rfl, ?yp14⟩) hHeld ?rp14
  case yp14 => (intro W hSW; (try dsimp only at hSW); go_simp; (try with_reducible rfl))
  change wpAnyH _ _ _ _ _ _ _ (Act.put _ (some 24) _) _
  simp only [Act.put, List.setIfInBounds_toArray, List.set_cons_zero, List.set_cons_succ]
  refine wpAnyH_take (i := 16) (v := ?vp16) rfl (by kernel_rfl) (by kernel_rfl) (by kernel_rfl) (fun _ _ _ h => h) (Or.inl ⟨by first | kernel_rfl | rfl, ?yp16⟩) hHeld ?rp16
  case yp16 => (intro W hSW; (try dsimp only at hSW); go_simp; (try with_reducible rfl))
  change wpAnyH _ _ _ _ _ _ _ (Act.put _ (some 26) _) _
  simp only [Act.put, List.setIfInBounds_toArray, List.set_cons_zero, List.set_cons_succ]
  refine wpAnyH_take (i := 17) (v := ?vp17) rfl (by kernel_rfl) (by kernel_rfl) (by kernel_rfl) (fun _ _ _ h => h) (Or.inl ⟨by first | kernel_rfl | rfl, ?yp17⟩) hHeld ?rp17
  case yp17 => (intro W hSW; (try dsimp only at hSW); go_simp; (try with_reducible rfl))
  change wpAnyH _ _ _ _ _ _ _ (Act.put _ (some 27) _) _
  simp only [Act.put, List.setIfInBounds_toArray, List.set_cons_zero, List.set_cons_succ]
  refine wpAnyH_ready (rs := [15]) (by kernel_rfl) (by simp) ?_
  refine AllReadyH.cons rfl (fun K hK => ?_) AllReadyH.nil
  go_simp
  refine (HWS.out).mono ?_
  rintro e V1 ⟨rfl, hV⟩; subst V1
  refine hK.out _ _ (hHeld) (fun hHeld => ?_)
  clear hK K
  try simp only [Act.put, List.setIfInBounds_toArray, List.set_cons_zero, List.set_cons_succ]
  refine wpAnyH_take (i := 18) (v := ?vp18) rfl (by kernel_rfl) (by kernel_rfl) (by kernel_rfl) (fun _ _ _ h => h) (Or.inl ⟨by first | kernel_rfl | rfl, ?yp18⟩) hHeld ?rp18
  case yp18 => (intro W hSW; (try dsimp only at hSW); go_simp; (try with_reducible rfl))
  change wpAnyH _ _ _ _ _ _ _ (Act.put _ (some 28) _) _
  simp only [Act.put, List.setIfInBounds_toArray, List.set_cons_zero, List.set_cons_succ]
  refine wpAnyH_take (i := 19) (v := ?vp19) rfl (by kernel_rfl) (by kernel_rfl) (by kernel_rfl) (fun _ _ _ h => h) (Or.inl ⟨by first | kernel_rfl | rfl, ?yp19⟩) hHeld ?rp19
  case yp19 => (intro W hSW; (try dsimp only at hSW); go_simp; (try with_reducible rfl))
  change wpAnyH _ _ _ _ _ _ _ (Act.put _ (some 29) _) _
  simp only [Act.put, List.setIfInBounds_toArray, List.set_cons_zero, List.set_cons_succ]
  refine wpAnyH_done (by kernel_rfl) ?_ _
  clear hHeld HWA HWS HUP c0 c1 c3 c4
  go_wp2
  go_loopw [5] (fun v wr => ∃ i : Nat, i ≤ n ∧ v = .int .i64 i ∧ Below W1.heap.size W1 wr) (fun v _ => n - (intOf v).toNat)
  case atStart => exact ⟨0, by omega, rfl, (Below.refl _ W1).drew⟩
  case round =>
    obtain ⟨i, hi2, rfl, hbel⟩ := hrel
    have HB : Hid (Below W1.heap.size W1 wr) := hbel
    obtain ⟨c0, c1, c2, c3, c4⟩ := HC.out wr hbel
    clear hbel
    by_cases hin : i < n
    · have kk : (i : Int) < (n : Int) := by omega
      have HR1 := HRD.out wr (i : Int) HB.out
      have HR2 := HRR.out wr (i : Int) HB.out
      obtain ⟨T, hT⟩ : ∃ T, D.rd (i : Int) = T := ⟨_, rfl⟩
      obtain ⟨E, hE⟩ : ∃ E, D.reach (i : Int) = E := ⟨_, rfl⟩
      rw [hT, hE] at HR1 HR2
      clear hT hE
      go_wp2_with fail
      refine HR1.mono ?_
      rintro e V1 ⟨rfl, hV⟩
      subst V1
      clear HR1
      go_wp2_with fail
      refine HR2.mono ?_
      rintro e V2 ⟨rfl, hb2⟩
      have HB2 : Hid (Below W1.heap.size W1 V2) := HB.out.trans (hb2.mono HB.out.size)
      clear HR2 hb2 c0 c1 c2 c3 c4
      go_wp2
      exact ⟨⟨i + 1, by omega, by go_num, HB2.out⟩, by simp [intOf]; omega⟩
    · have kk : ¬ (i : Int) < (n : Int) := by omega
      have HBE : Hid (Below w.heap.size w wr) := (HD.out wr HB.out).2.2
      go_wp2
      go_ret
      exact ⟨rfl, by first | exact HBE.out | (rw [← hb]; exact HBE.out)⟩
end Go.Proofs.YtaacedaehbaodaaGreat
