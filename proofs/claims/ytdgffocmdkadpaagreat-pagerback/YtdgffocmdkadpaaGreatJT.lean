/- Walks over a Journal's store, lay, setMark, finish. -/
import Derived.Test.YtdgffocmdkadpaaGreatJS
namespace Go.Proofs.YtdgffocmdkadpaaGreat
open Go.RowKit Go.Shelf
theorem run_on {D : Dk} {a b : List Stp} (h : codeS D a = 0) (h2 : codeS (runS D a) b = 0) : codeS D (a ++ b) = 0 ∧ runS D (a ++ b) = runS (runS D a) b := by
  rw [codeS_app, runS_app, if_pos h, if_pos h]
  exact ⟨h2, rfl⟩
theorem run_off {D : Dk} {a b c : List Stp} (h : codeS D a = 0) (h2 : codeS (runS D a) b = 10) : codeS D (a ++ (b ++ c)) = 10 ∧ runS D (a ++ (b ++ c)) = runS (runS D a) b := by
  rw [codeS_app, runS_app D a, if_pos h, if_pos h, codeS_app, runS_app _ b, h2]
  exact ⟨rfl, rfl⟩
theorem sslice_mid (O : ByteArray) (p q : Nat) (h : p ≤ q) (hq : q ≤ O.size) (W : World) : (Instr.sliceAt 9 (.string O) (some (.int .i64 (p : Int))) (some (.int .i64 (q : Int))) none).run Tryz.prog W = .ok (.string (O.extract p q)) W := by
  simp [Instr.sliceAt, Instr.slice, run_underlying Tryz.underlying9, Instr.sliceBounds, Instr.sliceBound, asIntOf, h, hq]
set_option maxRecDepth 100000 in
set_option maxHeartbeats 4000000 in
theorem store_any {w : World} {S : Nat → Prop} {jb g n : Nat} {D : Dk} (h : DiskIs w S g D) (hj : Jat w jb g n) (hnj : ¬ S jb) (a : Nat) (s : ByteArray) (hs : s.size = 1024) (ha : a + 4 ≤ D.kept.length) (hw : D.writes + 4 < 1000000) :
    Calls Tryz.prog 93 #[.pointer (some ⟨jb, 0, none⟩), .int .i64 (a : Int), .string s] w fun e w' => e = .returned (.int .i64 (codeS D (laidL a s) : Int)) ∧ Mut S w g (runS D (laidL a s)) w' := by
  have hk2 := h.ok.n2
  have HI : Hid (codeS D ((laidL a s).take 0) = 0 ∧ Mut S w g (runS D ((laidL a s).take 0)) w) := ⟨rfl, Mut.same h⟩
  clear h
  go_enter Tryz.func93, Tryz.ntmps93
  go_wp2
  go_loopw [9] (fun v wr => ∃ i : Nat, i ≤ 4 ∧ v = .int .i64 i ∧ codeS D ((laidL a s).take i) = 0 ∧ Mut S w g (runS D ((laidL a s).take i)) wr) (fun v _ => 4 - (intOf v).toNat)
  case atStart => exact ⟨0, by omega, rfl, HI.out⟩
  case round =>
    clear HI
    obtain ⟨i, hi, rfl, hcode, hmut⟩ := hrel
    have hlen1 : (runS D ((laidL a s).take i)).kept.length = D.kept.length := runS_len _ _
    have hwr1 := runS_writes D ((laidL a s).take i)
    rw [List.length_take] at hwr1
    rcases (by omega : i = 0 ∨ i = 1 ∨ i = 2 ∨ i = 3 ∨ i = 4) with rfl | rfl | rfl | rfl | rfl
    · -- 0
      have hsl : ∀ W, (Instr.sliceAt 9 (.string s) (some (.int .i64 0)) (some (.int .i64 256)) none).run Tryz.prog W = .ok (.string (sec s 0)) W := fun W => sslice_mid s 0 256 (by omega) (by omega) W
      have hTs := sec_size s 0 hs (by omega)
      have HTK : Hid ((laidL a s).take 1 = (laidL a s).take 0 ++ [some (a + 0, sec s 0)]) := rfl
      have HAL : Hid (laidL a s = (laidL a s).take 0 ++ ([some (a + 0, sec s 0)] ++ (laidL a s).drop 1)) := rfl
      have HON : Hid (codeS (runS D ((laidL a s).take 0)) [some (a + 0, sec s 0)] = 0 → codeS D ((laidL a s).take 0 ++ [some (a + 0, sec s 0)]) = 0 ∧ runS D ((laidL a s).take 0 ++ [some (a + 0, sec s 0)]) = runS (runS D ((laidL a s).take 0)) [some (a + 0, sec s 0)]) := fun h => run_on hcode h
      have HOFF : Hid (codeS (runS D ((laidL a s).take 0)) [some (a + 0, sec s 0)] = 10 → codeS D ((laidL a s).take 0 ++ ([some (a + 0, sec s 0)] ++ (laidL a s).drop 1)) = 10 ∧ runS D ((laidL a s).take 0 ++ ([some (a + 0, sec s 0)] ++ (laidL a s).drop 1)) = runS (runS D ((laidL a s).take 0)) [some (a + 0, sec s 0)]) := fun h => run_off hcode h
      obtain ⟨D1, hD1⟩ : ∃ D1, runS D ((laidL a s).take 0) = D1 := ⟨_, rfl⟩
      obtain ⟨T, hT⟩ : ∃ T, sec s 0 = T := ⟨_, rfl⟩
      rw [hD1] at hmut hlen1 hwr1
      rw [hD1, hT] at HON HOFF
      rw [hT] at hsl hTs HTK HAL
      obtain ⟨S1, hd1, hu1, hs1⟩ := hmut
      have HJ : Hid (Jat wr.drew jb g n) := (hj.upd hu1 hnj).below (Below.refl _ wr).drew
      have hnj1 : ¬ S1 jb := fun h => (hs1 jb h).elim hnj (fun h => by have := hj.lt; omega)
      have hd1 : Hid (DiskIs wr.drew S1 g D1) := hd1.below (Below.refl _ wr).drew
      have hu1 : Hid (Upd S w wr) := hu1
      have hs1 : Hid (∀ x, S1 x → S x ∨ w.heap.size ≤ x) := hs1
      have hw1 : D1.writes < 1000000 := by omega
      have ka : IntKind.i64.wrap ((a : Int)) = (a : Int) := wrapI _ (by omega) (by omega)
      have hE : s.extract 0 256 = T := by rw [← hT]; rfl
      have kw0 : IntKind.i64.wrap 0 = 0 := wrapI _ (by omega) (by omega)
      have kw1 : IntKind.i64.wrap 1 = 1 := wrapI _ (by omega) (by omega)
      have kw2 : IntKind.i64.wrap 256 = 256 := wrapI _ (by omega) (by omega)
      clear hT hD1 hcode
      rcases codeS_or D1 [some (a + 0, T)] with hc | hc
      · have HON : Hid _ := HON.out hc
        clear HOFF HAL
        have hc0 : codeS D1 [some (a + 0, T)] = 0 := hc
        have HW : Hid (Calls Tryz.prog 95 #[.pointer (some ⟨g, 0, none⟩), .int .i64 (a : Int), .string T] wr.drew fun e w' => e = .returned (.int .i64 0) ∧ Mut S1 wr.drew g (runS D1 [some (a + 0, T)]) w') := by
          have := write_ok hd1.out (a + 0) T (by omega) hTs hw1
          rw [hc0, show ((a + 0 : Nat) : Int) = (a : Int) by omega] at this
          exact this
        clear hc hc0
        go_wp2
        refine wp_region_held_drew (S := fun V => V.cell? ⟨jb, 0, none⟩ = some (.pointer (some ⟨g, 0, none⟩))) (by kernel_rfl) (HJ.out.cells.1) (fun hHeld => ?_)
        refine wpAnyH_take (i := 0) (v := ?vs0x0) rfl (by kernel_rfl) (by kernel_rfl) (by kernel_rfl) (fun _ _ _ h => h) (Or.inl ⟨by first | kernel_rfl | rfl, ?ys0x0⟩) hHeld ?rs0x0
        case ys0x0 => (intro W hSW; (try dsimp only at hSW); go_simp; (try with_reducible rfl))
        change wpAnyH _ _ _ _ _ _ _ (Act.put _ (some 12) _) _
        simp only [Act.put, List.setIfInBounds_toArray, List.set_cons_zero, List.set_cons_succ]
        refine wpAnyH_take (i := 1) (v := ?vs0x1) rfl (by kernel_rfl) (by kernel_rfl) (by kernel_rfl) (fun _ _ _ h => h) (Or.inl ⟨by first | kernel_rfl | rfl, ?ys0x1⟩) hHeld ?rs0x1
        case ys0x1 => (intro W hSW; (try dsimp only at hSW); go_simp; (try with_reducible rfl))
        change wpAnyH _ _ _ _ _ _ _ (Act.put _ (some 13) _) _
        simp only [Act.put, List.setIfInBounds_toArray, List.set_cons_zero, List.set_cons_succ]
        refine wpAnyH_take (i := 2) (v := ?vs0x2) rfl (by kernel_rfl) (by kernel_rfl) (by kernel_rfl) (fun _ _ _ h => h) (Or.inl ⟨by first | kernel_rfl | rfl, ?ys0x2⟩) hHeld ?rs0x2
        case ys0x2 => (intro W hSW; (try dsimp only at hSW); go_simp; (try with_reducible rfl))
        change wpAnyH _ _ _ _ _ _ _ (Act.put _ (some 14) _) _
        simp only [Act.put, List.setIfInBounds_toArray, List.set_cons_zero, List.set_cons_succ]
        refine wpAnyH_take (i := 3) (v := ?vs0x3) rfl (by kernel_rfl) (by kernel_rfl) (by kernel_rfl) (fun _ _ _ h => h) (Or.inl ⟨by first | kernel_rfl | rfl, ?ys0x3⟩) hHeld ?rs0x3
        case ys0x3 => (intro W hSW; (try dsimp only at hSW); go_simp; (try with_reducible rfl))
        change wpAnyH _ _ _ _ _ _ _ (Act.put _ (some 15) _) _
        simp only [Act.put, List.setIfInBounds_toArray, List.set_cons_zero, List.set_cons_succ]
        refine wpAnyH_take (i := 4) (v := ?vs0x4) rfl (by kernel_rfl) (by kernel_rfl) (by kernel_rfl) (fun _ _ _ h => h) (Or.inl ⟨by first | kernel_rfl | rfl, ?ys0x4⟩) hHeld ?rs0x4
        case ys0x4 => (intro W hSW; (try dsimp only at hSW); go_simp; (try with_reducible rfl))
        change wpAnyH _ _ _ _ _ _ _ (Act.put _ (some 16) _) _
        simp only [Act.put, List.setIfInBounds_toArray, List.set_cons_zero, List.set_cons_succ]
        refine wpAnyH_take (i := 5) (v := ?vs0x5) rfl (by kernel_rfl) (by kernel_rfl) (by kernel_rfl) (fun _ _ _ h => h) (Or.inl ⟨by first | kernel_rfl | rfl, ?ys0x5⟩) hHeld ?rs0x5
        case ys0x5 => (intro W hSW; (try dsimp only at hSW); go_simp; (try with_reducible rfl))
        change wpAnyH _ _ _ _ _ _ _ (Act.put _ (some 17) _) _
        simp only [Act.put, List.setIfInBounds_toArray, List.set_cons_zero, List.set_cons_succ]
        refine wpAnyH_take (i := 6) (v := ?vs0x6) rfl (by kernel_rfl) (by kernel_rfl) (by kernel_rfl) (fun _ _ _ h => h) (Or.inl ⟨by first | kernel_rfl | rfl, ?ys0x6⟩) hHeld ?rs0x6
        case ys0x6 => (intro W hSW; (try dsimp only at hSW); go_simp; (try with_reducible rfl))
        change wpAnyH _ _ _ _ _ _ _ (Act.put _ (some 18) _) _
        simp only [Act.put, List.setIfInBounds_toArray, List.set_cons_zero, List.set_cons_succ]
        refine wpAnyH_take (i := 7) (v := ?vs0x7) rfl (by kernel_rfl) (by kernel_rfl) (by kernel_rfl) (fun _ _ _ h => h) (Or.inl ⟨by first | kernel_rfl | rfl, ?ys0x7⟩) hHeld ?rs0x7
        case ys0x7 => (intro W hSW; (try dsimp only at hSW); go_simp; (try with_reducible rfl))
        change wpAnyH _ _ _ _ _ _ _ (Act.put _ (some 19) _) _
        simp only [Act.put, List.setIfInBounds_toArray, List.set_cons_zero, List.set_cons_succ]
        refine wpAnyH_take (i := 8) (v := ?vs0x8) rfl (by kernel_rfl) (by kernel_rfl) (by kernel_rfl) (fun _ _ _ h => h) (Or.inl ⟨by first | kernel_rfl | rfl, ?ys0x8⟩) hHeld ?rs0x8
        case ys0x8 => (intro W hSW; (try dsimp only at hSW); go_simp; (try with_reducible rfl))
        change wpAnyH _ _ _ _ _ _ _ (Act.put _ (some 20) _) _
        simp only [Act.put, List.setIfInBounds_toArray, List.set_cons_zero, List.set_cons_succ]
        refine wpAnyH_take (i := 9) (v := ?vs0x9) rfl (by kernel_rfl) (by kernel_rfl) (by kernel_rfl) (fun _ _ _ h => h) (Or.inl ⟨by first | kernel_rfl | rfl, ?ys0x9⟩) hHeld ?rs0x9
        case ys0x9 => (intro W hSW; (try dsimp only at hSW); go_simp; (try with_reducible rfl))
        change wpAnyH _ _ _ _ _ _ _ (Act.put _ (some 21) _) _
        simp only [Act.put, List.setIfInBounds_toArray, List.set_cons_zero, List.set_cons_succ]
        refine wpAnyH_take (i := 10) (v := ?vs0x10) rfl (by kernel_rfl) (by kernel_rfl) (by kernel_rfl) (fun _ _ _ h => h) (Or.inl ⟨by first | kernel_rfl | rfl, ?ys0x10⟩) hHeld ?rs0x10
        case ys0x10 => (intro W hSW; (try dsimp only at hSW); go_simp; (try with_reducible rfl))
        change wpAnyH _ _ _ _ _ _ _ (Act.put _ (some 22) _) _
        simp only [Act.put, List.setIfInBounds_toArray, List.set_cons_zero, List.set_cons_succ]
        refine wpAnyH_take (i := 11) (v := ?vs0x11) rfl (by kernel_rfl) (by kernel_rfl) (by kernel_rfl) (fun _ _ _ h => h) (Or.inl ⟨by first | kernel_rfl | rfl, ?ys0x11⟩) hHeld ?rs0x11
        case ys0x11 => (intro W hSW; (try dsimp only at hSW); go_simp; (try with_reducible rfl))
        change wpAnyH _ _ _ _ _ _ _ (Act.put _ (some 23) _) _
        simp only [Act.put, List.setIfInBounds_toArray, List.set_cons_zero, List.set_cons_succ]
        refine wpAnyH_take (i := 12) (v := ?vs0x12) rfl (by kernel_rfl) (by kernel_rfl) (by kernel_rfl) (fun _ _ _ h => h) (Or.inl ⟨by first | kernel_rfl | rfl, ?ys0x12⟩) hHeld ?rs0x12
        case ys0x12 => (intro W hSW; (try dsimp only at hSW); go_simp; (try with_reducible rfl))
        change wpAnyH _ _ _ _ _ _ _ (Act.put _ (some 24) _) _
        simp only [Act.put, List.setIfInBounds_toArray, List.set_cons_zero, List.set_cons_succ]
        refine wpAnyH_take (i := 13) (v := ?vs0x13) rfl (by kernel_rfl) (by kernel_rfl) (by kernel_rfl) (fun _ _ _ h => h) (Or.inl ⟨by first | kernel_rfl | rfl, ?ys0x13⟩) hHeld ?rs0x13
        case ys0x13 => (intro W hSW; (try dsimp only at hSW); go_simp; (try with_reducible rfl))
        change wpAnyH _ _ _ _ _ _ _ (Act.put _ (some 25) _) _
        simp only [Act.put, List.setIfInBounds_toArray, List.set_cons_zero, List.set_cons_succ]
        refine wpAnyH_ready (rs := [14]) (by kernel_rfl) (by simp) ?_
        refine AllReadyH.cons rfl (fun K hK => ?_) AllReadyH.nil
        go_simp
        refine ((HW.out)).mono ?_
        rintro e V3 ⟨rfl, hm3⟩; have HM3 : Hid (Mut S1 wr.drew g (runS D1 [some (a + 0, T)]) V3) := hm3; clear hm3
        refine hK.out _ _ (by rw [HM3.out.cell HJ.out.lt hnj1]; exact HJ.out.cells.1) (fun hHeld => ?_)
        clear hK K
        try simp only [Act.put, List.setIfInBounds_toArray, List.set_cons_zero, List.set_cons_succ]
        refine wpAnyH_take (i := 15) (v := ?vs0x15) rfl (by kernel_rfl) (by kernel_rfl) (by kernel_rfl) (fun _ _ _ h => h) (Or.inl ⟨by first | kernel_rfl | rfl, ?ys0x15⟩) hHeld ?rs0x15
        case ys0x15 => (intro W hSW; (try dsimp only at hSW); go_simp; (try with_reducible rfl))
        change wpAnyH _ _ _ _ _ _ _ (Act.put _ (some 8) _) _
        simp only [Act.put, List.setIfInBounds_toArray, List.set_cons_zero, List.set_cons_succ]
        refine wpAnyH_done (by kernel_rfl) ?_ _
        have HN : Hid (codeS D ((laidL a s).take 1) = 0 ∧ Mut S w g (runS D ((laidL a s).take 1)) V3) := by
          obtain ⟨e1, e2⟩ := HON.out
          rw [HTK.out, e1, e2]
          exact ⟨rfl, Mut.trans hu1.out.drew hs1.out HM3.out⟩
        clear hHeld HW HM3
        go_wp2
        exact ⟨⟨1, by omega, by go_num, HN.out⟩, by simp [intOf]⟩
      · have HOFF : Hid _ := HOFF.out hc
        clear HON HTK
        have hc0 : codeS D1 [some (a + 0, T)] = 10 := hc
        have HW : Hid (Calls Tryz.prog 95 #[.pointer (some ⟨g, 0, none⟩), .int .i64 (a : Int), .string T] wr.drew fun e w' => e = .returned (.int .i64 10) ∧ Mut S1 wr.drew g (runS D1 [some (a + 0, T)]) w') := by
          have := write_ok hd1.out (a + 0) T (by omega) hTs hw1
          rw [hc0, show ((a + 0 : Nat) : Int) = (a : Int) by omega] at this
          exact this
        clear hc hc0
        go_wp2
        refine wp_region_held_drew (S := fun V => V.cell? ⟨jb, 0, none⟩ = some (.pointer (some ⟨g, 0, none⟩))) (by kernel_rfl) (HJ.out.cells.1) (fun hHeld => ?_)
        refine wpAnyH_take (i := 0) (v := ?vs0y0) rfl (by kernel_rfl) (by kernel_rfl) (by kernel_rfl) (fun _ _ _ h => h) (Or.inl ⟨by first | kernel_rfl | rfl, ?ys0y0⟩) hHeld ?rs0y0
        case ys0y0 => (intro W hSW; (try dsimp only at hSW); go_simp; (try with_reducible rfl))
        change wpAnyH _ _ _ _ _ _ _ (Act.put _ (some 12) _) _
        simp only [Act.put, List.setIfInBounds_toArray, List.set_cons_zero, List.set_cons_succ]
        refine wpAnyH_take (i := 1) (v := ?vs0y1) rfl (by kernel_rfl) (by kernel_rfl) (by kernel_rfl) (fun _ _ _ h => h) (Or.inl ⟨by first | kernel_rfl | rfl, ?ys0y1⟩) hHeld ?rs0y1
        case ys0y1 => (intro W hSW; (try dsimp only at hSW); go_simp; (try with_reducible rfl))
        change wpAnyH _ _ _ _ _ _ _ (Act.put _ (some 13) _) _
        simp only [Act.put, List.setIfInBounds_toArray, List.set_cons_zero, List.set_cons_succ]
        refine wpAnyH_take (i := 2) (v := ?vs0y2) rfl (by kernel_rfl) (by kernel_rfl) (by kernel_rfl) (fun _ _ _ h => h) (Or.inl ⟨by first | kernel_rfl | rfl, ?ys0y2⟩) hHeld ?rs0y2
        case ys0y2 => (intro W hSW; (try dsimp only at hSW); go_simp; (try with_reducible rfl))
        change wpAnyH _ _ _ _ _ _ _ (Act.put _ (some 14) _) _
        simp only [Act.put, List.setIfInBounds_toArray, List.set_cons_zero, List.set_cons_succ]
        refine wpAnyH_take (i := 3) (v := ?vs0y3) rfl (by kernel_rfl) (by kernel_rfl) (by kernel_rfl) (fun _ _ _ h => h) (Or.inl ⟨by first | kernel_rfl | rfl, ?ys0y3⟩) hHeld ?rs0y3
        case ys0y3 => (intro W hSW; (try dsimp only at hSW); go_simp; (try with_reducible rfl))
        change wpAnyH _ _ _ _ _ _ _ (Act.put _ (some 15) _) _
        simp only [Act.put, List.setIfInBounds_toArray, List.set_cons_zero, List.set_cons_succ]
        refine wpAnyH_take (i := 4) (v := ?vs0y4) rfl (by kernel_rfl) (by kernel_rfl) (by kernel_rfl) (fun _ _ _ h => h) (Or.inl ⟨by first | kernel_rfl | rfl, ?ys0y4⟩) hHeld ?rs0y4
        case ys0y4 => (intro W hSW; (try dsimp only at hSW); go_simp; (try with_reducible rfl))
        change wpAnyH _ _ _ _ _ _ _ (Act.put _ (some 16) _) _
        simp only [Act.put, List.setIfInBounds_toArray, List.set_cons_zero, List.set_cons_succ]
        refine wpAnyH_take (i := 5) (v := ?vs0y5) rfl (by kernel_rfl) (by kernel_rfl) (by kernel_rfl) (fun _ _ _ h => h) (Or.inl ⟨by first | kernel_rfl | rfl, ?ys0y5⟩) hHeld ?rs0y5
        case ys0y5 => (intro W hSW; (try dsimp only at hSW); go_simp; (try with_reducible rfl))
        change wpAnyH _ _ _ _ _ _ _ (Act.put _ (some 17) _) _
        simp only [Act.put, List.setIfInBounds_toArray, List.set_cons_zero, List.set_cons_succ]
        refine wpAnyH_take (i := 6) (v := ?vs0y6) rfl (by kernel_rfl) (by kernel_rfl) (by kernel_rfl) (fun _ _ _ h => h) (Or.inl ⟨by first | kernel_rfl | rfl, ?ys0y6⟩) hHeld ?rs0y6
        case ys0y6 => (intro W hSW; (try dsimp only at hSW); go_simp; (try with_reducible rfl))
        change wpAnyH _ _ _ _ _ _ _ (Act.put _ (some 18) _) _
        simp only [Act.put, List.setIfInBounds_toArray, List.set_cons_zero, List.set_cons_succ]
        refine wpAnyH_take (i := 7) (v := ?vs0y7) rfl (by kernel_rfl) (by kernel_rfl) (by kernel_rfl) (fun _ _ _ h => h) (Or.inl ⟨by first | kernel_rfl | rfl, ?ys0y7⟩) hHeld ?rs0y7
        case ys0y7 => (intro W hSW; (try dsimp only at hSW); go_simp; (try with_reducible rfl))
        change wpAnyH _ _ _ _ _ _ _ (Act.put _ (some 19) _) _
        simp only [Act.put, List.setIfInBounds_toArray, List.set_cons_zero, List.set_cons_succ]
        refine wpAnyH_take (i := 8) (v := ?vs0y8) rfl (by kernel_rfl) (by kernel_rfl) (by kernel_rfl) (fun _ _ _ h => h) (Or.inl ⟨by first | kernel_rfl | rfl, ?ys0y8⟩) hHeld ?rs0y8
        case ys0y8 => (intro W hSW; (try dsimp only at hSW); go_simp; (try with_reducible rfl))
        change wpAnyH _ _ _ _ _ _ _ (Act.put _ (some 20) _) _
        simp only [Act.put, List.setIfInBounds_toArray, List.set_cons_zero, List.set_cons_succ]
        refine wpAnyH_take (i := 9) (v := ?vs0y9) rfl (by kernel_rfl) (by kernel_rfl) (by kernel_rfl) (fun _ _ _ h => h) (Or.inl ⟨by first | kernel_rfl | rfl, ?ys0y9⟩) hHeld ?rs0y9
        case ys0y9 => (intro W hSW; (try dsimp only at hSW); go_simp; (try with_reducible rfl))
        change wpAnyH _ _ _ _ _ _ _ (Act.put _ (some 21) _) _
        simp only [Act.put, List.setIfInBounds_toArray, List.set_cons_zero, List.set_cons_succ]
        refine wpAnyH_take (i := 10) (v := ?vs0y10) rfl (by kernel_rfl) (by kernel_rfl) (by kernel_rfl) (fun _ _ _ h => h) (Or.inl ⟨by first | kernel_rfl | rfl, ?ys0y10⟩) hHeld ?rs0y10
        case ys0y10 => (intro W hSW; (try dsimp only at hSW); go_simp; (try with_reducible rfl))
        change wpAnyH _ _ _ _ _ _ _ (Act.put _ (some 22) _) _
        simp only [Act.put, List.setIfInBounds_toArray, List.set_cons_zero, List.set_cons_succ]
        refine wpAnyH_take (i := 11) (v := ?vs0y11) rfl (by kernel_rfl) (by kernel_rfl) (by kernel_rfl) (fun _ _ _ h => h) (Or.inl ⟨by first | kernel_rfl | rfl, ?ys0y11⟩) hHeld ?rs0y11
        case ys0y11 => (intro W hSW; (try dsimp only at hSW); go_simp; (try with_reducible rfl))
        change wpAnyH _ _ _ _ _ _ _ (Act.put _ (some 23) _) _
        simp only [Act.put, List.setIfInBounds_toArray, List.set_cons_zero, List.set_cons_succ]
        refine wpAnyH_take (i := 12) (v := ?vs0y12) rfl (by kernel_rfl) (by kernel_rfl) (by kernel_rfl) (fun _ _ _ h => h) (Or.inl ⟨by first | kernel_rfl | rfl, ?ys0y12⟩) hHeld ?rs0y12
        case ys0y12 => (intro W hSW; (try dsimp only at hSW); go_simp; (try with_reducible rfl))
        change wpAnyH _ _ _ _ _ _ _ (Act.put _ (some 24) _) _
        simp only [Act.put, List.setIfInBounds_toArray, List.set_cons_zero, List.set_cons_succ]
        refine wpAnyH_take (i := 13) (v := ?vs0y13) rfl (by kernel_rfl) (by kernel_rfl) (by kernel_rfl) (fun _ _ _ h => h) (Or.inl ⟨by first | kernel_rfl | rfl, ?ys0y13⟩) hHeld ?rs0y13
        case ys0y13 => (intro W hSW; (try dsimp only at hSW); go_simp; (try with_reducible rfl))
        change wpAnyH _ _ _ _ _ _ _ (Act.put _ (some 25) _) _
        simp only [Act.put, List.setIfInBounds_toArray, List.set_cons_zero, List.set_cons_succ]
        refine wpAnyH_ready (rs := [14]) (by kernel_rfl) (by simp) ?_
        refine AllReadyH.cons rfl (fun K hK => ?_) AllReadyH.nil
        go_simp
        refine ((HW.out)).mono ?_
        rintro e V3 ⟨rfl, hm3⟩; have HM3 : Hid (Mut S1 wr.drew g (runS D1 [some (a + 0, T)]) V3) := hm3; clear hm3
        refine hK.out _ _ (by rw [HM3.out.cell HJ.out.lt hnj1]; exact HJ.out.cells.1) (fun hHeld => ?_)
        clear hK K
        try simp only [Act.put, List.setIfInBounds_toArray, List.set_cons_zero, List.set_cons_succ]
        refine wpAnyH_take (i := 15) (v := ?vs0y15) rfl (by kernel_rfl) (by kernel_rfl) (by kernel_rfl) (fun _ _ _ h => h) (Or.inl ⟨by first | kernel_rfl | rfl, ?ys0y15⟩) hHeld ?rs0y15
        case ys0y15 => (intro W hSW; (try dsimp only at hSW); go_simp; (try with_reducible rfl))
        change wpAnyH _ _ _ _ _ _ _ (Act.put _ (some 8) _) _
        simp only [Act.put, List.setIfInBounds_toArray, List.set_cons_zero, List.set_cons_succ]
        refine wpAnyH_done (by kernel_rfl) ?_ _
        have HN : Hid (codeS D (laidL a s) = 10 ∧ Mut S w g (runS D (laidL a s)) V3) := by
          obtain ⟨e1, e2⟩ := HOFF.out
          rw [HAL.out, e1, e2]
          exact ⟨rfl, Mut.trans hu1.out.drew hs1.out HM3.out⟩
        clear hHeld HW HM3
        go_wp2
        go_ret
        refine ⟨ret_int ?_, HN.out.2⟩
        rw [HN.out.1]
        rfl
    · -- 1
      have hsl : ∀ W, (Instr.sliceAt 9 (.string s) (some (.int .i64 256)) (some (.int .i64 512)) none).run Tryz.prog W = .ok (.string (sec s 1)) W := fun W => sslice_mid s 256 512 (by omega) (by omega) W
      have hTs := sec_size s 1 hs (by omega)
      have HTK : Hid ((laidL a s).take 2 = (laidL a s).take 1 ++ [some (a + 1, sec s 1)]) := rfl
      have HAL : Hid (laidL a s = (laidL a s).take 1 ++ ([some (a + 1, sec s 1)] ++ (laidL a s).drop 2)) := rfl
      have HON : Hid (codeS (runS D ((laidL a s).take 1)) [some (a + 1, sec s 1)] = 0 → codeS D ((laidL a s).take 1 ++ [some (a + 1, sec s 1)]) = 0 ∧ runS D ((laidL a s).take 1 ++ [some (a + 1, sec s 1)]) = runS (runS D ((laidL a s).take 1)) [some (a + 1, sec s 1)]) := fun h => run_on hcode h
      have HOFF : Hid (codeS (runS D ((laidL a s).take 1)) [some (a + 1, sec s 1)] = 10 → codeS D ((laidL a s).take 1 ++ ([some (a + 1, sec s 1)] ++ (laidL a s).drop 2)) = 10 ∧ runS D ((laidL a s).take 1 ++ ([some (a + 1, sec s 1)] ++ (laidL a s).drop 2)) = runS (runS D ((laidL a s).take 1)) [some (a + 1, sec s 1)]) := fun h => run_off hcode h
      obtain ⟨D1, hD1⟩ : ∃ D1, runS D ((laidL a s).take 1) = D1 := ⟨_, rfl⟩
      obtain ⟨T, hT⟩ : ∃ T, sec s 1 = T := ⟨_, rfl⟩
      rw [hD1] at hmut hlen1 hwr1
      rw [hD1, hT] at HON HOFF
      rw [hT] at hsl hTs HTK HAL
      obtain ⟨S1, hd1, hu1, hs1⟩ := hmut
      have HJ : Hid (Jat wr.drew jb g n) := (hj.upd hu1 hnj).below (Below.refl _ wr).drew
      have hnj1 : ¬ S1 jb := fun h => (hs1 jb h).elim hnj (fun h => by have := hj.lt; omega)
      have hd1 : Hid (DiskIs wr.drew S1 g D1) := hd1.below (Below.refl _ wr).drew
      have hu1 : Hid (Upd S w wr) := hu1
      have hs1 : Hid (∀ x, S1 x → S x ∨ w.heap.size ≤ x) := hs1
      have hw1 : D1.writes < 1000000 := by omega
      have ka : IntKind.i64.wrap ((a : Int) + 1) = (a : Int) + 1 := wrapI _ (by omega) (by omega)
      have hE : s.extract 256 512 = T := by rw [← hT]; rfl
      have kw0 : IntKind.i64.wrap 256 = 256 := wrapI _ (by omega) (by omega)
      have kw1 : IntKind.i64.wrap 2 = 2 := wrapI _ (by omega) (by omega)
      have kw2 : IntKind.i64.wrap 512 = 512 := wrapI _ (by omega) (by omega)
      clear hT hD1 hcode
      rcases codeS_or D1 [some (a + 1, T)] with hc | hc
      · have HON : Hid _ := HON.out hc
        clear HOFF HAL
        have hc0 : codeS D1 [some (a + 1, T)] = 0 := hc
        have HW : Hid (Calls Tryz.prog 95 #[.pointer (some ⟨g, 0, none⟩), .int .i64 ((a : Int) + 1), .string T] wr.drew fun e w' => e = .returned (.int .i64 0) ∧ Mut S1 wr.drew g (runS D1 [some (a + 1, T)]) w') := by
          have := write_ok hd1.out (a + 1) T (by omega) hTs hw1
          rw [hc0, show ((a + 1 : Nat) : Int) = (a : Int) + 1 by omega] at this
          exact this
        clear hc hc0
        go_wp2
        refine wp_region_held_drew (S := fun V => V.cell? ⟨jb, 0, none⟩ = some (.pointer (some ⟨g, 0, none⟩))) (by kernel_rfl) (HJ.out.cells.1) (fun hHeld => ?_)
        refine wpAnyH_take (i := 0) (v := ?vs1x0) rfl (by kernel_rfl) (by kernel_rfl) (by kernel_rfl) (fun _ _ _ h => h) (Or.inl ⟨by first | kernel_rfl | rfl, ?ys1x0⟩) hHeld ?rs1x0
        case ys1x0 => (intro W hSW; (try dsimp only at hSW); go_simp; (try with_reducible rfl))
        change wpAnyH _ _ _ _ _ _ _ (Act.put _ (some 12) _) _
        simp only [Act.put, List.setIfInBounds_toArray, List.set_cons_zero, List.set_cons_succ]
        refine wpAnyH_take (i := 1) (v := ?vs1x1) rfl (by kernel_rfl) (by kernel_rfl) (by kernel_rfl) (fun _ _ _ h => h) (Or.inl ⟨by first | kernel_rfl | rfl, ?ys1x1⟩) hHeld ?rs1x1
        case ys1x1 => (intro W hSW; (try dsimp only at hSW); go_simp; (try with_reducible rfl))
        change wpAnyH _ _ _ _ _ _ _ (Act.put _ (some 13) _) _
        simp only [Act.put, List.setIfInBounds_toArray, List.set_cons_zero, List.set_cons_succ]
        refine wpAnyH_take (i := 2) (v := ?vs1x2) rfl (by kernel_rfl) (by kernel_rfl) (by kernel_rfl) (fun _ _ _ h => h) (Or.inl ⟨by first | kernel_rfl | rfl, ?ys1x2⟩) hHeld ?rs1x2
        case ys1x2 => (intro W hSW; (try dsimp only at hSW); go_simp; (try with_reducible rfl))
        change wpAnyH _ _ _ _ _ _ _ (Act.put _ (some 14) _) _
        simp only [Act.put, List.setIfInBounds_toArray, List.set_cons_zero, List.set_cons_succ]
        refine wpAnyH_take (i := 3) (v := ?vs1x3) rfl (by kernel_rfl) (by kernel_rfl) (by kernel_rfl) (fun _ _ _ h => h) (Or.inl ⟨by first | kernel_rfl | rfl, ?ys1x3⟩) hHeld ?rs1x3
        case ys1x3 => (intro W hSW; (try dsimp only at hSW); go_simp; (try with_reducible rfl))
        change wpAnyH _ _ _ _ _ _ _ (Act.put _ (some 15) _) _
        simp only [Act.put, List.setIfInBounds_toArray, List.set_cons_zero, List.set_cons_succ]
        refine wpAnyH_take (i := 4) (v := ?vs1x4) rfl (by kernel_rfl) (by kernel_rfl) (by kernel_rfl) (fun _ _ _ h => h) (Or.inl ⟨by first | kernel_rfl | rfl, ?ys1x4⟩) hHeld ?rs1x4
        case ys1x4 => (intro W hSW; (try dsimp only at hSW); go_simp; (try with_reducible rfl))
        change wpAnyH _ _ _ _ _ _ _ (Act.put _ (some 16) _) _
        simp only [Act.put, List.setIfInBounds_toArray, List.set_cons_zero, List.set_cons_succ]
        refine wpAnyH_take (i := 5) (v := ?vs1x5) rfl (by kernel_rfl) (by kernel_rfl) (by kernel_rfl) (fun _ _ _ h => h) (Or.inl ⟨by first | kernel_rfl | rfl, ?ys1x5⟩) hHeld ?rs1x5
        case ys1x5 => (intro W hSW; (try dsimp only at hSW); go_simp; (try with_reducible rfl))
        change wpAnyH _ _ _ _ _ _ _ (Act.put _ (some 17) _) _
        simp only [Act.put, List.setIfInBounds_toArray, List.set_cons_zero, List.set_cons_succ]
        refine wpAnyH_take (i := 6) (v := ?vs1x6) rfl (by kernel_rfl) (by kernel_rfl) (by kernel_rfl) (fun _ _ _ h => h) (Or.inl ⟨by first | kernel_rfl | rfl, ?ys1x6⟩) hHeld ?rs1x6
        case ys1x6 => (intro W hSW; (try dsimp only at hSW); go_simp; (try with_reducible rfl))
        change wpAnyH _ _ _ _ _ _ _ (Act.put _ (some 18) _) _
        simp only [Act.put, List.setIfInBounds_toArray, List.set_cons_zero, List.set_cons_succ]
        refine wpAnyH_take (i := 7) (v := ?vs1x7) rfl (by kernel_rfl) (by kernel_rfl) (by kernel_rfl) (fun _ _ _ h => h) (Or.inl ⟨by first | kernel_rfl | rfl, ?ys1x7⟩) hHeld ?rs1x7
        case ys1x7 => (intro W hSW; (try dsimp only at hSW); go_simp; (try with_reducible rfl))
        change wpAnyH _ _ _ _ _ _ _ (Act.put _ (some 19) _) _
        simp only [Act.put, List.setIfInBounds_toArray, List.set_cons_zero, List.set_cons_succ]
        refine wpAnyH_take (i := 8) (v := ?vs1x8) rfl (by kernel_rfl) (by kernel_rfl) (by kernel_rfl) (fun _ _ _ h => h) (Or.inl ⟨by first | kernel_rfl | rfl, ?ys1x8⟩) hHeld ?rs1x8
        case ys1x8 => (intro W hSW; (try dsimp only at hSW); go_simp; (try with_reducible rfl))
        change wpAnyH _ _ _ _ _ _ _ (Act.put _ (some 20) _) _
        simp only [Act.put, List.setIfInBounds_toArray, List.set_cons_zero, List.set_cons_succ]
        refine wpAnyH_take (i := 9) (v := ?vs1x9) rfl (by kernel_rfl) (by kernel_rfl) (by kernel_rfl) (fun _ _ _ h => h) (Or.inl ⟨by first | kernel_rfl | rfl, ?ys1x9⟩) hHeld ?rs1x9
        case ys1x9 => (intro W hSW; (try dsimp only at hSW); go_simp; (try with_reducible rfl))
        change wpAnyH _ _ _ _ _ _ _ (Act.put _ (some 21) _) _
        simp only [Act.put, List.setIfInBounds_toArray, List.set_cons_zero, List.set_cons_succ]
        refine wpAnyH_take (i := 10) (v := ?vs1x10) rfl (by kernel_rfl) (by kernel_rfl) (by kernel_rfl) (fun _ _ _ h => h) (Or.inl ⟨by first | kernel_rfl | rfl, ?ys1x10⟩) hHeld ?rs1x10
        case ys1x10 => (intro W hSW; (try dsimp only at hSW); go_simp; (try with_reducible rfl))
        change wpAnyH _ _ _ _ _ _ _ (Act.put _ (some 22) _) _
        simp only [Act.put, List.setIfInBounds_toArray, List.set_cons_zero, List.set_cons_succ]
        refine wpAnyH_take (i := 11) (v := ?vs1x11) rfl (by kernel_rfl) (by kernel_rfl) (by kernel_rfl) (fun _ _ _ h => h) (Or.inl ⟨by first | kernel_rfl | rfl, ?ys1x11⟩) hHeld ?rs1x11
        case ys1x11 => (intro W hSW; (try dsimp only at hSW); go_simp; (try with_reducible rfl))
        change wpAnyH _ _ _ _ _ _ _ (Act.put _ (some 23) _) _
        simp only [Act.put, List.setIfInBounds_toArray, List.set_cons_zero, List.set_cons_succ]
        refine wpAnyH_take (i := 12) (v := ?vs1x12) rfl (by kernel_rfl) (by kernel_rfl) (by kernel_rfl) (fun _ _ _ h => h) (Or.inl ⟨by first | kernel_rfl | rfl, ?ys1x12⟩) hHeld ?rs1x12
        case ys1x12 => (intro W hSW; (try dsimp only at hSW); go_simp; (try with_reducible rfl))
        change wpAnyH _ _ _ _ _ _ _ (Act.put _ (some 24) _) _
        simp only [Act.put, List.setIfInBounds_toArray, List.set_cons_zero, List.set_cons_succ]
        refine wpAnyH_take (i := 13) (v := ?vs1x13) rfl (by kernel_rfl) (by kernel_rfl) (by kernel_rfl) (fun _ _ _ h => h) (Or.inl ⟨by first | kernel_rfl | rfl, ?ys1x13⟩) hHeld ?rs1x13
        case ys1x13 => (intro W hSW; (try dsimp only at hSW); go_simp; (try with_reducible rfl))
        change wpAnyH _ _ _ _ _ _ _ (Act.put _ (some 25) _) _
        simp only [Act.put, List.setIfInBounds_toArray, List.set_cons_zero, List.set_cons_succ]
        refine wpAnyH_ready (rs := [14]) (by kernel_rfl) (by simp) ?_
        refine AllReadyH.cons rfl (fun K hK => ?_) AllReadyH.nil
        go_simp
        refine ((HW.out)).mono ?_
        rintro e V3 ⟨rfl, hm3⟩; have HM3 : Hid (Mut S1 wr.drew g (runS D1 [some (a + 1, T)]) V3) := hm3; clear hm3
        refine hK.out _ _ (by rw [HM3.out.cell HJ.out.lt hnj1]; exact HJ.out.cells.1) (fun hHeld => ?_)
        clear hK K
        try simp only [Act.put, List.setIfInBounds_toArray, List.set_cons_zero, List.set_cons_succ]
        refine wpAnyH_take (i := 15) (v := ?vs1x15) rfl (by kernel_rfl) (by kernel_rfl) (by kernel_rfl) (fun _ _ _ h => h) (Or.inl ⟨by first | kernel_rfl | rfl, ?ys1x15⟩) hHeld ?rs1x15
        case ys1x15 => (intro W hSW; (try dsimp only at hSW); go_simp; (try with_reducible rfl))
        change wpAnyH _ _ _ _ _ _ _ (Act.put _ (some 8) _) _
        simp only [Act.put, List.setIfInBounds_toArray, List.set_cons_zero, List.set_cons_succ]
        refine wpAnyH_done (by kernel_rfl) ?_ _
        have HN : Hid (codeS D ((laidL a s).take 2) = 0 ∧ Mut S w g (runS D ((laidL a s).take 2)) V3) := by
          obtain ⟨e1, e2⟩ := HON.out
          rw [HTK.out, e1, e2]
          exact ⟨rfl, Mut.trans hu1.out.drew hs1.out HM3.out⟩
        clear hHeld HW HM3
        go_wp2
        exact ⟨⟨2, by omega, by go_num, HN.out⟩, by simp [intOf]⟩
      · have HOFF : Hid _ := HOFF.out hc
        clear HON HTK
        have hc0 : codeS D1 [some (a + 1, T)] = 10 := hc
        have HW : Hid (Calls Tryz.prog 95 #[.pointer (some ⟨g, 0, none⟩), .int .i64 ((a : Int) + 1), .string T] wr.drew fun e w' => e = .returned (.int .i64 10) ∧ Mut S1 wr.drew g (runS D1 [some (a + 1, T)]) w') := by
          have := write_ok hd1.out (a + 1) T (by omega) hTs hw1
          rw [hc0, show ((a + 1 : Nat) : Int) = (a : Int) + 1 by omega] at this
          exact this
        clear hc hc0
        go_wp2
        refine wp_region_held_drew (S := fun V => V.cell? ⟨jb, 0, none⟩ = some (.pointer (some ⟨g, 0, none⟩))) (by kernel_rfl) (HJ.out.cells.1) (fun hHeld => ?_)
        refine wpAnyH_take (i := 0) (v := ?vs1y0) rfl (by kernel_rfl) (by kernel_rfl) (by kernel_rfl) (fun _ _ _ h => h) (Or.inl ⟨by first | kernel_rfl | rfl, ?ys1y0⟩) hHeld ?rs1y0
        case ys1y0 => (intro W hSW; (try dsimp only at hSW); go_simp; (try with_reducible rfl))
        change wpAnyH _ _ _ _ _ _ _ (Act.put _ (some 12) _) _
        simp only [Act.put, List.setIfInBounds_toArray, List.set_cons_zero, List.set_cons_succ]
        refine wpAnyH_take (i := 1) (v := ?vs1y1) rfl (by kernel_rfl) (by kernel_rfl) (by kernel_rfl) (fun _ _ _ h => h) (Or.inl ⟨by first | kernel_rfl | rfl, ?ys1y1⟩) hHeld ?rs1y1
        case ys1y1 => (intro W hSW; (try dsimp only at hSW); go_simp; (try with_reducible rfl))
        change wpAnyH _ _ _ _ _ _ _ (Act.put _ (some 13) _) _
        simp only [Act.put, List.setIfInBounds_toArray, List.set_cons_zero, List.set_cons_succ]
        refine wpAnyH_take (i := 2) (v := ?vs1y2) rfl (by kernel_rfl) (by kernel_rfl) (by kernel_rfl) (fun _ _ _ h => h) (Or.inl ⟨by first | kernel_rfl | rfl, ?ys1y2⟩) hHeld ?rs1y2
        case ys1y2 => (intro W hSW; (try dsimp only at hSW); go_simp; (try with_reducible rfl))
        change wpAnyH _ _ _ _ _ _ _ (Act.put _ (some 14) _) _
        simp only [Act.put, List.setIfInBounds_toArray, List.set_cons_zero, List.set_cons_succ]
        refine wpAnyH_take (i := 3) (v := ?vs1y3) rfl (by kernel_rfl) (by kernel_rfl) (by kernel_rfl) (fun _ _ _ h => h) (Or.inl ⟨by first | kernel_rfl | rfl, ?ys1y3⟩) hHeld ?rs1y3
        case ys1y3 => (intro W hSW; (try dsimp only at hSW); go_simp; (try with_reducible rfl))
        change wpAnyH _ _ _ _ _ _ _ (Act.put _ (some 15) _) _
        simp only [Act.put, List.setIfInBounds_toArray, List.set_cons_zero, List.set_cons_succ]
        refine wpAnyH_take (i := 4) (v := ?vs1y4) rfl (by kernel_rfl) (by kernel_rfl) (by kernel_rfl) (fun _ _ _ h => h) (Or.inl ⟨by first | kernel_rfl | rfl, ?ys1y4⟩) hHeld ?rs1y4
        case ys1y4 => (intro W hSW; (try dsimp only at hSW); go_simp; (try with_reducible rfl))
        change wpAnyH _ _ _ _ _ _ _ (Act.put _ (some 16) _) _
        simp only [Act.put, List.setIfInBounds_toArray, List.set_cons_zero, List.set_cons_succ]
        refine wpAnyH_take (i := 5) (v := ?vs1y5) rfl (by kernel_rfl) (by kernel_rfl) (by kernel_rfl) (fun _ _ _ h => h) (Or.inl ⟨by first | kernel_rfl | rfl, ?ys1y5⟩) hHeld ?rs1y5
        case ys1y5 => (intro W hSW; (try dsimp only at hSW); go_simp; (try with_reducible rfl))
        change wpAnyH _ _ _ _ _ _ _ (Act.put _ (some 17) _) _
        simp only [Act.put, List.setIfInBounds_toArray, List.set_cons_zero, List.set_cons_succ]
        refine wpAnyH_take (i := 6) (v := ?vs1y6) rfl (by kernel_rfl) (by kernel_rfl) (by kernel_rfl) (fun _ _ _ h => h) (Or.inl ⟨by first | kernel_rfl | rfl, ?ys1y6⟩) hHeld ?rs1y6
        case ys1y6 => (intro W hSW; (try dsimp only at hSW); go_simp; (try with_reducible rfl))
        change wpAnyH _ _ _ _ _ _ _ (Act.put _ (some 18) _) _
        simp only [Act.put, List.setIfInBounds_toArray, List.set_cons_zero, List.set_cons_succ]
        refine wpAnyH_take (i := 7) (v := ?vs1y7) rfl (by kernel_rfl) (by kernel_rfl) (by kernel_rfl) (fun _ _ _ h => h) (Or.inl ⟨by first | kernel_rfl | rfl, ?ys1y7⟩) hHeld ?rs1y7
        case ys1y7 => (intro W hSW; (try dsimp only at hSW); go_simp; (try with_reducible rfl))
        change wpAnyH _ _ _ _ _ _ _ (Act.put _ (some 19) _) _
        simp only [Act.put, List.setIfInBounds_toArray, List.set_cons_zero, List.set_cons_succ]
        refine wpAnyH_take (i := 8) (v := ?vs1y8) rfl (by kernel_rfl) (by kernel_rfl) (by kernel_rfl) (fun _ _ _ h => h) (Or.inl ⟨by first | kernel_rfl | rfl, ?ys1y8⟩) hHeld ?rs1y8
        case ys1y8 => (intro W hSW; (try dsimp only at hSW); go_simp; (try with_reducible rfl))
        change wpAnyH _ _ _ _ _ _ _ (Act.put _ (some 20) _) _
        simp only [Act.put, List.setIfInBounds_toArray, List.set_cons_zero, List.set_cons_succ]
        refine wpAnyH_take (i := 9) (v := ?vs1y9) rfl (by kernel_rfl) (by kernel_rfl) (by kernel_rfl) (fun _ _ _ h => h) (Or.inl ⟨by first | kernel_rfl | rfl, ?ys1y9⟩) hHeld ?rs1y9
        case ys1y9 => (intro W hSW; (try dsimp only at hSW); go_simp; (try with_reducible rfl))
        change wpAnyH _ _ _ _ _ _ _ (Act.put _ (some 21) _) _
        simp only [Act.put, List.setIfInBounds_toArray, List.set_cons_zero, List.set_cons_succ]
        refine wpAnyH_take (i := 10) (v := ?vs1y10) rfl (by kernel_rfl) (by kernel_rfl) (by kernel_rfl) (fun _ _ _ h => h) (Or.inl ⟨by first | kernel_rfl | rfl, ?ys1y10⟩) hHeld ?rs1y10
        case ys1y10 => (intro W hSW; (try dsimp only at hSW); go_simp; (try with_reducible rfl))
        change wpAnyH _ _ _ _ _ _ _ (Act.put _ (some 22) _) _
        simp only [Act.put, List.setIfInBounds_toArray, List.set_cons_zero, List.set_cons_succ]
        refine wpAnyH_take (i := 11) (v := ?vs1y11) rfl (by kernel_rfl) (by kernel_rfl) (by kernel_rfl) (fun _ _ _ h => h) (Or.inl ⟨by first | kernel_rfl | rfl, ?ys1y11⟩) hHeld ?rs1y11
        case ys1y11 => (intro W hSW; (try dsimp only at hSW); go_simp; (try with_reducible rfl))
        change wpAnyH _ _ _ _ _ _ _ (Act.put _ (some 23) _) _
        simp only [Act.put, List.setIfInBounds_toArray, List.set_cons_zero, List.set_cons_succ]
        refine wpAnyH_take (i := 12) (v := ?vs1y12) rfl (by kernel_rfl) (by kernel_rfl) (by kernel_rfl) (fun _ _ _ h => h) (Or.inl ⟨by first | kernel_rfl | rfl, ?ys1y12⟩) hHeld ?rs1y12
        case ys1y12 => (intro W hSW; (try dsimp only at hSW); go_simp; (try with_reducible rfl))
        change wpAnyH _ _ _ _ _ _ _ (Act.put _ (some 24) _) _
        simp only [Act.put, List.setIfInBounds_toArray, List.set_cons_zero, List.set_cons_succ]
        refine wpAnyH_take (i := 13) (v := ?vs1y13) rfl (by kernel_rfl) (by kernel_rfl) (by kernel_rfl) (fun _ _ _ h => h) (Or.inl ⟨by first | kernel_rfl | rfl, ?ys1y13⟩) hHeld ?rs1y13
        case ys1y13 => (intro W hSW; (try dsimp only at hSW); go_simp; (try with_reducible rfl))
        change wpAnyH _ _ _ _ _ _ _ (Act.put _ (some 25) _) _
        simp only [Act.put, List.setIfInBounds_toArray, List.set_cons_zero, List.set_cons_succ]
        refine wpAnyH_ready (rs := [14]) (by kernel_rfl) (by simp) ?_
        refine AllReadyH.cons rfl (fun K hK => ?_) AllReadyH.nil
        go_simp
        refine ((HW.out)).mono ?_
        rintro e V3 ⟨rfl, hm3⟩; have HM3 : Hid (Mut S1 wr.drew g (runS D1 [some (a + 1, T)]) V3) := hm3; clear hm3
        refine hK.out _ _ (by rw [HM3.out.cell HJ.out.lt hnj1]; exact HJ.out.cells.1) (fun hHeld => ?_)
        clear hK K
        try simp only [Act.put, List.setIfInBounds_toArray, List.set_cons_zero, List.set_cons_succ]
        refine wpAnyH_take (i := 15) (v := ?vs1y15) rfl (by kernel_rfl) (by kernel_rfl) (by kernel_rfl) (fun _ _ _ h => h) (Or.inl ⟨by first | kernel_rfl | rfl, ?ys1y15⟩) hHeld ?rs1y15
        case ys1y15 => (intro W hSW; (try dsimp only at hSW); go_simp; (try with_reducible rfl))
        change wpAnyH _ _ _ _ _ _ _ (Act.put _ (some 8) _) _
        simp only [Act.put, List.setIfInBounds_toArray, List.set_cons_zero, List.set_cons_succ]
        refine wpAnyH_done (by kernel_rfl) ?_ _
        have HN : Hid (codeS D (laidL a s) = 10 ∧ Mut S w g (runS D (laidL a s)) V3) := by
          obtain ⟨e1, e2⟩ := HOFF.out
          rw [HAL.out, e1, e2]
          exact ⟨rfl, Mut.trans hu1.out.drew hs1.out HM3.out⟩
        clear hHeld HW HM3
        go_wp2
        go_ret
        refine ⟨ret_int ?_, HN.out.2⟩
        rw [HN.out.1]
        rfl
    · -- 2
      have hsl : ∀ W, (Instr.sliceAt 9 (.string s) (some (.int .i64 512)) (some (.int .i64 768)) none).run Tryz.prog W = .ok (.string (sec s 2)) W := fun W => sslice_mid s 512 768 (by omega) (by omega) W
      have hTs := sec_size s 2 hs (by omega)
      have HTK : Hid ((laidL a s).take 3 = (laidL a s).take 2 ++ [some (a + 2, sec s 2)]) := rfl
      have HAL : Hid (laidL a s = (laidL a s).take 2 ++ ([some (a + 2, sec s 2)] ++ (laidL a s).drop 3)) := rfl
      have HON : Hid (codeS (runS D ((laidL a s).take 2)) [some (a + 2, sec s 2)] = 0 → codeS D ((laidL a s).take 2 ++ [some (a + 2, sec s 2)]) = 0 ∧ runS D ((laidL a s).take 2 ++ [some (a + 2, sec s 2)]) = runS (runS D ((laidL a s).take 2)) [some (a + 2, sec s 2)]) := fun h => run_on hcode h
      have HOFF : Hid (codeS (runS D ((laidL a s).take 2)) [some (a + 2, sec s 2)] = 10 → codeS D ((laidL a s).take 2 ++ ([some (a + 2, sec s 2)] ++ (laidL a s).drop 3)) = 10 ∧ runS D ((laidL a s).take 2 ++ ([some (a + 2, sec s 2)] ++ (laidL a s).drop 3)) = runS (runS D ((laidL a s).take 2)) [some (a + 2, sec s 2)]) := fun h => run_off hcode h
      obtain ⟨D1, hD1⟩ : ∃ D1, runS D ((laidL a s).take 2) = D1 := ⟨_, rfl⟩
      obtain ⟨T, hT⟩ : ∃ T, sec s 2 = T := ⟨_, rfl⟩
      rw [hD1] at hmut hlen1 hwr1
      rw [hD1, hT] at HON HOFF
      rw [hT] at hsl hTs HTK HAL
      obtain ⟨S1, hd1, hu1, hs1⟩ := hmut
      have HJ : Hid (Jat wr.drew jb g n) := (hj.upd hu1 hnj).below (Below.refl _ wr).drew
      have hnj1 : ¬ S1 jb := fun h => (hs1 jb h).elim hnj (fun h => by have := hj.lt; omega)
      have hd1 : Hid (DiskIs wr.drew S1 g D1) := hd1.below (Below.refl _ wr).drew
      have hu1 : Hid (Upd S w wr) := hu1
      have hs1 : Hid (∀ x, S1 x → S x ∨ w.heap.size ≤ x) := hs1
      have hw1 : D1.writes < 1000000 := by omega
      have ka : IntKind.i64.wrap ((a : Int) + 2) = (a : Int) + 2 := wrapI _ (by omega) (by omega)
      have hE : s.extract 512 768 = T := by rw [← hT]; rfl
      have kw0 : IntKind.i64.wrap 512 = 512 := wrapI _ (by omega) (by omega)
      have kw1 : IntKind.i64.wrap 3 = 3 := wrapI _ (by omega) (by omega)
      have kw2 : IntKind.i64.wrap 768 = 768 := wrapI _ (by omega) (by omega)
      clear hT hD1 hcode
      rcases codeS_or D1 [some (a + 2, T)] with hc | hc
      · have HON : Hid _ := HON.out hc
        clear HOFF HAL
        have hc0 : codeS D1 [some (a + 2, T)] = 0 := hc
        have HW : Hid (Calls Tryz.prog 95 #[.pointer (some ⟨g, 0, none⟩), .int .i64 ((a : Int) + 2), .string T] wr.drew fun e w' => e = .returned (.int .i64 0) ∧ Mut S1 wr.drew g (runS D1 [some (a + 2, T)]) w') := by
          have := write_ok hd1.out (a + 2) T (by omega) hTs hw1
          rw [hc0, show ((a + 2 : Nat) : Int) = (a : Int) + 2 by omega] at this
          exact this
        clear hc hc0
        go_wp2
        refine wp_region_held_drew (S := fun V => V.cell? ⟨jb, 0, none⟩ = some (.pointer (some ⟨g, 0, none⟩))) (by kernel_rfl) (HJ.out.cells.1) (fun hHeld => ?_)
        refine wpAnyH_take (i := 0) (v := ?vs2x0) rfl (by kernel_rfl) (by kernel_rfl) (by kernel_rfl) (fun _ _ _ h => h) (Or.inl ⟨by first | kernel_rfl | rfl, ?ys2x0⟩) hHeld ?rs2x0
        case ys2x0 => (intro W hSW; (try dsimp only at hSW); go_simp; (try with_reducible rfl))
        change wpAnyH _ _ _ _ _ _ _ (Act.put _ (some 12) _) _
        simp only [Act.put, List.setIfInBounds_toArray, List.set_cons_zero, List.set_cons_succ]
        refine wpAnyH_take (i := 1) (v := ?vs2x1) rfl (by kernel_rfl) (by kernel_rfl) (by kernel_rfl) (fun _ _ _ h => h) (Or.inl ⟨by first | kernel_rfl | rfl, ?ys2x1⟩) hHeld ?rs2x1
        case ys2x1 => (intro W hSW; (try dsimp only at hSW); go_simp; (try with_reducible rfl))
        change wpAnyH _ _ _ _ _ _ _ (Act.put _ (some 13) _) _
        simp only [Act.put, List.setIfInBounds_toArray, List.set_cons_zero, List.set_cons_succ]
        refine wpAnyH_take (i := 2) (v := ?vs2x2) rfl (by kernel_rfl) (by kernel_rfl) (by kernel_rfl) (fun _ _ _ h => h) (Or.inl ⟨by first | kernel_rfl | rfl, ?ys2x2⟩) hHeld ?rs2x2
        case ys2x2 => (intro W hSW; (try dsimp only at hSW); go_simp; (try with_reducible rfl))
        change wpAnyH _ _ _ _ _ _ _ (Act.put _ (some 14) _) _
        simp only [Act.put, List.setIfInBounds_toArray, List.set_cons_zero, List.set_cons_succ]
        refine wpAnyH_take (i := 3) (v := ?vs2x3) rfl (by kernel_rfl) (by kernel_rfl) (by kernel_rfl) (fun _ _ _ h => h) (Or.inl ⟨by first | kernel_rfl | rfl, ?ys2x3⟩) hHeld ?rs2x3
        case ys2x3 => (intro W hSW; (try dsimp only at hSW); go_simp; (try with_reducible rfl))
        change wpAnyH _ _ _ _ _ _ _ (Act.put _ (some 15) _) _
        simp only [Act.put, List.setIfInBounds_toArray, List.set_cons_zero, List.set_cons_succ]
        refine wpAnyH_take (i := 4) (v := ?vs2x4) rfl (by kernel_rfl) (by kernel_rfl) (by kernel_rfl) (fun _ _ _ h => h) (Or.inl ⟨by first | kernel_rfl | rfl, ?ys2x4⟩) hHeld ?rs2x4
        case ys2x4 => (intro W hSW; (try dsimp only at hSW); go_simp; (try with_reducible rfl))
        change wpAnyH _ _ _ _ _ _ _ (Act.put _ (some 16) _) _
        simp only [Act.put, List.setIfInBounds_toArray, List.set_cons_zero, List.set_cons_succ]
        refine wpAnyH_take (i := 5) (v := ?vs2x5) rfl (by kernel_rfl) (by kernel_rfl) (by kernel_rfl) (fun _ _ _ h => h) (Or.inl ⟨by first | kernel_rfl | rfl, ?ys2x5⟩) hHeld ?rs2x5
        case ys2x5 => (intro W hSW; (try dsimp only at hSW); go_simp; (try with_reducible rfl))
        change wpAnyH _ _ _ _ _ _ _ (Act.put _ (some 17) _) _
        simp only [Act.put, List.setIfInBounds_toArray, List.set_cons_zero, List.set_cons_succ]
        refine wpAnyH_take (i := 6) (v := ?vs2x6) rfl (by kernel_rfl) (by kernel_rfl) (by kernel_rfl) (fun _ _ _ h => h) (Or.inl ⟨by first | kernel_rfl | rfl, ?ys2x6⟩) hHeld ?rs2x6
        case ys2x6 => (intro W hSW; (try dsimp only at hSW); go_simp; (try with_reducible rfl))
        change wpAnyH _ _ _ _ _ _ _ (Act.put _ (some 18) _) _
        simp only [Act.put, List.setIfInBounds_toArray, List.set_cons_zero, List.set_cons_succ]
        refine wpAnyH_take (i := 7) (v := ?vs2x7) rfl (by kernel_rfl) (by kernel_rfl) (by kernel_rfl) (fun _ _ _ h => h) (Or.inl ⟨by first | kernel_rfl | rfl, ?ys2x7⟩) hHeld ?rs2x7
        case ys2x7 => (intro W hSW; (try dsimp only at hSW); go_simp; (try with_reducible rfl))
        change wpAnyH _ _ _ _ _ _ _ (Act.put _ (some 19) _) _
        simp only [Act.put, List.setIfInBounds_toArray, List.set_cons_zero, List.set_cons_succ]
        refine wpAnyH_take (i := 8) (v := ?vs2x8) rfl (by kernel_rfl) (by kernel_rfl) (by kernel_rfl) (fun _ _ _ h => h) (Or.inl ⟨by first | kernel_rfl | rfl, ?ys2x8⟩) hHeld ?rs2x8
        case ys2x8 => (intro W hSW; (try dsimp only at hSW); go_simp; (try with_reducible rfl))
        change wpAnyH _ _ _ _ _ _ _ (Act.put _ (some 20) _) _
        simp only [Act.put, List.setIfInBounds_toArray, List.set_cons_zero, List.set_cons_succ]
        refine wpAnyH_take (i := 9) (v := ?vs2x9) rfl (by kernel_rfl) (by kernel_rfl) (by kernel_rfl) (fun _ _ _ h => h) (Or.inl ⟨by first | kernel_rfl | rfl, ?ys2x9⟩) hHeld ?rs2x9
        case ys2x9 => (intro W hSW; (try dsimp only at hSW); go_simp; (try with_reducible rfl))
        change wpAnyH _ _ _ _ _ _ _ (Act.put _ (some 21) _) _
        simp only [Act.put, List.setIfInBounds_toArray, List.set_cons_zero, List.set_cons_succ]
        refine wpAnyH_take (i := 10) (v := ?vs2x10) rfl (by kernel_rfl) (by kernel_rfl) (by kernel_rfl) (fun _ _ _ h => h) (Or.inl ⟨by first | kernel_rfl | rfl, ?ys2x10⟩) hHeld ?rs2x10
        case ys2x10 => (intro W hSW; (try dsimp only at hSW); go_simp; (try with_reducible rfl))
        change wpAnyH _ _ _ _ _ _ _ (Act.put _ (some 22) _) _
        simp only [Act.put, List.setIfInBounds_toArray, List.set_cons_zero, List.set_cons_succ]
        refine wpAnyH_take (i := 11) (v := ?vs2x11) rfl (by kernel_rfl) (by kernel_rfl) (by kernel_rfl) (fun _ _ _ h => h) (Or.inl ⟨by first | kernel_rfl | rfl, ?ys2x11⟩) hHeld ?rs2x11
        case ys2x11 => (intro W hSW; (try dsimp only at hSW); go_simp; (try with_reducible rfl))
        change wpAnyH _ _ _ _ _ _ _ (Act.put _ (some 23) _) _
        simp only [Act.put, List.setIfInBounds_toArray, List.set_cons_zero, List.set_cons_succ]
        refine wpAnyH_take (i := 12) (v := ?vs2x12) rfl (by kernel_rfl) (by kernel_rfl) (by kernel_rfl) (fun _ _ _ h => h) (Or.inl ⟨by first | kernel_rfl | rfl, ?ys2x12⟩) hHeld ?rs2x12
        case ys2x12 => (intro W hSW; (try dsimp only at hSW); go_simp; (try with_reducible rfl))
        change wpAnyH _ _ _ _ _ _ _ (Act.put _ (some 24) _) _
        simp only [Act.put, List.setIfInBounds_toArray, List.set_cons_zero, List.set_cons_succ]
        refine wpAnyH_take (i := 13) (v := ?vs2x13) rfl (by kernel_rfl) (by kernel_rfl) (by kernel_rfl) (fun _ _ _ h => h) (Or.inl ⟨by first | kernel_rfl | rfl, ?ys2x13⟩) hHeld ?rs2x13
        case ys2x13 => (intro W hSW; (try dsimp only at hSW); go_simp; (try with_reducible rfl))
        change wpAnyH _ _ _ _ _ _ _ (Act.put _ (some 25) _) _
        simp only [Act.put, List.setIfInBounds_toArray, List.set_cons_zero, List.set_cons_succ]
        refine wpAnyH_ready (rs := [14]) (by kernel_rfl) (by simp) ?_
        refine AllReadyH.cons rfl (fun K hK => ?_) AllReadyH.nil
        go_simp
        refine ((HW.out)).mono ?_
        rintro e V3 ⟨rfl, hm3⟩; have HM3 : Hid (Mut S1 wr.drew g (runS D1 [some (a + 2, T)]) V3) := hm3; clear hm3
        refine hK.out _ _ (by rw [HM3.out.cell HJ.out.lt hnj1]; exact HJ.out.cells.1) (fun hHeld => ?_)
        clear hK K
        try simp only [Act.put, List.setIfInBounds_toArray, List.set_cons_zero, List.set_cons_succ]
        refine wpAnyH_take (i := 15) (v := ?vs2x15) rfl (by kernel_rfl) (by kernel_rfl) (by kernel_rfl) (fun _ _ _ h => h) (Or.inl ⟨by first | kernel_rfl | rfl, ?ys2x15⟩) hHeld ?rs2x15
        case ys2x15 => (intro W hSW; (try dsimp only at hSW); go_simp; (try with_reducible rfl))
        change wpAnyH _ _ _ _ _ _ _ (Act.put _ (some 8) _) _
        simp only [Act.put, List.setIfInBounds_toArray, List.set_cons_zero, List.set_cons_succ]
        refine wpAnyH_done (by kernel_rfl) ?_ _
        have HN : Hid (codeS D ((laidL a s).take 3) = 0 ∧ Mut S w g (runS D ((laidL a s).take 3)) V3) := by
          obtain ⟨e1, e2⟩ := HON.out
          rw [HTK.out, e1, e2]
          exact ⟨rfl, Mut.trans hu1.out.drew hs1.out HM3.out⟩
        clear hHeld HW HM3
        go_wp2
        exact ⟨⟨3, by omega, by go_num, HN.out⟩, by simp [intOf]⟩
      · have HOFF : Hid _ := HOFF.out hc
        clear HON HTK
        have hc0 : codeS D1 [some (a + 2, T)] = 10 := hc
        have HW : Hid (Calls Tryz.prog 95 #[.pointer (some ⟨g, 0, none⟩), .int .i64 ((a : Int) + 2), .string T] wr.drew fun e w' => e = .returned (.int .i64 10) ∧ Mut S1 wr.drew g (runS D1 [some (a + 2, T)]) w') := by
          have := write_ok hd1.out (a + 2) T (by omega) hTs hw1
          rw [hc0, show ((a + 2 : Nat) : Int) = (a : Int) + 2 by omega] at this
          exact this
        clear hc hc0
        go_wp2
        refine wp_region_held_drew (S := fun V => V.cell? ⟨jb, 0, none⟩ = some (.pointer (some ⟨g, 0, none⟩))) (by kernel_rfl) (HJ.out.cells.1) (fun hHeld => ?_)
        refine wpAnyH_take (i := 0) (v := ?vs2y0) rfl (by kernel_rfl) (by kernel_rfl) (by kernel_rfl) (fun _ _ _ h => h) (Or.inl ⟨by first | kernel_rfl | rfl, ?ys2y0⟩) hHeld ?rs2y0
        case ys2y0 => (intro W hSW; (try dsimp only at hSW); go_simp; (try with_reducible rfl))
        change wpAnyH _ _ _ _ _ _ _ (Act.put _ (some 12) _) _
        simp only [Act.put, List.setIfInBounds_toArray, List.set_cons_zero, List.set_cons_succ]
        refine wpAnyH_take (i := 1) (v := ?vs2y1) rfl (by kernel_rfl) (by kernel_rfl) (by kernel_rfl) (fun _ _ _ h => h) (Or.inl ⟨by first | kernel_rfl | rfl, ?ys2y1⟩) hHeld ?rs2y1
        case ys2y1 => (intro W hSW; (try dsimp only at hSW); go_simp; (try with_reducible rfl))
        change wpAnyH _ _ _ _ _ _ _ (Act.put _ (some 13) _) _
        simp only [Act.put, List.setIfInBounds_toArray, List.set_cons_zero, List.set_cons_succ]
        refine wpAnyH_take (i := 2) (v := ?vs2y2) rfl (by kernel_rfl) (by kernel_rfl) (by kernel_rfl) (fun _ _ _ h => h) (Or.inl ⟨by first | kernel_rfl | rfl, ?ys2y2⟩) hHeld ?rs2y2
        case ys2y2 => (intro W hSW; (try dsimp only at hSW); go_simp; (try with_reducible rfl))
        change wpAnyH _ _ _ _ _ _ _ (Act.put _ (some 14) _) _
        simp only [Act.put, List.setIfInBounds_toArray, List.set_cons_zero, List.set_cons_succ]
        refine wpAnyH_take (i := 3) (v := ?vs2y3) rfl (by kernel_rfl) (by kernel_rfl) (by kernel_rfl) (fun _ _ _ h => h) (Or.inl ⟨by first | kernel_rfl | rfl, ?ys2y3⟩) hHeld ?rs2y3
        case ys2y3 => (intro W hSW; (try dsimp only at hSW); go_simp; (try with_reducible rfl))
        change wpAnyH _ _ _ _ _ _ _ (Act.put _ (some 15) _) _
        simp only [Act.put, List.setIfInBounds_toArray, List.set_cons_zero, List.set_cons_succ]
        refine wpAnyH_take (i := 4) (v := ?vs2y4) rfl (by kernel_rfl) (by kernel_rfl) (by kernel_rfl) (fun _ _ _ h => h) (Or.inl ⟨by first | kernel_rfl | rfl, ?ys2y4⟩) hHeld ?rs2y4
        case ys2y4 => (intro W hSW; (try dsimp only at hSW); go_simp; (try with_reducible rfl))
        change wpAnyH _ _ _ _ _ _ _ (Act.put _ (some 16) _) _
        simp only [Act.put, List.setIfInBounds_toArray, List.set_cons_zero, List.set_cons_succ]
        refine wpAnyH_take (i := 5) (v := ?vs2y5) rfl (by kernel_rfl) (by kernel_rfl) (by kernel_rfl) (fun _ _ _ h => h) (Or.inl ⟨by first | kernel_rfl | rfl, ?ys2y5⟩) hHeld ?rs2y5
        case ys2y5 => (intro W hSW; (try dsimp only at hSW); go_simp; (try with_reducible rfl))
        change wpAnyH _ _ _ _ _ _ _ (Act.put _ (some 17) _) _
        simp only [Act.put, List.setIfInBounds_toArray, List.set_cons_zero, List.set_cons_succ]
        refine wpAnyH_take (i := 6) (v := ?vs2y6) rfl (by kernel_rfl) (by kernel_rfl) (by kernel_rfl) (fun _ _ _ h => h) (Or.inl ⟨by first | kernel_rfl | rfl, ?ys2y6⟩) hHeld ?rs2y6
        case ys2y6 => (intro W hSW; (try dsimp only at hSW); go_simp; (try with_reducible rfl))
        change wpAnyH _ _ _ _ _ _ _ (Act.put _ (some 18) _) _
        simp only [Act.put, List.setIfInBounds_toArray, List.set_cons_zero, List.set_cons_succ]
        refine wpAnyH_take (i := 7) (v := ?vs2y7) rfl (by kernel_rfl) (by kernel_rfl) (by kernel_rfl) (fun _ _ _ h => h) (Or.inl ⟨by first | kernel_rfl | rfl, ?ys2y7⟩) hHeld ?rs2y7
        case ys2y7 => (intro W hSW; (try dsimp only at hSW); go_simp; (try with_reducible rfl))
        change wpAnyH _ _ _ _ _ _ _ (Act.put _ (some 19) _) _
        simp only [Act.put, List.setIfInBounds_toArray, List.set_cons_zero, List.set_cons_succ]
        refine wpAnyH_take (i := 8) (v := ?vs2y8) rfl (by kernel_rfl) (by kernel_rfl) (by kernel_rfl) (fun _ _ _ h => h) (Or.inl ⟨by first | kernel_rfl | rfl, ?ys2y8⟩) hHeld ?rs2y8
        case ys2y8 => (intro W hSW; (try dsimp only at hSW); go_simp; (try with_reducible rfl))
        change wpAnyH _ _ _ _ _ _ _ (Act.put _ (some 20) _) _
        simp only [Act.put, List.setIfInBounds_toArray, List.set_cons_zero, List.set_cons_succ]
        refine wpAnyH_take (i := 9) (v := ?vs2y9) rfl (by kernel_rfl) (by kernel_rfl) (by kernel_rfl) (fun _ _ _ h => h) (Or.inl ⟨by first | kernel_rfl | rfl, ?ys2y9⟩) hHeld ?rs2y9
        case ys2y9 => (intro W hSW; (try dsimp only at hSW); go_simp; (try with_reducible rfl))
        change wpAnyH _ _ _ _ _ _ _ (Act.put _ (some 21) _) _
        simp only [Act.put, List.setIfInBounds_toArray, List.set_cons_zero, List.set_cons_succ]
        refine wpAnyH_take (i := 10) (v := ?vs2y10) rfl (by kernel_rfl) (by kernel_rfl) (by kernel_rfl) (fun _ _ _ h => h) (Or.inl ⟨by first | kernel_rfl | rfl, ?ys2y10⟩) hHeld ?rs2y10
        case ys2y10 => (intro W hSW; (try dsimp only at hSW); go_simp; (try with_reducible rfl))
        change wpAnyH _ _ _ _ _ _ _ (Act.put _ (some 22) _) _
        simp only [Act.put, List.setIfInBounds_toArray, List.set_cons_zero, List.set_cons_succ]
        refine wpAnyH_take (i := 11) (v := ?vs2y11) rfl (by kernel_rfl) (by kernel_rfl) (by kernel_rfl) (fun _ _ _ h => h) (Or.inl ⟨by first | kernel_rfl | rfl, ?ys2y11⟩) hHeld ?rs2y11
        case ys2y11 => (intro W hSW; (try dsimp only at hSW); go_simp; (try with_reducible rfl))
        change wpAnyH _ _ _ _ _ _ _ (Act.put _ (some 23) _) _
        simp only [Act.put, List.setIfInBounds_toArray, List.set_cons_zero, List.set_cons_succ]
        refine wpAnyH_take (i := 12) (v := ?vs2y12) rfl (by kernel_rfl) (by kernel_rfl) (by kernel_rfl) (fun _ _ _ h => h) (Or.inl ⟨by first | kernel_rfl | rfl, ?ys2y12⟩) hHeld ?rs2y12
        case ys2y12 => (intro W hSW; (try dsimp only at hSW); go_simp; (try with_reducible rfl))
        change wpAnyH _ _ _ _ _ _ _ (Act.put _ (some 24) _) _
        simp only [Act.put, List.setIfInBounds_toArray, List.set_cons_zero, List.set_cons_succ]
        refine wpAnyH_take (i := 13) (v := ?vs2y13) rfl (by kernel_rfl) (by kernel_rfl) (by kernel_rfl) (fun _ _ _ h => h) (Or.inl ⟨by first | kernel_rfl | rfl, ?ys2y13⟩) hHeld ?rs2y13
        case ys2y13 => (intro W hSW; (try dsimp only at hSW); go_simp; (try with_reducible rfl))
        change wpAnyH _ _ _ _ _ _ _ (Act.put _ (some 25) _) _
        simp only [Act.put, List.setIfInBounds_toArray, List.set_cons_zero, List.set_cons_succ]
        refine wpAnyH_ready (rs := [14]) (by kernel_rfl) (by simp) ?_
        refine AllReadyH.cons rfl (fun K hK => ?_) AllReadyH.nil
        go_simp
        refine ((HW.out)).mono ?_
        rintro e V3 ⟨rfl, hm3⟩; have HM3 : Hid (Mut S1 wr.drew g (runS D1 [some (a + 2, T)]) V3) := hm3; clear hm3
        refine hK.out _ _ (by rw [HM3.out.cell HJ.out.lt hnj1]; exact HJ.out.cells.1) (fun hHeld => ?_)
        clear hK K
        try simp only [Act.put, List.setIfInBounds_toArray, List.set_cons_zero, List.set_cons_succ]
        refine wpAnyH_take (i := 15) (v := ?vs2y15) rfl (by kernel_rfl) (by kernel_rfl) (by kernel_rfl) (fun _ _ _ h => h) (Or.inl ⟨by first | kernel_rfl | rfl, ?ys2y15⟩) hHeld ?rs2y15
        case ys2y15 => (intro W hSW; (try dsimp only at hSW); go_simp; (try with_reducible rfl))
        change wpAnyH _ _ _ _ _ _ _ (Act.put _ (some 8) _) _
        simp only [Act.put, List.setIfInBounds_toArray, List.set_cons_zero, List.set_cons_succ]
        refine wpAnyH_done (by kernel_rfl) ?_ _
        have HN : Hid (codeS D (laidL a s) = 10 ∧ Mut S w g (runS D (laidL a s)) V3) := by
          obtain ⟨e1, e2⟩ := HOFF.out
          rw [HAL.out, e1, e2]
          exact ⟨rfl, Mut.trans hu1.out.drew hs1.out HM3.out⟩
        clear hHeld HW HM3
        go_wp2
        go_ret
        refine ⟨ret_int ?_, HN.out.2⟩
        rw [HN.out.1]
        rfl
    · -- 3
      have hsl : ∀ W, (Instr.sliceAt 9 (.string s) (some (.int .i64 768)) (some (.int .i64 1024)) none).run Tryz.prog W = .ok (.string (sec s 3)) W := fun W => sslice_mid s 768 1024 (by omega) (by omega) W
      have hTs := sec_size s 3 hs (by omega)
      have HTK : Hid ((laidL a s).take 4 = (laidL a s).take 3 ++ [some (a + 3, sec s 3)]) := rfl
      have HAL : Hid (laidL a s = (laidL a s).take 3 ++ ([some (a + 3, sec s 3)] ++ (laidL a s).drop 4)) := rfl
      have HON : Hid (codeS (runS D ((laidL a s).take 3)) [some (a + 3, sec s 3)] = 0 → codeS D ((laidL a s).take 3 ++ [some (a + 3, sec s 3)]) = 0 ∧ runS D ((laidL a s).take 3 ++ [some (a + 3, sec s 3)]) = runS (runS D ((laidL a s).take 3)) [some (a + 3, sec s 3)]) := fun h => run_on hcode h
      have HOFF : Hid (codeS (runS D ((laidL a s).take 3)) [some (a + 3, sec s 3)] = 10 → codeS D ((laidL a s).take 3 ++ ([some (a + 3, sec s 3)] ++ (laidL a s).drop 4)) = 10 ∧ runS D ((laidL a s).take 3 ++ ([some (a + 3, sec s 3)] ++ (laidL a s).drop 4)) = runS (runS D ((laidL a s).take 3)) [some (a + 3, sec s 3)]) := fun h => run_off hcode h
      obtain ⟨D1, hD1⟩ : ∃ D1, runS D ((laidL a s).take 3) = D1 := ⟨_, rfl⟩
      obtain ⟨T, hT⟩ : ∃ T, sec s 3 = T := ⟨_, rfl⟩
      rw [hD1] at hmut hlen1 hwr1
      rw [hD1, hT] at HON HOFF
      rw [hT] at hsl hTs HTK HAL
      obtain ⟨S1, hd1, hu1, hs1⟩ := hmut
      have HJ : Hid (Jat wr.drew jb g n) := (hj.upd hu1 hnj).below (Below.refl _ wr).drew
      have hnj1 : ¬ S1 jb := fun h => (hs1 jb h).elim hnj (fun h => by have := hj.lt; omega)
      have hd1 : Hid (DiskIs wr.drew S1 g D1) := hd1.below (Below.refl _ wr).drew
      have hu1 : Hid (Upd S w wr) := hu1
      have hs1 : Hid (∀ x, S1 x → S x ∨ w.heap.size ≤ x) := hs1
      have hw1 : D1.writes < 1000000 := by omega
      have ka : IntKind.i64.wrap ((a : Int) + 3) = (a : Int) + 3 := wrapI _ (by omega) (by omega)
      have hE : s.extract 768 1024 = T := by rw [← hT]; rfl
      have kw0 : IntKind.i64.wrap 768 = 768 := wrapI _ (by omega) (by omega)
      have kw1 : IntKind.i64.wrap 4 = 4 := wrapI _ (by omega) (by omega)
      have kw2 : IntKind.i64.wrap 1024 = 1024 := wrapI _ (by omega) (by omega)
      clear hT hD1 hcode
      rcases codeS_or D1 [some (a + 3, T)] with hc | hc
      · have HON : Hid _ := HON.out hc
        clear HOFF HAL
        have hc0 : codeS D1 [some (a + 3, T)] = 0 := hc
        have HW : Hid (Calls Tryz.prog 95 #[.pointer (some ⟨g, 0, none⟩), .int .i64 ((a : Int) + 3), .string T] wr.drew fun e w' => e = .returned (.int .i64 0) ∧ Mut S1 wr.drew g (runS D1 [some (a + 3, T)]) w') := by
          have := write_ok hd1.out (a + 3) T (by omega) hTs hw1
          rw [hc0, show ((a + 3 : Nat) : Int) = (a : Int) + 3 by omega] at this
          exact this
        clear hc hc0
        go_wp2
        refine wp_region_held_drew (S := fun V => V.cell? ⟨jb, 0, none⟩ = some (.pointer (some ⟨g, 0, none⟩))) (by kernel_rfl) (HJ.out.cells.1) (fun hHeld => ?_)
        refine wpAnyH_take (i := 0) (v := ?vs3x0) rfl (by kernel_rfl) (by kernel_rfl) (by kernel_rfl) (fun _ _ _ h => h) (Or.inl ⟨by first | kernel_rfl | rfl, ?ys3x0⟩) hHeld ?rs3x0
        case ys3x0 => (intro W hSW; (try dsimp only at hSW); go_simp; (try with_reducible rfl))
        change wpAnyH _ _ _ _ _ _ _ (Act.put _ (some 12) _) _
        simp only [Act.put, List.setIfInBounds_toArray, List.set_cons_zero, List.set_cons_succ]
        refine wpAnyH_take (i := 1) (v := ?vs3x1) rfl (by kernel_rfl) (by kernel_rfl) (by kernel_rfl) (fun _ _ _ h => h) (Or.inl ⟨by first | kernel_rfl | rfl, ?ys3x1⟩) hHeld ?rs3x1
        case ys3x1 => (intro W hSW; (try dsimp only at hSW); go_simp; (try with_reducible rfl))
        change wpAnyH _ _ _ _ _ _ _ (Act.put _ (some 13) _) _
        simp only [Act.put, List.setIfInBounds_toArray, List.set_cons_zero, List.set_cons_succ]
        refine wpAnyH_take (i := 2) (v := ?vs3x2) rfl (by kernel_rfl) (by kernel_rfl) (by kernel_rfl) (fun _ _ _ h => h) (Or.inl ⟨by first | kernel_rfl | rfl, ?ys3x2⟩) hHeld ?rs3x2
        case ys3x2 => (intro W hSW; (try dsimp only at hSW); go_simp; (try with_reducible rfl))
        change wpAnyH _ _ _ _ _ _ _ (Act.put _ (some 14) _) _
        simp only [Act.put, List.setIfInBounds_toArray, List.set_cons_zero, List.set_cons_succ]
        refine wpAnyH_take (i := 3) (v := ?vs3x3) rfl (by kernel_rfl) (by kernel_rfl) (by kernel_rfl) (fun _ _ _ h => h) (Or.inl ⟨by first | kernel_rfl | rfl, ?ys3x3⟩) hHeld ?rs3x3
        case ys3x3 => (intro W hSW; (try dsimp only at hSW); go_simp; (try with_reducible rfl))
        change wpAnyH _ _ _ _ _ _ _ (Act.put _ (some 15) _) _
        simp only [Act.put, List.setIfInBounds_toArray, List.set_cons_zero, List.set_cons_succ]
        refine wpAnyH_take (i := 4) (v := ?vs3x4) rfl (by kernel_rfl) (by kernel_rfl) (by kernel_rfl) (fun _ _ _ h => h) (Or.inl ⟨by first | kernel_rfl | rfl, ?ys3x4⟩) hHeld ?rs3x4
        case ys3x4 => (intro W hSW; (try dsimp only at hSW); go_simp; (try with_reducible rfl))
        change wpAnyH _ _ _ _ _ _ _ (Act.put _ (some 16) _) _
        simp only [Act.put, List.setIfInBounds_toArray, List.set_cons_zero, List.set_cons_succ]
        refine wpAnyH_take (i := 5) (v := ?vs3x5) rfl (by kernel_rfl) (by kernel_rfl) (by kernel_rfl) (fun _ _ _ h => h) (Or.inl ⟨by first | kernel_rfl | rfl, ?ys3x5⟩) hHeld ?rs3x5
        case ys3x5 => (intro W hSW; (try dsimp only at hSW); go_simp; (try with_reducible rfl))
        change wpAnyH _ _ _ _ _ _ _ (Act.put _ (some 17) _) _
        simp only [Act.put, List.setIfInBounds_toArray, List.set_cons_zero, List.set_cons_succ]
        refine wpAnyH_take (i := 6) (v := ?vs3x6) rfl (by kernel_rfl) (by kernel_rfl) (by kernel_rfl) (fun _ _ _ h => h) (Or.inl ⟨by first | kernel_rfl | rfl, ?ys3x6⟩) hHeld ?rs3x6
        case ys3x6 => (intro W hSW; (try dsimp only at hSW); go_simp; (try with_reducible rfl))
        change wpAnyH _ _ _ _ _ _ _ (Act.put _ (some 18) _) _
        simp only [Act.put, List.setIfInBounds_toArray, List.set_cons_zero, List.set_cons_succ]
        refine wpAnyH_take (i := 7) (v := ?vs3x7) rfl (by kernel_rfl) (by kernel_rfl) (by kernel_rfl) (fun _ _ _ h => h) (Or.inl ⟨by first | kernel_rfl | rfl, ?ys3x7⟩) hHeld ?rs3x7
        case ys3x7 => (intro W hSW; (try dsimp only at hSW); go_simp; (try with_reducible rfl))
        change wpAnyH _ _ _ _ _ _ _ (Act.put _ (some 19) _) _
        simp only [Act.put, List.setIfInBounds_toArray, List.set_cons_zero, List.set_cons_succ]
        refine wpAnyH_take (i := 8) (v := ?vs3x8) rfl (by kernel_rfl) (by kernel_rfl) (by kernel_rfl) (fun _ _ _ h => h) (Or.inl ⟨by first | kernel_rfl | rfl, ?ys3x8⟩) hHeld ?rs3x8
        case ys3x8 => (intro W hSW; (try dsimp only at hSW); go_simp; (try with_reducible rfl))
        change wpAnyH _ _ _ _ _ _ _ (Act.put _ (some 20) _) _
        simp only [Act.put, List.setIfInBounds_toArray, List.set_cons_zero, List.set_cons_succ]
        refine wpAnyH_take (i := 9) (v := ?vs3x9) rfl (by kernel_rfl) (by kernel_rfl) (by kernel_rfl) (fun _ _ _ h => h) (Or.inl ⟨by first | kernel_rfl | rfl, ?ys3x9⟩) hHeld ?rs3x9
        case ys3x9 => (intro W hSW; (try dsimp only at hSW); go_simp; (try with_reducible rfl))
        change wpAnyH _ _ _ _ _ _ _ (Act.put _ (some 21) _) _
        simp only [Act.put, List.setIfInBounds_toArray, List.set_cons_zero, List.set_cons_succ]
        refine wpAnyH_take (i := 10) (v := ?vs3x10) rfl (by kernel_rfl) (by kernel_rfl) (by kernel_rfl) (fun _ _ _ h => h) (Or.inl ⟨by first | kernel_rfl | rfl, ?ys3x10⟩) hHeld ?rs3x10
        case ys3x10 => (intro W hSW; (try dsimp only at hSW); go_simp; (try with_reducible rfl))
        change wpAnyH _ _ _ _ _ _ _ (Act.put _ (some 22) _) _
        simp only [Act.put, List.setIfInBounds_toArray, List.set_cons_zero, List.set_cons_succ]
        refine wpAnyH_take (i := 11) (v := ?vs3x11) rfl (by kernel_rfl) (by kernel_rfl) (by kernel_rfl) (fun _ _ _ h => h) (Or.inl ⟨by first | kernel_rfl | rfl, ?ys3x11⟩) hHeld ?rs3x11
        case ys3x11 => (intro W hSW; (try dsimp only at hSW); go_simp; (try with_reducible rfl))
        change wpAnyH _ _ _ _ _ _ _ (Act.put _ (some 23) _) _
        simp only [Act.put, List.setIfInBounds_toArray, List.set_cons_zero, List.set_cons_succ]
        refine wpAnyH_take (i := 12) (v := ?vs3x12) rfl (by kernel_rfl) (by kernel_rfl) (by kernel_rfl) (fun _ _ _ h => h) (Or.inl ⟨by first | kernel_rfl | rfl, ?ys3x12⟩) hHeld ?rs3x12
        case ys3x12 => (intro W hSW; (try dsimp only at hSW); go_simp; (try with_reducible rfl))
        change wpAnyH _ _ _ _ _ _ _ (Act.put _ (some 24) _) _
        simp only [Act.put, List.setIfInBounds_toArray, List.set_cons_zero, List.set_cons_succ]
        refine wpAnyH_take (i := 13) (v := ?vs3x13) rfl (by kernel_rfl) (by kernel_rfl) (by kernel_rfl) (fun _ _ _ h => h) (Or.inl ⟨by first | kernel_rfl | rfl, ?ys3x13⟩) hHeld ?rs3x13
        case ys3x13 => (intro W hSW; (try dsimp only at hSW); go_simp; (try with_reducible rfl))
        change wpAnyH _ _ _ _ _ _ _ (Act.put _ (some 25) _) _
        simp only [Act.put, List.setIfInBounds_toArray, List.set_cons_zero, List.set_cons_succ]
        refine wpAnyH_ready (rs := [14]) (by kernel_rfl) (by simp) ?_
        refine AllReadyH.cons rfl (fun K hK => ?_) AllReadyH.nil
        go_simp
        refine ((HW.out)).mono ?_
        rintro e V3 ⟨rfl, hm3⟩; have HM3 : Hid (Mut S1 wr.drew g (runS D1 [some (a + 3, T)]) V3) := hm3; clear hm3
        refine hK.out _ _ (by rw [HM3.out.cell HJ.out.lt hnj1]; exact HJ.out.cells.1) (fun hHeld => ?_)
        clear hK K
        try simp only [Act.put, List.setIfInBounds_toArray, List.set_cons_zero, List.set_cons_succ]
        refine wpAnyH_take (i := 15) (v := ?vs3x15) rfl (by kernel_rfl) (by kernel_rfl) (by kernel_rfl) (fun _ _ _ h => h) (Or.inl ⟨by first | kernel_rfl | rfl, ?ys3x15⟩) hHeld ?rs3x15
        case ys3x15 => (intro W hSW; (try dsimp only at hSW); go_simp; (try with_reducible rfl))
        change wpAnyH _ _ _ _ _ _ _ (Act.put _ (some 8) _) _
        simp only [Act.put, List.setIfInBounds_toArray, List.set_cons_zero, List.set_cons_succ]
        refine wpAnyH_done (by kernel_rfl) ?_ _
        have HN : Hid (codeS D ((laidL a s).take 4) = 0 ∧ Mut S w g (runS D ((laidL a s).take 4)) V3) := by
          obtain ⟨e1, e2⟩ := HON.out
          rw [HTK.out, e1, e2]
          exact ⟨rfl, Mut.trans hu1.out.drew hs1.out HM3.out⟩
        clear hHeld HW HM3
        go_wp2
        exact ⟨⟨4, by omega, by go_num, HN.out⟩, by simp [intOf]⟩
      · have HOFF : Hid _ := HOFF.out hc
        clear HON HTK
        have hc0 : codeS D1 [some (a + 3, T)] = 10 := hc
        have HW : Hid (Calls Tryz.prog 95 #[.pointer (some ⟨g, 0, none⟩), .int .i64 ((a : Int) + 3), .string T] wr.drew fun e w' => e = .returned (.int .i64 10) ∧ Mut S1 wr.drew g (runS D1 [some (a + 3, T)]) w') := by
          have := write_ok hd1.out (a + 3) T (by omega) hTs hw1
          rw [hc0, show ((a + 3 : Nat) : Int) = (a : Int) + 3 by omega] at this
          exact this
        clear hc hc0
        go_wp2
        refine wp_region_held_drew (S := fun V => V.cell? ⟨jb, 0, none⟩ = some (.pointer (some ⟨g, 0, none⟩))) (by kernel_rfl) (HJ.out.cells.1) (fun hHeld => ?_)
        refine wpAnyH_take (i := 0) (v := ?vs3y0) rfl (by kernel_rfl) (by kernel_rfl) (by kernel_rfl) (fun _ _ _ h => h) (Or.inl ⟨by first | kernel_rfl | rfl, ?ys3y0⟩) hHeld ?rs3y0
        case ys3y0 => (intro W hSW; (try dsimp only at hSW); go_simp; (try with_reducible rfl))
        change wpAnyH _ _ _ _ _ _ _ (Act.put _ (some 12) _) _
        simp only [Act.put, List.setIfInBounds_toArray, List.set_cons_zero, List.set_cons_succ]
        refine wpAnyH_take (i := 1) (v := ?vs3y1) rfl (by kernel_rfl) (by kernel_rfl) (by kernel_rfl) (fun _ _ _ h => h) (Or.inl ⟨by first | kernel_rfl | rfl, ?ys3y1⟩) hHeld ?rs3y1
        case ys3y1 => (intro W hSW; (try dsimp only at hSW); go_simp; (try with_reducible rfl))
        change wpAnyH _ _ _ _ _ _ _ (Act.put _ (some 13) _) _
        simp only [Act.put, List.setIfInBounds_toArray, List.set_cons_zero, List.set_cons_succ]
        refine wpAnyH_take (i := 2) (v := ?vs3y2) rfl (by kernel_rfl) (by kernel_rfl) (by kernel_rfl) (fun _ _ _ h => h) (Or.inl ⟨by first | kernel_rfl | rfl, ?ys3y2⟩) hHeld ?rs3y2
        case ys3y2 => (intro W hSW; (try dsimp only at hSW); go_simp; (try with_reducible rfl))
        change wpAnyH _ _ _ _ _ _ _ (Act.put _ (some 14) _) _
        simp only [Act.put, List.setIfInBounds_toArray, List.set_cons_zero, List.set_cons_succ]
        refine wpAnyH_take (i := 3) (v := ?vs3y3) rfl (by kernel_rfl) (by kernel_rfl) (by kernel_rfl) (fun _ _ _ h => h) (Or.inl ⟨by first | kernel_rfl | rfl, ?ys3y3⟩) hHeld ?rs3y3
        case ys3y3 => (intro W hSW; (try dsimp only at hSW); go_simp; (try with_reducible rfl))
        change wpAnyH _ _ _ _ _ _ _ (Act.put _ (some 15) _) _
        simp only [Act.put, List.setIfInBounds_toArray, List.set_cons_zero, List.set_cons_succ]
        refine wpAnyH_take (i := 4) (v := ?vs3y4) rfl (by kernel_rfl) (by kernel_rfl) (by kernel_rfl) (fun _ _ _ h => h) (Or.inl ⟨by first | kernel_rfl | rfl, ?ys3y4⟩) hHeld ?rs3y4
        case ys3y4 => (intro W hSW; (try dsimp only at hSW); go_simp; (try with_reducible rfl))
        change wpAnyH _ _ _ _ _ _ _ (Act.put _ (some 16) _) _
        simp only [Act.put, List.setIfInBounds_toArray, List.set_cons_zero, List.set_cons_succ]
        refine wpAnyH_take (i := 5) (v := ?vs3y5) rfl (by kernel_rfl) (by kernel_rfl) (by kernel_rfl) (fun _ _ _ h => h) (Or.inl ⟨by first | kernel_rfl | rfl, ?ys3y5⟩) hHeld ?rs3y5
        case ys3y5 => (intro W hSW; (try dsimp only at hSW); go_simp; (try with_reducible rfl))
        change wpAnyH _ _ _ _ _ _ _ (Act.put _ (some 17) _) _
        simp only [Act.put, List.setIfInBounds_toArray, List.set_cons_zero, List.set_cons_succ]
        refine wpAnyH_take (i := 6) (v := ?vs3y6) rfl (by kernel_rfl) (by kernel_rfl) (by kernel_rfl) (fun _ _ _ h => h) (Or.inl ⟨by first | kernel_rfl | rfl, ?ys3y6⟩) hHeld ?rs3y6
        case ys3y6 => (intro W hSW; (try dsimp only at hSW); go_simp; (try with_reducible rfl))
        change wpAnyH _ _ _ _ _ _ _ (Act.put _ (some 18) _) _
        simp only [Act.put, List.setIfInBounds_toArray, List.set_cons_zero, List.set_cons_succ]
        refine wpAnyH_take (i := 7) (v := ?vs3y7) rfl (by kernel_rfl) (by kernel_rfl) (by kernel_rfl) (fun _ _ _ h => h) (Or.inl ⟨by first | kernel_rfl | rfl, ?ys3y7⟩) hHeld ?rs3y7
        case ys3y7 => (intro W hSW; (try dsimp only at hSW); go_simp; (try with_reducible rfl))
        change wpAnyH _ _ _ _ _ _ _ (Act.put _ (some 19) _) _
        simp only [Act.put, List.setIfInBounds_toArray, List.set_cons_zero, List.set_cons_succ]
        refine wpAnyH_take (i := 8) (v := ?vs3y8) rfl (by kernel_rfl) (by kernel_rfl) (by kernel_rfl) (fun _ _ _ h => h) (Or.inl ⟨by first | kernel_rfl | rfl, ?ys3y8⟩) hHeld ?rs3y8
        case ys3y8 => (intro W hSW; (try dsimp only at hSW); go_simp; (try with_reducible rfl))
        change wpAnyH _ _ _ _ _ _ _ (Act.put _ (some 20) _) _
        simp only [Act.put, List.setIfInBounds_toArray, List.set_cons_zero, List.set_cons_succ]
        refine wpAnyH_take (i := 9) (v := ?vs3y9) rfl (by kernel_rfl) (by kernel_rfl) (by kernel_rfl) (fun _ _ _ h => h) (Or.inl ⟨by first | kernel_rfl | rfl, ?ys3y9⟩) hHeld ?rs3y9
        case ys3y9 => (intro W hSW; (try dsimp only at hSW); go_simp; (try with_reducible rfl))
        change wpAnyH _ _ _ _ _ _ _ (Act.put _ (some 21) _) _
        simp only [Act.put, List.setIfInBounds_toArray, List.set_cons_zero, List.set_cons_succ]
        refine wpAnyH_take (i := 10) (v := ?vs3y10) rfl (by kernel_rfl) (by kernel_rfl) (by kernel_rfl) (fun _ _ _ h => h) (Or.inl ⟨by first | kernel_rfl | rfl, ?ys3y10⟩) hHeld ?rs3y10
        case ys3y10 => (intro W hSW; (try dsimp only at hSW); go_simp; (try with_reducible rfl))
        change wpAnyH _ _ _ _ _ _ _ (Act.put _ (some 22) _) _
        simp only [Act.put, List.setIfInBounds_toArray, List.set_cons_zero, List.set_cons_succ]
        refine wpAnyH_take (i := 11) (v := ?vs3y11) rfl (by kernel_rfl) (by kernel_rfl) (by kernel_rfl) (fun _ _ _ h => h) (Or.inl ⟨by first | kernel_rfl | rfl, ?ys3y11⟩) hHeld ?rs3y11
        case ys3y11 => (intro W hSW; (try dsimp only at hSW); go_simp; (try with_reducible rfl))
        change wpAnyH _ _ _ _ _ _ _ (Act.put _ (some 23) _) _
        simp only [Act.put, List.setIfInBounds_toArray, List.set_cons_zero, List.set_cons_succ]
        refine wpAnyH_take (i := 12) (v := ?vs3y12) rfl (by kernel_rfl) (by kernel_rfl) (by kernel_rfl) (fun _ _ _ h => h) (Or.inl ⟨by first | kernel_rfl | rfl, ?ys3y12⟩) hHeld ?rs3y12
        case ys3y12 => (intro W hSW; (try dsimp only at hSW); go_simp; (try with_reducible rfl))
        change wpAnyH _ _ _ _ _ _ _ (Act.put _ (some 24) _) _
        simp only [Act.put, List.setIfInBounds_toArray, List.set_cons_zero, List.set_cons_succ]
        refine wpAnyH_take (i := 13) (v := ?vs3y13) rfl (by kernel_rfl) (by kernel_rfl) (by kernel_rfl) (fun _ _ _ h => h) (Or.inl ⟨by first | kernel_rfl | rfl, ?ys3y13⟩) hHeld ?rs3y13
        case ys3y13 => (intro W hSW; (try dsimp only at hSW); go_simp; (try with_reducible rfl))
        change wpAnyH _ _ _ _ _ _ _ (Act.put _ (some 25) _) _
        simp only [Act.put, List.setIfInBounds_toArray, List.set_cons_zero, List.set_cons_succ]
        refine wpAnyH_ready (rs := [14]) (by kernel_rfl) (by simp) ?_
        refine AllReadyH.cons rfl (fun K hK => ?_) AllReadyH.nil
        go_simp
        refine ((HW.out)).mono ?_
        rintro e V3 ⟨rfl, hm3⟩; have HM3 : Hid (Mut S1 wr.drew g (runS D1 [some (a + 3, T)]) V3) := hm3; clear hm3
        refine hK.out _ _ (by rw [HM3.out.cell HJ.out.lt hnj1]; exact HJ.out.cells.1) (fun hHeld => ?_)
        clear hK K
        try simp only [Act.put, List.setIfInBounds_toArray, List.set_cons_zero, List.set_cons_succ]
        refine wpAnyH_take (i := 15) (v := ?vs3y15) rfl (by kernel_rfl) (by kernel_rfl) (by kernel_rfl) (fun _ _ _ h => h) (Or.inl ⟨by first | kernel_rfl | rfl, ?ys3y15⟩) hHeld ?rs3y15
        case ys3y15 => (intro W hSW; (try dsimp only at hSW); go_simp; (try with_reducible rfl))
        change wpAnyH _ _ _ _ _ _ _ (Act.put _ (some 8) _) _
        simp only [Act.put, List.setIfInBounds_toArray, List.set_cons_zero, List.set_cons_succ]
        refine wpAnyH_done (by kernel_rfl) ?_ _
        have HN : Hid (codeS D (laidL a s) = 10 ∧ Mut S w g (runS D (laidL a s)) V3) := by
          obtain ⟨e1, e2⟩ := HOFF.out
          rw [HAL.out, e1, e2]
          exact ⟨rfl, Mut.trans hu1.out.drew hs1.out HM3.out⟩
        clear hHeld HW HM3
        go_wp2
        go_ret
        refine ⟨ret_int ?_, HN.out.2⟩
        rw [HN.out.1]
        rfl
    · have HN : Hid (codeS D (laidL a s) = 0 ∧ Mut S w g (runS D (laidL a s)) wr) := ⟨hcode, hmut⟩
      clear hcode hmut
      go_wp2
      go_ret
      refine ⟨ret_int ?_, HN.out.2⟩
      rw [HN.out.1]
      rfl
end Go.Proofs.YtdgffocmdkadpaaGreat
