/- slices.Replace amid a row: from the back, and into a new row. -/
import Derived.Test.YtgihdfmeokbplaaXH
namespace Go.Proofs.Ytgihdfmeokbplaa
open Go.RowKit Ex
set_option maxRecDepth 100000 in
set_option maxHeartbeats 8000000 in
theorem replace_back {w : World} {b n cap i j m vc : Nat} {va : Option Addr} {hs vs : List Sp} (h : w.ownsRow 0 37 2 (.slice (some ⟨b, 0, none⟩) n cap) n (spsV hs)) (hv : InV w b va m vc vs) (hij : i < j) (hj : j < n) (hn : n ≤ 900000) (hm2 : m = 2) (hj2 : j = i + 1) (hr : n + 1 ≤ cap) :
    Calls Try.prog 60 #[.slice (some ⟨b, 0, none⟩) n cap, .int .i64 (i : Int), .int .i64 (j : Int), .slice va m vc] w (RpTo w (some ⟨b, 0, none⟩) (hs.take i ++ (vs ++ hs.drop j))) := by
  have hl : hs.length = n := by have := h.1; rw [spsV_len] at this; omega
  obtain ⟨L, hB, hLl, hLt, hnc, hcm⟩ := Blk.of h
  have hcm2 : cap ≤ 9223372036854775807 := by simp only [maxLen] at hcm; omega
  have hdl : (spsV (hs.drop j)).length = (n - j) * 2 := by rw [spsV_len, List.length_drop, hl]
  have hvl : (spsV vs).length = m * 2 := by rw [spsV_len, hv.1]
  obtain ⟨T, hT⟩ : ∃ T, i + m + (n - j) = T := ⟨_, rfl⟩
  have hlen : (hs.take i ++ (vs ++ hs.drop j)).length = T := by simp only [List.length_append, List.length_take, List.length_drop, hv.1]; omega
  have kT : (i : Int) + (m : Int) + ((n - j : Nat) : Int) = (T : Int) := by omega
  have kN : ((n - j : Nat) : Int) = (n : Int) - (j : Int) := by omega
  have hin : i ≤ n := by omega
  have hij2 : i ≤ j := by omega
  have hz1 : ¬ ((i : Int) = (j : Int)) := by omega
  have hz2 : ¬ ((j : Int) = (n : Int)) := by omega
  have hi3 : (i : Int) ≤ (j : Int) := by omega
  have hi4 : (j : Int) ≤ (cap : Int) := by omega
  have hi5 : (i : Int) ≤ (cap : Int) := by omega
  have hi6 : (j : Int) ≤ (n : Int) := by omega
  have hci : ¬ (cap = i) := by omega
  have hcj : ¬ (cap = j) := by omega
  have hw1 : IntKind.i64.wrap ((i : Int) + (m : Int)) = (i : Int) + (m : Int) := by rw [IntKind.wrap_i64]; omega
  have hw2 : IntKind.i64.wrap ((T : Int)) = (T : Int) := by rw [IntKind.wrap_i64]; omega
  have hwT : IntKind.i64.wrap ((i : Int) + (m : Int) + ((n : Int) - (j : Int))) = (T : Int) := by rw [IntKind.wrap_i64]; omega
  have hb1 : (0 : Int) ≤ (i : Int) + (m : Int) := by omega
  have htn : ((i : Int) + (m : Int)).toNat = i + m := by omega
  have mixed : Try.prog.follows .mixedOrders = true := by kernel_rfl
  obtain ⟨vb, LV, rfl, hvB, hvne, hvt, hvlen⟩ : ∃ vb LV, va = some ⟨vb, 0, none⟩ ∧ Blk w vb LV ∧ vb ≠ b ∧ LV.take (m * 2) = spsV vs ∧ m * 2 ≤ LV.length := by
    rcases hv.2 with h0 | h0
    · omega
    · exact h0.2
  have hTe : T = n + 1 := by omega
  have hBd : Blk w.drew.drew b L := hB
  have hov : ∀ la ca, (callFunc 71 #[.slice (some ⟨b, (i + m) * 2, none⟩) la ca, .slice (some ⟨vb, 0, none⟩) m vc]).run Try.prog w.drew = .ok (.value (.bool false)) w.drew := fun la ca =>
    overl (w := w.drew) (Ne.symm hvne) (Blk.shape (w := w.drew) hB) (Blk.shape (w := w.drew) hvB) (by omega) (Blk.fro (w := w.drew) hB _) (Blk.fro (w := w.drew) hB _)
  have hcpA : ∀ ty dc sc, (Builtin.copy_ #[33, 33] ty #[.slice (some ⟨b, (i + m) * 2, none⟩) (T - (i + m)) dc, .slice (some ⟨b, j * 2, none⟩) (n - j) sc]).run Try.prog w.drew.drew = .ok (goInt (Nat.min (n - j) (T - (i + m)))) (w.drew.drew.setRow b (put L ((i + m) * 2) (spsV (hs.drop j))).toArray) := fun ty dc sc =>
    copy2 hBd ((i + m) * 2) _ dc ⟨b, j * 2, none⟩ _ sc (spsV (hs.drop j)) (by rw [hdl]; simp only [Nat.min_def]; split <;> omega) (drop_cells hBd hLt) (by omega) (spsV_one _) ty
  obtain ⟨W1, hW1⟩ : ∃ W1, w.drew.drew.setRow b (put L ((i + m) * 2) (spsV (hs.drop j))).toArray = W1 := ⟨_, rfl⟩
  have hB1 : Blk W1 b (put L ((i + m) * 2) (spsV (hs.drop j))) := by rw [← hW1]; exact hBd.put _
  have hpl : (put L ((i + m) * 2) (spsV (hs.drop j))).length = cap * 2 := by rw [put_len (by omega)]; exact hLl
  have hv1 : InV W1 b (some ⟨vb, 0, none⟩) m vc vs := by
    rw [← hW1]
    exact (show InV w.drew.drew b (some ⟨vb, 0, none⟩) m vc vs from hv).keep (fun x _ hx => setRow_other _ _ _ _ hx)
  have hcpB : ∀ ty dc, (Builtin.copy_ #[33, 33] ty #[.slice (some ⟨b, i * 2, none⟩) (T - i) dc, .slice (some ⟨vb, 0, none⟩) m vc]).run Try.prog W1 = .ok (goInt (m : Int)) (W1.setRow b (put (put L ((i + m) * 2) (spsV (hs.drop j))) (i * 2) (spsV vs)).toArray) := fun ty dc => copyV hB1 hv1 (i * 2) (T - i) dc (by omega) (by omega) ty
  obtain ⟨W2, hW2⟩ : ∃ W2, W1.setRow b (put (put L ((i + m) * 2) (spsV (hs.drop j))) (i * 2) (spsV vs)).toArray = W2 := ⟨_, rfl⟩
  have hB2 : Blk W2 b (put (put L ((i + m) * 2) (spsV (hs.drop j))) (i * 2) (spsV vs)) := by rw [← hW2]; exact hB1.put _
  have hp := put_back (L := L) (V := spsV vs) (D := spsV (hs.drop j)) (o := i * 2) (by omega)
  rw [hvl, hdl, show i * 2 + m * 2 = (i + m) * 2 by omega, show (i + m) * 2 + (n - j) * 2 = T * 2 by omega, take_of_take hLt (show i * 2 ≤ n * 2 by omega), spsV_take, ← spsV_app, ← spsV_app, List.append_assoc] at hp
  have HR : Hid (RpTo w (some ⟨b, 0, none⟩) (hs.take i ++ (vs ++ hs.drop j)) (.returned (.slice (some ⟨b, 0, none⟩) T cap)) W2) := by
    refine ⟨some ⟨b, 0, none⟩, cap, by rw [hlen], ?_, fun x hx => .inl hx, ?_⟩
    · rw [hlen]
      exact hB2.own (by omega) hcm (by rw [put_len (by omega)]; exact hpl) hlen hp
    · rw [← hW2, ← hW1]
      refine Upd.setRow (S := fun x => ob (some ⟨b, 0, none⟩) = some x) ?_ (fun _ => rfl) _
      refine Upd.setRow (S := fun x => ob (some ⟨b, 0, none⟩) = some x) ?_ (fun _ => rfl) _
      exact (Upd.refl _ w).drew.drew
  rw [hW1] at hcpA
  rw [hW2] at hcpB
  have kTc : ¬ (cap : Int) < (T : Int) := by omega
  have kij : ¬ (i : Int) + (m : Int) ≤ (j : Int) := by omega
  have hiT : (i : Int) + (m : Int) ≤ (T : Int) := by omega
  have hTi : (i : Int) ≤ (T : Int) := by omega
  have hcm1 : ¬ (cap = i + m) := by omega
  clear hlen h hv hB hBd hB1 hpl hB2 hp hW1 hW2 hLl hLt hdl hvl hcm hl hvB hvt hvlen hv1 hTe hm2 hj2
  go_enter Try.func60, Try.ntmps60
  go_wp2
  refine wp_region_held_drew (S := fun _ => True) (by kernel_rfl) (trivial) (fun hHeld => ?_)
  refine wpAnyH_take (i := 0) (v := ?va0) rfl (by kernel_rfl) (by kernel_rfl) (by kernel_rfl) (fun _ _ _ h => h) (Or.inl ⟨by first | kernel_rfl | rfl, ?ya0⟩) hHeld ?ra0
  case ya0 => (intro W hSW; (try dsimp only at hSW); go_simp; (try with_reducible rfl))
  change wpAnyH _ _ _ _ _ _ _ (Act.put _ (some 45) _) _
  simp only [Act.put, List.setIfInBounds_toArray, List.set_cons_zero, List.set_cons_succ]
  refine wpAnyH_take (i := 1) (v := ?va1) rfl (by kernel_rfl) (by kernel_rfl) (by kernel_rfl) (fun _ _ _ h => h) (Or.inl ⟨by first | kernel_rfl | rfl, ?ya1⟩) hHeld ?ra1
  case ya1 => (intro W hSW; (try dsimp only at hSW); go_simp; (try with_reducible rfl))
  change wpAnyH _ _ _ _ _ _ _ (Act.put _ (some 46) _) _
  simp only [Act.put, List.setIfInBounds_toArray, List.set_cons_zero, List.set_cons_succ]
  refine wpAnyH_take (i := 2) (v := ?va2) rfl (by kernel_rfl) (by kernel_rfl) (by kernel_rfl) (fun _ _ _ h => h) (Or.inl ⟨by first | kernel_rfl | rfl, ?ya2⟩) hHeld ?ra2
  case ya2 => (intro W hSW; (try dsimp only at hSW); go_simp; (try with_reducible rfl))
  change wpAnyH _ _ _ _ _ _ _ (Act.put _ (some 47) _) _
  simp only [Act.put, List.setIfInBounds_toArray, List.set_cons_zero, List.set_cons_succ]
  refine wpAnyH_take (i := 3) (v := ?va3) rfl (by kernel_rfl) (by kernel_rfl) (by kernel_rfl) (fun _ _ _ h => h) (Or.inl ⟨by first | kernel_rfl | rfl, ?ya3⟩) hHeld ?ra3
  case ya3 => (intro W hSW; (try dsimp only at hSW); go_simp; (try with_reducible rfl))
  change wpAnyH _ _ _ _ _ _ _ (Act.put _ (some 48) _) _
  simp only [Act.put, List.setIfInBounds_toArray, List.set_cons_zero, List.set_cons_succ]
  refine wpAnyH_take (i := 4) (v := ?va4) rfl (by kernel_rfl) (by kernel_rfl) (by kernel_rfl) (fun _ _ _ h => h) (Or.inl ⟨by first | kernel_rfl | rfl, ?ya4⟩) hHeld ?ra4
  case ya4 => (intro W hSW; (try dsimp only at hSW); go_simp; (try with_reducible rfl))
  change wpAnyH _ _ _ _ _ _ _ (Act.put _ (some 49) _) _
  simp only [Act.put, List.setIfInBounds_toArray, List.set_cons_zero, List.set_cons_succ]
  refine wpAnyH_take (i := 5) (v := ?va5) rfl (by kernel_rfl) (by kernel_rfl) (by kernel_rfl) (fun _ _ _ h => h) (Or.inl ⟨by first | kernel_rfl | rfl, ?ya5⟩) hHeld ?ra5
  case ya5 => (intro W hSW; (try dsimp only at hSW); go_simp; (try with_reducible rfl))
  change wpAnyH _ _ _ _ _ _ _ (Act.put _ (some 50) _) _
  simp only [Act.put, List.setIfInBounds_toArray, List.set_cons_zero, List.set_cons_succ]
  refine wpAnyH_take (i := 6) (v := ?va6) rfl (by kernel_rfl) (by kernel_rfl) (by kernel_rfl) (fun _ _ _ h => h) (Or.inl ⟨by first | kernel_rfl | rfl, ?ya6⟩) hHeld ?ra6
  case ya6 => (intro W hSW; (try dsimp only at hSW); go_simp; (try with_reducible rfl))
  change wpAnyH _ _ _ _ _ _ _ (Act.put _ (some 51) _) _
  simp only [Act.put, List.setIfInBounds_toArray, List.set_cons_zero, List.set_cons_succ]
  refine wpAnyH_take (i := 7) (v := ?va7) rfl (by kernel_rfl) (by kernel_rfl) (by kernel_rfl) (fun _ _ _ h => h) (Or.inl ⟨by first | kernel_rfl | rfl, ?ya7⟩) hHeld ?ra7
  case ya7 => (intro W hSW; (try dsimp only at hSW); go_simp; (try with_reducible rfl))
  change wpAnyH _ _ _ _ _ _ _ (Act.put _ (some 52) _) _
  simp only [Act.put, List.setIfInBounds_toArray, List.set_cons_zero, List.set_cons_succ]
  refine wpAnyH_take (i := 8) (v := ?va8) rfl (by kernel_rfl) (by kernel_rfl) (by kernel_rfl) (fun _ _ _ h => h) (Or.inl ⟨by first | kernel_rfl | rfl, ?ya8⟩) hHeld ?ra8
  case ya8 => (intro W hSW; (try dsimp only at hSW); go_simp; (try with_reducible rfl))
  change wpAnyH _ _ _ _ _ _ _ (Act.put _ (some 53) _) _
  simp only [Act.put, List.setIfInBounds_toArray, List.set_cons_zero, List.set_cons_succ]
  refine wpAnyH_take (i := 9) (v := ?va9) rfl (by kernel_rfl) (by kernel_rfl) (by kernel_rfl) (fun _ _ _ h => h) (Or.inl ⟨by first | kernel_rfl | rfl, ?ya9⟩) hHeld ?ra9
  case ya9 => (intro W hSW; (try dsimp only at hSW); go_simp; (try with_reducible rfl))
  change wpAnyH _ _ _ _ _ _ _ (Act.put _ (some 54) _) _
  simp only [Act.put, List.setIfInBounds_toArray, List.set_cons_zero, List.set_cons_succ]
  refine wpAnyH_take (i := 10) (v := ?va10) rfl (by kernel_rfl) (by kernel_rfl) (by kernel_rfl) (fun _ _ _ h => h) (Or.inl ⟨by first | kernel_rfl | rfl, ?ya10⟩) hHeld ?ra10
  case ya10 => (intro W hSW; (try dsimp only at hSW); go_simp; (try with_reducible rfl))
  change wpAnyH _ _ _ _ _ _ _ (Act.put _ (some 55) _) _
  simp only [Act.put, List.setIfInBounds_toArray, List.set_cons_zero, List.set_cons_succ]
  refine wpAnyH_take (i := 11) (v := .int .i64 (T : Int)) rfl (by kernel_rfl) (by kernel_rfl) (by kernel_rfl) (fun _ _ _ h => h) (Or.inl ⟨by first | kernel_rfl | rfl, ?ya11⟩) hHeld ?ra11
  case ya11 => (intro W hSW; (try dsimp only at hSW); go_simp; (try with_reducible rfl))
  change wpAnyH _ _ _ _ _ _ _ (Act.put _ (some 56) _) _
  simp only [Act.put, List.setIfInBounds_toArray, List.set_cons_zero, List.set_cons_succ]
  refine wpAnyH_take (i := 12) (v := ?va12) rfl (by kernel_rfl) (by kernel_rfl) (by kernel_rfl) (fun _ _ _ h => h) (Or.inl ⟨by first | kernel_rfl | rfl, ?ya12⟩) hHeld ?ra12
  case ya12 => (intro W hSW; (try dsimp only at hSW); go_simp; (try with_reducible rfl))
  change wpAnyH _ _ _ _ _ _ _ (Act.put _ (some 10) _) _
  simp only [Act.put, List.setIfInBounds_toArray, List.set_cons_zero, List.set_cons_succ]
  refine wpAnyH_done (by kernel_rfl) ?_ _
  clear hHeld
  go_wp2_with (simp only [hov])
  go_region_law_o (refine step_copy_runI rfl _ _ 33 33 rfl _ _ (by simp [Act.eval, Act.put]) (by simp [Act.eval, Act.put]) (hcpA _ _ _) ?_)
  go_wp2_with (at_builtin; refine wpList_copy_runI _ rfl _ _ 33 33 rfl _ _ rfl rfl (hcpB _ _) ?_)
  go_ret
  exact HR.out
set_option maxRecDepth 100000 in
set_option maxHeartbeats 8000000 in
theorem replace_grow {w : World} {b n cap i j m vc : Nat} {va : Option Addr} {hs vs : List Sp} (h : w.ownsRow 0 37 2 (.slice (some ⟨b, 0, none⟩) n cap) n (spsV hs)) (hv : InV w b va m vc vs) (hij : i < j) (hj : j < n) (hn : n ≤ 900000) (hm2 : m = 2) (hj2 : j = i + 1) (hr : cap = n) :
    Calls Try.prog 60 #[.slice (some ⟨b, 0, none⟩) n cap, .int .i64 (i : Int), .int .i64 (j : Int), .slice va m vc] w (RpTo w (some ⟨b, 0, none⟩) (hs.take i ++ (vs ++ hs.drop j))) := by
  have hl : hs.length = n := by have := h.1; rw [spsV_len] at this; omega
  obtain ⟨L, hB, hLl, hLt, hnc, hcm⟩ := Blk.of h
  have hcm2 : cap ≤ 9223372036854775807 := by simp only [maxLen] at hcm; omega
  have hdl : (spsV (hs.drop j)).length = (n - j) * 2 := by rw [spsV_len, List.length_drop, hl]
  have hvl : (spsV vs).length = m * 2 := by rw [spsV_len, hv.1]
  obtain ⟨T, hT⟩ : ∃ T, i + m + (n - j) = T := ⟨_, rfl⟩
  have hlen : (hs.take i ++ (vs ++ hs.drop j)).length = T := by simp only [List.length_append, List.length_take, List.length_drop, hv.1]; omega
  have kT : (i : Int) + (m : Int) + ((n - j : Nat) : Int) = (T : Int) := by omega
  have kN : ((n - j : Nat) : Int) = (n : Int) - (j : Int) := by omega
  obtain rfl : n = cap := hr.symm
  have hin : i ≤ n := by omega
  have hij2 : i ≤ j := by omega
  have hz1 : ¬ ((i : Int) = (j : Int)) := by omega
  have hz2 : ¬ ((j : Int) = (n : Int)) := by omega
  have hi3 : (i : Int) ≤ (j : Int) := by omega
  have hi4 : (j : Int) ≤ (n : Int) := by omega
  have hi5 : (i : Int) ≤ (n : Int) := by omega
  have hi6 : (j : Int) ≤ (n : Int) := by omega
  have hci : ¬ (n = i) := by omega
  have hcj : ¬ (n = j) := by omega
  have hw1 : IntKind.i64.wrap ((i : Int) + (m : Int)) = (i : Int) + (m : Int) := by rw [IntKind.wrap_i64]; omega
  have hw2 : IntKind.i64.wrap ((T : Int)) = (T : Int) := by rw [IntKind.wrap_i64]; omega
  have hwT : IntKind.i64.wrap ((i : Int) + (m : Int) + ((n : Int) - (j : Int))) = (T : Int) := by rw [IntKind.wrap_i64]; omega
  have hb1 : (0 : Int) ≤ (i : Int) + (m : Int) := by omega
  have htn : ((i : Int) + (m : Int)).toNat = i + m := by omega
  have mixed : Try.prog.follows .mixedOrders = true := by kernel_rfl
  obtain ⟨G, L0, W1, hrz, hB0, hL0, hL0t, hG1, hG2, hbel⟩ := grow_any (w := w.drew) (k := T - i) hB hLt hl (show i ≤ n by omega) hnc (by omega) (by omega) (by omega) n rfl
  rw [show i + (T - i) = T by omega] at hrz hG1
  have hkk : ((T - i : Nat) : Int) = (T : Int) - (i : Int) := by omega
  rw [hkk] at hrz
  obtain ⟨H, hH⟩ : ∃ H, w.heap.size = H := ⟨_, rfl⟩
  have hbw : b < H := by rw [← hH]; exact hB.lt
  rw [show w.drew.heap.size = H from hH] at hrz hB0 hbel
  have hv1 : InV W1 b va m vc vs := (show InV w.drew b va m vc vs from hv).keep (fun x hx _ => hbel.block x (by rw [← hH]; exact hx))
  have hB1 : Blk W1 b L := (hbel.block b hbw).trans hB
  have hcpA : ∀ ty dc, (Builtin.copy_ #[33, 33] ty #[.slice (some ⟨H, i * 2, none⟩) (T - i) dc, .slice va m vc]).run Try.prog W1 = .ok (goInt (m : Int)) (W1.setRow H (put L0 (i * 2) (spsV vs)).toArray) := fun ty dc => copyV hB0 hv1 (i * 2) (T - i) dc (by omega) (by omega) ty
  obtain ⟨W2, hW2⟩ : ∃ W2, W1.setRow H (put L0 (i * 2) (spsV vs)).toArray = W2 := ⟨_, rfl⟩
  have hB2 : Blk W2.drew H (put L0 (i * 2) (spsV vs)) := by rw [← hW2]; exact hB0.put _
  have hB2b : Blk W2.drew b L := by
    show Blk W2 b L
    rw [← hW2]; unfold Blk; rw [setRow_other _ _ _ _ (by omega)]; exact hB1
  have hpl : (put L0 (i * 2) (spsV vs)).length = G * 2 := by rw [put_len (by omega)]; exact hL0
  have hcpB : ∀ ty dc sc, (Builtin.copy_ #[33, 33] ty #[.slice (some ⟨H, (i + m) * 2, none⟩) (T - (i + m)) dc, .slice (some ⟨b, j * 2, none⟩) (n - j) sc]).run Try.prog W2.drew = .ok (goInt (Nat.min (n - j) (T - (i + m)))) (W2.drew.setRow H (put (put L0 (i * 2) (spsV vs)) ((i + m) * 2) (spsV (hs.drop j))).toArray) := fun ty dc sc =>
    copy2 hB2 ((i + m) * 2) _ dc ⟨b, j * 2, none⟩ _ sc (spsV (hs.drop j)) (by rw [hdl]; simp only [Nat.min_def]; split <;> omega) (drop_cells hB2b hLt) (by omega) (spsV_one _) ty
  obtain ⟨W3, hW3⟩ : ∃ W3, W2.drew.setRow H (put (put L0 (i * 2) (spsV vs)) ((i + m) * 2) (spsV (hs.drop j))).toArray = W3 := ⟨_, rfl⟩
  have hB3 : Blk W3 H (put (put L0 (i * 2) (spsV vs)) ((i + m) * 2) (spsV (hs.drop j))) := by rw [← hW3]; exact hB2.put _
  have hp := put_front (L := L0) (V := spsV vs) (D := spsV (hs.drop j)) (o := i * 2) (by omega)
  rw [hvl, hdl, show i * 2 + m * 2 = (i + m) * 2 by omega, show (i + m) * 2 + (n - j) * 2 = T * 2 by omega, hL0t, ← spsV_app, ← spsV_app, List.append_assoc] at hp
  have hG3 : G ≤ 9223372036854775807 := by simp only [maxLen] at hG2; omega
  have HR : Hid (RpTo w (some ⟨b, 0, none⟩) (hs.take i ++ (vs ++ hs.drop j)) (.returned (.slice (some ⟨H, 0, none⟩) T G)) W3) := by
    refine ⟨some ⟨H, 0, none⟩, G, by rw [hlen], ?_, fun x hx => .inr (by cases hx; rw [hH]; exact Nat.le_refl _), ?_⟩
    · rw [hlen]
      exact hB3.own hG1 hG2 (by rw [put_len (by omega)]; exact hpl) hlen hp
    · rw [← hW3, ← hW2]
      have e1 : ∀ x, x = H → x < w.heap.size → ob (some ⟨b, 0, none⟩) = some x := fun x e1 e2 => by omega
      refine Upd.setRow (S := fun x => ob (some ⟨b, 0, none⟩) = some x) ?_ (e1 _ rfl) _
      refine Upd.drew ?_
      refine Upd.setRow (S := fun x => ob (some ⟨b, 0, none⟩) = some x) ?_ (e1 _ rfl) _
      exact (Upd.refl _ w).drew.trans (Upd.of_below (S := fun _ => False) (by rw [show w.drew.heap.size = H from hH]; exact hbel)) (fun _ f => f.elim)
  rw [hW2] at hcpA
  rw [hW3] at hcpB
  have kTc : (n : Int) < (T : Int) := by omega
  have hw3 : IntKind.i64.wrap ((T : Int) - (i : Int)) = (T : Int) - (i : Int) := by rw [IntKind.wrap_i64]; omega
  have hiT : (i : Int) + (m : Int) ≤ (T : Int) := by omega
  have hTi : (i : Int) ≤ (T : Int) := by omega
  have hGi : ¬ (G = i) := by omega
  have hGim : ¬ (G = i + m) := by omega
  clear hlen h hv hB hB1 hv1 hB2 hpl hdl hvl hLl hLt hcm hW2 hW3 hl hB0 hL0 hL0t hB2b hB3 hkk hbel hp hm2 hj2
  go_enter Try.func60, Try.ntmps60
  go_wp2
  refine wp_region_held_drew (S := fun _ => True) (by kernel_rfl) (trivial) (fun hHeld => ?_)
  refine wpAnyH_take (i := 0) (v := ?vb0) rfl (by kernel_rfl) (by kernel_rfl) (by kernel_rfl) (fun _ _ _ h => h) (Or.inl ⟨by first | kernel_rfl | rfl, ?yb0⟩) hHeld ?rb0
  case yb0 => (intro W hSW; (try dsimp only at hSW); go_simp; (try with_reducible rfl))
  change wpAnyH _ _ _ _ _ _ _ (Act.put _ (some 45) _) _
  simp only [Act.put, List.setIfInBounds_toArray, List.set_cons_zero, List.set_cons_succ]
  refine wpAnyH_take (i := 1) (v := ?vb1) rfl (by kernel_rfl) (by kernel_rfl) (by kernel_rfl) (fun _ _ _ h => h) (Or.inl ⟨by first | kernel_rfl | rfl, ?yb1⟩) hHeld ?rb1
  case yb1 => (intro W hSW; (try dsimp only at hSW); go_simp; (try with_reducible rfl))
  change wpAnyH _ _ _ _ _ _ _ (Act.put _ (some 46) _) _
  simp only [Act.put, List.setIfInBounds_toArray, List.set_cons_zero, List.set_cons_succ]
  refine wpAnyH_take (i := 2) (v := ?vb2) rfl (by kernel_rfl) (by kernel_rfl) (by kernel_rfl) (fun _ _ _ h => h) (Or.inl ⟨by first | kernel_rfl | rfl, ?yb2⟩) hHeld ?rb2
  case yb2 => (intro W hSW; (try dsimp only at hSW); go_simp; (try with_reducible rfl))
  change wpAnyH _ _ _ _ _ _ _ (Act.put _ (some 47) _) _
  simp only [Act.put, List.setIfInBounds_toArray, List.set_cons_zero, List.set_cons_succ]
  refine wpAnyH_take (i := 3) (v := ?vb3) rfl (by kernel_rfl) (by kernel_rfl) (by kernel_rfl) (fun _ _ _ h => h) (Or.inl ⟨by first | kernel_rfl | rfl, ?yb3⟩) hHeld ?rb3
  case yb3 => (intro W hSW; (try dsimp only at hSW); go_simp; (try with_reducible rfl))
  change wpAnyH _ _ _ _ _ _ _ (Act.put _ (some 48) _) _
  simp only [Act.put, List.setIfInBounds_toArray, List.set_cons_zero, List.set_cons_succ]
  refine wpAnyH_take (i := 4) (v := ?vb4) rfl (by kernel_rfl) (by kernel_rfl) (by kernel_rfl) (fun _ _ _ h => h) (Or.inl ⟨by first | kernel_rfl | rfl, ?yb4⟩) hHeld ?rb4
  case yb4 => (intro W hSW; (try dsimp only at hSW); go_simp; (try with_reducible rfl))
  change wpAnyH _ _ _ _ _ _ _ (Act.put _ (some 49) _) _
  simp only [Act.put, List.setIfInBounds_toArray, List.set_cons_zero, List.set_cons_succ]
  refine wpAnyH_take (i := 5) (v := ?vb5) rfl (by kernel_rfl) (by kernel_rfl) (by kernel_rfl) (fun _ _ _ h => h) (Or.inl ⟨by first | kernel_rfl | rfl, ?yb5⟩) hHeld ?rb5
  case yb5 => (intro W hSW; (try dsimp only at hSW); go_simp; (try with_reducible rfl))
  change wpAnyH _ _ _ _ _ _ _ (Act.put _ (some 50) _) _
  simp only [Act.put, List.setIfInBounds_toArray, List.set_cons_zero, List.set_cons_succ]
  refine wpAnyH_take (i := 6) (v := ?vb6) rfl (by kernel_rfl) (by kernel_rfl) (by kernel_rfl) (fun _ _ _ h => h) (Or.inl ⟨by first | kernel_rfl | rfl, ?yb6⟩) hHeld ?rb6
  case yb6 => (intro W hSW; (try dsimp only at hSW); go_simp; (try with_reducible rfl))
  change wpAnyH _ _ _ _ _ _ _ (Act.put _ (some 51) _) _
  simp only [Act.put, List.setIfInBounds_toArray, List.set_cons_zero, List.set_cons_succ]
  refine wpAnyH_take (i := 7) (v := ?vb7) rfl (by kernel_rfl) (by kernel_rfl) (by kernel_rfl) (fun _ _ _ h => h) (Or.inl ⟨by first | kernel_rfl | rfl, ?yb7⟩) hHeld ?rb7
  case yb7 => (intro W hSW; (try dsimp only at hSW); go_simp; (try with_reducible rfl))
  change wpAnyH _ _ _ _ _ _ _ (Act.put _ (some 52) _) _
  simp only [Act.put, List.setIfInBounds_toArray, List.set_cons_zero, List.set_cons_succ]
  refine wpAnyH_take (i := 8) (v := ?vb8) rfl (by kernel_rfl) (by kernel_rfl) (by kernel_rfl) (fun _ _ _ h => h) (Or.inl ⟨by first | kernel_rfl | rfl, ?yb8⟩) hHeld ?rb8
  case yb8 => (intro W hSW; (try dsimp only at hSW); go_simp; (try with_reducible rfl))
  change wpAnyH _ _ _ _ _ _ _ (Act.put _ (some 53) _) _
  simp only [Act.put, List.setIfInBounds_toArray, List.set_cons_zero, List.set_cons_succ]
  refine wpAnyH_take (i := 9) (v := ?vb9) rfl (by kernel_rfl) (by kernel_rfl) (by kernel_rfl) (fun _ _ _ h => h) (Or.inl ⟨by first | kernel_rfl | rfl, ?yb9⟩) hHeld ?rb9
  case yb9 => (intro W hSW; (try dsimp only at hSW); go_simp; (try with_reducible rfl))
  change wpAnyH _ _ _ _ _ _ _ (Act.put _ (some 54) _) _
  simp only [Act.put, List.setIfInBounds_toArray, List.set_cons_zero, List.set_cons_succ]
  refine wpAnyH_take (i := 10) (v := ?vb10) rfl (by kernel_rfl) (by kernel_rfl) (by kernel_rfl) (fun _ _ _ h => h) (Or.inl ⟨by first | kernel_rfl | rfl, ?yb10⟩) hHeld ?rb10
  case yb10 => (intro W hSW; (try dsimp only at hSW); go_simp; (try with_reducible rfl))
  change wpAnyH _ _ _ _ _ _ _ (Act.put _ (some 55) _) _
  simp only [Act.put, List.setIfInBounds_toArray, List.set_cons_zero, List.set_cons_succ]
  refine wpAnyH_take (i := 11) (v := .int .i64 (T : Int)) rfl (by kernel_rfl) (by kernel_rfl) (by kernel_rfl) (fun _ _ _ h => h) (Or.inl ⟨by first | kernel_rfl | rfl, ?yb11⟩) hHeld ?rb11
  case yb11 => (intro W hSW; (try dsimp only at hSW); go_simp; (try with_reducible rfl))
  change wpAnyH _ _ _ _ _ _ _ (Act.put _ (some 56) _) _
  simp only [Act.put, List.setIfInBounds_toArray, List.set_cons_zero, List.set_cons_succ]
  refine wpAnyH_take (i := 12) (v := ?vb12) rfl (by kernel_rfl) (by kernel_rfl) (by kernel_rfl) (fun _ _ _ h => h) (Or.inl ⟨by first | kernel_rfl | rfl, ?yb12⟩) hHeld ?rb12
  case yb12 => (intro W hSW; (try dsimp only at hSW); go_simp; (try with_reducible rfl))
  change wpAnyH _ _ _ _ _ _ _ (Act.put _ (some 10) _) _
  simp only [Act.put, List.setIfInBounds_toArray, List.set_cons_zero, List.set_cons_succ]
  refine wpAnyH_done (by kernel_rfl) ?_ _
  clear hHeld
  go_wp2_with (first
    | (at_builtin; refine Lib.wpList_append_run _ rfl _ _ _ _ rfl _ _ rfl rfl _ _ (hrz _) ?_)
    | (at_builtin; refine wpList_copy_runI _ rfl _ _ 33 33 rfl _ _ rfl rfl (hcpA _ _) ?_))
  go_region_law_o (refine step_copy_runI rfl _ _ 33 33 rfl _ _ (by simp [Act.eval, Act.put]) (by simp [Act.eval, Act.put]) (hcpB _ _ _) ?_)
  go_wp2
  go_ret
  exact HR.out
end Go.Proofs.Ytgihdfmeokbplaa
