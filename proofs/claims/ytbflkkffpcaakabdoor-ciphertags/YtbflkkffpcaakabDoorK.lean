/- Walk over the program's spread. -/
import Derived.Test.YtbflkkffpcaakabDoorJ
namespace Go.Proofs.YtbflkkffpcaakabDoor
open Go.RowKit
theorem add_block (x : Addr) (i : Nat) : (x.add i).block = x.block := by unfold Addr.add; split <;> rfl
theorem or_low (n a b : Nat) (hb : b < 2 ^ n) : a * 2 ^ n ||| b = a * 2 ^ n + b := by
  rw [Nat.mul_comm, Nat.two_pow_add_eq_or_of_lt hb]
theorem schedL_keep (m : List Nat) (k d j : Nat) (hj : j < m.length + k) : (schedL m (k + d)).getD j 0 = (schedL m k).getD j 0 := by
  induction d with
  | zero => rfl
  | succ d ih =>
    rw [← ih]
    show (schedL m (k + d) ++ _).getD j 0 = _
    rw [List.getD_eq_getElem?_getD, List.getElem?_append_left (by rw [schedL_len]; omega), ← List.getD_eq_getElem?_getD]
theorem schedL_at (m : List Nat) (k : Nat) : (schedL m (k + 1)).getD (m.length + k) 0 = nextW (schedL m k) (m.length + k) := by
  show (schedL m k ++ [_]).getD _ 0 = _
  rw [List.getD_eq_getElem?_getD, List.getElem?_append_right (by rw [schedL_len]; omega), schedL_len]
  simp
theorem sched_early (m : List Nat) (hm : m.length = 16) (t : Nat) (ht : t < 16) : (schedL m 48).getD t 0 = m.getD t 0 := by
  have := schedL_keep m 0 48 t (by omega)
  simpa [schedL] using this
theorem sched_late (m : List Nat) (hm : m.length = 16) (t : Nat) (h1 : 16 ≤ t) (h2 : t < 64) :
    (schedL m 48).getD t 0 = ((schedL m 48).getD (t - 16) 0 + (schedL m 48).getD (t - 7) 0 + ssig0 ((schedL m 48).getD (t - 15) 0) + ssig1 ((schedL m 48).getD (t - 2) 0)) % 4294967296 := by
  obtain ⟨k, rfl⟩ : ∃ k, t = 16 + k := ⟨t - 16, by omega⟩
  have e0 := schedL_keep m (k + 1) (48 - (k + 1)) (16 + k) (by omega)
  rw [show k + 1 + (48 - (k + 1)) = 48 by omega] at e0
  have e1 := schedL_at m k
  rw [hm] at e1
  rw [e0, e1]
  have f : ∀ j, j < 16 + k → (schedL m 48).getD j 0 = (schedL m k).getD j 0 := fun j hj => by
    have := schedL_keep m k (48 - k) j (by omega)
    rwa [show k + (48 - k) = 48 by omega] at this
  rw [f _ (by omega), f _ (by omega), f _ (by omega), f _ (by omega)]
  rfl
theorem take_set (F : List Nat) (t : Nat) (hF : F.length = 64) (ht : t < 64) : (F.take t ++ List.replicate (64 - t) 0).set t (F.getD t 0) = F.take (t + 1) ++ List.replicate (64 - (t + 1)) 0 := by
  have el : (F.take t).length = t := by simp; omega
  have es := set_mid (F.take t) (64 - (t + 1)) (F.getD t 0)
  rw [el, show 64 - (t + 1) + 1 = 64 - t by omega] at es
  rw [es, List.take_add_one, List.getElem?_eq_getElem (by omega)]
  simp [hF, ht]
theorem take_get (F : List Nat) (t j : Nat) (hF : F.length = 64) (ht : t ≤ 64) (hj : j < t) : (F.take t ++ List.replicate (64 - t) 0).getD j 0 = F.getD j 0 := by
  rw [List.getD_eq_getElem?_getD, List.getD_eq_getElem?_getD, List.getElem?_append_left (by simp; omega), List.getElem?_take_of_lt hj]
theorem wordsOf_at (b : List UInt8) (t : Nat) (h : t < 16) : (wordsOf b).getD t 0 = (b.getD (4 * t) 0).toNat * 16777216 + (b.getD (4 * t + 1) 0).toNat * 65536 + (b.getD (4 * t + 2) 0).toNat * 256 + (b.getD (4 * t + 3) 0).toNat := by
  simp [wordsOf, h]
theorem WordsW.drew {g : Nat} {w0 : World} {rs ws : List Nat} {wr : World} (h : WordsW g w0 rs ws wr) : WordsW g w0 rs ws wr.drew := ⟨h.rc, h.wc, h.sz, h.bl.drew⟩

set_option maxRecDepth 100000 in
set_option maxHeartbeats 4000000 in
theorem spread_any (x : Addr) (cap : Nat) (bs : List UInt8) (w : World) (hxb : x.block < w.heap.size) (hB : ∀ i, i < 64 → w.cell? (x.add i) = some (.int .u8 (((bs.getD i 0).toNat : Nat) : Int))) :
    Calls Tryd.prog 35 #[.slice (some x) 64 cap] w fun e w' => e = .returned (.agg (u32v (schedL (wordsOf bs) 48))) ∧ Below w.heap.size w w' := by
  have HB : Hid (∀ i, i < 64 → w.cell? (x.add i) = some (.int .u8 (((bs.getD i 0).toNat : Nat) : Int))) := hB
  clear hB
  obtain ⟨F, hF⟩ : ∃ F, schedL (wordsOf bs) 48 = F := ⟨_, rfl⟩
  have HF : Hid (schedL (wordsOf bs) 48 = F) := hF
  have HL : Hid (F.length = 64) := by show F.length = 64; rw [← hF, schedL_len, wordsOf_len]
  have HW : Hid (Wd F) := by show Wd F; rw [← hF]; exact schedL_wd (wordsOf_wd bs) 48
  rw [hF]
  clear hF
  go_enter Tryd.func35, Tryd.ntmps35
  go_wp2
  go_loopw [8] (fun i wr => ∃ t : Nat, t ≤ 64 ∧ i = .int .i64 t ∧ WordsW w.heap.size w (List.replicate 64 0) (F.take t ++ List.replicate (64 - t) 0) wr) (fun i _ => 64 - (intOf i).toNat)
  case atStart => exact ⟨0, by omega, rfl, WordsW.start w (List.replicate 64 0) (List.replicate 64 0)⟩
  case round =>
    obtain ⟨t, ht, rfl, hrel⟩ := hrel
    have hlen : (F.take t ++ List.replicate (64 - t) 0).length = 64 := by simp [HL.out]; omega
    by_cases hlt : t < 16
    · have kt : (t : Int) < 64 := by omega
      have hf : wr.frozen? ⟨w.heap.size + 1, t, none⟩ = false := hrel.wfro t
      obtain ⟨y, hc⟩ : ∃ y : Int, wr.cell? ⟨w.heap.size + 1, t, none⟩ = some (.int .u32 y) := ⟨_, hrel.wcell t (by omega)⟩
      obtain ⟨p0, q0⟩ : ∃ p, p = 4 * t + 0 := ⟨_, rfl⟩
      obtain ⟨X0, hX0⟩ : ∃ X, (bs.getD p0 0).toNat = X := ⟨_, rfl⟩
      have z0 : X0 ≤ 255 := by have := (bs.getD p0 0).toNat_lt; omega
      have b0 : wr.cell? (x.add p0) = some (.int .u8 (X0 : Int)) := by
        rw [← hX0, ← HB.out p0 (by omega)]
        exact hrel.bl.cell (by rw [add_block]; exact hxb)
      have k0 : (p0 : Int) < 64 := by omega
      have c0 : IntKind.u32.wrap (X0 : Int) = (X0 : Int) := by rw [IntKind.wrap_u32']; omega
      obtain ⟨p1, q1⟩ : ∃ p, p = 4 * t + 1 := ⟨_, rfl⟩
      obtain ⟨X1, hX1⟩ : ∃ X, (bs.getD p1 0).toNat = X := ⟨_, rfl⟩
      have z1 : X1 ≤ 255 := by have := (bs.getD p1 0).toNat_lt; omega
      have b1 : wr.cell? (x.add p1) = some (.int .u8 (X1 : Int)) := by
        rw [← hX1, ← HB.out p1 (by omega)]
        exact hrel.bl.cell (by rw [add_block]; exact hxb)
      have k1 : (p1 : Int) < 64 := by omega
      have c1 : IntKind.u32.wrap (X1 : Int) = (X1 : Int) := by rw [IntKind.wrap_u32']; omega
      obtain ⟨p2, q2⟩ : ∃ p, p = 4 * t + 2 := ⟨_, rfl⟩
      obtain ⟨X2, hX2⟩ : ∃ X, (bs.getD p2 0).toNat = X := ⟨_, rfl⟩
      have z2 : X2 ≤ 255 := by have := (bs.getD p2 0).toNat_lt; omega
      have b2 : wr.cell? (x.add p2) = some (.int .u8 (X2 : Int)) := by
        rw [← hX2, ← HB.out p2 (by omega)]
        exact hrel.bl.cell (by rw [add_block]; exact hxb)
      have k2 : (p2 : Int) < 64 := by omega
      have c2 : IntKind.u32.wrap (X2 : Int) = (X2 : Int) := by rw [IntKind.wrap_u32']; omega
      obtain ⟨p3, q3⟩ : ∃ p, p = 4 * t + 3 := ⟨_, rfl⟩
      obtain ⟨X3, hX3⟩ : ∃ X, (bs.getD p3 0).toNat = X := ⟨_, rfl⟩
      have z3 : X3 ≤ 255 := by have := (bs.getD p3 0).toNat_lt; omega
      have b3 : wr.cell? (x.add p3) = some (.int .u8 (X3 : Int)) := by
        rw [← hX3, ← HB.out p3 (by omega)]
        exact hrel.bl.cell (by rw [add_block]; exact hxb)
      have k3 : (p3 : Int) < 64 := by omega
      have c3 : IntKind.u32.wrap (X3 : Int) = (X3 : Int) := by rw [IntKind.wrap_u32']; omega
      have i0 : (4 : Int) * (t : Int) = (p0 : Int) := by omega
      have i1 : IntKind.i64.wrap ((p0 : Int) + 1) = (p1 : Int) := by rw [IntKind.wrap_i64]; omega
      have i2 : IntKind.i64.wrap ((p0 : Int) + 2) = (p2 : Int) := by rw [IntKind.wrap_i64]; omega
      have i3 : IntKind.i64.wrap ((p0 : Int) + 3) = (p3 : Int) := by rw [IntKind.wrap_i64]; omega
      obtain ⟨Y0, y0⟩ : ∃ Y, Y = X0 * 16777216 := ⟨_, rfl⟩
      obtain ⟨Y1, y1⟩ : ∃ Y, Y = X1 * 65536 := ⟨_, rfl⟩
      obtain ⟨Y2, y2⟩ : ∃ Y, Y = X2 * 256 := ⟨_, rfl⟩
      obtain ⟨T1, t1⟩ : ∃ Y, Y = Y0 + Y1 := ⟨_, rfl⟩
      obtain ⟨T2, t2⟩ : ∃ Y, Y = T1 + Y2 := ⟨_, rfl⟩
      obtain ⟨T3, t3⟩ : ∃ Y, Y = T2 + X3 := ⟨_, rfl⟩
      have m0 : IntKind.u32.wrap ((X0 : Int) * 16777216) = (Y0 : Int) := by rw [IntKind.wrap_u32']; omega
      have m1 : IntKind.u32.wrap ((X1 : Int) * 65536) = (Y1 : Int) := by rw [IntKind.wrap_u32']; omega
      have m2 : IntKind.u32.wrap ((X2 : Int) * 256) = (Y2 : Int) := by rw [IntKind.wrap_u32']; omega
      have s1 : bits BinOp.or IntKind.u32 (Y0 : Int) (Y1 : Int) = (T1 : Int) := by
        rw [u32_or_nat _ _ (by omega) (by omega), t1, y0, or_low 24 X0 Y1 (by omega)]
      have s2 : bits BinOp.or IntKind.u32 (T1 : Int) (Y2 : Int) = (T2 : Int) := by
        rw [u32_or_nat _ _ (by omega) (by omega), t2, show T1 = (X0 * 256 + X1) * 65536 by omega, or_low 16 (X0 * 256 + X1) Y2 (by omega)]
      have s3 : bits BinOp.or IntKind.u32 (T2 : Int) (X3 : Int) = (T3 : Int) := by
        rw [u32_or_nat _ _ (by omega) (by omega), t3, show T2 = (X0 * 65536 + X1 * 256 + X2) * 256 by omega, or_low 8 (X0 * 65536 + X1 * 256 + X2) X3 (by omega)]
      have HT : Hid (F.getD t 0 = T3) := by
        show F.getD t 0 = T3
        rw [← HF.out, sched_early _ (wordsOf_len bs) t hlt, wordsOf_at bs t hlt, show 4 * t = p0 by omega, show p0 + 1 = p1 by omega, show p0 + 2 = p2 by omega, show p0 + 3 = p3 by omega, hX0, hX1, hX2, hX3]
        omega
      have dB : ∀ (W : World) (i : Nat) v, (W.setCell ⟨w.heap.size + 1, t, none⟩ v).cell? (x.add i) = W.cell? (x.add i) := by
        intro W i v
        exact World.cell?_of_block (heap_setCell_other _ _ _ _ (by rw [add_block]; show x.block ≠ w.heap.size + 1; omega))
      have HR : Hid (WordsW w.heap.size w (List.replicate 64 0) (F.take t ++ List.replicate (64 - t) 0) wr) := hrel
      clear hrel q1 q2 q3 y0 y1 y2 t1 t2 t3 z0 z1 z2 z3 hX0 hX1 hX2 hX3 q0 hlen
      go_wp2
      refine wp_region_held_drew (S := fun W => W.cell? (x.add p0) = some (.int .u8 (X0 : Int)) ∧ W.cell? (x.add p1) = some (.int .u8 (X1 : Int)) ∧ W.cell? (x.add p2) = some (.int .u8 (X2 : Int)) ∧ W.cell? (x.add p3) = some (.int .u8 (X3 : Int))) (by kernel_rfl) (⟨b0, b1, b2, b3⟩) (fun hHeld => ?_)
      refine wpAnyH_take (i := 0) (v := ?vg7_0) rfl (by kernel_rfl) (by kernel_rfl) (by kernel_rfl) (fun _ _ _ h => h) (Or.inl ⟨by kernel_rfl, ?yg7_0⟩) hHeld ?rg7_0
      case yg7_0 => (intro W hSW; (try dsimp only at hSW); go_simp; (try with_reducible rfl))
      change wpAnyH _ _ _ _ _ _ _ (Act.put _ (some 15) _) _
      simp only [Act.put, List.setIfInBounds_toArray, List.set_cons_zero, List.set_cons_succ]
      refine wpAnyH_take (i := 1) (v := ?vg7_1) rfl (by kernel_rfl) (by kernel_rfl) (by kernel_rfl) (fun _ _ _ h => h) (Or.inl ⟨by kernel_rfl, ?yg7_1⟩) hHeld ?rg7_1
      case yg7_1 => (intro W hSW; (try dsimp only at hSW); go_simp; (try with_reducible rfl))
      change wpAnyH _ _ _ _ _ _ _ (Act.put _ (some 16) _) _
      simp only [Act.put, List.setIfInBounds_toArray, List.set_cons_zero, List.set_cons_succ]
      refine wpAnyH_take (i := 2) (v := ?vg7_2) rfl (by kernel_rfl) (by kernel_rfl) (by kernel_rfl) (fun _ _ _ h => h) (Or.inl ⟨by kernel_rfl, ?yg7_2⟩) hHeld ?rg7_2
      case yg7_2 => (intro W hSW; (try dsimp only at hSW); go_simp; (try with_reducible rfl))
      change wpAnyH _ _ _ _ _ _ _ (Act.put _ (some 17) _) _
      simp only [Act.put, List.setIfInBounds_toArray, List.set_cons_zero, List.set_cons_succ]
      refine wpAnyH_take (i := 3) (v := ?vg7_3) rfl (by kernel_rfl) (by kernel_rfl) (by kernel_rfl) (fun _ _ _ h => h) (Or.inl ⟨by kernel_rfl, ?yg7_3⟩) hHeld ?rg7_3
      case yg7_3 => (intro W hSW; (try dsimp only at hSW); go_simp; (try with_reducible rfl))
      change wpAnyH _ _ _ _ _ _ _ (Act.put _ (some 18) _) _
      simp only [Act.put, List.setIfInBounds_toArray, List.set_cons_zero, List.set_cons_succ]
      refine wpAnyH_take (i := 4) (v := ?vg7_4) rfl (by kernel_rfl) (by kernel_rfl) (by kernel_rfl) (fun _ _ _ h => h) (Or.inl ⟨by kernel_rfl, ?yg7_4⟩) hHeld ?rg7_4
      case yg7_4 => (intro W hSW; (try dsimp only at hSW); go_simp; (try with_reducible rfl))
      change wpAnyH _ _ _ _ _ _ _ (Act.put _ (some 19) _) _
      simp only [Act.put, List.setIfInBounds_toArray, List.set_cons_zero, List.set_cons_succ]
      refine wpAnyH_take (i := 5) (v := ?vg7_5) rfl (by kernel_rfl) (by kernel_rfl) (by kernel_rfl) (fun _ _ _ h => h) (Or.inl ⟨by kernel_rfl, ?yg7_5⟩) hHeld ?rg7_5
      case yg7_5 => (intro W hSW; (try dsimp only at hSW); go_simp; (try with_reducible rfl))
      change wpAnyH _ _ _ _ _ _ _ (Act.put _ (some 20) _) _
      simp only [Act.put, List.setIfInBounds_toArray, List.set_cons_zero, List.set_cons_succ]
      refine wpAnyH_take (i := 6) (v := ?vg7_6) rfl (by kernel_rfl) (by kernel_rfl) (by kernel_rfl) (fun _ _ _ h => h) (Or.inl ⟨by kernel_rfl, ?yg7_6⟩) hHeld ?rg7_6
      case yg7_6 => (intro W hSW; (try dsimp only at hSW); go_simp; (try with_reducible rfl))
      change wpAnyH _ _ _ _ _ _ _ (Act.put _ (some 21) _) _
      simp only [Act.put, List.setIfInBounds_toArray, List.set_cons_zero, List.set_cons_succ]
      refine wpAnyH_take (i := 7) (v := ?vg7_7) rfl (by kernel_rfl) (by kernel_rfl) (by kernel_rfl) (fun _ _ _ h => h) (Or.inl ⟨by kernel_rfl, ?yg7_7⟩) hHeld ?rg7_7
      case yg7_7 => (intro W hSW; (try dsimp only at hSW); go_simp; (try with_reducible rfl))
      change wpAnyH _ _ _ _ _ _ _ (Act.put _ (some 22) _) _
      simp only [Act.put, List.setIfInBounds_toArray, List.set_cons_zero, List.set_cons_succ]
      refine wpAnyH_take (i := 8) (v := ?vg7_8) rfl (by kernel_rfl) (by kernel_rfl) (by kernel_rfl) (fun _ _ _ h => h) (Or.inl ⟨by kernel_rfl, ?yg7_8⟩) hHeld ?rg7_8
      case yg7_8 => (intro W hSW; (try dsimp only at hSW); go_simp; (try with_reducible rfl))
      change wpAnyH _ _ _ _ _ _ _ (Act.put _ (some 23) _) _
      simp only [Act.put, List.setIfInBounds_toArray, List.set_cons_zero, List.set_cons_succ]
      refine wpAnyH_take (i := 9) (v := ?vg7_9) rfl (by kernel_rfl) (by kernel_rfl) (by kernel_rfl) (fun _ _ _ h => h) (Or.inl ⟨by kernel_rfl, ?yg7_9⟩) hHeld ?rg7_9
      case yg7_9 => (intro W hSW; (try dsimp only at hSW); go_simp; (try with_reducible rfl))
      change wpAnyH _ _ _ _ _ _ _ (Act.put _ (some 24) _) _
      simp only [Act.put, List.setIfInBounds_toArray, List.set_cons_zero, List.set_cons_succ]
      refine wpAnyH_take (i := 10) (v := ?vg7_10) rfl (by kernel_rfl) (by kernel_rfl) (by kernel_rfl) (fun _ _ _ h => h) (Or.inl ⟨by kernel_rfl, ?yg7_10⟩) hHeld ?rg7_10
      case yg7_10 => (intro W hSW; (try dsimp only at hSW); go_simp; (try with_reducible rfl))
      change wpAnyH _ _ _ _ _ _ _ (Act.put _ (some 25) _) _
      simp only [Act.put, List.setIfInBounds_toArray, List.set_cons_zero, List.set_cons_succ]
      refine wpAnyH_take (i := 11) (v := ?vg7_11) rfl (by kernel_rfl) (by kernel_rfl) (by kernel_rfl) (fun _ _ _ h => h) (Or.inl ⟨by kernel_rfl, ?yg7_11⟩) hHeld ?rg7_11
      case yg7_11 => (intro W hSW; (try dsimp only at hSW); go_simp; (try with_reducible rfl))
      change wpAnyH _ _ _ _ _ _ _ (Act.put _ (some 26) _) _
      simp only [Act.put, List.setIfInBounds_toArray, List.set_cons_zero, List.set_cons_succ]
      refine wpAnyH_take (i := 12) (v := ?vg7_12) rfl (by kernel_rfl) (by kernel_rfl) (by kernel_rfl) (fun _ _ _ h => h) (Or.inl ⟨by kernel_rfl, ?yg7_12⟩) hHeld ?rg7_12
      case yg7_12 => (intro W hSW; (try dsimp only at hSW); go_simp; (try with_reducible rfl))
      change wpAnyH _ _ _ _ _ _ _ (Act.put _ (some 27) _) _
      simp only [Act.put, List.setIfInBounds_toArray, List.set_cons_zero, List.set_cons_succ]
      refine wpAnyH_take (i := 13) (v := ?vg7_13) rfl (by kernel_rfl) (by kernel_rfl) (by kernel_rfl) (fun _ _ _ h => h) (Or.inl ⟨by kernel_rfl, ?yg7_13⟩) hHeld ?rg7_13
      case yg7_13 => (intro W hSW; (try dsimp only at hSW); go_simp; (try with_reducible rfl))
      change wpAnyH _ _ _ _ _ _ _ (Act.put _ (some 28) _) _
      simp only [Act.put, List.setIfInBounds_toArray, List.set_cons_zero, List.set_cons_succ]
      refine wpAnyH_take (i := 14) (v := ?vg7_14) rfl (by kernel_rfl) (by kernel_rfl) (by kernel_rfl) (fun _ _ _ h => h) (Or.inl ⟨by kernel_rfl, ?yg7_14⟩) hHeld ?rg7_14
      case yg7_14 => (intro W hSW; (try dsimp only at hSW); go_simp; (try with_reducible rfl))
      change wpAnyH _ _ _ _ _ _ _ (Act.put _ (some 29) _) _
      simp only [Act.put, List.setIfInBounds_toArray, List.set_cons_zero, List.set_cons_succ]
      refine wpAnyH_take (i := 15) (v := ?vg7_15) rfl (by kernel_rfl) (by kernel_rfl) (by kernel_rfl) (fun _ _ _ h => h) (Or.inl ⟨by kernel_rfl, ?yg7_15⟩) hHeld ?rg7_15
      case yg7_15 => (intro W hSW; (try dsimp only at hSW); go_simp; (try with_reducible rfl))
      change wpAnyH _ _ _ _ _ _ _ (Act.put _ (some 30) _) _
      simp only [Act.put, List.setIfInBounds_toArray, List.set_cons_zero, List.set_cons_succ]
      refine wpAnyH_take (i := 16) (v := ?vg7_16) rfl (by kernel_rfl) (by kernel_rfl) (by kernel_rfl) (fun _ _ _ h => h) (Or.inl ⟨by kernel_rfl, ?yg7_16⟩) hHeld ?rg7_16
      case yg7_16 => (intro W hSW; (try dsimp only at hSW); go_simp; (try with_reducible rfl))
      change wpAnyH _ _ _ _ _ _ _ (Act.put _ (some 31) _) _
      simp only [Act.put, List.setIfInBounds_toArray, List.set_cons_zero, List.set_cons_succ]
      refine wpAnyH_take (i := 17) (v := ?vg7_17) rfl (by kernel_rfl) (by kernel_rfl) (by kernel_rfl) (fun _ _ _ h => h) (Or.inl ⟨by kernel_rfl, ?yg7_17⟩) hHeld ?rg7_17
      case yg7_17 => (intro W hSW; (try dsimp only at hSW); go_simp; (try with_reducible rfl))
      change wpAnyH _ _ _ _ _ _ _ (Act.put _ (some 32) _) _
      simp only [Act.put, List.setIfInBounds_toArray, List.set_cons_zero, List.set_cons_succ]
      refine wpAnyH_take (i := 18) (v := ?vg7_18) rfl (by kernel_rfl) (by kernel_rfl) (by kernel_rfl) (fun _ _ _ h => h) (Or.inl ⟨by kernel_rfl, ?yg7_18⟩) hHeld ?rg7_18
      case yg7_18 => (intro W hSW; (try dsimp only at hSW); go_simp; (try with_reducible rfl))
      change wpAnyH _ _ _ _ _ _ _ (Act.put _ (some 33) _) _
      simp only [Act.put, List.setIfInBounds_toArray, List.set_cons_zero, List.set_cons_succ]
      refine wpAnyH_take (i := 19) (v := ?vg7_19) rfl (by kernel_rfl) (by kernel_rfl) (by kernel_rfl) (fun _ _ _ h => h) (Or.inl ⟨by kernel_rfl, ?yg7_19⟩) hHeld ?rg7_19
      case yg7_19 => (intro W hSW; (try dsimp only at hSW); go_simp; (try with_reducible rfl))
      change wpAnyH _ _ _ _ _ _ _ (Act.put _ (some 34) _) _
      simp only [Act.put, List.setIfInBounds_toArray, List.set_cons_zero, List.set_cons_succ]
      refine wpAnyH_take (i := 20) (v := ?vg7_20) rfl (by kernel_rfl) (by kernel_rfl) (by kernel_rfl) (fun _ _ _ h => h) (Or.inl ⟨by kernel_rfl, ?yg7_20⟩) hHeld ?rg7_20
      case yg7_20 => (intro W hSW; (try dsimp only at hSW); go_simp; (try with_reducible rfl))
      change wpAnyH _ _ _ _ _ _ _ (Act.put _ (some 35) _) _
      simp only [Act.put, List.setIfInBounds_toArray, List.set_cons_zero, List.set_cons_succ]
      refine wpAnyH_take (i := 21) (v := ?vg7_21) rfl (by kernel_rfl) (by kernel_rfl) (by kernel_rfl) (fun _ _ _ h => h) (Or.inl ⟨by kernel_rfl, ?yg7_21⟩) hHeld ?rg7_21
      case yg7_21 => (intro W hSW; (try dsimp only at hSW); go_simp; (try with_reducible rfl))
      change wpAnyH _ _ _ _ _ _ _ (Act.put _ (some 36) _) _
      simp only [Act.put, List.setIfInBounds_toArray, List.set_cons_zero, List.set_cons_succ]
      refine wpAnyH_take (i := 22) (v := ?vg7_22) rfl (by kernel_rfl) (by kernel_rfl) (by kernel_rfl) (fun _ _ _ h => h) (Or.inl ⟨by kernel_rfl, ?yg7_22⟩) hHeld ?rg7_22
      case yg7_22 => (intro W hSW; (try dsimp only at hSW); go_simp; (try with_reducible rfl))
      change wpAnyH _ _ _ _ _ _ _ (Act.put _ (some 37) _) _
      simp only [Act.put, List.setIfInBounds_toArray, List.set_cons_zero, List.set_cons_succ]
      refine wpAnyH_take (i := 23) (v := ?vg7_23) rfl (by kernel_rfl) (by kernel_rfl) (by kernel_rfl) (fun _ _ _ h => h) (Or.inl ⟨by kernel_rfl, ?yg7_23⟩) hHeld ?rg7_23
      case yg7_23 => (intro W hSW; (try dsimp only at hSW); go_simp; (try with_reducible rfl))
      change wpAnyH _ _ _ _ _ _ _ (Act.put _ (some 38) _) _
      simp only [Act.put, List.setIfInBounds_toArray, List.set_cons_zero, List.set_cons_succ]
      refine wpAnyH_take (i := 24) (v := ?vg7_24) rfl (by kernel_rfl) (by kernel_rfl) (by kernel_rfl) (fun _ _ _ h => h) (Or.inl ⟨by kernel_rfl, ?yg7_24⟩) hHeld ?rg7_24
      case yg7_24 => (intro W hSW; (try dsimp only at hSW); go_simp; (try with_reducible rfl))
      change wpAnyH _ _ _ _ _ _ _ (Act.put _ (some 39) _) _
      simp only [Act.put, List.setIfInBounds_toArray, List.set_cons_zero, List.set_cons_succ]
      refine wpAnyH_take (i := 25) (v := ?vg7_25) rfl (by kernel_rfl) (by kernel_rfl) (by kernel_rfl) (fun _ _ _ h => h) (Or.inl ⟨by kernel_rfl, ?yg7_25⟩) hHeld ?rg7_25
      case yg7_25 => (intro W hSW; (try dsimp only at hSW); go_simp; (try with_reducible rfl))
      change wpAnyH _ _ _ _ _ _ _ (Act.put _ (some 40) _) _
      simp only [Act.put, List.setIfInBounds_toArray, List.set_cons_zero, List.set_cons_succ]
      refine wpAnyH_take (i := 26) (v := ?vg7_26) rfl (by kernel_rfl) (by kernel_rfl) (by kernel_rfl) (fun _ _ _ h => h) (Or.inl ⟨by kernel_rfl, ?yg7_26⟩) hHeld ?rg7_26
      case yg7_26 => (intro W hSW; (try dsimp only at hSW); go_simp; (try with_reducible rfl))
      change wpAnyH _ _ _ _ _ _ _ (Act.put _ (some 41) _) _
      simp only [Act.put, List.setIfInBounds_toArray, List.set_cons_zero, List.set_cons_succ]
      refine wpAnyH_take (i := 27) (v := ?vg7_27) rfl (by kernel_rfl) (by kernel_rfl) (by kernel_rfl) (fun _ _ _ h => h) (Or.inl ⟨by kernel_rfl, ?yg7_27⟩) hHeld ?rg7_27
      case yg7_27 => (intro W hSW; (try dsimp only at hSW); go_simp; (try with_reducible rfl))
      change wpAnyH _ _ _ _ _ _ _ (Act.put _ (some 42) _) _
      simp only [Act.put, List.setIfInBounds_toArray, List.set_cons_zero, List.set_cons_succ]
      refine wpAnyH_take (i := 28) (v := ?vg7_28) rfl (by kernel_rfl) (by kernel_rfl) (by kernel_rfl) (fun _ _ _ h => h) (Or.inl ⟨by kernel_rfl, ?yg7_28⟩) hHeld ?rg7_28
      case yg7_28 => (intro W hSW; (try dsimp only at hSW); go_simp; (try with_reducible rfl))
      change wpAnyH _ _ _ _ _ _ _ (Act.put _ (some 43) _) _
      simp only [Act.put, List.setIfInBounds_toArray, List.set_cons_zero, List.set_cons_succ]
      refine wpAnyH_take (i := 29) (v := ?vg7_29) rfl (by kernel_rfl) (by kernel_rfl) (by kernel_rfl) (fun _ _ _ h => h) (Or.inl ⟨by kernel_rfl, ?yg7_29⟩) hHeld ?rg7_29
      case yg7_29 => (intro W hSW; (try dsimp only at hSW); go_simp; (try with_reducible rfl))
      change wpAnyH _ _ _ _ _ _ _ (Act.put _ (some 44) _) _
      simp only [Act.put, List.setIfInBounds_toArray, List.set_cons_zero, List.set_cons_succ]
      refine wpAnyH_take (i := 30) (v := ?vg7_30) rfl (by kernel_rfl) (by kernel_rfl) (by kernel_rfl) (fun _ _ _ h => h) (Or.inl ⟨by kernel_rfl, ?yg7_30⟩) hHeld ?rg7_30
      case yg7_30 => (intro W hSW; (try dsimp only at hSW); go_simp; (try with_reducible rfl))
      change wpAnyH _ _ _ _ _ _ _ (Act.put _ (some 45) _) _
      simp only [Act.put, List.setIfInBounds_toArray, List.set_cons_zero, List.set_cons_succ]
      refine wpAnyH_ready (rs := [31]) (by kernel_rfl) (by simp) ?_
      refine AllReadyH.cons rfl (fun K hK => ?_) AllReadyH.nil
      go_simp
      refine hK.out _ _ (⟨(dB wr p0 _).trans b0, (dB wr p1 _).trans b1, (dB wr p2 _).trans b2, (dB wr p3 _).trans b3⟩) (fun hHeld => ?_)
      clear hK K
      refine wpAnyH_done (by kernel_rfl) ?_ _
      go_wp2
      refine ⟨⟨t + 1, by omega, by go_num, ?_⟩, by simp [intOf]; omega⟩
      have h := HR.out.wput t T3
      rw [← HT.out, take_set F t HL.out (by omega), HT.out] at h
      exact h.drew
    · by_cases hlt2 : t < 64
      · obtain ⟨u15, q15⟩ : ∃ u, u = t - 15 := ⟨_, rfl⟩
        obtain ⟨u2, q2⟩ : ∃ u, u = t - 2 := ⟨_, rfl⟩
        obtain ⟨u16, q16⟩ : ∃ u, u = t - 16 := ⟨_, rfl⟩
        obtain ⟨u7, q7⟩ : ∃ u, u = t - 7 := ⟨_, rfl⟩
        have i15 : IntKind.i64.wrap ((t : Int) - 15) = (u15 : Int) := by rw [IntKind.wrap_i64]; omega
        have i2 : IntKind.i64.wrap ((t : Int) - 2) = (u2 : Int) := by rw [IntKind.wrap_i64]; omega
        have i16 : IntKind.i64.wrap ((t : Int) - 16) = (u16 : Int) := by rw [IntKind.wrap_i64]; omega
        have i7 : IntKind.i64.wrap ((t : Int) - 7) = (u7 : Int) := by rw [IntKind.wrap_i64]; omega
        have k15 : (u15 : Int) < 64 := by omega
        have k2 : (u2 : Int) < 64 := by omega
        have k16 : (u16 : Int) < 64 := by omega
        have k7 : (u7 : Int) < 64 := by omega
        have kt : (t : Int) < 64 := by omega
        have k4 : ¬ (4 : Int) * (t : Int) < 64 := by omega
        obtain ⟨A, hA⟩ : ∃ A, F.getD u15 0 = A := ⟨_, rfl⟩
        obtain ⟨B, hB⟩ : ∃ A, F.getD u2 0 = A := ⟨_, rfl⟩
        obtain ⟨C, hC⟩ : ∃ A, F.getD u16 0 = A := ⟨_, rfl⟩
        obtain ⟨D, hD⟩ : ∃ A, F.getD u7 0 = A := ⟨_, rfl⟩
        have wA : A < 4294967296 := hA ▸ HW.out.getD _
        have wB : B < 4294967296 := hB ▸ HW.out.getD _
        have wC : C < 4294967296 := hC ▸ HW.out.getD _
        have wD : D < 4294967296 := hD ▸ HW.out.getD _
        have cA : wr.cell? ⟨w.heap.size + 1, u15, none⟩ = some (.int .u32 (A : Int)) := by
          have := hrel.wcell u15 (by omega); rw [take_get F t u15 HL.out ht (by omega), hA] at this; exact this
        have cB : wr.cell? ⟨w.heap.size + 1, u2, none⟩ = some (.int .u32 (B : Int)) := by
          have := hrel.wcell u2 (by omega); rw [take_get F t u2 HL.out ht (by omega), hB] at this; exact this
        have cC : wr.cell? ⟨w.heap.size + 1, u16, none⟩ = some (.int .u32 (C : Int)) := by
          have := hrel.wcell u16 (by omega); rw [take_get F t u16 HL.out ht (by omega), hC] at this; exact this
        have cD : wr.cell? ⟨w.heap.size + 1, u7, none⟩ = some (.int .u32 (D : Int)) := by
          have := hrel.wcell u7 (by omega); rw [take_get F t u7 HL.out ht (by omega), hD] at this; exact this
        obtain ⟨y, cT⟩ : ∃ y : Int, wr.cell? ⟨w.heap.size + 1, t, none⟩ = some (.int .u32 y) := ⟨_, hrel.wcell t (by omega)⟩
        have hf : wr.frozen? ⟨w.heap.size + 1, t, none⟩ = false := hrel.wfro t
        have dC : ∀ (W : World) v, (W.setCell ⟨w.heap.size + 1, t, none⟩ v).cell? ⟨w.heap.size + 1, u16, none⟩ = W.cell? ⟨w.heap.size + 1, u16, none⟩ := by intro W v; apply World.cell?_setCell_other; intro h; injection h; omega
        have dD : ∀ (W : World) v, (W.setCell ⟨w.heap.size + 1, t, none⟩ v).cell? ⟨w.heap.size + 1, u7, none⟩ = W.cell? ⟨w.heap.size + 1, u7, none⟩ := by intro W v; apply World.cell?_setCell_other; intro h; injection h; omega
        obtain ⟨V0, v0⟩ : ∃ V, V = rotr A 7 ^^^ rotr A 18 := ⟨_, rfl⟩
        obtain ⟨V1, v1⟩ : ∃ V, V = A / 8 := ⟨_, rfl⟩
        obtain ⟨V2, v2⟩ : ∃ V, V = ssig0 A := ⟨_, rfl⟩
        obtain ⟨U0, u0⟩ : ∃ V, V = rotr B 17 ^^^ rotr B 19 := ⟨_, rfl⟩
        obtain ⟨U1, u1⟩ : ∃ V, V = B / 1024 := ⟨_, rfl⟩
        obtain ⟨U2, u2'⟩ : ∃ V, V = ssig1 B := ⟨_, rfl⟩
        have x0 : bits BinOp.xor IntKind.u32 (rotr A 7 : Int) (rotr A 18 : Int) = (V0 : Int) := by rw [v0]; exact u32_xor_nat _ _ (rotr_lt wA) (rotr_lt wA)
        have x1 : (A : Int) / 8 = (V1 : Int) := by omega
        have x2 : bits BinOp.xor IntKind.u32 (V0 : Int) (V1 : Int) = (V2 : Int) := by rw [v0, v1, v2]; exact u32_xor_nat _ _ (xor_lt (rotr_lt wA) (rotr_lt wA)) (by omega)
        have y0 : bits BinOp.xor IntKind.u32 (rotr B 17 : Int) (rotr B 19 : Int) = (U0 : Int) := by rw [u0]; exact u32_xor_nat _ _ (rotr_lt wB) (rotr_lt wB)
        have y1 : (B : Int) / 1024 = (U1 : Int) := by omega
        have y2 : bits BinOp.xor IntKind.u32 (U0 : Int) (U1 : Int) = (U2 : Int) := by rw [u0, u1, u2']; exact u32_xor_nat _ _ (xor_lt (rotr_lt wB) (rotr_lt wB)) (by omega)
        obtain ⟨T1, t1⟩ : ∃ V, V = (C + D) % 4294967296 := ⟨_, rfl⟩
        obtain ⟨T2, t2⟩ : ∃ V, V = (T1 + V2) % 4294967296 := ⟨_, rfl⟩
        obtain ⟨T3, t3⟩ : ∃ V, V = (T2 + U2) % 4294967296 := ⟨_, rfl⟩
        have s1 : IntKind.u32.wrap ((C : Int) + (D : Int)) = (T1 : Int) := by rw [IntKind.wrap_u32']; omega
        have s2 : IntKind.u32.wrap ((T1 : Int) + (V2 : Int)) = (T2 : Int) := by rw [IntKind.wrap_u32']; omega
        have s3 : IntKind.u32.wrap ((T2 : Int) + (U2 : Int)) = (T3 : Int) := by rw [IntKind.wrap_u32']; omega
        have HT : Hid (F.getD t 0 = T3) := by
          show F.getD t 0 = T3
          have := sched_late (wordsOf bs) (wordsOf_len bs) t (by omega) hlt2
          rw [HF.out, ← q16, ← q7, ← q15, ← q2, hA, hB, hC, hD, ← v2, ← u2'] at this
          rw [this, t3, t2, t1]
          omega
        have HA : Hid (A < 4294967296) := wA
        have HBB : Hid (B < 4294967296) := wB
        have HR : Hid (WordsW w.heap.size w (List.replicate 64 0) (F.take t ++ List.replicate (64 - t) 0) wr) := hrel
        clear hrel hA hB hC hD v0 v1 v2 u0 u1 u2' t1 t2 t3 wA wB wC wD q15 q2 q16 q7 hlen
        go_wp2
        refine wp_region_held_drew (S := fun W => W.cell? ⟨w.heap.size + 1, u15, none⟩ = some (.int .u32 (A : Int))) (by kernel_rfl) (cA) (fun hHeld => ?_)
        refine wpAnyH_take (i := 0) (v := ?vg8_0) rfl (by kernel_rfl) (by kernel_rfl) (by kernel_rfl) (fun _ _ _ h => h) (Or.inl ⟨by kernel_rfl, ?yg8_0⟩) hHeld ?rg8_0
        case yg8_0 => (intro W hSW; (try dsimp only at hSW); go_simp; (try with_reducible rfl))
        change wpAnyH _ _ _ _ _ _ _ (Act.put _ (some 46) _) _
        simp only [Act.put, List.setIfInBounds_toArray, List.set_cons_zero, List.set_cons_succ]
        refine wpAnyH_take (i := 1) (v := ?vg8_1) rfl (by kernel_rfl) (by kernel_rfl) (by kernel_rfl) (fun _ _ _ h => h) (Or.inl ⟨by kernel_rfl, ?yg8_1⟩) hHeld ?rg8_1
        case yg8_1 => (intro W hSW; (try dsimp only at hSW); go_simp; (try with_reducible rfl))
        change wpAnyH _ _ _ _ _ _ _ (Act.put _ (some 47) _) _
        simp only [Act.put, List.setIfInBounds_toArray, List.set_cons_zero, List.set_cons_succ]
        refine wpAnyH_take (i := 2) (v := ?vg8_2) rfl (by kernel_rfl) (by kernel_rfl) (by kernel_rfl) (fun _ _ _ h => h) (Or.inl ⟨by kernel_rfl, ?yg8_2⟩) hHeld ?rg8_2
        case yg8_2 => (intro W hSW; (try dsimp only at hSW); go_simp; (try with_reducible rfl))
        change wpAnyH _ _ _ _ _ _ _ (Act.put _ (some 48) _) _
        simp only [Act.put, List.setIfInBounds_toArray, List.set_cons_zero, List.set_cons_succ]
        refine wpAnyH_take (i := 3) (v := ?vg8_3) rfl (by kernel_rfl) (by kernel_rfl) (by kernel_rfl) (fun _ _ _ h => h) (Or.inl ⟨by kernel_rfl, ?yg8_3⟩) hHeld ?rg8_3
        case yg8_3 => (intro W hSW; (try dsimp only at hSW); go_simp; (try with_reducible rfl))
        change wpAnyH _ _ _ _ _ _ _ (Act.put _ (some 49) _) _
        simp only [Act.put, List.setIfInBounds_toArray, List.set_cons_zero, List.set_cons_succ]
        refine wpAnyH_take (i := 5) (v := ?vg8_5) rfl (by kernel_rfl) (by kernel_rfl) (by kernel_rfl) (fun _ _ _ h => h) (Or.inl ⟨by kernel_rfl, ?yg8_5⟩) hHeld ?rg8_5
        case yg8_5 => (intro W hSW; (try dsimp only at hSW); go_simp; (try with_reducible rfl))
        change wpAnyH _ _ _ _ _ _ _ (Act.put _ (some 51) _) _
        simp only [Act.put, List.setIfInBounds_toArray, List.set_cons_zero, List.set_cons_succ]
        refine wpAnyH_take (i := 6) (v := ?vg8_6) rfl (by kernel_rfl) (by kernel_rfl) (by kernel_rfl) (fun _ _ _ h => h) (Or.inl ⟨by kernel_rfl, ?yg8_6⟩) hHeld ?rg8_6
        case yg8_6 => (intro W hSW; (try dsimp only at hSW); go_simp; (try with_reducible rfl))
        change wpAnyH _ _ _ _ _ _ _ (Act.put _ (some 52) _) _
        simp only [Act.put, List.setIfInBounds_toArray, List.set_cons_zero, List.set_cons_succ]
        refine wpAnyH_take (i := 7) (v := ?vg8_7) rfl (by kernel_rfl) (by kernel_rfl) (by kernel_rfl) (fun _ _ _ h => h) (Or.inl ⟨by kernel_rfl, ?yg8_7⟩) hHeld ?rg8_7
        case yg8_7 => (intro W hSW; (try dsimp only at hSW); go_simp; (try with_reducible rfl))
        change wpAnyH _ _ _ _ _ _ _ (Act.put _ (some 53) _) _
        simp only [Act.put, List.setIfInBounds_toArray, List.set_cons_zero, List.set_cons_succ]
        refine wpAnyH_take (i := 8) (v := ?vg8_8) rfl (by kernel_rfl) (by kernel_rfl) (by kernel_rfl) (fun _ _ _ h => h) (Or.inl ⟨by kernel_rfl, ?yg8_8⟩) hHeld ?rg8_8
        case yg8_8 => (intro W hSW; (try dsimp only at hSW); go_simp; (try with_reducible rfl))
        change wpAnyH _ _ _ _ _ _ _ (Act.put _ (some 54) _) _
        simp only [Act.put, List.setIfInBounds_toArray, List.set_cons_zero, List.set_cons_succ]
        refine wpAnyH_take (i := 11) (v := ?vg8_11) rfl (by kernel_rfl) (by kernel_rfl) (by kernel_rfl) (fun _ _ _ h => h) (Or.inl ⟨by kernel_rfl, ?yg8_11⟩) hHeld ?rg8_11
        case yg8_11 => (intro W hSW; (try dsimp only at hSW); go_simp; (try with_reducible rfl))
        change wpAnyH _ _ _ _ _ _ _ (Act.put _ (some 57) _) _
        simp only [Act.put, List.setIfInBounds_toArray, List.set_cons_zero, List.set_cons_succ]
        refine wpAnyH_take (i := 12) (v := ?vg8_12) rfl (by kernel_rfl) (by kernel_rfl) (by kernel_rfl) (fun _ _ _ h => h) (Or.inl ⟨by kernel_rfl, ?yg8_12⟩) hHeld ?rg8_12
        case yg8_12 => (intro W hSW; (try dsimp only at hSW); go_simp; (try with_reducible rfl))
        change wpAnyH _ _ _ _ _ _ _ (Act.put _ (some 58) _) _
        simp only [Act.put, List.setIfInBounds_toArray, List.set_cons_zero, List.set_cons_succ]
        refine wpAnyH_take (i := 13) (v := ?vg8_13) rfl (by kernel_rfl) (by kernel_rfl) (by kernel_rfl) (fun _ _ _ h => h) (Or.inl ⟨by kernel_rfl, ?yg8_13⟩) hHeld ?rg8_13
        case yg8_13 => (intro W hSW; (try dsimp only at hSW); go_simp; (try with_reducible rfl))
        change wpAnyH _ _ _ _ _ _ _ (Act.put _ (some 59) _) _
        simp only [Act.put, List.setIfInBounds_toArray, List.set_cons_zero, List.set_cons_succ]
        refine wpAnyH_take (i := 14) (v := ?vg8_14) rfl (by kernel_rfl) (by kernel_rfl) (by kernel_rfl) (fun _ _ _ h => h) (Or.inl ⟨by kernel_rfl, ?yg8_14⟩) hHeld ?rg8_14
        case yg8_14 => (intro W hSW; (try dsimp only at hSW); go_simp; (try with_reducible rfl))
        change wpAnyH _ _ _ _ _ _ _ (Act.put _ (some 60) _) _
        simp only [Act.put, List.setIfInBounds_toArray, List.set_cons_zero, List.set_cons_succ]
        refine wpAnyH_take (i := 15) (v := ?vg8_15) rfl (by kernel_rfl) (by kernel_rfl) (by kernel_rfl) (fun _ _ _ h => h) (Or.inl ⟨by kernel_rfl, ?yg8_15⟩) hHeld ?rg8_15
        case yg8_15 => (intro W hSW; (try dsimp only at hSW); go_simp; (try with_reducible rfl))
        change wpAnyH _ _ _ _ _ _ _ (Act.put _ (some 61) _) _
        simp only [Act.put, List.setIfInBounds_toArray, List.set_cons_zero, List.set_cons_succ]
        refine wpAnyH_ready (rs := [4]) (by kernel_rfl) (by simp) ?_
        refine AllReadyH.cons rfl (fun K hK => ?_) AllReadyH.nil
        go_simp
        refine (turned_any A 7 _ HA.out (by omega) (by omega)).mono ?_
        rintro e w3 ⟨rfl, hw3⟩; subst w3
        refine hK.out _ _ (hHeld) (fun hHeld => ?_)
        clear hK K
        try simp only [Act.put, List.setIfInBounds_toArray, List.set_cons_zero, List.set_cons_succ]
        refine wpAnyH_ready (rs := [9]) (by kernel_rfl) (by simp) ?_
        refine AllReadyH.cons rfl (fun K hK => ?_) AllReadyH.nil
        go_simp
        refine (turned_any A 18 _ HA.out (by omega) (by omega)).mono ?_
        rintro e w3 ⟨rfl, hw3⟩; subst w3
        refine hK.out _ _ (hHeld) (fun hHeld => ?_)
        clear hK K
        try simp only [Act.put, List.setIfInBounds_toArray, List.set_cons_zero, List.set_cons_succ]
        refine wpAnyH_take (i := 10) (v := ?vg8_10) rfl (by kernel_rfl) (by kernel_rfl) (by kernel_rfl) (fun _ _ _ h => h) (Or.inl ⟨by kernel_rfl, ?yg8_10⟩) hHeld ?rg8_10
        case yg8_10 => (intro W hSW; (try dsimp only at hSW); go_simp; (try with_reducible rfl))
        change wpAnyH _ _ _ _ _ _ _ (Act.put _ (some 56) _) _
        simp only [Act.put, List.setIfInBounds_toArray, List.set_cons_zero, List.set_cons_succ]
        refine wpAnyH_take (i := 16) (v := ?vg8_16) rfl (by kernel_rfl) (by kernel_rfl) (by kernel_rfl) (fun _ _ _ h => h) (Or.inl ⟨by kernel_rfl, ?yg8_16⟩) hHeld ?rg8_16
        case yg8_16 => (intro W hSW; (try dsimp only at hSW); go_simp; (try with_reducible rfl))
        change wpAnyH _ _ _ _ _ _ _ (Act.put _ (some 62) _) _
        simp only [Act.put, List.setIfInBounds_toArray, List.set_cons_zero, List.set_cons_succ]
        refine wpAnyH_take (i := 17) (v := ?vg8_17) rfl (by kernel_rfl) (by kernel_rfl) (by kernel_rfl) (fun _ _ _ h => h) (Or.inl ⟨by kernel_rfl, ?yg8_17⟩) hHeld ?rg8_17
        case yg8_17 => (intro W hSW; (try dsimp only at hSW); go_simp; (try with_reducible rfl))
        change wpAnyH _ _ _ _ _ _ _ (Act.put _ (some 6) _) _
        simp only [Act.put, List.setIfInBounds_toArray, List.set_cons_zero, List.set_cons_succ]
        refine wpAnyH_done (by kernel_rfl) ?_ _
        go_wp2
        refine wp_region_held_drew (S := fun W => W.cell? ⟨w.heap.size + 1, u2, none⟩ = some (.int .u32 (B : Int))) (by kernel_rfl) (cB) (fun hHeld => ?_)
        refine wpAnyH_take (i := 0) (v := ?vg9_0) rfl (by kernel_rfl) (by kernel_rfl) (by kernel_rfl) (fun _ _ _ h => h) (Or.inl ⟨by kernel_rfl, ?yg9_0⟩) hHeld ?rg9_0
        case yg9_0 => (intro W hSW; (try dsimp only at hSW); go_simp; (try with_reducible rfl))
        change wpAnyH _ _ _ _ _ _ _ (Act.put _ (some 63) _) _
        simp only [Act.put, List.setIfInBounds_toArray, List.set_cons_zero, List.set_cons_succ]
        refine wpAnyH_take (i := 1) (v := ?vg9_1) rfl (by kernel_rfl) (by kernel_rfl) (by kernel_rfl) (fun _ _ _ h => h) (Or.inl ⟨by kernel_rfl, ?yg9_1⟩) hHeld ?rg9_1
        case yg9_1 => (intro W hSW; (try dsimp only at hSW); go_simp; (try with_reducible rfl))
        change wpAnyH _ _ _ _ _ _ _ (Act.put _ (some 64) _) _
        simp only [Act.put, List.setIfInBounds_toArray, List.set_cons_zero, List.set_cons_succ]
        refine wpAnyH_take (i := 2) (v := ?vg9_2) rfl (by kernel_rfl) (by kernel_rfl) (by kernel_rfl) (fun _ _ _ h => h) (Or.inl ⟨by kernel_rfl, ?yg9_2⟩) hHeld ?rg9_2
        case yg9_2 => (intro W hSW; (try dsimp only at hSW); go_simp; (try with_reducible rfl))
        change wpAnyH _ _ _ _ _ _ _ (Act.put _ (some 65) _) _
        simp only [Act.put, List.setIfInBounds_toArray, List.set_cons_zero, List.set_cons_succ]
        refine wpAnyH_take (i := 3) (v := ?vg9_3) rfl (by kernel_rfl) (by kernel_rfl) (by kernel_rfl) (fun _ _ _ h => h) (Or.inl ⟨by kernel_rfl, ?yg9_3⟩) hHeld ?rg9_3
        case yg9_3 => (intro W hSW; (try dsimp only at hSW); go_simp; (try with_reducible rfl))
        change wpAnyH _ _ _ _ _ _ _ (Act.put _ (some 66) _) _
        simp only [Act.put, List.setIfInBounds_toArray, List.set_cons_zero, List.set_cons_succ]
        refine wpAnyH_take (i := 5) (v := ?vg9_5) rfl (by kernel_rfl) (by kernel_rfl) (by kernel_rfl) (fun _ _ _ h => h) (Or.inl ⟨by kernel_rfl, ?yg9_5⟩) hHeld ?rg9_5
        case yg9_5 => (intro W hSW; (try dsimp only at hSW); go_simp; (try with_reducible rfl))
        change wpAnyH _ _ _ _ _ _ _ (Act.put _ (some 68) _) _
        simp only [Act.put, List.setIfInBounds_toArray, List.set_cons_zero, List.set_cons_succ]
        refine wpAnyH_take (i := 6) (v := ?vg9_6) rfl (by kernel_rfl) (by kernel_rfl) (by kernel_rfl) (fun _ _ _ h => h) (Or.inl ⟨by kernel_rfl, ?yg9_6⟩) hHeld ?rg9_6
        case yg9_6 => (intro W hSW; (try dsimp only at hSW); go_simp; (try with_reducible rfl))
        change wpAnyH _ _ _ _ _ _ _ (Act.put _ (some 69) _) _
        simp only [Act.put, List.setIfInBounds_toArray, List.set_cons_zero, List.set_cons_succ]
        refine wpAnyH_take (i := 7) (v := ?vg9_7) rfl (by kernel_rfl) (by kernel_rfl) (by kernel_rfl) (fun _ _ _ h => h) (Or.inl ⟨by kernel_rfl, ?yg9_7⟩) hHeld ?rg9_7
        case yg9_7 => (intro W hSW; (try dsimp only at hSW); go_simp; (try with_reducible rfl))
        change wpAnyH _ _ _ _ _ _ _ (Act.put _ (some 70) _) _
        simp only [Act.put, List.setIfInBounds_toArray, List.set_cons_zero, List.set_cons_succ]
        refine wpAnyH_take (i := 8) (v := ?vg9_8) rfl (by kernel_rfl) (by kernel_rfl) (by kernel_rfl) (fun _ _ _ h => h) (Or.inl ⟨by kernel_rfl, ?yg9_8⟩) hHeld ?rg9_8
        case yg9_8 => (intro W hSW; (try dsimp only at hSW); go_simp; (try with_reducible rfl))
        change wpAnyH _ _ _ _ _ _ _ (Act.put _ (some 71) _) _
        simp only [Act.put, List.setIfInBounds_toArray, List.set_cons_zero, List.set_cons_succ]
        refine wpAnyH_take (i := 11) (v := ?vg9_11) rfl (by kernel_rfl) (by kernel_rfl) (by kernel_rfl) (fun _ _ _ h => h) (Or.inl ⟨by kernel_rfl, ?yg9_11⟩) hHeld ?rg9_11
        case yg9_11 => (intro W hSW; (try dsimp only at hSW); go_simp; (try with_reducible rfl))
        change wpAnyH _ _ _ _ _ _ _ (Act.put _ (some 74) _) _
        simp only [Act.put, List.setIfInBounds_toArray, List.set_cons_zero, List.set_cons_succ]
        refine wpAnyH_take (i := 12) (v := ?vg9_12) rfl (by kernel_rfl) (by kernel_rfl) (by kernel_rfl) (fun _ _ _ h => h) (Or.inl ⟨by kernel_rfl, ?yg9_12⟩) hHeld ?rg9_12
        case yg9_12 => (intro W hSW; (try dsimp only at hSW); go_simp; (try with_reducible rfl))
        change wpAnyH _ _ _ _ _ _ _ (Act.put _ (some 75) _) _
        simp only [Act.put, List.setIfInBounds_toArray, List.set_cons_zero, List.set_cons_succ]
        refine wpAnyH_take (i := 13) (v := ?vg9_13) rfl (by kernel_rfl) (by kernel_rfl) (by kernel_rfl) (fun _ _ _ h => h) (Or.inl ⟨by kernel_rfl, ?yg9_13⟩) hHeld ?rg9_13
        case yg9_13 => (intro W hSW; (try dsimp only at hSW); go_simp; (try with_reducible rfl))
        change wpAnyH _ _ _ _ _ _ _ (Act.put _ (some 76) _) _
        simp only [Act.put, List.setIfInBounds_toArray, List.set_cons_zero, List.set_cons_succ]
        refine wpAnyH_take (i := 14) (v := ?vg9_14) rfl (by kernel_rfl) (by kernel_rfl) (by kernel_rfl) (fun _ _ _ h => h) (Or.inl ⟨by kernel_rfl, ?yg9_14⟩) hHeld ?rg9_14
        case yg9_14 => (intro W hSW; (try dsimp only at hSW); go_simp; (try with_reducible rfl))
        change wpAnyH _ _ _ _ _ _ _ (Act.put _ (some 77) _) _
        simp only [Act.put, List.setIfInBounds_toArray, List.set_cons_zero, List.set_cons_succ]
        refine wpAnyH_take (i := 15) (v := ?vg9_15) rfl (by kernel_rfl) (by kernel_rfl) (by kernel_rfl) (fun _ _ _ h => h) (Or.inl ⟨by kernel_rfl, ?yg9_15⟩) hHeld ?rg9_15
        case yg9_15 => (intro W hSW; (try dsimp only at hSW); go_simp; (try with_reducible rfl))
        change wpAnyH _ _ _ _ _ _ _ (Act.put _ (some 78) _) _
        simp only [Act.put, List.setIfInBounds_toArray, List.set_cons_zero, List.set_cons_succ]
        refine wpAnyH_ready (rs := [4]) (by kernel_rfl) (by simp) ?_
        refine AllReadyH.cons rfl (fun K hK => ?_) AllReadyH.nil
        go_simp
        refine (turned_any B 17 _ HBB.out (by omega) (by omega)).mono ?_
        rintro e w3 ⟨rfl, hw3⟩; subst w3
        refine hK.out _ _ (hHeld) (fun hHeld => ?_)
        clear hK K
        try simp only [Act.put, List.setIfInBounds_toArray, List.set_cons_zero, List.set_cons_succ]
        refine wpAnyH_ready (rs := [9]) (by kernel_rfl) (by simp) ?_
        refine AllReadyH.cons rfl (fun K hK => ?_) AllReadyH.nil
        go_simp
        refine (turned_any B 19 _ HBB.out (by omega) (by omega)).mono ?_
        rintro e w3 ⟨rfl, hw3⟩; subst w3
        refine hK.out _ _ (hHeld) (fun hHeld => ?_)
        clear hK K
        try simp only [Act.put, List.setIfInBounds_toArray, List.set_cons_zero, List.set_cons_succ]
        refine wpAnyH_take (i := 10) (v := ?vg9_10) rfl (by kernel_rfl) (by kernel_rfl) (by kernel_rfl) (fun _ _ _ h => h) (Or.inl ⟨by kernel_rfl, ?yg9_10⟩) hHeld ?rg9_10
        case yg9_10 => (intro W hSW; (try dsimp only at hSW); go_simp; (try with_reducible rfl))
        change wpAnyH _ _ _ _ _ _ _ (Act.put _ (some 73) _) _
        simp only [Act.put, List.setIfInBounds_toArray, List.set_cons_zero, List.set_cons_succ]
        refine wpAnyH_take (i := 16) (v := ?vg9_16) rfl (by kernel_rfl) (by kernel_rfl) (by kernel_rfl) (fun _ _ _ h => h) (Or.inl ⟨by kernel_rfl, ?yg9_16⟩) hHeld ?rg9_16
        case yg9_16 => (intro W hSW; (try dsimp only at hSW); go_simp; (try with_reducible rfl))
        change wpAnyH _ _ _ _ _ _ _ (Act.put _ (some 79) _) _
        simp only [Act.put, List.setIfInBounds_toArray, List.set_cons_zero, List.set_cons_succ]
        refine wpAnyH_take (i := 17) (v := ?vg9_17) rfl (by kernel_rfl) (by kernel_rfl) (by kernel_rfl) (fun _ _ _ h => h) (Or.inl ⟨by kernel_rfl, ?yg9_17⟩) hHeld ?rg9_17
        case yg9_17 => (intro W hSW; (try dsimp only at hSW); go_simp; (try with_reducible rfl))
        change wpAnyH _ _ _ _ _ _ _ (Act.put _ (some 7) _) _
        simp only [Act.put, List.setIfInBounds_toArray, List.set_cons_zero, List.set_cons_succ]
        refine wpAnyH_done (by kernel_rfl) ?_ _
        go_wp2
        refine wp_region_held_drew (S := fun W => W.cell? ⟨w.heap.size + 1, u16, none⟩ = some (.int .u32 (C : Int)) ∧ W.cell? ⟨w.heap.size + 1, u7, none⟩ = some (.int .u32 (D : Int))) (by kernel_rfl) (⟨cC, cD⟩) (fun hHeld => ?_)
        refine wpAnyH_take (i := 0) (v := ?vg10_0) rfl (by kernel_rfl) (by kernel_rfl) (by kernel_rfl) (fun _ _ _ h => h) (Or.inl ⟨by kernel_rfl, ?yg10_0⟩) hHeld ?rg10_0
        case yg10_0 => (intro W hSW; (try dsimp only at hSW); go_simp; (try with_reducible rfl))
        change wpAnyH _ _ _ _ _ _ _ (Act.put _ (some 80) _) _
        simp only [Act.put, List.setIfInBounds_toArray, List.set_cons_zero, List.set_cons_succ]
        refine wpAnyH_take (i := 1) (v := ?vg10_1) rfl (by kernel_rfl) (by kernel_rfl) (by kernel_rfl) (fun _ _ _ h => h) (Or.inl ⟨by kernel_rfl, ?yg10_1⟩) hHeld ?rg10_1
        case yg10_1 => (intro W hSW; (try dsimp only at hSW); go_simp; (try with_reducible rfl))
        change wpAnyH _ _ _ _ _ _ _ (Act.put _ (some 81) _) _
        simp only [Act.put, List.setIfInBounds_toArray, List.set_cons_zero, List.set_cons_succ]
        refine wpAnyH_take (i := 2) (v := ?vg10_2) rfl (by kernel_rfl) (by kernel_rfl) (by kernel_rfl) (fun _ _ _ h => h) (Or.inl ⟨by kernel_rfl, ?yg10_2⟩) hHeld ?rg10_2
        case yg10_2 => (intro W hSW; (try dsimp only at hSW); go_simp; (try with_reducible rfl))
        change wpAnyH _ _ _ _ _ _ _ (Act.put _ (some 82) _) _
        simp only [Act.put, List.setIfInBounds_toArray, List.set_cons_zero, List.set_cons_succ]
        refine wpAnyH_take (i := 3) (v := ?vg10_3) rfl (by kernel_rfl) (by kernel_rfl) (by kernel_rfl) (fun _ _ _ h => h) (Or.inl ⟨by kernel_rfl, ?yg10_3⟩) hHeld ?rg10_3
        case yg10_3 => (intro W hSW; (try dsimp only at hSW); go_simp; (try with_reducible rfl))
        change wpAnyH _ _ _ _ _ _ _ (Act.put _ (some 83) _) _
        simp only [Act.put, List.setIfInBounds_toArray, List.set_cons_zero, List.set_cons_succ]
        refine wpAnyH_take (i := 4) (v := ?vg10_4) rfl (by kernel_rfl) (by kernel_rfl) (by kernel_rfl) (fun _ _ _ h => h) (Or.inl ⟨by kernel_rfl, ?yg10_4⟩) hHeld ?rg10_4
        case yg10_4 => (intro W hSW; (try dsimp only at hSW); go_simp; (try with_reducible rfl))
        change wpAnyH _ _ _ _ _ _ _ (Act.put _ (some 84) _) _
        simp only [Act.put, List.setIfInBounds_toArray, List.set_cons_zero, List.set_cons_succ]
        refine wpAnyH_take (i := 5) (v := ?vg10_5) rfl (by kernel_rfl) (by kernel_rfl) (by kernel_rfl) (fun _ _ _ h => h) (Or.inl ⟨by kernel_rfl, ?yg10_5⟩) hHeld ?rg10_5
        case yg10_5 => (intro W hSW; (try dsimp only at hSW); go_simp; (try with_reducible rfl))
        change wpAnyH _ _ _ _ _ _ _ (Act.put _ (some 85) _) _
        simp only [Act.put, List.setIfInBounds_toArray, List.set_cons_zero, List.set_cons_succ]
        refine wpAnyH_take (i := 6) (v := ?vg10_6) rfl (by kernel_rfl) (by kernel_rfl) (by kernel_rfl) (fun _ _ _ h => h) (Or.inl ⟨by kernel_rfl, ?yg10_6⟩) hHeld ?rg10_6
        case yg10_6 => (intro W hSW; (try dsimp only at hSW); go_simp; (try with_reducible rfl))
        change wpAnyH _ _ _ _ _ _ _ (Act.put _ (some 86) _) _
        simp only [Act.put, List.setIfInBounds_toArray, List.set_cons_zero, List.set_cons_succ]
        refine wpAnyH_take (i := 7) (v := ?vg10_7) rfl (by kernel_rfl) (by kernel_rfl) (by kernel_rfl) (fun _ _ _ h => h) (Or.inl ⟨by kernel_rfl, ?yg10_7⟩) hHeld ?rg10_7
        case yg10_7 => (intro W hSW; (try dsimp only at hSW); go_simp; (try with_reducible rfl))
        change wpAnyH _ _ _ _ _ _ _ (Act.put _ (some 87) _) _
        simp only [Act.put, List.setIfInBounds_toArray, List.set_cons_zero, List.set_cons_succ]
        refine wpAnyH_take (i := 8) (v := ?vg10_8) rfl (by kernel_rfl) (by kernel_rfl) (by kernel_rfl) (fun _ _ _ h => h) (Or.inl ⟨by kernel_rfl, ?yg10_8⟩) hHeld ?rg10_8
        case yg10_8 => (intro W hSW; (try dsimp only at hSW); go_simp; (try with_reducible rfl))
        change wpAnyH _ _ _ _ _ _ _ (Act.put _ (some 88) _) _
        simp only [Act.put, List.setIfInBounds_toArray, List.set_cons_zero, List.set_cons_succ]
        refine wpAnyH_take (i := 9) (v := ?vg10_9) rfl (by kernel_rfl) (by kernel_rfl) (by kernel_rfl) (fun _ _ _ h => h) (Or.inl ⟨by kernel_rfl, ?yg10_9⟩) hHeld ?rg10_9
        case yg10_9 => (intro W hSW; (try dsimp only at hSW); go_simp; (try with_reducible rfl))
        change wpAnyH _ _ _ _ _ _ _ (Act.put _ (some 89) _) _
        simp only [Act.put, List.setIfInBounds_toArray, List.set_cons_zero, List.set_cons_succ]
        refine wpAnyH_take (i := 10) (v := ?vg10_10) rfl (by kernel_rfl) (by kernel_rfl) (by kernel_rfl) (fun _ _ _ h => h) (Or.inl ⟨by kernel_rfl, ?yg10_10⟩) hHeld ?rg10_10
        case yg10_10 => (intro W hSW; (try dsimp only at hSW); go_simp; (try with_reducible rfl))
        change wpAnyH _ _ _ _ _ _ _ (Act.put _ (some 90) _) _
        simp only [Act.put, List.setIfInBounds_toArray, List.set_cons_zero, List.set_cons_succ]
        refine wpAnyH_take (i := 11) (v := ?vg10_11) rfl (by kernel_rfl) (by kernel_rfl) (by kernel_rfl) (fun _ _ _ h => h) (Or.inl ⟨by kernel_rfl, ?yg10_11⟩) hHeld ?rg10_11
        case yg10_11 => (intro W hSW; (try dsimp only at hSW); go_simp; (try with_reducible rfl))
        change wpAnyH _ _ _ _ _ _ _ (Act.put _ (some 91) _) _
        simp only [Act.put, List.setIfInBounds_toArray, List.set_cons_zero, List.set_cons_succ]
        refine wpAnyH_take (i := 12) (v := ?vg10_12) rfl (by kernel_rfl) (by kernel_rfl) (by kernel_rfl) (fun _ _ _ h => h) (Or.inl ⟨by kernel_rfl, ?yg10_12⟩) hHeld ?rg10_12
        case yg10_12 => (intro W hSW; (try dsimp only at hSW); go_simp; (try with_reducible rfl))
        change wpAnyH _ _ _ _ _ _ _ (Act.put _ (some 92) _) _
        simp only [Act.put, List.setIfInBounds_toArray, List.set_cons_zero, List.set_cons_succ]
        refine wpAnyH_take (i := 13) (v := ?vg10_13) rfl (by kernel_rfl) (by kernel_rfl) (by kernel_rfl) (fun _ _ _ h => h) (Or.inl ⟨by kernel_rfl, ?yg10_13⟩) hHeld ?rg10_13
        case yg10_13 => (intro W hSW; (try dsimp only at hSW); go_simp; (try with_reducible rfl))
        change wpAnyH _ _ _ _ _ _ _ (Act.put _ (some 93) _) _
        simp only [Act.put, List.setIfInBounds_toArray, List.set_cons_zero, List.set_cons_succ]
        refine wpAnyH_take (i := 14) (v := ?vg10_14) rfl (by kernel_rfl) (by kernel_rfl) (by kernel_rfl) (fun _ _ _ h => h) (Or.inl ⟨by kernel_rfl, ?yg10_14⟩) hHeld ?rg10_14
        case yg10_14 => (intro W hSW; (try dsimp only at hSW); go_simp; (try with_reducible rfl))
        change wpAnyH _ _ _ _ _ _ _ (Act.put _ (some 94) _) _
        simp only [Act.put, List.setIfInBounds_toArray, List.set_cons_zero, List.set_cons_succ]
        refine wpAnyH_ready (rs := [15]) (by kernel_rfl) (by simp) ?_
        refine AllReadyH.cons rfl (fun K hK => ?_) AllReadyH.nil
        go_simp
        refine hK.out _ _ (⟨(dC wr _).trans cC, (dD wr _).trans cD⟩) (fun hHeld => ?_)
        clear hK K
        refine wpAnyH_done (by kernel_rfl) ?_ _
        go_wp2
        refine ⟨⟨t + 1, by omega, by go_num, ?_⟩, by simp [intOf]; omega⟩
        have h := HR.out.wput t T3
        rw [← HT.out, take_set F t HL.out (by omega), HT.out] at h
        exact h.drew.drew.drew
      · obtain rfl : t = 64 := by omega
        have e : F.take 64 ++ List.replicate (64 - 64) 0 = F := by rw [List.take_of_length_le (by rw [HL.out]; omega)]; simp
        rw [e] at hrel
        have HR : Hid (WordsW w.heap.size w (List.replicate 64 0) F wr) := hrel
        have hi : (Tryd.prog.info? 74).map (·.size) = some (u32v F).size := by rw [u32v_size, HL.out]; kernel_rfl
        have HI : Hid ((Tryd.prog.info? 74).map (·.size) = some (u32v F).size) := hi
        clear hrel e hi hlen
        go_wp2_with (first | (refine wpList_load_row rfl 74 _ rfl (w.heap.size + 1) rfl 74 (u32v F) (0, 0) _ HR.out.wc Tryd.underlying74 rfl HI.out ?_) | (refine wpList_store_row rfl 74 _ _ rfl w.heap.size (u32v F) rfl rfl 74 (u32v (List.replicate 64 0)) HR.out.rc HI.out (by rw [u32v_size, u32v_size, HL.out]; rfl) (u32v_all _) ?_))
        refine bodyPost_ret (v := .agg (u32v F)) ?_ rfl ⟨rfl, below_setRow HR.out.bl _ (Nat.le_refl _) _⟩
        exact results_cell_row rfl _ _ w.heap.size 74 _ (0, 0) _ rfl (setRow_heap _ _ _ _ _ _ HR.out.rc) Tryd.underlying74 rfl HI.out
end Go.Proofs.YtbflkkffpcaakabDoor
