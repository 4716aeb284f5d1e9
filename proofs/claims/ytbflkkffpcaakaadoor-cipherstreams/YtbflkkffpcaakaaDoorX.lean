/- Walk over the document's Mix. -/
import Derived.Test.YtbflkkffpcaakaaDoorW
namespace Go.Proofs.YtbflkkffpcaakaaDoor
open Go.RowKit
set_option maxRecDepth 100000 in
set_option maxHeartbeats 4000000 in
theorem mix_any (ks : List Nat) (s0 s1 s2 s3 s4 s5 s6 s7 : Nat) (b : ByteArray) (w : World) (hk : ks.length = 64) (hkw : Wd ks) (hsw : Wd [s0, s1, s2, s3, s4, s5, s6, s7]) (hb : b.size = 64) :
    Calls Tryd.prog 48 #[.agg (u32v ks), .agg (u32v [s0, s1, s2, s3, s4, s5, s6, s7]), .string b] w fun e w' => e = .returned (.agg (u32v (mixL ks [s0, s1, s2, s3, s4, s5, s6, s7] b.data.toList))) ∧ Below w.heap.size w w' := by
  have HS : Hid (Wd [s0, s1, s2, s3, s4, s5, s6, s7]) := hsw
  have HK : Hid (Wd ks) := hkw
  clear hkw hsw
  obtain ⟨ss, hss⟩ : ∃ ss, ss = [s0, s1, s2, s3, s4, s5, s6, s7] := ⟨_, rfl⟩
  have HSS : Hid (ss = [s0, s1, s2, s3, s4, s5, s6, s7]) := hss
  rw [← hss]
  clear hss
  go_enter Tryd.func48, Tryd.ntmps48
  go_wp2
  go_loopw [8] (fun i wr => ∃ t : Nat, t ≤ 16 ∧ i = .int .i64 t ∧ MixW w.heap.size w ks ss (List.replicate 8 0) ((wordsOf b.data.toList).take t ++ List.replicate (64 - t) 0) wr) (fun i _ => 16 - (intOf i).toNat)
  case atStart =>
    exact ⟨0, by omega, rfl, MixW.start w ks ss (List.replicate 8 0) (List.replicate 64 0)⟩
  case round =>
    obtain ⟨t, ht, rfl, hrel⟩ := hrel
    by_cases hlt : t < 16
    · have e1 := wordsOf_snoc b.data.toList t hlt
      obtain ⟨p0, q0⟩ : ∃ p, p = 4 * t := ⟨_, rfl⟩
      obtain ⟨p1, q1⟩ : ∃ p, p = 4 * t + 1 := ⟨_, rfl⟩
      obtain ⟨p2, q2⟩ : ∃ p, p = 4 * t + 2 := ⟨_, rfl⟩
      obtain ⟨p3, q3⟩ : ∃ p, p = 4 * t + 3 := ⟨_, rfl⟩
      have i0 : IntKind.i64.wrap ((4 : Int) * (t : Int)) = (p0 : Int) := by rw [IntKind.wrap_i64]; omega
      have i1 : IntKind.i64.wrap ((p0 : Int) + 1) = (p1 : Int) := by rw [IntKind.wrap_i64]; omega
      have i2 : IntKind.i64.wrap ((p0 : Int) + 2) = (p2 : Int) := by rw [IntKind.wrap_i64]; omega
      have i3 : IntKind.i64.wrap ((p0 : Int) + 3) = (p3 : Int) := by rw [IntKind.wrap_i64]; omega
      have hb0 : p0 < b.size := by omega
      have hb1 : p1 < b.size := by omega
      have hb2 : p2 < b.size := by omega
      have hb3 : p3 < b.size := by omega
      have k0 : (p0 : Int) < 64 := by omega
      have k1 : (p1 : Int) < 64 := by omega
      have k2 : (p2 : Int) < 64 := by omega
      have k3 : (p3 : Int) < 64 := by omega
      obtain ⟨X0, hX0⟩ : ∃ X, (b[p0]'hb0).toNat = X := ⟨_, rfl⟩
      obtain ⟨X1, hX1⟩ : ∃ X, (b[p1]'hb1).toNat = X := ⟨_, rfl⟩
      obtain ⟨X2, hX2⟩ : ∃ X, (b[p2]'hb2).toNat = X := ⟨_, rfl⟩
      obtain ⟨X3, hX3⟩ : ∃ X, (b[p3]'hb3).toNat = X := ⟨_, rfl⟩
      have z0 : X0 ≤ 255 := by have := (b[p0]'hb0).toNat_lt; omega
      have z1 : X1 ≤ 255 := by have := (b[p1]'hb1).toNat_lt; omega
      have z2 : X2 ≤ 255 := by have := (b[p2]'hb2).toNat_lt; omega
      have z3 : X3 ≤ 255 := by have := (b[p3]'hb3).toNat_lt; omega
      obtain ⟨Y0, y0⟩ : ∃ Y, Y = X0 * 16777216 := ⟨_, rfl⟩
      obtain ⟨Y1, y1⟩ : ∃ Y, Y = X1 * 65536 := ⟨_, rfl⟩
      obtain ⟨Y2, y2⟩ : ∃ Y, Y = X2 * 256 := ⟨_, rfl⟩
      obtain ⟨T1, t1⟩ : ∃ Y, Y = Y0 + Y1 := ⟨_, rfl⟩
      obtain ⟨T2, t2⟩ : ∃ Y, Y = T1 + Y2 := ⟨_, rfl⟩
      obtain ⟨T3, t3⟩ : ∃ Y, Y = T2 + X3 := ⟨_, rfl⟩
      have c0 : IntKind.u32.wrap (X0 : Int) = (X0 : Int) := by rw [IntKind.wrap_u32']; omega
      have c1 : IntKind.u32.wrap (X1 : Int) = (X1 : Int) := by rw [IntKind.wrap_u32']; omega
      have c2 : IntKind.u32.wrap (X2 : Int) = (X2 : Int) := by rw [IntKind.wrap_u32']; omega
      have c3 : IntKind.u32.wrap (X3 : Int) = (X3 : Int) := by rw [IntKind.wrap_u32']; omega
      have m0 : IntKind.u32.wrap ((X0 : Int) * 16777216) = (Y0 : Int) := by rw [IntKind.wrap_u32']; omega
      have m1 : IntKind.u32.wrap ((X1 : Int) * 65536) = (Y1 : Int) := by rw [IntKind.wrap_u32']; omega
      have m2 : IntKind.u32.wrap ((X2 : Int) * 256) = (Y2 : Int) := by rw [IntKind.wrap_u32']; omega
      have s1 : IntKind.u32.wrap ((Y0 : Int) + (Y1 : Int)) = (T1 : Int) := by rw [IntKind.wrap_u32']; omega
      have s2 : IntKind.u32.wrap ((T1 : Int) + (Y2 : Int)) = (T2 : Int) := by rw [IntKind.wrap_u32']; omega
      have s3 : IntKind.u32.wrap ((T2 : Int) + (X3 : Int)) = (T3 : Int) := by rw [IntKind.wrap_u32']; omega
      have HT : Hid ((b.data.toList.getD (4 * t) 0).toNat * 16777216 + (b.data.toList.getD (4 * t + 1) 0).toNat * 65536 + (b.data.toList.getD (4 * t + 2) 0).toNat * 256 + (b.data.toList.getD (4 * t + 3) 0).toNat = T3) := by
        have g0 : (b.data.toList.getD (4 * t) 0).toNat = X0 := by rw [← hX0, ← q0]; simp [hb0]; rfl
        have g1 : (b.data.toList.getD (4 * t + 1) 0).toNat = X1 := by rw [← hX1, ← q1]; simp [hb1]; rfl
        have g2 : (b.data.toList.getD (4 * t + 2) 0).toNat = X2 := by rw [← hX2, ← q2]; simp [hb2]; rfl
        have g3 : (b.data.toList.getD (4 * t + 3) 0).toNat = X3 := by rw [← hX3, ← q3]; simp [hb3]; rfl
        rw [g0, g1, g2, g3]; show _ = _; omega
      have HT3 : Hid (T3 < 4294967296) := by show _ < _; omega
      clear q0 q1 q2 q3 y0 y1 y2 t1 t2 t3 z0 z1 z2 z3
      have kt : (t : Int) < 64 := by omega
      have hf : wr.frozen? ⟨w.heap.size + 1 + 1 + 1, t, none⟩ = false := hrel.wfro t
      obtain ⟨y, hc⟩ : ∃ y : Int, wr.cell? ⟨w.heap.size + 1 + 1 + 1, t, none⟩ = some (.int .u32 y) := ⟨_, hrel.wcell t (by simp [wordsOf_len]; omega)⟩
      have E1 : Hid _ := e1
      clear e1
      have HR : Hid (MixW w.heap.size w ks ss (List.replicate 8 0) ((wordsOf b.data.toList).take t ++ List.replicate (64 - t) 0) wr) := hrel
      clear hrel
      go_wp2
      refine wp_region_held_drew (S := fun _ => True) (by kernel_rfl) (trivial) (fun hHeld => ?_)
      refine wpAnyH_take (i := 0) (v := ?v0) rfl (by kernel_rfl) (by kernel_rfl) (by kernel_rfl) (fun _ _ _ h => h) (Or.inl ⟨by kernel_rfl, ?y0⟩) hHeld ?r0
      case y0 => (intro W hSW; (try dsimp only at hSW); go_simp; (try with_reducible rfl))
      change wpAnyH _ _ _ _ _ _ _ (Act.put _ (some 21) _) _
      simp only [Act.put, List.setIfInBounds_toArray, List.set_cons_zero, List.set_cons_succ]
      refine wpAnyH_take (i := 1) (v := ?v1) rfl (by kernel_rfl) (by kernel_rfl) (by kernel_rfl) (fun _ _ _ h => h) (Or.inl ⟨by kernel_rfl, ?y1⟩) hHeld ?r1
      case y1 => (intro W hSW; (try dsimp only at hSW); go_simp; (try with_reducible rfl))
      change wpAnyH _ _ _ _ _ _ _ (Act.put _ (some 22) _) _
      simp only [Act.put, List.setIfInBounds_toArray, List.set_cons_zero, List.set_cons_succ]
      refine wpAnyH_take (i := 2) (v := ?v2) rfl (by kernel_rfl) (by kernel_rfl) (by kernel_rfl) (fun _ _ _ h => h) (Or.inl ⟨by kernel_rfl, ?y2⟩) hHeld ?r2
      case y2 => (intro W hSW; (try dsimp only at hSW); go_simp; (try with_reducible rfl))
      change wpAnyH _ _ _ _ _ _ _ (Act.put _ (some 23) _) _
      simp only [Act.put, List.setIfInBounds_toArray, List.set_cons_zero, List.set_cons_succ]
      refine wpAnyH_take (i := 3) (v := ?v3) rfl (by kernel_rfl) (by kernel_rfl) (by kernel_rfl) (fun _ _ _ h => h) (Or.inl ⟨by kernel_rfl, ?y3⟩) hHeld ?r3
      case y3 => (intro W hSW; (try dsimp only at hSW); go_simp; (try with_reducible rfl))
      change wpAnyH _ _ _ _ _ _ _ (Act.put _ (some 24) _) _
      simp only [Act.put, List.setIfInBounds_toArray, List.set_cons_zero, List.set_cons_succ]
      refine wpAnyH_take (i := 4) (v := ?v4) rfl (by kernel_rfl) (by kernel_rfl) (by kernel_rfl) (fun _ _ _ h => h) (Or.inl ⟨by kernel_rfl, ?y4⟩) hHeld ?r4
      case y4 => (intro W hSW; (try dsimp only at hSW); go_simp; (try with_reducible rfl))
      change wpAnyH _ _ _ _ _ _ _ (Act.put _ (some 25) _) _
      simp only [Act.put, List.setIfInBounds_toArray, List.set_cons_zero, List.set_cons_succ]
      refine wpAnyH_take (i := 5) (v := ?v5) rfl (by kernel_rfl) (by kernel_rfl) (by kernel_rfl) (fun _ _ _ h => h) (Or.inl ⟨by kernel_rfl, ?y5⟩) hHeld ?r5
      case y5 => (intro W hSW; (try dsimp only at hSW); go_simp; (try with_reducible rfl))
      change wpAnyH _ _ _ _ _ _ _ (Act.put _ (some 26) _) _
      simp only [Act.put, List.setIfInBounds_toArray, List.set_cons_zero, List.set_cons_succ]
      refine wpAnyH_take (i := 6) (v := ?v6) rfl (by kernel_rfl) (by kernel_rfl) (by kernel_rfl) (fun _ _ _ h => h) (Or.inl ⟨by kernel_rfl, ?y6⟩) hHeld ?r6
      case y6 => (intro W hSW; (try dsimp only at hSW); go_simp; (try with_reducible rfl))
      change wpAnyH _ _ _ _ _ _ _ (Act.put _ (some 27) _) _
      simp only [Act.put, List.setIfInBounds_toArray, List.set_cons_zero, List.set_cons_succ]
      refine wpAnyH_take (i := 7) (v := ?v7) rfl (by kernel_rfl) (by kernel_rfl) (by kernel_rfl) (fun _ _ _ h => h) (Or.inl ⟨by kernel_rfl, ?y7⟩) hHeld ?r7
      case y7 => (intro W hSW; (try dsimp only at hSW); go_simp; (try with_reducible rfl))
      change wpAnyH _ _ _ _ _ _ _ (Act.put _ (some 28) _) _
      simp only [Act.put, List.setIfInBounds_toArray, List.set_cons_zero, List.set_cons_succ]
      refine wpAnyH_take (i := 8) (v := ?v8) rfl (by kernel_rfl) (by kernel_rfl) (by kernel_rfl) (fun _ _ _ h => h) (Or.inl ⟨by kernel_rfl, ?y8⟩) hHeld ?r8
      case y8 => (intro W hSW; (try dsimp only at hSW); go_simp; (try with_reducible rfl))
      change wpAnyH _ _ _ _ _ _ _ (Act.put _ (some 29) _) _
      simp only [Act.put, List.setIfInBounds_toArray, List.set_cons_zero, List.set_cons_succ]
      refine wpAnyH_take (i := 9) (v := ?v9) rfl (by kernel_rfl) (by kernel_rfl) (by kernel_rfl) (fun _ _ _ h => h) (Or.inl ⟨by kernel_rfl, ?y9⟩) hHeld ?r9
      case y9 => (intro W hSW; (try dsimp only at hSW); go_simp; (try with_reducible rfl))
      change wpAnyH _ _ _ _ _ _ _ (Act.put _ (some 30) _) _
      simp only [Act.put, List.setIfInBounds_toArray, List.set_cons_zero, List.set_cons_succ]
      refine wpAnyH_take (i := 10) (v := ?v10) rfl (by kernel_rfl) (by kernel_rfl) (by kernel_rfl) (fun _ _ _ h => h) (Or.inl ⟨by kernel_rfl, ?y10⟩) hHeld ?r10
      case y10 => (intro W hSW; (try dsimp only at hSW); go_simp; (try with_reducible rfl))
      change wpAnyH _ _ _ _ _ _ _ (Act.put _ (some 31) _) _
      simp only [Act.put, List.setIfInBounds_toArray, List.set_cons_zero, List.set_cons_succ]
      refine wpAnyH_take (i := 11) (v := ?v11) rfl (by kernel_rfl) (by kernel_rfl) (by kernel_rfl) (fun _ _ _ h => h) (Or.inl ⟨by kernel_rfl, ?y11⟩) hHeld ?r11
      case y11 => (intro W hSW; (try dsimp only at hSW); go_simp; (try with_reducible rfl))
      change wpAnyH _ _ _ _ _ _ _ (Act.put _ (some 32) _) _
      simp only [Act.put, List.setIfInBounds_toArray, List.set_cons_zero, List.set_cons_succ]
      refine wpAnyH_take (i := 12) (v := ?v12) rfl (by kernel_rfl) (by kernel_rfl) (by kernel_rfl) (fun _ _ _ h => h) (Or.inl ⟨by kernel_rfl, ?y12⟩) hHeld ?r12
      case y12 => (intro W hSW; (try dsimp only at hSW); go_simp; (try with_reducible rfl))
      change wpAnyH _ _ _ _ _ _ _ (Act.put _ (some 33) _) _
      simp only [Act.put, List.setIfInBounds_toArray, List.set_cons_zero, List.set_cons_succ]
      refine wpAnyH_take (i := 13) (v := ?v13) rfl (by kernel_rfl) (by kernel_rfl) (by kernel_rfl) (fun _ _ _ h => h) (Or.inl ⟨by kernel_rfl, ?y13⟩) hHeld ?r13
      case y13 => (intro W hSW; (try dsimp only at hSW); go_simp; (try with_reducible rfl))
      change wpAnyH _ _ _ _ _ _ _ (Act.put _ (some 34) _) _
      simp only [Act.put, List.setIfInBounds_toArray, List.set_cons_zero, List.set_cons_succ]
      refine wpAnyH_take (i := 14) (v := ?v14) rfl (by kernel_rfl) (by kernel_rfl) (by kernel_rfl) (fun _ _ _ h => h) (Or.inl ⟨by kernel_rfl, ?y14⟩) hHeld ?r14
      case y14 => (intro W hSW; (try dsimp only at hSW); go_simp; (try with_reducible rfl))
      change wpAnyH _ _ _ _ _ _ _ (Act.put _ (some 35) _) _
      simp only [Act.put, List.setIfInBounds_toArray, List.set_cons_zero, List.set_cons_succ]
      refine wpAnyH_take (i := 15) (v := ?v15) rfl (by kernel_rfl) (by kernel_rfl) (by kernel_rfl) (fun _ _ _ h => h) (Or.inl ⟨by kernel_rfl, ?y15⟩) hHeld ?r15
      case y15 => (intro W hSW; (try dsimp only at hSW); go_simp; (try with_reducible rfl))
      change wpAnyH _ _ _ _ _ _ _ (Act.put _ (some 36) _) _
      simp only [Act.put, List.setIfInBounds_toArray, List.set_cons_zero, List.set_cons_succ]
      refine wpAnyH_take (i := 16) (v := ?v16) rfl (by kernel_rfl) (by kernel_rfl) (by kernel_rfl) (fun _ _ _ h => h) (Or.inl ⟨by kernel_rfl, ?y16⟩) hHeld ?r16
      case y16 => (intro W hSW; (try dsimp only at hSW); go_simp; (try with_reducible rfl))
      change wpAnyH _ _ _ _ _ _ _ (Act.put _ (some 37) _) _
      simp only [Act.put, List.setIfInBounds_toArray, List.set_cons_zero, List.set_cons_succ]
      refine wpAnyH_take (i := 17) (v := ?v17) rfl (by kernel_rfl) (by kernel_rfl) (by kernel_rfl) (fun _ _ _ h => h) (Or.inl ⟨by kernel_rfl, ?y17⟩) hHeld ?r17
      case y17 => (intro W hSW; (try dsimp only at hSW); go_simp; (try with_reducible rfl))
      change wpAnyH _ _ _ _ _ _ _ (Act.put _ (some 38) _) _
      simp only [Act.put, List.setIfInBounds_toArray, List.set_cons_zero, List.set_cons_succ]
      refine wpAnyH_take (i := 18) (v := ?v18) rfl (by kernel_rfl) (by kernel_rfl) (by kernel_rfl) (fun _ _ _ h => h) (Or.inl ⟨by kernel_rfl, ?y18⟩) hHeld ?r18
      case y18 => (intro W hSW; (try dsimp only at hSW); go_simp; (try with_reducible rfl))
      change wpAnyH _ _ _ _ _ _ _ (Act.put _ (some 39) _) _
      simp only [Act.put, List.setIfInBounds_toArray, List.set_cons_zero, List.set_cons_succ]
      refine wpAnyH_take (i := 19) (v := ?v19) rfl (by kernel_rfl) (by kernel_rfl) (by kernel_rfl) (fun _ _ _ h => h) (Or.inl ⟨by kernel_rfl, ?y19⟩) hHeld ?r19
      case y19 => (intro W hSW; (try dsimp only at hSW); go_simp; (try with_reducible rfl))
      change wpAnyH _ _ _ _ _ _ _ (Act.put _ (some 40) _) _
      simp only [Act.put, List.setIfInBounds_toArray, List.set_cons_zero, List.set_cons_succ]
      refine wpAnyH_take (i := 20) (v := ?v20) rfl (by kernel_rfl) (by kernel_rfl) (by kernel_rfl) (fun _ _ _ h => h) (Or.inl ⟨by kernel_rfl, ?y20⟩) hHeld ?r20
      case y20 => (intro W hSW; (try dsimp only at hSW); go_simp; (try with_reducible rfl))
      change wpAnyH _ _ _ _ _ _ _ (Act.put _ (some 41) _) _
      simp only [Act.put, List.setIfInBounds_toArray, List.set_cons_zero, List.set_cons_succ]
      refine wpAnyH_take (i := 21) (v := ?v21) rfl (by kernel_rfl) (by kernel_rfl) (by kernel_rfl) (fun _ _ _ h => h) (Or.inl ⟨by kernel_rfl, ?y21⟩) hHeld ?r21
      case y21 => (intro W hSW; (try dsimp only at hSW); go_simp; (try with_reducible rfl))
      change wpAnyH _ _ _ _ _ _ _ (Act.put _ (some 42) _) _
      simp only [Act.put, List.setIfInBounds_toArray, List.set_cons_zero, List.set_cons_succ]
      refine wpAnyH_take (i := 22) (v := ?v22) rfl (by kernel_rfl) (by kernel_rfl) (by kernel_rfl) (fun _ _ _ h => h) (Or.inl ⟨by kernel_rfl, ?y22⟩) hHeld ?r22
      case y22 => (intro W hSW; (try dsimp only at hSW); go_simp; (try with_reducible rfl))
      change wpAnyH _ _ _ _ _ _ _ (Act.put _ (some 43) _) _
      simp only [Act.put, List.setIfInBounds_toArray, List.set_cons_zero, List.set_cons_succ]
      refine wpAnyH_take (i := 23) (v := ?v23) rfl (by kernel_rfl) (by kernel_rfl) (by kernel_rfl) (fun _ _ _ h => h) (Or.inl ⟨by kernel_rfl, ?y23⟩) hHeld ?r23
      case y23 => (intro W hSW; (try dsimp only at hSW); go_simp; (try with_reducible rfl))
      change wpAnyH _ _ _ _ _ _ _ (Act.put _ (some 44) _) _
      simp only [Act.put, List.setIfInBounds_toArray, List.set_cons_zero, List.set_cons_succ]
      refine wpAnyH_take (i := 24) (v := ?v24) rfl (by kernel_rfl) (by kernel_rfl) (by kernel_rfl) (fun _ _ _ h => h) (Or.inl ⟨by kernel_rfl, ?y24⟩) hHeld ?r24
      case y24 => (intro W hSW; (try dsimp only at hSW); go_simp; (try with_reducible rfl))
      change wpAnyH _ _ _ _ _ _ _ (Act.put _ (some 45) _) _
      simp only [Act.put, List.setIfInBounds_toArray, List.set_cons_zero, List.set_cons_succ]
      refine wpAnyH_take (i := 25) (v := ?v25) rfl (by kernel_rfl) (by kernel_rfl) (by kernel_rfl) (fun _ _ _ h => h) (Or.inl ⟨by kernel_rfl, ?y25⟩) hHeld ?r25
      case y25 => (intro W hSW; (try dsimp only at hSW); go_simp; (try with_reducible rfl))
      change wpAnyH _ _ _ _ _ _ _ (Act.put _ (some 46) _) _
      simp only [Act.put, List.setIfInBounds_toArray, List.set_cons_zero, List.set_cons_succ]
      refine wpAnyH_take (i := 26) (v := ?v26) rfl (by kernel_rfl) (by kernel_rfl) (by kernel_rfl) (fun _ _ _ h => h) (Or.inl ⟨by kernel_rfl, ?y26⟩) hHeld ?r26
      case y26 => (intro W hSW; (try dsimp only at hSW); go_simp; (try with_reducible rfl))
      change wpAnyH _ _ _ _ _ _ _ (Act.put _ (some 47) _) _
      simp only [Act.put, List.setIfInBounds_toArray, List.set_cons_zero, List.set_cons_succ]
      refine wpAnyH_take (i := 27) (v := ?v27) rfl (by kernel_rfl) (by kernel_rfl) (by kernel_rfl) (fun _ _ _ h => h) (Or.inl ⟨by kernel_rfl, ?y27⟩) hHeld ?r27
      case y27 => (intro W hSW; (try dsimp only at hSW); go_simp; (try with_reducible rfl))
      change wpAnyH _ _ _ _ _ _ _ (Act.put _ (some 48) _) _
      simp only [Act.put, List.setIfInBounds_toArray, List.set_cons_zero, List.set_cons_succ]
      refine wpAnyH_take (i := 28) (v := ?v28) rfl (by kernel_rfl) (by kernel_rfl) (by kernel_rfl) (fun _ _ _ h => h) (Or.inl ⟨by kernel_rfl, ?y28⟩) hHeld ?r28
      case y28 => (intro W hSW; (try dsimp only at hSW); go_simp; (try with_reducible rfl))
      change wpAnyH _ _ _ _ _ _ _ (Act.put _ (some 49) _) _
      simp only [Act.put, List.setIfInBounds_toArray, List.set_cons_zero, List.set_cons_succ]
      refine wpAnyH_take (i := 29) (v := ?v29) rfl (by kernel_rfl) (by kernel_rfl) (by kernel_rfl) (fun _ _ _ h => h) (Or.inl ⟨by kernel_rfl, ?y29⟩) hHeld ?r29
      case y29 => (intro W hSW; (try dsimp only at hSW); go_simp; (try with_reducible rfl))
      change wpAnyH _ _ _ _ _ _ _ (Act.put _ (some 50) _) _
      simp only [Act.put, List.setIfInBounds_toArray, List.set_cons_zero, List.set_cons_succ]
      refine wpAnyH_take (i := 30) (v := ?v30) rfl (by kernel_rfl) (by kernel_rfl) (by kernel_rfl) (fun _ _ _ h => h) (Or.inl ⟨by kernel_rfl, ?y30⟩) hHeld ?r30
      case y30 => (intro W hSW; (try dsimp only at hSW); go_simp; (try with_reducible rfl))
      change wpAnyH _ _ _ _ _ _ _ (Act.put _ (some 51) _) _
      simp only [Act.put, List.setIfInBounds_toArray, List.set_cons_zero, List.set_cons_succ]
      refine wpAnyH_ready (rs := [31]) (by kernel_rfl) (by simp) ?_
      refine AllReadyH.cons rfl (fun K hK => ?_) AllReadyH.nil
      go_simp
      refine hK.out _ _ (trivial) (fun hHeld => ?_)
      clear hK K
      refine wpAnyH_done (by kernel_rfl) ?_ _
      go_wp2
      go_roundw
      case rel =>
        refine ⟨t + 1, by omega, by go_num, ?_⟩
        have h := (HR.out.wput t T3)
        have el : ((wordsOf b.data.toList).take t).length = t := by simp [wordsOf_len]; omega
        have es := set_mid ((wordsOf b.data.toList).take t) (64 - (t + 1)) T3
        rw [el, show 64 - (t + 1) + 1 = 64 - t by omega] at es
        rw [es] at h
        rw [E1.out, HT.out]
        exact h.drew
      case measure => simp [intOf]; omega
    · obtain rfl : t = 16 := by omega
      have HR : Hid (MixW w.heap.size w ks ss (List.replicate 8 0) ((wordsOf b.data.toList).take 16 ++ List.replicate (64 - 16) 0) wr) := hrel
      clear hrel
      go_wp2
      go_loopw [9] (fun i wr => ∃ t : Nat, 16 ≤ t ∧ t ≤ 64 ∧ i = .int .i64 t ∧ MixW w.heap.size w ks ss (List.replicate 8 0) (schedL (wordsOf b.data.toList) (t - 16) ++ List.replicate (64 - t) 0) wr) (fun i _ => 64 - (intOf i).toNat)
      case atStart => exact ⟨16, by omega, by omega, rfl, HR.out⟩
      case round =>
        clear HR
        obtain ⟨t, ht0, ht, rfl, hrel⟩ := hrel
        by_cases hlt : t < 64
        · obtain ⟨u15, q15⟩ : ∃ u, u = t - 15 := ⟨_, rfl⟩
          obtain ⟨u2, q2⟩ : ∃ u, u = t - 2 := ⟨_, rfl⟩
          obtain ⟨u16, q16⟩ : ∃ u, u = t - 16 := ⟨_, rfl⟩
          obtain ⟨u7, q7⟩ : ∃ u, u = t - 7 := ⟨_, rfl⟩
          have i15 : IntKind.i64.wrap ((t : Int) - 15) = (u15 : Int) := by rw [IntKind.wrap_i64]; omega
          have i2 : IntKind.i64.wrap ((t : Int) - 2) = (u2 : Int) := by rw [IntKind.wrap_i64]; omega
          have i16 : IntKind.i64.wrap ((t : Int) - 16) = (u16 : Int) := by rw [IntKind.wrap_i64]; omega
          have i7 : IntKind.i64.wrap ((t : Int) - 7) = (u7 : Int) := by rw [IntKind.wrap_i64]; omega
          have k15 : (u15 : Int) < 64 := by omega
          have k2 : (u2 : Int) < 64 := by omega
          have k16 : (u16 : Int) < 64 := by omega
          have k7 : (u7 : Int) < 64 := by omega
          have kt : (t : Int) < 64 := by omega
          have hwl : (schedL (wordsOf b.data.toList) (t - 16)).length = t := by rw [schedL_len, wordsOf_len]; omega
          have hww := schedL_wd (wordsOf_wd b.data.toList) (t - 16)
          obtain ⟨L, hL⟩ : ∃ L, schedL (wordsOf b.data.toList) (t - 16) = L := ⟨_, rfl⟩
          rw [hL] at hrel hwl hww
          have hget : ∀ i, i < t → (L ++ List.replicate (64 - t) 0).getD i 0 = L.getD i 0 := fun i hi => by
            rw [List.getD_eq_getElem?_getD, List.getD_eq_getElem?_getD, List.getElem?_append_left (by omega)]
          have hlen : (L ++ List.replicate (64 - t) 0).length = 64 := by simp; omega
          obtain ⟨A, hA⟩ : ∃ A, L.getD (t - 15) 0 = A := ⟨_, rfl⟩
          obtain ⟨B, hB⟩ : ∃ A, L.getD (t - 2) 0 = A := ⟨_, rfl⟩
          obtain ⟨C, hC⟩ : ∃ A, L.getD (t - 16) 0 = A := ⟨_, rfl⟩
          obtain ⟨D, hD⟩ : ∃ A, L.getD (t - 7) 0 = A := ⟨_, rfl⟩
          have wA : A < 4294967296 := hA ▸ hww.getD _
          have wB : B < 4294967296 := hB ▸ hww.getD _
          have wC : C < 4294967296 := hC ▸ hww.getD _
          have wD : D < 4294967296 := hD ▸ hww.getD _
          have cA : wr.cell? ⟨w.heap.size + 1 + 1 + 1, u15, none⟩ = some (.int .u32 (A : Int)) := by
            have := hrel.wcell u15 (by omega); rw [hget _ (by omega), q15, hA] at this; rw [q15]; exact this
          have cB : wr.cell? ⟨w.heap.size + 1 + 1 + 1, u2, none⟩ = some (.int .u32 (B : Int)) := by
            have := hrel.wcell u2 (by omega); rw [hget _ (by omega), q2, hB] at this; rw [q2]; exact this
          have cC : wr.cell? ⟨w.heap.size + 1 + 1 + 1, u16, none⟩ = some (.int .u32 (C : Int)) := by
            have := hrel.wcell u16 (by omega); rw [hget _ (by omega), q16, hC] at this; rw [q16]; exact this
          have cD : wr.cell? ⟨w.heap.size + 1 + 1 + 1, u7, none⟩ = some (.int .u32 (D : Int)) := by
            have := hrel.wcell u7 (by omega); rw [hget _ (by omega), q7, hD] at this; rw [q7]; exact this
          obtain ⟨y, cT⟩ : ∃ y : Int, wr.cell? ⟨w.heap.size + 1 + 1 + 1, t, none⟩ = some (.int .u32 y) := ⟨_, hrel.wcell t (by omega)⟩
          have hf : wr.frozen? ⟨w.heap.size + 1 + 1 + 1, t, none⟩ = false := hrel.wfro t
          have dC : ∀ (W : World) v, (W.setCell ⟨w.heap.size + 1 + 1 + 1, t, none⟩ v).cell? ⟨w.heap.size + 1 + 1 + 1, u16, none⟩ = W.cell? ⟨w.heap.size + 1 + 1 + 1, u16, none⟩ := by intro W v; apply World.cell?_setCell_other; intro h; injection h; omega
          have dD : ∀ (W : World) v, (W.setCell ⟨w.heap.size + 1 + 1 + 1, t, none⟩ v).cell? ⟨w.heap.size + 1 + 1 + 1, u7, none⟩ = W.cell? ⟨w.heap.size + 1 + 1 + 1, u7, none⟩ := by intro W v; apply World.cell?_setCell_other; intro h; injection h; omega
          obtain ⟨V0, v0⟩ : ∃ V, V = rotr A 7 ^^^ rotr A 18 := ⟨_, rfl⟩
          obtain ⟨V1, v1⟩ : ∃ V, V = A / 8 := ⟨_, rfl⟩
          obtain ⟨V2, v2⟩ : ∃ V, V = ssig0 A := ⟨_, rfl⟩
          obtain ⟨U0, u0⟩ : ∃ V, V = rotr B 17 ^^^ rotr B 19 := ⟨_, rfl⟩
          obtain ⟨U1, u1⟩ : ∃ V, V = B / 1024 := ⟨_, rfl⟩
          obtain ⟨U2, u2'⟩ : ∃ V, V = ssig1 B := ⟨_, rfl⟩
          have x0 : bits BinOp.xor IntKind.u32 (rotr A 7 : Int) (rotr A 18 : Int) = (V0 : Int) := by rw [v0]; exact u32_xor_nat _ _ (rotr_lt wA) (rotr_lt wA)
          have x1 : (A : Int) / 8 = (V1 : Int) := by omega
          have x2 : bits BinOp.xor IntKind.u32 (V0 : Int) (V1 : Int) = (V2 : Int) := by rw [v0, v1, v2]; exact u32_xor_nat _ _ (xor_lt (rotr_lt wA) (rotr_lt wA)) (by omega)
          have y0 : bits BinOp.xor IntKind.u32 (rotr B 17 : Int) (rotr B 19 : Int) = (U0 : Int) := by rw [u0]; exact u32_xor_nat _ _ (rotr_lt wB) (rotr_lt wB)
          have y1 : (B : Int) / 1024 = (U1 : Int) := by omega
          have y2 : bits BinOp.xor IntKind.u32 (U0 : Int) (U1 : Int) = (U2 : Int) := by rw [u0, u1, u2']; exact u32_xor_nat _ _ (xor_lt (rotr_lt wB) (rotr_lt wB)) (by omega)
          obtain ⟨T1, t1⟩ : ∃ V, V = (C + D) % 4294967296 := ⟨_, rfl⟩
          obtain ⟨T2, t2⟩ : ∃ V, V = (T1 + V2) % 4294967296 := ⟨_, rfl⟩
          obtain ⟨T3, t3⟩ : ∃ V, V = (T2 + U2) % 4294967296 := ⟨_, rfl⟩
          have s1 : IntKind.u32.wrap ((C : Int) + (D : Int)) = (T1 : Int) := by rw [IntKind.wrap_u32']; omega
          have s2 : IntKind.u32.wrap ((T1 : Int) + (V2 : Int)) = (T2 : Int) := by rw [IntKind.wrap_u32']; omega
          have s3 : IntKind.u32.wrap ((T2 : Int) + (U2 : Int)) = (T3 : Int) := by rw [IntKind.wrap_u32']; omega
          have HT : Hid (nextW L t = T3) := by
            show nextW L t = T3
            unfold nextW
            rw [hA, hB, hC, hD, t3, t2, t1, ← v2, ← u2']
            omega
          have HR : Hid (MixW w.heap.size w ks ss (List.replicate 8 0) (L ++ List.replicate (64 - t) 0) wr) := hrel
          have HL : Hid (schedL (wordsOf b.data.toList) (t - 16) = L) := hL
          have HN : Hid (L.length = t) := hwl
          have HA : Hid (A < 4294967296) := wA
          have HB : Hid (B < 4294967296) := wB
          clear q15 q2 q16 q7 hA hB hC hD v0 v1 v2 u0 u1 u2' t1 t2 t3 hrel hget hlen hwl hww hL wA wB wC wD
          go_wp2
          refine wp_region_held_drew (S := fun W => W.cell? ⟨w.heap.size + 1 + 1 + 1, u15, none⟩ = some (.int .u32 (A : Int))) (by kernel_rfl) (cA) (fun hHeld => ?_)
          refine wpAnyH_take (i := 0) (v := ?vg9_0) rfl (by kernel_rfl) (by kernel_rfl) (by kernel_rfl) (fun _ _ _ h => h) (Or.inl ⟨by kernel_rfl, ?yg9_0⟩) hHeld ?rg9_0
          case yg9_0 => (intro W hSW; (try dsimp only at hSW); go_simp; (try with_reducible rfl))
          change wpAnyH _ _ _ _ _ _ _ (Act.put _ (some 56) _) _
          simp only [Act.put, List.setIfInBounds_toArray, List.set_cons_zero, List.set_cons_succ]
          refine wpAnyH_take (i := 1) (v := ?vg9_1) rfl (by kernel_rfl) (by kernel_rfl) (by kernel_rfl) (fun _ _ _ h => h) (Or.inl ⟨by kernel_rfl, ?yg9_1⟩) hHeld ?rg9_1
          case yg9_1 => (intro W hSW; (try dsimp only at hSW); go_simp; (try with_reducible rfl))
          change wpAnyH _ _ _ _ _ _ _ (Act.put _ (some 57) _) _
          simp only [Act.put, List.setIfInBounds_toArray, List.set_cons_zero, List.set_cons_succ]
          refine wpAnyH_take (i := 2) (v := ?vg9_2) rfl (by kernel_rfl) (by kernel_rfl) (by kernel_rfl) (fun _ _ _ h => h) (Or.inl ⟨by kernel_rfl, ?yg9_2⟩) hHeld ?rg9_2
          case yg9_2 => (intro W hSW; (try dsimp only at hSW); go_simp; (try with_reducible rfl))
          change wpAnyH _ _ _ _ _ _ _ (Act.put _ (some 58) _) _
          simp only [Act.put, List.setIfInBounds_toArray, List.set_cons_zero, List.set_cons_succ]
          refine wpAnyH_take (i := 3) (v := ?vg9_3) rfl (by kernel_rfl) (by kernel_rfl) (by kernel_rfl) (fun _ _ _ h => h) (Or.inl ⟨by kernel_rfl, ?yg9_3⟩) hHeld ?rg9_3
          case yg9_3 => (intro W hSW; (try dsimp only at hSW); go_simp; (try with_reducible rfl))
          change wpAnyH _ _ _ _ _ _ _ (Act.put _ (some 59) _) _
          simp only [Act.put, List.setIfInBounds_toArray, List.set_cons_zero, List.set_cons_succ]
          refine wpAnyH_take (i := 5) (v := ?vg9_5) rfl (by kernel_rfl) (by kernel_rfl) (by kernel_rfl) (fun _ _ _ h => h) (Or.inl ⟨by kernel_rfl, ?yg9_5⟩) hHeld ?rg9_5
          case yg9_5 => (intro W hSW; (try dsimp only at hSW); go_simp; (try with_reducible rfl))
          change wpAnyH _ _ _ _ _ _ _ (Act.put _ (some 61) _) _
          simp only [Act.put, List.setIfInBounds_toArray, List.set_cons_zero, List.set_cons_succ]
          refine wpAnyH_take (i := 6) (v := ?vg9_6) rfl (by kernel_rfl) (by kernel_rfl) (by kernel_rfl) (fun _ _ _ h => h) (Or.inl ⟨by kernel_rfl, ?yg9_6⟩) hHeld ?rg9_6
          case yg9_6 => (intro W hSW; (try dsimp only at hSW); go_simp; (try with_reducible rfl))
          change wpAnyH _ _ _ _ _ _ _ (Act.put _ (some 62) _) _
          simp only [Act.put, List.setIfInBounds_toArray, List.set_cons_zero, List.set_cons_succ]
          refine wpAnyH_take (i := 7) (v := ?vg9_7) rfl (by kernel_rfl) (by kernel_rfl) (by kernel_rfl) (fun _ _ _ h => h) (Or.inl ⟨by kernel_rfl, ?yg9_7⟩) hHeld ?rg9_7
          case yg9_7 => (intro W hSW; (try dsimp only at hSW); go_simp; (try with_reducible rfl))
          change wpAnyH _ _ _ _ _ _ _ (Act.put _ (some 63) _) _
          simp only [Act.put, List.setIfInBounds_toArray, List.set_cons_zero, List.set_cons_succ]
          refine wpAnyH_take (i := 8) (v := ?vg9_8) rfl (by kernel_rfl) (by kernel_rfl) (by kernel_rfl) (fun _ _ _ h => h) (Or.inl ⟨by kernel_rfl, ?yg9_8⟩) hHeld ?rg9_8
          case yg9_8 => (intro W hSW; (try dsimp only at hSW); go_simp; (try with_reducible rfl))
          change wpAnyH _ _ _ _ _ _ _ (Act.put _ (some 64) _) _
          simp only [Act.put, List.setIfInBounds_toArray, List.set_cons_zero, List.set_cons_succ]
          refine wpAnyH_take (i := 11) (v := ?vg9_11) rfl (by kernel_rfl) (by kernel_rfl) (by kernel_rfl) (fun _ _ _ h => h) (Or.inl ⟨by kernel_rfl, ?yg9_11⟩) hHeld ?rg9_11
          case yg9_11 => (intro W hSW; (try dsimp only at hSW); go_simp; (try with_reducible rfl))
          change wpAnyH _ _ _ _ _ _ _ (Act.put _ (some 67) _) _
          simp only [Act.put, List.setIfInBounds_toArray, List.set_cons_zero, List.set_cons_succ]
          refine wpAnyH_take (i := 12) (v := ?vg9_12) rfl (by kernel_rfl) (by kernel_rfl) (by kernel_rfl) (fun _ _ _ h => h) (Or.inl ⟨by kernel_rfl, ?yg9_12⟩) hHeld ?rg9_12
          case yg9_12 => (intro W hSW; (try dsimp only at hSW); go_simp; (try with_reducible rfl))
          change wpAnyH _ _ _ _ _ _ _ (Act.put _ (some 68) _) _
          simp only [Act.put, List.setIfInBounds_toArray, List.set_cons_zero, List.set_cons_succ]
          refine wpAnyH_take (i := 13) (v := ?vg9_13) rfl (by kernel_rfl) (by kernel_rfl) (by kernel_rfl) (fun _ _ _ h => h) (Or.inl ⟨by kernel_rfl, ?yg9_13⟩) hHeld ?rg9_13
          case yg9_13 => (intro W hSW; (try dsimp only at hSW); go_simp; (try with_reducible rfl))
          change wpAnyH _ _ _ _ _ _ _ (Act.put _ (some 69) _) _
          simp only [Act.put, List.setIfInBounds_toArray, List.set_cons_zero, List.set_cons_succ]
          refine wpAnyH_take (i := 14) (v := ?vg9_14) rfl (by kernel_rfl) (by kernel_rfl) (by kernel_rfl) (fun _ _ _ h => h) (Or.inl ⟨by kernel_rfl, ?yg9_14⟩) hHeld ?rg9_14
          case yg9_14 => (intro W hSW; (try dsimp only at hSW); go_simp; (try with_reducible rfl))
          change wpAnyH _ _ _ _ _ _ _ (Act.put _ (some 70) _) _
          simp only [Act.put, List.setIfInBounds_toArray, List.set_cons_zero, List.set_cons_succ]
          refine wpAnyH_take (i := 15) (v := ?vg9_15) rfl (by kernel_rfl) (by kernel_rfl) (by kernel_rfl) (fun _ _ _ h => h) (Or.inl ⟨by kernel_rfl, ?yg9_15⟩) hHeld ?rg9_15
          case yg9_15 => (intro W hSW; (try dsimp only at hSW); go_simp; (try with_reducible rfl))
          change wpAnyH _ _ _ _ _ _ _ (Act.put _ (some 71) _) _
          simp only [Act.put, List.setIfInBounds_toArray, List.set_cons_zero, List.set_cons_succ]
          refine wpAnyH_ready (rs := [4]) (by kernel_rfl) (by simp) ?_
          refine AllReadyH.cons rfl (fun K hK => ?_) AllReadyH.nil
          go_simp
          refine (turn_any A 7 _ HA.out (by omega) (by omega)).mono ?_
          rintro e w3 ⟨rfl, hw3⟩; subst w3
          refine hK.out _ _ (hHeld) (fun hHeld => ?_)
          clear hK K
          try simp only [Act.put, List.setIfInBounds_toArray, List.set_cons_zero, List.set_cons_succ]
          refine wpAnyH_ready (rs := [9]) (by kernel_rfl) (by simp) ?_
          refine AllReadyH.cons rfl (fun K hK => ?_) AllReadyH.nil
          go_simp
          refine (turn_any A 18 _ HA.out (by omega) (by omega)).mono ?_
          rintro e w3 ⟨rfl, hw3⟩; subst w3
          refine hK.out _ _ (hHeld) (fun hHeld => ?_)
          clear hK K
          try simp only [Act.put, List.setIfInBounds_toArray, List.set_cons_zero, List.set_cons_succ]
          refine wpAnyH_take (i := 10) (v := ?vg9_10) rfl (by kernel_rfl) (by kernel_rfl) (by kernel_rfl) (fun _ _ _ h => h) (Or.inl ⟨by kernel_rfl, ?yg9_10⟩) hHeld ?rg9_10
          case yg9_10 => (intro W hSW; (try dsimp only at hSW); go_simp; (try with_reducible rfl))
          change wpAnyH _ _ _ _ _ _ _ (Act.put _ (some 66) _) _
          simp only [Act.put, List.setIfInBounds_toArray, List.set_cons_zero, List.set_cons_succ]
          refine wpAnyH_take (i := 16) (v := ?vg9_16) rfl (by kernel_rfl) (by kernel_rfl) (by kernel_rfl) (fun _ _ _ h => h) (Or.inl ⟨by kernel_rfl, ?yg9_16⟩) hHeld ?rg9_16
          case yg9_16 => (intro W hSW; (try dsimp only at hSW); go_simp; (try with_reducible rfl))
          change wpAnyH _ _ _ _ _ _ _ (Act.put _ (some 72) _) _
          simp only [Act.put, List.setIfInBounds_toArray, List.set_cons_zero, List.set_cons_succ]
          refine wpAnyH_take (i := 17) (v := ?vg9_17) rfl (by kernel_rfl) (by kernel_rfl) (by kernel_rfl) (fun _ _ _ h => h) (Or.inl ⟨by kernel_rfl, ?yg9_17⟩) hHeld ?rg9_17
          case yg9_17 => (intro W hSW; (try dsimp only at hSW); go_simp; (try with_reducible rfl))
          change wpAnyH _ _ _ _ _ _ _ (Act.put _ (some 10) _) _
          simp only [Act.put, List.setIfInBounds_toArray, List.set_cons_zero, List.set_cons_succ]
          refine wpAnyH_done (by kernel_rfl) ?_ _
          go_wp2
          refine wp_region_held_drew (S := fun W => W.cell? ⟨w.heap.size + 1 + 1 + 1, u2, none⟩ = some (.int .u32 (B : Int))) (by kernel_rfl) (cB) (fun hHeld => ?_)
          refine wpAnyH_take (i := 0) (v := ?vg10_0) rfl (by kernel_rfl) (by kernel_rfl) (by kernel_rfl) (fun _ _ _ h => h) (Or.inl ⟨by kernel_rfl, ?yg10_0⟩) hHeld ?rg10_0
          case yg10_0 => (intro W hSW; (try dsimp only at hSW); go_simp; (try with_reducible rfl))
          change wpAnyH _ _ _ _ _ _ _ (Act.put _ (some 73) _) _
          simp only [Act.put, List.setIfInBounds_toArray, List.set_cons_zero, List.set_cons_succ]
          refine wpAnyH_take (i := 1) (v := ?vg10_1) rfl (by kernel_rfl) (by kernel_rfl) (by kernel_rfl) (fun _ _ _ h => h) (Or.inl ⟨by kernel_rfl, ?yg10_1⟩) hHeld ?rg10_1
          case yg10_1 => (intro W hSW; (try dsimp only at hSW); go_simp; (try with_reducible rfl))
          change wpAnyH _ _ _ _ _ _ _ (Act.put _ (some 74) _) _
          simp only [Act.put, List.setIfInBounds_toArray, List.set_cons_zero, List.set_cons_succ]
          refine wpAnyH_take (i := 2) (v := ?vg10_2) rfl (by kernel_rfl) (by kernel_rfl) (by kernel_rfl) (fun _ _ _ h => h) (Or.inl ⟨by kernel_rfl, ?yg10_2⟩) hHeld ?rg10_2
          case yg10_2 => (intro W hSW; (try dsimp only at hSW); go_simp; (try with_reducible rfl))
          change wpAnyH _ _ _ _ _ _ _ (Act.put _ (some 75) _) _
          simp only [Act.put, List.setIfInBounds_toArray, List.set_cons_zero, List.set_cons_succ]
          refine wpAnyH_take (i := 3) (v := ?vg10_3) rfl (by kernel_rfl) (by kernel_rfl) (by kernel_rfl) (fun _ _ _ h => h) (Or.inl ⟨by kernel_rfl, ?yg10_3⟩) hHeld ?rg10_3
          case yg10_3 => (intro W hSW; (try dsimp only at hSW); go_simp; (try with_reducible rfl))
          change wpAnyH _ _ _ _ _ _ _ (Act.put _ (some 76) _) _
          simp only [Act.put, List.setIfInBounds_toArray, List.set_cons_zero, List.set_cons_succ]
          refine wpAnyH_take (i := 5) (v := ?vg10_5) rfl (by kernel_rfl) (by kernel_rfl) (by kernel_rfl) (fun _ _ _ h => h) (Or.inl ⟨by kernel_rfl, ?yg10_5⟩) hHeld ?rg10_5
          case yg10_5 => (intro W hSW; (try dsimp only at hSW); go_simp; (try with_reducible rfl))
          change wpAnyH _ _ _ _ _ _ _ (Act.put _ (some 78) _) _
          simp only [Act.put, List.setIfInBounds_toArray, List.set_cons_zero, List.set_cons_succ]
          refine wpAnyH_take (i := 6) (v := ?vg10_6) rfl (by kernel_rfl) (by kernel_rfl) (by kernel_rfl) (fun _ _ _ h => h) (Or.inl ⟨by kernel_rfl, ?yg10_6⟩) hHeld ?rg10_6
          case yg10_6 => (intro W hSW; (try dsimp only at hSW); go_simp; (try with_reducible rfl))
          change wpAnyH _ _ _ _ _ _ _ (Act.put _ (some 79) _) _
          simp only [Act.put, List.setIfInBounds_toArray, List.set_cons_zero, List.set_cons_succ]
          refine wpAnyH_take (i := 7) (v := ?vg10_7) rfl (by kernel_rfl) (by kernel_rfl) (by kernel_rfl) (fun _ _ _ h => h) (Or.inl ⟨by kernel_rfl, ?yg10_7⟩) hHeld ?rg10_7
          case yg10_7 => (intro W hSW; (try dsimp only at hSW); go_simp; (try with_reducible rfl))
          change wpAnyH _ _ _ _ _ _ _ (Act.put _ (some 80) _) _
          simp only [Act.put, List.setIfInBounds_toArray, List.set_cons_zero, List.set_cons_succ]
          refine wpAnyH_take (i := 8) (v := ?vg10_8) rfl (by kernel_rfl) (by kernel_rfl) (by kernel_rfl) (fun _ _ _ h => h) (Or.inl ⟨by kernel_rfl, ?yg10_8⟩) hHeld ?rg10_8
          case yg10_8 => (intro W hSW; (try dsimp only at hSW); go_simp; (try with_reducible rfl))
          change wpAnyH _ _ _ _ _ _ _ (Act.put _ (some 81) _) _
          simp only [Act.put, List.setIfInBounds_toArray, List.set_cons_zero, List.set_cons_succ]
          refine wpAnyH_take (i := 11) (v := ?vg10_11) rfl (by kernel_rfl) (by kernel_rfl) (by kernel_rfl) (fun _ _ _ h => h) (Or.inl ⟨by kernel_rfl, ?yg10_11⟩) hHeld ?rg10_11
          case yg10_11 => (intro W hSW; (try dsimp only at hSW); go_simp; (try with_reducible rfl))
          change wpAnyH _ _ _ _ _ _ _ (Act.put _ (some 84) _) _
          simp only [Act.put, List.setIfInBounds_toArray, List.set_cons_zero, List.set_cons_succ]
          refine wpAnyH_take (i := 12) (v := ?vg10_12) rfl (by kernel_rfl) (by kernel_rfl) (by kernel_rfl) (fun _ _ _ h => h) (Or.inl ⟨by kernel_rfl, ?yg10_12⟩) hHeld ?rg10_12
          case yg10_12 => (intro W hSW; (try dsimp only at hSW); go_simp; (try with_reducible rfl))
          change wpAnyH _ _ _ _ _ _ _ (Act.put _ (some 85) _) _
          simp only [Act.put, List.setIfInBounds_toArray, List.set_cons_zero, List.set_cons_succ]
          refine wpAnyH_take (i := 13) (v := ?vg10_13) rfl (by kernel_rfl) (by kernel_rfl) (by kernel_rfl) (fun _ _ _ h => h) (Or.inl ⟨by kernel_rfl, ?yg10_13⟩) hHeld ?rg10_13
          case yg10_13 => (intro W hSW; (try dsimp only at hSW); go_simp; (try with_reducible rfl))
          change wpAnyH _ _ _ _ _ _ _ (Act.put _ (some 86) _) _
          simp only [Act.put, List.setIfInBounds_toArray, List.set_cons_zero, List.set_cons_succ]
          refine wpAnyH_take (i := 14) (v := ?vg10_14) rfl (by kernel_rfl) (by kernel_rfl) (by kernel_rfl) (fun _ _ _ h => h) (Or.inl ⟨by kernel_rfl, ?yg10_14⟩) hHeld ?rg10_14
          case yg10_14 => (intro W hSW; (try dsimp only at hSW); go_simp; (try with_reducible rfl))
          change wpAnyH _ _ _ _ _ _ _ (Act.put _ (some 87) _) _
          simp only [Act.put, List.setIfInBounds_toArray, List.set_cons_zero, List.set_cons_succ]
          refine wpAnyH_take (i := 15) (v := ?vg10_15) rfl (by kernel_rfl) (by kernel_rfl) (by kernel_rfl) (fun _ _ _ h => h) (Or.inl ⟨by kernel_rfl, ?yg10_15⟩) hHeld ?rg10_15
          case yg10_15 => (intro W hSW; (try dsimp only at hSW); go_simp; (try with_reducible rfl))
          change wpAnyH _ _ _ _ _ _ _ (Act.put _ (some 88) _) _
          simp only [Act.put, List.setIfInBounds_toArray, List.set_cons_zero, List.set_cons_succ]
          refine wpAnyH_ready (rs := [4]) (by kernel_rfl) (by simp) ?_
          refine AllReadyH.cons rfl (fun K hK => ?_) AllReadyH.nil
          go_simp
          refine (turn_any B 17 _ HB.out (by omega) (by omega)).mono ?_
          rintro e w3 ⟨rfl, hw3⟩; subst w3
          refine hK.out _ _ (hHeld) (fun hHeld => ?_)
          clear hK K
          try simp only [Act.put, List.setIfInBounds_toArray, List.set_cons_zero, List.set_cons_succ]
          refine wpAnyH_ready (rs := [9]) (by kernel_rfl) (by simp) ?_
          refine AllReadyH.cons rfl (fun K hK => ?_) AllReadyH.nil
          go_simp
          refine (turn_any B 19 _ HB.out (by omega) (by omega)).mono ?_
          rintro e w3 ⟨rfl, hw3⟩; subst w3
          refine hK.out _ _ (hHeld) (fun hHeld => ?_)
          clear hK K
          try simp only [Act.put, List.setIfInBounds_toArray, List.set_cons_zero, List.set_cons_succ]
          refine wpAnyH_take (i := 10) (v := ?vg10_10) rfl (by kernel_rfl) (by kernel_rfl) (by kernel_rfl) (fun _ _ _ h => h) (Or.inl ⟨by kernel_rfl, ?yg10_10⟩) hHeld ?rg10_10
          case yg10_10 => (intro W hSW; (try dsimp only at hSW); go_simp; (try with_reducible rfl))
          change wpAnyH _ _ _ _ _ _ _ (Act.put _ (some 83) _) _
          simp only [Act.put, List.setIfInBounds_toArray, List.set_cons_zero, List.set_cons_succ]
          refine wpAnyH_take (i := 16) (v := ?vg10_16) rfl (by kernel_rfl) (by kernel_rfl) (by kernel_rfl) (fun _ _ _ h => h) (Or.inl ⟨by kernel_rfl, ?yg10_16⟩) hHeld ?rg10_16
          case yg10_16 => (intro W hSW; (try dsimp only at hSW); go_simp; (try with_reducible rfl))
          change wpAnyH _ _ _ _ _ _ _ (Act.put _ (some 89) _) _
          simp only [Act.put, List.setIfInBounds_toArray, List.set_cons_zero, List.set_cons_succ]
          refine wpAnyH_take (i := 17) (v := ?vg10_17) rfl (by kernel_rfl) (by kernel_rfl) (by kernel_rfl) (fun _ _ _ h => h) (Or.inl ⟨by kernel_rfl, ?yg10_17⟩) hHeld ?rg10_17
          case yg10_17 => (intro W hSW; (try dsimp only at hSW); go_simp; (try with_reducible rfl))
          change wpAnyH _ _ _ _ _ _ _ (Act.put _ (some 11) _) _
          simp only [Act.put, List.setIfInBounds_toArray, List.set_cons_zero, List.set_cons_succ]
          refine wpAnyH_done (by kernel_rfl) ?_ _
          go_wp2
          refine wp_region_held_drew (S := fun W => W.cell? ⟨w.heap.size + 1 + 1 + 1, u16, none⟩ = some (.int .u32 (C : Int)) ∧ W.cell? ⟨w.heap.size + 1 + 1 + 1, u7, none⟩ = some (.int .u32 (D : Int))) (by kernel_rfl) (⟨cC, cD⟩) (fun hHeld => ?_)
          refine wpAnyH_take (i := 0) (v := ?vg11_0) rfl (by kernel_rfl) (by kernel_rfl) (by kernel_rfl) (fun _ _ _ h => h) (Or.inl ⟨by kernel_rfl, ?yg11_0⟩) hHeld ?rg11_0
          case yg11_0 => (intro W hSW; (try dsimp only at hSW); go_simp; (try with_reducible rfl))
          change wpAnyH _ _ _ _ _ _ _ (Act.put _ (some 90) _) _
          simp only [Act.put, List.setIfInBounds_toArray, List.set_cons_zero, List.set_cons_succ]
          refine wpAnyH_take (i := 1) (v := ?vg11_1) rfl (by kernel_rfl) (by kernel_rfl) (by kernel_rfl) (fun _ _ _ h => h) (Or.inl ⟨by kernel_rfl, ?yg11_1⟩) hHeld ?rg11_1
          case yg11_1 => (intro W hSW; (try dsimp only at hSW); go_simp; (try with_reducible rfl))
          change wpAnyH _ _ _ _ _ _ _ (Act.put _ (some 91) _) _
          simp only [Act.put, List.setIfInBounds_toArray, List.set_cons_zero, List.set_cons_succ]
          refine wpAnyH_take (i := 2) (v := ?vg11_2) rfl (by kernel_rfl) (by kernel_rfl) (by kernel_rfl) (fun _ _ _ h => h) (Or.inl ⟨by kernel_rfl, ?yg11_2⟩) hHeld ?rg11_2
          case yg11_2 => (intro W hSW; (try dsimp only at hSW); go_simp; (try with_reducible rfl))
          change wpAnyH _ _ _ _ _ _ _ (Act.put _ (some 92) _) _
          simp only [Act.put, List.setIfInBounds_toArray, List.set_cons_zero, List.set_cons_succ]
          refine wpAnyH_take (i := 3) (v := ?vg11_3) rfl (by kernel_rfl) (by kernel_rfl) (by kernel_rfl) (fun _ _ _ h => h) (Or.inl ⟨by kernel_rfl, ?yg11_3⟩) hHeld ?rg11_3
          case yg11_3 => (intro W hSW; (try dsimp only at hSW); go_simp; (try with_reducible rfl))
          change wpAnyH _ _ _ _ _ _ _ (Act.put _ (some 93) _) _
          simp only [Act.put, List.setIfInBounds_toArray, List.set_cons_zero, List.set_cons_succ]
          refine wpAnyH_take (i := 4) (v := ?vg11_4) rfl (by kernel_rfl) (by kernel_rfl) (by kernel_rfl) (fun _ _ _ h => h) (Or.inl ⟨by kernel_rfl, ?yg11_4⟩) hHeld ?rg11_4
          case yg11_4 => (intro W hSW; (try dsimp only at hSW); go_simp; (try with_reducible rfl))
          change wpAnyH _ _ _ _ _ _ _ (Act.put _ (some 94) _) _
          simp only [Act.put, List.setIfInBounds_toArray, List.set_cons_zero, List.set_cons_succ]
          refine wpAnyH_take (i := 5) (v := ?vg11_5) rfl (by kernel_rfl) (by kernel_rfl) (by kernel_rfl) (fun _ _ _ h => h) (Or.inl ⟨by kernel_rfl, ?yg11_5⟩) hHeld ?rg11_5
          case yg11_5 => (intro W hSW; (try dsimp only at hSW); go_simp; (try with_reducible rfl))
          change wpAnyH _ _ _ _ _ _ _ (Act.put _ (some 95) _) _
          simp only [Act.put, List.setIfInBounds_toArray, List.set_cons_zero, List.set_cons_succ]
          refine wpAnyH_take (i := 6) (v := ?vg11_6) rfl (by kernel_rfl) (by kernel_rfl) (by kernel_rfl) (fun _ _ _ h => h) (Or.inl ⟨by kernel_rfl, ?yg11_6⟩) hHeld ?rg11_6
          case yg11_6 => (intro W hSW; (try dsimp only at hSW); go_simp; (try with_reducible rfl))
          change wpAnyH _ _ _ _ _ _ _ (Act.put _ (some 96) _) _
          simp only [Act.put, List.setIfInBounds_toArray, List.set_cons_zero, List.set_cons_succ]
          refine wpAnyH_take (i := 7) (v := ?vg11_7) rfl (by kernel_rfl) (by kernel_rfl) (by kernel_rfl) (fun _ _ _ h => h) (Or.inl ⟨by kernel_rfl, ?yg11_7⟩) hHeld ?rg11_7
          case yg11_7 => (intro W hSW; (try dsimp only at hSW); go_simp; (try with_reducible rfl))
          change wpAnyH _ _ _ _ _ _ _ (Act.put _ (some 97) _) _
          simp only [Act.put, List.setIfInBounds_toArray, List.set_cons_zero, List.set_cons_succ]
          refine wpAnyH_take (i := 8) (v := ?vg11_8) rfl (by kernel_rfl) (by kernel_rfl) (by kernel_rfl) (fun _ _ _ h => h) (Or.inl ⟨by kernel_rfl, ?yg11_8⟩) hHeld ?rg11_8
          case yg11_8 => (intro W hSW; (try dsimp only at hSW); go_simp; (try with_reducible rfl))
          change wpAnyH _ _ _ _ _ _ _ (Act.put _ (some 98) _) _
          simp only [Act.put, List.setIfInBounds_toArray, List.set_cons_zero, List.set_cons_succ]
          refine wpAnyH_take (i := 9) (v := ?vg11_9) rfl (by kernel_rfl) (by kernel_rfl) (by kernel_rfl) (fun _ _ _ h => h) (Or.inl ⟨by kernel_rfl, ?yg11_9⟩) hHeld ?rg11_9
          case yg11_9 => (intro W hSW; (try dsimp only at hSW); go_simp; (try with_reducible rfl))
          change wpAnyH _ _ _ _ _ _ _ (Act.put _ (some 99) _) _
          simp only [Act.put, List.setIfInBounds_toArray, List.set_cons_zero, List.set_cons_succ]
          refine wpAnyH_take (i := 10) (v := ?vg11_10) rfl (by kernel_rfl) (by kernel_rfl) (by kernel_rfl) (fun _ _ _ h => h) (Or.inl ⟨by kernel_rfl, ?yg11_10⟩) hHeld ?rg11_10
          case yg11_10 => (intro W hSW; (try dsimp only at hSW); go_simp; (try with_reducible rfl))
          change wpAnyH _ _ _ _ _ _ _ (Act.put _ (some 100) _) _
          simp only [Act.put, List.setIfInBounds_toArray, List.set_cons_zero, List.set_cons_succ]
          refine wpAnyH_take (i := 11) (v := ?vg11_11) rfl (by kernel_rfl) (by kernel_rfl) (by kernel_rfl) (fun _ _ _ h => h) (Or.inl ⟨by kernel_rfl, ?yg11_11⟩) hHeld ?rg11_11
          case yg11_11 => (intro W hSW; (try dsimp only at hSW); go_simp; (try with_reducible rfl))
          change wpAnyH _ _ _ _ _ _ _ (Act.put _ (some 101) _) _
          simp only [Act.put, List.setIfInBounds_toArray, List.set_cons_zero, List.set_cons_succ]
          refine wpAnyH_take (i := 12) (v := ?vg11_12) rfl (by kernel_rfl) (by kernel_rfl) (by kernel_rfl) (fun _ _ _ h => h) (Or.inl ⟨by kernel_rfl, ?yg11_12⟩) hHeld ?rg11_12
          case yg11_12 => (intro W hSW; (try dsimp only at hSW); go_simp; (try with_reducible rfl))
          change wpAnyH _ _ _ _ _ _ _ (Act.put _ (some 102) _) _
          simp only [Act.put, List.setIfInBounds_toArray, List.set_cons_zero, List.set_cons_succ]
          refine wpAnyH_take (i := 13) (v := ?vg11_13) rfl (by kernel_rfl) (by kernel_rfl) (by kernel_rfl) (fun _ _ _ h => h) (Or.inl ⟨by kernel_rfl, ?yg11_13⟩) hHeld ?rg11_13
          case yg11_13 => (intro W hSW; (try dsimp only at hSW); go_simp; (try with_reducible rfl))
          change wpAnyH _ _ _ _ _ _ _ (Act.put _ (some 103) _) _
          simp only [Act.put, List.setIfInBounds_toArray, List.set_cons_zero, List.set_cons_succ]
          refine wpAnyH_take (i := 14) (v := ?vg11_14) rfl (by kernel_rfl) (by kernel_rfl) (by kernel_rfl) (fun _ _ _ h => h) (Or.inl ⟨by kernel_rfl, ?yg11_14⟩) hHeld ?rg11_14
          case yg11_14 => (intro W hSW; (try dsimp only at hSW); go_simp; (try with_reducible rfl))
          change wpAnyH _ _ _ _ _ _ _ (Act.put _ (some 104) _) _
          simp only [Act.put, List.setIfInBounds_toArray, List.set_cons_zero, List.set_cons_succ]
          refine wpAnyH_ready (rs := [15]) (by kernel_rfl) (by simp) ?_
          refine AllReadyH.cons rfl (fun K hK => ?_) AllReadyH.nil
          go_simp
          refine hK.out _ _ (⟨(dC wr _).trans cC, (dD wr _).trans cD⟩) (fun hHeld => ?_)
          clear hK K
          refine wpAnyH_done (by kernel_rfl) ?_ _
          go_wp2
          refine ⟨?_, ?measure⟩
          refine ⟨_, _, _, _, _, _, _, _, _, _, _, _, _, _, _, _, _, _, _, _, _, _, _, _, _, _, _, _, _, _, _, _, _, _, _, _, _, _, _, _, _, _, _, _, _, _, _, _, _, _, _, _, _, _, _, _, ?rel, rfl⟩
          case rel =>
            refine ⟨t + 1, by omega, by omega, by go_num, ?_⟩
            have h := (HR.out.wput t T3)
            have es := set_mid L (64 - (t + 1)) T3
            rw [HN.out, show 64 - (t + 1) + 1 = 64 - t by omega] at es
            rw [es] at h
            rw [show t + 1 - 16 = t - 16 + 1 by omega, schedL, HL.out, wordsOf_len, show 16 + (t - 16) = t by omega, HT.out]
            exact h.drew.drew.drew
          case measure => simp [intOf]; omega
        · obtain rfl : t = 64 := by omega
          have HR : Hid (MixW w.heap.size w ks ss (List.replicate 8 0) (schedL (wordsOf b.data.toList) 48) wr) := by
            have := hrel
            rw [show 64 - 64 = 0 from rfl, List.replicate_zero, List.append_nil] at this
            exact this
          obtain ⟨WS, hWS⟩ : ∃ WS, schedL (wordsOf b.data.toList) 48 = WS := ⟨_, rfl⟩
          have HWS : Hid (Wd WS) := hWS ▸ schedL_wd (wordsOf_wd b.data.toList) 48
          have HWL : Hid (WS.length = 64) := by show WS.length = 64; rw [← hWS, schedL_len, wordsOf_len]
          have HWE : Hid (schedL (wordsOf b.data.toList) 48 = WS) := hWS
          rw [hWS] at HR
          clear hWS
          have hc : ∀ i, i < 8 → wr.cell? ⟨w.heap.size + 1, i, none⟩ = some (.int .u32 (([s0, s1, s2, s3, s4, s5, s6, s7].getD i 0 : Nat) : Int)) := by
            intro i hi
            have := hrel.scell i (by rw [HSS.out]; exact hi)
            rw [HSS.out] at this; exact this
          have c0 : wr.cell? ⟨w.heap.size + 1, 0, none⟩ = some (.int .u32 (s0 : Int)) := hc 0 (by omega)
          have c1 : wr.cell? ⟨w.heap.size + 1, 1, none⟩ = some (.int .u32 (s1 : Int)) := hc 1 (by omega)
          have c2 : wr.cell? ⟨w.heap.size + 1, 2, none⟩ = some (.int .u32 (s2 : Int)) := hc 2 (by omega)
          have c3 : wr.cell? ⟨w.heap.size + 1, 3, none⟩ = some (.int .u32 (s3 : Int)) := hc 3 (by omega)
          have c4 : wr.cell? ⟨w.heap.size + 1, 4, none⟩ = some (.int .u32 (s4 : Int)) := hc 4 (by omega)
          have c5 : wr.cell? ⟨w.heap.size + 1, 5, none⟩ = some (.int .u32 (s5 : Int)) := hc 5 (by omega)
          have c6 : wr.cell? ⟨w.heap.size + 1, 6, none⟩ = some (.int .u32 (s6 : Int)) := hc 6 (by omega)
          have c7 : wr.cell? ⟨w.heap.size + 1, 7, none⟩ = some (.int .u32 (s7 : Int)) := hc 7 (by omega)
          have hz : wr.heap.size = w.heap.size + 1 + 1 + 1 + 1 := hrel.sz
          clear hrel hc
          go_wp2
          go_loopw [13] (fun i wr => ∃ t : Nat, t ≤ 64 ∧ i = .int .i64 t ∧ MixZ w.heap.size w ks ss (List.replicate 8 0) WS (rnds ks WS t [s0, s1, s2, s3, s4, s5, s6, s7]) wr) (fun i _ => 64 - (intOf i).toNat)
          case atStart => exact ⟨0, by omega, rfl, HR.out.more [s0, s1, s2, s3, s4, s5, s6, s7]⟩
          case round =>
            clear HR c0 c1 c2 c3 c4 c5 c6 c7
            obtain ⟨t, ht, rfl, hrel⟩ := hrel
            by_cases hlt : t < 64
            · obtain ⟨a, b', c, d, e, f, g, h, he8, hw8⟩ := rnds_eight ks WS t [s0, s1, s2, s3, s4, s5, s6, s7] ⟨_, _, _, _, _, _, _, _, rfl, HS.out⟩
              have hx := hw8
              simp only [Wd, List.mem_cons, List.not_mem_nil, or_false, forall_eq_or_imp, forall_eq] at hx
              obtain ⟨wa, wb, wc, wd, we, wf, wg, wh⟩ := hx
              rw [he8] at hrel
              have z0 : wr.cell? ⟨w.heap.size + 1 + 1 + 1 + 1, 0, none⟩ = some (.int .u32 (a : Int)) := hrel.zcell 0 (by simp)
              have fz0 : wr.frozen? ⟨w.heap.size + 1 + 1 + 1 + 1, 0, none⟩ = false := hrel.zfro 0
              have z1 : wr.cell? ⟨w.heap.size + 1 + 1 + 1 + 1, 1, none⟩ = some (.int .u32 (b' : Int)) := hrel.zcell 1 (by simp)
              have fz1 : wr.frozen? ⟨w.heap.size + 1 + 1 + 1 + 1, 1, none⟩ = false := hrel.zfro 1
              have z2 : wr.cell? ⟨w.heap.size + 1 + 1 + 1 + 1, 2, none⟩ = some (.int .u32 (c : Int)) := hrel.zcell 2 (by simp)
              have fz2 : wr.frozen? ⟨w.heap.size + 1 + 1 + 1 + 1, 2, none⟩ = false := hrel.zfro 2
              have z3 : wr.cell? ⟨w.heap.size + 1 + 1 + 1 + 1, 3, none⟩ = some (.int .u32 (d : Int)) := hrel.zcell 3 (by simp)
              have fz3 : wr.frozen? ⟨w.heap.size + 1 + 1 + 1 + 1, 3, none⟩ = false := hrel.zfro 3
              have z4 : wr.cell? ⟨w.heap.size + 1 + 1 + 1 + 1, 4, none⟩ = some (.int .u32 (e : Int)) := hrel.zcell 4 (by simp)
              have fz4 : wr.frozen? ⟨w.heap.size + 1 + 1 + 1 + 1, 4, none⟩ = false := hrel.zfro 4
              have z5 : wr.cell? ⟨w.heap.size + 1 + 1 + 1 + 1, 5, none⟩ = some (.int .u32 (f : Int)) := hrel.zcell 5 (by simp)
              have fz5 : wr.frozen? ⟨w.heap.size + 1 + 1 + 1 + 1, 5, none⟩ = false := hrel.zfro 5
              have z6 : wr.cell? ⟨w.heap.size + 1 + 1 + 1 + 1, 6, none⟩ = some (.int .u32 (g : Int)) := hrel.zcell 6 (by simp)
              have fz6 : wr.frozen? ⟨w.heap.size + 1 + 1 + 1 + 1, 6, none⟩ = false := hrel.zfro 6
              have z7 : wr.cell? ⟨w.heap.size + 1 + 1 + 1 + 1, 7, none⟩ = some (.int .u32 (h : Int)) := hrel.zcell 7 (by simp)
              have fz7 : wr.frozen? ⟨w.heap.size + 1 + 1 + 1 + 1, 7, none⟩ = false := hrel.zfro 7
              obtain ⟨K, hK⟩ : ∃ K, ks.getD t 0 = K := ⟨_, rfl⟩
              obtain ⟨Wt, hWt⟩ : ∃ K, WS.getD t 0 = K := ⟨_, rfl⟩
              have wK : K < 4294967296 := hK ▸ HK.out.getD t
              have wW : Wt < 4294967296 := hWt ▸ HWS.out.getD t
              have cK : wr.cell? ⟨w.heap.size, t, none⟩ = some (.int .u32 (K : Int)) := hK ▸ hrel.kcell t (by omega)
              have cW : wr.cell? ⟨w.heap.size + 1 + 1 + 1, t, none⟩ = some (.int .u32 (Wt : Int)) := hWt ▸ hrel.wcell t (by rw [HWL.out]; omega)
              have kt : (t : Int) < 64 := by omega
              obtain ⟨P1, p1⟩ : ∃ V, V = rotr e 6 ^^^ rotr e 11 := ⟨_, rfl⟩
              obtain ⟨P2, p2⟩ : ∃ V, V = bsig1 e := ⟨_, rfl⟩
              obtain ⟨P3, p3⟩ : ∃ V, V = (h + P2) % 4294967296 := ⟨_, rfl⟩
              obtain ⟨P4, p4⟩ : ∃ V, V = e &&& f := ⟨_, rfl⟩
              obtain ⟨P5, p5⟩ : ∃ V, V = 4294967295 - e := ⟨_, rfl⟩
              obtain ⟨P6, p6⟩ : ∃ V, V = P5 &&& g := ⟨_, rfl⟩
              obtain ⟨P7, p7⟩ : ∃ V, V = chN e f g := ⟨_, rfl⟩
              obtain ⟨P8, p8⟩ : ∃ V, V = (P3 + P7) % 4294967296 := ⟨_, rfl⟩
              obtain ⟨P9, p9⟩ : ∃ V, V = (P8 + K) % 4294967296 := ⟨_, rfl⟩
              obtain ⟨U, pU⟩ : ∃ V, V = (P9 + Wt) % 4294967296 := ⟨_, rfl⟩
              obtain ⟨R1, r1⟩ : ∃ V, V = rotr a 2 ^^^ rotr a 13 := ⟨_, rfl⟩
              obtain ⟨R2, r2⟩ : ∃ V, V = bsig0 a := ⟨_, rfl⟩
              obtain ⟨R3, r3⟩ : ∃ V, V = a &&& b' := ⟨_, rfl⟩
              obtain ⟨R4, r4⟩ : ∃ V, V = a &&& c := ⟨_, rfl⟩
              obtain ⟨R5, r5⟩ : ∃ V, V = R3 ^^^ R4 := ⟨_, rfl⟩
              obtain ⟨R6, r6⟩ : ∃ V, V = b' &&& c := ⟨_, rfl⟩
              obtain ⟨R7, r7⟩ : ∃ V, V = majN a b' c := ⟨_, rfl⟩
              obtain ⟨V, pV⟩ : ∃ V, V = (R2 + R7) % 4294967296 := ⟨_, rfl⟩
              have wP5 : P5 < 4294967296 := by omega
              have q1 : bits BinOp.xor IntKind.u32 (rotr e 6 : Int) (rotr e 11 : Int) = (P1 : Int) := by rw [p1]; exact u32_xor_nat _ _ (rotr_lt we) (rotr_lt we)
              have q2 : bits BinOp.xor IntKind.u32 (P1 : Int) (rotr e 25 : Int) = (P2 : Int) := by rw [p1, p2]; exact u32_xor_nat _ _ (xor_lt (rotr_lt we) (rotr_lt we)) (rotr_lt we)
              have q3 : IntKind.u32.wrap ((h : Int) + (P2 : Int)) = (P3 : Int) := by rw [IntKind.wrap_u32']; omega
              have q4 : bits BinOp.and IntKind.u32 (e : Int) (f : Int) = (P4 : Int) := by rw [p4]; exact u32_and_nat _ _ we wf
              have q5 : IntKind.u32.wrap ((4294967295 : Int) - (e : Int)) = (P5 : Int) := by rw [IntKind.wrap_u32']; omega
              have q6 : bits BinOp.and IntKind.u32 (P5 : Int) (g : Int) = (P6 : Int) := by rw [p6]; exact u32_and_nat _ _ wP5 wg
              have q7 : bits BinOp.xor IntKind.u32 (P4 : Int) (P6 : Int) = (P7 : Int) := by rw [p4, p6, p7, p5]; exact u32_xor_nat _ _ (and_lt we) (and_lt (by omega))
              have q8 : IntKind.u32.wrap ((P3 : Int) + (P7 : Int)) = (P8 : Int) := by rw [IntKind.wrap_u32']; omega
              have q9 : IntKind.u32.wrap ((P8 : Int) + (K : Int)) = (P9 : Int) := by rw [IntKind.wrap_u32']; omega
              have qU : IntKind.u32.wrap ((P9 : Int) + (Wt : Int)) = (U : Int) := by rw [IntKind.wrap_u32']; omega
              have o1 : bits BinOp.xor IntKind.u32 (rotr a 2 : Int) (rotr a 13 : Int) = (R1 : Int) := by rw [r1]; exact u32_xor_nat _ _ (rotr_lt wa) (rotr_lt wa)
              have o2 : bits BinOp.xor IntKind.u32 (R1 : Int) (rotr a 22 : Int) = (R2 : Int) := by rw [r1, r2]; exact u32_xor_nat _ _ (xor_lt (rotr_lt wa) (rotr_lt wa)) (rotr_lt wa)
              have o3 : bits BinOp.and IntKind.u32 (a : Int) (b' : Int) = (R3 : Int) := by rw [r3]; exact u32_and_nat _ _ wa wb
              have o4 : bits BinOp.and IntKind.u32 (a : Int) (c : Int) = (R4 : Int) := by rw [r4]; exact u32_and_nat _ _ wa wc
              have o5 : bits BinOp.xor IntKind.u32 (R3 : Int) (R4 : Int) = (R5 : Int) := by rw [r5, r3, r4]; exact u32_xor_nat _ _ (and_lt wa) (and_lt wa)
              have o6 : bits BinOp.and IntKind.u32 (b' : Int) (c : Int) = (R6 : Int) := by rw [r6]; exact u32_and_nat _ _ wb wc
              have o7 : bits BinOp.xor IntKind.u32 (R5 : Int) (R6 : Int) = (R7 : Int) := by rw [r7, r5, r6, r3, r4]; exact u32_xor_nat _ _ (xor_lt (and_lt wa) (and_lt wa)) (and_lt wb)
              have oV : IntKind.u32.wrap ((R2 : Int) + (R7 : Int)) = (V : Int) := by rw [IntKind.wrap_u32']; omega
              have HRN : Hid (rnds ks WS (t + 1) [s0, s1, s2, s3, s4, s5, s6, s7] = [(U + V) % 4294967296, a, b', c, (d + U) % 4294967296, e, f, g]) := by
                show rnd (ks.getD t 0) (WS.getD t 0) (rnds ks WS t _) = _
                rw [he8, hK, hWt]
                show [_, _, _, _, _, _, _, _] = _
                have eU : (h + bsig1 e + chN e f g + K + Wt) % 4294967296 = U := by rw [pU, p9, p8, p3, ← p2, ← p7]; omega
                have eV : (bsig0 a + majN a b' c) % 4294967296 = V := by rw [pV, ← r2, ← r7]
                simp only [List.getD_cons_zero, List.getD_cons_succ]
                rw [eU, eV]
              have HR : Hid (MixZ w.heap.size w ks ss (List.replicate 8 0) WS [a, b', c, d, e, f, g, h] wr) := hrel
              have He : Hid (e < 4294967296) := we
              have Ha : Hid (a < 4294967296) := wa
              have kU : U < 4294967296 := by omega
              have kV : V < 4294967296 := by omega
              have kd : d < 4294967296 := wd
              clear p1 p2 p3 p4 p5 p6 p7 p8 p9 pU r1 r2 r3 r4 r5 r6 r7 pV hK hWt he8 hw8 hrel wP5 wa wb wc wd we wf wg wh wK wW
              go_wp2
              refine wp_region_held_drew (S := fun W => W.cell? ⟨w.heap.size + 1 + 1 + 1 + 1, 7, none⟩ = some (.int .u32 (h : Int)) ∧ W.cell? ⟨w.heap.size + 1 + 1 + 1 + 1, 4, none⟩ = some (.int .u32 (e : Int)) ∧ W.cell? ⟨w.heap.size + 1 + 1 + 1 + 1, 5, none⟩ = some (.int .u32 (f : Int)) ∧ W.cell? ⟨w.heap.size + 1 + 1 + 1 + 1, 6, none⟩ = some (.int .u32 (g : Int)) ∧ W.cell? ⟨w.heap.size, t, none⟩ = some (.int .u32 (K : Int)) ∧ W.cell? ⟨w.heap.size + 1 + 1 + 1, t, none⟩ = some (.int .u32 (Wt : Int))) (by kernel_rfl) (⟨z7, z4, z5, z6, cK, cW⟩) (fun hHeld => ?_)
              refine wpAnyH_take (i := 0) (v := ?vg16_0) rfl (by kernel_rfl) (by kernel_rfl) (by kernel_rfl) (fun _ _ _ h => h) (Or.inl ⟨by kernel_rfl, ?yg16_0⟩) hHeld ?rg16_0
              case yg16_0 => (intro W hSW; (try dsimp only at hSW); go_simp; (try with_reducible rfl))
              change wpAnyH _ _ _ _ _ _ _ (Act.put _ (some 110) _) _
              simp only [Act.put, List.setIfInBounds_toArray, List.set_cons_zero, List.set_cons_succ]
              refine wpAnyH_take (i := 1) (v := ?vg16_1) rfl (by kernel_rfl) (by kernel_rfl) (by kernel_rfl) (fun _ _ _ h => h) (Or.inl ⟨by kernel_rfl, ?yg16_1⟩) hHeld ?rg16_1
              case yg16_1 => (intro W hSW; (try dsimp only at hSW); go_simp; (try with_reducible rfl))
              change wpAnyH _ _ _ _ _ _ _ (Act.put _ (some 111) _) _
              simp only [Act.put, List.setIfInBounds_toArray, List.set_cons_zero, List.set_cons_succ]
              refine wpAnyH_take (i := 2) (v := ?vg16_2) rfl (by kernel_rfl) (by kernel_rfl) (by kernel_rfl) (fun _ _ _ h => h) (Or.inl ⟨by kernel_rfl, ?yg16_2⟩) hHeld ?rg16_2
              case yg16_2 => (intro W hSW; (try dsimp only at hSW); go_simp; (try with_reducible rfl))
              change wpAnyH _ _ _ _ _ _ _ (Act.put _ (some 112) _) _
              simp only [Act.put, List.setIfInBounds_toArray, List.set_cons_zero, List.set_cons_succ]
              refine wpAnyH_take (i := 3) (v := ?vg16_3) rfl (by kernel_rfl) (by kernel_rfl) (by kernel_rfl) (fun _ _ _ h => h) (Or.inl ⟨by kernel_rfl, ?yg16_3⟩) hHeld ?rg16_3
              case yg16_3 => (intro W hSW; (try dsimp only at hSW); go_simp; (try with_reducible rfl))
              change wpAnyH _ _ _ _ _ _ _ (Act.put _ (some 113) _) _
              simp only [Act.put, List.setIfInBounds_toArray, List.set_cons_zero, List.set_cons_succ]
              refine wpAnyH_take (i := 5) (v := ?vg16_5) rfl (by kernel_rfl) (by kernel_rfl) (by kernel_rfl) (fun _ _ _ h => h) (Or.inl ⟨by kernel_rfl, ?yg16_5⟩) hHeld ?rg16_5
              case yg16_5 => (intro W hSW; (try dsimp only at hSW); go_simp; (try with_reducible rfl))
              change wpAnyH _ _ _ _ _ _ _ (Act.put _ (some 115) _) _
              simp only [Act.put, List.setIfInBounds_toArray, List.set_cons_zero, List.set_cons_succ]
              refine wpAnyH_take (i := 6) (v := ?vg16_6) rfl (by kernel_rfl) (by kernel_rfl) (by kernel_rfl) (fun _ _ _ h => h) (Or.inl ⟨by kernel_rfl, ?yg16_6⟩) hHeld ?rg16_6
              case yg16_6 => (intro W hSW; (try dsimp only at hSW); go_simp; (try with_reducible rfl))
              change wpAnyH _ _ _ _ _ _ _ (Act.put _ (some 116) _) _
              simp only [Act.put, List.setIfInBounds_toArray, List.set_cons_zero, List.set_cons_succ]
              refine wpAnyH_take (i := 9) (v := ?vg16_9) rfl (by kernel_rfl) (by kernel_rfl) (by kernel_rfl) (fun _ _ _ h => h) (Or.inl ⟨by kernel_rfl, ?yg16_9⟩) hHeld ?rg16_9
              case yg16_9 => (intro W hSW; (try dsimp only at hSW); go_simp; (try with_reducible rfl))
              change wpAnyH _ _ _ _ _ _ _ (Act.put _ (some 119) _) _
              simp only [Act.put, List.setIfInBounds_toArray, List.set_cons_zero, List.set_cons_succ]
              refine wpAnyH_take (i := 10) (v := ?vg16_10) rfl (by kernel_rfl) (by kernel_rfl) (by kernel_rfl) (fun _ _ _ h => h) (Or.inl ⟨by kernel_rfl, ?yg16_10⟩) hHeld ?rg16_10
              case yg16_10 => (intro W hSW; (try dsimp only at hSW); go_simp; (try with_reducible rfl))
              change wpAnyH _ _ _ _ _ _ _ (Act.put _ (some 120) _) _
              simp only [Act.put, List.setIfInBounds_toArray, List.set_cons_zero, List.set_cons_succ]
              refine wpAnyH_take (i := 14) (v := ?vg16_14) rfl (by kernel_rfl) (by kernel_rfl) (by kernel_rfl) (fun _ _ _ h => h) (Or.inl ⟨by kernel_rfl, ?yg16_14⟩) hHeld ?rg16_14
              case yg16_14 => (intro W hSW; (try dsimp only at hSW); go_simp; (try with_reducible rfl))
              change wpAnyH _ _ _ _ _ _ _ (Act.put _ (some 124) _) _
              simp only [Act.put, List.setIfInBounds_toArray, List.set_cons_zero, List.set_cons_succ]
              refine wpAnyH_take (i := 15) (v := ?vg16_15) rfl (by kernel_rfl) (by kernel_rfl) (by kernel_rfl) (fun _ _ _ h => h) (Or.inl ⟨by kernel_rfl, ?yg16_15⟩) hHeld ?rg16_15
              case yg16_15 => (intro W hSW; (try dsimp only at hSW); go_simp; (try with_reducible rfl))
              change wpAnyH _ _ _ _ _ _ _ (Act.put _ (some 125) _) _
              simp only [Act.put, List.setIfInBounds_toArray, List.set_cons_zero, List.set_cons_succ]
              refine wpAnyH_take (i := 16) (v := ?vg16_16) rfl (by kernel_rfl) (by kernel_rfl) (by kernel_rfl) (fun _ _ _ h => h) (Or.inl ⟨by kernel_rfl, ?yg16_16⟩) hHeld ?rg16_16
              case yg16_16 => (intro W hSW; (try dsimp only at hSW); go_simp; (try with_reducible rfl))
              change wpAnyH _ _ _ _ _ _ _ (Act.put _ (some 126) _) _
              simp only [Act.put, List.setIfInBounds_toArray, List.set_cons_zero, List.set_cons_succ]
              refine wpAnyH_take (i := 17) (v := ?vg16_17) rfl (by kernel_rfl) (by kernel_rfl) (by kernel_rfl) (fun _ _ _ h => h) (Or.inl ⟨by kernel_rfl, ?yg16_17⟩) hHeld ?rg16_17
              case yg16_17 => (intro W hSW; (try dsimp only at hSW); go_simp; (try with_reducible rfl))
              change wpAnyH _ _ _ _ _ _ _ (Act.put _ (some 127) _) _
              simp only [Act.put, List.setIfInBounds_toArray, List.set_cons_zero, List.set_cons_succ]
              refine wpAnyH_take (i := 18) (v := ?vg16_18) rfl (by kernel_rfl) (by kernel_rfl) (by kernel_rfl) (fun _ _ _ h => h) (Or.inl ⟨by kernel_rfl, ?yg16_18⟩) hHeld ?rg16_18
              case yg16_18 => (intro W hSW; (try dsimp only at hSW); go_simp; (try with_reducible rfl))
              change wpAnyH _ _ _ _ _ _ _ (Act.put _ (some 128) _) _
              simp only [Act.put, List.setIfInBounds_toArray, List.set_cons_zero, List.set_cons_succ]
              refine wpAnyH_take (i := 19) (v := ?vg16_19) rfl (by kernel_rfl) (by kernel_rfl) (by kernel_rfl) (fun _ _ _ h => h) (Or.inl ⟨by kernel_rfl, ?yg16_19⟩) hHeld ?rg16_19
              case yg16_19 => (intro W hSW; (try dsimp only at hSW); go_simp; (try with_reducible rfl))
              change wpAnyH _ _ _ _ _ _ _ (Act.put _ (some 129) _) _
              simp only [Act.put, List.setIfInBounds_toArray, List.set_cons_zero, List.set_cons_succ]
              refine wpAnyH_take (i := 20) (v := ?vg16_20) rfl (by kernel_rfl) (by kernel_rfl) (by kernel_rfl) (fun _ _ _ h => h) (Or.inl ⟨by kernel_rfl, ?yg16_20⟩) hHeld ?rg16_20
              case yg16_20 => (intro W hSW; (try dsimp only at hSW); go_simp; (try with_reducible rfl))
              change wpAnyH _ _ _ _ _ _ _ (Act.put _ (some 130) _) _
              simp only [Act.put, List.setIfInBounds_toArray, List.set_cons_zero, List.set_cons_succ]
              refine wpAnyH_take (i := 21) (v := ?vg16_21) rfl (by kernel_rfl) (by kernel_rfl) (by kernel_rfl) (fun _ _ _ h => h) (Or.inl ⟨by kernel_rfl, ?yg16_21⟩) hHeld ?rg16_21
              case yg16_21 => (intro W hSW; (try dsimp only at hSW); go_simp; (try with_reducible rfl))
              change wpAnyH _ _ _ _ _ _ _ (Act.put _ (some 131) _) _
              simp only [Act.put, List.setIfInBounds_toArray, List.set_cons_zero, List.set_cons_succ]
              refine wpAnyH_take (i := 22) (v := ?vg16_22) rfl (by kernel_rfl) (by kernel_rfl) (by kernel_rfl) (fun _ _ _ h => h) (Or.inl ⟨by kernel_rfl, ?yg16_22⟩) hHeld ?rg16_22
              case yg16_22 => (intro W hSW; (try dsimp only at hSW); go_simp; (try with_reducible rfl))
              change wpAnyH _ _ _ _ _ _ _ (Act.put _ (some 132) _) _
              simp only [Act.put, List.setIfInBounds_toArray, List.set_cons_zero, List.set_cons_succ]
              refine wpAnyH_take (i := 23) (v := ?vg16_23) rfl (by kernel_rfl) (by kernel_rfl) (by kernel_rfl) (fun _ _ _ h => h) (Or.inl ⟨by kernel_rfl, ?yg16_23⟩) hHeld ?rg16_23
              case yg16_23 => (intro W hSW; (try dsimp only at hSW); go_simp; (try with_reducible rfl))
              change wpAnyH _ _ _ _ _ _ _ (Act.put _ (some 133) _) _
              simp only [Act.put, List.setIfInBounds_toArray, List.set_cons_zero, List.set_cons_succ]
              refine wpAnyH_take (i := 24) (v := ?vg16_24) rfl (by kernel_rfl) (by kernel_rfl) (by kernel_rfl) (fun _ _ _ h => h) (Or.inl ⟨by kernel_rfl, ?yg16_24⟩) hHeld ?rg16_24
              case yg16_24 => (intro W hSW; (try dsimp only at hSW); go_simp; (try with_reducible rfl))
              change wpAnyH _ _ _ _ _ _ _ (Act.put _ (some 134) _) _
              simp only [Act.put, List.setIfInBounds_toArray, List.set_cons_zero, List.set_cons_succ]
              refine wpAnyH_take (i := 25) (v := ?vg16_25) rfl (by kernel_rfl) (by kernel_rfl) (by kernel_rfl) (fun _ _ _ h => h) (Or.inl ⟨by kernel_rfl, ?yg16_25⟩) hHeld ?rg16_25
              case yg16_25 => (intro W hSW; (try dsimp only at hSW); go_simp; (try with_reducible rfl))
              change wpAnyH _ _ _ _ _ _ _ (Act.put _ (some 135) _) _
              simp only [Act.put, List.setIfInBounds_toArray, List.set_cons_zero, List.set_cons_succ]
              refine wpAnyH_take (i := 27) (v := ?vg16_27) rfl (by kernel_rfl) (by kernel_rfl) (by kernel_rfl) (fun _ _ _ h => h) (Or.inl ⟨by kernel_rfl, ?yg16_27⟩) hHeld ?rg16_27
              case yg16_27 => (intro W hSW; (try dsimp only at hSW); go_simp; (try with_reducible rfl))
              change wpAnyH _ _ _ _ _ _ _ (Act.put _ (some 137) _) _
              simp only [Act.put, List.setIfInBounds_toArray, List.set_cons_zero, List.set_cons_succ]
              refine wpAnyH_take (i := 28) (v := ?vg16_28) rfl (by kernel_rfl) (by kernel_rfl) (by kernel_rfl) (fun _ _ _ h => h) (Or.inl ⟨by kernel_rfl, ?yg16_28⟩) hHeld ?rg16_28
              case yg16_28 => (intro W hSW; (try dsimp only at hSW); go_simp; (try with_reducible rfl))
              change wpAnyH _ _ _ _ _ _ _ (Act.put _ (some 138) _) _
              simp only [Act.put, List.setIfInBounds_toArray, List.set_cons_zero, List.set_cons_succ]
              refine wpAnyH_take (i := 29) (v := ?vg16_29) rfl (by kernel_rfl) (by kernel_rfl) (by kernel_rfl) (fun _ _ _ h => h) (Or.inl ⟨by kernel_rfl, ?yg16_29⟩) hHeld ?rg16_29
              case yg16_29 => (intro W hSW; (try dsimp only at hSW); go_simp; (try with_reducible rfl))
              change wpAnyH _ _ _ _ _ _ _ (Act.put _ (some 139) _) _
              simp only [Act.put, List.setIfInBounds_toArray, List.set_cons_zero, List.set_cons_succ]
              refine wpAnyH_take (i := 31) (v := ?vg16_31) rfl (by kernel_rfl) (by kernel_rfl) (by kernel_rfl) (fun _ _ _ h => h) (Or.inl ⟨by kernel_rfl, ?yg16_31⟩) hHeld ?rg16_31
              case yg16_31 => (intro W hSW; (try dsimp only at hSW); go_simp; (try with_reducible rfl))
              change wpAnyH _ _ _ _ _ _ _ (Act.put _ (some 141) _) _
              simp only [Act.put, List.setIfInBounds_toArray, List.set_cons_zero, List.set_cons_succ]
              refine wpAnyH_take (i := 32) (v := ?vg16_32) rfl (by kernel_rfl) (by kernel_rfl) (by kernel_rfl) (fun _ _ _ h => h) (Or.inl ⟨by kernel_rfl, ?yg16_32⟩) hHeld ?rg16_32
              case yg16_32 => (intro W hSW; (try dsimp only at hSW); go_simp; (try with_reducible rfl))
              change wpAnyH _ _ _ _ _ _ _ (Act.put _ (some 142) _) _
              simp only [Act.put, List.setIfInBounds_toArray, List.set_cons_zero, List.set_cons_succ]
              refine wpAnyH_take (i := 33) (v := ?vg16_33) rfl (by kernel_rfl) (by kernel_rfl) (by kernel_rfl) (fun _ _ _ h => h) (Or.inl ⟨by kernel_rfl, ?yg16_33⟩) hHeld ?rg16_33
              case yg16_33 => (intro W hSW; (try dsimp only at hSW); go_simp; (try with_reducible rfl))
              change wpAnyH _ _ _ _ _ _ _ (Act.put _ (some 143) _) _
              simp only [Act.put, List.setIfInBounds_toArray, List.set_cons_zero, List.set_cons_succ]
              refine wpAnyH_ready (rs := [4]) (by kernel_rfl) (by simp) ?_
              refine AllReadyH.cons rfl (fun K hK => ?_) AllReadyH.nil
              go_simp
              refine (turn_any e 6 _ He.out (by omega) (by omega)).mono ?_
              rintro e w3 ⟨rfl, hw3⟩; subst w3
              refine hK.out _ _ (hHeld) (fun hHeld => ?_)
              clear hK K
              try simp only [Act.put, List.setIfInBounds_toArray, List.set_cons_zero, List.set_cons_succ]
              refine wpAnyH_ready (rs := [7]) (by kernel_rfl) (by simp) ?_
              refine AllReadyH.cons rfl (fun K hK => ?_) AllReadyH.nil
              go_simp
              refine (turn_any e 11 _ He.out (by omega) (by omega)).mono ?_
              rintro e w3 ⟨rfl, hw3⟩; subst w3
              refine hK.out _ _ (hHeld) (fun hHeld => ?_)
              clear hK K
              try simp only [Act.put, List.setIfInBounds_toArray, List.set_cons_zero, List.set_cons_succ]
              refine wpAnyH_take (i := 8) (v := ?vg16_8) rfl (by kernel_rfl) (by kernel_rfl) (by kernel_rfl) (fun _ _ _ h => h) (Or.inl ⟨by kernel_rfl, ?yg16_8⟩) hHeld ?rg16_8
              case yg16_8 => (intro W hSW; (try dsimp only at hSW); go_simp; (try with_reducible rfl))
              change wpAnyH _ _ _ _ _ _ _ (Act.put _ (some 118) _) _
              simp only [Act.put, List.setIfInBounds_toArray, List.set_cons_zero, List.set_cons_succ]
              refine wpAnyH_ready (rs := [11]) (by kernel_rfl) (by simp) ?_
              refine AllReadyH.cons rfl (fun K hK => ?_) AllReadyH.nil
              go_simp
              refine (turn_any e 25 _ He.out (by omega) (by omega)).mono ?_
              rintro e w3 ⟨rfl, hw3⟩; subst w3
              refine hK.out _ _ (hHeld) (fun hHeld => ?_)
              clear hK K
              try simp only [Act.put, List.setIfInBounds_toArray, List.set_cons_zero, List.set_cons_succ]
              refine wpAnyH_take (i := 12) (v := ?vg16_12) rfl (by kernel_rfl) (by kernel_rfl) (by kernel_rfl) (fun _ _ _ h => h) (Or.inl ⟨by kernel_rfl, ?yg16_12⟩) hHeld ?rg16_12
              case yg16_12 => (intro W hSW; (try dsimp only at hSW); go_simp; (try with_reducible rfl))
              change wpAnyH _ _ _ _ _ _ _ (Act.put _ (some 122) _) _
              simp only [Act.put, List.setIfInBounds_toArray, List.set_cons_zero, List.set_cons_succ]
              refine wpAnyH_take (i := 13) (v := ?vg16_13) rfl (by kernel_rfl) (by kernel_rfl) (by kernel_rfl) (fun _ _ _ h => h) (Or.inl ⟨by kernel_rfl, ?yg16_13⟩) hHeld ?rg16_13
              case yg16_13 => (intro W hSW; (try dsimp only at hSW); go_simp; (try with_reducible rfl))
              change wpAnyH _ _ _ _ _ _ _ (Act.put _ (some 123) _) _
              simp only [Act.put, List.setIfInBounds_toArray, List.set_cons_zero, List.set_cons_succ]
              refine wpAnyH_take (i := 26) (v := ?vg16_26) rfl (by kernel_rfl) (by kernel_rfl) (by kernel_rfl) (fun _ _ _ h => h) (Or.inl ⟨by kernel_rfl, ?yg16_26⟩) hHeld ?rg16_26
              case yg16_26 => (intro W hSW; (try dsimp only at hSW); go_simp; (try with_reducible rfl))
              change wpAnyH _ _ _ _ _ _ _ (Act.put _ (some 136) _) _
              simp only [Act.put, List.setIfInBounds_toArray, List.set_cons_zero, List.set_cons_succ]
              refine wpAnyH_take (i := 30) (v := ?vg16_30) rfl (by kernel_rfl) (by kernel_rfl) (by kernel_rfl) (fun _ _ _ h => h) (Or.inl ⟨by kernel_rfl, ?yg16_30⟩) hHeld ?rg16_30
              case yg16_30 => (intro W hSW; (try dsimp only at hSW); go_simp; (try with_reducible rfl))
              change wpAnyH _ _ _ _ _ _ _ (Act.put _ (some 140) _) _
              simp only [Act.put, List.setIfInBounds_toArray, List.set_cons_zero, List.set_cons_succ]
              refine wpAnyH_take (i := 34) (v := ?vg16_34) rfl (by kernel_rfl) (by kernel_rfl) (by kernel_rfl) (fun _ _ _ h => h) (Or.inl ⟨by kernel_rfl, ?yg16_34⟩) hHeld ?rg16_34
              case yg16_34 => (intro W hSW; (try dsimp only at hSW); go_simp; (try with_reducible rfl))
              change wpAnyH _ _ _ _ _ _ _ (Act.put _ (some 144) _) _
              simp only [Act.put, List.setIfInBounds_toArray, List.set_cons_zero, List.set_cons_succ]
              refine wpAnyH_take (i := 35) (v := ?vg16_35) rfl (by kernel_rfl) (by kernel_rfl) (by kernel_rfl) (fun _ _ _ h => h) (Or.inl ⟨by kernel_rfl, ?yg16_35⟩) hHeld ?rg16_35
              case yg16_35 => (intro W hSW; (try dsimp only at hSW); go_simp; (try with_reducible rfl))
              change wpAnyH _ _ _ _ _ _ _ (Act.put _ (some 14) _) _
              simp only [Act.put, List.setIfInBounds_toArray, List.set_cons_zero, List.set_cons_succ]
              refine wpAnyH_done (by kernel_rfl) ?_ _
              go_wp2
              refine wp_region_held_drew (S := fun W => W.cell? ⟨w.heap.size + 1 + 1 + 1 + 1, 0, none⟩ = some (.int .u32 (a : Int)) ∧ W.cell? ⟨w.heap.size + 1 + 1 + 1 + 1, 1, none⟩ = some (.int .u32 (b' : Int)) ∧ W.cell? ⟨w.heap.size + 1 + 1 + 1 + 1, 2, none⟩ = some (.int .u32 (c : Int))) (by kernel_rfl) (⟨z0, z1, z2⟩) (fun hHeld => ?_)
              refine wpAnyH_take (i := 0) (v := ?vg17_0) rfl (by kernel_rfl) (by kernel_rfl) (by kernel_rfl) (fun _ _ _ h => h) (Or.inl ⟨by kernel_rfl, ?yg17_0⟩) hHeld ?rg17_0
              case yg17_0 => (intro W hSW; (try dsimp only at hSW); go_simp; (try with_reducible rfl))
              change wpAnyH _ _ _ _ _ _ _ (Act.put _ (some 145) _) _
              simp only [Act.put, List.setIfInBounds_toArray, List.set_cons_zero, List.set_cons_succ]
              refine wpAnyH_take (i := 1) (v := ?vg17_1) rfl (by kernel_rfl) (by kernel_rfl) (by kernel_rfl) (fun _ _ _ h => h) (Or.inl ⟨by kernel_rfl, ?yg17_1⟩) hHeld ?rg17_1
              case yg17_1 => (intro W hSW; (try dsimp only at hSW); go_simp; (try with_reducible rfl))
              change wpAnyH _ _ _ _ _ _ _ (Act.put _ (some 146) _) _
              simp only [Act.put, List.setIfInBounds_toArray, List.set_cons_zero, List.set_cons_succ]
              refine wpAnyH_take (i := 3) (v := ?vg17_3) rfl (by kernel_rfl) (by kernel_rfl) (by kernel_rfl) (fun _ _ _ h => h) (Or.inl ⟨by kernel_rfl, ?yg17_3⟩) hHeld ?rg17_3
              case yg17_3 => (intro W hSW; (try dsimp only at hSW); go_simp; (try with_reducible rfl))
              change wpAnyH _ _ _ _ _ _ _ (Act.put _ (some 148) _) _
              simp only [Act.put, List.setIfInBounds_toArray, List.set_cons_zero, List.set_cons_succ]
              refine wpAnyH_take (i := 4) (v := ?vg17_4) rfl (by kernel_rfl) (by kernel_rfl) (by kernel_rfl) (fun _ _ _ h => h) (Or.inl ⟨by kernel_rfl, ?yg17_4⟩) hHeld ?rg17_4
              case yg17_4 => (intro W hSW; (try dsimp only at hSW); go_simp; (try with_reducible rfl))
              change wpAnyH _ _ _ _ _ _ _ (Act.put _ (some 149) _) _
              simp only [Act.put, List.setIfInBounds_toArray, List.set_cons_zero, List.set_cons_succ]
              refine wpAnyH_take (i := 7) (v := ?vg17_7) rfl (by kernel_rfl) (by kernel_rfl) (by kernel_rfl) (fun _ _ _ h => h) (Or.inl ⟨by kernel_rfl, ?yg17_7⟩) hHeld ?rg17_7
              case yg17_7 => (intro W hSW; (try dsimp only at hSW); go_simp; (try with_reducible rfl))
              change wpAnyH _ _ _ _ _ _ _ (Act.put _ (some 152) _) _
              simp only [Act.put, List.setIfInBounds_toArray, List.set_cons_zero, List.set_cons_succ]
              refine wpAnyH_take (i := 8) (v := ?vg17_8) rfl (by kernel_rfl) (by kernel_rfl) (by kernel_rfl) (fun _ _ _ h => h) (Or.inl ⟨by kernel_rfl, ?yg17_8⟩) hHeld ?rg17_8
              case yg17_8 => (intro W hSW; (try dsimp only at hSW); go_simp; (try with_reducible rfl))
              change wpAnyH _ _ _ _ _ _ _ (Act.put _ (some 153) _) _
              simp only [Act.put, List.setIfInBounds_toArray, List.set_cons_zero, List.set_cons_succ]
              refine wpAnyH_take (i := 11) (v := ?vg17_11) rfl (by kernel_rfl) (by kernel_rfl) (by kernel_rfl) (fun _ _ _ h => h) (Or.inl ⟨by kernel_rfl, ?yg17_11⟩) hHeld ?rg17_11
              case yg17_11 => (intro W hSW; (try dsimp only at hSW); go_simp; (try with_reducible rfl))
              change wpAnyH _ _ _ _ _ _ _ (Act.put _ (some 156) _) _
              simp only [Act.put, List.setIfInBounds_toArray, List.set_cons_zero, List.set_cons_succ]
              refine wpAnyH_take (i := 12) (v := ?vg17_12) rfl (by kernel_rfl) (by kernel_rfl) (by kernel_rfl) (fun _ _ _ h => h) (Or.inl ⟨by kernel_rfl, ?yg17_12⟩) hHeld ?rg17_12
              case yg17_12 => (intro W hSW; (try dsimp only at hSW); go_simp; (try with_reducible rfl))
              change wpAnyH _ _ _ _ _ _ _ (Act.put _ (some 157) _) _
              simp only [Act.put, List.setIfInBounds_toArray, List.set_cons_zero, List.set_cons_succ]
              refine wpAnyH_take (i := 13) (v := ?vg17_13) rfl (by kernel_rfl) (by kernel_rfl) (by kernel_rfl) (fun _ _ _ h => h) (Or.inl ⟨by kernel_rfl, ?yg17_13⟩) hHeld ?rg17_13
              case yg17_13 => (intro W hSW; (try dsimp only at hSW); go_simp; (try with_reducible rfl))
              change wpAnyH _ _ _ _ _ _ _ (Act.put _ (some 158) _) _
              simp only [Act.put, List.setIfInBounds_toArray, List.set_cons_zero, List.set_cons_succ]
              refine wpAnyH_take (i := 14) (v := ?vg17_14) rfl (by kernel_rfl) (by kernel_rfl) (by kernel_rfl) (fun _ _ _ h => h) (Or.inl ⟨by kernel_rfl, ?yg17_14⟩) hHeld ?rg17_14
              case yg17_14 => (intro W hSW; (try dsimp only at hSW); go_simp; (try with_reducible rfl))
              change wpAnyH _ _ _ _ _ _ _ (Act.put _ (some 159) _) _
              simp only [Act.put, List.setIfInBounds_toArray, List.set_cons_zero, List.set_cons_succ]
              refine wpAnyH_take (i := 15) (v := ?vg17_15) rfl (by kernel_rfl) (by kernel_rfl) (by kernel_rfl) (fun _ _ _ h => h) (Or.inl ⟨by kernel_rfl, ?yg17_15⟩) hHeld ?rg17_15
              case yg17_15 => (intro W hSW; (try dsimp only at hSW); go_simp; (try with_reducible rfl))
              change wpAnyH _ _ _ _ _ _ _ (Act.put _ (some 160) _) _
              simp only [Act.put, List.setIfInBounds_toArray, List.set_cons_zero, List.set_cons_succ]
              refine wpAnyH_take (i := 16) (v := ?vg17_16) rfl (by kernel_rfl) (by kernel_rfl) (by kernel_rfl) (fun _ _ _ h => h) (Or.inl ⟨by kernel_rfl, ?yg17_16⟩) hHeld ?rg17_16
              case yg17_16 => (intro W hSW; (try dsimp only at hSW); go_simp; (try with_reducible rfl))
              change wpAnyH _ _ _ _ _ _ _ (Act.put _ (some 161) _) _
              simp only [Act.put, List.setIfInBounds_toArray, List.set_cons_zero, List.set_cons_succ]
              refine wpAnyH_take (i := 17) (v := ?vg17_17) rfl (by kernel_rfl) (by kernel_rfl) (by kernel_rfl) (fun _ _ _ h => h) (Or.inl ⟨by kernel_rfl, ?yg17_17⟩) hHeld ?rg17_17
              case yg17_17 => (intro W hSW; (try dsimp only at hSW); go_simp; (try with_reducible rfl))
              change wpAnyH _ _ _ _ _ _ _ (Act.put _ (some 162) _) _
              simp only [Act.put, List.setIfInBounds_toArray, List.set_cons_zero, List.set_cons_succ]
              refine wpAnyH_take (i := 18) (v := ?vg17_18) rfl (by kernel_rfl) (by kernel_rfl) (by kernel_rfl) (fun _ _ _ h => h) (Or.inl ⟨by kernel_rfl, ?yg17_18⟩) hHeld ?rg17_18
              case yg17_18 => (intro W hSW; (try dsimp only at hSW); go_simp; (try with_reducible rfl))
              change wpAnyH _ _ _ _ _ _ _ (Act.put _ (some 163) _) _
              simp only [Act.put, List.setIfInBounds_toArray, List.set_cons_zero, List.set_cons_succ]
              refine wpAnyH_take (i := 19) (v := ?vg17_19) rfl (by kernel_rfl) (by kernel_rfl) (by kernel_rfl) (fun _ _ _ h => h) (Or.inl ⟨by kernel_rfl, ?yg17_19⟩) hHeld ?rg17_19
              case yg17_19 => (intro W hSW; (try dsimp only at hSW); go_simp; (try with_reducible rfl))
              change wpAnyH _ _ _ _ _ _ _ (Act.put _ (some 164) _) _
              simp only [Act.put, List.setIfInBounds_toArray, List.set_cons_zero, List.set_cons_succ]
              refine wpAnyH_take (i := 20) (v := ?vg17_20) rfl (by kernel_rfl) (by kernel_rfl) (by kernel_rfl) (fun _ _ _ h => h) (Or.inl ⟨by kernel_rfl, ?yg17_20⟩) hHeld ?rg17_20
              case yg17_20 => (intro W hSW; (try dsimp only at hSW); go_simp; (try with_reducible rfl))
              change wpAnyH _ _ _ _ _ _ _ (Act.put _ (some 165) _) _
              simp only [Act.put, List.setIfInBounds_toArray, List.set_cons_zero, List.set_cons_succ]
              refine wpAnyH_take (i := 21) (v := ?vg17_21) rfl (by kernel_rfl) (by kernel_rfl) (by kernel_rfl) (fun _ _ _ h => h) (Or.inl ⟨by kernel_rfl, ?yg17_21⟩) hHeld ?rg17_21
              case yg17_21 => (intro W hSW; (try dsimp only at hSW); go_simp; (try with_reducible rfl))
              change wpAnyH _ _ _ _ _ _ _ (Act.put _ (some 166) _) _
              simp only [Act.put, List.setIfInBounds_toArray, List.set_cons_zero, List.set_cons_succ]
              refine wpAnyH_take (i := 22) (v := ?vg17_22) rfl (by kernel_rfl) (by kernel_rfl) (by kernel_rfl) (fun _ _ _ h => h) (Or.inl ⟨by kernel_rfl, ?yg17_22⟩) hHeld ?rg17_22
              case yg17_22 => (intro W hSW; (try dsimp only at hSW); go_simp; (try with_reducible rfl))
              change wpAnyH _ _ _ _ _ _ _ (Act.put _ (some 167) _) _
              simp only [Act.put, List.setIfInBounds_toArray, List.set_cons_zero, List.set_cons_succ]
              refine wpAnyH_take (i := 23) (v := ?vg17_23) rfl (by kernel_rfl) (by kernel_rfl) (by kernel_rfl) (fun _ _ _ h => h) (Or.inl ⟨by kernel_rfl, ?yg17_23⟩) hHeld ?rg17_23
              case yg17_23 => (intro W hSW; (try dsimp only at hSW); go_simp; (try with_reducible rfl))
              change wpAnyH _ _ _ _ _ _ _ (Act.put _ (some 168) _) _
              simp only [Act.put, List.setIfInBounds_toArray, List.set_cons_zero, List.set_cons_succ]
              refine wpAnyH_take (i := 24) (v := ?vg17_24) rfl (by kernel_rfl) (by kernel_rfl) (by kernel_rfl) (fun _ _ _ h => h) (Or.inl ⟨by kernel_rfl, ?yg17_24⟩) hHeld ?rg17_24
              case yg17_24 => (intro W hSW; (try dsimp only at hSW); go_simp; (try with_reducible rfl))
              change wpAnyH _ _ _ _ _ _ _ (Act.put _ (some 169) _) _
              simp only [Act.put, List.setIfInBounds_toArray, List.set_cons_zero, List.set_cons_succ]
              refine wpAnyH_take (i := 25) (v := ?vg17_25) rfl (by kernel_rfl) (by kernel_rfl) (by kernel_rfl) (fun _ _ _ h => h) (Or.inl ⟨by kernel_rfl, ?yg17_25⟩) hHeld ?rg17_25
              case yg17_25 => (intro W hSW; (try dsimp only at hSW); go_simp; (try with_reducible rfl))
              change wpAnyH _ _ _ _ _ _ _ (Act.put _ (some 170) _) _
              simp only [Act.put, List.setIfInBounds_toArray, List.set_cons_zero, List.set_cons_succ]
              refine wpAnyH_take (i := 26) (v := ?vg17_26) rfl (by kernel_rfl) (by kernel_rfl) (by kernel_rfl) (fun _ _ _ h => h) (Or.inl ⟨by kernel_rfl, ?yg17_26⟩) hHeld ?rg17_26
              case yg17_26 => (intro W hSW; (try dsimp only at hSW); go_simp; (try with_reducible rfl))
              change wpAnyH _ _ _ _ _ _ _ (Act.put _ (some 171) _) _
              simp only [Act.put, List.setIfInBounds_toArray, List.set_cons_zero, List.set_cons_succ]
              refine wpAnyH_take (i := 27) (v := ?vg17_27) rfl (by kernel_rfl) (by kernel_rfl) (by kernel_rfl) (fun _ _ _ h => h) (Or.inl ⟨by kernel_rfl, ?yg17_27⟩) hHeld ?rg17_27
              case yg17_27 => (intro W hSW; (try dsimp only at hSW); go_simp; (try with_reducible rfl))
              change wpAnyH _ _ _ _ _ _ _ (Act.put _ (some 172) _) _
              simp only [Act.put, List.setIfInBounds_toArray, List.set_cons_zero, List.set_cons_succ]
              refine wpAnyH_ready (rs := [2]) (by kernel_rfl) (by simp) ?_
              refine AllReadyH.cons rfl (fun K hK => ?_) AllReadyH.nil
              go_simp
              refine (turn_any a 2 _ Ha.out (by omega) (by omega)).mono ?_
              rintro e w3 ⟨rfl, hw3⟩; subst w3
              refine hK.out _ _ (hHeld) (fun hHeld => ?_)
              clear hK K
              try simp only [Act.put, List.setIfInBounds_toArray, List.set_cons_zero, List.set_cons_succ]
              refine wpAnyH_ready (rs := [5]) (by kernel_rfl) (by simp) ?_
              refine AllReadyH.cons rfl (fun K hK => ?_) AllReadyH.nil
              go_simp
              refine (turn_any a 13 _ Ha.out (by omega) (by omega)).mono ?_
              rintro e w3 ⟨rfl, hw3⟩; subst w3
              refine hK.out _ _ (hHeld) (fun hHeld => ?_)
              clear hK K
              try simp only [Act.put, List.setIfInBounds_toArray, List.set_cons_zero, List.set_cons_succ]
              refine wpAnyH_take (i := 6) (v := ?vg17_6) rfl (by kernel_rfl) (by kernel_rfl) (by kernel_rfl) (fun _ _ _ h => h) (Or.inl ⟨by kernel_rfl, ?yg17_6⟩) hHeld ?rg17_6
              case yg17_6 => (intro W hSW; (try dsimp only at hSW); go_simp; (try with_reducible rfl))
              change wpAnyH _ _ _ _ _ _ _ (Act.put _ (some 151) _) _
              simp only [Act.put, List.setIfInBounds_toArray, List.set_cons_zero, List.set_cons_succ]
              refine wpAnyH_ready (rs := [9]) (by kernel_rfl) (by simp) ?_
              refine AllReadyH.cons rfl (fun K hK => ?_) AllReadyH.nil
              go_simp
              refine (turn_any a 22 _ Ha.out (by omega) (by omega)).mono ?_
              rintro e w3 ⟨rfl, hw3⟩; subst w3
              refine hK.out _ _ (hHeld) (fun hHeld => ?_)
              clear hK K
              try simp only [Act.put, List.setIfInBounds_toArray, List.set_cons_zero, List.set_cons_succ]
              refine wpAnyH_take (i := 10) (v := ?vg17_10) rfl (by kernel_rfl) (by kernel_rfl) (by kernel_rfl) (fun _ _ _ h => h) (Or.inl ⟨by kernel_rfl, ?yg17_10⟩) hHeld ?rg17_10
              case yg17_10 => (intro W hSW; (try dsimp only at hSW); go_simp; (try with_reducible rfl))
              change wpAnyH _ _ _ _ _ _ _ (Act.put _ (some 155) _) _
              simp only [Act.put, List.setIfInBounds_toArray, List.set_cons_zero, List.set_cons_succ]
              refine wpAnyH_take (i := 28) (v := ?vg17_28) rfl (by kernel_rfl) (by kernel_rfl) (by kernel_rfl) (fun _ _ _ h => h) (Or.inl ⟨by kernel_rfl, ?yg17_28⟩) hHeld ?rg17_28
              case yg17_28 => (intro W hSW; (try dsimp only at hSW); go_simp; (try with_reducible rfl))
              change wpAnyH _ _ _ _ _ _ _ (Act.put _ (some 173) _) _
              simp only [Act.put, List.setIfInBounds_toArray, List.set_cons_zero, List.set_cons_succ]
              refine wpAnyH_take (i := 29) (v := ?vg17_29) rfl (by kernel_rfl) (by kernel_rfl) (by kernel_rfl) (fun _ _ _ h => h) (Or.inl ⟨by kernel_rfl, ?yg17_29⟩) hHeld ?rg17_29
              case yg17_29 => (intro W hSW; (try dsimp only at hSW); go_simp; (try with_reducible rfl))
              change wpAnyH _ _ _ _ _ _ _ (Act.put _ (some 15) _) _
              simp only [Act.put, List.setIfInBounds_toArray, List.set_cons_zero, List.set_cons_succ]
              refine wpAnyH_done (by kernel_rfl) ?_ _
              go_wp2
              refine ⟨?_, ?measure⟩
              refine ⟨_, _, _, _, _, _, _, _, _, _, _, _, _, _, _, _, _, _, _, _, _, _, _, _, _, _, _, _, _, _, _, _, _, _, _, _, _, _, _, _, _, _, _, _, _, _, _, _, _, _, _, _, _, _, _, _, _, _, _, _, _, _, _, _, _, _, _, _, _, _, _, _, _, _, _, _, _, _, _, _, _, _, _, _, _, _, _, _, _, _, _, ?rel, rfl⟩
              case rel =>
                refine ⟨t + 1, by omega, by go_num, ?_⟩
                rw [HRN.out]
                have hh := (((((((HR.out.zput 0 ((U + V) % 4294967296)).zput 1 a).zput 2 b').zput 3 c).zput 4 ((d + U) % 4294967296)).zput 5 e).zput 6 f).zput 7 g
                have e0 : (((U + V) % 4294967296 : Nat) : Int) = ((U : Int) + (V : Int)) % 4294967296 := by omega
                have e4 : (((d + U) % 4294967296 : Nat) : Int) = ((d : Int) + (U : Int)) % 4294967296 := by omega
                rw [e0, e4] at hh
                exact hh.drew.drew
              case measure => simp [intOf]; omega
            · obtain rfl : t = 64 := by omega
              obtain ⟨a, b', c, d, e, f, g, h, he8, hw8⟩ := rnds_eight ks WS 64 [s0, s1, s2, s3, s4, s5, s6, s7] ⟨_, _, _, _, _, _, _, _, rfl, HS.out⟩
              obtain ⟨Z, hZ⟩ : ∃ Z, Z = [a, b', c, d, e, f, g, h] := ⟨_, rfl⟩
              have HZ8 : Hid (Z.length = 8) := by rw [hZ]; exact rfl
              have HZw : Hid (Wd Z) := by rw [hZ]; exact hw8
              rw [← hZ] at he8
              rw [he8] at hrel
              have HZ : Hid (rnds ks WS 64 [s0, s1, s2, s3, s4, s5, s6, s7] = Z) := he8
              clear he8 hw8 hZ
              have HS8 : Hid (ss.length = 8) := by rw [HSS.out]; exact rfl
              have HSw : Hid (Wd ss) := by rw [HSS.out]; exact HS.out
              have HR : Hid (MixZ w.heap.size w ks ss (List.replicate 8 0) WS Z wr) := hrel
              clear hrel
              go_wp2
              go_loopw [16] (fun i wr => ∃ t : Nat, t ≤ 8 ∧ i = .int .i64 t ∧ MixZ w.heap.size w ks ((sumW ss Z).take t ++ ss.drop t) (List.replicate 8 0) WS Z wr) (fun i _ => 8 - (intOf i).toNat)
              case atStart => exact ⟨0, by omega, rfl, HR.out⟩
              case round =>
                clear HR
                obtain ⟨t, ht, rfl, hrel⟩ := hrel
                have hsl : (sumW ss Z).length = 8 := by simp [sumW, HS8.out, HZ8.out]
                by_cases hlt : t < 8
                · obtain ⟨x, hx⟩ : ∃ x, ss.getD t 0 = x := ⟨_, rfl⟩
                  obtain ⟨y, hy⟩ : ∃ x, Z.getD t 0 = x := ⟨_, rfl⟩
                  have wx : x < 4294967296 := hx ▸ HSw.out.getD t
                  have wy : y < 4294967296 := hy ▸ HZw.out.getD t
                  have e1 := sumW_step ss Z t (by rw [HS8.out]; omega) (by rw [HZ8.out]; omega)
                  rw [hx, hy] at e1
                  have c1 : wr.cell? ⟨w.heap.size + 1, t, none⟩ = some (.int .u32 (x : Int)) := by
                    have := hrel.scell t (by simp [hsl, HS8.out]; omega)
                    rw [e1.1] at this; exact this
                  have c2 : wr.cell? ⟨w.heap.size + 1 + 1 + 1 + 1, t, none⟩ = some (.int .u32 (y : Int)) := by
                    have := hrel.zcell t (by rw [HZ8.out]; omega)
                    rw [hy] at this; exact this
                  have hf : wr.frozen? ⟨w.heap.size + 1, t, none⟩ = false := hrel.sfro t
                  have kt : (t : Int) < 8 := by omega
                  have E1 : Hid (((sumW ss Z).take t ++ ss.drop t).set t ((x + y) % 4294967296) = (sumW ss Z).take (t + 1) ++ ss.drop (t + 1)) := e1.2
                  have HR : Hid (MixZ w.heap.size w ks ((sumW ss Z).take t ++ ss.drop t) (List.replicate 8 0) WS Z wr) := hrel
                  clear hrel e1 hx hy hsl
                  go_wp2
                  go_region
                  go_wp2
                  refine ⟨⟨t + 1, by omega, by go_num, ?_⟩, by simp [intOf]; omega⟩
                  have h := HR.out.sput t ((x + y) % 4294967296)
                  rw [E1.out, show (((x + y) % 4294967296 : Nat) : Int) = ((x : Int) + (y : Int)) % 4294967296 by omega] at h
                  exact h.drew
                · obtain rfl : t = 8 := by omega
                  obtain ⟨n0, n1, n2, n3, n4, n5, n6, n7, hn⟩ := eight_of_len (sumW ss Z) hsl
                  have ee : (sumW ss Z).take 8 ++ ss.drop 8 = sumW ss Z := by
                    rw [List.take_of_length_le (by omega), List.drop_eq_nil_of_le (by rw [HS8.out]; omega), List.append_nil]
                  rw [ee, hn] at hrel
                  have HM : Hid (mixL ks ss b.data.toList = [n0, n1, n2, n3, n4, n5, n6, n7]) := by
                    show sumW ss (rnds ks (schedL (wordsOf b.data.toList) 48) 64 ss) = _
                    rw [HWE.out, ← hn, ← HZ.out, HSS.out]
                  have c0 : wr.cell? ⟨w.heap.size + 1, 0, none⟩ = some (.int .u32 (n0 : Int)) := hrel.scell 0 (by simp)
                  have d0 : wr.cell? ⟨w.heap.size + 1 + 1, 0, none⟩ = some (.int .u32 0) := hrel.rcell 0 (by simp)
                  have f0 : wr.frozen? ⟨w.heap.size + 1 + 1, 0, none⟩ = false := hrel.rfro 0
                  have c1 : wr.cell? ⟨w.heap.size + 1, 1, none⟩ = some (.int .u32 (n1 : Int)) := hrel.scell 1 (by simp)
                  have d1 : wr.cell? ⟨w.heap.size + 1 + 1, 1, none⟩ = some (.int .u32 0) := hrel.rcell 1 (by simp)
                  have f1 : wr.frozen? ⟨w.heap.size + 1 + 1, 1, none⟩ = false := hrel.rfro 1
                  have c2 : wr.cell? ⟨w.heap.size + 1, 2, none⟩ = some (.int .u32 (n2 : Int)) := hrel.scell 2 (by simp)
                  have d2 : wr.cell? ⟨w.heap.size + 1 + 1, 2, none⟩ = some (.int .u32 0) := hrel.rcell 2 (by simp)
                  have f2 : wr.frozen? ⟨w.heap.size + 1 + 1, 2, none⟩ = false := hrel.rfro 2
                  have c3 : wr.cell? ⟨w.heap.size + 1, 3, none⟩ = some (.int .u32 (n3 : Int)) := hrel.scell 3 (by simp)
                  have d3 : wr.cell? ⟨w.heap.size + 1 + 1, 3, none⟩ = some (.int .u32 0) := hrel.rcell 3 (by simp)
                  have f3 : wr.frozen? ⟨w.heap.size + 1 + 1, 3, none⟩ = false := hrel.rfro 3
                  have c4 : wr.cell? ⟨w.heap.size + 1, 4, none⟩ = some (.int .u32 (n4 : Int)) := hrel.scell 4 (by simp)
                  have d4 : wr.cell? ⟨w.heap.size + 1 + 1, 4, none⟩ = some (.int .u32 0) := hrel.rcell 4 (by simp)
                  have f4 : wr.frozen? ⟨w.heap.size + 1 + 1, 4, none⟩ = false := hrel.rfro 4
                  have c5 : wr.cell? ⟨w.heap.size + 1, 5, none⟩ = some (.int .u32 (n5 : Int)) := hrel.scell 5 (by simp)
                  have d5 : wr.cell? ⟨w.heap.size + 1 + 1, 5, none⟩ = some (.int .u32 0) := hrel.rcell 5 (by simp)
                  have f5 : wr.frozen? ⟨w.heap.size + 1 + 1, 5, none⟩ = false := hrel.rfro 5
                  have c6 : wr.cell? ⟨w.heap.size + 1, 6, none⟩ = some (.int .u32 (n6 : Int)) := hrel.scell 6 (by simp)
                  have d6 : wr.cell? ⟨w.heap.size + 1 + 1, 6, none⟩ = some (.int .u32 0) := hrel.rcell 6 (by simp)
                  have f6 : wr.frozen? ⟨w.heap.size + 1 + 1, 6, none⟩ = false := hrel.rfro 6
                  have c7 : wr.cell? ⟨w.heap.size + 1, 7, none⟩ = some (.int .u32 (n7 : Int)) := hrel.scell 7 (by simp)
                  have d7 : wr.cell? ⟨w.heap.size + 1 + 1, 7, none⟩ = some (.int .u32 0) := hrel.rcell 7 (by simp)
                  have f7 : wr.frozen? ⟨w.heap.size + 1 + 1, 7, none⟩ = false := hrel.rfro 7
                  have HR : Hid (MixZ w.heap.size w ks [n0, n1, n2, n3, n4, n5, n6, n7] (List.replicate 8 0) WS Z wr) := hrel
                  clear hrel hn ee hsl
                  go_wp2
                  have hh := (((((((HR.out.rput 0 n0).rput 1 n1).rput 2 n2).rput 3 n3).rput 4 n4).rput 5 n5).rput 6 n6).rput 7 n7
                  rw [HM.out]
                  refine bodyPost_ret (v := .agg (u32v [n0, n1, n2, n3, n4, n5, n6, n7])) ?_ rfl ⟨rfl, hh.bl⟩
                  exact results_cell_row rfl _ _ (w.heap.size + 2) 73 _ (0, 0) _ rfl hh.rc Tryd.underlying73 rfl (by kernel_rfl)
end Go.Proofs.YtbflkkffpcaakaaDoor
