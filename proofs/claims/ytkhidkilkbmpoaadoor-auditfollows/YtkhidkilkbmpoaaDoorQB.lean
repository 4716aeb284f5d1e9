/- Walks over the document's Good and Bytes. -/
import Derived.Test.YtkhidkilkbmpoaaDoorFA
namespace Go.Proofs.YtkhidkilkbmpoaaDoor
open Go.RowKit
set_option maxRecDepth 100000 in
set_option maxHeartbeats 2000000 in
theorem rgood_any (c : En) (w : World) : Calls Tryd.prog 22 #[.agg #[.int .i64 c.seq, .int .i64 c.time, .int .i64 c.kind, .string c.path, .int .i64 c.errno]] w fun e w' => YeTo w c.ok e w' := by
  obtain ⟨q, u, k, p, r⟩ := c
  simp only
  obtain ⟨pb, hpb⟩ : ∃ pb, w.heap.size = pb := ⟨_, rfl⟩
  obtain ⟨V1, hV1, r1, hb1⟩ := box_en (w := w) q u k p r
  rw [hpb] at r1
  obtain ⟨x0, x1, x2, x3, x4, _⟩ := row5 r1
  have HD : Hid (∀ W b, Below V1.heap.size V1 W → (⟨q, u, k, p, r⟩ : En).ok = b → Hid (YeTo w (⟨q, u, k, p, r⟩ : En).ok (.returned (.bool b)) W)) := fun W b hW hb => ⟨by rw [hb], hb1.trans (hW.mono hb1.size)⟩
  clear r1 hb1
  by_cases c0 : q < 1
  · have hk : (⟨q, u, k, p, r⟩ : En).ok = false := by unfold En.ok; rw [decide_eq_false_iff_not]; simp only; omega
    have HE := HD.out V1 false (Below.refl _ _) hk
    clear hk
    go_enter Tryd.func22, Tryd.ntmps22
    go_wp2
    go_ret
    exact HE.out
  · by_cases c1 : 2147483648 < q
    · have hk : (⟨q, u, k, p, r⟩ : En).ok = false := by unfold En.ok; rw [decide_eq_false_iff_not]; simp only; omega
      have HE := HD.out V1 false (Below.refl _ _) hk
      clear hk
      go_enter Tryd.func22, Tryd.ntmps22
      go_wp2
      go_ret
      exact HE.out
    · by_cases c2 : u < 0
      · have hk : (⟨q, u, k, p, r⟩ : En).ok = false := by unfold En.ok; rw [decide_eq_false_iff_not]; simp only; omega
        have HE := HD.out V1 false (Below.refl _ _) hk
        clear hk
        go_enter Tryd.func22, Tryd.ntmps22
        go_wp2
        go_ret
        exact HE.out
      · by_cases c3 : 1099511627776 < u
        · have hk : (⟨q, u, k, p, r⟩ : En).ok = false := by unfold En.ok; rw [decide_eq_false_iff_not]; simp only; omega
          have HE := HD.out V1 false (Below.refl _ _) hk
          clear hk
          go_enter Tryd.func22, Tryd.ntmps22
          go_wp2
          go_ret
          exact HE.out
        · by_cases c4 : 0 ≤ k
          · by_cases c5 : k ≤ 100
            · by_cases c6 : (p.size : Int) ≤ 32
              · by_cases c7 : 0 ≤ r
                · by_cases c8 : r ≤ 100
                  · have hk : (⟨q, u, k, p, r⟩ : En).ok = true := En.ok_iff.2 (by simp only; omega)
                    have HE := HD.out V1 true (Below.refl _ _) hk
                    clear hk
                    go_enter Tryd.func22, Tryd.ntmps22
                    go_wp2
                    go_ret
                    exact HE.out
                  · have hk : (⟨q, u, k, p, r⟩ : En).ok = false := by unfold En.ok; rw [decide_eq_false_iff_not]; simp only; omega
                    have dq : decide (r ≤ 100) = false := decide_eq_false c8
                    have HE := HD.out V1 false (Below.refl _ _) hk
                    clear hk
                    go_enter Tryd.func22, Tryd.ntmps22
                    go_wp2
                    go_ret
                    exact HE.out
                · have hk : (⟨q, u, k, p, r⟩ : En).ok = false := by unfold En.ok; rw [decide_eq_false_iff_not]; simp only; omega
                  have dq : decide (0 ≤ r) = false := decide_eq_false c7
                  have HE := HD.out V1 false (Below.refl _ _) hk
                  clear hk
                  go_enter Tryd.func22, Tryd.ntmps22
                  go_wp2
                  go_ret
                  exact HE.out
              · have hk : (⟨q, u, k, p, r⟩ : En).ok = false := by unfold En.ok; rw [decide_eq_false_iff_not]; simp only; omega
                have dq : decide ((p.size : Int) ≤ 32) = false := decide_eq_false c6
                have HE := HD.out V1 false (Below.refl _ _) hk
                clear hk
                go_enter Tryd.func22, Tryd.ntmps22
                go_wp2
                go_ret
                exact HE.out
            · have hk : (⟨q, u, k, p, r⟩ : En).ok = false := by unfold En.ok; rw [decide_eq_false_iff_not]; simp only; omega
              have dq : decide (k ≤ 100) = false := decide_eq_false c5
              have HE := HD.out V1 false (Below.refl _ _) hk
              clear hk
              go_enter Tryd.func22, Tryd.ntmps22
              go_wp2
              go_ret
              exact HE.out
          · have hk : (⟨q, u, k, p, r⟩ : En).ok = false := by unfold En.ok; rw [decide_eq_false_iff_not]; simp only; omega
            have dq : decide (0 ≤ k) = false := decide_eq_false c4
            have HE := HD.out V1 false (Below.refl _ _) hk
            clear hk
            go_enter Tryd.func22, Tryd.ntmps22
            go_wp2
            go_ret
            exact HE.out
set_option maxRecDepth 100000 in
set_option maxHeartbeats 1000000 in
theorem rbytes_any (c : En) (w : World) (hok : c.ok = true) : Calls Tryd.prog 24 #[.agg #[.int .i64 c.seq, .int .i64 c.time, .int .i64 c.kind, .string c.path, .int .i64 c.errno]] w fun e w' => StTo w c.bytes e w' := by
  obtain ⟨q, u, k, p, r⟩ := c
  rw [En.ok_iff] at hok
  simp only at hok ⊢
  obtain ⟨qn, rfl⟩ : ∃ n : Nat, q = (n : Int) := ⟨q.toNat, by omega⟩
  obtain ⟨un, rfl⟩ : ∃ n : Nat, u = (n : Int) := ⟨u.toNat, by omega⟩
  obtain ⟨kn, rfl⟩ : ∃ n : Nat, k = (n : Int) := ⟨k.toNat, by omega⟩
  obtain ⟨rn, rfl⟩ : ∃ n : Nat, r = (n : Int) := ⟨r.toNat, by omega⟩
  have wq : IntKind.u64.wrap (qn : Int) = (qn : Int) := by rw [IntKind.wrap_u64]; omega
  have wu : IntKind.u64.wrap (un : Int) = (un : Int) := by rw [IntKind.wrap_u64]; omega
  have wk : IntKind.u64.wrap (kn : Int) = (kn : Int) := by rw [IntKind.wrap_u64]; omega
  have wr : IntKind.u64.wrap (rn : Int) = (rn : Int) := by rw [IntKind.wrap_u64]; omega
  obtain ⟨pb, hpb⟩ : ∃ pb, w.heap.size = pb := ⟨_, rfl⟩
  obtain ⟨V1, hV1, r1, hb1⟩ := box_en (w := w) (qn : Int) (un : Int) (kn : Int) p (rn : Int)
  rw [hpb] at r1
  have HK : Hid (∀ W, Below V1.heap.size V1 W → W.cell? ⟨pb, 0, none⟩ = some (.int .i64 (qn : Int)) ∧ W.cell? ⟨pb, 1, none⟩ = some (.int .i64 (un : Int)) ∧ W.cell? ⟨pb, 2, none⟩ = some (.int .i64 (kn : Int)) ∧ W.cell? ⟨pb, 3, none⟩ = some (.string p) ∧ W.cell? ⟨pb, 4, none⟩ = some (.int .i64 (rn : Int))) := fun W hW => by
    obtain ⟨x0, x1, x2, x3, x4, _⟩ := row5 ((hW.block pb (lt_of_some r1)).trans r1)
    exact ⟨x0, x1, x2, x3, x4⟩
  obtain ⟨A, hA⟩ : ∃ A, strOf (putN qn) = A := ⟨_, rfl⟩
  obtain ⟨B, hB⟩ : ∃ B, strOf (putN un) = B := ⟨_, rfl⟩
  obtain ⟨C, hC⟩ : ∃ C, strOf (putN kn) = C := ⟨_, rfl⟩
  obtain ⟨D, hD⟩ : ∃ D, strOf (textN p.data.toList) = D := ⟨_, rfl⟩
  obtain ⟨E, hE⟩ : ∃ E, strOf (putN rn) = E := ⟨_, rfl⟩
  have H1 : Hid (∀ W, Calls Tryd.prog 38 #[.int .u64 (qn : Int)] W fun e w' => e = .returned (.string A) ∧ Below W.heap.size W w') := fun W => by rw [← hA]; exact rput_st qn W (by omega)
  have H2 : Hid (∀ W, Calls Tryd.prog 38 #[.int .u64 (un : Int)] W fun e w' => e = .returned (.string B) ∧ Below W.heap.size W w') := fun W => by rw [← hB]; exact rput_st un W (by omega)
  have H3 : Hid (∀ W, Calls Tryd.prog 38 #[.int .u64 (kn : Int)] W fun e w' => e = .returned (.string C) ∧ Below W.heap.size W w') := fun W => by rw [← hC]; exact rput_st kn W (by omega)
  have H4 : Hid (∀ W, Calls Tryd.prog 39 #[.string p] W fun e w' => e = .returned (.string D) ∧ Below W.heap.size W w') := fun W => by rw [← hD]; exact rtext_st p W (by omega)
  have H5 : Hid (∀ W, Calls Tryd.prog 38 #[.int .u64 (rn : Int)] W fun e w' => e = .returned (.string E) ∧ Below W.heap.size W w') := fun W => by rw [← hE]; exact rput_st rn W (by omega)
  have hpl : p.data.toList.length = p.size := Array.length_toList
  have ht := textN_len (l := p.data.toList) (by omega)
  have h1 := putN_le10 qn (by omega)
  have h2 := putN_le10 un (by omega)
  have h3 := putN_le10 kn (by omega)
  have h5 := putN_le10 rn (by omega)
  have zA : A.size ≤ 10 := by rw [← hA, strOf_size]; omega
  have zB : B.size ≤ 10 := by rw [← hB, strOf_size]; omega
  have zC : C.size ≤ 10 := by rw [← hC, strOf_size]; omega
  have zD : D.size ≤ 50 := by rw [← hD, strOf_size]; omega
  have zE : E.size ≤ 10 := by rw [← hE, strOf_size]; omega
  have ov1 : ¬ 9223372036854775807 < A.size + B.size := by omega
  have ov2 : ¬ 9223372036854775807 < (A ++ B).size + C.size := by rw [ByteArray.size_append]; omega
  have ov3 : ¬ 9223372036854775807 < A.size + B.size + C.size := by omega
  have ov4 : ¬ 9223372036854775807 < (A ++ B ++ C).size + D.size := by rw [ByteArray.size_append, ByteArray.size_append]; omega
  have ov5 : ¬ 9223372036854775807 < A.size + B.size + C.size + D.size := by omega
  have ov6 : ¬ 9223372036854775807 < (A ++ B ++ C ++ D).size + E.size := by rw [ByteArray.size_append, ByteArray.size_append, ByteArray.size_append]; omega
  have ov7 : ¬ 9223372036854775807 < A.size + B.size + C.size + D.size + E.size := by omega
  have hbe : (⟨(qn : Int), (un : Int), (kn : Int), p, (rn : Int)⟩ : En).bytes = putN qn ++ putN un ++ putN kn ++ textN p.data.toList ++ putN rn := by simp [En.bytes, En.pl]
  have HS : Hid (strOf (putN qn ++ putN un ++ putN kn ++ textN p.data.toList ++ putN rn) = A ++ B ++ C ++ D ++ E) := by show _ = _; rw [strOf_append, strOf_append, strOf_append, strOf_append, hA, hB, hC, hD, hE]
  rw [hbe]
  have HB : Hid (Below w.heap.size w V1) := hb1
  clear r1 hb1 hbe hA hB hC hD hE hpl ht h1 h2 h3 h5 hok
  go_enter Tryd.func24, Tryd.ntmps24
  go_wp2
  refine wp_region_held_drew (S := fun W => W.cell? ⟨pb, 0, none⟩ = some (.int .i64 (qn : Int)) ∧ W.cell? ⟨pb, 1, none⟩ = some (.int .i64 (un : Int)) ∧ W.cell? ⟨pb, 2, none⟩ = some (.int .i64 (kn : Int)) ∧ W.cell? ⟨pb, 3, none⟩ = some (.string p) ∧ W.cell? ⟨pb, 4, none⟩ = some (.int .i64 (rn : Int))) (by kernel_rfl) (HK.out V1.drew (Below.refl _ V1).drew) (fun hHeld => ?_)
  refine wpAnyH_take (i := 0) (v := ?vb_0) rfl (by kernel_rfl) (by kernel_rfl) (by kernel_rfl) (fun _ _ _ h => h) (Or.inl ⟨by first | kernel_rfl | rfl, ?yb_0⟩) hHeld ?rb_0
  case yb_0 => (intro W hSW; (try dsimp only at hSW); go_simp; (try with_reducible rfl))
  change wpAnyH _ _ _ _ _ _ _ (Act.put _ (some 3) _) _
  simp only [Act.put, List.setIfInBounds_toArray, List.set_cons_zero, List.set_cons_succ]
  refine wpAnyH_take (i := 1) (v := ?vb_1) rfl (by kernel_rfl) (by kernel_rfl) (by kernel_rfl) (fun _ _ _ h => h) (Or.inl ⟨by first | kernel_rfl | rfl, ?yb_1⟩) hHeld ?rb_1
  case yb_1 => (intro W hSW; (try dsimp only at hSW); go_simp; (try with_reducible rfl))
  change wpAnyH _ _ _ _ _ _ _ (Act.put _ (some 4) _) _
  simp only [Act.put, List.setIfInBounds_toArray, List.set_cons_zero, List.set_cons_succ]
  refine wpAnyH_take (i := 2) (v := ?vb_2) rfl (by kernel_rfl) (by kernel_rfl) (by kernel_rfl) (fun _ _ _ h => h) (Or.inl ⟨by first | kernel_rfl | rfl, ?yb_2⟩) hHeld ?rb_2
  case yb_2 => (intro W hSW; (try dsimp only at hSW); go_simp; (try with_reducible rfl))
  change wpAnyH _ _ _ _ _ _ _ (Act.put _ (some 5) _) _
  simp only [Act.put, List.setIfInBounds_toArray, List.set_cons_zero, List.set_cons_succ]
  refine wpAnyH_take (i := 4) (v := ?vb_4) rfl (by kernel_rfl) (by kernel_rfl) (by kernel_rfl) (fun _ _ _ h => h) (Or.inl ⟨by first | kernel_rfl | rfl, ?yb_4⟩) hHeld ?rb_4
  case yb_4 => (intro W hSW; (try dsimp only at hSW); go_simp; (try with_reducible rfl))
  change wpAnyH _ _ _ _ _ _ _ (Act.put _ (some 7) _) _
  simp only [Act.put, List.setIfInBounds_toArray, List.set_cons_zero, List.set_cons_succ]
  refine wpAnyH_take (i := 5) (v := ?vb_5) rfl (by kernel_rfl) (by kernel_rfl) (by kernel_rfl) (fun _ _ _ h => h) (Or.inl ⟨by first | kernel_rfl | rfl, ?yb_5⟩) hHeld ?rb_5
  case yb_5 => (intro W hSW; (try dsimp only at hSW); go_simp; (try with_reducible rfl))
  change wpAnyH _ _ _ _ _ _ _ (Act.put _ (some 8) _) _
  simp only [Act.put, List.setIfInBounds_toArray, List.set_cons_zero, List.set_cons_succ]
  refine wpAnyH_take (i := 6) (v := ?vb_6) rfl (by kernel_rfl) (by kernel_rfl) (by kernel_rfl) (fun _ _ _ h => h) (Or.inl ⟨by first | kernel_rfl | rfl, ?yb_6⟩) hHeld ?rb_6
  case yb_6 => (intro W hSW; (try dsimp only at hSW); go_simp; (try with_reducible rfl))
  change wpAnyH _ _ _ _ _ _ _ (Act.put _ (some 9) _) _
  simp only [Act.put, List.setIfInBounds_toArray, List.set_cons_zero, List.set_cons_succ]
  refine wpAnyH_take (i := 9) (v := ?vb_9) rfl (by kernel_rfl) (by kernel_rfl) (by kernel_rfl) (fun _ _ _ h => h) (Or.inl ⟨by first | kernel_rfl | rfl, ?yb_9⟩) hHeld ?rb_9
  case yb_9 => (intro W hSW; (try dsimp only at hSW); go_simp; (try with_reducible rfl))
  change wpAnyH _ _ _ _ _ _ _ (Act.put _ (some 12) _) _
  simp only [Act.put, List.setIfInBounds_toArray, List.set_cons_zero, List.set_cons_succ]
  refine wpAnyH_take (i := 10) (v := ?vb_10) rfl (by kernel_rfl) (by kernel_rfl) (by kernel_rfl) (fun _ _ _ h => h) (Or.inl ⟨by first | kernel_rfl | rfl, ?yb_10⟩) hHeld ?rb_10
  case yb_10 => (intro W hSW; (try dsimp only at hSW); go_simp; (try with_reducible rfl))
  change wpAnyH _ _ _ _ _ _ _ (Act.put _ (some 13) _) _
  simp only [Act.put, List.setIfInBounds_toArray, List.set_cons_zero, List.set_cons_succ]
  refine wpAnyH_take (i := 11) (v := ?vb_11) rfl (by kernel_rfl) (by kernel_rfl) (by kernel_rfl) (fun _ _ _ h => h) (Or.inl ⟨by first | kernel_rfl | rfl, ?yb_11⟩) hHeld ?rb_11
  case yb_11 => (intro W hSW; (try dsimp only at hSW); go_simp; (try with_reducible rfl))
  change wpAnyH _ _ _ _ _ _ _ (Act.put _ (some 14) _) _
  simp only [Act.put, List.setIfInBounds_toArray, List.set_cons_zero, List.set_cons_succ]
  refine wpAnyH_take (i := 14) (v := ?vb_14) rfl (by kernel_rfl) (by kernel_rfl) (by kernel_rfl) (fun _ _ _ h => h) (Or.inl ⟨by first | kernel_rfl | rfl, ?yb_14⟩) hHeld ?rb_14
  case yb_14 => (intro W hSW; (try dsimp only at hSW); go_simp; (try with_reducible rfl))
  change wpAnyH _ _ _ _ _ _ _ (Act.put _ (some 17) _) _
  simp only [Act.put, List.setIfInBounds_toArray, List.set_cons_zero, List.set_cons_succ]
  refine wpAnyH_take (i := 15) (v := ?vb_15) rfl (by kernel_rfl) (by kernel_rfl) (by kernel_rfl) (fun _ _ _ h => h) (Or.inl ⟨by first | kernel_rfl | rfl, ?yb_15⟩) hHeld ?rb_15
  case yb_15 => (intro W hSW; (try dsimp only at hSW); go_simp; (try with_reducible rfl))
  change wpAnyH _ _ _ _ _ _ _ (Act.put _ (some 18) _) _
  simp only [Act.put, List.setIfInBounds_toArray, List.set_cons_zero, List.set_cons_succ]
  refine wpAnyH_take (i := 18) (v := ?vb_18) rfl (by kernel_rfl) (by kernel_rfl) (by kernel_rfl) (fun _ _ _ h => h) (Or.inl ⟨by first | kernel_rfl | rfl, ?yb_18⟩) hHeld ?rb_18
  case yb_18 => (intro W hSW; (try dsimp only at hSW); go_simp; (try with_reducible rfl))
  change wpAnyH _ _ _ _ _ _ _ (Act.put _ (some 21) _) _
  simp only [Act.put, List.setIfInBounds_toArray, List.set_cons_zero, List.set_cons_succ]
  refine wpAnyH_take (i := 19) (v := ?vb_19) rfl (by kernel_rfl) (by kernel_rfl) (by kernel_rfl) (fun _ _ _ h => h) (Or.inl ⟨by first | kernel_rfl | rfl, ?yb_19⟩) hHeld ?rb_19
  case yb_19 => (intro W hSW; (try dsimp only at hSW); go_simp; (try with_reducible rfl))
  change wpAnyH _ _ _ _ _ _ _ (Act.put _ (some 22) _) _
  simp only [Act.put, List.setIfInBounds_toArray, List.set_cons_zero, List.set_cons_succ]
  refine wpAnyH_take (i := 20) (v := ?vb_20) rfl (by kernel_rfl) (by kernel_rfl) (by kernel_rfl) (fun _ _ _ h => h) (Or.inl ⟨by first | kernel_rfl | rfl, ?yb_20⟩) hHeld ?rb_20
  case yb_20 => (intro W hSW; (try dsimp only at hSW); go_simp; (try with_reducible rfl))
  change wpAnyH _ _ _ _ _ _ _ (Act.put _ (some 23) _) _
  simp only [Act.put, List.setIfInBounds_toArray, List.set_cons_zero, List.set_cons_succ]
  refine wpAnyH_ready (rs := [3]) (by kernel_rfl) (by simp) ?_
  refine AllReadyH.cons rfl (fun K hK => ?_) AllReadyH.nil
  go_simp
  refine (H1.out V1.drew).mono ?_
  rintro e V2 ⟨rfl, hb2⟩
  refine hK.out _ _ (HK.out V2 ((Below.refl _ V1).drew.trans hb2)) (fun hHeld => ?_)
  clear hK K
  try simp only [Act.put, List.setIfInBounds_toArray, List.set_cons_zero, List.set_cons_succ]
  have G2 : Hid (Below V1.heap.size V1 V2) := (Below.refl _ V1).drew.trans hb2
  clear hb2
  refine wpAnyH_ready (rs := [7]) (by kernel_rfl) (by simp) ?_
  refine AllReadyH.cons rfl (fun K hK => ?_) AllReadyH.nil
  go_simp
  refine (H2.out V2).mono ?_
  rintro e V3 ⟨rfl, hb3⟩
  refine hK.out _ _ (HK.out V3 (G2.out.trans (hb3.mono G2.out.size))) (fun hHeld => ?_)
  clear hK K
  try simp only [Act.put, List.setIfInBounds_toArray, List.set_cons_zero, List.set_cons_succ]
  have G3 : Hid (Below V1.heap.size V1 V3) := G2.out.trans (hb3.mono G2.out.size)
  clear hb3
  refine wpAnyH_take (i := 8) (v := ?vb_8) rfl (by kernel_rfl) (by kernel_rfl) (by kernel_rfl) (fun _ _ _ h => h) (Or.inl ⟨by first | kernel_rfl | rfl, ?yb_8⟩) hHeld ?rb_8
  case yb_8 => (intro W hSW; (try dsimp only at hSW); go_simp; (try with_reducible rfl))
  change wpAnyH _ _ _ _ _ _ _ (Act.put _ (some 11) _) _
  simp only [Act.put, List.setIfInBounds_toArray, List.set_cons_zero, List.set_cons_succ]
  refine wpAnyH_ready (rs := [12]) (by kernel_rfl) (by simp) ?_
  refine AllReadyH.cons rfl (fun K hK => ?_) AllReadyH.nil
  go_simp
  refine (H3.out V3).mono ?_
  rintro e V4 ⟨rfl, hb4⟩
  refine hK.out _ _ (HK.out V4 (G3.out.trans (hb4.mono G3.out.size))) (fun hHeld => ?_)
  clear hK K
  try simp only [Act.put, List.setIfInBounds_toArray, List.set_cons_zero, List.set_cons_succ]
  have G4 : Hid (Below V1.heap.size V1 V4) := G3.out.trans (hb4.mono G3.out.size)
  clear hb4
  refine wpAnyH_take (i := 13) (v := ?vb_13) rfl (by kernel_rfl) (by kernel_rfl) (by kernel_rfl) (fun _ _ _ h => h) (Or.inl ⟨by first | kernel_rfl | rfl, ?yb_13⟩) hHeld ?rb_13
  case yb_13 => (intro W hSW; (try dsimp only at hSW); go_simp; (try with_reducible rfl))
  change wpAnyH _ _ _ _ _ _ _ (Act.put _ (some 16) _) _
  simp only [Act.put, List.setIfInBounds_toArray, List.set_cons_zero, List.set_cons_succ]
  refine wpAnyH_ready (rs := [16]) (by kernel_rfl) (by simp) ?_
  refine AllReadyH.cons rfl (fun K hK => ?_) AllReadyH.nil
  go_simp
  refine (H4.out V4).mono ?_
  rintro e V5 ⟨rfl, hb5⟩
  refine hK.out _ _ (HK.out V5 (G4.out.trans (hb5.mono G4.out.size))) (fun hHeld => ?_)
  clear hK K
  try simp only [Act.put, List.setIfInBounds_toArray, List.set_cons_zero, List.set_cons_succ]
  have G5 : Hid (Below V1.heap.size V1 V5) := G4.out.trans (hb5.mono G4.out.size)
  clear hb5
  refine wpAnyH_take (i := 17) (v := ?vb_17) rfl (by kernel_rfl) (by kernel_rfl) (by kernel_rfl) (fun _ _ _ h => h) (Or.inl ⟨by first | kernel_rfl | rfl, ?yb_17⟩) hHeld ?rb_17
  case yb_17 => (intro W hSW; (try dsimp only at hSW); go_simp; (try with_reducible rfl))
  change wpAnyH _ _ _ _ _ _ _ (Act.put _ (some 20) _) _
  simp only [Act.put, List.setIfInBounds_toArray, List.set_cons_zero, List.set_cons_succ]
  refine wpAnyH_ready (rs := [21]) (by kernel_rfl) (by simp) ?_
  refine AllReadyH.cons rfl (fun K hK => ?_) AllReadyH.nil
  go_simp
  refine (H5.out V5).mono ?_
  rintro e V6 ⟨rfl, hb6⟩
  refine hK.out _ _ (HK.out V6 (G5.out.trans (hb6.mono G5.out.size))) (fun hHeld => ?_)
  clear hK K
  try simp only [Act.put, List.setIfInBounds_toArray, List.set_cons_zero, List.set_cons_succ]
  have G6 : Hid (Below V1.heap.size V1 V6) := G5.out.trans (hb6.mono G5.out.size)
  clear hb6
  refine wpAnyH_take (i := 22) (v := ?vb_22) rfl (by kernel_rfl) (by kernel_rfl) (by kernel_rfl) (fun _ _ _ h => h) (Or.inl ⟨by first | kernel_rfl | rfl, ?yb_22⟩) hHeld ?rb_22
  case yb_22 => (intro W hSW; (try dsimp only at hSW); go_simp; (try with_reducible rfl))
  change wpAnyH _ _ _ _ _ _ _ (Act.put _ (some 25) _) _
  simp only [Act.put, List.setIfInBounds_toArray, List.set_cons_zero, List.set_cons_succ]
  refine wpAnyH_take (i := 23) (v := ?vb_23) rfl (by kernel_rfl) (by kernel_rfl) (by kernel_rfl) (fun _ _ _ h => h) (Or.inl ⟨by first | kernel_rfl | rfl, ?yb_23⟩) hHeld ?rb_23
  case yb_23 => (intro W hSW; (try dsimp only at hSW); go_simp; (try with_reducible rfl))
  change wpAnyH _ _ _ _ _ _ _ (Act.put _ (some 2) _) _
  simp only [Act.put, List.setIfInBounds_toArray, List.set_cons_zero, List.set_cons_succ]
  refine wpAnyH_done (by kernel_rfl) ?_ _
  have HE : Hid (StTo w (putN qn ++ putN un ++ putN kn ++ textN p.data.toList ++ putN rn) (.returned (.string (A ++ B ++ C ++ D ++ E))) V6) := ⟨by rw [HS.out], HB.out.trans (G6.out.mono HB.out.size)⟩
  go_wp2
  go_ret
  exact HE.out
end Go.Proofs.YtkhidkilkbmpoaaDoor
