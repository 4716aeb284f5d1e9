/- Walks over alike, keep, more. -/
import Derived.Test.YtjpkngbjjgimjaaDoorKD
namespace Go.Proofs.YtjpkngbjjgimjaaDoor
open Go.RowKit
def alikeL (W : Nat) (T : List Pr) (sum : ByteArray) : List Cn := if sum.size = W then betw W T sum sum else []
section
variable {h0 : Nat} {F : Nat → Prop} {w : World} {st tb W : Nat} {full : Int} {T : List Pr}
set_option maxRecDepth 100000 in
set_option maxHeartbeats 1000000 in
theorem alike_any (h : Cs h0 F w st tb W full T) (hW : W ≤ 32) (sum : ByteArray) : Calls Tryd.prog 41 #[.pointer (some ⟨st, 0, none⟩), .string sum] w fun e w' => BtTo w (alikeL W T sum) e w' := by
  have c1 : w.cell? ⟨st, 1, none⟩ = some (.int .i64 (W : Int)) := by rw [cell_of_row _ _ _ _ _ _ h.stat]; rfl
  unfold alikeL
  by_cases hs : sum.size = W
  · rw [if_pos hs]
    have HB := between_any h hW sum sum (by omega) (by omega)
    have kb : ((sum.size : Int) != (W : Int)) = false := by rw [bne_eq_false_iff_eq]; omega
    have kc : ((sum.size : Int) == (W : Int)) = true := by rw [beq_iff_eq]; omega
    have HS : Hid (sum.size = W) := hs
    clear h hs
    go_enter Tryd.func41, Tryd.ntmps41
    go_wp2_with fail
    refine HB.mono ?_
    rintro e V ⟨ra, rn, rc, rfl, ho, hb⟩
    have HE : Hid (V.ownsRow w.heap.size 78 4 (.slice ra rn rc) rn (cnR (betw W T sum sum)) ∧ Below w.heap.size w V) := ⟨ho, hb⟩
    clear HB ho hb
    go_wp2
    go_ret
    exact ⟨ra, rn, rc, rfl, HE.out.1, HE.out.2⟩
  · rw [if_neg hs]
    have kb : ((sum.size : Int) != (W : Int)) = true := by rw [bne_iff_ne]; omega
    have kc : ((sum.size : Int) == (W : Int)) = false := by rw [beq_eq_false_iff_ne]; omega
    have kn : ¬ (sum.size : Int) = (W : Int) := by omega
    clear h hs
    go_enter Tryd.func41, Tryd.ntmps41
    go_wp2
    go_ret
    exact ⟨none, 0, 0, rfl, World.ownsRow_nil _ _ _ _, Below.refl _ _⟩
set_option maxRecDepth 100000 in
set_option maxHeartbeats 2000000 in
theorem keep_any (h : Cs h0 F w st tb W full T) (hlt : T.length < 90000) (s1 : ByteArray) (n1 f1 : Nat) (t1 : ByteArray) (hs : s1.size ≤ 1000000) (hn : n1 < 256) (hd : t1.size ≤ 1000000) :
    Calls Tryd.prog 32 #[.pointer (some ⟨st, 0, none⟩), .agg #[.string s1, .int .i64 (n1 : Int), .int .u32 (f1 : Int), .string t1]] w fun e w' => TpTo h0 F w st tb W full T (keyB s1 n1) (valB f1 t1) e w' := by
  obtain ⟨W1, hW1⟩ : ∃ W1, w.alloc (.cells #[.string s1, .int .i64 (n1 : Int), .int .u32 (f1 : Int), .string t1] 78) = W1 := ⟨_, rfl⟩
  obtain ⟨cb, hcb⟩ : ∃ cb, w.heap.size = cb := ⟨_, rfl⟩
  have r1 : W1.heap[cb]? = some (.cells #[.string s1, .int .i64 (n1 : Int), .int .u32 (f1 : Int), .string t1] 78 (0, 0)) := by rw [← hW1, ← hcb]; exact heap_alloc_new w _
  have hb1 : Below w.heap.size w W1 := by rw [← hW1]; exact (Below.refl _ w).alloc (Nat.le_refl _) _
  have h1 := h.below hb1
  have hst1 : st < W1.heap.size := lt_of_some h1.stat
  have HC : Hid (∀ V, Below W1.heap.size W1 V → V.cell? ⟨st, 0, none⟩ = some (.iface 27 (.pointer (some ⟨tb, 0, none⟩))) ∧ V.cell? ⟨cb, 0, none⟩ = some (.string s1) ∧ V.cell? ⟨cb, 1, none⟩ = some (.int .i64 (n1 : Int)) ∧ V.cell? ⟨cb, 2, none⟩ = some (.int .u32 (f1 : Int)) ∧ V.cell? ⟨cb, 3, none⟩ = some (.string t1)) := fun V hV => by
    have hr := (hV.block cb (lt_of_some r1)).trans r1
    have hs' := (hV.block st hst1).trans h1.stat
    exact ⟨by rw [cell_of_row _ _ _ _ _ _ hs']; rfl, by rw [cell_of_row _ _ _ _ _ _ hr]; rfl, by rw [cell_of_row _ _ _ _ _ _ hr]; rfl, by rw [cell_of_row _ _ _ _ _ _ hr]; rfl, by rw [cell_of_row _ _ _ _ _ _ hr]; rfl⟩
  have HK1 : Hid (Calls Tryd.prog 33 #[.agg #[.string s1, .int .i64 (n1 : Int)]] W1.drew fun e w' => e = .returned (.string (keyB s1 n1)) ∧ Below W1.drew.heap.size W1.drew w') := keyof_any s1 n1 hn hs W1.drew
  have HV1 : Hid (∀ V, Calls Tryd.prog 45 #[.agg #[.string s1, .int .i64 (n1 : Int), .int .u32 (f1 : Int), .string t1]] V fun e w' => e = .returned (.string (valB f1 t1)) ∧ Below V.heap.size V w') := fun V => valueof_any s1 n1 f1 t1 hd V
  have HPU : Hid (∀ V, Below W1.heap.size W1 V → Calls Tryd.prog 25 #[.pointer (some ⟨tb, 0, none⟩), .string (keyB s1 n1), .string (valB f1 t1)] V fun e w' => ∃ ee : Int, e = .returned (.int .i64 ee) ∧ ∃ F', (if roomT T full (keyB s1 n1) then (Ending.returned (.int .i64 ee) = .returned (.int .i64 0)) ∧ Cs h0 F' w' st tb W full (putT T (keyB s1 n1) (valB f1 t1)) else (Ending.returned (.int .i64 ee) = .returned (.int .i64 5)) ∧ Cs h0 F' w' st tb W full T) ∧ Fr F w F' w' ∧ Below h0 w w' ∧ w'.cell? ⟨st, 0, none⟩ = some (.iface 27 (.pointer (some ⟨tb, 0, none⟩))) ∧ w'.heap[cb]? = some (.cells #[.string s1, .int .i64 (n1 : Int), .int .u32 (f1 : Int), .string t1] 78 (0, 0))) := fun V hV => by
    have hV2 := h1.below hV
    refine (tput_any hV2 hlt (keyB s1 n1) (valB f1 t1)).mono ?_
    rintro e w' ⟨F', hif, hf, hb'⟩
    have hfr : Fr F w F' w' := ((Fr.below hb1).trans (Fr.below hV)).trans hf
    have hbl : Below h0 w w' := ((hb1.mono h.h0w).trans (hV.mono h1.h0w)).trans hb'
    have hcbF : mor (mor F w W1) W1 V cb := .inl (.inr ⟨by omega, lt_of_some r1⟩)
    have hrow : w'.heap[cb]? = some (.cells #[.string s1, .int .i64 (n1 : Int), .int .u32 (f1 : Int), .string t1] 78 (0, 0)) := (hf.blk cb hcbF (Nat.lt_of_lt_of_le (lt_of_some r1) hV.size)).trans ((hV.block cb (lt_of_some r1)).trans r1)
    by_cases hr : roomT T full (keyB s1 n1) = true
    · rw [if_pos hr] at hif
      refine ⟨0, hif.1, F', ?_, hfr, hbl, ?_, hrow⟩
      · rw [if_pos hr]; exact ⟨rfl, hif.2⟩
      · rw [cell_of_row _ _ _ _ _ _ hif.2.stat]; rfl
    · rw [if_neg hr] at hif
      refine ⟨5, hif.1, F', ?_, hfr, hbl, ?_, hrow⟩
      · rw [if_neg hr]; exact ⟨rfl, hif.2⟩
      · rw [cell_of_row _ _ _ _ _ _ hif.2.stat]; rfl
  clear h h1 r1 hb1 hst1
  go_enter Tryd.func32, Tryd.ntmps32
  go_wp2
  refine wp_region_held_drew (S := fun V => V.cell? ⟨st, 0, none⟩ = some (.iface 27 (.pointer (some ⟨tb, 0, none⟩))) ∧ V.cell? ⟨cb, 0, none⟩ = some (.string s1) ∧ V.cell? ⟨cb, 1, none⟩ = some (.int .i64 (n1 : Int)) ∧ V.cell? ⟨cb, 2, none⟩ = some (.int .u32 (f1 : Int)) ∧ V.cell? ⟨cb, 3, none⟩ = some (.string t1)) (by kernel_rfl) (HC.out _ (Below.refl _ W1).drew) (fun hHeld => ?_)
  refine wpAnyH_take (i := 0) (v := ?vk0) rfl (by kernel_rfl) (by kernel_rfl) (by kernel_rfl) (fun _ _ _ h => h) (Or.inl ⟨by first | kernel_rfl | rfl, ?yk0⟩) hHeld ?rk0
  case yk0 => (intro W hSW; (try dsimp only at hSW); go_simp; (try with_reducible rfl))
  change wpAnyH _ _ _ _ _ _ _ (Act.put _ (some 5) _) _
  simp only [Act.put, List.setIfInBounds_toArray, List.set_cons_zero, List.set_cons_succ]
  refine wpAnyH_take (i := 1) (v := ?vk1) rfl (by kernel_rfl) (by kernel_rfl) (by kernel_rfl) (fun _ _ _ h => h) (Or.inl ⟨by first | kernel_rfl | rfl, ?yk1⟩) hHeld ?rk1
  case yk1 => (intro W hSW; (try dsimp only at hSW); go_simp; (try with_reducible rfl))
  change wpAnyH _ _ _ _ _ _ _ (Act.put _ (some 6) _) _
  simp only [Act.put, List.setIfInBounds_toArray, List.set_cons_zero, List.set_cons_succ]
  refine wpAnyH_take (i := 2) (v := ?vk2) rfl (by kernel_rfl) (by kernel_rfl) (by kernel_rfl) (fun _ _ _ h => h) (Or.inl ⟨by first | kernel_rfl | rfl, ?yk2⟩) hHeld ?rk2
  case yk2 => (intro W hSW; (try dsimp only at hSW); go_simp; (try with_reducible rfl))
  change wpAnyH _ _ _ _ _ _ _ (Act.put _ (some 7) _) _
  simp only [Act.put, List.setIfInBounds_toArray, List.set_cons_zero, List.set_cons_succ]
  refine wpAnyH_take (i := 3) (v := ?vk3) rfl (by kernel_rfl) (by kernel_rfl) (by kernel_rfl) (fun _ _ _ h => h) (Or.inl ⟨by first | kernel_rfl | rfl, ?yk3⟩) hHeld ?rk3
  case yk3 => (intro W hSW; (try dsimp only at hSW); go_simp; (try with_reducible rfl))
  change wpAnyH _ _ _ _ _ _ _ (Act.put _ (some 8) _) _
  simp only [Act.put, List.setIfInBounds_toArray, List.set_cons_zero, List.set_cons_succ]
  refine wpAnyH_take (i := 4) (v := ?vk4) rfl (by kernel_rfl) (by kernel_rfl) (by kernel_rfl) (fun _ _ _ h => h) (Or.inl ⟨by first | kernel_rfl | rfl, ?yk4⟩) hHeld ?rk4
  case yk4 => (intro W hSW; (try dsimp only at hSW); go_simp; (try with_reducible rfl))
  change wpAnyH _ _ _ _ _ _ _ (Act.put _ (some 9) _) _
  simp only [Act.put, List.setIfInBounds_toArray, List.set_cons_zero, List.set_cons_succ]
  refine wpAnyH_take (i := 5) (v := ?vk5) rfl (by kernel_rfl) (by kernel_rfl) (by kernel_rfl) (fun _ _ _ h => h) (Or.inl ⟨by first | kernel_rfl | rfl, ?yk5⟩) hHeld ?rk5
  case yk5 => (intro W hSW; (try dsimp only at hSW); go_simp; (try with_reducible rfl))
  change wpAnyH _ _ _ _ _ _ _ (Act.put _ (some 10) _) _
  simp only [Act.put, List.setIfInBounds_toArray, List.set_cons_zero, List.set_cons_succ]
  refine wpAnyH_take (i := 7) (v := ?vk7) rfl (by kernel_rfl) (by kernel_rfl) (by kernel_rfl) (fun _ _ _ h => h) (Or.inl ⟨by first | kernel_rfl | rfl, ?yk7⟩) hHeld ?rk7
  case yk7 => (intro W hSW; (try dsimp only at hSW); go_simp; (try with_reducible rfl))
  change wpAnyH _ _ _ _ _ _ _ (Act.put _ (some 12) _) _
  simp only [Act.put, List.setIfInBounds_toArray, List.set_cons_zero, List.set_cons_succ]
  refine wpAnyH_take (i := 9) (v := ?vk9) rfl (by kernel_rfl) (by kernel_rfl) (by kernel_rfl) (fun _ _ _ h => h) (Or.inl ⟨by first | kernel_rfl | rfl, ?yk9⟩) hHeld ?rk9
  case yk9 => (intro W hSW; (try dsimp only at hSW); go_simp; (try with_reducible rfl))
  change wpAnyH _ _ _ _ _ _ _ (Act.put _ (some 14) _) _
  simp only [Act.put, List.setIfInBounds_toArray, List.set_cons_zero, List.set_cons_succ]
  refine wpAnyH_take (i := 10) (v := ?vk10) rfl (by kernel_rfl) (by kernel_rfl) (by kernel_rfl) (fun _ _ _ h => h) (Or.inl ⟨by first | kernel_rfl | rfl, ?yk10⟩) hHeld ?rk10
  case yk10 => (intro W hSW; (try dsimp only at hSW); go_simp; (try with_reducible rfl))
  change wpAnyH _ _ _ _ _ _ _ (Act.put _ (some 15) _) _
  simp only [Act.put, List.setIfInBounds_toArray, List.set_cons_zero, List.set_cons_succ]
  refine wpAnyH_ready (rs := [6]) (by kernel_rfl) (by simp) ?_
  refine AllReadyH.cons rfl (fun K hK => ?_) AllReadyH.nil
  go_simp
  refine (HK1.out).mono ?_
  rintro e V1 ⟨rfl, hb1⟩; have HB1 : Hid (Below W1.heap.size W1 V1) := (Below.refl _ W1).drew.trans hb1; clear hb1
  refine hK.out _ _ (HC.out _ HB1.out) (fun hHeld => ?_)
  clear hK K
  try simp only [Act.put, List.setIfInBounds_toArray, List.set_cons_zero, List.set_cons_succ]
  refine wpAnyH_ready (rs := [8]) (by kernel_rfl) (by simp) ?_
  refine AllReadyH.cons rfl (fun K hK => ?_) AllReadyH.nil
  go_simp
  refine (HV1.out V1).mono ?_
  rintro e V2 ⟨rfl, hb2⟩; have HB2 : Hid (Below W1.heap.size W1 V2) := HB1.out.trans (hb2.mono HB1.out.size); clear hb2
  refine hK.out _ _ (HC.out _ HB2.out) (fun hHeld => ?_)
  clear hK K
  try simp only [Act.put, List.setIfInBounds_toArray, List.set_cons_zero, List.set_cons_succ]
  refine wpAnyH_ready (rs := [11]) (by kernel_rfl) (by simp) ?_
  refine AllReadyH.cons rfl (fun K hK => ?_) AllReadyH.nil
  go_simp
  refine (HPU.out V2 HB2.out).mono ?_
  rintro e V3 ⟨ee, rfl, F3, hif, hf3, hb3, hblk⟩; have HE3 : Hid (TpTo h0 F w st tb W full T (keyB s1 n1) (valB f1 t1) (.returned (.int .i64 ee)) V3 ∧ V3.cell? ⟨st, 0, none⟩ = some (.iface 27 (.pointer (some ⟨tb, 0, none⟩))) ∧ V3.heap[cb]? = some (.cells #[.string s1, .int .i64 (n1 : Int), .int .u32 (f1 : Int), .string t1] 78 (0, 0))) := ⟨⟨F3, hif, hf3, hb3⟩, hblk⟩; clear hif hf3 hb3 hblk
  refine hK.out _ _ (⟨HE3.out.2.1, by rw [cell_of_row _ _ _ _ _ _ HE3.out.2.2]; rfl, by rw [cell_of_row _ _ _ _ _ _ HE3.out.2.2]; rfl, by rw [cell_of_row _ _ _ _ _ _ HE3.out.2.2]; rfl, by rw [cell_of_row _ _ _ _ _ _ HE3.out.2.2]; rfl⟩) (fun hHeld => ?_)
  clear hK K
  try simp only [Act.put, List.setIfInBounds_toArray, List.set_cons_zero, List.set_cons_succ]
  refine wpAnyH_take (i := 12) (v := ?vk12) rfl (by kernel_rfl) (by kernel_rfl) (by kernel_rfl) (fun _ _ _ h => h) (Or.inl ⟨by first | kernel_rfl | rfl, ?yk12⟩) hHeld ?rk12
  case yk12 => (intro W hSW; (try dsimp only at hSW); go_simp; (try with_reducible rfl))
  change wpAnyH _ _ _ _ _ _ _ (Act.put _ (some 4) _) _
  simp only [Act.put, List.setIfInBounds_toArray, List.set_cons_zero, List.set_cons_succ]
  refine wpAnyH_done (by kernel_rfl) ?_ _
  go_wp2
  go_ret
  exact HE3.out.1
/-- What more leaves. -/
def MoTo (h0 : Nat) (F : Nat → Prop) (w : World) (st tb W : Nat) (full : Int) (T : List Pr) (c : Cn) (e : Ending) (w' : World) : Prop :=
  if c.refs = 4294967295 then ∃ F', e = .returned (.int .i64 5) ∧ Cs h0 F' w' st tb W full T ∧ Fr F w F' w' ∧ Below h0 w w' else TpTo h0 F w st tb W full T (keyB c.sum c.n) (valB (c.refs + 1) c.data) e w'
theorem TpTo.from {k v : ByteArray} {e : Ending} {w1 w' : World} (h : Cs h0 F w st tb W full T) (hb : Below w.heap.size w w1) {F1 : Nat → Prop} (hF : ∀ x, mor F w w1 x → F1 x) (ht : TpTo h0 F1 w1 st tb W full T k v e w') : TpTo h0 F w st tb W full T k v e w' := by
  obtain ⟨F', hif, hf, hb'⟩ := ht
  have h5 : Fr F w F1 w1 := ⟨hb.size, fun x hx => hF x (.inl hx), fun x _ hl => hb.block x hl⟩
  exact ⟨F', hif, h5.trans hf, (hb.mono h.h0w).trans hb'⟩
set_option maxRecDepth 100000 in
set_option maxHeartbeats 2000000 in
theorem more_any (h : Cs h0 F w st tb W full T) (hlt : T.length < 90000) (s1 : ByteArray) (n1 f1 : Nat) (t1 : ByteArray) (hs : s1.size ≤ 1000000) (hn : n1 < 256) (hf : f1 < 4294967296) (hd : t1.size ≤ 1000000) :
    Calls Tryd.prog 30 #[.pointer (some ⟨st, 0, none⟩), .agg #[.string s1, .int .i64 (n1 : Int), .int .u32 (f1 : Int), .string t1]] w fun e w' => MoTo h0 F w st tb W full T ⟨s1, n1, f1, t1⟩ e w' := by
  obtain ⟨W1, hW1⟩ : ∃ W1, w.alloc (.cells #[.string s1, .int .i64 (n1 : Int), .int .u32 (f1 : Int), .string t1] 78) = W1 := ⟨_, rfl⟩
  obtain ⟨cb, hcb⟩ : ∃ cb, w.heap.size = cb := ⟨_, rfl⟩
  have r1 : W1.heap[cb]? = some (.cells #[.string s1, .int .i64 (n1 : Int), .int .u32 (f1 : Int), .string t1] 78 (0, 0)) := by rw [← hW1, ← hcb]; exact heap_alloc_new w _
  have hb1 : Below w.heap.size w W1 := by rw [← hW1]; exact (Below.refl _ w).alloc (Nat.le_refl _) _
  have c2 : W1.cell? ⟨cb, 2, none⟩ = some (.int .u32 (f1 : Int)) := by rw [cell_of_row _ _ _ _ _ _ r1]; rfl
  have fr2 := frozen_of_row W1 cb 2 _ _ r1
  by_cases hm : f1 = 4294967295
  · have kb : ((f1 : Int) == 4294967295) = true := by rw [beq_iff_eq]; omega
    have HE : Hid (MoTo h0 F w st tb W full T ⟨s1, n1, f1, t1⟩ (.returned (.int .i64 5)) W1) := by
      show MoTo _ _ _ _ _ _ _ _ _ _ _
      unfold MoTo
      rw [if_pos hm]
      exact ⟨_, rfl, h.below hb1, Fr.below hb1, hb1.mono h.h0w⟩
    clear h hm r1 hb1 hf
    go_enter Tryd.func30, Tryd.ntmps30
    go_wp2
    go_ret
    exact HE.out
  · have kb : ((f1 : Int) == 4294967295) = false := by rw [beq_eq_false_iff_ne]; omega
    obtain ⟨f2, hf2⟩ : ∃ f2, f1 + 1 = f2 := ⟨_, rfl⟩
    have kf : (f1 : Int) + 1 = (f2 : Int) := by omega
    have kfm : (f2 : Int) % 4294967296 = (f2 : Int) := by omega
    obtain ⟨W2, hW2⟩ : ∃ W2, W1.setCell ⟨cb, 2, none⟩ (.int .u32 (f2 : Int)) = W2 := ⟨_, rfl⟩
    have r2 : W2.heap[cb]? = some (.cells #[.string s1, .int .i64 (n1 : Int), .int .u32 (f2 : Int), .string t1] 78 (0, 0)) := by rw [← hW2, heap_setCell_same _ _ _ _ _ _ r1]; rfl
    have d0 : W2.cell? ⟨cb, 0, none⟩ = some (.string s1) := by rw [cell_of_row _ _ _ _ _ _ r2]; rfl
    have d1 : W2.cell? ⟨cb, 1, none⟩ = some (.int .i64 (n1 : Int)) := by rw [cell_of_row _ _ _ _ _ _ r2]; rfl
    have d2 : W2.cell? ⟨cb, 2, none⟩ = some (.int .u32 (f2 : Int)) := by rw [cell_of_row _ _ _ _ _ _ r2]; rfl
    have d3 : W2.cell? ⟨cb, 3, none⟩ = some (.string t1) := by rw [cell_of_row _ _ _ _ _ _ r2]; rfl
    have hb2 : Below w.heap.size w W2 := by rw [← hW2]; exact hb1.setCell (by show _ ≤ cb; omega) _
    have HKE := keep_any (h.below hb2) hlt s1 n1 f2 t1 hs hn hd
    have HKE2 : Calls Tryd.prog 32 #[.pointer (some ⟨st, 0, none⟩), .agg #[.string s1, .int .i64 (n1 : Int), .int .u32 (f2 : Int), .string t1]] W2 fun e w' => MoTo h0 F w st tb W full T ⟨s1, n1, f1, t1⟩ e w' := by
      refine HKE.mono ?_
      intro e w' ht
      unfold MoTo
      rw [if_neg hm]
      show TpTo _ _ _ _ _ _ _ _ _ (valB (f1 + 1) t1) _ _
      rw [hf2]
      exact TpTo.from h hb2 (fun x hx => hx) ht
    clear HKE h hm r1 r2 hb1 hb2 hf hf2
    go_enter Tryd.func30, Tryd.ntmps30
    go_wp2_with fail
    refine HKE2.mono ?_
    intro e w' ht
    have HE : Hid (MoTo h0 F w st tb W full T ⟨s1, n1, f1, t1⟩ e w') := ht
    have hee : ∃ ee : Int, e = .returned (.int .i64 ee) := by
      unfold MoTo at ht
      split at ht
      · obtain ⟨F', h5, _⟩ := ht
        exact ⟨5, h5⟩
      · obtain ⟨F', h5, _⟩ := ht
        split at h5
        · exact ⟨0, h5.1⟩
        · exact ⟨5, h5.1⟩
    obtain ⟨ee, rfl⟩ := hee
    clear HKE2 ht
    go_wp2
    go_ret
    exact HE.out
end
end Go.Proofs.YtjpkngbjjgimjaaDoor
