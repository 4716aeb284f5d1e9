/- A walk over the document's Encode. Cuts of rows of entries. -/
import Derived.Test.YtkhidkilkbmpoaaDoorQE
namespace Go.Proofs.YtkhidkilkbmpoaaDoor
open Go.RowKit
/-- The bytes of an audit up to its i-th entry. -/
def encI (a : Au) (i : Nat) : List UInt8 := headA a ++ entsB (a.ents.take i)
theorem encI_zero (a : Au) : encI a 0 = headA a := by simp [encI, entsB]
theorem encI_snoc {a : Au} {i : Nat} {e : En} (h : a.ents[i]? = some e) : encI a (i + 1) = encI a i ++ e.bytes := by
  unfold encI
  rw [take_snocK h, entsB_snoc, List.append_assoc]
theorem encI_all (a : Au) {i : Nat} (h : a.ents.length ≤ i) : encI a i = encA a := by
  unfold encI encA
  rw [List.take_of_length_le h]
theorem encI_len {a : Au} (h : mayA a = true) (i : Nat) : (encI a i).length ≤ 1000 := by
  have h1 := encA_len h
  have h2 : (entsB (a.ents.take i)).length ≤ (entsB a.ents).length := by
    have : entsB a.ents = entsB (a.ents.take i) ++ entsB (a.ents.drop i) := by unfold entsB; rw [← List.flatMap_append, List.take_append_drop]
    rw [this, List.length_append]
    omega
  unfold encA at h1
  unfold encI
  rw [List.length_append] at h1 ⊢
  omega
set_option maxRecDepth 100000 in
set_option maxHeartbeats 4000000 in
theorem renc_any {w : World} {a : Option Addr} {ln cp : Nat} {l : List En} (s : ByteArray) (n : Nat) (h : Ew w a ln cp l) (hm : mayA ⟨s, (n : Int), l⟩ = true) : Calls Tryd.prog 30 #[.agg #[.string s, .int .i64 (n : Int), .slice a ln cp]] w fun e w' => StTo w (encA ⟨s, (n : Int), l⟩) e w' := by
  have hl := h.len
  obtain ⟨pb, hpb⟩ : ∃ pb, w.heap.size = pb := ⟨_, rfl⟩
  obtain ⟨V1, hV1, r1, hb1⟩ := box_au 24 (w := w) s (n : Int) a ln cp
  rw [hpb] at r1
  have HK : Hid (∀ W, Below V1.heap.size V1 W → W.cell? ⟨pb, 0, none⟩ = some (.string s) ∧ W.cell? ⟨pb, 1, none⟩ = some (.int .i64 (n : Int)) ∧ W.cell? ⟨pb, 2, none⟩ = some (.slice a ln cp)) := fun W hW => by
    obtain ⟨e0, e1, e2, _⟩ := row3 ((hW.block pb (lt_of_some r1)).trans r1)
    exact ⟨e0, e1, e2⟩
  obtain ⟨y0, y1, y2⟩ := HK.out V1 (Below.refl _ _)
  have HB : Hid (Below w.heap.size w V1) := hb1
  have hmi := mayA_iff.1 hm
  simp only at hmi
  have HR : Hid (∀ W, Below V1.heap.size V1 W → Ew W a ln cp l) := fun W hW => h.below (hb1.trans (hW.mono hb1.size))
  have hln8 : ln ≤ 8 := by omega
  have HLL : Hid (l.length = ln ∧ (∀ c ∈ l, c.ok = true) ∧ mayA ⟨s, (n : Int), l⟩ = true) := ⟨hl, run_ok hmi.2.2.2.2, hm⟩
  have wl : IntKind.u64.wrap (ln : Int) = (ln : Int) := by rw [IntKind.wrap_u64]; omega
  have wn : IntKind.u64.wrap (n : Int) = (n : Int) := by rw [IntKind.wrap_u64]; omega
  have hp1 := putN_le10 ln (by omega)
  have hp2 := putN_le10 n (by omega)
  have hsl : s.data.toList.length = 32 := by rw [Array.length_toList]; exact hmi.1
  have hp3 := textN_len (l := s.data.toList) (by omega)
  obtain ⟨A, hA⟩ : ∃ A, strOf (textN s.data.toList) = A := ⟨_, rfl⟩
  obtain ⟨B, hB⟩ : ∃ B, strOf (putN n) = B := ⟨_, rfl⟩
  obtain ⟨C, hC⟩ : ∃ C, strOf (putN ln) = C := ⟨_, rfl⟩
  have HT : Hid (∀ W, Calls Tryd.prog 39 #[.string s] W fun e w' => e = .returned (.string A) ∧ Below W.heap.size W w') := fun W => by rw [← hA]; exact rtext_st s W (by omega)
  have HP : Hid (∀ W, Calls Tryd.prog 38 #[.int .u64 (n : Int)] W fun e w' => e = .returned (.string B) ∧ Below W.heap.size W w') := fun W => by rw [← hB]; exact rput_st n W (by omega)
  have HU : Hid (∀ W, Calls Tryd.prog 38 #[.int .u64 (ln : Int)] W fun e w' => e = .returned (.string C) ∧ Below W.heap.size W w') := fun W => by rw [← hC]; exact rput_st ln W (by omega)
  have zA : A.size ≤ 50 := by rw [← hA, strOf_size]; omega
  have zB : B.size ≤ 10 := by rw [← hB, strOf_size]; omega
  have zC : C.size ≤ 10 := by rw [← hC, strOf_size]; omega
  have ov1 : ¬ 9223372036854775807 < A.size + B.size := by omega
  have ov2 : ¬ 9223372036854775807 < (A ++ B).size + C.size := by rw [ByteArray.size_append]; omega
  have ov3 : ¬ 9223372036854775807 < A.size + B.size + C.size := by omega
  have HAC : Hid (A ++ B ++ C = strOf (encI ⟨s, (n : Int), l⟩ 0)) := by show _ = _; rw [encI_zero]; unfold headA; simp only [Int.toNat_natCast]; rw [hl, strOf_append, strOf_append, hA, hB, hC]
  clear r1 hb1 h hm hmi hl hA hB hC hsl hp1 hp2 hp3
  go_enter Tryd.func30, Tryd.ntmps30
  go_wp2
  refine wp_region_held_drew (S := fun W => W.cell? ⟨pb, 0, none⟩ = some (.string s) ∧ W.cell? ⟨pb, 1, none⟩ = some (.int .i64 (n : Int)) ∧ W.cell? ⟨pb, 2, none⟩ = some (.slice a ln cp)) (by kernel_rfl) (HK.out V1.drew (Below.refl _ V1).drew) (fun hHeld => ?_)
  refine wpAnyH_take (i := 0) (v := ?vb_0) rfl (by kernel_rfl) (by kernel_rfl) (by kernel_rfl) (fun _ _ _ h => h) (Or.inl ⟨by first | kernel_rfl | rfl, ?yb_0⟩) hHeld ?rb_0
  case yb_0 => (intro W hSW; (try dsimp only at hSW); go_simp; (try with_reducible rfl))
  change wpAnyH _ _ _ _ _ _ _ (Act.put _ (some 5) _) _
  simp only [Act.put, List.setIfInBounds_toArray, List.set_cons_zero, List.set_cons_succ]
  refine wpAnyH_take (i := 1) (v := ?vb_1) rfl (by kernel_rfl) (by kernel_rfl) (by kernel_rfl) (fun _ _ _ h => h) (Or.inl ⟨by first | kernel_rfl | rfl, ?yb_1⟩) hHeld ?rb_1
  case yb_1 => (intro W hSW; (try dsimp only at hSW); go_simp; (try with_reducible rfl))
  change wpAnyH _ _ _ _ _ _ _ (Act.put _ (some 6) _) _
  simp only [Act.put, List.setIfInBounds_toArray, List.set_cons_zero, List.set_cons_succ]
  refine wpAnyH_take (i := 3) (v := ?vb_3) rfl (by kernel_rfl) (by kernel_rfl) (by kernel_rfl) (fun _ _ _ h => h) (Or.inl ⟨by first | kernel_rfl | rfl, ?yb_3⟩) hHeld ?rb_3
  case yb_3 => (intro W hSW; (try dsimp only at hSW); go_simp; (try with_reducible rfl))
  change wpAnyH _ _ _ _ _ _ _ (Act.put _ (some 8) _) _
  simp only [Act.put, List.setIfInBounds_toArray, List.set_cons_zero, List.set_cons_succ]
  refine wpAnyH_take (i := 4) (v := ?vb_4) rfl (by kernel_rfl) (by kernel_rfl) (by kernel_rfl) (fun _ _ _ h => h) (Or.inl ⟨by first | kernel_rfl | rfl, ?yb_4⟩) hHeld ?rb_4
  case yb_4 => (intro W hSW; (try dsimp only at hSW); go_simp; (try with_reducible rfl))
  change wpAnyH _ _ _ _ _ _ _ (Act.put _ (some 9) _) _
  simp only [Act.put, List.setIfInBounds_toArray, List.set_cons_zero, List.set_cons_succ]
  refine wpAnyH_take (i := 5) (v := ?vb_5) rfl (by kernel_rfl) (by kernel_rfl) (by kernel_rfl) (fun _ _ _ h => h) (Or.inl ⟨by first | kernel_rfl | rfl, ?yb_5⟩) hHeld ?rb_5
  case yb_5 => (intro W hSW; (try dsimp only at hSW); go_simp; (try with_reducible rfl))
  change wpAnyH _ _ _ _ _ _ _ (Act.put _ (some 10) _) _
  simp only [Act.put, List.setIfInBounds_toArray, List.set_cons_zero, List.set_cons_succ]
  refine wpAnyH_take (i := 8) (v := ?vb_8) rfl (by kernel_rfl) (by kernel_rfl) (by kernel_rfl) (fun _ _ _ h => h) (Or.inl ⟨by first | kernel_rfl | rfl, ?yb_8⟩) hHeld ?rb_8
  case yb_8 => (intro W hSW; (try dsimp only at hSW); go_simp; (try with_reducible rfl))
  change wpAnyH _ _ _ _ _ _ _ (Act.put _ (some 13) _) _
  simp only [Act.put, List.setIfInBounds_toArray, List.set_cons_zero, List.set_cons_succ]
  refine wpAnyH_take (i := 9) (v := ?vb_9) rfl (by kernel_rfl) (by kernel_rfl) (by kernel_rfl) (fun _ _ _ h => h) (Or.inl ⟨by first | kernel_rfl | rfl, ?yb_9⟩) hHeld ?rb_9
  case yb_9 => (intro W hSW; (try dsimp only at hSW); go_simp; (try with_reducible rfl))
  change wpAnyH _ _ _ _ _ _ _ (Act.put _ (some 14) _) _
  simp only [Act.put, List.setIfInBounds_toArray, List.set_cons_zero, List.set_cons_succ]
  refine wpAnyH_take (i := 10) (v := ?vb_10) rfl (by kernel_rfl) (by kernel_rfl) (by kernel_rfl) (fun _ _ _ h => h) (Or.inl ⟨by first | kernel_rfl | rfl, ?yb_10⟩) hHeld ?rb_10
  case yb_10 => (intro W hSW; (try dsimp only at hSW); go_simp; (try with_reducible rfl))
  change wpAnyH _ _ _ _ _ _ _ (Act.put _ (some 15) _) _
  simp only [Act.put, List.setIfInBounds_toArray, List.set_cons_zero, List.set_cons_succ]
  refine wpAnyH_take (i := 11) (v := ?vb_11) rfl (by kernel_rfl) (by kernel_rfl) (by kernel_rfl) (fun _ _ _ h => h) (Or.inl ⟨by first | kernel_rfl | rfl, ?yb_11⟩) hHeld ?rb_11
  case yb_11 => (intro W hSW; (try dsimp only at hSW); go_simp; (try with_reducible rfl))
  change wpAnyH _ _ _ _ _ _ _ (Act.put _ (some 16) _) _
  simp only [Act.put, List.setIfInBounds_toArray, List.set_cons_zero, List.set_cons_succ]
  refine wpAnyH_ready (rs := [2]) (by kernel_rfl) (by simp) ?_
  refine AllReadyH.cons rfl (fun K hK => ?_) AllReadyH.nil
  go_simp
  refine (HT.out V1.drew).mono ?_
  rintro e V2 ⟨rfl, hb2⟩
  refine hK.out _ _ (HK.out V2 ((Below.refl _ V1).drew.trans hb2)) (fun hHeld => ?_)
  clear hK K
  try simp only [Act.put, List.setIfInBounds_toArray, List.set_cons_zero, List.set_cons_succ]
  have H2 : Hid (Below V1.heap.size V1 V2) := (Below.refl _ V1).drew.trans hb2
  clear hb2
  refine wpAnyH_ready (rs := [6]) (by kernel_rfl) (by simp) ?_
  refine AllReadyH.cons rfl (fun K hK => ?_) AllReadyH.nil
  go_simp
  refine (HP.out V2).mono ?_
  rintro e V3 ⟨rfl, hb3⟩
  refine hK.out _ _ (HK.out V3 (H2.out.trans (hb3.mono H2.out.size))) (fun hHeld => ?_)
  clear hK K
  try simp only [Act.put, List.setIfInBounds_toArray, List.set_cons_zero, List.set_cons_succ]
  have H3 : Hid (Below V1.heap.size V1 V3) := H2.out.trans (hb3.mono H2.out.size)
  clear hb3
  refine wpAnyH_take (i := 7) (v := ?vb_7) rfl (by kernel_rfl) (by kernel_rfl) (by kernel_rfl) (fun _ _ _ h => h) (Or.inl ⟨by first | kernel_rfl | rfl, ?yb_7⟩) hHeld ?rb_7
  case yb_7 => (intro W hSW; (try dsimp only at hSW); go_simp; (try with_reducible rfl))
  change wpAnyH _ _ _ _ _ _ _ (Act.put _ (some 12) _) _
  simp only [Act.put, List.setIfInBounds_toArray, List.set_cons_zero, List.set_cons_succ]
  refine wpAnyH_ready (rs := [12]) (by kernel_rfl) (by simp) ?_
  refine AllReadyH.cons rfl (fun K hK => ?_) AllReadyH.nil
  go_simp
  refine (HU.out V3).mono ?_
  rintro e V4 ⟨rfl, hb4⟩
  refine hK.out _ _ (HK.out V4 (H3.out.trans (hb4.mono H3.out.size))) (fun hHeld => ?_)
  clear hK K
  try simp only [Act.put, List.setIfInBounds_toArray, List.set_cons_zero, List.set_cons_succ]
  have H4 : Hid (Below V1.heap.size V1 V4) := H3.out.trans (hb4.mono H3.out.size)
  clear hb4
  refine wpAnyH_take (i := 13) (v := ?vb_13) rfl (by kernel_rfl) (by kernel_rfl) (by kernel_rfl) (fun _ _ _ h => h) (Or.inl ⟨by first | kernel_rfl | rfl, ?yb_13⟩) hHeld ?rb_13
  case yb_13 => (intro W hSW; (try dsimp only at hSW); go_simp; (try with_reducible rfl))
  change wpAnyH _ _ _ _ _ _ _ (Act.put _ (some 18) _) _
  simp only [Act.put, List.setIfInBounds_toArray, List.set_cons_zero, List.set_cons_succ]
  refine wpAnyH_take (i := 14) (v := ?vb_14) rfl (by kernel_rfl) (by kernel_rfl) (by kernel_rfl) (fun _ _ _ h => h) (Or.inl ⟨by first | kernel_rfl | rfl, ?yb_14⟩) hHeld ?rb_14
  case yb_14 => (intro W hSW; (try dsimp only at hSW); go_simp; (try with_reducible rfl))
  change wpAnyH _ _ _ _ _ _ _ (Act.put _ (some 3) _) _
  simp only [Act.put, List.setIfInBounds_toArray, List.set_cons_zero, List.set_cons_succ]
  refine wpAnyH_done (by kernel_rfl) ?_ _
  clear y0 y1 y2
  obtain ⟨y0, y1, y2⟩ := HK.out V4 H4.out
  go_wp2
  go_loopw [3, 4] (fun vo vi wr => ∃ (i : Nat), i ≤ ln ∧ vi = .int .i64 i ∧ vo = .string (strOf (encI ⟨s, (n : Int), l⟩ i)) ∧ Below V1.heap.size V1 wr) (fun _ vi _ => ln - (intOf vi).toNat)
  case atStart => exact ⟨0, by omega, rfl, by rw [← HAC.out], H4.out⟩
  case round =>
  obtain ⟨i, hi, rfl, rfl, hbw⟩ := hrel
  clear y0 y1 y2
  obtain ⟨y0, y1, y2⟩ := HK.out wr hbw
  obtain ⟨Y, hY⟩ : ∃ Y, strOf (encI ⟨s, (n : Int), l⟩ i) = Y := ⟨_, rfl⟩
  rw [hY]
  have hYs : Y.size ≤ 1000 := by rw [← hY, strOf_size]; exact encI_len HLL.out.2.2 i
  by_cases hlt : i < ln
  · have kk : (i : Int) < (ln : Int) := by omega
    obtain ⟨ab, ao, rfl, _, hc⟩ := (HR.out wr hbw).at (by omega)
    obtain ⟨⟨c0, c1, c2, c3, c4⟩, hci⟩ : ∃ c, l[i]? = some c := ⟨_, List.getElem?_eq_getElem (by have := HLL.out.1; omega)⟩
    obtain ⟨d0, d1, d2, d3, d4⟩ := hc i _ hci
    have hcok := HLL.out.2.1 _ (List.mem_of_getElem? hci)
    have hcl := ent_len hcok
    simp only at d0 d1 d2 d3 d4
    have HC := rbytes_any ⟨c0, c1, c2, c3, c4⟩ wr hcok
    simp only at HC
    obtain ⟨X, hX⟩ : ∃ X, strOf (⟨c0, c1, c2, c3, c4⟩ : En).bytes = X := ⟨_, rfl⟩
    unfold StTo at HC
    rw [hX] at HC
    have ov4 : ¬ 9223372036854775807 < Y.size + X.size := by rw [← hX, strOf_size]; omega
    have H5 : Hid (Below V1.heap.size V1 wr ∧ strOf (encI ⟨s, (n : Int), l⟩ (i + 1)) = Y ++ X) := ⟨hbw, by rw [encI_snoc (a := ⟨s, (n : Int), l⟩) hci, strOf_append, hY, hX]⟩
    clear hbw hc hci hcok hcl hX hY
    go_wp2_with fail
    refine HC.mono ?_
    rintro e V6 ⟨rfl, hb6⟩
    have HE : Hid (Below V1.heap.size V1 V6) := H5.out.1.trans (hb6.mono H5.out.1.size)
    clear HC hb6 d0 d1 d2 d3 d4
    go_wp2
    exact ⟨⟨i + 1, by omega, by go_num, by rw [H5.out.2], HE.out⟩, by simp [intOf]; omega⟩
  · obtain rfl : i = ln := by omega
    have kk : ¬ (i : Int) < (i : Int) := by omega
    have HE : Hid (StTo w (encA ⟨s, (n : Int), l⟩) (.returned (.string Y)) wr) := ⟨by rw [← hY, encI_all _ (by simp only; have := HLL.out.1; omega)], HB.out.trans (hbw.mono HB.out.size)⟩
    clear hbw hY
    go_wp2
    go_ret
    exact HE.out
end Go.Proofs.YtkhidkilkbmpoaaDoor
namespace Go.Proofs.YtkhidkilkbmpoaaDoor
open Go.RowKit
theorem sizeEn (w : World) : (Go.sizeOf 36).run Tryd.prog w = .ok 5 w := by kernel_rfl
theorem pre_ents (a : Option Addr) (len cap j : Nat) (hj : j ≤ cap) (W : World) : (Instr.sliceAt 22 (.slice a len cap) none (some (.int .i64 (j : Int))) none).run Tryd.prog W = .ok (.slice (cutA a cap 0 5) j cap) W := by
  have h1 := sizeEn W
  simp [Instr.sliceAt, Instr.slice, run_underlying Tryd.underlying22, Instr.sliceBounds, Instr.sliceBound, asIntOf, h1, hj, cutA]
theorem off_ents (a : Option Addr) (len cap i : Nat) (hi : i ≤ len) (W : World) : (Instr.sliceAt 22 (.slice a len cap) (some (.int .i64 (i : Int))) none none).run Tryd.prog W = .ok (.slice (cutA a cap i 5) (len - i) (cap - i)) W := by
  have h1 := sizeEn W
  simp [Instr.sliceAt, Instr.slice, run_underlying Tryd.underlying22, Instr.sliceBounds, Instr.sliceBound, asIntOf, h1, hi, cutA]
/-- A row of entries in new memory. -/
def Nw (base : Nat) (w : World) (a : Option Addr) (len cap : Nat) (l : List En) : Prop := Rw (fun b => base ≤ b) w 36 5 a len cap (enR l)
theorem Nw.ew {base : Nat} {w : World} {a : Option Addr} {len cap : Nat} {l : List En} (h : Nw base w a len cap l) : Ew w a len cap l := Rw.mono h fun _ _ _ => trivial
theorem Nw.below {base : Nat} {w w' : World} {a : Option Addr} {len cap : Nat} {l : List En} (h : Nw base w a len cap l) (hb : Below w.heap.size w w') : Nw base w' a len cap l := Rw.below h hb
theorem Nw.base {base base' : Nat} {w : World} {a : Option Addr} {len cap : Nat} {l : List En} (h : Nw base w a len cap l) (hb : base' ≤ base) : Nw base' w a len cap l := Rw.mono h fun _ h _ => Nat.le_trans hb h
theorem Nw.own {base b : Nat} {w : World} {a : Option Addr} {n c : Nat} {l : List En} (h : w.ownsRow b 36 5 (.slice a n c) n (enR l)) (hb : base ≤ b) : Nw base w a n c l := Rw.own h (fun _ hx => Nat.le_trans hb hx)
theorem Nw.off {base : Nat} {w : World} {a : Option Addr} {len cap : Nat} {l : List En} (h : Nw base w a len cap l) (j : Nat) (hj : j ≤ len) : Nw base w (cutA a cap j 5) (len - j) (cap - j) (l.drop j) := by
  have h5 := Rw.drop h j hj
  unfold enR at h5
  rw [fm_drop enC_len] at h5
  exact h5
theorem Nw.pre {base : Nat} {w : World} {a : Option Addr} {len cap : Nat} {l : List En} (h : Nw base w a len cap l) (j : Nat) (hj : j ≤ len) : Nw base w (cutA a cap 0 5) j cap (l.take j) := by
  have h5 := Rw.pre h j hj
  unfold enR at h5
  rw [fm_take enC_len] at h5
  exact h5
theorem Ew.pre {w : World} {a : Option Addr} {len cap : Nat} {l : List En} (h : Ew w a len cap l) (j : Nat) (hj : j ≤ len) : Ew w (cutA a cap 0 5) j cap (l.take j) := by
  have h5 := Rw.pre h j hj
  unfold enR at h5
  rw [fm_take enC_len] at h5
  exact h5
/-- An audit and a word that are handed on; its entries lie in new memory. -/
def AuTo (w : World) (r : Au × Nat) (e : Ending) (w' : World) : Prop := ∃ (a : Option Addr) (n c : Nat), e = .returned (.tuple #[.agg #[.string r.1.anchor, .int .i64 r.1.last, .slice a n c], .int .i64 (r.2 : Int)]) ∧ Nw w.heap.size w' a n c r.1.ents ∧ Below w.heap.size w w'
theorem add_no {a : Au} {e : En} (h : ¬ (mayA a = true ∧ (e.at (a.last + 1)).ok = true)) : addA a e = (zeroAu, 1) := by unfold addA; rw [if_neg h]
end Go.Proofs.YtkhidkilkbmpoaaDoor
