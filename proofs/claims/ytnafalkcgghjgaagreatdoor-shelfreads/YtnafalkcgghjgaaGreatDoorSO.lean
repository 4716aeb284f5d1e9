/- Walks over strings.Trim, first, parse and follows. -/
import Derived.Test.YtnafalkcgghjgaaGreatDoorST
import Derived.Test.YtnafalkcgghjgaaGreatDoorSL
namespace Go.Proofs.YtnafalkcgghjgaaGreatDoor
open Go.RowKit Go.Shelf
theorem ext_drop (u : ByteArray) (i : Nat) : (u.extract i u.size).data.toList = u.data.toList.drop i := by
  have h : u.data.toList.length = u.size := rfl
  rw [ByteArray.data_extract, Array.toList_extract, List.extract_eq_take_drop, List.take_of_length_le]
  rw [List.length_drop, h]
  omega
theorem ext_take (u : ByteArray) (k : Nat) : (u.extract 0 k).data.toList = u.data.toList.take k := by
  rw [ByteArray.data_extract, Array.toList_extract, List.extract_eq_take_drop, List.drop_zero, Nat.sub_zero]
theorem ext_mid (u : ByteArray) (i k : Nat) : (u.extract i k).data.toList = (u.data.toList.drop i).take (k - i) := by
  rw [ByteArray.data_extract, Array.toList_extract, List.extract_eq_take_drop]
theorem ba_get (u : ByteArray) (i : Nat) (h : i < u.size) : u.data.toList[i]? = some (u[i]'h) := by
  have h' : i < u.data.toList.length := h
  rw [List.getElem?_eq_getElem h']
  rfl
theorem allZ_cons (x : UInt8) (l : List UInt8) : allZ (x :: l) = ((x == 0) && allZ l) := by simp [allZ]
theorem allZ_snoc (l : List UInt8) (x : UInt8) : allZ (l ++ [x]) = (allZ l && (x == 0)) := by simp [allZ]
theorem u8_zero (x : UInt8) : (x.toNat = 0) ↔ x = 0 := by
  constructor
  · intro h; exact UInt8.toNat_inj.1 h
  · intro h; rw [h]; rfl
def NoB (t : ByteArray) : Prop := t.size = 0
def strN : Value → Nat
  | .string u => u.size
  | _ => 0
set_option maxRecDepth 100000 in
set_option maxHeartbeats 1000000 in
theorem trimL_any (s : ByteArray) (w : World) :
    Calls Tryz.prog 115 #[.string s, .int .u8 0] w fun e w' => ∃ t, e = .returned (.string t) ∧ (NoB t ↔ allZ s.data.toList = true) ∧ w' = w := by
  go_enter Tryz.func115, Tryz.ntmps115
  go_wp2
  go_loopw [0] (fun vs wr => ∃ u : ByteArray, vs = .string u ∧ allZ u.data.toList = allZ s.data.toList ∧ wr = w) (fun vs _ => strN vs)
  case atStart => exact ⟨s, rfl, rfl, rfl⟩
  case round =>
    obtain ⟨u, rfl, h2, rfl⟩ := hrel
    have H2 : Hid (allZ u.data.toList = allZ s.data.toList) := h2
    clear h2
    by_cases h0 : 0 < u.size
    · have kk : (0 : Int) < (u.size : Int) := by omega
      have hg := ba_get u 0 h0
      have hd := drop_at hg
      rw [List.drop_zero] at hd
      by_cases hz : u[0].toNat = 0
      · have k0 : ((u[0].toNat : Int) == 0) = true := by rw [hz]; rfl
        have HD : Hid (u.data.toList = u[0] :: u.data.toList.drop 1 ∧ u[0] = 0) := ⟨hd, (u8_zero _).1 hz⟩
        clear hg hd hz
        go_wp2
        refine ⟨⟨_, rfl, ?_, by first | trivial | rfl⟩, by simp only [strN, ByteArray.size_extract]; omega⟩
        rw [ext_drop, ← H2.out]
        conv => rhs; rw [HD.out.1, allZ_cons, HD.out.2]
        rfl
      · have k0 : ((u[0].toNat : Int) == 0) = false := by simpa using hz
        have HD : Hid (u.data.toList = u[0] :: u.data.toList.drop 1 ∧ ¬ u[0] = 0) := ⟨hd, fun e => hz ((u8_zero _).2 e)⟩
        clear hg hd hz
        go_wp2
        go_ret
        refine ⟨u, rfl, ⟨fun e => by unfold NoB at e; omega, fun e => ?_⟩, rfl⟩
        rw [← H2.out, HD.out.1, allZ_cons] at e
        simp [HD.out.2] at e
    · have hz : u.size = 0 := by omega
      have kk : ¬ (0 : Int) < (u.size : Int) := by omega
      go_wp2
      go_ret
      refine ⟨u, rfl, ⟨fun _ => ?_, fun _ => hz⟩, rfl⟩
      rw [← H2.out, List.eq_nil_of_length_eq_zero (show u.data.toList.length = 0 from hz)]
      rfl
set_option maxRecDepth 100000 in
set_option maxHeartbeats 1000000 in
theorem trimR_any (s : ByteArray) (w : World) (hs : s.size ≤ 2000) :
    Calls Tryz.prog 116 #[.string s, .int .u8 0] w fun e w' => ∃ t, e = .returned (.string t) ∧ allZ t.data.toList = allZ s.data.toList ∧ w' = w := by
  go_enter Tryz.func116, Tryz.ntmps116
  go_wp2
  go_loopw [0] (fun vs wr => ∃ u : ByteArray, vs = .string u ∧ u.size ≤ s.size ∧ allZ u.data.toList = allZ s.data.toList ∧ wr = w) (fun vs _ => strN vs)
  case atStart => exact ⟨s, rfl, Nat.le_refl _, rfl, rfl⟩
  case round =>
    obtain ⟨u, rfl, h1, h2, rfl⟩ := hrel
    have H2 : Hid (allZ u.data.toList = allZ s.data.toList) := h2
    clear h2
    by_cases h0 : 0 < u.size
    · have kk : (0 : Int) < (u.size : Int) := by omega
      obtain ⟨q, hq⟩ : ∃ q, u.size = q + 1 := ⟨u.size - 1, by omega⟩
      have hql : q < u.size := by omega
      have hqi : (u.size : Int) - 1 = (q : Int) := by omega
      have hql' : (q : Int) < (u.size : Int) := by omega
      have hg := ba_get u q hql
      have hsn : u.data.toList = u.data.toList.take q ++ [u[q]] := by
        rw [← take_snoc hg, List.take_of_length_le]
        show u.size ≤ q + 1
        omega
      by_cases hz : u[q].toNat = 0
      · have k0 : ((u[q].toNat : Int) == 0) = true := by rw [hz]; rfl
        have HD : Hid (u.data.toList = u.data.toList.take q ++ [u[q]] ∧ u[q] = 0) := ⟨hsn, (u8_zero _).1 hz⟩
        have HQ : Hid (u.size = q + 1) := hq
        clear hg hsn hz hq
        go_wp2
        refine ⟨⟨_, rfl, ?_, ?_, by first | trivial | rfl⟩, ?_⟩
        · simp only [ByteArray.size_extract]; omega
        · rw [ext_take, ← H2.out]
          conv => rhs; rw [HD.out.1, allZ_snoc, HD.out.2]
          simp
        · simp only [strN, ByteArray.size_extract]; omega
      · have k0 : ((u[q].toNat : Int) == 0) = false := by simpa using hz
        clear hg hsn hz hq
        go_wp2
        go_ret
        exact ⟨u, rfl, H2.out, rfl⟩
    · have kk : ¬ (0 : Int) < (u.size : Int) := by omega
      go_wp2
      go_ret
      exact ⟨u, rfl, H2.out, rfl⟩
set_option maxRecDepth 100000 in
set_option maxHeartbeats 2000000 in
theorem trim_any (s : ByteArray) (w : World) (hs : s.size ≤ 2000) :
    Calls Tryz.prog 100 #[.string s, .string ⟨#[0]⟩] w fun e w' => ∃ t, e = .returned (.string t) ∧ (NoB t ↔ allZ s.data.toList = true) ∧ Below w.heap.size w w' := by
  by_cases h0 : s.size = 0
  · have hn : s.data.toList = [] := List.eq_nil_of_length_eq_zero (show s.data.toList.length = 0 from h0)
    have hz : s.toList = [] := by rw [ByteArray.toList_eq]; exact hn
    have hi : s.toList.isEmpty = true := by rw [hz]; rfl
    go_enter Tryz.func100, Tryz.ntmps100
    go_wp2
    go_ret
    refine ⟨s, rfl, ⟨fun _ => by rw [hn]; rfl, fun _ => h0⟩, Below.refl _ _⟩
  · have hi : s.toList.isEmpty = false := by
      rw [ByteArray.toList_eq, List.isEmpty_eq_false_iff]
      intro e
      exact h0 (by show s.data.toList.length = 0; rw [e]; rfl)
    have HR := trimR_any s w.drew hs
    have hz0 : (⟨#[0]⟩ : ByteArray).toList = [0] := by rw [ByteArray.toList_eq]
    go_enter Tryz.func100, Tryz.ntmps100
    go_wp2
    refine wp_region_held_drew (S := fun _ => True) (by kernel_rfl) (trivial) (fun hHeld => ?_)
    refine wpAnyH_take (i := 0) (v := ?v0) rfl (by kernel_rfl) (by kernel_rfl) (by kernel_rfl) (fun _ _ _ h => h) (Or.inl ⟨by first | kernel_rfl | rfl, ?y0⟩) hHeld ?r0
    case y0 => (intro W hSW; (try dsimp only at hSW); go_simp; (try with_reducible rfl))
    change wpAnyH _ _ _ _ _ _ _ (Act.put _ (some 22) _) _
    simp only [Act.put, List.setIfInBounds_toArray, List.set_cons_zero, List.set_cons_succ]
    refine wpAnyH_take (i := 1) (v := ?v1) rfl (by kernel_rfl) (by kernel_rfl) (by kernel_rfl) (fun _ _ _ h => h) (Or.inl ⟨by first | kernel_rfl | rfl, ?y1⟩) hHeld ?r1
    case y1 => (intro W hSW; (try dsimp only at hSW); go_simp; (try with_reducible rfl))
    change wpAnyH _ _ _ _ _ _ _ (Act.put _ (some 23) _) _
    simp only [Act.put, List.setIfInBounds_toArray, List.set_cons_zero, List.set_cons_succ]
    refine wpAnyH_take (i := 2) (v := ?v2) rfl (by kernel_rfl) (by kernel_rfl) (by kernel_rfl) (fun _ _ _ h => h) (Or.inl ⟨by first | kernel_rfl | rfl, ?y2⟩) hHeld ?r2
    case y2 => (intro W hSW; (try dsimp only at hSW); go_simp; (try with_reducible rfl))
    change wpAnyH _ _ _ _ _ _ _ (Act.put _ (some 24) _) _
    simp only [Act.put, List.setIfInBounds_toArray, List.set_cons_zero, List.set_cons_succ]
    refine wpAnyH_take (i := 4) (v := ?v4) rfl (by kernel_rfl) (by kernel_rfl) (by kernel_rfl) (fun _ _ _ h => h) (Or.inl ⟨by first | kernel_rfl | rfl, ?y4⟩) hHeld ?r4
    case y4 => (intro W hSW; (try dsimp only at hSW); go_simp; (try with_reducible rfl))
    change wpAnyH _ _ _ _ _ _ _ (Act.put _ (some 26) _) _
    simp only [Act.put, List.setIfInBounds_toArray, List.set_cons_zero, List.set_cons_succ]
    refine wpAnyH_take (i := 5) (v := ?v5) rfl (by kernel_rfl) (by kernel_rfl) (by kernel_rfl) (fun _ _ _ h => h) (Or.inl ⟨by first | kernel_rfl | rfl, ?y5⟩) hHeld ?r5
    case y5 => (intro W hSW; (try dsimp only at hSW); go_simp; (try with_reducible rfl))
    change wpAnyH _ _ _ _ _ _ _ (Act.put _ (some 27) _) _
    simp only [Act.put, List.setIfInBounds_toArray, List.set_cons_zero, List.set_cons_succ]
    refine wpAnyH_ready (rs := [3]) (by kernel_rfl) (by simp) ?_
    refine AllReadyH.cons rfl (fun K hK => ?_) AllReadyH.nil
    go_simp
    refine (HR).mono ?_
    rintro e V1 ⟨t1, rfl, h1, hV1⟩; subst V1; have HL := trimL_any t1 w.drew
    refine hK.out _ _ (trivial) (fun hHeld => ?_)
    clear hK K
    try simp only [Act.put, List.setIfInBounds_toArray, List.set_cons_zero, List.set_cons_succ]
    refine wpAnyH_ready (rs := [6]) (by kernel_rfl) (by simp) ?_
    refine AllReadyH.cons rfl (fun K hK => ?_) AllReadyH.nil
    go_simp
    refine (HL).mono ?_
    rintro e V2 ⟨t2, rfl, h2, hV2⟩; subst V2; have HT : Hid (t2.size = 0 ↔ allZ s.data.toList = true) := (by rw [← h1]; exact h2)
    refine hK.out _ _ (trivial) (fun hHeld => ?_)
    clear hK K
    try simp only [Act.put, List.setIfInBounds_toArray, List.set_cons_zero, List.set_cons_succ]
    refine wpAnyH_take (i := 7) (v := ?v7) rfl (by kernel_rfl) (by kernel_rfl) (by kernel_rfl) (fun _ _ _ h => h) (Or.inl ⟨by first | kernel_rfl | rfl, ?y7⟩) hHeld ?r7
    case y7 => (intro W hSW; (try dsimp only at hSW); go_simp; (try with_reducible rfl))
    change wpAnyH _ _ _ _ _ _ _ (Act.put _ (some 4) _) _
    simp only [Act.put, List.setIfInBounds_toArray, List.set_cons_zero, List.set_cons_succ]
    refine wpAnyH_done (by kernel_rfl) ?_ _
    go_wp2
    go_ret
    exact ⟨t2, rfl, HT.out, (Below.refl _ _).drew⟩
set_option maxRecDepth 100000 in
set_option maxHeartbeats 2000000 in
theorem first_any (t : ByteArray) (w : World) (ht : t.size ≤ 2000) :
    Calls Tryz.prog 99 #[.string t] w fun e w' => ∃ k v ok, e = .returned (.tuple #[.agg #[.string k, .string v], .bool ok]) ∧ ((ok = true ∧ firstF t.data.toList = some (k, v)) ∨ (ok = false ∧ firstF t.data.toList = none)) ∧ Below w.heap.size w w' := by
  have hlen : t.data.toList.length = t.size := rfl
  obtain ⟨B, hB⟩ : ∃ B, w.heap.size = B := ⟨_, rfl⟩
  obtain ⟨W1, hW1⟩ : ∃ W1, w.alloc (.cells #[.string ⟨#[]⟩, .string ⟨#[]⟩] 63) = W1 := ⟨_, rfl⟩
  have hb1 : Below B w W1 := by rw [← hW1, ← hB]; exact (Below.refl _ w).alloc (Nat.le_refl _) _
  have r1 : W1.heap[B]? = some (.cells #[.string ⟨#[]⟩, .string ⟨#[]⟩] 63 (0, 0)) := by rw [← hW1, ← hB]; exact heap_alloc_new w _
  have c0 : W1.cell? ⟨B, 0, none⟩ = some (.string ⟨#[]⟩) := by rw [cell_of_row _ _ _ _ _ _ r1]; rfl
  have c1 : W1.cell? ⟨B, 1, none⟩ = some (.string ⟨#[]⟩) := by rw [cell_of_row _ _ _ _ _ _ r1]; rfl
  have f0 := frozen_of_row W1 B 0 _ _ r1
  have f1 := frozen_of_row W1 B 1 _ _ r1
  have HB : Hid (∀ x y : Value, Below B w ((W1.setCell ⟨B, 0, none⟩ x).setCell ⟨B, 1, none⟩ y)) := fun x y => (hb1.setCell (Nat.le_refl _) x).setCell (Nat.le_refl _) y
  have HB2 : Hid (∀ x y : Value, Below B w ((W1.drew.setCell ⟨B, 0, none⟩ x).setCell ⟨B, 1, none⟩ y)) := fun x y => (hb1.drew.setCell (Nat.le_refl _) x).setCell (Nat.le_refl _) y
  have HB3 : Hid (∀ x y : Value, Below B w ((W1.drew.drew.setCell ⟨B, 0, none⟩ x).setCell ⟨B, 1, none⟩ y)) := fun x y => (hb1.drew.drew.setCell (Nat.le_refl _) x).setCell (Nat.le_refl _) y
  rw [hB]
  clear r1 hb1
  by_cases h3 : t.size < 3
  · have k3 : (t.size : Int) < 3 := by omega
    have hn : firstF t.data.toList = none := by unfold firstF; rw [if_pos (.inl (by rw [hlen]; exact h3))]
    go_enter Tryz.func99, Tryz.ntmps99
    go_wp2
    refine bodyPost_ret (v := .tuple #[.agg #[.string ⟨#[]⟩, .string ⟨#[]⟩], .bool false]) ?_ rfl ⟨_, _, _, rfl, .inr ⟨rfl, hn⟩, ?_⟩
    · first | (simp [results, go_sem]; done) | (simp [results, go_sem, c0, c1]; done) | trace_state
    · first | exact HB.out _ _ | trace_state
  · have k3 : ¬ (t.size : Int) < 3 := by omega
    have g0 := ba_get t 0 (by omega)
    have g1 := ba_get t 1 (by omega)
    have g2 := ba_get t 2 (by omega)
    obtain ⟨x0, hx0⟩ : ∃ x, (t[0]'(by omega)).toNat = x := ⟨_, rfl⟩
    obtain ⟨x1, hx1⟩ : ∃ x, (t[1]'(by omega)).toNat = x := ⟨_, rfl⟩
    obtain ⟨x2, hx2⟩ : ∃ x, (t[2]'(by omega)).toNat = x := ⟨_, rfl⟩
    have hk : kLen t.data.toList = x0 := by unfold kLen; rw [List.getD_eq_getElem?_getD, g0, Option.getD_some, hx0]
    have hv : vLen t.data.toList = x1 + 256 * x2 := by unfold vLen; rw [List.getD_eq_getElem?_getD, List.getD_eq_getElem?_getD, g1, g2, Option.getD_some, Option.getD_some, hx1, hx2]
    have b0 : x0 < 256 := by rw [← hx0]; exact UInt8.toNat_lt _
    have b1 : x1 < 256 := by rw [← hx1]; exact UInt8.toNat_lt _
    have b2 : x2 < 256 := by rw [← hx2]; exact UInt8.toNat_lt _
    have l0 : (0 : Int) < (t.size : Int) := by omega
    have l1 : (1 : Int) < (t.size : Int) := by omega
    have l2 : (2 : Int) < (t.size : Int) := by omega
    have HF : Hid (firstF t.data.toList = if t.size < 3 ∨ 64 < x0 ∨ 400 < x1 + 256 * x2 ∨ t.size < 3 + x0 + (x1 + 256 * x2) then none else some (bytesOf ((t.data.toList.drop 3).take x0), bytesOf ((t.data.toList.drop (3 + x0)).take (x1 + 256 * x2)))) := by
      show _ = _
      unfold firstF
      rw [hk, hv, hlen]
    clear g0 g1 g2 hk hv
    have e0 : (3 : Int) + (x0 : Int) - 3 = (x0 : Int) := by omega
    have e1 : (3 : Int) + (x0 : Int) + (x1 : Int) + (x2 : Int) * 256 - (3 + (x0 : Int)) = (x1 : Int) + (x2 : Int) * 256 := by omega
    by_cases h64 : 64 < x0
    · have hn : firstF t.data.toList = none := by rw [HF.out, if_pos (.inr (.inl h64))]
      have k64 : (64 : Int) < (x0 : Int) := by omega
      clear HF
      go_enter Tryz.func99, Tryz.ntmps99
      go_wp2
      go_region
      go_wp2
      refine bodyPost_ret (v := .tuple #[.agg #[.string ⟨#[]⟩, .string ⟨#[]⟩], .bool false]) ?_ rfl ⟨_, _, _, rfl, .inr ⟨rfl, hn⟩, ?_⟩
      · first | (simp [results, go_sem]; done) | (simp [results, go_sem, c0, c1]; done) | trace_state
      · first | exact HB2.out _ _ | trace_state
    · have k64 : ¬ (64 : Int) < (x0 : Int) := by omega
      by_cases h400 : 400 < x1 + 256 * x2
      · have hn : firstF t.data.toList = none := by rw [HF.out, if_pos (.inr (.inr (.inl h400)))]
        have k400 : (400 : Int) < (x1 : Int) + (x2 : Int) * 256 := by omega
        clear HF
        go_enter Tryz.func99, Tryz.ntmps99
        go_wp2
        go_region
        go_wp2
        refine bodyPost_ret (v := .tuple #[.agg #[.string ⟨#[]⟩, .string ⟨#[]⟩], .bool false]) ?_ rfl ⟨_, _, _, rfl, .inr ⟨rfl, hn⟩, ?_⟩
        · first | (simp [results, go_sem]; done) | (simp [results, go_sem, c0, c1]; done) | trace_state
        · first | exact HB2.out _ _ | trace_state
      · have k400 : ¬ (400 : Int) < (x1 : Int) + (x2 : Int) * 256 := by omega
        by_cases hend : t.size < 3 + x0 + (x1 + 256 * x2)
        · have hn : firstF t.data.toList = none := by rw [HF.out, if_pos (.inr (.inr (.inr hend)))]
          have kend : (t.size : Int) < 3 + (x0 : Int) + (x1 : Int) + (x2 : Int) * 256 := by omega
          clear HF
          go_enter Tryz.func99, Tryz.ntmps99
          go_wp2
          go_region
          go_wp2
          refine bodyPost_ret (v := .tuple #[.agg #[.string ⟨#[]⟩, .string ⟨#[]⟩], .bool false]) ?_ rfl ⟨_, _, _, rfl, .inr ⟨rfl, hn⟩, ?_⟩
          · first | (simp [results, go_sem]; done) | (simp [results, go_sem, c0, c1]; done) | trace_state
          · first | exact HB2.out _ _ | trace_state
        · have kend : ¬ (t.size : Int) < 3 + (x0 : Int) + (x1 : Int) + (x2 : Int) * 256 := by omega
          have hn : firstF t.data.toList = some (bytesOf ((t.data.toList.drop 3).take x0), bytesOf ((t.data.toList.drop (3 + x0)).take (x1 + 256 * x2))) := by rw [HF.out, if_neg (by omega)]
          clear HF
          obtain ⟨q, hq⟩ : ∃ q : Nat, 3 + x0 = q := ⟨_, rfl⟩
          obtain ⟨r, hr⟩ : ∃ r : Nat, q + (x1 + 256 * x2) = r := ⟨_, rfl⟩
          have hqi : (3 : Int) + (x0 : Int) = (q : Int) := by omega
          have hri : (q : Int) + (x1 : Int) + (x2 : Int) * 256 = (r : Int) := by omega
          rw [hqi] at e1 kend e0
          rw [hri] at e1 kend
          have s1 : t.extract 3 q = bytesOf ((t.data.toList.drop 3).take x0) := by
            apply ByteArray.ext
            apply Array.ext'
            rw [ext_mid]
            show _ = (t.data.toList.drop 3).take x0
            congr 1
            omega
          have s2 : t.extract q r = bytesOf ((t.data.toList.drop (3 + x0)).take (x1 + 256 * x2)) := by
            apply ByteArray.ext
            apply Array.ext'
            rw [ext_mid, hq]
            show _ = (t.data.toList.drop q).take (x1 + 256 * x2)
            congr 1
            omega
          rw [← s1, ← s2] at hn
          have HN : Hid (firstF t.data.toList = some (t.extract 3 q, t.extract q r)) := hn
          have lq : (q : Int) ≤ (t.size : Int) := by omega
          have lr : (r : Int) ≤ (t.size : Int) := by omega
          have l3q : (3 : Int) ≤ (q : Int) := by omega
          have lqr : (q : Int) ≤ (r : Int) := by omega
          clear hn s1 s2
          go_enter Tryz.func99, Tryz.ntmps99
          go_wp2
          go_region
          go_wp2
          refine wp_region_held_drew (S := fun _ => True) (by kernel_rfl) (trivial) (fun hHeld => ?_)
          refine wpAnyH_take (i := 0) (v := ?vb0) rfl (by kernel_rfl) (by kernel_rfl) (by kernel_rfl) (fun _ _ _ h => h) (Or.inl ⟨by first | kernel_rfl | rfl, ?yb0⟩) hHeld ?rb0
          case yb0 => (intro W hSW; (try dsimp only at hSW); go_simp; (try with_reducible rfl))
          change wpAnyH _ _ _ _ _ _ _ (Act.put _ (some 43) _) _
          simp only [Act.put, List.setIfInBounds_toArray, List.set_cons_zero, List.set_cons_succ]
          refine wpAnyH_take (i := 1) (v := ?vb1) rfl (by kernel_rfl) (by kernel_rfl) (by kernel_rfl) (fun _ _ _ h => h) (Or.inl ⟨by first | kernel_rfl | rfl, ?yb1⟩) hHeld ?rb1
          case yb1 => (intro W hSW; (try dsimp only at hSW); go_simp; (try with_reducible rfl))
          change wpAnyH _ _ _ _ _ _ _ (Act.put _ (some 44) _) _
          simp only [Act.put, List.setIfInBounds_toArray, List.set_cons_zero, List.set_cons_succ]
          refine wpAnyH_take (i := 2) (v := ?vb2) rfl (by kernel_rfl) (by kernel_rfl) (by kernel_rfl) (fun _ _ _ h => h) (Or.inl ⟨by first | kernel_rfl | rfl, ?yb2⟩) hHeld ?rb2
          case yb2 => (intro W hSW; (try dsimp only at hSW); go_simp; (try with_reducible rfl))
          change wpAnyH _ _ _ _ _ _ _ (Act.put _ (some 45) _) _
          simp only [Act.put, List.setIfInBounds_toArray, List.set_cons_zero, List.set_cons_succ]
          refine wpAnyH_take (i := 3) (v := ?vb3) rfl (by kernel_rfl) (by kernel_rfl) (by kernel_rfl) (fun _ _ _ h => h) (Or.inl ⟨by first | kernel_rfl | rfl, ?yb3⟩) hHeld ?rb3
          case yb3 => (intro W hSW; (try dsimp only at hSW); go_simp; (try with_reducible rfl))
          change wpAnyH _ _ _ _ _ _ _ (Act.put _ (some 46) _) _
          simp only [Act.put, List.setIfInBounds_toArray, List.set_cons_zero, List.set_cons_succ]
          refine wpAnyH_take (i := 4) (v := ?vb4) rfl (by kernel_rfl) (by kernel_rfl) (by kernel_rfl) (fun _ _ _ h => h) (Or.inl ⟨by first | kernel_rfl | rfl, ?yb4⟩) hHeld ?rb4
          case yb4 => (intro W hSW; (try dsimp only at hSW); go_simp; (try with_reducible rfl))
          change wpAnyH _ _ _ _ _ _ _ (Act.put _ (some 47) _) _
          simp only [Act.put, List.setIfInBounds_toArray, List.set_cons_zero, List.set_cons_succ]
          refine wpAnyH_take (i := 5) (v := ?vb5) rfl (by kernel_rfl) (by kernel_rfl) (by kernel_rfl) (fun _ _ _ h => h) (Or.inl ⟨by first | kernel_rfl | rfl, ?yb5⟩) hHeld ?rb5
          case yb5 => (intro W hSW; (try dsimp only at hSW); go_simp; (try with_reducible rfl))
          change wpAnyH _ _ _ _ _ _ _ (Act.put _ (some 48) _) _
          simp only [Act.put, List.setIfInBounds_toArray, List.set_cons_zero, List.set_cons_succ]
          refine wpAnyH_take (i := 6) (v := ?vb6) rfl (by kernel_rfl) (by kernel_rfl) (by kernel_rfl) (fun _ _ _ h => h) (Or.inl ⟨by first | kernel_rfl | rfl, ?yb6⟩) hHeld ?rb6
          case yb6 => (intro W hSW; (try dsimp only at hSW); go_simp; (try with_reducible rfl))
          change wpAnyH _ _ _ _ _ _ _ (Act.put _ (some 49) _) _
          simp only [Act.put, List.setIfInBounds_toArray, List.set_cons_zero, List.set_cons_succ]
          refine wpAnyH_take (i := 7) (v := ?vb7) rfl (by kernel_rfl) (by kernel_rfl) (by kernel_rfl) (fun _ _ _ h => h) (Or.inl ⟨by first | kernel_rfl | rfl, ?yb7⟩) hHeld ?rb7
          case yb7 => (intro W hSW; (try dsimp only at hSW); go_simp; (try with_reducible rfl))
          change wpAnyH _ _ _ _ _ _ _ (Act.put _ (some 50) _) _
          simp only [Act.put, List.setIfInBounds_toArray, List.set_cons_zero, List.set_cons_succ]
          refine wpAnyH_take (i := 8) (v := ?vb8) rfl (by kernel_rfl) (by kernel_rfl) (by kernel_rfl) (fun _ _ _ h => h) (Or.inl ⟨by first | kernel_rfl | rfl, ?yb8⟩) hHeld ?rb8
          case yb8 => (intro W hSW; (try dsimp only at hSW); go_simp; (try with_reducible rfl))
          change wpAnyH _ _ _ _ _ _ _ (Act.put _ (some 51) _) _
          simp only [Act.put, List.setIfInBounds_toArray, List.set_cons_zero, List.set_cons_succ]
          refine wpAnyH_ready (rs := [9]) (by kernel_rfl) (by simp) ?_
          refine AllReadyH.cons rfl (fun K hK => ?_) AllReadyH.nil
          go_simp
          refine hK.out _ _ (trivial) (fun hHeld => ?_)
          clear hK K
          refine wpAnyH_take (i := 10) (v := ?vb10) rfl (by kernel_rfl) (by kernel_rfl) (by kernel_rfl) (fun _ _ _ h => h) (Or.inl ⟨by first | kernel_rfl | rfl, ?yb10⟩) hHeld ?rb10
          case yb10 => (intro W hSW; (try dsimp only at hSW); go_simp; (try with_reducible rfl))
          change wpAnyH _ _ _ _ _ _ _ (Act.put _ (some 3) _) _
          simp only [Act.put, List.setIfInBounds_toArray, List.set_cons_zero, List.set_cons_succ]
          refine wpAnyH_done (by kernel_rfl) ?_ _
          go_wp2
          refine bodyPost_ret (v := .tuple #[.agg #[.string (t.extract 3 q), .string (t.extract q r)], .bool true]) ?_ rfl ⟨_, _, _, rfl, .inl ⟨rfl, HN.out⟩, ?_⟩
          · first | (simp [results, go_sem]; done) | (simp [results, go_sem, c0, c1]; done) | trace_state
          · first | exact HB3.out _ _ | trace_state
end Go.Proofs.YtnafalkcgghjgaaGreatDoor
