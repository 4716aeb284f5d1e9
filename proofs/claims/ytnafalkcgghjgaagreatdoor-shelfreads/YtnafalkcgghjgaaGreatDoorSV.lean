/- Walks over parse and follows. -/
import Derived.Test.YtnafalkcgghjgaaGreatDoorSO
namespace Go.Proofs.YtnafalkcgghjgaaGreatDoor
open Go.RowKit Go.Shelf
theorem after_nil (p : Pr) : after [] p = true := rfl
theorem after_last {l : List Pr} {q : Nat} {x : Pr} (hl : l.length = q + 1) (h : l[q]? = some x) (p : Pr) : after l p = sl x.1 p.1 := by
  unfold after
  rw [List.getLast?_eq_getElem?, hl, Nat.add_sub_cancel, h]
theorem headD_get (u : ByteArray) (h : 0 < u.size) : u.data.toList.headD 0 = u[0] := by
  have := drop_at (ba_get u 0 h)
  rw [List.drop_zero] at this
  rw [this]
  rfl
theorem headD_nil (u : ByteArray) (h : u.size = 0) : u.data.toList.headD 0 = 0 := by
  rw [List.eq_nil_of_length_eq_zero (show u.data.toList.length = 0 from h)]
  rfl
theorem noB_list (t : ByteArray) : (NoB t → t.toList.isEmpty = true) ∧ (¬ NoB t → t.toList.isEmpty = false) := by
  unfold NoB
  rw [ByteArray.toList_eq]
  have : t.data.toList.length = t.size := rfl
  constructor
  · intro h
    rw [List.eq_nil_of_length_eq_zero (l := t.data.toList) (by omega)]
    rfl
  · intro h
    rw [List.isEmpty_eq_false_iff]
    intro e
    rw [e] at this
    simp at this
    omega
set_option maxRecDepth 100000 in
set_option maxHeartbeats 4000000 in
theorem parse_any {G : Nat → Prop} {w : World} (hG : ∀ x, w.heap.size ≤ x → G x) (t : ByteArray) (ht : t.size ≤ 1023) :
    Calls Tryz.prog 73 #[.string t] w fun e w' => ∃ (la : Option Addr) (ln lc : Nat) (l : List Pr) (ok : Bool), e = .returned (.tuple #[.slice la ln lc, .bool ok]) ∧ Pw G w' la ln lc l ∧ szL l ≤ 1023 ∧ ((ok = true ∧ parseF t.data.toList = some l) ∨ (ok = false ∧ parseF t.data.toList = none)) ∧ Below w.heap.size w w' := by
  obtain ⟨R, hR⟩ : ∃ R, parseF t.data.toList = R := ⟨_, rfl⟩
  rw [hR]
  have HR : Hid (parseG (t.size + 1) t.data.toList [] = R) := hR
  have HG : Hid (∀ x, w.heap.size ≤ x → G x) := hG
  obtain ⟨B, hB⟩ : ∃ B, w.heap.size = B := ⟨_, rfl⟩
  rw [hB] at HG ⊢
  clear hG hR
  go_enter Tryz.func73, Tryz.ntmps73
  go_wp2
  go_loopw [0, 4] (fun vs vl wr => ∃ (u : ByteArray) (la : Option Addr) (ln lc : Nat) (l : List Pr) (f : Nat), vs = .string u ∧ vl = .slice la ln lc ∧ wr.ownsRow B 63 2 (.slice la ln lc) ln (prV l) ∧ u.size < f ∧ parseG f u.data.toList l = R ∧ szL l + u.size ≤ 1023 ∧ Below B w wr) (fun vs _ _ => strN vs)
  case atStart => exact ⟨t, none, 0, 0, [], t.size + 1, rfl, rfl, World.ownsRow_nil _ _ _ _, by omega, HR.out, by simp [szL]; exact ht, Below.refl _ _⟩
  case round =>
    clear HR
    obtain ⟨u, la, ln, lc, l, f, rfl, rfl, hown, hf, hpg, hsz, hbel⟩ := hrel
    obtain ⟨f, rfl⟩ : ∃ f', f = f' + 1 := ⟨f - 1, by omega⟩
    have hll : l.length = ln := by
      have := hown.1
      unfold prV at this
      rw [fm_len prC_len] at this
      omega
    have hlb : ln ≤ 1023 := by have := es_len l; omega
    have hBwr : B ≤ wr.heap.size := by have := hbel.size; omega
    have HO : Hid (wr.ownsRow B 63 2 (.slice la ln lc) ln (prV l)) := hown
    have HB : Hid (Below B w wr) := hbel
    have HPG : Hid (parseG (f + 1) u.data.toList l = R) := hpg
    have HSZ : Hid (szL l + u.size ≤ 1023) := hsz
    have HLL : Hid (l.length = ln) := hll
    by_cases hz : u.data.toList.headD 0 = 0
    · have HT := trim_any u wr (by omega)
      have hres : R = if allZ u.data.toList then some l else none := by rw [← hpg, parseG, if_pos hz]
      have HRS : Hid (R = if allZ u.data.toList then some l else none) := hres
      have hcond : (u.size = 0) ∨ (0 < u.size ∧ ∃ h : 0 < u.size, (u[0].toNat = 0)) := by
        rcases Nat.eq_zero_or_pos u.size with h | h
        · exact .inl h
        · exact .inr ⟨h, h, by rw [headD_get u h] at hz; exact (u8_zero _).2 hz⟩
      clear hown hbel hpg hz hres hll
      rcases hcond with h0 | ⟨h0, h0', hz0⟩
      · have k0 : ¬ (0 : Int) < (u.size : Int) := by omega
        go_wp2_with fail
        refine HT.mono ?_
        rintro e V ⟨t1, rfl, htz, hV⟩
        have HV : Hid (Below wr.heap.size wr V) := hV
        by_cases hn : NoB t1
        · have hie := (noB_list t1).1 hn
          have HA : Hid (R = some l) := by show R = some l; rw [HRS.out, if_pos (htz.1 hn)]
          clear HT hV htz hn
          go_wp2
          go_ret2
          refine ⟨la, ln, lc, l, true, rfl, Rw.own (own_keep HO.out (fun x hx => HV.out.block x (HO.out.lt x hx).2)) HG.out, by have := HSZ.out; omega, .inl ⟨rfl, HA.out⟩, HB.out.trans (HV.out.mono hBwr)⟩
        · have hie := (noB_list t1).2 hn
          have HA : Hid (R = none) := by show R = none; rw [HRS.out, if_neg (fun e => hn (htz.2 e))]
          clear HT hV htz hn
          go_wp2
          go_ret2
          refine ⟨la, ln, lc, l, false, rfl, Rw.own (own_keep HO.out (fun x hx => HV.out.block x (HO.out.lt x hx).2)) HG.out, by have := HSZ.out; omega, .inr ⟨rfl, HA.out⟩, HB.out.trans (HV.out.mono hBwr)⟩
      · have k0 : (0 : Int) < (u.size : Int) := by omega
        have kz : ((u[0].toNat : Int) == 0) = true := by rw [hz0]; rfl
        clear hz0
        go_wp2_with fail
        refine HT.mono ?_
        rintro e V ⟨t1, rfl, htz, hV⟩
        have HV : Hid (Below wr.heap.size wr V) := hV
        by_cases hn : NoB t1
        · have hie := (noB_list t1).1 hn
          have HA : Hid (R = some l) := by show R = some l; rw [HRS.out, if_pos (htz.1 hn)]
          clear HT hV htz hn
          go_wp2
          go_ret2
          refine ⟨la, ln, lc, l, true, rfl, Rw.own (own_keep HO.out (fun x hx => HV.out.block x (HO.out.lt x hx).2)) HG.out, by have := HSZ.out; omega, .inl ⟨rfl, HA.out⟩, HB.out.trans (HV.out.mono hBwr)⟩
        · have hie := (noB_list t1).2 hn
          have HA : Hid (R = none) := by show R = none; rw [HRS.out, if_neg (fun e => hn (htz.2 e))]
          clear HT hV htz hn
          go_wp2
          go_ret2
          refine ⟨la, ln, lc, l, false, rfl, Rw.own (own_keep HO.out (fun x hx => HV.out.block x (HO.out.lt x hx).2)) HG.out, by have := HSZ.out; omega, .inr ⟨rfl, HA.out⟩, HB.out.trans (HV.out.mono hBwr)⟩
    · have h0 : 0 < u.size := by
        rcases Nat.eq_zero_or_pos u.size with h | h
        · exact absurd (headD_nil u h) hz
        · exact h
      have k0 : (0 : Int) < (u.size : Int) := by omega
      have kz : ((u[0].toNat : Int) == 0) = false := by
        have : ¬ u[0].toNat = 0 := fun e => hz (by rw [headD_get u h0]; exact (u8_zero _).1 e)
        simpa using this
      have HFI := first_any u wr (by omega)
      rw [parseG, if_neg hz] at hpg
      have HP2 : Hid ((match firstF u.data.toList with | none => none | some p => if after l p then parseG f (u.data.toList.drop (eSz p)) (l ++ [p]) else none) = R) := hpg
      have HMY : Hid (∀ p, firstF u.data.toList = some p → May p ∧ eSz p ≤ u.size) := fun p hp => first_may hz hp
      clear hown hbel hpg hz hll HPG
      go_wp2_with fail
      refine HFI.mono ?_
      rintro e V ⟨pk, pv, ok, rfl, hres, hV⟩
      obtain ⟨b, hb⟩ : ∃ b, V.heap.size = b := ⟨_, rfl⟩
      obtain ⟨V1, hV1⟩ : ∃ V1, V.alloc (.cells #[.string pk, .string pv] 63) = V1 := ⟨_, rfl⟩
      have hB1 : Below V.heap.size V V1 := by rw [← hV1]; exact (Below.refl _ V).alloc (Nat.le_refl _) _
      have r1 : V1.heap[b]? = some (.cells #[.string pk, .string pv] 63 (0, 0)) := by rw [← hV1, ← hb]; exact heap_alloc_new V _
      have c0 : V1.cell? ⟨b, 0, none⟩ = some (.string pk) := by rw [cell_of_row _ _ _ _ _ _ r1]; rfl
      have c1 : V1.cell? ⟨b, 1, none⟩ = some (.string pv) := by rw [cell_of_row _ _ _ _ _ _ r1]; rfl
      have hB01 : Below wr.heap.size wr V1 := hV.trans (hB1.mono hV.size)
      have HV1 : Hid (Below wr.heap.size wr V1) := hB01
      have HO1 : Hid (V1.ownsRow B 63 2 (.slice la ln lc) ln (prV l)) := own_keep HO.out (fun x hx => hB01.block x (HO.out.lt x hx).2)
      have hBV1 : B ≤ V1.heap.size := Nat.le_trans hBwr hB01.size
      rcases hres with ⟨rfl, hfs⟩ | ⟨rfl, hfn⟩
      · obtain ⟨hmay, hle⟩ := HMY.out _ hfs
        have hpr := HP2.out
        rw [hfs] at hpr
        simp only at hpr
        have hsz4 := hmay.sz
        by_cases haf : after l (pk, pv) = true
        · rw [if_pos haf] at hpr
          have HNX : Hid (parseG f (u.data.toList.drop (eSz (pk, pv))) (l ++ [(pk, pv)]) = R) := hpr
          have HZO : Hid (∀ W, Calls Tryz.prog 90 #[.agg #[.string pk, .string pv]] W fun e w' => e = .returned (.int .i64 (eSz (pk, pv) : Int)) ∧ Below W.heap.size W w') := fun W => sizeOf_any (pk, pv) W (by omega)
          obtain ⟨z, hz2⟩ : ∃ z, eSz (pk, pv) = z := ⟨_, rfl⟩
          rw [hz2] at HZO HNX hle hsz4
          have HZ : Hid (eSz (pk, pv) = z) := hz2
          obtain ⟨V2, hV2⟩ : ∃ V2, V1.drew.alloc (.cells #[.string pk, .string pv] 63) = V2 := ⟨_, rfl⟩
          have hB2 : Below V1.heap.size V1 V2 := by rw [← hV2]; exact (Below.refl _ V1).drew.alloc (Nat.le_refl _) _
          have r2 : V2.heap[V1.heap.size]? = some (.cells #[.string pk, .string pv] 63 (0, 0)) := by rw [← hV2]; exact heap_alloc_new V1.drew _
          have ho2 := own_keep HO1.out (W' := V2) (fun x hx => hB2.block x (HO1.out.lt x hx).2)
          obtain ⟨aA, cA, VA, hrA, hoA, hgA, hatA⟩ := addP_own V2 ho2 (pair_news r2) (by omega) (Nat.le_trans hBV1 hB2.size)
          have hbV2 : Below B w V2 := HB.out.trans ((hB01.trans (hB2.mono hB01.size)).mono hBwr)
          have HE : Hid (VA.ownsRow B 63 2 (.slice aA (ln + 1) cA) (ln + 1) (prV (l ++ [(pk, pv)])) ∧ Below B w VA) := ⟨hoA, hbV2.grown hgA (Nat.le_trans hBV1 hB2.size) (fun x hx => (ho2.lt x (by rw [ob_slice]; exact hx)).1)⟩
          have hbA : VA.heap[b]? = V1.heap[b]? := by
            rw [hgA.block b (by have := lt_of_some r1; have := hB2.size; omega) (fun e => ?_), hB2.block b (lt_of_some r1)]
            have := (HO.out.lt b (by rw [ob_slice]; exact e.symm)).2
            have := hV.size
            omega
          have g0 : VA.cell? ⟨b, 0, none⟩ = some (.string pk) := by rw [World.cell?_of_block (w := V1) hbA]; exact c0
          have g1 : VA.cell? ⟨b, 1, none⟩ = some (.string pv) := by rw [World.cell?_of_block (w := V1) hbA]; exact c1
          have hzu : (z : Int) ≤ (u.size : Int) := by omega
          have hfl : u.size - z < f := by omega
          have hszn : szL (l ++ [(pk, pv)]) + (u.size - z) ≤ 1023 := by rw [szL_app, szL_cons, szL_nil, HZ.out]; have := HSZ.out; omega
          clear HFI hfs hpr hmay hB1 r1 hB01 hV hB2 r2 ho2 hoA hgA hatA hbV2 hbA hz2
          by_cases hl0 : ln = 0
          · have kl : ¬ (0 : Int) < (ln : Int) := by omega
            have kd1 : decide ((0 : Int) < (ln : Int)) = false := decide_eq_false kl
            have kd2 : decide (0 < ln) = false := decide_eq_false (by omega)
            have HL0 : Hid (ln = 0) := hl0
            clear haf hl0
            go_wp2
            refine wp_region_held_drew (S := fun _ => True) (by kernel_rfl) (trivial) (fun hHeld => ?_)
            refine wpAnyH_take (i := 0) (v := ?va0) rfl (by kernel_rfl) (by kernel_rfl) (by kernel_rfl) (fun _ _ _ h => h) (Or.inl ⟨by first | kernel_rfl | rfl, ?ya0⟩) hHeld ?ra0
            case ya0 => (intro W hSW; (try dsimp only at hSW); go_simp; (try with_reducible rfl))
            change wpAnyH _ _ _ _ _ _ _ (Act.put _ (some 20) _) _
            simp only [Act.put, List.setIfInBounds_toArray, List.set_cons_zero, List.set_cons_succ]
            refine wpAnyH_take (i := 1) (v := ?va1) rfl (by kernel_rfl) (by kernel_rfl) (by kernel_rfl) (fun _ _ _ h => h) (Or.inl ⟨by first | kernel_rfl | rfl, ?ya1⟩) hHeld ?ra1
            case ya1 => (intro W hSW; (try dsimp only at hSW); go_simp; (try with_reducible rfl))
            change wpAnyH _ _ _ _ _ _ _ (Act.put _ (some 21) _) _
            simp only [Act.put, List.setIfInBounds_toArray, List.set_cons_zero, List.set_cons_succ]
            refine wpAnyH_take (i := 2) (v := ?va2) rfl (by kernel_rfl) (by kernel_rfl) (by kernel_rfl) (fun _ _ _ h => h) (Or.inl ⟨by first | kernel_rfl | rfl, ?ya2⟩) hHeld ?ra2
            case ya2 => (intro W hSW; (try dsimp only at hSW); go_simp; (try with_reducible rfl))
            change wpAnyH _ _ _ _ _ _ _ (Act.put _ (some 22) _) _
            simp only [Act.put, List.setIfInBounds_toArray, List.set_cons_zero, List.set_cons_succ]
            refine wpAnyH_take (i := 3) (v := ?va3) rfl (by kernel_rfl) (by kernel_rfl) (by kernel_rfl) (fun _ _ _ h => h) (Or.inl ⟨by first | kernel_rfl | rfl, ?ya3⟩) hHeld ?ra3
            case ya3 => (intro W hSW; (try dsimp only at hSW); go_simp; (try with_reducible rfl))
            change wpAnyH _ _ _ _ _ _ _ (Act.put _ (some 23) _) _
            simp only [Act.put, List.setIfInBounds_toArray, List.set_cons_zero, List.set_cons_succ]
            refine wpAnyH_take (i := 4) (v := ?va4) rfl (by kernel_rfl) (by kernel_rfl) (by kernel_rfl) (fun _ _ _ h => h) (Or.inl ⟨by first | kernel_rfl | rfl, ?ya4⟩) hHeld ?ra4
            case ya4 => (intro W hSW; (try dsimp only at hSW); go_simp; (try with_reducible rfl))
            change wpAnyH _ _ _ _ _ _ _ (Act.put _ (some 24) _) _
            simp only [Act.put, List.setIfInBounds_toArray, List.set_cons_zero, List.set_cons_succ]
            refine wpAnyH_take (i := 5) (v := ?va5) rfl (by kernel_rfl) (by kernel_rfl) (by kernel_rfl) (fun _ _ _ h => h) (Or.inl ⟨by first | kernel_rfl | rfl, ?ya5⟩) hHeld ?ra5
            case ya5 => (intro W hSW; (try dsimp only at hSW); go_simp; (try with_reducible rfl))
            change wpAnyH _ _ _ _ _ _ _ (Act.put _ (some 25) _) _
            simp only [Act.put, List.setIfInBounds_toArray, List.set_cons_zero, List.set_cons_succ]
            refine wpAnyH_take (i := 6) (v := ?va6) rfl (by kernel_rfl) (by kernel_rfl) (by kernel_rfl) (fun _ _ _ h => h) (Or.inl ⟨by first | kernel_rfl | rfl, ?ya6⟩) hHeld ?ra6
            case ya6 => (intro W hSW; (try dsimp only at hSW); go_simp; (try with_reducible rfl))
            change wpAnyH _ _ _ _ _ _ _ (Act.put _ (some 26) _) _
            simp only [Act.put, List.setIfInBounds_toArray, List.set_cons_zero, List.set_cons_succ]
            refine wpAnyH_take (i := 7) (v := undef) rfl (by kernel_rfl) (by kernel_rfl) (by kernel_rfl) (fun _ _ _ h => h) (Or.inr ⟨by first | kernel_rfl | rfl, rfl⟩) hHeld ?_
            change wpAnyH _ _ _ _ _ _ _ (Act.put _ (some 27) _) _
            simp only [Act.put, List.setIfInBounds_toArray, List.set_cons_zero, List.set_cons_succ]
            refine wpAnyH_take (i := 8) (v := undef) rfl (by kernel_rfl) (by kernel_rfl) (by kernel_rfl) (fun _ _ _ h => h) (Or.inr ⟨by first | kernel_rfl | rfl, rfl⟩) hHeld ?_
            change wpAnyH _ _ _ _ _ _ _ (Act.put _ (some 28) _) _
            simp only [Act.put, List.setIfInBounds_toArray, List.set_cons_zero, List.set_cons_succ]
            refine wpAnyH_take (i := 9) (v := undef) rfl (by kernel_rfl) (by kernel_rfl) (by kernel_rfl) (fun _ _ _ h => h) (Or.inr ⟨by first | kernel_rfl | rfl, rfl⟩) hHeld ?_
            change wpAnyH _ _ _ _ _ _ _ (Act.put _ (some 29) _) _
            simp only [Act.put, List.setIfInBounds_toArray, List.set_cons_zero, List.set_cons_succ]
            refine wpAnyH_take (i := 10) (v := undef) rfl (by kernel_rfl) (by kernel_rfl) (by kernel_rfl) (fun _ _ _ h => h) (Or.inr ⟨by first | kernel_rfl | rfl, rfl⟩) hHeld ?_
            change wpAnyH _ _ _ _ _ _ _ (Act.put _ (some 30) _) _
            simp only [Act.put, List.setIfInBounds_toArray, List.set_cons_zero, List.set_cons_succ]
            refine wpAnyH_take (i := 11) (v := undef) rfl (by kernel_rfl) (by kernel_rfl) (by kernel_rfl) (fun _ _ _ h => h) (Or.inr ⟨by first | kernel_rfl | rfl, rfl⟩) hHeld ?_
            change wpAnyH _ _ _ _ _ _ _ (Act.put _ (some 31) _) _
            simp only [Act.put, List.setIfInBounds_toArray, List.set_cons_zero, List.set_cons_succ]
            refine wpAnyH_take (i := 12) (v := undef) rfl (by kernel_rfl) (by kernel_rfl) (by kernel_rfl) (fun _ _ _ h => h) (Or.inr ⟨by first | kernel_rfl | rfl, rfl⟩) hHeld ?_
            change wpAnyH _ _ _ _ _ _ _ (Act.put _ (some 32) _) _
            simp only [Act.put, List.setIfInBounds_toArray, List.set_cons_zero, List.set_cons_succ]
            refine wpAnyH_take (i := 13) (v := undef) rfl (by kernel_rfl) (by kernel_rfl) (by kernel_rfl) (fun _ _ _ h => h) (Or.inr ⟨by first | kernel_rfl | rfl, rfl⟩) hHeld ?_
            change wpAnyH _ _ _ _ _ _ _ (Act.put _ (some 33) _) _
            simp only [Act.put, List.setIfInBounds_toArray, List.set_cons_zero, List.set_cons_succ]
            refine wpAnyH_take (i := 14) (v := undef) rfl (by kernel_rfl) (by kernel_rfl) (by kernel_rfl) (fun _ _ _ h => h) (Or.inr ⟨by first | kernel_rfl | rfl, rfl⟩) hHeld ?_
            change wpAnyH _ _ _ _ _ _ _ (Act.put _ (some 34) _) _
            simp only [Act.put, List.setIfInBounds_toArray, List.set_cons_zero, List.set_cons_succ]
            refine wpAnyH_take (i := 15) (v := undef) rfl (by kernel_rfl) (by kernel_rfl) (by kernel_rfl) (fun _ _ _ h => h) (Or.inr ⟨by first | kernel_rfl | rfl, rfl⟩) hHeld ?_
            change wpAnyH _ _ _ _ _ _ _ (Act.put _ (some 35) _) _
            simp only [Act.put, List.setIfInBounds_toArray, List.set_cons_zero, List.set_cons_succ]
            refine wpAnyH_take (i := 16) (v := undef) rfl (by kernel_rfl) (by kernel_rfl) (by kernel_rfl) (fun _ _ _ h => h) (Or.inr ⟨by first | kernel_rfl | rfl, rfl⟩) hHeld ?_
            change wpAnyH _ _ _ _ _ _ _ (Act.put _ (some 36) _) _
            simp only [Act.put, List.setIfInBounds_toArray, List.set_cons_zero, List.set_cons_succ]
            refine wpAnyH_take (i := 17) (v := ?va17) rfl (by kernel_rfl) (by kernel_rfl) (by kernel_rfl) (fun _ _ _ h => h) (Or.inl ⟨by first | kernel_rfl | rfl, ?ya17⟩) hHeld ?ra17
            case ya17 => (intro W hSW; (try dsimp only at hSW); go_simp; (try with_reducible rfl))
            change wpAnyH _ _ _ _ _ _ _ (Act.put _ (some 37) _) _
            simp only [Act.put, List.setIfInBounds_toArray, List.set_cons_zero, List.set_cons_succ]
            refine wpAnyH_take (i := 18) (v := ?va18) rfl (by kernel_rfl) (by kernel_rfl) (by kernel_rfl) (fun _ _ _ h => h) (Or.inl ⟨by first | kernel_rfl | rfl, ?ya18⟩) hHeld ?ra18
            case ya18 => (intro W hSW; (try dsimp only at hSW); go_simp; (try with_reducible rfl))
            change wpAnyH _ _ _ _ _ _ _ (Act.put _ (some 38) _) _
            simp only [Act.put, List.setIfInBounds_toArray, List.set_cons_zero, List.set_cons_succ]
            refine wpAnyH_done (by kernel_rfl) ?_ _
            go_wp2_with (at_builtin; refine wpList_app V2 rfl _ _ _ _ rfl rfl rfl (hrA _) ?_)
            refine (HZO.out _).mono ?_
            rintro e X ⟨rfl, hX⟩
            have HX : Hid (Below VA.heap.size VA X) := hX
            clear hX HZO
            go_wp2
            refine ⟨⟨u.extract z u.size, aA, ln + 1, cA, l ++ [(pk, pv)], f, rfl, rfl, ?_, ?_, ?_, ?_, ?_⟩, by simp only [strN, ByteArray.size_extract]; omega⟩
            · exact own_keep HE.out.1 (fun x hx => HX.out.block x (HE.out.1.lt x hx).2)
            · rw [ByteArray.size_extract]; omega
            · rw [ext_drop]; exact HNX.out
            · rw [ByteArray.size_extract]; omega
            · exact HE.out.2.trans (HX.out.mono (by have := HE.out.2.size; omega))
          · have kl : (0 : Int) < (ln : Int) := by omega
            have kd1 : decide ((0 : Int) < (ln : Int)) = true := decide_eq_true kl
            have kd2 : decide (0 < ln) = true := decide_eq_true (by omega)
            obtain ⟨q, hq⟩ : ∃ q, ln = q + 1 := ⟨ln - 1, by omega⟩
            have hqll : q < l.length := by have := HLL.out; omega
            have hx : l[q]? = some l[q] := List.getElem?_eq_getElem hqll
            obtain ⟨x, hxx⟩ : ∃ x, l[q] = x := ⟨_, rfl⟩
            rw [hxx] at hx
            have hsx : sl x.1 pk = true := by rw [← after_last (by rw [HLL.out]; exact hq) hx (pk, pv)]; exact haf
            obtain ⟨gl, cl, el, _, _⟩ := HO1.out.form (by omega)
            cases el
            have cx : V1.cell? ⟨gl, q * 2, none⟩ = some (.string x.1) := own_at HO1.out (by have := fm_at prC_len hx 0 (by omega); exact this)
            have hqi : (ln : Int) - 1 = (q : Int) := by omega
            have hwq : IntKind.i64.wrap ((ln : Int) - 1) = (q : Int) := by rw [hqi]; exact wrap_small q (by omega)
            have hwq2 : IntKind.i64.wrap (q : Int) = (q : Int) := wrap_small q (by omega)
            have hql : (q : Int) < (ln : Int) := by omega
            have hbl : Op.bytesLess x.1.toList pk.toList = true := hsx
            clear haf hx hxx hsx hq
            go_wp2
            refine wp_region_held_drew (S := fun V => V.cell? ⟨gl, q * 2, none⟩ = some (.string x.1) ∧ V.cell? ⟨b, 0, none⟩ = some (.string pk)) (by kernel_rfl) (⟨cx, c0⟩) (fun hHeld => ?_)
            refine wpAnyH_take (i := 0) (v := ?vb0) rfl (by kernel_rfl) (by kernel_rfl) (by kernel_rfl) (fun _ _ _ h => h) (Or.inl ⟨by first | kernel_rfl | rfl, ?yb0⟩) hHeld ?rb0
            case yb0 => (intro W hSW; (try dsimp only at hSW); go_simp; (try with_reducible rfl))
            change wpAnyH _ _ _ _ _ _ _ (Act.put _ (some 20) _) _
            simp only [Act.put, List.setIfInBounds_toArray, List.set_cons_zero, List.set_cons_succ]
            refine wpAnyH_take (i := 1) (v := ?vb1) rfl (by kernel_rfl) (by kernel_rfl) (by kernel_rfl) (fun _ _ _ h => h) (Or.inl ⟨by first | kernel_rfl | rfl, ?yb1⟩) hHeld ?rb1
            case yb1 => (intro W hSW; (try dsimp only at hSW); go_simp; (try with_reducible rfl))
            change wpAnyH _ _ _ _ _ _ _ (Act.put _ (some 21) _) _
            simp only [Act.put, List.setIfInBounds_toArray, List.set_cons_zero, List.set_cons_succ]
            refine wpAnyH_take (i := 2) (v := ?vb2) rfl (by kernel_rfl) (by kernel_rfl) (by kernel_rfl) (fun _ _ _ h => h) (Or.inl ⟨by first | kernel_rfl | rfl, ?yb2⟩) hHeld ?rb2
            case yb2 => (intro W hSW; (try dsimp only at hSW); go_simp; (try with_reducible rfl))
            change wpAnyH _ _ _ _ _ _ _ (Act.put _ (some 22) _) _
            simp only [Act.put, List.setIfInBounds_toArray, List.set_cons_zero, List.set_cons_succ]
            refine wpAnyH_take (i := 3) (v := ?vb3) rfl (by kernel_rfl) (by kernel_rfl) (by kernel_rfl) (fun _ _ _ h => h) (Or.inl ⟨by first | kernel_rfl | rfl, ?yb3⟩) hHeld ?rb3
            case yb3 => (intro W hSW; (try dsimp only at hSW); go_simp; (try with_reducible rfl))
            change wpAnyH _ _ _ _ _ _ _ (Act.put _ (some 23) _) _
            simp only [Act.put, List.setIfInBounds_toArray, List.set_cons_zero, List.set_cons_succ]
            refine wpAnyH_take (i := 4) (v := ?vb4) rfl (by kernel_rfl) (by kernel_rfl) (by kernel_rfl) (fun _ _ _ h => h) (Or.inl ⟨by first | kernel_rfl | rfl, ?yb4⟩) hHeld ?rb4
            case yb4 => (intro W hSW; (try dsimp only at hSW); go_simp; (try with_reducible rfl))
            change wpAnyH _ _ _ _ _ _ _ (Act.put _ (some 24) _) _
            simp only [Act.put, List.setIfInBounds_toArray, List.set_cons_zero, List.set_cons_succ]
            refine wpAnyH_take (i := 5) (v := ?vb5) rfl (by kernel_rfl) (by kernel_rfl) (by kernel_rfl) (fun _ _ _ h => h) (Or.inl ⟨by first | kernel_rfl | rfl, ?yb5⟩) hHeld ?rb5
            case yb5 => (intro W hSW; (try dsimp only at hSW); go_simp; (try with_reducible rfl))
            change wpAnyH _ _ _ _ _ _ _ (Act.put _ (some 25) _) _
            simp only [Act.put, List.setIfInBounds_toArray, List.set_cons_zero, List.set_cons_succ]
            refine wpAnyH_take (i := 6) (v := ?vb6) rfl (by kernel_rfl) (by kernel_rfl) (by kernel_rfl) (fun _ _ _ h => h) (Or.inl ⟨by first | kernel_rfl | rfl, ?yb6⟩) hHeld ?rb6
            case yb6 => (intro W hSW; (try dsimp only at hSW); go_simp; (try with_reducible rfl))
            change wpAnyH _ _ _ _ _ _ _ (Act.put _ (some 26) _) _
            simp only [Act.put, List.setIfInBounds_toArray, List.set_cons_zero, List.set_cons_succ]
            refine wpAnyH_take (i := 7) (v := ?vb7) rfl (by kernel_rfl) (by kernel_rfl) (by kernel_rfl) (fun _ _ _ h => h) (Or.inl ⟨by first | kernel_rfl | rfl, ?yb7⟩) hHeld ?rb7
            case yb7 => (intro W hSW; (try dsimp only at hSW); go_simp; (try with_reducible rfl))
            change wpAnyH _ _ _ _ _ _ _ (Act.put _ (some 27) _) _
            simp only [Act.put, List.setIfInBounds_toArray, List.set_cons_zero, List.set_cons_succ]
            refine wpAnyH_take (i := 8) (v := ?vb8) rfl (by kernel_rfl) (by kernel_rfl) (by kernel_rfl) (fun _ _ _ h => h) (Or.inl ⟨by first | kernel_rfl | rfl, ?yb8⟩) hHeld ?rb8
            case yb8 => (intro W hSW; (try dsimp only at hSW); go_simp; (try with_reducible rfl))
            change wpAnyH _ _ _ _ _ _ _ (Act.put _ (some 28) _) _
            simp only [Act.put, List.setIfInBounds_toArray, List.set_cons_zero, List.set_cons_succ]
            refine wpAnyH_take (i := 9) (v := ?vb9) rfl (by kernel_rfl) (by kernel_rfl) (by kernel_rfl) (fun _ _ _ h => h) (Or.inl ⟨by first | kernel_rfl | rfl, ?yb9⟩) hHeld ?rb9
            case yb9 => (intro W hSW; (try dsimp only at hSW); go_simp; (try with_reducible rfl))
            change wpAnyH _ _ _ _ _ _ _ (Act.put _ (some 29) _) _
            simp only [Act.put, List.setIfInBounds_toArray, List.set_cons_zero, List.set_cons_succ]
            refine wpAnyH_take (i := 10) (v := ?vb10) rfl (by kernel_rfl) (by kernel_rfl) (by kernel_rfl) (fun _ _ _ h => h) (Or.inl ⟨by first | kernel_rfl | rfl, ?yb10⟩) hHeld ?rb10
            case yb10 => (intro W hSW; (try dsimp only at hSW); go_simp; (try with_reducible rfl))
            change wpAnyH _ _ _ _ _ _ _ (Act.put _ (some 30) _) _
            simp only [Act.put, List.setIfInBounds_toArray, List.set_cons_zero, List.set_cons_succ]
            refine wpAnyH_take (i := 11) (v := ?vb11) rfl (by kernel_rfl) (by kernel_rfl) (by kernel_rfl) (fun _ _ _ h => h) (Or.inl ⟨by first | kernel_rfl | rfl, ?yb11⟩) hHeld ?rb11
            case yb11 => (intro W hSW; (try dsimp only at hSW); go_simp; (try with_reducible rfl))
            change wpAnyH _ _ _ _ _ _ _ (Act.put _ (some 31) _) _
            simp only [Act.put, List.setIfInBounds_toArray, List.set_cons_zero, List.set_cons_succ]
            refine wpAnyH_take (i := 12) (v := ?vb12) rfl (by kernel_rfl) (by kernel_rfl) (by kernel_rfl) (fun _ _ _ h => h) (Or.inl ⟨by first | kernel_rfl | rfl, ?yb12⟩) hHeld ?rb12
            case yb12 => (intro W hSW; (try dsimp only at hSW); go_simp; (try with_reducible rfl))
            change wpAnyH _ _ _ _ _ _ _ (Act.put _ (some 32) _) _
            simp only [Act.put, List.setIfInBounds_toArray, List.set_cons_zero, List.set_cons_succ]
            refine wpAnyH_take (i := 13) (v := ?vb13) rfl (by kernel_rfl) (by kernel_rfl) (by kernel_rfl) (fun _ _ _ h => h) (Or.inl ⟨by first | kernel_rfl | rfl, ?yb13⟩) hHeld ?rb13
            case yb13 => (intro W hSW; (try dsimp only at hSW); go_simp; (try with_reducible rfl))
            change wpAnyH _ _ _ _ _ _ _ (Act.put _ (some 33) _) _
            simp only [Act.put, List.setIfInBounds_toArray, List.set_cons_zero, List.set_cons_succ]
            refine wpAnyH_take (i := 14) (v := ?vb14) rfl (by kernel_rfl) (by kernel_rfl) (by kernel_rfl) (fun _ _ _ h => h) (Or.inl ⟨by first | kernel_rfl | rfl, ?yb14⟩) hHeld ?rb14
            case yb14 => (intro W hSW; (try dsimp only at hSW); go_simp; (try with_reducible rfl))
            change wpAnyH _ _ _ _ _ _ _ (Act.put _ (some 34) _) _
            simp only [Act.put, List.setIfInBounds_toArray, List.set_cons_zero, List.set_cons_succ]
            refine wpAnyH_take (i := 15) (v := ?vb15) rfl (by kernel_rfl) (by kernel_rfl) (by kernel_rfl) (fun _ _ _ h => h) (Or.inl ⟨by first | kernel_rfl | rfl, ?yb15⟩) hHeld ?rb15
            case yb15 => (intro W hSW; (try dsimp only at hSW); go_simp; (try with_reducible rfl))
            change wpAnyH _ _ _ _ _ _ _ (Act.put _ (some 35) _) _
            simp only [Act.put, List.setIfInBounds_toArray, List.set_cons_zero, List.set_cons_succ]
            refine wpAnyH_take (i := 16) (v := ?vb16) rfl (by kernel_rfl) (by kernel_rfl) (by kernel_rfl) (fun _ _ _ h => h) (Or.inl ⟨by first | kernel_rfl | rfl, ?yb16⟩) hHeld ?rb16
            case yb16 => (intro W hSW; (try dsimp only at hSW); go_simp; (try with_reducible rfl))
            change wpAnyH _ _ _ _ _ _ _ (Act.put _ (some 36) _) _
            simp only [Act.put, List.setIfInBounds_toArray, List.set_cons_zero, List.set_cons_succ]
            refine wpAnyH_take (i := 17) (v := ?vb17) rfl (by kernel_rfl) (by kernel_rfl) (by kernel_rfl) (fun _ _ _ h => h) (Or.inl ⟨by first | kernel_rfl | rfl, ?yb17⟩) hHeld ?rb17
            case yb17 => (intro W hSW; (try dsimp only at hSW); go_simp; (try with_reducible rfl))
            change wpAnyH _ _ _ _ _ _ _ (Act.put _ (some 37) _) _
            simp only [Act.put, List.setIfInBounds_toArray, List.set_cons_zero, List.set_cons_succ]
            refine wpAnyH_take (i := 18) (v := ?vb18) rfl (by kernel_rfl) (by kernel_rfl) (by kernel_rfl) (fun _ _ _ h => h) (Or.inl ⟨by first | kernel_rfl | rfl, ?yb18⟩) hHeld ?rb18
            case yb18 => (intro W hSW; (try dsimp only at hSW); go_simp; (try with_reducible rfl))
            change wpAnyH _ _ _ _ _ _ _ (Act.put _ (some 38) _) _
            simp only [Act.put, List.setIfInBounds_toArray, List.set_cons_zero, List.set_cons_succ]
            refine wpAnyH_done (by kernel_rfl) ?_ _
            go_wp2_with (at_builtin; refine wpList_app V2 rfl _ _ _ _ rfl rfl rfl (hrA _) ?_)
            refine (HZO.out _).mono ?_
            rintro e X ⟨rfl, hX⟩
            have HX : Hid (Below VA.heap.size VA X) := hX
            clear hX HZO
            go_wp2
            refine ⟨⟨u.extract z u.size, aA, ln + 1, cA, l ++ [(pk, pv)], f, rfl, rfl, ?_, ?_, ?_, ?_, ?_⟩, by simp only [strN, ByteArray.size_extract]; omega⟩
            · exact own_keep HE.out.1 (fun x hx => HX.out.block x (HE.out.1.lt x hx).2)
            · rw [ByteArray.size_extract]; omega
            · rw [ext_drop]; exact HNX.out
            · rw [ByteArray.size_extract]; omega
            · exact HE.out.2.trans (HX.out.mono (by have := HE.out.2.size; omega))
        · rw [if_neg haf] at hpr
          have HNO : Hid (R = none) := hpr.symm
          have hl0 : ¬ ln = 0 := fun e => haf (by
            have : l = [] := List.eq_nil_of_length_eq_zero (by rw [HLL.out]; exact e)
            rw [this]; rfl)
          have kl : (0 : Int) < (ln : Int) := by omega
          have kd1 : decide ((0 : Int) < (ln : Int)) = true := decide_eq_true kl
          have kd2 : decide (0 < ln) = true := decide_eq_true (by omega)
          obtain ⟨q, hq⟩ : ∃ q, ln = q + 1 := ⟨ln - 1, by omega⟩
          have hqll : q < l.length := by have := HLL.out; omega
          have hx : l[q]? = some l[q] := List.getElem?_eq_getElem hqll
          obtain ⟨x, hxx⟩ : ∃ x, l[q] = x := ⟨_, rfl⟩
          rw [hxx] at hx
          have hsx : sl x.1 pk = false := by
            have h5 := after_last (by rw [HLL.out]; exact hq) hx (pk, pv)
            cases hh : sl x.1 pk with
            | false => rfl
            | true => exact absurd (h5.trans hh) haf
          obtain ⟨gl, cl, el, _, _⟩ := HO1.out.form (by omega)
          cases el
          have cx : V1.cell? ⟨gl, q * 2, none⟩ = some (.string x.1) := own_at HO1.out (by have := fm_at prC_len hx 0 (by omega); exact this)
          have hqi : (ln : Int) - 1 = (q : Int) := by omega
          have hwq : IntKind.i64.wrap ((ln : Int) - 1) = (q : Int) := by rw [hqi]; exact wrap_small q (by omega)
          have hwq2 : IntKind.i64.wrap (q : Int) = (q : Int) := wrap_small q (by omega)
          have hql : (q : Int) < (ln : Int) := by omega
          have hbl : Op.bytesLess x.1.toList pk.toList = false := hsx
          clear HFI hfs hpr hmay hB1 r1 hB01 hV haf hx hxx hsx hq
          go_wp2
          refine wp_region_held_drew (S := fun V => V.cell? ⟨gl, q * 2, none⟩ = some (.string x.1) ∧ V.cell? ⟨b, 0, none⟩ = some (.string pk)) (by kernel_rfl) (⟨cx, c0⟩) (fun hHeld => ?_)
          refine wpAnyH_take (i := 0) (v := ?vc0) rfl (by kernel_rfl) (by kernel_rfl) (by kernel_rfl) (fun _ _ _ h => h) (Or.inl ⟨by first | kernel_rfl | rfl, ?yc0⟩) hHeld ?rc0
          case yc0 => (intro W hSW; (try dsimp only at hSW); go_simp; (try with_reducible rfl))
          change wpAnyH _ _ _ _ _ _ _ (Act.put _ (some 20) _) _
          simp only [Act.put, List.setIfInBounds_toArray, List.set_cons_zero, List.set_cons_succ]
          refine wpAnyH_take (i := 1) (v := ?vc1) rfl (by kernel_rfl) (by kernel_rfl) (by kernel_rfl) (fun _ _ _ h => h) (Or.inl ⟨by first | kernel_rfl | rfl, ?yc1⟩) hHeld ?rc1
          case yc1 => (intro W hSW; (try dsimp only at hSW); go_simp; (try with_reducible rfl))
          change wpAnyH _ _ _ _ _ _ _ (Act.put _ (some 21) _) _
          simp only [Act.put, List.setIfInBounds_toArray, List.set_cons_zero, List.set_cons_succ]
          refine wpAnyH_take (i := 2) (v := ?vc2) rfl (by kernel_rfl) (by kernel_rfl) (by kernel_rfl) (fun _ _ _ h => h) (Or.inl ⟨by first | kernel_rfl | rfl, ?yc2⟩) hHeld ?rc2
          case yc2 => (intro W hSW; (try dsimp only at hSW); go_simp; (try with_reducible rfl))
          change wpAnyH _ _ _ _ _ _ _ (Act.put _ (some 22) _) _
          simp only [Act.put, List.setIfInBounds_toArray, List.set_cons_zero, List.set_cons_succ]
          refine wpAnyH_take (i := 3) (v := ?vc3) rfl (by kernel_rfl) (by kernel_rfl) (by kernel_rfl) (fun _ _ _ h => h) (Or.inl ⟨by first | kernel_rfl | rfl, ?yc3⟩) hHeld ?rc3
          case yc3 => (intro W hSW; (try dsimp only at hSW); go_simp; (try with_reducible rfl))
          change wpAnyH _ _ _ _ _ _ _ (Act.put _ (some 23) _) _
          simp only [Act.put, List.setIfInBounds_toArray, List.set_cons_zero, List.set_cons_succ]
          refine wpAnyH_take (i := 4) (v := ?vc4) rfl (by kernel_rfl) (by kernel_rfl) (by kernel_rfl) (fun _ _ _ h => h) (Or.inl ⟨by first | kernel_rfl | rfl, ?yc4⟩) hHeld ?rc4
          case yc4 => (intro W hSW; (try dsimp only at hSW); go_simp; (try with_reducible rfl))
          change wpAnyH _ _ _ _ _ _ _ (Act.put _ (some 24) _) _
          simp only [Act.put, List.setIfInBounds_toArray, List.set_cons_zero, List.set_cons_succ]
          refine wpAnyH_take (i := 5) (v := ?vc5) rfl (by kernel_rfl) (by kernel_rfl) (by kernel_rfl) (fun _ _ _ h => h) (Or.inl ⟨by first | kernel_rfl | rfl, ?yc5⟩) hHeld ?rc5
          case yc5 => (intro W hSW; (try dsimp only at hSW); go_simp; (try with_reducible rfl))
          change wpAnyH _ _ _ _ _ _ _ (Act.put _ (some 25) _) _
          simp only [Act.put, List.setIfInBounds_toArray, List.set_cons_zero, List.set_cons_succ]
          refine wpAnyH_take (i := 6) (v := ?vc6) rfl (by kernel_rfl) (by kernel_rfl) (by kernel_rfl) (fun _ _ _ h => h) (Or.inl ⟨by first | kernel_rfl | rfl, ?yc6⟩) hHeld ?rc6
          case yc6 => (intro W hSW; (try dsimp only at hSW); go_simp; (try with_reducible rfl))
          change wpAnyH _ _ _ _ _ _ _ (Act.put _ (some 26) _) _
          simp only [Act.put, List.setIfInBounds_toArray, List.set_cons_zero, List.set_cons_succ]
          refine wpAnyH_take (i := 7) (v := ?vc7) rfl (by kernel_rfl) (by kernel_rfl) (by kernel_rfl) (fun _ _ _ h => h) (Or.inl ⟨by first | kernel_rfl | rfl, ?yc7⟩) hHeld ?rc7
          case yc7 => (intro W hSW; (try dsimp only at hSW); go_simp; (try with_reducible rfl))
          change wpAnyH _ _ _ _ _ _ _ (Act.put _ (some 27) _) _
          simp only [Act.put, List.setIfInBounds_toArray, List.set_cons_zero, List.set_cons_succ]
          refine wpAnyH_take (i := 8) (v := ?vc8) rfl (by kernel_rfl) (by kernel_rfl) (by kernel_rfl) (fun _ _ _ h => h) (Or.inl ⟨by first | kernel_rfl | rfl, ?yc8⟩) hHeld ?rc8
          case yc8 => (intro W hSW; (try dsimp only at hSW); go_simp; (try with_reducible rfl))
          change wpAnyH _ _ _ _ _ _ _ (Act.put _ (some 28) _) _
          simp only [Act.put, List.setIfInBounds_toArray, List.set_cons_zero, List.set_cons_succ]
          refine wpAnyH_take (i := 9) (v := ?vc9) rfl (by kernel_rfl) (by kernel_rfl) (by kernel_rfl) (fun _ _ _ h => h) (Or.inl ⟨by first | kernel_rfl | rfl, ?yc9⟩) hHeld ?rc9
          case yc9 => (intro W hSW; (try dsimp only at hSW); go_simp; (try with_reducible rfl))
          change wpAnyH _ _ _ _ _ _ _ (Act.put _ (some 29) _) _
          simp only [Act.put, List.setIfInBounds_toArray, List.set_cons_zero, List.set_cons_succ]
          refine wpAnyH_take (i := 10) (v := ?vc10) rfl (by kernel_rfl) (by kernel_rfl) (by kernel_rfl) (fun _ _ _ h => h) (Or.inl ⟨by first | kernel_rfl | rfl, ?yc10⟩) hHeld ?rc10
          case yc10 => (intro W hSW; (try dsimp only at hSW); go_simp; (try with_reducible rfl))
          change wpAnyH _ _ _ _ _ _ _ (Act.put _ (some 30) _) _
          simp only [Act.put, List.setIfInBounds_toArray, List.set_cons_zero, List.set_cons_succ]
          refine wpAnyH_take (i := 11) (v := ?vc11) rfl (by kernel_rfl) (by kernel_rfl) (by kernel_rfl) (fun _ _ _ h => h) (Or.inl ⟨by first | kernel_rfl | rfl, ?yc11⟩) hHeld ?rc11
          case yc11 => (intro W hSW; (try dsimp only at hSW); go_simp; (try with_reducible rfl))
          change wpAnyH _ _ _ _ _ _ _ (Act.put _ (some 31) _) _
          simp only [Act.put, List.setIfInBounds_toArray, List.set_cons_zero, List.set_cons_succ]
          refine wpAnyH_take (i := 12) (v := ?vc12) rfl (by kernel_rfl) (by kernel_rfl) (by kernel_rfl) (fun _ _ _ h => h) (Or.inl ⟨by first | kernel_rfl | rfl, ?yc12⟩) hHeld ?rc12
          case yc12 => (intro W hSW; (try dsimp only at hSW); go_simp; (try with_reducible rfl))
          change wpAnyH _ _ _ _ _ _ _ (Act.put _ (some 32) _) _
          simp only [Act.put, List.setIfInBounds_toArray, List.set_cons_zero, List.set_cons_succ]
          refine wpAnyH_take (i := 13) (v := ?vc13) rfl (by kernel_rfl) (by kernel_rfl) (by kernel_rfl) (fun _ _ _ h => h) (Or.inl ⟨by first | kernel_rfl | rfl, ?yc13⟩) hHeld ?rc13
          case yc13 => (intro W hSW; (try dsimp only at hSW); go_simp; (try with_reducible rfl))
          change wpAnyH _ _ _ _ _ _ _ (Act.put _ (some 33) _) _
          simp only [Act.put, List.setIfInBounds_toArray, List.set_cons_zero, List.set_cons_succ]
          refine wpAnyH_take (i := 14) (v := ?vc14) rfl (by kernel_rfl) (by kernel_rfl) (by kernel_rfl) (fun _ _ _ h => h) (Or.inl ⟨by first | kernel_rfl | rfl, ?yc14⟩) hHeld ?rc14
          case yc14 => (intro W hSW; (try dsimp only at hSW); go_simp; (try with_reducible rfl))
          change wpAnyH _ _ _ _ _ _ _ (Act.put _ (some 34) _) _
          simp only [Act.put, List.setIfInBounds_toArray, List.set_cons_zero, List.set_cons_succ]
          refine wpAnyH_take (i := 15) (v := ?vc15) rfl (by kernel_rfl) (by kernel_rfl) (by kernel_rfl) (fun _ _ _ h => h) (Or.inl ⟨by first | kernel_rfl | rfl, ?yc15⟩) hHeld ?rc15
          case yc15 => (intro W hSW; (try dsimp only at hSW); go_simp; (try with_reducible rfl))
          change wpAnyH _ _ _ _ _ _ _ (Act.put _ (some 35) _) _
          simp only [Act.put, List.setIfInBounds_toArray, List.set_cons_zero, List.set_cons_succ]
          refine wpAnyH_take (i := 16) (v := ?vc16) rfl (by kernel_rfl) (by kernel_rfl) (by kernel_rfl) (fun _ _ _ h => h) (Or.inl ⟨by first | kernel_rfl | rfl, ?yc16⟩) hHeld ?rc16
          case yc16 => (intro W hSW; (try dsimp only at hSW); go_simp; (try with_reducible rfl))
          change wpAnyH _ _ _ _ _ _ _ (Act.put _ (some 36) _) _
          simp only [Act.put, List.setIfInBounds_toArray, List.set_cons_zero, List.set_cons_succ]
          refine wpAnyH_take (i := 17) (v := ?vc17) rfl (by kernel_rfl) (by kernel_rfl) (by kernel_rfl) (fun _ _ _ h => h) (Or.inl ⟨by first | kernel_rfl | rfl, ?yc17⟩) hHeld ?rc17
          case yc17 => (intro W hSW; (try dsimp only at hSW); go_simp; (try with_reducible rfl))
          change wpAnyH _ _ _ _ _ _ _ (Act.put _ (some 37) _) _
          simp only [Act.put, List.setIfInBounds_toArray, List.set_cons_zero, List.set_cons_succ]
          refine wpAnyH_take (i := 18) (v := ?vc18) rfl (by kernel_rfl) (by kernel_rfl) (by kernel_rfl) (fun _ _ _ h => h) (Or.inl ⟨by first | kernel_rfl | rfl, ?yc18⟩) hHeld ?rc18
          case yc18 => (intro W hSW; (try dsimp only at hSW); go_simp; (try with_reducible rfl))
          change wpAnyH _ _ _ _ _ _ _ (Act.put _ (some 38) _) _
          simp only [Act.put, List.setIfInBounds_toArray, List.set_cons_zero, List.set_cons_succ]
          refine wpAnyH_done (by kernel_rfl) ?_ _
          go_wp2
          go_ret2
          exact ⟨none, 0, 0, [], false, rfl, Rw.zero _ _ _ _ _ _ (by unfold maxLen; omega), by simp [szL], .inr ⟨rfl, HNO.out⟩, (HB.out.trans (HV1.out.mono hBwr)).drew⟩
      · have hpr := HP2.out
        rw [hfn] at hpr
        have HNO : Hid (R = none) := hpr.symm
        clear HFI hfn hpr hB1 r1 hB01 hV
        go_wp2
        go_region
        go_wp2
        go_ret2
        exact ⟨none, 0, 0, [], false, rfl, Rw.zero _ _ _ _ _ _ (by unfold maxLen; omega), by simp [szL], .inr ⟨rfl, HNO.out⟩, (HB.out.trans (HV1.out.mono hBwr)).drew⟩
end Go.Proofs.YtnafalkcgghjgaaGreatDoor
