/- The walk over NumOwn. -/
import Derived.Test.YtbomopjngpnghabB
namespace Go.Proofs.Ytbomopjngpnghab
open Go.RowKit

theorem block_of_own {w : World} {base g n : Nat} {xs : List Value} (h : w.ownsRow base 5 1 (.slice (some ⟨g, 0, none⟩) n n) n xs) : w.heap[g]? = some (.cells xs.toArray 5 (0, 0)) := by
  rcases h.2 with ⟨e, _⟩ | ⟨g', cap', cur, e, _, hg, _, _, hcs, ht⟩
  · cases e
  · cases e
    rw [hg, ← ht, List.take_of_length_le (by simp; omega)]
theorem made_room (len : Nat) (bs : List UInt8) (h : bs.length = len) : splice (madeCells #[Value.int .u8 0] (len + 64)).toList 0 (bytesV bs) = (toInts (bs ++ List.replicate 64 0)).map (Value.int .u8) := by
  rw [toList_madeCells_one]
  simp only [splice, List.take_zero, List.nil_append, Nat.zero_add, bytesV_len, List.drop_replicate]
  rw [h, show len + 64 - len = 64 by omega]
  simp [bytesV, toInts]

theorem text_ab : textN [97, 98] = [2, 97, 98] := by
  unfold textN
  rw [show ([97, 98] : List UInt8).length = 2 from rfl, putN_small (by decide)]
  rfl

theorem put300 (a : Option Addr) (len cap : Nat) (bs : List UInt8) (w : World) (h : Bs w a len cap bs) (hb : len ≤ 900000) :
    Calls Try.prog 6 #[.slice a len cap, .int .u64 300] w fun e w' => ∃ g, e = .returned (.slice (some ⟨g, 0, none⟩) (len + 2) (len + 2)) ∧ Bs w' (some ⟨g, 0, none⟩) (len + 2) (len + 2) (bs ++ [172, 2]) ∧ Below w.heap.size w w' ∧ w.heap.size ≤ g := by
  refine (put_any a len cap bs 300 w h hb (by omega)).mono ?_
  rw [putN_300]
  rintro e w' ⟨rfl, h1, h2⟩
  exact ⟨_, rfl, Bs.owned h1, h2, Nat.le_refl _⟩

theorem Bs.kept {w w' : World} {g r len cap : Nat} {bs : List UInt8} (h : Bs w (some ⟨g, 0, none⟩) len cap bs) (hg : w.grownBy w' (some r)) (hr : g ≠ r) : Bs w' (some ⟨g, 0, none⟩) len cap bs :=
  h.grown hg (by intro k hk ad had; cases hk; cases had; exact hr)
theorem Ss.kept {w w' : World} {a : Option Addr} {len cap r : Nat} {ss : List ByteArray} (h : Ss w a len cap ss) (hg : w.grownBy w' (some r)) (hr : ∀ ad, a = some ad → ad.block ≠ r) : Ss w' a len cap ss := by
  refine ⟨h.1, h.2.1, h.2.2.1, h.2.2.2.1, fun ad had i hi => hg.cell (h.2.2.2.2 ad had i hi) ?_⟩
  have e : (ad.add i).block = ad.block := by unfold Addr.add; split <;> rfl
  rw [e]
  simpa using hr ad had
theorem Bs.blk {w : World} {g len cap : Nat} {bs : List UInt8} (h : Bs w (some ⟨g, 0, none⟩) len cap bs) (h0 : 0 < len) : g < w.heap.size := by
  have := World.block_lt_of_cell? w _ (h.2.2.2.2 _ rfl 0 (by have := h.1; omega))
  simpa [Addr.add] using this
theorem strs_back (ss : List ByteArray) : (ss.map (·.data.toList)).map strOf = ss := by
  rw [List.map_map]
  conv => rhs; rw [← List.map_id ss]
  apply List.map_congr_left
  intro s _
  simp [strOf]
theorem spare_zero (bs : List UInt8) (k : Nat) (h1 : bs.length ≤ k) (h2 : k < (toInts (bs ++ List.replicate 64 0)).length) : (toInts (bs ++ List.replicate 64 0))[k] = 0 := by
  simp only [toInts, List.getElem_map]
  rw [List.getElem_append_right h1, List.getElem_replicate]
  rfl

set_option maxRecDepth 100000 in
set_option maxHeartbeats 1000000 in
theorem numOwn_walk (a : Option Addr) (len cap : Nat) (bs : List UInt8) (la : Option Addr) (ln lc : Nat) (ss : List ByteArray) (w : World) (h : Bs w a len cap bs) (h' : Ss w la ln lc ss) (hs : ∀ i (h : i < ss.length), (ss[i]).size ≤ 140737488351232) :
    Calls Try.prog 3 #[.slice a len cap, .slice la ln lc] w fun e w' => e = .returned (.bool true) ∧ Below w.heap.size w w' := by
  have hlm : len ≤ 9223372036854775807 := Nat.le_trans h.2.1 h.2.2.1
  by_cases hy : len ≤ 20000 ∧ ln ≤ 300 ∧ tot ss ≤ 20000
  · obtain ⟨T, hT⟩ : ∃ T, (listN ss).length = T := ⟨_, rfl⟩
    have HT : Hid ((listN ss).length = T) := hT
    have h20 : len ≤ 20000 := hy.1
    have hTb : T ≤ 30000 := by
      have h1 := flatN_le ss (by omega)
      have h2 := h'.1
      have h3 := putN_le10 ss.length (by omega)
      simp only [listN, List.length_append] at hT
      omega
    have HBL : Hid (bs.length = len) := h.1
    have HA : Hid (Bs w a len cap bs) := h
    have HL : Hid (Ss w la ln lc ss) := h'
    have HY : Hid (len ≤ 20000 ∧ ln ≤ 300 ∧ tot ss ≤ 20000) := hy
    obtain ⟨i0, hi, hz0, hz1, hz2⟩ := info_parts info5
    have hsz5 : (Try.prog.info? 5).map (·.size) = some 1 := by kernel_rfl
    clear hT h h' hy hs
    go_enter Try.func3, Try.ntmps3
    go_wp2_with fail
    refine (small_gen_yes _ _ _ _ _ _ ss _ HL.out HY.out).mono ?_
    rintro e w' ⟨rfl, hw⟩
    subst w'
    go_wp2_with (at_make; refine wpList_make_full _ rfl _ _ 22 rfl w.heap.size 5 i0 (.int .u8 0) 1 Try.underlying22 hi hz0 hz1 _ _ _ _ (len + 64) rfl rfl (by omega) (by omega) (by rw [hz2]; omega) (by unfold maxLen; omega) (Nat.le_refl _) ?_)
    intro w1 hown1 hgrow1
    have hR1 : w1.heap[w.heap.size]? = some (.cells (madeCells #[Value.int .u8 0] (len + 64)).toList.toArray 5 (0, 0)) := block_of_own (by simpa using hown1)
    have hbel1 : Below w.heap.size w w1 := (Below.refl _ _).grown hgrow1 (Nat.le_refl _) (by simp)
    have hA1 := HA.out.below hbel1
    have hml : (madeCells #[Value.int .u8 0] (len + 64)).toList.length = len + 64 := by rw [toList_madeCells_one]; simp
    have HR1 : Hid (w1.heap[w.heap.size]? = some (.cells (madeCells #[Value.int .u8 0] (len + 64)).toList.toArray 5 (0, 0))) := hR1
    have HML : Hid ((madeCells #[Value.int .u8 0] (len + 64)).toList.length = len + 64) := hml
    have HB1 : Hid (Below w.heap.size w w1) := hbel1
    clear hown1 hgrow1 hR1 hml hbel1
    go_wp2_with (refine wpList_copy_splice rfl (.tmp 25) (.tmp 26) 22 22 rfl 5 Try.underlying22 hsz5 _ a (len + 64) (len + 64) len cap rfl rfl w.heap.size 0 _ 5 HR1.out (bytesV bs) (by rw [bytesV_len, HBL.out]; exact (Nat.min_eq_left (by omega)).symm) (fun h0 => ⟨rfl, by obtain ⟨b, off, e, _⟩ := hA1.at (by rw [bytesV_len, HBL.out] at h0; exact h0); exact ⟨_, e, hA1.cells _ e⟩⟩) (by rw [bytesV_len, HBL.out, HML.out]; omega) (bytesV_one bs) w.heap.size w HB1.out (Nat.le_refl _) ?_)
    intro w2 hR2 hb2
    have hRow : Row w2 w.heap.size (toInts (bs ++ List.replicate 64 0)) := by unfold Row; rw [hR2.out, made_room len bs HBL.out]
    have hZl : (toInts (bs ++ List.replicate 64 0)).length = len + 64 := by rw [int_len]; simp [HBL.out]
    have hM : Bs w2 (some ⟨w.heap.size, 0, none⟩) len (len + 64) bs := by
      have := hRow.bs (by simp; have := HBL.out; omega)
      simpa [HBL.out] using this
    have HRow : Hid (Row w2 w.heap.size (toInts (bs ++ List.replicate 64 0))) := hRow
    have HZ : Hid ((toInts (bs ++ List.replicate 64 0)).length = len + 64) := hZl
    have HW2 : Hid (Below w.heap.size w w2) := hb2
    have HM : Hid (Bs w2 (some ⟨w.heap.size, 0, none⟩) len (len + 64) bs) := hM
    clear hR2 hRow hZl hA1 HR1 HML HB1 hb2 hM
    go_wp2_with fail
    refine (put300 _ len (len + 64) bs _ HM.out (by omega)).mono ?_
    rintro e w3 ⟨g1, rfl, ho3, hb3, hl3⟩
    go_wp2_with fail
    refine (ptext_any _ len (len + 64) bs ⟨#[97, 98]⟩ _ (HM.out.below hb3) (by omega) (by decide) 3 (by rw [show (⟨#[97, 98]⟩ : ByteArray).data.toList = [97, 98] from rfl, text_ab]; rfl)).mono ?_
    rintro e w4 ⟨g2, rfl, ho4, hb4, hl4⟩
    go_wp2_with fail
    refine (plist_any _ len (len + 64) bs la ln lc ss _ ((HM.out.below hb3).below hb4) (by omega) (((HL.out.on' HW2.out).on' hb3).on' hb4) HY.out.2.1 HY.out.2.2 T HT.out).mono ?_
    rintro e w5 ⟨g3, rfl, ho5, hb5⟩
    go_wp2_with fail
    have hRow5 := ((HRow.out.on hb3).on hb4).on hb5
    have hT3 : Row w5 g3 (toInts (bs ++ listN ss)) := Row.ofOwn ho5
    have hB3 := Bs.owned ho5
    have hg3 := (ho5.lt g3 rfl)
    have hO1 := (ho3.below hb4).below hb5
    have hO2 := ho4.below hb5
    have hg1 := ho3.blk (by omega)
    have hg2 := ho4.blk (by omega)
    have HW5 := below_on hb5 (below_on hb4 (below_on hb3 HW2.out HW2.out.size) (Nat.le_trans HW2.out.size hb3.size)) (Nat.le_trans HW2.out.size (Nat.le_trans hb3.size hb4.size))
    have hs2 := HRow.out.lt
    have hs3 := hb3.size
    have hs4 := hb4.size
    have hs5 := hb5.size
    have hn1 : g1 ≠ w.heap.size ∧ g1 ≠ g3 ∧ g2 ≠ w.heap.size ∧ g2 ≠ g3 ∧ w.heap.size ≠ g3 ∧ w.heap.size ≤ g3 := by omega
    have HG : Hid (g1 ≠ w.heap.size ∧ g1 ≠ g3 ∧ g2 ≠ w.heap.size ∧ g2 ≠ g3 ∧ w.heap.size ≠ g3 ∧ w.heap.size ≤ g3) := hn1
    have hg5 : g3 < w5.heap.size := hg3.2
    have HR5 : Hid (Row w5 w.heap.size (toInts (bs ++ List.replicate 64 0))) := hRow5
    have HT5 : Hid (Row w5 g3 (toInts (bs ++ listN ss))) := hT3
    have H35 : Hid (Bs w5 (some ⟨g3, 0, none⟩) (len + T) (len + T) (bs ++ listN ss)) := hB3
    have H15 : Hid (Bs w5 (some ⟨g1, 0, none⟩) (len + 2) (len + 2) (bs ++ [172, 2])) := hO1
    have H25 : Hid (Bs w5 (some ⟨g2, 0, none⟩) (len + 3) (len + 3) (bs ++ textN [97, 98])) := hO2
    have H5 : Hid (Below w.heap.size w w5) := HW5
    clear hRow5 hT3 hB3 hg3 hO1 hO2 hg1 hg2 HW5 hs2 hs3 hs4 hs5 hn1 ho3 ho4 ho5 hb3 hb4 hb5 hl3 hl4 HRow HM HW2
    go_loop [10] (fun i => ∃ k : Nat, len ≤ k ∧ k ≤ len + 64 ∧ i = .int .i64 k) (fun i => len + 64 - (intOf i).toNat)
    case atStart => exact ⟨len, by omega, by omega, rfl⟩
    case round =>
      obtain ⟨k, hk1, hk2, rfl⟩ := hrel
      by_cases hk : k < len + 64
      · have hc : w5.cell? ⟨w.heap.size, k, none⟩ = some (.int .u8 0) := by
          have hlt : k < (toInts (bs ++ List.replicate 64 0)).length := by rw [HZ.out]; exact hk
          rw [HR5.out.cell k hlt, spare_zero bs k (by rw [HBL.out]; exact hk1) hlt]
        go_wp2
        go_round
        case rel => exact ⟨k + 1, by omega, by omega, by go_num⟩
        case measure => simp [intOf]; omega
      · go_wp2_with fail
        go_loopw [11] (fun i wr => ∃ (j : Nat) (zs : List Int), j ≤ len + 64 ∧ i = .int .i64 j ∧ zs.length = len + 64 ∧ Row wr w.heap.size zs ∧ w5.grownBy wr (some w.heap.size)) (fun i _ => len + 64 - (intOf i).toNat)
        case atStart => exact ⟨0, _, by omega, rfl, HZ.out, HR5.out, World.grownBy.refl _ _⟩
        case round =>
          obtain ⟨j, zs, hj, rfl, hzl, hrow, hgr⟩ := hrel
          have HZL : Hid (zs.length = len + 64) := hzl
          clear hzl
          by_cases hjl : j < len + 64
          · have hlt : j < zs.length := by rw [HZL.out]; exact hjl
            have hc := hrow.cell j hlt
            have hf := hrow.free j
            obtain ⟨z, hz⟩ : ∃ z, z = zs[j] := ⟨_, rfl⟩
            rw [← hz] at hc
            clear hz
            go_wp2
            go_roundw
            case rel => exact ⟨j + 1, zs.set j _, by omega, by go_num, by simp [HZL.out], hrow.set j _, grownBy_trans hgr (grownBy_setCell _ _ _ _)⟩
            case measure => simp [intOf]; omega
          · go_wp2_with fail
            have HW6 : Below w.heap.size w wr := H5.out.grown hgr (Nat.le_of_lt (Nat.lt_of_le_of_lt HG.out.2.2.2.2.2 hg5)) (by intro k hk; cases hk; exact Nat.le_refl _)
            have hB6 := H35.out.kept hgr HG.out.2.2.2.2.1.symm
            have hT6 := HT5.out.kept hgr HG.out.2.2.2.2.1.symm
            have hO1 := H15.out.kept hgr HG.out.1
            have hO2 := H25.out.kept hgr HG.out.2.2.1
            have hg6 : g3 < wr.heap.size := Nat.lt_of_lt_of_le hg5 hgr.size
            have hrd : listAt (bs ++ listN ss) (len : Int) 300 20000 = (ss.map (·.data.toList), ((len + T : Nat) : Int), 0) := by
              have := listAt_back bs ss (by rw [HL.out.1]; exact HY.out.2.1) (fun i hi => Nat.le_trans (size_le_tot ss i hi) HY.out.2.2)
              rw [HBL.out, HT.out] at this
              exact this
            refine (glist_any _ (len + T) (len + T) (bs ++ listN ss) len 300 20000 _ _ 0 hrd _ hB6 (by omega) (by omega) (by omega) (by omega)).mono ?_
            rintro e w7 ⟨la1, n1, c1, rfl, hx7, hb7, hnew⟩
            rw [strs_back] at hx7
            have HW7 := below_on hb7 HW6 HW6.size
            have hT7 := hT6.on hb7
            have hO17 := hO1.below hb7
            have hO27 := hO2.below hb7
            have hne : ∀ ad, la1 = some ad → ad.block ≠ g3 := fun ad h => by have := hnew ad h; omega
            have H7 : Hid (Below w.heap.size w w7) := HW7
            have HT7 : Hid (Row w7 g3 (toInts (bs ++ listN ss))) := hT7
            have H17 : Hid (Bs w7 (some ⟨g1, 0, none⟩) (len + 2) (len + 2) (bs ++ [172, 2])) := hO17
            have H27 : Hid (Bs w7 (some ⟨g2, 0, none⟩) (len + 3) (len + 3) (bs ++ textN [97, 98])) := hO27
            have HX7 : Hid (Ss w7 la1 n1 c1 ss) := hx7
            have HNE : Hid (∀ ad, la1 = some ad → ad.block ≠ g3) := hne
            have HTL : Hid ((toInts (bs ++ listN ss)).length = len + T) := by rw [int_len, List.length_append, HBL.out, HT.out]; rfl
            clear HW6 hB6 hT6 hO1 hO2 hg6 hrd hx7 hb7 hnew HW7 hT7 hO17 hO27 hne hrow hgr hjl HR5 HT5 H35 H15 H25 HZ HZL
            go_wp2_with fail
            go_loopw [15] (fun i wr => ∃ (j : Nat) (zs : List Int), j ≤ len + T ∧ i = .int .i64 j ∧ zs.length = len + T ∧ Row wr g3 zs ∧ w7.grownBy wr (some g3)) (fun i _ => len + T - (intOf i).toNat)
            case atStart => exact ⟨0, _, by omega, rfl, HTL.out, HT7.out, World.grownBy.refl _ _⟩
            case round =>
              obtain ⟨j, zs, hj, rfl, hzl, hrow, hgr⟩ := hrel
              have HZL : Hid (zs.length = len + T) := hzl
              clear hzl
              by_cases hjl : j < len + T
              · have hlt : j < zs.length := by rw [HZL.out]; exact hjl
                have hc := hrow.cell j hlt
                have hf := hrow.free j
                obtain ⟨z, hz⟩ : ∃ z, z = zs[j] := ⟨_, rfl⟩
                rw [← hz] at hc
                clear hz
                go_wp2
                go_roundw
                case rel => exact ⟨j + 1, zs.set j _, by omega, by go_num, by simp [HZL.out], hrow.set j _, grownBy_trans hgr (grownBy_setCell _ _ _ _)⟩
                case measure => simp [intOf]; omega
              · have HW8 : Below w.heap.size w wr := H7.out.grown hgr H7.out.size (by intro k hk; cases hk; exact HG.out.2.2.2.2.2)
                have hv0 := (HA.out.below HW8).str
                have hv1 := (H17.out.kept hgr HG.out.2.1).str
                have hv2 := (H27.out.kept hgr HG.out.2.2.2.1).str
                rw [strOf_append] at hv1 hv2
                rw [text_ab] at hv2
                have hx8 := HX7.out.kept hgr HNE.out
                have hl8 := HL.out.on' HW8
                have hz1 : (strOf bs).size ≤ 20000 := by rw [strOf_size, HBL.out]; omega
                have hif1 : ¬ (9223372036854775807 < (strOf bs).size + (⟨#[172, 2]⟩ : ByteArray).size) := by
                  have : (⟨#[172, 2]⟩ : ByteArray).size = 2 := rfl
                  omega
                have hif2 : ¬ (9223372036854775807 < (strOf bs).size + (⟨#[2, 97, 98]⟩ : ByteArray).size) := by
                  have : (⟨#[2, 97, 98]⟩ : ByteArray).size = 3 := rfl
                  omega
                have hk1 : strOf [172, 2] = ⟨#[172, 2]⟩ := rfl
                have hk2 : strOf [2, 97, 98] = ⟨#[2, 97, 98]⟩ := rfl
                rw [hk1] at hv1
                rw [hk2] at hv2
                clear hk1 hk2 hrow hgr
                go_wp2_with (first
                  | (go_at_call 10; refine (same_any _ _ _ _ _ _ ss _ hx8 hl8).mono ?_; rintro e w9 ⟨rfl, hb9⟩; have HW9 := below_on hb9 HW8 HW8.size)
                  | (go_at_call 5; refine (lives_any _).mono ?_; rintro e w10 ⟨rfl, hb10⟩))
                go_ret
                exact ⟨rfl, below_on hb10 HW9 HW9.size⟩
  · go_enter Try.func3, Try.ntmps3
    go_wp2_with fail
    refine (small_gen_no _ _ _ _ _ _ ss _ hlm h' hs hy).mono ?_
    rintro e w' ⟨rfl, hw⟩
    subst w'
    go_wp2_with (go_at_call 5; refine (lives_any _).mono ?_; rintro e w' ⟨rfl, hbel⟩)
    go_ret
    exact ⟨rfl, hbel⟩
end Go.Proofs.Ytbomopjngpnghab
