/- Walks over the program's Good, Place, Parts and Above. Walks over strings.HasPrefix, and over the program's Covers, Meet and Moved. Walks over the program's Meet and Moved, and over the statements' short and lives. -/
import Derived.Test.YtcmdcmbiilfngabDoorPC
namespace Go.Proofs.YtcmdcmbiilfngabDoor.Pt
open Go.RowKit
theorem good_long (s : ByteArray) (h : ¬ s.size ≤ 32) : goodL s.data.toList = false := by
  unfold goodL
  rw [len_size]
  simp [h]
set_option maxHeartbeats 400000 in
theorem good_out (s : ByteArray) (w : World) (hs : s.size ≤ 9223372036854775807) (h : ¬ s.size ≤ 32) :
    Calls Tryd.prog 54 #[.string s] w fun e w' => e = .returned (.bool false) ∧ w' = w := by
  have k : (32 : Int) < (s.size : Int) := by omega
  go_enter Tryd.func54, Tryd.ntmps54
  go_wp2
  go_ret
  exact ⟨rfl, rfl⟩
theorem all_snoc (L : List (List UInt8)) (k : Nat) (h : k < L.length) : (L.take (k + 1)).all nameL = ((L.take k).all nameL && nameL L[k]) := by
  rw [List.take_succ_eq_append_getElem h, List.all_append]
  simp
theorem all_no (L : List (List UInt8)) (k : Nat) (h : k < L.length) (hn : nameL L[k] = false) : L.all nameL = false := by
  rw [List.all_eq_false]
  exact ⟨L[k], List.getElem_mem h, by simp [hn]⟩
set_option maxRecDepth 100000 in
set_option maxHeartbeats 1000000 in
theorem good_in (s : ByteArray) (w : World) (h : s.size ≤ 32) :
    Calls Tryd.prog 54 #[.string s] w fun e w' => e = .returned (.bool (goodL s.data.toList)) ∧ Below w.heap.size w w' := by
  have HSP := split_any s w (by omega)
  have HG : Hid (goodL s.data.toList = (cutL s.data.toList).all nameL) := by
    show _ = _
    unfold goodL
    rw [len_size]
    simp [h]
  have HSZ : Hid (∀ x ∈ cutL s.data.toList, x.length ≤ 32) := fun x hx => by have := cut_sizes _ _ hx; rw [len_size] at this; omega
  have hN0 : 0 < (cutL s.data.toList).length := List.length_pos_iff.2 (cutL_ne _)
  have hN1 : (cutL s.data.toList).length ≤ 33 := by have := cut_count s.data.toList; rw [len_size] at this; omega
  have k32 : ¬ (32 : Int) < (s.size : Int) := by omega
  generalize cutL s.data.toList = L at *
  generalize goodL s.data.toList = G at *
  obtain ⟨N, hN⟩ : ∃ N, L.length = N := ⟨_, rfl⟩
  rw [hN] at HSP hN0 hN1
  have HL : Hid (L.length = N) := hN
  clear hN
  go_enter Tryd.func54, Tryd.ntmps54
  go_wp2_with fail
  refine HSP.mono ?_
  rintro e w2 ⟨a, cap, rfl, hss, hb2⟩
  obtain ⟨b, off, rfl, hcell⟩ := hss.at hN0
  have HCE : Hid (∀ i (h : i < L.length), w2.cell? ⟨b, off + i, none⟩ = some (.string (strOf L[i]))) := by
    intro i hi
    have := hcell i (by simpa using hi)
    simpa using this
  clear hcell hss HSP
  go_wp2_with fail
  go_loopw [11] (fun i wr => ∃ k : Nat, i = .int .i64 (k : Int) ∧ k ≤ N ∧ Below w2.heap.size w2 wr ∧ (L.take k).all nameL = true) (fun i _ => N - (intOf i).toNat)
  case atStart => exact ⟨0, rfl, by omega, Below.refl _ _, rfl⟩
  case round =>
    obtain ⟨k, rfl, hk, hbr, hall⟩ := hrel
    have HA : Hid ((L.take k).all nameL = true) := hall
    clear hall
    by_cases hlt : k < N
    · have hlt' : k < L.length := by rw [HL.out]; exact hlt
      have hc := HCE.out k hlt'
      have hcr : wr.cell? ⟨b, off + k, none⟩ = some (.string (strOf L[k])) := by rw [hbr.cell (World.block_lt_of_cell? w2 _ hc)]; exact hc
      have HNA := name_any (strOf L[k]) wr (by rw [strOf_size]; have := HSZ.out _ (List.getElem_mem hlt'); omega)
      rw [strOf_list] at HNA
      have HSN : Hid _ := all_snoc L k hlt'
      have HNO : Hid (nameL L[k] = false → L.all nameL = false) := all_no L k hlt'
      have hki : (k : Int) < (N : Int) := by omega
      generalize nameL L[k] = nb at HNA HSN HNO
      generalize strOf L[k] = x at HNA hcr
      clear hc
      cases nb with
      | true =>
        go_wp2_with (go_at_call 63; refine HNA.mono ?_; rintro e w3 ⟨rfl, hb3⟩)
        go_roundw
        case rel => exact ⟨k + 1, by go_num, by omega, hbr.trans (hb3.mono hbr.size), by rw [HSN.out, HA.out]; rfl⟩
        case measure => simp [intOf]; omega
      | false =>
        have HF : Hid (G = false) := by show _ = _; rw [HG.out, HNO.out rfl]
        clear HNO
        go_wp2_with (go_at_call 63; refine HNA.mono ?_; rintro e w3 ⟨rfl, hb3⟩)
        go_ret
        exact ⟨ret_bool HF.out.symm, hb2.trans ((hbr.trans (hb3.mono hbr.size)).mono hb2.size)⟩
    · have HE : Hid (G = true) := by
        show _ = _
        have := HA.out
        rw [List.take_of_length_le (by rw [HL.out]; omega)] at this
        rw [HG.out, this]
      go_wp2
      go_ret
      exact ⟨ret_bool HE.out.symm, hb2.trans (hbr.mono hb2.size)⟩
theorem good_any (s : ByteArray) (w : World) (hs : s.size ≤ 9223372036854775807) :
    Calls Tryd.prog 54 #[.string s] w fun e w' => e = .returned (.bool (goodL s.data.toList)) ∧ Below w.heap.size w w' := by
  by_cases h : s.size ≤ 32
  · exact good_in s w h
  · rw [good_long s h]
    refine (good_out s w hs h).mono ?_
    rintro e w' ⟨rfl, rfl⟩
    exact ⟨rfl, Below.refl _ _⟩
set_option maxHeartbeats 400000 in
theorem place_any (s : ByteArray) (w : World) (hs : s.size ≤ 9223372036854775807) :
    Calls Tryd.prog 38 #[.string s] w fun e w' => e = .returned (.bool (placeL s.data.toList)) ∧ Below w.heap.size w w' := by
  by_cases h : s.data.toList = []
  · obtain rfl : s = ⟨#[]⟩ := str_inj.1 h
    go_enter Tryd.func38, Tryd.ntmps38
    go_wp2
    go_ret
    exact ⟨rfl, Below.refl _ _⟩
  · have j0 := toList_nil h
    have j1 := toList_ne h
    have HG := good_any s w hs
    have HP : Hid (placeL s.data.toList = goodL s.data.toList) := by show _ = _; simp only [placeL, h, decide_false, Bool.false_or]
    generalize goodL s.data.toList = G at *
    go_enter Tryd.func38, Tryd.ntmps38
    go_wp2_with (go_at_call 54; refine HG.mono ?_; rintro e w3 ⟨rfl, hb3⟩)
    go_ret
    exact ⟨ret_bool HP.out.symm, hb3⟩
theorem parts_good {l : List UInt8} (h : goodL l = true) : partsL l = cutL l := by rw [partsL, if_pos h]
theorem parts_bad {l : List UInt8} (h : goodL l = false) : partsL l = [] := by rw [partsL, if_neg (by simp [h])]
theorem good_size {s : ByteArray} (h : goodL s.data.toList = true) : s.size ≤ 32 := by
  have := (good_iff.1 h).1
  rwa [len_size] at this
end Go.Proofs.YtcmdcmbiilfngabDoor.Pt
namespace Go.Proofs.YtcmdcmbiilfngabDoor.Pt
open Go.RowKit
set_option maxHeartbeats 400000 in
theorem hasPrefix_any (s p : ByteArray) (w : World) (_hs : s.size ≤ 9223372036854775807) (_hp : p.size ≤ 9223372036854775807) :
    Calls Tryd.prog 55 #[.string s, .string p] w fun e w' => e = .returned (.bool (p.data.toList.isPrefixOf s.data.toList)) ∧ w' = w := by
  by_cases hlt : p.size ≤ s.size
  · have hx := extract_str s 0 p.size
    have hb : ((s.extract 0 p.size).toList == p.toList) = p.data.toList.isPrefixOf s.data.toList := by
      rw [ByteArray.toList_eq, ByteArray.toList_eq, hx, strOf_list, List.drop_zero, Nat.sub_zero, Bool.eq_iff_iff, List.isPrefixOf_iff_prefix, beq_iff_eq, ← len_size, List.prefix_iff_eq_take]
      exact eq_comm
    generalize p.data.toList.isPrefixOf s.data.toList = b at *
    have q1 : (p.size : Int) ≤ (s.size : Int) := by omega
    clear hx
    go_enter Tryd.func55, Tryd.ntmps55
    go_wp2
    go_ret
    exact ⟨rfl, rfl⟩
  · have hb : p.data.toList.isPrefixOf s.data.toList = false := by
      cases h : p.data.toList.isPrefixOf s.data.toList with
      | false => rfl
      | true =>
        have := (List.isPrefixOf_iff_prefix.1 h).length_le
        rw [len_size, len_size] at this
        omega
    rw [hb]
    have q1 : ¬ (p.size : Int) ≤ (s.size : Int) := by omega
    go_enter Tryd.func55, Tryd.ntmps55
    go_wp2
    go_ret
    exact ⟨rfl, rfl⟩
theorem place_size {s : ByteArray} (h : placeL s.data.toList = true) : s.size ≤ 32 := by
  rcases place_iff.1 h with h | h
  · rw [← len_size, h]; simp
  · exact good_size h
theorem one_size : (⟨#[47]⟩ : ByteArray).size = 1 := rfl
theorem slash_str (s : ByteArray) : (s ++ (⟨#[47]⟩ : ByteArray)).data.toList = s.data.toList ++ [47] := by simp
set_option maxRecDepth 100000 in
set_option maxHeartbeats 1000000 in
theorem covers_any (a b : ByteArray) (w : World) (ha : a.size ≤ 9223372036854775807) (hb : b.size ≤ 9223372036854775807) :
    Calls Tryd.prog 39 #[.string a, .string b] w fun e w' => e = .returned (.bool (coversL a.data.toList b.data.toList)) ∧ Below w.heap.size w w' := by
  have HPA := place_any a w ha
  have HPB : Hid (∀ W, Below w.heap.size w W → Calls Tryd.prog 38 #[.string b] W fun e w' => e = .returned (.bool (placeL b.data.toList)) ∧ Below w.heap.size w w') := by
    intro W hW
    refine (place_any b W hb).mono ?_
    rintro e w' ⟨rfl, h⟩
    exact ⟨rfl, hW.trans (h.mono hW.size)⟩
  have HCV : Hid (coversL a.data.toList b.data.toList = (placeL a.data.toList && placeL b.data.toList && (decide (a.data.toList = []) || decide (a.data.toList = b.data.toList) || preB a.data.toList b.data.toList))) := rfl
  have hza := place_size (s := a)
  cases pa : placeL a.data.toList with
  | false =>
    rw [pa] at HPA HCV
    clear hza pa
    go_enter Tryd.func39, Tryd.ntmps39
    go_wp2_with (go_at_call 38; refine HPA.mono ?_; rintro e w3 ⟨rfl, hb3⟩)
    go_ret
    exact ⟨ret_bool (by rw [HCV.out]; rfl), hb3⟩
  | true =>
    replace hza := hza pa
    rw [pa] at HPA HCV
    clear pa
    cases pb : placeL b.data.toList with
    | false =>
      rw [pb] at HPB HCV
      clear pb
      go_enter Tryd.func39, Tryd.ntmps39
      go_wp2_with fail
      refine HPA.mono ?_
      rintro e w3 ⟨rfl, hb3⟩
      have HB3 := HPB.out w3 hb3
      go_wp2_with fail
      refine HB3.mono ?_
      rintro e w4 ⟨rfl, hb4⟩
      go_wp2
      go_ret
      exact ⟨ret_bool (by rw [HCV.out]; rfl), hb4⟩
    | true =>
      rw [pb] at HPB HCV
      clear pb
      by_cases h0 : a.data.toList = []
      · obtain rfl : a = ⟨#[]⟩ := str_inj.1 h0
        have HT : Hid (coversL (⟨#[]⟩ : ByteArray).data.toList b.data.toList = true) := by show _ = _; rw [HCV.out]; rfl
        clear h0 HCV
        go_enter Tryd.func39, Tryd.ntmps39
        go_wp2_with fail
        refine HPA.mono ?_
        rintro e w3 ⟨rfl, hb3⟩
        have HB3 := HPB.out w3 hb3
        go_wp2_with fail
        refine HB3.mono ?_
        rintro e w4 ⟨rfl, hb4⟩
        go_wp2
        go_ret
        exact ⟨ret_bool HT.out.symm, hb4⟩
      · have j0 := toList_nil h0
        have j1 := toList_ne h0
        by_cases he : a = b
        · subst he
          have HT : Hid (coversL a.data.toList a.data.toList = true) := by show _ = _; rw [HCV.out]; simp
          clear h0 HCV
          go_enter Tryd.func39, Tryd.ntmps39
          go_wp2_with fail
          refine HPA.mono ?_
          rintro e w3 ⟨rfl, hb3⟩
          have HB3 := HPB.out w3 hb3
          go_wp2_with fail
          refine HB3.mono ?_
          rintro e w4 ⟨rfl, hb4⟩
          go_wp2
          go_ret
          exact ⟨ret_bool HT.out.symm, hb4⟩
        · have j2 := str_nb he
          have j3 := str_ne he
          have HHP : Hid (∀ W, Calls Tryd.prog 55 #[.string b, .string (a ++ ⟨#[47]⟩)] W fun e w' => e = .returned (.bool (preB a.data.toList b.data.toList)) ∧ w' = W) := by
            intro W
            have := hasPrefix_any b (a ++ ⟨#[47]⟩) W hb (by rw [ByteArray.size_append, one_size]; omega)
            rwa [slash_str] at this
          have HT : Hid (coversL a.data.toList b.data.toList = preB a.data.toList b.data.toList) := by
            show _ = _
            have e1 : decide (a.data.toList = []) = false := decide_eq_false h0
            have e2 : decide (a.data.toList = b.data.toList) = false := decide_eq_false (fun e => he (str_inj.1 e))
            rw [HCV.out, e1, e2]
            rfl
          have hnov : ¬ (9223372036854775807 < a.size + 1) := by omega
          have hnov2 : ¬ (9223372036854775807 < a.size + (⟨#[47]⟩ : ByteArray).size) := by rw [one_size]; omega
          generalize preB a.data.toList b.data.toList = r at *
          clear h0 HCV he
          go_enter Tryd.func39, Tryd.ntmps39
          go_wp2_with fail
          refine HPA.mono ?_
          rintro e w3 ⟨rfl, hb3⟩
          have HB3 := HPB.out w3 hb3
          go_wp2_with fail
          refine HB3.mono ?_
          rintro e w4 ⟨rfl, hb4⟩
          go_wp2_with fail
          refine (HHP.out _).mono ?_
          rintro e w5 ⟨rfl, h⟩
          subst w5
          go_wp2
          go_ret
          exact ⟨ret_bool HT.out.symm, hb4⟩
end Go.Proofs.YtcmdcmbiilfngabDoor.Pt
namespace Go.Proofs.YtcmdcmbiilfngabDoor.Pt
open Go.RowKit
theorem covers_len {f p : List UInt8} (h : coversL f p = true) : f.length ≤ p.length := by
  rw [covers_iff] at h
  rcases h.2.2 with rfl | rfl | ⟨r, rfl⟩
  · simp
  · simp
  · simp
end Go.Proofs.YtcmdcmbiilfngabDoor.Pt
