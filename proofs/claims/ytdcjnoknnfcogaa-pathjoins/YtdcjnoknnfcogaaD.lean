/- Walks over the program's Good, Place, Parts and Above. -/
import Derived.Test.YtdcjnoknnfcogaaC
namespace Go.Proofs.Ytdcjnoknnfcogaa
open Go.RowKit
theorem good_long (s : ByteArray) (h : ¬ s.size ≤ 32) : goodL s.data.toList = false := by
  unfold goodL
  rw [len_size]
  simp [h]
set_option maxHeartbeats 400000 in
theorem good_out (s : ByteArray) (w : World) (hs : s.size ≤ 9223372036854775807) (h : ¬ s.size ≤ 32) :
    Calls Try.prog 13 #[.string s] w fun e w' => e = .returned (.bool false) ∧ w' = w := by
  have k : (32 : Int) < (s.size : Int) := by omega
  go_enter Try.func13, Try.ntmps13
  go_wp2
  go_ret
  exact ⟨rfl, rfl⟩
theorem all_snoc (L : List (List UInt8)) (k : Nat) (h : k < L.length) : (L.take (k + 1)).all nameL = ((L.take k).all nameL && nameL L[k]) := by
  rw [List.take_succ_eq_append_getElem h, List.all_append]
  simp
theorem all_no (L : List (List UInt8)) (k : Nat) (h : k < L.length) (hn : nameL L[k] = false) : L.all nameL = false := by
  rw [List.all_eq_false]
  exact ⟨L[k], List.getElem_mem h, by simp [hn]⟩
set_option maxRecDepth 100000 in
set_option maxHeartbeats 1000000 in
theorem good_in (s : ByteArray) (w : World) (h : s.size ≤ 32) :
    Calls Try.prog 13 #[.string s] w fun e w' => e = .returned (.bool (goodL s.data.toList)) ∧ Below w.heap.size w w' := by
  have HSP := split_any s w (by omega)
  have HG : Hid (goodL s.data.toList = (cutL s.data.toList).all nameL) := by
    show _ = _
    unfold goodL
    rw [len_size]
    simp [h]
  have HSZ : Hid (∀ x ∈ cutL s.data.toList, x.length ≤ 32) := fun x hx => by have := cut_sizes _ _ hx; rw [len_size] at this; omega
  have hN0 : 0 < (cutL s.data.toList).length := List.length_pos_iff.2 (cutL_ne _)
  have hN1 : (cutL s.data.toList).length ≤ 33 := by have := cut_count s.data.toList; rw [len_size] at this; omega
  have k32 : ¬ (32 : Int) < (s.size : Int) := by omega
  generalize cutL s.data.toList = L at *
  generalize goodL s.data.toList = G at *
  obtain ⟨N, hN⟩ : ∃ N, L.length = N := ⟨_, rfl⟩
  rw [hN] at HSP hN0 hN1
  have HL : Hid (L.length = N) := hN
  clear hN
  go_enter Try.func13, Try.ntmps13
  go_wp2_with fail
  refine HSP.mono ?_
  rintro e w2 ⟨a, cap, rfl, hss, hb2⟩
  obtain ⟨b, off, rfl, hcell⟩ := hss.at hN0
  have HCE : Hid (∀ i (h : i < L.length), w2.cell? ⟨b, off + i, none⟩ = some (.string (strOf L[i]))) := by
    intro i hi
    have := hcell i (by simpa using hi)
    simpa using this
  clear hcell hss HSP
  go_wp2_with fail
  go_loopw [11] (fun i wr => ∃ k : Nat, i = .int .i64 (k : Int) ∧ k ≤ N ∧ Below w2.heap.size w2 wr ∧ (L.take k).all nameL = true) (fun i _ => N - (intOf i).toNat)
  case atStart => exact ⟨0, rfl, by omega, Below.refl _ _, rfl⟩
  case round =>
    obtain ⟨k, rfl, hk, hbr, hall⟩ := hrel
    have HA : Hid ((L.take k).all nameL = true) := hall
    clear hall
    by_cases hlt : k < N
    · have hlt' : k < L.length := by rw [HL.out]; exact hlt
      have hc := HCE.out k hlt'
      have hcr : wr.cell? ⟨b, off + k, none⟩ = some (.string (strOf L[k])) := by rw [hbr.cell (World.block_lt_of_cell? w2 _ hc)]; exact hc
      have HNA := name_any (strOf L[k]) wr (by rw [strOf_size]; have := HSZ.out _ (List.getElem_mem hlt'); omega)
      rw [strOf_list] at HNA
      have HSN : Hid _ := all_snoc L k hlt'
      have HNO : Hid (nameL L[k] = false → L.all nameL = false) := all_no L k hlt'
      have hki : (k : Int) < (N : Int) := by omega
      generalize nameL L[k] = nb at HNA HSN HNO
      generalize strOf L[k] = x at HNA hcr
      clear hc
      cases nb with
      | true =>
        go_wp2_with (go_at_call 11; refine HNA.mono ?_; rintro e w3 ⟨rfl, hb3⟩)
        go_roundw
        case rel => exact ⟨k + 1, by go_num, by omega, hbr.trans (hb3.mono hbr.size), by rw [HSN.out, HA.out]; rfl⟩
        case measure => simp [intOf]; omega
      | false =>
        have HF : Hid (G = false) := by show _ = _; rw [HG.out, HNO.out rfl]
        clear HNO
        go_wp2_with (go_at_call 11; refine HNA.mono ?_; rintro e w3 ⟨rfl, hb3⟩)
        go_ret
        exact ⟨ret_bool HF.out.symm, hb2.trans ((hbr.trans (hb3.mono hbr.size)).mono hb2.size)⟩
    · have HE : Hid (G = true) := by
        show _ = _
        have := HA.out
        rw [List.take_of_length_le (by rw [HL.out]; omega)] at this
        rw [HG.out, this]
      go_wp2
      go_ret
      exact ⟨ret_bool HE.out.symm, hb2.trans (hbr.mono hb2.size)⟩
theorem good_any (s : ByteArray) (w : World) (hs : s.size ≤ 9223372036854775807) :
    Calls Try.prog 13 #[.string s] w fun e w' => e = .returned (.bool (goodL s.data.toList)) ∧ Below w.heap.size w w' := by
  by_cases h : s.size ≤ 32
  · exact good_in s w h
  · rw [good_long s h]
    refine (good_out s w hs h).mono ?_
    rintro e w' ⟨rfl, rfl⟩
    exact ⟨rfl, Below.refl _ _⟩
set_option maxHeartbeats 400000 in
theorem place_any (s : ByteArray) (w : World) (hs : s.size ≤ 9223372036854775807) :
    Calls Try.prog 15 #[.string s] w fun e w' => e = .returned (.bool (placeL s.data.toList)) ∧ Below w.heap.size w w' := by
  by_cases h : s.data.toList = []
  · obtain rfl : s = ⟨#[]⟩ := str_inj.1 h
    go_enter Try.func15, Try.ntmps15
    go_wp2
    go_ret
    exact ⟨rfl, Below.refl _ _⟩
  · have j0 := toList_nil h
    have j1 := toList_ne h
    have HG := good_any s w hs
    have HP : Hid (placeL s.data.toList = goodL s.data.toList) := by show _ = _; simp only [placeL, h, decide_false, Bool.false_or]
    generalize goodL s.data.toList = G at *
    go_enter Try.func15, Try.ntmps15
    go_wp2_with (go_at_call 13; refine HG.mono ?_; rintro e w3 ⟨rfl, hb3⟩)
    go_ret
    exact ⟨ret_bool HP.out.symm, hb3⟩
theorem parts_good {l : List UInt8} (h : goodL l = true) : partsL l = cutL l := by rw [partsL, if_pos h]
theorem parts_bad {l : List UInt8} (h : goodL l = false) : partsL l = [] := by rw [partsL, if_neg (by simp [h])]
theorem good_size {s : ByteArray} (h : goodL s.data.toList = true) : s.size ≤ 32 := by
  have := (good_iff.1 h).1
  rwa [len_size] at this
set_option maxHeartbeats 400000 in
theorem parts_any (s : ByteArray) (w : World) (hs : s.size ≤ 9223372036854775807) :
    Calls Try.prog 18 #[.string s] w fun e w' => ∃ a cap, e = .returned (.slice a (partsL s.data.toList).length cap) ∧ Ss w' a (partsL s.data.toList).length cap ((partsL s.data.toList).map strOf) ∧ Below w.heap.size w w' := by
  have HG := good_any s w hs
  cases h : goodL s.data.toList with
  | true =>
    rw [parts_good h]
    rw [h] at HG
    have HSP : Hid _ := fun W => split_any s W (by have := good_size h; omega)
    clear h
    go_enter Try.func18, Try.ntmps18
    go_wp2_with (first | (go_at_call 13; refine HG.mono ?_; rintro e w3 ⟨rfl, hb3⟩) | (go_at_call 31; refine (HSP.out _).mono ?_; rintro e w4 ⟨a, cap, rfl, hss, hb4⟩))
    go_ret
    exact ⟨a, cap, rfl, hss, hb3.trans (hb4.mono hb3.size)⟩
  | false =>
    rw [parts_bad h]
    rw [h] at HG
    clear h
    go_enter Try.func18, Try.ntmps18
    go_wp2_with (go_at_call 13; refine HG.mono ?_; rintro e w3 ⟨rfl, hb3⟩)
    go_ret
    exact ⟨none, 0, rfl, Ss.nil _, hb3⟩
end Go.Proofs.Ytdcjnoknnfcogaa
