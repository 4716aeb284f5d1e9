/- Walks over the program's split, Good, Place and Parts. Walks over the program's Good, Place, Parts and Above. -/
import Derived.Test.YtcmdcmbiilfngaaDoorPB
namespace Go.Proofs.YtcmdcmbiilfngaaDoor.Pt
open Go.RowKit
theorem extract_str (s : ByteArray) (a b : Nat) : s.extract a b = strOf ((s.data.toList.drop a).take (b - a)) := by
  apply ByteArray.ext
  simp [strOf, ByteArray.data_extract]
  rw [← Array.toList_inj]
  simp [List.extract_eq_take_drop]
theorem extract_end (s : ByteArray) (a b : Nat) (h : s.size ≤ b) : s.extract a b = strOf (s.data.toList.drop a) := by
  rw [extract_str, List.take_of_length_le]
  rw [List.length_drop, len_size]
  omega
theorem cut_step {l : List UInt8} {acc : List (List UInt8)} {f pos : Nat} (h : cutL l = acc ++ cutL (l.drop f)) (hf : f ≤ pos) (hno : ∀ j, f ≤ j → j < pos → l[j]? ≠ some 47) (hc : l[pos]? = some 47) :
    cutL l = (acc ++ [(l.drop f).take (pos - f)]) ++ cutL (l.drop (pos + 1)) := by
  rw [h, cutL_slash (pos - f) (l.drop f) (fun j hj => by rw [List.getElem?_drop]; exact hno _ (by omega) (by omega)) (by rw [List.getElem?_drop, show f + (pos - f) = pos by omega]; exact hc)]
  rw [List.drop_drop, show f + (pos - f + 1) = pos + 1 by omega]
  simp
theorem cut_last {l : List UInt8} {acc : List (List UInt8)} {f : Nat} (h : cutL l = acc ++ cutL (l.drop f)) (hno : ∀ j, f ≤ j → j < l.length → l[j]? ≠ some 47) : cutL l = acc ++ [l.drop f] := by
  rw [h, cutL_none]
  intro hm
  obtain ⟨j, hj, hje⟩ := List.getElem_of_mem hm
  rw [List.getElem_drop] at hje
  rw [List.length_drop] at hj
  exact hno (f + j) (by omega) (by omega) (by rw [List.getElem?_eq_getElem (by omega), hje])
/-- What the loop of split holds. -/
def SpRel (w : World) (s : ByteArray) (pos f : Nat) (acc : List (List UInt8)) (v : Value) (wr : World) : Prop :=
  pos ≤ s.size ∧ f ≤ pos ∧ acc.length ≤ pos ∧ cutL s.data.toList = acc ++ cutL (s.data.toList.drop f) ∧ (∀ j, f ≤ j → j < pos → s.data.toList[j]? ≠ some 47) ∧
    wr.heap[w.heap.size]? = some (.stringIter s pos) ∧ wr.ownsRow (w.heap.size + 1) 9 1 v acc.length (strsV acc) ∧ Below w.heap.size w wr
set_option maxRecDepth 100000 in
set_option maxHeartbeats 1000000 in
theorem split_any (s : ByteArray) (w : World) (hs : s.size ≤ 100000) :
    Calls Tryd.prog 72 #[.string s] w fun e w' => ∃ a cap, e = .returned (.slice a (cutL s.data.toList).length cap) ∧ Ss w' a (cutL s.data.toList).length cap ((cutL s.data.toList).map strOf) ∧ Below w.heap.size w w' := by
  obtain ⟨i0, hi, hz0, hz1, hz2⟩ := info_parts info9
  go_enter Tryd.func72, Tryd.ntmps72
  go_wp2
  go_loopw [3, 4] (fun v fr wr => ∃ (pos f : Nat) (acc : List (List UInt8)), fr = .int .i64 (f : Int) ∧ SpRel w s pos f acc v wr) (fun _ _ wr => s.size - wr.iterPos w.heap.size)
  case atStart => exact ⟨0, 0, [], rfl, by omega, by omega, by simp, by simp, fun j h1 h2 => by omega, World.iter_heap w s 0, World.ownsRow_nil _ _ _ _, (Below.refl _ _).alloc (Nat.le_refl _) _⟩
  case round =>
    obtain ⟨pos, f, acc, rfl, hps, hf, hal, hcut, hno, hit, hown, hbw⟩ := hrel
    have hpos0 := iterPos_of hit
    have HC : Hid (cutL s.data.toList = acc ++ cutL (s.data.toList.drop f)) := hcut
    have HNO : Hid (∀ j, f ≤ j → j < pos → s.data.toList[j]? ≠ some 47) := hno
    clear hcut hno
    by_cases hp : pos < s.size
    · obtain ⟨n, wd, hnx, hn, hw1, hw2, c, hc, hcase⟩ := next_at wr w.heap.size s pos hit hp
      have hit2 := Lib.iterAt_heap wr w.heap.size s pos (pos + wd) hit
      have hbw2 := Lib.below_iterAt hbw (k := w.heap.size) (Nat.le_refl _) s (pos + wd)
      have hown2 := ownsRow_iterAt hown (k := w.heap.size) (by omega) s (pos + wd)
      obtain ⟨W1, hW1⟩ : ∃ W1, W1 = wr.iterAt w.heap.size s (pos + wd) := ⟨_, rfl⟩
      rw [← hW1] at hnx hit2 hbw2 hown2
      have hBlt := lt_of_block hit2
      clear hW1 hit hbw hown
      have HCC : Hid (s.data.toList[pos]? = some c) := hc
      clear hc
      by_cases h47 : n = 47
      · subst h47
        obtain ⟨rfl, hcn⟩ : wd = 1 ∧ c.toNat = 47 := by
          rcases hcase with ⟨_, h1, h2⟩ | ⟨h, _⟩
          · exact ⟨h1, h2⟩
          · omega
        have hc47 : c = 47 := UInt8.toNat_inj.1 (by rw [hcn]; rfl)
        have HST : Hid _ := cut_step HC.out hf HNO.out (hc47 ▸ HCC.out)
        have HX : Hid _ := extract_str s f pos
        have q1 : (f : Int) ≤ (pos : Int) := by omega
        have q2 : (pos : Int) ≤ (s.size : Int) := by omega
        clear hcase hc47 hcn
        go_wp2_with (at_builtin; refine wpList_append_own _ rfl _ _ 54 rfl (w.heap.size + 1) 9 i0 (.string ByteArray.empty) 1 16 Tryd.underlying54 hi hz0 hz1 hz2 rfl (by decide) _ acc.length (strsV acc) rfl (hown2.alloc _) ⟨W1.heap.size, 0, none⟩ 1 1 [_] rfl rfl (one_str _ _ _) (by simp [Value.oneCell']) (by unfold maxLen; omega) (by omega) (by simp; omega) ?_)
        intro v' w3 hown' hgrow3 hnil3
        have hit3 : w3.heap[w.heap.size]? = some (.stringIter s (pos + 1)) := by
          rw [hgrow3.block w.heap.size (by simp; omega) (fun h => by have := (hown2.lt _ h.symm).1; omega), Below.heap_alloc _ _ _ hBlt]; exact hit2
        have hbw3 : Below w.heap.size w w3 := Below.grown (hbw2.alloc (by omega) _) hgrow3 (by simp; omega) (fun j hj => by have := (hown2.lt _ hj).1; omega)
        have HO3 : Hid (w3.ownsRow (w.heap.size + 1) 9 1 v' (acc.length + 1) (strsV (acc ++ [(s.data.toList.drop f).take (pos - f)]))) := by
          have := hown'
          rw [HX.out] at this
          simpa [Hid, strsV] using this
        clear hown' hgrow3 hnil3
        go_wp2
        go_roundw
        case rel => exact ⟨pos + 1, pos + 1, acc ++ [(s.data.toList.drop f).take (pos - f)], by go_num, by omega, by omega, by simp; omega, HST.out, fun j h1 h2 => by omega, hit3, by simpa using HO3.out, hbw3⟩
        case measure => rw [iterPos_of hit3, hpos0]; omega
      · have HNX : Hid (∀ j, f ≤ j → j < pos + wd → s.data.toList[j]? ≠ some 47) := by
          intro j h1 h2
          by_cases hj : j < pos
          · exact HNO.out j h1 hj
          · rcases hcase with ⟨_, rfl, h4⟩ | ⟨_, _, h⟩
            · obtain rfl : j = pos := by omega
              rw [HCC.out]
              intro e
              rw [Option.some.injEq] at e
              rw [e] at h4
              exact h47 h4.symm
            · exact h j (by omega) h2
        have hne : ¬ (n : Int) = 47 := by omega
        have hnb : ((n : Int) == 47) = false := by simp; omega
        clear hcase
        go_wp2
        go_roundw
        case rel => exact ⟨pos + wd, f, acc, rfl, hw2, by omega, by omega, HC.out, HNX.out, hit2, hown2, hbw2⟩
        case measure => rw [iterPos_of hit2, hpos0]; omega
    · have hnx : ∀ ty, (Instr.next (.pointer (some ⟨w.heap.size, 0, none⟩)) true ty).run Tryd.prog wr = _ := fun ty => Lib.run_next_end_at wr w.heap.size s pos ty hit hp
      have HST : Hid _ := cut_last HC.out (fun j h1 h2 => HNO.out j h1 (by rw [len_size] at h2; omega))
      have HX : Hid _ := extract_end s f s.size (Nat.le_refl _)
      have q1 : (f : Int) ≤ (s.size : Int) := by omega
      have hBlt := lt_of_block hit
      go_wp2_with (at_builtin; refine wpList_append_own _ rfl _ _ 54 rfl (w.heap.size + 1) 9 i0 (.string ByteArray.empty) 1 16 Tryd.underlying54 hi hz0 hz1 hz2 rfl (by decide) _ acc.length (strsV acc) rfl (hown.alloc _) ⟨wr.heap.size, 0, none⟩ 1 1 [_] rfl rfl (one_str _ _ _) (by simp [Value.oneCell']) (by unfold maxLen; omega) (by omega) (by simp; omega) ?_)
      intro v' w3 hown' hgrow3 hnil3
      have hbw3 : Below w.heap.size w w3 := Below.grown (hbw.alloc (by omega) _) hgrow3 (by simp; omega) (fun j hj => by have := (hown.lt _ hj).1; omega)
      have ho3 : w3.ownsRow (w.heap.size + 1) 9 1 v' (acc.length + 1) (strsV (acc ++ [s.data.toList.drop f])) := by
        have := hown'
        rw [HX.out] at this
        simpa [strsV] using this
      obtain ⟨la, lc, hv, hss⟩ := Ss.owned ho3
      rw [show acc.length + 1 = (acc ++ [s.data.toList.drop f]).length by simp, ← HST.out] at hv hss
      subst hv
      clear hown' hgrow3 hnil3 ho3
      go_wp2
      go_ret
      exact ⟨la, lc, rfl, hss, hbw3⟩
end Go.Proofs.YtcmdcmbiilfngaaDoor.Pt
namespace Go.Proofs.YtcmdcmbiilfngaaDoor.Pt
open Go.RowKit
theorem good_long (s : ByteArray) (h : ¬ s.size ≤ 32) : goodL s.data.toList = false := by
  unfold goodL
  rw [len_size]
  simp [h]
set_option maxHeartbeats 400000 in
theorem good_out (s : ByteArray) (w : World) (hs : s.size ≤ 9223372036854775807) (h : ¬ s.size ≤ 32) :
    Calls Tryd.prog 56 #[.string s] w fun e w' => e = .returned (.bool false) ∧ w' = w := by
  have k : (32 : Int) < (s.size : Int) := by omega
  go_enter Tryd.func56, Tryd.ntmps56
  go_wp2
  go_ret
  exact ⟨rfl, rfl⟩
theorem all_snoc (L : List (List UInt8)) (k : Nat) (h : k < L.length) : (L.take (k + 1)).all nameL = ((L.take k).all nameL && nameL L[k]) := by
  rw [List.take_succ_eq_append_getElem h, List.all_append]
  simp
theorem all_no (L : List (List UInt8)) (k : Nat) (h : k < L.length) (hn : nameL L[k] = false) : L.all nameL = false := by
  rw [List.all_eq_false]
  exact ⟨L[k], List.getElem_mem h, by simp [hn]⟩
set_option maxRecDepth 100000 in
set_option maxHeartbeats 1000000 in
theorem good_in (s : ByteArray) (w : World) (h : s.size ≤ 32) :
    Calls Tryd.prog 56 #[.string s] w fun e w' => e = .returned (.bool (goodL s.data.toList)) ∧ Below w.heap.size w w' := by
  have HSP := split_any s w (by omega)
  have HG : Hid (goodL s.data.toList = (cutL s.data.toList).all nameL) := by
    show _ = _
    unfold goodL
    rw [len_size]
    simp [h]
  have HSZ : Hid (∀ x ∈ cutL s.data.toList, x.length ≤ 32) := fun x hx => by have := cut_sizes _ _ hx; rw [len_size] at this; omega
  have hN0 : 0 < (cutL s.data.toList).length := List.length_pos_iff.2 (cutL_ne _)
  have hN1 : (cutL s.data.toList).length ≤ 33 := by have := cut_count s.data.toList; rw [len_size] at this; omega
  have k32 : ¬ (32 : Int) < (s.size : Int) := by omega
  generalize cutL s.data.toList = L at *
  generalize goodL s.data.toList = G at *
  obtain ⟨N, hN⟩ : ∃ N, L.length = N := ⟨_, rfl⟩
  rw [hN] at HSP hN0 hN1
  have HL : Hid (L.length = N) := hN
  clear hN
  go_enter Tryd.func56, Tryd.ntmps56
  go_wp2_with fail
  refine HSP.mono ?_
  rintro e w2 ⟨a, cap, rfl, hss, hb2⟩
  obtain ⟨b, off, rfl, hcell⟩ := hss.at hN0
  have HCE : Hid (∀ i (h : i < L.length), w2.cell? ⟨b, off + i, none⟩ = some (.string (strOf L[i]))) := by
    intro i hi
    have := hcell i (by simpa using hi)
    simpa using this
  clear hcell hss HSP
  go_wp2_with fail
  go_loopw [11] (fun i wr => ∃ k : Nat, i = .int .i64 (k : Int) ∧ k ≤ N ∧ Below w2.heap.size w2 wr ∧ (L.take k).all nameL = true) (fun i _ => N - (intOf i).toNat)
  case atStart => exact ⟨0, rfl, by omega, Below.refl _ _, rfl⟩
  case round =>
    obtain ⟨k, rfl, hk, hbr, hall⟩ := hrel
    have HA : Hid ((L.take k).all nameL = true) := hall
    clear hall
    by_cases hlt : k < N
    · have hlt' : k < L.length := by rw [HL.out]; exact hlt
      have hc := HCE.out k hlt'
      have hcr : wr.cell? ⟨b, off + k, none⟩ = some (.string (strOf L[k])) := by rw [hbr.cell (World.block_lt_of_cell? w2 _ hc)]; exact hc
      have HNA := name_any (strOf L[k]) wr (by rw [strOf_size]; have := HSZ.out _ (List.getElem_mem hlt'); omega)
      rw [strOf_list] at HNA
      have HSN : Hid _ := all_snoc L k hlt'
      have HNO : Hid (nameL L[k] = false → L.all nameL = false) := all_no L k hlt'
      have hki : (k : Int) < (N : Int) := by omega
      generalize nameL L[k] = nb at HNA HSN HNO
      generalize strOf L[k] = x at HNA hcr
      clear hc
      cases nb with
      | true =>
        go_wp2_with (go_at_call 73; refine HNA.mono ?_; rintro e w3 ⟨rfl, hb3⟩)
        go_roundw
        case rel => exact ⟨k + 1, by go_num, by omega, hbr.trans (hb3.mono hbr.size), by rw [HSN.out, HA.out]; rfl⟩
        case measure => simp [intOf]; omega
      | false =>
        have HF : Hid (G = false) := by show _ = _; rw [HG.out, HNO.out rfl]
        clear HNO
        go_wp2_with (go_at_call 73; refine HNA.mono ?_; rintro e w3 ⟨rfl, hb3⟩)
        go_ret
        exact ⟨ret_bool HF.out.symm, hb2.trans ((hbr.trans (hb3.mono hbr.size)).mono hb2.size)⟩
    · have HE : Hid (G = true) := by
        show _ = _
        have := HA.out
        rw [List.take_of_length_le (by rw [HL.out]; omega)] at this
        rw [HG.out, this]
      go_wp2
      go_ret
      exact ⟨ret_bool HE.out.symm, hb2.trans (hbr.mono hb2.size)⟩
theorem good_any (s : ByteArray) (w : World) (hs : s.size ≤ 9223372036854775807) :
    Calls Tryd.prog 56 #[.string s] w fun e w' => e = .returned (.bool (goodL s.data.toList)) ∧ Below w.heap.size w w' := by
  by_cases h : s.size ≤ 32
  · exact good_in s w h
  · rw [good_long s h]
    refine (good_out s w hs h).mono ?_
    rintro e w' ⟨rfl, rfl⟩
    exact ⟨rfl, Below.refl _ _⟩
set_option maxHeartbeats 400000 in
theorem place_any (s : ByteArray) (w : World) (hs : s.size ≤ 9223372036854775807) :
    Calls Tryd.prog 40 #[.string s] w fun e w' => e = .returned (.bool (placeL s.data.toList)) ∧ Below w.heap.size w w' := by
  by_cases h : s.data.toList = []
  · obtain rfl : s = ⟨#[]⟩ := str_inj.1 h
    go_enter Tryd.func40, Tryd.ntmps40
    go_wp2
    go_ret
    exact ⟨rfl, Below.refl _ _⟩
  · have j0 := toList_nil h
    have j1 := toList_ne h
    have HG := good_any s w hs
    have HP : Hid (placeL s.data.toList = goodL s.data.toList) := by show _ = _; simp only [placeL, h, decide_false, Bool.false_or]
    generalize goodL s.data.toList = G at *
    go_enter Tryd.func40, Tryd.ntmps40
    go_wp2_with (go_at_call 56; refine HG.mono ?_; rintro e w3 ⟨rfl, hb3⟩)
    go_ret
    exact ⟨ret_bool HP.out.symm, hb3⟩
theorem parts_good {l : List UInt8} (h : goodL l = true) : partsL l = cutL l := by rw [partsL, if_pos h]
theorem parts_bad {l : List UInt8} (h : goodL l = false) : partsL l = [] := by rw [partsL, if_neg (by simp [h])]
theorem good_size {s : ByteArray} (h : goodL s.data.toList = true) : s.size ≤ 32 := by
  have := (good_iff.1 h).1
  rwa [len_size] at this
end Go.Proofs.YtcmdcmbiilfngaaDoor.Pt
