/- The document's side: its Name, Cut, Good, Place and Parts. -/
import Derived.Test.YtcmdcmbiilfngabDoorPG
namespace Go.Proofs.YtcmdcmbiilfngabDoor.Pt
open Go.RowKit
set_option maxRecDepth 100000 in
set_option maxHeartbeats 1000000 in
theorem rname_loop (s : ByteArray) (w : World) (h0 : s.data.toList ≠ []) (h1 : s.data.toList.length ≤ 12) (h2 : s.data.toList ≠ [46]) (h3 : s.data.toList ≠ [46, 46]) :
    Calls Tryd.prog 66 #[.string s] w fun e w' => e = .returned (.bool (allB s.data.toList)) ∧ w' = w := by
  have j0 := toList_nil h0
  have j2 := toList_nb h2
  have j3 := toList_nb h3
  rw [len_size] at h1
  have k1 : ¬ (12 : Int) < (s.size : Int) := by omega
  clear h0 h2 h3
  go_enter Tryd.func66, Tryd.ntmps66
  go_wp2
  clear j0 j2 j3 k1
  go_loop [3] (fun i => ∃ k : Nat, k ≤ s.size ∧ i = .int .i64 (k : Int) ∧ allB (s.data.toList.take k) = true) (fun i => s.size - (intOf i).toNat)
  case atStart => exact ⟨0, by omega, rfl, rfl⟩
  case round =>
    obtain ⟨k, hk, rfl, hall⟩ := hrel
    have HA : Hid (allB (s.data.toList.take k) = true) := hall
    clear hall
    by_cases hlt : k < s.size
    · have hc : s.data.toList[k]? = some s[k] := by
        rw [Array.getElem?_toList, Array.getElem?_eq_getElem (show k < s.data.size from hlt)]
        rfl
      have HSN : Hid (allB (s.data.toList.take (k + 1)) = (allB (s.data.toList.take k) && okN (s[k]).toNat)) := allB_snoc _ _ _ hc
      have HNO : Hid (allB (s.data.toList.take (k + 1)) = false → allB s.data.toList = false) := allB_le _ (k + 1)
      clear hc
      go_wp2
      all_goals first
        | (go_round
           case rel => exact ⟨k + 1, by omega, by go_num, by rw [HSN.out, HA.out, show okN (s[k]).toNat = true by clear HSN HNO HA; unfold okN; (try simp only [Bool.not_eq_false', beq_iff_eq, decide_eq_true_eq] at *); (try rw [decide_eq_true_eq]); omega]; rfl⟩
           case measure => simp [intOf]; omega)
        | (go_ret
           exact ⟨ret_bool (HNO.out (by rw [HSN.out, show okN (s[k]).toNat = false by clear HSN HNO HA; unfold okN; (try simp only [Bool.not_eq_true', beq_eq_false_iff_ne, decide_eq_false_iff_not, ne_eq] at *); (try rw [decide_eq_false_iff_not]); omega, Bool.and_false])).symm, rfl⟩)
    · have HE : Hid (allB s.data.toList = true) := by
        have := HA.out
        rw [List.take_of_length_le (by rw [len_size]; omega)] at this
        exact this
      go_wp2
      go_ret
      exact ⟨ret_bool HE.out.symm, rfl⟩
set_option maxHeartbeats 400000 in
theorem rname_out (s : ByteArray) (w : World) (hs : s.size ≤ 9223372036854775807) (h : 12 < s.size) :
    Calls Tryd.prog 66 #[.string s] w fun e w' => e = .returned (.bool false) ∧ w' = w := by
  have j0 := toList_nil (s := s) (fun e => by have := congrArg List.length e; rw [len_size, List.length_nil] at this; omega)
  have k1 : (12 : Int) < (s.size : Int) := by omega
  go_enter Tryd.func66, Tryd.ntmps66
  go_wp2
  go_ret
  exact ⟨rfl, rfl⟩
set_option maxHeartbeats 400000 in
theorem rname_lit (s : ByteArray) (w : World) (h : s = ⟨#[]⟩ ∨ s = ⟨#[46]⟩ ∨ s = ⟨#[46, 46]⟩) :
    Calls Tryd.prog 66 #[.string s] w fun e w' => e = .returned (.bool false) ∧ w' = w := by
  rcases h with rfl | rfl | rfl
  all_goals
    go_enter Tryd.func66, Tryd.ntmps66
    go_wp2
    go_ret
    exact ⟨rfl, rfl⟩
theorem rname_any (s : ByteArray) (w : World) (hs : s.size ≤ 9223372036854775807) :
    Calls Tryd.prog 66 #[.string s] w fun e w' => e = .returned (.bool (nameL s.data.toList)) ∧ w' = w := by
  by_cases h : headB s.data.toList = true
  · have h' := h
    simp only [headB, decide_eq_true_eq] at h'
    rw [name_of_head h]
    exact rname_loop s w h'.1 h'.2.1 h'.2.2.1 h'.2.2.2
  · have h' : headB s.data.toList = false := by simpa using h
    rw [name_no h']
    by_cases hl : 12 < s.size
    · exact rname_out s w hs hl
    · refine rname_lit s w ?_
      simp only [headB, decide_eq_true_eq] at h
      rw [← str_inj, ← str_inj, ← str_inj]
      rw [len_size] at h
      by_cases e1 : s.data.toList = []
      · exact .inl e1
      · by_cases e2 : s.data.toList = [46]
        · exact .inr (.inl e2)
        · by_cases e3 : s.data.toList = [46, 46]
          · exact .inr (.inr e3)
          · exact absurd ⟨e1, by omega, e2, e3⟩ h
/-- What the loop of the document's Cut holds. -/
def RcRel (s : ByteArray) (i f : Nat) (acc : List (List UInt8)) : Prop :=
  (i ≤ s.size ∧ f ≤ i ∧ acc.length ≤ i ∧ cutL s.data.toList = acc ++ cutL (s.data.toList.drop f) ∧ ∀ j, f ≤ j → j < i → s.data.toList[j]? ≠ some 47) ∨ (i = s.size + 1 ∧ cutL s.data.toList = acc)
set_option maxRecDepth 100000 in
set_option maxHeartbeats 1000000 in
theorem cut_any (s : ByteArray) (w : World) (hs : s.size ≤ 100000) :
    Calls Tryd.prog 65 #[.string s] w fun e w' => ∃ a cap, e = .returned (.slice a (cutL s.data.toList).length cap) ∧ Ss w' a (cutL s.data.toList).length cap ((cutL s.data.toList).map strOf) ∧ Below w.heap.size w w' := by
  obtain ⟨i0, hi, hz0, hz1, hz2⟩ := info_parts info9
  go_enter Tryd.func65, Tryd.ntmps65
  go_wp2
  go_loopw [3, 4, 5] (fun v fr i wr => ∃ (k f : Nat) (acc : List (List UInt8)), fr = .int .i64 (f : Int) ∧ i = .int .i64 (k : Int) ∧ RcRel s k f acc ∧ wr.ownsRow w.heap.size 9 1 v acc.length (strsV acc) ∧ Below w.heap.size w wr) (fun _ _ i _ => s.size + 1 - (intOf i).toNat)
  case atStart => exact ⟨0, 0, [], rfl, rfl, .inl ⟨by omega, by omega, by simp, by simp, fun j h1 h2 => by omega⟩, World.ownsRow_nil _ _ _ _, Below.refl _ _⟩
  case round =>
    obtain ⟨k, f, acc, rfl, rfl, hr, hown, hbw⟩ := hrel
    rcases hr with ⟨hk, hf, hal, hcut, hno⟩ | ⟨rfl, hcut⟩
    · have HC : Hid (cutL s.data.toList = acc ++ cutL (s.data.toList.drop f)) := hcut
      have HNO : Hid (∀ j, f ≤ j → j < k → s.data.toList[j]? ≠ some 47) := hno
      have hkz : (k : Int) ≤ (s.size : Int) := by omega
      have q1 : (f : Int) ≤ (k : Int) := by omega
      clear hcut hno
      by_cases hlt : k < s.size
      · have hc : s.data.toList[k]? = some s[k] := by
          rw [Array.getElem?_toList, Array.getElem?_eq_getElem (show k < s.data.size from hlt)]
          rfl
        have hne : ((k : Int) == (s.size : Int)) = false := by simp; omega
        have hne' : ¬ (k : Int) = (s.size : Int) := by omega
        by_cases h47 : (s[k]).toNat = 47
        · have hc47 : s[k] = 47 := UInt8.toNat_inj.1 (by rw [h47]; rfl)
          have HST : Hid _ := cut_step HC.out hf HNO.out (hc47 ▸ hc)
          have HX : Hid _ := extract_str s f k
          have h47' : ((s[k]).toNat : Int) = 47 := by omega
          clear hc hc47
          go_wp2_with (at_builtin; refine wpList_append_own _ rfl _ _ 79 rfl w.heap.size 9 i0 (.string ByteArray.empty) 1 16 Tryd.underlying79 hi hz0 hz1 hz2 rfl (by decide) _ acc.length (strsV acc) rfl (hown.alloc _) ⟨wr.heap.size, 0, none⟩ 1 1 [_] rfl rfl (one_str _ _ _) (by simp [Value.oneCell']) (by unfold maxLen; omega) (by omega) (by have := hbw.size; simp; omega) ?_)
          intro v' w3 hown' hgrow3 hnil3
          have hbw3 : Below w.heap.size w w3 := (hbw.alloc hbw.size _).grown hgrow3 (by have := hbw.size; simp; omega) (fun j hj => (hown.lt j hj).1)
          have HO3 : Hid (w3.ownsRow w.heap.size 9 1 v' (acc.length + 1) (strsV (acc ++ [(s.data.toList.drop f).take (k - f)]))) := by
            have := hown'
            rw [HX.out] at this
            simpa [Hid, strsV] using this
          clear hown' hgrow3 hnil3 hown hbw
          go_wp2
          go_roundw
          case rel => exact ⟨k + 1, k + 1, acc ++ [(s.data.toList.drop f).take (k - f)], by go_num, by go_num, .inl ⟨by omega, by omega, by simp; omega, HST.out, fun j h1 h2 => by omega⟩, by simpa using HO3.out, hbw3⟩
          case measure => simp [intOf]; omega
        · have HNX : Hid (∀ j, f ≤ j → j < k + 1 → s.data.toList[j]? ≠ some 47) := by
            intro j h1 h2
            by_cases hj : j < k
            · exact HNO.out j h1 hj
            · obtain rfl : j = k := by omega
              rw [hc]
              intro e
              rw [Option.some.injEq] at e
              exact h47 (by rw [e]; rfl)
          have h47' : ¬ ((s[k]).toNat : Int) = 47 := by omega
          have h47b : (((s[k]).toNat : Int) == 47) = false := by simp; omega
          clear hc
          go_wp2
          go_roundw
          case rel => exact ⟨k + 1, f, acc, rfl, by go_num, .inl ⟨by omega, by omega, by omega, HC.out, HNX.out⟩, hown, hbw⟩
          case measure => simp [intOf]; omega
      · obtain rfl : k = s.size := by omega
        have HST : Hid _ := cut_last HC.out (fun j h1 h2 => HNO.out j h1 (by rw [len_size] at h2; omega))
        have HX : Hid _ := extract_end s f s.size (Nat.le_refl _)
        go_wp2_with (at_builtin; refine wpList_append_own _ rfl _ _ 79 rfl w.heap.size 9 i0 (.string ByteArray.empty) 1 16 Tryd.underlying79 hi hz0 hz1 hz2 rfl (by decide) _ acc.length (strsV acc) rfl (hown.alloc _) ⟨wr.heap.size, 0, none⟩ 1 1 [_] rfl rfl (one_str _ _ _) (by simp [Value.oneCell']) (by unfold maxLen; omega) (by omega) (by have := hbw.size; simp; omega) ?_)
        intro v' w3 hown' hgrow3 hnil3
        have hbw3 : Below w.heap.size w w3 := (hbw.alloc hbw.size _).grown hgrow3 (by have := hbw.size; simp; omega) (fun j hj => (hown.lt j hj).1)
        have HO3 : Hid (w3.ownsRow w.heap.size 9 1 v' (acc.length + 1) (strsV (acc ++ [s.data.toList.drop f]))) := by
          have := hown'
          rw [HX.out] at this
          simpa [Hid, strsV] using this
        clear hown' hgrow3 hnil3 hown hbw
        go_wp2
        go_roundw
        case rel => exact ⟨s.size + 1, s.size + 1, acc ++ [s.data.toList.drop f], by go_num, by go_num, .inr ⟨rfl, HST.out⟩, by simpa using HO3.out, hbw3⟩
        case measure => simp [intOf]
    · have hnk : ¬ ((s.size + 1 : Nat) : Int) ≤ (s.size : Int) := by omega
      have hnk' : ¬ ((s.size : Int) + 1 ≤ (s.size : Int)) := by omega
      obtain ⟨la, lc, hv, hss⟩ := Ss.owned hown
      rw [← hcut] at hv hss
      subst hv
      clear hcut
      go_wp2
      go_ret
      exact ⟨la, lc, rfl, hss, hbw⟩
set_option maxHeartbeats 400000 in
theorem rgood_out (s : ByteArray) (w : World) (hs : s.size ≤ 9223372036854775807) (h : ¬ s.size ≤ 32) :
    Calls Tryd.prog 59 #[.string s] w fun e w' => e = .returned (.bool false) ∧ w' = w := by
  have k : (32 : Int) < (s.size : Int) := by omega
  go_enter Tryd.func59, Tryd.ntmps59
  go_wp2
  go_ret
  exact ⟨rfl, rfl⟩
set_option maxRecDepth 100000 in
set_option maxHeartbeats 1000000 in
theorem rgood_in (s : ByteArray) (w : World) (h : s.size ≤ 32) :
    Calls Tryd.prog 59 #[.string s] w fun e w' => e = .returned (.bool (goodL s.data.toList)) ∧ Below w.heap.size w w' := by
  have HSP := cut_any s w (by omega)
  have HG : Hid (goodL s.data.toList = (cutL s.data.toList).all nameL) := by
    show _ = _
    unfold goodL
    rw [len_size]
    simp [h]
  have HSZ : Hid (∀ x ∈ cutL s.data.toList, x.length ≤ 32) := fun x hx => by have := cut_sizes _ _ hx; rw [len_size] at this; omega
  have hN0 : 0 < (cutL s.data.toList).length := List.length_pos_iff.2 (cutL_ne _)
  have hN1 : (cutL s.data.toList).length ≤ 33 := by have := cut_count s.data.toList; rw [len_size] at this; omega
  have k32 : ¬ (32 : Int) < (s.size : Int) := by omega
  generalize cutL s.data.toList = L at *
  generalize goodL s.data.toList = G at *
  obtain ⟨N, hN⟩ : ∃ N, L.length = N := ⟨_, rfl⟩
  rw [hN] at HSP hN0 hN1
  have HL : Hid (L.length = N) := hN
  clear hN
  go_enter Tryd.func59, Tryd.ntmps59
  go_wp2_with fail
  refine HSP.mono ?_
  rintro e w2 ⟨a, cap, rfl, hss, hb2⟩
  obtain ⟨b, off, rfl, hcell⟩ := hss.at hN0
  have HCE : Hid (∀ i (h : i < L.length), w2.cell? ⟨b, off + i, none⟩ = some (.string (strOf L[i]))) := by
    intro i hi
    have := hcell i (by simpa using hi)
    simpa using this
  clear hcell hss HSP
  go_wp2_with fail
  go_loop [4] (fun i => ∃ k : Nat, i = .int .i64 (k : Int) ∧ k ≤ N ∧ (L.take k).all nameL = true) (fun i => N - (intOf i).toNat)
  case atStart => exact ⟨0, rfl, by omega, rfl⟩
  case round =>
    obtain ⟨k, rfl, hk, hall⟩ := hrel
    have HA : Hid ((L.take k).all nameL = true) := hall
    clear hall
    by_cases hlt : k < N
    · have hlt' : k < L.length := by rw [HL.out]; exact hlt
      have hcr := HCE.out k hlt'
      have HNA := rname_any (strOf L[k]) w2 (by rw [strOf_size]; have := HSZ.out _ (List.getElem_mem hlt'); omega)
      rw [strOf_list] at HNA
      have HSN : Hid _ := all_snoc L k hlt'
      have HNO : Hid (nameL L[k] = false → L.all nameL = false) := all_no L k hlt'
      have hki : (k : Int) < (N : Int) := by omega
      generalize nameL L[k] = nb at HNA HSN HNO
      generalize strOf L[k] = x at HNA hcr
      cases nb with
      | true =>
        go_wp2_with (go_at_call 66; refine HNA.mono ?_; rintro e w3 ⟨rfl, hb3⟩; subst w3)
        go_round
        case rel => exact ⟨k + 1, by go_num, by omega, by rw [HSN.out, HA.out]; rfl⟩
        case measure => simp [intOf]; omega
      | false =>
        have HF : Hid (G = false) := by show _ = _; rw [HG.out, HNO.out rfl]
        clear HNO
        go_wp2_with (go_at_call 66; refine HNA.mono ?_; rintro e w3 ⟨rfl, hb3⟩; subst w3)
        go_ret
        exact ⟨ret_bool HF.out.symm, hb2⟩
    · have HE : Hid (G = true) := by
        show _ = _
        have := HA.out
        rw [List.take_of_length_le (by rw [HL.out]; omega)] at this
        rw [HG.out, this]
      go_wp2
      go_ret
      exact ⟨ret_bool HE.out.symm, hb2⟩
theorem rgood_any (s : ByteArray) (w : World) (hs : s.size ≤ 9223372036854775807) :
    Calls Tryd.prog 59 #[.string s] w fun e w' => e = .returned (.bool (goodL s.data.toList)) ∧ Below w.heap.size w w' := by
  by_cases h : s.size ≤ 32
  · exact rgood_in s w h
  · rw [good_long s h]
    refine (rgood_out s w hs h).mono ?_
    rintro e w' ⟨rfl, rfl⟩
    exact ⟨rfl, Below.refl _ _⟩
set_option maxHeartbeats 400000 in
theorem rplace_any (s : ByteArray) (w : World) (hs : s.size ≤ 9223372036854775807) :
    Calls Tryd.prog 49 #[.string s] w fun e w' => e = .returned (.bool (placeL s.data.toList)) ∧ Below w.heap.size w w' := by
  by_cases h : s.data.toList = []
  · obtain rfl : s = ⟨#[]⟩ := str_inj.1 h
    go_enter Tryd.func49, Tryd.ntmps49
    go_wp2
    go_ret
    exact ⟨rfl, Below.refl _ _⟩
  · have j0 := toList_nil h
    have j1 := toList_ne h
    have HG := rgood_any s w hs
    have HP : Hid (placeL s.data.toList = goodL s.data.toList) := by show _ = _; simp only [placeL, h, decide_false, Bool.false_or]
    generalize goodL s.data.toList = G at *
    go_enter Tryd.func49, Tryd.ntmps49
    go_wp2_with (go_at_call 59; refine HG.mono ?_; rintro e w3 ⟨rfl, hb3⟩)
    go_ret
    exact ⟨ret_bool HP.out.symm, hb3⟩
end Go.Proofs.YtcmdcmbiilfngabDoor.Pt
