/- Walks over strings.HasPrefix, and over the program's Covers, Meet and Moved. Walks over the program's Meet and Moved, and over the statements' short and lives. -/
import Derived.Test.YtcmdcmbiilfngaaDoorPD
namespace Go.Proofs.YtcmdcmbiilfngaaDoor.Pt
open Go.RowKit
set_option maxHeartbeats 400000 in
theorem hasPrefix_any (s p : ByteArray) (w : World) (_hs : s.size ≤ 9223372036854775807) (_hp : p.size ≤ 9223372036854775807) :
    Calls Tryd.prog 57 #[.string s, .string p] w fun e w' => e = .returned (.bool (p.data.toList.isPrefixOf s.data.toList)) ∧ w' = w := by
  by_cases hlt : p.size ≤ s.size
  · have hx := extract_str s 0 p.size
    have hb : ((s.extract 0 p.size).toList == p.toList) = p.data.toList.isPrefixOf s.data.toList := by
      rw [ByteArray.toList_eq, ByteArray.toList_eq, hx, strOf_list, List.drop_zero, Nat.sub_zero, Bool.eq_iff_iff, List.isPrefixOf_iff_prefix, beq_iff_eq, ← len_size, List.prefix_iff_eq_take]
      exact eq_comm
    generalize p.data.toList.isPrefixOf s.data.toList = b at *
    have q1 : (p.size : Int) ≤ (s.size : Int) := by omega
    clear hx
    go_enter Tryd.func57, Tryd.ntmps57
    go_wp2
    go_ret
    exact ⟨rfl, rfl⟩
  · have hb : p.data.toList.isPrefixOf s.data.toList = false := by
      cases h : p.data.toList.isPrefixOf s.data.toList with
      | false => rfl
      | true =>
        have := (List.isPrefixOf_iff_prefix.1 h).length_le
        rw [len_size, len_size] at this
        omega
    rw [hb]
    have q1 : ¬ (p.size : Int) ≤ (s.size : Int) := by omega
    go_enter Tryd.func57, Tryd.ntmps57
    go_wp2
    go_ret
    exact ⟨rfl, rfl⟩
theorem place_size {s : ByteArray} (h : placeL s.data.toList = true) : s.size ≤ 32 := by
  rcases place_iff.1 h with h | h
  · rw [← len_size, h]; simp
  · exact good_size h
theorem one_size : (⟨#[47]⟩ : ByteArray).size = 1 := rfl
theorem slash_str (s : ByteArray) : (s ++ (⟨#[47]⟩ : ByteArray)).data.toList = s.data.toList ++ [47] := by simp
set_option maxRecDepth 100000 in
set_option maxHeartbeats 1000000 in
theorem covers_any (a b : ByteArray) (w : World) (ha : a.size ≤ 9223372036854775807) (hb : b.size ≤ 9223372036854775807) :
    Calls Tryd.prog 41 #[.string a, .string b] w fun e w' => e = .returned (.bool (coversL a.data.toList b.data.toList)) ∧ Below w.heap.size w w' := by
  have HPA := place_any a w ha
  have HPB : Hid (∀ W, Below w.heap.size w W → Calls Tryd.prog 40 #[.string b] W fun e w' => e = .returned (.bool (placeL b.data.toList)) ∧ Below w.heap.size w w') := by
    intro W hW
    refine (place_any b W hb).mono ?_
    rintro e w' ⟨rfl, h⟩
    exact ⟨rfl, hW.trans (h.mono hW.size)⟩
  have HCV : Hid (coversL a.data.toList b.data.toList = (placeL a.data.toList && placeL b.data.toList && (decide (a.data.toList = []) || decide (a.data.toList = b.data.toList) || preB a.data.toList b.data.toList))) := rfl
  have hza := place_size (s := a)
  cases pa : placeL a.data.toList with
  | false =>
    rw [pa] at HPA HCV
    clear hza pa
    go_enter Tryd.func41, Tryd.ntmps41
    go_wp2_with (go_at_call 40; refine HPA.mono ?_; rintro e w3 ⟨rfl, hb3⟩)
    go_ret
    exact ⟨ret_bool (by rw [HCV.out]; rfl), hb3⟩
  | true =>
    replace hza := hza pa
    rw [pa] at HPA HCV
    clear pa
    cases pb : placeL b.data.toList with
    | false =>
      rw [pb] at HPB HCV
      clear pb
      go_enter Tryd.func41, Tryd.ntmps41
      go_wp2_with fail
      refine HPA.mono ?_
      rintro e w3 ⟨rfl, hb3⟩
      have HB3 := HPB.out w3 hb3
      go_wp2_with fail
      refine HB3.mono ?_
      rintro e w4 ⟨rfl, hb4⟩
      go_wp2
      go_ret
      exact ⟨ret_bool (by rw [HCV.out]; rfl), hb4⟩
    | true =>
      rw [pb] at HPB HCV
      clear pb
      by_cases h0 : a.data.toList = []
      · obtain rfl : a = ⟨#[]⟩ := str_inj.1 h0
        have HT : Hid (coversL (⟨#[]⟩ : ByteArray).data.toList b.data.toList = true) := by show _ = _; rw [HCV.out]; rfl
        clear h0 HCV
        go_enter Tryd.func41, Tryd.ntmps41
        go_wp2_with fail
        refine HPA.mono ?_
        rintro e w3 ⟨rfl, hb3⟩
        have HB3 := HPB.out w3 hb3
        go_wp2_with fail
        refine HB3.mono ?_
        rintro e w4 ⟨rfl, hb4⟩
        go_wp2
        go_ret
        exact ⟨ret_bool HT.out.symm, hb4⟩
      · have j0 := toList_nil h0
        have j1 := toList_ne h0
        by_cases he : a = b
        · subst he
          have HT : Hid (coversL a.data.toList a.data.toList = true) := by show _ = _; rw [HCV.out]; simp
          clear h0 HCV
          go_enter Tryd.func41, Tryd.ntmps41
          go_wp2_with fail
          refine HPA.mono ?_
          rintro e w3 ⟨rfl, hb3⟩
          have HB3 := HPB.out w3 hb3
          go_wp2_with fail
          refine HB3.mono ?_
          rintro e w4 ⟨rfl, hb4⟩
          go_wp2
          go_ret
          exact ⟨ret_bool HT.out.symm, hb4⟩
        · have j2 := str_nb he
          have j3 := str_ne he
          have HHP : Hid (∀ W, Calls Tryd.prog 57 #[.string b, .string (a ++ ⟨#[47]⟩)] W fun e w' => e = .returned (.bool (preB a.data.toList b.data.toList)) ∧ w' = W) := by
            intro W
            have := hasPrefix_any b (a ++ ⟨#[47]⟩) W hb (by rw [ByteArray.size_append, one_size]; omega)
            rwa [slash_str] at this
          have HT : Hid (coversL a.data.toList b.data.toList = preB a.data.toList b.data.toList) := by
            show _ = _
            have e1 : decide (a.data.toList = []) = false := decide_eq_false h0
            have e2 : decide (a.data.toList = b.data.toList) = false := decide_eq_false (fun e => he (str_inj.1 e))
            rw [HCV.out, e1, e2]
            rfl
          have hnov : ¬ (9223372036854775807 < a.size + 1) := by omega
          have hnov2 : ¬ (9223372036854775807 < a.size + (⟨#[47]⟩ : ByteArray).size) := by rw [one_size]; omega
          generalize preB a.data.toList b.data.toList = r at *
          clear h0 HCV he
          go_enter Tryd.func41, Tryd.ntmps41
          go_wp2_with fail
          refine HPA.mono ?_
          rintro e w3 ⟨rfl, hb3⟩
          have HB3 := HPB.out w3 hb3
          go_wp2_with fail
          refine HB3.mono ?_
          rintro e w4 ⟨rfl, hb4⟩
          go_wp2_with fail
          refine (HHP.out _).mono ?_
          rintro e w5 ⟨rfl, h⟩
          subst w5
          go_wp2
          go_ret
          exact ⟨ret_bool HT.out.symm, hb4⟩
end Go.Proofs.YtcmdcmbiilfngaaDoor.Pt
namespace Go.Proofs.YtcmdcmbiilfngaaDoor.Pt
open Go.RowKit
set_option maxHeartbeats 400000 in
theorem meet_any (a b : ByteArray) (w : World) (ha : a.size ≤ 9223372036854775807) (hb : b.size ≤ 9223372036854775807) :
    Calls Tryd.prog 36 #[.string a, .string b] w fun e w' => e = .returned (.tuple #[.string (strOf (meetL a.data.toList b.data.toList).1), .bool (meetL a.data.toList b.data.toList).2]) ∧ Below w.heap.size w w' := by
  have HAB := covers_any a b w ha hb
  cases h1 : coversL a.data.toList b.data.toList with
  | true =>
    rw [show meetL a.data.toList b.data.toList = (b.data.toList, true) by rw [meetL, if_pos h1]]
    rw [h1] at HAB
    clear h1
    go_enter Tryd.func36, Tryd.ntmps36
    go_wp2_with fail
    refine HAB.mono ?_
    rintro e w3 ⟨rfl, hb3⟩
    go_wp2
    go_ret2
    exact ⟨rfl, hb3⟩
  | false =>
    have HBA : Hid (∀ W, Below w.heap.size w W → Calls Tryd.prog 41 #[.string b, .string a] W fun e w' => e = .returned (.bool (coversL b.data.toList a.data.toList)) ∧ Below w.heap.size w w') := by
      intro W hW
      refine (covers_any b a W hb ha).mono ?_
      rintro e w' ⟨rfl, h⟩
      exact ⟨rfl, hW.trans (h.mono hW.size)⟩
    rw [h1] at HAB
    cases h2 : coversL b.data.toList a.data.toList with
    | true =>
      rw [show meetL a.data.toList b.data.toList = (a.data.toList, true) by rw [meetL, if_neg (by simp [h1]), if_pos h2]]
      rw [h2] at HBA
      clear h1 h2
      go_enter Tryd.func36, Tryd.ntmps36
      go_wp2_with fail
      refine HAB.mono ?_
      rintro e w3 ⟨rfl, hb3⟩
      have HB3 := HBA.out w3 hb3
      go_wp2_with fail
      refine HB3.mono ?_
      rintro e w4 ⟨rfl, hb4⟩
      go_wp2
      go_ret2
      exact ⟨rfl, hb4⟩
    | false =>
      rw [show meetL a.data.toList b.data.toList = ([], false) by rw [meetL, if_neg (by simp [h1]), if_neg (by simp [h2])]]
      rw [h2] at HBA
      clear h1 h2
      go_enter Tryd.func36, Tryd.ntmps36
      go_wp2_with fail
      refine HAB.mono ?_
      rintro e w3 ⟨rfl, hb3⟩
      have HB3 := HBA.out w3 hb3
      go_wp2_with fail
      refine HB3.mono ?_
      rintro e w4 ⟨rfl, hb4⟩
      go_wp2
      go_ret2
      exact ⟨rfl, hb4⟩
theorem covers_len {f p : List UInt8} (h : coversL f p = true) : f.length ≤ p.length := by
  rw [covers_iff] at h
  rcases h.2.2 with rfl | rfl | ⟨r, rfl⟩
  · simp
  · simp
  · simp
end Go.Proofs.YtcmdcmbiilfngaaDoor.Pt
