/- The document's side: its Same, Covers and Meet. -/
import Derived.Test.YtcmdcmbiilfngaaDoorPR
import Derived.BigQuiet
import Derived.Deep.QuietTactic
namespace Go.Proofs.YtcmdcmbiilfngaaDoor.Pt
open Go.RowKit
def preT (a b : List ByteArray) (k : Nat) : Prop := a.take k = b.take k
theorem preT_step {a b : List ByteArray} {k : Nat} (h : preT a b k) (ha : k < a.length) (hb : k < b.length) (e : a[k] = b[k]) : preT a b (k + 1) := by
  unfold preT at *
  rw [List.take_succ_eq_append_getElem ha, List.take_succ_eq_append_getElem hb, h, e]
theorem prefix_take {a b : List (List UInt8)} : a.isPrefixOf b = decide (a = b.take a.length) := by
  rw [Bool.eq_iff_iff, List.isPrefixOf_iff_prefix, decide_eq_true_eq, List.prefix_iff_eq_take]
theorem prefix_long {a b : List (List UInt8)} (h : b.length < a.length) : a.isPrefixOf b = false := by
  cases e : a.isPrefixOf b with
  | false => rfl
  | true => have := (List.isPrefixOf_iff_prefix.1 e).length_le; omega
theorem prefix_differ {a b : List (List UInt8)} (k : Nat) (ha : k < a.length) (hb : k < b.length) (h : ¬ a[k] = b[k]) : a.isPrefixOf b = false := by
  cases e : a.isPrefixOf b with
  | false => rfl
  | true =>
    obtain ⟨t, rfl⟩ := List.isPrefixOf_iff_prefix.1 e
    exact absurd (List.getElem_append_left ha).symm h
set_option maxRecDepth 100000 in
set_option maxHeartbeats 2000000 in
theorem rcovers_any (a b : ByteArray) (w : World) (ha : a.size ≤ 9223372036854775807) (hb : b.size ≤ 9223372036854775807) :
    Calls Tryd.prog 43 #[.string a, .string b] w fun e w' => e = .returned (.bool (coversL a.data.toList b.data.toList)) ∧ Below w.heap.size w w' := by
  have HPA := rplace_any a w ha
  have HPB : Hid (∀ W, Below w.heap.size w W → Calls Tryd.prog 42 #[.string b] W fun e w' => e = .returned (.bool (placeL b.data.toList)) ∧ Below w.heap.size w w') := by
    intro W hW
    refine (rplace_any b W hb).mono ?_
    rintro e w' ⟨rfl, h⟩
    exact ⟨rfl, hW.trans (h.mono hW.size)⟩
  cases pa : placeL a.data.toList with
  | false =>
    have HT : Hid (coversL a.data.toList b.data.toList = false) := by show _ = _; simp only [coversL, pa, Bool.false_and]
    rw [pa] at HPA
    clear pa
    go_enter Tryd.func43, Tryd.ntmps43
    go_wp2_with (go_at_call 42; refine HPA.mono ?_; rintro e w3 ⟨rfl, hb3⟩)
    go_ret
    exact ⟨ret_bool HT.out.symm, hb3⟩
  | true =>
    rw [pa] at HPA
    cases pb : placeL b.data.toList with
    | false =>
      have HT : Hid (coversL a.data.toList b.data.toList = false) := by show _ = _; simp only [coversL, pb, Bool.and_false, Bool.false_and]
      rw [pb] at HPB
      clear pb pa
      go_enter Tryd.func43, Tryd.ntmps43
      go_wp2_with fail
      refine HPA.mono ?_
      rintro e w3 ⟨rfl, hb3⟩
      have HB3 := HPB.out w3 hb3
      go_wp2_with fail
      refine HB3.mono ?_
      rintro e w4 ⟨rfl, hb4⟩
      go_wp2
      go_ret
      exact ⟨ret_bool HT.out.symm, hb4⟩
    | true =>
      rw [pb] at HPB
      by_cases h0 : a.data.toList = []
      · obtain rfl : a = ⟨#[]⟩ := str_inj.1 h0
        have HT : Hid (coversL (⟨#[]⟩ : ByteArray).data.toList b.data.toList = true) := by show _ = _; exact (covers_nil _).trans pb
        clear h0 pa pb
        go_enter Tryd.func43, Tryd.ntmps43
        go_wp2_with fail
        refine HPA.mono ?_
        rintro e w3 ⟨rfl, hb3⟩
        have HB3 := HPB.out w3 hb3
        go_wp2_with fail
        refine HB3.mono ?_
        rintro e w4 ⟨rfl, hb4⟩
        go_wp2
        go_ret
        exact ⟨ret_bool HT.out.symm, hb4⟩
      · have j0 := toList_nil h0
        have j1 := toList_ne h0
        have hga : goodL a.data.toList = true := by
          rcases place_iff.1 pa with h | h
          · exact absurd h h0
          · exact h
        have HCP : Hid (coversL a.data.toList b.data.toList = (partsL a.data.toList).isPrefixOf (partsL b.data.toList)) := covers_parts hga pb
        have HQA : Hid (∀ W, Below w.heap.size w W → Calls Tryd.prog 59 #[.string a] W fun e w' => ∃ la lc, e = .returned (.slice la (partsL a.data.toList).length lc) ∧ Ss w' la (partsL a.data.toList).length lc ((partsL a.data.toList).map strOf) ∧ Below w.heap.size w w') := by
          intro W hW
          refine (rparts_any a W ha).mono ?_
          rintro e w' ⟨la, lc, rfl, hss, h⟩
          exact ⟨la, lc, rfl, hss, hW.trans (h.mono hW.size)⟩
        have HQB : Hid (∀ W, Below w.heap.size w W → Calls Tryd.prog 59 #[.string b] W fun e w' => ∃ la lc, e = .returned (.slice la (partsL b.data.toList).length lc) ∧ Ss w' la (partsL b.data.toList).length lc ((partsL b.data.toList).map strOf) ∧ Below W.heap.size W w' ∧ Below w.heap.size w w') := by
          intro W hW
          refine (rparts_any b W hb).mono ?_
          rintro e w' ⟨la, lc, rfl, hss, h⟩
          exact ⟨la, lc, rfl, hss, h, hW.trans (h.mono hW.size)⟩
        have hA0 : 0 < (partsL a.data.toList).length := by rw [parts_good hga]; exact List.length_pos_iff.2 (cutL_ne _)
        have hA1 : (partsL a.data.toList).length ≤ 33 := by
          rw [parts_good hga]
          have := cut_count a.data.toList
          have := good_size hga
          rw [len_size] at *
          omega
        have hB1 : (partsL b.data.toList).length ≤ 33 := by
          unfold partsL
          split
          · rename_i hgb
            have := cut_count b.data.toList
            have := good_size hgb
            rw [len_size] at *
            omega
          · simp
        generalize coversL a.data.toList b.data.toList = CV at *
        generalize partsL a.data.toList = A at *
        generalize partsL b.data.toList = B at *
        obtain ⟨N, hN⟩ : ∃ N, A.length = N := ⟨_, rfl⟩
        obtain ⟨M, hM⟩ : ∃ M, B.length = M := ⟨_, rfl⟩
        rw [hN] at HQA hA0 hA1
        rw [hM] at HQB hB1
        have HAN : Hid (A.length = N) := hN
        have HBM : Hid (B.length = M) := hM
        clear h0 pa pb hga hN hM
        go_enter Tryd.func43, Tryd.ntmps43
        go_wp2_with fail
        refine HPA.mono ?_
        rintro e w3 ⟨rfl, hb3⟩
        have HB3 := HPB.out w3 hb3
        go_wp2_with fail
        refine HB3.mono ?_
        rintro e w4 ⟨rfl, hb4⟩
        have HQ4 := HQA.out w4 hb4
        go_wp2_with fail
        refine HQ4.mono ?_
        rintro e w5 ⟨la, lc, rfl, hsa, hb5⟩
        have HQ5 := HQB.out w5 hb5
        go_wp2_with fail
        refine HQ5.mono ?_
        rintro e w6 ⟨lb, ld, rfl, hsb, hb56, hb6⟩
        have hsa6 := hsa.on hb56
        clear HB3 HQ4 HQ5 hsa HPA HPB HQA HQB
        by_cases hNM : M < N
        · have hi : (M : Int) < (N : Int) := by omega
          have HF : Hid (CV = false) := by show _ = _; rw [HCP.out]; exact prefix_long (by rw [HAN.out, HBM.out]; exact hNM)
          go_wp2
          go_ret
          exact ⟨ret_bool HF.out.symm, hb6⟩
        · have hi : ¬ (M : Int) < (N : Int) := by omega
          obtain ⟨b1, o1, rfl, c1⟩ := hsa6.at hA0
          obtain ⟨b2, o2, rfl, c2⟩ := hsb.at (by omega)
          have H1 : Hid (∀ i (h : i < A.length), w6.cell? ⟨b1, o1 + i, none⟩ = some (.string (strOf A[i]))) := fun i h => by have := c1 i (by simpa using h); simpa using this
          have H2 : Hid (∀ i (h : i < B.length), w6.cell? ⟨b2, o2 + i, none⟩ = some (.string (strOf B[i]))) := fun i h => by have := c2 i (by simpa using h); simpa using this
          clear c1 c2 hsa6 hsb
          go_wp2
          go_loopw [7] (fun i wr => ∃ k : Nat, i = .int .i64 (k : Int) ∧ k ≤ N ∧ A.take k = B.take k ∧ Below w6.heap.size w6 wr) (fun i _ => N - (intOf i).toNat)
          case atStart => exact ⟨0, rfl, by omega, rfl, Below.refl _ _⟩
          case round =>
            obtain ⟨k, rfl, hk, htk, hbr⟩ := hrel
            have HTK : Hid (A.take k = B.take k) := htk
            clear htk
            by_cases hlt : k < N
            · have hka : k < A.length := by rw [HAN.out]; exact hlt
              have hkb : k < B.length := by rw [HBM.out]; omega
              have q1 := H1.out k hka
              have q2 := H2.out k hkb
              have r1 : wr.cell? ⟨b1, o1 + k, none⟩ = some (.string (strOf A[k])) := by rw [hbr.cell (World.block_lt_of_cell? w6 _ q1)]; exact q1
              have r2 : wr.cell? ⟨b2, o2 + k, none⟩ = some (.string (strOf B[k])) := by rw [hbr.cell (World.block_lt_of_cell? w6 _ q2)]; exact q2
              have hki : (k : Int) < (N : Int) := by omega
              have hkm : (k : Int) < (M : Int) := by omega
              clear q1 q2
              by_cases he : A[k] = B[k]
              · have HST : Hid (A.take (k + 1) = B.take (k + 1)) := by
                  show _ = _
                  rw [List.take_succ_eq_append_getElem hka, List.take_succ_eq_append_getElem hkb, HTK.out, he]
                rw [← he] at r2
                generalize strOf A[k] = x at r1 r2
                clear he
                go_wp2
                go_quiet (fail)
                go_wp2
                go_roundw
                case rel => exact ⟨k + 1, by go_num, by omega, HST.out, below_drewN hbr _⟩
                case measure => simp [intOf]; omega
              · have HF : Hid (CV = false) := by show _ = _; rw [HCP.out]; exact prefix_differ k hka hkb he
                have hne : ¬ strOf A[k] = strOf B[k] := fun e => he (strOf_inj.1 e)
                generalize strOf A[k] = x at r1 hne
                generalize strOf B[k] = y at r2 hne
                have j2 := str_nb hne
                have j3 := str_ne hne
                clear he hne
                go_wp2
                go_quiet (fail)
                go_wp2
                go_ret
                exact ⟨ret_bool HF.out.symm, hb6.trans ((below_drewN hbr _).mono hb6.size)⟩
            · have hki : ¬ (k : Int) < (N : Int) := by omega
              have HF : Hid (CV = true) := by
                show _ = _
                rw [HCP.out, prefix_take, decide_eq_true_eq, HAN.out]
                have := HTK.out
                rw [List.take_of_length_le (by rw [HAN.out]; omega), show k = N by omega] at this
                exact this
              go_wp2
              go_ret
              exact ⟨ret_bool HF.out.symm, hb6.trans (hbr.mono hb6.size)⟩
set_option maxHeartbeats 400000 in
theorem rmeet_any (a b : ByteArray) (w : World) (ha : a.size ≤ 9223372036854775807) (hb : b.size ≤ 9223372036854775807) :
    Calls Tryd.prog 37 #[.string a, .string b] w fun e w' => e = .returned (.tuple #[.string (strOf (meetL a.data.toList b.data.toList).1), .bool (meetL a.data.toList b.data.toList).2]) ∧ Below w.heap.size w w' := by
  have HAB := rcovers_any a b w ha hb
  cases h1 : coversL a.data.toList b.data.toList with
  | true =>
    rw [show meetL a.data.toList b.data.toList = (b.data.toList, true) by rw [meetL, if_pos h1]]
    rw [h1] at HAB
    clear h1
    go_enter Tryd.func37, Tryd.ntmps37
    go_wp2_with fail
    refine HAB.mono ?_
    rintro e w3 ⟨rfl, hb3⟩
    go_wp2
    go_ret2
    exact ⟨rfl, hb3⟩
  | false =>
    have HBA : Hid (∀ W, Below w.heap.size w W → Calls Tryd.prog 43 #[.string b, .string a] W fun e w' => e = .returned (.bool (coversL b.data.toList a.data.toList)) ∧ Below w.heap.size w w') := by
      intro W hW
      refine (rcovers_any b a W hb ha).mono ?_
      rintro e w' ⟨rfl, h⟩
      exact ⟨rfl, hW.trans (h.mono hW.size)⟩
    rw [h1] at HAB
    cases h2 : coversL b.data.toList a.data.toList with
    | true =>
      rw [show meetL a.data.toList b.data.toList = (a.data.toList, true) by rw [meetL, if_neg (by simp [h1]), if_pos h2]]
      rw [h2] at HBA
      clear h1 h2
      go_enter Tryd.func37, Tryd.ntmps37
      go_wp2_with fail
      refine HAB.mono ?_
      rintro e w3 ⟨rfl, hb3⟩
      have HB3 := HBA.out w3 hb3
      go_wp2_with fail
      refine HB3.mono ?_
      rintro e w4 ⟨rfl, hb4⟩
      go_wp2
      go_ret2
      exact ⟨rfl, hb4⟩
    | false =>
      rw [show meetL a.data.toList b.data.toList = ([], false) by rw [meetL, if_neg (by simp [h1]), if_neg (by simp [h2])]]
      rw [h2] at HBA
      clear h1 h2
      go_enter Tryd.func37, Tryd.ntmps37
      go_wp2_with fail
      refine HAB.mono ?_
      rintro e w3 ⟨rfl, hb3⟩
      have HB3 := HBA.out w3 hb3
      go_wp2_with fail
      refine HB3.mono ?_
      rintro e w4 ⟨rfl, hb4⟩
      go_wp2
      go_ret2
      exact ⟨rfl, hb4⟩
end Go.Proofs.YtcmdcmbiilfngaaDoor.Pt
