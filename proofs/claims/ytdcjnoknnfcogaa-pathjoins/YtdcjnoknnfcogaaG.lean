/- Walks over the program's Meet and Moved, and over the statements' short and lives. -/
import Derived.Test.YtdcjnoknnfcogaaE
namespace Go.Proofs.Ytdcjnoknnfcogaa
open Go.RowKit
set_option maxHeartbeats 400000 in
theorem meet_any (a b : ByteArray) (w : World) (ha : a.size ≤ 9223372036854775807) (hb : b.size ≤ 9223372036854775807) :
    Calls Try.prog 24 #[.string a, .string b] w fun e w' => e = .returned (.tuple #[.string (strOf (meetL a.data.toList b.data.toList).1), .bool (meetL a.data.toList b.data.toList).2]) ∧ Below w.heap.size w w' := by
  have HAB := covers_any a b w ha hb
  cases h1 : coversL a.data.toList b.data.toList with
  | true =>
    rw [show meetL a.data.toList b.data.toList = (b.data.toList, true) by rw [meetL, if_pos h1]]
    rw [h1] at HAB
    clear h1
    go_enter Try.func24, Try.ntmps24
    go_wp2_with fail
    refine HAB.mono ?_
    rintro e w3 ⟨rfl, hb3⟩
    go_wp2
    go_ret2
    exact ⟨rfl, hb3⟩
  | false =>
    have HBA : Hid (∀ W, Below w.heap.size w W → Calls Try.prog 26 #[.string b, .string a] W fun e w' => e = .returned (.bool (coversL b.data.toList a.data.toList)) ∧ Below w.heap.size w w') := by
      intro W hW
      refine (covers_any b a W hb ha).mono ?_
      rintro e w' ⟨rfl, h⟩
      exact ⟨rfl, hW.trans (h.mono hW.size)⟩
    rw [h1] at HAB
    cases h2 : coversL b.data.toList a.data.toList with
    | true =>
      rw [show meetL a.data.toList b.data.toList = (a.data.toList, true) by rw [meetL, if_neg (by simp [h1]), if_pos h2]]
      rw [h2] at HBA
      clear h1 h2
      go_enter Try.func24, Try.ntmps24
      go_wp2_with fail
      refine HAB.mono ?_
      rintro e w3 ⟨rfl, hb3⟩
      have HB3 := HBA.out w3 hb3
      go_wp2_with fail
      refine HB3.mono ?_
      rintro e w4 ⟨rfl, hb4⟩
      go_wp2
      go_ret2
      exact ⟨rfl, hb4⟩
    | false =>
      rw [show meetL a.data.toList b.data.toList = ([], false) by rw [meetL, if_neg (by simp [h1]), if_neg (by simp [h2])]]
      rw [h2] at HBA
      clear h1 h2
      go_enter Try.func24, Try.ntmps24
      go_wp2_with fail
      refine HAB.mono ?_
      rintro e w3 ⟨rfl, hb3⟩
      have HB3 := HBA.out w3 hb3
      go_wp2_with fail
      refine HB3.mono ?_
      rintro e w4 ⟨rfl, hb4⟩
      go_wp2
      go_ret2
      exact ⟨rfl, hb4⟩
theorem covers_len {f p : List UInt8} (h : coversL f p = true) : f.length ≤ p.length := by
  rw [covers_iff] at h
  rcases h.2.2 with rfl | rfl | ⟨r, rfl⟩
  · simp
  · simp
  · simp
theorem moved_no {p f t : List UInt8} (h : movesB p f t = false) : movedL p f t = ([], 1) := by rw [movedL, if_neg (by simp [h])]
set_option maxRecDepth 100000 in
set_option maxHeartbeats 1000000 in
theorem moved_any (p f t : ByteArray) (w : World) (hp : p.size ≤ 9223372036854775807) (hf : f.size ≤ 9223372036854775807) (ht : t.size ≤ 9223372036854775807) :
    Calls Try.prog 28 #[.string p, .string f, .string t] w fun e w' => e = .returned (.tuple #[.string (strOf (movedL p.data.toList f.data.toList t.data.toList).1), .int .i64 ((movedL p.data.toList f.data.toList t.data.toList).2 : Int)]) ∧ Below w.heap.size w w' := by
  have HP := good_any p w hp
  have HGA : Hid (∀ (s : ByteArray) (hs : s.size ≤ 9223372036854775807) (W : World), Below w.heap.size w W → Calls Try.prog 13 #[.string s] W fun e w' => e = .returned (.bool (goodL s.data.toList)) ∧ Below w.heap.size w w') := by
    intro s hs W hW
    refine (good_any s W hs).mono ?_
    rintro e w' ⟨rfl, h⟩
    exact ⟨rfl, hW.trans (h.mono hW.size)⟩
  cases gp : goodL p.data.toList with
  | false =>
    rw [moved_no (show movesB p.data.toList f.data.toList t.data.toList = false by simp [movesB, gp])]
    rw [gp] at HP
    clear gp HGA
    go_enter Try.func28, Try.ntmps28
    go_wp2_with fail
    refine HP.mono ?_
    rintro e w3 ⟨rfl, hb3⟩
    go_wp2
    go_ret2
    exact ⟨rfl, hb3⟩
  | true =>
    rw [gp] at HP
    have HF : Hid _ := HGA.out f hf
    cases gf : goodL f.data.toList with
    | false =>
      rw [moved_no (show movesB p.data.toList f.data.toList t.data.toList = false by simp [movesB, gf])]
      rw [gf] at HF
      clear gp gf HGA
      go_enter Try.func28, Try.ntmps28
      go_wp2_with fail
      refine HP.mono ?_
      rintro e w3 ⟨rfl, hb3⟩
      have HF3 := HF.out w3 hb3
      go_wp2_with fail
      refine HF3.mono ?_
      rintro e w4 ⟨rfl, hb4⟩
      go_wp2
      go_ret2
      exact ⟨rfl, hb4⟩
    | true =>
      rw [gf] at HF
      have HT : Hid _ := HGA.out t ht
      cases gt : goodL t.data.toList with
      | false =>
        rw [moved_no (show movesB p.data.toList f.data.toList t.data.toList = false by simp [movesB, gt])]
        rw [gt] at HT
        clear gp gf gt HGA
        go_enter Try.func28, Try.ntmps28
        go_wp2_with fail
        refine HP.mono ?_
        rintro e w3 ⟨rfl, hb3⟩
        have HF3 := HF.out w3 hb3
        go_wp2_with fail
        refine HF3.mono ?_
        rintro e w4 ⟨rfl, hb4⟩
        have HT4 := HT.out w4 hb4
        go_wp2_with fail
        refine HT4.mono ?_
        rintro e w5 ⟨rfl, hb5⟩
        go_wp2
        go_ret2
        exact ⟨rfl, hb5⟩
      | true =>
        rw [gt] at HT
        have HC : Hid (∀ W, Below w.heap.size w W → Calls Try.prog 26 #[.string f, .string p] W fun e w' => e = .returned (.bool (coversL f.data.toList p.data.toList)) ∧ Below w.heap.size w w') := by
          intro W hW
          refine (covers_any f p W hf hp).mono ?_
          rintro e w' ⟨rfl, h⟩
          exact ⟨rfl, hW.trans (h.mono hW.size)⟩
        cases gc : coversL f.data.toList p.data.toList with
        | false =>
          rw [moved_no (show movesB p.data.toList f.data.toList t.data.toList = false by simp [movesB, gc])]
          rw [gc] at HC
          clear gp gf gt gc HGA
          go_enter Try.func28, Try.ntmps28
          go_wp2_with fail
          refine HP.mono ?_
          rintro e w3 ⟨rfl, hb3⟩
          have HF3 := HF.out w3 hb3
          go_wp2_with fail
          refine HF3.mono ?_
          rintro e w4 ⟨rfl, hb4⟩
          have HT4 := HT.out w4 hb4
          go_wp2_with fail
          refine HT4.mono ?_
          rintro e w5 ⟨rfl, hb5⟩
          have HC5 := HC.out w5 hb5
          go_wp2_with fail
          refine HC5.mono ?_
          rintro e w6 ⟨rfl, hb6⟩
          go_wp2
          go_ret2
          exact ⟨rfl, hb6⟩
        | true =>
          have hm : movesB p.data.toList f.data.toList t.data.toList = true := moves_iff.2 ⟨gp, gf, gt, gc⟩
          have hzt := good_size gt
          have hzp := good_size gp
          have hzf : f.size ≤ p.size := by have := covers_len gc; rwa [len_size, len_size] at this
          have q1 : (f.size : Int) ≤ (p.size : Int) := by omega
          have hx := extract_end p f.size p.size (Nat.le_refl _)
          have hxs : (p.extract f.size p.size).size ≤ 32 := by rw [hx, strOf_size, List.length_drop, len_size]; omega
          obtain ⟨X, hX⟩ : ∃ X, p.extract f.size p.size = X := ⟨_, rfl⟩
          rw [hX] at hxs hx
          have hnov : ¬ (9223372036854775807 < t.size + X.size) := by omega
          obtain ⟨M, hM⟩ : ∃ M, t ++ X = M := ⟨_, rfl⟩
          have hMs : M.size ≤ 64 := by rw [← hM, ByteArray.size_append]; omega
          have hMl : M.data.toList = t.data.toList ++ p.data.toList.drop f.data.toList.length := by rw [← hM, hx, len_size]; simp [strOf]
          have HM := HGA.out M (by omega)
          rw [gc] at HC
          have HMV : Hid (movedL p.data.toList f.data.toList t.data.toList = if goodL M.data.toList = true then (M.data.toList, 0) else ([], 2)) := by
            show _ = _
            rw [movedL, if_pos hm, ← hMl]
          cases gm : goodL M.data.toList with
          | true =>
            rw [gm] at HM HMV
            have HHM : Hid _ := HM
            have HR : Hid (movedL p.data.toList f.data.toList t.data.toList = (M.data.toList, 0)) := by show _ = _; rw [HMV.out]; rfl
            rw [HR.out]
            clear gp gf gt gc gm HGA hm hx hMl HMV HM
            go_enter Try.func28, Try.ntmps28
            go_wp2_with fail
            refine HP.mono ?_
            rintro e w3 ⟨rfl, hb3⟩
            have HF3 := HF.out w3 hb3
            go_wp2_with fail
            refine HF3.mono ?_
            rintro e w4 ⟨rfl, hb4⟩
            have HT4 := HT.out w4 hb4
            go_wp2_with fail
            refine HT4.mono ?_
            rintro e w5 ⟨rfl, hb5⟩
            have HC5 := HC.out w5 hb5
            go_wp2_with fail
            refine HC5.mono ?_
            rintro e w6 ⟨rfl, hb6⟩
            have HM6 := HHM.out w6 hb6
            go_wp2_with fail
            refine HM6.mono ?_
            rintro e w7 ⟨rfl, hb7⟩
            go_wp2
            go_ret2
            exact ⟨rfl, hb7⟩
          | false =>
            rw [gm] at HM HMV
            have HHM : Hid _ := HM
            have HR : Hid (movedL p.data.toList f.data.toList t.data.toList = ([], 2)) := by show _ = _; rw [HMV.out]; rfl
            rw [HR.out]
            clear gp gf gt gc gm HGA hm hx hMl HMV HM
            go_enter Try.func28, Try.ntmps28
            go_wp2_with fail
            refine HP.mono ?_
            rintro e w3 ⟨rfl, hb3⟩
            have HF3 := HF.out w3 hb3
            go_wp2_with fail
            refine HF3.mono ?_
            rintro e w4 ⟨rfl, hb4⟩
            have HT4 := HT.out w4 hb4
            go_wp2_with fail
            refine HT4.mono ?_
            rintro e w5 ⟨rfl, hb5⟩
            have HC5 := HC.out w5 hb5
            go_wp2_with fail
            refine HC5.mono ?_
            rintro e w6 ⟨rfl, hb6⟩
            have HM6 := HHM.out w6 hb6
            go_wp2_with fail
            refine HM6.mono ?_
            rintro e w7 ⟨rfl, hb7⟩
            go_wp2
            go_ret2
            exact ⟨rfl, hb7⟩
/-- Are texts so short that they are gone through? -/
def shortB (ss : List ByteArray) : Bool := ss.all fun s => decide (s.size ≤ 2000)
theorem shortB_snoc (ss : List ByteArray) (k : Nat) (h : k < ss.length) : shortB (ss.take (k + 1)) = (shortB (ss.take k) && decide ((ss[k]).size ≤ 2000)) := by
  unfold shortB
  rw [List.take_succ_eq_append_getElem h, List.all_append]
  simp
theorem shortB_no (ss : List ByteArray) (k : Nat) (h : k < ss.length) (hn : ¬ (ss[k]).size ≤ 2000) : shortB ss = false := by
  unfold shortB
  rw [List.all_eq_false]
  exact ⟨ss[k], List.getElem_mem h, by simpa using hn⟩
set_option maxHeartbeats 400000 in
theorem short_in (b off len cap : Nat) (ss : List ByteArray) (w : World) (hl : ss.length = len) (hlm : len ≤ 9223372036854775807)
    (hcell : ∀ i (h : i < ss.length), w.cell? ⟨b, off + i, none⟩ = some (.string ss[i])) (hs : ∀ i (h : i < ss.length), (ss[i]).size ≤ 9223372036854775807) :
    Calls Try.prog 9 #[.slice (some ⟨b, off, none⟩) len cap] w fun e w' => e = .returned (.bool (shortB ss)) ∧ w' = w := by
  have HL : Hid (ss.length = len) := hl
  have HS : Hid (∀ i (h : i < ss.length), (ss[i]).size ≤ 9223372036854775807) := hs
  have HC : Hid (∀ i (h : i < ss.length), w.cell? ⟨b, off + i, none⟩ = some (.string ss[i])) := hcell
  clear hl hs hcell
  go_enter Try.func9, Try.ntmps9
  go_wp2
  go_loop [3] (fun i => ∃ k : Nat, k ≤ len ∧ i = .int .i64 (k : Int) ∧ shortB (ss.take k) = true) (fun i => len - (intOf i).toNat)
  case atStart => exact ⟨0, by omega, rfl, rfl⟩
  case round =>
    obtain ⟨k, hk, rfl, hsh⟩ := hrel
    have HK : Hid (shortB (ss.take k) = true) := hsh
    clear hsh
    by_cases hlt : k < len
    · have hlt' : k < ss.length := by have := HL.out; omega
      have hc := HC.out k hlt'
      have hsz := HS.out k hlt'
      have HSN : Hid _ := shortB_snoc ss k hlt'
      have HNO : Hid _ := shortB_no ss k hlt'
      generalize ss[k] = x at *
      have hki : (k : Int) < (len : Int) := by omega
      by_cases h2 : x.size ≤ 2000
      · have h2' : ¬ (2000 : Int) < (x.size : Int) := by omega
        go_wp2
        go_round
        case rel => exact ⟨k + 1, by omega, by go_num, by rw [HSN.out, HK.out]; simp [h2]⟩
        case measure => simp [intOf]; omega
      · have h2' : (2000 : Int) < (x.size : Int) := by omega
        have HF : Hid (shortB ss = false) := HNO.out h2
        clear HNO
        go_wp2
        go_ret
        exact ⟨ret_bool HF.out.symm, rfl⟩
    · have HE : Hid (shortB ss = true) := by
        have := HK.out
        rw [List.take_of_length_le (by have := HL.out; omega)] at this
        exact this
      go_wp2
      go_ret
      exact ⟨ret_bool HE.out.symm, rfl⟩
set_option maxHeartbeats 400000 in
theorem short_zero (cap : Nat) (a : Option Addr) (w : World) :
    Calls Try.prog 9 #[.slice a 0 cap] w fun e w' => e = .returned (.bool true) ∧ w' = w := by
  go_enter Try.func9, Try.ntmps9
  go_wp2
  refine wp_loop_rounds 1 ?_
  rw [rounds_succ]
  go_wp2
  go_ret
  exact ⟨rfl, rfl⟩
theorem short_any (a : Option Addr) (len cap : Nat) (ss : List ByteArray) (w : World) (h : Ss w a len cap ss) (hs : ∀ i (h : i < ss.length), (ss[i]).size ≤ 9223372036854775807) :
    Calls Try.prog 9 #[.slice a len cap] w fun e w' => e = .returned (.bool (shortB ss)) ∧ w' = w := by
  by_cases h0 : 0 < len
  · obtain ⟨b, off, rfl, hc⟩ := h.at h0
    exact short_in b off len cap ss w h.1 (Nat.le_trans h.2.1 h.2.2.1) hc hs
  · obtain rfl : len = 0 := by omega
    have e : ss = [] := List.eq_nil_of_length_eq_zero h.1
    subst e
    exact short_zero cap a w
set_option maxRecDepth 100000 in
set_option maxHeartbeats 1000000 in
theorem lives_any (w : World) :
    Calls Try.prog 10 #[] w fun e w' => e = .returned (.bool true) ∧ Below w.heap.size w w' := by
  have HM := moved_any ⟨#[97, 47, 98]⟩ ⟨#[97]⟩ ⟨#[120]⟩ w (by decide) (by decide) (by decide)
  rw [show movedL (⟨#[97, 47, 98]⟩ : ByteArray).data.toList (⟨#[97]⟩ : ByteArray).data.toList (⟨#[120]⟩ : ByteArray).data.toList = ([120, 47, 98], 0) by decide +kernel, show strOf ([120, 47, 98], (0 : Nat)).1 = ⟨#[120, 47, 98]⟩ from rfl] at HM
  have HE : Hid (∀ W, Below w.heap.size w W → Calls Try.prog 24 #[.string ⟨#[97]⟩, .string ⟨#[97, 47, 98]⟩] W fun e w' => e = .returned (.tuple #[.string ⟨#[97, 47, 98]⟩, .bool true]) ∧ Below w.heap.size w w') := by
    intro W hW
    have h := meet_any ⟨#[97]⟩ ⟨#[97, 47, 98]⟩ W (by decide) (by decide)
    rw [show meetL (⟨#[97]⟩ : ByteArray).data.toList (⟨#[97, 47, 98]⟩ : ByteArray).data.toList = ([97, 47, 98], true) by decide +kernel] at h
    refine h.mono ?_
    rintro e w' ⟨rfl, h⟩
    exact ⟨rfl, hW.trans (h.mono hW.size)⟩
  have HP : Hid (∀ W, Below w.heap.size w W → Calls Try.prog 18 #[.string ⟨#[97, 47, 98, 46, 99]⟩] W fun e w' => ∃ a cap, e = .returned (.slice a 2 cap) ∧ Below w.heap.size w w') := by
    intro W hW
    have h := parts_any ⟨#[97, 47, 98, 46, 99]⟩ W (by decide)
    rw [show partsL (⟨#[97, 47, 98, 46, 99]⟩ : ByteArray).data.toList = [[97], [98, 46, 99]] by decide +kernel] at h
    refine h.mono ?_
    rintro e w' ⟨a, cap, rfl, _, h⟩
    exact ⟨a, cap, rfl, hW.trans (h.mono hW.size)⟩
  have HG : Hid (∀ W, Below w.heap.size w W → Calls Try.prog 13 #[.string ⟨#[97, 47, 47, 98]⟩] W fun e w' => e = .returned (.bool false) ∧ Below w.heap.size w w') := by
    intro W hW
    have h := good_any ⟨#[97, 47, 47, 98]⟩ W (by decide)
    rw [show goodL (⟨#[97, 47, 47, 98]⟩ : ByteArray).data.toList = false by decide +kernel] at h
    refine h.mono ?_
    rintro e w' ⟨rfl, h⟩
    exact ⟨rfl, hW.trans (h.mono hW.size)⟩
  go_enter Try.func10, Try.ntmps10
  go_wp2_with fail
  refine HM.mono ?_
  rintro e w3 ⟨rfl, hb3⟩
  have HE3 := HE.out w3 hb3
  go_wp2_with fail
  refine HE3.mono ?_
  rintro e w4 ⟨rfl, hb4⟩
  have HP4 := HP.out w4 hb4
  go_wp2_with fail
  refine HP4.mono ?_
  rintro e w5 ⟨la, lc, rfl, hb5⟩
  have HG5 := HG.out w5 hb5
  go_wp2_with fail
  refine HG5.mono ?_
  rintro e w6 ⟨rfl, hb6⟩
  go_wp2
  go_ret
  exact ⟨rfl, hb6⟩
/-- What the statements' lives answers, behind whatever was made since. -/
theorem lives_on {w W : World} (hW : Below w.heap.size w W) : Calls Try.prog 10 #[] W fun e w' => e = .returned (.bool true) ∧ Below w.heap.size w w' := by
  refine (lives_any W).mono ?_
  rintro e w' ⟨rfl, hb⟩
  exact ⟨rfl, hW.trans (hb.mono hW.size)⟩
end Go.Proofs.Ytdcjnoknnfcogaa
