/- Walks over the program's inName and Name. Walks over the program's split, Good, Place and Parts. -/
import Derived.Test.YtcmdcmbiilfngabDoorPA
namespace Go.Proofs.YtcmdcmbiilfngabDoor.Pt
open Go.RowKit
set_option maxHeartbeats 1000000 in
theorem inName_any (n : Nat) (w : World) (_hn : n ≤ 2147483647) :
    Calls Tryd.prog 70 #[.int .i32 (n : Int)] w fun e w' => e = .returned (.bool (okN n)) ∧ w' = w := by
  go_enter Tryd.func70, Tryd.ntmps70
  go_wp2
  all_goals
    go_ret
    exact ⟨ret_bool (by unfold okN; rw [Bool.eq_iff_iff]; simp; omega), rfl⟩
/-- Below a byte of 128 the iterator goes on byte by byte: what it has gone through. -/
theorem allB_snoc (l : List UInt8) (k : Nat) (c : UInt8) (h : l[k]? = some c) : allB (l.take (k + 1)) = (allB (l.take k) && okN c.toNat) := by
  unfold allB
  rw [List.take_add_one, h, List.all_append]
  simp
theorem allB_le (l : List UInt8) (k : Nat) (h : allB (l.take k) = false) : allB l = false := by
  unfold allB at *
  rw [← List.take_append_drop k l, List.all_append, h]
  rfl
theorem name_of_head {l : List UInt8} (h : headB l = true) : nameL l = allB l := by unfold nameL; rw [h]; rfl
theorem name_no {l : List UInt8} (h : headB l = false) : nameL l = false := by unfold nameL; rw [h]; rfl
theorem okN_high (n : Nat) (h : 128 ≤ n) : okN n = false := by unfold okN; simp; omega
set_option maxRecDepth 100000 in
set_option maxHeartbeats 1000000 in
theorem name_loop (s : ByteArray) (w : World) (h0 : s.data.toList ≠ []) (h1 : s.data.toList.length ≤ 12) (h2 : s.data.toList ≠ [46]) (h3 : s.data.toList ≠ [46, 46]) :
    Calls Tryd.prog 63 #[.string s] w fun e w' => e = .returned (.bool (allB s.data.toList)) ∧ Below w.heap.size w w' := by
  have j0 := toList_nil h0
  have j2 := toList_nb h2
  have j3 := toList_nb h3
  rw [len_size] at h1
  have k1 : ¬ (12 : Int) < (s.size : Int) := by omega
  clear h0 h2 h3
  go_enter Tryd.func63, Tryd.ntmps63
  go_wp2
  clear j0 j2 j3 k1
  go_loopw [2] (fun r wr => ∃ pos : Nat, r = .bool false ∧ pos ≤ s.size ∧ wr.heap[w.heap.size]? = some (.stringIter s pos) ∧ Below w.heap.size w wr ∧ allB (s.data.toList.take pos) = true) (fun _ wr => s.size - wr.iterPos w.heap.size)
  case atStart => exact ⟨0, rfl, by omega, World.iter_heap w s 0, (Below.refl _ _).alloc (Nat.le_refl _) _, rfl⟩
  case round =>
    obtain ⟨pos, rfl, hps, hit, hbw, hall⟩ := hrel
    have hpos0 := iterPos_of hit
    have HA : Hid (allB (s.data.toList.take pos) = true) := hall
    clear hall
    by_cases hp : pos < s.size
    · obtain ⟨n, wd, hnx, hn, hw1, hw2, c, hc, hcase⟩ := next_at wr w.heap.size s pos hit hp
      have hit2 := Lib.iterAt_heap wr w.heap.size s pos (pos + wd) hit
      have hbw2 := Lib.below_iterAt hbw (k := w.heap.size) (Nat.le_refl _) s (pos + wd)
      obtain ⟨W1, hW1⟩ : ∃ W1, W1 = wr.iterAt w.heap.size s (pos + wd) := ⟨_, rfl⟩
      rw [← hW1] at hnx hit2 hbw2
      have HIN := inName_any n W1 hn
      have HSN : Hid (allB (s.data.toList.take (pos + 1)) = (allB (s.data.toList.take pos) && okN c.toNat)) := allB_snoc _ _ _ hc
      clear hW1 hit hbw
      rcases hcase with ⟨hlo, rfl, rfl⟩ | ⟨hhi, hch, _⟩
      · cases hok : okN c.toNat with
        | true =>
          rw [hok] at HIN
          have HOK : Hid (okN c.toNat = true) := hok
          clear hok
          go_wp2_with (go_at_call 70; refine HIN.mono ?_; rintro e w' ⟨rfl, h⟩; subst w')
          go_roundw
          case rel => exact ⟨pos + 1, rfl, by omega, hit2, hbw2, by rw [HSN.out, HA.out, HOK.out]; rfl⟩
          case measure => rw [iterPos_of hit2, hpos0]; omega
        | false =>
          rw [hok] at HIN
          have HNO : Hid (allB s.data.toList = false) := allB_le _ (pos + 1) (by rw [HSN.out, hok, Bool.and_false])
          clear hok
          go_wp2_with (go_at_call 70; refine HIN.mono ?_; rintro e w' ⟨rfl, h⟩; subst w')
          go_ret
          exact ⟨ret_bool HNO.out.symm, hbw2⟩
      · rw [okN_high n hhi] at HIN
        have HNO : Hid (allB s.data.toList = false) := allB_le _ (pos + 1) (by rw [HSN.out, okN_high _ hch, Bool.and_false])
        go_wp2_with (go_at_call 70; refine HIN.mono ?_; rintro e w' ⟨rfl, h⟩; subst w')
        go_ret
        exact ⟨ret_bool HNO.out.symm, hbw2⟩
    · have hnx : ∀ ty, (Instr.next (.pointer (some ⟨w.heap.size, 0, none⟩)) true ty).run Tryd.prog wr = _ := fun ty => Lib.run_next_end_at wr w.heap.size s pos ty hit hp
      have HE : Hid (allB s.data.toList = true) := by
        have := HA.out
        rw [List.take_of_length_le (by rw [len_size]; omega)] at this
        exact this
      go_wp2
      go_ret
      exact ⟨ret_bool HE.out.symm, hbw⟩
set_option maxHeartbeats 400000 in
theorem name_out (s : ByteArray) (w : World) (hs : s.size ≤ 9223372036854775807) (h : 12 < s.size) :
    Calls Tryd.prog 63 #[.string s] w fun e w' => e = .returned (.bool false) ∧ w' = w := by
  have j0 := toList_nil (s := s) (fun e => by have := congrArg List.length e; rw [len_size, List.length_nil] at this; omega)
  have k1 : (12 : Int) < (s.size : Int) := by omega
  go_enter Tryd.func63, Tryd.ntmps63
  go_wp2
  go_ret
  exact ⟨rfl, rfl⟩
set_option maxHeartbeats 400000 in
theorem name_lit (s : ByteArray) (w : World) (h : s = ⟨#[]⟩ ∨ s = ⟨#[46]⟩ ∨ s = ⟨#[46, 46]⟩) :
    Calls Tryd.prog 63 #[.string s] w fun e w' => e = .returned (.bool false) ∧ w' = w := by
  rcases h with rfl | rfl | rfl
  all_goals
    go_enter Tryd.func63, Tryd.ntmps63
    go_wp2
    go_ret
    exact ⟨rfl, rfl⟩
theorem name_any (s : ByteArray) (w : World) (hs : s.size ≤ 9223372036854775807) :
    Calls Tryd.prog 63 #[.string s] w fun e w' => e = .returned (.bool (nameL s.data.toList)) ∧ Below w.heap.size w w' := by
  by_cases h : headB s.data.toList = true
  · have h' := h
    simp only [headB, decide_eq_true_eq] at h'
    rw [name_of_head h]
    exact name_loop s w h'.1 h'.2.1 h'.2.2.1 h'.2.2.2
  · have h' : headB s.data.toList = false := by simpa using h
    rw [name_no h']
    have hq : Calls Tryd.prog 63 #[.string s] w fun e w' => e = .returned (.bool false) ∧ w' = w := by
      by_cases hl : 12 < s.size
      · exact name_out s w hs hl
      · refine name_lit s w ?_
        simp only [headB, decide_eq_true_eq] at h
        rw [← str_inj, ← str_inj, ← str_inj]
        rw [len_size] at h
        by_cases e1 : s.data.toList = []
        · exact .inl e1
        · by_cases e2 : s.data.toList = [46]
          · exact .inr (.inl e2)
          · by_cases e3 : s.data.toList = [46, 46]
            · exact .inr (.inr e3)
            · exact absurd ⟨e1, by omega, e2, e3⟩ h
    refine hq.mono ?_
    rintro e w' ⟨rfl, rfl⟩
    exact ⟨rfl, Below.refl _ _⟩
end Go.Proofs.YtcmdcmbiilfngabDoor.Pt
namespace Go.Proofs.YtcmdcmbiilfngabDoor.Pt
open Go.RowKit
theorem extract_str (s : ByteArray) (a b : Nat) : s.extract a b = strOf ((s.data.toList.drop a).take (b - a)) := by
  apply ByteArray.ext
  simp [strOf, ByteArray.data_extract]
  rw [← Array.toList_inj]
  simp [List.extract_eq_take_drop]
theorem extract_end (s : ByteArray) (a b : Nat) (h : s.size ≤ b) : s.extract a b = strOf (s.data.toList.drop a) := by
  rw [extract_str, List.take_of_length_le]
  rw [List.length_drop, len_size]
  omega
theorem cut_step {l : List UInt8} {acc : List (List UInt8)} {f pos : Nat} (h : cutL l = acc ++ cutL (l.drop f)) (hf : f ≤ pos) (hno : ∀ j, f ≤ j → j < pos → l[j]? ≠ some 47) (hc : l[pos]? = some 47) :
    cutL l = (acc ++ [(l.drop f).take (pos - f)]) ++ cutL (l.drop (pos + 1)) := by
  rw [h, cutL_slash (pos - f) (l.drop f) (fun j hj => by rw [List.getElem?_drop]; exact hno _ (by omega) (by omega)) (by rw [List.getElem?_drop, show f + (pos - f) = pos by omega]; exact hc)]
  rw [List.drop_drop, show f + (pos - f + 1) = pos + 1 by omega]
  simp
theorem cut_last {l : List UInt8} {acc : List (List UInt8)} {f : Nat} (h : cutL l = acc ++ cutL (l.drop f)) (hno : ∀ j, f ≤ j → j < l.length → l[j]? ≠ some 47) : cutL l = acc ++ [l.drop f] := by
  rw [h, cutL_none]
  intro hm
  obtain ⟨j, hj, hje⟩ := List.getElem_of_mem hm
  rw [List.getElem_drop] at hje
  rw [List.length_drop] at hj
  exact hno (f + j) (by omega) (by omega) (by rw [List.getElem?_eq_getElem (by omega), hje])
/-- What the loop of split holds. -/
def SpRel (w : World) (s : ByteArray) (pos f : Nat) (acc : List (List UInt8)) (v : Value) (wr : World) : Prop :=
  pos ≤ s.size ∧ f ≤ pos ∧ acc.length ≤ pos ∧ cutL s.data.toList = acc ++ cutL (s.data.toList.drop f) ∧ (∀ j, f ≤ j → j < pos → s.data.toList[j]? ≠ some 47) ∧
    wr.heap[w.heap.size]? = some (.stringIter s pos) ∧ wr.ownsRow (w.heap.size + 1) 9 1 v acc.length (strsV acc) ∧ Below w.heap.size w wr
set_option maxRecDepth 100000 in
set_option maxHeartbeats 1000000 in
theorem split_any (s : ByteArray) (w : World) (hs : s.size ≤ 100000) :
    Calls Tryd.prog 62 #[.string s] w fun e w' => ∃ a cap, e = .returned (.slice a (cutL s.data.toList).length cap) ∧ Ss w' a (cutL s.data.toList).length cap ((cutL s.data.toList).map strOf) ∧ Below w.heap.size w w' := by
  obtain ⟨i0, hi, hz0, hz1, hz2⟩ := info_parts info9
  go_enter Tryd.func62, Tryd.ntmps62
  go_wp2
  go_loopw [3, 4] (fun v fr wr => ∃ (pos f : Nat) (acc : List (List UInt8)), fr = .int .i64 (f : Int) ∧ SpRel w s pos f acc v wr) (fun _ _ wr => s.size - wr.iterPos w.heap.size)
  case atStart => exact ⟨0, 0, [], rfl, by omega, by omega, by simp, by simp, fun j h1 h2 => by omega, World.iter_heap w s 0, World.ownsRow_nil _ _ _ _, (Below.refl _ _).alloc (Nat.le_refl _) _⟩
  case round =>
    obtain ⟨pos, f, acc, rfl, hps, hf, hal, hcut, hno, hit, hown, hbw⟩ := hrel
    have hpos0 := iterPos_of hit
    have HC : Hid (cutL s.data.toList = acc ++ cutL (s.data.toList.drop f)) := hcut
    have HNO : Hid (∀ j, f ≤ j → j < pos → s.data.toList[j]? ≠ some 47) := hno
    clear hcut hno
    by_cases hp : pos < s.size
    · obtain ⟨n, wd, hnx, hn, hw1, hw2, c, hc, hcase⟩ := next_at wr w.heap.size s pos hit hp
      have hit2 := Lib.iterAt_heap wr w.heap.size s pos (pos + wd) hit
      have hbw2 := Lib.below_iterAt hbw (k := w.heap.size) (Nat.le_refl _) s (pos + wd)
      have hown2 := ownsRow_iterAt hown (k := w.heap.size) (by omega) s (pos + wd)
      obtain ⟨W1, hW1⟩ : ∃ W1, W1 = wr.iterAt w.heap.size s (pos + wd) := ⟨_, rfl⟩
      rw [← hW1] at hnx hit2 hbw2 hown2
      have hBlt := lt_of_block hit2
      clear hW1 hit hbw hown
      have HCC : Hid (s.data.toList[pos]? = some c) := hc
      clear hc
      by_cases h47 : n = 47
      · subst h47
        obtain ⟨rfl, hcn⟩ : wd = 1 ∧ c.toNat = 47 := by
          rcases hcase with ⟨_, h1, h2⟩ | ⟨h, _⟩
          · exact ⟨h1, h2⟩
          · omega
        have hc47 : c = 47 := UInt8.toNat_inj.1 (by rw [hcn]; rfl)
        have HST : Hid _ := cut_step HC.out hf HNO.out (hc47 ▸ HCC.out)
        have HX : Hid _ := extract_str s f pos
        have q1 : (f : Int) ≤ (pos : Int) := by omega
        have q2 : (pos : Int) ≤ (s.size : Int) := by omega
        clear hcase hc47 hcn
        go_wp2_with (at_builtin; refine wpList_append_own _ rfl _ _ 79 rfl (w.heap.size + 1) 9 i0 (.string ByteArray.empty) 1 16 Tryd.underlying79 hi hz0 hz1 hz2 rfl (by decide) _ acc.length (strsV acc) rfl (hown2.alloc _) ⟨W1.heap.size, 0, none⟩ 1 1 [_] rfl rfl (one_str _ _ _) (by simp [Value.oneCell']) (by unfold maxLen; omega) (by omega) (by simp; omega) ?_)
        intro v' w3 hown' hgrow3 hnil3
        have hit3 : w3.heap[w.heap.size]? = some (.stringIter s (pos + 1)) := by
          rw [hgrow3.block w.heap.size (by simp; omega) (fun h => by have := (hown2.lt _ h.symm).1; omega), Below.heap_alloc _ _ _ hBlt]; exact hit2
        have hbw3 : Below w.heap.size w w3 := Below.grown (hbw2.alloc (by omega) _) hgrow3 (by simp; omega) (fun j hj => by have := (hown2.lt _ hj).1; omega)
        have HO3 : Hid (w3.ownsRow (w.heap.size + 1) 9 1 v' (acc.length + 1) (strsV (acc ++ [(s.data.toList.drop f).take (pos - f)]))) := by
          have := hown'
          rw [HX.out] at this
          simpa [Hid, strsV] using this
        clear hown' hgrow3 hnil3
        go_wp2
        go_roundw
        case rel => exact ⟨pos + 1, pos + 1, acc ++ [(s.data.toList.drop f).take (pos - f)], by go_num, by omega, by omega, by simp; omega, HST.out, fun j h1 h2 => by omega, hit3, by simpa using HO3.out, hbw3⟩
        case measure => rw [iterPos_of hit3, hpos0]; omega
      · have HNX : Hid (∀ j, f ≤ j → j < pos + wd → s.data.toList[j]? ≠ some 47) := by
          intro j h1 h2
          by_cases hj : j < pos
          · exact HNO.out j h1 hj
          · rcases hcase with ⟨_, rfl, h4⟩ | ⟨_, _, h⟩
            · obtain rfl : j = pos := by omega
              rw [HCC.out]
              intro e
              rw [Option.some.injEq] at e
              rw [e] at h4
              exact h47 h4.symm
            · exact h j (by omega) h2
        have hne : ¬ (n : Int) = 47 := by omega
        have hnb : ((n : Int) == 47) = false := by simp; omega
        clear hcase
        go_wp2
        go_roundw
        case rel => exact ⟨pos + wd, f, acc, rfl, hw2, by omega, by omega, HC.out, HNX.out, hit2, hown2, hbw2⟩
        case measure => rw [iterPos_of hit2, hpos0]; omega
    · have hnx : ∀ ty, (Instr.next (.pointer (some ⟨w.heap.size, 0, none⟩)) true ty).run Tryd.prog wr = _ := fun ty => Lib.run_next_end_at wr w.heap.size s pos ty hit hp
      have HST : Hid _ := cut_last HC.out (fun j h1 h2 => HNO.out j h1 (by rw [len_size] at h2; omega))
      have HX : Hid _ := extract_end s f s.size (Nat.le_refl _)
      have q1 : (f : Int) ≤ (s.size : Int) := by omega
      have hBlt := lt_of_block hit
      go_wp2_with (at_builtin; refine wpList_append_own _ rfl _ _ 79 rfl (w.heap.size + 1) 9 i0 (.string ByteArray.empty) 1 16 Tryd.underlying79 hi hz0 hz1 hz2 rfl (by decide) _ acc.length (strsV acc) rfl (hown.alloc _) ⟨wr.heap.size, 0, none⟩ 1 1 [_] rfl rfl (one_str _ _ _) (by simp [Value.oneCell']) (by unfold maxLen; omega) (by omega) (by simp; omega) ?_)
      intro v' w3 hown' hgrow3 hnil3
      have hbw3 : Below w.heap.size w w3 := Below.grown (hbw.alloc (by omega) _) hgrow3 (by simp; omega) (fun j hj => by have := (hown.lt _ hj).1; omega)
      have ho3 : w3.ownsRow (w.heap.size + 1) 9 1 v' (acc.length + 1) (strsV (acc ++ [s.data.toList.drop f])) := by
        have := hown'
        rw [HX.out] at this
        simpa [strsV] using this
      obtain ⟨la, lc, hv, hss⟩ := Ss.owned ho3
      rw [show acc.length + 1 = (acc ++ [s.data.toList.drop f]).length by simp, ← HST.out] at hv hss
      subst hv
      clear hown' hgrow3 hnil3 ho3
      go_wp2
      go_ret
      exact ⟨la, lc, rfl, hss, hbw3⟩
end Go.Proofs.YtcmdcmbiilfngabDoor.Pt
