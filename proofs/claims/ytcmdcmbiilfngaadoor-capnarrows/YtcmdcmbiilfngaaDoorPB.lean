/- Walks over the program's inName and Name. -/
import Derived.Test.YtcmdcmbiilfngaaDoorPA
namespace Go.Proofs.YtcmdcmbiilfngaaDoor.Pt
open Go.RowKit
set_option maxHeartbeats 1000000 in
theorem inName_any (n : Nat) (w : World) (_hn : n ≤ 2147483647) :
    Calls Tryd.prog 85 #[.int .i32 (n : Int)] w fun e w' => e = .returned (.bool (okN n)) ∧ w' = w := by
  go_enter Tryd.func85, Tryd.ntmps85
  go_wp2
  all_goals
    go_ret
    exact ⟨ret_bool (by unfold okN; rw [Bool.eq_iff_iff]; simp; omega), rfl⟩
/-- Below a byte of 128 the iterator goes on byte by byte: what it has gone through. -/
theorem allB_snoc (l : List UInt8) (k : Nat) (c : UInt8) (h : l[k]? = some c) : allB (l.take (k + 1)) = (allB (l.take k) && okN c.toNat) := by
  unfold allB
  rw [List.take_add_one, h, List.all_append]
  simp
theorem allB_le (l : List UInt8) (k : Nat) (h : allB (l.take k) = false) : allB l = false := by
  unfold allB at *
  rw [← List.take_append_drop k l, List.all_append, h]
  rfl
theorem name_of_head {l : List UInt8} (h : headB l = true) : nameL l = allB l := by unfold nameL; rw [h]; rfl
theorem name_no {l : List UInt8} (h : headB l = false) : nameL l = false := by unfold nameL; rw [h]; rfl
theorem okN_high (n : Nat) (h : 128 ≤ n) : okN n = false := by unfold okN; simp; omega
set_option maxRecDepth 100000 in
set_option maxHeartbeats 1000000 in
theorem name_loop (s : ByteArray) (w : World) (h0 : s.data.toList ≠ []) (h1 : s.data.toList.length ≤ 12) (h2 : s.data.toList ≠ [46]) (h3 : s.data.toList ≠ [46, 46]) :
    Calls Tryd.prog 73 #[.string s] w fun e w' => e = .returned (.bool (allB s.data.toList)) ∧ Below w.heap.size w w' := by
  have j0 := toList_nil h0
  have j2 := toList_nb h2
  have j3 := toList_nb h3
  rw [len_size] at h1
  have k1 : ¬ (12 : Int) < (s.size : Int) := by omega
  clear h0 h2 h3
  go_enter Tryd.func73, Tryd.ntmps73
  go_wp2
  clear j0 j2 j3 k1
  go_loopw [2] (fun r wr => ∃ pos : Nat, r = .bool false ∧ pos ≤ s.size ∧ wr.heap[w.heap.size]? = some (.stringIter s pos) ∧ Below w.heap.size w wr ∧ allB (s.data.toList.take pos) = true) (fun _ wr => s.size - wr.iterPos w.heap.size)
  case atStart => exact ⟨0, rfl, by omega, World.iter_heap w s 0, (Below.refl _ _).alloc (Nat.le_refl _) _, rfl⟩
  case round =>
    obtain ⟨pos, rfl, hps, hit, hbw, hall⟩ := hrel
    have hpos0 := iterPos_of hit
    have HA : Hid (allB (s.data.toList.take pos) = true) := hall
    clear hall
    by_cases hp : pos < s.size
    · obtain ⟨n, wd, hnx, hn, hw1, hw2, c, hc, hcase⟩ := next_at wr w.heap.size s pos hit hp
      have hit2 := Lib.iterAt_heap wr w.heap.size s pos (pos + wd) hit
      have hbw2 := Lib.below_iterAt hbw (k := w.heap.size) (Nat.le_refl _) s (pos + wd)
      obtain ⟨W1, hW1⟩ : ∃ W1, W1 = wr.iterAt w.heap.size s (pos + wd) := ⟨_, rfl⟩
      rw [← hW1] at hnx hit2 hbw2
      have HIN := inName_any n W1 hn
      have HSN : Hid (allB (s.data.toList.take (pos + 1)) = (allB (s.data.toList.take pos) && okN c.toNat)) := allB_snoc _ _ _ hc
      clear hW1 hit hbw
      rcases hcase with ⟨hlo, rfl, rfl⟩ | ⟨hhi, hch, _⟩
      · cases hok : okN c.toNat with
        | true =>
          rw [hok] at HIN
          have HOK : Hid (okN c.toNat = true) := hok
          clear hok
          go_wp2_with (go_at_call 85; refine HIN.mono ?_; rintro e w' ⟨rfl, h⟩; subst w')
          go_roundw
          case rel => exact ⟨pos + 1, rfl, by omega, hit2, hbw2, by rw [HSN.out, HA.out, HOK.out]; rfl⟩
          case measure => rw [iterPos_of hit2, hpos0]; omega
        | false =>
          rw [hok] at HIN
          have HNO : Hid (allB s.data.toList = false) := allB_le _ (pos + 1) (by rw [HSN.out, hok, Bool.and_false])
          clear hok
          go_wp2_with (go_at_call 85; refine HIN.mono ?_; rintro e w' ⟨rfl, h⟩; subst w')
          go_ret
          exact ⟨ret_bool HNO.out.symm, hbw2⟩
      · rw [okN_high n hhi] at HIN
        have HNO : Hid (allB s.data.toList = false) := allB_le _ (pos + 1) (by rw [HSN.out, okN_high _ hch, Bool.and_false])
        go_wp2_with (go_at_call 85; refine HIN.mono ?_; rintro e w' ⟨rfl, h⟩; subst w')
        go_ret
        exact ⟨ret_bool HNO.out.symm, hbw2⟩
    · have hnx : ∀ ty, (Instr.next (.pointer (some ⟨w.heap.size, 0, none⟩)) true ty).run Tryd.prog wr = _ := fun ty => Lib.run_next_end_at wr w.heap.size s pos ty hit hp
      have HE : Hid (allB s.data.toList = true) := by
        have := HA.out
        rw [List.take_of_length_le (by rw [len_size]; omega)] at this
        exact this
      go_wp2
      go_ret
      exact ⟨ret_bool HE.out.symm, hbw⟩
set_option maxHeartbeats 400000 in
theorem name_out (s : ByteArray) (w : World) (hs : s.size ≤ 9223372036854775807) (h : 12 < s.size) :
    Calls Tryd.prog 73 #[.string s] w fun e w' => e = .returned (.bool false) ∧ w' = w := by
  have j0 := toList_nil (s := s) (fun e => by have := congrArg List.length e; rw [len_size, List.length_nil] at this; omega)
  have k1 : (12 : Int) < (s.size : Int) := by omega
  go_enter Tryd.func73, Tryd.ntmps73
  go_wp2
  go_ret
  exact ⟨rfl, rfl⟩
set_option maxHeartbeats 400000 in
theorem name_lit (s : ByteArray) (w : World) (h : s = ⟨#[]⟩ ∨ s = ⟨#[46]⟩ ∨ s = ⟨#[46, 46]⟩) :
    Calls Tryd.prog 73 #[.string s] w fun e w' => e = .returned (.bool false) ∧ w' = w := by
  rcases h with rfl | rfl | rfl
  all_goals
    go_enter Tryd.func73, Tryd.ntmps73
    go_wp2
    go_ret
    exact ⟨rfl, rfl⟩
theorem name_any (s : ByteArray) (w : World) (hs : s.size ≤ 9223372036854775807) :
    Calls Tryd.prog 73 #[.string s] w fun e w' => e = .returned (.bool (nameL s.data.toList)) ∧ Below w.heap.size w w' := by
  by_cases h : headB s.data.toList = true
  · have h' := h
    simp only [headB, decide_eq_true_eq] at h'
    rw [name_of_head h]
    exact name_loop s w h'.1 h'.2.1 h'.2.2.1 h'.2.2.2
  · have h' : headB s.data.toList = false := by simpa using h
    rw [name_no h']
    have hq : Calls Tryd.prog 73 #[.string s] w fun e w' => e = .returned (.bool false) ∧ w' = w := by
      by_cases hl : 12 < s.size
      · exact name_out s w hs hl
      · refine name_lit s w ?_
        simp only [headB, decide_eq_true_eq] at h
        rw [← str_inj, ← str_inj, ← str_inj]
        rw [len_size] at h
        by_cases e1 : s.data.toList = []
        · exact .inl e1
        · by_cases e2 : s.data.toList = [46]
          · exact .inr (.inl e2)
          · by_cases e3 : s.data.toList = [46, 46]
            · exact .inr (.inr e3)
            · exact absurd ⟨e1, by omega, e2, e3⟩ h
    refine hq.mono ?_
    rintro e w' ⟨rfl, rfl⟩
    exact ⟨rfl, Below.refl _ _⟩
end Go.Proofs.YtcmdcmbiilfngaaDoor.Pt
