/- Walks over the comparison of changes, and over the sort of at most twelve. -/
import Derived.Test.YtdgffocmdkadpaaGreatJC
namespace Go.Proofs.YtdgffocmdkadpaaGreat
open Go.RowKit Go.Shelf
theorem own_put2 {W : World} {base g cp n e sz : Nat} {xs : List Value} (h : W.ownsRow base e sz (.slice (some ⟨g, 0, none⟩) n cp) n xs) (t : Nat) (x : Value) : (W.setCell ⟨g, t, none⟩ x).ownsRow base e sz (.slice (some ⟨g, 0, none⟩) n cp) n (xs.set t x) := by
  obtain ⟨h1, h2⟩ := h
  refine ⟨by simpa using h1, ?_⟩
  rcases h2 with ⟨h2, _⟩ | ⟨g', cap', cur, e, hb, hr, h3, h4, h5, h6⟩
  · cases h2
  · cases e
    refine .inr ⟨g, cp, cur.setIfInBounds t x, rfl, hb, heap_setCell_same W g t _ _ _ hr, h3, h4, by simpa using h5, ?_⟩
    rw [Array.toList_setIfInBounds, List.take_set, h6]
theorem chsV_set (l : List Chg) (i : Nat) (c : Chg) : ((chsV l).set (i * 2) (.int .i64 (c.1 : Int))).set (i * 2 + 1) (.string c.2) = chsV (l.set i c) := by
  induction l generalizing i with
  | nil => rfl
  | cons x l ih =>
    cases i with
    | zero => rfl
    | succ i =>
      have e : chsV (x :: l) = .int .i64 (x.1 : Int) :: .string x.2 :: chsV l := rfl
      rw [e, show (i + 1) * 2 = i * 2 + 1 + 1 by omega, List.set_cons_succ, List.set_cons_succ, List.set_cons_succ, List.set_cons_succ, ih]
      rfl
/-- In order up to i, but for what stands at j. -/
def Ins (i j : Nat) (l : List Chg) : Prop := ∀ p q, p < q → q ≤ i → q ≠ j → (l.getD p (0, ByteArray.empty)).1 ≤ (l.getD q (0, ByteArray.empty)).1
def Srt (i : Nat) (l : List Chg) : Prop := ∀ p q, p < q → q < i → (l.getD p (0, ByteArray.empty)).1 ≤ (l.getD q (0, ByteArray.empty)).1
theorem Srt.ins {i : Nat} {l : List Chg} (h : Srt i l) : Ins i i l := fun p q hpq hq hne => h p q hpq (by omega)
theorem Ins.srt0 {i : Nat} {l : List Chg} (h : Ins i 0 l) : Srt (i + 1) l := fun p q hpq hq => h p q hpq (by omega) (by omega)
theorem Ins.srt {i k : Nat} {l : List Chg} (h : Ins i (k + 1) l) (hki : k + 1 ≤ i) (hle : (l.getD k (0, ByteArray.empty)).1 ≤ (l.getD (k + 1) (0, ByteArray.empty)).1) : Srt (i + 1) l := by
  intro p q hpq hq
  by_cases e : q = k + 1
  · subst e
    by_cases e2 : p = k
    · subst e2; exact hle
    · exact Nat.le_trans (h p k (by omega) (by omega) (by omega)) hle
  · exact h p q hpq (by omega) e
theorem getD_set (l : List Chg) (i j : Nat) (c : Chg) (hi : i < l.length) : (l.set i c).getD j (0, ByteArray.empty) = if i = j then c else l.getD j (0, ByteArray.empty) := by
  rw [List.getD_eq_getElem?_getD, List.getD_eq_getElem?_getD]
  split
  · rename_i e
    subst e
    rw [List.getElem?_set_self hi]; rfl
  · rename_i e
    rw [List.getElem?_set_ne e]
theorem Ins.swap {i k : Nat} {l : List Chg} (h : Ins i (k + 1) l) (hki : k + 1 ≤ i) (hl : i < l.length) (hlt : (l.getD (k + 1) (0, ByteArray.empty)).1 < (l.getD k (0, ByteArray.empty)).1) :
    Ins i k ((l.set (k + 1) (l.getD k (0, ByteArray.empty))).set k (l.getD (k + 1) (0, ByteArray.empty))) := by
  intro p q hpq hq hne
  have e : ∀ j, ((l.set (k + 1) (l.getD k (0, ByteArray.empty))).set k (l.getD (k + 1) (0, ByteArray.empty))).getD j (0, ByteArray.empty) = if k = j then l.getD (k + 1) (0, ByteArray.empty) else if k + 1 = j then l.getD k (0, ByteArray.empty) else l.getD j (0, ByteArray.empty) := by
    intro j
    rw [getD_set _ _ _ _ (by rw [List.length_set]; omega), getD_set _ _ _ _ (by omega)]
  rw [e p, e q]
  by_cases q1 : k = q
  · omega
  · rw [if_neg q1]
    by_cases q2 : k + 1 = q
    · rw [if_pos q2]
      by_cases p1 : k = p
      · rw [if_pos p1]; omega
      · rw [if_neg p1, if_neg (by omega)]
        exact h p k (by omega) (by omega) (by omega)
    · rw [if_neg q2]
      by_cases p1 : k = p
      · rw [if_pos p1]
        exact h (k + 1) q (by omega) hq (by omega)
      · rw [if_neg p1]
        by_cases p2 : k + 1 = p
        · rw [if_pos p2]
          exact h k q (by omega) hq (by omega)
        · rw [if_neg p2]
          exact h p q hpq hq (by omega)
theorem swap_perm (l : List Chg) (k : Nat) (hl : k + 1 < l.length) : ((l.set (k + 1) (l.getD k (0, ByteArray.empty))).set k (l.getD (k + 1) (0, ByteArray.empty))).Perm l := by
  have e1 : l.getD k (0, ByteArray.empty) = l[k] := by rw [List.getD_eq_getElem?_getD, List.getElem?_eq_getElem (by omega)]; rfl
  have e2 : l.getD (k + 1) (0, ByteArray.empty) = l[k + 1] := by rw [List.getD_eq_getElem?_getD, List.getElem?_eq_getElem hl]; rfl
  rw [e1, e2]
  exact List.set_set_perm hl (by omega)
theorem Srt.pairwise {l : List Chg} (h : Srt l.length l) : l.Pairwise (fun a b => a.1 ≤ b.1) := by
  rw [List.pairwise_iff_getElem]
  intro i j hi hj hij
  have := h i j hij hj
  rw [List.getD_eq_getElem?_getD, List.getD_eq_getElem?_getD, List.getElem?_eq_getElem hi, List.getElem?_eq_getElem hj] at this
  exact this
set_option maxHeartbeats 1000000 in
theorem cmp_any (p q : Nat) (s t : ByteArray) (w : World) : Calls Tryz.prog 44 #[.agg #[.int .i64 (p : Int), .string s], .agg #[.int .i64 (q : Int), .string t]] w fun e w' => e = .returned (.int .i64 (Lib.compareInt (p : Int) (q : Int))) ∧ Below w.heap.size w w' := by
  obtain ⟨W1, hW1⟩ : ∃ W1, w.alloc (.cells #[.int .i64 (p : Int), .string s] 32) = W1 := ⟨_, rfl⟩
  obtain ⟨W2, hW2⟩ : ∃ W2, W1.alloc (.cells #[.int .i64 (q : Int), .string t] 32) = W2 := ⟨_, rfl⟩
  have h1 : W1.heap[w.heap.size]? = some (.cells #[.int .i64 (p : Int), .string s] 32 (0, 0)) := by rw [← hW1]; exact heap_alloc_new w _
  have hs1 : W1.heap.size = w.heap.size + 1 := by rw [← hW1]; simp
  have h2 : W2.heap[W1.heap.size]? = some (.cells #[.int .i64 (q : Int), .string t] 32 (0, 0)) := by rw [← hW2]; exact heap_alloc_new W1 _
  have h3 : W2.heap[w.heap.size]? = some (.cells #[.int .i64 (p : Int), .string s] 32 (0, 0)) := by rw [← hW2, Below.heap_alloc _ _ _ (by omega)]; exact h1
  have c1 : W2.cell? ⟨w.heap.size, 0, none⟩ = some (.int .i64 (p : Int)) := by rw [cell_of_row _ w.heap.size _ _ _ _ h3]; rfl
  have c2 : W2.cell? ⟨W1.heap.size, 0, none⟩ = some (.int .i64 (q : Int)) := by rw [cell_of_row _ W1.heap.size _ _ _ _ h2]; rfl
  have HB : Hid (Below w.heap.size w W2) := by
    rw [← hW2, ← hW1]
    exact ((Below.refl _ w).alloc (Nat.le_refl _) _).alloc (by simp) _
  have HC := Tryz.cmp_Compare_int (p : Int) (q : Int) W2
  clear h1 h2 h3 hs1
  go_enter Tryz.func44, Tryz.ntmps44
  go_wp2_with fail
  refine HC.mono ?_
  rintro e V1 ⟨rfl, hV⟩
  subst V1
  go_wp2
  go_ret
  exact ⟨rfl, HB.out⟩
theorem own_pair {W : World} {base g cp n : Nat} {l : List Chg} (h : W.ownsRow base 32 2 (.slice (some ⟨g, 0, none⟩) n cp) n (chsV l)) (j : Nat) (hj : j < l.length) (p : Nat) (s : ByteArray) (hc : l.getD j (0, ByteArray.empty) = (p, s)) :
    W.cell? ⟨g, j * 2, none⟩ = some (.int .i64 (p : Int)) ∧ W.cell? ⟨g, j * 2 + 1, none⟩ = some (.string s) := by
  have e : l[j]? = some (p, s) := by
    rw [List.getD_eq_getElem?_getD, List.getElem?_eq_getElem hj] at hc
    rw [List.getElem?_eq_getElem hj]
    exact congrArg some hc
  obtain ⟨e1, e2⟩ := chsV_at l j _ e
  rw [Nat.mul_comm] at e1 e2
  exact ⟨own_at h e1, own_at h e2⟩
set_option maxRecDepth 100000 in
set_option maxHeartbeats 4000000 in
theorem insSort_any (base g n cp : Nat) (l : List Chg) (w : World) (h : w.ownsRow base 32 2 (.slice (some ⟨g, 0, none⟩) n cp) n (chsV l)) (hl : l.length = n) (h1 : 1 ≤ n) (h2 : n ≤ 12) :
    Calls Tryz.prog 131 #[.slice (some ⟨g, 0, none⟩) n cp, .int .i64 0, .int .i64 (n : Int), .func (.func 44) #[] #[]] w fun e w' => e = .returned (.tuple #[]) ∧ ∃ l' : List Chg, l'.Perm l ∧ l'.Pairwise (fun a b => a.1 ≤ b.1) ∧ w'.ownsRow base 32 2 (.slice (some ⟨g, 0, none⟩) n cp) n (chsV l') ∧ Upd (fun x => x = g) w w' := by
  have HI : Hid (∃ l' : List Chg, l'.Perm l ∧ Srt 1 l' ∧ w.ownsRow base 32 2 (.slice (some ⟨g, 0, none⟩) n cp) n (chsV l') ∧ Upd (fun x => x = g) w w) := ⟨l, List.Perm.refl _, fun p q _ _ => by omega, h, Upd.refl _ _⟩
  have hgw : g < w.heap.size := (h.lt g rfl).2
  have eg : ∀ args w, (callFunc 44 args).run Tryz.prog w = .ok (.enter 44 args) w := enters_of Tryz.func44 (by kernel_rfl) rfl
  clear h
  go_enter Tryz.func131, Tryz.ntmps131
  go_wp2
  go_loopw [8] (fun v wr => ∃ i : Nat, 1 ≤ i ∧ i ≤ n ∧ v = .int .i64 i ∧ ∃ l' : List Chg, l'.Perm l ∧ Srt i l' ∧ wr.ownsRow base 32 2 (.slice (some ⟨g, 0, none⟩) n cp) n (chsV l') ∧ Upd (fun x => x = g) w wr) (fun v _ => n - (intOf v).toNat)
  case atStart => exact ⟨1, by omega, h1, rfl, HI.out⟩
  case round =>
    clear HI
    obtain ⟨i, hi1, hin, rfl, l1, hp1, hs1, ho1, hu1⟩ := hrel
    by_cases hlt : i < n
    · have kk : (i : Int) < (n : Int) := by omega
      have HI2 : Hid (∃ l' : List Chg, l'.Perm l ∧ Ins i i l' ∧ wr.ownsRow base 32 2 (.slice (some ⟨g, 0, none⟩) n cp) n (chsV l') ∧ Upd (fun x => x = g) w wr) := ⟨l1, hp1, hs1.ins, ho1, hu1⟩
      clear hp1 hs1 ho1 hu1
      go_wp2
      go_loopw [9] (fun v wr => ∃ j : Nat, j ≤ i ∧ v = .int .i64 j ∧ ∃ l' : List Chg, l'.Perm l ∧ Ins i j l' ∧ wr.ownsRow base 32 2 (.slice (some ⟨g, 0, none⟩) n cp) n (chsV l') ∧ Upd (fun x => x = g) w wr) (fun v _ => (intOf v).toNat)
      case atStart => exact ⟨i, by omega, rfl, HI2.out⟩
      case round =>
        clear HI2
        obtain ⟨j, hji, rfl, l2, hp2, hs2, ho2, hu2⟩ := hrel
        have hl2 : l2.length = n := by rw [hp2.length_eq, hl]
        by_cases hj0 : j = 0
        · subst hj0
          have HN : Hid (∃ l' : List Chg, l'.Perm l ∧ Srt (i + 1) l' ∧ wr.drew.ownsRow base 32 2 (.slice (some ⟨g, 0, none⟩) n cp) n (chsV l') ∧ Upd (fun x => x = g) w wr.drew) := ⟨l2, hp2, hs2.srt0, ho2, hu2.drew⟩
          clear hp2 hs2 ho2 hu2
          go_wp2
          refine wp_region_held_drew (S := fun _ => True) (by kernel_rfl) (trivial) (fun hHeld => ?_)
          refine wpAnyH_take (i := 0) (v := ?vz0) rfl (by kernel_rfl) (by kernel_rfl) (by kernel_rfl) (fun _ _ _ h => h) (Or.inl ⟨by first | kernel_rfl | rfl, ?yz0⟩) hHeld ?rz0
          case yz0 => (intro W hSW; (try dsimp only at hSW); go_simp; (try with_reducible rfl))
          change wpAnyH _ _ _ _ _ _ _ (Act.put _ (some 18) _) _
          simp only [Act.put, List.setIfInBounds_toArray, List.set_cons_zero, List.set_cons_succ]
          refine wpAnyH_take (i := 1) (v := ?vz1) rfl (by kernel_rfl) (by kernel_rfl) (by kernel_rfl) (fun _ _ _ h => h) (Or.inl ⟨by first | kernel_rfl | rfl, ?yz1⟩) hHeld ?rz1
          case yz1 => (intro W hSW; (try dsimp only at hSW); go_simp; (try with_reducible rfl))
          change wpAnyH _ _ _ _ _ _ _ (Act.put _ (some 19) _) _
          simp only [Act.put, List.setIfInBounds_toArray, List.set_cons_zero, List.set_cons_succ]
          refine wpAnyH_take (i := 2) (v := ?vz2) rfl (by kernel_rfl) (by kernel_rfl) (by kernel_rfl) (fun _ _ _ h => h) (Or.inl ⟨by first | kernel_rfl | rfl, ?yz2⟩) hHeld ?rz2
          case yz2 => (intro W hSW; (try dsimp only at hSW); go_simp; (try with_reducible rfl))
          change wpAnyH _ _ _ _ _ _ _ (Act.put _ (some 20) _) _
          simp only [Act.put, List.setIfInBounds_toArray, List.set_cons_zero, List.set_cons_succ]
          refine wpAnyH_take (i := 3) (v := ?vz3) rfl (by kernel_rfl) (by kernel_rfl) (by kernel_rfl) (fun _ _ _ h => h) (Or.inl ⟨by first | kernel_rfl | rfl, ?yz3⟩) hHeld ?rz3
          case yz3 => (intro W hSW; (try dsimp only at hSW); go_simp; (try with_reducible rfl))
          change wpAnyH _ _ _ _ _ _ _ (Act.put _ (some 21) _) _
          simp only [Act.put, List.setIfInBounds_toArray, List.set_cons_zero, List.set_cons_succ]
          refine wpAnyH_take (i := 4) (v := undef) rfl (by kernel_rfl) (by kernel_rfl) (by kernel_rfl) (fun _ _ _ h => h) (Or.inr ⟨by first | kernel_rfl | rfl, rfl⟩) hHeld ?_
          change wpAnyH _ _ _ _ _ _ _ (Act.put _ (some 22) _) _
          simp only [Act.put, List.setIfInBounds_toArray, List.set_cons_zero, List.set_cons_succ]
          refine wpAnyH_take (i := 5) (v := undef) rfl (by kernel_rfl) (by kernel_rfl) (by kernel_rfl) (fun _ _ _ h => h) (Or.inr ⟨by first | kernel_rfl | rfl, rfl⟩) hHeld ?_
          change wpAnyH _ _ _ _ _ _ _ (Act.put _ (some 23) _) _
          simp only [Act.put, List.setIfInBounds_toArray, List.set_cons_zero, List.set_cons_succ]
          refine wpAnyH_take (i := 6) (v := undef) rfl (by kernel_rfl) (by kernel_rfl) (by kernel_rfl) (fun _ _ _ h => h) (Or.inr ⟨by first | kernel_rfl | rfl, rfl⟩) hHeld ?_
          change wpAnyH _ _ _ _ _ _ _ (Act.put _ (some 24) _) _
          simp only [Act.put, List.setIfInBounds_toArray, List.set_cons_zero, List.set_cons_succ]
          refine wpAnyH_take (i := 7) (v := undef) rfl (by kernel_rfl) (by kernel_rfl) (by kernel_rfl) (fun _ _ _ h => h) (Or.inr ⟨by first | kernel_rfl | rfl, rfl⟩) hHeld ?_
          change wpAnyH _ _ _ _ _ _ _ (Act.put _ (some 25) _) _
          simp only [Act.put, List.setIfInBounds_toArray, List.set_cons_zero, List.set_cons_succ]
          refine wpAnyH_take (i := 8) (v := undef) rfl (by kernel_rfl) (by kernel_rfl) (by kernel_rfl) (fun _ _ _ h => h) (Or.inr ⟨by first | kernel_rfl | rfl, rfl⟩) hHeld ?_
          change wpAnyH _ _ _ _ _ _ _ (Act.put _ (some 26) _) _
          simp only [Act.put, List.setIfInBounds_toArray, List.set_cons_zero, List.set_cons_succ]
          refine wpAnyH_take (i := 9) (v := undef) rfl (by kernel_rfl) (by kernel_rfl) (by kernel_rfl) (fun _ _ _ h => h) (Or.inr ⟨by first | kernel_rfl | rfl, rfl⟩) hHeld ?_
          change wpAnyH _ _ _ _ _ _ _ (Act.put _ (some 27) _) _
          simp only [Act.put, List.setIfInBounds_toArray, List.set_cons_zero, List.set_cons_succ]
          refine wpAnyH_take (i := 10) (v := undef) rfl (by kernel_rfl) (by kernel_rfl) (by kernel_rfl) (fun _ _ _ h => h) (Or.inr ⟨by first | kernel_rfl | rfl, rfl⟩) hHeld ?_
          change wpAnyH _ _ _ _ _ _ _ (Act.put _ (some 28) _) _
          simp only [Act.put, List.setIfInBounds_toArray, List.set_cons_zero, List.set_cons_succ]
          refine wpAnyH_take (i := 11) (v := undef) rfl (by kernel_rfl) (by kernel_rfl) (by kernel_rfl) (fun _ _ _ h => h) (Or.inr ⟨by first | kernel_rfl | rfl, rfl⟩) hHeld ?_
          change wpAnyH _ _ _ _ _ _ _ (Act.put _ (some 29) _) _
          simp only [Act.put, List.setIfInBounds_toArray, List.set_cons_zero, List.set_cons_succ]
          refine wpAnyH_take (i := 12) (v := undef) rfl (by kernel_rfl) (by kernel_rfl) (by kernel_rfl) (fun _ _ _ h => h) (Or.inr ⟨by first | kernel_rfl | rfl, rfl⟩) hHeld ?_
          change wpAnyH _ _ _ _ _ _ _ (Act.put _ (some 30) _) _
          simp only [Act.put, List.setIfInBounds_toArray, List.set_cons_zero, List.set_cons_succ]
          refine wpAnyH_take (i := 13) (v := undef) rfl (by kernel_rfl) (by kernel_rfl) (by kernel_rfl) (fun _ _ _ h => h) (Or.inr ⟨by first | kernel_rfl | rfl, rfl⟩) hHeld ?_
          change wpAnyH _ _ _ _ _ _ _ (Act.put _ (some 31) _) _
          simp only [Act.put, List.setIfInBounds_toArray, List.set_cons_zero, List.set_cons_succ]
          refine wpAnyH_take (i := 14) (v := undef) rfl (by kernel_rfl) (by kernel_rfl) (by kernel_rfl) (fun _ _ _ h => h) (Or.inr ⟨by first | kernel_rfl | rfl, rfl⟩) hHeld ?_
          change wpAnyH _ _ _ _ _ _ _ (Act.put _ (some 32) _) _
          simp only [Act.put, List.setIfInBounds_toArray, List.set_cons_zero, List.set_cons_succ]
          refine wpAnyH_take (i := 15) (v := undef) rfl (by kernel_rfl) (by kernel_rfl) (by kernel_rfl) (fun _ _ _ h => h) (Or.inr ⟨by first | kernel_rfl | rfl, rfl⟩) hHeld ?_
          change wpAnyH _ _ _ _ _ _ _ (Act.put _ (some 33) _) _
          simp only [Act.put, List.setIfInBounds_toArray, List.set_cons_zero, List.set_cons_succ]
          refine wpAnyH_take (i := 16) (v := ?vz16) rfl (by kernel_rfl) (by kernel_rfl) (by kernel_rfl) (fun _ _ _ h => h) (Or.inl ⟨by first | kernel_rfl | rfl, ?yz16⟩) hHeld ?rz16
          case yz16 => (intro W hSW; (try dsimp only at hSW); go_simp; (try with_reducible rfl))
          change wpAnyH _ _ _ _ _ _ _ (Act.put _ (some 34) _) _
          simp only [Act.put, List.setIfInBounds_toArray, List.set_cons_zero, List.set_cons_succ]
          refine wpAnyH_done (by kernel_rfl) ?_ _
          clear hHeld
          go_wp2
          exact ⟨⟨i + 1, by omega, by omega, by go_num, HN.out⟩, by simp [intOf]; omega⟩
        · obtain ⟨k, hk⟩ : ∃ k, j = k + 1 := ⟨j - 1, by omega⟩
          obtain ⟨⟨p, s⟩, hps⟩ : ∃ c, l2.getD j (0, ByteArray.empty) = c := ⟨_, rfl⟩
          obtain ⟨⟨q, t⟩, hqt⟩ : ∃ c, l2.getD k (0, ByteArray.empty) = c := ⟨_, rfl⟩
          obtain ⟨e1, e2⟩ := own_pair (W := wr.drew) ho2 j (by omega) p s hps
          obtain ⟨e3, e4⟩ := own_pair (W := wr.drew) ho2 k (by omega) q t hqt
          have kj : (j : Int) - 1 = (k : Int) := by omega
          have kj0 : 0 < j := by omega
          have kjn : (j : Int) < (n : Int) := by omega
          have kkn : (k : Int) < (n : Int) := by omega
          have kw : IntKind.i64.wrap ((j : Int) - 1) = (k : Int) := by rw [kj]; exact wrapI _ (by omega) (by omega)
          have kw2 : IntKind.i64.wrap (k : Int) = (k : Int) := wrapI _ (by omega) (by omega)
          have hgr : g < wr.drew.heap.size := (ho2.lt g rfl).2
          have HCK : Hid (∀ V, Below wr.drew.heap.size wr.drew V → V.cell? ⟨g, j * 2, none⟩ = some (.int .i64 (p : Int)) ∧ V.cell? ⟨g, j * 2 + 1, none⟩ = some (.string s) ∧ V.cell? ⟨g, k * 2, none⟩ = some (.int .i64 (q : Int)) ∧ V.cell? ⟨g, k * 2 + 1, none⟩ = some (.string t)) := fun V hV =>
            ⟨by rw [hV.cell hgr]; exact e1, by rw [hV.cell hgr]; exact e2, by rw [hV.cell hgr]; exact e3, by rw [hV.cell hgr]; exact e4⟩
          have HK : Hid (∀ V, Below wr.drew.heap.size wr.drew V → V.ownsRow base 32 2 (.slice (some ⟨g, 0, none⟩) n cp) n (chsV l2) ∧ Upd (fun x => x = g) w V) := fun V hV =>
            ⟨own_keep ho2 (fun x hx => by cases hx; exact hV.block g hgr), hu2.drew.trans (Upd.of_below (S := fun _ => False) hV) (fun _ f => f.elim)⟩
          have HCM := cmp_any p q s t wr.drew
          unfold Lib.compareInt at HCM
          by_cases hlt2 : p < q
          · have HC : Hid (Calls Tryz.prog 44 #[.agg #[.int .i64 (p : Int), .string s], .agg #[.int .i64 (q : Int), .string t]] wr.drew fun e w' => e = .returned (.int .i64 (-1)) ∧ Below wr.drew.heap.size wr.drew w') := by
              rw [if_pos (by omega)] at HCM
              exact HCM
            have HSW : Hid (((l2.set j (q, t)).set k (p, s)).Perm l ∧ Ins i k ((l2.set j (q, t)).set k (p, s))) := by
              rw [hk] at hps hs2 hji ⊢
              rw [← hps, ← hqt]
              exact ⟨(swap_perm l2 k (by omega)).trans hp2, hs2.swap hji (by omega) (by rw [hps, hqt]; exact hlt2)⟩
            have HJK : Hid (j = k + 1) := hk
            clear hp2 hs2 ho2 hu2 HCM hps hqt hk
            go_wp2
            refine wp_region_held_drew (S := fun V => V.cell? ⟨g, j * 2, none⟩ = some (.int .i64 (p : Int)) ∧ V.cell? ⟨g, j * 2 + 1, none⟩ = some (.string s) ∧ V.cell? ⟨g, k * 2, none⟩ = some (.int .i64 (q : Int)) ∧ V.cell? ⟨g, k * 2 + 1, none⟩ = some (.string t)) (by kernel_rfl) (⟨e1, e2, e3, e4⟩) (fun hHeld => ?_)
            refine wpAnyH_take (i := 0) (v := ?va0) rfl (by kernel_rfl) (by kernel_rfl) (by kernel_rfl) (fun _ _ _ h => h) (Or.inl ⟨by first | kernel_rfl | rfl, ?ya0⟩) hHeld ?ra0
            case ya0 => (intro W hSW; (try dsimp only at hSW); go_simp; (try with_reducible rfl))
            change wpAnyH _ _ _ _ _ _ _ (Act.put _ (some 18) _) _
            simp only [Act.put, List.setIfInBounds_toArray, List.set_cons_zero, List.set_cons_succ]
            refine wpAnyH_take (i := 1) (v := ?va1) rfl (by kernel_rfl) (by kernel_rfl) (by kernel_rfl) (fun _ _ _ h => h) (Or.inl ⟨by first | kernel_rfl | rfl, ?ya1⟩) hHeld ?ra1
            case ya1 => (intro W hSW; (try dsimp only at hSW); go_simp; (try with_reducible rfl))
            change wpAnyH _ _ _ _ _ _ _ (Act.put _ (some 19) _) _
            simp only [Act.put, List.setIfInBounds_toArray, List.set_cons_zero, List.set_cons_succ]
            refine wpAnyH_take (i := 2) (v := ?va2) rfl (by kernel_rfl) (by kernel_rfl) (by kernel_rfl) (fun _ _ _ h => h) (Or.inl ⟨by first | kernel_rfl | rfl, ?ya2⟩) hHeld ?ra2
            case ya2 => (intro W hSW; (try dsimp only at hSW); go_simp; (try with_reducible rfl))
            change wpAnyH _ _ _ _ _ _ _ (Act.put _ (some 20) _) _
            simp only [Act.put, List.setIfInBounds_toArray, List.set_cons_zero, List.set_cons_succ]
            refine wpAnyH_take (i := 3) (v := ?va3) rfl (by kernel_rfl) (by kernel_rfl) (by kernel_rfl) (fun _ _ _ h => h) (Or.inl ⟨by first | kernel_rfl | rfl, ?ya3⟩) hHeld ?ra3
            case ya3 => (intro W hSW; (try dsimp only at hSW); go_simp; (try with_reducible rfl))
            change wpAnyH _ _ _ _ _ _ _ (Act.put _ (some 21) _) _
            simp only [Act.put, List.setIfInBounds_toArray, List.set_cons_zero, List.set_cons_succ]
            refine wpAnyH_take (i := 4) (v := ?va4) rfl (by kernel_rfl) (by kernel_rfl) (by kernel_rfl) (fun _ _ _ h => h) (Or.inl ⟨by first | kernel_rfl | rfl, ?ya4⟩) hHeld ?ra4
            case ya4 => (intro W hSW; (try dsimp only at hSW); go_simp; (try with_reducible rfl))
            change wpAnyH _ _ _ _ _ _ _ (Act.put _ (some 22) _) _
            simp only [Act.put, List.setIfInBounds_toArray, List.set_cons_zero, List.set_cons_succ]
            refine wpAnyH_take (i := 5) (v := ?va5) rfl (by kernel_rfl) (by kernel_rfl) (by kernel_rfl) (fun _ _ _ h => h) (Or.inl ⟨by first | kernel_rfl | rfl, ?ya5⟩) hHeld ?ra5
            case ya5 => (intro W hSW; (try dsimp only at hSW); go_simp; (try with_reducible rfl))
            change wpAnyH _ _ _ _ _ _ _ (Act.put _ (some 23) _) _
            simp only [Act.put, List.setIfInBounds_toArray, List.set_cons_zero, List.set_cons_succ]
            refine wpAnyH_take (i := 6) (v := ?va6) rfl (by kernel_rfl) (by kernel_rfl) (by kernel_rfl) (fun _ _ _ h => h) (Or.inl ⟨by first | kernel_rfl | rfl, ?ya6⟩) hHeld ?ra6
            case ya6 => (intro W hSW; (try dsimp only at hSW); go_simp; (try with_reducible rfl))
            change wpAnyH _ _ _ _ _ _ _ (Act.put _ (some 24) _) _
            simp only [Act.put, List.setIfInBounds_toArray, List.set_cons_zero, List.set_cons_succ]
            refine wpAnyH_take (i := 7) (v := ?va7) rfl (by kernel_rfl) (by kernel_rfl) (by kernel_rfl) (fun _ _ _ h => h) (Or.inl ⟨by first | kernel_rfl | rfl, ?ya7⟩) hHeld ?ra7
            case ya7 => (intro W hSW; (try dsimp only at hSW); go_simp; (try with_reducible rfl))
            change wpAnyH _ _ _ _ _ _ _ (Act.put _ (some 25) _) _
            simp only [Act.put, List.setIfInBounds_toArray, List.set_cons_zero, List.set_cons_succ]
            refine wpAnyH_take (i := 8) (v := ?va8) rfl (by kernel_rfl) (by kernel_rfl) (by kernel_rfl) (fun _ _ _ h => h) (Or.inl ⟨by first | kernel_rfl | rfl, ?ya8⟩) hHeld ?ra8
            case ya8 => (intro W hSW; (try dsimp only at hSW); go_simp; (try with_reducible rfl))
            change wpAnyH _ _ _ _ _ _ _ (Act.put _ (some 26) _) _
            simp only [Act.put, List.setIfInBounds_toArray, List.set_cons_zero, List.set_cons_succ]
            refine wpAnyH_take (i := 9) (v := ?va9) rfl (by kernel_rfl) (by kernel_rfl) (by kernel_rfl) (fun _ _ _ h => h) (Or.inl ⟨by first | kernel_rfl | rfl, ?ya9⟩) hHeld ?ra9
            case ya9 => (intro W hSW; (try dsimp only at hSW); go_simp; (try with_reducible rfl))
            change wpAnyH _ _ _ _ _ _ _ (Act.put _ (some 27) _) _
            simp only [Act.put, List.setIfInBounds_toArray, List.set_cons_zero, List.set_cons_succ]
            refine wpAnyH_take (i := 10) (v := ?va10) rfl (by kernel_rfl) (by kernel_rfl) (by kernel_rfl) (fun _ _ _ h => h) (Or.inl ⟨by first | kernel_rfl | rfl, ?ya10⟩) hHeld ?ra10
            case ya10 => (intro W hSW; (try dsimp only at hSW); go_simp; (try with_reducible rfl))
            change wpAnyH _ _ _ _ _ _ _ (Act.put _ (some 28) _) _
            simp only [Act.put, List.setIfInBounds_toArray, List.set_cons_zero, List.set_cons_succ]
            refine wpAnyH_take (i := 11) (v := ?va11) rfl (by kernel_rfl) (by kernel_rfl) (by kernel_rfl) (fun _ _ _ h => h) (Or.inl ⟨by first | kernel_rfl | rfl, ?ya11⟩) hHeld ?ra11
            case ya11 => (intro W hSW; (try dsimp only at hSW); go_simp; (try with_reducible rfl))
            change wpAnyH _ _ _ _ _ _ _ (Act.put _ (some 29) _) _
            simp only [Act.put, List.setIfInBounds_toArray, List.set_cons_zero, List.set_cons_succ]
            refine wpAnyH_take (i := 12) (v := ?va12) rfl (by kernel_rfl) (by kernel_rfl) (by kernel_rfl) (fun _ _ _ h => h) (Or.inl ⟨by first | kernel_rfl | rfl, ?ya12⟩) hHeld ?ra12
            case ya12 => (intro W hSW; (try dsimp only at hSW); go_simp; (try with_reducible rfl))
            change wpAnyH _ _ _ _ _ _ _ (Act.put _ (some 30) _) _
            simp only [Act.put, List.setIfInBounds_toArray, List.set_cons_zero, List.set_cons_succ]
            refine wpAnyH_take (i := 13) (v := ?va13) rfl (by kernel_rfl) (by kernel_rfl) (by kernel_rfl) (fun _ _ _ h => h) (Or.inl ⟨by first | kernel_rfl | rfl, ?ya13⟩) hHeld ?ra13
            case ya13 => (intro W hSW; (try dsimp only at hSW); go_simp; (try with_reducible rfl))
            change wpAnyH _ _ _ _ _ _ _ (Act.put _ (some 31) _) _
            simp only [Act.put, List.setIfInBounds_toArray, List.set_cons_zero, List.set_cons_succ]
            refine wpAnyH_ready (rs := [14]) (by kernel_rfl) (by simp) ?_
            refine AllReadyH.cons rfl (fun K hK => ?_) AllReadyH.nil
            go_simp
            refine ((HC.out)).mono ?_
            rintro e V3 ⟨rfl, hb3⟩; have HB3 : Hid (Below wr.drew.heap.size wr.drew V3) := hb3; have HCE : Hid ((fun V => V.cell? ⟨g, j * 2, none⟩ = some (.int .i64 (p : Int)) ∧ V.cell? ⟨g, j * 2 + 1, none⟩ = some (.string s) ∧ V.cell? ⟨g, k * 2, none⟩ = some (.int .i64 (q : Int)) ∧ V.cell? ⟨g, k * 2 + 1, none⟩ = some (.string t)) V3) := HCK.out V3 HB3.out; clear hb3
            refine hK.out _ _ (HCE.out) (fun hHeld => ?_)
            clear hK K
            try simp only [Act.put, List.setIfInBounds_toArray, List.set_cons_zero, List.set_cons_succ]
            refine wpAnyH_take (i := 15) (v := ?va15) rfl (by kernel_rfl) (by kernel_rfl) (by kernel_rfl) (fun _ _ _ h => h) (Or.inl ⟨by first | kernel_rfl | rfl, ?ya15⟩) hHeld ?ra15
            case ya15 => (intro W hSW; (try dsimp only at hSW); go_simp; (try with_reducible rfl))
            change wpAnyH _ _ _ _ _ _ _ (Act.put _ (some 33) _) _
            simp only [Act.put, List.setIfInBounds_toArray, List.set_cons_zero, List.set_cons_succ]
            refine wpAnyH_take (i := 16) (v := ?va16) rfl (by kernel_rfl) (by kernel_rfl) (by kernel_rfl) (fun _ _ _ h => h) (Or.inl ⟨by first | kernel_rfl | rfl, ?ya16⟩) hHeld ?ra16
            case ya16 => (intro W hSW; (try dsimp only at hSW); go_simp; (try with_reducible rfl))
            change wpAnyH _ _ _ _ _ _ _ (Act.put _ (some 34) _) _
            simp only [Act.put, List.setIfInBounds_toArray, List.set_cons_zero, List.set_cons_succ]
            refine wpAnyH_done (by kernel_rfl) ?_ _
            have HK3 : Hid _ := HK.out V3 HB3.out
            clear hHeld HC HK HCK e1 e2 e3 e4 HB3
            go_wp2
            obtain ⟨e1, e2, e3, e4⟩ := HCE.out
            have f1 : ∀ x, V3.frozen? ⟨g, x, none⟩ = false := own_fro HK3.out.1
            have HW : Hid (((((V3.drew.setCell ⟨g, j * 2, none⟩ (.int .i64 (q : Int))).setCell ⟨g, j * 2 + 1, none⟩ (.string t)).setCell ⟨g, k * 2, none⟩ (.int .i64 (p : Int))).setCell ⟨g, k * 2 + 1, none⟩ (.string s)).ownsRow base 32 2 (.slice (some ⟨g, 0, none⟩) n cp) n (chsV ((l2.set j (q, t)).set k (p, s))) ∧ Upd (fun x => x = g) w ((((V3.drew.setCell ⟨g, j * 2, none⟩ (.int .i64 (q : Int))).setCell ⟨g, j * 2 + 1, none⟩ (.string t)).setCell ⟨g, k * 2, none⟩ (.int .i64 (p : Int))).setCell ⟨g, k * 2 + 1, none⟩ (.string s))) := by
              refine ⟨?_, ((((HK3.out.2.drew.setCell (fun _ => rfl) _).setCell (fun _ => rfl) _).setCell (fun _ => rfl) _).setCell (fun _ => rfl) _)⟩
              have h0 : V3.drew.ownsRow base 32 2 (.slice (some ⟨g, 0, none⟩) n cp) n (chsV l2) := HK3.out.1
              have := own_put2 (own_put2 (own_put2 (own_put2 h0 (j * 2) (.int .i64 (q : Int))) (j * 2 + 1) (.string t)) (k * 2) (.int .i64 (p : Int))) (k * 2 + 1) (.string s)
              rw [chsV_set l2 j (q, t), chsV_set _ k (p, s)] at this
              exact this
            refine wp_region_held_drew (S := fun _ => True) (by kernel_rfl) (trivial) (fun hHeld => ?_)
            refine wpAnyH_take (i := 0) (v := ?vw0) rfl (by kernel_rfl) (by kernel_rfl) (by kernel_rfl) (fun _ _ _ h => h) (Or.inl ⟨by first | kernel_rfl | rfl, ?yw0⟩) hHeld ?rw0
            case yw0 => (intro W hSW; (try dsimp only at hSW); go_simp; (try with_reducible rfl))
            change wpAnyH _ _ _ _ _ _ _ (Act.put _ (some 37) _) _
            simp only [Act.put, List.setIfInBounds_toArray, List.set_cons_zero, List.set_cons_succ]
            refine wpAnyH_take (i := 1) (v := ?vw1) rfl (by kernel_rfl) (by kernel_rfl) (by kernel_rfl) (fun _ _ _ h => h) (Or.inl ⟨by first | kernel_rfl | rfl, ?yw1⟩) hHeld ?rw1
            case yw1 => (intro W hSW; (try dsimp only at hSW); go_simp; (try with_reducible rfl))
            change wpAnyH _ _ _ _ _ _ _ (Act.put _ (some 38) _) _
            simp only [Act.put, List.setIfInBounds_toArray, List.set_cons_zero, List.set_cons_succ]
            refine wpAnyH_take (i := 2) (v := ?vw2) rfl (by kernel_rfl) (by kernel_rfl) (by kernel_rfl) (fun _ _ _ h => h) (Or.inl ⟨by first | kernel_rfl | rfl, ?yw2⟩) hHeld ?rw2
            case yw2 => (intro W hSW; (try dsimp only at hSW); go_simp; (try with_reducible rfl))
            change wpAnyH _ _ _ _ _ _ _ (Act.put _ (some 39) _) _
            simp only [Act.put, List.setIfInBounds_toArray, List.set_cons_zero, List.set_cons_succ]
            refine wpAnyH_take (i := 3) (v := ?vw3) rfl (by kernel_rfl) (by kernel_rfl) (by kernel_rfl) (fun _ _ _ h => h) (Or.inl ⟨by first | kernel_rfl | rfl, ?yw3⟩) hHeld ?rw3
            case yw3 => (intro W hSW; (try dsimp only at hSW); go_simp; (try with_reducible rfl))
            change wpAnyH _ _ _ _ _ _ _ (Act.put _ (some 40) _) _
            simp only [Act.put, List.setIfInBounds_toArray, List.set_cons_zero, List.set_cons_succ]
            refine wpAnyH_take (i := 4) (v := ?vw4) rfl (by kernel_rfl) (by kernel_rfl) (by kernel_rfl) (fun _ _ _ h => h) (Or.inl ⟨by first | kernel_rfl | rfl, ?yw4⟩) hHeld ?rw4
            case yw4 => (intro W hSW; (try dsimp only at hSW); go_simp; (try with_reducible rfl))
            change wpAnyH _ _ _ _ _ _ _ (Act.put _ (some 41) _) _
            simp only [Act.put, List.setIfInBounds_toArray, List.set_cons_zero, List.set_cons_succ]
            refine wpAnyH_take (i := 5) (v := ?vw5) rfl (by kernel_rfl) (by kernel_rfl) (by kernel_rfl) (fun _ _ _ h => h) (Or.inl ⟨by first | kernel_rfl | rfl, ?yw5⟩) hHeld ?rw5
            case yw5 => (intro W hSW; (try dsimp only at hSW); go_simp; (try with_reducible rfl))
            change wpAnyH _ _ _ _ _ _ _ (Act.put _ (some 42) _) _
            simp only [Act.put, List.setIfInBounds_toArray, List.set_cons_zero, List.set_cons_succ]
            refine wpAnyH_take (i := 6) (v := ?vw6) rfl (by kernel_rfl) (by kernel_rfl) (by kernel_rfl) (fun _ _ _ h => h) (Or.inl ⟨by first | kernel_rfl | rfl, ?yw6⟩) hHeld ?rw6
            case yw6 => (intro W hSW; (try dsimp only at hSW); go_simp; (try with_reducible rfl))
            change wpAnyH _ _ _ _ _ _ _ (Act.put _ (some 43) _) _
            simp only [Act.put, List.setIfInBounds_toArray, List.set_cons_zero, List.set_cons_succ]
            refine wpAnyH_take (i := 7) (v := ?vw7) rfl (by kernel_rfl) (by kernel_rfl) (by kernel_rfl) (fun _ _ _ h => h) (Or.inl ⟨by first | kernel_rfl | rfl, ?yw7⟩) hHeld ?rw7
            case yw7 => (intro W hSW; (try dsimp only at hSW); go_simp; (try with_reducible rfl))
            change wpAnyH _ _ _ _ _ _ _ (Act.put _ (some 44) _) _
            simp only [Act.put, List.setIfInBounds_toArray, List.set_cons_zero, List.set_cons_succ]
            refine wpAnyH_take (i := 8) (v := ?vw8) rfl (by kernel_rfl) (by kernel_rfl) (by kernel_rfl) (fun _ _ _ h => h) (Or.inl ⟨by first | kernel_rfl | rfl, ?yw8⟩) hHeld ?rw8
            case yw8 => (intro W hSW; (try dsimp only at hSW); go_simp; (try with_reducible rfl))
            change wpAnyH _ _ _ _ _ _ _ (Act.put _ (some 45) _) _
            simp only [Act.put, List.setIfInBounds_toArray, List.set_cons_zero, List.set_cons_succ]
            refine wpAnyH_take (i := 10) (v := ?vw10) rfl (by kernel_rfl) (by kernel_rfl) (by kernel_rfl) (fun _ _ _ h => h) (Or.inl ⟨by first | kernel_rfl | rfl, ?yw10⟩) hHeld ?rw10
            case yw10 => (intro W hSW; (try dsimp only at hSW); go_simp; (try with_reducible rfl))
            change wpAnyH _ _ _ _ _ _ _ (Act.put _ (some 47) _) _
            simp only [Act.put, List.setIfInBounds_toArray, List.set_cons_zero, List.set_cons_succ]
            refine wpAnyH_take (i := 11) (v := ?vw11) rfl (by kernel_rfl) (by kernel_rfl) (by kernel_rfl) (fun _ _ _ h => h) (Or.inl ⟨by first | kernel_rfl | rfl, ?yw11⟩) hHeld ?rw11
            case yw11 => (intro W hSW; (try dsimp only at hSW); go_simp; (try with_reducible rfl))
            change wpAnyH _ _ _ _ _ _ _ (Act.put _ (some 48) _) _
            simp only [Act.put, List.setIfInBounds_toArray, List.set_cons_zero, List.set_cons_succ]
            refine wpAnyH_take (i := 12) (v := ?vw12) rfl (by kernel_rfl) (by kernel_rfl) (by kernel_rfl) (fun _ _ _ h => h) (Or.inl ⟨by first | kernel_rfl | rfl, ?yw12⟩) hHeld ?rw12
            case yw12 => (intro W hSW; (try dsimp only at hSW); go_simp; (try with_reducible rfl))
            change wpAnyH _ _ _ _ _ _ _ (Act.put _ (some 49) _) _
            simp only [Act.put, List.setIfInBounds_toArray, List.set_cons_zero, List.set_cons_succ]
            refine wpAnyH_ready (rs := [9, 13]) (by kernel_rfl) (by simp) ?_
            refine AllReadyH.cons rfl (fun K hK => ?_) (AllReadyH.cons rfl (fun K hK => ?_) AllReadyH.nil)
            · go_simp
              refine hK.out _ _ (trivial) (fun hHeld => ?_)
              clear hK K
              try simp only [Act.put, List.setIfInBounds_toArray, List.set_cons_zero, List.set_cons_succ]
              refine wpAnyH_ready (rs := [13]) (by kernel_rfl) (by simp) ?_
              refine AllReadyH.cons rfl (fun K hK => ?_) AllReadyH.nil
              go_simp
              refine hK.out _ _ (trivial) (fun hHeld => ?_)
              clear hK K
              try simp only [Act.put, List.setIfInBounds_toArray, List.set_cons_zero, List.set_cons_succ]
              refine wpAnyH_take (i := 14) (v := ?vwa14) rfl (by kernel_rfl) (by kernel_rfl) (by kernel_rfl) (fun _ _ _ h => h) (Or.inl ⟨by first | kernel_rfl | rfl, ?ywa14⟩) hHeld ?rwa14
              case ywa14 => (intro W hSW; (try dsimp only at hSW); go_simp; (try with_reducible rfl))
              change wpAnyH _ _ _ _ _ _ _ (Act.put _ (some 51) _) _
              simp only [Act.put, List.setIfInBounds_toArray, List.set_cons_zero, List.set_cons_succ]
              refine wpAnyH_ready (rs := [15]) (by kernel_rfl) (by simp) ?_
              refine AllReadyH.cons rfl (fun K hK => ?_) AllReadyH.nil
              go_simp
              refine hK.out _ _ (trivial) (fun hHeld => ?_)
              clear hK K
              refine wpAnyH_take (i := 16) (v := ?vwa16) rfl (by kernel_rfl) (by kernel_rfl) (by kernel_rfl) (fun _ _ _ h => h) (Or.inl ⟨by first | kernel_rfl | rfl, ?ywa16⟩) hHeld ?rwa16
              case ywa16 => (intro W hSW; (try dsimp only at hSW); go_simp; (try with_reducible rfl))
              change wpAnyH _ _ _ _ _ _ _ (Act.put _ (some 52) _) _
              simp only [Act.put, List.setIfInBounds_toArray, List.set_cons_zero, List.set_cons_succ]
              refine wpAnyH_ready (rs := [17]) (by kernel_rfl) (by simp) ?_
              refine AllReadyH.cons rfl (fun K hK => ?_) AllReadyH.nil
              go_simp
              refine hK.out _ _ (trivial) (fun hHeld => ?_)
              clear hK K
              refine wpAnyH_done (by kernel_rfl) ?_ _
              clear hHeld
              go_wp2
              exact ⟨⟨k, by have := HJK.out; omega, by go_num, _, HSW.out.1, HSW.out.2, HW.out⟩, by simp [intOf]; have := HJK.out; omega⟩
            · go_simp
              refine hK.out _ _ (trivial) (fun hHeld => ?_)
              clear hK K
              try simp only [Act.put, List.setIfInBounds_toArray, List.set_cons_zero, List.set_cons_succ]
              refine wpAnyH_ready (rs := [9]) (by kernel_rfl) (by simp) ?_
              refine AllReadyH.cons rfl (fun K hK => ?_) AllReadyH.nil
              go_simp
              refine hK.out _ _ (trivial) (fun hHeld => ?_)
              clear hK K
              try simp only [Act.put, List.setIfInBounds_toArray, List.set_cons_zero, List.set_cons_succ]
              refine wpAnyH_take (i := 14) (v := ?vwb14) rfl (by kernel_rfl) (by kernel_rfl) (by kernel_rfl) (fun _ _ _ h => h) (Or.inl ⟨by first | kernel_rfl | rfl, ?ywb14⟩) hHeld ?rwb14
              case ywb14 => (intro W hSW; (try dsimp only at hSW); go_simp; (try with_reducible rfl))
              change wpAnyH _ _ _ _ _ _ _ (Act.put _ (some 51) _) _
              simp only [Act.put, List.setIfInBounds_toArray, List.set_cons_zero, List.set_cons_succ]
              refine wpAnyH_ready (rs := [15]) (by kernel_rfl) (by simp) ?_
              refine AllReadyH.cons rfl (fun K hK => ?_) AllReadyH.nil
              go_simp
              refine hK.out _ _ (trivial) (fun hHeld => ?_)
              clear hK K
              refine wpAnyH_take (i := 16) (v := ?vwb16) rfl (by kernel_rfl) (by kernel_rfl) (by kernel_rfl) (fun _ _ _ h => h) (Or.inl ⟨by first | kernel_rfl | rfl, ?ywb16⟩) hHeld ?rwb16
              case ywb16 => (intro W hSW; (try dsimp only at hSW); go_simp; (try with_reducible rfl))
              change wpAnyH _ _ _ _ _ _ _ (Act.put _ (some 52) _) _
              simp only [Act.put, List.setIfInBounds_toArray, List.set_cons_zero, List.set_cons_succ]
              refine wpAnyH_ready (rs := [17]) (by kernel_rfl) (by simp) ?_
              refine AllReadyH.cons rfl (fun K hK => ?_) AllReadyH.nil
              go_simp
              refine hK.out _ _ (trivial) (fun hHeld => ?_)
              clear hK K
              refine wpAnyH_done (by kernel_rfl) ?_ _
              clear hHeld
              go_wp2
              exact ⟨⟨k, by have := HJK.out; omega, by go_num, _, HSW.out.1, HSW.out.2, HW.out⟩, by simp [intOf]; have := HJK.out; omega⟩
          · obtain ⟨cr, hcr0, hcr⟩ : ∃ cr : Int, ¬ cr < 0 ∧ (if (p : Int) < (q : Int) then -1 else if (p : Int) > (q : Int) then 1 else 0) = cr := by
              refine ⟨_, ?_, rfl⟩
              rw [if_neg (by omega)]
              split <;> omega
            have HC : Hid (Calls Tryz.prog 44 #[.agg #[.int .i64 (p : Int), .string s], .agg #[.int .i64 (q : Int), .string t]] wr.drew fun e w' => e = .returned (.int .i64 cr) ∧ Below wr.drew.heap.size wr.drew w') := by
              rw [hcr] at HCM
              exact HCM
            have HSR : Hid (l2.Perm l ∧ Srt (i + 1) l2) := by
              rw [hk] at hps hs2 hji
              exact ⟨hp2, hs2.srt hji (by rw [hps, hqt]; simp only; omega)⟩
            have HJK : Hid (j = k + 1) := hk
            clear hp2 hs2 ho2 hu2 HCM hps hqt hk hcr hlt2
            go_wp2
            refine wp_region_held_drew (S := fun V => V.cell? ⟨g, j * 2, none⟩ = some (.int .i64 (p : Int)) ∧ V.cell? ⟨g, j * 2 + 1, none⟩ = some (.string s) ∧ V.cell? ⟨g, k * 2, none⟩ = some (.int .i64 (q : Int)) ∧ V.cell? ⟨g, k * 2 + 1, none⟩ = some (.string t)) (by kernel_rfl) (⟨e1, e2, e3, e4⟩) (fun hHeld => ?_)
            refine wpAnyH_take (i := 0) (v := ?vb0) rfl (by kernel_rfl) (by kernel_rfl) (by kernel_rfl) (fun _ _ _ h => h) (Or.inl ⟨by first | kernel_rfl | rfl, ?yb0⟩) hHeld ?rb0
            case yb0 => (intro W hSW; (try dsimp only at hSW); go_simp; (try with_reducible rfl))
            change wpAnyH _ _ _ _ _ _ _ (Act.put _ (some 18) _) _
            simp only [Act.put, List.setIfInBounds_toArray, List.set_cons_zero, List.set_cons_succ]
            refine wpAnyH_take (i := 1) (v := ?vb1) rfl (by kernel_rfl) (by kernel_rfl) (by kernel_rfl) (fun _ _ _ h => h) (Or.inl ⟨by first | kernel_rfl | rfl, ?yb1⟩) hHeld ?rb1
            case yb1 => (intro W hSW; (try dsimp only at hSW); go_simp; (try with_reducible rfl))
            change wpAnyH _ _ _ _ _ _ _ (Act.put _ (some 19) _) _
            simp only [Act.put, List.setIfInBounds_toArray, List.set_cons_zero, List.set_cons_succ]
            refine wpAnyH_take (i := 2) (v := ?vb2) rfl (by kernel_rfl) (by kernel_rfl) (by kernel_rfl) (fun _ _ _ h => h) (Or.inl ⟨by first | kernel_rfl | rfl, ?yb2⟩) hHeld ?rb2
            case yb2 => (intro W hSW; (try dsimp only at hSW); go_simp; (try with_reducible rfl))
            change wpAnyH _ _ _ _ _ _ _ (Act.put _ (some 20) _) _
            simp only [Act.put, List.setIfInBounds_toArray, List.set_cons_zero, List.set_cons_succ]
            refine wpAnyH_take (i := 3) (v := ?vb3) rfl (by kernel_rfl) (by kernel_rfl) (by kernel_rfl) (fun _ _ _ h => h) (Or.inl ⟨by first | kernel_rfl | rfl, ?yb3⟩) hHeld ?rb3
            case yb3 => (intro W hSW; (try dsimp only at hSW); go_simp; (try with_reducible rfl))
            change wpAnyH _ _ _ _ _ _ _ (Act.put _ (some 21) _) _
            simp only [Act.put, List.setIfInBounds_toArray, List.set_cons_zero, List.set_cons_succ]
            refine wpAnyH_take (i := 4) (v := ?vb4) rfl (by kernel_rfl) (by kernel_rfl) (by kernel_rfl) (fun _ _ _ h => h) (Or.inl ⟨by first | kernel_rfl | rfl, ?yb4⟩) hHeld ?rb4
            case yb4 => (intro W hSW; (try dsimp only at hSW); go_simp; (try with_reducible rfl))
            change wpAnyH _ _ _ _ _ _ _ (Act.put _ (some 22) _) _
            simp only [Act.put, List.setIfInBounds_toArray, List.set_cons_zero, List.set_cons_succ]
            refine wpAnyH_take (i := 5) (v := ?vb5) rfl (by kernel_rfl) (by kernel_rfl) (by kernel_rfl) (fun _ _ _ h => h) (Or.inl ⟨by first | kernel_rfl | rfl, ?yb5⟩) hHeld ?rb5
            case yb5 => (intro W hSW; (try dsimp only at hSW); go_simp; (try with_reducible rfl))
            change wpAnyH _ _ _ _ _ _ _ (Act.put _ (some 23) _) _
            simp only [Act.put, List.setIfInBounds_toArray, List.set_cons_zero, List.set_cons_succ]
            refine wpAnyH_take (i := 6) (v := ?vb6) rfl (by kernel_rfl) (by kernel_rfl) (by kernel_rfl) (fun _ _ _ h => h) (Or.inl ⟨by first | kernel_rfl | rfl, ?yb6⟩) hHeld ?rb6
            case yb6 => (intro W hSW; (try dsimp only at hSW); go_simp; (try with_reducible rfl))
            change wpAnyH _ _ _ _ _ _ _ (Act.put _ (some 24) _) _
            simp only [Act.put, List.setIfInBounds_toArray, List.set_cons_zero, List.set_cons_succ]
            refine wpAnyH_take (i := 7) (v := ?vb7) rfl (by kernel_rfl) (by kernel_rfl) (by kernel_rfl) (fun _ _ _ h => h) (Or.inl ⟨by first | kernel_rfl | rfl, ?yb7⟩) hHeld ?rb7
            case yb7 => (intro W hSW; (try dsimp only at hSW); go_simp; (try with_reducible rfl))
            change wpAnyH _ _ _ _ _ _ _ (Act.put _ (some 25) _) _
            simp only [Act.put, List.setIfInBounds_toArray, List.set_cons_zero, List.set_cons_succ]
            refine wpAnyH_take (i := 8) (v := ?vb8) rfl (by kernel_rfl) (by kernel_rfl) (by kernel_rfl) (fun _ _ _ h => h) (Or.inl ⟨by first | kernel_rfl | rfl, ?yb8⟩) hHeld ?rb8
            case yb8 => (intro W hSW; (try dsimp only at hSW); go_simp; (try with_reducible rfl))
            change wpAnyH _ _ _ _ _ _ _ (Act.put _ (some 26) _) _
            simp only [Act.put, List.setIfInBounds_toArray, List.set_cons_zero, List.set_cons_succ]
            refine wpAnyH_take (i := 9) (v := ?vb9) rfl (by kernel_rfl) (by kernel_rfl) (by kernel_rfl) (fun _ _ _ h => h) (Or.inl ⟨by first | kernel_rfl | rfl, ?yb9⟩) hHeld ?rb9
            case yb9 => (intro W hSW; (try dsimp only at hSW); go_simp; (try with_reducible rfl))
            change wpAnyH _ _ _ _ _ _ _ (Act.put _ (some 27) _) _
            simp only [Act.put, List.setIfInBounds_toArray, List.set_cons_zero, List.set_cons_succ]
            refine wpAnyH_take (i := 10) (v := ?vb10) rfl (by kernel_rfl) (by kernel_rfl) (by kernel_rfl) (fun _ _ _ h => h) (Or.inl ⟨by first | kernel_rfl | rfl, ?yb10⟩) hHeld ?rb10
            case yb10 => (intro W hSW; (try dsimp only at hSW); go_simp; (try with_reducible rfl))
            change wpAnyH _ _ _ _ _ _ _ (Act.put _ (some 28) _) _
            simp only [Act.put, List.setIfInBounds_toArray, List.set_cons_zero, List.set_cons_succ]
            refine wpAnyH_take (i := 11) (v := ?vb11) rfl (by kernel_rfl) (by kernel_rfl) (by kernel_rfl) (fun _ _ _ h => h) (Or.inl ⟨by first | kernel_rfl | rfl, ?yb11⟩) hHeld ?rb11
            case yb11 => (intro W hSW; (try dsimp only at hSW); go_simp; (try with_reducible rfl))
            change wpAnyH _ _ _ _ _ _ _ (Act.put _ (some 29) _) _
            simp only [Act.put, List.setIfInBounds_toArray, List.set_cons_zero, List.set_cons_succ]
            refine wpAnyH_take (i := 12) (v := ?vb12) rfl (by kernel_rfl) (by kernel_rfl) (by kernel_rfl) (fun _ _ _ h => h) (Or.inl ⟨by first | kernel_rfl | rfl, ?yb12⟩) hHeld ?rb12
            case yb12 => (intro W hSW; (try dsimp only at hSW); go_simp; (try with_reducible rfl))
            change wpAnyH _ _ _ _ _ _ _ (Act.put _ (some 30) _) _
            simp only [Act.put, List.setIfInBounds_toArray, List.set_cons_zero, List.set_cons_succ]
            refine wpAnyH_take (i := 13) (v := ?vb13) rfl (by kernel_rfl) (by kernel_rfl) (by kernel_rfl) (fun _ _ _ h => h) (Or.inl ⟨by first | kernel_rfl | rfl, ?yb13⟩) hHeld ?rb13
            case yb13 => (intro W hSW; (try dsimp only at hSW); go_simp; (try with_reducible rfl))
            change wpAnyH _ _ _ _ _ _ _ (Act.put _ (some 31) _) _
            simp only [Act.put, List.setIfInBounds_toArray, List.set_cons_zero, List.set_cons_succ]
            refine wpAnyH_ready (rs := [14]) (by kernel_rfl) (by simp) ?_
            refine AllReadyH.cons rfl (fun K hK => ?_) AllReadyH.nil
            go_simp
            refine ((HC.out)).mono ?_
            rintro e V3 ⟨rfl, hb3⟩; have HB3 : Hid (Below wr.drew.heap.size wr.drew V3) := hb3; have HCE : Hid ((fun V => V.cell? ⟨g, j * 2, none⟩ = some (.int .i64 (p : Int)) ∧ V.cell? ⟨g, j * 2 + 1, none⟩ = some (.string s) ∧ V.cell? ⟨g, k * 2, none⟩ = some (.int .i64 (q : Int)) ∧ V.cell? ⟨g, k * 2 + 1, none⟩ = some (.string t)) V3) := HCK.out V3 HB3.out; clear hb3
            refine hK.out _ _ (HCE.out) (fun hHeld => ?_)
            clear hK K
            try simp only [Act.put, List.setIfInBounds_toArray, List.set_cons_zero, List.set_cons_succ]
            refine wpAnyH_take (i := 15) (v := ?vb15) rfl (by kernel_rfl) (by kernel_rfl) (by kernel_rfl) (fun _ _ _ h => h) (Or.inl ⟨by first | kernel_rfl | rfl, ?yb15⟩) hHeld ?rb15
            case yb15 => (intro W hSW; (try dsimp only at hSW); go_simp; (try with_reducible rfl))
            change wpAnyH _ _ _ _ _ _ _ (Act.put _ (some 33) _) _
            simp only [Act.put, List.setIfInBounds_toArray, List.set_cons_zero, List.set_cons_succ]
            refine wpAnyH_take (i := 16) (v := ?vb16) rfl (by kernel_rfl) (by kernel_rfl) (by kernel_rfl) (fun _ _ _ h => h) (Or.inl ⟨by first | kernel_rfl | rfl, ?yb16⟩) hHeld ?rb16
            case yb16 => (intro W hSW; (try dsimp only at hSW); go_simp; (try with_reducible rfl))
            change wpAnyH _ _ _ _ _ _ _ (Act.put _ (some 34) _) _
            simp only [Act.put, List.setIfInBounds_toArray, List.set_cons_zero, List.set_cons_succ]
            refine wpAnyH_done (by kernel_rfl) ?_ _
            have HK3 : Hid _ := HK.out V3 HB3.out
            clear hHeld HC HK HCK e1 e2 e3 e4 HB3
            go_wp2
            exact ⟨⟨i + 1, by omega, by omega, by go_num, l2, HSR.out.1, HSR.out.2, HK3.out⟩, by simp [intOf]; omega⟩
    · obtain rfl : i = n := by omega
      have kk : ¬ (i : Int) < (i : Int) := by omega
      have HN : Hid (∃ l' : List Chg, l'.Perm l ∧ l'.Pairwise (fun a b => a.1 ≤ b.1) ∧ wr.ownsRow base 32 2 (.slice (some ⟨g, 0, none⟩) i cp) i (chsV l') ∧ Upd (fun x => x = g) w wr) :=
        ⟨l1, hp1, Srt.pairwise (by rw [hp1.length_eq, hl]; exact hs1), ho1, hu1⟩
      clear hp1 hs1 ho1 hu1
      go_wp2
      refine bodyPost_end (v := .tuple #[]) ?_ rfl ⟨rfl, HN.out⟩
      simp [results, go_sem]
set_option maxRecDepth 100000 in
set_option maxHeartbeats 1000000 in
theorem pdq_any (base g n cp : Nat) (l : List Chg) (w : World) (h : w.ownsRow base 32 2 (.slice (some ⟨g, 0, none⟩) n cp) n (chsV l)) (hl : l.length = n) (h1 : 1 ≤ n) (h2 : n ≤ 12) (x : Int) :
    Calls Tryz.prog 119 #[.slice (some ⟨g, 0, none⟩) n cp, .int .i64 0, .int .i64 (n : Int), .int .i64 x, .func (.func 44) #[] #[]] w fun e w' => e = .returned (.tuple #[]) ∧ ∃ l' : List Chg, l'.Perm l ∧ l'.Pairwise (fun a b => a.1 ≤ b.1) ∧ w'.ownsRow base 32 2 (.slice (some ⟨g, 0, none⟩) n cp) n (chsV l') ∧ Upd (fun x => x = g) w w' := by
  have HS := insSort_any base g n cp l w h hl h1 h2
  have k12 : (n : Int) ≤ 12 := by omega
  clear h
  go_enter Tryz.func119, Tryz.ntmps119
  go_wp2
  go_loopw [1, 2] (fun a b wr => a = .int .i64 0 ∧ b = .int .i64 (n : Int) ∧ wr = w) (fun _ _ _ => 0)
  case atStart => exact ⟨rfl, rfl, rfl⟩
  case round =>
    obtain ⟨rfl, rfl, hwr⟩ := hrel
    subst wr
    go_wp2_with fail
    refine HS.mono ?_
    rintro e V1 ⟨rfl, hR⟩
    go_wp2
    refine bodyPost_ret (v := .tuple #[]) ?_ rfl ⟨rfl, hR⟩
    simp [results, go_sem]
set_option maxHeartbeats 1000000 in
theorem sortFunc_any (base g n cp : Nat) (l : List Chg) (w : World) (h : w.ownsRow base 32 2 (.slice (some ⟨g, 0, none⟩) n cp) n (chsV l)) (hl : l.length = n) (h1 : 1 ≤ n) (h2 : n ≤ 12) :
    Calls Tryz.prog 90 #[.slice (some ⟨g, 0, none⟩) n cp, .func (.func 44) #[] #[]] w fun e w' => e = .returned (.tuple #[]) ∧ ∃ l' : List Chg, l'.Perm l ∧ l'.Pairwise (fun a b => a.1 ≤ b.1) ∧ w'.ownsRow base 32 2 (.slice (some ⟨g, 0, none⟩) n cp) n (chsV l') ∧ Upd (fun x => x = g) w w' := by
  have HL := Tryz.bits_Len (n : Int) w (by omega) (by omega)
  have HS := pdq_any base g n cp l w h hl h1 h2 (Lib.bitLen (n : Int).toNat)
  clear h
  go_enter Tryz.func90, Tryz.ntmps90
  go_wp2_with fail
  refine HL.mono ?_
  rintro e V1 ⟨rfl, hV⟩
  subst V1
  go_wp2_with fail
  refine HS.mono ?_
  rintro e V1 ⟨rfl, hR⟩
  go_wp2
  refine bodyPost_end (v := .tuple #[]) ?_ rfl ⟨rfl, hR⟩
  simp [results, go_sem]
end Go.Proofs.YtdgffocmdkadpaaGreat
