/- Walks over New and Alloc. -/
import Derived.Test.YtgihdfmeokbplaaXM
namespace Go.Proofs.Ytgihdfmeokbplaa
open Go.RowKit Ex
/-- The blocks that were made from one world to another. -/
def fresh (w w' : World) : Nat → Prop := fun x => w.heap.size ≤ x ∧ x < w'.heap.size
set_option maxHeartbeats 1000000 in
theorem new_bad (n : Int) (w : World) (h : ¬ (1 ≤ n ∧ n ≤ 1048576)) : Calls Try.prog 9 #[.int .i64 n] w fun e w' => e = .returned (.tuple #[.pointer none, .int .i64 1]) ∧ w' = w := by
  have H := isSize_any n w
  have hb : (decide (1 ≤ n) && decide (n ≤ 1048576)) = false := by
    rw [Bool.and_eq_false_iff, decide_eq_false_iff_not, decide_eq_false_iff_not]; omega
  rw [hb] at H
  clear h hb
  go_enter Try.func9, Try.ntmps9
  go_wp2_with fail
  refine H.mono ?_
  rintro e V ⟨rfl, hV⟩
  subst V
  clear H
  go_wp2
  go_ret2
  exact ⟨rfl, rfl⟩
set_option maxHeartbeats 1000000 in
theorem new_any (n : Nat) (w : World) (h1 : 1 ≤ n) (h2 : n ≤ 1048576) : Calls Try.prog 9 #[.int .i64 (n : Int)] w fun e w' => ∃ ab, e = .returned (.tuple #[.pointer (some ⟨ab, 0, none⟩), .int .i64 0]) ∧ AIs w' (fresh w w') ab (Ar.new n) ∧ Below w.heap.size w w' := by
  have H := isSize_any (n : Int) w
  have hb : (decide (1 ≤ (n : Int)) && decide ((n : Int) ≤ 1048576)) = true := by
    rw [Bool.and_eq_true, decide_eq_true_eq, decide_eq_true_eq]; omega
  rw [hb] at H
  obtain ⟨W1, hW1⟩ : ∃ W1, w.alloc (.cells #[.int .i64 0, .int .i64 (n : Int)] 37) = W1 := ⟨_, rfl⟩
  obtain ⟨B, hB⟩ : ∃ B, w.heap.size = B := ⟨_, rfl⟩
  obtain ⟨W2, hW2⟩ : ∃ W2, W1.alloc (.cells #[.int .i64 (n : Int), .slice (some ⟨B, 0, none⟩) 1 1, .int .i64 0] 66) = W2 := ⟨_, rfl⟩
  have hs1 : W1.heap.size = B + 1 := by rw [← hW1, ← hB]; simp
  have h3 : W1.heap[B]? = some (.cells #[.int .i64 0, .int .i64 (n : Int)] 37 (0, 0)) := by rw [← hW1, ← hB]; exact heap_alloc_new w _
  have h4 : W2.heap[B]? = some (.cells #[.int .i64 0, .int .i64 (n : Int)] 37 (0, 0)) := by rw [← hW2, heap_alloc_old _ _ (lt_of_some h3)]; exact h3
  have h5 : W2.heap[B + 1]? = some (.cells #[.int .i64 (n : Int), .slice (some ⟨B, 0, none⟩) 1 1, .int .i64 0] 66 (0, 0)) := by rw [← hW2, ← hs1]; exact heap_alloc_new W1 _
  have hs2 : W2.heap.size = B + 2 := by rw [← hW2]; simp [hs1]
  have HA : Hid (AIs W2 (fresh w W2) (B + 1) (Ar.new n) ∧ Below w.heap.size w W2) := by
    refine ⟨⟨some ⟨B, 0, none⟩, 1, Ar.new_ok h1 h2, h5, ?_, fun x hx => by cases hx; show B ≠ B + 1; omega, ⟨by omega, by omega⟩, fun x hx => by cases hx; show w.heap.size ≤ B ∧ B < W2.heap.size; omega, fun x hx => hx.2⟩, ?_⟩
    · have hk : Blk W2 B (spsV [(0, (n : Int))]) := by rw [spsV_one1]; exact h4
      exact hk.own (n := 1) (cap := 1) (Nat.le_refl _) (by decide) (by rw [spsV_one1]; rfl) rfl (by rw [spsV_one1]; rfl)
    · rw [← hW2, ← hW1]
      exact ((Below.refl _ w).alloc (Nat.le_refl _) _).alloc (by simp) _
  clear hb h3 h4 h5 hs2
  go_enter Try.func9, Try.ntmps9
  go_wp2_with fail
  refine H.mono ?_
  rintro e V ⟨rfl, hV⟩
  subst V
  clear H
  go_wp2
  go_ret2
  exact ⟨B + 1, rfl, HA.out.1, HA.out.2⟩
theorem AIs.next {V : World} {S : Nat → Prop} {ab : Nat} {X : Ar} (h : AIs V S ab X) {nx : Int} (h1 : 0 ≤ nx) (h2 : nx ≤ X.sz) {V2 : World} (e : V2 = V.setCell ⟨ab, 2, none⟩ (.int .i64 nx)) : AIs V2 S ab ⟨X.sz, X.hs, nx⟩ := by
  subst e
  obtain ⟨ha, hc, h⟩ := h
  refine ⟨ha, hc, ⟨h.ok.s1, h.ok.s2, h.ok.g, h1, h2⟩, ?_, ?_, h.ne, h.Sa, h.Sh, fun x hx => by have := h.bd x hx; simpa using this⟩
  · rw [heap_setCell_same V ab 2 _ _ _ h.c]; rfl
  · refine own_keep h.h (fun x hx => ?_)
    rw [ob_slice] at hx
    exact heap_setCell_other _ _ _ _ (h.ne x hx)
theorem AIs.cells {V : World} {S : Nat → Prop} {ab : Nat} {X : Ar} (h : AIs V S ab X) : V.frozen? ⟨ab, 2, none⟩ = false ∧ V.cell? ⟨ab, 2, none⟩ = some (.int .i64 X.nx) := by
  obtain ⟨ha, hc, h⟩ := h
  exact ⟨h.fro 2, h.cells.2.2⟩
theorem AIs.mono {V : World} {S T : Nat → Prop} {ab : Nat} {X : Ar} (h : AIs V S ab X) (hS : ∀ x, S x → T x) (hb : ∀ x, T x → x < V.heap.size) : AIs V T ab X := by
  obtain ⟨ha, hc, h⟩ := h
  exact ⟨ha, hc, { h with Sa := hS _ h.Sa, Sh := fun x hx => hS _ (h.Sh x hx), bd := hb }⟩
/-- What a call leaves of an area. -/
def ATo (w : World) (S : Nat → Prop) (ab : Nat) (X' : Ar) (v : Value) (e : Ending) (w' : World) : Prop := e = .returned v ∧ AIs w' (more S w w') ab X' ∧ Upd S w w'
theorem ATo.same {w w' : World} {S : Nat → Prop} {ab : Nat} {X : Ar} (h : AIs w S ab X) (hb : Below w.heap.size w w') (v : Value) : ATo w S ab X v (.returned v) w' :=
  ⟨rfl, (h.below hb).mono (fun x hx => .inl hx) (fun x hx => by
    rcases hx with hx | hx
    · exact Nat.lt_of_lt_of_le (h.bd x hx) hb.size
    · exact hx.2), Upd.of_below hb⟩
set_option maxRecDepth 100000 in
set_option maxHeartbeats 1000000 in
theorem alloc_nil (n rule : Int) (w : World) : Calls Try.prog 15 #[.pointer none, .int .i64 n, .int .i64 rule] w fun e w' => e = .returned (.tuple #[.int .i64 0, .int .i64 1]) ∧ w' = w := by
  go_enter Try.func15, Try.ntmps15
  go_wp2
  go_ret2
  exact ⟨rfl, rfl⟩
set_option maxRecDepth 100000 in
set_option maxHeartbeats 8000000 in
theorem alloc_any {w : World} {S : Nat → Prop} {ab : Nat} {X : Ar} (h : AIs w S ab X) (n rule : Int) : Calls Try.prog 15 #[.pointer (some ⟨ab, 0, none⟩), .int .i64 n, .int .i64 rule] w (ATo w S ab (X.alloc n rule).1 (.tuple #[.int .i64 (X.alloc n rule).2.1, .int .i64 (X.alloc n rule).2.2])) := by
  have HR := isRule_any rule w
  by_cases h1 : 1 ≤ n
  rotate_left
  · have e1 : X.alloc n rule = (X, 0, 1) := by unfold Ar.alloc; rw [if_pos (.inl (by omega))]
    rw [e1]
    have HS : Hid (ATo w S ab X (.tuple #[.int .i64 0, .int .i64 1]) (.returned (.tuple #[.int .i64 0, .int .i64 1])) w) := ATo.same h (Below.refl _ _) _
    have kn : n < 1 := by omega
    clear h HR h1 e1
    go_enter Try.func15, Try.ntmps15
    go_wp2
    go_ret2
    exact HS.out
  by_cases h2 : 0 ≤ rule ∧ rule < 4
  rotate_left
  · have e1 : X.alloc n rule = (X, 0, 1) := by unfold Ar.alloc; rw [if_pos (by omega)]
    rw [e1]
    have HS : Hid (ATo w S ab X (.tuple #[.int .i64 0, .int .i64 1]) (.returned (.tuple #[.int .i64 0, .int .i64 1])) w) := ATo.same h (Below.refl _ _) _
    have hb : (decide (0 ≤ rule) && decide (rule < 4)) = false := by
      rw [Bool.and_eq_false_iff, decide_eq_false_iff_not, decide_eq_false_iff_not]; omega
    rw [hb] at HR
    have kn : ¬ n < 1 := by omega
    clear h h1 h2 e1 hb
    go_enter Try.func15, Try.ntmps15
    go_wp2_with fail
    refine HR.mono ?_
    rintro e V ⟨rfl, hV⟩
    subst V
    clear HR
    go_wp2
    go_ret2
    exact HS.out
  have hb : (decide (0 ≤ rule) && decide (rule < 4)) = true := by
    rw [Bool.and_eq_true, decide_eq_true_eq, decide_eq_true_eq]; omega
  rw [hb] at HR
  have kn : ¬ n < 1 := by omega
  have HA : Hid (AIs w S ab X ∧ X.Ok) := ⟨h, h.ok⟩
  have hlen := h.ok.len
  obtain ⟨ha, hc, h⟩ := h
  obtain ⟨c0, c1, c2⟩ := h.cells
  have hal : ab < w.heap.size := h.bd _ h.Sa
  have HSP : Hid (SpW w ha X.hs.length hc X.hs) := h.sp
  have hcap := h.sp.hcp
  have HCO := chooser_any rule X.nx w.drew
  obtain ⟨N, hN⟩ : ∃ N, X.hs.length = N := ⟨_, rfl⟩
  rw [hN] at c1 hlen HSP hcap
  have HN : Hid (X.hs.length = N) := hN
  have HNR : Hid (¬ (n < 1 ∨ rule < 0 ∨ 3 < rule)) := by show ¬ _; omega
  clear h hN hb c0 h1
  go_enter Try.func15, Try.ntmps15
  go_wp2_with fail
  refine HR.mono ?_
  rintro e V ⟨rfl, hV⟩
  subst V
  clear HR
  go_wp2
  refine wp_region_held_drew (S := fun V => V.cell? ⟨ab, 1, none⟩ = some (.slice ha N hc) ∧ V.cell? ⟨ab, 2, none⟩ = some (.int .i64 X.nx)) (by kernel_rfl) (⟨c1, c2⟩) (fun hHeld => ?_)
  refine wpAnyH_take (i := 0) (v := ?va0) rfl (by kernel_rfl) (by kernel_rfl) (by kernel_rfl) (fun _ _ _ h => h) (Or.inl ⟨by first | kernel_rfl | rfl, ?ya0⟩) hHeld ?ra0
  case ya0 => (intro W hSW; (try dsimp only at hSW); go_simp; (try with_reducible rfl))
  change wpAnyH _ _ _ _ _ _ _ (Act.put _ (some 23) _) _
  simp only [Act.put, List.setIfInBounds_toArray, List.set_cons_zero, List.set_cons_succ]
  refine wpAnyH_take (i := 1) (v := ?va1) rfl (by kernel_rfl) (by kernel_rfl) (by kernel_rfl) (fun _ _ _ h => h) (Or.inl ⟨by first | kernel_rfl | rfl, ?ya1⟩) hHeld ?ra1
  case ya1 => (intro W hSW; (try dsimp only at hSW); go_simp; (try with_reducible rfl))
  change wpAnyH _ _ _ _ _ _ _ (Act.put _ (some 24) _) _
  simp only [Act.put, List.setIfInBounds_toArray, List.set_cons_zero, List.set_cons_succ]
  refine wpAnyH_take (i := 2) (v := ?va2) rfl (by kernel_rfl) (by kernel_rfl) (by kernel_rfl) (fun _ _ _ h => h) (Or.inl ⟨by first | kernel_rfl | rfl, ?ya2⟩) hHeld ?ra2
  case ya2 => (intro W hSW; (try dsimp only at hSW); go_simp; (try with_reducible rfl))
  change wpAnyH _ _ _ _ _ _ _ (Act.put _ (some 25) _) _
  simp only [Act.put, List.setIfInBounds_toArray, List.set_cons_zero, List.set_cons_succ]
  refine wpAnyH_take (i := 3) (v := ?va3) rfl (by kernel_rfl) (by kernel_rfl) (by kernel_rfl) (fun _ _ _ h => h) (Or.inl ⟨by first | kernel_rfl | rfl, ?ya3⟩) hHeld ?ra3
  case ya3 => (intro W hSW; (try dsimp only at hSW); go_simp; (try with_reducible rfl))
  change wpAnyH _ _ _ _ _ _ _ (Act.put _ (some 26) _) _
  simp only [Act.put, List.setIfInBounds_toArray, List.set_cons_zero, List.set_cons_succ]
  refine wpAnyH_take (i := 4) (v := ?va4) rfl (by kernel_rfl) (by kernel_rfl) (by kernel_rfl) (fun _ _ _ h => h) (Or.inl ⟨by first | kernel_rfl | rfl, ?ya4⟩) hHeld ?ra4
  case ya4 => (intro W hSW; (try dsimp only at hSW); go_simp; (try with_reducible rfl))
  change wpAnyH _ _ _ _ _ _ _ (Act.put _ (some 27) _) _
  simp only [Act.put, List.setIfInBounds_toArray, List.set_cons_zero, List.set_cons_succ]
  refine wpAnyH_take (i := 5) (v := ?va5) rfl (by kernel_rfl) (by kernel_rfl) (by kernel_rfl) (fun _ _ _ h => h) (Or.inl ⟨by first | kernel_rfl | rfl, ?ya5⟩) hHeld ?ra5
  case ya5 => (intro W hSW; (try dsimp only at hSW); go_simp; (try with_reducible rfl))
  change wpAnyH _ _ _ _ _ _ _ (Act.put _ (some 28) _) _
  simp only [Act.put, List.setIfInBounds_toArray, List.set_cons_zero, List.set_cons_succ]
  refine wpAnyH_take (i := 6) (v := ?va6) rfl (by kernel_rfl) (by kernel_rfl) (by kernel_rfl) (fun _ _ _ h => h) (Or.inl ⟨by first | kernel_rfl | rfl, ?ya6⟩) hHeld ?ra6
  case ya6 => (intro W hSW; (try dsimp only at hSW); go_simp; (try with_reducible rfl))
  change wpAnyH _ _ _ _ _ _ _ (Act.put _ (some 29) _) _
  simp only [Act.put, List.setIfInBounds_toArray, List.set_cons_zero, List.set_cons_succ]
  refine wpAnyH_take (i := 7) (v := ?va7) rfl (by kernel_rfl) (by kernel_rfl) (by kernel_rfl) (fun _ _ _ h => h) (Or.inl ⟨by first | kernel_rfl | rfl, ?ya7⟩) hHeld ?ra7
  case ya7 => (intro W hSW; (try dsimp only at hSW); go_simp; (try with_reducible rfl))
  change wpAnyH _ _ _ _ _ _ _ (Act.put _ (some 30) _) _
  simp only [Act.put, List.setIfInBounds_toArray, List.set_cons_zero, List.set_cons_succ]
  refine wpAnyH_take (i := 8) (v := ?va8) rfl (by kernel_rfl) (by kernel_rfl) (by kernel_rfl) (fun _ _ _ h => h) (Or.inl ⟨by first | kernel_rfl | rfl, ?ya8⟩) hHeld ?ra8
  case ya8 => (intro W hSW; (try dsimp only at hSW); go_simp; (try with_reducible rfl))
  change wpAnyH _ _ _ _ _ _ _ (Act.put _ (some 31) _) _
  simp only [Act.put, List.setIfInBounds_toArray, List.set_cons_zero, List.set_cons_succ]
  refine wpAnyH_take (i := 9) (v := ?va9) rfl (by kernel_rfl) (by kernel_rfl) (by kernel_rfl) (fun _ _ _ h => h) (Or.inl ⟨by first | kernel_rfl | rfl, ?ya9⟩) hHeld ?ra9
  case ya9 => (intro W hSW; (try dsimp only at hSW); go_simp; (try with_reducible rfl))
  change wpAnyH _ _ _ _ _ _ _ (Act.put _ (some 32) _) _
  simp only [Act.put, List.setIfInBounds_toArray, List.set_cons_zero, List.set_cons_succ]
  refine wpAnyH_ready (rs := [10]) (by kernel_rfl) (by simp) ?_
  refine AllReadyH.cons rfl (fun K hK => ?_) AllReadyH.nil
  go_simp
  refine (HCO).mono ?_
  rintro e V2 ⟨fc, lb, rfl, hch, hV2⟩
  refine hK.out _ _ (⟨keepc hV2 hHeld.1, keepc hV2 hHeld.2⟩) (fun hHeld => ?_)
  clear hK K
  try simp only [Act.put, List.setIfInBounds_toArray, List.set_cons_zero, List.set_cons_succ]
  have HPK := pick_any (HSP.out.below (show Below w.heap.size w V2 from (Below.refl _ w).drew.trans hV2)) hch n (by omega)
  rw [← HN.out] at HPK
  have HPL : Calls Try.prog 34 #[.slice ha X.hs.length hc, .int .i64 n, .func (.func fc) #[] lb] V2 fun e w' => e = .returned (pickA (X.pick n rule)) ∧ Below V2.heap.size V2 w' := HPK
  clear HPK
  rw [HN.out] at HPL
  refine wpAnyH_ready (rs := [11]) (by kernel_rfl) (by simp) ?_
  refine AllReadyH.cons rfl (fun K hK => ?_) AllReadyH.nil
  go_simp
  refine (HPL).mono ?_
  rintro e V3 ⟨rfl, hV3⟩
  refine hK.out _ _ (⟨keepc hV3 hHeld.1, keepc hV3 hHeld.2⟩) (fun hHeld => ?_)
  clear hK K
  try simp only [Act.put, List.setIfInBounds_toArray, List.set_cons_zero, List.set_cons_succ]
  have HV3 : Hid (Below w.heap.size w V3) := (show Below w.heap.size w V2 from (Below.refl _ w).drew.trans hV2).trans (hV3.mono hV2.size)
  clear HCO HPL hV2 hV3 hch
  cases hp : X.pick n rule with
  | none =>
    simp only [pickA]
    have HS : Hid (∀ V, Below w.heap.size w V → ATo w S ab (X.alloc n rule).1 (.tuple #[.int .i64 (X.alloc n rule).2.1, .int .i64 (X.alloc n rule).2.2]) (.returned (.tuple #[.int .i64 0, .int .i64 5])) V) := fun V hV => by
      have e1 : X.alloc n rule = (X, 0, 5) := by unfold Ar.alloc; rw [if_neg HNR.out, hp]
      rw [e1]; exact ATo.same HA.out.1 hV _
    clear hp
    refine wpAnyH_take (i := 12) (v := ?vb12) rfl (by kernel_rfl) (by kernel_rfl) (by kernel_rfl) (fun _ _ _ h => h) (Or.inl ⟨by first | kernel_rfl | rfl, ?yb12⟩) hHeld ?rb12
    case yb12 => (intro W hSW; (try dsimp only at hSW); go_simp; (try with_reducible rfl))
    change wpAnyH _ _ _ _ _ _ _ (Act.put _ (some 22) _) _
    simp only [Act.put, List.setIfInBounds_toArray, List.set_cons_zero, List.set_cons_succ]
    refine wpAnyH_take (i := 13) (v := ?vb13) rfl (by kernel_rfl) (by kernel_rfl) (by kernel_rfl) (fun _ _ _ h => h) (Or.inl ⟨by first | kernel_rfl | rfl, ?yb13⟩) hHeld ?rb13
    case yb13 => (intro W hSW; (try dsimp only at hSW); go_simp; (try with_reducible rfl))
    change wpAnyH _ _ _ _ _ _ _ (Act.put _ (some 35) _) _
    simp only [Act.put, List.setIfInBounds_toArray, List.set_cons_zero, List.set_cons_succ]
    refine wpAnyH_take (i := 14) (v := ?vb14) rfl (by kernel_rfl) (by kernel_rfl) (by kernel_rfl) (fun _ _ _ h => h) (Or.inl ⟨by first | kernel_rfl | rfl, ?yb14⟩) hHeld ?rb14
    case yb14 => (intro W hSW; (try dsimp only at hSW); go_simp; (try with_reducible rfl))
    change wpAnyH _ _ _ _ _ _ _ (Act.put _ (some 36) _) _
    simp only [Act.put, List.setIfInBounds_toArray, List.set_cons_zero, List.set_cons_succ]
    refine wpAnyH_take (i := 15) (v := ?vb15) rfl (by kernel_rfl) (by kernel_rfl) (by kernel_rfl) (fun _ _ _ h => h) (Or.inl ⟨by first | kernel_rfl | rfl, ?yb15⟩) hHeld ?rb15
    case yb15 => (intro W hSW; (try dsimp only at hSW); go_simp; (try with_reducible rfl))
    change wpAnyH _ _ _ _ _ _ _ (Act.put _ (some 8) _) _
    simp only [Act.put, List.setIfInBounds_toArray, List.set_cons_zero, List.set_cons_succ]
    refine wpAnyH_take (i := 16) (v := ?vb16) rfl (by kernel_rfl) (by kernel_rfl) (by kernel_rfl) (fun _ _ _ h => h) (Or.inl ⟨by first | kernel_rfl | rfl, ?yb16⟩) hHeld ?rb16
    case yb16 => (intro W hSW; (try dsimp only at hSW); go_simp; (try with_reducible rfl))
    change wpAnyH _ _ _ _ _ _ _ (Act.put _ (some 9) _) _
    simp only [Act.put, List.setIfInBounds_toArray, List.set_cons_zero, List.set_cons_succ]
    refine wpAnyH_done (by kernel_rfl) ?_ _
    clear hHeld
    go_wp2
    go_ret2
    exact HS.out _ HV3.out
  | some a =>
    simp only [pickA]
    obtain ⟨q, hq, hd, hnq⟩ := Ar.pick_some hp
    have e1 : X.alloc n rule = (⟨X.sz, cutL X.hs a (q.1, n), if rule = 3 then q.1 + n else X.nx⟩, q.1, 0) := by
      unfold Ar.alloc; rw [if_neg HNR.out, hp]
      dsimp only
      rw [hd]
    have HE1 : Hid (X.alloc n rule = (⟨X.sz, cutL X.hs a (q.1, n), if rule = 3 then q.1 + n else X.nx⟩, q.1, 0)) := e1
    have hm := HA.out.2.mem (List.mem_of_getElem? hq)
    have hz := HA.out.2.s2
    have haN : a < N := by rw [← HN.out]; exact (List.getElem?_eq_some_iff.1 hq).1
    have kaN : (a : Int) < (N : Int) := by omega
    obtain ⟨b, o, rfl, hbl, hcs⟩ := HSP.out.hat (by omega)
    obtain ⟨y1, y2⟩ := hcs a q hq
    have z1 : V3.cell? ⟨ab, 1, none⟩ = some (.slice (some ⟨b, o, none⟩) N hc) := keepc HV3.out c1
    have z2 : V3.cell? ⟨b, o + a * 2, none⟩ = some (.int .i64 q.1) := keepc HV3.out y1
    obtain ⟨B, hB⟩ : ∃ B, V3.heap.size = B := ⟨_, rfl⟩
    obtain ⟨W5, hW5⟩ : ∃ W5, V3.alloc (.cells #[.int .i64 q.1, .int .i64 n] 37) = W5 := ⟨_, rfl⟩
    have hb5 : Below V3.heap.size V3 W5 := by rw [← hW5]; exact (Below.refl _ _).alloc (Nat.le_refl _) _
    have h5 : W5.heap[B]? = some (.cells #[.int .i64 q.1, .int .i64 n] 37 (0, 0)) := by rw [← hW5, ← hB]; exact heap_alloc_new _ _
    have d1 : W5.cell? ⟨B, 0, none⟩ = some (.int .i64 q.1) := by rw [cell_of_row _ _ _ _ _ _ h5]; rfl
    have d2 : W5.cell? ⟨B, 1, none⟩ = some (.int .i64 n) := by rw [cell_of_row _ _ _ _ _ _ h5]; rfl
    have HV5 : Hid (Below w.heap.size w W5) := HV3.out.trans (hb5.mono HV3.out.size)
    have HCT := cut_any (HA.out.1.below HV5.out) (s := (q.1, n)) hq (Int.le_refl _) (by simp only [en]; omega) (by show 1 ≤ n; omega)
    have HBX : Hid (¬ S B ∧ W5.heap[B]? = some (.cells #[.int .i64 q.1, .int .i64 n] 37 (0, 0)) ∧ (0 ≤ q.1 + n ∧ q.1 + n ≤ X.sz)) := ⟨fun hS => by have := HA.out.1.bd B hS; have := HV3.out.size; omega, h5, by omega, by omega⟩
    have HEND : Hid (∀ V, Calls Try.prog 37 #[.agg #[.int .i64 q.1, .int .i64 n]] V fun e w' => e = .returned (.int .i64 (q.1 + n)) ∧ Below V.heap.size V w') := fun V => end_any q.1 n V ⟨by omega, by omega⟩
    have HFI : Hid (∀ (V6 V : World) (nx : Int), AIs V6 (more S W5 V6) ab ⟨X.sz, cutL X.hs a (q.1, n), nx⟩ → Upd S W5 V6 → Upd (fun x => x = ab) V6 V → AIs V (more S W5 V6) ab ⟨X.sz, cutL X.hs a (q.1, n), if rule = 3 then q.1 + n else X.nx⟩ → ATo w S ab (X.alloc n rule).1 (.tuple #[.int .i64 (X.alloc n rule).2.1, .int .i64 (X.alloc n rule).2.2]) (.returned (.tuple #[.int .i64 q.1, .int .i64 0])) V) := fun V6 V nx h6 hu hu2 h7 => by
      rw [HE1.out]
      refine ⟨rfl, h7.mono (fun x hx => ?_) (fun x hx => ?_), ?_⟩
      · rcases hx with hx | hx
        · exact .inl hx
        · exact .inr ⟨Nat.le_trans HV5.out.size hx.1, Nat.lt_of_lt_of_le hx.2 hu2.size⟩
      · rcases hx with hx | hx
        · exact Nat.lt_of_lt_of_le (HA.out.1.bd x hx) (Nat.le_trans HV5.out.size (Nat.le_trans hu.size hu2.size))
        · exact hx.2
      · refine Upd.trans ((Upd.of_below HV5.out).trans hu (fun x hx _ => hx)) hu2 (fun x hx _ => ?_)
        rw [hx]; exact HA.out.1.sa
    clear hp hq hd e1 hcs y1 y2 h5 hb5 hnq c1 c2 hbl
    refine wpAnyH_take (i := 12) (v := ?vc12) rfl (by kernel_rfl) (by kernel_rfl) (by kernel_rfl) (fun _ _ _ h => h) (Or.inl ⟨by first | kernel_rfl | rfl, ?yc12⟩) hHeld ?rc12
    case yc12 => (intro W hSW; (try dsimp only at hSW); go_simp; (try with_reducible rfl))
    change wpAnyH _ _ _ _ _ _ _ (Act.put _ (some 22) _) _
    simp only [Act.put, List.setIfInBounds_toArray, List.set_cons_zero, List.set_cons_succ]
    refine wpAnyH_take (i := 13) (v := ?vc13) rfl (by kernel_rfl) (by kernel_rfl) (by kernel_rfl) (fun _ _ _ h => h) (Or.inl ⟨by first | kernel_rfl | rfl, ?yc13⟩) hHeld ?rc13
    case yc13 => (intro W hSW; (try dsimp only at hSW); go_simp; (try with_reducible rfl))
    change wpAnyH _ _ _ _ _ _ _ (Act.put _ (some 35) _) _
    simp only [Act.put, List.setIfInBounds_toArray, List.set_cons_zero, List.set_cons_succ]
    refine wpAnyH_take (i := 14) (v := ?vc14) rfl (by kernel_rfl) (by kernel_rfl) (by kernel_rfl) (fun _ _ _ h => h) (Or.inl ⟨by first | kernel_rfl | rfl, ?yc14⟩) hHeld ?rc14
    case yc14 => (intro W hSW; (try dsimp only at hSW); go_simp; (try with_reducible rfl))
    change wpAnyH _ _ _ _ _ _ _ (Act.put _ (some 36) _) _
    simp only [Act.put, List.setIfInBounds_toArray, List.set_cons_zero, List.set_cons_succ]
    refine wpAnyH_take (i := 15) (v := ?vc15) rfl (by kernel_rfl) (by kernel_rfl) (by kernel_rfl) (fun _ _ _ h => h) (Or.inl ⟨by first | kernel_rfl | rfl, ?yc15⟩) hHeld ?rc15
    case yc15 => (intro W hSW; (try dsimp only at hSW); go_simp; (try with_reducible rfl))
    change wpAnyH _ _ _ _ _ _ _ (Act.put _ (some 8) _) _
    simp only [Act.put, List.setIfInBounds_toArray, List.set_cons_zero, List.set_cons_succ]
    refine wpAnyH_take (i := 16) (v := ?vc16) rfl (by kernel_rfl) (by kernel_rfl) (by kernel_rfl) (fun _ _ _ h => h) (Or.inl ⟨by first | kernel_rfl | rfl, ?yc16⟩) hHeld ?rc16
    case yc16 => (intro W hSW; (try dsimp only at hSW); go_simp; (try with_reducible rfl))
    change wpAnyH _ _ _ _ _ _ _ (Act.put _ (some 9) _) _
    simp only [Act.put, List.setIfInBounds_toArray, List.set_cons_zero, List.set_cons_succ]
    refine wpAnyH_done (by kernel_rfl) ?_ _
    clear hHeld
    go_wp2_with fail
    refine HCT.mono ?_
    rintro e V6 ⟨rfl, h6, hu6⟩
    have hr6 : V6.heap[B]? = some (.cells #[.int .i64 q.1, .int .i64 n] 37 (0, 0)) := (hu6.block B (lt_of_some HBX.out.2.1) HBX.out.1).trans HBX.out.2.1
    have g1 : V6.cell? ⟨B, 0, none⟩ = some (.int .i64 q.1) := by rw [cell_of_row _ _ _ _ _ _ hr6]; rfl
    have g2 : V6.cell? ⟨B, 1, none⟩ = some (.int .i64 n) := by rw [cell_of_row _ _ _ _ _ _ hr6]; rfl
    have H6 : Hid (AIs V6 (more S W5 V6) ab ⟨X.sz, cutL X.hs a (q.1, n), X.nx⟩ ∧ Upd S W5 V6) := ⟨h6, hu6⟩
    clear HCT h6 hu6 d1 d2 z1 z2 hB hW5
    by_cases h3 : rule = 3
    · have HR3 : Hid (rule = 3) := h3
      go_wp2_with fail
      refine (HEND.out _).mono ?_
      rintro e V7 ⟨rfl, hV7⟩
      have h7 := H6.out.1.below hV7
      have f7 := h7.cells.1
      have c7 := h7.cells.2
      have g7 : V7.cell? ⟨B, 0, none⟩ = some (.int .i64 q.1) := keepc hV7 g1
      have hlB : ab ≠ B := fun e => HBX.out.1 (e ▸ HA.out.1.sa)
      have HF : Hid (∀ V, V = V7.setCell ⟨ab, 2, none⟩ (.int .i64 (q.1 + n)) → ATo w S ab (X.alloc n rule).1 (.tuple #[.int .i64 (X.alloc n rule).2.1, .int .i64 (X.alloc n rule).2.2]) (.returned (.tuple #[.int .i64 q.1, .int .i64 0])) V) := fun V hV => by
        refine HFI.out V6 V X.nx H6.out.1 H6.out.2 ?_ ?_
        · subst hV
          exact (Upd.of_below hV7).trans (T := fun x => x = ab) (Upd.setCell (S := fun x => x = ab) (p := ⟨ab, 2, none⟩) (Upd.refl _ V7) (fun _ => rfl) _) (fun x hx _ => hx)
        · rw [if_pos HR3.out]
          exact h7.next HBX.out.2.2.1 HBX.out.2.2.2 hV
      clear hV7 h7 HFI h2
      go_wp2
      go_ret2
      exact HF.out _ rfl
    · have HF := HFI.out V6 V6 X.nx H6.out.1 H6.out.2 (Upd.refl _ _) (by rw [if_neg h3]; exact H6.out.1)
      have HF2 : Hid (ATo w S ab (X.alloc n rule).1 (.tuple #[.int .i64 (X.alloc n rule).2.1, .int .i64 (X.alloc n rule).2.2]) (.returned (.tuple #[.int .i64 q.1, .int .i64 0])) V6) := HF
      clear HF HFI
      go_wp2
      go_ret2
      exact HF2.out
end Go.Proofs.Ytgihdfmeokbplaa
