/- The walk over NumLists. -/
import Derived.Test.YtbomopjngpnghaaI
import Derived.Test.YtbomopjngpnghaaZ
import Derived.Test.YtbomopjngpnghaaK
namespace Go.Proofs.Ytbomopjngpnghaa
open Go.RowKit

set_option maxRecDepth 100000 in
set_option maxHeartbeats 1000000 in
theorem numLists_walk (a : Option Addr) (len cap : Nat) (bs : List UInt8) (la : Option Addr) (ln lc : Nat) (ss : List ByteArray) (p y m : Int) (w : World) (h : Bs w a len cap bs) (h' : Ss w la ln lc ss) (hs : ∀ i (h : i < ss.length), (ss[i]).size ≤ 140737488351232)
    (hp : -9223372036854775808 ≤ p ∧ p ≤ 9223372036854775807) (hyy : -9223372036854775808 ≤ y ∧ y ≤ 9223372036854775807) (hm : -9223372036854775808 ≤ m ∧ m ≤ 9223372036854775807) :
    Calls Try.prog 8 #[.slice a len cap, .slice la ln lc, .agg #[.int .i64 p, .int .i64 y, .int .i64 m]] w fun e w' => e = .returned (.bool true) ∧ Below w.heap.size w w' := by
  have hlm : len ≤ 9223372036854775807 := Nat.le_trans h.2.1 h.2.2.1
  by_cases hy : len ≤ 20000 ∧ ln ≤ 300 ∧ tot ss ≤ 20000
  · obtain ⟨ts, q, er, hr⟩ : ∃ t q er, listAt bs p y m = (t, q, er) := ⟨_, _, _, rfl⟩
    obtain ⟨T, hT⟩ : ∃ T, (listN ss).length = T := ⟨_, rfl⟩
    have HR : Hid (listAt bs p y m = (ts, q, er)) := hr
    have HT : Hid ((listN ss).length = T) := hT
    have h20 : len ≤ 20000 := hy.1
    have hTb : T ≤ 30000 := by
      have h1 := flatN_le ss (by omega)
      have h2 := h'.1
      have h3 := putN_le10 ss.length (by omega)
      simp only [listN, List.length_append] at hT
      omega
    have hl : bs.length ≤ 1000000 := by have := h.1; omega
    have hz1 : (strOf bs).size ≤ 20000 := by rw [strOf_size, h.1]; omega
    have hz2 : (strOf (listN ss)).size ≤ 30000 := by rw [strOf_size, hT]; omega
    have hif : ¬ (9223372036854775807 < (strOf bs).size + (strOf (listN ss)).size) := by omega
    have hcv : ∀ W, Bs W a len cap bs → (convert 22 9 (.slice a len cap)).run Try.prog W = .ok (.string (strOf bs)) W := fun W h => h.str
    have HA : Hid (Bs w a len cap bs) := h
    have HL : Hid (Ss w la ln lc ss) := h'
    have HY : Hid (len ≤ 20000 ∧ ln ≤ 300 ∧ tot ss ≤ 20000) := hy
    have HP : Hid (-9223372036854775808 ≤ p ∧ p ≤ 9223372036854775807) := hp
    have HYY : Hid (-9223372036854775808 ≤ y ∧ y ≤ 9223372036854775807) := hyy
    have HM : Hid (-9223372036854775808 ≤ m ∧ m ≤ 9223372036854775807) := hm
    clear hr hT h h' hy hs hp hm hyy
    go_enter Try.func8, Try.ntmps8
    go_wp2_with fail
    refine (small_gen_yes _ _ _ _ _ _ ss _ (HL.out.laid _) HY.out).mono ?_
    rintro e w' ⟨rfl, hw⟩
    subst w'
    go_wp2_with fail
    refine (glist_any a len cap bs p y m ts q er HR.out _ (HA.out.laid _) (by omega) HP.out HYY.out HM.out).mono ?_
    rintro e w1 ⟨la1, n1, c1, rfl, hx1, hb1⟩
    have HW1 := below_after hb1
    have hA1 := HA.out.below HW1
    obtain ⟨hbc, _⟩ := bcell hb1
    have hsz1 := hb1.size
    simp only [World.size_alloc] at hsz1
    go_wp2_with fail
    refine (rglist_any bs p y m ts q er HR.out _ hl HP.out HYY.out HM.out).mono ?_
    rintro e w2 ⟨la2, n2, c2, rfl, hx2, hb2⟩
    have HW2 := below_on hb2 HW1 HW1.size
    have HB0 : Bs w2 a len cap bs ∧ Ss w2 la ln lc ss ∧ Ss w2 la1 n1 c1 (ts.map strOf) ∧ Ss w2 la2 n2 c2 (ts.map strOf) := ⟨HA.out.below HW2, HL.out.on' HW2, Ss.on hb2 hx1, hx2⟩
    clear hbc hA1 hsz1 hx1 hx2 hb1 hb2
    go_wp2_with fail
    refine wp_region_held_drew (S := fun W => Bs W a len cap bs ∧ Ss W la ln lc ss ∧ Ss W la1 n1 c1 (ts.map strOf) ∧ Ss W la2 n2 c2 (ts.map strOf)) (by kernel_rfl) (HB0) (fun hHeld => ?_)
    refine wpAnyH_take (i := 0) (v := ?v0) rfl (by kernel_rfl) (by kernel_rfl) (by kernel_rfl) (fun _ _ _ h => h) (Or.inl ⟨by kernel_rfl, ?y0⟩) hHeld ?r0
    case y0 => (intro W hSW; (try dsimp only at hSW); go_simp; (try with_reducible rfl))
    change wpAnyH _ _ _ _ _ _ _ (Act.put _ (some 43) _) _
    simp only [Act.put, List.setIfInBounds_toArray, List.set_cons_zero, List.set_cons_succ]
    refine wpAnyH_take (i := 1) (v := ?v1) rfl (by kernel_rfl) (by kernel_rfl) (by kernel_rfl) (fun _ _ _ h => h) (Or.inl ⟨by kernel_rfl, ?y1⟩) hHeld ?r1
    case y1 => (intro W hSW; (try dsimp only at hSW); go_simp; (try with_reducible rfl))
    change wpAnyH _ _ _ _ _ _ _ (Act.put _ (some 44) _) _
    simp only [Act.put, List.setIfInBounds_toArray, List.set_cons_zero, List.set_cons_succ]
    refine wpAnyH_take (i := 4) (v := ?v4) rfl (by kernel_rfl) (by kernel_rfl) (by kernel_rfl) (fun _ _ _ h => h) (Or.inl ⟨by kernel_rfl, ?y4⟩) hHeld ?r4
    case y4 => (intro W hSW; (try dsimp only at hSW); go_simp; (try with_reducible rfl))
    change wpAnyH _ _ _ _ _ _ _ (Act.put _ (some 47) _) _
    simp only [Act.put, List.setIfInBounds_toArray, List.set_cons_zero, List.set_cons_succ]
    refine wpAnyH_take (i := 5) (v := ?v5) rfl (by kernel_rfl) (by kernel_rfl) (by kernel_rfl) (fun _ _ _ h => h) (Or.inl ⟨by kernel_rfl, ?y5⟩) hHeld ?r5
    case y5 => (intro W hSW; (try dsimp only at hSW); go_simp; (try with_reducible rfl))
    change wpAnyH _ _ _ _ _ _ _ (Act.put _ (some 48) _) _
    simp only [Act.put, List.setIfInBounds_toArray, List.set_cons_zero, List.set_cons_succ]
    refine wpAnyH_take (i := 6) (v := ?v6) rfl (by kernel_rfl) (by kernel_rfl) (by kernel_rfl) (fun _ _ _ h => h) (Or.inl ⟨by kernel_rfl, ?y6⟩) hHeld ?r6
    case y6 => (intro W hSW; (try dsimp only at hSW); go_simp; (try with_reducible rfl))
    change wpAnyH _ _ _ _ _ _ _ (Act.put _ (some 49) _) _
    simp only [Act.put, List.setIfInBounds_toArray, List.set_cons_zero, List.set_cons_succ]
    refine wpAnyH_ready (rs := [2]) (by kernel_rfl) (by simp) ?_
    refine AllReadyH.cons rfl (fun K hK => ?_) AllReadyH.nil
    go_simp
    refine (plist_any a len cap bs la ln lc ss _ (by exact HB0.1) (by omega) (by exact HB0.2.1) HY.out.2.1 HY.out.2.2 T HT.out).mono ?_
    rintro e w3 ⟨g, rfl, hg, hb⟩
    refine hK.out _ _ (⟨Bs.on hb HB0.1, Ss.on hb HB0.2.1, Ss.on hb HB0.2.2.1, Ss.on hb HB0.2.2.2⟩) (fun hHeld => ?_)
    clear hK K
    try simp only [Act.put, List.setIfInBounds_toArray, List.set_cons_zero, List.set_cons_succ]
    have HW := below_on (undrew hb) HW2 HW2.size
    have hcg : ∀ W, Bs W (some ⟨g, 0, none⟩) (len + T) (len + T) (bs ++ listN ss) → (convert 22 9 (.slice (some ⟨g, 0, none⟩) (len + T) (len + T))).run Try.prog W = .ok (.string (strOf bs ++ strOf (listN ss))) W := fun W h => by rw [h.str, strOf_append]
    refine wpAnyH_strengthen (S' := fun W => (Bs W a len cap bs ∧ Ss W la ln lc ss ∧ Ss W la1 n1 c1 (ts.map strOf) ∧ Ss W la2 n2 c2 (ts.map strOf)) ∧ Bs W (some ⟨g, 0, none⟩) (len + T) (len + T) (bs ++ listN ss)) (fun W h => h.1) ?_
    have hHeld : (fun W => (Bs W a len cap bs ∧ Ss W la ln lc ss ∧ Ss W la1 n1 c1 (ts.map strOf) ∧ Ss W la2 n2 c2 (ts.map strOf)) ∧ Bs W (some ⟨g, 0, none⟩) (len + T) (len + T) (bs ++ listN ss)) w3 := ⟨hHeld, hg⟩
    refine wpAnyH_take (i := 3) (v := ?v3) rfl (by kernel_rfl) (by kernel_rfl) (by kernel_rfl) (fun _ _ _ h => h) (Or.inl ⟨by kernel_rfl, ?y3⟩) hHeld ?r3
    case y3 => (intro W hSW; (try dsimp only at hSW); go_simp; (try with_reducible rfl))
    change wpAnyH _ _ _ _ _ _ _ (Act.put _ (some 46) _) _
    simp only [Act.put, List.setIfInBounds_toArray, List.set_cons_zero, List.set_cons_succ]
    refine wpAnyH_ready (rs := [7]) (by kernel_rfl) (by simp) ?_
    refine AllReadyH.cons rfl (fun K hK => ?_) AllReadyH.nil
    go_simp
    refine (rlist_any la ln lc ss _ hHeld.1.2.1 HY.out.2.1 HY.out.2.2).mono ?_
    rintro e w4 ⟨rfl, hb4⟩
    refine hK.out _ _ (⟨⟨Bs.on hb4 hHeld.1.1, Ss.on hb4 hHeld.1.2.1, Ss.on hb4 hHeld.1.2.2.1, Ss.on hb4 hHeld.1.2.2.2⟩, Bs.on hb4 hHeld.2⟩) (fun hHeld => ?_)
    clear hK K
    try simp only [Act.put, List.setIfInBounds_toArray, List.set_cons_zero, List.set_cons_succ]
    have HW := below_on hb4 HW HW.size
    refine wpAnyH_take (i := 8) (v := ?v8) rfl (by kernel_rfl) (by kernel_rfl) (by kernel_rfl) (fun _ _ _ h => h) (Or.inl ⟨by kernel_rfl, ?y8⟩) hHeld ?r8
    case y8 => (intro W hSW; (try dsimp only at hSW); go_simp; (try with_reducible rfl))
    change wpAnyH _ _ _ _ _ _ _ (Act.put _ (some 51) _) _
    simp only [Act.put, List.setIfInBounds_toArray, List.set_cons_zero, List.set_cons_succ]
    refine wpAnyH_take (i := 9) (v := ?v9) rfl (by kernel_rfl) (by kernel_rfl) (by kernel_rfl) (fun _ _ _ h => h) (Or.inl ⟨by kernel_rfl, ?y9⟩) hHeld ?r9
    case y9 => (intro W hSW; (try dsimp only at hSW); go_simp; (try with_reducible rfl))
    change wpAnyH _ _ _ _ _ _ _ (Act.put _ (some 52) _) _
    simp only [Act.put, List.setIfInBounds_toArray, List.set_cons_zero, List.set_cons_succ]
    refine wpAnyH_take (i := 10) (v := ?v10) rfl (by kernel_rfl) (by kernel_rfl) (by kernel_rfl) (fun _ _ _ h => h) (Or.inl ⟨by kernel_rfl, ?y10⟩) hHeld ?r10
    case y10 => (intro W hSW; (try dsimp only at hSW); go_simp; (try with_reducible rfl))
    change wpAnyH _ _ _ _ _ _ _ (Act.put _ (some 53) _) _
    simp only [Act.put, List.setIfInBounds_toArray, List.set_cons_zero, List.set_cons_succ]
    refine wpAnyH_take (i := 11) (v := ?v11) rfl (by kernel_rfl) (by kernel_rfl) (by kernel_rfl) (fun _ _ _ h => h) (Or.inl ⟨by kernel_rfl, ?y11⟩) hHeld ?r11
    case y11 => (intro W hSW; (try dsimp only at hSW); go_simp; (try with_reducible rfl))
    change wpAnyH _ _ _ _ _ _ _ (Act.put _ (some 54) _) _
    simp only [Act.put, List.setIfInBounds_toArray, List.set_cons_zero, List.set_cons_succ]
    refine wpAnyH_take (i := 12) (v := ?v12) rfl (by kernel_rfl) (by kernel_rfl) (by kernel_rfl) (fun _ _ _ h => h) (Or.inl ⟨by kernel_rfl, ?y12⟩) hHeld ?r12
    case y12 => (intro W hSW; (try dsimp only at hSW); go_simp; (try with_reducible rfl))
    change wpAnyH _ _ _ _ _ _ _ (Act.put _ (some 55) _) _
    simp only [Act.put, List.setIfInBounds_toArray, List.set_cons_zero, List.set_cons_succ]
    refine wpAnyH_ready (rs := [13]) (by kernel_rfl) (by simp) ?_
    refine AllReadyH.cons rfl (fun K hK => ?_) AllReadyH.nil
    go_simp
    refine (same_any la1 la2 n1 n2 c1 c2 (ts.map strOf) _ hHeld.1.2.2.1 hHeld.1.2.2.2).mono ?_
    rintro e w5 ⟨rfl, hb5⟩
    refine hK.out _ _ (⟨⟨Bs.on hb5 hHeld.1.1, Ss.on hb5 hHeld.1.2.1, Ss.on hb5 hHeld.1.2.2.1, Ss.on hb5 hHeld.1.2.2.2⟩, Bs.on hb5 hHeld.2⟩) (fun hHeld => ?_)
    clear hK K
    try simp only [Act.put, List.setIfInBounds_toArray, List.set_cons_zero, List.set_cons_succ]
    have HW := below_on hb5 HW HW.size
    refine wpAnyH_take (i := 14) (v := ?v14) rfl (by kernel_rfl) (by kernel_rfl) (by kernel_rfl) (fun _ _ _ h => h) (Or.inl ⟨by kernel_rfl, ?y14⟩) hHeld ?r14
    case y14 => (intro W hSW; (try dsimp only at hSW); go_simp; (try with_reducible rfl))
    change wpAnyH _ _ _ _ _ _ _ (Act.put _ (some 57) _) _
    simp only [Act.put, List.setIfInBounds_toArray, List.set_cons_zero, List.set_cons_succ]
    refine wpAnyH_take (i := 15) (v := ?v15) rfl (by kernel_rfl) (by kernel_rfl) (by kernel_rfl) (fun _ _ _ h => h) (Or.inl ⟨by kernel_rfl, ?y15⟩) hHeld ?r15
    case y15 => (intro W hSW; (try dsimp only at hSW); go_simp; (try with_reducible rfl))
    change wpAnyH _ _ _ _ _ _ _ (Act.put _ (some 58) _) _
    simp only [Act.put, List.setIfInBounds_toArray, List.set_cons_zero, List.set_cons_succ]
    refine wpAnyH_take (i := 16) (v := ?v16) rfl (by kernel_rfl) (by kernel_rfl) (by kernel_rfl) (fun _ _ _ h => h) (Or.inl ⟨by kernel_rfl, ?y16⟩) hHeld ?r16
    case y16 => (intro W hSW; (try dsimp only at hSW); go_simp; (try with_reducible rfl))
    change wpAnyH _ _ _ _ _ _ _ (Act.put _ (some 59) _) _
    simp only [Act.put, List.setIfInBounds_toArray, List.set_cons_zero, List.set_cons_succ]
    refine wpAnyH_take (i := 17) (v := ?v17) rfl (by kernel_rfl) (by kernel_rfl) (by kernel_rfl) (fun _ _ _ h => h) (Or.inl ⟨by kernel_rfl, ?y17⟩) hHeld ?r17
    case y17 => (intro W hSW; (try dsimp only at hSW); go_simp; (try with_reducible rfl))
    change wpAnyH _ _ _ _ _ _ _ (Act.put _ (some 60) _) _
    simp only [Act.put, List.setIfInBounds_toArray, List.set_cons_zero, List.set_cons_succ]
    refine wpAnyH_take (i := 18) (v := ?v18) rfl (by kernel_rfl) (by kernel_rfl) (by kernel_rfl) (fun _ _ _ h => h) (Or.inl ⟨by kernel_rfl, ?y18⟩) hHeld ?r18
    case y18 => (intro W hSW; (try dsimp only at hSW); go_simp; (try with_reducible rfl))
    change wpAnyH _ _ _ _ _ _ _ (Act.put _ (some 61) _) _
    simp only [Act.put, List.setIfInBounds_toArray, List.set_cons_zero, List.set_cons_succ]
    refine wpAnyH_take (i := 19) (v := ?v19) rfl (by kernel_rfl) (by kernel_rfl) (by kernel_rfl) (fun _ _ _ h => h) (Or.inl ⟨by kernel_rfl, ?y19⟩) hHeld ?r19
    case y19 => (intro W hSW; (try dsimp only at hSW); go_simp; (try with_reducible rfl))
    change wpAnyH _ _ _ _ _ _ _ (Act.put _ (some 62) _) _
    simp only [Act.put, List.setIfInBounds_toArray, List.set_cons_zero, List.set_cons_succ]
    refine wpAnyH_take (i := 20) (v := ?v20) rfl (by kernel_rfl) (by kernel_rfl) (by kernel_rfl) (fun _ _ _ h => h) (Or.inl ⟨by kernel_rfl, ?y20⟩) hHeld ?r20
    case y20 => (intro W hSW; (try dsimp only at hSW); go_simp; (try with_reducible rfl))
    change wpAnyH _ _ _ _ _ _ _ (Act.put _ (some 63) _) _
    simp only [Act.put, List.setIfInBounds_toArray, List.set_cons_zero, List.set_cons_succ]
    refine wpAnyH_take (i := 21) (v := ?v21) rfl (by kernel_rfl) (by kernel_rfl) (by kernel_rfl) (fun _ _ _ h => h) (Or.inl ⟨by kernel_rfl, ?y21⟩) hHeld ?r21
    case y21 => (intro W hSW; (try dsimp only at hSW); go_simp; (try with_reducible rfl))
    change wpAnyH _ _ _ _ _ _ _ (Act.put _ (some 64) _) _
    simp only [Act.put, List.setIfInBounds_toArray, List.set_cons_zero, List.set_cons_succ]
    refine wpAnyH_take (i := 22) (v := ?v22) rfl (by kernel_rfl) (by kernel_rfl) (by kernel_rfl) (fun _ _ _ h => h) (Or.inl ⟨by kernel_rfl, ?y22⟩) hHeld ?r22
    case y22 => (intro W hSW; (try dsimp only at hSW); go_simp; (try with_reducible rfl))
    change wpAnyH _ _ _ _ _ _ _ (Act.put _ (some 65) _) _
    simp only [Act.put, List.setIfInBounds_toArray, List.set_cons_zero, List.set_cons_succ]
    refine wpAnyH_take (i := 23) (v := ?v23) rfl (by kernel_rfl) (by kernel_rfl) (by kernel_rfl) (fun _ _ _ h => h) (Or.inl ⟨by kernel_rfl, ?y23⟩) hHeld ?r23
    case y23 => (intro W hSW; (try dsimp only at hSW); go_simp; (try with_reducible rfl))
    change wpAnyH _ _ _ _ _ _ _ (Act.put _ (some 66) _) _
    simp only [Act.put, List.setIfInBounds_toArray, List.set_cons_zero, List.set_cons_succ]
    refine wpAnyH_take (i := 24) (v := ?v24) rfl (by kernel_rfl) (by kernel_rfl) (by kernel_rfl) (fun _ _ _ h => h) (Or.inl ⟨by kernel_rfl, ?y24⟩) hHeld ?r24
    case y24 => (intro W hSW; (try dsimp only at hSW); go_simp; (try with_reducible rfl))
    change wpAnyH _ _ _ _ _ _ _ (Act.put _ (some 67) _) _
    simp only [Act.put, List.setIfInBounds_toArray, List.set_cons_zero, List.set_cons_succ]
    refine wpAnyH_take (i := 25) (v := ?v25) rfl (by kernel_rfl) (by kernel_rfl) (by kernel_rfl) (fun _ _ _ h => h) (Or.inl ⟨by kernel_rfl, ?y25⟩) hHeld ?r25
    case y25 => (intro W hSW; (try dsimp only at hSW); go_simp; (try with_reducible rfl))
    change wpAnyH _ _ _ _ _ _ _ (Act.put _ (some 68) _) _
    simp only [Act.put, List.setIfInBounds_toArray, List.set_cons_zero, List.set_cons_succ]
    refine wpAnyH_ready (rs := [26]) (by kernel_rfl) (by simp) ?_
    refine AllReadyH.cons rfl (fun K hK => ?_) AllReadyH.nil
    go_simp
    refine (lives_any _).mono ?_
    rintro e w6 ⟨rfl, hb6⟩
    refine hK.out _ _ (⟨⟨Bs.on hb6 hHeld.1.1, Ss.on hb6 hHeld.1.2.1, Ss.on hb6 hHeld.1.2.2.1, Ss.on hb6 hHeld.1.2.2.2⟩, Bs.on hb6 hHeld.2⟩) (fun hHeld => ?_)
    clear hK K
    try simp only [Act.put, List.setIfInBounds_toArray, List.set_cons_zero, List.set_cons_succ]
    have HW := below_on hb6 HW HW.size
    refine wpAnyH_take (i := 27) (v := ?v27) rfl (by kernel_rfl) (by kernel_rfl) (by kernel_rfl) (fun _ _ _ h => h) (Or.inl ⟨by kernel_rfl, ?y27⟩) hHeld ?r27
    case y27 => (intro W hSW; (try dsimp only at hSW); go_simp; (try with_reducible rfl))
    change wpAnyH _ _ _ _ _ _ _ (Act.put _ (some 70) _) _
    simp only [Act.put, List.setIfInBounds_toArray, List.set_cons_zero, List.set_cons_succ]
    refine wpAnyH_take (i := 28) (v := ?v28) rfl (by kernel_rfl) (by kernel_rfl) (by kernel_rfl) (fun _ _ _ h => h) (Or.inl ⟨by kernel_rfl, ?y28⟩) hHeld ?r28
    case y28 => (intro W hSW; (try dsimp only at hSW); go_simp; (try with_reducible rfl))
    change wpAnyH _ _ _ _ _ _ _ (Act.put _ (some 6) _) _
    simp only [Act.put, List.setIfInBounds_toArray, List.set_cons_zero, List.set_cons_succ]
    refine wpAnyH_done (by kernel_rfl) ?_ _
    go_wp2
    go_ret
    exact ⟨rfl, HW⟩
  · go_enter Try.func8, Try.ntmps8
    go_wp2_with fail
    refine (small_gen_no _ _ _ _ _ _ ss _ hlm (h'.laid _) hs hy).mono ?_
    rintro e w' ⟨rfl, hw⟩
    subst w'
    go_wp2_with (go_at_call 10; refine (lives_any _).mono ?_; rintro e w' ⟨rfl, hbel⟩)
    go_ret
    exact ⟨rfl, below_after hbel⟩
end Go.Proofs.Ytbomopjngpnghaa
