/- Walks over the program's Seal and Open. -/
import Derived.Test.YtbflkkffpcaakabDoorWP
namespace Go.Proofs.YtbflkkffpcaakabDoor
open Go.RowKit
theorem lenL (s : ByteArray) : s.data.toList.length = s.size := by rw [Array.length_toList]; rfl
set_option maxRecDepth 100000 in
theorem cseal_bad (s n l t : ByteArray) (w : World) (hn : ¬ n.size = 12) :
    Calls Tryd.prog 6 #[.string s, .string n, .string l, .string t] w fun e w' => e = .returned (.tuple #[.string ByteArray.empty, .int .i64 1]) ∧ w' = w := by
  obtain ⟨N, hN⟩ : ∃ N, n.size = N := ⟨_, rfl⟩
  rw [hN] at hn
  have k1 : ¬ (N : Int) = 12 := by omega
  have k2 : ((N : Int) == 12) = false := by simpa using k1
  clear hn
  go_enter Tryd.func6, Tryd.ntmps6
  go_wp2
  refine bodyPost_ret (v := .tuple #[.string ByteArray.empty, .int .i64 1]) ?_ rfl ⟨rfl, rfl⟩
  simp [results, go_sem]
  rfl
set_option maxRecDepth 100000 in
set_option maxHeartbeats 2000000 in
theorem cseal_any (s n l t : ByteArray) (w : World) (hs : s.size ≤ 1000000) (hn : n.size = 12) (hl : l.size ≤ 65536) (ht : t.size ≤ 65536) (hL : Laid w) :
    Calls Tryd.prog 6 #[.string s, .string n, .string l, .string t] w fun e w' => e = .returned (.tuple #[.string (strOf (shutL s.data.toList n.data.toList l.data.toList t.data.toList)), .int .i64 0]) ∧ Below w.heap.size w w' := by
  have HK := keys_any s w (by omega) hL
  obtain ⟨A, hA⟩ : ∃ A, strOf (keyA s.data.toList) = A := ⟨_, rfl⟩
  obtain ⟨Z, hZ⟩ : ∃ Z, strOf (keyZ s.data.toList) = Z := ⟨_, rfl⟩
  rw [hA, hZ] at HK
  have hAs : A.size = 32 := by rw [← hA, strOf_size, keyA_len]
  have hZs : Z.size = 32 := by rw [← hZ, strOf_size, keyZ_len]
  have hAl : A.data.toList = keyA s.data.toList := by rw [← hA, strOf_list]
  have hZl : Z.data.toList = keyZ s.data.toList := by rw [← hZ, strOf_list]
  obtain ⟨H, hH⟩ : ∃ H, strOf (hidL s.data.toList n.data.toList t.data.toList) = H := ⟨_, rfl⟩
  have hHl : H.data.toList = hidL s.data.toList n.data.toList t.data.toList := by rw [← hH, strOf_list]
  have hHs : H.size = t.size := by rw [← hH, strOf_size, hidL_len, lenL]
  have HH : Hid (∀ V, Below w.heap.size w V → Calls Tryd.prog 8 #[.string A, .string n, .string t] V fun e w' => e = .returned (.tuple #[.string H, .int .i64 0]) ∧ Below V.heap.size V w') := fun V hV => by
    have h := hide_any A n t V hAs hn ht (hL.below hV)
    rw [hAl] at h
    rw [← hH]
    exact h
  obtain ⟨T, hT⟩ : ∃ T, strOf (tagL s.data.toList n.data.toList l.data.toList (hidL s.data.toList n.data.toList t.data.toList)) = T := ⟨_, rfl⟩
  have hTs : T.size = 16 := by rw [← hT, strOf_size, tagL_len]
  have HS : Hid (∀ V, Below w.heap.size w V → Calls Tryd.prog 11 #[.string Z, .string n, .string l, .string H] V fun e w' => e = .returned (.string T) ∧ Below V.heap.size V w') := fun V hV => by
    have h := sealof_any Z n l H V (by omega) (by omega) (by omega) (by omega) (hL.below hV)
    rw [hZl, hHl, ← lenL l] at h
    rw [← hT]
    exact h
  have HE : Hid (H ++ T = strOf (shutL s.data.toList n.data.toList l.data.toList t.data.toList)) := by
    show _ = _
    rw [← hH, ← hT]; unfold shutL; rw [strOf_append]
  rw [← HE.out]
  clear hA hZ hAl hZl hH hHl hT hL hAs hZs
  go_enter Tryd.func6, Tryd.ntmps6
  go_wp2_with fail
  refine HK.mono ?_
  rintro e V ⟨rfl, hb⟩
  have HH2 := HH.out V hb
  have HB : Hid (Below w.heap.size w V) := hb
  clear HK hb HH
  go_wp2_with fail
  refine HH2.mono ?_
  rintro e V2 ⟨rfl, hb2⟩
  have HB2 : Hid (Below w.heap.size w V2) := HB.out.trans (hb2.mono HB.out.size)
  have HS2 := HS.out V2 HB2.out
  clear HH2 hb2 HS
  go_wp2_with fail
  refine HS2.mono ?_
  rintro e V3 ⟨rfl, hb3⟩
  have HB3 : Hid (Below w.heap.size w V3) := HB2.out.trans (hb3.mono HB2.out.size)
  clear HS2 hb3
  go_wp2
  refine bodyPost_ret (v := .tuple #[.string (H ++ T), .int .i64 0]) ?_ rfl ⟨rfl, HB3.out⟩
  simp [results, go_sem]
/-- What sealed bytes are opened as, and why not. -/
def openT (s n l x : List UInt8) : ByteArray := if n.length = 12 ∧ 16 ≤ x.length ∧ rightL s n l x then strOf (hidL s n (x.take (x.length - 16))) else ByteArray.empty
def openE (s n l x : List UInt8) : Nat := if n.length = 12 then (if 16 ≤ x.length then (if rightL s n l x then 0 else 4) else 3) else 1
set_option maxRecDepth 100000 in
set_option maxHeartbeats 4000000 in
theorem copen_any (s n l x : ByteArray) (w : World) (hs : s.size ≤ 1000000) (hn : n.size ≤ 1000000) (hl : l.size ≤ 65536) (hx : x.size ≤ 65552) (hL : Laid w) :
    Calls Tryd.prog 7 #[.string s, .string n, .string l, .string x] w fun e w' => e = .returned (.tuple #[.string (openT s.data.toList n.data.toList l.data.toList x.data.toList), .int .i64 (openE s.data.toList n.data.toList l.data.toList x.data.toList : Int)]) ∧ Below w.heap.size w w' := by
  unfold openT openE
  rw [lenL n, lenL x]
  by_cases h12 : n.size = 12
  rotate_left
  · obtain ⟨N, hN⟩ : ∃ N, n.size = N := ⟨_, rfl⟩
    rw [hN] at hn h12
    rw [hN, if_neg (fun h => h12 h.1), if_neg h12]
    have k1 : ¬ (N : Int) = 12 := by omega
    have k2 : ((N : Int) == 12) = false := by simpa using k1
    clear h12 hL
    go_enter Tryd.func7, Tryd.ntmps7
    go_wp2
    refine bodyPost_ret (v := .tuple #[.string ByteArray.empty, .int .i64 1]) ?_ rfl ⟨rfl, Below.refl _ _⟩
    simp [results, go_sem]
    rfl
  rw [if_pos h12]
  have kl : ¬ (65536 : Int) < (l.size : Int) := by omega
  have kx : ¬ (65552 : Int) < (x.size : Int) := by omega
  by_cases h16 : 16 ≤ x.size
  rotate_left
  · rw [if_neg (fun h => h16 h.2.1), if_neg h16]
    have k1 : (x.size : Int) - 16 < 0 := by omega
    clear h16 hL
    go_enter Tryd.func7, Tryd.ntmps7
    go_wp2
    refine bodyPost_ret (v := .tuple #[.string ByteArray.empty, .int .i64 3]) ?_ rfl ⟨rfl, Below.refl _ _⟩
    simp [results, go_sem]
    rfl
  rw [if_pos h16]
  have HK := keys_any s w (by omega) hL
  obtain ⟨A, hA⟩ : ∃ A, strOf (keyA s.data.toList) = A := ⟨_, rfl⟩
  obtain ⟨Z, hZ⟩ : ∃ Z, strOf (keyZ s.data.toList) = Z := ⟨_, rfl⟩
  rw [hA, hZ] at HK
  have hAs : A.size = 32 := by rw [← hA, strOf_size, keyA_len]
  have hZs : Z.size = 32 := by rw [← hZ, strOf_size, keyZ_len]
  have hAl : A.data.toList = keyA s.data.toList := by rw [← hA, strOf_list]
  have hZl : Z.data.toList = keyZ s.data.toList := by rw [← hZ, strOf_list]
  obtain ⟨E, hE⟩ : ∃ E, x.size - 16 = E := ⟨_, rfl⟩
  obtain ⟨X, hX⟩ : ∃ X, x.size = X := ⟨_, rfl⟩
  have ke : (X : Int) - 16 = (E : Int) := by omega
  obtain ⟨P, hP⟩ : ∃ P, x.extract 0 E = P := ⟨_, rfl⟩
  obtain ⟨U, hU⟩ : ∃ U, x.extract E x.size = U := ⟨_, rfl⟩
  have hxs : x = strOf x.data.toList := by apply ByteArray.ext; simp [strOf]
  have hPl : P.data.toList = x.data.toList.take E := by
    rw [← hP]; conv => lhs; rw [hxs, strOf_upto, strOf_list]
  have hUl : U.data.toList = x.data.toList.drop E := by
    rw [← hU]; conv => lhs; rw [hxs]
    rw [strOf_from, strOf_list]
  have hPs : P.size = E := by rw [← lenL, hPl, List.length_take, lenL]; omega
  have hUs : U.size = 16 := by rw [← lenL, hUl, List.length_drop, lenL]; omega
  obtain ⟨T, hT⟩ : ∃ T, strOf (tagL s.data.toList n.data.toList l.data.toList (x.data.toList.take E)) = T := ⟨_, rfl⟩
  have hTs : T.size = 16 := by rw [← hT, strOf_size, tagL_len]
  have hTl : T.data.toList = tagL s.data.toList n.data.toList l.data.toList (x.data.toList.take E) := by rw [← hT, strOf_list]
  have HS : Hid (∀ V, Below w.heap.size w V → Calls Tryd.prog 11 #[.string Z, .string n, .string l, .string P] V fun e w' => e = .returned (.string T) ∧ Below V.heap.size V w') := fun V hV => by
    have h := sealof_any Z n l P V (by omega) (by omega) (by omega) (by omega) (hL.below hV)
    rw [hZl, hPl, ← lenL l] at h
    rw [← hT]
    exact h
  have HM : Hid (∀ V, Calls Tryd.prog 12 #[.string U, .string T] V fun e w' => e = .returned (.bool (decide (rightL s.data.toList n.data.toList l.data.toList x.data.toList))) ∧ Below V.heap.size V w') := fun V => by
    have h := same_any U T V hUs hTs
    have e : decide (U.data.toList = T.data.toList) = decide (rightL s.data.toList n.data.toList l.data.toList x.data.toList) := by
      rw [decide_eq_decide, hUl, hTl]
      unfold rightL
      rw [lenL, hE]
    rw [e] at h
    exact h
  obtain ⟨H, hH⟩ : ∃ H, strOf (hidL s.data.toList n.data.toList (x.data.toList.take E)) = H := ⟨_, rfl⟩
  have HH : Hid (∀ V, Below w.heap.size w V → Calls Tryd.prog 8 #[.string A, .string n, .string P] V fun e w' => e = .returned (.tuple #[.string H, .int .i64 0]) ∧ Below V.heap.size V w') := fun V hV => by
    have h := hide_any A n P V hAs h12 (by omega) (hL.below hV)
    rw [hAl, hPl] at h
    rw [← hH]
    exact h
  rw [hE, hH]
  rw [hX] at h16 hx kx hU
  obtain ⟨R, hR⟩ : ∃ R, decide (rightL s.data.toList n.data.toList l.data.toList x.data.toList) = R := ⟨_, rfl⟩
  rw [hR] at HM
  obtain ⟨OT, hOT⟩ : ∃ O, (if n.size = 12 ∧ 16 ≤ x.size ∧ rightL s.data.toList n.data.toList l.data.toList x.data.toList then H else ByteArray.empty) = O := ⟨_, rfl⟩
  obtain ⟨OE, hOE⟩ : ∃ O, (if rightL s.data.toList n.data.toList l.data.toList x.data.toList then 0 else 4) = O := ⟨_, rfl⟩
  have HR : Hid ((R = true → OT = H ∧ OE = 0) ∧ (R = false → OT = ByteArray.empty ∧ OE = 4)) := by
    refine ⟨fun h => ?_, fun h => ?_⟩
    · rw [h] at hR
      have h9 := of_decide_eq_true hR
      rw [if_pos ⟨h12, by omega, h9⟩] at hOT
      rw [if_pos h9] at hOE
      exact ⟨hOT.symm, hOE.symm⟩
    · rw [h] at hR
      have h9 := of_decide_eq_false hR
      rw [if_neg (fun h => h9 h.2.2)] at hOT
      rw [if_neg h9] at hOE
      exact ⟨hOT.symm, hOE.symm⟩
  rw [hOT, hOE]
  have kE : ¬ (E : Int) < 0 := by omega
  have kE2 : (E : Int) ≤ (X : Int) := by omega
  have kE3 : E ≤ X := by omega
  clear hA hZ hAl hZl hPl hUl hT hTl hL hH hE hxs hR hOT hOE
  go_enter Tryd.func7, Tryd.ntmps7
  go_wp2_with fail
  refine HK.mono ?_
  rintro e V ⟨rfl, hb⟩
  have HB : Hid (Below w.heap.size w V) := hb
  have HB0 : Hid (Below w.heap.size w V.drew) := hb.drew
  have HS2 := HS.out V.drew HB0.out
  clear HK hb HS
  go_wp2_with fail
  refine wp_region_held_drew (S := fun _ => True) (by kernel_rfl) (trivial) (fun hHeld => ?_)
  refine wpAnyH_take (i := 0) (v := ?va_0) rfl (by kernel_rfl) (by kernel_rfl) (by kernel_rfl) (fun _ _ _ h => h) (Or.inl ⟨by first | kernel_rfl | rfl, ?ya_0⟩) hHeld ?ra_0
  case ya_0 => (intro W hSW; (try dsimp only at hSW); go_simp; (try with_reducible rfl))
  change wpAnyH _ _ _ _ _ _ _ (Act.put _ (some 38) _) _
  simp only [Act.put, List.setIfInBounds_toArray, List.set_cons_zero, List.set_cons_succ]
  refine wpAnyH_take (i := 1) (v := ?va_1) rfl (by kernel_rfl) (by kernel_rfl) (by kernel_rfl) (fun _ _ _ h => h) (Or.inl ⟨by first | kernel_rfl | rfl, ?ya_1⟩) hHeld ?ra_1
  case ya_1 => (intro W hSW; (try dsimp only at hSW); go_simp; (try with_reducible rfl))
  change wpAnyH _ _ _ _ _ _ _ (Act.put _ (some 39) _) _
  simp only [Act.put, List.setIfInBounds_toArray, List.set_cons_zero, List.set_cons_succ]
  refine wpAnyH_take (i := 2) (v := ?va_2) rfl (by kernel_rfl) (by kernel_rfl) (by kernel_rfl) (fun _ _ _ h => h) (Or.inl ⟨by first | kernel_rfl | rfl, ?ya_2⟩) hHeld ?ra_2
  case ya_2 => (intro W hSW; (try dsimp only at hSW); go_simp; (try with_reducible rfl))
  change wpAnyH _ _ _ _ _ _ _ (Act.put _ (some 40) _) _
  simp only [Act.put, List.setIfInBounds_toArray, List.set_cons_zero, List.set_cons_succ]
  refine wpAnyH_take (i := 3) (v := ?va_3) rfl (by kernel_rfl) (by kernel_rfl) (by kernel_rfl) (fun _ _ _ h => h) (Or.inl ⟨by first | kernel_rfl | rfl, ?ya_3⟩) hHeld ?ra_3
  case ya_3 => (intro W hSW; (try dsimp only at hSW); go_simp; (try with_reducible rfl))
  change wpAnyH _ _ _ _ _ _ _ (Act.put _ (some 41) _) _
  simp only [Act.put, List.setIfInBounds_toArray, List.set_cons_zero, List.set_cons_succ]
  refine wpAnyH_take (i := 4) (v := ?va_4) rfl (by kernel_rfl) (by kernel_rfl) (by kernel_rfl) (fun _ _ _ h => h) (Or.inl ⟨by first | kernel_rfl | rfl, ?ya_4⟩) hHeld ?ra_4
  case ya_4 => (intro W hSW; (try dsimp only at hSW); go_simp; (try with_reducible rfl))
  change wpAnyH _ _ _ _ _ _ _ (Act.put _ (some 42) _) _
  simp only [Act.put, List.setIfInBounds_toArray, List.set_cons_zero, List.set_cons_succ]
  refine wpAnyH_take (i := 5) (v := ?va_5) rfl (by kernel_rfl) (by kernel_rfl) (by kernel_rfl) (fun _ _ _ h => h) (Or.inl ⟨by first | kernel_rfl | rfl, ?ya_5⟩) hHeld ?ra_5
  case ya_5 => (intro W hSW; (try dsimp only at hSW); go_simp; (try with_reducible rfl))
  change wpAnyH _ _ _ _ _ _ _ (Act.put _ (some 43) _) _
  simp only [Act.put, List.setIfInBounds_toArray, List.set_cons_zero, List.set_cons_succ]
  refine wpAnyH_take (i := 6) (v := ?va_6) rfl (by kernel_rfl) (by kernel_rfl) (by kernel_rfl) (fun _ _ _ h => h) (Or.inl ⟨by first | kernel_rfl | rfl, ?ya_6⟩) hHeld ?ra_6
  case ya_6 => (intro W hSW; (try dsimp only at hSW); go_simp; (try with_reducible rfl))
  change wpAnyH _ _ _ _ _ _ _ (Act.put _ (some 44) _) _
  simp only [Act.put, List.setIfInBounds_toArray, List.set_cons_zero, List.set_cons_succ]
  refine wpAnyH_ready (rs := [7]) (by kernel_rfl) (by simp) ?_
  refine AllReadyH.cons rfl (fun K hK => ?_) AllReadyH.nil
  go_simp
  refine (HS2).mono ?_
  rintro e V2 ⟨rfl, hb2⟩
  refine hK.out _ _ (trivial) (fun hHeld => ?_)
  clear hK K
  try simp only [Act.put, List.setIfInBounds_toArray, List.set_cons_zero, List.set_cons_succ]
  have HB2 : Hid (Below w.heap.size w V2) := HB0.out.trans (hb2.mono HB0.out.size)
  have HM2 := HM.out V2
  refine wpAnyH_ready (rs := [8]) (by kernel_rfl) (by simp) ?_
  refine AllReadyH.cons rfl (fun K hK => ?_) AllReadyH.nil
  go_simp
  refine (HM2).mono ?_
  rintro e V3 ⟨rfl, hb3⟩
  refine hK.out _ _ (trivial) (fun hHeld => ?_)
  clear hK K
  try simp only [Act.put, List.setIfInBounds_toArray, List.set_cons_zero, List.set_cons_succ]
  have HB3 : Hid (Below w.heap.size w V3) := HB2.out.trans (hb3.mono HB2.out.size)
  refine wpAnyH_take (i := 9) (v := ?va_9) rfl (by kernel_rfl) (by kernel_rfl) (by kernel_rfl) (fun _ _ _ h => h) (Or.inl ⟨by first | kernel_rfl | rfl, ?ya_9⟩) hHeld ?ra_9
  case ya_9 => (intro W hSW; (try dsimp only at hSW); go_simp; (try with_reducible rfl))
  change wpAnyH _ _ _ _ _ _ _ (Act.put _ (some 47) _) _
  simp only [Act.put, List.setIfInBounds_toArray, List.set_cons_zero, List.set_cons_succ]
  refine wpAnyH_done (by kernel_rfl) ?_ _
  clear HS2 HM2 hb2 hb3 HB2 HB HB0 HM
  cases R with
  | false =>
    obtain ⟨hot, hoe⟩ := HR.out.2 rfl
    subst hot hoe
    clear HH HR
    go_wp2
    refine bodyPost_ret (v := .tuple #[.string ByteArray.empty, .int .i64 4]) ?_ rfl ⟨rfl, HB3.out⟩
    simp [results, go_sem]
    rfl
  | true =>
    obtain ⟨hot, hoe⟩ := HR.out.1 rfl
    subst hot hoe
    have HH2 := HH.out V3 HB3.out
    clear HH HR
    go_wp2_with fail
    refine HH2.mono ?_
    rintro e V4 ⟨rfl, hb4⟩
    have HB4 : Hid (Below w.heap.size w V4) := HB3.out.trans (hb4.mono HB3.out.size)
    clear HH2 hb4
    go_wp2
    refine bodyPost_ret (v := .tuple #[.string OT, .int .i64 0]) ?_ rfl ⟨rfl, HB4.out⟩
    simp [results, go_sem]
end Go.Proofs.YtbflkkffpcaakabDoor
