/- Walks over the document's Seal and Open. -/
import Derived.Test.YtbflkkffpcaakaaDoorWQ
import Derived.Test.YtbflkkffpcaakaaDoorWJ
import Derived.Test.YtbflkkffpcaakaaDoorEB
namespace Go.Proofs.YtbflkkffpcaakaaDoor
open Go.RowKit
theorem strs_nb {a b : ByteArray} (h : ¬ a = b) : (a.toList == b.toList) = false := by
  simp only [beq_eq_false_iff_ne, ne_eq]
  intro e
  rw [ByteArray.toList_eq, ByteArray.toList_eq] at e
  exact h (by cases a; cases b; congr 1; exact Array.toList_inj.1 e)
theorem lenBytes_next (n i : Nat) (h : i < 8) : (lenBytes n).take (i + 1) = (lenBytes n).take i ++ [UInt8.ofNat (n / 256 ^ i)] := by
  have hl := lenBytes_len n
  have h1 := lenBytes_at n i h
  rw [List.getD_eq_getElem?_getD, List.getElem?_eq_getElem (by omega), Nat.pow_mul] at h1
  rw [List.take_add_one, List.getElem?_eq_getElem (by omega)]
  simp only [Option.toList]
  rw [show (256 : Nat) = 2 ^ 8 from rfl, ← h1]
  rfl
set_option maxRecDepth 100000 in
set_option maxHeartbeats 4000000 in
theorem rshut_any (s n l t : ByteArray) (w : World) (hs : s.size ≤ 1000000) (hn : n.size = 12) (hl : l.size ≤ 65536) (ht : t.size ≤ 65536) :
    Calls Tryd.prog 22 #[.string s, .string n, .string l, .string t] w fun e w' => e = .returned (.string (strOf (shutL s.data.toList n.data.toList l.data.toList t.data.toList))) ∧ Below w.heap.size w w' := by
  have HC := refderive_any s ⟨#[115, 116, 114, 111, 110, 103, 114, 111, 111, 109, 32, 115, 101, 97, 108]⟩ 64 w hs (by decide) (by omega)
  obtain ⟨K, hK⟩ : ∃ K, strOf (derived s.data.toList keysT 64) = K := ⟨_, rfl⟩
  have hKs : K.size = 64 := by rw [← hK, strOf_size, derived_len _ _ _ (by omega)]
  have HC2 : Hid (Calls Tryd.prog 34 #[.string s, .string ⟨#[115, 116, 114, 111, 110, 103, 114, 111, 111, 109, 32, 115, 101, 97, 108]⟩, .int .i64 64] w fun e w' => e = .returned (.tuple #[.string K, .int .i64 0]) ∧ Below w.heap.size w w') := by rw [← hK]; exact HC
  obtain ⟨A, hA⟩ : ∃ A, K.extract 0 32 = A := ⟨_, rfl⟩
  obtain ⟨Z, hZ⟩ : ∃ Z, K.extract 32 64 = Z := ⟨_, rfl⟩
  have hAl : A.data.toList = keyA s.data.toList := by rw [← hA, ← hK, strOf_upto, strOf_list]; rfl
  have hZl : Z.data.toList = keyZ s.data.toList := by
    have h := strOf_from (derived s.data.toList keysT 64) 32
    rw [hK, hKs, hZ] at h
    rw [h, strOf_list]; rfl
  have hAs : A.size = 32 := by rw [← lenL, hAl, keyA_len]
  have hZs : Z.size = 32 := by rw [← lenL, hZl, keyZ_len]
  obtain ⟨H, hH⟩ : ∃ H, strOf (hidL s.data.toList n.data.toList t.data.toList) = H := ⟨_, rfl⟩
  have hHl : H.data.toList = hidL s.data.toList n.data.toList t.data.toList := by rw [← hH, strOf_list]
  have hHs : H.size ≤ 65536 := by rw [← hH, strOf_size, hidL_len, lenL]; exact ht
  have HH : Hid (∀ V, Calls Tryd.prog 17 #[.string A, .string n, .string t] V fun e w' => e = .returned (.string H) ∧ Below V.heap.size V w') := fun V => by
    have h := rhide_any A n t V hAs hn (by omega)
    rw [hAl] at h
    rw [← hH]
    exact h
  obtain ⟨L, hL⟩ : ∃ L, l.size = L := ⟨_, rfl⟩
  obtain ⟨M, hM⟩ : ∃ M, strOf (lenBytes L) = M := ⟨_, rfl⟩
  have hMs : M.size = 8 := by rw [← hM, strOf_size, lenBytes_len]
  obtain ⟨T, hT⟩ : ∃ T, n ++ M ++ l ++ H = T := ⟨_, rfl⟩
  have hTl : T.data.toList = n.data.toList ++ lenBytes L ++ l.data.toList ++ H.data.toList := by
    rw [← hT, ← hM]; simp [strOf]
  have hTs : T.size ≤ 200000 := by rw [← hT, ByteArray.size_append, ByteArray.size_append, ByteArray.size_append]; omega
  obtain ⟨D, hD⟩ : ∃ D, strOf (sealL Z.data.toList T.data.toList) = D := ⟨_, rfl⟩
  have hDs : D.size = 32 := by rw [← hD, strOf_size, sealL_len]
  have HS : Hid (∀ V, Calls Tryd.prog 35 #[.string Z, .string T] V fun e w' => e = .returned (.string D) ∧ Below V.heap.size V w') := fun V => by
    rw [← hD]; exact refseal_any Z T V (by omega) (by omega)
  have HE : Hid (H ++ D.extract 0 16 = strOf (shutL s.data.toList n.data.toList l.data.toList t.data.toList)) := by
    show _ = _
    rw [← hD, strOf_upto]
    unfold shutL tagL
    rw [strOf_append, hH, hTl, hZl, hHl, lenL, hL]
  have HM : Hid (M = strOf ((lenBytes L).take 8)) := by show _ = _; rw [List.take_of_length_le (by rw [lenBytes_len]; omega), hM]
  have hds2 : (D.extract 0 16).size = 16 := by rw [← hD, strOf_upto, strOf_size, List.length_take, sealL_len]; rfl
  rw [hL] at hl
  rw [← HE.out]
  clear HC hK hAl hZl hH hHl hM hTl hD hAs hZs
  go_enter Tryd.func22, Tryd.ntmps22
  go_wp2_with fail
  refine HC2.out.mono ?_
  rintro e V ⟨rfl, hb⟩
  have HB : Hid (Below w.heap.size w V) := hb
  have HH2 := HH.out V
  clear HC2 hb HH
  go_wp2_with fail
  refine HH2.mono ?_
  rintro e V2 ⟨rfl, hb2⟩
  have HB2 : Hid (Below w.heap.size w V2) := HB.out.trans (hb2.mono HB.out.size)
  clear HH2 hb2
  go_wp2
  go_loopw [13, 12, 14] (fun v13 v12 v14 wr => ∃ (i : Nat) (O : ByteArray), i ≤ 8 ∧ O.size = i ∧ O = strOf ((lenBytes L).take i) ∧ v13 = .string O ∧ v12 = .int .i64 ((L / 256 ^ i : Nat) : Int) ∧ v14 = .int .i64 (i : Int) ∧ Below w.heap.size w wr) (fun _ _ v _ => 8 - (intOf v).toNat)
  case atStart => exact ⟨0, _, by omega, rfl, rfl, rfl, by simp, rfl, HB2.out⟩
  case round =>
    clear HB HB2
    obtain ⟨i, O, hi, hOs, hO, rfl, rfl, rfl, hB⟩ := hrel
    by_cases hlt : i < 8
    · have kk : (i : Int) < 8 := by omega
      obtain ⟨m, hm⟩ : ∃ m, L / 256 ^ i = m := ⟨_, rfl⟩
      rw [hm]
      have hml : m ≤ 65536 := by rw [← hm]; exact Nat.le_trans (Nat.div_le_self _ _) hl
      obtain ⟨c, hc⟩ : ∃ c, m % 256 = c := ⟨_, rfl⟩
      have hc256 : c < 256 := by omega
      have e1 : (m : Int) % 256 = (c : Int) := by omega
      have e2 : (c : Int) % 256 = (c : Int) := by omega
      obtain ⟨m2, hm2⟩ : ∃ x, m / 256 = x := ⟨_, rfl⟩
      have e3 : (m : Int) / 256 = (m2 : Int) := by omega
      have HM2 : Hid (L / 256 ^ (i + 1) = m2) := by show _ = _; rw [Nat.pow_succ, ← Nat.div_div_eq_div_mul, hm, hm2]
      have hT1 : (strOf [UInt8.ofNat c]).size = 1 := rfl
      have hcv := fun (W : World) => conv_one W wr.heap.size 1 c
      have HO : Hid (O ++ strOf [UInt8.ofNat c] = strOf ((lenBytes L).take (i + 1)) ∧ (O ++ strOf [UInt8.ofNat c]).size = i + 1) := by
        refine ⟨?_, by rw [ByteArray.size_append, hOs, hT1]⟩
        have : UInt8.ofNat c = UInt8.ofNat m := by apply UInt8.toNat_inj.1; rw [← hc]; simp
        rw [lenBytes_next L i hlt, hm, strOf_append, ← hO, this]
      have HB : Hid (Below w.heap.size w (wr.alloc (.cells #[.int .u8 (c : Int)] 5))) := hB.alloc hB.size _
      clear hO hB hm hc hm2
      go_wp2
      exact ⟨⟨i + 1, _, by omega, HO.out.2, HO.out.1, rfl, by rw [HM2.out], by go_num, HB.out⟩, by simp [intOf]; omega⟩
    · obtain rfl : i = 8 := by omega
      have kk : ¬ (8 : Int) < 8 := by omega
      obtain rfl : M = O := by rw [hO]; exact HM.out
      have HS2 := HS.out wr
      have HB : Hid (Below w.heap.size w wr) := hB
      clear hO hB HS HM
      go_wp2_with fail
      refine HS2.mono ?_
      rintro e V3 ⟨rfl, hb3⟩
      have HB3 : Hid (Below w.heap.size w V3) := HB.out.trans (hb3.mono HB.out.size)
      clear HS2 hb3
      go_wp2
      go_ret
      exact ⟨rfl, HB3.out⟩
set_option maxRecDepth 100000 in
set_option maxHeartbeats 4000000 in
theorem ropen_any (s n l x : ByteArray) (w : World) (hs : s.size ≤ 1000000) (hl : l.size ≤ 65536) (hx : x.size ≤ 65552) :
    Calls Tryd.prog 23 #[.string s, .string n, .string l, .string x] w fun e w' => e = .returned (.tuple #[.string (openT s.data.toList n.data.toList l.data.toList x.data.toList), .int .i64 (openE s.data.toList n.data.toList l.data.toList x.data.toList : Int)]) ∧ Below w.heap.size w w' := by
  unfold openT openE
  rw [lenL n, lenL x]
  by_cases h12 : n.size = 12
  rotate_left
  · obtain ⟨N, hN⟩ : ∃ N, n.size = N := ⟨_, rfl⟩
    rw [hN] at h12
    rw [hN, if_neg (fun h => h12 h.1), if_neg h12]
    have k1 : ¬ (N : Int) = 12 := by omega
    have k2 : ((N : Int) == 12) = false := by simpa using k1
    clear h12
    go_enter Tryd.func23, Tryd.ntmps23
    go_wp2
    refine bodyPost_ret (v := .tuple #[.string ByteArray.empty, .int .i64 1]) ?_ rfl ⟨rfl, Below.refl _ _⟩
    simp [results, go_sem]
    rfl
  rw [if_pos h12]
  have kl : ¬ (65536 : Int) < (l.size : Int) := by omega
  have kx : ¬ (65552 : Int) < (x.size : Int) := by omega
  by_cases h16 : 16 ≤ x.size
  rotate_left
  · rw [if_neg (fun h => h16 h.2.1), if_neg h16]
    have k1 : (x.size : Int) < 16 := by omega
    clear h16
    go_enter Tryd.func23, Tryd.ntmps23
    go_wp2
    refine bodyPost_ret (v := .tuple #[.string ByteArray.empty, .int .i64 3]) ?_ rfl ⟨rfl, Below.refl _ _⟩
    simp [results, go_sem]
    rfl
  rw [if_pos h16]
  have HC := refderive_any s ⟨#[115, 116, 114, 111, 110, 103, 114, 111, 111, 109, 32, 115, 101, 97, 108]⟩ 64 w hs (by decide) (by omega)
  obtain ⟨K, hK⟩ : ∃ K, strOf (derived s.data.toList keysT 64) = K := ⟨_, rfl⟩
  have hKs : K.size = 64 := by rw [← hK, strOf_size, derived_len _ _ _ (by omega)]
  have HC2 : Hid (Calls Tryd.prog 34 #[.string s, .string ⟨#[115, 116, 114, 111, 110, 103, 114, 111, 111, 109, 32, 115, 101, 97, 108]⟩, .int .i64 64] w fun e w' => e = .returned (.tuple #[.string K, .int .i64 0]) ∧ Below w.heap.size w w') := by rw [← hK]; exact HC
  obtain ⟨A, hA⟩ : ∃ A, K.extract 0 32 = A := ⟨_, rfl⟩
  have hAl : A.data.toList = keyA s.data.toList := by rw [← hA, ← hK, strOf_upto, strOf_list]; rfl
  have hAs : A.size = 32 := by rw [← lenL, hAl, keyA_len]
  obtain ⟨E, hE⟩ : ∃ E, x.size - 16 = E := ⟨_, rfl⟩
  obtain ⟨X, hX⟩ : ∃ X, x.size = X := ⟨_, rfl⟩
  have ke : (X : Int) - 16 = (E : Int) := by omega
  obtain ⟨P, hP⟩ : ∃ P, x.extract 0 E = P := ⟨_, rfl⟩
  have hxs : x = strOf x.data.toList := by apply ByteArray.ext; simp [strOf]
  have hPl : P.data.toList = x.data.toList.take E := by
    rw [← hP]; conv => lhs; rw [hxs, strOf_upto, strOf_list]
  have hPs : P.size = E := by rw [← lenL, hPl, List.length_take, lenL]; omega
  obtain ⟨H, hH⟩ : ∃ H, strOf (hidL s.data.toList n.data.toList (x.data.toList.take E)) = H := ⟨_, rfl⟩
  have hHl : H.data.toList = hidL s.data.toList n.data.toList (x.data.toList.take E) := by rw [← hH, strOf_list]
  have hHs : H.size ≤ 65536 := by rw [← lenL, hHl, hidL_len, ← hPl, lenL]; omega
  have HH : Hid (∀ V, Calls Tryd.prog 17 #[.string A, .string n, .string P] V fun e w' => e = .returned (.string H) ∧ Below V.heap.size V w') := fun V => by
    have h := rhide_any A n P V hAs h12 (by omega)
    rw [hAl, hPl] at h
    rw [← hH]
    exact h
  obtain ⟨D, hD⟩ : ∃ D, strOf (shutL s.data.toList n.data.toList l.data.toList H.data.toList) = D := ⟨_, rfl⟩
  have HS : Hid (∀ V, Calls Tryd.prog 22 #[.string s, .string n, .string l, .string H] V fun e w' => e = .returned (.string D) ∧ Below V.heap.size V w') := fun V => by
    rw [← hD]; exact rshut_any s n l H V hs h12 hl hHs
  have hri := right_iff s.data.toList n.data.toList l.data.toList x.data.toList (by rw [lenL]; exact h16)
  rw [lenL x, hE, ← hHl] at hri
  have hrd : rightL s.data.toList n.data.toList l.data.toList x.data.toList ↔ D = x := by
    rw [hri, ← hD]
    constructor
    · intro h; rw [h]; exact hxs.symm
    · intro h; rw [← h, strOf_list]
  rw [hE, hH]
  have hcx : n.size = 12 ∧ 16 ≤ x.size := ⟨h12, h16⟩
  by_cases hDx : D = x
  · have hr := hrd.2 hDx
    rw [if_pos ⟨h12, h16, hr⟩, if_pos hr]
    rw [hX] at h16 kx
    have kE2 : (E : Int) ≤ (X : Int) := by omega
    have kE3 : E ≤ X := by omega
    have kwE : IntKind.i64.wrap (E : Int) = (E : Int) := by rw [IntKind.wrap_i64]; omega
    have k16 : ¬ (X : Int) < 16 := by omega
    clear HC hK hAl hPl hH hHl hD hri hrd hr hxs hE hcx
    go_enter Tryd.func23, Tryd.ntmps23
    go_wp2_with fail
    refine HC2.out.mono ?_
    rintro e V ⟨rfl, hb⟩
    have HB : Hid (Below w.heap.size w V.drew) := hb.drew
    have HH2 := HH.out V.drew
    clear HC2 hb HH
    go_wp2_with fail
    refine wp_region_held_drew (S := fun _ => True) (by kernel_rfl) (trivial) (fun hHeld => ?_)
    refine wpAnyH_take (i := 0) (v := ?va_0) rfl (by kernel_rfl) (by kernel_rfl) (by kernel_rfl) (fun _ _ _ h => h) (Or.inl ⟨by first | kernel_rfl | rfl, ?ya_0⟩) hHeld ?ra_0
    case ya_0 => (intro W hSW; (try dsimp only at hSW); go_simp; (try with_reducible rfl))
    change wpAnyH _ _ _ _ _ _ _ (Act.put _ (some 32) _) _
    simp only [Act.put, List.setIfInBounds_toArray, List.set_cons_zero, List.set_cons_succ]
    refine wpAnyH_take (i := 1) (v := ?va_1) rfl (by kernel_rfl) (by kernel_rfl) (by kernel_rfl) (fun _ _ _ h => h) (Or.inl ⟨by first | kernel_rfl | rfl, ?ya_1⟩) hHeld ?ra_1
    case ya_1 => (intro W hSW; (try dsimp only at hSW); go_simp; (try with_reducible rfl))
    change wpAnyH _ _ _ _ _ _ _ (Act.put _ (some 33) _) _
    simp only [Act.put, List.setIfInBounds_toArray, List.set_cons_zero, List.set_cons_succ]
    refine wpAnyH_take (i := 2) (v := ?va_2) rfl (by kernel_rfl) (by kernel_rfl) (by kernel_rfl) (fun _ _ _ h => h) (Or.inl ⟨by first | kernel_rfl | rfl, ?ya_2⟩) hHeld ?ra_2
    case ya_2 => (intro W hSW; (try dsimp only at hSW); go_simp; (try with_reducible rfl))
    change wpAnyH _ _ _ _ _ _ _ (Act.put _ (some 34) _) _
    simp only [Act.put, List.setIfInBounds_toArray, List.set_cons_zero, List.set_cons_succ]
    refine wpAnyH_take (i := 3) (v := ?va_3) rfl (by kernel_rfl) (by kernel_rfl) (by kernel_rfl) (fun _ _ _ h => h) (Or.inl ⟨by first | kernel_rfl | rfl, ?ya_3⟩) hHeld ?ra_3
    case ya_3 => (intro W hSW; (try dsimp only at hSW); go_simp; (try with_reducible rfl))
    change wpAnyH _ _ _ _ _ _ _ (Act.put _ (some 35) _) _
    simp only [Act.put, List.setIfInBounds_toArray, List.set_cons_zero, List.set_cons_succ]
    refine wpAnyH_take (i := 4) (v := ?va_4) rfl (by kernel_rfl) (by kernel_rfl) (by kernel_rfl) (fun _ _ _ h => h) (Or.inl ⟨by first | kernel_rfl | rfl, ?ya_4⟩) hHeld ?ra_4
    case ya_4 => (intro W hSW; (try dsimp only at hSW); go_simp; (try with_reducible rfl))
    change wpAnyH _ _ _ _ _ _ _ (Act.put _ (some 36) _) _
    simp only [Act.put, List.setIfInBounds_toArray, List.set_cons_zero, List.set_cons_succ]
    refine wpAnyH_take (i := 5) (v := ?va_5) rfl (by kernel_rfl) (by kernel_rfl) (by kernel_rfl) (fun _ _ _ h => h) (Or.inl ⟨by first | kernel_rfl | rfl, ?ya_5⟩) hHeld ?ra_5
    case ya_5 => (intro W hSW; (try dsimp only at hSW); go_simp; (try with_reducible rfl))
    change wpAnyH _ _ _ _ _ _ _ (Act.put _ (some 37) _) _
    simp only [Act.put, List.setIfInBounds_toArray, List.set_cons_zero, List.set_cons_succ]
    refine wpAnyH_take (i := 6) (v := ?va_6) rfl (by kernel_rfl) (by kernel_rfl) (by kernel_rfl) (fun _ _ _ h => h) (Or.inl ⟨by first | kernel_rfl | rfl, ?ya_6⟩) hHeld ?ra_6
    case ya_6 => (intro W hSW; (try dsimp only at hSW); go_simp; (try with_reducible rfl))
    change wpAnyH _ _ _ _ _ _ _ (Act.put _ (some 38) _) _
    simp only [Act.put, List.setIfInBounds_toArray, List.set_cons_zero, List.set_cons_succ]
    refine wpAnyH_take (i := 7) (v := ?va_7) rfl (by kernel_rfl) (by kernel_rfl) (by kernel_rfl) (fun _ _ _ h => h) (Or.inl ⟨by first | kernel_rfl | rfl, ?ya_7⟩) hHeld ?ra_7
    case ya_7 => (intro W hSW; (try dsimp only at hSW); go_simp; (try with_reducible rfl))
    change wpAnyH _ _ _ _ _ _ _ (Act.put _ (some 39) _) _
    simp only [Act.put, List.setIfInBounds_toArray, List.set_cons_zero, List.set_cons_succ]
    refine wpAnyH_ready (rs := [8]) (by kernel_rfl) (by simp) ?_
    refine AllReadyH.cons rfl (fun K hK => ?_) AllReadyH.nil
    go_simp
    refine (HH2).mono ?_
    rintro e V2 ⟨rfl, hb2⟩
    refine hK.out _ _ (trivial) (fun hHeld => ?_)
    clear hK K
    try simp only [Act.put, List.setIfInBounds_toArray, List.set_cons_zero, List.set_cons_succ]
    refine wpAnyH_take (i := 9) (v := ?va_9) rfl (by kernel_rfl) (by kernel_rfl) (by kernel_rfl) (fun _ _ _ h => h) (Or.inl ⟨by first | kernel_rfl | rfl, ?ya_9⟩) hHeld ?ra_9
    case ya_9 => (intro W hSW; (try dsimp only at hSW); go_simp; (try with_reducible rfl))
    change wpAnyH _ _ _ _ _ _ _ (Act.put _ (some 12) _) _
    simp only [Act.put, List.setIfInBounds_toArray, List.set_cons_zero, List.set_cons_succ]
    refine wpAnyH_done (by kernel_rfl) ?_ _
    have HB2 : Hid (Below w.heap.size w V2) := HB.out.trans (hb2.mono HB.out.size)
    have HS2 := HS.out V2
    clear HH2 hb2 HS
    go_wp2_with fail
    refine HS2.mono ?_
    rintro e V3 ⟨rfl, hb3⟩
    have HB3 : Hid (Below w.heap.size w V3) := HB2.out.trans (hb3.mono HB2.out.size)
    clear HS2 hb3
    subst hDx
    go_wp2
    refine bodyPost_ret (v := .tuple #[.string H, .int .i64 0]) ?_ rfl ⟨rfl, HB3.out⟩
    simp [results, go_sem]
  · have hr : ¬ rightL s.data.toList n.data.toList l.data.toList x.data.toList := fun h => hDx (hrd.1 h)
    rw [if_neg (fun h => hr h.2.2), if_neg hr]
    rw [hX] at h16 kx
    have kE2 : (E : Int) ≤ (X : Int) := by omega
    have kE3 : E ≤ X := by omega
    have kwE : IntKind.i64.wrap (E : Int) = (E : Int) := by rw [IntKind.wrap_i64]; omega
    have k16 : ¬ (X : Int) < 16 := by omega
    clear HC hK hAl hPl hH hHl hD hri hrd hr hxs hE hcx
    go_enter Tryd.func23, Tryd.ntmps23
    go_wp2_with fail
    refine HC2.out.mono ?_
    rintro e V ⟨rfl, hb⟩
    have HB : Hid (Below w.heap.size w V.drew) := hb.drew
    have HH2 := HH.out V.drew
    clear HC2 hb HH
    go_wp2_with fail
    refine wp_region_held_drew (S := fun _ => True) (by kernel_rfl) (trivial) (fun hHeld => ?_)
    refine wpAnyH_take (i := 0) (v := ?vb_0) rfl (by kernel_rfl) (by kernel_rfl) (by kernel_rfl) (fun _ _ _ h => h) (Or.inl ⟨by first | kernel_rfl | rfl, ?yb_0⟩) hHeld ?rb_0
    case yb_0 => (intro W hSW; (try dsimp only at hSW); go_simp; (try with_reducible rfl))
    change wpAnyH _ _ _ _ _ _ _ (Act.put _ (some 32) _) _
    simp only [Act.put, List.setIfInBounds_toArray, List.set_cons_zero, List.set_cons_succ]
    refine wpAnyH_take (i := 1) (v := ?vb_1) rfl (by kernel_rfl) (by kernel_rfl) (by kernel_rfl) (fun _ _ _ h => h) (Or.inl ⟨by first | kernel_rfl | rfl, ?yb_1⟩) hHeld ?rb_1
    case yb_1 => (intro W hSW; (try dsimp only at hSW); go_simp; (try with_reducible rfl))
    change wpAnyH _ _ _ _ _ _ _ (Act.put _ (some 33) _) _
    simp only [Act.put, List.setIfInBounds_toArray, List.set_cons_zero, List.set_cons_succ]
    refine wpAnyH_take (i := 2) (v := ?vb_2) rfl (by kernel_rfl) (by kernel_rfl) (by kernel_rfl) (fun _ _ _ h => h) (Or.inl ⟨by first | kernel_rfl | rfl, ?yb_2⟩) hHeld ?rb_2
    case yb_2 => (intro W hSW; (try dsimp only at hSW); go_simp; (try with_reducible rfl))
    change wpAnyH _ _ _ _ _ _ _ (Act.put _ (some 34) _) _
    simp only [Act.put, List.setIfInBounds_toArray, List.set_cons_zero, List.set_cons_succ]
    refine wpAnyH_take (i := 3) (v := ?vb_3) rfl (by kernel_rfl) (by kernel_rfl) (by kernel_rfl) (fun _ _ _ h => h) (Or.inl ⟨by first | kernel_rfl | rfl, ?yb_3⟩) hHeld ?rb_3
    case yb_3 => (intro W hSW; (try dsimp only at hSW); go_simp; (try with_reducible rfl))
    change wpAnyH _ _ _ _ _ _ _ (Act.put _ (some 35) _) _
    simp only [Act.put, List.setIfInBounds_toArray, List.set_cons_zero, List.set_cons_succ]
    refine wpAnyH_take (i := 4) (v := ?vb_4) rfl (by kernel_rfl) (by kernel_rfl) (by kernel_rfl) (fun _ _ _ h => h) (Or.inl ⟨by first | kernel_rfl | rfl, ?yb_4⟩) hHeld ?rb_4
    case yb_4 => (intro W hSW; (try dsimp only at hSW); go_simp; (try with_reducible rfl))
    change wpAnyH _ _ _ _ _ _ _ (Act.put _ (some 36) _) _
    simp only [Act.put, List.setIfInBounds_toArray, List.set_cons_zero, List.set_cons_succ]
    refine wpAnyH_take (i := 5) (v := ?vb_5) rfl (by kernel_rfl) (by kernel_rfl) (by kernel_rfl) (fun _ _ _ h => h) (Or.inl ⟨by first | kernel_rfl | rfl, ?yb_5⟩) hHeld ?rb_5
    case yb_5 => (intro W hSW; (try dsimp only at hSW); go_simp; (try with_reducible rfl))
    change wpAnyH _ _ _ _ _ _ _ (Act.put _ (some 37) _) _
    simp only [Act.put, List.setIfInBounds_toArray, List.set_cons_zero, List.set_cons_succ]
    refine wpAnyH_take (i := 6) (v := ?vb_6) rfl (by kernel_rfl) (by kernel_rfl) (by kernel_rfl) (fun _ _ _ h => h) (Or.inl ⟨by first | kernel_rfl | rfl, ?yb_6⟩) hHeld ?rb_6
    case yb_6 => (intro W hSW; (try dsimp only at hSW); go_simp; (try with_reducible rfl))
    change wpAnyH _ _ _ _ _ _ _ (Act.put _ (some 38) _) _
    simp only [Act.put, List.setIfInBounds_toArray, List.set_cons_zero, List.set_cons_succ]
    refine wpAnyH_take (i := 7) (v := ?vb_7) rfl (by kernel_rfl) (by kernel_rfl) (by kernel_rfl) (fun _ _ _ h => h) (Or.inl ⟨by first | kernel_rfl | rfl, ?yb_7⟩) hHeld ?rb_7
    case yb_7 => (intro W hSW; (try dsimp only at hSW); go_simp; (try with_reducible rfl))
    change wpAnyH _ _ _ _ _ _ _ (Act.put _ (some 39) _) _
    simp only [Act.put, List.setIfInBounds_toArray, List.set_cons_zero, List.set_cons_succ]
    refine wpAnyH_ready (rs := [8]) (by kernel_rfl) (by simp) ?_
    refine AllReadyH.cons rfl (fun K hK => ?_) AllReadyH.nil
    go_simp
    refine (HH2).mono ?_
    rintro e V2 ⟨rfl, hb2⟩
    refine hK.out _ _ (trivial) (fun hHeld => ?_)
    clear hK K
    try simp only [Act.put, List.setIfInBounds_toArray, List.set_cons_zero, List.set_cons_succ]
    refine wpAnyH_take (i := 9) (v := ?vb_9) rfl (by kernel_rfl) (by kernel_rfl) (by kernel_rfl) (fun _ _ _ h => h) (Or.inl ⟨by first | kernel_rfl | rfl, ?yb_9⟩) hHeld ?rb_9
    case yb_9 => (intro W hSW; (try dsimp only at hSW); go_simp; (try with_reducible rfl))
    change wpAnyH _ _ _ _ _ _ _ (Act.put _ (some 12) _) _
    simp only [Act.put, List.setIfInBounds_toArray, List.set_cons_zero, List.set_cons_succ]
    refine wpAnyH_done (by kernel_rfl) ?_ _
    have HB2 : Hid (Below w.heap.size w V2) := HB.out.trans (hb2.mono HB.out.size)
    have HS2 := HS.out V2
    clear HH2 hb2 HS
    go_wp2_with fail
    refine HS2.mono ?_
    rintro e V3 ⟨rfl, hb3⟩
    have HB3 : Hid (Below w.heap.size w V3) := HB2.out.trans (hb3.mono HB2.out.size)
    clear HS2 hb3
    have hbe := strs_nb hDx
    go_wp2
    refine bodyPost_ret (v := .tuple #[.string ByteArray.empty, .int .i64 4]) ?_ rfl ⟨rfl, HB3.out⟩
    simp [results, go_sem]
    rfl
end Go.Proofs.YtbflkkffpcaakaaDoor
