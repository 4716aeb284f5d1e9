/- A walk over the statements' alike. -/
import Derived.Test.YtjpkngbjjgimjaaDoorLE
namespace Go.Proofs.YtjpkngbjjgimjaaDoor
open Go.RowKit
section
variable {h0 : Nat} {F : Nat → Prop} {w : World} {st tb W k : Nat} {full : Int} {T : List Pr} {L : List Cn}
/-- What comes behind a store's answers on an ID. -/
def AlTo (w : World) (e : Ending) (w' : World) : Prop := e = .returned (.bool true) ∧ Below w.heap.size w w'
set_option maxRecDepth 100000 in
set_option maxHeartbeats 4000000 in
theorem alike_true {G : Nat → Prop} {a : Option Addr} {n c : Nat} (h : Cs h0 F w st tb W full T) (hW : W ≤ 32) (hdoc : Doc W k T L) (hk : k ≤ 1000) (hd : Dw G w a n c L) (s : ByteArray) (m : Int) : Calls Tryd.prog 18 #[.pointer (some ⟨st, 0, none⟩), .slice a n c, .agg #[.string s, .int .i64 m], .int .i64 (W : Int)] w fun e w' => AlTo w e w' := by
  have hl := hd.len
  have hmx := hd.max
  have hLk := hdoc.len
  obtain ⟨bx, hbx⟩ : ∃ bx, w.heap.size = bx := ⟨_, rfl⟩
  obtain ⟨W1, hW1, r1, hb1⟩ := box_id (w := w) s m
  rw [hbx] at r1
  have x0 : W1.cell? ⟨bx, 0, none⟩ = some (.string s) := by rw [cell_of_row _ _ _ _ _ _ r1]; rfl
  have x1 : W1.cell? ⟨bx, 1, none⟩ = some (.int .i64 m) := by rw [cell_of_row _ _ _ _ _ _ r1]; rfl
  have up : ∀ {V}, Below W1.heap.size W1 V → Below w.heap.size w V := fun hV => hb1.trans (hV.mono hb1.size)
  have hlk := hdoc.look s m
  have HLOOK : Hid (∀ V, Below W1.heap.size W1 V → Calls Tryd.prog 31 #[.pointer (some ⟨st, 0, none⟩), .agg #[.string s, .int .i64 m]] V fun e w' => ParTo V ((atF L s m).bind fun i => L[i]?) e w') := fun V hV => by
    have := look_any (h.below (up hV)) hW s m
    rw [hlk] at this
    exact this
  have HAT : Hid (∀ V, Below W1.heap.size W1 V → Calls Tryd.prog 28 #[.slice a n c, .agg #[.string s, .int .i64 m]] V fun e w' => AtTo V (atF L s m) e w') := fun V hV => at_any (hd.below (up hV)) s m
  have HCO : Hid (∀ V, Below W1.heap.size W1 V → Calls Tryd.prog 23 #[.pointer (some ⟨st, 0, none⟩)] V fun e w' => e = .returned (.tuple #[.int .i64 (n : Int), .int .i64 (dataSum L : Int)]) ∧ Below V.heap.size V w') := fun V hV => by
    have := count_any (h.below (up hV)) hW
    rw [hdoc.count.1, hdoc.count.2, hl] at this
    exact this
  have HRC : Hid (∀ V, Below W1.heap.size W1 V → Calls Tryd.prog 34 #[.slice a n c] V fun e w' => e = .returned (.tuple #[.int .i64 (n : Int), .int .i64 (dataSum L : Int)]) ∧ w' = V) := fun V hV => by
    have := rcount_any (hd.below (up hV)) (fun d hd' => ((hdoc.mem d).2 hd').2.2.2.2.2) (by omega)
    rw [hl] at this
    exact this
  have HFI : Hid ((s.size = W → ∀ V, Below W1.heap.size W1 V → Calls Tryd.prog 24 #[.pointer (some ⟨st, 0, none⟩), .string s] V fun e w' => FdTo V (idsF L s 256) e w') ∧ (¬ s.size = W → ∀ V, Below W1.heap.size W1 V → Calls Tryd.prog 24 #[.pointer (some ⟨st, 0, none⟩), .string s] V fun e w' => FdTo V [] e w')) :=
    ⟨fun hs V hV => by rw [← hdoc.find hs]; exact find_any (h.below (up hV)) hW s, fun hs V hV => by rw [← Doc.find_no (T := T) hs]; exact find_any (h.below (up hV)) hW s⟩
  have HRF2 : Hid (∀ V, Below W1.heap.size W1 V → Calls Tryd.prog 35 #[.slice a n c, .string s] V fun e w' => FdTo V (idsF L s 256) e w') := fun V hV => rfind_ids (hd.below (up hV)) s
  have HC1 : Hid (∀ V, Below W1.heap.size W1 V → V.cell? ⟨bx, 0, none⟩ = some (.string s) ∧ V.cell? ⟨bx, 1, none⟩ = some (.int .i64 m)) := fun V hV => ⟨by rw [hV.cell (lt_of_some r1)]; exact x0, by rw [hV.cell (lt_of_some r1)]; exact x1⟩
  have HH : Hid (Below w.heap.size w W1) := hb1
  obtain ⟨ds, hds⟩ : ∃ ds, dataSum L = ds := ⟨_, rfl⟩
  rw [hds] at HCO HRC
  cases hat : atF L s m with
  | some i =>
    obtain ⟨⟨c1, c2, c3, c4⟩, hi, hi1⟩ := at_some hat
    have hin : i < n := by have := (List.getElem?_eq_some_iff.1 hi).1; omega
    rw [hat] at HAT HLOOK
    simp only [Option.bind_some, hi] at HLOOK
    have hck := ((hdoc.mem _).2 (List.mem_of_getElem? hi))
    have hc3 : refsOf (some (⟨c1, c2, c3, c4⟩ : Cn)) < 4294967296 := by have h9 := hck.2.2.2.2.1; simp only at h9; show c3 < _; omega
    have HG := get_of (some ⟨st, 0, none⟩) s m _ W1 (fun V hV => HLOOK.out V hV)
    have HRE : Hid (∀ V, Below W1.heap.size W1 V → Calls Tryd.prog 22 #[.pointer (some ⟨st, 0, none⟩), .agg #[.string s, .int .i64 m]] V fun e w' => e = .returned (.int .i64 (c3 : Int)) ∧ Below V.heap.size V w') := fun V hV => refs_of (some ⟨st, 0, none⟩) s m (some ⟨c1, c2, c3, c4⟩) V hc3 (fun V' hV' => HLOOK.out V' (hV.trans (hV'.mono hV.size)))
    unfold dataOf at HG
    obtain ⟨sb, so, rfl, hsb, hcc⟩ := hd.at (by omega)
    obtain ⟨_, _, g2, g3⟩ := hcc i _ hi
    have HCC : Hid (∀ V, Below W1.heap.size W1 V → V.cell? ⟨sb, so + i * 4 + 2, none⟩ = some (.int .i64 (c3 : Int)) ∧ V.cell? ⟨sb, so + i * 4 + 3, none⟩ = some (.string c4)) := fun V hV => ⟨by rw [(up hV).cell hsb]; exact g2, by rw [(up hV).cell hsb]; exact g3⟩
    have heq : (c4.toList == c4.toList) = true := by simp
    have ki : (i : Int) < (n : Int) := by omega
    have ki0 : (0 : Int) ≤ (i : Int) := by omega
    clear h hdoc hd hcc g2 g3 hi hi1 hat hck HLOOK hc3 r1 up hlk hLk
    go_enter Tryd.func18, Tryd.ntmps18
    go_wp2_with fail
    refine HG.mono ?_
    rintro e Va ⟨rfl, hba⟩
    obtain ⟨u0, u1⟩ := HC1.out Va hba
    have HBA : Hid (Below W1.heap.size W1 Va) := hba
    have HAV := HAT.out Va hba
    clear hba HG
    go_wp2_with fail
    refine HAV.mono ?_
    rintro e V2 ⟨rfl, hb2⟩
    have HV2 : Hid (Below W1.heap.size W1 V2) := HBA.out.trans (hb2.mono HBA.out.size)
    have HC : Hid (∀ V, Below V2.heap.size V2 V → V.cell? ⟨bx, 0, none⟩ = some (.string s) ∧ V.cell? ⟨bx, 1, none⟩ = some (.int .i64 m) ∧ V.cell? ⟨sb, so + i * 4 + 2, none⟩ = some (.int .i64 (c3 : Int)) ∧ V.cell? ⟨sb, so + i * 4 + 3, none⟩ = some (.string c4)) := fun V hV => by
      have hV' := HV2.out.trans (hV.mono HV2.out.size)
      exact ⟨(HC1.out V hV').1, (HC1.out V hV').2, (HCC.out V hV').1, (HCC.out V hV').2⟩
    have HRF : Hid (∀ V, Below V2.heap.size V2 V → Calls Tryd.prog 22 #[.pointer (some ⟨st, 0, none⟩), .agg #[.string s, .int .i64 m]] V fun e w' => e = .returned (.int .i64 (c3 : Int)) ∧ Below V.heap.size V w') := fun V hV => HRE.out V (HV2.out.trans (hV.mono HV2.out.size))
    clear HAV hb2 u0 u1
    unfold atV
    go_wp2
    refine wp_region_held_drew (S := fun W => W.cell? ⟨bx, 0, none⟩ = some (.string s) ∧ W.cell? ⟨bx, 1, none⟩ = some (.int .i64 m) ∧ W.cell? ⟨sb, so + i * 4 + 2, none⟩ = some (.int .i64 (c3 : Int)) ∧ W.cell? ⟨sb, so + i * 4 + 3, none⟩ = some (.string c4)) (by kernel_rfl) (HC.out V2.drew (Below.refl _ V2).drew) (fun hHeld => ?_)
    refine wpAnyH_take (i := 0) (v := ?va_0) rfl (by kernel_rfl) (by kernel_rfl) (by kernel_rfl) (fun _ _ _ h => h) (Or.inl ⟨by first | kernel_rfl | rfl, ?ya_0⟩) hHeld ?ra_0
    case ya_0 => (intro W hSW; (try dsimp only at hSW); go_simp; (try with_reducible rfl))
    change wpAnyH _ _ _ _ _ _ _ (Act.put _ (some 26) _) _
    simp only [Act.put, List.setIfInBounds_toArray, List.set_cons_zero, List.set_cons_succ]
    refine wpAnyH_take (i := 1) (v := ?va_1) rfl (by kernel_rfl) (by kernel_rfl) (by kernel_rfl) (fun _ _ _ h => h) (Or.inl ⟨by first | kernel_rfl | rfl, ?ya_1⟩) hHeld ?ra_1
    case ya_1 => (intro W hSW; (try dsimp only at hSW); go_simp; (try with_reducible rfl))
    change wpAnyH _ _ _ _ _ _ _ (Act.put _ (some 27) _) _
    simp only [Act.put, List.setIfInBounds_toArray, List.set_cons_zero, List.set_cons_succ]
    refine wpAnyH_take (i := 2) (v := ?va_2) rfl (by kernel_rfl) (by kernel_rfl) (by kernel_rfl) (fun _ _ _ h => h) (Or.inl ⟨by first | kernel_rfl | rfl, ?ya_2⟩) hHeld ?ra_2
    case ya_2 => (intro W hSW; (try dsimp only at hSW); go_simp; (try with_reducible rfl))
    change wpAnyH _ _ _ _ _ _ _ (Act.put _ (some 28) _) _
    simp only [Act.put, List.setIfInBounds_toArray, List.set_cons_zero, List.set_cons_succ]
    refine wpAnyH_take (i := 3) (v := ?va_3) rfl (by kernel_rfl) (by kernel_rfl) (by kernel_rfl) (fun _ _ _ h => h) (Or.inl ⟨by first | kernel_rfl | rfl, ?ya_3⟩) hHeld ?ra_3
    case ya_3 => (intro W hSW; (try dsimp only at hSW); go_simp; (try with_reducible rfl))
    change wpAnyH _ _ _ _ _ _ _ (Act.put _ (some 29) _) _
    simp only [Act.put, List.setIfInBounds_toArray, List.set_cons_zero, List.set_cons_succ]
    refine wpAnyH_take (i := 4) (v := ?va_4) rfl (by kernel_rfl) (by kernel_rfl) (by kernel_rfl) (fun _ _ _ h => h) (Or.inl ⟨by first | kernel_rfl | rfl, ?ya_4⟩) hHeld ?ra_4
    case ya_4 => (intro W hSW; (try dsimp only at hSW); go_simp; (try with_reducible rfl))
    change wpAnyH _ _ _ _ _ _ _ (Act.put _ (some 30) _) _
    simp only [Act.put, List.setIfInBounds_toArray, List.set_cons_zero, List.set_cons_succ]
    refine wpAnyH_take (i := 5) (v := ?va_5) rfl (by kernel_rfl) (by kernel_rfl) (by kernel_rfl) (fun _ _ _ h => h) (Or.inl ⟨by first | kernel_rfl | rfl, ?ya_5⟩) hHeld ?ra_5
    case ya_5 => (intro W hSW; (try dsimp only at hSW); go_simp; (try with_reducible rfl))
    change wpAnyH _ _ _ _ _ _ _ (Act.put _ (some 31) _) _
    simp only [Act.put, List.setIfInBounds_toArray, List.set_cons_zero, List.set_cons_succ]
    refine wpAnyH_take (i := 6) (v := ?va_6) rfl (by kernel_rfl) (by kernel_rfl) (by kernel_rfl) (fun _ _ _ h => h) (Or.inl ⟨by first | kernel_rfl | rfl, ?ya_6⟩) hHeld ?ra_6
    case ya_6 => (intro W hSW; (try dsimp only at hSW); go_simp; (try with_reducible rfl))
    change wpAnyH _ _ _ _ _ _ _ (Act.put _ (some 32) _) _
    simp only [Act.put, List.setIfInBounds_toArray, List.set_cons_zero, List.set_cons_succ]
    refine wpAnyH_take (i := 7) (v := ?va_7) rfl (by kernel_rfl) (by kernel_rfl) (by kernel_rfl) (fun _ _ _ h => h) (Or.inl ⟨by first | kernel_rfl | rfl, ?ya_7⟩) hHeld ?ra_7
    case ya_7 => (intro W hSW; (try dsimp only at hSW); go_simp; (try with_reducible rfl))
    change wpAnyH _ _ _ _ _ _ _ (Act.put _ (some 33) _) _
    simp only [Act.put, List.setIfInBounds_toArray, List.set_cons_zero, List.set_cons_succ]
    refine wpAnyH_take (i := 8) (v := ?va_8) rfl (by kernel_rfl) (by kernel_rfl) (by kernel_rfl) (fun _ _ _ h => h) (Or.inl ⟨by first | kernel_rfl | rfl, ?ya_8⟩) hHeld ?ra_8
    case ya_8 => (intro W hSW; (try dsimp only at hSW); go_simp; (try with_reducible rfl))
    change wpAnyH _ _ _ _ _ _ _ (Act.put _ (some 34) _) _
    simp only [Act.put, List.setIfInBounds_toArray, List.set_cons_zero, List.set_cons_succ]
    refine wpAnyH_take (i := 9) (v := ?va_9) rfl (by kernel_rfl) (by kernel_rfl) (by kernel_rfl) (fun _ _ _ h => h) (Or.inl ⟨by first | kernel_rfl | rfl, ?ya_9⟩) hHeld ?ra_9
    case ya_9 => (intro W hSW; (try dsimp only at hSW); go_simp; (try with_reducible rfl))
    change wpAnyH _ _ _ _ _ _ _ (Act.put _ (some 35) _) _
    simp only [Act.put, List.setIfInBounds_toArray, List.set_cons_zero, List.set_cons_succ]
    refine wpAnyH_take (i := 10) (v := ?va_10) rfl (by kernel_rfl) (by kernel_rfl) (by kernel_rfl) (fun _ _ _ h => h) (Or.inl ⟨by first | kernel_rfl | rfl, ?ya_10⟩) hHeld ?ra_10
    case ya_10 => (intro W hSW; (try dsimp only at hSW); go_simp; (try with_reducible rfl))
    change wpAnyH _ _ _ _ _ _ _ (Act.put _ (some 36) _) _
    simp only [Act.put, List.setIfInBounds_toArray, List.set_cons_zero, List.set_cons_succ]
    refine wpAnyH_take (i := 11) (v := ?va_11) rfl (by kernel_rfl) (by kernel_rfl) (by kernel_rfl) (fun _ _ _ h => h) (Or.inl ⟨by first | kernel_rfl | rfl, ?ya_11⟩) hHeld ?ra_11
    case ya_11 => (intro W hSW; (try dsimp only at hSW); go_simp; (try with_reducible rfl))
    change wpAnyH _ _ _ _ _ _ _ (Act.put _ (some 37) _) _
    simp only [Act.put, List.setIfInBounds_toArray, List.set_cons_zero, List.set_cons_succ]
    refine wpAnyH_take (i := 12) (v := ?va_12) rfl (by kernel_rfl) (by kernel_rfl) (by kernel_rfl) (fun _ _ _ h => h) (Or.inl ⟨by first | kernel_rfl | rfl, ?ya_12⟩) hHeld ?ra_12
    case ya_12 => (intro W hSW; (try dsimp only at hSW); go_simp; (try with_reducible rfl))
    change wpAnyH _ _ _ _ _ _ _ (Act.put _ (some 38) _) _
    simp only [Act.put, List.setIfInBounds_toArray, List.set_cons_zero, List.set_cons_succ]
    refine wpAnyH_take (i := 13) (v := ?va_13) rfl (by kernel_rfl) (by kernel_rfl) (by kernel_rfl) (fun _ _ _ h => h) (Or.inl ⟨by first | kernel_rfl | rfl, ?ya_13⟩) hHeld ?ra_13
    case ya_13 => (intro W hSW; (try dsimp only at hSW); go_simp; (try with_reducible rfl))
    change wpAnyH _ _ _ _ _ _ _ (Act.put _ (some 39) _) _
    simp only [Act.put, List.setIfInBounds_toArray, List.set_cons_zero, List.set_cons_succ]
    refine wpAnyH_take (i := 14) (v := ?va_14) rfl (by kernel_rfl) (by kernel_rfl) (by kernel_rfl) (fun _ _ _ h => h) (Or.inl ⟨by first | kernel_rfl | rfl, ?ya_14⟩) hHeld ?ra_14
    case ya_14 => (intro W hSW; (try dsimp only at hSW); go_simp; (try with_reducible rfl))
    change wpAnyH _ _ _ _ _ _ _ (Act.put _ (some 40) _) _
    simp only [Act.put, List.setIfInBounds_toArray, List.set_cons_zero, List.set_cons_succ]
    refine wpAnyH_take (i := 15) (v := ?va_15) rfl (by kernel_rfl) (by kernel_rfl) (by kernel_rfl) (fun _ _ _ h => h) (Or.inl ⟨by first | kernel_rfl | rfl, ?ya_15⟩) hHeld ?ra_15
    case ya_15 => (intro W hSW; (try dsimp only at hSW); go_simp; (try with_reducible rfl))
    change wpAnyH _ _ _ _ _ _ _ (Act.put _ (some 41) _) _
    simp only [Act.put, List.setIfInBounds_toArray, List.set_cons_zero, List.set_cons_succ]
    refine wpAnyH_take (i := 16) (v := ?va_16) rfl (by kernel_rfl) (by kernel_rfl) (by kernel_rfl) (fun _ _ _ h => h) (Or.inl ⟨by first | kernel_rfl | rfl, ?ya_16⟩) hHeld ?ra_16
    case ya_16 => (intro W hSW; (try dsimp only at hSW); go_simp; (try with_reducible rfl))
    change wpAnyH _ _ _ _ _ _ _ (Act.put _ (some 42) _) _
    simp only [Act.put, List.setIfInBounds_toArray, List.set_cons_zero, List.set_cons_succ]
    refine wpAnyH_take (i := 18) (v := ?va_18) rfl (by kernel_rfl) (by kernel_rfl) (by kernel_rfl) (fun _ _ _ h => h) (Or.inl ⟨by first | kernel_rfl | rfl, ?ya_18⟩) hHeld ?ra_18
    case ya_18 => (intro W hSW; (try dsimp only at hSW); go_simp; (try with_reducible rfl))
    change wpAnyH _ _ _ _ _ _ _ (Act.put _ (some 44) _) _
    simp only [Act.put, List.setIfInBounds_toArray, List.set_cons_zero, List.set_cons_succ]
    refine wpAnyH_take (i := 19) (v := ?va_19) rfl (by kernel_rfl) (by kernel_rfl) (by kernel_rfl) (fun _ _ _ h => h) (Or.inl ⟨by first | kernel_rfl | rfl, ?ya_19⟩) hHeld ?ra_19
    case ya_19 => (intro W hSW; (try dsimp only at hSW); go_simp; (try with_reducible rfl))
    change wpAnyH _ _ _ _ _ _ _ (Act.put _ (some 45) _) _
    simp only [Act.put, List.setIfInBounds_toArray, List.set_cons_zero, List.set_cons_succ]
    refine wpAnyH_take (i := 20) (v := ?va_20) rfl (by kernel_rfl) (by kernel_rfl) (by kernel_rfl) (fun _ _ _ h => h) (Or.inl ⟨by first | kernel_rfl | rfl, ?ya_20⟩) hHeld ?ra_20
    case ya_20 => (intro W hSW; (try dsimp only at hSW); go_simp; (try with_reducible rfl))
    change wpAnyH _ _ _ _ _ _ _ (Act.put _ (some 46) _) _
    simp only [Act.put, List.setIfInBounds_toArray, List.set_cons_zero, List.set_cons_succ]
    refine wpAnyH_take (i := 21) (v := ?va_21) rfl (by kernel_rfl) (by kernel_rfl) (by kernel_rfl) (fun _ _ _ h => h) (Or.inl ⟨by first | kernel_rfl | rfl, ?ya_21⟩) hHeld ?ra_21
    case ya_21 => (intro W hSW; (try dsimp only at hSW); go_simp; (try with_reducible rfl))
    change wpAnyH _ _ _ _ _ _ _ (Act.put _ (some 47) _) _
    simp only [Act.put, List.setIfInBounds_toArray, List.set_cons_zero, List.set_cons_succ]
    refine wpAnyH_take (i := 22) (v := ?va_22) rfl (by kernel_rfl) (by kernel_rfl) (by kernel_rfl) (fun _ _ _ h => h) (Or.inl ⟨by first | kernel_rfl | rfl, ?ya_22⟩) hHeld ?ra_22
    case ya_22 => (intro W hSW; (try dsimp only at hSW); go_simp; (try with_reducible rfl))
    change wpAnyH _ _ _ _ _ _ _ (Act.put _ (some 48) _) _
    simp only [Act.put, List.setIfInBounds_toArray, List.set_cons_zero, List.set_cons_succ]
    refine wpAnyH_ready (rs := [17]) (by kernel_rfl) (by simp) ?_
    refine AllReadyH.cons rfl (fun K hK => ?_) AllReadyH.nil
    go_simp
    refine (HRF.out V2.drew (Below.refl _ V2).drew).mono ?_
    rintro e V3 ⟨rfl, hb3⟩
    refine hK.out _ _ (HC.out V3 ((Below.refl _ V2).drew.trans hb3)) (fun hHeld => ?_)
    clear hK K
    try simp only [Act.put, List.setIfInBounds_toArray, List.set_cons_zero, List.set_cons_succ]
    refine wpAnyH_take (i := 23) (v := ?va_23) rfl (by kernel_rfl) (by kernel_rfl) (by kernel_rfl) (fun _ _ _ h => h) (Or.inl ⟨by first | kernel_rfl | rfl, ?ya_23⟩) hHeld ?ra_23
    case ya_23 => (intro W hSW; (try dsimp only at hSW); go_simp; (try with_reducible rfl))
    change wpAnyH _ _ _ _ _ _ _ (Act.put _ (some 49) _) _
    simp only [Act.put, List.setIfInBounds_toArray, List.set_cons_zero, List.set_cons_succ]
    refine wpAnyH_take (i := 24) (v := ?va_24) rfl (by kernel_rfl) (by kernel_rfl) (by kernel_rfl) (fun _ _ _ h => h) (Or.inl ⟨by first | kernel_rfl | rfl, ?ya_24⟩) hHeld ?ra_24
    case ya_24 => (intro W hSW; (try dsimp only at hSW); go_simp; (try with_reducible rfl))
    change wpAnyH _ _ _ _ _ _ _ (Act.put _ (some 50) _) _
    simp only [Act.put, List.setIfInBounds_toArray, List.set_cons_zero, List.set_cons_succ]
    refine wpAnyH_take (i := 25) (v := ?va_25) rfl (by kernel_rfl) (by kernel_rfl) (by kernel_rfl) (fun _ _ _ h => h) (Or.inl ⟨by first | kernel_rfl | rfl, ?ya_25⟩) hHeld ?ra_25
    case ya_25 => (intro W hSW; (try dsimp only at hSW); go_simp; (try with_reducible rfl))
    change wpAnyH _ _ _ _ _ _ _ (Act.put _ (some 51) _) _
    simp only [Act.put, List.setIfInBounds_toArray, List.set_cons_zero, List.set_cons_succ]
    refine wpAnyH_take (i := 26) (v := ?va_26) rfl (by kernel_rfl) (by kernel_rfl) (by kernel_rfl) (fun _ _ _ h => h) (Or.inl ⟨by first | kernel_rfl | rfl, ?ya_26⟩) hHeld ?ra_26
    case ya_26 => (intro W hSW; (try dsimp only at hSW); go_simp; (try with_reducible rfl))
    change wpAnyH _ _ _ _ _ _ _ (Act.put _ (some 52) _) _
    simp only [Act.put, List.setIfInBounds_toArray, List.set_cons_zero, List.set_cons_succ]
    refine wpAnyH_take (i := 27) (v := ?va_27) rfl (by kernel_rfl) (by kernel_rfl) (by kernel_rfl) (fun _ _ _ h => h) (Or.inl ⟨by first | kernel_rfl | rfl, ?ya_27⟩) hHeld ?ra_27
    case ya_27 => (intro W hSW; (try dsimp only at hSW); go_simp; (try with_reducible rfl))
    change wpAnyH _ _ _ _ _ _ _ (Act.put _ (some 53) _) _
    simp only [Act.put, List.setIfInBounds_toArray, List.set_cons_zero, List.set_cons_succ]
    refine wpAnyH_take (i := 28) (v := ?va_28) rfl (by kernel_rfl) (by kernel_rfl) (by kernel_rfl) (fun _ _ _ h => h) (Or.inl ⟨by first | kernel_rfl | rfl, ?ya_28⟩) hHeld ?ra_28
    case ya_28 => (intro W hSW; (try dsimp only at hSW); go_simp; (try with_reducible rfl))
    change wpAnyH _ _ _ _ _ _ _ (Act.put _ (some 54) _) _
    simp only [Act.put, List.setIfInBounds_toArray, List.set_cons_zero, List.set_cons_succ]
    refine wpAnyH_take (i := 29) (v := ?va_29) rfl (by kernel_rfl) (by kernel_rfl) (by kernel_rfl) (fun _ _ _ h => h) (Or.inl ⟨by first | kernel_rfl | rfl, ?ya_29⟩) hHeld ?ra_29
    case ya_29 => (intro W hSW; (try dsimp only at hSW); go_simp; (try with_reducible rfl))
    change wpAnyH _ _ _ _ _ _ _ (Act.put _ (some 55) _) _
    simp only [Act.put, List.setIfInBounds_toArray, List.set_cons_zero, List.set_cons_succ]
    refine wpAnyH_take (i := 30) (v := ?va_30) rfl (by kernel_rfl) (by kernel_rfl) (by kernel_rfl) (fun _ _ _ h => h) (Or.inl ⟨by first | kernel_rfl | rfl, ?ya_30⟩) hHeld ?ra_30
    case ya_30 => (intro W hSW; (try dsimp only at hSW); go_simp; (try with_reducible rfl))
    change wpAnyH _ _ _ _ _ _ _ (Act.put _ (some 56) _) _
    simp only [Act.put, List.setIfInBounds_toArray, List.set_cons_zero, List.set_cons_succ]
    refine wpAnyH_take (i := 31) (v := undef) rfl (by kernel_rfl) (by kernel_rfl) (by kernel_rfl) (fun _ _ _ h => h) (Or.inr ⟨by first | kernel_rfl | rfl, rfl⟩) hHeld ?_
    change wpAnyH _ _ _ _ _ _ _ (Act.put _ (some 57) _) _
    simp only [Act.put, List.setIfInBounds_toArray, List.set_cons_zero, List.set_cons_succ]
    refine wpAnyH_take (i := 32) (v := undef) rfl (by kernel_rfl) (by kernel_rfl) (by kernel_rfl) (fun _ _ _ h => h) (Or.inr ⟨by first | kernel_rfl | rfl, rfl⟩) hHeld ?_
    change wpAnyH _ _ _ _ _ _ _ (Act.put _ (some 58) _) _
    simp only [Act.put, List.setIfInBounds_toArray, List.set_cons_zero, List.set_cons_succ]
    refine wpAnyH_take (i := 33) (v := undef) rfl (by kernel_rfl) (by kernel_rfl) (by kernel_rfl) (fun _ _ _ h => h) (Or.inr ⟨by first | kernel_rfl | rfl, rfl⟩) hHeld ?_
    change wpAnyH _ _ _ _ _ _ _ (Act.put _ (some 59) _) _
    simp only [Act.put, List.setIfInBounds_toArray, List.set_cons_zero, List.set_cons_succ]
    refine wpAnyH_take (i := 34) (v := undef) rfl (by kernel_rfl) (by kernel_rfl) (by kernel_rfl) (fun _ _ _ h => h) (Or.inr ⟨by first | kernel_rfl | rfl, rfl⟩) hHeld ?_
    change wpAnyH _ _ _ _ _ _ _ (Act.put _ (some 60) _) _
    simp only [Act.put, List.setIfInBounds_toArray, List.set_cons_zero, List.set_cons_succ]
    refine wpAnyH_take (i := 35) (v := undef) rfl (by kernel_rfl) (by kernel_rfl) (by kernel_rfl) (fun _ _ _ h => h) (Or.inr ⟨by first | kernel_rfl | rfl, rfl⟩) hHeld ?_
    change wpAnyH _ _ _ _ _ _ _ (Act.put _ (some 61) _) _
    simp only [Act.put, List.setIfInBounds_toArray, List.set_cons_zero, List.set_cons_succ]
    refine wpAnyH_take (i := 36) (v := undef) rfl (by kernel_rfl) (by kernel_rfl) (by kernel_rfl) (fun _ _ _ h => h) (Or.inr ⟨by first | kernel_rfl | rfl, rfl⟩) hHeld ?_
    change wpAnyH _ _ _ _ _ _ _ (Act.put _ (some 62) _) _
    simp only [Act.put, List.setIfInBounds_toArray, List.set_cons_zero, List.set_cons_succ]
    refine wpAnyH_take (i := 37) (v := undef) rfl (by kernel_rfl) (by kernel_rfl) (by kernel_rfl) (fun _ _ _ h => h) (Or.inr ⟨by first | kernel_rfl | rfl, rfl⟩) hHeld ?_
    change wpAnyH _ _ _ _ _ _ _ (Act.put _ (some 63) _) _
    simp only [Act.put, List.setIfInBounds_toArray, List.set_cons_zero, List.set_cons_succ]
    refine wpAnyH_take (i := 38) (v := undef) rfl (by kernel_rfl) (by kernel_rfl) (by kernel_rfl) (fun _ _ _ h => h) (Or.inr ⟨by first | kernel_rfl | rfl, rfl⟩) hHeld ?_
    change wpAnyH _ _ _ _ _ _ _ (Act.put _ (some 64) _) _
    simp only [Act.put, List.setIfInBounds_toArray, List.set_cons_zero, List.set_cons_succ]
    refine wpAnyH_take (i := 39) (v := ?va_39) rfl (by kernel_rfl) (by kernel_rfl) (by kernel_rfl) (fun _ _ _ h => h) (Or.inl ⟨by first | kernel_rfl | rfl, ?ya_39⟩) hHeld ?ra_39
    case ya_39 => (intro W hSW; (try dsimp only at hSW); go_simp; (try with_reducible rfl))
    change wpAnyH _ _ _ _ _ _ _ (Act.put _ (some 65) _) _
    simp only [Act.put, List.setIfInBounds_toArray, List.set_cons_zero, List.set_cons_succ]
    refine wpAnyH_take (i := 40) (v := ?va_40) rfl (by kernel_rfl) (by kernel_rfl) (by kernel_rfl) (fun _ _ _ h => h) (Or.inl ⟨by first | kernel_rfl | rfl, ?ya_40⟩) hHeld ?ra_40
    case ya_40 => (intro W hSW; (try dsimp only at hSW); go_simp; (try with_reducible rfl))
    change wpAnyH _ _ _ _ _ _ _ (Act.put _ (some 66) _) _
    simp only [Act.put, List.setIfInBounds_toArray, List.set_cons_zero, List.set_cons_succ]
    refine wpAnyH_done (by kernel_rfl) ?_ _
    have HD3 : Hid (Below W1.heap.size W1 V3) := (HV2.out).trans (((Below.refl _ V2).drew.trans hb3).mono HV2.out.size)
    clear hb3
    go_wp2_with fail
    refine (HCO.out V3 HD3.out).mono ?_
    rintro e V4 ⟨rfl, hb4⟩
    have HD4 : Hid (Below W1.heap.size W1 V4) := HD3.out.trans (hb4.mono HD3.out.size)
    clear hb4
    go_wp2_with fail
    refine (HRC.out V4 HD4.out).mono ?_
    rintro e V5 ⟨rfl, rfl⟩
    obtain ⟨u0, u1⟩ := HC1.out V5 HD4.out
    by_cases hs : s.size = W
    · have ks : ((s.size : Int) == (W : Int)) = true := by simp; omega
      have ks2 : (s.size : Int) = (W : Int) := by omega
      have HF1 := HFI.out.1 hs
      clear hs
      go_wp2_with fail
      refine (HRF2.out V5 HD4.out).mono ?_
      rintro e V6 ⟨fa, fn, fc, rfl, hof, hb6⟩
      have HD6 : Hid (Below W1.heap.size W1 V6) := HD4.out.trans (hb6.mono HD4.out.size)
      have HIW : Hid (Iw (fun _ => True) V6 fa fn fc (idsF L s 256)) := Rw.own hof (fun _ _ => trivial)
      clear hof hb6
      obtain ⟨u2, u3⟩ := HC1.out V6 HD6.out
      go_wp2_with fail
      refine (HF1 V6 HD6.out).mono ?_
      rintro e V7 ⟨ga, gn, gc, rfl, hog, hb7⟩
      have HSI := (sameids_any (Rw.own hog (fun _ _ => trivial) : Iw (fun _ => True) V7 ga gn gc (idsF L s 256)) (HIW.out.below hb7))
      have HD7 : Hid (Below W1.heap.size W1 V7) := HD6.out.trans (hb7.mono HD6.out.size)
      rw [decide_eq_true rfl] at HSI
      clear hog hb7
      go_wp2_with fail
      refine HSI.mono ?_
      rintro e V8 ⟨rfl, hb8⟩
      have HEN : Hid (AlTo w (.returned (.bool true)) V8) := ⟨rfl, HH.out.trans ((HD7.out.trans (hb8.mono HD7.out.size)).mono HH.out.size)⟩
      clear hb8 HSI
      go_wp2
      go_ret
      exact HEN.out
    · have ks : ((s.size : Int) == (W : Int)) = false := by simp; omega
      have ks2 : ¬ (s.size : Int) = (W : Int) := by omega
      have HF1 := HFI.out.2 hs
      clear hs
      go_wp2_with fail
      refine (HF1 V5 HD4.out).mono ?_
      rintro e V7 ⟨ga, gn, gc, rfl, hog, hb7⟩
      have HSI := (sameids_any (Rw.own hog (fun _ _ => trivial) : Iw (fun _ => True) V7 ga gn gc []) (Rw.own (show V7.ownsRow V7.heap.size 35 2 (.slice none 0 0) 0 (idR []) from World.ownsRow_nil _ _ _ _) (fun _ _ => trivial) : Iw (fun _ => True) V7 none 0 0 []))
      have HD7 : Hid (Below W1.heap.size W1 V7) := HD4.out.trans (hb7.mono HD4.out.size)
      rw [decide_eq_true rfl] at HSI
      clear hog hb7
      go_wp2_with fail
      refine HSI.mono ?_
      rintro e V8 ⟨rfl, hb8⟩
      have HEN : Hid (AlTo w (.returned (.bool true)) V8) := ⟨rfl, HH.out.trans ((HD7.out.trans (hb8.mono HD7.out.size)).mono HH.out.size)⟩
      clear hb8 HSI
      go_wp2
      go_ret
      exact HEN.out
  | none =>
    rw [hat] at HAT HLOOK
    simp only [Option.bind_none] at HLOOK
    have HG := get_of (some ⟨st, 0, none⟩) s m none W1 (fun V hV => HLOOK.out V hV)
    have HRE : Hid (∀ V, Below W1.heap.size W1 V → Calls Tryd.prog 22 #[.pointer (some ⟨st, 0, none⟩), .agg #[.string s, .int .i64 m]] V fun e w' => e = .returned (.int .i64 0) ∧ Below V.heap.size V w') := fun V hV => refs_of (some ⟨st, 0, none⟩) s m none V (by show 0 < _; omega) (fun V' hV' => HLOOK.out V' (hV.trans (hV'.mono hV.size)))
    unfold dataOf at HG
    clear h hdoc hd hat HLOOK r1 up hlk hLk
    go_enter Tryd.func18, Tryd.ntmps18
    go_wp2_with fail
    refine HG.mono ?_
    rintro e Va ⟨rfl, hba⟩
    obtain ⟨u0, u1⟩ := HC1.out Va hba
    have HBA : Hid (Below W1.heap.size W1 Va) := hba
    have HAV := HAT.out Va hba
    clear hba HG
    go_wp2_with fail
    refine HAV.mono ?_
    rintro e V2 ⟨rfl, hb2⟩
    have HV2 : Hid (Below W1.heap.size W1 V2) := HBA.out.trans (hb2.mono HBA.out.size)
    have HC : Hid (∀ V, Below V2.heap.size V2 V → V.cell? ⟨bx, 0, none⟩ = some (.string s) ∧ V.cell? ⟨bx, 1, none⟩ = some (.int .i64 m)) := fun V hV => HC1.out V (HV2.out.trans (hV.mono HV2.out.size))
    have HRF : Hid (∀ V, Below V2.heap.size V2 V → Calls Tryd.prog 22 #[.pointer (some ⟨st, 0, none⟩), .agg #[.string s, .int .i64 m]] V fun e w' => e = .returned (.int .i64 0) ∧ Below V.heap.size V w') := fun V hV => HRE.out V (HV2.out.trans (hV.mono HV2.out.size))
    clear HAV hb2 u0 u1
    unfold atV
    go_wp2
    refine wp_region_held_drew (S := fun W => W.cell? ⟨bx, 0, none⟩ = some (.string s) ∧ W.cell? ⟨bx, 1, none⟩ = some (.int .i64 m)) (by kernel_rfl) (HC.out V2.drew (Below.refl _ V2).drew) (fun hHeld => ?_)
    refine wpAnyH_take (i := 0) (v := ?vb_0) rfl (by kernel_rfl) (by kernel_rfl) (by kernel_rfl) (fun _ _ _ h => h) (Or.inl ⟨by first | kernel_rfl | rfl, ?yb_0⟩) hHeld ?rb_0
    case yb_0 => (intro W hSW; (try dsimp only at hSW); go_simp; (try with_reducible rfl))
    change wpAnyH _ _ _ _ _ _ _ (Act.put _ (some 26) _) _
    simp only [Act.put, List.setIfInBounds_toArray, List.set_cons_zero, List.set_cons_succ]
    refine wpAnyH_take (i := 1) (v := ?vb_1) rfl (by kernel_rfl) (by kernel_rfl) (by kernel_rfl) (fun _ _ _ h => h) (Or.inl ⟨by first | kernel_rfl | rfl, ?yb_1⟩) hHeld ?rb_1
    case yb_1 => (intro W hSW; (try dsimp only at hSW); go_simp; (try with_reducible rfl))
    change wpAnyH _ _ _ _ _ _ _ (Act.put _ (some 27) _) _
    simp only [Act.put, List.setIfInBounds_toArray, List.set_cons_zero, List.set_cons_succ]
    refine wpAnyH_take (i := 2) (v := ?vb_2) rfl (by kernel_rfl) (by kernel_rfl) (by kernel_rfl) (fun _ _ _ h => h) (Or.inl ⟨by first | kernel_rfl | rfl, ?yb_2⟩) hHeld ?rb_2
    case yb_2 => (intro W hSW; (try dsimp only at hSW); go_simp; (try with_reducible rfl))
    change wpAnyH _ _ _ _ _ _ _ (Act.put _ (some 28) _) _
    simp only [Act.put, List.setIfInBounds_toArray, List.set_cons_zero, List.set_cons_succ]
    refine wpAnyH_take (i := 3) (v := ?vb_3) rfl (by kernel_rfl) (by kernel_rfl) (by kernel_rfl) (fun _ _ _ h => h) (Or.inl ⟨by first | kernel_rfl | rfl, ?yb_3⟩) hHeld ?rb_3
    case yb_3 => (intro W hSW; (try dsimp only at hSW); go_simp; (try with_reducible rfl))
    change wpAnyH _ _ _ _ _ _ _ (Act.put _ (some 29) _) _
    simp only [Act.put, List.setIfInBounds_toArray, List.set_cons_zero, List.set_cons_succ]
    refine wpAnyH_take (i := 4) (v := ?vb_4) rfl (by kernel_rfl) (by kernel_rfl) (by kernel_rfl) (fun _ _ _ h => h) (Or.inl ⟨by first | kernel_rfl | rfl, ?yb_4⟩) hHeld ?rb_4
    case yb_4 => (intro W hSW; (try dsimp only at hSW); go_simp; (try with_reducible rfl))
    change wpAnyH _ _ _ _ _ _ _ (Act.put _ (some 30) _) _
    simp only [Act.put, List.setIfInBounds_toArray, List.set_cons_zero, List.set_cons_succ]
    refine wpAnyH_take (i := 5) (v := ?vb_5) rfl (by kernel_rfl) (by kernel_rfl) (by kernel_rfl) (fun _ _ _ h => h) (Or.inl ⟨by first | kernel_rfl | rfl, ?yb_5⟩) hHeld ?rb_5
    case yb_5 => (intro W hSW; (try dsimp only at hSW); go_simp; (try with_reducible rfl))
    change wpAnyH _ _ _ _ _ _ _ (Act.put _ (some 31) _) _
    simp only [Act.put, List.setIfInBounds_toArray, List.set_cons_zero, List.set_cons_succ]
    refine wpAnyH_take (i := 6) (v := ?vb_6) rfl (by kernel_rfl) (by kernel_rfl) (by kernel_rfl) (fun _ _ _ h => h) (Or.inl ⟨by first | kernel_rfl | rfl, ?yb_6⟩) hHeld ?rb_6
    case yb_6 => (intro W hSW; (try dsimp only at hSW); go_simp; (try with_reducible rfl))
    change wpAnyH _ _ _ _ _ _ _ (Act.put _ (some 32) _) _
    simp only [Act.put, List.setIfInBounds_toArray, List.set_cons_zero, List.set_cons_succ]
    refine wpAnyH_take (i := 7) (v := undef) rfl (by kernel_rfl) (by kernel_rfl) (by kernel_rfl) (fun _ _ _ h => h) (Or.inr ⟨by first | kernel_rfl | rfl, rfl⟩) hHeld ?_
    change wpAnyH _ _ _ _ _ _ _ (Act.put _ (some 33) _) _
    simp only [Act.put, List.setIfInBounds_toArray, List.set_cons_zero, List.set_cons_succ]
    refine wpAnyH_take (i := 8) (v := undef) rfl (by kernel_rfl) (by kernel_rfl) (by kernel_rfl) (fun _ _ _ h => h) (Or.inr ⟨by first | kernel_rfl | rfl, rfl⟩) hHeld ?_
    change wpAnyH _ _ _ _ _ _ _ (Act.put _ (some 34) _) _
    simp only [Act.put, List.setIfInBounds_toArray, List.set_cons_zero, List.set_cons_succ]
    refine wpAnyH_take (i := 9) (v := undef) rfl (by kernel_rfl) (by kernel_rfl) (by kernel_rfl) (fun _ _ _ h => h) (Or.inr ⟨by first | kernel_rfl | rfl, rfl⟩) hHeld ?_
    change wpAnyH _ _ _ _ _ _ _ (Act.put _ (some 35) _) _
    simp only [Act.put, List.setIfInBounds_toArray, List.set_cons_zero, List.set_cons_succ]
    refine wpAnyH_take (i := 10) (v := undef) rfl (by kernel_rfl) (by kernel_rfl) (by kernel_rfl) (fun _ _ _ h => h) (Or.inr ⟨by first | kernel_rfl | rfl, rfl⟩) hHeld ?_
    change wpAnyH _ _ _ _ _ _ _ (Act.put _ (some 36) _) _
    simp only [Act.put, List.setIfInBounds_toArray, List.set_cons_zero, List.set_cons_succ]
    refine wpAnyH_take (i := 11) (v := undef) rfl (by kernel_rfl) (by kernel_rfl) (by kernel_rfl) (fun _ _ _ h => h) (Or.inr ⟨by first | kernel_rfl | rfl, rfl⟩) hHeld ?_
    change wpAnyH _ _ _ _ _ _ _ (Act.put _ (some 37) _) _
    simp only [Act.put, List.setIfInBounds_toArray, List.set_cons_zero, List.set_cons_succ]
    refine wpAnyH_take (i := 12) (v := undef) rfl (by kernel_rfl) (by kernel_rfl) (by kernel_rfl) (fun _ _ _ h => h) (Or.inr ⟨by first | kernel_rfl | rfl, rfl⟩) hHeld ?_
    change wpAnyH _ _ _ _ _ _ _ (Act.put _ (some 38) _) _
    simp only [Act.put, List.setIfInBounds_toArray, List.set_cons_zero, List.set_cons_succ]
    refine wpAnyH_take (i := 13) (v := undef) rfl (by kernel_rfl) (by kernel_rfl) (by kernel_rfl) (fun _ _ _ h => h) (Or.inr ⟨by first | kernel_rfl | rfl, rfl⟩) hHeld ?_
    change wpAnyH _ _ _ _ _ _ _ (Act.put _ (some 39) _) _
    simp only [Act.put, List.setIfInBounds_toArray, List.set_cons_zero, List.set_cons_succ]
    refine wpAnyH_take (i := 14) (v := undef) rfl (by kernel_rfl) (by kernel_rfl) (by kernel_rfl) (fun _ _ _ h => h) (Or.inr ⟨by first | kernel_rfl | rfl, rfl⟩) hHeld ?_
    change wpAnyH _ _ _ _ _ _ _ (Act.put _ (some 40) _) _
    simp only [Act.put, List.setIfInBounds_toArray, List.set_cons_zero, List.set_cons_succ]
    refine wpAnyH_take (i := 15) (v := undef) rfl (by kernel_rfl) (by kernel_rfl) (by kernel_rfl) (fun _ _ _ h => h) (Or.inr ⟨by first | kernel_rfl | rfl, rfl⟩) hHeld ?_
    change wpAnyH _ _ _ _ _ _ _ (Act.put _ (some 41) _) _
    simp only [Act.put, List.setIfInBounds_toArray, List.set_cons_zero, List.set_cons_succ]
    refine wpAnyH_take (i := 16) (v := undef) rfl (by kernel_rfl) (by kernel_rfl) (by kernel_rfl) (fun _ _ _ h => h) (Or.inr ⟨by first | kernel_rfl | rfl, rfl⟩) hHeld ?_
    change wpAnyH _ _ _ _ _ _ _ (Act.put _ (some 42) _) _
    simp only [Act.put, List.setIfInBounds_toArray, List.set_cons_zero, List.set_cons_succ]
    refine wpAnyH_take (i := 17) (v := undef) rfl (by kernel_rfl) (by kernel_rfl) (by kernel_rfl) (fun _ _ _ h => h) (Or.inr ⟨by first | kernel_rfl | rfl, rfl⟩) hHeld ?_
    change wpAnyH _ _ _ _ _ _ _ (Act.put _ (some 43) _) _
    simp only [Act.put, List.setIfInBounds_toArray, List.set_cons_zero, List.set_cons_succ]
    refine wpAnyH_take (i := 18) (v := undef) rfl (by kernel_rfl) (by kernel_rfl) (by kernel_rfl) (fun _ _ _ h => h) (Or.inr ⟨by first | kernel_rfl | rfl, rfl⟩) hHeld ?_
    change wpAnyH _ _ _ _ _ _ _ (Act.put _ (some 44) _) _
    simp only [Act.put, List.setIfInBounds_toArray, List.set_cons_zero, List.set_cons_succ]
    refine wpAnyH_take (i := 19) (v := undef) rfl (by kernel_rfl) (by kernel_rfl) (by kernel_rfl) (fun _ _ _ h => h) (Or.inr ⟨by first | kernel_rfl | rfl, rfl⟩) hHeld ?_
    change wpAnyH _ _ _ _ _ _ _ (Act.put _ (some 45) _) _
    simp only [Act.put, List.setIfInBounds_toArray, List.set_cons_zero, List.set_cons_succ]
    refine wpAnyH_take (i := 20) (v := undef) rfl (by kernel_rfl) (by kernel_rfl) (by kernel_rfl) (fun _ _ _ h => h) (Or.inr ⟨by first | kernel_rfl | rfl, rfl⟩) hHeld ?_
    change wpAnyH _ _ _ _ _ _ _ (Act.put _ (some 46) _) _
    simp only [Act.put, List.setIfInBounds_toArray, List.set_cons_zero, List.set_cons_succ]
    refine wpAnyH_take (i := 21) (v := undef) rfl (by kernel_rfl) (by kernel_rfl) (by kernel_rfl) (fun _ _ _ h => h) (Or.inr ⟨by first | kernel_rfl | rfl, rfl⟩) hHeld ?_
    change wpAnyH _ _ _ _ _ _ _ (Act.put _ (some 47) _) _
    simp only [Act.put, List.setIfInBounds_toArray, List.set_cons_zero, List.set_cons_succ]
    refine wpAnyH_take (i := 22) (v := undef) rfl (by kernel_rfl) (by kernel_rfl) (by kernel_rfl) (fun _ _ _ h => h) (Or.inr ⟨by first | kernel_rfl | rfl, rfl⟩) hHeld ?_
    change wpAnyH _ _ _ _ _ _ _ (Act.put _ (some 48) _) _
    simp only [Act.put, List.setIfInBounds_toArray, List.set_cons_zero, List.set_cons_succ]
    refine wpAnyH_take (i := 23) (v := undef) rfl (by kernel_rfl) (by kernel_rfl) (by kernel_rfl) (fun _ _ _ h => h) (Or.inr ⟨by first | kernel_rfl | rfl, rfl⟩) hHeld ?_
    change wpAnyH _ _ _ _ _ _ _ (Act.put _ (some 49) _) _
    simp only [Act.put, List.setIfInBounds_toArray, List.set_cons_zero, List.set_cons_succ]
    refine wpAnyH_take (i := 24) (v := undef) rfl (by kernel_rfl) (by kernel_rfl) (by kernel_rfl) (fun _ _ _ h => h) (Or.inr ⟨by first | kernel_rfl | rfl, rfl⟩) hHeld ?_
    change wpAnyH _ _ _ _ _ _ _ (Act.put _ (some 50) _) _
    simp only [Act.put, List.setIfInBounds_toArray, List.set_cons_zero, List.set_cons_succ]
    refine wpAnyH_take (i := 25) (v := ?vb_25) rfl (by kernel_rfl) (by kernel_rfl) (by kernel_rfl) (fun _ _ _ h => h) (Or.inl ⟨by first | kernel_rfl | rfl, ?yb_25⟩) hHeld ?rb_25
    case yb_25 => (intro W hSW; (try dsimp only at hSW); go_simp; (try with_reducible rfl))
    change wpAnyH _ _ _ _ _ _ _ (Act.put _ (some 51) _) _
    simp only [Act.put, List.setIfInBounds_toArray, List.set_cons_zero, List.set_cons_succ]
    refine wpAnyH_take (i := 26) (v := ?vb_26) rfl (by kernel_rfl) (by kernel_rfl) (by kernel_rfl) (fun _ _ _ h => h) (Or.inl ⟨by first | kernel_rfl | rfl, ?yb_26⟩) hHeld ?rb_26
    case yb_26 => (intro W hSW; (try dsimp only at hSW); go_simp; (try with_reducible rfl))
    change wpAnyH _ _ _ _ _ _ _ (Act.put _ (some 52) _) _
    simp only [Act.put, List.setIfInBounds_toArray, List.set_cons_zero, List.set_cons_succ]
    refine wpAnyH_take (i := 27) (v := ?vb_27) rfl (by kernel_rfl) (by kernel_rfl) (by kernel_rfl) (fun _ _ _ h => h) (Or.inl ⟨by first | kernel_rfl | rfl, ?yb_27⟩) hHeld ?rb_27
    case yb_27 => (intro W hSW; (try dsimp only at hSW); go_simp; (try with_reducible rfl))
    change wpAnyH _ _ _ _ _ _ _ (Act.put _ (some 53) _) _
    simp only [Act.put, List.setIfInBounds_toArray, List.set_cons_zero, List.set_cons_succ]
    refine wpAnyH_take (i := 28) (v := ?vb_28) rfl (by kernel_rfl) (by kernel_rfl) (by kernel_rfl) (fun _ _ _ h => h) (Or.inl ⟨by first | kernel_rfl | rfl, ?yb_28⟩) hHeld ?rb_28
    case yb_28 => (intro W hSW; (try dsimp only at hSW); go_simp; (try with_reducible rfl))
    change wpAnyH _ _ _ _ _ _ _ (Act.put _ (some 54) _) _
    simp only [Act.put, List.setIfInBounds_toArray, List.set_cons_zero, List.set_cons_succ]
    refine wpAnyH_take (i := 29) (v := ?vb_29) rfl (by kernel_rfl) (by kernel_rfl) (by kernel_rfl) (fun _ _ _ h => h) (Or.inl ⟨by first | kernel_rfl | rfl, ?yb_29⟩) hHeld ?rb_29
    case yb_29 => (intro W hSW; (try dsimp only at hSW); go_simp; (try with_reducible rfl))
    change wpAnyH _ _ _ _ _ _ _ (Act.put _ (some 55) _) _
    simp only [Act.put, List.setIfInBounds_toArray, List.set_cons_zero, List.set_cons_succ]
    refine wpAnyH_take (i := 30) (v := ?vb_30) rfl (by kernel_rfl) (by kernel_rfl) (by kernel_rfl) (fun _ _ _ h => h) (Or.inl ⟨by first | kernel_rfl | rfl, ?yb_30⟩) hHeld ?rb_30
    case yb_30 => (intro W hSW; (try dsimp only at hSW); go_simp; (try with_reducible rfl))
    change wpAnyH _ _ _ _ _ _ _ (Act.put _ (some 56) _) _
    simp only [Act.put, List.setIfInBounds_toArray, List.set_cons_zero, List.set_cons_succ]
    refine wpAnyH_take (i := 31) (v := ?vb_31) rfl (by kernel_rfl) (by kernel_rfl) (by kernel_rfl) (fun _ _ _ h => h) (Or.inl ⟨by first | kernel_rfl | rfl, ?yb_31⟩) hHeld ?rb_31
    case yb_31 => (intro W hSW; (try dsimp only at hSW); go_simp; (try with_reducible rfl))
    change wpAnyH _ _ _ _ _ _ _ (Act.put _ (some 57) _) _
    simp only [Act.put, List.setIfInBounds_toArray, List.set_cons_zero, List.set_cons_succ]
    refine wpAnyH_take (i := 32) (v := ?vb_32) rfl (by kernel_rfl) (by kernel_rfl) (by kernel_rfl) (fun _ _ _ h => h) (Or.inl ⟨by first | kernel_rfl | rfl, ?yb_32⟩) hHeld ?rb_32
    case yb_32 => (intro W hSW; (try dsimp only at hSW); go_simp; (try with_reducible rfl))
    change wpAnyH _ _ _ _ _ _ _ (Act.put _ (some 58) _) _
    simp only [Act.put, List.setIfInBounds_toArray, List.set_cons_zero, List.set_cons_succ]
    refine wpAnyH_take (i := 33) (v := ?vb_33) rfl (by kernel_rfl) (by kernel_rfl) (by kernel_rfl) (fun _ _ _ h => h) (Or.inl ⟨by first | kernel_rfl | rfl, ?yb_33⟩) hHeld ?rb_33
    case yb_33 => (intro W hSW; (try dsimp only at hSW); go_simp; (try with_reducible rfl))
    change wpAnyH _ _ _ _ _ _ _ (Act.put _ (some 59) _) _
    simp only [Act.put, List.setIfInBounds_toArray, List.set_cons_zero, List.set_cons_succ]
    refine wpAnyH_take (i := 34) (v := ?vb_34) rfl (by kernel_rfl) (by kernel_rfl) (by kernel_rfl) (fun _ _ _ h => h) (Or.inl ⟨by first | kernel_rfl | rfl, ?yb_34⟩) hHeld ?rb_34
    case yb_34 => (intro W hSW; (try dsimp only at hSW); go_simp; (try with_reducible rfl))
    change wpAnyH _ _ _ _ _ _ _ (Act.put _ (some 60) _) _
    simp only [Act.put, List.setIfInBounds_toArray, List.set_cons_zero, List.set_cons_succ]
    refine wpAnyH_take (i := 35) (v := ?vb_35) rfl (by kernel_rfl) (by kernel_rfl) (by kernel_rfl) (fun _ _ _ h => h) (Or.inl ⟨by first | kernel_rfl | rfl, ?yb_35⟩) hHeld ?rb_35
    case yb_35 => (intro W hSW; (try dsimp only at hSW); go_simp; (try with_reducible rfl))
    change wpAnyH _ _ _ _ _ _ _ (Act.put _ (some 61) _) _
    simp only [Act.put, List.setIfInBounds_toArray, List.set_cons_zero, List.set_cons_succ]
    refine wpAnyH_ready (rs := [36]) (by kernel_rfl) (by simp) ?_
    refine AllReadyH.cons rfl (fun K hK => ?_) AllReadyH.nil
    go_simp
    refine (HRF.out V2.drew (Below.refl _ V2).drew).mono ?_
    rintro e V3 ⟨rfl, hb3⟩
    refine hK.out _ _ (HC.out V3 ((Below.refl _ V2).drew.trans hb3)) (fun hHeld => ?_)
    clear hK K
    try simp only [Act.put, List.setIfInBounds_toArray, List.set_cons_zero, List.set_cons_succ]
    refine wpAnyH_take (i := 37) (v := ?vb_37) rfl (by kernel_rfl) (by kernel_rfl) (by kernel_rfl) (fun _ _ _ h => h) (Or.inl ⟨by first | kernel_rfl | rfl, ?yb_37⟩) hHeld ?rb_37
    case yb_37 => (intro W hSW; (try dsimp only at hSW); go_simp; (try with_reducible rfl))
    change wpAnyH _ _ _ _ _ _ _ (Act.put _ (some 63) _) _
    simp only [Act.put, List.setIfInBounds_toArray, List.set_cons_zero, List.set_cons_succ]
    refine wpAnyH_take (i := 38) (v := ?vb_38) rfl (by kernel_rfl) (by kernel_rfl) (by kernel_rfl) (fun _ _ _ h => h) (Or.inl ⟨by first | kernel_rfl | rfl, ?yb_38⟩) hHeld ?rb_38
    case yb_38 => (intro W hSW; (try dsimp only at hSW); go_simp; (try with_reducible rfl))
    change wpAnyH _ _ _ _ _ _ _ (Act.put _ (some 64) _) _
    simp only [Act.put, List.setIfInBounds_toArray, List.set_cons_zero, List.set_cons_succ]
    refine wpAnyH_take (i := 39) (v := ?vb_39) rfl (by kernel_rfl) (by kernel_rfl) (by kernel_rfl) (fun _ _ _ h => h) (Or.inl ⟨by first | kernel_rfl | rfl, ?yb_39⟩) hHeld ?rb_39
    case yb_39 => (intro W hSW; (try dsimp only at hSW); go_simp; (try with_reducible rfl))
    change wpAnyH _ _ _ _ _ _ _ (Act.put _ (some 65) _) _
    simp only [Act.put, List.setIfInBounds_toArray, List.set_cons_zero, List.set_cons_succ]
    refine wpAnyH_take (i := 40) (v := ?vb_40) rfl (by kernel_rfl) (by kernel_rfl) (by kernel_rfl) (fun _ _ _ h => h) (Or.inl ⟨by first | kernel_rfl | rfl, ?yb_40⟩) hHeld ?rb_40
    case yb_40 => (intro W hSW; (try dsimp only at hSW); go_simp; (try with_reducible rfl))
    change wpAnyH _ _ _ _ _ _ _ (Act.put _ (some 66) _) _
    simp only [Act.put, List.setIfInBounds_toArray, List.set_cons_zero, List.set_cons_succ]
    refine wpAnyH_done (by kernel_rfl) ?_ _
    have HD3 : Hid (Below W1.heap.size W1 V3) := (HV2.out).trans (((Below.refl _ V2).drew.trans hb3).mono HV2.out.size)
    clear hb3
    go_wp2_with fail
    refine (HCO.out V3 HD3.out).mono ?_
    rintro e V4 ⟨rfl, hb4⟩
    have HD4 : Hid (Below W1.heap.size W1 V4) := HD3.out.trans (hb4.mono HD3.out.size)
    clear hb4
    go_wp2_with fail
    refine (HRC.out V4 HD4.out).mono ?_
    rintro e V5 ⟨rfl, rfl⟩
    obtain ⟨u0, u1⟩ := HC1.out V5 HD4.out
    by_cases hs : s.size = W
    · have ks : ((s.size : Int) == (W : Int)) = true := by simp; omega
      have ks2 : (s.size : Int) = (W : Int) := by omega
      have HF1 := HFI.out.1 hs
      clear hs
      go_wp2_with fail
      refine (HRF2.out V5 HD4.out).mono ?_
      rintro e V6 ⟨fa, fn, fc, rfl, hof, hb6⟩
      have HD6 : Hid (Below W1.heap.size W1 V6) := HD4.out.trans (hb6.mono HD4.out.size)
      have HIW : Hid (Iw (fun _ => True) V6 fa fn fc (idsF L s 256)) := Rw.own hof (fun _ _ => trivial)
      clear hof hb6
      obtain ⟨u2, u3⟩ := HC1.out V6 HD6.out
      go_wp2_with fail
      refine (HF1 V6 HD6.out).mono ?_
      rintro e V7 ⟨ga, gn, gc, rfl, hog, hb7⟩
      have HSI := (sameids_any (Rw.own hog (fun _ _ => trivial) : Iw (fun _ => True) V7 ga gn gc (idsF L s 256)) (HIW.out.below hb7))
      have HD7 : Hid (Below W1.heap.size W1 V7) := HD6.out.trans (hb7.mono HD6.out.size)
      rw [decide_eq_true rfl] at HSI
      clear hog hb7
      go_wp2_with fail
      refine HSI.mono ?_
      rintro e V8 ⟨rfl, hb8⟩
      have HEN : Hid (AlTo w (.returned (.bool true)) V8) := ⟨rfl, HH.out.trans ((HD7.out.trans (hb8.mono HD7.out.size)).mono HH.out.size)⟩
      clear hb8 HSI
      go_wp2
      go_ret
      exact HEN.out
    · have ks : ((s.size : Int) == (W : Int)) = false := by simp; omega
      have ks2 : ¬ (s.size : Int) = (W : Int) := by omega
      have HF1 := HFI.out.2 hs
      clear hs
      go_wp2_with fail
      refine (HF1 V5 HD4.out).mono ?_
      rintro e V7 ⟨ga, gn, gc, rfl, hog, hb7⟩
      have HSI := (sameids_any (Rw.own hog (fun _ _ => trivial) : Iw (fun _ => True) V7 ga gn gc []) (Rw.own (show V7.ownsRow V7.heap.size 35 2 (.slice none 0 0) 0 (idR []) from World.ownsRow_nil _ _ _ _) (fun _ _ => trivial) : Iw (fun _ => True) V7 none 0 0 []))
      have HD7 : Hid (Below W1.heap.size W1 V7) := HD4.out.trans (hb7.mono HD4.out.size)
      rw [decide_eq_true rfl] at HSI
      clear hog hb7
      go_wp2_with fail
      refine HSI.mono ?_
      rintro e V8 ⟨rfl, hb8⟩
      have HEN : Hid (AlTo w (.returned (.bool true)) V8) := ⟨rfl, HH.out.trans ((HD7.out.trans (hb8.mono HD7.out.size)).mono HH.out.size)⟩
      clear hb8 HSI
      go_wp2
      go_ret
      exact HEN.out
end
end Go.Proofs.YtjpkngbjjgimjaaDoor
