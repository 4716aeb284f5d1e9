/- The law of nil stores. -/
import Derived.Test.YtjpkngbjjgimjaaDoorKN
import Derived.Test.YtjpkngbjjgimjaaDoorCards
import Derived.Test.YtjpkngbjjgimjaaDoorTie
import Derived.WalkKit
import Derived.ProofKit
import Derived.OpenShut
import Derived.ShutString
import Derived.ChangeOld
import Derived.Below
import Derived.LaidMore
import Derived.Stop.Joined
import Derived.SevenTiedAt
namespace Go.Proofs.YtjpkngbjjgimjaaDoor.casNils
open Go.ChangeShapes Go.WideShapes Go.ChangeAt Go.WideMaps Go.WideElems Go.RowKit
open Go.ChangeMaps (open_string shut_string)

set_option maxRecDepth 100000 in
set_option maxHeartbeats 2000000 in
theorem walk (x0 : Int) (_z0 : -9223372036854775808 ≤ x0 ∧ x0 ≤ 9223372036854775807) (s1 : ByteArray) (n1 : Int) (z1 : s1.size ≤ 140737488351232) (_u1 : -9223372036854775808 ≤ n1 ∧ n1 ≤ 9223372036854775807) (s2 : ByteArray) (z2 : s2.size ≤ 140737488351232) (w : World)  (hL : Laid w) :
    Calls Tryd.prog 8 #[.int .i64 x0, .agg #[.string s1, .int .i64 n1], .string s2] w fun e w' => e = .returned (.bool true) ∧ Below w.heap.size w w' := by
  obtain ⟨W1, hW1⟩ : ∃ W1, w.alloc (.cells #[.string s1, .int .i64 n1] 35) = W1 := ⟨_, rfl⟩
  obtain ⟨ib, hib⟩ : ∃ ib, w.heap.size = ib := ⟨_, rfl⟩
  have r1 : W1.heap[ib]? = some (.cells #[.string s1, .int .i64 n1] 35 (0, 0)) := by rw [← hW1, ← hib]; exact heap_alloc_new w _
  have hb1 : Below w.heap.size w W1 := by rw [← hW1]; exact (Below.refl _ w).alloc (Nat.le_refl _) _
  have c0 : W1.cell? ⟨ib, 0, none⟩ = some (.string s1) := by rw [cell_of_row _ _ _ _ _ _ r1]; rfl
  have c1 : W1.cell? ⟨ib, 1, none⟩ = some (.int .i64 n1) := by rw [cell_of_row _ _ _ _ _ _ r1]; rfl
  by_cases h3 : 1000 < s2.size + s1.size
  · have hi : (1000 : Int) < (s2.size : Int) + (s1.size : Int) := by omega
    have HLV : Calls Tryd.prog 10 #[] W1 fun e w' => e = .returned (.bool true) ∧ Below W1.heap.size W1 w' := lives_any W1 (hL.below hb1)
    have HB1 : Hid (Below w.heap.size w W1) := hb1
    clear hL r1 hb1
    go_enter Tryd.func8, Tryd.ntmps8
    go_wp2_with fail
    refine HLV.mono ?_
    rintro e V ⟨rfl, hb⟩
    go_wp2
    go_ret
    exact ⟨rfl, HB1.out.trans (hb.mono HB1.out.size)⟩
  · have hi : ¬ (1000 : Int) < (s2.size : Int) + (s1.size : Int) := by omega
    have HN := new_no .nilIface x0 W1 (.inl rfl) (.inl rfl)
    have HP := put_id_nil s2 W1
    have HB1 : Hid (Below w.heap.size w W1 ∧ Laid w ∧ W1.heap[ib]? = some (.cells #[.string s1, .int .i64 n1] 35 (0, 0)) ∧ w.heap.size = ib) := ⟨hb1, hL, r1, hib⟩
    clear hL r1 hb1
    go_enter Tryd.func8, Tryd.ntmps8
    go_wp2_with fail
    refine HN.mono ?_
    rintro e V ⟨rfl, hV⟩
    subst V
    clear hib hW1
    go_wp2_with fail
    refine HP.mono ?_
    rintro e V1 ⟨rfl, hb1⟩
    obtain ⟨V2, hV2⟩ : ∃ V2, V1.alloc (.cells #[.string ⟨#[]⟩, .int .i64 0] 35) = V2 := ⟨_, rfl⟩
    obtain ⟨pb, hpb⟩ : ∃ pb, V1.heap.size = pb := ⟨_, rfl⟩
    have r2 : V2.heap[pb]? = some (.cells #[.string ⟨#[]⟩, .int .i64 0] 35 (0, 0)) := by rw [← hV2, ← hpb]; exact heap_alloc_new V1 _
    have hb2 : Below V1.heap.size V1 V2 := by rw [← hV2]; exact (Below.refl _ V1).alloc (Nat.le_refl _) _
    have r2i : V2.heap[ib]? = some (.cells #[.string s1, .int .i64 n1] 35 (0, 0)) := (hb2.block ib (by have := lt_of_some HB1.out.2.2.1; have := hb1.size; omega)).trans ((hb1.block ib (lt_of_some HB1.out.2.2.1)).trans HB1.out.2.2.1)
    have c0 : V2.cell? ⟨ib, 0, none⟩ = some (.string s1) := by rw [cell_of_row _ _ _ _ _ _ r2i]; rfl
    have c1 : V2.cell? ⟨ib, 1, none⟩ = some (.int .i64 n1) := by rw [cell_of_row _ _ _ _ _ _ r2i]; rfl
    rw [← hV2] at c0 c1
    have hbw2 : Below w.heap.size w V2 := by
      have h5 := HB1.out.1.trans (hb1.mono HB1.out.1.size)
      exact h5.trans (hb2.mono h5.size)
    have HG := get_of none s1 n1 none V2 (fun V _ => look_nil s1 n1 V)
    rw [← hV2] at HG
    have HG : Calls Tryd.prog 21 #[.pointer none, .agg #[.string s1, .int .i64 n1]] (V1.alloc (.cells #[.string ⟨#[]⟩, .int .i64 0] 35)) fun e w' => e = .returned (.tuple #[.string ⟨#[]⟩, .bool false]) ∧ Below (V1.alloc (.cells #[.string ⟨#[]⟩, .int .i64 0] 35)).heap.size (V1.alloc (.cells #[.string ⟨#[]⟩, .int .i64 0] 35)) w' := HG
    have H2 : Hid (V1.alloc (.cells #[.string ⟨#[]⟩, .int .i64 0] 35) = V2 ∧ V2.heap[pb]? = some (.cells #[.string ⟨#[]⟩, .int .i64 0] 35 (0, 0)) ∧ V2.heap[ib]? = some (.cells #[.string s1, .int .i64 n1] 35 (0, 0)) ∧ Below w.heap.size w V2) := ⟨hV2, r2, r2i, hbw2⟩
    clear HN HP hb1 hb2 r2 r2i hV2 hbw2
    go_wp2_with fail
    refine HG.mono ?_
    rintro e V3 ⟨rfl, hb3⟩
    rw [H2.out.1] at hb3
    have HBW : Hid (Below w.heap.size w V3) := H2.out.2.2.2.trans (hb3.mono H2.out.2.2.2.size)
    have r3 : V3.heap[pb]? = some (.cells #[.string ⟨#[]⟩, .int .i64 0] 35 (0, 0)) := (hb3.block pb (lt_of_some H2.out.2.1)).trans H2.out.2.1
    have r3i : V3.heap[ib]? = some (.cells #[.string s1, .int .i64 n1] 35 (0, 0)) := (hb3.block ib (lt_of_some H2.out.2.2.1)).trans H2.out.2.2.1
    have HSC : Hid (∀ V, Below V3.heap.size V3 V → V.cell? ⟨ib, 0, none⟩ = some (.string s1) ∧ V.cell? ⟨ib, 1, none⟩ = some (.int .i64 n1) ∧ V.cell? ⟨pb, 0, none⟩ = some (.string ⟨#[]⟩) ∧ V.cell? ⟨pb, 1, none⟩ = some (.int .i64 0)) := by
      intro V hV
      have e1 := (hV.block ib (lt_of_some r3i)).trans r3i
      have e2 := (hV.block pb (lt_of_some r3)).trans r3
      exact ⟨by rw [cell_of_row _ _ _ _ _ _ e1]; rfl, by rw [cell_of_row _ _ _ _ _ _ e1]; rfl, by rw [cell_of_row _ _ _ _ _ _ e2]; rfl, by rw [cell_of_row _ _ _ _ _ _ e2]; rfl⟩
    have HC := count_nil V3
    have HAG : Hid (∀ V, Calls Tryd.prog 16 #[.pointer none, .agg #[.string s1, .int .i64 n1]] V fun e w' => e = .returned (.int .i64 1) ∧ Below V.heap.size V w') := fun V => again_nil s1 n1 V
    have HTK : Hid (∀ V, Calls Tryd.prog 17 #[.pointer none, .agg #[.string s1, .int .i64 n1]] V fun e w' => e = .returned (.int .i64 1) ∧ Below V.heap.size V w') := fun V => take_nil s1 n1 V
    have HRF : Hid (∀ V, Calls Tryd.prog 22 #[.pointer none, .agg #[.string s1, .int .i64 n1]] V fun e w' => e = .returned (.int .i64 0) ∧ Below V.heap.size V w') := fun V => refs_of none s1 n1 none V (by simp [refsOf]) (fun V _ => look_nil s1 n1 V)
    have HFI : Hid (∀ V, Calls Tryd.prog 24 #[.pointer none, .string s1] V fun e w' => e = .returned (.slice none 0 0) ∧ w' = V) := fun V => find_nil s1 V
    have HDG : Hid (∀ V, Calls Tryd.prog 19 #[.pointer none, .string s2] V fun e w' => e = .returned (.string ⟨#[]⟩) ∧ w' = V) := fun V => digest_none s2 V
    have HLV : Hid (∀ V, Below V3.heap.size V3 V → Calls Tryd.prog 10 #[] V fun e w' => e = .returned (.bool true) ∧ Below V.heap.size V w') := fun V hV => lives_any V (HB1.out.2.1.below (HBW.out.trans (hV.mono HBW.out.size)))
    have HEQ : ∀ V, (Op.equalIn 10000 35 (.agg #[.string ⟨#[]⟩, .int .i64 0]) (.agg #[.string ⟨#[]⟩, .int .i64 0])).run Tryd.prog V = .ok true V := fun V => by
      have := eqin_id ⟨#[]⟩ ⟨#[]⟩ 0 0 V
      simpa using this
    clear HG hb3 r3 r3i hpb c0 c1
    go_wp2_with fail
    refine HC.mono ?_
    rintro e V4 ⟨rfl, hV4⟩
    subst V4
    clear HC
    go_wp2_with fail
    refine wp_region_held_drew (S := fun V => V.cell? ⟨ib, 0, none⟩ = some (.string s1) ∧ V.cell? ⟨ib, 1, none⟩ = some (.int .i64 n1) ∧ V.cell? ⟨pb, 0, none⟩ = some (.string ⟨#[]⟩) ∧ V.cell? ⟨pb, 1, none⟩ = some (.int .i64 0)) (by kernel_rfl) (HSC.out _ (Below.refl _ V3).drew) (fun hHeld => ?_)
    refine wpAnyH_take (i := 0) (v := ?vq0) rfl (by kernel_rfl) (by kernel_rfl) (by kernel_rfl) (fun _ _ _ h => h) (Or.inl ⟨by first | kernel_rfl | rfl, ?yq0⟩) hHeld ?rq0
    case yq0 => (intro W hSW; (try dsimp only at hSW); go_simp; (try with_reducible rfl))
    change wpAnyH _ _ _ _ _ _ _ (Act.put _ (some 46) _) _
    simp only [Act.put, List.setIfInBounds_toArray, List.set_cons_zero, List.set_cons_succ]
    refine wpAnyH_take (i := 1) (v := ?vq1) rfl (by kernel_rfl) (by kernel_rfl) (by kernel_rfl) (fun _ _ _ h => h) (Or.inl ⟨by first | kernel_rfl | rfl, ?yq1⟩) hHeld ?rq1
    case yq1 => (intro W hSW; (try dsimp only at hSW); go_simp; (try with_reducible rfl))
    change wpAnyH _ _ _ _ _ _ _ (Act.put _ (some 47) _) _
    simp only [Act.put, List.setIfInBounds_toArray, List.set_cons_zero, List.set_cons_succ]
    refine wpAnyH_take (i := 2) (v := ?vq2) rfl (by kernel_rfl) (by kernel_rfl) (by kernel_rfl) (fun _ _ _ h => h) (Or.inl ⟨by first | kernel_rfl | rfl, ?yq2⟩) hHeld ?rq2
    case yq2 => (intro W hSW; (try dsimp only at hSW); go_simp; (try with_reducible rfl))
    change wpAnyH _ _ _ _ _ _ _ (Act.put _ (some 48) _) _
    simp only [Act.put, List.setIfInBounds_toArray, List.set_cons_zero, List.set_cons_succ]
    refine wpAnyH_take (i := 3) (v := ?vq3) rfl (by kernel_rfl) (by kernel_rfl) (by kernel_rfl) (fun _ _ _ h => h) (Or.inl ⟨by first | kernel_rfl | rfl, ?yq3⟩) hHeld ?rq3
    case yq3 => (intro W hSW; (try dsimp only at hSW); go_simp; (try with_reducible rfl))
    change wpAnyH _ _ _ _ _ _ _ (Act.put _ (some 49) _) _
    simp only [Act.put, List.setIfInBounds_toArray, List.set_cons_zero, List.set_cons_succ]
    refine wpAnyH_take (i := 4) (v := ?vq4) rfl (by kernel_rfl) (by kernel_rfl) (by kernel_rfl) (fun _ _ _ h => h) (Or.inl ⟨by first | kernel_rfl | rfl, ?yq4⟩) hHeld ?rq4
    case yq4 => (intro W hSW; (try dsimp only at hSW); go_simp; (try with_reducible rfl))
    change wpAnyH _ _ _ _ _ _ _ (Act.put _ (some 50) _) _
    simp only [Act.put, List.setIfInBounds_toArray, List.set_cons_zero, List.set_cons_succ]
    refine wpAnyH_take (i := 5) (v := ?vq5) rfl (by kernel_rfl) (by kernel_rfl) (by kernel_rfl) (fun _ _ _ h => h) (Or.inl ⟨by first | kernel_rfl | rfl, ?yq5⟩) hHeld ?rq5
    case yq5 => (intro W hSW; (try dsimp only at hSW); go_simp; (try with_reducible rfl))
    change wpAnyH _ _ _ _ _ _ _ (Act.put _ (some 51) _) _
    simp only [Act.put, List.setIfInBounds_toArray, List.set_cons_zero, List.set_cons_succ]
    refine wpAnyH_take (i := 6) (v := ?vq6) rfl (by kernel_rfl) (by kernel_rfl) (by kernel_rfl) (fun _ _ _ h => h) (Or.inl ⟨by first | kernel_rfl | rfl, ?yq6⟩) hHeld ?rq6
    case yq6 => (intro W hSW; (try dsimp only at hSW); go_simp; (try with_reducible rfl))
    change wpAnyH _ _ _ _ _ _ _ (Act.put _ (some 52) _) _
    simp only [Act.put, List.setIfInBounds_toArray, List.set_cons_zero, List.set_cons_succ]
    refine wpAnyH_take (i := 7) (v := ?vq7) rfl (by kernel_rfl) (by kernel_rfl) (by kernel_rfl) (fun _ _ _ h => h) (Or.inl ⟨by first | kernel_rfl | rfl, ?yq7⟩) hHeld ?rq7
    case yq7 => (intro W hSW; (try dsimp only at hSW); go_simp; (try with_reducible rfl))
    change wpAnyH _ _ _ _ _ _ _ (Act.put _ (some 53) _) _
    simp only [Act.put, List.setIfInBounds_toArray, List.set_cons_zero, List.set_cons_succ]
    refine wpAnyH_take (i := 8) (v := ?vq8) rfl (by kernel_rfl) (by kernel_rfl) (by kernel_rfl) (fun _ _ _ h => h) (Or.inl ⟨by first | kernel_rfl | rfl, ?yq8⟩) hHeld ?rq8
    case yq8 => (intro W hSW; (try dsimp only at hSW); go_simp; (try with_reducible rfl))
    change wpAnyH _ _ _ _ _ _ _ (Act.put _ (some 54) _) _
    simp only [Act.put, List.setIfInBounds_toArray, List.set_cons_zero, List.set_cons_succ]
    refine wpAnyH_take (i := 9) (v := ?vq9) rfl (by kernel_rfl) (by kernel_rfl) (by kernel_rfl) (fun _ _ _ h => h) (Or.inl ⟨by first | kernel_rfl | rfl, ?yq9⟩) hHeld ?rq9
    case yq9 => (intro W hSW; (try dsimp only at hSW); go_simp; (try with_reducible rfl))
    change wpAnyH _ _ _ _ _ _ _ (Act.put _ (some 55) _) _
    simp only [Act.put, List.setIfInBounds_toArray, List.set_cons_zero, List.set_cons_succ]
    refine wpAnyH_take (i := 10) (v := ?vq10) rfl (by kernel_rfl) (by kernel_rfl) (by kernel_rfl) (fun _ _ _ h => h) (Or.inl ⟨by first | kernel_rfl | rfl, ?yq10⟩) hHeld ?rq10
    case yq10 => (intro W hSW; (try dsimp only at hSW); go_simp; (try with_reducible rfl))
    change wpAnyH _ _ _ _ _ _ _ (Act.put _ (some 56) _) _
    simp only [Act.put, List.setIfInBounds_toArray, List.set_cons_zero, List.set_cons_succ]
    refine wpAnyH_take (i := 11) (v := ?vq11) rfl (by kernel_rfl) (by kernel_rfl) (by kernel_rfl) (fun _ _ _ h => h) (Or.inl ⟨by first | kernel_rfl | rfl, ?yq11⟩) hHeld ?rq11
    case yq11 => (intro W hSW; (try dsimp only at hSW); go_simp; (try with_reducible rfl))
    change wpAnyH _ _ _ _ _ _ _ (Act.put _ (some 57) _) _
    simp only [Act.put, List.setIfInBounds_toArray, List.set_cons_zero, List.set_cons_succ]
    refine wpAnyH_take (i := 12) (v := ?vq12) rfl (by kernel_rfl) (by kernel_rfl) (by kernel_rfl) (fun _ _ _ h => h) (Or.inl ⟨by first | kernel_rfl | rfl, ?yq12⟩) hHeld ?rq12
    case yq12 => (intro W hSW; (try dsimp only at hSW); go_simp; (try with_reducible rfl))
    change wpAnyH _ _ _ _ _ _ _ (Act.put _ (some 58) _) _
    simp only [Act.put, List.setIfInBounds_toArray, List.set_cons_zero, List.set_cons_succ]
    refine wpAnyH_take (i := 13) (v := ?vq13) rfl (by kernel_rfl) (by kernel_rfl) (by kernel_rfl) (fun _ _ _ h => h) (Or.inl ⟨by first | kernel_rfl | rfl, ?yq13⟩) hHeld ?rq13
    case yq13 => (intro W hSW; (try dsimp only at hSW); go_simp; (try with_reducible rfl))
    change wpAnyH _ _ _ _ _ _ _ (Act.put _ (some 59) _) _
    simp only [Act.put, List.setIfInBounds_toArray, List.set_cons_zero, List.set_cons_succ]
    refine wpAnyH_take (i := 14) (v := ?vq14) rfl (by kernel_rfl) (by kernel_rfl) (by kernel_rfl) (fun _ _ _ h => h) (Or.inl ⟨by first | kernel_rfl | rfl, ?yq14⟩) hHeld ?rq14
    case yq14 => (intro W hSW; (try dsimp only at hSW); go_simp; (try with_reducible rfl))
    change wpAnyH _ _ _ _ _ _ _ (Act.put _ (some 60) _) _
    simp only [Act.put, List.setIfInBounds_toArray, List.set_cons_zero, List.set_cons_succ]
    refine wpAnyH_take (i := 15) (v := ?vq15) rfl (by kernel_rfl) (by kernel_rfl) (by kernel_rfl) (fun _ _ _ h => h) (Or.inl ⟨by first | kernel_rfl | rfl, ?yq15⟩) hHeld ?rq15
    case yq15 => (intro W hSW; (try dsimp only at hSW); go_simp; (try with_reducible rfl))
    change wpAnyH _ _ _ _ _ _ _ (Act.put _ (some 61) _) _
    simp only [Act.put, List.setIfInBounds_toArray, List.set_cons_zero, List.set_cons_succ]
    refine wpAnyH_take (i := 16) (v := ?vq16) rfl (by kernel_rfl) (by kernel_rfl) (by kernel_rfl) (fun _ _ _ h => h) (Or.inl ⟨by first | kernel_rfl | rfl, ?yq16⟩) hHeld ?rq16
    case yq16 => (intro W hSW; (try dsimp only at hSW); go_simp; (try with_reducible rfl))
    change wpAnyH _ _ _ _ _ _ _ (Act.put _ (some 62) _) _
    simp only [Act.put, List.setIfInBounds_toArray, List.set_cons_zero, List.set_cons_succ]
    refine wpAnyH_take (i := 17) (v := ?vq17) rfl (by kernel_rfl) (by kernel_rfl) (by kernel_rfl) (fun _ _ _ h => h) (Or.inl ⟨by first | kernel_rfl | rfl, ?yq17⟩) hHeld ?rq17
    case yq17 => (intro W hSW; (try dsimp only at hSW); go_simp; (try with_reducible rfl))
    change wpAnyH _ _ _ _ _ _ _ (Act.put _ (some 63) _) _
    simp only [Act.put, List.setIfInBounds_toArray, List.set_cons_zero, List.set_cons_succ]
    refine wpAnyH_take (i := 18) (v := ?vq18) rfl (by kernel_rfl) (by kernel_rfl) (by kernel_rfl) (fun _ _ _ h => h) (Or.inl ⟨by first | kernel_rfl | rfl, ?yq18⟩) hHeld ?rq18
    case yq18 => (intro W hSW; (try dsimp only at hSW); go_simp; (try with_reducible rfl))
    change wpAnyH _ _ _ _ _ _ _ (Act.put _ (some 64) _) _
    simp only [Act.put, List.setIfInBounds_toArray, List.set_cons_zero, List.set_cons_succ]
    refine wpAnyH_take (i := 19) (v := ?vq19) rfl (by kernel_rfl) (by kernel_rfl) (by kernel_rfl) (fun _ _ _ h => h) (Or.inl ⟨by first | kernel_rfl | rfl, ?yq19⟩) hHeld ?rq19
    case yq19 => (intro W hSW; (try dsimp only at hSW); go_simp; (try with_reducible rfl))
    change wpAnyH _ _ _ _ _ _ _ (Act.put _ (some 65) _) _
    simp only [Act.put, List.setIfInBounds_toArray, List.set_cons_zero, List.set_cons_succ]
    refine wpAnyH_take (i := 20) (v := ?vq20) rfl (by kernel_rfl) (by kernel_rfl) (by kernel_rfl) (fun _ _ _ h => h) (Or.inl ⟨by first | kernel_rfl | rfl, ?yq20⟩) hHeld ?rq20
    case yq20 => (intro W hSW; (try dsimp only at hSW); go_simp; (try with_reducible rfl))
    change wpAnyH _ _ _ _ _ _ _ (Act.put _ (some 66) _) _
    simp only [Act.put, List.setIfInBounds_toArray, List.set_cons_zero, List.set_cons_succ]
    refine wpAnyH_take (i := 21) (v := ?vq21) rfl (by kernel_rfl) (by kernel_rfl) (by kernel_rfl) (fun _ _ _ h => h) (Or.inl ⟨by first | kernel_rfl | rfl, ?yq21⟩) hHeld ?rq21
    case yq21 => (intro W hSW; (try dsimp only at hSW); go_simp; (try with_reducible rfl))
    change wpAnyH _ _ _ _ _ _ _ (Act.put _ (some 67) _) _
    simp only [Act.put, List.setIfInBounds_toArray, List.set_cons_zero, List.set_cons_succ]
    refine wpAnyH_take (i := 22) (v := ?vq22) rfl (by kernel_rfl) (by kernel_rfl) (by kernel_rfl) (fun _ _ _ h => h) (Or.inl ⟨by first | kernel_rfl | rfl, ?yq22⟩) hHeld ?rq22
    case yq22 => (intro W hSW; (try dsimp only at hSW); go_simp; (try with_reducible rfl))
    change wpAnyH _ _ _ _ _ _ _ (Act.put _ (some 68) _) _
    simp only [Act.put, List.setIfInBounds_toArray, List.set_cons_zero, List.set_cons_succ]
    refine wpAnyH_take (i := 23) (v := ?vq23) rfl (by kernel_rfl) (by kernel_rfl) (by kernel_rfl) (fun _ _ _ h => h) (Or.inl ⟨by first | kernel_rfl | rfl, ?yq23⟩) hHeld ?rq23
    case yq23 => (intro W hSW; (try dsimp only at hSW); go_simp; (try with_reducible rfl))
    change wpAnyH _ _ _ _ _ _ _ (Act.put _ (some 69) _) _
    simp only [Act.put, List.setIfInBounds_toArray, List.set_cons_zero, List.set_cons_succ]
    refine wpAnyH_take (i := 24) (v := ?vq24) rfl (by kernel_rfl) (by kernel_rfl) (by kernel_rfl) (fun _ _ _ h => h) (Or.inl ⟨by first | kernel_rfl | rfl, ?yq24⟩) hHeld ?rq24
    case yq24 => (intro W hSW; (try dsimp only at hSW); go_simp; (try with_reducible rfl))
    change wpAnyH _ _ _ _ _ _ _ (Act.put _ (some 70) _) _
    simp only [Act.put, List.setIfInBounds_toArray, List.set_cons_zero, List.set_cons_succ]
    refine wpAnyH_take (i := 25) (v := ?vq25) rfl (by kernel_rfl) (by kernel_rfl) (by kernel_rfl) (fun _ _ _ h => h) (Or.inl ⟨by first | kernel_rfl | rfl, ?yq25⟩) hHeld ?rq25
    case yq25 => (intro W hSW; (try dsimp only at hSW); go_simp; (try with_reducible rfl))
    change wpAnyH _ _ _ _ _ _ _ (Act.put _ (some 71) _) _
    simp only [Act.put, List.setIfInBounds_toArray, List.set_cons_zero, List.set_cons_succ]
    refine wpAnyH_ready (rs := [26]) (by kernel_rfl) (by simp) ?_
    refine AllReadyH.cons rfl (fun K hK => ?_) AllReadyH.nil
    go_simp
    refine (HAG.out _).mono ?_
    rintro e X1 ⟨rfl, hb⟩; have HX1 : Hid (Below V3.heap.size V3 X1) := ((Below.refl V3.heap.size V3).drew).trans (hb.mono ((Below.refl V3.heap.size V3).drew).size); clear hb
    refine hK.out _ _ (HSC.out _ HX1.out) (fun hHeld => ?_)
    clear hK K
    try simp only [Act.put, List.setIfInBounds_toArray, List.set_cons_zero, List.set_cons_succ]
    refine wpAnyH_take (i := 27) (v := ?vq27) rfl (by kernel_rfl) (by kernel_rfl) (by kernel_rfl) (fun _ _ _ h => h) (Or.inl ⟨by first | kernel_rfl | rfl, ?yq27⟩) hHeld ?rq27
    case yq27 => (intro W hSW; (try dsimp only at hSW); go_simp; (try with_reducible rfl))
    change wpAnyH _ _ _ _ _ _ _ (Act.put _ (some 73) _) _
    simp only [Act.put, List.setIfInBounds_toArray, List.set_cons_zero, List.set_cons_succ]
    refine wpAnyH_take (i := 28) (v := ?vq28) rfl (by kernel_rfl) (by kernel_rfl) (by kernel_rfl) (fun _ _ _ h => h) (Or.inl ⟨by first | kernel_rfl | rfl, ?yq28⟩) hHeld ?rq28
    case yq28 => (intro W hSW; (try dsimp only at hSW); go_simp; (try with_reducible rfl))
    change wpAnyH _ _ _ _ _ _ _ (Act.put _ (some 74) _) _
    simp only [Act.put, List.setIfInBounds_toArray, List.set_cons_zero, List.set_cons_succ]
    refine wpAnyH_take (i := 29) (v := ?vq29) rfl (by kernel_rfl) (by kernel_rfl) (by kernel_rfl) (fun _ _ _ h => h) (Or.inl ⟨by first | kernel_rfl | rfl, ?yq29⟩) hHeld ?rq29
    case yq29 => (intro W hSW; (try dsimp only at hSW); go_simp; (try with_reducible rfl))
    change wpAnyH _ _ _ _ _ _ _ (Act.put _ (some 75) _) _
    simp only [Act.put, List.setIfInBounds_toArray, List.set_cons_zero, List.set_cons_succ]
    refine wpAnyH_take (i := 30) (v := ?vq30) rfl (by kernel_rfl) (by kernel_rfl) (by kernel_rfl) (fun _ _ _ h => h) (Or.inl ⟨by first | kernel_rfl | rfl, ?yq30⟩) hHeld ?rq30
    case yq30 => (intro W hSW; (try dsimp only at hSW); go_simp; (try with_reducible rfl))
    change wpAnyH _ _ _ _ _ _ _ (Act.put _ (some 76) _) _
    simp only [Act.put, List.setIfInBounds_toArray, List.set_cons_zero, List.set_cons_succ]
    refine wpAnyH_take (i := 31) (v := ?vq31) rfl (by kernel_rfl) (by kernel_rfl) (by kernel_rfl) (fun _ _ _ h => h) (Or.inl ⟨by first | kernel_rfl | rfl, ?yq31⟩) hHeld ?rq31
    case yq31 => (intro W hSW; (try dsimp only at hSW); go_simp; (try with_reducible rfl))
    change wpAnyH _ _ _ _ _ _ _ (Act.put _ (some 77) _) _
    simp only [Act.put, List.setIfInBounds_toArray, List.set_cons_zero, List.set_cons_succ]
    refine wpAnyH_ready (rs := [32]) (by kernel_rfl) (by simp) ?_
    refine AllReadyH.cons rfl (fun K hK => ?_) AllReadyH.nil
    go_simp
    refine (HTK.out _).mono ?_
    rintro e X2 ⟨rfl, hb⟩; have HX2 : Hid (Below V3.heap.size V3 X2) := HX1.out.trans (hb.mono HX1.out.size); clear hb
    refine hK.out _ _ (HSC.out _ HX2.out) (fun hHeld => ?_)
    clear hK K
    try simp only [Act.put, List.setIfInBounds_toArray, List.set_cons_zero, List.set_cons_succ]
    refine wpAnyH_take (i := 33) (v := ?vq33) rfl (by kernel_rfl) (by kernel_rfl) (by kernel_rfl) (fun _ _ _ h => h) (Or.inl ⟨by first | kernel_rfl | rfl, ?yq33⟩) hHeld ?rq33
    case yq33 => (intro W hSW; (try dsimp only at hSW); go_simp; (try with_reducible rfl))
    change wpAnyH _ _ _ _ _ _ _ (Act.put _ (some 79) _) _
    simp only [Act.put, List.setIfInBounds_toArray, List.set_cons_zero, List.set_cons_succ]
    refine wpAnyH_take (i := 34) (v := ?vq34) rfl (by kernel_rfl) (by kernel_rfl) (by kernel_rfl) (fun _ _ _ h => h) (Or.inl ⟨by first | kernel_rfl | rfl, ?yq34⟩) hHeld ?rq34
    case yq34 => (intro W hSW; (try dsimp only at hSW); go_simp; (try with_reducible rfl))
    change wpAnyH _ _ _ _ _ _ _ (Act.put _ (some 80) _) _
    simp only [Act.put, List.setIfInBounds_toArray, List.set_cons_zero, List.set_cons_succ]
    refine wpAnyH_take (i := 35) (v := ?vq35) rfl (by kernel_rfl) (by kernel_rfl) (by kernel_rfl) (fun _ _ _ h => h) (Or.inl ⟨by first | kernel_rfl | rfl, ?yq35⟩) hHeld ?rq35
    case yq35 => (intro W hSW; (try dsimp only at hSW); go_simp; (try with_reducible rfl))
    change wpAnyH _ _ _ _ _ _ _ (Act.put _ (some 81) _) _
    simp only [Act.put, List.setIfInBounds_toArray, List.set_cons_zero, List.set_cons_succ]
    refine wpAnyH_take (i := 36) (v := ?vq36) rfl (by kernel_rfl) (by kernel_rfl) (by kernel_rfl) (fun _ _ _ h => h) (Or.inl ⟨by first | kernel_rfl | rfl, ?yq36⟩) hHeld ?rq36
    case yq36 => (intro W hSW; (try dsimp only at hSW); go_simp; (try with_reducible rfl))
    change wpAnyH _ _ _ _ _ _ _ (Act.put _ (some 82) _) _
    simp only [Act.put, List.setIfInBounds_toArray, List.set_cons_zero, List.set_cons_succ]
    refine wpAnyH_take (i := 37) (v := ?vq37) rfl (by kernel_rfl) (by kernel_rfl) (by kernel_rfl) (fun _ _ _ h => h) (Or.inl ⟨by first | kernel_rfl | rfl, ?yq37⟩) hHeld ?rq37
    case yq37 => (intro W hSW; (try dsimp only at hSW); go_simp; (try with_reducible rfl))
    change wpAnyH _ _ _ _ _ _ _ (Act.put _ (some 83) _) _
    simp only [Act.put, List.setIfInBounds_toArray, List.set_cons_zero, List.set_cons_succ]
    refine wpAnyH_take (i := 39) (v := ?vq39) rfl (by kernel_rfl) (by kernel_rfl) (by kernel_rfl) (fun _ _ _ h => h) (Or.inl ⟨by first | kernel_rfl | rfl, ?yq39⟩) hHeld ?rq39
    case yq39 => (intro W hSW; (try dsimp only at hSW); go_simp; (try with_reducible rfl))
    change wpAnyH _ _ _ _ _ _ _ (Act.put _ (some 85) _) _
    simp only [Act.put, List.setIfInBounds_toArray, List.set_cons_zero, List.set_cons_succ]
    refine wpAnyH_take (i := 41) (v := ?vq41) rfl (by kernel_rfl) (by kernel_rfl) (by kernel_rfl) (fun _ _ _ h => h) (Or.inl ⟨by first | kernel_rfl | rfl, ?yq41⟩) hHeld ?rq41
    case yq41 => (intro W hSW; (try dsimp only at hSW); go_simp; (try with_reducible rfl))
    change wpAnyH _ _ _ _ _ _ _ (Act.put _ (some 87) _) _
    simp only [Act.put, List.setIfInBounds_toArray, List.set_cons_zero, List.set_cons_succ]
    refine wpAnyH_take (i := 43) (v := ?vq43) rfl (by kernel_rfl) (by kernel_rfl) (by kernel_rfl) (fun _ _ _ h => h) (Or.inl ⟨by first | kernel_rfl | rfl, ?yq43⟩) hHeld ?rq43
    case yq43 => (intro W hSW; (try dsimp only at hSW); go_simp; (try with_reducible rfl))
    change wpAnyH _ _ _ _ _ _ _ (Act.put _ (some 89) _) _
    simp only [Act.put, List.setIfInBounds_toArray, List.set_cons_zero, List.set_cons_succ]
    refine wpAnyH_take (i := 44) (v := ?vq44) rfl (by kernel_rfl) (by kernel_rfl) (by kernel_rfl) (fun _ _ _ h => h) (Or.inl ⟨by first | kernel_rfl | rfl, ?yq44⟩) hHeld ?rq44
    case yq44 => (intro W hSW; (try dsimp only at hSW); go_simp; (try with_reducible rfl))
    change wpAnyH _ _ _ _ _ _ _ (Act.put _ (some 90) _) _
    simp only [Act.put, List.setIfInBounds_toArray, List.set_cons_zero, List.set_cons_succ]
    refine wpAnyH_take (i := 45) (v := ?vq45) rfl (by kernel_rfl) (by kernel_rfl) (by kernel_rfl) (fun _ _ _ h => h) (Or.inl ⟨by first | kernel_rfl | rfl, ?yq45⟩) hHeld ?rq45
    case yq45 => (intro W hSW; (try dsimp only at hSW); go_simp; (try with_reducible rfl))
    change wpAnyH _ _ _ _ _ _ _ (Act.put _ (some 91) _) _
    simp only [Act.put, List.setIfInBounds_toArray, List.set_cons_zero, List.set_cons_succ]
    refine wpAnyH_ready (rs := [38]) (by kernel_rfl) (by simp) ?_
    refine AllReadyH.cons rfl (fun K hK => ?_) AllReadyH.nil
    go_simp
    refine (HRF.out _).mono ?_
    rintro e X3 ⟨rfl, hb⟩; have HX3 : Hid (Below V3.heap.size V3 X3) := HX2.out.trans (hb.mono HX2.out.size); clear hb
    refine hK.out _ _ (HSC.out _ HX3.out) (fun hHeld => ?_)
    clear hK K
    try simp only [Act.put, List.setIfInBounds_toArray, List.set_cons_zero, List.set_cons_succ]
    refine wpAnyH_take (i := 40) (v := ?vq40) rfl (by kernel_rfl) (by kernel_rfl) (by kernel_rfl) (fun _ _ _ h => h) (Or.inl ⟨by first | kernel_rfl | rfl, ?yq40⟩) hHeld ?rq40
    case yq40 => (intro W hSW; (try dsimp only at hSW); go_simp; (try with_reducible rfl))
    change wpAnyH _ _ _ _ _ _ _ (Act.put _ (some 86) _) _
    simp only [Act.put, List.setIfInBounds_toArray, List.set_cons_zero, List.set_cons_succ]
    refine wpAnyH_take (i := 42) (v := ?vq42) rfl (by kernel_rfl) (by kernel_rfl) (by kernel_rfl) (fun _ _ _ h => h) (Or.inl ⟨by first | kernel_rfl | rfl, ?yq42⟩) hHeld ?rq42
    case yq42 => (intro W hSW; (try dsimp only at hSW); go_simp; (try with_reducible rfl))
    change wpAnyH _ _ _ _ _ _ _ (Act.put _ (some 88) _) _
    simp only [Act.put, List.setIfInBounds_toArray, List.set_cons_zero, List.set_cons_succ]
    refine wpAnyH_ready (rs := [46]) (by kernel_rfl) (by simp) ?_
    refine AllReadyH.cons rfl (fun K hK => ?_) AllReadyH.nil
    go_simp
    refine (HFI.out _).mono ?_
    rintro e X4 ⟨rfl, hX4⟩; subst X4
    refine hK.out _ _ (HSC.out _ HX3.out) (fun hHeld => ?_)
    clear hK K
    try simp only [Act.put, List.setIfInBounds_toArray, List.set_cons_zero, List.set_cons_succ]
    refine wpAnyH_take (i := 47) (v := ?vq47) rfl (by kernel_rfl) (by kernel_rfl) (by kernel_rfl) (fun _ _ _ h => h) (Or.inl ⟨by first | kernel_rfl | rfl, ?yq47⟩) hHeld ?rq47
    case yq47 => (intro W hSW; (try dsimp only at hSW); go_simp; (try with_reducible rfl))
    change wpAnyH _ _ _ _ _ _ _ (Act.put _ (some 93) _) _
    simp only [Act.put, List.setIfInBounds_toArray, List.set_cons_zero, List.set_cons_succ]
    refine wpAnyH_take (i := 48) (v := ?vq48) rfl (by kernel_rfl) (by kernel_rfl) (by kernel_rfl) (fun _ _ _ h => h) (Or.inl ⟨by first | kernel_rfl | rfl, ?yq48⟩) hHeld ?rq48
    case yq48 => (intro W hSW; (try dsimp only at hSW); go_simp; (try with_reducible rfl))
    change wpAnyH _ _ _ _ _ _ _ (Act.put _ (some 94) _) _
    simp only [Act.put, List.setIfInBounds_toArray, List.set_cons_zero, List.set_cons_succ]
    refine wpAnyH_take (i := 49) (v := ?vq49) rfl (by kernel_rfl) (by kernel_rfl) (by kernel_rfl) (fun _ _ _ h => h) (Or.inl ⟨by first | kernel_rfl | rfl, ?yq49⟩) hHeld ?rq49
    case yq49 => (intro W hSW; (try dsimp only at hSW); go_simp; (try with_reducible rfl))
    change wpAnyH _ _ _ _ _ _ _ (Act.put _ (some 95) _) _
    simp only [Act.put, List.setIfInBounds_toArray, List.set_cons_zero, List.set_cons_succ]
    refine wpAnyH_take (i := 50) (v := ?vq50) rfl (by kernel_rfl) (by kernel_rfl) (by kernel_rfl) (fun _ _ _ h => h) (Or.inl ⟨by first | kernel_rfl | rfl, ?yq50⟩) hHeld ?rq50
    case yq50 => (intro W hSW; (try dsimp only at hSW); go_simp; (try with_reducible rfl))
    change wpAnyH _ _ _ _ _ _ _ (Act.put _ (some 96) _) _
    simp only [Act.put, List.setIfInBounds_toArray, List.set_cons_zero, List.set_cons_succ]
    refine wpAnyH_take (i := 51) (v := ?vq51) rfl (by kernel_rfl) (by kernel_rfl) (by kernel_rfl) (fun _ _ _ h => h) (Or.inl ⟨by first | kernel_rfl | rfl, ?yq51⟩) hHeld ?rq51
    case yq51 => (intro W hSW; (try dsimp only at hSW); go_simp; (try with_reducible rfl))
    change wpAnyH _ _ _ _ _ _ _ (Act.put _ (some 97) _) _
    simp only [Act.put, List.setIfInBounds_toArray, List.set_cons_zero, List.set_cons_succ]
    refine wpAnyH_take (i := 52) (v := ?vq52) rfl (by kernel_rfl) (by kernel_rfl) (by kernel_rfl) (fun _ _ _ h => h) (Or.inl ⟨by first | kernel_rfl | rfl, ?yq52⟩) hHeld ?rq52
    case yq52 => (intro W hSW; (try dsimp only at hSW); go_simp; (try with_reducible rfl))
    change wpAnyH _ _ _ _ _ _ _ (Act.put _ (some 98) _) _
    simp only [Act.put, List.setIfInBounds_toArray, List.set_cons_zero, List.set_cons_succ]
    refine wpAnyH_take (i := 53) (v := ?vq53) rfl (by kernel_rfl) (by kernel_rfl) (by kernel_rfl) (fun _ _ _ h => h) (Or.inl ⟨by first | kernel_rfl | rfl, ?yq53⟩) hHeld ?rq53
    case yq53 => (intro W hSW; (try dsimp only at hSW); go_simp; (try with_reducible rfl))
    change wpAnyH _ _ _ _ _ _ _ (Act.put _ (some 99) _) _
    simp only [Act.put, List.setIfInBounds_toArray, List.set_cons_zero, List.set_cons_succ]
    refine wpAnyH_ready (rs := [54]) (by kernel_rfl) (by simp) ?_
    refine AllReadyH.cons rfl (fun K hK => ?_) AllReadyH.nil
    go_simp
    refine (HDG.out _).mono ?_
    rintro e X5 ⟨rfl, hX5⟩; subst X5
    refine hK.out _ _ (HSC.out _ HX3.out) (fun hHeld => ?_)
    clear hK K
    try simp only [Act.put, List.setIfInBounds_toArray, List.set_cons_zero, List.set_cons_succ]
    refine wpAnyH_take (i := 55) (v := ?vq55) rfl (by kernel_rfl) (by kernel_rfl) (by kernel_rfl) (fun _ _ _ h => h) (Or.inl ⟨by first | kernel_rfl | rfl, ?yq55⟩) hHeld ?rq55
    case yq55 => (intro W hSW; (try dsimp only at hSW); go_simp; (try with_reducible rfl))
    change wpAnyH _ _ _ _ _ _ _ (Act.put _ (some 101) _) _
    simp only [Act.put, List.setIfInBounds_toArray, List.set_cons_zero, List.set_cons_succ]
    refine wpAnyH_take (i := 56) (v := ?vq56) rfl (by kernel_rfl) (by kernel_rfl) (by kernel_rfl) (fun _ _ _ h => h) (Or.inl ⟨by first | kernel_rfl | rfl, ?yq56⟩) hHeld ?rq56
    case yq56 => (intro W hSW; (try dsimp only at hSW); go_simp; (try with_reducible rfl))
    change wpAnyH _ _ _ _ _ _ _ (Act.put _ (some 102) _) _
    simp only [Act.put, List.setIfInBounds_toArray, List.set_cons_zero, List.set_cons_succ]
    refine wpAnyH_take (i := 57) (v := ?vq57) rfl (by kernel_rfl) (by kernel_rfl) (by kernel_rfl) (fun _ _ _ h => h) (Or.inl ⟨by first | kernel_rfl | rfl, ?yq57⟩) hHeld ?rq57
    case yq57 => (intro W hSW; (try dsimp only at hSW); go_simp; (try with_reducible rfl))
    change wpAnyH _ _ _ _ _ _ _ (Act.put _ (some 103) _) _
    simp only [Act.put, List.setIfInBounds_toArray, List.set_cons_zero, List.set_cons_succ]
    refine wpAnyH_ready (rs := [58]) (by kernel_rfl) (by simp) ?_
    refine AllReadyH.cons rfl (fun K hK => ?_) AllReadyH.nil
    go_simp
    refine (HLV.out _ HX3.out).mono ?_
    rintro e X6 ⟨rfl, hb⟩; have HX6 : Hid (Below V3.heap.size V3 X6) := HX3.out.trans (hb.mono HX3.out.size); clear hb
    refine hK.out _ _ (HSC.out _ HX6.out) (fun hHeld => ?_)
    clear hK K
    try simp only [Act.put, List.setIfInBounds_toArray, List.set_cons_zero, List.set_cons_succ]
    refine wpAnyH_take (i := 59) (v := ?vq59) rfl (by kernel_rfl) (by kernel_rfl) (by kernel_rfl) (fun _ _ _ h => h) (Or.inl ⟨by first | kernel_rfl | rfl, ?yq59⟩) hHeld ?rq59
    case yq59 => (intro W hSW; (try dsimp only at hSW); go_simp; (try with_reducible rfl))
    change wpAnyH _ _ _ _ _ _ _ (Act.put _ (some 105) _) _
    simp only [Act.put, List.setIfInBounds_toArray, List.set_cons_zero, List.set_cons_succ]
    refine wpAnyH_take (i := 60) (v := ?vq60) rfl (by kernel_rfl) (by kernel_rfl) (by kernel_rfl) (fun _ _ _ h => h) (Or.inl ⟨by first | kernel_rfl | rfl, ?yq60⟩) hHeld ?rq60
    case yq60 => (intro W hSW; (try dsimp only at hSW); go_simp; (try with_reducible rfl))
    change wpAnyH _ _ _ _ _ _ _ (Act.put _ (some 6) _) _
    simp only [Act.put, List.setIfInBounds_toArray, List.set_cons_zero, List.set_cons_succ]
    refine wpAnyH_done (by kernel_rfl) ?_ _
    clear hHeld
    go_wp2
    go_ret
    exact ⟨rfl, HBW.out.trans (HX6.out.mono HBW.out.size)⟩

set_option linter.unusedVariables false in
set_option maxRecDepth 100000 in
theorem lifted (os : Os) (started : os.Started) (H : Type) (enc : TypeId × Value → H) :
    ReturnsInHanded {} Tryd.checked os 8 .any (fun w args => (Rows.casNilsSpec.pre enc Tryd.prog Tryd.f8 [] false w args ∧ laidMetH Tryd.prog laid2 w) ∧ sizedMet enc Tryd.prog Tryd.f8 (OpenSpec.ofChange Rows.casNilsSpec) false w args) (Rows.casNilsSpec.post enc Tryd.prog Tryd.f8 false true false false) := by
  refine returnsInHanded_of_change_and (C := Tryd.checked) (X := fun w _ => laidMetH Tryd.prog laid2 w) (fun _ _ _ hh h => h.of_heap hh) own started (by kernel_rfl) Tryd.func8
    (ChangeSpec.witness_shaped (enc := enc) (C := Tryd.checked) (os := os) (X := fun w _ => laidMetH Tryd.prog laid2 w) false (World.doorLaid Tryd.prog 19 os) #[.int .i64 0, .agg #[.string ByteArray.empty, .int .i64 0], .string ByteArray.empty] 8 rfl (World.shaped_of_RefB (by kernel_rfl) (by kernel_rfl)) (by kernel_rfl) (by kernel_rfl) (by kernel_rfl) (door_met os _)) ?_
  intro W base args ds gs before hval0 hW _ hsz0 hL _
  have hval : ∀ (j : Nat) t v, Tryd.f8.params[j]? = some t → args[j]? = some v → Value.okWide Tryd.prog W .any base t v := hval0
  have hsz : (DataW.weightsEach Tryd.prog (Tryd.f8.params.toList ++ Rows.casNilsSpec.plain.varTypes Tryd.prog) (ds ++ gs)).all (· ≤ reachBytes) = true := hsz0
  have hW' := hW
  obtain ⟨p, q, hA0, hV, rfl, hfz, hnd⟩ := hW
  have hA : DataW.TrodAll enc Tryd.prog W 0 (fun _ => true) true Tryd.f8.params.toList args.toList ds p := hA0
  rw [Tryd.params8] at hA hval hsz
  obtain ⟨v0, vs0, d0, ds0, p0, q0, hargs, rfl, rfl, h0, r0⟩ := trodAll_cons hA
  obtain ⟨v1, vs1, d1, ds1, p1, q1, rfl, rfl, rfl, h1, r1⟩ := trodAll_cons r0
  obtain ⟨v2, vs2, d2, ds2, p2, q2, rfl, rfl, rfl, h2, r2⟩ := trodAll_cons r1
  obtain ⟨rfl, rfl, rfl⟩ := trodAll_nil r2
  obtain rfl : args = #[v0, v1, v2] := by cases args; simp_all
  obtain ⟨rfl, rfl⟩ := trodVars_none hV
  obtain ⟨x0, rfl, rfl, rfl, w0⟩ := open_int Tryd.underlying3 (hval 0 3 v0 rfl rfl) h0
  have k1 := h1
  have lt1 : ∀ x ∈ p1, x.block < W.heap.size := by obtain ⟨m, hm⟩ := k1; exact DataW.trod_lt m _ _ _ hm
  obtain ⟨s1, n1, rfl, z1, u1⟩ := id_arg (j := 1) (hval 1 35 v1 rfl rfl) h1 hsz rfl rfl
  obtain ⟨s2, rfl, rfl, rfl, w2⟩ := open_string Tryd.underlying9 (hval 2 9 v2 rfl rfl) h2
  have z2 : s2.size ≤ 140737488351232 := by
    have := sized_string hsz (j := 2) (t := 9) rfl rfl
    simpa [reachBytes] using this
  clear hA0 hval0 hsz hsz0
  refine (walk x0 (wf_i64 w0) s1 n1 z1 u1 s2 z2 W  (of_laid hL)).mono fun e W' ⟨he, bel⟩ => ?_
  subst he
  exact ⟨_, rfl, _, _, _, [], _, [], hW', trodAll_mk1 (shut_bool Tryd.underlying4 _), (trodAll_cons_mk (shut_int Tryd.underlying3 w0) (trodAll_cons_mk (Below.trod laidOut (by kernel_rfl) (of_decide_eq_true (by kernel_rfl)) k1 bel lt1) (trodAll_cons_mk (shut_string Tryd.underlying9 w2) trodAll_mk0))), rfl, bel.frame _, fun h => by cases h⟩

theorem over : Rows.casNilsRow.holds Tryd.pinned (OpenSpec.ofChange Rows.casNilsSpec) :=
  OpenClaim.holds_of_wide 8 Tryd.f8 rfl rfl rfl rfl rfl rfl rfl ⟨rfl, rfl, rfl, rfl, rfl⟩ rfl rfl rfl rfl rfl (by kernel_rfl) Tryd.func8 (by kernel_rfl)
    (of_decide_eq_true (by kernel_rfl)) (by unfold Func.isWrapper; first | (rw [if_pos (by decide +kernel)]; kernel_rfl) | (rw [if_neg (by decide +kernel)]; exact ⟨rfl, rfl⟩))
    (fun os started H enc _ => lifted os started H enc)

end Go.Proofs.YtjpkngbjjgimjaaDoor.casNils
namespace Go.Proofs.YtjpkngbjjgimjaaDoor
/-- The given statement. -/
theorem casNils_holds : Rows.CasNilsCardSaid :=
  Claim7.holds_tied_plain_at .later [] [.data, .data] true (true, "714266a7f20758317d11b46492cd9cd49cf98b3981d461172de498aac6b57d6c") false
    casNils.over (fun _ h => by cases h) (by kernel_rfl) (fun _ h => by cases h) casNils_row_tie rfl ⟨rfl, rfl⟩ (by kernel_rfl) rfl
    (fun f fn hf hfn => by
      obtain rfl : f = 8 := Option.some.inj ((show Tryd.prog.funcNamed "strongroom/strongroomlaw09.CasNils" = some 8 by kernel_rfl).symm.trans hf) |>.symm
      obtain rfl : fn = Tryd.f8 := (Option.some.inj (Tryd.func8.symm.trans hfn)).symm
      exact ⟨by kernel_rfl, fun j t ht => by
        rw [Tryd.params8] at ht
        rcases j with _ | _ | _ | j
        · obtain rfl : t = 3 := by simpa using ht.symm
          exact (show Tryd.prog.wantsStandIn 3 = false by kernel_rfl)
        · obtain rfl : t = 35 := by simpa using ht.symm
          exact (show Tryd.prog.wantsStandIn 35 = false by kernel_rfl)
        · obtain rfl : t = 9 := by simpa using ht.symm
          exact (show Tryd.prog.wantsStandIn 9 = false by kernel_rfl)
        · simp at ht
      ⟩)
    (by kernel_rfl)
#print axioms casNils_holds
end Go.Proofs.YtjpkngbjjgimjaaDoor
