/- The statements' own functions; how what came in is opened. -/
import Derived.Test.YtbflkkffpcaakabDoorWR
import Derived.Test.YtbflkkffpcaakabDoorZ
import Derived.Deep.Cut
import Derived.Lib.SlBytesConst
import Derived.SizedLaws
import Derived.WalkKit
import Derived.ProofKit
import Derived.OpenShut
import Derived.ShutString
namespace Go.Proofs.YtbflkkffpcaakabDoor
open Go.RowKit
def zk : List UInt8 := List.replicate 32 0
def zn : List UInt8 := List.replicate 12 0
theorem conv_zero (n : Nat) (g : Nat) (W : World) (h : W.heap[g]? = some (.cells (u8v (List.replicate n 0)) 5 (0, 0))) : (convert 29 9 (.slice (some ⟨g, 0, none⟩) n n)).run Tryd.prog W = .ok (.string (strOf (List.replicate n 0))) W :=
  conv_row W g 0 n n _ (List.length_replicate) (fun i hi => by rw [Nat.zero_add, cell_of_row _ _ _ _ _ _ h, u8v_get _ _ (by rw [List.length_replicate]; exact hi)])
set_option maxRecDepth 100000 in
set_option maxHeartbeats 2000000 in
theorem lives_any (w : World) (hL : Laid w) :
    Calls Tryd.prog 5 #[] w fun e w' => e = .returned (.bool true) ∧ Below w.heap.size w w' := by
  obtain ⟨K, hK⟩ : ∃ K, strOf zk = K := ⟨_, rfl⟩
  obtain ⟨N, hN⟩ : ∃ N, strOf zn = N := ⟨_, rfl⟩
  have hKs : K.size = 32 := by rw [← hK, strOf_size]; rfl
  have hNs : N.size = 12 := by rw [← hN, strOf_size]; rfl
  have hm32 : ∀ W, (Instr.makeSlice 29 (.int .i64 32) (.int .i64 32)).run Tryd.prog W = .ok (.slice (some ⟨W.heap.size, 0, none⟩) 32 32) (W.alloc (.cells (u8v zk) 5)) := fun W => madeB 32 W (by omega)
  have hm12 : ∀ W, (Instr.makeSlice 29 (.int .i64 12) (.int .i64 12)).run Tryd.prog W = .ok (.slice (some ⟨W.heap.size, 0, none⟩) 12 12) (W.alloc (.cells (u8v zn) 5)) := fun W => madeB 12 W (by omega)
  have hc32 : ∀ g W, W.heap[g]? = some (.cells (u8v zk) 5 (0, 0)) → (convert 29 9 (.slice (some ⟨g, 0, none⟩) 32 32)).run Tryd.prog W = .ok (.string K) W := fun g W h => by rw [← hK]; exact conv_zero 32 g W h
  have hc12 : ∀ g W, W.heap[g]? = some (.cells (u8v zn) 5 (0, 0)) → (convert 29 9 (.slice (some ⟨g, 0, none⟩) 12 12)).run Tryd.prog W = .ok (.string N) W := fun g W h => by rw [← hN]; exact conv_zero 12 g W h
  have HH : Hid (∀ V, Below w.heap.size w V → Calls Tryd.prog 8 #[.string K, .string N, .string ⟨#[]⟩] V fun e w' => e = .returned (.tuple #[.string ⟨#[]⟩, .int .i64 0]) ∧ Below V.heap.size V w') := fun V hV => hide_any K N ⟨#[]⟩ V hKs hNs (by decide) (hL.below hV)
  obtain ⟨S, hS⟩ : ∃ S, strOf (shutL [115] N.data.toList [108] [116, 101, 120, 116]) = S := ⟨_, rfl⟩
  have hSs : S.size = 20 := by rw [← hS, strOf_size, shutL_len]; rfl
  have HS : Hid (∀ V, Below w.heap.size w V → Calls Tryd.prog 6 #[.string ⟨#[115]⟩, .string N, .string ⟨#[108]⟩, .string ⟨#[116, 101, 120, 116]⟩] V fun e w' => e = .returned (.tuple #[.string S, .int .i64 0]) ∧ Below V.heap.size V w') := fun V hV => by
    rw [← hS]; exact cseal_any ⟨#[115]⟩ N ⟨#[108]⟩ ⟨#[116, 101, 120, 116]⟩ V (by decide) hNs (by decide) (by decide) (hL.below hV)
  obtain ⟨B, hB⟩ : ∃ B, strOf (blockL ((firstL K.data.toList N.data.toList).set 12 0)) = B := ⟨_, rfl⟩
  have hBs : B.size = 64 := by rw [← hB, strOf_size, blockL_len]
  have HBK : Hid (∀ V, Below w.heap.size w V → Calls Tryd.prog 9 #[.string K, .string N, .int .u32 0] V fun e w' => e = .returned (.tuple #[.string B, .int .i64 0]) ∧ Below V.heap.size V w') := fun V hV => by
    rw [← hB]; exact cblock_any K N 0 V hKs hNs (by omega) (hL.below hV)
  clear hK hN hS hB hL
  go_enter Tryd.func5, Tryd.ntmps5
  go_upto_region 1 with fail
  go_cut [1, 2] from 9 (fun v1 v2 wx => v1 = .string K ∧ v2 = .string N ∧ Below w.heap.size w wx)
  case first =>
    go_wp2_with fail
    obtain ⟨A, hA⟩ : ∃ x, w.heap.size = x := ⟨_, rfl⟩
    refine wp_region_held_drew (S := fun _ => True) (by kernel_rfl) (trivial) (fun hHeld => ?_)
    refine wpAnyH_ready (rs := [0, 2]) (by kernel_rfl) (by simp) ?_
    refine AllReadyH.cons rfl (fun K hK => ?_) (AllReadyH.cons rfl (fun K hK => ?_) AllReadyH.nil)
    · go_simp
      refine hK.out _ _ (trivial) (fun hHeld => ?_)
      clear hK K
      try simp only [Act.put, List.setIfInBounds_toArray, List.set_cons_zero, List.set_cons_succ]
      have hr1 : (w.alloc (.cells (u8v zk) 5)).drew.heap[A]? = some (.cells (u8v zk) 5 (0, 0)) := by rw [← hA]; exact heap_alloc_new w _
      refine wpAnyH_strengthen (S' := fun W => W.heap[A]? = some (.cells (u8v zk) 5 (0, 0))) (fun _ _ => trivial) ?_
      have hHeld : (fun W : World => W.heap[A]? = some (.cells (u8v zk) 5 (0, 0))) (w.alloc (.cells (u8v zk) 5)).drew := hr1
      refine wpAnyH_take (i := 1) (v := ?vpa_1) rfl (by kernel_rfl) (by kernel_rfl) (by kernel_rfl) (fun _ _ _ h => h) (Or.inl ⟨by first | kernel_rfl | rfl, ?ypa_1⟩) hHeld ?rpa_1
      case ypa_1 => (intro W hSW; (try dsimp only at hSW); go_simp; (try with_reducible rfl))
      change wpAnyH _ _ _ _ _ _ _ (Act.put _ (some 10) _) _
      simp only [Act.put, List.setIfInBounds_toArray, List.set_cons_zero, List.set_cons_succ]
      refine wpAnyH_take (i := 4) (v := ?vpa_4) rfl (by kernel_rfl) (by kernel_rfl) (by kernel_rfl) (fun _ _ _ h => h) (Or.inl ⟨by first | kernel_rfl | rfl, ?ypa_4⟩) hHeld ?rpa_4
      case ypa_4 => (intro W hSW; (try dsimp only at hSW); go_simp; (try with_reducible rfl))
      change wpAnyH _ _ _ _ _ _ _ (Act.put _ (some 1) _) _
      simp only [Act.put, List.setIfInBounds_toArray, List.set_cons_zero, List.set_cons_succ]
      refine wpAnyH_ready (rs := [2]) (by kernel_rfl) (by simp) ?_
      refine AllReadyH.cons rfl (fun K hK => ?_) AllReadyH.nil
      go_simp
      have hr2 : ((w.alloc (.cells (u8v zk) 5)).alloc (.cells (u8v zn) 5)).drew.heap[A + 1]? = some (.cells (u8v zn) 5 (0, 0)) := by
        have h := heap_alloc_new (w.alloc (.cells (u8v zk) 5)) (.cells (u8v zn) 5)
        show ((w.alloc _).alloc _).heap[A + 1]? = _
        rw [← hA]
        simpa using h
      have hr1' : ((w.alloc (.cells (u8v zk) 5)).alloc (.cells (u8v zn) 5)).drew.heap[A]? = some (.cells (u8v zk) 5 (0, 0)) := by
        show ((w.alloc (.cells (u8v zk) 5)).alloc (.cells (u8v zn) 5)).heap[A]? = _
        rw [Go.heap_alloc_old _ _ (by simp; omega)]; exact hr1
      have hb2 : Below w.heap.size w ((w.alloc (.cells (u8v zk) 5)).alloc (.cells (u8v zn) 5)).drew := (((Below.refl _ w).alloc (Nat.le_refl _) _).alloc (by simp) _).drew
      obtain ⟨U2, hU2⟩ : ∃ W, ((w.alloc (.cells (u8v zk) 5)).alloc (.cells (u8v zn) 5)).drew = W := ⟨_, rfl⟩
      try rw [hU2]
      rw [hU2] at hr1' hr2 hb2
      have HBU : Hid (Below w.heap.size w U2) := hb2
      refine hK.out _ _ (by first | exact hr1' | (rw [hU2]; exact hr1')) (fun hHeld => ?_)
      clear hK K
      try simp only [Act.put, List.setIfInBounds_toArray, List.set_cons_zero, List.set_cons_succ]
      refine wpAnyH_strengthen (S' := fun W => W.heap[A]? = some (.cells (u8v zk) 5 (0, 0)) ∧ W.heap[A + 1]? = some (.cells (u8v zn) 5 (0, 0))) (fun _ h => h.1) ?_
      have hHeld : (fun W : World => W.heap[A]? = some (.cells (u8v zk) 5 (0, 0)) ∧ W.heap[A + 1]? = some (.cells (u8v zn) 5 (0, 0))) U2 := ⟨hr1', hr2⟩
      refine wpAnyH_take (i := 3) (v := ?vpb_3) rfl (by kernel_rfl) (by kernel_rfl) (by kernel_rfl) (fun _ _ _ h => h) (Or.inl ⟨by first | kernel_rfl | rfl, ?ypb_3⟩) hHeld ?rpb_3
      case ypb_3 => (intro W hSW; (try dsimp only at hSW); go_simp; (try with_reducible rfl))
      change wpAnyH _ _ _ _ _ _ _ (Act.put _ (some 12) _) _
      simp only [Act.put, List.setIfInBounds_toArray, List.set_cons_zero, List.set_cons_succ]
      refine wpAnyH_take (i := 5) (v := ?vpb_5) rfl (by kernel_rfl) (by kernel_rfl) (by kernel_rfl) (fun _ _ _ h => h) (Or.inl ⟨by first | kernel_rfl | rfl, ?ypb_5⟩) hHeld ?rpb_5
      case ypb_5 => (intro W hSW; (try dsimp only at hSW); go_simp; (try with_reducible rfl))
      change wpAnyH _ _ _ _ _ _ _ (Act.put _ (some 2) _) _
      simp only [Act.put, List.setIfInBounds_toArray, List.set_cons_zero, List.set_cons_succ]
      refine wpAnyH_done (by kernel_rfl) ?_ _
      go_wp2_with fail
      go_meet
      case rel => exact ⟨rfl, rfl, HBU.out⟩
    · go_simp
      refine hK.out _ _ (trivial) (fun hHeld => ?_)
      clear hK K
      try simp only [Act.put, List.setIfInBounds_toArray, List.set_cons_zero, List.set_cons_succ]
      have hr1 : (w.alloc (.cells (u8v zn) 5)).drew.heap[A]? = some (.cells (u8v zn) 5 (0, 0)) := by rw [← hA]; exact heap_alloc_new w _
      refine wpAnyH_strengthen (S' := fun W => W.heap[A]? = some (.cells (u8v zn) 5 (0, 0))) (fun _ _ => trivial) ?_
      have hHeld : (fun W : World => W.heap[A]? = some (.cells (u8v zn) 5 (0, 0))) (w.alloc (.cells (u8v zn) 5)).drew := hr1
      refine wpAnyH_take (i := 3) (v := ?vqa_3) rfl (by kernel_rfl) (by kernel_rfl) (by kernel_rfl) (fun _ _ _ h => h) (Or.inl ⟨by first | kernel_rfl | rfl, ?yqa_3⟩) hHeld ?rqa_3
      case yqa_3 => (intro W hSW; (try dsimp only at hSW); go_simp; (try with_reducible rfl))
      change wpAnyH _ _ _ _ _ _ _ (Act.put _ (some 12) _) _
      simp only [Act.put, List.setIfInBounds_toArray, List.set_cons_zero, List.set_cons_succ]
      refine wpAnyH_ready (rs := [0]) (by kernel_rfl) (by simp) ?_
      refine AllReadyH.cons rfl (fun K hK => ?_) AllReadyH.nil
      go_simp
      have hr2 : ((w.alloc (.cells (u8v zn) 5)).alloc (.cells (u8v zk) 5)).drew.heap[A + 1]? = some (.cells (u8v zk) 5 (0, 0)) := by
        have h := heap_alloc_new (w.alloc (.cells (u8v zn) 5)) (.cells (u8v zk) 5)
        show ((w.alloc _).alloc _).heap[A + 1]? = _
        rw [← hA]
        simpa using h
      have hr1' : ((w.alloc (.cells (u8v zn) 5)).alloc (.cells (u8v zk) 5)).drew.heap[A]? = some (.cells (u8v zn) 5 (0, 0)) := by
        show ((w.alloc (.cells (u8v zn) 5)).alloc (.cells (u8v zk) 5)).heap[A]? = _
        rw [Go.heap_alloc_old _ _ (by simp; omega)]; exact hr1
      have hb2 : Below w.heap.size w ((w.alloc (.cells (u8v zn) 5)).alloc (.cells (u8v zk) 5)).drew := (((Below.refl _ w).alloc (Nat.le_refl _) _).alloc (by simp) _).drew
      obtain ⟨U2, hU2⟩ : ∃ W, ((w.alloc (.cells (u8v zn) 5)).alloc (.cells (u8v zk) 5)).drew = W := ⟨_, rfl⟩
      try rw [hU2]
      rw [hU2] at hr1' hr2 hb2
      have HBU : Hid (Below w.heap.size w U2) := hb2
      refine hK.out _ _ (by first | exact hr1' | (rw [hU2]; exact hr1')) (fun hHeld => ?_)
      clear hK K
      try simp only [Act.put, List.setIfInBounds_toArray, List.set_cons_zero, List.set_cons_succ]
      refine wpAnyH_strengthen (S' := fun W => W.heap[A]? = some (.cells (u8v zn) 5 (0, 0)) ∧ W.heap[A + 1]? = some (.cells (u8v zk) 5 (0, 0))) (fun _ h => h.1) ?_
      have hHeld : (fun W : World => W.heap[A]? = some (.cells (u8v zn) 5 (0, 0)) ∧ W.heap[A + 1]? = some (.cells (u8v zk) 5 (0, 0))) U2 := ⟨hr1', hr2⟩
      refine wpAnyH_take (i := 1) (v := ?vqb_1) rfl (by kernel_rfl) (by kernel_rfl) (by kernel_rfl) (fun _ _ _ h => h) (Or.inl ⟨by first | kernel_rfl | rfl, ?yqb_1⟩) hHeld ?rqb_1
      case yqb_1 => (intro W hSW; (try dsimp only at hSW); go_simp; (try with_reducible rfl))
      change wpAnyH _ _ _ _ _ _ _ (Act.put _ (some 10) _) _
      simp only [Act.put, List.setIfInBounds_toArray, List.set_cons_zero, List.set_cons_succ]
      refine wpAnyH_take (i := 4) (v := ?vqb_4) rfl (by kernel_rfl) (by kernel_rfl) (by kernel_rfl) (fun _ _ _ h => h) (Or.inl ⟨by first | kernel_rfl | rfl, ?yqb_4⟩) hHeld ?rqb_4
      case yqb_4 => (intro W hSW; (try dsimp only at hSW); go_simp; (try with_reducible rfl))
      change wpAnyH _ _ _ _ _ _ _ (Act.put _ (some 1) _) _
      simp only [Act.put, List.setIfInBounds_toArray, List.set_cons_zero, List.set_cons_succ]
      refine wpAnyH_take (i := 5) (v := ?vqb_5) rfl (by kernel_rfl) (by kernel_rfl) (by kernel_rfl) (fun _ _ _ h => h) (Or.inl ⟨by first | kernel_rfl | rfl, ?yqb_5⟩) hHeld ?rqb_5
      case yqb_5 => (intro W hSW; (try dsimp only at hSW); go_simp; (try with_reducible rfl))
      change wpAnyH _ _ _ _ _ _ _ (Act.put _ (some 2) _) _
      simp only [Act.put, List.setIfInBounds_toArray, List.set_cons_zero, List.set_cons_succ]
      refine wpAnyH_done (by kernel_rfl) ?_ _
      go_wp2_with fail
      go_meet
      case rel => exact ⟨rfl, rfl, HBU.out⟩
  case rest =>
    obtain ⟨rfl, rfl, hb0⟩ := hcut
    have HB0 : Hid (Below w.heap.size w wc) := hb0
    have HH2 := HH.out wc hb0
    clear hm32 hm12 hc32 hc12 hb0 HH
    go_wp2_with fail
    refine HH2.mono ?_
    rintro e V1 ⟨rfl, hb1⟩
    have HB1 : Hid (Below w.heap.size w V1) := HB0.out.trans (hb1.mono HB0.out.size)
    have HS2 := HS.out V1 HB1.out
    clear HH2 hb1 HS
    go_wp2_with fail
    refine HS2.mono ?_
    rintro e V2 ⟨rfl, hb2⟩
    have HB2 : Hid (Below w.heap.size w V2) := HB1.out.trans (hb2.mono HB1.out.size)
    have HK2 := HBK.out V2 HB2.out
    clear HS2 hb2 HBK
    go_wp2_with fail
    refine HK2.mono ?_
    rintro e V3 ⟨rfl, hb3⟩
    have HB3 : Hid (Below w.heap.size w V3) := HB2.out.trans (hb3.mono HB2.out.size)
    clear HK2 hb3
    go_wp2
    go_ret
    exact ⟨rfl, HB3.out⟩
end Go.Proofs.YtbflkkffpcaakabDoor
