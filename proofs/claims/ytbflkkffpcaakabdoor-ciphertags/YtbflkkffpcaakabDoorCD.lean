/- Walks over the program's sealBy and Seal. -/
import Derived.Test.YtbflkkffpcaakabDoorCC
import Derived.Deep.RegionHeld
namespace Go.Proofs.YtbflkkffpcaakabDoor
open Go.RowKit
set_option maxRecDepth 100000 in
set_option maxHeartbeats 1000000 in
theorem sealby_any (b : List UInt8) (t : ByteArray) (w : World) (hb : b.length = 64) (ht : t.size ≤ 1000000000) (hL : Laid w) :
    Calls Tryd.prog 24 #[.agg (u8v b), .string t] w fun e w' => e = .returned (.string (strOf (sealB b t.data.toList))) ∧ Below w.heap.size w w' := by
  have HI : Hid ((Tryd.prog.info? 43).map (·.size) = some (u8v b).size) := infoB b hb
  obtain ⟨D, hD⟩ : ∃ D, strOf (behind b 54 t.data.toList) = D := ⟨_, rfl⟩
  obtain ⟨E, hE⟩ : ∃ E, strOf (sealB b t.data.toList) = E := ⟨_, rfl⟩
  have H54 : Hid (∀ W, Laid W → Calls Tryd.prog 27 #[.agg (u8v b), .int .u8 54, .string t] W fun e w' => e = .returned (.string D) ∧ Below W.heap.size W w') := by
    rw [← hD]; exact fun W h => behind_any b 54 t W hb (by omega) ht h
  have H92 : Hid (∀ W, Laid W → Calls Tryd.prog 27 #[.agg (u8v b), .int .u8 92, .string D] W fun e w' => e = .returned (.string E) ∧ Below W.heap.size W w') := by
    rw [← hD, ← hE]; exact fun W h => behind_any b 92 (strOf (behind b 54 t.data.toList)) W hb (by omega) (by rw [strOf_size, behind_len]; omega) h
  rw [hE]
  have HROW : Hid ((w.alloc (.cells (u8v b) 43)).heap[w.heap.size]? = some (.cells (u8v b) 43 (0, 0))) := heap_alloc_new _ _
  have HB1 : Hid (Below w.heap.size w (w.alloc (.cells (u8v b) 43))) := (Below.refl _ w).alloc (Nat.le_refl _) _
  have HLT : Hid (w.heap.size < (w.alloc (.cells (u8v b) 43)).heap.size) := lt_of_some HROW.out
  have HL1 : Hid (Laid (w.alloc (.cells (u8v b) 43)).drew) := (hL.below HB1.out).below (Below.refl _ _).drew
  have HL : Hid (Laid w) := hL
  clear hb ht hL hD hE
  go_enter Tryd.func24, Tryd.ntmps24
  go_wp2
  refine wp_region_held_drew (S := fun W => W.heap[w.heap.size]? = some (.cells (u8v b) 43 (0, 0))) (by kernel_rfl) (HROW.out) (fun hHeld => ?_)
  refine wpAnyH_take (i := 0) (v := ?v0) rfl (by kernel_rfl) (by kernel_rfl) (by kernel_rfl) (fun _ _ _ h => h) (Or.inl ⟨by kernel_rfl, ?y0⟩) hHeld ?r0
  case y0 => (intro W hSW; refine yields_row 43 (.tmp 2) ?_ w.heap.size ?_ 43 (u8v b) (0, 0) _ hSW Tryd.underlying43 rfl HI.out <;> rfl)
  change wpAnyH _ _ _ _ _ _ _ (Act.put _ (some 5) _) _
  simp only [Act.put, List.setIfInBounds_toArray, List.set_cons_zero, List.set_cons_succ]
  refine wpAnyH_take (i := 1) (v := ?v1) rfl (by kernel_rfl) (by kernel_rfl) (by kernel_rfl) (fun _ _ _ h => h) (Or.inl ⟨by kernel_rfl, ?y1⟩) hHeld ?r1
  case y1 => (intro W hSW; refine yields_row 43 (.tmp 2) ?_ w.heap.size ?_ 43 (u8v b) (0, 0) _ hSW Tryd.underlying43 rfl HI.out <;> rfl)
  change wpAnyH _ _ _ _ _ _ _ (Act.put _ (some 6) _) _
  simp only [Act.put, List.setIfInBounds_toArray, List.set_cons_zero, List.set_cons_succ]
  refine wpAnyH_take (i := 2) (v := ?v2) rfl (by kernel_rfl) (by kernel_rfl) (by kernel_rfl) (fun _ _ _ h => h) (Or.inl ⟨by kernel_rfl, ?y2⟩) hHeld ?r2
  case y2 => (intro W hSW; (try dsimp only at hSW); go_simp; (try with_reducible rfl))
  change wpAnyH _ _ _ _ _ _ _ (Act.put _ (some 7) _) _
  simp only [Act.put, List.setIfInBounds_toArray, List.set_cons_zero, List.set_cons_succ]
  refine wpAnyH_ready (rs := [3]) (by kernel_rfl) (by simp) ?_
  refine AllReadyH.cons rfl (fun K hK => ?_) AllReadyH.nil
  go_simp
  refine (H54.out _ (HL1.out)).mono ?_
  rintro e w2 ⟨rfl, hB2⟩
  refine hK.out _ _ ((hB2.block w.heap.size HLT.out).trans HROW.out) (fun hHeld => ?_)
  clear hK K
  try simp only [Act.put, List.setIfInBounds_toArray, List.set_cons_zero, List.set_cons_succ]
  have hB2' : Below w.heap.size w w2 := HB1.out.trans (undrew (hB2.mono (Nat.le_of_lt HLT.out)))
  refine wpAnyH_ready (rs := [4]) (by kernel_rfl) (by simp) ?_
  refine AllReadyH.cons rfl (fun K hK => ?_) AllReadyH.nil
  go_simp
  refine (H92.out _ (HL.out.below hB2')).mono ?_
  rintro e w3 ⟨rfl, hB3⟩
  refine hK.out _ _ ((hB3.block w.heap.size (Nat.lt_of_lt_of_le HLT.out hB2.size)).trans ((hB2.block w.heap.size HLT.out).trans HROW.out)) (fun hHeld => ?_)
  clear hK K
  try simp only [Act.put, List.setIfInBounds_toArray, List.set_cons_zero, List.set_cons_succ]
  refine wpAnyH_take (i := 5) (v := ?v5) rfl (by kernel_rfl) (by kernel_rfl) (by kernel_rfl) (fun _ _ _ h => h) (Or.inl ⟨by kernel_rfl, ?y5⟩) hHeld ?r5
  case y5 => (intro W hSW; (try dsimp only at hSW); go_simp; (try with_reducible rfl))
  change wpAnyH _ _ _ _ _ _ _ (Act.put _ (some 4) _) _
  simp only [Act.put, List.setIfInBounds_toArray, List.set_cons_zero, List.set_cons_succ]
  refine wpAnyH_done (by kernel_rfl) ?_ _
  go_wp2
  go_ret
  exact ⟨rfl, hB2'.trans (hB3.mono hB2'.size)⟩

set_option maxRecDepth 100000 in
set_option maxHeartbeats 1000000 in
theorem seal_any (k t : ByteArray) (w : World) (hk : k.size ≤ 1000000000) (ht : t.size ≤ 1000000000) (hL : Laid w) :
    Calls Tryd.prog 19 #[.string k, .string t] w fun e w' => e = .returned (.string (strOf (sealL k.data.toList t.data.toList))) ∧ Below w.heap.size w w' := by
  have HK : Hid (Calls Tryd.prog 23 #[.string k] w fun e w' => e = .returned (.agg (u8v (blockOf k.data.toList))) ∧ Below w.heap.size w w') := key_any k w hk hL
  have HS : Hid (∀ W, Below w.heap.size w W → Calls Tryd.prog 24 #[.agg (u8v (blockOf k.data.toList)), .string t] W fun e w' => e = .returned (.string (strOf (sealL k.data.toList t.data.toList))) ∧ Below w.heap.size w w') := by
    intro W hB
    refine (sealby_any (blockOf k.data.toList) t W (blockOf_len _) ht (hL.below hB)).mono ?_
    rintro e w' ⟨rfl, hB'⟩
    exact ⟨rfl, hB.trans (hB'.mono hB.size)⟩
  clear hL
  go_enter Tryd.func19, Tryd.ntmps19
  go_wp2_with fail
  refine HK.out.mono ?_
  rintro e w2 ⟨rfl, hB2⟩
  have HS2 := HS.out w2 hB2
  go_wp2_with fail
  refine HS2.mono ?_
  rintro e w3 ⟨rfl, hB3⟩
  go_wp2
  go_ret
  exact ⟨rfl, hB3⟩
end Go.Proofs.YtbflkkffpcaakabDoor
