/- A walk over the document's One. -/
import Derived.Test.YthmikfkdjnidmaaDoorGN
import Derived.Test.YthmikfkdjnidmaaDoorEA
namespace Go.Proofs.YthmikfkdjnidmaaDoor
open Go.RowKit
set_option maxRecDepth 100000 in
set_option maxHeartbeats 1000000 in
theorem refone_any (k b : ByteArray) (w : World) (hk : k.size ≤ 1000000) (hb : b.size ≤ 5000) :
    Calls Tryd.prog 11 #[.string k, .string b] w fun e w' => e = .returned (.agg #[.int .u32 ((sgOf k b).1 : Int), .string (sgOf k b).2]) ∧ Below w.heap.size w w' := by
  obtain ⟨rb, hrb⟩ : ∃ rb, w.heap.size = rb := ⟨_, rfl⟩
  obtain ⟨W1, hW1⟩ : ∃ W1, w.alloc (.cells #[.int .u32 0, .string ⟨#[]⟩] 25) = W1 := ⟨_, rfl⟩
  have r1 : W1.heap[rb]? = some (.cells #[.int .u32 0, .string ⟨#[]⟩] 25 (0, 0)) := by rw [← hW1, ← hrb]; exact heap_alloc_new w _
  have hb1 : Below w.heap.size w W1 := by rw [← hW1]; exact (Below.refl _ w).alloc (Nat.le_refl _) _
  have HS : Calls Tryd.prog 24 #[.string b] W1 fun e w' => e = .returned (.int .u32 (wsum b.data.toList : Int)) ∧ w' = W1 := rsum_any b.data.toList W1 (by rw [Array.length_toList]; exact hb)
  obtain ⟨O, hO⟩ : ∃ O, strOf (sealL k.data.toList b.data.toList) = O := ⟨_, rfl⟩
  have hOs : O.size = 32 := by rw [← hO, strOf_size, sealL_len]
  have HSE : Calls Tryd.prog 25 #[.string k, .string b] W1 fun e w' => e = .returned (.string O) ∧ Below W1.heap.size W1 w' := by rw [← hO]; exact refseal_any k b W1 hk (by omega)
  obtain ⟨s, hs⟩ : ∃ s, wsum b.data.toList = s := ⟨_, rfl⟩
  obtain ⟨Q, hQ⟩ : ∃ Q, O.extract 0 16 = Q := ⟨_, rfl⟩
  have e : sgOf k b = (s, Q) := by unfold sgOf stg; rw [hs, hO, hQ]
  rw [e]
  rw [hs] at HS
  have HH : Hid (Below w.heap.size w W1 ∧ W1.heap[rb]? = some (.cells #[.int .u32 0, .string ⟨#[]⟩] 25 (0, 0)) ∧ w.heap.size = rb) := ⟨hb1, r1, hrb⟩
  have k16 : (16 : Int) ≤ (O.size : Int) := by omega
  clear r1 hb1 hO hs e
  go_enter Tryd.func11, Tryd.ntmps11
  go_wp2_with fail
  refine HS.mono ?_
  rintro e V ⟨rfl, hV⟩
  subst V
  clear HS
  go_wp2_with fail
  refine HSE.mono ?_
  rintro e V ⟨rfl, hb3⟩
  have HV : Hid (Below w.heap.size w V ∧ V.heap[rb]? = some (.cells #[.int .u32 0, .string ⟨#[]⟩] 25 (0, 0))) := ⟨HH.out.1.trans (hb3.mono HH.out.1.size), (hb3.block rb (lt_of_some HH.out.2.1)).trans HH.out.2.1⟩
  have z0 : V.cell? ⟨rb, 0, none⟩ = some (.int .u32 0) := by rw [cell_of_row _ _ _ _ _ _ HV.out.2]; rfl
  have z1 : V.cell? ⟨rb, 1, none⟩ = some (.string ⟨#[]⟩) := by rw [cell_of_row _ _ _ _ _ _ HV.out.2]; rfl
  have f0 := frozen_of_row V rb 0 _ _ HV.out.2
  have f1 := frozen_of_row V rb 1 _ _ HV.out.2
  clear HSE hb3
  go_wp2
  refine bodyPost_ret (v := .agg #[.int .u32 (s : Int), .string Q]) ?_ rfl ⟨rfl, (HV.out.1.setCell (by show _ ≤ rb; have := HH.out.2.2; omega) _).setCell (by show _ ≤ rb; have := HH.out.2.2; omega) _⟩
  exact res_sg (fn := Tryd.f11) (p := 4) (by rfl) _ _ rb _ (by rfl) (set2 HV.out.2 _ _) infoS2
end Go.Proofs.YthmikfkdjnidmaaDoor
