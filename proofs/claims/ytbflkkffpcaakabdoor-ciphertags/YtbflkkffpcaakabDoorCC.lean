/- Walk over the program's keyBlock. -/
import Derived.Test.YtbflkkffpcaakabDoorCB
import Derived.Lib.BufferWrite
namespace Go.Proofs.YtbflkkffpcaakabDoor
open Go.RowKit
theorem zeroB (W : World) : (zeroValue 43).run Tryd.prog W = .ok (.agg (u8v zeros64)) W := by kernel_rfl
theorem litB : u8v zeros64 = #[Value.int IntKind.u8 0, Value.int IntKind.u8 0, Value.int IntKind.u8 0, Value.int IntKind.u8 0, Value.int IntKind.u8 0, Value.int IntKind.u8 0, Value.int IntKind.u8 0, Value.int IntKind.u8 0, Value.int IntKind.u8 0, Value.int IntKind.u8 0, Value.int IntKind.u8 0, Value.int IntKind.u8 0, Value.int IntKind.u8 0, Value.int IntKind.u8 0, Value.int IntKind.u8 0, Value.int IntKind.u8 0, Value.int IntKind.u8 0, Value.int IntKind.u8 0, Value.int IntKind.u8 0, Value.int IntKind.u8 0, Value.int IntKind.u8 0, Value.int IntKind.u8 0, Value.int IntKind.u8 0, Value.int IntKind.u8 0, Value.int IntKind.u8 0, Value.int IntKind.u8 0, Value.int IntKind.u8 0, Value.int IntKind.u8 0, Value.int IntKind.u8 0, Value.int IntKind.u8 0, Value.int IntKind.u8 0, Value.int IntKind.u8 0, Value.int IntKind.u8 0, Value.int IntKind.u8 0, Value.int IntKind.u8 0, Value.int IntKind.u8 0, Value.int IntKind.u8 0, Value.int IntKind.u8 0, Value.int IntKind.u8 0, Value.int IntKind.u8 0, Value.int IntKind.u8 0, Value.int IntKind.u8 0, Value.int IntKind.u8 0, Value.int IntKind.u8 0, Value.int IntKind.u8 0, Value.int IntKind.u8 0, Value.int IntKind.u8 0, Value.int IntKind.u8 0, Value.int IntKind.u8 0, Value.int IntKind.u8 0, Value.int IntKind.u8 0, Value.int IntKind.u8 0, Value.int IntKind.u8 0, Value.int IntKind.u8 0, Value.int IntKind.u8 0, Value.int IntKind.u8 0, Value.int IntKind.u8 0, Value.int IntKind.u8 0, Value.int IntKind.u8 0, Value.int IntKind.u8 0, Value.int IntKind.u8 0, Value.int IntKind.u8 0, Value.int IntKind.u8 0, Value.int IntKind.u8 0] := by rfl
theorem infoB (l : List UInt8) (h : l.length = 64) : (Tryd.prog.info? 43).map (·.size) = some (u8v l).size := by rw [u8v_size, h]; kernel_rfl
/-- A short key with noughts behind it. -/
def fill (k : List UInt8) : List UInt8 := k ++ List.replicate (64 - k.length) 0
theorem fill_len (k : List UInt8) (h : k.length ≤ 64) : (fill k).length = 64 := by simp [fill]; omega
theorem put_key (W : World) (g : Nat) (k : ByteArray) (hk : k.size ≤ 64) (h : W.heap[g]? = some (.cells (u8v zeros64) 43 (0, 0))) :
    (Builtin.copy_ #[29, 9] 3 #[.slice (some ⟨g, 0, none⟩) 64 64, .string k]).run Tryd.prog W = .ok (.int .i64 (k.size : Int)) (W.setRow g (u8v (fill k.data.toList))) := by
  rw [Lib.run_copy_row_string W 29 9 3 5 g 0 64 64 k (u8v zeros64) 43 Tryd.underlying29 (by kernel_rfl) h hk (by rw [u8v_size]; show 0 + k.size ≤ 64; omega)]
  congr 2
  have hl : k.data.toList.length = k.size := by rw [Array.length_toList]; rfl
  have e0 : (u8v zeros64).toList = List.replicate 64 (Value.int .u8 0) := by rfl
  rw [e0, List.take_zero, List.nil_append, Nat.zero_add, List.drop_replicate]
  unfold fill u8v
  rw [List.map_append, List.map_replicate, hl]
  rfl
theorem storeB (W : World) (g : Nat) (l l0 : List UInt8) (hl : l.length = 64) (hl0 : l0.length = 64) (hg : W.heap[g]? = some (.cells (u8v l0) 43 (0, 0))) :
    (storeCells ⟨g, 0, none⟩ (u8v l).toList).run Tryd.prog W = .ok () (W.setRow g (u8v l)) := by
  have hz : (u8v l).toList.length = 64 := by rw [Array.length_toList, u8v_size, hl]
  rw [run_storeCells_at Tryd.prog g 0 43 _ 0 _ W hg (by rw [hz, u8v_size, hl0]; omega) (u8v_all l)]
  congr 2
  rw [hz, List.drop_eq_nil_of_le (by rw [Array.length_toList, u8v_size, hl0]; omega)]
  simp
/-- The end of keyBlock: what is laid and copied. -/
theorem key_end (w V : World) (k : ByteArray) (hk : k.size ≤ 64) (hz : V.heap[w.heap.size]? = some (.cells (u8v zeros64) 43 (0, 0))) (hB : Below w.heap.size w V) :
    ∃ A Z, (Builtin.copy_ #[29, 9] 3 #[.slice (some ⟨V.heap.size, 0, none⟩) 64 64, .string k]).run Tryd.prog (V.alloc (.cells (u8v zeros64) 43)) = .ok (.int .i64 (k.size : Int)) A ∧
      A.heap[V.heap.size]? = some (.cells (u8v (fill k.data.toList)) 43 (0, 0)) ∧
      (storeCells ⟨w.heap.size, 0, none⟩ (u8v (fill k.data.toList)).toList).run Tryd.prog A = .ok () Z ∧
      Z.heap[w.heap.size]? = some (.cells (u8v (fill k.data.toList)) 43 (0, 0)) ∧ Below w.heap.size w Z := by
  have hs := hB.size
  have hlt : w.heap.size < V.heap.size := lt_of_some hz
  have hf : (fill k.data.toList).length = 64 := fill_len _ (by rw [Array.length_toList]; exact hk)
  generalize hZ : u8v zeros64 = z0 at hz
  generalize hF : fill k.data.toList = f at hf
  have h1 := put_key (V.alloc (.cells z0 43)) V.heap.size k hk (by rw [hZ]; exact heap_alloc_new V _)
  rw [hF] at h1
  have h2 : ((V.alloc (.cells z0 43)).setRow V.heap.size (u8v f)).heap[w.heap.size]? = some (.cells z0 43 (0, 0)) := by
    rw [setRow_other _ _ _ _ (by omega), Go.heap_alloc_old _ _ hlt]; exact hz
  refine ⟨_, _, h1, setRow_heap _ _ _ _ _ _ (heap_alloc_new V (.cells z0 43)), storeB _ w.heap.size f zeros64 hf rfl (by rw [hZ]; exact h2), setRow_heap _ _ _ _ _ _ h2, ?_⟩
  exact Go.Proofs.YtbflkkffpcaakabDoor.below_setRow (Go.Proofs.YtbflkkffpcaakabDoor.below_setRow (hB.alloc hs _) _ hs _) _ (Nat.le_refl _) _

set_option maxRecDepth 100000 in
set_option maxHeartbeats 1000000 in
theorem key_any (k : ByteArray) (w : World) (hk : k.size ≤ 1000000000) (hL : Laid w) :
    Calls Tryd.prog 23 #[.string k] w fun e w' => e = .returned (.agg (u8v (blockOf k.data.toList))) ∧ Below w.heap.size w w' := by
  have hkl : k.data.toList.length = k.size := by rw [Array.length_toList]; rfl
  by_cases hs : 64 < k.size
  · have HE : Hid (blockOf k.data.toList = fill (digest k.data.toList)) := by
      show _ = _
      unfold blockOf keyOf fill
      rw [if_pos (by omega)]
    obtain ⟨W1, hW1⟩ : ∃ W, W = w.alloc (.cells (u8v zeros64) 43) := ⟨_, rfl⟩
    have hz1 : W1.heap[w.heap.size]? = some (.cells (u8v zeros64) 43 (0, 0)) := by rw [hW1]; exact heap_alloc_new _ _
    have hb1 : Below w.heap.size w W1 := by rw [hW1]; exact (Below.refl _ w).alloc (Nat.le_refl _) _
    have hlt1 : w.heap.size < W1.heap.size := lt_of_some hz1
    obtain ⟨cap, W2, hcv, hc1, hc2, hB2, hs2, hcl⟩ := bytes_of W1 k (by omega)
    have HS : Hid (Calls Tryd.prog 26 #[.slice (some ⟨W1.heap.size, 0, none⟩) k.size cap] W2 fun e w3 => e = .returned (.string (strOf (digest k.data.toList))) ∧ Below w.heap.size w w3 ∧ w3.heap[w.heap.size]? = some (.cells (u8v zeros64) 43 (0, 0))) := by
      refine (sum_is (some ⟨W1.heap.size, 0, none⟩) k.size cap k.data.toList W2 ⟨hkl, hc1, hc2, fun _ => ⟨W1.heap.size, 0, rfl, hs2, fun i hi => by rw [Nat.zero_add]; exact hcl i hi⟩⟩ (by omega) (hL.below (hb1.trans (hB2.mono (by omega))))).mono ?_
      rintro e w3 ⟨rfl, hB3⟩
      exact ⟨rfl, (hb1.trans (hB2.mono (by omega))).trans (hB3.mono (by omega)), (hB3.block _ (by omega)).trans ((hB2.block _ (by omega)).trans hz1)⟩
    have hki : decide ((k.size : Int) > 64) = true := by simp; omega
    have hkj : (64 : Int) < (k.size : Int) := by omega
    have hsz1 : W1.heap.size = w.heap.size + 1 := by rw [hW1]; simp
    rw [hsz1] at hcv HS
    rw [hW1, litB] at hcv
    clear hW1 hz1 hb1 hlt1 hsz1 hc1 hc2 hB2 hs2 hcl hL
    go_enter Tryd.func23, Tryd.ntmps23
    go_wp2_with fail
    refine HS.out.mono ?_
    rintro e w3 ⟨rfl, hB3, hz3⟩
    have hs32 : (strOf (digest k.data.toList)).size ≤ 64 := by rw [strOf_size, digest_len]; omega
    obtain ⟨A, Z, hcp, hra, hst, hrz, hbz⟩ := key_end w w3 (strOf (digest k.data.toList)) hs32 hz3 hB3
    rw [strOf_list, ← HE.out] at hra hst hrz
    rw [litB] at hcp
    have hsz : (u8v (blockOf k.data.toList)).size = 64 := by rw [u8v_size, blockOf_len]
    have HI := infoB _ (blockOf_len k.data.toList)
    have HR : Hid (A.heap[w3.heap.size]? = some (.cells (u8v (blockOf k.data.toList)) 43 (0, 0))) := hra
    clear hcv hB3 hz3 hra hki hkj HS HE
    go_wp2_with (first | (refine wpList_load_row rfl 43 _ rfl w3.heap.size rfl 43 (u8v (blockOf k.data.toList)) (0, 0) _ HR.out Tryd.underlying43 rfl HI ?_))
    refine bodyPost_ret (v := .agg (u8v (blockOf k.data.toList))) ?_ rfl ⟨rfl, hbz⟩
    exact results_cell_row rfl _ _ w.heap.size 43 _ (0, 0) _ rfl hrz Tryd.underlying43 rfl HI
  · have HE : blockOf k.data.toList = fill k.data.toList := by
      unfold blockOf keyOf fill
      rw [if_neg (by omega)]
    obtain ⟨W1, hW1⟩ : ∃ W, W = w.alloc (.cells (u8v zeros64) 43) := ⟨_, rfl⟩
    have hz1 : W1.heap[w.heap.size]? = some (.cells (u8v zeros64) 43 (0, 0)) := by rw [hW1]; exact heap_alloc_new _ _
    have hb1 : Below w.heap.size w W1 := by rw [hW1]; exact (Below.refl _ w).alloc (Nat.le_refl _) _
    have hsz1 : W1.heap.size = w.heap.size + 1 := by rw [hW1]; simp
    obtain ⟨A, Z, hcp, hra, hst, hrz, hbz⟩ := key_end w W1 k (by omega) hz1 hb1
    rw [← HE] at hra hst hrz
    rw [hsz1] at hcp hra
    rw [hW1, litB] at hcp
    have hsz : (u8v (blockOf k.data.toList)).size = 64 := by rw [u8v_size, blockOf_len]
    have HI := infoB _ (blockOf_len k.data.toList)
    have HR : Hid (A.heap[w.heap.size + 1]? = some (.cells (u8v (blockOf k.data.toList)) 43 (0, 0))) := hra
    have hkj : ¬ (64 : Int) < (k.size : Int) := by omega
    clear hW1 hz1 hb1 hra HE hL hsz1
    go_enter Tryd.func23, Tryd.ntmps23
    go_wp2_with (first | (refine wpList_load_row rfl 43 _ rfl (w.heap.size + 1) rfl 43 (u8v (blockOf k.data.toList)) (0, 0) _ HR.out Tryd.underlying43 rfl HI ?_))
    refine bodyPost_ret (v := .agg (u8v (blockOf k.data.toList))) ?_ rfl ⟨rfl, hbz⟩
    exact results_cell_row rfl _ _ w.heap.size 43 _ (0, 0) _ rfl hrz Tryd.underlying43 rfl HI
end Go.Proofs.YtbflkkffpcaakabDoor
