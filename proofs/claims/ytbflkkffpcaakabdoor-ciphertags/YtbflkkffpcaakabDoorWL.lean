/- Walks over the program's fits and Block. -/
import Derived.Test.YtbflkkffpcaakabDoorWK
import Derived.Test.YtbflkkffpcaakabDoorWI
namespace Go.Proofs.YtbflkkffpcaakabDoor
open Go.RowKit
set_option maxRecDepth 100000 in
theorem fits_yes (k n : ByteArray) (w : World) (hk : k.size = 32) (hn : n.size = 12) :
    Calls Tryd.prog 15 #[.string k, .string n] w fun e w' => e = .returned (.bool true) ∧ w' = w := by
  go_enter Tryd.func15, Tryd.ntmps15
  go_wp2
  go_ret
  exact ⟨rfl, rfl⟩
set_option maxRecDepth 100000 in
theorem fits_no (k n : ByteArray) (w : World) (h : ¬ (k.size = 32 ∧ n.size = 12)) (hk : k.size ≤ 140737488351232) :
    Calls Tryd.prog 15 #[.string k, .string n] w fun e w' => e = .returned (.bool false) ∧ w' = w := by
  obtain ⟨K, hK⟩ : ∃ K, k.size = K := ⟨_, rfl⟩
  obtain ⟨N, hN⟩ : ∃ N, n.size = N := ⟨_, rfl⟩
  rw [hK] at h hk
  rw [hN] at h
  by_cases h1 : K = 32
  · subst h1
    have h2 : ¬ N = 12 := fun e => h ⟨rfl, e⟩
    have k2 : ¬ (N : Int) = 12 := by omega
    have k3 : ((N : Int) == 12) = false := by simpa using k2
    clear h h2
    go_enter Tryd.func15, Tryd.ntmps15
    go_wp2
    go_ret
    exact ⟨rfl, rfl⟩
  · have k2 : ¬ (K : Int) = 32 := by omega
    have k3 : ((K : Int) == 32) = false := by simpa using k2
    clear h h1
    go_enter Tryd.func15, Tryd.ntmps15
    go_wp2
    go_ret
    exact ⟨rfl, rfl⟩
set_option maxRecDepth 100000 in
theorem block_bad (key nonce : ByteArray) (n : Nat) (w : World) (h : ¬ (key.size = 32 ∧ nonce.size = 12)) (hk : key.size ≤ 140737488351232) :
    Calls Tryd.prog 9 #[.string key, .string nonce, .int .u32 (n : Int)] w fun e w' => e = .returned (.tuple #[.string ByteArray.empty, .int .i64 1]) ∧ w' = w := by
  have HF := fits_no key nonce w h hk
  clear h hk
  go_enter Tryd.func9, Tryd.ntmps9
  go_wp2_with fail
  refine HF.mono ?_
  rintro e w' ⟨rfl, hw'⟩
  subst w'
  clear HF
  go_wp2
  refine bodyPost_ret (v := .tuple #[.string ByteArray.empty, .int .i64 1]) ?_ rfl ⟨rfl, rfl⟩
  simp [results, go_sem]
  rfl
set_option maxRecDepth 100000 in
set_option maxHeartbeats 2000000 in
theorem cblock_any (key nonce : ByteArray) (n : Nat) (w : World) (hk : key.size = 32) (hn : nonce.size = 12) (hnn : n < 4294967296) (hL : Laid w) :
    Calls Tryd.prog 9 #[.string key, .string nonce, .int .u32 (n : Int)] w fun e w' => e = .returned (.tuple #[.string (strOf (blockL ((firstL key.data.toList nonce.data.toList).set 12 n))), .int .i64 0]) ∧ Below w.heap.size w w' := by
  have HF := fits_yes key nonce w hk hn
  have HW := first_any key nonce w hk hn
  obtain ⟨f, hf⟩ : ∃ f, firstL key.data.toList nonce.data.toList = f := ⟨_, rfl⟩
  rw [hf] at HW
  have hfl : f.length = 16 := by rw [← hf, firstL_len]
  have hfw : Wd f := by rw [← hf]; exact firstL_wd _ _
  obtain ⟨F, hF⟩ : ∃ F, f.set 12 n = F := ⟨_, rfl⟩
  have hFl : F.length = 16 := by rw [← hF, List.length_set, hfl]
  have hFw : Wd F := by rw [← hF]; exact hfw.set 12 hnn
  have HI := infoU16 f hfl
  have HIF := infoU16 F hFl
  have HX : Hid (f.length = 16 ∧ F.length = 16 ∧ f.set 12 n = F ∧ Wd F) := ⟨hfl, hFl, hF, hFw⟩
  have HL : Hid (Laid w) := hL
  rw [hf, hF]
  clear hf hF hfl hFl hfw hFw hL hk hn hnn
  go_enter Tryd.func9, Tryd.ntmps9
  go_wp2_with fail
  refine HF.mono ?_
  rintro e w' ⟨rfl, hw'⟩
  subst w'
  clear HF
  go_wp2_with fail
  refine HW.mono ?_
  rintro e V ⟨rfl, hbV⟩
  obtain ⟨A, hA⟩ : ∃ A, V.heap.size = A := ⟨_, rfl⟩
  obtain ⟨W1, hW1⟩ : ∃ W, V.alloc (.cells #[Value.int IntKind.u32 0, Value.int IntKind.u32 0, Value.int IntKind.u32 0, Value.int IntKind.u32 0, Value.int IntKind.u32 0, Value.int IntKind.u32 0, Value.int IntKind.u32 0, Value.int IntKind.u32 0, Value.int IntKind.u32 0, Value.int IntKind.u32 0, Value.int IntKind.u32 0, Value.int IntKind.u32 0, Value.int IntKind.u32 0, Value.int IntKind.u32 0, Value.int IntKind.u32 0, Value.int IntKind.u32 0] 41) = W := ⟨_, rfl⟩
  have hr0 : (V.alloc (.cells (u32v zeros16) 41)).heap[A]? = some (.cells (u32v zeros16) 41 (0, 0)) := by rw [← hA]; exact heap_alloc_new _ _
  replace hr0 : W1.heap[A]? = some (.cells (u32v zeros16) 41 (0, 0)) := by rw [← hW1]; exact hr0
  have hb1 : Below w.heap.size w W1 := by rw [← hW1]; exact hbV.alloc hbV.size _
  have hwA : w.heap.size ≤ A := by rw [← hA]; exact hbV.size
  obtain ⟨W2, hW2⟩ : ∃ W, W1.setRow A (u32v f) = W := ⟨_, rfl⟩
  have hr2 : W2.heap[A]? = some (.cells (u32v f) 41 (0, 0)) := by rw [← hW2]; exact setRow_heap _ _ _ _ _ _ hr0
  have hb2 : Below w.heap.size w W2 := by rw [← hW2]; exact below_setRow hb1 A hwA _
  have c12 : W2.cell? ⟨A, 12, none⟩ = some (.int .u32 ((f.getD 12 0 : Nat) : Int)) := by rw [cell_of_row _ _ _ _ _ _ hr2, u32v_get _ _ (by rw [HX.out.1]; omega)]
  have f12 : W2.frozen? ⟨A, 12, none⟩ = false := frozen_of_row _ _ _ _ _ hr2
  obtain ⟨W3, hW3⟩ : ∃ W, W2.setCell ⟨A, 12, none⟩ (.int .u32 (n : Int)) = W := ⟨_, rfl⟩
  have hr3 : W3.heap[A]? = some (.cells (u32v F) 41 (0, 0)) := by rw [← hW3, heap_setCell_same _ _ _ _ _ _ hr2, u32v_set, HX.out.2.2.1]
  have hb3 : Below w.heap.size w W3 := by rw [← hW3]; exact hb2.setCell hwA _
  have HR : Hid (W1.heap[A]? = some (.cells (u32v zeros16) 41 (0, 0)) ∧ W3.heap[A]? = some (.cells (u32v F) 41 (0, 0)) ∧ Below w.heap.size w W3) := ⟨hr0, hr3, hb3⟩
  have HC : Hid (Calls Tryd.prog 17 #[.agg (u32v F)] W3 fun e w' => e = .returned (.agg (u8v (blockL F))) ∧ Below W3.heap.size W3 w') := block_any F W3 HX.out.2.1 HX.out.2.2.2 (HL.out.below hb3)
  clear hbV hb1 hr2 hb2 hr3 hb3 hr0 HW
  go_wp2_with (first | (refine wpList_store_row rfl 41 _ _ rfl A (u32v f) rfl rfl 41 (u32v zeros16) HR.out.1 HI (by rw [u32v_size, u32v_size, HX.out.1]; rfl) (u32v_all _) ?_) | (refine wpList_load_row rfl 41 _ rfl A rfl 41 (u32v F) (0, 0) _ HR.out.2.1 Tryd.underlying41 rfl HIF ?_) | fail)
  refine HC.out.mono ?_
  rintro e V4 ⟨rfl, hb4⟩
  have HB4 : Hid (Below w.heap.size w V4) := HR.out.2.2.trans (hb4.mono HR.out.2.2.size)
  obtain ⟨G, hG⟩ : ∃ G, V4.heap.size = G := ⟨_, rfl⟩
  have hwG : w.heap.size ≤ G := by rw [← hG]; exact HB4.out.size
  obtain ⟨W5, hW5⟩ : ∃ W, V4.alloc (.cells #[Value.int IntKind.u8 0, Value.int IntKind.u8 0, Value.int IntKind.u8 0, Value.int IntKind.u8 0, Value.int IntKind.u8 0, Value.int IntKind.u8 0, Value.int IntKind.u8 0, Value.int IntKind.u8 0, Value.int IntKind.u8 0, Value.int IntKind.u8 0, Value.int IntKind.u8 0, Value.int IntKind.u8 0, Value.int IntKind.u8 0, Value.int IntKind.u8 0, Value.int IntKind.u8 0, Value.int IntKind.u8 0, Value.int IntKind.u8 0, Value.int IntKind.u8 0, Value.int IntKind.u8 0, Value.int IntKind.u8 0, Value.int IntKind.u8 0, Value.int IntKind.u8 0, Value.int IntKind.u8 0, Value.int IntKind.u8 0, Value.int IntKind.u8 0, Value.int IntKind.u8 0, Value.int IntKind.u8 0, Value.int IntKind.u8 0, Value.int IntKind.u8 0, Value.int IntKind.u8 0, Value.int IntKind.u8 0, Value.int IntKind.u8 0, Value.int IntKind.u8 0, Value.int IntKind.u8 0, Value.int IntKind.u8 0, Value.int IntKind.u8 0, Value.int IntKind.u8 0, Value.int IntKind.u8 0, Value.int IntKind.u8 0, Value.int IntKind.u8 0, Value.int IntKind.u8 0, Value.int IntKind.u8 0, Value.int IntKind.u8 0, Value.int IntKind.u8 0, Value.int IntKind.u8 0, Value.int IntKind.u8 0, Value.int IntKind.u8 0, Value.int IntKind.u8 0, Value.int IntKind.u8 0, Value.int IntKind.u8 0, Value.int IntKind.u8 0, Value.int IntKind.u8 0, Value.int IntKind.u8 0, Value.int IntKind.u8 0, Value.int IntKind.u8 0, Value.int IntKind.u8 0, Value.int IntKind.u8 0, Value.int IntKind.u8 0, Value.int IntKind.u8 0, Value.int IntKind.u8 0, Value.int IntKind.u8 0, Value.int IntKind.u8 0, Value.int IntKind.u8 0, Value.int IntKind.u8 0] 43) = W := ⟨_, rfl⟩
  have hr5 : (V4.alloc (.cells (u8v zeros64) 43)).heap[G]? = some (.cells (u8v zeros64) 43 (0, 0)) := by rw [← hG]; exact heap_alloc_new _ _
  replace hr5 : W5.heap[G]? = some (.cells (u8v zeros64) 43 (0, 0)) := by rw [← hW5]; exact hr5
  have hb5 : Below w.heap.size w W5 := by rw [← hW5]; exact HB4.out.alloc HB4.out.size _
  obtain ⟨W6, hW6⟩ : ∃ W, W5.setRow G (u8v (blockL F)) = W := ⟨_, rfl⟩
  have hr6 : W6.heap[G]? = some (.cells (u8v (blockL F)) 43 (0, 0)) := by rw [← hW6]; exact setRow_heap _ _ _ _ _ _ hr5
  have hb6 : Below w.heap.size w W6 := by rw [← hW6]; exact below_setRow hb5 G hwG _
  have hcv := fun c => conv_row W6 G 0 64 c (blockL F) (blockL_len F) (fun i hi => by rw [Nat.zero_add, cell_of_row _ _ _ _ _ _ hr6, u8v_get _ _ (by rw [blockL_len]; exact hi)])
  have HE : Hid (W5.heap[G]? = some (.cells (u8v zeros64) 43 (0, 0)) ∧ Below w.heap.size w W6) := ⟨hr5, hb6⟩
  have HIB := infoB (blockL F) (blockL_len F)
  clear HC HI HIF HR c12 f12 hr5 hb5 hr6 hb6 hb4 hwG hW1 hW2 hW3 hA hwA HB4
  go_wp2_with (first | (refine wpList_store_row rfl 43 _ _ rfl G (u8v (blockL F)) rfl rfl 43 (u8v zeros64) HE.out.1 HIB (by rw [u8v_size, u8v_size, blockL_len]; rfl) (by rw [Array.all_eq_true_iff_forall_mem]; intro v hv; exact u8v_all _ v (by simpa using hv)) ?_))
  refine bodyPost_ret (v := .tuple #[.string (strOf (blockL F)), .int .i64 0]) ?_ rfl ⟨rfl, HE.out.2⟩
  simp [results, go_sem]
end Go.Proofs.YtbflkkffpcaakabDoor
