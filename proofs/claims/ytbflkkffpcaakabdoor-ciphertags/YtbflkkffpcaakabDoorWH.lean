/- Walk over the program's blockBytes. -/
import Derived.Test.YtbflkkffpcaakabDoorWG
import Derived.Test.YtbflkkffpcaakabDoorCC
namespace Go.Proofs.YtbflkkffpcaakabDoor
open Go.RowKit
theorem blockWs_lt (f : List Nat) (i : Nat) : (blockWs f).getD i 0 < 4294967296 := by
  by_cases h : i < 16
  · rw [blockWs_at f i h]; exact addW_lt _ _
  · rw [List.getD_eq_getElem?_getD, List.getElem?_eq_none (by rw [blockWs_len]; omega)]; decide
/-- blockBytes' memory. -/
structure BkW (w0 : World) (B : Nat) (f s : List Nat) (wr : World) : Prop where
  rf : wr.heap[B]? = some (.cells (u32v f) 41 (0, 0))
  rz : wr.heap[B + 1]? = some (.cells (u8v zeros64) 43 (0, 0))
  rs : wr.heap[B + 2]? = some (.cells (u32v s) 41 (0, 0))
  bl : Below B w0 wr
theorem BkW.on {w0 wr w' : World} {B : Nat} {f s : List Nat} (h : BkW w0 B f s wr) (hb : Below wr.heap.size wr w') : BkW w0 B f s w' :=
  have h2 := lt_of_some h.rs
  ⟨(hb.block B (by omega)).trans h.rf, (hb.block (B + 1) (by omega)).trans h.rz, (hb.block (B + 2) h2).trans h.rs, h.bl.trans (hb.mono (by omega))⟩
/-- .. with its bytes. -/
structure BkZ (w0 : World) (B G : Nat) (f s : List Nat) (l : List UInt8) (wr : World) : Prop where
  b : BkW w0 B f s wr
  rl : wr.heap[G]? = some (.cells (u8v l) 43 (0, 0))
  hg : B + 2 < G
theorem BkZ.put {w0 wr : World} {B G : Nat} {f s : List Nat} {l : List UInt8} (h : BkZ w0 B G f s l wr) (i : Nat) (x : UInt8) : BkZ w0 B G f s (l.set i x) (wr.setCell ⟨G, i, none⟩ (.int .u8 (x.toNat : Int))) := by
  have hg := h.hg
  refine ⟨⟨?_, ?_, ?_, h.b.bl.setCell (by show B ≤ G; omega) _⟩, ?_, hg⟩
  · rw [heap_setCell_other _ _ _ _ (by show B ≠ G; omega)]; exact h.b.rf
  · rw [heap_setCell_other _ _ _ _ (by show B + 1 ≠ G; omega)]; exact h.b.rz
  · rw [heap_setCell_other _ _ _ _ (by show B + 2 ≠ G; omega)]; exact h.b.rs
  · rw [heap_setCell_same _ _ _ _ _ _ h.rl, u8v_set]
theorem BkZ.drew {w0 wr : World} {B G : Nat} {f s : List Nat} {l : List UInt8} (h : BkZ w0 B G f s l wr) : BkZ w0 B G f s l wr.drew := ⟨⟨h.b.rf, h.b.rz, h.b.rs, h.b.bl.drew⟩, h.rl, h.hg⟩
set_option maxRecDepth 100000 in
set_option maxHeartbeats 4000000 in
theorem block_any (f : List Nat) (w : World) (hf : f.length = 16) (hw : Wd f) (hL : Laid w) :
    Calls Tryd.prog 17 #[.agg (u32v f)] w fun e w' => e = .returned (.agg (u8v (blockL f))) ∧ Below w.heap.size w w' := by
  obtain ⟨B, hB⟩ : ∃ B, w.heap.size = B := ⟨_, rfl⟩
  have HLB : Hid (∀ V, Below B w V → Laid V) := fun V hV => hL.below (by rw [hB]; exact hV)
  obtain ⟨W1, hW1⟩ : ∃ W, ((w.alloc (.cells (u32v f) 41)).alloc (.cells #[Value.int IntKind.u8 0, Value.int IntKind.u8 0, Value.int IntKind.u8 0, Value.int IntKind.u8 0, Value.int IntKind.u8 0, Value.int IntKind.u8 0, Value.int IntKind.u8 0, Value.int IntKind.u8 0, Value.int IntKind.u8 0, Value.int IntKind.u8 0, Value.int IntKind.u8 0, Value.int IntKind.u8 0, Value.int IntKind.u8 0, Value.int IntKind.u8 0, Value.int IntKind.u8 0, Value.int IntKind.u8 0, Value.int IntKind.u8 0, Value.int IntKind.u8 0, Value.int IntKind.u8 0, Value.int IntKind.u8 0, Value.int IntKind.u8 0, Value.int IntKind.u8 0, Value.int IntKind.u8 0, Value.int IntKind.u8 0, Value.int IntKind.u8 0, Value.int IntKind.u8 0, Value.int IntKind.u8 0, Value.int IntKind.u8 0, Value.int IntKind.u8 0, Value.int IntKind.u8 0, Value.int IntKind.u8 0, Value.int IntKind.u8 0, Value.int IntKind.u8 0, Value.int IntKind.u8 0, Value.int IntKind.u8 0, Value.int IntKind.u8 0, Value.int IntKind.u8 0, Value.int IntKind.u8 0, Value.int IntKind.u8 0, Value.int IntKind.u8 0, Value.int IntKind.u8 0, Value.int IntKind.u8 0, Value.int IntKind.u8 0, Value.int IntKind.u8 0, Value.int IntKind.u8 0, Value.int IntKind.u8 0, Value.int IntKind.u8 0, Value.int IntKind.u8 0, Value.int IntKind.u8 0, Value.int IntKind.u8 0, Value.int IntKind.u8 0, Value.int IntKind.u8 0, Value.int IntKind.u8 0, Value.int IntKind.u8 0, Value.int IntKind.u8 0, Value.int IntKind.u8 0, Value.int IntKind.u8 0, Value.int IntKind.u8 0, Value.int IntKind.u8 0, Value.int IntKind.u8 0, Value.int IntKind.u8 0, Value.int IntKind.u8 0, Value.int IntKind.u8 0, Value.int IntKind.u8 0] 43)) = W := ⟨_, rfl⟩
  have hRF : W1.heap[B]? = some (.cells (u32v f) 41 (0, 0)) := by
    rw [← hW1, ← hB, Go.heap_alloc_old _ _ (by simp)]; exact heap_alloc_new _ _
  have hRZ : ((w.alloc (.cells (u32v f) 41)).alloc (.cells (u8v zeros64) 43)).heap[B + 1]? = some (.cells (u8v zeros64) 43 (0, 0)) := by
    have := heap_alloc_new (w.alloc (.cells (u32v f) 41)) (.cells (u8v zeros64) 43)
    rw [← hB]
    simpa using this
  replace hRZ : W1.heap[B + 1]? = some (.cells (u8v zeros64) 43 (0, 0)) := by rw [← hW1]; exact hRZ
  have hs1 : W1.heap.size = B + 2 := by rw [← hW1, ← hB]; simp
  have hbl : Below B w W1 := by rw [← hW1, ← hB]; exact ((Below.refl _ w).alloc (Nat.le_refl _) _).alloc (by simp) _
  have HI := infoU16 f hf
  obtain ⟨W2, hW2⟩ : ∃ W, W1.alloc (.cells #[Value.int IntKind.u32 0, Value.int IntKind.u32 0, Value.int IntKind.u32 0, Value.int IntKind.u32 0, Value.int IntKind.u32 0, Value.int IntKind.u32 0, Value.int IntKind.u32 0, Value.int IntKind.u32 0, Value.int IntKind.u32 0, Value.int IntKind.u32 0, Value.int IntKind.u32 0, Value.int IntKind.u32 0, Value.int IntKind.u32 0, Value.int IntKind.u32 0, Value.int IntKind.u32 0, Value.int IntKind.u32 0] 41) = W := ⟨_, rfl⟩
  have hr2 : (W1.alloc (.cells (u32v zeros16) 41)).heap[B + 2]? = some (.cells (u32v zeros16) 41 (0, 0)) := by rw [← hs1]; exact heap_alloc_new _ _
  replace hr2 : W2.heap[B + 2]? = some (.cells (u32v zeros16) 41 (0, 0)) := by rw [← hW2]; exact hr2
  have hb2 : Below W1.heap.size W1 W2 := by rw [← hW2]; exact (Below.refl _ _).alloc (Nat.le_refl _) _
  obtain ⟨W3, hW3⟩ : ∃ W, W2.setRow (B + 2) (u32v f) = W := ⟨_, rfl⟩
  have HST : Hid (BkW w B f (roundsL f 0) W3) := by
    show BkW w B f f W3
    rw [← hW3]
    refine ⟨?_, ?_, setRow_heap _ _ _ _ _ _ hr2, below_setRow (hbl.trans (hb2.mono (by omega))) (B + 2) (by omega) _⟩
    · rw [setRow_other _ _ _ _ (by omega)]; exact (hb2.block B (by omega)).trans hRF
    · rw [setRow_other _ _ _ _ (by omega)]; exact (hb2.block (B + 1) (by omega)).trans hRZ
  have HF : Hid (f.length = 16 ∧ Wd f) := ⟨hf, hw⟩
  have HB : Hid (w.heap.size = B) := hB
  have HR1 : Hid (W1.heap[B]? = some (.cells (u32v f) 41 (0, 0)) ∧ W2.heap[B + 2]? = some (.cells (u32v zeros16) 41 (0, 0))) := ⟨hRF, hr2⟩
  clear hRF hRZ hbl hr2 hb2 hf hw hL
  go_enter Tryd.func17, Tryd.ntmps17
  go_wp2_with (first | (refine wpList_load_row rfl 41 _ rfl B rfl 41 (u32v f) (0, 0) _ HR1.out.1 Tryd.underlying41 rfl HI ?_) | (refine wpList_store_row rfl 41 _ _ rfl (B + 2) (u32v f) rfl rfl 41 (u32v zeros16) HR1.out.2 HI (by rw [u32v_size, u32v_size, HF.out.1]; rfl) (u32v_all _) ?_))
  try rw [hW3]
  clear HR1 HI hW1 hW2 hW3 hs1
  go_loopw [7] (fun v7 wr => ∃ n : Nat, n ≤ 10 ∧ v7 = .int .i64 (n : Int) ∧ BkW w B f (roundsL f n) wr) (fun v _ => 10 - (intOf v).toNat)
  case atStart => exact ⟨0, by omega, rfl, HST.out⟩
  case round =>
    clear HST
    obtain ⟨n, hn, rfl, hrel⟩ := hrel
    by_cases hlt : n < 10
    · have kn : (n : Int) < 10 := by omega
      obtain ⟨S, hS⟩ : ∃ S, roundsL f n = S := ⟨_, rfl⟩
      rw [hS] at hrel
      have hSl : S.length = 16 := by rw [← hS, roundsL_len, HF.out.1]
      have hSw : Wd S := by rw [← hS]; exact roundsL_wd HF.out.2 n
      have HC := round_any S wr hSl hSw (HLB.out _ hrel.bl)
      have HI := infoU16 S hSl
      have HSN : Hid (roundN S 8 = roundsL f (n + 1)) := by show _ = _; rw [roundsL, hS]
      have HI2 := infoU16 (roundN S 8) (by rw [roundN_len, hSl])
      have HSL : Hid ((roundN S 8).length = S.length) := roundN_len S 8
      have HR : Hid (BkW w B f S wr) := hrel
      clear hrel hS hSl hSw
      go_wp2_with (first | (refine wpList_load_row rfl 41 _ rfl (B + 2) rfl 41 (u32v S) (0, 0) _ HR.out.rs Tryd.underlying41 rfl HI ?_) | fail)
      refine HC.mono ?_
      rintro e V ⟨rfl, hb⟩
      have HV : Hid (BkW w B f S V) := HR.out.on hb
      clear HC hb HR
      obtain ⟨V2, hV2⟩ : ∃ W, V.setRow (B + 2) (u32v (roundN S 8)) = W := ⟨_, rfl⟩
      have HN : Hid (BkW w B f (roundsL f (n + 1)) V2) := by
        show BkW w B f (roundsL f (n + 1)) V2
        rw [← hV2, ← HSN.out]
        exact ⟨by rw [setRow_other _ _ _ _ (by omega)]; exact HV.out.rf, by rw [setRow_other _ _ _ _ (by omega)]; exact HV.out.rz, setRow_heap _ _ _ _ _ _ HV.out.rs, below_setRow HV.out.bl (B + 2) (by omega) _⟩
      go_wp2_with (first | (refine wpList_store_row rfl 41 _ _ rfl (B + 2) (u32v (roundN S 8)) rfl rfl 41 (u32v S) HV.out.rs HI2 (by rw [u32v_size, u32v_size, HSL.out]) (u32v_all _) ?_))
      try rw [hV2]
      exact ⟨⟨n + 1, by omega, by go_num, HN.out⟩, by simp [intOf]; omega⟩
    · obtain rfl : n = 10 := by omega
      have kn : ¬ (10 : Int) < 10 := by omega
      have HR : Hid (BkW w B f (roundsL f 10) wr) := hrel
      obtain ⟨G, hG⟩ : ∃ G, wr.heap.size = G := ⟨_, rfl⟩
      obtain ⟨U1, hU1⟩ : ∃ W, wr.alloc (.cells #[Value.int IntKind.u8 0, Value.int IntKind.u8 0, Value.int IntKind.u8 0, Value.int IntKind.u8 0, Value.int IntKind.u8 0, Value.int IntKind.u8 0, Value.int IntKind.u8 0, Value.int IntKind.u8 0, Value.int IntKind.u8 0, Value.int IntKind.u8 0, Value.int IntKind.u8 0, Value.int IntKind.u8 0, Value.int IntKind.u8 0, Value.int IntKind.u8 0, Value.int IntKind.u8 0, Value.int IntKind.u8 0, Value.int IntKind.u8 0, Value.int IntKind.u8 0, Value.int IntKind.u8 0, Value.int IntKind.u8 0, Value.int IntKind.u8 0, Value.int IntKind.u8 0, Value.int IntKind.u8 0, Value.int IntKind.u8 0, Value.int IntKind.u8 0, Value.int IntKind.u8 0, Value.int IntKind.u8 0, Value.int IntKind.u8 0, Value.int IntKind.u8 0, Value.int IntKind.u8 0, Value.int IntKind.u8 0, Value.int IntKind.u8 0, Value.int IntKind.u8 0, Value.int IntKind.u8 0, Value.int IntKind.u8 0, Value.int IntKind.u8 0, Value.int IntKind.u8 0, Value.int IntKind.u8 0, Value.int IntKind.u8 0, Value.int IntKind.u8 0, Value.int IntKind.u8 0, Value.int IntKind.u8 0, Value.int IntKind.u8 0, Value.int IntKind.u8 0, Value.int IntKind.u8 0, Value.int IntKind.u8 0, Value.int IntKind.u8 0, Value.int IntKind.u8 0, Value.int IntKind.u8 0, Value.int IntKind.u8 0, Value.int IntKind.u8 0, Value.int IntKind.u8 0, Value.int IntKind.u8 0, Value.int IntKind.u8 0, Value.int IntKind.u8 0, Value.int IntKind.u8 0, Value.int IntKind.u8 0, Value.int IntKind.u8 0, Value.int IntKind.u8 0, Value.int IntKind.u8 0, Value.int IntKind.u8 0, Value.int IntKind.u8 0, Value.int IntKind.u8 0, Value.int IntKind.u8 0] 43) = W := ⟨_, rfl⟩
      have hru : (wr.alloc (.cells (u8v zeros64) 43)).heap[G]? = some (.cells (u8v zeros64) 43 (0, 0)) := by rw [← hG]; exact heap_alloc_new _ _
      replace hru : U1.heap[G]? = some (.cells (u8v zeros64) 43 (0, 0)) := by rw [← hU1]; exact hru
      have hbu : Below wr.heap.size wr U1 := by rw [← hU1]; exact (Below.refl _ _).alloc (Nat.le_refl _) _
      have hgl := lt_of_some hrel.rs
      have HST : Hid (BkZ w B G f (roundsL f 10) ((blockL f).take 0 ++ List.replicate (64 - 0) 0) U1) := ⟨hrel.on hbu, hru, by omega⟩
      clear hrel hru hbu hgl
      go_wp2_with fail
      go_loopw [12] (fun v12 wr => ∃ k : Nat, k ≤ 64 ∧ v12 = .int .i64 (k : Int) ∧ BkZ w B G f (roundsL f 10) ((blockL f).take k ++ List.replicate (64 - k) 0) wr) (fun v _ => 64 - (intOf v).toNat)
      case atStart => exact ⟨0, by omega, rfl, HST.out⟩
      case round =>
        clear HST HR
        obtain ⟨k, hk, rfl, hrel⟩ := hrel
        by_cases hlt : k < 64
        · have kk : (k : Int) < 64 := by omega
          obtain ⟨q, hq⟩ : ∃ q, k / 4 = q := ⟨_, rfl⟩
          obtain ⟨r, hr⟩ : ∃ r, k % 4 * 8 = r := ⟨_, rfl⟩
          have kq : (k : Int) / 4 = (q : Int) := by omega
          have kr : (k : Int) % 4 * 8 = (r : Int) := by omega
          have hq16 : q < 16 := by omega
          have hr24 : r ≤ 24 := by omega
          obtain ⟨x, hx⟩ : ∃ x, (roundsL f 10).getD q 0 = x := ⟨_, rfl⟩
          obtain ⟨y, hy⟩ : ∃ y, f.getD q 0 = y := ⟨_, rfl⟩
          obtain ⟨z, hz⟩ : ∃ z, addW x y = z := ⟨_, rfl⟩
          have hxy := mod_add x y
          rw [hz] at hxy
          obtain ⟨v, hv⟩ : ∃ v, z / 2 ^ r = v := ⟨_, rfl⟩
          have hvi : (z : Int) / 2 ^ r = (v : Int) := by rw [← hv]; simp
          have hat : (blockL f).getD k 0 = UInt8.ofNat v := by
            rw [blockL_at f k hlt]
            unfold byteAt
            rw [hq, blockWs_at f q hq16, hx, hy, hz, Nat.mul_comm, hr, hv]
          have hlen : ((blockL f).take k ++ List.replicate (64 - k) 0).length = 64 := by simp [blockL_len]; omega
          have cx : wr.cell? ⟨B + 2, q, none⟩ = some (.int .u32 (x : Int)) := by
            rw [cell_of_row _ _ _ _ _ _ hrel.b.rs, u32v_get _ _ (by rw [roundsL_len, HF.out.1]; exact hq16), hx]
          have cy : wr.cell? ⟨B, q, none⟩ = some (.int .u32 (y : Int)) := by
            rw [cell_of_row _ _ _ _ _ _ hrel.b.rf, u32v_get _ _ (by rw [HF.out.1]; exact hq16), hy]
          obtain ⟨o, ho⟩ : ∃ o, wr.cell? ⟨G, k, none⟩ = some o := ⟨_, by rw [cell_of_row _ _ _ _ _ _ hrel.rl, u8v_get _ _ (by omega)]⟩
          have fo := frozen_of_row wr G k _ _ hrel.rl
          obtain ⟨W9, hW9⟩ : ∃ W, wr.setCell ⟨G, k, none⟩ (.int .u8 ((v : Int) % 256)) = W := ⟨_, rfl⟩
          have HN : Hid (BkZ w B G f (roundsL f 10) ((blockL f).take (k + 1) ++ List.replicate (64 - (k + 1)) 0) W9.drew) := by
            have h := hrel.put k (UInt8.ofNat v)
            rw [← hat, take_set8 (blockL f) 64 k (blockL_len f) hlt, hat, show (((UInt8.ofNat v).toNat : Nat) : Int) = (v : Int) % 256 by rw [UInt8.toNat_ofNat']; omega, hW9] at h
            exact h.drew
          clear hrel hat hv hx hy hz hq hr hlen hk
          go_wp2_with fail
          go_region
          go_wp2
          exact ⟨⟨k + 1, by omega, by go_num, HN.out⟩, by simp [intOf]; omega⟩
        · obtain rfl : k = 64 := by omega
          have kk : ¬ (64 : Int) < 64 := by omega
          rw [List.take_of_length_le (by rw [blockL_len]; omega), Nat.sub_self, List.replicate_zero, List.append_nil] at hrel
          have HR : Hid (BkZ w B G f (roundsL f 10) (blockL f) wr) := hrel
          have HI := infoB (blockL f) (blockL_len f)
          clear hrel
          go_wp2_with (first | (refine wpList_load_row rfl 43 _ rfl G rfl 43 (u8v (blockL f)) (0, 0) _ HR.out.rl Tryd.underlying43 rfl HI ?_) | (refine wpList_store_row rfl 43 _ _ rfl (B + 1) (u8v (blockL f)) rfl rfl 43 (u8v zeros64) HR.out.b.rz HI (by rw [u8v_size, u8v_size, blockL_len]; rfl) (by rw [Array.all_eq_true_iff_forall_mem]; intro v hv; exact u8v_all _ v (by simpa using hv)) ?_))
          refine bodyPost_ret (v := .agg (u8v (blockL f))) ?_ rfl ⟨rfl, HB.out ▸ below_setRow HR.out.b.bl (B + 1) (Nat.le_succ _) _⟩
          exact results_cell_row rfl _ _ (B + 1) 43 _ (0, 0) _ rfl (setRow_heap _ _ _ _ _ _ HR.out.b.rz) Tryd.underlying43 rfl HI
end Go.Proofs.YtbflkkffpcaakabDoor
