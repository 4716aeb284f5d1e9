/- Walks over the program's keys, lengthBytes, same, sealOf. -/
import Derived.Test.YtbflkkffpcaakabDoorWO
import Derived.Test.YtbflkkffpcaakabDoorWS
import Derived.Test.YtbflkkffpcaakabDoorCF
import Derived.Test.YtbflkkffpcaakabDoorEB0
namespace Go.Proofs.YtbflkkffpcaakabDoor
open Go.RowKit
set_option maxRecDepth 100000 in
set_option maxHeartbeats 1000000 in
theorem keys_any (s : ByteArray) (w : World) (hs : s.size ≤ 1000000000) (hL : Laid w) :
    Calls Tryd.prog 10 #[.string s] w fun e w' => e = .returned (.tuple #[.string (strOf (keyA s.data.toList)), .string (strOf (keyZ s.data.toList))]) ∧ Below w.heap.size w w' := by
  have HC := derive_any s ⟨#[115, 116, 114, 111, 110, 103, 114, 111, 111, 109, 32, 115, 101, 97, 108]⟩ 64 w hs (by decide) (by omega) hL
  obtain ⟨D, hD⟩ : ∃ D, strOf (derived s.data.toList keysT 64) = D := ⟨_, rfl⟩
  have hDl : D.size = 64 := by rw [← hD, strOf_size, derived_len _ _ _ (by omega)]
  have e1 : D.extract 0 32 = strOf (keyA s.data.toList) := by rw [← hD, strOf_upto]; rfl
  have e2 : D.extract 32 D.size = strOf (keyZ s.data.toList) := by rw [← hD, strOf_from]; rfl
  have HE : Hid (D.extract 0 32 = strOf (keyA s.data.toList) ∧ D.extract 32 64 = strOf (keyZ s.data.toList)) := ⟨e1, by rw [hDl] at e2; exact e2⟩
  have HC2 : Hid (Calls Tryd.prog 18 #[.string s, .string ⟨#[115, 116, 114, 111, 110, 103, 114, 111, 111, 109, 32, 115, 101, 97, 108]⟩, .int .i64 64] w fun e w' => e = .returned (.tuple #[.string D, .int .i64 0]) ∧ Below w.heap.size w w') := by rw [← hD]; exact HC
  clear HC hD e1 e2 hL hs
  go_enter Tryd.func10, Tryd.ntmps10
  go_wp2_with fail
  refine HC2.out.mono ?_
  rintro e V ⟨rfl, hb⟩
  have HB : Hid (Below w.heap.size w V.drew) := hb.drew
  clear hb HC2
  go_wp2_with fail
  go_region
  go_wp2
  refine bodyPost_ret (v := .tuple #[.string (D.extract 0 32), .string (D.extract 32 64)]) ?_ rfl ⟨by rw [HE.out.1, HE.out.2], HB.out⟩
  simp [results, go_sem]
theorem lenBytes_at (n i : Nat) (h : i < 8) : (lenBytes n).getD i 0 = UInt8.ofNat (n / 2 ^ (8 * i)) := by
  simp [lenBytes, List.getD_eq_getElem?_getD, List.getElem?_map, List.getElem?_range h]
set_option maxRecDepth 100000 in
set_option maxHeartbeats 1000000 in
theorem lenb_any (s : ByteArray) (w : World) (hs : s.size ≤ 1000000000) :
    Calls Tryd.prog 20 #[.string s] w fun e w' => e = .returned (.string (strOf (lenBytes s.size))) ∧ Below w.heap.size w w' := by
  obtain ⟨n, hn⟩ : ∃ n, s.size = n := ⟨_, rfl⟩
  obtain ⟨D, hD⟩ : ∃ D, lenBytes n = D := ⟨_, rfl⟩
  have HD : Hid (D.length = 8 ∧ ∀ i, i < 8 → D.getD i 0 = UInt8.ofNat (n / 2 ^ (8 * i))) := ⟨by rw [← hD, lenBytes_len], fun i hi => by rw [← hD]; exact lenBytes_at n i hi⟩
  rw [hn] at hs
  rw [hn, hD]
  have ku : IntKind.u64.wrap (n : Int) = (n : Int) := by rw [IntKind.wrap_u64]; omega
  obtain ⟨B, hB⟩ : ∃ B, w.heap.size = B := ⟨_, rfl⟩
  obtain ⟨W1, hW1⟩ : ∃ W, w.alloc (.cells #[.int .u8 0, .int .u8 0, .int .u8 0, .int .u8 0, .int .u8 0, .int .u8 0, .int .u8 0, .int .u8 0] 54) = W := ⟨_, rfl⟩
  have hr : W1.heap[B]? = some (.cells (u8v (List.replicate 8 0)) 54 (0, 0)) := by rw [← hW1, ← hB]; exact heap_alloc_new _ _
  have HST : Hid (W1.heap[B]? = some (.cells (u8v (D.take 0 ++ List.replicate (8 - 0) 0)) 54 (0, 0)) ∧ Below w.heap.size w W1) := ⟨hr, by rw [← hW1]; exact (Below.refl _ w).alloc (Nat.le_refl _) _⟩
  have HB : Hid (w.heap.size = B) := hB
  clear hr hD
  go_enter Tryd.func20, Tryd.ntmps20
  go_wp2
  go_loopw [5] (fun v5 wr => ∃ i : Nat, i ≤ 8 ∧ v5 = .int .i64 (i : Int) ∧ wr.heap[B]? = some (.cells (u8v (D.take i ++ List.replicate (8 - i) 0)) 54 (0, 0)) ∧ Below w.heap.size w wr) (fun v _ => 8 - (intOf v).toNat)
  case atStart => exact ⟨0, by omega, rfl, HST.out⟩
  case round =>
    clear HST
    obtain ⟨i, hi, rfl, hr, hb⟩ := hrel
    by_cases hlt : i < 8
    · have kk : (i : Int) < 8 := by omega
      obtain ⟨r, hrr⟩ : ∃ r, 8 * i = r := ⟨_, rfl⟩
      have kr : (8 : Int) * (i : Int) = (r : Int) := by omega
      have hr56 : r ≤ 56 := by omega
      obtain ⟨v, hv⟩ : ∃ v, n / 2 ^ r = v := ⟨_, rfl⟩
      have hvi : (n : Int) / 2 ^ r = (v : Int) := by rw [← hv]; simp
      have hdv : D.getD i 0 = UInt8.ofNat v := by rw [HD.out.2 i hlt, hrr, hv]
      obtain ⟨q, hq⟩ : ∃ q, wr.cell? ⟨B, i, none⟩ = some q := ⟨_, by rw [cell_of_row _ _ _ _ _ _ hr, u8v_get _ _ (by simp [HD.out.1]; omega)]⟩
      have fq := frozen_of_row wr B i _ _ hr
      obtain ⟨W9, hW9⟩ : ∃ W, wr.setCell ⟨B, i, none⟩ (.int .u8 ((v : Int) % 256)) = W := ⟨_, rfl⟩
      have HN : Hid (W9.heap[B]? = some (.cells (u8v (D.take (i + 1) ++ List.replicate (8 - (i + 1)) 0)) 54 (0, 0)) ∧ Below w.heap.size w W9) := by
        rw [← hW9]
        refine ⟨?_, hb.setCell (Nat.le_of_eq HB.out) _⟩
        rw [show ((v : Int) % 256) = (((UInt8.ofNat v).toNat : Nat) : Int) by rw [UInt8.toNat_ofNat']; omega, heap_setCell_same _ _ _ _ _ _ hr, u8v_set, ← hdv, take_set8 D 8 i HD.out.1 hlt]
      clear hr hb hdv hv hrr
      go_wp2
      exact ⟨⟨i + 1, by omega, by go_num, HN.out⟩, by simp [intOf]; omega⟩
    · obtain rfl : i = 8 := by omega
      have kk : ¬ (8 : Int) < 8 := by omega
      rw [List.take_of_length_le (by rw [HD.out.1]; omega), Nat.sub_self, List.replicate_zero, List.append_nil] at hr
      have hcv := fun c => conv_row wr B 0 8 c D HD.out.1 (fun i hi => by rw [Nat.zero_add, cell_of_row _ _ _ _ _ _ hr, u8v_get _ _ (by rw [HD.out.1]; exact hi)])
      clear hr
      go_wp2
      go_ret
      exact ⟨rfl, hB ▸ hb⟩
set_option maxRecDepth 100000 in
set_option maxHeartbeats 1000000 in
theorem same_any (s t : ByteArray) (w : World) (hs : s.size = 16) (ht : t.size = 16) :
    Calls Tryd.prog 12 #[.string s, .string t] w fun e w' => e = .returned (.bool (decide (s.data.toList = t.data.toList))) ∧ Below w.heap.size w w' := by
  have HSL : Hid (s.data.toList.length = 16) := by show _ = _; rw [Array.length_toList]; exact hs
  have HTL : Hid (t.data.toList.length = 16) := by show _ = _; rw [Array.length_toList]; exact ht
  go_enter Tryd.func12, Tryd.ntmps12
  go_wp2
  go_loopw [5, 7] (fun d i wr => ∃ n D : Nat, n ≤ 16 ∧ D < 256 ∧ d = .int .u8 (D : Int) ∧ i = .int .i64 (n : Int) ∧ (D = 0 ↔ s.data.toList.take n = t.data.toList.take n) ∧ Below w.heap.size w wr) (fun _ i _ => 16 - (intOf i).toNat)
  case atStart => exact ⟨0, 0, by omega, by omega, rfl, rfl, by simp, Below.refl _ _⟩
  case round =>
    obtain ⟨n, D, hn, hD, rfl, rfl, hiff, hB⟩ := hrel
    by_cases hlt : n < 16
    · obtain ⟨x, hx⟩ : ∃ x, (s.data.toList.getD n 0).toNat = x := ⟨_, rfl⟩
      obtain ⟨y, hy⟩ : ∃ y, (t.data.toList.getD n 0).toNat = y := ⟨_, rfl⟩
      have hx8 : x < 256 := by rw [← hx]; exact UInt8.toNat_lt _
      have hy8 : y < 256 := by rw [← hy]; exact UInt8.toNat_lt _
      have i1 : ∀ W, (Instr.index 9 (.string s) (.int .i64 (n : Int))).run Tryd.prog W = .ok (.int .u8 (x : Int)) W := str_at s n x (by omega) hx
      have i2 : ∀ W, (Instr.index 9 (.string t) (.int .i64 (n : Int))).run Tryd.prog W = .ok (.int .u8 (y : Int)) W := str_at t n y (by omega) hy
      obtain ⟨u, hu⟩ : ∃ u, x ^^^ y = u := ⟨_, rfl⟩
      have hu8 : u < 256 := by rw [← hu]; exact Nat.xor_lt_two_pow (n := 8) hx8 hy8
      obtain ⟨v, hv⟩ : ∃ v, D ||| u = v := ⟨_, rfl⟩
      have hv8 : v < 256 := by rw [← hv]; exact Nat.or_lt_two_pow (n := 8) hD hu8
      have b1 : bits BinOp.xor IntKind.u8 (x : Int) (y : Int) = (u : Int) := by rw [u8_xor_nat x y hx8 hy8, hu]
      have b2 : bits BinOp.or IntKind.u8 (D : Int) (u : Int) = (v : Int) := by rw [u8_or_nat D u hD hu8, hv]
      have HF : Hid (v = 0 ↔ s.data.toList.take (n + 1) = t.data.toList.take (n + 1)) := by
        show _ ↔ _
        rw [take_next _ _ _ (by rw [HSL.out]; exact hlt) (by rw [HTL.out]; exact hlt), ← hv, ← hu, or_xor_zero, hiff, hx, hy]
      have HB : Hid (Below w.heap.size w wr) := hB
      have kn : (n : Int) < 16 := by omega
      clear hiff hB hx hy hu hv
      go_wp2_with fail
      go_region
      go_wp2
      refine ⟨⟨n + 1, v, by omega, hv8, rfl, by go_num, HF.out, ?_⟩, by simp [intOf]; omega⟩
      exact HB.out.drew
    · obtain rfl : n = 16 := by omega
      have hf : D = 0 ↔ s.data.toList = t.data.toList := by
        rw [hiff, List.take_of_length_le (by rw [HSL.out]; omega), List.take_of_length_le (by rw [HTL.out]; omega)]
      have HD : Hid (decide ((D : Int) = 0) = decide (s.data.toList = t.data.toList)) := by
        show _ = _
        rw [decide_eq_decide]; rw [← hf]; omega
      clear hiff hf
      go_wp2
      go_ret
      refine ⟨?_, hB⟩
      rw [← HD.out]
      first | rfl | (congr 2)
set_option maxRecDepth 100000 in
set_option maxHeartbeats 1000000 in
theorem sealof_any (k n l h : ByteArray) (w : World) (hk : k.size ≤ 1000000) (hn : n.size ≤ 1000000) (hl : l.size ≤ 1000000) (hh : h.size ≤ 1000000) (hL : Laid w) :
    Calls Tryd.prog 11 #[.string k, .string n, .string l, .string h] w fun e w' => e = .returned (.string (strOf ((sealL k.data.toList (n.data.toList ++ lenBytes l.size ++ l.data.toList ++ h.data.toList)).take 16))) ∧ Below w.heap.size w w' := by
  have HLB := lenb_any l w (by omega)
  obtain ⟨M, hM⟩ : ∃ M, strOf (lenBytes l.size) = M := ⟨_, rfl⟩
  have hMs : M.size = 8 := by rw [← hM, strOf_size, lenBytes_len]
  rw [hM] at HLB
  obtain ⟨T, hT⟩ : ∃ T, n ++ M ++ l ++ h = T := ⟨_, rfl⟩
  have hTl : T.data.toList = n.data.toList ++ lenBytes l.size ++ l.data.toList ++ h.data.toList := by
    rw [← hT, ← hM]; simp [strOf]
  have hTs : T.size ≤ 4000000 := by rw [← hT, ByteArray.size_append, ByteArray.size_append, ByteArray.size_append]; omega
  obtain ⟨D, hD⟩ : ∃ D, strOf (sealL k.data.toList T.data.toList) = D := ⟨_, rfl⟩
  have hDs : D.size = 32 := by rw [← hD, strOf_size, sealL_len]
  have HS : Hid (∀ V, Below w.heap.size w V → Calls Tryd.prog 19 #[.string k, .string T] V fun e w' => e = .returned (.string D) ∧ Below V.heap.size V w') := fun V hV => by
    rw [← hD]; exact seal_any k T V (by omega) (by omega) (hL.below hV)
  have e1 : D.extract 0 16 = strOf ((sealL k.data.toList T.data.toList).take 16) := by rw [← hD, strOf_upto]
  have HE : Hid (D.extract 0 16 = strOf ((sealL k.data.toList T.data.toList).take 16)) := e1
  rw [← hTl]
  clear hM hTl hD e1 hL
  go_enter Tryd.func11, Tryd.ntmps11
  go_wp2_with fail
  refine HLB.mono ?_
  rintro e V ⟨rfl, hb⟩
  have HS2 := HS.out V hb
  have HB : Hid (Below w.heap.size w V) := hb
  clear HLB hb HS
  go_wp2_with fail
  refine HS2.mono ?_
  rintro e V2 ⟨rfl, hb2⟩
  have HB2 : Hid (Below w.heap.size w V2) := HB.out.trans (hb2.mono HB.out.size)
  clear HS2 hb2
  go_wp2
  go_ret
  exact ⟨by rw [← HE.out]; rfl, HB2.out⟩
end Go.Proofs.YtbflkkffpcaakabDoor
