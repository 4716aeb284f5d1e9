/- Walks over the document's turned and Seal. -/
import Derived.Test.YtbflkkffpcaakaaDoorCE
import Derived.Test.YtbflkkffpcaakaaDoorS
namespace Go.Proofs.YtbflkkffpcaakaaDoor
open Go.RowKit
/-- The byte of a key at a place, nought behind its end. -/
theorem block_at (k : List UInt8) (i : Nat) (h : k.length ≤ 64) (hi : i < 64) : (fill k).getD i 0 = k.getD i 0 := by
  unfold fill
  rw [List.getD_eq_getElem?_getD, List.getD_eq_getElem?_getD]
  by_cases hl : i < k.length
  · rw [List.getElem?_append_left hl]
  · rw [List.getElem?_append_right (by omega), List.getElem?_replicate, if_pos (by omega), List.getElem?_eq_none (by omega)]
    rfl
theorem xor_next (b : List UInt8) (m : UInt8) (i : Nat) (hi : i < b.length) : xorB (b.take (i + 1)) m = xorB (b.take i) m ++ [b.getD i 0 ^^^ m] := by
  unfold xorB
  rw [List.take_add_one, List.getElem?_eq_getElem hi, List.map_append]
  simp [Option.toList, hi]
set_option maxRecDepth 100000 in
set_option maxHeartbeats 1000000 in
theorem turned_short (k : ByteArray) (m : Nat) (w : World) (hks64 : k.size ≤ 64) (hm : m < 256) :
    Calls Tryd.prog 41 #[.string k, .int .u8 (m : Int)] w fun e w' => e = .returned (.string (strOf (xorB (fill k.data.toList) (UInt8.ofNat m)))) ∧ Below w.heap.size w w' := by
  have h64 : ¬ (64 : Int) < (k.size : Int) := by omega
  have HKE : Hid (k.data.toList.length = k.size) := by show _ = _; rw [Array.length_toList]; rfl
  have HFL : Hid ((fill k.data.toList).length = 64) := fill_len _ (by rw [HKE.out]; exact hks64)
  obtain ⟨F, hF⟩ : ∃ F, fill k.data.toList = F := ⟨_, rfl⟩
  have HAT : Hid (∀ i, i < 64 → F.getD i 0 = k.data.toList.getD i 0) := by rw [← hF]; exact fun i hi => block_at _ i (by rw [HKE.out]; exact hks64) hi
  rw [hF] at HFL
  rw [hF]
  clear hF
  go_enter Tryd.func41, Tryd.ntmps41
  go_wp2
  go_loopw [5, 6, 7] (fun s i c wr => ∃ n : Nat, n ≤ 64 ∧ i = .int .i64 (n : Int) ∧ s = .string (strOf (xorB (F.take n) (UInt8.ofNat m))) ∧ Below w.heap.size w wr) (fun _ i _ _ => 64 - (intOf i).toNat)
  case atStart => exact ⟨0, by omega, rfl, rfl, Below.refl _ _⟩
  case round =>
    obtain ⟨n, hn, rfl, rfl, hB⟩ := hrel
    by_cases hlt : n < 64
    · obtain ⟨S, hS⟩ : ∃ S, strOf (xorB (F.take n) (UInt8.ofNat m)) = S := ⟨_, rfl⟩
      have hSs : S.size = n := by rw [← hS, strOf_size, xorB_len, List.length_take, HFL.out]; omega
      obtain ⟨x, hx⟩ : ∃ x, (k.data.toList.getD n 0).toNat = x := ⟨_, rfl⟩
      have hx8 : x < 256 := by rw [← hx]; exact UInt8.toNat_lt _
      obtain ⟨y, hy⟩ : ∃ y, x ^^^ m = y := ⟨_, rfl⟩
      have hy8 : y < 256 := by rw [← hy]; exact Nat.xor_lt_two_pow (n := 8) hx8 hm
      have b1 : bits BinOp.xor IntKind.u8 (x : Int) (m : Int) = (y : Int) := by rw [u8_xor_nat x m hx8 hm, hy]
      have HN : Hid (strOf (xorB (F.take (n + 1)) (UInt8.ofNat m)) = S ++ strOf [UInt8.ofNat y]) := by
        show _ = _
        rw [xor_next F _ n (by rw [HFL.out]; exact hlt), strOf_append, hS, HAT.out n hlt]
        congr 3
        apply UInt8.toNat_inj.1
        rw [UInt8.toNat_xor, hx, UInt8.toNat_ofNat', UInt8.toNat_ofNat', Nat.mod_eq_of_lt hm, hy, Nat.mod_eq_of_lt hy8]
      have hT1 : (strOf [UInt8.ofNat y]).size = 1 := rfl
      have hcv := fun (W : World) => conv_one W wr.heap.size 1 y
      rw [hS]
      have kn : (n : Int) < 64 := by omega
      by_cases hks : n < k.size
      · have i1 : ∀ W, (Instr.index 9 (.string k) (.int .i64 (n : Int))).run Tryd.prog W = .ok (.int .u8 (x : Int)) W := str_at k n x hks hx
        have kk : (n : Int) < (k.size : Int) := by omega
        clear hS hx hy
        go_wp2
        go_roundw
        case rel => exact ⟨n + 1, by omega, by go_num, by rw [HN.out], hB.alloc hB.size _⟩
        case measure => simp [intOf]; omega
      · have hx0 : x = 0 := by
          rw [← hx, List.getD_eq_getElem?_getD, List.getElem?_eq_none (by have := HKE.out; omega)]; rfl
        subst hx0
        have b2 : bits BinOp.xor IntKind.u8 0 (m : Int) = (y : Int) := b1
        have kk : ¬ (n : Int) < (k.size : Int) := by omega
        clear hS hx hy b1
        go_wp2
        go_roundw
        case rel => exact ⟨n + 1, by omega, by go_num, by rw [HN.out], hB.alloc hB.size _⟩
        case measure => simp [intOf]; omega
    · obtain rfl : n = 64 := by omega
      have e : F.take 64 = F := List.take_of_length_le (by rw [HFL.out]; omega)
      rw [e]
      clear e
      go_wp2
      go_ret
      exact ⟨rfl, hB⟩
set_option maxRecDepth 100000 in
set_option maxHeartbeats 1000000 in
theorem turned_long (k : ByteArray) (m : Nat) (w : World) (hk : 64 < k.size) (hk2 : k.size ≤ 1000000) (hm : m < 256) :
    Calls Tryd.prog 41 #[.string k, .int .u8 (m : Int)] w fun e w' => e = .returned (.string (strOf (xorB (fill (digest k.data.toList)) (UInt8.ofNat m)))) ∧ Below w.heap.size w w' := by
  obtain ⟨K, hK⟩ : ∃ K, strOf (digest k.data.toList) = K := ⟨_, rfl⟩
  have HSU : Hid (Calls Tryd.prog 40 #[.string k] w fun e w' => e = .returned (.string K) ∧ Below w.heap.size w w') := by rw [← hK]; exact sum_any k w hk2
  have hKs : K.size = 32 := by rw [← hK, strOf_size, digest_len]
  have hks64 : K.size ≤ 64 := by omega
  have h64 : (64 : Int) < (k.size : Int) := by omega
  rw [show digest k.data.toList = K.data.toList by rw [← hK]; rfl]
  have HKE : Hid (K.data.toList.length = K.size) := by show _ = _; rw [Array.length_toList]; rfl
  have HFL : Hid ((fill K.data.toList).length = 64) := fill_len _ (by rw [HKE.out]; exact hks64)
  obtain ⟨F, hF⟩ : ∃ F, fill K.data.toList = F := ⟨_, rfl⟩
  have HAT : Hid (∀ i, i < 64 → F.getD i 0 = K.data.toList.getD i 0) := by rw [← hF]; exact fun i hi => block_at _ i (by rw [HKE.out]; exact hks64) hi
  rw [hF] at HFL
  rw [hF]
  clear hF hK
  go_enter Tryd.func41, Tryd.ntmps41
  go_wp2_with fail
  refine HSU.out.mono ?_
  rintro e w2 ⟨rfl, hB2⟩
  go_wp2
  go_loopw [5, 6, 7] (fun s i c wr => ∃ n : Nat, n ≤ 64 ∧ i = .int .i64 (n : Int) ∧ s = .string (strOf (xorB (F.take n) (UInt8.ofNat m))) ∧ Below w.heap.size w wr) (fun _ i _ _ => 64 - (intOf i).toNat)
  case atStart => exact ⟨0, by omega, rfl, rfl, hB2⟩
  case round =>
    obtain ⟨n, hn, rfl, rfl, hB⟩ := hrel
    by_cases hlt : n < 64
    · obtain ⟨S, hS⟩ : ∃ S, strOf (xorB (F.take n) (UInt8.ofNat m)) = S := ⟨_, rfl⟩
      have hSs : S.size = n := by rw [← hS, strOf_size, xorB_len, List.length_take, HFL.out]; omega
      obtain ⟨x, hx⟩ : ∃ x, (K.data.toList.getD n 0).toNat = x := ⟨_, rfl⟩
      have hx8 : x < 256 := by rw [← hx]; exact UInt8.toNat_lt _
      obtain ⟨y, hy⟩ : ∃ y, x ^^^ m = y := ⟨_, rfl⟩
      have hy8 : y < 256 := by rw [← hy]; exact Nat.xor_lt_two_pow (n := 8) hx8 hm
      have b1 : bits BinOp.xor IntKind.u8 (x : Int) (m : Int) = (y : Int) := by rw [u8_xor_nat x m hx8 hm, hy]
      have HN : Hid (strOf (xorB (F.take (n + 1)) (UInt8.ofNat m)) = S ++ strOf [UInt8.ofNat y]) := by
        show _ = _
        rw [xor_next F _ n (by rw [HFL.out]; exact hlt), strOf_append, hS, HAT.out n hlt]
        congr 3
        apply UInt8.toNat_inj.1
        rw [UInt8.toNat_xor, hx, UInt8.toNat_ofNat', UInt8.toNat_ofNat', Nat.mod_eq_of_lt hm, hy, Nat.mod_eq_of_lt hy8]
      have hT1 : (strOf [UInt8.ofNat y]).size = 1 := rfl
      have hcv := fun (W : World) => conv_one W wr.heap.size 1 y
      rw [hS]
      have kn : (n : Int) < 64 := by omega
      by_cases hks : n < K.size
      · have i1 : ∀ W, (Instr.index 9 (.string K) (.int .i64 (n : Int))).run Tryd.prog W = .ok (.int .u8 (x : Int)) W := str_at K n x hks hx
        have kk : (n : Int) < (K.size : Int) := by omega
        clear hS hx hy
        go_wp2
        go_roundw
        case rel => exact ⟨n + 1, by omega, by go_num, by rw [HN.out], hB.alloc hB.size _⟩
        case measure => simp [intOf]; omega
      · have hx0 : x = 0 := by
          rw [← hx, List.getD_eq_getElem?_getD, List.getElem?_eq_none (by have := HKE.out; omega)]; rfl
        subst hx0
        have b2 : bits BinOp.xor IntKind.u8 0 (m : Int) = (y : Int) := b1
        have kk : ¬ (n : Int) < (K.size : Int) := by omega
        clear hS hx hy b1
        go_wp2
        go_roundw
        case rel => exact ⟨n + 1, by omega, by go_num, by rw [HN.out], hB.alloc hB.size _⟩
        case measure => simp [intOf]; omega
    · obtain rfl : n = 64 := by omega
      have e : F.take 64 = F := List.take_of_length_le (by rw [HFL.out]; omega)
      rw [e]
      clear e
      go_wp2
      go_ret
      exact ⟨rfl, hB⟩
theorem turned3_any (k : ByteArray) (m : Nat) (w : World) (hk : k.size ≤ 1000000) (hm : m < 256) :
    Calls Tryd.prog 41 #[.string k, .int .u8 (m : Int)] w fun e w' => e = .returned (.string (strOf (xorB (blockOf k.data.toList) (UInt8.ofNat m)))) ∧ Below w.heap.size w w' := by
  have hkl : k.data.toList.length = k.size := by rw [Array.length_toList]; rfl
  by_cases h : 64 < k.size
  · have e : blockOf k.data.toList = fill (digest k.data.toList) := by unfold blockOf keyOf fill; rw [if_pos (by omega)]
    rw [e]; exact turned_long k m w h hk hm
  · have e : blockOf k.data.toList = fill k.data.toList := by unfold blockOf keyOf fill; rw [if_neg (by omega)]
    rw [e]; exact turned_short k m w (by omega) hm
set_option maxRecDepth 100000 in
set_option maxHeartbeats 1000000 in
theorem refseal_any (k t : ByteArray) (w : World) (hk : k.size ≤ 1000000) (ht : t.size ≤ 900000) :
    Calls Tryd.prog 35 #[.string k, .string t] w fun e w' => e = .returned (.string (strOf (sealL k.data.toList t.data.toList))) ∧ Below w.heap.size w w' := by
  obtain ⟨A, hA⟩ : ∃ A, strOf (xorB (blockOf k.data.toList) 92) = A := ⟨_, rfl⟩
  obtain ⟨B, hB⟩ : ∃ B, strOf (xorB (blockOf k.data.toList) 54) = B := ⟨_, rfl⟩
  obtain ⟨C, hC⟩ : ∃ C, strOf (behind (blockOf k.data.toList) 54 t.data.toList) = C := ⟨_, rfl⟩
  obtain ⟨D, hD⟩ : ∃ D, strOf (sealL k.data.toList t.data.toList) = D := ⟨_, rfl⟩
  have hAs : A.size = 64 := by rw [← hA, strOf_size, xorB_len, blockOf_len]
  have hBs : B.size = 64 := by rw [← hB, strOf_size, xorB_len, blockOf_len]
  have hCs : C.size = 32 := by rw [← hC, strOf_size, behind_len]
  have HA : Hid (∀ W, Below w.heap.size w W → Calls Tryd.prog 41 #[.string k, .int .u8 92] W fun e w' => e = .returned (.string A) ∧ Below w.heap.size w w') := by
    intro W hW
    rw [← hA]
    refine (turned3_any k 92 W hk (by omega)).mono ?_
    rintro e w' ⟨rfl, hb⟩
    exact ⟨rfl, hW.trans (hb.mono hW.size)⟩
  have HB : Hid (∀ W, Below w.heap.size w W → Calls Tryd.prog 41 #[.string k, .int .u8 54] W fun e w' => e = .returned (.string B) ∧ Below w.heap.size w w') := by
    intro W hW
    rw [← hB]
    refine (turned3_any k 54 W hk (by omega)).mono ?_
    rintro e w' ⟨rfl, hb⟩
    exact ⟨rfl, hW.trans (hb.mono hW.size)⟩
  have HC : Hid (∀ W, Below w.heap.size w W → Calls Tryd.prog 40 #[.string (B ++ t)] W fun e w' => e = .returned (.string C) ∧ Below w.heap.size w w') := by
    intro W hW
    have e : (B ++ t).data.toList = xorB (blockOf k.data.toList) 54 ++ t.data.toList := by rw [← hB]; simp [strOf]
    rw [← hC, behind, ← e]
    refine (sum_any (B ++ t) W (by rw [ByteArray.size_append]; omega)).mono ?_
    rintro e w' ⟨rfl, hb⟩
    exact ⟨rfl, hW.trans (hb.mono hW.size)⟩
  have HD : Hid (∀ W, Below w.heap.size w W → Calls Tryd.prog 40 #[.string (A ++ C)] W fun e w' => e = .returned (.string D) ∧ Below w.heap.size w w') := by
    intro W hW
    have e : (A ++ C).data.toList = xorB (blockOf k.data.toList) 92 ++ behind (blockOf k.data.toList) 54 t.data.toList := by rw [← hA, ← hC]; simp [strOf]
    rw [← hD, sealL, sealB, behind, ← e]
    refine (sum_any (A ++ C) W (by rw [ByteArray.size_append]; omega)).mono ?_
    rintro e w' ⟨rfl, hb⟩
    exact ⟨rfl, hW.trans (hb.mono hW.size)⟩
  rw [hD]
  clear hA hB hC hD
  go_enter Tryd.func35, Tryd.ntmps35
  go_wp2_with fail
  refine (HA.out _ (Below.refl _ _)).mono ?_
  rintro e w2 ⟨rfl, hB2⟩
  have HB2 := HB.out w2 hB2
  go_wp2_with fail
  refine HB2.mono ?_
  rintro e w3 ⟨rfl, hB3⟩
  have HC3 := HC.out w3 hB3
  go_wp2_with fail
  refine HC3.mono ?_
  rintro e w4 ⟨rfl, hB4⟩
  have HD4 := HD.out w4 hB4
  go_wp2_with fail
  refine HD4.mono ?_
  rintro e w5 ⟨rfl, hB5⟩
  go_wp2
  go_ret
  exact ⟨rfl, hB5⟩
end Go.Proofs.YtbflkkffpcaakaaDoor
