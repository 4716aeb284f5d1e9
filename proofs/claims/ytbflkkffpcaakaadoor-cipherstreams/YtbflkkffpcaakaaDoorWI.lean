/- Walk over the document's Block. -/
import Derived.Test.YtbflkkffpcaakaaDoorWH
import Derived.Test.YtbflkkffpcaakaaDoorQ
namespace Go.Proofs.YtbflkkffpcaakaaDoor
open Go.RowKit
theorem words_next4 (t : List UInt8) (i : Nat) (hi : i < 16) : wordsL (t.take (4 * (i + 1))) = (wordsL (t.take (4 * i))).set i (wordAt t i) := by
  apply List.ext_getElem?
  intro j
  by_cases hj : j < 16
  · have e1 : (wordsL (t.take (4 * (i + 1))))[j]? = some (wordAt (t.take (4 * (i + 1))) j) := by simp [wordsL, List.getElem?_range hj]
    have e2 : (wordsL (t.take (4 * i)))[j]? = some (wordAt (t.take (4 * i)) j) := by simp [wordsL, List.getElem?_range hj]
    rw [e1, List.getElem?_set, wordsL_len, e2]
    by_cases h : i = j
    · subst h
      rw [if_pos rfl, if_pos hi, word_at]
      repeat' first | rw [if_pos (by omega)] | rw [if_neg (by omega)]
      rfl
    · rw [if_neg h, word_at, word_at]
      have c0 : (4 * j < 4 * (i + 1)) = (4 * j < 4 * i) := by apply propext; omega
      have c1 : (4 * j + 1 < 4 * (i + 1)) = (4 * j + 1 < 4 * i) := by apply propext; omega
      have c2 : (4 * j + 2 < 4 * (i + 1)) = (4 * j + 2 < 4 * i) := by apply propext; omega
      have c3 : (4 * j + 3 < 4 * (i + 1)) = (4 * j + 3 < 4 * i) := by apply propext; omega
      simp only [c0, c1, c2, c3]
  · rw [List.getElem?_eq_none (by rw [wordsL_len]; omega), List.getElem?_eq_none (by rw [List.length_set, wordsL_len]; omega)]
theorem numBytes_next (n i : Nat) (h : i < 4) : (numBytes n).take (i + 1) = (numBytes n).take i ++ [UInt8.ofNat (n / 256 ^ i)] := by
  rcases (by omega : i = 0 ∨ i = 1 ∨ i = 2 ∨ i = 3) with rfl | rfl | rfl | rfl <;> simp [numBytes]
theorem block_next (f : List Nat) (i x : Nat) (hi : i < 16) (hx : (blockWs f).getD i 0 = x) : (blockL f).take (4 * (i + 1)) = (blockL f).take (4 * i) ++ [UInt8.ofNat (x % 256), UInt8.ofNat (x / 256 % 256), UInt8.ofNat (x / 65536 % 256), UInt8.ofNat (x / 16777216)] := by
  have hl := blockL_len f
  have hm : ∀ y, UInt8.ofNat (y % 256) = UInt8.ofNat y := fun y => by apply UInt8.toNat_inj.1; simp
  have at4 : ∀ k, k < 4 → (blockL f)[4 * i + k]? = some (UInt8.ofNat (x / 2 ^ (8 * k))) := fun k hk => by
    have h := blockL_at f (4 * i + k) (by omega)
    unfold byteAt at h
    rw [show (4 * i + k) / 4 = i by omega, show (4 * i + k) % 4 = k by omega, hx] at h
    rw [← h, List.getD_eq_getElem?_getD, List.getElem?_eq_getElem (by omega)]; rfl
  rw [show 4 * (i + 1) = 4 * i + 3 + 1 by omega, List.take_add_one, at4 3 (by omega), List.take_add_one, at4 2 (by omega), List.take_add_one, at4 1 (by omega), List.take_add_one]
  have h0 := at4 0 (by omega)
  rw [Nat.add_zero] at h0
  rw [h0, hm, hm, hm]
  simp
/-- Two rows of sixteen words. -/
structure RbW (w0 : World) (C D : Nat) (f s : List Nat) (wr : World) : Prop where
  rf : wr.heap[C]? = some (.cells (u32v f) 50 (0, 0))
  rs : wr.heap[D]? = some (.cells (u32v s) 50 (0, 0))
  cd : C ≠ D
  le : w0.heap.size ≤ D
  bl : Below w0.heap.size w0 wr
theorem RbW.on {w0 wr w' : World} {C D : Nat} {f s : List Nat} (h : RbW w0 C D f s wr) (hb : Below wr.heap.size wr w') : RbW w0 C D f s w' :=
  ⟨(hb.block C (lt_of_some h.rf)).trans h.rf, (hb.block D (lt_of_some h.rs)).trans h.rs, h.cd, h.le, h.bl.trans (hb.mono h.bl.size)⟩
theorem RbW.put {w0 wr : World} {C D : Nat} {f s : List Nat} (h : RbW w0 C D f s wr) (s' : List Nat) : RbW w0 C D f s' (wr.setRow D (u32v s')) :=
  ⟨by rw [setRow_other _ _ _ _ h.cd]; exact h.rf, setRow_heap _ _ _ _ _ _ h.rs, h.cd, h.le, below_setRow h.bl D h.le _⟩
set_option maxRecDepth 100000 in
set_option maxHeartbeats 8000000 in
theorem rblock_any (key nonce : ByteArray) (n : Nat) (w : World) (hk : key.size = 32) (hn : nonce.size = 12) (hnn : n < 4294967296) :
    Calls Tryd.prog 14 #[.string key, .string nonce, .int .u32 (n : Int)] w fun e w' => e = .returned (.string (strOf (blockL ((firstL key.data.toList nonce.data.toList).set 12 n)))) ∧ Below w.heap.size w w' := by
  obtain ⟨f, hf⟩ : ∃ f, (firstL key.data.toList nonce.data.toList).set 12 n = f := ⟨_, rfl⟩
  have HF : Hid (wordsL (beginT key.data.toList (numBytes n) nonce.data.toList) = f ∧ f.length = 16 ∧ Wd f) := by
    have h := words_num key.data.toList nonce.data.toList n (by show key.size = 32; exact hk) hnn
    rw [hf] at h
    exact ⟨h, by rw [← h, wordsL_len], by rw [← h]; exact wordsL_wd _⟩
  rw [hf]
  obtain ⟨E0, hE0⟩ : ∃ E, (⟨#[101, 120, 112, 97, 110, 100, 32, 51, 50, 45, 98, 121, 116, 101, 32, 107]⟩ ++ key : ByteArray) = E := ⟨_, rfl⟩
  have HE : Hid (E0.data.toList = expandL ++ key.data.toList ∧ E0.size = 48) := by
    refine ⟨by rw [← hE0]; simp [expandL], by rw [← hE0, ByteArray.size_append, hk]; rfl⟩
  have hz16 : (⟨#[101, 120, 112, 97, 110, 100, 32, 51, 50, 45, 98, 121, 116, 101, 32, 107]⟩ : ByteArray).size = 16 := rfl
  clear hf
  go_enter Tryd.func14, Tryd.ntmps14
  go_wp2
  go_loopw [7, 2, 8] (fun v7 v2 v8 wr => ∃ (i : Nat) (A : ByteArray), i ≤ 4 ∧ A.size = 48 + i ∧ A.data.toList = expandL ++ key.data.toList ++ (numBytes n).take i ∧ v7 = .string A ∧ v2 = .int .u32 ((n / 256 ^ i : Nat) : Int) ∧ v8 = .int .i64 (i : Int) ∧ Below w.heap.size w wr) (fun _ _ v _ => 4 - (intOf v).toNat)
  case atStart => exact ⟨0, E0, by omega, HE.out.2, by rw [HE.out.1]; simp, rfl, by simp, rfl, Below.refl _ _⟩
  case round =>
    obtain ⟨i, A, hi, hAs, hA, rfl, rfl, rfl, hB⟩ := hrel
    by_cases hlt : i < 4
    · have kk : (i : Int) < 4 := by omega
      obtain ⟨m, hm⟩ : ∃ m, n / 256 ^ i = m := ⟨_, rfl⟩
      rw [hm]
      have hml : m < 4294967296 := by rw [← hm]; exact Nat.lt_of_le_of_lt (Nat.div_le_self _ _) hnn
      obtain ⟨c, hc⟩ : ∃ c, m % 256 = c := ⟨_, rfl⟩
      have hc256 : c < 256 := by omega
      have e1 : (m : Int) % 256 = (c : Int) := by omega
      have e2 : (c : Int) % 256 = (c : Int) := by omega
      obtain ⟨m2, hm2⟩ : ∃ x, m / 256 = x := ⟨_, rfl⟩
      have e3 : (m : Int) / 256 = (m2 : Int) := by omega
      have HM2 : Hid (n / 256 ^ (i + 1) = m2) := by show _ = _; rw [Nat.pow_succ, ← Nat.div_div_eq_div_mul, hm, hm2]
      have hT1 : (strOf [UInt8.ofNat c]).size = 1 := rfl
      have hcv := fun (W : World) => conv_one W wr.heap.size 1 c
      have HA : Hid ((A ++ strOf [UInt8.ofNat c]).data.toList = expandL ++ key.data.toList ++ (numBytes n).take (i + 1) ∧ (A ++ strOf [UInt8.ofNat c]).size = 48 + (i + 1)) := by
        refine ⟨?_, by rw [ByteArray.size_append, hAs, hT1]; omega⟩
        rw [numBytes_next n i hlt, hm, ← List.append_assoc, ← hA]
        have : UInt8.ofNat c = UInt8.ofNat m := by apply UInt8.toNat_inj.1; rw [← hc]; simp
        rw [this]
        simp [strOf]
      have HB : Hid (Below w.heap.size w (wr.alloc (.cells #[.int .u8 (c : Int)] 5))) := hB.alloc hB.size _
      clear hA hB hm hc hm2
      go_wp2
      exact ⟨⟨i + 1, _, by omega, HA.out.2, HA.out.1, rfl, by rw [HM2.out], by go_num, HB.out⟩, by simp [intOf]; omega⟩
    · obtain rfl : i = 4 := by omega
      have kk : ¬ (4 : Int) < 4 := by omega
      obtain ⟨T, hT⟩ : ∃ T, A ++ nonce = T := ⟨_, rfl⟩
      have hTs : T.size = 64 := by rw [← hT, ByteArray.size_append, hAs, hn]
      have hTl : T.data.toList = beginT key.data.toList (numBytes n) nonce.data.toList := by
        rw [← hT]
        have : (A ++ nonce).data.toList = A.data.toList ++ nonce.data.toList := by simp
        rw [this, hA, List.take_of_length_le (show (numBytes n).length ≤ 4 from Nat.le_refl _)]
        rfl
      obtain ⟨t, ht⟩ : ∃ t, T.data.toList = t := ⟨_, rfl⟩
      have HT : Hid (wordsL (t.take (4 * 16)) = f) := by
        show _ = _
        rw [List.take_of_length_le (by rw [← ht]; show T.size ≤ 64; omega), ← ht, hTl]
        exact HF.out.1
      obtain ⟨C, hC⟩ : ∃ C, wr.heap.size = C := ⟨_, rfl⟩
      obtain ⟨U1, hU1⟩ : ∃ W, wr.alloc (.cells #[Value.int IntKind.u32 0, Value.int IntKind.u32 0, Value.int IntKind.u32 0, Value.int IntKind.u32 0, Value.int IntKind.u32 0, Value.int IntKind.u32 0, Value.int IntKind.u32 0, Value.int IntKind.u32 0, Value.int IntKind.u32 0, Value.int IntKind.u32 0, Value.int IntKind.u32 0, Value.int IntKind.u32 0, Value.int IntKind.u32 0, Value.int IntKind.u32 0, Value.int IntKind.u32 0, Value.int IntKind.u32 0] 50) = W := ⟨_, rfl⟩
      have hr1 : (wr.alloc (.cells (u32v zeros16) 50)).heap[C]? = some (.cells (u32v zeros16) 50 (0, 0)) := by rw [← hC]; exact heap_alloc_new _ _
      replace hr1 : U1.heap[C]? = some (.cells (u32v (wordsL (t.take (4 * 0)))) 50 (0, 0)) := by rw [← hU1, Nat.mul_zero, List.take_zero, words_0]; exact hr1
      have hCw : w.heap.size ≤ C := by rw [← hC]; exact hB.size
      have HST : Hid (U1.heap[C]? = some (.cells (u32v (wordsL (t.take (4 * 0)))) 50 (0, 0)) ∧ Below w.heap.size w U1) := ⟨hr1, by rw [← hU1]; exact hB.alloc hB.size _⟩
      have HCW : Hid (w.heap.size ≤ C) := hCw
      clear hA hB hr1 hTl hCw
      go_wp2
      go_loopw [10] (fun v10 wr => ∃ i : Nat, i ≤ 16 ∧ v10 = .int .i64 (i : Int) ∧ wr.heap[C]? = some (.cells (u32v (wordsL (t.take (4 * i)))) 50 (0, 0)) ∧ Below w.heap.size w wr) (fun v _ => 16 - (intOf v).toNat)
      case atStart => exact ⟨0, by omega, rfl, HST.out⟩
      case round =>
        clear HST
        obtain ⟨i, hi, rfl, hr, hB⟩ := hrel
        by_cases hlt : i < 16
        · have kk : (i : Int) < 16 := by omega
          obtain ⟨p, hp⟩ : ∃ p, 4 * i = p := ⟨_, rfl⟩
          obtain ⟨p1, hp1⟩ : ∃ q, p + 1 = q := ⟨_, rfl⟩
          obtain ⟨p2, hp2⟩ : ∃ q, p + 2 = q := ⟨_, rfl⟩
          obtain ⟨p3, hp3⟩ : ∃ q, p + 3 = q := ⟨_, rfl⟩
          have j0 : (4 : Int) * (i : Int) = (p : Int) := by omega
          have j1 : (p : Int) + 1 = (p1 : Int) := by omega
          have j2 : (p : Int) + 2 = (p2 : Int) := by omega
          have j3 : (p : Int) + 3 = (p3 : Int) := by omega
          obtain ⟨b0, hb0⟩ : ∃ b, (t.getD p 0).toNat = b := ⟨_, rfl⟩
          obtain ⟨b1, hb1⟩ : ∃ b, (t.getD p1 0).toNat = b := ⟨_, rfl⟩
          obtain ⟨b2, hb2⟩ : ∃ b, (t.getD p2 0).toNat = b := ⟨_, rfl⟩
          obtain ⟨b3, hb3⟩ : ∃ b, (t.getD p3 0).toNat = b := ⟨_, rfl⟩
          have l0 : b0 < 256 := by rw [← hb0]; exact UInt8.toNat_lt _
          have l1 : b1 < 256 := by rw [← hb1]; exact UInt8.toNat_lt _
          have l2 : b2 < 256 := by rw [← hb2]; exact UInt8.toNat_lt _
          have l3 : b3 < 256 := by rw [← hb3]; exact UInt8.toNat_lt _
          have x0 := str_at T p b0 (by omega) (by rw [ht]; exact hb0)
          have x1 := str_at T p1 b1 (by omega) (by rw [ht]; exact hb1)
          have x2 := str_at T p2 b2 (by omega) (by rw [ht]; exact hb2)
          have x3 := str_at T p3 b3 (by omega) (by rw [ht]; exact hb3)
          obtain ⟨B1, hB1⟩ : ∃ x, 256 * b1 = x := ⟨_, rfl⟩
          obtain ⟨B2, hB2⟩ : ∃ x, 65536 * b2 = x := ⟨_, rfl⟩
          obtain ⟨B3, hB3⟩ : ∃ x, 16777216 * b3 = x := ⟨_, rfl⟩
          obtain ⟨S1, hS1⟩ : ∃ x, b0 + B1 = x := ⟨_, rfl⟩
          obtain ⟨S2, hS2⟩ : ∃ x, S1 + B2 = x := ⟨_, rfl⟩
          obtain ⟨S3, hS3⟩ : ∃ x, S2 + B3 = x := ⟨_, rfl⟩
          have m1 : (256 : Int) * (b1 : Int) = (B1 : Int) := by omega
          have m2 : (65536 : Int) * (b2 : Int) = (B2 : Int) := by omega
          have m3 : (16777216 : Int) * (b3 : Int) = (B3 : Int) := by omega
          have n1 : (b0 : Int) + (B1 : Int) = (S1 : Int) := by omega
          have n2 : (S1 : Int) + (B2 : Int) = (S2 : Int) := by omega
          have n3 : (S2 : Int) + (B3 : Int) = (S3 : Int) := by omega
          have r1 : (B1 : Int) % 4294967296 = (B1 : Int) := by omega
          have r2 : (B2 : Int) % 4294967296 = (B2 : Int) := by omega
          have r3 : (B3 : Int) % 4294967296 = (B3 : Int) := by omega
          have q1 : (S1 : Int) % 4294967296 = (S1 : Int) := by omega
          have q2 : (S2 : Int) % 4294967296 = (S2 : Int) := by omega
          have q3 : (S3 : Int) % 4294967296 = (S3 : Int) := by omega
          have hw3 : wordAt t i = S3 := by
            unfold wordAt
            rw [hp, hp1, hp2, hp3, hb0, hb1, hb2, hb3]; omega
          obtain ⟨z, hz⟩ : ∃ z, wr.cell? ⟨C, i, none⟩ = some z := ⟨_, by rw [cell_of_row _ _ _ _ _ _ hr, u32v_get _ _ (by rw [wordsL_len]; exact hlt)]⟩
          have fz := frozen_of_row wr C i _ _ hr
          obtain ⟨W9, hW9⟩ : ∃ W, wr.setCell ⟨C, i, none⟩ (.int .u32 (S3 : Int)) = W := ⟨_, rfl⟩
          have HN : Hid (W9.drew.heap[C]? = some (.cells (u32v (wordsL (t.take (4 * (i + 1))))) 50 (0, 0)) ∧ Below w.heap.size w W9.drew) := by
            rw [← hW9]
            refine ⟨?_, (hB.setCell HCW.out _).drew⟩
            show (wr.setCell _ _).heap[C]? = _
            rw [heap_setCell_same _ _ _ _ _ _ hr, u32v_set, words_next4 t i hlt, hw3]
          clear hr hB hw3 hb0 hb1 hb2 hb3 hp hp1 hp2 hp3 hB1 hB2 hB3 hS1 hS2 hS3
          go_wp2_with fail
          go_region
          go_wp2
          exact ⟨⟨i + 1, by omega, by go_num, HN.out⟩, by simp [intOf]; omega⟩
        · obtain rfl : i = 16 := by omega
          have kk : ¬ (16 : Int) < 16 := by omega
          rw [HT.out] at hr
          obtain ⟨D, hD⟩ : ∃ D, wr.heap.size = D := ⟨_, rfl⟩
          obtain ⟨U2, hU2⟩ : ∃ W, wr.alloc (.cells #[Value.int IntKind.u32 0, Value.int IntKind.u32 0, Value.int IntKind.u32 0, Value.int IntKind.u32 0, Value.int IntKind.u32 0, Value.int IntKind.u32 0, Value.int IntKind.u32 0, Value.int IntKind.u32 0, Value.int IntKind.u32 0, Value.int IntKind.u32 0, Value.int IntKind.u32 0, Value.int IntKind.u32 0, Value.int IntKind.u32 0, Value.int IntKind.u32 0, Value.int IntKind.u32 0, Value.int IntKind.u32 0] 50) = W := ⟨_, rfl⟩
          have hr2 : (wr.alloc (.cells (u32v zeros16) 50)).heap[D]? = some (.cells (u32v zeros16) 50 (0, 0)) := by rw [← hD]; exact heap_alloc_new _ _
          replace hr2 : U2.heap[D]? = some (.cells (u32v zeros16) 50 (0, 0)) := by rw [← hU2]; exact hr2
          have hb2 : Below wr.heap.size wr U2 := by rw [← hU2]; exact (Below.refl _ _).alloc (Nat.le_refl _) _
          have hCD : C < D := by rw [← hD]; exact lt_of_some hr
          have HW0 : Hid (RbW w C D f zeros16 U2) := ⟨(hb2.block C (by omega)).trans hr, hr2, by omega, by have := HCW.out; omega, hB.trans (hb2.mono hB.size)⟩
          have HR0 : Hid (wr.heap[C]? = some (.cells (u32v f) 50 (0, 0))) := hr
          obtain ⟨U3, hU3⟩ : ∃ W, U2.setRow D (u32v f) = W := ⟨_, rfl⟩
          have HST : Hid (RbW w C D f (roundsL f 0) U3) := by
            show RbW w C D f f U3
            rw [← hU3]; exact HW0.out.put f
          have HI := infoU16 f HF.out.2.1
          clear hr hB hr2 hb2 hCD
          go_wp2_with (first | (refine wpList_load_row rfl 50 _ rfl C rfl 50 (u32v f) (0, 0) _ HR0.out Tryd.underlying50 rfl HI ?_) | (refine wpList_store_row rfl 50 _ _ rfl D (u32v f) rfl rfl 50 (u32v zeros16) HW0.out.rs HI (by rw [u32v_size, u32v_size, HF.out.2.1]; rfl) (u32v_all _) ?_))
          try rw [hU3]
          clear HR0 HW0 HI hU3 hU2
          go_loopw [12] (fun v12 wr => ∃ i : Nat, i ≤ 10 ∧ v12 = .int .i64 (i : Int) ∧ RbW w C D f (roundsL f i) wr) (fun v _ => 10 - (intOf v).toNat)
          case atStart => exact ⟨0, by omega, rfl, HST.out⟩
          case round =>
            clear HST
            obtain ⟨i, hi, rfl, hrel⟩ := hrel
            by_cases hlt : i < 10
            · have kk : (i : Int) < 10 := by omega
              obtain ⟨S0, hS0⟩ : ∃ S, roundsL f i = S := ⟨_, rfl⟩
              rw [hS0] at hrel
              have hl0 : S0.length = 16 := by rw [← hS0, roundsL_len, HF.out.2.1]
              have hw0 : Wd S0 := by rw [← hS0]; exact roundsL_wd HF.out.2.2 i
              have hr0 : S0 = roundN S0 0 := rfl
              obtain ⟨S1, hS1⟩ : ∃ S, atL S0 0 4 8 12 = S := ⟨_, rfl⟩
              have hl1 : S1.length = 16 := by rw [← hS1, atL_len, hl0]
              have hw1 : Wd S1 := by rw [← hS1]; exact atL_wd hw0 _ _ _ _
              have hr1 : S1 = roundN S0 1 := by rw [roundN_step S0 0 (by omega), ← hr0, ← hS1]; rfl
              have HC0 : Hid (∀ W, Calls Tryd.prog 29 #[.agg (u32v S0), .int .i64 0, .int .i64 4, .int .i64 8, .int .i64 12] W fun e w' => e = .returned (.agg (u32v S1)) ∧ Below W.heap.size W w') := fun W => hS1 ▸ at_any S0 0 4 8 12 W hl0 hw0 (by omega) (by omega) (by omega) (by omega)
              have HI0 : Hid ((Tryd.prog.info? 50).map (·.size) = some (u32v S0).size) := infoU16 S0 hl0
              obtain ⟨S2, hS2⟩ : ∃ S, atL S1 1 5 9 13 = S := ⟨_, rfl⟩
              have hl2 : S2.length = 16 := by rw [← hS2, atL_len, hl1]
              have hw2 : Wd S2 := by rw [← hS2]; exact atL_wd hw1 _ _ _ _
              have hr2 : S2 = roundN S0 2 := by rw [roundN_step S0 1 (by omega), ← hr1, ← hS2]; rfl
              have HC1 : Hid (∀ W, Calls Tryd.prog 29 #[.agg (u32v S1), .int .i64 1, .int .i64 5, .int .i64 9, .int .i64 13] W fun e w' => e = .returned (.agg (u32v S2)) ∧ Below W.heap.size W w') := fun W => hS2 ▸ at_any S1 1 5 9 13 W hl1 hw1 (by omega) (by omega) (by omega) (by omega)
              have HI1 : Hid ((Tryd.prog.info? 50).map (·.size) = some (u32v S1).size) := infoU16 S1 hl1
              obtain ⟨S3, hS3⟩ : ∃ S, atL S2 2 6 10 14 = S := ⟨_, rfl⟩
              have hl3 : S3.length = 16 := by rw [← hS3, atL_len, hl2]
              have hw3 : Wd S3 := by rw [← hS3]; exact atL_wd hw2 _ _ _ _
              have hr3 : S3 = roundN S0 3 := by rw [roundN_step S0 2 (by omega), ← hr2, ← hS3]; rfl
              have HC2 : Hid (∀ W, Calls Tryd.prog 29 #[.agg (u32v S2), .int .i64 2, .int .i64 6, .int .i64 10, .int .i64 14] W fun e w' => e = .returned (.agg (u32v S3)) ∧ Below W.heap.size W w') := fun W => hS3 ▸ at_any S2 2 6 10 14 W hl2 hw2 (by omega) (by omega) (by omega) (by omega)
              have HI2 : Hid ((Tryd.prog.info? 50).map (·.size) = some (u32v S2).size) := infoU16 S2 hl2
              obtain ⟨S4, hS4⟩ : ∃ S, atL S3 3 7 11 15 = S := ⟨_, rfl⟩
              have hl4 : S4.length = 16 := by rw [← hS4, atL_len, hl3]
              have hw4 : Wd S4 := by rw [← hS4]; exact atL_wd hw3 _ _ _ _
              have hr4 : S4 = roundN S0 4 := by rw [roundN_step S0 3 (by omega), ← hr3, ← hS4]; rfl
              have HC3 : Hid (∀ W, Calls Tryd.prog 29 #[.agg (u32v S3), .int .i64 3, .int .i64 7, .int .i64 11, .int .i64 15] W fun e w' => e = .returned (.agg (u32v S4)) ∧ Below W.heap.size W w') := fun W => hS4 ▸ at_any S3 3 7 11 15 W hl3 hw3 (by omega) (by omega) (by omega) (by omega)
              have HI3 : Hid ((Tryd.prog.info? 50).map (·.size) = some (u32v S3).size) := infoU16 S3 hl3
              obtain ⟨S5, hS5⟩ : ∃ S, atL S4 0 5 10 15 = S := ⟨_, rfl⟩
              have hl5 : S5.length = 16 := by rw [← hS5, atL_len, hl4]
              have hw5 : Wd S5 := by rw [← hS5]; exact atL_wd hw4 _ _ _ _
              have hr5 : S5 = roundN S0 5 := by rw [roundN_step S0 4 (by omega), ← hr4, ← hS5]; rfl
              have HC4 : Hid (∀ W, Calls Tryd.prog 29 #[.agg (u32v S4), .int .i64 0, .int .i64 5, .int .i64 10, .int .i64 15] W fun e w' => e = .returned (.agg (u32v S5)) ∧ Below W.heap.size W w') := fun W => hS5 ▸ at_any S4 0 5 10 15 W hl4 hw4 (by omega) (by omega) (by omega) (by omega)
              have HI4 : Hid ((Tryd.prog.info? 50).map (·.size) = some (u32v S4).size) := infoU16 S4 hl4
              obtain ⟨S6, hS6⟩ : ∃ S, atL S5 1 6 11 12 = S := ⟨_, rfl⟩
              have hl6 : S6.length = 16 := by rw [← hS6, atL_len, hl5]
              have hw6 : Wd S6 := by rw [← hS6]; exact atL_wd hw5 _ _ _ _
              have hr6 : S6 = roundN S0 6 := by rw [roundN_step S0 5 (by omega), ← hr5, ← hS6]; rfl
              have HC5 : Hid (∀ W, Calls Tryd.prog 29 #[.agg (u32v S5), .int .i64 1, .int .i64 6, .int .i64 11, .int .i64 12] W fun e w' => e = .returned (.agg (u32v S6)) ∧ Below W.heap.size W w') := fun W => hS6 ▸ at_any S5 1 6 11 12 W hl5 hw5 (by omega) (by omega) (by omega) (by omega)
              have HI5 : Hid ((Tryd.prog.info? 50).map (·.size) = some (u32v S5).size) := infoU16 S5 hl5
              obtain ⟨S7, hS7⟩ : ∃ S, atL S6 2 7 8 13 = S := ⟨_, rfl⟩
              have hl7 : S7.length = 16 := by rw [← hS7, atL_len, hl6]
              have hw7 : Wd S7 := by rw [← hS7]; exact atL_wd hw6 _ _ _ _
              have hr7 : S7 = roundN S0 7 := by rw [roundN_step S0 6 (by omega), ← hr6, ← hS7]; rfl
              have HC6 : Hid (∀ W, Calls Tryd.prog 29 #[.agg (u32v S6), .int .i64 2, .int .i64 7, .int .i64 8, .int .i64 13] W fun e w' => e = .returned (.agg (u32v S7)) ∧ Below W.heap.size W w') := fun W => hS7 ▸ at_any S6 2 7 8 13 W hl6 hw6 (by omega) (by omega) (by omega) (by omega)
              have HI6 : Hid ((Tryd.prog.info? 50).map (·.size) = some (u32v S6).size) := infoU16 S6 hl6
              obtain ⟨S8, hS8⟩ : ∃ S, atL S7 3 4 9 14 = S := ⟨_, rfl⟩
              have hl8 : S8.length = 16 := by rw [← hS8, atL_len, hl7]
              have hw8 : Wd S8 := by rw [← hS8]; exact atL_wd hw7 _ _ _ _
              have hr8 : S8 = roundN S0 8 := by rw [roundN_step S0 7 (by omega), ← hr7, ← hS8]; rfl
              have HC7 : Hid (∀ W, Calls Tryd.prog 29 #[.agg (u32v S7), .int .i64 3, .int .i64 4, .int .i64 9, .int .i64 14] W fun e w' => e = .returned (.agg (u32v S8)) ∧ Below W.heap.size W w') := fun W => hS8 ▸ at_any S7 3 4 9 14 W hl7 hw7 (by omega) (by omega) (by omega) (by omega)
              have HI7 : Hid ((Tryd.prog.info? 50).map (·.size) = some (u32v S7).size) := infoU16 S7 hl7
              have HI8 : Hid ((Tryd.prog.info? 50).map (·.size) = some (u32v S8).size) := infoU16 S8 hl8
              have HEQ : Hid (S8 = roundsL f (i + 1)) := by show _ = _; rw [hr8, ← hS0]; rfl
              have HZ0 : Hid ((u32v S0).size = (u32v S1).size) := by show _ = _; rw [u32v_size, u32v_size, hl0, hl1]
              have HZ1 : Hid ((u32v S1).size = (u32v S2).size) := by show _ = _; rw [u32v_size, u32v_size, hl1, hl2]
              have HZ2 : Hid ((u32v S2).size = (u32v S3).size) := by show _ = _; rw [u32v_size, u32v_size, hl2, hl3]
              have HZ3 : Hid ((u32v S3).size = (u32v S4).size) := by show _ = _; rw [u32v_size, u32v_size, hl3, hl4]
              have HZ4 : Hid ((u32v S4).size = (u32v S5).size) := by show _ = _; rw [u32v_size, u32v_size, hl4, hl5]
              have HZ5 : Hid ((u32v S5).size = (u32v S6).size) := by show _ = _; rw [u32v_size, u32v_size, hl5, hl6]
              have HZ6 : Hid ((u32v S6).size = (u32v S7).size) := by show _ = _; rw [u32v_size, u32v_size, hl6, hl7]
              have HZ7 : Hid ((u32v S7).size = (u32v S8).size) := by show _ = _; rw [u32v_size, u32v_size, hl7, hl8]
              have HR : Hid (RbW w C D f S0 wr) := hrel
              clear hrel hS0 hl0 hw0 hr0 hS1 hl1 hw1 hr1 hS2 hl2 hw2 hr2 hS3 hl3 hw3 hr3 hS4 hl4 hw4 hr4 hS5 hl5 hw5 hr5 hS6 hl6 hw6 hr6 hS7 hl7 hw7 hr7 hS8 hl8 hw8 hr8
              go_wp2_with (first | (refine wpList_load_row rfl 50 _ rfl D rfl 50 (u32v S0) (0, 0) _ HR.out.rs Tryd.underlying50 rfl HI0.out ?_) | fail)
              refine (HC0.out _).mono ?_
              rintro e V0 ⟨rfl, hb⟩
              have HV0 : Hid (RbW w C D f S0 V0) := HR.out.on hb
              clear hb
              have HP1 : Hid (RbW w C D f S1 (V0.setRow D (u32v S1))) := HV0.out.put S1
              go_wp2_with (first | (refine wpList_load_row rfl 50 _ rfl D rfl 50 (u32v S1) (0, 0) _ HP1.out.rs Tryd.underlying50 rfl HI1.out ?_) | (refine wpList_store_row rfl 50 _ _ rfl D (u32v S1) rfl rfl 50 (u32v S0) HV0.out.rs HI1.out HZ0.out (u32v_all _) ?_) | fail)
              refine (HC1.out _).mono ?_
              rintro e V1 ⟨rfl, hb⟩
              have HV1 : Hid (RbW w C D f S1 V1) := HP1.out.on hb
              clear hb
              have HP2 : Hid (RbW w C D f S2 (V1.setRow D (u32v S2))) := HV1.out.put S2
              go_wp2_with (first | (refine wpList_load_row rfl 50 _ rfl D rfl 50 (u32v S2) (0, 0) _ HP2.out.rs Tryd.underlying50 rfl HI2.out ?_) | (refine wpList_store_row rfl 50 _ _ rfl D (u32v S2) rfl rfl 50 (u32v S1) HV1.out.rs HI2.out HZ1.out (u32v_all _) ?_) | fail)
              refine (HC2.out _).mono ?_
              rintro e V2 ⟨rfl, hb⟩
              have HV2 : Hid (RbW w C D f S2 V2) := HP2.out.on hb
              clear hb
              have HP3 : Hid (RbW w C D f S3 (V2.setRow D (u32v S3))) := HV2.out.put S3
              go_wp2_with (first | (refine wpList_load_row rfl 50 _ rfl D rfl 50 (u32v S3) (0, 0) _ HP3.out.rs Tryd.underlying50 rfl HI3.out ?_) | (refine wpList_store_row rfl 50 _ _ rfl D (u32v S3) rfl rfl 50 (u32v S2) HV2.out.rs HI3.out HZ2.out (u32v_all _) ?_) | fail)
              refine (HC3.out _).mono ?_
              rintro e V3 ⟨rfl, hb⟩
              have HV3 : Hid (RbW w C D f S3 V3) := HP3.out.on hb
              clear hb
              have HP4 : Hid (RbW w C D f S4 (V3.setRow D (u32v S4))) := HV3.out.put S4
              go_wp2_with (first | (refine wpList_load_row rfl 50 _ rfl D rfl 50 (u32v S4) (0, 0) _ HP4.out.rs Tryd.underlying50 rfl HI4.out ?_) | (refine wpList_store_row rfl 50 _ _ rfl D (u32v S4) rfl rfl 50 (u32v S3) HV3.out.rs HI4.out HZ3.out (u32v_all _) ?_) | fail)
              refine (HC4.out _).mono ?_
              rintro e V4 ⟨rfl, hb⟩
              have HV4 : Hid (RbW w C D f S4 V4) := HP4.out.on hb
              clear hb
              have HP5 : Hid (RbW w C D f S5 (V4.setRow D (u32v S5))) := HV4.out.put S5
              go_wp2_with (first | (refine wpList_load_row rfl 50 _ rfl D rfl 50 (u32v S5) (0, 0) _ HP5.out.rs Tryd.underlying50 rfl HI5.out ?_) | (refine wpList_store_row rfl 50 _ _ rfl D (u32v S5) rfl rfl 50 (u32v S4) HV4.out.rs HI5.out HZ4.out (u32v_all _) ?_) | fail)
              refine (HC5.out _).mono ?_
              rintro e V5 ⟨rfl, hb⟩
              have HV5 : Hid (RbW w C D f S5 V5) := HP5.out.on hb
              clear hb
              have HP6 : Hid (RbW w C D f S6 (V5.setRow D (u32v S6))) := HV5.out.put S6
              go_wp2_with (first | (refine wpList_load_row rfl 50 _ rfl D rfl 50 (u32v S6) (0, 0) _ HP6.out.rs Tryd.underlying50 rfl HI6.out ?_) | (refine wpList_store_row rfl 50 _ _ rfl D (u32v S6) rfl rfl 50 (u32v S5) HV5.out.rs HI6.out HZ5.out (u32v_all _) ?_) | fail)
              refine (HC6.out _).mono ?_
              rintro e V6 ⟨rfl, hb⟩
              have HV6 : Hid (RbW w C D f S6 V6) := HP6.out.on hb
              clear hb
              have HP7 : Hid (RbW w C D f S7 (V6.setRow D (u32v S7))) := HV6.out.put S7
              go_wp2_with (first | (refine wpList_load_row rfl 50 _ rfl D rfl 50 (u32v S7) (0, 0) _ HP7.out.rs Tryd.underlying50 rfl HI7.out ?_) | (refine wpList_store_row rfl 50 _ _ rfl D (u32v S7) rfl rfl 50 (u32v S6) HV6.out.rs HI7.out HZ6.out (u32v_all _) ?_) | fail)
              refine (HC7.out _).mono ?_
              rintro e V7 ⟨rfl, hb⟩
              have HV7 : Hid (RbW w C D f S7 V7) := HP7.out.on hb
              clear hb
              have HP8 : Hid (RbW w C D f S8 (V7.setRow D (u32v S8))) := HV7.out.put S8
              go_wp2_with (first | (refine wpList_store_row rfl 50 _ _ rfl D (u32v S8) rfl rfl 50 (u32v S7) HV7.out.rs HI8.out HZ7.out (u32v_all _) ?_))
              exact ⟨⟨i + 1, by omega, by go_num, HEQ.out ▸ HP8.out⟩, by simp [intOf]; omega⟩
            · obtain rfl : i = 10 := by omega
              have kk : ¬ (10 : Int) < 10 := by omega
              have HR : Hid (RbW w C D f (roundsL f 10) wr) := hrel
              clear hrel
              go_wp2
              go_loopw [13, 14] (fun v13 v14 wr => ∃ (i : Nat) (O : ByteArray), i ≤ 16 ∧ O.size = 4 * i ∧ O = strOf ((blockL f).take (4 * i)) ∧ v13 = .string O ∧ v14 = .int .i64 (i : Int) ∧ RbW w C D f (roundsL f 10) wr) (fun _ v _ => 16 - (intOf v).toNat)
              case atStart => exact ⟨0, _, by omega, rfl, rfl, rfl, rfl, HR.out⟩
              case round =>
                clear HR
                obtain ⟨i, O, hi, hOs, hO, rfl, rfl, hrel⟩ := hrel
                by_cases hlt : i < 16
                · have kk : (i : Int) < 16 := by omega
                  obtain ⟨x, hx⟩ : ∃ x, (roundsL f 10).getD i 0 = x := ⟨_, rfl⟩
                  obtain ⟨y, hy⟩ : ∃ y, f.getD i 0 = y := ⟨_, rfl⟩
                  obtain ⟨z, hz⟩ : ∃ z, addW x y = z := ⟨_, rfl⟩
                  have hxy := mod_add x y
                  rw [hz] at hxy
                  have hzl : z < 4294967296 := by rw [← hz]; exact addW_lt _ _
                  have hbn := block_next f i z hlt (by rw [blockWs_at f i hlt, hx, hy, hz])
                  obtain ⟨v0, h0⟩ : ∃ v, z % 256 = v := ⟨_, rfl⟩
                  obtain ⟨z1, h1⟩ : ∃ v, z / 256 = v := ⟨_, rfl⟩
                  obtain ⟨v1, h1'⟩ : ∃ v, z1 % 256 = v := ⟨_, rfl⟩
                  obtain ⟨z2, h2⟩ : ∃ v, z / 65536 = v := ⟨_, rfl⟩
                  obtain ⟨v2, h2'⟩ : ∃ v, z2 % 256 = v := ⟨_, rfl⟩
                  obtain ⟨v3, h3⟩ : ∃ v, z / 16777216 = v := ⟨_, rfl⟩
                  rw [h0, h1, h1', h2, h2', h3] at hbn
                  have l0 : v0 < 256 := by omega
                  have l1 : v1 < 256 := by omega
                  have l2 : v2 < 256 := by omega
                  have l3 : v3 < 256 := by omega
                  have e0 : (z : Int) % 256 = (v0 : Int) := by omega
                  have e1 : (z : Int) / 256 = (z1 : Int) := by omega
                  have e1' : (z1 : Int) % 256 = (v1 : Int) := by omega
                  have e2 : (z : Int) / 65536 = (z2 : Int) := by omega
                  have e2' : (z2 : Int) % 256 = (v2 : Int) := by omega
                  have e3 : (z : Int) / 16777216 = (v3 : Int) := by omega
                  have g0 : (v0 : Int) % 256 = (v0 : Int) := by omega
                  have g1 : (v1 : Int) % 256 = (v1 : Int) := by omega
                  have g2 : (v2 : Int) % 256 = (v2 : Int) := by omega
                  have g3 : (v3 : Int) % 256 = (v3 : Int) := by omega
                  have cx : wr.cell? ⟨D, i, none⟩ = some (.int .u32 (x : Int)) := by
                    rw [cell_of_row _ _ _ _ _ _ hrel.rs, u32v_get _ _ (by rw [roundsL_len, HF.out.2.1]; exact hlt), hx]
                  have cy : wr.cell? ⟨C, i, none⟩ = some (.int .u32 (y : Int)) := by
                    rw [cell_of_row _ _ _ _ _ _ hrel.rf, u32v_get _ _ (by rw [HF.out.2.1]; exact hlt), hy]
                  obtain ⟨X4, hX4⟩ : ∃ X, strOf [UInt8.ofNat v0, UInt8.ofNat v1, UInt8.ofNat v2, UInt8.ofNat v3] = X := ⟨_, rfl⟩
                  have hX4s : X4.size = 4 := by rw [← hX4]; rfl
                  have hcv := fun (W : World) => conv_four W wr.heap.size 4 v0 v1 v2 v3
                  rw [hX4] at hcv
                  have HO : Hid (O ++ X4 = strOf ((blockL f).take (4 * (i + 1))) ∧ (O ++ X4).size = 4 * (i + 1)) := by
                    refine ⟨by rw [hbn, strOf_append, ← hO, hX4], by rw [ByteArray.size_append, hOs, hX4s]; omega⟩
                  have HR : Hid (RbW w C D f (roundsL f 10) (wr.drew.alloc (.cells #[.int .u8 (v0 : Int), .int .u8 (v1 : Int), .int .u8 (v2 : Int), .int .u8 (v3 : Int)] 5))) := hrel.on ((Below.refl _ _).drew.alloc (Nat.le_refl _) _)
                  clear hrel hx hy hz hbn hO h0 h1 h1' h2 h2' h3 hX4
                  go_wp2_with fail
                  go_region
                  go_wp2
                  exact ⟨⟨i + 1, _, by omega, HO.out.2, HO.out.1, rfl, by go_num, HR.out⟩, by simp [intOf]; omega⟩
                · obtain rfl : i = 16 := by omega
                  have kk : ¬ (16 : Int) < 16 := by omega
                  have HO : Hid (O = strOf (blockL f)) := by
                    show _ = _
                    rw [hO, List.take_of_length_le (by rw [blockL_len]; omega)]
                  have hb := hrel.bl
                  clear hrel hO
                  go_wp2
                  go_ret
                  exact ⟨by rw [HO.out]; rfl, hb⟩
end Go.Proofs.YtbflkkffpcaakaaDoor
