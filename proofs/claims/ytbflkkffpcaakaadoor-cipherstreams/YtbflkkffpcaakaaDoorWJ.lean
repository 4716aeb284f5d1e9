/- Walk over the document's Hide. -/
import Derived.Test.YtbflkkffpcaakaaDoorWI
namespace Go.Proofs.YtbflkkffpcaakaaDoor
open Go.RowKit
theorem hide_next (f : List Nat) (t : List UInt8) (i b c : Nat) (hi : i < t.length) (hb : (t.getD i 0).toNat = b) (hc : ((blockL (numbered f (i / 64 + 1))).getD (i % 64) 0).toNat = c) :
    hideL f 0 (t.take (i + 1)) = hideL f 0 (t.take i) ++ [UInt8.ofNat (b ^^^ c)] := by
  rw [List.take_add_one, List.getElem?_eq_getElem hi]
  simp only [Option.toList]
  rw [hideL_snoc, List.length_take, Nat.min_eq_left (by omega), Nat.zero_add]
  congr 2
  apply UInt8.toNat_inj.1
  have e : t.getD i 0 = t[i] := by simp [hi]
  have hb8 : b < 256 := by rw [← hb]; exact UInt8.toNat_lt _
  have hc8 : c < 256 := by rw [← hc]; exact UInt8.toNat_lt _
  rw [UInt8.toNat_xor, UInt8.toNat_ofNat', Nat.mod_eq_of_lt (Nat.xor_lt_two_pow (n := 8) hb8 hc8), ← e, hb]
  unfold strmAt
  rw [hc]
set_option maxRecDepth 100000 in
set_option maxHeartbeats 4000000 in
theorem rhide_any (key nonce text : ByteArray) (w : World) (hk : key.size = 32) (hn : nonce.size = 12) (ht : text.size ≤ 1000000) :
    Calls Tryd.prog 17 #[.string key, .string nonce, .string text] w fun e w' => e = .returned (.string (strOf (hideL (firstL key.data.toList nonce.data.toList) 0 text.data.toList))) ∧ Below w.heap.size w w' := by
  obtain ⟨f, hf⟩ : ∃ f, firstL key.data.toList nonce.data.toList = f := ⟨_, rfl⟩
  obtain ⟨t, htl⟩ : ∃ t, text.data.toList = t := ⟨_, rfl⟩
  obtain ⟨N, hN⟩ : ∃ N, text.size = N := ⟨_, rfl⟩
  have htN : t.length = N := by rw [← htl, Array.length_toList]; exact hN
  have HBL : Hid (∀ (m : Nat) (W : World), m < 4294967296 → Calls Tryd.prog 14 #[.string key, .string nonce, .int .u32 (m : Int)] W fun e w' => e = .returned (.string (strOf (blockL (numbered f m)))) ∧ Below W.heap.size W w') := fun m W hm => by
    have h := rblock_any key nonce m W hk hn hm
    rw [hf] at h
    unfold numbered
    rw [Nat.mod_eq_of_lt hm]
    exact h
  have HT : Hid (text.data.toList = t ∧ t.length = N) := ⟨htl, htN⟩
  rw [hf, htl]
  rw [hN] at ht
  clear hf htl htN
  go_enter Tryd.func17, Tryd.ntmps17
  go_wp2
  go_loopw [7, 8, 9] (fun v7 v8 v9 wr => ∃ (i : Nat) (O G : ByteArray), i ≤ N ∧ O.size = i ∧ O = strOf (hideL f 0 (t.take i)) ∧ (i % 64 ≠ 0 → G = strOf (blockL (numbered f (i / 64 + 1)))) ∧ v7 = .string O ∧ v8 = .string G ∧ v9 = .int .i64 (i : Int) ∧ Below w.heap.size w wr) (fun _ _ v _ => N - (intOf v).toNat)
  case atStart => exact ⟨0, _, _, by omega, rfl, rfl, fun h => absurd rfl h, rfl, rfl, rfl, Below.refl _ _⟩
  case round =>
    obtain ⟨i, O, G, hi, hOs, hO, hG, rfl, rfl, rfl, hB⟩ := hrel
    by_cases hlt : i < N
    · have kk : (i : Int) < (N : Int) := by omega
      obtain ⟨r, hr⟩ : ∃ r, i % 64 = r := ⟨_, rfl⟩
      have hr64 : r < 64 := by omega
      have kr : (i : Int) % 64 = (r : Int) := by omega
      obtain ⟨K, hK⟩ : ∃ K, strOf (blockL (numbered f (i / 64 + 1))) = K := ⟨_, rfl⟩
      have hKs : K.size = 64 := by rw [← hK, strOf_size, blockL_len]
      obtain ⟨b, hb⟩ : ∃ b, (t.getD i 0).toNat = b := ⟨_, rfl⟩
      obtain ⟨c, hc⟩ : ∃ c, (K.data.toList.getD r 0).toNat = c := ⟨_, rfl⟩
      have hb8 : b < 256 := by rw [← hb]; exact UInt8.toNat_lt _
      have hc8 : c < 256 := by rw [← hc]; exact UInt8.toNat_lt _
      have xb := str_at text i b (by rw [hN]; exact hlt) (by rw [HT.out.1]; exact hb)
      have xc := str_at K r c (by rw [hKs]; exact hr64) hc
      obtain ⟨x, hx⟩ : ∃ x, b ^^^ c = x := ⟨_, rfl⟩
      have hx8 : x < 256 := by rw [← hx]; exact Nat.xor_lt_two_pow (n := 8) hb8 hc8
      have hxi : bits BinOp.xor IntKind.u8 (b : Int) (c : Int) = (x : Int) := by rw [← hx]; exact u8_xor_nat b c hb8 hc8
      have hT1 : (strOf [UInt8.ofNat x]).size = 1 := rfl
      have HO : Hid (O ++ strOf [UInt8.ofNat x] = strOf (hideL f 0 (t.take (i + 1))) ∧ (O ++ strOf [UInt8.ofNat x]).size = i + 1) := by
        refine ⟨?_, by rw [ByteArray.size_append, hOs, hT1]⟩
        rw [hide_next f t i b c (by rw [HT.out.2]; exact hlt) hb (by rw [hr]; rw [← hK] at hc; exact hc), strOf_append, ← hO, hx]
      have HK : Hid ((i + 1) % 64 ≠ 0 → K = strOf (blockL (numbered f ((i + 1) / 64 + 1)))) := fun h => by rw [← hK, show (i + 1) / 64 = i / 64 by omega]
      have HB : Hid (Below w.heap.size w wr) := hB
      by_cases hr0 : r = 0
      · obtain ⟨m, hm⟩ : ∃ m, i / 64 + 1 = m := ⟨_, rfl⟩
        have hml : m < 4294967296 := by omega
        have km : (i : Int) / 64 + 1 = (m : Int) := by omega
        have kw : (m : Int) % 4294967296 = (m : Int) := by omega
        have HC := HBL.out m wr hml
        rw [← hm, hK, hm] at HC
        have kr0 : (r : Int) = 0 := by omega
        have krb : ((r : Int) == 0) = true := by rw [kr0]; rfl
        clear hO hG hB hb hc hx hr hK hm kr0 hr0
        go_wp2_with fail
        refine HC.mono ?_
        rintro e V ⟨rfl, hbv⟩
        have HB2 : Hid (Below w.heap.size w V) := HB.out.trans (hbv.mono HB.out.size)
        clear HC hbv
        have hcv := fun (W : World) => conv_one W V.heap.size 1 x
        have HE : Hid (Below w.heap.size w (V.drew.alloc (.cells #[.int .u8 (x : Int)] 5))) := HB2.out.drew.alloc HB2.out.size _
        go_wp2_with fail
        go_region
        go_wp2
        exact ⟨⟨i + 1, _, K, by omega, HO.out.2, HO.out.1, HK.out, rfl, rfl, by go_num, HE.out⟩, by simp [intOf]; omega⟩
      · have kr0 : ¬ (r : Int) = 0 := by omega
        have krb : ((r : Int) == 0) = false := by simpa using kr0
        obtain rfl : K = G := by rw [← hK]; exact (hG (by omega)).symm
        have HB2 : Hid (Below w.heap.size w wr) := HB.out
        clear hO hG hB hb hc hx hr hK
        have hcv := fun (W : World) => conv_one W wr.heap.size 1 x
        have HE : Hid (Below w.heap.size w (wr.drew.alloc (.cells #[.int .u8 (x : Int)] 5))) := HB2.out.drew.alloc HB2.out.size _
        go_wp2_with fail
        go_region
        go_wp2
        exact ⟨⟨i + 1, _, K, by omega, HO.out.2, HO.out.1, HK.out, rfl, rfl, by go_num, HE.out⟩, by simp [intOf]; omega⟩
    · obtain rfl : N = i := by omega
      have kk : ¬ (N : Int) < (N : Int) := by omega
      have HO : Hid (O = strOf (hideL f 0 t)) := by show _ = _; rw [hO, List.take_of_length_le (by rw [HT.out.2]; omega)]
      clear hO hG
      go_wp2
      go_ret
      exact ⟨by rw [HO.out]; rfl, hB⟩
end Go.Proofs.YtbflkkffpcaakaaDoor
