/- Walk over the document's Derive. -/
import Derived.Test.YtbflkkffpcaakaaDoorEA
import Derived.Test.YtbflkkffpcaakaaDoorEB0
namespace Go.Proofs.YtbflkkffpcaakaaDoor
open Go.RowKit
set_option maxRecDepth 100000 in
theorem refderive_out (k l : ByteArray) (n : Int) (w : World) (hn : n < 0 ∨ 8160 < n) :
    Calls Tryd.prog 34 #[.string k, .string l, .int .i64 n] w fun e w' => e = .returned (.tuple #[.string ⟨#[]⟩, .int .i64 9]) ∧ w' = w := by
  go_enter Tryd.func34, Tryd.ntmps34
  by_cases h0 : n < 0
  · go_wp2
    refine bodyPost_ret (v := .tuple #[.string ⟨#[]⟩, .int .i64 9]) ?_ rfl ⟨rfl, rfl⟩
    simp [results, go_sem]
  · have h1 : 8160 < n := by omega
    go_wp2
    refine bodyPost_ret (v := .tuple #[.string ⟨#[]⟩, .int .i64 9]) ?_ rfl ⟨rfl, rfl⟩
    simp [results, go_sem]
set_option maxRecDepth 100000 in
set_option maxHeartbeats 1000000 in
theorem refderive_any (k l : ByteArray) (n : Nat) (w : World) (hk : k.size ≤ 1000000) (hl : l.size ≤ 100000) (hn : n ≤ 8160) :
    Calls Tryd.prog 34 #[.string k, .string l, .int .i64 (n : Int)] w fun e w' => e = .returned (.tuple #[.string (strOf (derived k.data.toList l.data.toList n)), .int .i64 0]) ∧ Below w.heap.size w w' := by
  obtain ⟨b, hb⟩ : ∃ b, blockOf k.data.toList = b := ⟨_, rfl⟩
  obtain ⟨lb, hlb⟩ : ∃ lb, l.data.toList = lb := ⟨_, rfl⟩
  have HF : Hid (∀ i, i ≤ 255 → n ≤ 32 * i → derived k.data.toList lb n = (deriveA b lb i).take n) := by
    intro i hi h; rw [← hb]; exact (derived_of _ _ _ _ hi h).symm
  have HSE : Hid (∀ (M : ByteArray) (W : World), M.size ≤ 900000 → Below w.heap.size w W → Calls Tryd.prog 35 #[.string k, .string M] W fun e w' => e = .returned (.string (strOf (sealB b M.data.toList))) ∧ Below w.heap.size w w') := by
    intro M W hM hB
    rw [← hb]
    refine (refseal_any k M W hk hM).mono ?_
    rintro e w' ⟨rfl, hB'⟩
    exact ⟨rfl, hB.trans (hB'.mono hB.size)⟩
  have HLB : Hid (l.data.toList = lb) := hlb
  have k1 : ¬ (n : Int) < 0 := by omega
  have k2 : ¬ (8160 : Int) < (n : Int) := by omega
  rw [hlb]
  clear hb hlb hk
  go_enter Tryd.func34, Tryd.ntmps34
  go_wp2
  go_loopw [8, 9, 10] (fun al la c wr => ∃ (i : Nat) (A : ByteArray), A.size = 32 * i ∧ 32 * i < n + 32 ∧ A = strOf (deriveA b lb i) ∧ al = .string A ∧ la = .string (strOf (deriveT b lb i)) ∧ c = .int .i64 ((i + 1 : Nat) : Int) ∧ Below w.heap.size w wr) (fun al _ _ _ => 9000 - strN al)
  case atStart => exact ⟨0, _, rfl, by omega, rfl, rfl, rfl, rfl, Below.refl _ _⟩
  case round =>
    obtain ⟨i, A, hAs, hNn, hA, rfl, rfl, rfl, hB⟩ := hrel
    obtain ⟨N, hN⟩ : ∃ N, N = 32 * i := ⟨_, rfl⟩
    rw [← hN] at hAs hNn
    have HA : Hid (A = strOf (deriveA b lb i)) := hA
    have HN : Hid (N = 32 * i) := hN
    clear hA
    by_cases hlt : N < n
    · have hi : i < 255 := by omega
      obtain ⟨c, hc⟩ : ∃ c, c = i + 1 := ⟨_, rfl⟩
      rw [← hc]
      have hc1 : c ≤ 255 := by omega
      have hcm : (c : Int) % 256 = (c : Int) := by omega
      obtain ⟨T, hT⟩ : ∃ T, strOf (deriveT b lb i) = T := ⟨_, rfl⟩
      have hTs : T.size ≤ 32 := by rw [← hT, strOf_size]; exact deriveT_len _ _ _
      have hT1 : (strOf [UInt8.ofNat c]).size = 1 := rfl
      have hcv := fun (W : World) => conv_one W wr.heap.size 1 c
      have kN : (N : Int) < (n : Int) := by omega
      have HC : Hid (c = i + 1) := hc
      obtain ⟨U, hU⟩ : ∃ U, strOf (deriveT b lb (i + 1)) = U := ⟨_, rfl⟩
      have hUs : U.size = 32 := by rw [← hU, strOf_size, deriveT, sealB_len]
      have HU : Hid (strOf (deriveT b lb (i + 1)) = U) := hU
      have HT : Hid (strOf (sealB b (T ++ l ++ strOf [UInt8.ofNat c]).data.toList) = U) := by
        show _ = _
        rw [← hU, deriveT, ← hc, ← hT, ← HLB.out]
        congr 1
      have HSE1 := HSE.out (T ++ l ++ strOf [UInt8.ofNat c]) (wr.alloc (.cells #[.int .u8 (c : Int)] 5)) (by rw [ByteArray.size_append, ByteArray.size_append, hT1]; omega) (hB.alloc hB.size _)
      rw [HT.out] at HSE1
      rw [hT]
      clear hT hN hc hU hB
      go_wp2_with fail
      refine HSE1.mono ?_
      rintro e w4 ⟨rfl, hB4⟩
      clear HSE1 hcv
      go_wp2
      go_roundw
      case rel =>
        refine ⟨i + 1, A ++ U, by rw [ByteArray.size_append, hAs, hUs, HN.out]; omega, by have := HN.out; omega, ?_, rfl, by rw [HU.out], by have := HC.out; go_num, hB4⟩
        rw [deriveA, strOf_append, HU.out, ← HA.out]
      case measure => simp [strN, ByteArray.size_append, hAs, hUs]; omega
    · have hi : i ≤ 255 := by omega
      have kN : ¬ (N : Int) < (n : Int) := by omega
      have kn : (n : Int) ≤ (N : Int) := by omega
      have HE : Hid (A.extract 0 n = strOf (derived k.data.toList lb n)) := by
        show _ = _
        rw [HF.out i hi (by omega), HA.out, strOf_upto]
      clear hN
      go_wp2
      refine bodyPost_ret (v := .tuple #[.string (A.extract 0 n), .int .i64 0]) ?_ rfl ⟨by rw [HE.out], hB⟩
      simp [results, go_sem]
end Go.Proofs.YtbflkkffpcaakaaDoor
