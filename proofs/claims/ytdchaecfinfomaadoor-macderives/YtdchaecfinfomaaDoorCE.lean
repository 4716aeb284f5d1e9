/- Walk over the program's Check. -/
import Derived.Test.YtdchaecfinfomaaDoorCD
namespace Go.Proofs.YtdchaecfinfomaaDoor
open Go.RowKit
theorem str_at (s : ByteArray) (k x : Nat) (hk : k < s.size) (hx : (s.data.toList.getD k 0).toNat = x) (W : World) : (Instr.index 9 (.string s) (.int .i64 (k : Int))).run Tryd.prog W = .ok (.int .u8 (x : Int)) W := by
  have hk' : k < s.data.size := hk
  rw [run_index_string W 9 s .i64 (k : Int) Tryd.underlying9, dif_pos ⟨by omega, by omega⟩]
  congr 2
  rw [← hx, List.getD_eq_getElem?_getD, Array.getElem?_toList, Array.getElem?_eq_getElem hk']
  rfl
theorem or_xor_zero (d x y : Nat) : (d ||| (x ^^^ y)) = 0 ↔ d = 0 ∧ x = y := by
  rw [Nat.or_eq_zero_iff]
  refine and_congr_right fun _ => ⟨fun h => ?_, fun h => by rw [h, Nat.xor_self]⟩
  have e : (x ^^^ y) ^^^ y = x := by rw [Nat.xor_assoc, Nat.xor_self, Nat.xor_zero]
  rw [← e, h, Nat.zero_xor]
theorem take_next (s t : List UInt8) (i : Nat) (hs : i < s.length) (ht : i < t.length) : s.take (i + 1) = t.take (i + 1) ↔ s.take i = t.take i ∧ (s.getD i 0).toNat = (t.getD i 0).toNat := by
  rw [List.take_add_one, List.take_add_one, List.getElem?_eq_getElem hs, List.getElem?_eq_getElem ht]
  simp only [Option.toList]
  constructor
  · intro h
    have := List.append_inj h (by simp; omega)
    refine ⟨this.1, ?_⟩
    have e := this.2
    simp at e
    simp [hs, ht, e]
  · rintro ⟨h1, h2⟩
    rw [h1]
    congr 1
    simp [hs, ht] at h2
    have := UInt8.toNat_inj.1 h2
    rw [this]
set_option maxRecDepth 100000 in
set_option maxHeartbeats 1000000 in
theorem check_any (k m s : ByteArray) (w : World) (hk : k.size ≤ 1000000000) (hm : m.size ≤ 1000000000) (hL : Laid w) :
    Calls Tryd.prog 13 #[.string k, .string m, .string s] w fun e w' => e = .returned (.bool (decide (s.data.toList = sealL k.data.toList m.data.toList))) ∧ Below w.heap.size w w' := by
  obtain ⟨T, hT⟩ : ∃ T, sealL k.data.toList m.data.toList = T := ⟨_, rfl⟩
  have hTl : T.length = 32 := by rw [← hT, sealL_len]
  have hsl : s.data.toList.length = s.size := by rw [Array.length_toList]; rfl
  rw [hT]
  by_cases h32 : s.size = 32
  · have HS : Hid (Calls Tryd.prog 11 #[.string k, .string m] w fun e w' => e = .returned (.string (strOf T)) ∧ Below w.heap.size w w') := by rw [← hT]; exact seal_any k m w hk hm hL
    have hwz : (strOf T).size = 32 := by rw [strOf_size, hTl]
    have HT : Hid (T.length = 32) := hTl
    have HSL : Hid (s.data.toList.length = 32) := by rw [hsl]; exact h32
    have h32i : (s.size : Int) = 32 := by omega
    clear hT hL hTl hsl
    go_enter Tryd.func13, Tryd.ntmps13
    go_wp2_with fail
    refine HS.out.mono ?_
    rintro e w2 ⟨rfl, hB2⟩
    go_wp2
    go_loopw [8, 16] (fun d i wr => ∃ n D : Nat, n ≤ 32 ∧ D < 256 ∧ d = .int .u8 (D : Int) ∧ i = .int .i64 (n : Int) ∧ (D = 0 ↔ s.data.toList.take n = T.take n) ∧ Below w.heap.size w wr) (fun _ i _ => 32 - (intOf i).toNat)
    case atStart => exact ⟨0, 0, by omega, by omega, rfl, rfl, by simp, hB2⟩
    case round =>
      obtain ⟨n, D, hn, hD, rfl, rfl, hiff, hB⟩ := hrel
      by_cases hlt : n < 32
      · obtain ⟨x, hx⟩ : ∃ x, (s.data.toList.getD n 0).toNat = x := ⟨_, rfl⟩
        obtain ⟨y, hy⟩ : ∃ y, (T.getD n 0).toNat = y := ⟨_, rfl⟩
        have hx8 : x < 256 := by rw [← hx]; exact UInt8.toNat_lt _
        have hy8 : y < 256 := by rw [← hy]; exact UInt8.toNat_lt _
        have i1 : ∀ W, (Instr.index 9 (.string s) (.int .i64 (n : Int))).run Tryd.prog W = .ok (.int .u8 (x : Int)) W := str_at s n x (by omega) hx
        have i2 : ∀ W, (Instr.index 9 (.string (strOf T)) (.int .i64 (n : Int))).run Tryd.prog W = .ok (.int .u8 (y : Int)) W := str_at (strOf T) n y (by omega) hy
        obtain ⟨u, hu⟩ : ∃ u, x ^^^ y = u := ⟨_, rfl⟩
        have hu8 : u < 256 := by rw [← hu]; exact Nat.xor_lt_two_pow (n := 8) hx8 hy8
        obtain ⟨v, hv⟩ : ∃ v, D ||| u = v := ⟨_, rfl⟩
        have hv8 : v < 256 := by rw [← hv]; exact Nat.or_lt_two_pow (n := 8) hD hu8
        have b1 : bits BinOp.xor IntKind.u8 (x : Int) (y : Int) = (u : Int) := by rw [u8_xor_nat x y hx8 hy8, hu]
        have b2 : bits BinOp.or IntKind.u8 (D : Int) (u : Int) = (v : Int) := by rw [u8_or_nat D u hD hu8, hv]
        have HF : Hid (v = 0 ↔ s.data.toList.take (n + 1) = T.take (n + 1)) := by
          show _ ↔ _
          rw [take_next _ _ _ (by rw [HSL.out]; exact hlt) (by rw [HT.out]; exact hlt), ← hv, ← hu, or_xor_zero, hiff, hx, hy]
        have HB : Hid (Below w.heap.size w wr) := hB
        have kn : (n : Int) < 32 := by omega
        clear hiff hB hx hy hu hv hB2
        go_wp2
        refine wp_region_held_drew (S := fun _ => True) (by kernel_rfl) (trivial) (fun hHeld => ?_)
        refine wpAnyH_take (i := 0) (v := ?v0) rfl (by kernel_rfl) (by kernel_rfl) (by kernel_rfl) (fun _ _ _ h => h) (Or.inl ⟨by kernel_rfl, ?y0⟩) hHeld ?r0
        case y0 => (intro W hSW; (try dsimp only at hSW); go_simp; (try with_reducible rfl))
        change wpAnyH _ _ _ _ _ _ _ (Act.put _ (some 19) _) _
        simp only [Act.put, List.setIfInBounds_toArray, List.set_cons_zero, List.set_cons_succ]
        refine wpAnyH_take (i := 1) (v := ?v1) rfl (by kernel_rfl) (by kernel_rfl) (by kernel_rfl) (fun _ _ _ h => h) (Or.inl ⟨by kernel_rfl, ?y1⟩) hHeld ?r1
        case y1 => (intro W hSW; (try dsimp only at hSW); go_simp; (try with_reducible rfl))
        change wpAnyH _ _ _ _ _ _ _ (Act.put _ (some 20) _) _
        simp only [Act.put, List.setIfInBounds_toArray, List.set_cons_zero, List.set_cons_succ]
        refine wpAnyH_take (i := 2) (v := ?v2) rfl (by kernel_rfl) (by kernel_rfl) (by kernel_rfl) (fun _ _ _ h => h) (Or.inl ⟨by kernel_rfl, ?y2⟩) hHeld ?r2
        case y2 => (intro W hSW; (try dsimp only at hSW); go_simp; (try with_reducible rfl))
        change wpAnyH _ _ _ _ _ _ _ (Act.put _ (some 21) _) _
        simp only [Act.put, List.setIfInBounds_toArray, List.set_cons_zero, List.set_cons_succ]
        refine wpAnyH_take (i := 3) (v := ?v3) rfl (by kernel_rfl) (by kernel_rfl) (by kernel_rfl) (fun _ _ _ h => h) (Or.inl ⟨by kernel_rfl, ?y3⟩) hHeld ?r3
        case y3 => (intro W hSW; (try dsimp only at hSW); go_simp; (try with_reducible rfl))
        change wpAnyH _ _ _ _ _ _ _ (Act.put _ (some 22) _) _
        simp only [Act.put, List.setIfInBounds_toArray, List.set_cons_zero, List.set_cons_succ]
        refine wpAnyH_take (i := 4) (v := ?v4) rfl (by kernel_rfl) (by kernel_rfl) (by kernel_rfl) (fun _ _ _ h => h) (Or.inl ⟨by kernel_rfl, ?y4⟩) hHeld ?r4
        case y4 => (intro W hSW; (try dsimp only at hSW); go_simp; (try with_reducible rfl))
        change wpAnyH _ _ _ _ _ _ _ (Act.put _ (some 23) _) _
        simp only [Act.put, List.setIfInBounds_toArray, List.set_cons_zero, List.set_cons_succ]
        refine wpAnyH_take (i := 5) (v := ?v5) rfl (by kernel_rfl) (by kernel_rfl) (by kernel_rfl) (fun _ _ _ h => h) (Or.inl ⟨by kernel_rfl, ?y5⟩) hHeld ?r5
        case y5 => (intro W hSW; (try dsimp only at hSW); go_simp; (try with_reducible rfl))
        change wpAnyH _ _ _ _ _ _ _ (Act.put _ (some 24) _) _
        simp only [Act.put, List.setIfInBounds_toArray, List.set_cons_zero, List.set_cons_succ]
        refine wpAnyH_take (i := 6) (v := ?v6) rfl (by kernel_rfl) (by kernel_rfl) (by kernel_rfl) (fun _ _ _ h => h) (Or.inl ⟨by kernel_rfl, ?y6⟩) hHeld ?r6
        case y6 => (intro W hSW; (try dsimp only at hSW); go_simp; (try with_reducible rfl))
        change wpAnyH _ _ _ _ _ _ _ (Act.put _ (some 25) _) _
        simp only [Act.put, List.setIfInBounds_toArray, List.set_cons_zero, List.set_cons_succ]
        refine wpAnyH_take (i := 7) (v := ?v7) rfl (by kernel_rfl) (by kernel_rfl) (by kernel_rfl) (fun _ _ _ h => h) (Or.inl ⟨by kernel_rfl, ?y7⟩) hHeld ?r7
        case y7 => (intro W hSW; (try dsimp only at hSW); go_simp; (try with_reducible rfl))
        change wpAnyH _ _ _ _ _ _ _ (Act.put _ (some 26) _) _
        simp only [Act.put, List.setIfInBounds_toArray, List.set_cons_zero, List.set_cons_succ]
        refine wpAnyH_take (i := 8) (v := ?v8) rfl (by kernel_rfl) (by kernel_rfl) (by kernel_rfl) (fun _ _ _ h => h) (Or.inl ⟨by kernel_rfl, ?y8⟩) hHeld ?r8
        case y8 => (intro W hSW; (try dsimp only at hSW); go_simp; (try with_reducible rfl))
        change wpAnyH _ _ _ _ _ _ _ (Act.put _ (some 27) _) _
        simp only [Act.put, List.setIfInBounds_toArray, List.set_cons_zero, List.set_cons_succ]
        refine wpAnyH_take (i := 9) (v := ?v9) rfl (by kernel_rfl) (by kernel_rfl) (by kernel_rfl) (fun _ _ _ h => h) (Or.inl ⟨by kernel_rfl, ?y9⟩) hHeld ?r9
        case y9 => (intro W hSW; (try dsimp only at hSW); go_simp; (try with_reducible rfl))
        change wpAnyH _ _ _ _ _ _ _ (Act.put _ (some 8) _) _
        simp only [Act.put, List.setIfInBounds_toArray, List.set_cons_zero, List.set_cons_succ]
        refine wpAnyH_done (by kernel_rfl) ?_ _
        go_wp2
        refine ⟨⟨n + 1, v, by omega, hv8, rfl, by go_num, HF.out, ?_⟩, by simp [intOf]; omega⟩
        exact HB.out.drew
      · obtain rfl : n = 32 := by omega
        have hf : D = 0 ↔ s.data.toList = T := by
          rw [hiff, List.take_of_length_le (by rw [HSL.out]; omega), List.take_of_length_le (by rw [HT.out]; omega)]
        have HD : Hid (decide ((D : Int) = 0) = decide (s.data.toList = T)) := by
          show _ = _
          rw [decide_eq_decide]; rw [← hf]; omega
        clear hiff hf
        go_wp2
        go_ret
        refine ⟨?_, hB⟩
        rw [← HD.out]
        first | rfl | (congr 2)
  · have hne : ¬ (s.size : Int) = 32 := by omega
    have HF : decide (s.data.toList = T) = false := by
      simp only [decide_eq_false_iff_not]
      intro e
      rw [e] at hsl
      omega
    rw [HF]
    clear hT
    go_enter Tryd.func13, Tryd.ntmps13
    go_wp2
    go_ret
    exact ⟨rfl, Below.refl _ _⟩
end Go.Proofs.YtdchaecfinfomaaDoor
