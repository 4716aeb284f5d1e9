/- Proved: for every size and l, the law RollWindows returns true, size and l as they were. No condition: every input that can be read as data. -/
import Derived.Test.YteiigaoniipedaaRows
import Derived.Test.YteiigaoniipedaaL
import Derived.WalkKit
import Derived.ProofKit
import Derived.OpenShut
import Derived.ShutString
import Derived.ChangeOld
import Derived.Below
namespace Go.Proofs.Yteiigaoniipedaa.rollWindows
open Go.ChangeShapes Go.WideShapes Go.ChangeAt Go.RowKit
theorem own : ownKnob Try.prog.godebug = none := by kernel_rfl
theorem laidOut : laidOutB Try.prog = true := by kernel_rfl

set_option maxRecDepth 100000 in
set_option maxHeartbeats 2000000 in
theorem walk (x0 : Int) (z0 : -9223372036854775808 ≤ x0 ∧ x0 ≤ 9223372036854775807) (a1 : Option Addr) (len1 cap1 : Nat) (zs1 : List Int) (w : World) (w1 : IsRow .i64 w a1 len1 cap1 zs1) :
    Calls Try.prog 7 #[.int .i64 x0, .slice a1 len1 cap1] w fun e w' => e = .returned (.bool true) ∧ Below w.heap.size w w' := by
  have HLV : Hid (∀ W, Below w.heap.size w W → Calls Try.prog 9 #[] W fun e w' => e = .returned (.bool true) ∧ Below w.heap.size w w') := by
    intro W hW
    refine (lives_any W).mono ?_
    rintro e w' ⟨rfl, hb⟩
    exact ⟨rfl, hW.trans (hb.mono hW.size)⟩
  have hlen63 := w1.lens
  by_cases hx : x0 < 1 ∨ 65536 < x0
  · have HN : Hid (Calls Try.prog 16 #[.int .i64 x0] w fun e w' => e = .returned (.tuple #[.pointer none, .int .i64 1]) ∧ w' = w) := new_bad x0 w hx
    by_cases h1 : x0 < 1
    · clear w1 hx
      go_enter Try.func7, Try.ntmps7
      go_wp2_with (first | (go_at_call 16; refine HN.out.mono ?_; rintro e w' ⟨rfl, h⟩; subst w') | (go_at_call 9; refine (HLV.out _ (Below.refl _ _)).mono ?_; rintro e w' ⟨rfl, hb⟩))
      go_ret
      exact ⟨rfl, hb⟩
    · have h2 : 65536 < x0 := by omega
      clear w1 hx
      go_enter Try.func7, Try.ntmps7
      go_wp2_with (first | (go_at_call 16; refine HN.out.mono ?_; rintro e w' ⟨rfl, h⟩; subst w') | (go_at_call 9; refine (HLV.out _ (Below.refl _ _)).mono ?_; rintro e w' ⟨rfl, hb⟩))
      go_ret
      exact ⟨rfl, hb⟩
  obtain ⟨n, rfl⟩ := Int.eq_ofNat_of_zero_le (show 0 ≤ x0 by omega)
  have k1 : ¬ (n : Int) < 1 := by omega
  have k2 : ¬ (65536 : Int) < (n : Int) := by omega
  have hn1 : 1 ≤ n := by omega
  have HN : Hid (Calls Try.prog 16 #[.int .i64 (n : Int)] w fun e w' => e = .returned (.tuple #[.pointer (some ⟨w.heap.size + 1, 0, none⟩), .int .i64 0]) ∧ WinIs w' w.heap.size (w.heap.size + 1) n [] ∧ Below w.heap.size w w') := new_any n w hn1 (by omega)
  by_cases h3 : 2000 < n
  · have k3 : (2000 : Int) < (n : Int) := by omega
    clear w1 hx
    go_enter Try.func7, Try.ntmps7
    go_wp2_with (first | (go_at_call 16; refine HN.out.mono ?_; rintro e w' ⟨rfl, hwi, hbe⟩; have HBE : Hid (Below w.heap.size w w') := hbe; clear hwi hbe) | (go_at_call 9; refine (HLV.out _ HBE.out).mono ?_; rintro e w' ⟨rfl, hb⟩))
    go_ret
    exact ⟨rfl, hb⟩
  have k3 : ¬ (2000 : Int) < (n : Int) := by omega
  have HW1 : Hid (IsRow .i64 w a1 len1 cap1 zs1) := w1
  clear w1 hx
  go_enter Try.func7, Try.ntmps7
  go_wp2_with (go_at_call 16; refine HN.out.mono ?_; rintro e v0 ⟨rfl, hwi, hbe⟩; have HWI : Hid (WinIs v0 w.heap.size (w.heap.size + 1) n []) := hwi; have HBE : Hid (Below w.heap.size w v0) := hbe; clear hwi hbe)
  clear HN
  go_loopw [7, 8] (fun s i wr => ∃ (t : Nat) (L : List UInt8), t ≤ 200 ∧ t ≤ len1 ∧ i = .int .i64 t ∧ s = .string (strOf L) ∧ WinIs wr w.heap.size (w.heap.size + 1) n L ∧ Below w.heap.size w wr) (fun _ i _ => 201 - (intOf i).toNat)
  case atStart => exact ⟨0, [], by omega, by omega, rfl, rfl, HWI.out, HBE.out⟩
  case round =>
    clear HWI HBE
    obtain ⟨t, L, ht, htl, rfl, rfl, hwin, hbel⟩ := hrel
    have HBE : Hid (Below w.heap.size w wr) := hbel
    have HWI : Hid (WinIs wr w.heap.size (w.heap.size + 1) n L) := hwin
    have hll := hwin.len.1
    clear hbel hwin
    by_cases hgo : t < len1 ∧ t < 200
    · have d1 : decide ((t : Int) < (len1 : Int)) = true := by simp; omega
      have d2 : decide ((t : Int) < 200) = true := by simp; omega
      have d3 : (t : Int) < (len1 : Int) := by omega
      have d4 : (t : Int) < 200 := by omega
      have hgo1 := hgo.1
      have hgo2 := hgo.2
      obtain ⟨bb, bo, rfl, hbl, hcl⟩ := HW1.out.ints (by omega)
      obtain ⟨z, hz, hz0, hz1⟩ := hcl t hgo.1
      have hct : wr.cell? ⟨bb, bo + t, none⟩ = some (.int .i64 z) := by rw [HBE.out.cell hbl]; exact hz
      -- what the end of a round wants, whatever the bytes are then
      have HRND : Hid (∀ M : List UInt8, M.length ≤ n → ∃ (B : ByteArray) (X K : Nat) (fl : Bool), strOf M = B ∧ B.size = K ∧ K ≤ 2000 ∧ ((K : Int) == (n : Int)) = fl ∧ (∀ V, WinIs V w.heap.size (w.heap.size + 1) n M → Calls Try.prog 20 #[.pointer (some ⟨w.heap.size + 1, 0, none⟩)] V fun e w' => e = .returned (.tuple #[.int .u32 (X : Int), .bool fl]) ∧ w' = V.drew) ∧ (∀ V, Calls Try.prog 11 #[.string B] V fun e w' => e = .returned (.int .u32 (X : Int)) ∧ w' = V) ∧ (∀ V, WinIs V w.heap.size (w.heap.size + 1) n M → Below w.heap.size w V → Calls Try.prog 21 #[.pointer (some ⟨w.heap.size + 1, 0, none⟩)] V fun e w' => ∃ gg, e = .returned (.slice (some ⟨gg, 0, none⟩) K K) ∧ (convert 22 9 (.slice (some ⟨gg, 0, none⟩) K K)).run Try.prog w' = .ok (.string B) w' ∧ WinIs w' w.heap.size (w.heap.size + 1) n M ∧ Below w.heap.size w w')) := by
        intro M hM
        refine ⟨strOf M, wsum M, M.length, ((M.length : Int) == (n : Int)), rfl, strOf_size M, by omega, rfl, fun V hV => ?_, fun V => rsum_any M V (by omega), fun V hV hb => ?_⟩
        · refine (winsum_any _ _ n M V hV).mono ?_
          rintro e w' ⟨rfl, h⟩
          refine ⟨ret_val ?_, h⟩
          have e : ((M.length : Int) == (n : Int)) = decide (M.length = n) := by
            by_cases h : M.length = n
            · rw [h]; simp
            · have : ¬ (M.length : Int) = (n : Int) := by omega
              simp [h, this]
          rw [e]
        · refine (bytes_any _ _ n M V hV).mono ?_
          rintro e w' ⟨rfl, hrow, hb2⟩
          exact ⟨_, rfl, conv_u8v w' _ M hrow, hV.below hb2, hb.trans (hb2.mono hb.size)⟩
      by_cases hz2 : z < 0 ∨ 255 < z
      · obtain ⟨M, hM⟩ : ∃ M : List UInt8, M = [] := ⟨_, rfl⟩
        have HCL : Hid (Calls Try.prog 17 #[.pointer (some ⟨w.heap.size + 1, 0, none⟩)] wr fun e w' => e = .returned (.tuple #[]) ∧ WinIs w' w.heap.size (w.heap.size + 1) n M ∧ Below w.heap.size w w') := by
          refine (clear_any _ _ n L w.heap.size wr HWI.out (by omega)).mono ?_
          rintro e w' ⟨rfl, h1, h2⟩
          exact ⟨rfl, hM ▸ h1, HBE.out.trans h2⟩
        obtain ⟨B, X, K, fl, hB, hBK, hK, hfl, hws, hrs, hby⟩ := HRND.out M (by rw [hM]; simp)
        have hB' : B = ⟨#[]⟩ := by rw [← hB, hM]; rfl
        subst hB'
        have hK0 : K = 0 := by rw [← hBK]; rfl
        subst hK0
        have hf0 : ((0 : Int) == (n : Int)) = false := by simp; omega
        have hfl' : fl = false := by rw [← hfl]; exact hf0
        subst hfl'
        have HWS : Hid _ := hws
        have HRS : Hid _ := hrs
        have HBY : Hid _ := hby
        have HM : Hid (M = []) := hM
        clear hws hrs hby HRND hB hBK hfl hcl hz HWI HBE hM hgo hll
        by_cases hz3 : z < 0
        · clear hz2
          go_wp2_with (first | (go_at_call 17; refine HCL.out.mono ?_; rintro e w2 ⟨rfl, hw2, hb2⟩; have HWV : Hid (WinIs w2 w.heap.size (w.heap.size + 1) n M) := hw2; have HBV : Hid (Below w.heap.size w w2) := hb2; clear hw2 hb2) | (go_at_call 20; refine (HWS.out _ HWV.out).mono ?_; rintro e w' ⟨rfl, h⟩; subst w') | (go_at_call 11; refine (HRS.out _).mono ?_; rintro e w' ⟨rfl, h⟩; subst w') | (go_at_call 21; refine (HBY.out _ (HWV.out).drew (HBV.out).drew).mono ?_; rintro e w7 ⟨gg, rfl, hcv7, hw7, hb7⟩; have HW7 : Hid (WinIs w7 w.heap.size (w.heap.size + 1) n M) := hw7; have HB7 : Hid (Below w.heap.size w w7) := hb7; clear hw7 hb7))
          exact ⟨⟨t + 1, M, by omega, by omega, by go_num, by rw [HM.out]; rfl, HW7.out, HB7.out⟩, by simp [intOf]; omega⟩
        · have hz4 : 255 < z := by omega
          clear hz2
          go_wp2_with (first | (go_at_call 17; refine HCL.out.mono ?_; rintro e w2 ⟨rfl, hw2, hb2⟩; have HWV : Hid (WinIs w2 w.heap.size (w.heap.size + 1) n M) := hw2; have HBV : Hid (Below w.heap.size w w2) := hb2; clear hw2 hb2) | (go_at_call 20; refine (HWS.out _ HWV.out).mono ?_; rintro e w' ⟨rfl, h⟩; subst w') | (go_at_call 11; refine (HRS.out _).mono ?_; rintro e w' ⟨rfl, h⟩; subst w') | (go_at_call 21; refine (HBY.out _ (HWV.out).drew (HBV.out).drew).mono ?_; rintro e w7 ⟨gg, rfl, hcv7, hw7, hb7⟩; have HW7 : Hid (WinIs w7 w.heap.size (w.heap.size + 1) n M) := hw7; have HB7 : Hid (Below w.heap.size w w7) := hb7; clear hw7 hb7))
          exact ⟨⟨t + 1, M, by omega, by omega, by go_num, by rw [HM.out]; rfl, HW7.out, HB7.out⟩, by simp [intOf]; omega⟩
      · obtain ⟨c, rfl⟩ := Int.eq_ofNat_of_zero_le (show 0 ≤ z by omega)
        have hc : c < 256 := by omega
        have hc0 : ¬ (c : Int) < 0 := by omega
        have hc1 : ¬ (255 : Int) < (c : Int) := by omega
        obtain ⟨M, hM⟩ : ∃ M : List UInt8, putL L (UInt8.ofNat c) n = M := ⟨_, rfl⟩
        have HPU : Hid (Calls Try.prog 18 #[.pointer (some ⟨w.heap.size + 1, 0, none⟩), .int .u8 (c : Int)] wr fun e w' => e = .returned (.tuple #[]) ∧ (∀ o, WinIs (w'.alloc o) w.heap.size (w.heap.size + 1) n M) ∧ (∀ o, Below w.heap.size w (w'.alloc o)) ∧ w'.cell? ⟨bb, bo + t, none⟩ = some (.int .i64 (c : Int))) := by
          refine (put_any _ _ n L c w.heap.size wr HWI.out (by omega) (Nat.le_refl _) hc).mono ?_
          rintro e w' ⟨rfl, h1, h2⟩
          rw [hM] at h1
          have h3 := HBE.out.trans h2
          exact ⟨rfl, fun o => h1.below ((Below.refl _ w').alloc (Nat.le_refl _) o), fun o => h3.alloc h3.size o, by rw [h3.cell hbl]; exact hz⟩
        have hMl : M.length ≤ n := by rw [← hM]; exact putL_len _ _ _ hn1 hll
        obtain ⟨B, X, K, fl, hB, hBK, hK, hfl, hws, hrs, hby⟩ := HRND.out M hMl
        obtain ⟨SL, hSL⟩ : ∃ S, strOf L = S := ⟨_, rfl⟩
        obtain ⟨S1, hS1⟩ : ∃ S, strOf [UInt8.ofNat c] = S := ⟨_, rfl⟩
        obtain ⟨S2, hS2⟩ : ∃ S, strOf (L ++ [UInt8.ofNat c]) = S := ⟨_, rfl⟩
        have hcat : SL ++ S1 = S2 := by rw [← hSL, ← hS1, ← hS2, strOf_append]
        have hsz1 : S1.size = 1 := by rw [← hS1]; rfl
        have hszL : SL.size = L.length := by rw [← hSL, strOf_size]
        have hnov : ¬ 9223372036854775807 < SL.size + S1.size := by omega
        have HCV : Hid (∀ V : World, (convert 22 9 (.slice (some ⟨V.heap.size, 0, none⟩) 1 1)).run Try.prog (V.alloc (.cells #[.int .u8 (c : Int)] 5)) = .ok (.string S1) (V.alloc (.cells #[.int .u8 (c : Int)] 5))) := by
          intro V
          rw [← hS1]
          refine conv_row _ _ 0 1 1 [UInt8.ofNat c] rfl (fun i hi => ?_)
          match i, hi with
          | 0, _ =>
            rw [cell_of_row _ V.heap.size _ _ _ _ (heap_alloc_new V _)]
            simp [Nat.mod_eq_of_lt hc]
        have HLA : Hid (∀ V, Calls Try.prog 19 #[.string S2, .int .i64 (n : Int)] V fun e w' => e = .returned (.string B) ∧ w' = V) := by
          intro V
          have := last_any (L ++ [UInt8.ofNat c]) n V (by simp; omega) (by omega)
          rw [put_last L _ n hn1 hll, hM, hB, hS2] at this
          exact this
        have HWS : Hid _ := hws
        have HRS : Hid _ := hrs
        have HBY : Hid _ := hby
        have HB' : Hid (strOf M = B) := hB
        rw [hSL]
        clear hws hrs hby HRND hB hcl hz HWI HBE hM hgo hll hz2 hMl hSL hS1 hS2
        go_wp2_with (first | (go_at_call 18; refine HPU.out.mono ?_; rintro e w2 ⟨rfl, hw2, hb2, hct2⟩; have HWV : Hid (∀ o, WinIs (w2.alloc o) w.heap.size (w.heap.size + 1) n M) := hw2; have HBV : Hid (∀ o, Below w.heap.size w (w2.alloc o)) := hb2; have hcv2 := HCV.out w2; clear hw2 hb2) | (go_at_call 19; refine (HLA.out _).mono ?_; rintro e w' ⟨rfl, h⟩; subst w') | (go_at_call 20; refine (HWS.out _ (HWV.out _)).mono ?_; rintro e w' ⟨rfl, h⟩; subst w') | (go_at_call 11; refine (HRS.out _).mono ?_; rintro e w' ⟨rfl, h⟩; subst w') | (go_at_call 21; refine (HBY.out _ ((HWV.out _)).drew ((HBV.out _)).drew).mono ?_; rintro e w7 ⟨gg, rfl, hcv7, hw7, hb7⟩; have HW7 : Hid (WinIs w7 w.heap.size (w.heap.size + 1) n M) := hw7; have HB7 : Hid (Below w.heap.size w w7) := hb7; clear hw7 hb7))
        exact ⟨⟨t + 1, M, by omega, by omega, by go_num, by rw [HB'.out], HW7.out, HB7.out⟩, by simp [intOf]; omega⟩
    · have HLW : Hid (Calls Try.prog 9 #[] wr fun e w' => e = .returned (.bool true) ∧ Below w.heap.size w w') := HLV.out _ HBE.out
      by_cases hlt : t < len1
      · have d1 : decide ((t : Int) < (len1 : Int)) = true := by simp; omega
        have d2 : decide ((t : Int) < 200) = false := by simp; omega
        have d3 : ¬ (t : Int) < 200 := by omega
        clear hgo
        go_wp2_with (go_at_call 9; refine HLW.out.mono ?_; rintro e w' ⟨rfl, hb⟩)
        go_ret
        exact ⟨rfl, hb⟩
      · have d1 : decide ((t : Int) < (len1 : Int)) = false := by simp; omega
        have d3 : ¬ (t : Int) < (len1 : Int) := by omega
        clear hgo
        go_wp2_with (go_at_call 9; refine HLW.out.mono ?_; rintro e w' ⟨rfl, hb⟩)
        go_ret
        exact ⟨rfl, hb⟩

set_option linter.unusedVariables false in
set_option maxRecDepth 100000 in
theorem lifted (os : Os) (started : os.Started) (H : Type) (enc : TypeId × Value → H) :
    ReturnsInHanded {} Try.checked os 7 .any (Rows.rollWindowsSpec.pre6 enc Try.prog Try.f7 Rows.rollWindowsRow.domain false) (Rows.rollWindowsSpec.post enc Try.prog Try.f7 false true false false) := by
  refine returnsInHanded_of_change (C := Try.checked) own started (by kernel_rfl) Try.func7
    (ChangeSpec.witness6 (enc := enc) (C := Try.checked) false ⟨#[], #[.int .i64 0, .slice none 0 0], []⟩ 8 (by kernel_rfl) (by kernel_rfl) (by kernel_rfl) (by kernel_rfl)) ?_
  intro W base args ds gs before hval0 hW hcnd _
  have hval : ∀ (j : Nat) t v, Try.f7.params[j]? = some t → args[j]? = some v → Value.okWide Try.prog W .any base t v := hval0
  have hW' := hW
  obtain ⟨p, q, hA0, hV, rfl, hfz, hnd⟩ := hW
  have hA : DataW.TrodAll enc Try.prog W 0 (fun _ => true) true Try.f7.params.toList args.toList ds p := hA0
  rw [Try.params7] at hA hval
  obtain ⟨v0, vs0, d0, ds0, p0, q0, hargs, rfl, rfl, h0, r0⟩ := trodAll_cons hA
  obtain ⟨v1, vs1, d1, ds1, p1, q1, rfl, rfl, rfl, h1, r1⟩ := trodAll_cons r0
  obtain ⟨rfl, rfl, rfl⟩ := trodAll_nil r1
  obtain rfl : args = #[v0, v1] := by cases args; simp_all
  obtain ⟨rfl, rfl⟩ := trodVars_none hV
  obtain ⟨x0, rfl, rfl, rfl, w0⟩ := open_int Try.underlying3 (hval 0 3 v0 rfl rfl) h0
  have k1 := h1
  have lt1 : ∀ x ∈ p1, x.block < W.heap.size := by obtain ⟨m, hm⟩ := k1; exact DataW.trod_lt m _ _ _ hm
  obtain ⟨a1, len1, cap1, rfl⟩ := okWide_slice Try.underlying35 (hval 1 35 v1 rfl rfl)
  obtain ⟨zs1, w1⟩ : ∃ zs, IsRow .i64 W a1 len1 cap1 zs := by
    obtain ⟨fuel, hf⟩ := h1
    rcases open_ints Try.underlying35 Try.underlying3 (by kernel_rfl) hf with ⟨hcs, _⟩ | ⟨x, l, c, zs, hcs, _, hl, hm, hz, _, hcell, hwz⟩
    · simp [Value.cells] at hcs
      obtain ⟨rfl, rfl, rfl⟩ := hcs
      exact ⟨[], .inl ⟨rfl, rfl, rfl, rfl⟩⟩
    · simp [Value.cells] at hcs
      obtain ⟨rfl, rfl, rfl⟩ := hcs
      exact ⟨zs, .inr ⟨_, rfl, hl, hm, by simpa using hz, hcell, hwz⟩⟩
  clear hA0 hval0
  refine (walk x0 (wf_i64 w0) a1 len1 cap1 zs1 W w1).mono fun e W' ⟨he, bel⟩ => ?_
  subst he
  exact ⟨_, rfl, _, _, _, [], _, [], hW', trodAll_mk1 (shut_bool Try.underlying4 _), (trodAll_cons_mk (shut_int Try.underlying3 w0) (trodAll_cons_mk (Below.trod laidOut (by kernel_rfl) (of_decide_eq_true (by kernel_rfl)) k1 bel lt1) trodAll_mk0)), rfl, bel.frame _, fun h => by cases h⟩

theorem over : Rows.rollWindowsRow.holds Try.pinned (OpenSpec.ofChange Rows.rollWindowsSpec) :=
  OpenClaim.holds_of_wide 7 Try.f7 rfl rfl rfl rfl rfl rfl rfl ⟨rfl, rfl, rfl, rfl, rfl⟩ rfl rfl rfl rfl rfl (by kernel_rfl) Try.func7 (by kernel_rfl)
    (of_decide_eq_true (by kernel_rfl)) (by unfold Func.isWrapper; first | (rw [if_pos (by decide +kernel)]; kernel_rfl) | (rw [if_neg (by decide +kernel)]; exact ⟨rfl, rfl⟩))
    (fun os started H enc _ => lifted os started H enc)

end Go.Proofs.Yteiigaoniipedaa.rollWindows
namespace Go.Proofs.Yteiigaoniipedaa
/-- The given statement. -/
theorem rollWindows_holds : Rows.RollWindowsSaid := rollWindows.over
#print axioms rollWindows_holds
end Go.Proofs.Yteiigaoniipedaa
