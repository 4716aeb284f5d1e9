/- Proved: for every key and nonce and all slices of bytes the law CipherStreams returns true, what was handed in as it was; where the packages' tables begin as the program's text lays them. -/
import Derived.Test.YtbflkkffpcaakaaDoorWX
import Derived.Test.YtbflkkffpcaakaaDoorCards
import Derived.Test.YtbflkkffpcaakaaDoorTie
import Derived.WalkKit
import Derived.ProofKit
import Derived.OpenShut
import Derived.ShutString
import Derived.ChangeOld
import Derived.Below
import Derived.LaidMore
import Derived.Lay
import Derived.Stop.Joined
import Derived.SevenTiedAt
namespace Go.Proofs.YtbflkkffpcaakaaDoor.cipherStreams
open Go.ChangeShapes Go.WideShapes Go.ChangeAt Go.WideMaps Go.WideElems Go.RowKit
open Go.ChangeMaps (open_string shut_string)

set_option maxRecDepth 100000 in
set_option maxHeartbeats 4000000 in
theorem walk (s0 : ByteArray) (z0 : s0.size ≤ 140737488351232) (s1 : ByteArray) (z1 : s1.size ≤ 140737488351232) (a2 : Option Addr) (len2 cap2 : Nat) (w : World) (w2 : Bss w a2 len2 cap2) (hL : Laid w) :
    Calls Tryd.prog 6 #[.string s0, .string s1, .slice a2 len2 cap2] w fun e w' => e = .returned (.bool true) ∧ Below w.heap.size w w' := by
  have HLV : Hid (∀ V, Below w.heap.size w V → Calls Tryd.prog 11 #[] V fun e w' => e = .returned (.bool true) ∧ Below V.heap.size V w') := fun V hV => lives_any V (hL.below hV)
  by_cases hz : 1000 < s0.size ∨ 1000 < s1.size
  · obtain ⟨N0, hN0⟩ : ∃ N, s0.size = N := ⟨_, rfl⟩
    obtain ⟨N1, hN1⟩ : ∃ N, s1.size = N := ⟨_, rfl⟩
    rw [hN0] at hz z0
    rw [hN1] at hz z1
    have HB0 : Hid (Below w.heap.size w w) := Below.refl _ _
    by_cases h0 : 1000 < N0
    · have k0 : (1000 : Int) < (N0 : Int) := by omega
      clear hz hL h0 w2
      go_enter Tryd.func6, Tryd.ntmps6
      go_wp2_with fail
      have HLX := HLV.out w HB0.out
      go_wp2_with fail
      refine HLX.mono ?_
      rintro e VZ ⟨rfl, hbZ⟩
      have HZ : Hid (Below w.heap.size w VZ) := (HB0.out).trans (hbZ.mono (HB0.out).size)
      clear HLX hbZ
      go_wp2
      go_ret
      exact ⟨rfl, HZ.out⟩
    · have k0 : ¬ (1000 : Int) < (N0 : Int) := by omega
      have k1 : (1000 : Int) < (N1 : Int) := by omega
      clear hz hL h0 w2
      go_enter Tryd.func6, Tryd.ntmps6
      go_wp2_with fail
      have HLX := HLV.out w HB0.out
      go_wp2_with fail
      refine HLX.mono ?_
      rintro e VZ ⟨rfl, hbZ⟩
      have HZ : Hid (Below w.heap.size w VZ) := (HB0.out).trans (hbZ.mono (HB0.out).size)
      clear HLX hbZ
      go_wp2
      go_ret
      exact ⟨rfl, HZ.out⟩
  have k0 : ¬ (1000 : Int) < (s0.size : Int) := by omega
  have k1 : ¬ (1000 : Int) < (s1.size : Int) := by omega
  clear hz
  by_cases hr : s0.size = 32 ∧ s1.size = 12
  rotate_left
  · have HC := new_no s0 s1 w hr z0
    have HY := right_no s0 s1 w hr z0
    have HN : Hid (∀ a len cap V, Calls Tryd.prog 19 #[.pointer none, .slice a len cap] V fun e w' => e = .returned (.slice none 0 0) ∧ w' = V) := fun a len cap V => snext_nil a len cap V
    have hcvt : (convert 42 42 (.slice (some ⟨w.heap.size, 0, none⟩) 1 1)).run Tryd.prog (w.alloc (.cells #[.int .u8 97] 5)) = .ok (.slice (some ⟨w.heap.size, 0, none⟩) 1 1) (w.alloc (.cells #[.int .u8 97] 5 (1, 2))) := Go.Lib.run_convert_bytes_const w 42 5 #[.int .u8 97] 1 1 Tryd.underlying42 Tryd.underlying5
    clear hL hr w2
    go_enter Tryd.func6, Tryd.ntmps6
    go_wp2_with fail
    refine HC.mono ?_
    rintro e V ⟨rfl, hb⟩
    subst V
    clear HC
    go_wp2_with fail
    refine HY.mono ?_
    rintro e V ⟨rfl, hb⟩
    subst V
    clear HY
    go_wp2_with fail
    refine (HN.out _ _ _ _).mono ?_
    rintro e V ⟨rfl, hb⟩
    have HB : Hid (Below w.heap.size w V) := by rw [hb]; exact (Below.refl _ w).alloc (Nat.le_refl _) _
    clear hb HN
    have HLX := HLV.out V HB.out
    go_wp2_with fail
    refine HLX.mono ?_
    rintro e VZ ⟨rfl, hbZ⟩
    have HZ : Hid (Below w.heap.size w VZ) := (HB.out).trans (hbZ.mono (HB.out).size)
    clear HLX hbZ
    go_wp2
    go_ret
    exact ⟨rfl, HZ.out⟩
  have HC := snew_any s0 s1 w hr.1 hr.2
  have HY : Hid (∀ V, Calls Tryd.prog 13 #[.string s0, .string s1] V fun e w' => e = .returned (.bool true) ∧ w' = V) := fun V => right_yes s0 s1 V hr.1 hr.2
  obtain ⟨f, hf⟩ : ∃ f, firstL s0.data.toList s1.data.toList = f := ⟨_, rfl⟩
  rw [hf] at HC
  have HF : Hid (f.length = 16 ∧ Wd f) := ⟨by rw [← hf, firstL_len], by rw [← hf]; exact firstL_wd _ _⟩
  have HL : Hid (∀ V, Below w.heap.size w V → Laid V) := fun V hV => hL.below hV
  have HH : Hid (∀ (t : ByteArray) (V : World), t.size ≤ 65536 → Below w.heap.size w V → Calls Tryd.prog 16 #[.string s0, .string s1, .string t] V fun e w' => e = .returned (.tuple #[.string (strOf (hideL f 0 t.data.toList)), .int .i64 0]) ∧ Below V.heap.size V w') := fun t V ht hV => by
    rw [← hf]; exact hide_any s0 s1 t V hr.1 hr.2 ht (hL.below hV)
  have HW : Hid (Bss w a2 len2 cap2) := w2
  have h3 : 3 ≤ w.heap.size := hL.lt
  have H3 : Hid (3 ≤ w.heap.size) := h3
  have hlc := w2.1
  have hcm := w2.2.1
  clear hL hr w2 hf h3
  go_enter Tryd.func6, Tryd.ntmps6
  go_wp2_with fail
  refine HC.mono ?_
  rintro e V ⟨g, rfl, hwg, hS, hbV⟩
  have HV : Hid (w.heap.size ≤ g ∧ StAt V g f 0 ∧ Below w.heap.size w V) := ⟨hwg, hS, hbV⟩
  have HY1 := HY.out V
  clear HC HY hwg hS hbV
  go_wp2_with fail
  refine HY1.mono ?_
  rintro e V' ⟨rfl, hV'⟩
  subst V'
  clear HY1
  go_wp2
  go_loopw [9, 10, 11] (fun v9 v10 v11 wr => ∃ (i : Nat) (t : List UInt8), i ≤ len2 ∧ i ≤ 20 ∧ t.length ≤ 300 * i ∧ v9 = .string (strOf t) ∧ v10 = .string (strOf (hideL f 0 t)) ∧ v11 = .int .i64 (i : Int) ∧ StAt wr g f t.length ∧ Below w.heap.size w wr) (fun _ _ v _ => 20 - (intOf v).toNat)
  case atStart => exact ⟨0, [], by omega, by omega, by simp, rfl, rfl, rfl, HV.out.2.1, HV.out.2.2⟩
  case round =>
    obtain ⟨i, t, hil, hi20, htl, rfl, rfl, rfl, hS, hB⟩ := hrel
    obtain ⟨X, hX⟩ : ∃ X, strOf t = X := ⟨_, rfl⟩
    obtain ⟨Y, hY⟩ : ∃ Y, strOf (hideL f 0 t) = Y := ⟨_, rfl⟩
    have hXs : X.size = t.length := by rw [← hX, strOf_size]
    have hYs : Y.size = t.length := by rw [← hY, strOf_size, hideL_len]
    have HX : Hid (strOf t = X ∧ strOf (hideL f 0 t) = Y) := ⟨hX, hY⟩
    rw [hX, hY]
    clear hX hY
    by_cases hgo : i < len2 ∧ i < 20
    rotate_left
    · have hHH := HH.out X wr (by omega) hB
      have e1 : X.data.toList = t := by rw [← HX.out.1, strOf_list]
      rw [e1, HX.out.2] at hHH
      have hyy : (Y.toList == Y.toList) = true := by simp
      have HB : Hid (Below w.heap.size w wr) := hB
      clear hS hB e1
      by_cases h1 : i < len2
      · have kk : (i : Int) < (len2 : Int) := by omega
        have kk2 : ¬ (i : Int) < 20 := by omega
        clear hgo
        go_wp2_with fail
        refine hHH.mono ?_
        rintro e V3 ⟨rfl, hb3⟩
        have HB3 : Hid (Below w.heap.size w V3) := HB.out.trans (hb3.mono HB.out.size)
        clear hHH hb3
        have HLX := HLV.out V3 HB3.out
        go_wp2_with fail
        refine HLX.mono ?_
        rintro e VZ ⟨rfl, hbZ⟩
        have HZ : Hid (Below w.heap.size w VZ) := (HB3.out).trans (hbZ.mono (HB3.out).size)
        clear HLX hbZ
        go_wp2
        go_ret
        exact ⟨rfl, HZ.out⟩
      · have kk : ¬ (i : Int) < (len2 : Int) := by omega
        clear hgo
        go_wp2_with fail
        refine hHH.mono ?_
        rintro e V3 ⟨rfl, hb3⟩
        have HB3 : Hid (Below w.heap.size w V3) := HB.out.trans (hb3.mono HB.out.size)
        clear hHH hb3
        have HLX := HLV.out V3 HB3.out
        go_wp2_with fail
        refine HLX.mono ?_
        rintro e VZ ⟨rfl, hbZ⟩
        have HZ : Hid (Below w.heap.size w VZ) := (HB3.out).trans (hbZ.mono (HB3.out).size)
        clear HLX hbZ
        go_wp2
        go_ret
        exact ⟨rfl, HZ.out⟩
    obtain ⟨h1, h2⟩ := hgo
    have kk : (i : Int) < (len2 : Int) := by omega
    have kk2 : (i : Int) < 20 := by omega
    obtain ⟨b, o, rfl, hb, hcs⟩ := HW.out.2.2 (by omega)
    obtain ⟨a', l', c', bs, hc, hbs⟩ := hcs i h1
    have HBS : Hid (BsI w a' l' c' bs) := hbs
    have hbl := hbs.1
    have hll := hbs.2.1
    have hcc := hbs.2.2.1
    have HCE : Hid (∀ V, Below w.heap.size w V → V.cell? ⟨b, o + i, none⟩ = some (.slice a' l' c')) := fun V hV => (World.cell?_of_block (a := ⟨b, o + i, none⟩) (hV.block b hb)).trans hc
    have c0 := HCE.out wr hB
    by_cases h300 : 300 < l'
    · have k3 : (300 : Int) < (l' : Int) := by omega
      have HB : Hid (Below w.heap.size w wr) := hB
      clear hS hB hc hbs hcs hb h1 h2
      go_wp2_with fail
      have HLX := HLV.out wr HB.out
      go_wp2_with fail
      refine HLX.mono ?_
      rintro e VZ ⟨rfl, hbZ⟩
      have HZ : Hid (Below w.heap.size w VZ) := (HB.out).trans (hbZ.mono (HB.out).size)
      clear HLX hbZ
      go_wp2
      go_ret
      exact ⟨rfl, HZ.out⟩
    have k3 : ¬ (300 : Int) < (l' : Int) := by omega
    obtain ⟨Z, hZ⟩ : ∃ Z, strOf bs = Z := ⟨_, rfl⟩
    have hZs : Z.size = l' := by rw [← hZ, strOf_size, hbl]
    have hcv := hbs.conv hB
    rw [hZ] at hcv
    have HNX := snext_any g f t.length a' l' c' bs wr HF.out.1 HF.out.2 (by have := H3.out; have := HV.out.1; omega) hS (hbs.aside HV.out.1 hB) (by omega) (HL.out wr hB)
    obtain ⟨D, hD⟩ : ∃ D, hideL f t.length bs = D := ⟨_, rfl⟩
    rw [hD] at HNX
    have hDl : D.length = l' := by rw [← hD, hideL_len, hbl]
    obtain ⟨U, hU⟩ : ∃ U, strOf D = U := ⟨_, rfl⟩
    have hUs : U.size = l' := by rw [← hU, strOf_size, hDl]
    have HB : Hid (Below w.heap.size w wr) := hB
    have HN : Hid (strOf (t ++ bs) = X ++ Z ∧ strOf (hideL f 0 (t ++ bs)) = Y ++ U ∧ (t ++ bs).length = t.length + l') := by
      refine ⟨by rw [strOf_append, HX.out.1, hZ], ?_, by rw [List.length_append, hbl]⟩
      rw [hideL_append, Nat.zero_add, strOf_append, HX.out.2, hD, hU]
    have HZ9 : Hid (strOf bs = Z ∧ strOf D = U ∧ D.length = l') := ⟨hZ, hU, hDl⟩
    have hzz : (Z.toList == Z.toList) = true := by simp
    clear hS hB hc hbs hcs hb hZ hD hU hDl hbl
    go_wp2_with fail
    refine HNX.mono ?_
    rintro e V2 ⟨O, rfl, hO, hro, hS2, hOn⟩
    have hB2 : Below w.heap.size w V2 := by
      have h := HB.out
      exact ⟨hOn.os.trans h.os, hOn.tape.trans h.tape, hOn.output.trans h.output, Nat.le_trans h.size hOn.size, fun k hk => (hOn.block k (Nat.lt_of_lt_of_le hk h.size) (by have := HV.out.1; omega)).trans (h.block k hk)⟩
    have hcv2 := conv_row V2 O 0 l' l' D HZ9.out.2.2 (fun j hj => by rw [Nat.zero_add, cell_of_row _ _ _ _ _ _ hro, u8v_get _ _ (by rw [HZ9.out.2.2]; exact hj)])
    rw [HZ9.out.2.1] at hcv2
    have hcv3 := HBS.out.conv hB2
    rw [HZ9.out.1] at hcv3
    have c1 := HCE.out V2 hB2
    have HE : Hid (StAt V2 g f (t ++ bs).length ∧ Below w.heap.size w V2 ∧ (t ++ bs).length ≤ 300 * (i + 1)) := ⟨by rw [HN.out.2.2]; exact hS2, hB2, by rw [HN.out.2.2]; omega⟩
    clear HNX hO hro hS2 hOn hB2 hcv c0
    go_wp2
    exact ⟨⟨i + 1, t ++ bs, by omega, by omega, HE.out.2.2, by rw [HN.out.1], by rw [HN.out.2.1], by go_num, HE.out.1, HE.out.2.1⟩, by simp [intOf]; omega⟩

set_option linter.unusedVariables false in
set_option maxRecDepth 100000 in
theorem lifted (os : Os) (started : os.Started) (H : Type) (enc : TypeId × Value → H) :
    ReturnsInHanded {} Tryd.checked os 6 .any (fun w args => (Rows.cipherStreamsSpec.pre enc Tryd.prog Tryd.f6 [] false w args ∧ laidMetH Tryd.prog Rows.cipherStreamsRow.laid w) ∧ sizedMet enc Tryd.prog Tryd.f6 (OpenSpec.ofChange Rows.cipherStreamsSpec) false w args) (Rows.cipherStreamsSpec.post enc Tryd.prog Tryd.f6 false true false false) := by
  refine returnsInHanded_of_change_and (C := Tryd.checked) (X := fun w _ => laidMetH Tryd.prog Rows.cipherStreamsRow.laid w) (fun _ _ _ hh h => h.of_heap hh) own started (by kernel_rfl) Tryd.func6
    (ChangeSpec.witness_shaped (enc := enc) (C := Tryd.checked) (os := os) (X := fun w _ => laidMetH Tryd.prog Rows.cipherStreamsRow.laid w) false (World.laidAll Tryd.prog os Rows.cipherStreamsRow.laid) #[.string ByteArray.empty, .string ByteArray.empty, .slice none 0 0] 8 (World.laidAll_os _ _ _)
      (World.shaped_of_ZipB (by kernel_rfl) (by kernel_rfl)) (by kernel_rfl) (by kernel_rfl) (by kernel_rfl)
      (by rw [MakeChecks.laidMetH_plain _ _ _ (by kernel_rfl)]; exact laidMet_laidAll _ (by kernel_rfl) (by kernel_rfl))) ?_
  intro W base args ds gs before hval0 hW _ hsz0 hL _
  have hval : ∀ (j : Nat) t v, Tryd.f6.params[j]? = some t → args[j]? = some v → Value.okWide Tryd.prog W .any base t v := hval0
  have hsz : (DataW.weightsEach Tryd.prog (Tryd.f6.params.toList ++ Rows.cipherStreamsSpec.plain.varTypes Tryd.prog) (ds ++ gs)).all (· ≤ reachBytes) = true := hsz0
  have hW' := hW
  obtain ⟨p, q, hA0, hV, rfl, hfz, hnd⟩ := hW
  have hA : DataW.TrodAll enc Tryd.prog W 0 (fun _ => true) true Tryd.f6.params.toList args.toList ds p := hA0
  rw [Tryd.params6] at hA hval hsz
  obtain ⟨v0, vs0, d0, ds0, p0, q0, hargs, rfl, rfl, h0, r0⟩ := trodAll_cons hA
  obtain ⟨v1, vs1, d1, ds1, p1, q1, rfl, rfl, rfl, h1, r1⟩ := trodAll_cons r0
  obtain ⟨v2, vs2, d2, ds2, p2, q2, rfl, rfl, rfl, h2, r2⟩ := trodAll_cons r1
  obtain ⟨rfl, rfl, rfl⟩ := trodAll_nil r2
  obtain rfl : args = #[v0, v1, v2] := by cases args; simp_all
  obtain ⟨rfl, rfl⟩ := trodVars_none hV
  obtain ⟨s0, rfl, rfl, rfl, w0⟩ := open_string Tryd.underlying9 (hval 0 9 v0 rfl rfl) h0
  have z0 : s0.size ≤ 140737488351232 := by
    have := sized_string hsz (j := 0) (t := 9) rfl rfl
    simpa [reachBytes] using this
  obtain ⟨s1, rfl, rfl, rfl, w1⟩ := open_string Tryd.underlying9 (hval 1 9 v1 rfl rfl) h1
  have z1 : s1.size ≤ 140737488351232 := by
    have := sized_string hsz (j := 1) (t := 9) rfl rfl
    simpa [reachBytes] using this
  have k2 := h2
  have lt2 : ∀ x ∈ p2, x.block < W.heap.size := by obtain ⟨m, hm⟩ := k2; exact DataW.trod_lt m _ _ _ hm
  obtain ⟨a2, len2, cap2, rfl⟩ := okWide_slice Tryd.underlying38 (hval 2 38 v2 rfl rfl)
  have w2 : Bss W a2 len2 cap2 := by
    obtain ⟨fuel, hf⟩ := h2
    exact bss_of (by simpa [Value.cells] using hf)
  clear hA0 hval0 hsz hsz0
  refine (walk s0 z0 s1 z1 a2 len2 cap2 W w2 (of_laid hL)).mono fun e W' ⟨he, bel⟩ => ?_
  subst he
  exact ⟨_, rfl, _, _, _, [], _, [], hW', trodAll_mk1 (shut_bool Tryd.underlying4 _), (trodAll_cons_mk (shut_string Tryd.underlying9 w0) (trodAll_cons_mk (shut_string Tryd.underlying9 w1) (trodAll_cons_mk (Below.trod laidOut (by kernel_rfl) (of_decide_eq_true (by kernel_rfl)) k2 bel lt2) trodAll_mk0))), rfl, bel.frame _, fun h => by cases h⟩

theorem over : Rows.cipherStreamsRow.holds Tryd.pinned (OpenSpec.ofChange Rows.cipherStreamsSpec) :=
  OpenClaim.holds_of_wide 6 Tryd.f6 rfl rfl rfl rfl rfl rfl rfl ⟨rfl, rfl, rfl, rfl, rfl⟩ rfl rfl rfl rfl rfl (by kernel_rfl) Tryd.func6 (by kernel_rfl)
    (of_decide_eq_true (by kernel_rfl)) (by unfold Func.isWrapper; first | (rw [if_pos (by decide +kernel)]; kernel_rfl) | (rw [if_neg (by decide +kernel)]; exact ⟨rfl, rfl⟩))
    (fun os started H enc _ => lifted os started H enc)

end Go.Proofs.YtbflkkffpcaakaaDoor.cipherStreams
namespace Go.Proofs.YtbflkkffpcaakaaDoor
/-- The given statement. -/
theorem cipherStreams_holds : Rows.CipherStreamsCardSaid :=
  Claim7.holds_tied_plain_at .later [] [.data, .data, .data] true (true, "5ccb16b7e0cb60b80580de2bab98876517c1699cf189ae00d24e90f07a20ea85") false
    cipherStreams.over (fun _ h => by cases h) (by kernel_rfl) (fun _ h => by cases h) cipherStreams_row_tie rfl ⟨rfl, rfl⟩ (by kernel_rfl) rfl
    (fun f fn hf hfn => by
      obtain rfl : f = 6 := Option.some.inj ((show Tryd.prog.funcNamed "strongroom/strongroomlaw19.CipherStreams" = some 6 by kernel_rfl).symm.trans hf) |>.symm
      obtain rfl : fn = Tryd.f6 := (Option.some.inj (Tryd.func6.symm.trans hfn)).symm
      exact ⟨by kernel_rfl, fun j t ht => by
        rw [Tryd.params6] at ht
        rcases j with _ | _ | _ | j
        · obtain rfl : t = 9 := by simpa using ht.symm
          exact (show Tryd.prog.wantsStandIn 9 = false by kernel_rfl)
        · obtain rfl : t = 9 := by simpa using ht.symm
          exact (show Tryd.prog.wantsStandIn 9 = false by kernel_rfl)
        · obtain rfl : t = 38 := by simpa using ht.symm
          exact (show Tryd.prog.wantsStandIn 38 = false by kernel_rfl)
        · simp at ht
      ⟩)
    (by kernel_rfl)
#print axioms cipherStreams_holds
end Go.Proofs.YtbflkkffpcaakaaDoor
