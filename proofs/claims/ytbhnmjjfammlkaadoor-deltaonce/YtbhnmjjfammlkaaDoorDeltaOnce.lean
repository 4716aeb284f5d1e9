/- Proved: for all bytes and every cut the law DeltaOnce returns true, the bytes as they were (bytes that are pieces are just the bytes that those pieces have; cut short they are none); where the package's two tables begin as the program's text lays them. -/
import Derived.Test.YtbhnmjjfammlkaaDoorShelf
import Derived.Test.YtbhnmjjfammlkaaDoorCards
import Derived.Test.YtbhnmjjfammlkaaDoorTie
import Derived.WalkKit
import Derived.ProofKit
import Derived.OpenShut
import Derived.ShutString
import Derived.ChangeOld
import Derived.Below
import Derived.LaidMore
import Derived.Stop.Joined
import Derived.SevenTiedAt
namespace Go.Proofs.YtbhnmjjfammlkaaDoor.deltaOnce
open Go.ChangeShapes Go.WideShapes Go.ChangeAt Go.WideMaps Go.WideElems Go.RowKit
open Go.ChangeMaps (open_string shut_string)

set_option maxRecDepth 100000 in
set_option maxHeartbeats 2000000 in
theorem walk (a0 : Option Addr) (len0 cap0 : Nat) (ss0 : List UInt8) (x1 : Int) (_z1 : -9223372036854775808 ≤ x1 ∧ x1 ≤ 9223372036854775807) (w : World) (w0 : Bs w a0 len0 cap0 ss0) (hL : Laid w) :
    Calls Tryd.prog 8 #[.slice a0 len0 cap0, .int .i64 x1] w fun e w' => e = .returned (.bool true) ∧ Below w.heap.size w w' := by
  have HLV : Hid (∀ V, Below w.heap.size w V → Calls Tryd.prog 9 #[] V fun e w' => e = .returned (.bool true) ∧ Below w.heap.size w w') := fun V hV => (lives_any V (hL.below hV)).mono fun e w' h => ⟨h.1, hV.trans (h.2.mono hV.size)⟩
  have hcm : len0 ≤ 9223372036854775807 := Nat.le_trans w0.2.1 w0.2.2.1
  by_cases h1 : 5000 < len0
  · have k1 : (5000 : Int) < (len0 : Int) := by omega
    clear hL w0
    go_enter Tryd.func8, Tryd.ntmps8
    go_wp2_with fail
    refine (HLV.out _ (Below.refl _ _)).mono ?_
    rintro e V ⟨rfl, hb⟩
    go_wp2
    go_ret
    exact ⟨rfl, hb⟩
  · have k1 : ¬ (5000 : Int) < (len0 : Int) := by omega
    have hbl := w0.1
    have hcap := w0.2.1
    have HD := ddec_any w0
    have HW : Hid (∀ V, Below w.heap.size w V → Bs V a0 len0 cap0 ss0) := fun V hV => w0.below hV
    have hnl : ¬ 65536 < ss0.length := by omega
    clear hL w0
    cases hd : decD ss0 with
    | none =>
      rw [decF_none hnl hd] at HD
      clear hd
      go_enter Tryd.func8, Tryd.ntmps8
      go_wp2_with fail
      refine HD.mono ?_
      rintro e V1 ⟨pa, pn, pc, rfl, hown, hb1⟩
      have hp0 : pn = 0 := (own_len hown).symm
      subst hp0
      have H1 : Hid (Below w.heap.size w V1) := hb1
      clear HD hown hb1
      simp only
      go_wp2_with fail
      refine (HLV.out _ (H1.out)).mono ?_
      rintro e V ⟨rfl, hb⟩
      go_wp2
      go_ret
      exact ⟨rfl, hb⟩
    | some l =>
      rw [decF_some hnl hd] at HD
      obtain ⟨e1, m1, r1⟩ := decD_enc hd
      have hco := dec_cost hd
      have HEN : Hid (∀ V a n c, Hw (fun _ => True) V a n c l → Calls Tryd.prog 25 #[.slice a n c] V fun e w' => EnTo V ss0 e w') := fun V a n c hh => by
        have h5 := denc_ok hh m1 (fun p hp => (red_n (r1 p hp)).2) (by omega)
        rw [e1] at h5
        exact h5
      have HCT : Hid (∀ k, k < len0 → decF (ss0.take k) = ([], 4)) := fun k hk => decF_none (by rw [List.length_take]; omega) (decD_cut hd (by omega))
      clear e1 m1 r1 hco hd
      go_enter Tryd.func8, Tryd.ntmps8
      go_wp2_with fail
      refine HD.mono ?_
      rintro e V1 ⟨pa, pn, pc, rfl, hown, hb1⟩
      have HEN1 := HEN.out V1 pa pn pc (Rw.own hown (fun _ _ => trivial))
      have H1 : Hid (Below w.heap.size w V1) := hb1
      clear HD hown hb1 HEN
      simp only
      go_wp2_with fail
      refine HEN1.mono ?_
      rintro e V2 ⟨ba, bn, bc, rfl, hbs, hb2⟩
      have hB2 : Below w.heap.size w V2 := H1.out.trans (hb2.mono H1.out.size)
      have hc1 := hbs.conv
      have hraw := HW.out V2 hB2
      have hc2 := hraw.conv
      obtain ⟨S, hS⟩ : ∃ S : ByteArray, (⟨ss0.toArray⟩ : ByteArray) = S := ⟨_, rfl⟩
      rw [hS] at hc1 hc2
      have hse : (S.toList == S.toList) = true := by simp
      have H2 : Hid (Below w.heap.size w V2) := hB2
      by_cases hc0 : x1 < 0
      · clear HEN1 hbs hb2 hB2 H1 hS hraw
        go_wp2_with fail
        refine (HLV.out _ (H2.out)).mono ?_
        rintro e V ⟨rfl, hb⟩
        go_wp2
        go_ret
        exact ⟨rfl, hb⟩
      · by_cases hcl : (len0 : Int) ≤ x1
        · clear HEN1 hbs hb2 hB2 H1 hS hraw
          go_wp2_with fail
          refine (HLV.out _ (H2.out)).mono ?_
          rintro e V ⟨rfl, hb⟩
          go_wp2
          go_ret
          exact ⟨rfl, hb⟩
        · obtain ⟨k, rfl⟩ : ∃ k : Nat, x1 = (k : Int) := ⟨x1.toNat, by omega⟩
          have hpre := fun W => pre_bytes a0 len0 cap0 k (by omega) W
          have HD2 := ddec_any (hraw.cut 0 k (by omega) (by omega))
          rw [Nat.sub_zero, Nat.sub_zero, List.drop_zero, HCT.out k (by omega)] at HD2
          obtain ⟨ca, hca⟩ : ∃ ca, cutA a0 cap0 0 1 = ca := ⟨_, rfl⟩
          rw [hca] at HD2 hpre
          clear HEN1 hbs hb2 hB2 H1 hS hraw hca
          go_wp2_with fail
          refine HD2.mono ?_
          rintro e V3 ⟨qa, qn, qc, rfl, hown, hb3⟩
          have H3 : Hid (Below w.heap.size w V3) := H2.out.trans (hb3.mono H2.out.size)
          clear HD2 hown hb3
          simp only
          go_wp2_with fail
          refine (HLV.out _ (H3.out)).mono ?_
          rintro e V ⟨rfl, hb⟩
          go_wp2
          go_ret
          exact ⟨rfl, hb⟩

set_option linter.unusedVariables false in
set_option maxRecDepth 100000 in
theorem lifted (os : Os) (started : os.Started) (H : Type) (enc : TypeId × Value → H) :
    ReturnsInHanded {} Tryd.checked os 8 .any (fun w args => (Rows.deltaOnceSpec.pre enc Tryd.prog Tryd.f8 [] false w args ∧ laidMetH Tryd.prog laid2 w) ∧ sizedMet enc Tryd.prog Tryd.f8 (OpenSpec.ofChange Rows.deltaOnceSpec) false w args) (Rows.deltaOnceSpec.post enc Tryd.prog Tryd.f8 false true false false) := by
  refine returnsInHanded_of_change_and (C := Tryd.checked) (X := fun w _ => laidMetH Tryd.prog laid2 w) (fun _ _ _ hh h => h.of_heap hh) own started (by kernel_rfl) Tryd.func8
    (ChangeSpec.witness_shaped (enc := enc) (C := Tryd.checked) (os := os) (X := fun w _ => laidMetH Tryd.prog laid2 w) false (World.doorLaid Tryd.prog 19 os) #[.slice none 0 0, .int .i64 0] 8 rfl (World.shaped_of_RefB (by kernel_rfl) (by kernel_rfl)) (by kernel_rfl) (by kernel_rfl) (by kernel_rfl) (door_met os _)) ?_
  intro W base args ds gs before hval0 hW _ hsz0 hL _
  have hval : ∀ (j : Nat) t v, Tryd.f8.params[j]? = some t → args[j]? = some v → Value.okWide Tryd.prog W .any base t v := hval0
  have hsz : (DataW.weightsEach Tryd.prog (Tryd.f8.params.toList ++ Rows.deltaOnceSpec.plain.varTypes Tryd.prog) (ds ++ gs)).all (· ≤ reachBytes) = true := hsz0
  have hW' := hW
  obtain ⟨p, q, hA0, hV, rfl, hfz, hnd⟩ := hW
  have hA : DataW.TrodAll enc Tryd.prog W 0 (fun _ => true) true Tryd.f8.params.toList args.toList ds p := hA0
  rw [Tryd.params8] at hA hval hsz
  obtain ⟨v0, vs0, d0, ds0, p0, q0, hargs, rfl, rfl, h0, r0⟩ := trodAll_cons hA
  obtain ⟨v1, vs1, d1, ds1, p1, q1, rfl, rfl, rfl, h1, r1⟩ := trodAll_cons r0
  obtain ⟨rfl, rfl, rfl⟩ := trodAll_nil r1
  obtain rfl : args = #[v0, v1] := by cases args; simp_all
  obtain ⟨rfl, rfl⟩ := trodVars_none hV
  have k0 := h0
  have lt0 : ∀ x ∈ p0, x.block < W.heap.size := by obtain ⟨m, hm⟩ := k0; exact DataW.trod_lt m _ _ _ hm
  obtain ⟨a0, len0, cap0, rfl⟩ := okWide_slice Tryd.underlying50 (hval 0 50 v0 rfl rfl)
  obtain ⟨ss0, w0, _⟩ : ∃ bs, Bs W a0 len0 cap0 bs ∧ True := by
    obtain ⟨fuel, hf⟩ := h0
    exact bytes_arg (by simpa [Value.cells] using hf)
  obtain ⟨x1, rfl, rfl, rfl, w1⟩ := open_int Tryd.underlying3 (hval 1 3 v1 rfl rfl) h1
  clear hA0 hval0 hsz hsz0
  refine (walk a0 len0 cap0 ss0 x1 (wf_i64 w1) W w0 (of_laid hL)).mono fun e W' ⟨he, bel⟩ => ?_
  subst he
  exact ⟨_, rfl, _, _, _, [], _, [], hW', trodAll_mk1 (shut_bool Tryd.underlying4 _), (trodAll_cons_mk (Below.trod laidOut (by kernel_rfl) (of_decide_eq_true (by kernel_rfl)) k0 bel lt0) (trodAll_cons_mk (shut_int Tryd.underlying3 w1) trodAll_mk0)), rfl, bel.frame _, fun h => by cases h⟩

theorem over : Rows.deltaOnceRow.holds Tryd.pinned (OpenSpec.ofChange Rows.deltaOnceSpec) :=
  OpenClaim.holds_of_wide 8 Tryd.f8 rfl rfl rfl rfl rfl rfl rfl ⟨rfl, rfl, rfl, rfl, rfl⟩ rfl rfl rfl rfl rfl (by kernel_rfl) Tryd.func8 (by kernel_rfl)
    (of_decide_eq_true (by kernel_rfl)) (by unfold Func.isWrapper; first | (rw [if_pos (by decide +kernel)]; kernel_rfl) | (rw [if_neg (by decide +kernel)]; exact ⟨rfl, rfl⟩))
    (fun os started H enc _ => lifted os started H enc)

end Go.Proofs.YtbhnmjjfammlkaaDoor.deltaOnce
namespace Go.Proofs.YtbhnmjjfammlkaaDoor
/-- The given statement. -/
theorem deltaOnce_holds : Rows.DeltaOnceCardSaid :=
  Claim7.holds_tied_plain_at .later [] [.data, .data] true (true, "27943a41a17194b98194b1148f1bcb5bf0b2dad1c028dfa582421bd3b0c29b3b") false
    deltaOnce.over (fun _ h => by cases h) (by kernel_rfl) (fun _ h => by cases h) deltaOnce_row_tie rfl ⟨rfl, rfl⟩ (by kernel_rfl) rfl
    (fun f fn hf hfn => by
      obtain rfl : f = 8 := Option.some.inj ((show Tryd.prog.funcNamed "strongroom/strongroomlaw11.DeltaOnce" = some 8 by kernel_rfl).symm.trans hf) |>.symm
      obtain rfl : fn = Tryd.f8 := (Option.some.inj (Tryd.func8.symm.trans hfn)).symm
      exact ⟨by kernel_rfl, fun j t ht => by
        rw [Tryd.params8] at ht
        rcases j with _ | _ | j
        · obtain rfl : t = 50 := by simpa using ht.symm
          exact (show Tryd.prog.wantsStandIn 50 = false by kernel_rfl)
        · obtain rfl : t = 3 := by simpa using ht.symm
          exact (show Tryd.prog.wantsStandIn 3 = false by kernel_rfl)
        · simp at ht
      ⟩)
    (by kernel_rfl)
#print axioms deltaOnce_holds
end Go.Proofs.YtbhnmjjfammlkaaDoor
