/- Proved: for every bytes, the law LzBack returns true, they as they were. No condition: every input that can be read as data. -/
import Derived.Test.YtekbmdpokghmmaaRows
import Derived.Test.YtekbmdpokghmmaaLU
import Derived.WalkKit
import Derived.ProofKit
import Derived.OpenShut
import Derived.ShutString
import Derived.ChangeOld
import Derived.SizedLaws
import Derived.Below
namespace Go.Proofs.Ytekbmdpokghmmaa.lzBack
open Go.ChangeShapes Go.WideShapes Go.ChangeAt Go.RowKit Lz
open Go.ChangeMaps (open_string shut_string)
theorem own : ownKnob Try.prog.godebug = none := by kernel_rfl
theorem laidOut : laidOutB Try.prog = true := by kernel_rfl

set_option maxRecDepth 100000 in
set_option maxHeartbeats 2000000 in
theorem walk (a0 : Option Addr) (len0 cap0 : Nat) (l0 : List UInt8) (w : World) (w0 : Bs w a0 len0 cap0 l0) :
    Calls Try.prog 4 #[.slice a0 len0 cap0] w fun e w' => e = .returned (.bool true) ∧ Below w.heap.size w w' := by
  have HLV : Hid (∀ W, Below w.heap.size w W → Calls Try.prog 9 #[] W fun e w' => e = .returned (.bool true) ∧ Below w.heap.size w w') := by
    intro W hW
    refine (lives_any W).mono ?_
    rintro e w' ⟨rfl, hb⟩
    exact ⟨rfl, hW.trans (hb.mono hW.size)⟩
  have hl0 := w0.1
  have hcv0 := w0.convS
  by_cases h5 : 65536 < len0
  · have kk : (3000 : Int) < (len0 : Int) := by omega
    have k1 : ¬ (len0 : Int) ≤ 65536 := by omega
    have k2 : (65536 : Int) < (len0 : Int) := by omega
    have HPK : Hid (Calls Try.prog 15 #[.slice a0 len0 cap0] w fun e w' => e = .returned (.tuple #[.slice none 0 0, .int .i64 2]) ∧ Below w.heap.size w w') := by
      refine (pack_any w0).mono ?_
      rintro e w' ⟨hb, h⟩
      rcases h with ⟨_, rfl⟩ | ⟨h, _⟩
      · exact ⟨rfl, hb⟩
      · omega
    clear w0 hl0
    go_enter Try.func4, Try.ntmps4
    go_wp2_with fail
    refine HPK.out.mono ?_
    rintro e w1 ⟨rfl, hb1⟩
    have HB : Hid (Below w.heap.size w w1) := hb1
    clear hb1 hcv0
    go_wp2_with (go_at_call 9; refine (HLV.out _ (HB.out)).mono ?_; rintro e w' ⟨rfl, hb⟩)
    go_ret
    exact ⟨rfl, hb⟩
  by_cases h6 : 3000 < len0
  · have kk : (3000 : Int) < (len0 : Int) := by omega
    have k1 : (len0 : Int) ≤ 65536 := by omega
    clear w0 hl0 hcv0
    go_enter Try.func4, Try.ntmps4
    go_wp2_with (go_at_call 9; refine (HLV.out _ (Below.refl _ _)).mono ?_; rintro e w' ⟨rfl, hb⟩)
    go_ret
    exact ⟨rfl, hb⟩
  have kk : ¬ (3000 : Int) < (len0 : Int) := by omega
  have k2 : ¬ (65536 : Int) < (len0 : Int) := by omega
  have HB0 : Hid (Bs w a0 len0 cap0 l0) := w0
  have HX : Hid (l0.length ≤ 65536) := by show l0.length ≤ 65536; omega
  have HPK := pack_ok w0 HX.out
  obtain ⟨P, hP⟩ : ∃ P, (packB l0).length = P := ⟨_, rfl⟩
  have hPl := pack_len l0 HX.out
  rw [hP] at HPK hPl
  have HPK : Hid _ := HPK
  have HNP : Hid (l0.length = len0 ∧ (packB l0).length = P ∧ P ≤ 4000) := ⟨hl0, hP, by omega⟩
  obtain ⟨T, hT⟩ : ∃ T, strOf l0 = T := ⟨_, rfl⟩
  rw [hT] at hcv0
  have HT : Hid (strOf l0 = T) := hT
  have hdv : (len0 : Int).tdiv 128 = ((len0 / 128 : Nat) : Int) := by rw [Int.tdiv_eq_ediv_of_nonneg (by omega)]; omega
  obtain ⟨D, hD⟩ : ∃ D, len0 / 128 = D := ⟨_, rfl⟩
  rw [hD] at hdv
  have w1 : IntKind.i64.wrap ((len0 : Int) / 128) = (D : Int) := by rw [IntKind.wrap_i64]; omega
  have w1' : IntKind.i64.wrap (D : Int) = (D : Int) := by rw [IntKind.wrap_i64]; omega
  have k10 : ((len0 : Int)) / 128 = (D : Int) := by omega
  have w2' : IntKind.i64.wrap ((len0 : Int) + (D : Int)) = (len0 : Int) + (D : Int) := by rw [IntKind.wrap_i64]; omega
  have w3' : IntKind.i64.wrap ((len0 : Int) + (D : Int) + 4) = (len0 : Int) + (D : Int) + 4 := by rw [IntKind.wrap_i64]; omega
  have k9 : (P : Int) ≤ (len0 : Int) + (D : Int) + 4 := by omega
  have kT : (T.toList == T.toList) = true := by simp
  clear w0 hl0 hP hPl hT
  go_enter Try.func4, Try.ntmps4
  go_wp2_with fail
  refine Calls.mono HPK.out ?_
  rintro e w4 ⟨ap, cp, rfl, hop, hb1⟩
  have HP1 : Hid (w4.ownsRow w.heap.size 5 1 (.slice ap P cp) P (bytesV (packB l0)) ∧ Below w.heap.size w w4) := ⟨hop, hb1⟩
  have HU1 := unpack_pack (own_bs hop) HX.out (len0 : Int) (by rw [HNP.out.1]; omega)
  rw [HNP.out.1] at HU1
  have HU1 : Hid (Calls Try.prog 10 #[.slice ap P cp, .int .i64 (len0 : Int)] w4 fun e w' => ∃ a c, e = .returned (.tuple #[.slice a len0 c, .int .i64 0]) ∧ w'.ownsRow w4.heap.size 5 1 (.slice a len0 c) len0 (bytesV l0) ∧ Below w4.heap.size w4 w') := HU1
  clear hop hb1 HPK hcv0
  go_wp2_with fail
  refine HU1.out.mono ?_
  rintro e w5 ⟨ax, cx, rfl, hox, hb2⟩
  have hop2 := own_keep HP1.out.1 (fun k hk => hb2.block k (HP1.out.1.lt k hk).2)
  have HX2 : Hid (w5.ownsRow w4.heap.size 5 1 (.slice ax len0 cx) len0 (bytesV l0) ∧ Below w4.heap.size w4 w5 ∧ Bs w5 ap P cp (packB l0)) := ⟨hox, hb2, own_bs hop2⟩
  have hcp := (own_bs hop2).convS
  have HRT := rtokens_any (packB l0) (by have := HNP.out; omega) w5
  obtain ⟨Q, hQ⟩ : ∃ Q, strOf (packB l0) = Q := ⟨_, rfl⟩
  rw [hQ] at hcp HRT
  have HRT : Hid (Calls Try.prog 13 #[.string Q] w5 fun e w' => ∃ v, e = .returned (.tuple #[v, .string T, .bool true]) ∧ Below w5.heap.size w5 w') := by
    refine HRT.mono ?_
    rintro e w' ⟨hb, h⟩
    rcases h with ⟨n, ts, a, c, hw, rfl, _⟩ | ⟨hno, _⟩
    · obtain ⟨_, rfl⟩ := hw.unique (pack_whole l0 HX.out)
      exact ⟨.slice a (chooseL l0).length c, by rw [(choose_ok l0 HX.out).2.2.1, HT.out], hb⟩
    · exact absurd (pack_whole l0 HX.out) (hno _ _)
  clear hox hb2 hop2 HU1 hQ
  go_wp2_with fail
  refine HRT.out.mono ?_
  rintro e w6 ⟨v, rfl, hb3⟩
  have hbx := (own_bs HX2.out.1).below hb3
  have hb46 : Below w4.heap.size w4 w6 := HX2.out.2.1.trans (hb3.mono HX2.out.2.1.size)
  have hbw : Below w.heap.size w w6 := HP1.out.2.trans (hb46.mono HP1.out.2.size)
  have hcx := hbx.convS
  have hcb := (HB0.out.below hbw).convS
  rw [HT.out] at hcx hcb
  have HSZ := lzsize_any (HX2.out.2.2.below hb3)
  rw [beg_pack l0 HX.out, HNP.out.1] at HSZ
  have HSZ : Hid (Calls Try.prog 16 #[.slice ap P cp] w6 fun e w' => e = .returned (.tuple #[.int .i64 (len0 : Int), .int .i64 0]) ∧ w' = w6) := HSZ
  have HB6 : Hid (Below w.heap.size w w6) := hbw
  clear hb3 hbx hb46 hbw HRT hcp
  go_wp2_with fail
  refine HSZ.out.mono ?_
  rintro e w7 ⟨rfl, h⟩; subst w7
  go_wp2_with (go_at_call 9; refine (HLV.out _ (HB6.out)).mono ?_; rintro e w' ⟨rfl, hb⟩)
  go_ret
  exact ⟨rfl, hb⟩

set_option linter.unusedVariables false in
set_option maxRecDepth 100000 in
theorem lifted (os : _root_.Go.Os) (started : os.Started) (H : Type) (enc : TypeId × Value → H) :
    ReturnsInHanded {} Try.checked os 4 .any (Rows.lzBackSpec.pre6 enc Try.prog Try.f4 Rows.lzBackRow.domain false) (Rows.lzBackSpec.post enc Try.prog Try.f4 false true false false) := by
  refine returnsInHanded_of_change_sized (C := Try.checked) own started (by kernel_rfl) Try.func4
    (ChangeSpec.witness6 (enc := enc) (C := Try.checked) false ⟨#[], #[.slice none 0 0], []⟩ 8 (by kernel_rfl) (by kernel_rfl) (by kernel_rfl) (by kernel_rfl)) ?_
  intro W base args ds gs before hval0 hW hcnd hsz0 _
  have hval : ∀ (j : Nat) t v, Try.f4.params[j]? = some t → args[j]? = some v → Value.okWide Try.prog W .any base t v := hval0
  have hsz : (DataW.weightsEach Try.prog (Try.f4.params.toList ++ Rows.lzBackSpec.plain.varTypes Try.prog) (ds ++ gs)).all (· ≤ reachBytes) = true := hsz0
  have hW' := hW
  obtain ⟨p, q, hA0, hV, rfl, hfz, hnd⟩ := hW
  have hA : DataW.TrodAll enc Try.prog W 0 (fun _ => true) true Try.f4.params.toList args.toList ds p := hA0
  rw [Try.params4] at hA hval hsz
  obtain ⟨v0, vs0, d0, ds0, p0, q0, hargs, rfl, rfl, h0, r0⟩ := trodAll_cons hA
  obtain ⟨rfl, rfl, rfl⟩ := trodAll_nil r0
  obtain rfl : args = #[v0] := by cases args; simp_all
  obtain ⟨rfl, rfl⟩ := trodVars_none hV
  have k0 := h0
  have lt0 : ∀ x ∈ p0, x.block < W.heap.size := by obtain ⟨m, hm⟩ := k0; exact DataW.trod_lt m _ _ _ hm
  obtain ⟨a0, len0, cap0, rfl⟩ := okWide_slice Try.underlying22 (hval 0 22 v0 rfl rfl)
  obtain ⟨l0, w0⟩ : ∃ l, Bs W a0 len0 cap0 l := by
    obtain ⟨fuel, hf⟩ := h0
    exact bs_of (by simpa [Value.cells] using hf)
  clear hA0 hval0 hsz hsz0
  refine (walk a0 len0 cap0 l0 W w0).mono fun e W' ⟨he, bel⟩ => ?_
  subst he
  exact ⟨_, rfl, _, _, _, [], _, [], hW', trodAll_mk1 (shut_bool Try.underlying4 _), (trodAll_cons_mk (Below.trod laidOut (by kernel_rfl) (of_decide_eq_true (by kernel_rfl)) k0 bel lt0) trodAll_mk0), rfl, bel.frame _, fun h => by cases h⟩

theorem over : Rows.lzBackRow.holds Try.pinned (OpenSpec.ofChange Rows.lzBackSpec) :=
  OpenClaim.holds_of_wide 4 Try.f4 rfl rfl rfl rfl rfl rfl rfl ⟨rfl, rfl, rfl, rfl, rfl⟩ rfl rfl rfl rfl rfl (by kernel_rfl) Try.func4 (by kernel_rfl)
    (of_decide_eq_true (by kernel_rfl)) (by unfold Func.isWrapper; first | (rw [if_pos (by decide +kernel)]; kernel_rfl) | (rw [if_neg (by decide +kernel)]; exact ⟨rfl, rfl⟩))
    (fun os started H enc _ => lifted os started H enc)

end Go.Proofs.Ytekbmdpokghmmaa.lzBack
namespace Go.Proofs.Ytekbmdpokghmmaa
/-- The given statement. -/
theorem lzBack_holds : Rows.LzBackSaid := lzBack.over
#print axioms lzBack_holds
end Go.Proofs.Ytekbmdpokghmmaa
