/- Proved: for every bytes and most, the law LzReads returns true, they as they were. No condition: every input that can be read as data. -/
import Derived.Test.YtekbmdpokghmmaaRows
import Derived.Test.YtekbmdpokghmmaaLW
import Derived.WalkKit
import Derived.ProofKit
import Derived.OpenShut
import Derived.ShutString
import Derived.ChangeOld
import Derived.SizedLaws
import Derived.Below
namespace Go.Proofs.Ytekbmdpokghmmaa.lzReads
open Go.ChangeShapes Go.WideShapes Go.ChangeAt Go.RowKit Lz
open Go.ChangeMaps (open_string shut_string)
theorem own : ownKnob Try.prog.godebug = none := by kernel_rfl
theorem laidOut : laidOutB Try.prog = true := by kernel_rfl

set_option maxRecDepth 100000 in
set_option maxHeartbeats 2000000 in
theorem walk (a0 : Option Addr) (len0 cap0 : Nat) (l0 : List UInt8) (x1 : Int) (z1 : -9223372036854775808 ≤ x1 ∧ x1 ≤ 9223372036854775807) (w : World) (w0 : Bs w a0 len0 cap0 l0) :
    Calls Try.prog 3 #[.slice a0 len0 cap0, .int .i64 x1] w fun e w' => e = .returned (.bool true) ∧ Below w.heap.size w w' := by
  have HLV : Hid (∀ W, Below w.heap.size w W → Calls Try.prog 9 #[] W fun e w' => e = .returned (.bool true) ∧ Below w.heap.size w w') := by
    intro W hW
    refine (lives_any W).mono ?_
    rintro e w' ⟨rfl, hb⟩
    exact ⟨rfl, hW.trans (hb.mono hW.size)⟩
  by_cases h5 : 5000 < len0
  · have kk : (5000 : Int) < (len0 : Int) := by omega
    clear w0
    go_enter Try.func3, Try.ntmps3
    go_wp2_with (go_at_call 9; refine (HLV.out _ (Below.refl _ _)).mono ?_; rintro e w' ⟨rfl, hb⟩)
    go_ret
    exact ⟨rfl, hb⟩
  have kk : ¬ (5000 : Int) < (len0 : Int) := by omega
  have hl0 := w0.1
  have HB0 : Hid (Bs w a0 len0 cap0 l0 ∧ l0.length ≤ 5000) := ⟨w0, by omega⟩
  have HU : Hid (Calls Try.prog 10 #[.slice a0 len0 cap0, .int .i64 x1] w fun e w' => ∃ o c a' c', US l0 x1 o c ∧ e = .returned (.tuple #[.slice a' o.length c', .int .i64 (c : Int)]) ∧ Bs w' a' o.length c' o ∧ Below w.heap.size w w') := unpack_us w0 x1
  obtain ⟨T, hT⟩ : ∃ T, strOf l0 = T := ⟨_, rfl⟩
  have HT : Hid (strOf l0 = T) := hT
  have HRU : Hid (∀ V, Calls Try.prog 11 #[.string T, .int .i64 x1] V fun e w' => ∃ o c, US l0 x1 o c ∧ e = .returned (.tuple #[.string (strOf o), .int .i64 (c : Int)]) ∧ Below V.heap.size V w') := fun V => by
    rw [← hT]; exact runpack_any l0 (by omega) x1 z1 V
  have HRT : Hid (∀ V, Calls Try.prog 13 #[.string T] V (RtTo V l0)) := fun V => by
    rw [← hT]; exact rtokens_any l0 (by omega) V
  clear w0 hl0 hT z1
  go_enter Try.func3, Try.ntmps3
  go_wp2_with fail
  refine HU.out.mono ?_
  rintro e w1 ⟨o, c, ax, cx, hus, rfl, hbx, hb1⟩
  have H1 : Hid (US l0 x1 o c ∧ Bs w1 ax o.length cx o ∧ Below w.heap.size w w1) := ⟨hus, hbx, hb1⟩
  have hcb := (HB0.out.1.below hb1).convS
  rw [HT.out] at hcb
  clear hus hbx hb1 HU
  go_wp2_with fail
  refine (HRU.out _).mono ?_
  rintro e w2 ⟨o', c', hus', rfl, hb2⟩
  obtain ⟨e1, e2⟩ := H1.out.1.unique hus'
  subst e1 e2
  have H2 : Hid (Bs w2 ax o.length cx o ∧ Below w.heap.size w w2) := ⟨H1.out.2.1.below hb2, H1.out.2.2.trans (hb2.mono H1.out.2.2.size)⟩
  have HTO : Hid (Calls Try.prog 12 #[.slice a0 len0 cap0] w2 (TokTo w2 l0)) := tokens_any (HB0.out.1.below H2.out.2)
  obtain ⟨n, hn⟩ : ∃ n, o.length = n := ⟨_, rfl⟩
  obtain ⟨U, hU⟩ : ∃ U, strOf o = U := ⟨_, rfl⟩
  have HO : Hid (o.length = n ∧ strOf o = U) := ⟨hn, hU⟩
  rw [hn, hU]
  have kU : (U.toList == U.toList) = true := by simp
  have kc : ((c : Int) == (c : Int)) = true := by simp
  clear hus' hb2 hcb hn hU HRU
  go_wp2_with fail
  refine HTO.out.mono ?_
  rintro e w3 ⟨hb3, hcase⟩
  have H3 : Hid (Bs w3 ax n cx o ∧ Below w.heap.size w w3 ∧ strOf o = U) := ⟨by rw [← HO.out.1]; exact H2.out.1.below hb3, H2.out.2.trans (hb3.mono H2.out.2.size), HO.out.2⟩
  have hcb := (HB0.out.1.below H3.out.2.1).convS
  rw [HT.out] at hcb
  clear hb3 HTO
  rcases hcase with ⟨m, ts, al, cl, hw, rfl, hol⟩ | ⟨hno, rfl⟩
  · have HW : Hid (Whole l0 m ts ∧ w3.ownsRow w2.heap.size 51 3 (.slice al ts.length cl) ts.length (tksV ts)) := ⟨hw, hol⟩
    obtain ⟨q, hq⟩ : ∃ q, ts.length = q := ⟨_, rfl⟩
    have HQ : Hid (ts.length = q ∧ q ≤ 1000000) := ⟨hq, by
      obtain ⟨k, h1, h2⟩ := hw
      have := len_told h2.g; have := h2.n; have := (begL_le h1).1; omega⟩
    rw [hq]
    clear hw hol hq
    go_wp2_with fail
    refine (HRT.out _).mono ?_
    rintro e w4 ⟨hb4, hcase⟩
    rcases hcase with ⟨m', ts', am, cm, hw', rfl, hom⟩ | ⟨hno, _⟩
    · obtain ⟨_, e2⟩ := HW.out.1.unique hw'
      subst e2
      have hbw : Below w.heap.size w w4 := H3.out.2.1.trans (hb4.mono H3.out.2.1.size)
      have hcx := (H3.out.1.below hb4).convS
      rw [H3.out.2.2] at hcx
      have hol := HW.out.2
      rw [HQ.out.1] at hol hom
      have HSM := same_true (w := w4) (G1 := fun _ => True) (G2 := fun _ => True) (Rw.own (own_keep hol (fun k hk => hb4.block k (hol.lt k hk).2)) (fun _ _ => trivial)) (Rw.own hom (fun _ _ => trivial)) HQ.out.2
      have HSM : Hid (Calls Try.prog 14 #[.slice al q cl, .slice am q cm] w4 fun e w' => e = .returned (.bool true) ∧ Below w4.heap.size w4 w') := HSM
      have HB4 : Hid (Below w.heap.size w w4) := hbw
      rw [HQ.out.1]
      clear hb4 hw' hom hbw hol hcb
      go_wp2_with (first | (go_at_call 14; refine HSM.out.mono ?_; rintro e w5 ⟨rfl, hb5⟩; have HB5 : Hid (Below w.heap.size w w5) := HB4.out.trans (hb5.mono HB4.out.size); clear hb5) | (go_at_call 9; refine (HLV.out _ HB5.out).mono ?_; rintro e w' ⟨rfl, hb⟩))
      go_ret
      exact ⟨rfl, hb⟩
    · exact absurd HW.out.1 (hno _ _)
  · have HNO : Hid (∀ n ts, ¬ Whole l0 n ts) := hno
    clear hno
    go_wp2_with fail
    refine (HRT.out _).mono ?_
    rintro e w4 ⟨hb4, hcase⟩
    rcases hcase with ⟨m', ts', am, cm, hw', _⟩ | ⟨_, v1, v2, rfl⟩
    · exact absurd hw' (HNO.out _ _)
    · have hbw : Below w.heap.size w w4 := H3.out.2.1.trans (hb4.mono H3.out.2.1.size)
      have hcx := (H3.out.1.below hb4).convS
      rw [H3.out.2.2] at hcx
      have HB4 : Hid (Below w.heap.size w w4) := hbw
      clear hb4 hbw hcb
      go_wp2_with (go_at_call 9; refine (HLV.out _ (HB4.out)).mono ?_; rintro e w' ⟨rfl, hb⟩)
      go_ret
      exact ⟨rfl, hb⟩

set_option linter.unusedVariables false in
set_option maxRecDepth 100000 in
theorem lifted (os : _root_.Go.Os) (started : os.Started) (H : Type) (enc : TypeId × Value → H) :
    ReturnsInHanded {} Try.checked os 3 .any (Rows.lzReadsSpec.pre6 enc Try.prog Try.f3 Rows.lzReadsRow.domain false) (Rows.lzReadsSpec.post enc Try.prog Try.f3 false true false false) := by
  refine returnsInHanded_of_change_sized (C := Try.checked) own started (by kernel_rfl) Try.func3
    (ChangeSpec.witness6 (enc := enc) (C := Try.checked) false ⟨#[], #[.slice none 0 0, .int .i64 0], []⟩ 8 (by kernel_rfl) (by kernel_rfl) (by kernel_rfl) (by kernel_rfl)) ?_
  intro W base args ds gs before hval0 hW hcnd hsz0 _
  have hval : ∀ (j : Nat) t v, Try.f3.params[j]? = some t → args[j]? = some v → Value.okWide Try.prog W .any base t v := hval0
  have hsz : (DataW.weightsEach Try.prog (Try.f3.params.toList ++ Rows.lzReadsSpec.plain.varTypes Try.prog) (ds ++ gs)).all (· ≤ reachBytes) = true := hsz0
  have hW' := hW
  obtain ⟨p, q, hA0, hV, rfl, hfz, hnd⟩ := hW
  have hA : DataW.TrodAll enc Try.prog W 0 (fun _ => true) true Try.f3.params.toList args.toList ds p := hA0
  rw [Try.params3] at hA hval hsz
  obtain ⟨v0, vs0, d0, ds0, p0, q0, hargs, rfl, rfl, h0, r0⟩ := trodAll_cons hA
  obtain ⟨v1, vs1, d1, ds1, p1, q1, rfl, rfl, rfl, h1, r1⟩ := trodAll_cons r0
  obtain ⟨rfl, rfl, rfl⟩ := trodAll_nil r1
  obtain rfl : args = #[v0, v1] := by cases args; simp_all
  obtain ⟨rfl, rfl⟩ := trodVars_none hV
  have k0 := h0
  have lt0 : ∀ x ∈ p0, x.block < W.heap.size := by obtain ⟨m, hm⟩ := k0; exact DataW.trod_lt m _ _ _ hm
  obtain ⟨a0, len0, cap0, rfl⟩ := okWide_slice Try.underlying22 (hval 0 22 v0 rfl rfl)
  obtain ⟨l0, w0⟩ : ∃ l, Bs W a0 len0 cap0 l := by
    obtain ⟨fuel, hf⟩ := h0
    exact bs_of (by simpa [Value.cells] using hf)
  obtain ⟨x1, rfl, rfl, rfl, w1⟩ := open_int Try.underlying3 (hval 1 3 v1 rfl rfl) h1
  clear hA0 hval0 hsz hsz0
  refine (walk a0 len0 cap0 l0 x1 (wf_i64 w1) W w0).mono fun e W' ⟨he, bel⟩ => ?_
  subst he
  exact ⟨_, rfl, _, _, _, [], _, [], hW', trodAll_mk1 (shut_bool Try.underlying4 _), (trodAll_cons_mk (Below.trod laidOut (by kernel_rfl) (of_decide_eq_true (by kernel_rfl)) k0 bel lt0) (trodAll_cons_mk (shut_int Try.underlying3 w1) trodAll_mk0)), rfl, bel.frame _, fun h => by cases h⟩

theorem over : Rows.lzReadsRow.holds Try.pinned (OpenSpec.ofChange Rows.lzReadsSpec) :=
  OpenClaim.holds_of_wide 3 Try.f3 rfl rfl rfl rfl rfl rfl rfl ⟨rfl, rfl, rfl, rfl, rfl⟩ rfl rfl rfl rfl rfl (by kernel_rfl) Try.func3 (by kernel_rfl)
    (of_decide_eq_true (by kernel_rfl)) (by unfold Func.isWrapper; first | (rw [if_pos (by decide +kernel)]; kernel_rfl) | (rw [if_neg (by decide +kernel)]; exact ⟨rfl, rfl⟩))
    (fun os started H enc _ => lifted os started H enc)

end Go.Proofs.Ytekbmdpokghmmaa.lzReads
namespace Go.Proofs.Ytekbmdpokghmmaa
/-- The given statement. -/
theorem lzReads_holds : Rows.LzReadsSaid := lzReads.over
#print axioms lzReads_holds
end Go.Proofs.Ytekbmdpokghmmaa
