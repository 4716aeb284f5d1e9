/- Proved: for every tokens, the law LzJoins returns true, they as they were. No condition: every input that can be read as data. -/
import Derived.Test.YtekbmdpokghmmaaRows
import Derived.Test.YtekbmdpokghmmaaMA
import Derived.WalkKit
import Derived.ProofKit
import Derived.OpenShut
import Derived.ShutString
import Derived.ChangeOld
import Derived.SizedLaws
import Derived.Below
namespace Go.Proofs.Ytekbmdpokghmmaa.lzJoins
open Go.ChangeShapes Go.WideShapes Go.ChangeAt Go.RowKit Lz
open Go.ChangeMaps (open_string shut_string)
theorem own : ownKnob Try.prog.godebug = none := by kernel_rfl
theorem laidOut : laidOutB Try.prog = true := by kernel_rfl
theorem rtsV_tks {l : List RT} (h : ∀ t ∈ l, t.ok) : rtsV l = tksV (tks l) := by
  induction l with
  | nil => rfl
  | cons t l ih =>
    obtain ⟨_, h2, h3⟩ := (h t List.mem_cons_self).tok
    have e : rtC t = tkC t.tk := by unfold rtC tkC; rw [← h2, ← h3]; rfl
    show rtC t ++ rtsV l = tkC t.tk ++ tksV (tks l)
    rw [e, ih (fun u hu => h u (List.mem_cons_of_mem _ hu))]

set_option maxRecDepth 100000 in
set_option maxHeartbeats 2000000 in
theorem walk (a0 : Option Addr) (len0 cap0 : Nat) (l0 : List RT) (w : World) (w0 : RTs w a0 len0 cap0 l0) :
    Calls Try.prog 5 #[.slice a0 len0 cap0] w fun e w' => e = .returned (.bool true) ∧ Below w.heap.size w w' := by
  have HLV : Hid (∀ W, Below w.heap.size w W → Calls Try.prog 9 #[] W fun e w' => e = .returned (.bool true) ∧ Below w.heap.size w w') := by
    intro W hW
    refine (lives_any W).mono ?_
    rintro e w' ⟨rfl, hb⟩
    exact ⟨rfl, hW.trans (hb.mono hW.size)⟩
  have HF : Hid (Calls Try.prog 17 #[.slice a0 len0 cap0] w (FewTo w l0)) := few_any w0
  have HR : Hid (RTs w a0 len0 cap0 l0) := w0
  have hcap : len0 ≤ 9223372036854775807 := by have := w0.1.2.1; have := w0.1.2.2.1; unfold maxLen at this; omega
  clear w0
  go_enter Try.func5, Try.ntmps5
  go_wp2_with fail
  refine HF.out.mono ?_
  rintro e w1 ⟨r, rfl, hr, hb1⟩
  have H1 : Hid (Below w.heap.size w w1) := hb1
  clear hb1
  cases r with
  | false =>
    clear hr
    go_wp2_with (go_at_call 9; refine (HLV.out _ (H1.out)).mono ?_; rintro e w' ⟨rfl, hb⟩)
    go_ret
    exact ⟨rfl, hb⟩
  | true =>
  have hfew := hr rfl
  have HFW : Hid (Few l0 ∧ l0.length = len0) := ⟨hfew, HR.out.2.1⟩
  have hn : len0 ≤ 600 := by have := hfew.1; have := HFW.out.2; omega
  have hin := HR.out.1.below H1.out
  have HMI := mine_any (w := w1) (a := a0) (n := len0) (c := cap0) (l := l0) ⟨hin, HR.out.2⟩ hn
  have HMI : Hid (Calls Try.prog 19 #[.slice a0 len0 cap0] w1 fun e w' => ∃ a' c', e = .returned (.slice a' len0 c') ∧ w'.ownsRow w1.heap.size 51 3 (.slice a' len0 c') len0 (rtsV l0) ∧ Below w1.heap.size w1 w') := HMI
  clear hr hfew hin HF
  go_wp2_with fail
  refine HMI.out.mono ?_
  rintro e w2 ⟨am, cm, rfl, hom, hb2⟩
  have H2 : Hid (Below w.heap.size w w2) := H1.out.trans (hb2.mono H1.out.size)
  have HJ : Hid (Calls Try.prog 18 #[.slice am len0 cm] w2 (JoTo w2 l0)) := join_any (Rw.own hom (fun _ _ => trivial)) hn HFW.out.2
  clear hom hb2 HMI
  go_wp2_with fail
  refine HJ.out.mono ?_
  rintro e w3 ⟨o, c, ab, cb, hjs, rfl, hbs, hb3⟩
  have H3 : Hid (Below w.heap.size w w3 ∧ JS l0 o c ∧ Bs w3 ab o.length cb o) := ⟨H2.out.trans (hb3.mono H2.out.size), hjs, hbs⟩
  have HRJ : Hid (Calls Try.prog 20 #[.slice a0 len0 cap0] w3 (RjTo w3 l0)) := rjoin_any (HR.out.1.below H3.out.1) hn HFW.out.2
  clear hjs hbs hb3 HJ
  go_wp2_with fail
  refine HRJ.out.mono ?_
  rintro e w4 ⟨o', c', hjs', rfl, hb4⟩
  obtain ⟨e1, e2⟩ := H3.out.2.1.unique hjs'
  subst e1 e2
  have hbb := H3.out.2.2.below hb4
  have hcv := hbb.convS
  have H4 : Hid (Below w.heap.size w w4 ∧ Bs w4 ab o.length cb o) := ⟨H3.out.1.trans (hb4.mono H3.out.1.size), hbb⟩
  obtain ⟨U, hU⟩ : ∃ U, strOf o = U := ⟨_, rfl⟩
  rw [hU] at hcv ⊢
  have kU : (U.toList == U.toList) = true := by simp
  have kc : ((c : Int) == (c : Int)) = true := by simp
  clear hjs' hb4 hbb hU HRJ
  rcases H3.out.2.1 with ⟨-, -, hc⟩ | ⟨-, -, -, hc⟩ | ⟨hv, hs, ho, hc⟩
  · have k1 : ¬ (c : Int) = 0 := by omega
    have k2 : ((c : Int) == 0) = false := by simpa using k1
    have k3 : ((c : Int) != 0) = true := by simpa using k1
    clear hc
    go_wp2_with (go_at_call 9; refine (HLV.out _ (H4.out.1)).mono ?_; rintro e w' ⟨rfl, hb⟩)
    go_ret
    exact ⟨rfl, hb⟩
  · have k1 : ¬ (c : Int) = 0 := by omega
    have k2 : ((c : Int) == 0) = false := by simpa using k1
    have k3 : ((c : Int) != 0) = true := by simpa using k1
    clear hc
    go_wp2_with (go_at_call 9; refine (HLV.out _ (H4.out.1)).mono ?_; rintro e w' ⟨rfl, hb⟩)
    go_ret
    exact ⟨rfl, hb⟩
  · have hwh : Whole o (toldL (tks l0)) (tks l0) := by
      rw [ho]
      exact whole_pack hs (hv.2.goes (tks_ok hv.1) (by omega)) rfl
    have hlt : (tks l0).length = len0 := by rw [List.length_map]; exact HFW.out.2
    have HTO : Hid (Calls Try.prog 12 #[.slice ab o.length cb] w4 fun e w' => ∃ a c, e = .returned (.tuple #[.slice a len0 c, .int .i64 0]) ∧ w'.ownsRow w4.heap.size 51 3 (.slice a len0 c) len0 (tksV (tks l0)) ∧ Below w4.heap.size w4 w') := by
      refine (tokens_any H4.out.2).mono ?_
      rintro e w' ⟨hb, h⟩
      rcases h with ⟨n, ts, a, c, hw, rfl, hown⟩ | ⟨hno, _⟩
      · obtain ⟨_, e2⟩ := hw.unique hwh
        subst e2
        rw [hlt] at hown
        exact ⟨a, c, by rw [hlt], hown, hb⟩
      · exact absurd hwh (hno _ _)
    have HRV : Hid (rtsV l0 = tksV (tks l0)) := rtsV_tks hv.1
    subst hc
    clear hv hs ho hwh hlt
    go_wp2_with fail
    refine HTO.out.mono ?_
    rintro e w5 ⟨at5, c5, rfl, hot, hb5⟩
    have H5 : Hid (Below w.heap.size w w5) := H4.out.1.trans (hb5.mono H4.out.1.size)
    have hrow := HR.out.1.below H5.out
    rw [HRV.out] at hrow
    have HSM := same_true (w := w5) (G1 := fun _ => True) (G2 := fun _ => True) (Rw.own hot (fun _ _ => trivial)) hrow (by omega)
    have HSM : Hid (Calls Try.prog 14 #[.slice at5 len0 c5, .slice a0 len0 cap0] w5 fun e w' => e = .returned (.bool true) ∧ Below w5.heap.size w5 w') := HSM
    clear hot hb5 hrow
    go_wp2_with (first | (go_at_call 14; refine HSM.out.mono ?_; rintro e w6 ⟨rfl, hb6⟩; have HB6 : Hid (Below w.heap.size w w6) := H5.out.trans (hb6.mono H5.out.size); clear hb6) | (go_at_call 9; refine (HLV.out _ HB6.out).mono ?_; rintro e w' ⟨rfl, hb⟩))
    go_ret
    exact ⟨rfl, hb⟩

set_option linter.unusedVariables false in
set_option maxRecDepth 100000 in
theorem lifted (os : _root_.Go.Os) (started : os.Started) (H : Type) (enc : TypeId × Value → H) :
    ReturnsInHanded {} Try.checked os 5 .any (Rows.lzJoinsSpec.pre6 enc Try.prog Try.f5 Rows.lzJoinsRow.domain false) (Rows.lzJoinsSpec.post enc Try.prog Try.f5 false true false false) := by
  refine returnsInHanded_of_change_sized (C := Try.checked) own started (by kernel_rfl) Try.func5
    (ChangeSpec.witness6 (enc := enc) (C := Try.checked) false ⟨#[], #[.slice none 0 0], []⟩ 8 (by kernel_rfl) (by kernel_rfl) (by kernel_rfl) (by kernel_rfl)) ?_
  intro W base args ds gs before hval0 hW hcnd hsz0 _
  have hval : ∀ (j : Nat) t v, Try.f5.params[j]? = some t → args[j]? = some v → Value.okWide Try.prog W .any base t v := hval0
  have hsz : (DataW.weightsEach Try.prog (Try.f5.params.toList ++ Rows.lzJoinsSpec.plain.varTypes Try.prog) (ds ++ gs)).all (· ≤ reachBytes) = true := hsz0
  have hW' := hW
  obtain ⟨p, q, hA0, hV, rfl, hfz, hnd⟩ := hW
  have hA : DataW.TrodAll enc Try.prog W 0 (fun _ => true) true Try.f5.params.toList args.toList ds p := hA0
  rw [Try.params5] at hA hval hsz
  obtain ⟨v0, vs0, d0, ds0, p0, q0, hargs, rfl, rfl, h0, r0⟩ := trodAll_cons hA
  obtain ⟨rfl, rfl, rfl⟩ := trodAll_nil r0
  obtain rfl : args = #[v0] := by cases args; simp_all
  obtain ⟨rfl, rfl⟩ := trodVars_none hV
  have k0 := h0
  have lt0 : ∀ x ∈ p0, x.block < W.heap.size := by obtain ⟨m, hm⟩ := k0; exact DataW.trod_lt m _ _ _ hm
  obtain ⟨a0, len0, cap0, rfl⟩ := okWide_slice Try.underlying32 (hval 0 32 v0 rfl rfl)
  obtain ⟨l0, w0⟩ : ∃ l, RTs W a0 len0 cap0 l := by
    obtain ⟨fuel, hf⟩ := h0
    exact rtoks_of (by simpa [Value.cells] using hf)
  clear hA0 hval0 hsz hsz0
  refine (walk a0 len0 cap0 l0 W w0).mono fun e W' ⟨he, bel⟩ => ?_
  subst he
  exact ⟨_, rfl, _, _, _, [], _, [], hW', trodAll_mk1 (shut_bool Try.underlying4 _), (trodAll_cons_mk (Below.trod laidOut (by kernel_rfl) (of_decide_eq_true (by kernel_rfl)) k0 bel lt0) trodAll_mk0), rfl, bel.frame _, fun h => by cases h⟩

theorem over : Rows.lzJoinsRow.holds Try.pinned (OpenSpec.ofChange Rows.lzJoinsSpec) :=
  OpenClaim.holds_of_wide 5 Try.f5 rfl rfl rfl rfl rfl rfl rfl ⟨rfl, rfl, rfl, rfl, rfl⟩ rfl rfl rfl rfl rfl (by kernel_rfl) Try.func5 (by kernel_rfl)
    (of_decide_eq_true (by kernel_rfl)) (by unfold Func.isWrapper; first | (rw [if_pos (by decide +kernel)]; kernel_rfl) | (rw [if_neg (by decide +kernel)]; exact ⟨rfl, rfl⟩))
    (fun os started H enc _ => lifted os started H enc)

end Go.Proofs.Ytekbmdpokghmmaa.lzJoins
namespace Go.Proofs.Ytekbmdpokghmmaa
/-- The given statement. -/
theorem lzJoins_holds : Rows.LzJoinsSaid := lzJoins.over
#print axioms lzJoins_holds
end Go.Proofs.Ytekbmdpokghmmaa
