/- Proved: for every number of sectors, the law DiskNews returns true, the number as it was. No condition: every input that can be read as data. -/
import Derived.Test.YtdlmciicapigjaaRows
import Derived.Test.YtdlmciicapigjaaL
import Derived.WalkKit
import Derived.ProofKit
import Derived.OpenShut
import Derived.ShutString
import Derived.ChangeOld
import Derived.Below
namespace Go.Proofs.Ytdlmciicapigjaa.diskNews
open Go.ChangeShapes Go.WideShapes Go.ChangeAt Go.RowKit
theorem own : ownKnob Try.prog.godebug = none := by kernel_rfl
theorem laidOut : laidOutB Try.prog = true := by kernel_rfl

set_option maxRecDepth 100000 in
set_option maxHeartbeats 8000000 in
theorem walk (x0 : Int) (_z0 : -9223372036854775808 ≤ x0 ∧ x0 ≤ 9223372036854775807) (w : World)  :
    Calls Try.prog 3 #[.int .i64 x0] w fun e w' => e = .returned (.bool true) ∧ Below w.heap.size w w' := by
  have HR : Hid (∀ W, Calls Try.prog 9 #[.pointer none, .int .i64 0] W fun e w' => e = .returned (.tuple #[.string ⟨#[]⟩, .int .i64 1]) ∧ w' = W) := fun W => read_nil 0 W
  have HW : Hid (∀ W, Calls Try.prog 11 #[.pointer none, .int .i64 0, .string ⟨#[]⟩] W fun e w' => e = .returned (.int .i64 1) ∧ w' = W) := fun W => write_nil 0 _ W
  have HFL : Hid (∀ W, Calls Try.prog 12 #[.pointer none] W fun e w' => e = .returned (.int .i64 1) ∧ w' = W) := fun W => flush_nil W
  have HFU : Hid (∀ W, Calls Try.prog 13 #[.pointer none, .int .i64 1] W fun e w' => e = .returned (.int .i64 1) ∧ w' = W) := fun W => fuse_nil 1 W
  have HST : Hid (∀ W, Calls Try.prog 14 #[.pointer none] W fun e w' => e = .returned (.int .i64 1) ∧ w' = W) := fun W => start_nil W
  have HSZ : Hid (∀ W, Calls Try.prog 15 #[.pointer none] W fun e w' => e = .returned (.int .i64 0) ∧ w' = W) := fun W => size_nil W
  have HWA : Hid (∀ W, Calls Try.prog 16 #[.pointer none] W fun e w' => e = .returned (.int .i64 0) ∧ w' = W) := fun W => waits_nil W
  have HWS : Hid (∀ W, Calls Try.prog 17 #[.pointer none] W fun e w' => e = .returned (.int .i64 0) ∧ w' = W) := fun W => writes_nil W
  have HUP : Hid (∀ W, Calls Try.prog 18 #[.pointer none] W fun e w' => e = .returned (.bool false) ∧ w' = W) := fun W => up_nil W
  have HCL : Hid (∀ W, Calls Try.prog 19 #[.pointer none] W fun e w' => e = .returned (.pointer none) ∧ w' = W) := fun W => clone_nil W
  have HFA : Hid (∀ W, Calls Try.prog 10 #[.pointer none, .slice none 0 0] W fun e w' => e = .returned (.tuple #[]) ∧ Below W.heap.size W w') := fun W => fail_nil none 0 0 W
  have HLV : Hid (∀ W, Calls Try.prog 20 #[] W fun e w' => e = .returned (.bool true) ∧ Below W.heap.size W w') := fun W => lives_any W
  by_cases hx : x0 < 1 ∨ 2048 < x0
  · have HN := new_bad x0 w hx
    go_enter Try.func3, Try.ntmps3
    go_wp2_with fail
    refine HN.mono ?_
    rintro e w1 ⟨rfl, hw1⟩
    subst w1
    clear HN
    go_wp2_with fail
    refine (HR.out _).mono ?_
    rintro e V1 ⟨rfl, hV⟩
    subst V1
    go_wp2_with fail
    refine (HFA.out _).mono ?_
    rintro e w2 ⟨rfl, hb2⟩
    have HB2 : Hid (Below w.heap.size w w2) := hb2
    clear hb2
    by_cases h1 : x0 < 1
    · clear hx
      go_wp2_with fail
      refine (HW.out _).mono ?_
      rintro e V1 ⟨rfl, hV⟩
      subst V1
      go_wp2_with fail
      refine (HFL.out _).mono ?_
      rintro e V1 ⟨rfl, hV⟩
      subst V1
      go_wp2_with fail
      refine (HFU.out _).mono ?_
      rintro e V1 ⟨rfl, hV⟩
      subst V1
      go_wp2_with fail
      refine (HST.out _).mono ?_
      rintro e V1 ⟨rfl, hV⟩
      subst V1
      go_wp2_with fail
      refine (HSZ.out _).mono ?_
      rintro e V1 ⟨rfl, hV⟩
      subst V1
      go_wp2_with fail
      refine (HWA.out _).mono ?_
      rintro e V1 ⟨rfl, hV⟩
      subst V1
      go_wp2_with fail
      refine (HWS.out _).mono ?_
      rintro e V1 ⟨rfl, hV⟩
      subst V1
      go_wp2_with fail
      refine (HUP.out _).mono ?_
      rintro e V1 ⟨rfl, hV⟩
      subst V1
      go_wp2_with fail
      refine (HCL.out _).mono ?_
      rintro e V1 ⟨rfl, hV⟩
      subst V1
      go_wp2_with fail
      refine (HLV.out _).mono ?_
      rintro e w3 ⟨rfl, hb3⟩
      go_wp2
      go_ret
      exact ⟨rfl, HB2.out.trans (hb3.mono HB2.out.size)⟩
    · have h2 : 2048 < x0 := by omega
      clear hx
      go_wp2_with fail
      refine (HW.out _).mono ?_
      rintro e V1 ⟨rfl, hV⟩
      subst V1
      go_wp2_with fail
      refine (HFL.out _).mono ?_
      rintro e V1 ⟨rfl, hV⟩
      subst V1
      go_wp2_with fail
      refine (HFU.out _).mono ?_
      rintro e V1 ⟨rfl, hV⟩
      subst V1
      go_wp2_with fail
      refine (HST.out _).mono ?_
      rintro e V1 ⟨rfl, hV⟩
      subst V1
      go_wp2_with fail
      refine (HSZ.out _).mono ?_
      rintro e V1 ⟨rfl, hV⟩
      subst V1
      go_wp2_with fail
      refine (HWA.out _).mono ?_
      rintro e V1 ⟨rfl, hV⟩
      subst V1
      go_wp2_with fail
      refine (HWS.out _).mono ?_
      rintro e V1 ⟨rfl, hV⟩
      subst V1
      go_wp2_with fail
      refine (HUP.out _).mono ?_
      rintro e V1 ⟨rfl, hV⟩
      subst V1
      go_wp2_with fail
      refine (HCL.out _).mono ?_
      rintro e V1 ⟨rfl, hV⟩
      subst V1
      go_wp2_with fail
      refine (HLV.out _).mono ?_
      rintro e w3 ⟨rfl, hb3⟩
      go_wp2
      go_ret
      exact ⟨rfl, HB2.out.trans (hb3.mono HB2.out.size)⟩
  · obtain ⟨n, rfl⟩ := Int.eq_ofNat_of_zero_le (show 0 ≤ x0 by omega)
    have h1 : ¬ (n : Int) < 1 := by omega
    have h2 : ¬ (2048 : Int) < (n : Int) := by omega
    have HN := new_any n w (by omega) (by omega)
    clear hx
    go_enter Try.func3, Try.ntmps3
    go_wp2_with fail
    refine HN.mono ?_
    rintro e w1 ⟨g, rfl, hd1, hb1⟩
    have HD1 : Hid (DiskIs w1 (fresh w w1) g (Dk.new n nought)) := hd1
    have HB1 : Hid (Below w.heap.size w w1) := hb1
    clear HN hd1 hb1
    go_wp2_with fail
    refine (HR.out _).mono ?_
    rintro e V1 ⟨rfl, hV⟩
    subst V1
    go_wp2_with fail
    refine (HFA.out _).mono ?_
    rintro e w2 ⟨rfl, hb2⟩
    have HB2 : Hid (Below w.heap.size w w2) := HB1.out.trans (hb2.mono HB1.out.size)
    have HD2 : Hid (DiskIs w2 (fresh w w1) g (Dk.new n nought)) := HD1.out.below hb2
    have HSD : Hid (∀ U : Unit, Calls Try.prog 15 #[.pointer (some ⟨g, 0, none⟩)] w2 fun e w' => e = .returned (.int .i64 (n : Int)) ∧ w' = w2) := by
      intro _
      have := size_any HD2.out
      rw [show (Dk.new n nought).kept.length = n by simp [Dk.new]] at this
      exact this
    have HUD : Hid (∀ U : Unit, Calls Try.prog 18 #[.pointer (some ⟨g, 0, none⟩)] w2 fun e w' => e = .returned (.bool true) ∧ w' = w2) := fun _ => up_any HD2.out
    have HWD : Hid (∀ U : Unit, Calls Try.prog 16 #[.pointer (some ⟨g, 0, none⟩)] w2 fun e w' => e = .returned (.int .i64 0) ∧ w' = w2) := fun _ => waits_any HD2.out
    clear hb2
    go_wp2_with fail
    refine (HW.out _).mono ?_
    rintro e V1 ⟨rfl, hV⟩
    subst V1
    go_wp2_with fail
    refine (HFL.out _).mono ?_
    rintro e V1 ⟨rfl, hV⟩
    subst V1
    go_wp2_with fail
    refine (HFU.out _).mono ?_
    rintro e V1 ⟨rfl, hV⟩
    subst V1
    go_wp2_with fail
    refine (HST.out _).mono ?_
    rintro e V1 ⟨rfl, hV⟩
    subst V1
    go_wp2_with fail
    refine (HSZ.out _).mono ?_
    rintro e V1 ⟨rfl, hV⟩
    subst V1
    go_wp2_with fail
    refine (HWA.out _).mono ?_
    rintro e V1 ⟨rfl, hV⟩
    subst V1
    go_wp2_with fail
    refine (HWS.out _).mono ?_
    rintro e V1 ⟨rfl, hV⟩
    subst V1
    go_wp2_with fail
    refine (HUP.out _).mono ?_
    rintro e V1 ⟨rfl, hV⟩
    subst V1
    go_wp2_with fail
    refine (HCL.out _).mono ?_
    rintro e V1 ⟨rfl, hV⟩
    subst V1
    go_wp2_with fail
    refine (HSD.out ()).mono ?_
    rintro e V1 ⟨rfl, hV⟩
    subst V1
    go_wp2_with fail
    refine (HUD.out ()).mono ?_
    rintro e V1 ⟨rfl, hV⟩
    subst V1
    go_wp2_with fail
    refine (HWD.out ()).mono ?_
    rintro e V1 ⟨rfl, hV⟩
    subst V1
    go_wp2_with fail
    refine (HLV.out _).mono ?_
    rintro e w3 ⟨rfl, hb3⟩
    go_wp2
    go_ret
    exact ⟨rfl, HB2.out.trans (hb3.mono HB2.out.size)⟩

set_option linter.unusedVariables false in
set_option maxRecDepth 100000 in
theorem lifted (os : Os) (started : os.Started) (H : Type) (enc : TypeId × Value → H) :
    ReturnsInHanded {} Try.checked os 3 .any (Rows.diskNewsSpec.pre6 enc Try.prog Try.f3 Rows.diskNewsRow.domain false) (Rows.diskNewsSpec.post enc Try.prog Try.f3 false true false false) := by
  refine returnsInHanded_of_change (C := Try.checked) own started (by kernel_rfl) Try.func3
    (ChangeSpec.witness6 (enc := enc) (C := Try.checked) false ⟨#[], #[.int .i64 0], []⟩ 8 (by kernel_rfl) (by kernel_rfl) (by kernel_rfl) (by kernel_rfl)) ?_
  intro W base args ds gs before hval0 hW hcnd _
  have hval : ∀ (j : Nat) t v, Try.f3.params[j]? = some t → args[j]? = some v → Value.okWide Try.prog W .any base t v := hval0
  have hW' := hW
  obtain ⟨p, q, hA0, hV, rfl, hfz, hnd⟩ := hW
  have hA : DataW.TrodAll enc Try.prog W 0 (fun _ => true) true Try.f3.params.toList args.toList ds p := hA0
  rw [Try.params3] at hA hval
  obtain ⟨v0, vs0, d0, ds0, p0, q0, hargs, rfl, rfl, h0, r0⟩ := trodAll_cons hA
  obtain ⟨rfl, rfl, rfl⟩ := trodAll_nil r0
  obtain rfl : args = #[v0] := by cases args; simp_all
  obtain ⟨rfl, rfl⟩ := trodVars_none hV
  obtain ⟨x0, rfl, rfl, rfl, w0⟩ := open_int Try.underlying3 (hval 0 3 v0 rfl rfl) h0
  clear hA0 hval0
  refine (walk x0 (wf_i64 w0) W ).mono fun e W' ⟨he, bel⟩ => ?_
  subst he
  exact ⟨_, rfl, _, _, _, [], _, [], hW', trodAll_mk1 (shut_bool Try.underlying4 _), (trodAll_cons_mk (shut_int Try.underlying3 w0) trodAll_mk0), rfl, bel.frame _, fun h => by cases h⟩

theorem over : Rows.diskNewsRow.holds Try.pinned (OpenSpec.ofChange Rows.diskNewsSpec) :=
  OpenClaim.holds_of_wide 3 Try.f3 rfl rfl rfl rfl rfl rfl rfl ⟨rfl, rfl, rfl, rfl, rfl⟩ rfl rfl rfl rfl rfl (by kernel_rfl) Try.func3 (by kernel_rfl)
    (of_decide_eq_true (by kernel_rfl)) (by unfold Func.isWrapper; first | (rw [if_pos (by decide +kernel)]; kernel_rfl) | (rw [if_neg (by decide +kernel)]; exact ⟨rfl, rfl⟩))
    (fun os started H enc _ => lifted os started H enc)

end Go.Proofs.Ytdlmciicapigjaa.diskNews
namespace Go.Proofs.Ytdlmciicapigjaa
/-- The given statement. -/
theorem diskNews_holds : Rows.DiskNewsSaid := diskNews.over
#print axioms diskNews_holds
end Go.Proofs.Ytdlmciicapigjaa
