/- For every number of sectors and of pages: how many sectors a store needs, which disks have them, and what a nil journal and a nil disk answer, are the document's. No condition. -/
import Derived.Test.YtaacedaehbaodaaRows
import Derived.Test.YtaacedaehbaodaaJP
import Derived.Test.YtaacedaehbaodaaJJ
import Derived.WalkKit
import Derived.ProofKit
import Derived.OpenShut
import Derived.ShutString
import Derived.ChangeOld
import Derived.Below
namespace Go.Proofs.Ytaacedaehbaodaa.journalOpens
open Go.ChangeShapes Go.WideShapes Go.ChangeAt Go.RowKit
theorem own : ownKnob Try.prog.godebug = none := by kernel_rfl
theorem laidOut : laidOutB Try.prog = true := by kernel_rfl

set_option maxRecDepth 100000 in
set_option maxHeartbeats 2000000 in
theorem walk (x0 : Int) (z0 : -9223372036854775808 ≤ x0 ∧ x0 ≤ 9223372036854775807) (x1 : Int) (z1 : -9223372036854775808 ≤ x1 ∧ x1 ≤ 9223372036854775807) (w : World)  :
    Calls Try.prog 3 #[.int .i64 x0, .int .i64 x1] w fun e w' => e = .returned (.bool true) ∧ Below w.heap.size w w' := by
  have HLV : Hid (∀ W, Below w.heap.size w W → Calls Try.prog 14 #[] W fun e w' => e = .returned (.bool true) ∧ Below w.heap.size w w') := fun W hW => lives_h hW
  have HN : Hid (∀ W, Calls Try.prog 7 #[.int .i64 x1] W fun e w' => e = .returned (.int .i64 (needN x1 : Int)) ∧ w' = W) := fun W => need_any x1 W
  have HR : Hid (∀ W, Calls Try.prog 8 #[.int .i64 x1] W fun e w' => e = .returned (.int .i64 (needN x1 : Int)) ∧ w' = W) := fun W => rneed_any x1 W
  have H1 := read_none 0 w
  have H2 := open_nil x1 w
  have H3 := pages_nil w
  have H4 := commit_nil none 0 0 w
  obtain ⟨nd, hnd⟩ : ∃ nd, needN x1 = nd := ⟨_, rfl⟩
  rw [hnd] at HN HR
  have HND : Hid (needN x1 = nd) := hnd
  clear hnd
  go_enter Try.func3, Try.ntmps3
  go_wp2_with (first | (go_at_call 7; refine (HN.out _).mono ?_; rintro e V1 ⟨rfl, hV⟩; subst V1) | (go_at_call 8; refine (HR.out _).mono ?_; rintro e V1 ⟨rfl, hV⟩; subst V1) | (go_at_call 9; refine H1.mono ?_; rintro e V1 ⟨rfl, hV⟩; subst V1) | (go_at_call 10; refine H2.mono ?_; rintro e V1 ⟨rfl, hV⟩; subst V1) | (go_at_call 11; refine H3.mono ?_; rintro e V1 ⟨rfl, hV⟩; subst V1) | (go_at_call 12; refine H4.mono ?_; rintro e V1 ⟨rfl, hV⟩; subst V1))
  clear H1 H2 H3 H4 HN
  by_cases hx : x0 < 1 ∨ 2048 < x0
  · have HNW := new_bad x0 w hx
    refine HNW.mono ?_
    rintro e V1 ⟨rfl, hV⟩
    subst V1
    clear HNW
    go_wp2_with fail
    refine (HLV.out _ (Below.refl _ _)).mono ?_
    rintro e w9 ⟨rfl, hb9⟩
    go_wp2
    go_ret
    exact ⟨rfl, hb9⟩
  · obtain ⟨s, rfl⟩ := Int.eq_ofNat_of_zero_le (show 0 ≤ x0 by omega)
    have HNW := new_any s w (by omega) (by omega)
    refine HNW.mono ?_
    rintro e w1 ⟨g, rfl, hd1, hb1⟩
    have hkl : (Dk.new s nought).kept.length = s := by simp [Dk.new]
    clear HNW hx
    by_cases hsm : nd = 0 ∨ s < nd
    · have HO := open_small hd1 x1 (by rw [HND.out, hkl]; exact hsm)
      by_cases h0 : nd = 0
      · subst h0
        go_wp2_with (first | (go_at_call 10; refine HO.mono ?_; rintro e V1 ⟨rfl, hV⟩; subst V1) | (go_at_call 8; refine (HR.out _).mono ?_; rintro e V1 ⟨rfl, hV⟩; subst V1))
        refine (HLV.out _ hb1).mono ?_
        rintro e w9 ⟨rfl, hb9⟩
        go_wp2
        go_ret
        exact ⟨rfl, hb9⟩
      · have k0 : ((nd : Int) == 0) = false := by rw [beq_eq_false_iff_ne]; omega
        have k1 : s < nd := by omega
        go_wp2_with (first | (go_at_call 10; refine HO.mono ?_; rintro e V1 ⟨rfl, hV⟩; subst V1) | (go_at_call 8; refine (HR.out _).mono ?_; rintro e V1 ⟨rfl, hV⟩; subst V1))
        refine (HLV.out _ hb1).mono ?_
        rintro e w9 ⟨rfl, hb9⟩
        go_wp2
        go_ret
        exact ⟨rfl, hb9⟩
    · have hn1 : 1 ≤ x1 ∧ x1 ≤ 128 := by
        have := HND.out
        unfold needN at this
        split at this
        · omega
        · omega
      obtain ⟨n, rfl⟩ := Int.eq_ofNat_of_zero_le (show 0 ≤ x1 by omega)
      have hnd : nd = 1 + 8 * n := by
        rw [← HND.out]
        unfold needN
        rw [if_neg (by omega)]
        simp
      have htd : Tidy n (Dk.new s nought).kept := new_tidy n s
      have HO := open_any (n := n) hd1 (by omega) (by omega) (by rw [hkl]; omega) rfl rfl (fun t ht => by
        simp only [Dk.new, List.mem_replicate] at ht
        rw [ht.2]; exact nought_size) (by have : (Dk.new s nought).writes = 0 := rfl; omega)
      rw [rec_tidy htd] at HO
      have HO : Calls Try.prog 10 #[.pointer (some ⟨g, 0, none⟩), .int .i64 (n : Int)] w1 fun e w' => e = .returned (.tuple #[.pointer (some ⟨w1.heap.size, 0, none⟩), .int .i64 0]) ∧ Jat w' w1.heap.size g n ∧ ∃ S', DiskIs w' S' g (Dk.new s nought) ∧ Upd (fresh w w1) w1 w' ∧ (∀ x, S' x → fresh w w1 x ∨ w1.heap.size ≤ x) ∧ ¬ S' w1.heap.size := HO
      have k0 : ((nd : Int) == 0) = false := by rw [beq_eq_false_iff_ne]; omega
      have k1 : ¬ s < nd := by omega
      have HB1 : Hid (Below w.heap.size w w1) := hb1
      clear hsm hn1 hnd htd HND hb1 hd1
      go_wp2_with fail
      refine HO.mono ?_
      rintro e w2 ⟨rfl, hj2, S2, hd2, hu2, hs2, hnj2⟩
      have HB2 : Hid (Below w.heap.size w w2) := HB1.out.trans (hu2.below HB1.out.size (fun k hk => hk.1))
      have HP := pages_any hj2
      have HW := writes_any hd2
      have hw0 : (Dk.new s nought).writes = 0 := rfl
      rw [hw0] at HW
      clear HO hd2 hu2 hs2 hnj2 HB1 hw0 hj2
      go_wp2_with (first | (go_at_call 8; refine (HR.out _).mono ?_; rintro e V1 ⟨rfl, hV⟩; subst V1) | (go_at_call 11; refine HP.mono ?_; rintro e V1 ⟨rfl, hV⟩; subst V1) | (go_at_call 15; refine HW.mono ?_; rintro e V1 ⟨rfl, hV⟩; subst V1))
      refine (HLV.out _ HB2.out).mono ?_
      rintro e w9 ⟨rfl, hb9⟩
      go_wp2
      go_ret
      exact ⟨rfl, hb9⟩

set_option linter.unusedVariables false in
set_option maxRecDepth 100000 in
theorem lifted (os : _root_.Go.Os) (started : os.Started) (H : Type) (enc : TypeId × Value → H) :
    ReturnsInHanded {} Try.checked os 3 .any (Rows.journalOpensSpec.pre6 enc Try.prog Try.f3 Rows.journalOpensRow.domain false) (Rows.journalOpensSpec.post enc Try.prog Try.f3 false true false false) := by
  refine returnsInHanded_of_change (C := Try.checked) own started (by kernel_rfl) Try.func3
    (ChangeSpec.witness6 (enc := enc) (C := Try.checked) false ⟨#[], #[.int .i64 0, .int .i64 0], []⟩ 8 (by kernel_rfl) (by kernel_rfl) (by kernel_rfl) (by kernel_rfl)) ?_
  intro W base args ds gs before hval0 hW hcnd _
  have hval : ∀ (j : Nat) t v, Try.f3.params[j]? = some t → args[j]? = some v → Value.okWide Try.prog W .any base t v := hval0
  have hW' := hW
  obtain ⟨p, q, hA0, hV, rfl, hfz, hnd⟩ := hW
  have hA : DataW.TrodAll enc Try.prog W 0 (fun _ => true) true Try.f3.params.toList args.toList ds p := hA0
  rw [Try.params3] at hA hval
  obtain ⟨v0, vs0, d0, ds0, p0, q0, hargs, rfl, rfl, h0, r0⟩ := trodAll_cons hA
  obtain ⟨v1, vs1, d1, ds1, p1, q1, rfl, rfl, rfl, h1, r1⟩ := trodAll_cons r0
  obtain ⟨rfl, rfl, rfl⟩ := trodAll_nil r1
  obtain rfl : args = #[v0, v1] := by cases args; simp_all
  obtain ⟨rfl, rfl⟩ := trodVars_none hV
  obtain ⟨x0, rfl, rfl, rfl, w0⟩ := open_int Try.underlying3 (hval 0 3 v0 rfl rfl) h0
  obtain ⟨x1, rfl, rfl, rfl, w1⟩ := open_int Try.underlying3 (hval 1 3 v1 rfl rfl) h1
  clear hA0 hval0
  refine (walk x0 (wf_i64 w0) x1 (wf_i64 w1) W ).mono fun e W' ⟨he, bel⟩ => ?_
  subst he
  exact ⟨_, rfl, _, _, _, [], _, [], hW', trodAll_mk1 (shut_bool Try.underlying4 _), (trodAll_cons_mk (shut_int Try.underlying3 w0) (trodAll_cons_mk (shut_int Try.underlying3 w1) trodAll_mk0)), rfl, bel.frame _, fun h => by cases h⟩

theorem over : Rows.journalOpensRow.holds Try.pinned (OpenSpec.ofChange Rows.journalOpensSpec) :=
  OpenClaim.holds_of_wide 3 Try.f3 rfl rfl rfl rfl rfl rfl rfl ⟨rfl, rfl, rfl, rfl, rfl⟩ rfl rfl rfl rfl rfl (by kernel_rfl) Try.func3 (by kernel_rfl)
    (of_decide_eq_true (by kernel_rfl)) (by unfold Func.isWrapper; first | (rw [if_pos (by decide +kernel)]; kernel_rfl) | (rw [if_neg (by decide +kernel)]; exact ⟨rfl, rfl⟩))
    (fun os started H enc _ => lifted os started H enc)

end Go.Proofs.Ytaacedaehbaodaa.journalOpens
namespace Go.Proofs.Ytaacedaehbaodaa
/-- The given statement. -/
theorem journalOpens_holds : Rows.JournalOpensSaid := journalOpens.over
#print axioms journalOpens_holds
end Go.Proofs.Ytaacedaehbaodaa
