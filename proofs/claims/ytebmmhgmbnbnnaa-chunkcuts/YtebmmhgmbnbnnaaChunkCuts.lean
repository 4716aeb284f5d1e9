/- Proved: for every text and m, the law ChunkCuts returns true, text and m as they were. No condition: every input that can be read as data. -/
import Derived.Test.YtebmmhgmbnbnnaaRows
import Derived.Test.YtebmmhgmbnbnnaaCN
import Derived.WalkKit
import Derived.ProofKit
import Derived.OpenShut
import Derived.ShutString
import Derived.ChangeOld
import Derived.SizedLaws
import Derived.Below
namespace Go.Proofs.Ytebmmhgmbnbnnaa.chunkCuts
open Go.ChangeShapes Go.WideShapes Go.ChangeAt Go.RowKit Ck
open Go.ChangeMaps (open_string shut_string)
theorem own : ownKnob Try.prog.godebug = none := by kernel_rfl
theorem laidOut : laidOutB Try.prog = true := by kernel_rfl

set_option maxRecDepth 100000 in
set_option maxHeartbeats 2000000 in
theorem walk (s0 : ByteArray) (_z0 : s0.size ≤ 140737488351232) (ma1 mb1 mc1 : Int) (w : World)  :
    Calls Try.prog 3 #[.string s0, .agg #[.int .i64 ma1, .int .i64 mb1, .int .i64 mc1]] w fun e w' => e = .returned (.bool true) ∧ Below w.heap.size w w' := by
  have HLV : Hid (∀ W, Below w.heap.size w W → Calls Try.prog 9 #[] W fun e w' => e = .returned (.bool true) ∧ Below w.heap.size w w') := by
    intro W hW
    refine (lives_any W).mono ?_
    rintro e w' ⟨rfl, hb⟩
    exact ⟨rfl, hW.trans (hb.mono hW.size)⟩
  obtain ⟨bs, hbs⟩ : ∃ bs, s0.data.toList = bs := ⟨_, rfl⟩
  have hs0 : strOf bs = s0 := by rw [← hbs]; exact strOf_of s0
  have hsz : s0.size = bs.length := by rw [← hs0, strOf_size]
  obtain ⟨B, hB⟩ : ∃ B, w.heap.size = B := ⟨_, rfl⟩
  obtain ⟨A, hA⟩ : ∃ A, w.alloc (.cells #[.int .i64 ma1, .int .i64 mb1, .int .i64 mc1] 23) = A := ⟨_, rfl⟩
  have hrowA : A.heap[B]? = some (.cells #[.int .i64 ma1, .int .i64 mb1, .int .i64 mc1] 23 (0, 0)) := by rw [← hA, ← hB]; exact heap_alloc_new w _
  have hbA : Below w.heap.size w A := by rw [← hA]; exact (Below.refl _ w).alloc (Nat.le_refl _) _
  have HMC : Hid (∀ V, Below A.heap.size A V → (V.cell? ⟨B, 0, none⟩ = some (.int .i64 ma1) ∧ V.cell? ⟨B, 1, none⟩ = some (.int .i64 mb1) ∧ V.cell? ⟨B, 2, none⟩ = some (.int .i64 mc1)) ∧ Below w.heap.size w V) := by
    intro V hV
    have hr := (hV.block _ (lt_of_some hrowA)).trans hrowA
    refine ⟨⟨?_, ?_, ?_⟩, hbA.trans (hV.mono hbA.size)⟩ <;> rw [cell_of_row _ _ _ _ _ _ hr] <;> rfl
  have HLA : Hid (∀ V, Below A.heap.size A V → Calls Try.prog 9 #[] V fun e w' => e = .returned (.bool true) ∧ Below w.heap.size w w') := fun V hV => HLV.out V (HMC.out V hV).2
  have HMY : Hid (∀ V, Below A.heap.size A V → Calls Try.prog 12 #[.agg #[.int .i64 ma1, .int .i64 mb1, .int .i64 mc1]] V fun e w' => e = .returned (.bool (mayI ma1 mb1 mc1)) ∧ Below A.heap.size A w') := by
    intro V hV
    refine (may_any _ _ _ V).mono ?_
    rintro e w' ⟨rfl, hb⟩
    exact ⟨rfl, hV.trans (hb.mono hV.size)⟩
  have hAA : Below A.heap.size A A := Below.refl _ _
  have HA0 : Hid (Below A.heap.size A A) := hAA
  by_cases h5 : 3000 < s0.size
  · have kk : (3000 : Int) < (s0.size : Int) := by omega
    clear hbs hs0 hsz hrowA hbA hAA
    go_enter Try.func3, Try.ntmps3
    go_wp2_with (go_at_call 9; refine (HLA.out _ HA0.out).mono ?_; rintro e w' ⟨rfl, hb⟩)
    go_ret
    exact ⟨rfl, hb⟩
  have kk : ¬ (3000 : Int) < (s0.size : Int) := by omega
  obtain ⟨R, hR⟩ : ∃ R, mayI ma1 mb1 mc1 = R := ⟨_, rfl⟩
  cases R with
  | false =>
    have HCU : Hid (∀ V, Below A.heap.size A V → Calls Try.prog 10 #[.string s0, .agg #[.int .i64 ma1, .int .i64 mb1, .int .i64 mc1]] V fun e w' => e = .returned (.tuple #[.slice none 0 0, .int .i64 1]) ∧ Below A.heap.size A w') := by
      intro V hV
      refine (cut_no ma1 mb1 mc1 s0 V hR).mono ?_
      rintro e w' ⟨rfl, hb⟩
      exact ⟨rfl, hV.trans (hb.mono hV.size)⟩
    have HNW : Hid (∀ V, Below A.heap.size A V → Calls Try.prog 11 #[.agg #[.int .i64 ma1, .int .i64 mb1, .int .i64 mc1]] V fun e w' => e = .returned (.tuple #[.pointer none, .int .i64 1]) ∧ Below A.heap.size A w') := by
      intro V hV
      refine (new_no ma1 mb1 mc1 V hR).mono ?_
      rintro e w' ⟨rfl, hb⟩
      exact ⟨rfl, hV.trans (hb.mono hV.size)⟩
    rw [hR] at HMY
    clear hbs hs0 hsz hrowA hbA hAA hR h5
    obtain ⟨y0, y1, y2⟩ := (HMC.out A HA0.out).1
    go_enter Try.func3, Try.ntmps3
    go_wp2_with fail
    refine (HCU.out _ HA0.out).mono ?_
    clear y0 y1 y2
    rintro e V1 ⟨rfl, hb1⟩
    obtain ⟨c0, c1, c2⟩ := (HMC.out V1 hb1).1
    have H1 : Hid (Below A.heap.size A V1) := hb1
    clear hb1
    go_wp2_with fail
    refine (HNW.out _ H1.out).mono ?_
    rintro e V2 ⟨rfl, hb2⟩
    obtain ⟨d0, d1, d2⟩ := (HMC.out V2 hb2).1
    have H2 : Hid (Below A.heap.size A V2) := hb2
    clear hb2 c0 c1 c2
    go_wp2_with fail
    refine (HMY.out _ H2.out).mono ?_
    rintro e V3 ⟨rfl, hb3⟩
    have H3 : Hid (Below A.heap.size A V3) := hb3
    clear hb3 d0 d1 d2
    go_wp2_with (go_at_call 9; refine (HLA.out _ H3.out).mono ?_; rintro e w' ⟨rfl, hb⟩)
    go_ret
    exact ⟨rfl, hb⟩
  | true =>
    obtain ⟨m, hm, rfl, rfl, rfl⟩ := ms_of hR
    have HCU : Hid (∀ V, Below A.heap.size A V → Calls Try.prog 10 #[.string s0, .agg #[.int .i64 (m.least : Int), .int .i64 (m.most : Int), .int .i64 (m.bits : Int)]] V fun e w' => ∃ a n c, e = .returned (.tuple #[.slice a n c, .int .i64 0]) ∧ Tw (fun _ => True) w' a n c ((cutL m bs).map strOf) ∧ Below A.heap.size A w') := by
      intro V hV
      rw [← hs0]
      refine (cut_yes m hm bs (by omega) V).mono ?_
      rintro e w' ⟨a, n, c, rfl, h1, h2⟩
      exact ⟨a, n, c, rfl, tw_of_own h1, hV.trans (h2.mono hV.size)⟩
    have HNW : Hid (∀ V, Below A.heap.size A V → Calls Try.prog 11 #[.agg #[.int .i64 (m.least : Int), .int .i64 (m.most : Int), .int .i64 (m.bits : Int)]] V fun e w' => ∃ g, e = .returned (.tuple #[.pointer (some ⟨g, 0, none⟩), .int .i64 0]) ∧ Below V.heap.size V w' ∧ Below A.heap.size A w') := by
      intro V hV
      refine (new_yes m hm V).mono ?_
      rintro e w' ⟨g, q, r, rfl, h1, h2, _⟩
      exact ⟨g, rfl, h2, hV.trans (h2.mono hV.size)⟩
    have HRC : Hid (∀ V, Below A.heap.size A V → Calls Try.prog 14 #[.string s0, .int .i64 (m.least : Int), .int .i64 (m.most : Int), .int .i64 (m.bits : Int)] V fun e w' => ∃ a n c, e = .returned (.slice a n c) ∧ Tw (fun _ => True) w' a n c ((cutL m bs).map strOf) ∧ Below V.heap.size V w' ∧ Below A.heap.size A w') := by
      intro V hV
      rw [← hs0]
      refine (refcut_any m hm bs (by omega) V).mono ?_
      rintro e w' ⟨a, n, c, rfl, h1, h2⟩
      exact ⟨a, n, c, rfl, tw_of_own h1, h2, hV.trans (h2.mono hV.size)⟩
    have HSM : Hid (∀ (V : World) (a b : Option Addr) (n c k d : Nat), Below A.heap.size A V → Tw (fun _ => True) V a n c ((cutL m bs).map strOf) → Tw (fun _ => True) V b k d ((cutL m bs).map strOf) → Calls Try.prog 13 #[.slice a n c, .slice b k d] V fun e w' => e = .returned (.bool true) ∧ Below A.heap.size A w') := by
      intro V a b n c k d hV h1 h2
      refine (same_any h1 h2).mono ?_
      rintro e w' ⟨rfl, hb⟩
      exact ⟨by simp, hV.trans (hb.mono hV.size)⟩
    generalize (cutL m bs).map strOf = L at HCU HRC HSM
    have HMY2 : Hid (∀ V, Below A.heap.size A V → Calls Try.prog 12 #[.agg #[.int .i64 (m.least : Int), .int .i64 (m.most : Int), .int .i64 (m.bits : Int)]] V fun e w' => e = .returned (.bool true) ∧ Below V.heap.size V w') := by
      intro V hV
      have := may_any (m.least : Int) (m.most : Int) (m.bits : Int) V
      rw [hR] at this
      exact this
    generalize (m.least : Int) = ma1 at *
    generalize (m.most : Int) = mb1 at *
    generalize (m.bits : Int) = mc1 at *
    clear hbs hs0 hsz hrowA hbA hAA hR hm h5 HMY
    obtain ⟨y0, y1, y2⟩ := (HMC.out A HA0.out).1
    go_enter Try.func3, Try.ntmps3
    go_wp2_with fail
    refine (HCU.out _ HA0.out).mono ?_
    clear y0 y1 y2
    rintro e V1 ⟨a, n, c, rfl, ht1, hb1⟩
    obtain ⟨c0, c1, c2⟩ := (HMC.out V1 hb1).1
    have H1 : Hid (Below A.heap.size A V1 ∧ Tw (fun _ => True) V1 a n c L) := ⟨hb1, ht1⟩
    clear hb1 ht1
    go_wp2_with fail
    refine (HNW.out _ H1.out.1).mono ?_
    rintro e V2 ⟨g, rfl, hv2, hb2⟩
    obtain ⟨d0, d1, d2⟩ := (HMC.out V2 hb2).1
    have H2 : Hid (Below A.heap.size A V2 ∧ Tw (fun _ => True) V2 a n c L) := ⟨hb2, H1.out.2.below hv2⟩
    clear hb2 hv2 c0 c1 c2
    go_wp2_with fail
    refine (HMY2.out _ H2.out.1).mono ?_
    rintro e V3 ⟨rfl, hv3⟩
    have hb3 : Below A.heap.size A V3 := H2.out.1.trans (hv3.mono H2.out.1.size)
    obtain ⟨e0, e1, e2⟩ := (HMC.out V3 hb3).1
    have H3 : Hid (Below A.heap.size A V3 ∧ Tw (fun _ => True) V3 a n c L) := ⟨hb3, H2.out.2.below hv3⟩
    clear hb3 hv3 d0 d1 d2
    go_wp2_with fail
    refine (HRC.out _ H3.out.1).mono ?_
    rintro e V4 ⟨a4, n4, c4, rfl, ht4, hv4, hb4⟩
    have HS4 : Hid (Calls Try.prog 13 #[.slice a n c, .slice a4 n4 c4] V4 fun e w' => e = .returned (.bool true) ∧ Below A.heap.size A w') := HSM.out V4 a a4 n c n4 c4 hb4 (H3.out.2.below hv4) ht4
    clear ht4 hv4 hb4 e0 e1 e2
    go_wp2_with fail
    refine HS4.out.mono ?_
    rintro e V5 ⟨rfl, hb5⟩
    have H5 : Hid (Below A.heap.size A V5) := hb5
    clear hb5
    go_wp2_with (go_at_call 9; refine (HLA.out _ H5.out).mono ?_; rintro e w' ⟨rfl, hb⟩)
    go_ret
    exact ⟨rfl, hb⟩

set_option linter.unusedVariables false in
set_option maxRecDepth 100000 in
theorem lifted (os : _root_.Go.Os) (started : os.Started) (H : Type) (enc : TypeId × Value → H) :
    ReturnsInHanded {} Try.checked os 3 .any (Rows.chunkCutsSpec.pre6 enc Try.prog Try.f3 Rows.chunkCutsRow.domain false) (Rows.chunkCutsSpec.post enc Try.prog Try.f3 false true false false) := by
  refine returnsInHanded_of_change_sized (C := Try.checked) own started (by kernel_rfl) Try.func3
    (ChangeSpec.witness6 (enc := enc) (C := Try.checked) false ⟨#[], #[.string ByteArray.empty, .agg #[.int .i64 0, .int .i64 0, .int .i64 0]], []⟩ 8 (by kernel_rfl) (by kernel_rfl) (by kernel_rfl) (by kernel_rfl)) ?_
  intro W base args ds gs before hval0 hW hcnd hsz0 _
  have hval : ∀ (j : Nat) t v, Try.f3.params[j]? = some t → args[j]? = some v → Value.okWide Try.prog W .any base t v := hval0
  have hsz : (DataW.weightsEach Try.prog (Try.f3.params.toList ++ Rows.chunkCutsSpec.plain.varTypes Try.prog) (ds ++ gs)).all (· ≤ reachBytes) = true := hsz0
  have hW' := hW
  obtain ⟨p, q, hA0, hV, rfl, hfz, hnd⟩ := hW
  have hA : DataW.TrodAll enc Try.prog W 0 (fun _ => true) true Try.f3.params.toList args.toList ds p := hA0
  rw [Try.params3] at hA hval hsz
  obtain ⟨v0, vs0, d0, ds0, p0, q0, hargs, rfl, rfl, h0, r0⟩ := trodAll_cons hA
  obtain ⟨v1, vs1, d1, ds1, p1, q1, rfl, rfl, rfl, h1, r1⟩ := trodAll_cons r0
  obtain ⟨rfl, rfl, rfl⟩ := trodAll_nil r1
  obtain rfl : args = #[v0, v1] := by cases args; simp_all
  obtain ⟨rfl, rfl⟩ := trodVars_none hV
  obtain ⟨s0, rfl, rfl, rfl, w0⟩ := open_string Try.underlying9 (hval 0 9 v0 rfl rfl) h0
  have z0 : s0.size ≤ 140737488351232 := by
    have := sized_string hsz (j := 0) (t := 9) rfl rfl
    simp [reachBytes] at this
    omega
  have k1 := h1
  have lt1 : ∀ x ∈ p1, x.block < W.heap.size := by obtain ⟨m, hm⟩ := k1; exact DataW.trod_lt m _ _ _ hm
  obtain ⟨ma1, mb1, mc1, rfl, za1, zb1, zc1⟩ := ms_arg (hval 1 23 v1 rfl rfl) h1
  clear hA0 hval0 hsz hsz0
  refine (walk s0 z0 ma1 mb1 mc1 W ).mono fun e W' ⟨he, bel⟩ => ?_
  subst he
  exact ⟨_, rfl, _, _, _, [], _, [], hW', trodAll_mk1 (shut_bool Try.underlying4 _), (trodAll_cons_mk (shut_string Try.underlying9 w0) (trodAll_cons_mk (Below.trod laidOut (by kernel_rfl) (of_decide_eq_true (by kernel_rfl)) k1 bel lt1) trodAll_mk0)), rfl, bel.frame _, fun h => by cases h⟩

theorem over : Rows.chunkCutsRow.holds Try.pinned (OpenSpec.ofChange Rows.chunkCutsSpec) :=
  OpenClaim.holds_of_wide 3 Try.f3 rfl rfl rfl rfl rfl rfl rfl ⟨rfl, rfl, rfl, rfl, rfl⟩ rfl rfl rfl rfl rfl (by kernel_rfl) Try.func3 (by kernel_rfl)
    (of_decide_eq_true (by kernel_rfl)) (by unfold Func.isWrapper; first | (rw [if_pos (by decide +kernel)]; kernel_rfl) | (rw [if_neg (by decide +kernel)]; exact ⟨rfl, rfl⟩))
    (fun os started H enc _ => lifted os started H enc)

end Go.Proofs.Ytebmmhgmbnbnnaa.chunkCuts
namespace Go.Proofs.Ytebmmhgmbnbnnaa
/-- The given statement. -/
theorem chunkCuts_holds : Rows.ChunkCutsSaid := chunkCuts.over
#print axioms chunkCuts_holds
end Go.Proofs.Ytebmmhgmbnbnnaa
