/- Proved: for every key, label and two numbers, the law MacBegins returns true; where the package's two tables begin as the program's text lays them. -/
import Derived.Test.YtdchaecfinfomaaDoorDB
import Derived.Test.YtdchaecfinfomaaDoorEB0
import Derived.Test.YtdchaecfinfomaaDoorCards
import Derived.Test.YtdchaecfinfomaaDoorTie
import Derived.WalkKit
import Derived.ProofKit
import Derived.OpenShut
import Derived.ShutString
import Derived.ChangeOld
import Derived.Below
import Derived.LaidMore
import Derived.Stop.Joined
import Derived.SevenTiedAt
namespace Go.Proofs.YtdchaecfinfomaaDoor.macBegins
open Go.ChangeShapes Go.WideShapes Go.ChangeAt Go.WideMaps Go.WideElems Go.RowKit
open Go.ChangeMaps (open_string shut_string)

set_option maxRecDepth 100000 in
set_option maxHeartbeats 2000000 in
theorem walk (s0 : ByteArray) (z0 : s0.size ≤ 140737488351232) (s1 : ByteArray) (z1 : s1.size ≤ 140737488351232) (x2 y2 : Int) (z2 : -9223372036854775808 ≤ x2 ∧ x2 ≤ 9223372036854775807) (u2 : -9223372036854775808 ≤ y2 ∧ y2 ≤ 9223372036854775807) (w : World)  (hL : Laid w) :
    Calls Tryd.prog 7 #[.string s0, .string s1, .agg #[.int .i64 x2, .int .i64 y2]] w fun e w' => e = .returned (.bool true) ∧ Below w.heap.size w w' := by
  obtain ⟨V, hV⟩ : ∃ V, V = ((w.alloc (.cells #[.int .i64 x2, .int .i64 y2] 35)).alloc (.cells #[.string s0, .string s1] 9)) := ⟨_, rfl⟩
  have hs0 : (w.alloc (.cells #[.int .i64 x2, .int .i64 y2] 35)).heap.size = w.heap.size + 1 := by simp
  have hs1 : V.heap.size = w.heap.size + 2 := by rw [hV]; simp
  have HB0 : Below w.heap.size w (w.alloc (.cells #[.int .i64 x2, .int .i64 y2] 35)) := (Below.refl _ w).alloc (Nat.le_refl _) _
  have HBV : Hid (Below w.heap.size w V) := by rw [hV]; exact HB0.alloc (by rw [hs0]; omega) _
  have hrow : V.heap[w.heap.size]? = some (.cells #[.int .i64 x2, .int .i64 y2] 35 (0, 0)) := by rw [hV, Go.heap_alloc_old _ _ (by rw [hs0]; omega)]; exact heap_alloc_new _ _
  have HCL : Hid (∀ W, Below V.heap.size V W → W.cell? ⟨w.heap.size, 0, none⟩ = some (.int .i64 x2) ∧ W.cell? ⟨w.heap.size, 1, none⟩ = some (.int .i64 y2)) := by
    intro W hW
    constructor
    · rw [hW.cell (by show w.heap.size < V.heap.size; omega), cell_of_row V w.heap.size 0 _ _ _ hrow]; rfl
    · rw [hW.cell (by show w.heap.size < V.heap.size; omega), cell_of_row V w.heap.size 1 _ _ _ hrow]; rfl
  have HLV : Hid (∀ W, Below V.heap.size V W → Calls Tryd.prog 10 #[] W fun e w' => e = .returned (.bool true) ∧ Below w.heap.size w w') := by
    intro W hW
    have hB := HBV.out.trans (hW.mono (by omega))
    refine (lives_any W (hL.below hB)).mono ?_
    rintro e w' ⟨rfl, hb⟩
    exact ⟨rfl, hB.trans (hb.mono hB.size)⟩
  have HSM := small_any 2 2 _ _ _ (Ss.two (w.alloc (.cells #[.int .i64 x2, .int .i64 y2] 35)) s0 s1) (fun i h => by
    match i, h with
    | 0, _ => exact z0
    | 1, _ => exact z1)
  rw [hs0, ← hV] at HSM
  have c0 := (HCL.out V (Below.refl _ _)).1
  have c1 := (HCL.out V (Below.refl _ _)).2
  by_cases hT : tot [s0, s1] ≤ 3000
  case neg =>
    rw [show decide (2 ≤ 20 ∧ tot [s0, s1] ≤ 3000) = false by simp [hT]] at HSM
    clear hT
    rw [hV] at HSM HLV c0 c1
    clear hL hrow hV HBV HCL hs1 HB0 hs0
    go_enter Tryd.func7, Tryd.ntmps7
    go_wp2_with fail
    refine HSM.mono ?_
    rintro e w2 ⟨rfl, hw2⟩
    subst w2
    clear HSM
    go_wp2_with fail
    refine (HLV.out _ (Below.refl _ _)).mono ?_
    rintro e w3 ⟨rfl, hB3⟩
    go_wp2
    go_ret
    exact ⟨rfl, hB3⟩
  rw [show decide (2 ≤ 20 ∧ tot [s0, s1] ≤ 3000) = true by simp [hT]] at HSM
  have hTs : s0.size + s1.size ≤ 3000 := by simpa [tot] using hT
  clear hT
  by_cases q0 : x2 < 0
  · clear hTs
    rw [hV] at HSM HLV c0 c1
    clear hL hrow hV HBV HCL hs1 HB0 hs0
    go_enter Tryd.func7, Tryd.ntmps7
    go_wp2_with fail
    refine HSM.mono ?_
    rintro e w2 ⟨rfl, hw2⟩
    subst w2
    clear HSM
    go_wp2_with fail
    refine (HLV.out _ (Below.refl _ _)).mono ?_
    rintro e w3 ⟨rfl, hB3⟩
    go_wp2
    go_ret
    exact ⟨rfl, hB3⟩
  by_cases q1 : y2 < x2
  · clear hTs
    rw [hV] at HSM HLV c0 c1
    clear hL hrow hV HBV HCL hs1 HB0 hs0
    go_enter Tryd.func7, Tryd.ntmps7
    go_wp2_with fail
    refine HSM.mono ?_
    rintro e w2 ⟨rfl, hw2⟩
    subst w2
    clear HSM
    go_wp2_with fail
    refine (HLV.out _ (Below.refl _ _)).mono ?_
    rintro e w3 ⟨rfl, hB3⟩
    go_wp2
    go_ret
    exact ⟨rfl, hB3⟩
  by_cases q2 : 2000 < y2
  · clear hTs
    rw [hV] at HSM HLV c0 c1
    clear hL hrow hV HBV HCL hs1 HB0 hs0
    go_enter Tryd.func7, Tryd.ntmps7
    go_wp2_with fail
    refine HSM.mono ?_
    rintro e w2 ⟨rfl, hw2⟩
    subst w2
    clear HSM
    go_wp2_with fail
    refine (HLV.out _ (Below.refl _ _)).mono ?_
    rintro e w3 ⟨rfl, hB3⟩
    go_wp2
    go_ret
    exact ⟨rfl, hB3⟩
  · obtain ⟨n, hn⟩ : ∃ n : Nat, (n : Int) = x2 := ⟨x2.toNat, by omega⟩
    obtain ⟨m, hm⟩ : ∃ m : Nat, (m : Int) = y2 := ⟨y2.toNat, by omega⟩
    subst hn hm
    obtain ⟨D, hD⟩ : ∃ D, strOf (derived s0.data.toList s1.data.toList n) = D := ⟨_, rfl⟩
    obtain ⟨E, hE⟩ : ∃ E, strOf (derived s0.data.toList s1.data.toList m) = E := ⟨_, rfl⟩
    have hDs : D.size = n := by rw [← hD, strOf_size, derived_len _ _ _ (by omega)]
    have hEs : E.size = m := by rw [← hE, strOf_size, derived_len _ _ _ (by omega)]
    have hex : E.extract 0 n = D := by rw [← hE, ← hD, strOf_upto, derived_take _ _ _ _ (by omega)]
    have HD1 : Hid (∀ W, Below V.heap.size V W → Calls Tryd.prog 14 #[.string s0, .string s1, .int .i64 (n : Int)] W fun e w' => e = .returned (.tuple #[.string D, .int .i64 0]) ∧ Below V.heap.size V w') := by
      intro W hW
      rw [← hD]
      refine (derive_any s0 s1 n W (by omega) (by omega) (by omega) ((hL.below HBV.out).below hW)).mono ?_
      rintro e w' ⟨rfl, hb⟩
      exact ⟨rfl, hW.trans (hb.mono hW.size)⟩
    have HD2 : Hid (∀ W, Below V.heap.size V W → Calls Tryd.prog 14 #[.string s0, .string s1, .int .i64 (m : Int)] W fun e w' => e = .returned (.tuple #[.string E, .int .i64 0]) ∧ Below V.heap.size V w') := by
      intro W hW
      rw [← hE]
      refine (derive_any s0 s1 m W (by omega) (by omega) (by omega) ((hL.below HBV.out).below hW)).mono ?_
      rintro e w' ⟨rfl, hb⟩
      exact ⟨rfl, hW.trans (hb.mono hW.size)⟩
    have kmn : (n : Int) ≤ (m : Int) := by omega
    have HD1' := HD1.out V (Below.refl _ _)
    rw [hV] at HSM HLV c0 c1 HCL HD1' HD2
    clear hL hrow hV HBV hs1 HB0 hs0 hD hE hTs HD1
    go_enter Tryd.func7, Tryd.ntmps7
    go_wp2_with fail
    refine HSM.mono ?_
    rintro e w2 ⟨rfl, hw2⟩
    subst w2
    clear HSM
    go_wp2_with fail
    refine (HD1').mono ?_
    rintro e w3 ⟨rfl, hB3⟩
    have c30 := (HCL.out w3 hB3).1
    have c31 := (HCL.out w3 hB3).2
    have HR3 := HD2.out w3 hB3
    go_wp2_with fail
    refine (HR3).mono ?_
    rintro e w4 ⟨rfl, hB4⟩
    have c40 := (HCL.out w4 hB4).1
    have c41 := (HCL.out w4 hB4).2
    have HL4 := HLV.out w4 hB4
    go_wp2_with fail
    refine (HL4).mono ?_
    rintro e w5 ⟨rfl, hB5⟩
    go_wp2
    go_ret
    exact ⟨rfl, hB5⟩

set_option linter.unusedVariables false in
set_option maxRecDepth 100000 in
theorem lifted (os : Os) (started : os.Started) (H : Type) (enc : TypeId × Value → H) :
    ReturnsInHanded {} Tryd.checked os 7 .any (fun w args => (Rows.macBeginsSpec.pre enc Tryd.prog Tryd.f7 [] false w args ∧ laidMetH Tryd.prog laid2 w) ∧ sizedMet enc Tryd.prog Tryd.f7 (OpenSpec.ofChange Rows.macBeginsSpec) false w args) (Rows.macBeginsSpec.post enc Tryd.prog Tryd.f7 false true false false) := by
  refine returnsInHanded_of_change_and (C := Tryd.checked) (X := fun w _ => laidMetH Tryd.prog laid2 w) (fun _ _ _ hh h => h.of_heap hh) own started (by kernel_rfl) Tryd.func7
    (ChangeSpec.witness_shaped (enc := enc) (C := Tryd.checked) (os := os) (X := fun w _ => laidMetH Tryd.prog laid2 w) false (World.doorLaid Tryd.prog 19 os) #[.string ByteArray.empty, .string ByteArray.empty, .agg #[.int .i64 0, .int .i64 0]] 8 rfl (World.shaped_of_RefB (by kernel_rfl) (by kernel_rfl)) (by kernel_rfl) (by kernel_rfl) (by kernel_rfl) (door_met os _)) ?_
  intro W base args ds gs before hval0 hW _ hsz0 hL _
  have hval : ∀ (j : Nat) t v, Tryd.f7.params[j]? = some t → args[j]? = some v → Value.okWide Tryd.prog W .any base t v := hval0
  have hsz : (DataW.weightsEach Tryd.prog (Tryd.f7.params.toList ++ Rows.macBeginsSpec.plain.varTypes Tryd.prog) (ds ++ gs)).all (· ≤ reachBytes) = true := hsz0
  have hW' := hW
  obtain ⟨p, q, hA0, hV, rfl, hfz, hnd⟩ := hW
  have hA : DataW.TrodAll enc Tryd.prog W 0 (fun _ => true) true Tryd.f7.params.toList args.toList ds p := hA0
  rw [Tryd.params7] at hA hval hsz
  obtain ⟨v0, vs0, d0, ds0, p0, q0, hargs, rfl, rfl, h0, r0⟩ := trodAll_cons hA
  obtain ⟨v1, vs1, d1, ds1, p1, q1, rfl, rfl, rfl, h1, r1⟩ := trodAll_cons r0
  obtain ⟨v2, vs2, d2, ds2, p2, q2, rfl, rfl, rfl, h2, r2⟩ := trodAll_cons r1
  obtain ⟨rfl, rfl, rfl⟩ := trodAll_nil r2
  obtain rfl : args = #[v0, v1, v2] := by cases args; simp_all
  obtain ⟨rfl, rfl⟩ := trodVars_none hV
  obtain ⟨s0, rfl, rfl, rfl, w0⟩ := open_string Tryd.underlying9 (hval 0 9 v0 rfl rfl) h0
  have z0 : s0.size ≤ 140737488351232 := by
    have := sized_string hsz (j := 0) (t := 9) rfl rfl
    simpa [reachBytes] using this
  obtain ⟨s1, rfl, rfl, rfl, w1⟩ := open_string Tryd.underlying9 (hval 1 9 v1 rfl rfl) h1
  have z1 : s1.size ≤ 140737488351232 := by
    have := sized_string hsz (j := 1) (t := 9) rfl rfl
    simpa [reachBytes] using this
  have k2 := h2
  have lt2 : ∀ x ∈ p2, x.block < W.heap.size := by obtain ⟨m, hm⟩ := k2; exact DataW.trod_lt m _ _ _ hm
  obtain ⟨x2, y2, rfl, w2, u2⟩ := ints2_of (hval 2 35 v2 rfl rfl) h2
  clear hA0 hval0 hsz hsz0
  refine (walk s0 z0 s1 z1 x2 y2 (wf_i64 w2) (wf_i64 u2) W  (of_laid hL)).mono fun e W' ⟨he, bel⟩ => ?_
  subst he
  exact ⟨_, rfl, _, _, _, [], _, [], hW', trodAll_mk1 (shut_bool Tryd.underlying4 _), (trodAll_cons_mk (shut_string Tryd.underlying9 w0) (trodAll_cons_mk (shut_string Tryd.underlying9 w1) (trodAll_cons_mk (Below.trod laidOut (by kernel_rfl) (of_decide_eq_true (by kernel_rfl)) k2 bel lt2) trodAll_mk0))), rfl, bel.frame _, fun h => by cases h⟩

theorem over : Rows.macBeginsRow.holds Tryd.pinned (OpenSpec.ofChange Rows.macBeginsSpec) :=
  OpenClaim.holds_of_wide 7 Tryd.f7 rfl rfl rfl rfl rfl rfl rfl ⟨rfl, rfl, rfl, rfl, rfl⟩ rfl rfl rfl rfl rfl (by kernel_rfl) Tryd.func7 (by kernel_rfl)
    (of_decide_eq_true (by kernel_rfl)) (by unfold Func.isWrapper; first | (rw [if_pos (by decide +kernel)]; kernel_rfl) | (rw [if_neg (by decide +kernel)]; exact ⟨rfl, rfl⟩))
    (fun os started H enc _ => lifted os started H enc)

end Go.Proofs.YtdchaecfinfomaaDoor.macBegins
namespace Go.Proofs.YtdchaecfinfomaaDoor
/-- The given statement. -/
theorem macBegins_holds : Rows.MacBeginsCardSaid :=
  Claim7.holds_tied_plain_at .later [] [.data, .data] true (true, "c658b8018e16d1ca0ab3317147dca27a9dd2439dcb40cbecf31092fcc5f8289c") false
    macBegins.over (fun _ h => by cases h) (by kernel_rfl) (fun _ h => by cases h) macBegins_row_tie rfl ⟨rfl, rfl⟩ (by kernel_rfl) rfl
    (fun f fn hf hfn => by
      obtain rfl : f = 7 := Option.some.inj ((show Tryd.prog.funcNamed "strongroom/strongroomlaw03.MacBegins" = some 7 by kernel_rfl).symm.trans hf) |>.symm
      obtain rfl : fn = Tryd.f7 := (Option.some.inj (Tryd.func7.symm.trans hfn)).symm
      exact ⟨by kernel_rfl, fun j t ht => by
        rw [Tryd.params7] at ht
        rcases j with _ | _ | _ | j
        · obtain rfl : t = 9 := by simpa using ht.symm
          exact (show Tryd.prog.wantsStandIn 9 = false by kernel_rfl)
        · obtain rfl : t = 9 := by simpa using ht.symm
          exact (show Tryd.prog.wantsStandIn 9 = false by kernel_rfl)
        · obtain rfl : t = 35 := by simpa using ht.symm
          exact (show Tryd.prog.wantsStandIn 35 = false by kernel_rfl)
        · simp at ht
      ⟩)
    (by kernel_rfl)
#print axioms macBegins_holds
end Go.Proofs.YtdchaecfinfomaaDoor
