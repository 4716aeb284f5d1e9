/- Proved: for every secret, tenant and number the law CapMints returns true, the secret as it was; where the package's two tables begin as the program's text lays them. -/
import Derived.Test.YtcmdcmbiilfngaaDoorDB
import Derived.Test.YtcmdcmbiilfngaaDoorKR
import Derived.Test.YtcmdcmbiilfngaaDoorCards
import Derived.Test.YtcmdcmbiilfngaaDoorTie
import Derived.WalkKit
import Derived.ProofKit
import Derived.OpenShut
import Derived.ShutString
import Derived.ChangeOld
import Derived.Below
import Derived.LaidMore
import Derived.Stop.Joined
import Derived.SevenTiedAt
namespace Go.Proofs.YtcmdcmbiilfngaaDoor.capMints
open Go.ChangeShapes Go.WideShapes Go.ChangeAt Go.WideMaps Go.WideElems Go.RowKit
open Go.ChangeMaps (open_string shut_string)

set_option maxRecDepth 100000 in
set_option maxHeartbeats 2000000 in
theorem walk (s0 : ByteArray) (z0 : s0.size ≤ 140737488351232) (x1 : Int) (z1 : -9223372036854775808 ≤ x1 ∧ x1 ≤ 9223372036854775807) (x2 : Int) (z2 : -9223372036854775808 ≤ x2 ∧ x2 ≤ 9223372036854775807) (w : World)  (hL : Laid w) :
    Calls Tryd.prog 3 #[.string s0, .int .i64 x1, .int .i64 x2] w fun e w' => e = .returned (.bool true) ∧ Below w.heap.size w w' := by
  have HLV : Hid (∀ V, Below w.heap.size w V → Calls Tryd.prog 9 #[] V fun e w' => e = .returned (.bool true) ∧ Below w.heap.size w w') := fun V hV => (lives_any V (hL.below hV)).mono fun e w' h => ⟨h.1, hV.trans (h.2.mono hV.size)⟩
  by_cases h0 : 1000 < s0.size
  · have k0 : (1000 : Int) < (s0.size : Int) := by omega
    go_enter Tryd.func3, Tryd.ntmps3
    go_wp2_with fail
    refine (HLV.out _ (Below.refl _ _)).mono ?_
    rintro e VZ ⟨rfl, hbZ⟩
    go_wp2
    go_ret
    exact ⟨rfl, hbZ⟩
  · have k0 : ¬ (1000 : Int) < (s0.size : Int) := by omega
    have HM := mint_any s0 x1 x2 w (by omega) hL
    have HKN : Hid (∀ W, Calls Tryd.prog 11 #[.int .i64 x1, .int .i64 x2] W fun e w' => e = .returned (.bool (knownT x1 x2)) ∧ w' = W) := fun W => known_any x1 x2 W
    obtain ⟨⟨⟨t1, t2, t3, t4⟩, te⟩, hr⟩ : ∃ r, mintT s0.data.toList x1 x2 = r := ⟨_, rfl⟩
    rw [hr] at HM
    cases hk : knownT x1 x2 with
    | false =>
      rw [hk] at HKN
      have hz : mintT s0.data.toList x1 x2 = (zeroT, 1) := by unfold mintT; rw [if_neg (by rw [hk]; decide)]
      rw [hz] at hr
      have hr2 := Prod.mk.inj hr
      have ke : (te : Int) = 1 := by have := hr2.2; omega
      have HS : Hid (sameT ⟨t1, t2, t3, t4⟩ ⟨0, 0, [], ⟨#[]⟩⟩ = true) := by show _ = _; rw [← hr2.1]; exact sameT_self _
      clear hk hz hL hr hr2
      go_enter Tryd.func3, Tryd.ntmps3
      go_wp2_with fail
      refine HM.mono ?_
      rintro e V1 ⟨a1, n1, c1, rfl, ho1, hb1⟩
      simp only at ho1 ⊢
      obtain ⟨V2, hV2, r2, hb2⟩ := box_tk (w := V1) t1 t2 a1 n1 c1 t4
      obtain ⟨tb, htb⟩ : ∃ tb, V1.heap.size = tb := ⟨_, rfl⟩
      rw [htb] at r2
      have hB2 : Below w.heap.size w V2 := hb1.trans (hb2.mono hb1.size)
      have HK2 := HKN.out V2
      have HW : Hid (∀ W, Below V2.heap.size V2 W → (W.cell? ⟨tb, 0, none⟩ = some (.int .i64 t1) ∧ W.cell? ⟨tb, 1, none⟩ = some (.int .i64 t2) ∧ W.cell? ⟨tb, 2, none⟩ = some (.slice a1 n1 c1) ∧ W.cell? ⟨tb, 3, none⟩ = some (.string t4)) ∧ Kw W a1 n1 c1 t3) := fun W hW => by
        obtain ⟨e0, e1, e2, e3, _⟩ := row4 ((hW.block tb (lt_of_some r2)).trans r2)
        exact ⟨⟨e0, e1, e2, e3⟩, ((Kw.own ho1).below hb2).below hW⟩
      have H2 : Hid (Below w.heap.size w V2) := hB2
      obtain ⟨⟨y0, y1, y2, y3⟩, hk2⟩ := HW.out V2 (Below.refl _ _)
      clear HM ho1 hb1 r2 hb2 hB2
      go_wp2_with fail
      refine HK2.mono ?_
      rintro e V3 ⟨rfl, hV3⟩
      subst V3
      clear HK2
      have HSM := same_tk t1 t2 t4 0 0 ⟨#[]⟩ hk2 (Kw.nil V2)
      rw [HS.out] at HSM
      clear hk2
      go_wp2_with fail
      refine HSM.mono ?_
      rintro e V4 ⟨rfl, hb4⟩
      have HB : Hid (Below w.heap.size w V4) := H2.out.trans (hb4.mono H2.out.size)
      clear HSM hb4 y0 y1 y2 y3
      go_wp2_with fail
      refine (HLV.out _ (HB.out)).mono ?_
      rintro e VZ ⟨rfl, hbZ⟩
      go_wp2
      go_ret
      exact ⟨rfl, hbZ⟩
    | true =>
      rw [hk] at HKN
      have hki := known_iff.1 hk
      obtain ⟨tn, rfl⟩ : ∃ m : Nat, x1 = (m : Int) := ⟨x1.toNat, by omega⟩
      obtain ⟨nn, rfl⟩ : ∃ m : Nat, x2 = (m : Int) := ⟨x2.toNat, by omega⟩
      obtain ⟨Z, hZ⟩ : ∃ Z, strOf (sealT s0.data.toList (tn : Int) (nn : Int) []) = Z := ⟨_, rfl⟩
      have hz : mintT s0.data.toList (tn : Int) (nn : Int) = (⟨(tn : Int), (nn : Int), [], Z⟩, 0) := by unfold mintT; rw [if_pos hk, hZ]
      rw [hz] at hr
      have hr2 := Prod.mk.inj hr
      have ke : (te : Int) = 0 := by have := hr2.2; omega
      have HS : Hid (sameT ⟨t1, t2, t3, t4⟩ ⟨(tn : Int), (nn : Int), [], Z⟩ = true) := by show _ = _; rw [← hr2.1]; exact sameT_self _
      have HSE : Hid (∀ W, Calls Tryd.prog 13 #[.string s0, .int .i64 (tn : Int), .int .i64 (nn : Int), .slice none 0 0] W fun e w' => e = .returned (.string Z) ∧ Below W.heap.size W w') := fun W => by
        have h5 := rseal_any s0 tn nn W (Kw.nil W) (by omega) (by omega) (fun c hc => by cases hc) (by omega) (by omega)
        unfold StTo at h5
        rw [hZ] at h5
        exact h5
      clear hk hki hz hL hr hr2 hZ
      go_enter Tryd.func3, Tryd.ntmps3
      go_wp2_with fail
      refine HM.mono ?_
      rintro e V1 ⟨a1, n1, c1, rfl, ho1, hb1⟩
      simp only at ho1 ⊢
      obtain ⟨V2, hV2, r2, hb2⟩ := box_tk (w := V1) t1 t2 a1 n1 c1 t4
      obtain ⟨tb, htb⟩ : ∃ tb, V1.heap.size = tb := ⟨_, rfl⟩
      rw [htb] at r2
      have hB2 : Below w.heap.size w V2 := hb1.trans (hb2.mono hb1.size)
      have HK2 := HKN.out V2
      have HW : Hid (∀ W, Below V2.heap.size V2 W → (W.cell? ⟨tb, 0, none⟩ = some (.int .i64 t1) ∧ W.cell? ⟨tb, 1, none⟩ = some (.int .i64 t2) ∧ W.cell? ⟨tb, 2, none⟩ = some (.slice a1 n1 c1) ∧ W.cell? ⟨tb, 3, none⟩ = some (.string t4)) ∧ Kw W a1 n1 c1 t3) := fun W hW => by
        obtain ⟨e0, e1, e2, e3, _⟩ := row4 ((hW.block tb (lt_of_some r2)).trans r2)
        exact ⟨⟨e0, e1, e2, e3⟩, ((Kw.own ho1).below hb2).below hW⟩
      have H2 : Hid (Below w.heap.size w V2) := hB2
      obtain ⟨⟨y0, y1, y2, y3⟩, hk2⟩ := HW.out V2 (Below.refl _ _)
      clear HM ho1 hb1 r2 hb2 hB2
      go_wp2_with fail
      refine HK2.mono ?_
      rintro e V3 ⟨rfl, hV3⟩
      subst V3
      clear HK2
      have HS2 := HSE.out V2
      clear hk2 y0 y1 y2 y3
      go_wp2_with fail
      refine HS2.mono ?_
      rintro e V3 ⟨rfl, hb3⟩
      obtain ⟨V4, hV4, r4, hb4⟩ := box_tk (w := V3) (tn : Int) (nn : Int) none 0 0 Z
      obtain ⟨ub, hub⟩ : ∃ ub, V3.heap.size = ub := ⟨_, rfl⟩
      rw [hub] at r4
      have hB4 : Below V2.heap.size V2 V4 := hb3.trans (hb4.mono hb3.size)
      obtain ⟨⟨y0, y1, y2, y3⟩, hk4⟩ := HW.out V4 hB4
      obtain ⟨u0, u1, u2, u3, _⟩ := row4 r4
      have HSM := same_tk t1 t2 t4 (tn : Int) (nn : Int) Z hk4 (Kw.nil V4)
      rw [HS.out] at HSM
      have H4 : Hid (Below w.heap.size w V4) := H2.out.trans (hB4.mono H2.out.size)
      clear HS2 hb3 r4 hb4 hB4 hk4
      go_wp2_with fail
      refine HSM.mono ?_
      rintro e V5 ⟨rfl, hb5⟩
      have HB : Hid (Below w.heap.size w V5) := H4.out.trans (hb5.mono H4.out.size)
      clear HSM hb5 y0 y1 y2 y3 u0 u1 u2 u3
      go_wp2_with fail
      refine (HLV.out _ (HB.out)).mono ?_
      rintro e VZ ⟨rfl, hbZ⟩
      go_wp2
      go_ret
      exact ⟨rfl, hbZ⟩

set_option linter.unusedVariables false in
set_option maxRecDepth 100000 in
theorem lifted (os : Os) (started : os.Started) (H : Type) (enc : TypeId × Value → H) :
    ReturnsInHanded {} Tryd.checked os 3 .any (fun w args => (Rows.capMintsSpec.pre enc Tryd.prog Tryd.f3 [] false w args ∧ laidMetH Tryd.prog laid2 w) ∧ sizedMet enc Tryd.prog Tryd.f3 (OpenSpec.ofChange Rows.capMintsSpec) false w args) (Rows.capMintsSpec.post enc Tryd.prog Tryd.f3 false true false false) := by
  refine returnsInHanded_of_change_and (C := Tryd.checked) (X := fun w _ => laidMetH Tryd.prog laid2 w) (fun _ _ _ hh h => h.of_heap hh) own started (by kernel_rfl) Tryd.func3
    (ChangeSpec.witness_shaped (enc := enc) (C := Tryd.checked) (os := os) (X := fun w _ => laidMetH Tryd.prog laid2 w) false (World.doorLaid Tryd.prog 19 os) #[.string ByteArray.empty, .int .i64 0, .int .i64 0] 8 rfl (World.shaped_of_RefB (by kernel_rfl) (by kernel_rfl)) (by kernel_rfl) (by kernel_rfl) (by kernel_rfl) (door_met os _)) ?_
  intro W base args ds gs before hval0 hW _ hsz0 hL _
  have hval : ∀ (j : Nat) t v, Tryd.f3.params[j]? = some t → args[j]? = some v → Value.okWide Tryd.prog W .any base t v := hval0
  have hsz : (DataW.weightsEach Tryd.prog (Tryd.f3.params.toList ++ Rows.capMintsSpec.plain.varTypes Tryd.prog) (ds ++ gs)).all (· ≤ reachBytes) = true := hsz0
  have hW' := hW
  obtain ⟨p, q, hA0, hV, rfl, hfz, hnd⟩ := hW
  have hA : DataW.TrodAll enc Tryd.prog W 0 (fun _ => true) true Tryd.f3.params.toList args.toList ds p := hA0
  rw [Tryd.params3] at hA hval hsz
  obtain ⟨v0, vs0, d0, ds0, p0, q0, hargs, rfl, rfl, h0, r0⟩ := trodAll_cons hA
  obtain ⟨v1, vs1, d1, ds1, p1, q1, rfl, rfl, rfl, h1, r1⟩ := trodAll_cons r0
  obtain ⟨v2, vs2, d2, ds2, p2, q2, rfl, rfl, rfl, h2, r2⟩ := trodAll_cons r1
  obtain ⟨rfl, rfl, rfl⟩ := trodAll_nil r2
  obtain rfl : args = #[v0, v1, v2] := by cases args; simp_all
  obtain ⟨rfl, rfl⟩ := trodVars_none hV
  obtain ⟨s0, rfl, rfl, rfl, w0⟩ := open_string Tryd.underlying9 (hval 0 9 v0 rfl rfl) h0
  have z0 : s0.size ≤ 140737488351232 := by
    have := sized_string hsz (j := 0) (t := 9) rfl rfl
    simpa [reachBytes] using this
  obtain ⟨x1, rfl, rfl, rfl, w1⟩ := open_int Tryd.underlying3 (hval 1 3 v1 rfl rfl) h1
  obtain ⟨x2, rfl, rfl, rfl, w2⟩ := open_int Tryd.underlying3 (hval 2 3 v2 rfl rfl) h2
  clear hA0 hval0 hsz hsz0
  refine (walk s0 z0 x1 (wf_i64 w1) x2 (wf_i64 w2) W  (of_laid hL)).mono fun e W' ⟨he, bel⟩ => ?_
  subst he
  exact ⟨_, rfl, _, _, _, [], _, [], hW', trodAll_mk1 (shut_bool Tryd.underlying4 _), (trodAll_cons_mk (shut_string Tryd.underlying9 w0) (trodAll_cons_mk (shut_int Tryd.underlying3 w1) (trodAll_cons_mk (shut_int Tryd.underlying3 w2) trodAll_mk0))), rfl, bel.frame _, fun h => by cases h⟩

theorem over : Rows.capMintsRow.holds Tryd.pinned (OpenSpec.ofChange Rows.capMintsSpec) :=
  OpenClaim.holds_of_wide 3 Tryd.f3 rfl rfl rfl rfl rfl rfl rfl ⟨rfl, rfl, rfl, rfl, rfl⟩ rfl rfl rfl rfl rfl (by kernel_rfl) Tryd.func3 (by kernel_rfl)
    (of_decide_eq_true (by kernel_rfl)) (by unfold Func.isWrapper; first | (rw [if_pos (by decide +kernel)]; kernel_rfl) | (rw [if_neg (by decide +kernel)]; exact ⟨rfl, rfl⟩))
    (fun os started H enc _ => lifted os started H enc)

end Go.Proofs.YtcmdcmbiilfngaaDoor.capMints
namespace Go.Proofs.YtcmdcmbiilfngaaDoor
/-- The given statement. -/
theorem capMints_holds : Rows.CapMintsCardSaid :=
  Claim7.holds_tied_plain_at .later [] [.data, .data] true (true, "b19a03ae824dc2f6810aeb81173081118005215afdce10c70f77b3db14f8911f") false
    capMints.over (fun _ h => by cases h) (by kernel_rfl) (fun _ h => by cases h) capMints_row_tie rfl ⟨rfl, rfl⟩ (by kernel_rfl) rfl
    (fun f fn hf hfn => by
      obtain rfl : f = 3 := Option.some.inj ((show Tryd.prog.funcNamed "strongroom/strongroomlaw12.CapMints" = some 3 by kernel_rfl).symm.trans hf) |>.symm
      obtain rfl : fn = Tryd.f3 := (Option.some.inj (Tryd.func3.symm.trans hfn)).symm
      exact ⟨by kernel_rfl, fun j t ht => by
        rw [Tryd.params3] at ht
        rcases j with _ | _ | _ | j
        · obtain rfl : t = 9 := by simpa using ht.symm
          exact (show Tryd.prog.wantsStandIn 9 = false by kernel_rfl)
        · obtain rfl : t = 3 := by simpa using ht.symm
          exact (show Tryd.prog.wantsStandIn 3 = false by kernel_rfl)
        · obtain rfl : t = 3 := by simpa using ht.symm
          exact (show Tryd.prog.wantsStandIn 3 = false by kernel_rfl)
        · simp at ht
      ⟩)
    (by kernel_rfl)
#print axioms capMints_holds
end Go.Proofs.YtcmdcmbiilfngaaDoor
