/- The law of the signatures of a text's blocks. -/
import Derived.Test.YthmikfkdjnidmaaDoorGF
import Derived.Test.YthmikfkdjnidmaaDoorCards
import Derived.Test.YthmikfkdjnidmaaDoorTie
import Derived.WalkKit
import Derived.ProofKit
import Derived.OpenShut
import Derived.ShutString
import Derived.ChangeOld
import Derived.Below
import Derived.LaidMore
import Derived.Stop.Joined
import Derived.SevenTiedAt
namespace Go.Proofs.YthmikfkdjnidmaaDoor.signAll
open Go.ChangeShapes Go.WideShapes Go.ChangeAt Go.WideMaps Go.WideElems Go.RowKit
open Go.ChangeMaps (open_string shut_string)

set_option maxRecDepth 100000 in
set_option maxHeartbeats 2000000 in
theorem walk (s0 : ByteArray) (_z0 : s0.size ≤ 140737488351232) (s1 : ByteArray) (_z1 : s1.size ≤ 140737488351232) (x2 : Int) (_z2 : -9223372036854775808 ≤ x2 ∧ x2 ≤ 9223372036854775807) (w : World)  (hL : Laid w) :
    Calls Tryd.prog 5 #[.string s0, .string s1, .int .i64 x2] w fun e w' => e = .returned (.bool true) ∧ Below w.heap.size w w' := by
  have HLV : Hid (∀ V, Below w.heap.size w V → Calls Tryd.prog 9 #[] V fun e w' => e = .returned (.bool true) ∧ Below w.heap.size w w') := fun V hV => (lives_any V (hL.below hV)).mono fun e w' h => ⟨h.1, hV.trans (h.2.mono hV.size)⟩
  by_cases h1 : 1000 < s0.size
  · have k1 : (1000 : Int) < (s0.size : Int) := by omega
    clear hL
    go_enter Tryd.func5, Tryd.ntmps5
    go_wp2_with fail
    refine (HLV.out _ (Below.refl _ _)).mono ?_
    rintro e V ⟨rfl, hb⟩
    go_wp2
    go_ret
    exact ⟨rfl, hb⟩
  · have k1 : ¬ (1000 : Int) < (s0.size : Int) := by omega
    by_cases h3 : 2000 < s1.size
    · have k3 : (2000 : Int) < (s1.size : Int) := by omega
      clear hL
      go_enter Tryd.func5, Tryd.ntmps5
      go_wp2_with fail
      refine (HLV.out _ (Below.refl _ _)).mono ?_
      rintro e V ⟨rfl, hb⟩
      go_wp2
      go_ret
      exact ⟨rfl, hb⟩
    · have k3 : ¬ (2000 : Int) < (s1.size : Int) := by omega
      have HS := signs_any s0 s1 x2 w (by omega) (by omega) hL
      have HB : Hid (∀ V, Calls Tryd.prog 12 #[.string s1, .int .i64 x2] V fun e w' => BlTo V (blocksF s1 x2) e w') := fun V => blocks_any s1 x2 V (by omega)
      have HSZ : Hid (∀ s ∈ (blocksF s1 x2).1, s.size ≤ 128) := fun s hs => blocks_size hs
      have hfew := blocks_few s1 x2
      obtain ⟨⟨bl, er⟩, hbl⟩ : ∃ r, blocksF s1 x2 = r := ⟨_, rfl⟩
      rw [hbl] at HB HS HSZ hfew
      simp only at hfew HSZ
      have heq : (er == er) = true := by simp
      clear hbl hL
      go_enter Tryd.func5, Tryd.ntmps5
      go_wp2_with fail
      refine HS.mono ?_
      rintro e V1 ⟨ga, gn, gc, rfl, hown, hb1⟩
      have HG1 : Hid (Gw (fun _ => True) V1 ga gn gc (bl.map (sgOf s0)) ∧ Below w.heap.size w V1) := ⟨Rw.own hown (fun _ _ => trivial), hb1⟩
      have hgl := HG1.out.1.len
      have hgm := HG1.out.1.max
      rw [List.length_map] at hgl
      have HB1 := HB.out V1
      clear HS hown hb1 HB
      go_wp2_with fail
      refine HB1.mono ?_
      intro e V2 hV2
      obtain ⟨ba, bn, bc, rfl, htw, hb2⟩ := hV2.tw
      have htl := htw.len
      simp only at htl
      obtain rfl : bn = gn := by omega
      have H2 : Hid (Gw (fun _ => True) V2 ga bn gc (bl.map (sgOf s0)) ∧ Tw (fun _ => True) V2 ba bn bc bl ∧ Below w.heap.size w V2) := ⟨HG1.out.1.below hb2, htw, HG1.out.2.trans (hb2.mono HG1.out.2.size)⟩
      have HB : Hid (Below w.heap.size w V2) := H2.out.2.2
      have hnn : ((bn : Int) == (bn : Int)) = true := by simp
      clear HB1 hV2 htw hb2
      by_cases h60 : 60 < bn
      · have k60 : (60 : Int) < (bn : Int) := by omega
        go_wp2_with fail
        refine (HLV.out _ (HB.out)).mono ?_
        rintro e V ⟨rfl, hb⟩
        go_wp2
        go_ret
        exact ⟨rfl, hb⟩
      · have k60 : ¬ (60 : Int) < (bn : Int) := by omega
        go_wp2
        go_loopw [11] (fun vi wr => ∃ i : Nat, i ≤ bn ∧ vi = .int .i64 i ∧ Below V2.heap.size V2 wr) (fun vi _ => bn - (intOf vi).toNat)
        case atStart => exact ⟨0, by omega, rfl, Below.refl _ _⟩
        case round =>
          obtain ⟨i, hi, rfl, hbw⟩ := hrel
          by_cases hlt : i < bn
          · have kk : (i : Int) < (bn : Int) := by omega
            obtain ⟨gb, go, rfl, hgb, hcg⟩ := (H2.out.1.below hbw).at (by omega)
            obtain ⟨tb, to, rfl, htb, hct⟩ := (H2.out.2.1.below hbw).at (by omega)
            obtain ⟨s, hs⟩ : ∃ s, bl[i]? = some s := ⟨_, List.getElem?_eq_getElem (by omega)⟩
            have c0 := hct i s hs
            have hg := hcg i (sgOf s0 s) (by rw [List.getElem?_map, hs]; rfl)
            have HR : Hid (∀ V, Calls Tryd.prog 11 #[.string s0, .string s] V fun e w' => e = .returned (.agg #[.int .u32 ((sgOf s0 s).1 : Int), .string (sgOf s0 s).2]) ∧ Below V.heap.size V w') := fun V => refone_any s0 s V (by omega) (by have := HSZ.out s (List.mem_of_getElem? hs); omega)
            obtain ⟨⟨g1, g2⟩, hge⟩ : ∃ g, sgOf s0 s = g := ⟨_, rfl⟩
            rw [hge] at hg HR
            simp only at hg HR
            obtain ⟨c1, c2⟩ := hg
            have HLT : Hid (gb < wr.drew.heap.size ∧ tb < wr.drew.heap.size) := ⟨hgb, htb⟩
            have HEQ : ∀ V, (Op.equalIn 10000 25 (.agg #[.int .u32 (g1 : Int), .string g2]) (.agg #[.int .u32 (g1 : Int), .string g2])).run Tryd.prog V = .ok true V := fun V => by
              have := eqin_sg (g1 : Int) (g1 : Int) g2 g2 V
              simpa using this
            have HW : Hid (Below V2.heap.size V2 wr) := hbw
            clear hbw hcg hct hs hge hgb htb
            go_wp2
            refine wp_region_held_drew (S := fun W => W.cell? ⟨gb, go + i * 2, none⟩ = some (.int .u32 (g1 : Int)) ∧ W.cell? ⟨gb, go + i * 2 + 1, none⟩ = some (.string g2) ∧ W.cell? ⟨tb, to + i, none⟩ = some (.string s)) (by kernel_rfl) (⟨c1, c2, c0⟩) (fun hHeld => ?_)
            refine wpAnyH_take (i := 0) (v := ?va_0) rfl (by kernel_rfl) (by kernel_rfl) (by kernel_rfl) (fun _ _ _ h => h) (Or.inl ⟨by first | kernel_rfl | rfl, ?ya_0⟩) hHeld ?ra_0
            case ya_0 => (intro W hSW; (try dsimp only at hSW); go_simp; (try with_reducible rfl))
            change wpAnyH _ _ _ _ _ _ _ (Act.put _ (some 68) _) _
            simp only [Act.put, List.setIfInBounds_toArray, List.set_cons_zero, List.set_cons_succ]
            refine wpAnyH_take (i := 1) (v := ?va_1) rfl (by kernel_rfl) (by kernel_rfl) (by kernel_rfl) (fun _ _ _ h => h) (Or.inl ⟨by first | kernel_rfl | rfl, ?ya_1⟩) hHeld ?ra_1
            case ya_1 => (intro W hSW; (try dsimp only at hSW); go_simp; (try with_reducible rfl))
            change wpAnyH _ _ _ _ _ _ _ (Act.put _ (some 69) _) _
            simp only [Act.put, List.setIfInBounds_toArray, List.set_cons_zero, List.set_cons_succ]
            refine wpAnyH_take (i := 2) (v := ?va_2) rfl (by kernel_rfl) (by kernel_rfl) (by kernel_rfl) (fun _ _ _ h => h) (Or.inl ⟨by first | kernel_rfl | rfl, ?ya_2⟩) hHeld ?ra_2
            case ya_2 => (intro W hSW; (try dsimp only at hSW); go_simp; (try with_reducible rfl))
            change wpAnyH _ _ _ _ _ _ _ (Act.put _ (some 70) _) _
            simp only [Act.put, List.setIfInBounds_toArray, List.set_cons_zero, List.set_cons_succ]
            refine wpAnyH_take (i := 4) (v := ?va_4) rfl (by kernel_rfl) (by kernel_rfl) (by kernel_rfl) (fun _ _ _ h => h) (Or.inl ⟨by first | kernel_rfl | rfl, ?ya_4⟩) hHeld ?ra_4
            case ya_4 => (intro W hSW; (try dsimp only at hSW); go_simp; (try with_reducible rfl))
            change wpAnyH _ _ _ _ _ _ _ (Act.put _ (some 72) _) _
            simp only [Act.put, List.setIfInBounds_toArray, List.set_cons_zero, List.set_cons_succ]
            refine wpAnyH_take (i := 5) (v := ?va_5) rfl (by kernel_rfl) (by kernel_rfl) (by kernel_rfl) (fun _ _ _ h => h) (Or.inl ⟨by first | kernel_rfl | rfl, ?ya_5⟩) hHeld ?ra_5
            case ya_5 => (intro W hSW; (try dsimp only at hSW); go_simp; (try with_reducible rfl))
            change wpAnyH _ _ _ _ _ _ _ (Act.put _ (some 73) _) _
            simp only [Act.put, List.setIfInBounds_toArray, List.set_cons_zero, List.set_cons_succ]
            refine wpAnyH_take (i := 6) (v := ?va_6) rfl (by kernel_rfl) (by kernel_rfl) (by kernel_rfl) (fun _ _ _ h => h) (Or.inl ⟨by first | kernel_rfl | rfl, ?ya_6⟩) hHeld ?ra_6
            case ya_6 => (intro W hSW; (try dsimp only at hSW); go_simp; (try with_reducible rfl))
            change wpAnyH _ _ _ _ _ _ _ (Act.put _ (some 74) _) _
            simp only [Act.put, List.setIfInBounds_toArray, List.set_cons_zero, List.set_cons_succ]
            refine wpAnyH_take (i := 7) (v := ?va_7) rfl (by kernel_rfl) (by kernel_rfl) (by kernel_rfl) (fun _ _ _ h => h) (Or.inl ⟨by first | kernel_rfl | rfl, ?ya_7⟩) hHeld ?ra_7
            case ya_7 => (intro W hSW; (try dsimp only at hSW); go_simp; (try with_reducible rfl))
            change wpAnyH _ _ _ _ _ _ _ (Act.put _ (some 75) _) _
            simp only [Act.put, List.setIfInBounds_toArray, List.set_cons_zero, List.set_cons_succ]
            refine wpAnyH_take (i := 3) (v := ?va_3) rfl (by kernel_rfl) (by kernel_rfl) (by kernel_rfl) (fun _ _ _ h => h) (Or.inl ⟨by first | kernel_rfl | rfl, ?ya_3⟩) hHeld ?ra_3
            case ya_3 => (intro W hSW; (try dsimp only at hSW); go_simp; (try with_reducible rfl))
            change wpAnyH _ _ _ _ _ _ _ (Act.put _ (some 71) _) _
            simp only [Act.put, List.setIfInBounds_toArray, List.set_cons_zero, List.set_cons_succ]
            refine wpAnyH_take (i := 8) (v := ?va_8) rfl (by kernel_rfl) (by kernel_rfl) (by kernel_rfl) (fun _ _ _ h => h) (Or.inl ⟨by first | kernel_rfl | rfl, ?ya_8⟩) hHeld ?ra_8
            case ya_8 => (intro W hSW; (try dsimp only at hSW); go_simp; (try with_reducible rfl))
            change wpAnyH _ _ _ _ _ _ _ (Act.put _ (some 76) _) _
            simp only [Act.put, List.setIfInBounds_toArray, List.set_cons_zero, List.set_cons_succ]
            refine wpAnyH_ready (rs := [9]) (by kernel_rfl) (by simp) ?_
            refine AllReadyH.cons rfl (fun K hK => ?_) AllReadyH.nil
            go_simp
            refine (HR.out wr.drew).mono ?_
            rintro e V4 ⟨rfl, hb4⟩
            refine hK.out _ _ (⟨by rw [hb4.cell HLT.out.1]; exact c1, by rw [hb4.cell HLT.out.1]; exact c2, by rw [hb4.cell HLT.out.2]; exact c0⟩) (fun hHeld => ?_)
            clear hK K
            try simp only [Act.put, List.setIfInBounds_toArray, List.set_cons_zero, List.set_cons_succ]
            refine wpAnyH_take (i := 10) (v := ?va_10) rfl (by kernel_rfl) (by kernel_rfl) (by kernel_rfl) (fun _ _ _ h => h) (Or.inl ⟨by first | kernel_rfl | rfl, ?ya_10⟩) hHeld ?ra_10
            case ya_10 => (intro W hSW; (try dsimp only at hSW); go_simp; (try with_reducible rfl))
            change wpAnyH _ _ _ _ _ _ _ (Act.put _ (some 78) _) _
            simp only [Act.put, List.setIfInBounds_toArray, List.set_cons_zero, List.set_cons_succ]
            refine wpAnyH_done (by kernel_rfl) ?_ _
            go_wp2
            exact ⟨⟨i + 1, by omega, by go_num, HW.out.drew.trans (hb4.mono HW.out.drew.size)⟩, by simp [intOf]; omega⟩
          · have kk : ¬ (i : Int) < (bn : Int) := by omega
            have HW : Hid (Below w.heap.size w wr) := H2.out.2.2.trans (hbw.mono H2.out.2.2.size)
            clear hbw
            go_wp2_with fail
            refine (HLV.out _ (HW.out)).mono ?_
            rintro e V ⟨rfl, hb⟩
            go_wp2
            go_ret
            exact ⟨rfl, hb⟩

set_option linter.unusedVariables false in
set_option maxRecDepth 100000 in
theorem lifted (os : Os) (started : os.Started) (H : Type) (enc : TypeId × Value → H) :
    ReturnsInHanded {} Tryd.checked os 5 .any (fun w args => (Rows.signAllSpec.pre enc Tryd.prog Tryd.f5 [] false w args ∧ laidMetH Tryd.prog laid2 w) ∧ sizedMet enc Tryd.prog Tryd.f5 (OpenSpec.ofChange Rows.signAllSpec) false w args) (Rows.signAllSpec.post enc Tryd.prog Tryd.f5 false true false false) := by
  refine returnsInHanded_of_change_and (C := Tryd.checked) (X := fun w _ => laidMetH Tryd.prog laid2 w) (fun _ _ _ hh h => h.of_heap hh) own started (by kernel_rfl) Tryd.func5
    (ChangeSpec.witness_shaped (enc := enc) (C := Tryd.checked) (os := os) (X := fun w _ => laidMetH Tryd.prog laid2 w) false (World.doorLaid Tryd.prog 19 os) #[.string ByteArray.empty, .string ByteArray.empty, .int .i64 0] 8 rfl (World.shaped_of_RefB (by kernel_rfl) (by kernel_rfl)) (by kernel_rfl) (by kernel_rfl) (by kernel_rfl) (door_met os _)) ?_
  intro W base args ds gs before hval0 hW _ hsz0 hL _
  have hval : ∀ (j : Nat) t v, Tryd.f5.params[j]? = some t → args[j]? = some v → Value.okWide Tryd.prog W .any base t v := hval0
  have hsz : (DataW.weightsEach Tryd.prog (Tryd.f5.params.toList ++ Rows.signAllSpec.plain.varTypes Tryd.prog) (ds ++ gs)).all (· ≤ reachBytes) = true := hsz0
  have hW' := hW
  obtain ⟨p, q, hA0, hV, rfl, hfz, hnd⟩ := hW
  have hA : DataW.TrodAll enc Tryd.prog W 0 (fun _ => true) true Tryd.f5.params.toList args.toList ds p := hA0
  rw [Tryd.params5] at hA hval hsz
  obtain ⟨v0, vs0, d0, ds0, p0, q0, hargs, rfl, rfl, h0, r0⟩ := trodAll_cons hA
  obtain ⟨v1, vs1, d1, ds1, p1, q1, rfl, rfl, rfl, h1, r1⟩ := trodAll_cons r0
  obtain ⟨v2, vs2, d2, ds2, p2, q2, rfl, rfl, rfl, h2, r2⟩ := trodAll_cons r1
  obtain ⟨rfl, rfl, rfl⟩ := trodAll_nil r2
  obtain rfl : args = #[v0, v1, v2] := by cases args; simp_all
  obtain ⟨rfl, rfl⟩ := trodVars_none hV
  obtain ⟨s0, rfl, rfl, rfl, w0⟩ := open_string Tryd.underlying9 (hval 0 9 v0 rfl rfl) h0
  have z0 : s0.size ≤ 140737488351232 := by
    have := sized_string hsz (j := 0) (t := 9) rfl rfl
    simpa [reachBytes] using this
  obtain ⟨s1, rfl, rfl, rfl, w1⟩ := open_string Tryd.underlying9 (hval 1 9 v1 rfl rfl) h1
  have z1 : s1.size ≤ 140737488351232 := by
    have := sized_string hsz (j := 1) (t := 9) rfl rfl
    simpa [reachBytes] using this
  obtain ⟨x2, rfl, rfl, rfl, w2⟩ := open_int Tryd.underlying3 (hval 2 3 v2 rfl rfl) h2
  clear hA0 hval0 hsz hsz0
  refine (walk s0 z0 s1 z1 x2 (wf_i64 w2) W  (of_laid hL)).mono fun e W' ⟨he, bel⟩ => ?_
  subst he
  exact ⟨_, rfl, _, _, _, [], _, [], hW', trodAll_mk1 (shut_bool Tryd.underlying4 _), (trodAll_cons_mk (shut_string Tryd.underlying9 w0) (trodAll_cons_mk (shut_string Tryd.underlying9 w1) (trodAll_cons_mk (shut_int Tryd.underlying3 w2) trodAll_mk0))), rfl, bel.frame _, fun h => by cases h⟩

theorem over : Rows.signAllRow.holds Tryd.pinned (OpenSpec.ofChange Rows.signAllSpec) :=
  OpenClaim.holds_of_wide 5 Tryd.f5 rfl rfl rfl rfl rfl rfl rfl ⟨rfl, rfl, rfl, rfl, rfl⟩ rfl rfl rfl rfl rfl (by kernel_rfl) Tryd.func5 (by kernel_rfl)
    (of_decide_eq_true (by kernel_rfl)) (by unfold Func.isWrapper; first | (rw [if_pos (by decide +kernel)]; kernel_rfl) | (rw [if_neg (by decide +kernel)]; exact ⟨rfl, rfl⟩))
    (fun os started H enc _ => lifted os started H enc)

end Go.Proofs.YthmikfkdjnidmaaDoor.signAll
namespace Go.Proofs.YthmikfkdjnidmaaDoor
/-- The given statement. -/
theorem signAll_holds : Rows.SignAllCardSaid :=
  Claim7.holds_tied_plain_at .later [] [.data, .data] true (true, "9366dbee3e6b8144bc6f035be57a0a175d8cc15111da3a5f955b6f509a08af4f") false
    signAll.over (fun _ h => by cases h) (by kernel_rfl) (fun _ h => by cases h) signAll_row_tie rfl ⟨rfl, rfl⟩ (by kernel_rfl) rfl
    (fun f fn hf hfn => by
      obtain rfl : f = 5 := Option.some.inj ((show Tryd.prog.funcNamed "strongroom/strongroomlaw10.SignAll" = some 5 by kernel_rfl).symm.trans hf) |>.symm
      obtain rfl : fn = Tryd.f5 := (Option.some.inj (Tryd.func5.symm.trans hfn)).symm
      exact ⟨by kernel_rfl, fun j t ht => by
        rw [Tryd.params5] at ht
        rcases j with _ | _ | _ | j
        · obtain rfl : t = 9 := by simpa using ht.symm
          exact (show Tryd.prog.wantsStandIn 9 = false by kernel_rfl)
        · obtain rfl : t = 9 := by simpa using ht.symm
          exact (show Tryd.prog.wantsStandIn 9 = false by kernel_rfl)
        · obtain rfl : t = 3 := by simpa using ht.symm
          exact (show Tryd.prog.wantsStandIn 3 = false by kernel_rfl)
        · simp at ht
      ⟩)
    (by kernel_rfl)
#print axioms signAll_holds
end Go.Proofs.YthmikfkdjnidmaaDoor
