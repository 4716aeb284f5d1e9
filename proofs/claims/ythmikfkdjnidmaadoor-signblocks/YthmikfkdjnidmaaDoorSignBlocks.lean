/- The law of blocks. -/
import Derived.Test.YthmikfkdjnidmaaDoorGN
import Derived.Test.YthmikfkdjnidmaaDoorCards
import Derived.Test.YthmikfkdjnidmaaDoorTie
import Derived.WalkKit
import Derived.ProofKit
import Derived.OpenShut
import Derived.ShutString
import Derived.ChangeOld
import Derived.Below
import Derived.LaidMore
import Derived.Stop.Joined
import Derived.SevenTiedAt
namespace Go.Proofs.YthmikfkdjnidmaaDoor.signBlocks
open Go.ChangeShapes Go.WideShapes Go.ChangeAt Go.WideMaps Go.WideElems Go.RowKit
open Go.ChangeMaps (open_string shut_string)

set_option maxRecDepth 100000 in
set_option maxHeartbeats 2000000 in
theorem walk (s0 : ByteArray) (_z0 : s0.size ≤ 140737488351232) (x1 : Int) (_z1 : -9223372036854775808 ≤ x1 ∧ x1 ≤ 9223372036854775807) (w : World)  (hL : Laid w) :
    Calls Tryd.prog 4 #[.string s0, .int .i64 x1] w fun e w' => e = .returned (.bool true) ∧ Below w.heap.size w w' := by
  have HLV : Hid (∀ V, Below w.heap.size w V → Calls Tryd.prog 9 #[] V fun e w' => e = .returned (.bool true) ∧ Below w.heap.size w w') := fun V hV => (lives_any V (hL.below hV)).mono fun e w' h => ⟨h.1, hV.trans (h.2.mono hV.size)⟩
  by_cases h5 : 5000 < s0.size
  · have k5 : (5000 : Int) < (s0.size : Int) := by omega
    clear hL
    go_enter Tryd.func4, Tryd.ntmps4
    go_wp2_with fail
    refine (HLV.out _ (Below.refl _ _)).mono ?_
    rintro e V ⟨rfl, hb⟩
    go_wp2
    go_ret
    exact ⟨rfl, hb⟩
  · have k5 : ¬ (5000 : Int) < (s0.size : Int) := by omega
    have HB := blocks_any s0 x1 w (by omega)
    have HR : Hid (∀ V, Calls Tryd.prog 13 #[.string s0, .int .i64 x1] V fun e w' => BlTo V (blocksF s0 x1) e w') := fun V => refblocks_any s0 x1 V (by omega)
    have HSZ : Hid (∀ s ∈ (blocksF s0 x1).1, s.size ≤ 128) := fun s hs => blocks_size hs
    have hfew := blocks_few s0 x1
    have HCA : Hid ((blocksF s0 x1).2 = 0 → catL (blocksF s0 x1).1 = s0) := cat_all
    obtain ⟨⟨bl, er⟩, hbl⟩ : ∃ r, blocksF s0 x1 = r := ⟨_, rfl⟩
    rw [hbl] at HB HR HSZ hfew HCA
    simp only at hfew HSZ HCA
    clear hbl hL h5
    go_enter Tryd.func4, Tryd.ntmps4
    go_wp2_with fail
    refine HB.mono ?_
    intro e V1 hV1
    obtain ⟨ba, bn, bc, rfl, htw, hb1⟩ := hV1.tw
    have HR1 := HR.out V1
    have H1 : Hid (Tw (fun _ => True) V1 ba bn bc bl ∧ Below w.heap.size w V1) := ⟨htw, hb1⟩
    have hmx := htw.max
    have hlen := htw.len
    simp only at hlen
    clear HB hV1 htw hb1 HR
    go_wp2_with fail
    refine HR1.mono ?_
    intro e V2 hV2
    obtain ⟨ca, cn, cc, rfl, htw2, hb2⟩ := hV2.tw
    have HSA : Calls Tryd.prog 14 #[.slice ba bn bc, .slice ca cn cc] V2 fun e w' => e = .returned (.bool true) ∧ Below V2.heap.size V2 w' := by simpa using same_any (H1.out.1.below hb2) htw2
    have H2 : Hid (Tw (fun _ => True) V2 ba bn bc bl ∧ Below w.heap.size w V2) := ⟨H1.out.1.below hb2, H1.out.2.trans (hb2.mono H1.out.2.size)⟩
    clear HR1 hV2 htw2 hb2
    go_wp2_with fail
    refine HSA.mono ?_
    rintro e V3 ⟨rfl, hb3⟩
    have H3 : Hid (Tw (fun _ => True) V3 ba bn bc bl ∧ Below w.heap.size w V3) := ⟨H2.out.1.below hb3, H2.out.2.trans (hb3.mono H2.out.2.size)⟩
    have heq : (er == er) = true := by simp
    clear HSA hb3
    go_wp2
    go_loopw [9, 10] (fun va vi wr => ∃ i : Nat, i ≤ bn ∧ vi = .int .i64 i ∧ va = .string (catL (bl.take i)) ∧ (catL (bl.take i)).size ≤ 128 * i ∧ wr = V3) (fun _ vi _ => bn - (intOf vi).toNat)
    case atStart => exact ⟨0, by omega, rfl, rfl, Nat.le_refl _, rfl⟩
    case round =>
      obtain ⟨i, hi, rfl, rfl, hsz, hwr⟩ := hrel
      subst wr
      by_cases hlt : i < bn
      · have kk : (i : Int) < (bn : Int) := by omega
        obtain ⟨tb, to, rfl, _, hc⟩ := H3.out.1.at (by omega)
        obtain ⟨s, hs⟩ : ∃ s, bl[i]? = some s := ⟨_, List.getElem?_eq_getElem (by omega)⟩
        have c0 := hc i s hs
        have hss := HSZ.out s (List.mem_of_getElem? hs)
        have HST : Hid (catL (bl.take (i + 1)) = catL (bl.take i) ++ s) := by show _ = _; rw [take_snoc hs, catL_snoc]
        obtain ⟨A, hA⟩ : ∃ A, catL (bl.take i) = A := ⟨_, rfl⟩
        rw [hA] at hsz HST ⊢
        have hns : ¬ 9223372036854775807 < A.size + s.size := by omega
        clear hc hs hA
        go_wp2
        refine ⟨⟨i + 1, by omega, by go_num, by rw [HST.out], ?_, by first | trivial | rfl⟩, by simp [intOf]; omega⟩
        rw [HST.out, ByteArray.size_append]
        omega
      · have kk : ¬ (i : Int) < (bn : Int) := by omega
        rw [List.take_of_length_le (by omega)]
        have HB3 : Hid (Below w.heap.size w V3) := H3.out.2
        by_cases h0 : er = 0
        · have hca := HCA.out h0
          subst h0
          rw [hca]
          have hbe : (s0.toList == s0.toList) = true := by simp
          clear hca
          go_wp2_with fail
          refine (HLV.out _ (HB3.out)).mono ?_
          rintro e V ⟨rfl, hb⟩
          go_wp2
          go_ret
          exact ⟨rfl, hb⟩
        · have k0 : (er == 0) = false := by simpa using h0
          go_wp2_with fail
          refine (HLV.out _ (HB3.out)).mono ?_
          rintro e V ⟨rfl, hb⟩
          go_wp2
          go_ret
          exact ⟨rfl, hb⟩

set_option linter.unusedVariables false in
set_option maxRecDepth 100000 in
theorem lifted (os : Os) (started : os.Started) (H : Type) (enc : TypeId × Value → H) :
    ReturnsInHanded {} Tryd.checked os 4 .any (fun w args => (Rows.signBlocksSpec.pre enc Tryd.prog Tryd.f4 [] false w args ∧ laidMetH Tryd.prog laid2 w) ∧ sizedMet enc Tryd.prog Tryd.f4 (OpenSpec.ofChange Rows.signBlocksSpec) false w args) (Rows.signBlocksSpec.post enc Tryd.prog Tryd.f4 false true false false) := by
  refine returnsInHanded_of_change_and (C := Tryd.checked) (X := fun w _ => laidMetH Tryd.prog laid2 w) (fun _ _ _ hh h => h.of_heap hh) own started (by kernel_rfl) Tryd.func4
    (ChangeSpec.witness_shaped (enc := enc) (C := Tryd.checked) (os := os) (X := fun w _ => laidMetH Tryd.prog laid2 w) false (World.doorLaid Tryd.prog 19 os) #[.string ByteArray.empty, .int .i64 0] 8 rfl (World.shaped_of_RefB (by kernel_rfl) (by kernel_rfl)) (by kernel_rfl) (by kernel_rfl) (by kernel_rfl) (door_met os _)) ?_
  intro W base args ds gs before hval0 hW _ hsz0 hL _
  have hval : ∀ (j : Nat) t v, Tryd.f4.params[j]? = some t → args[j]? = some v → Value.okWide Tryd.prog W .any base t v := hval0
  have hsz : (DataW.weightsEach Tryd.prog (Tryd.f4.params.toList ++ Rows.signBlocksSpec.plain.varTypes Tryd.prog) (ds ++ gs)).all (· ≤ reachBytes) = true := hsz0
  have hW' := hW
  obtain ⟨p, q, hA0, hV, rfl, hfz, hnd⟩ := hW
  have hA : DataW.TrodAll enc Tryd.prog W 0 (fun _ => true) true Tryd.f4.params.toList args.toList ds p := hA0
  rw [Tryd.params4] at hA hval hsz
  obtain ⟨v0, vs0, d0, ds0, p0, q0, hargs, rfl, rfl, h0, r0⟩ := trodAll_cons hA
  obtain ⟨v1, vs1, d1, ds1, p1, q1, rfl, rfl, rfl, h1, r1⟩ := trodAll_cons r0
  obtain ⟨rfl, rfl, rfl⟩ := trodAll_nil r1
  obtain rfl : args = #[v0, v1] := by cases args; simp_all
  obtain ⟨rfl, rfl⟩ := trodVars_none hV
  obtain ⟨s0, rfl, rfl, rfl, w0⟩ := open_string Tryd.underlying9 (hval 0 9 v0 rfl rfl) h0
  have z0 : s0.size ≤ 140737488351232 := by
    have := sized_string hsz (j := 0) (t := 9) rfl rfl
    simpa [reachBytes] using this
  obtain ⟨x1, rfl, rfl, rfl, w1⟩ := open_int Tryd.underlying3 (hval 1 3 v1 rfl rfl) h1
  clear hA0 hval0 hsz hsz0
  refine (walk s0 z0 x1 (wf_i64 w1) W  (of_laid hL)).mono fun e W' ⟨he, bel⟩ => ?_
  subst he
  exact ⟨_, rfl, _, _, _, [], _, [], hW', trodAll_mk1 (shut_bool Tryd.underlying4 _), (trodAll_cons_mk (shut_string Tryd.underlying9 w0) (trodAll_cons_mk (shut_int Tryd.underlying3 w1) trodAll_mk0)), rfl, bel.frame _, fun h => by cases h⟩

theorem over : Rows.signBlocksRow.holds Tryd.pinned (OpenSpec.ofChange Rows.signBlocksSpec) :=
  OpenClaim.holds_of_wide 4 Tryd.f4 rfl rfl rfl rfl rfl rfl rfl ⟨rfl, rfl, rfl, rfl, rfl⟩ rfl rfl rfl rfl rfl (by kernel_rfl) Tryd.func4 (by kernel_rfl)
    (of_decide_eq_true (by kernel_rfl)) (by unfold Func.isWrapper; first | (rw [if_pos (by decide +kernel)]; kernel_rfl) | (rw [if_neg (by decide +kernel)]; exact ⟨rfl, rfl⟩))
    (fun os started H enc _ => lifted os started H enc)

end Go.Proofs.YthmikfkdjnidmaaDoor.signBlocks
namespace Go.Proofs.YthmikfkdjnidmaaDoor
/-- The given statement. -/
theorem signBlocks_holds : Rows.SignBlocksCardSaid :=
  Claim7.holds_tied_plain_at .later [] [.data, .data] true (true, "9366dbee3e6b8144bc6f035be57a0a175d8cc15111da3a5f955b6f509a08af4f") false
    signBlocks.over (fun _ h => by cases h) (by kernel_rfl) (fun _ h => by cases h) signBlocks_row_tie rfl ⟨rfl, rfl⟩ (by kernel_rfl) rfl
    (fun f fn hf hfn => by
      obtain rfl : f = 4 := Option.some.inj ((show Tryd.prog.funcNamed "strongroom/strongroomlaw10.SignBlocks" = some 4 by kernel_rfl).symm.trans hf) |>.symm
      obtain rfl : fn = Tryd.f4 := (Option.some.inj (Tryd.func4.symm.trans hfn)).symm
      exact ⟨by kernel_rfl, fun j t ht => by
        rw [Tryd.params4] at ht
        rcases j with _ | _ | j
        · obtain rfl : t = 9 := by simpa using ht.symm
          exact (show Tryd.prog.wantsStandIn 9 = false by kernel_rfl)
        · obtain rfl : t = 3 := by simpa using ht.symm
          exact (show Tryd.prog.wantsStandIn 3 = false by kernel_rfl)
        · simp at ht
      ⟩)
    (by kernel_rfl)
#print axioms signBlocks_holds
end Go.Proofs.YthmikfkdjnidmaaDoor
