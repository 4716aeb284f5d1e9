/- ShelfNils: a Shelf that is nil, and stores that can't be opened, whatever the input. -/
import Derived.Test.YtnafalkcgghjgaaGreatDoorSQ
import Derived.Test.YtnafalkcgghjgaaGreatDoorCards
import Derived.Test.YtnafalkcgghjgaaGreatDoorTie
import Derived.WalkKit
import Derived.ProofKit
import Derived.OpenShut
import Derived.ShutString
import Derived.ChangeOld
import Derived.Below
import Derived.LaidMore
import Derived.Lay
import Derived.Stop.Joined
import Derived.SevenTiedAt
namespace Go.Proofs.YtnafalkcgghjgaaGreatDoor.shelfNils
open Go.ChangeShapes Go.WideShapes Go.ChangeAt Go.RowKit
theorem own : ownKnob Tryz.prog.godebug = none := by kernel_rfl
theorem laidOut : laidOutB Tryz.prog = true := by kernel_rfl

set_option maxRecDepth 100000 in
set_option maxHeartbeats 2000000 in
theorem walk (o0 : OV) (z0 : o0.In) (w : World)  :
    Calls Tryz.prog 7 #[o0.agg] w fun e w' => e = .returned (.bool true) ∧ Below w.heap.size w w' := by
  obtain ⟨W0, hW0⟩ : ∃ W0, w.alloc (.cells #[.int .i64 o0.kind, .int .i64 o0.n, .int .i64 o0.long, .string o0.key, .string o0.til, .string o0.value] 31) = W0 := ⟨_, rfl⟩
  have hb0 : Below w.heap.size w W0 := by rw [← hW0]; exact (Below.refl _ w).alloc (Nat.le_refl _) _
  have hlt : w.heap.size < W0.heap.size := by rw [← hW0]; simp
  have HL := light_any o0 z0 W0
  have c0 : W0.cell? ⟨w.heap.size, 0, none⟩ = some (.int .i64 o0.kind) := by rw [← hW0, cell_of_row _ w.heap.size _ _ _ _ (heap_alloc_new w _)]; rfl
  have c1 : W0.cell? ⟨w.heap.size, 1, none⟩ = some (.int .i64 o0.n) := by rw [← hW0, cell_of_row _ w.heap.size _ _ _ _ (heap_alloc_new w _)]; rfl
  have c2 : W0.cell? ⟨w.heap.size, 2, none⟩ = some (.int .i64 o0.long) := by rw [← hW0, cell_of_row _ w.heap.size _ _ _ _ (heap_alloc_new w _)]; rfl
  have c3 : W0.cell? ⟨w.heap.size, 3, none⟩ = some (.string o0.key) := by rw [← hW0, cell_of_row _ w.heap.size _ _ _ _ (heap_alloc_new w _)]; rfl
  have c4 : W0.cell? ⟨w.heap.size, 4, none⟩ = some (.string o0.til) := by rw [← hW0, cell_of_row _ w.heap.size _ _ _ _ (heap_alloc_new w _)]; rfl
  have c5 : W0.cell? ⟨w.heap.size, 5, none⟩ = some (.string o0.value) := by rw [← hW0, cell_of_row _ w.heap.size _ _ _ _ (heap_alloc_new w _)]; rfl
  clear z0
  obtain ⟨k, n, l, key, til, v⟩ := o0
  unfold OV.agg at HL ⊢
  simp only at c0 c1 c2 c3 c4 c5 hW0 HL ⊢
  obtain ⟨q, hq⟩ : ∃ q, decide (OV.w ⟨k, n, l, key, til, v⟩ ≤ 2000) = q := ⟨_, rfl⟩
  rw [hq] at HL
  clear hq
  go_enter Tryz.func7, Tryz.ntmps7
  go_wp2_with fail
  refine HL.mono ?_
  rintro e w1 ⟨rfl, hb⟩
  have d3 : w1.cell? ⟨w.heap.size, 3, none⟩ = some (.string key) := by rw [hb.cell hlt]; exact c3
  have d4 : w1.cell? ⟨w.heap.size, 4, none⟩ = some (.string til) := by rw [hb.cell hlt]; exact c4
  have hb1 : Below w.heap.size w w1 := hb0.trans (hb.mono hb0.size)
  have HLV := lives_h hb1
  have HG := get_nil key w1
  have HA := sabort_nil w1
  have HP := put_nil key ByteArray.empty w1
  have HD := drop_nil key w1
  have HR := range_nil ByteArray.empty til 9 w1
  have HN := len_nil w1
  have HZ := size_nil' w1
  have HC := scommit_nil w1
  have HO := sopen_nil w1
  have HW := new_any 9 w1 (by omega) (by omega)
  have HB1 : Hid (Below w.heap.size w w1) := hb1
  clear HL hb hb0 hlt hW0 c0 c1 c2 c3 c4 c5 hb1
  cases q with
  | false =>
    go_wp2_with fail
    refine HLV.mono ?_
    rintro e w2 ⟨rfl, hb2⟩
    have HB2 : Hid (Below w.heap.size w w2) := hb2
    clear HLV hb2
    go_wp2
    go_ret
    exact ⟨rfl, HB2.out⟩
  | true =>
    clear HLV
    go_wp2_with fail
    refine HG.mono ?_
    rintro e V ⟨rfl, hV⟩
    subst V
    clear HG
    go_wp2_with fail
    refine HA.mono ?_
    rintro e V ⟨rfl, hV⟩
    subst V
    clear HA
    go_wp2_with fail
    refine HP.mono ?_
    rintro e V ⟨rfl, hV⟩
    subst V
    clear HP
    go_wp2_with fail
    refine HD.mono ?_
    rintro e V ⟨rfl, hV⟩
    subst V
    clear HD
    go_wp2_with fail
    refine HR.mono ?_
    rintro e V ⟨rfl, hV⟩
    subst V
    clear HR
    go_wp2_with fail
    refine HN.mono ?_
    rintro e V ⟨rfl, hV⟩
    subst V
    clear HN
    go_wp2_with fail
    refine HZ.mono ?_
    rintro e V ⟨rfl, hV⟩
    subst V
    clear HZ
    go_wp2_with fail
    refine HC.mono ?_
    rintro e V ⟨rfl, hV⟩
    subst V
    clear HC
    go_wp2_with fail
    refine HO.mono ?_
    rintro e V ⟨rfl, hV⟩
    subst V
    clear HO
    go_wp2_with fail
    refine HW.mono ?_
    rintro e w2 ⟨g, rfl, hd2, hb2⟩
    have hg : Good 1 (Dk.new 9 nought) := Good.new 1
    obtain ⟨D, hD⟩ : ∃ D, Dk.new 9 nought = D := ⟨_, rfl⟩
    have hw0 : D.writes = 0 := by rw [← hD]; rfl
    rw [hD] at hd2 hg
    have HJ := open_any (n := 1) hd2 (by omega) (by omega) (by rw [hg.ln]; omega) hg.up hg.wt hg.sz.k (by omega)
    rw [rec_tidy hg.td] at HJ
    have HJ : Calls Tryz.prog 31 #[.pointer (some ⟨g, 0, none⟩), .int .i64 1] w2 fun e w' => e = .returned (.tuple #[.pointer (some ⟨w2.heap.size, 0, none⟩), .int .i64 0]) ∧ Jat w' w2.heap.size g 1 ∧ ∃ S', DiskIs w' S' g D ∧ Upd (fresh w1 w2) w2 w' ∧ (∀ x, S' x → fresh w1 w2 x ∨ w2.heap.size ≤ x) ∧ ¬ S' w2.heap.size := HJ
    have hb2' : Below w.heap.size w w2 := HB1.out.trans (hb2.mono HB1.out.size)
    have HB2 : Hid (Below w.heap.size w w2 ∧ Below w1.heap.size w1 w2) := ⟨hb2', hb2⟩
    clear HW hD hw0 hd2 hg hb2 hb2' d3 d4
    go_wp2_with fail
    refine HJ.mono ?_
    rintro e w3 ⟨rfl, hj, S3, hd3, hu3, hs3, hn3⟩
    obtain ⟨jb, hjb⟩ : ∃ jb, w2.heap.size = jb := ⟨_, rfl⟩
    rw [hjb] at hj hn3
    have hb3 : Below w.heap.size w w3 := HB2.out.1.trans (hu3.below HB2.out.1.size (fun k hk => Nat.le_trans HB1.out.size hk.1))
    have HS := sopen_one hj
    have HLV := lives_h hb3
    clear HJ hj hd3 hu3 hs3 hn3 hb3
    rw [hjb]
    clear hjb
    go_wp2_with fail
    refine HS.mono ?_
    rintro e V ⟨rfl, hV⟩
    subst V
    clear HS
    go_wp2_with fail
    refine HLV.mono ?_
    rintro e w4 ⟨rfl, hb4⟩
    have HB4 : Hid (Below w.heap.size w w4) := hb4
    clear HLV hb4
    go_wp2
    go_ret
    exact ⟨rfl, HB4.out⟩

set_option linter.unusedVariables false in
set_option maxRecDepth 100000 in
theorem lifted (os : _root_.Go.Os) (started : os.Started) (H : Type) (enc : TypeId × Value → H) :
    ReturnsInHanded {} Tryz.checked os 7 .any (fun w args => (Rows.shelfNilsSpec.pre enc Tryz.prog Tryz.f7 Rows.shelfNilsRow.domain false w args ∧ laidMetH Tryz.prog Rows.shelfNilsRow.laid w) ∧ sizedMet enc Tryz.prog Tryz.f7 (OpenSpec.ofChange Rows.shelfNilsSpec) false w args) (Rows.shelfNilsSpec.post enc Tryz.prog Tryz.f7 false true false false) := by
  refine returnsInHanded_of_change_and (C := Tryz.checked) (X := fun w _ => laidMetH Tryz.prog Rows.shelfNilsRow.laid w) (fun _ _ _ hh h => h.of_heap hh) own started (by kernel_rfl) Tryz.func7
    (ChangeSpec.witness_shaped (enc := enc) (C := Tryz.checked) (os := os) (X := fun w _ => laidMetH Tryz.prog Rows.shelfNilsRow.laid w) false (World.laidAll Tryz.prog os Rows.shelfNilsRow.laid) #[.agg #[.int .i64 0, .int .i64 0, .int .i64 0, .string ByteArray.empty, .string ByteArray.empty, .string ByteArray.empty]] 8 (World.laidAll_os _ _ _)
      (World.shaped_of_ZipB (by kernel_rfl) (by kernel_rfl)) (by kernel_rfl) (by kernel_rfl) (by kernel_rfl)
      (by rw [MakeChecks.laidMetH_plain _ _ _ (by kernel_rfl)]; exact laidMet_laidAll _ (by kernel_rfl) (by kernel_rfl))) ?_
  intro W base args ds gs before hval0 hW _ hsz0 hL _
  have hval : ∀ (j : Nat) t v, Tryz.f7.params[j]? = some t → args[j]? = some v → Value.okWide Tryz.prog W .any base t v := hval0
  have hsz : (DataW.weightsEach Tryz.prog (Tryz.f7.params.toList ++ Rows.shelfNilsSpec.plain.varTypes Tryz.prog) (ds ++ gs)).all (· ≤ reachBytes) = true := hsz0
  have hW' := hW
  obtain ⟨p, q, hA0, hV, rfl, hfz, hnd⟩ := hW
  have hA : DataW.TrodAll enc Tryz.prog W 0 (fun _ => true) true Tryz.f7.params.toList args.toList ds p := hA0
  rw [Tryz.params7] at hA hval hsz
  obtain ⟨v0, vs0, d0, ds0, p0, q0, hargs, rfl, rfl, h0, r0⟩ := trodAll_cons hA
  obtain ⟨rfl, rfl, rfl⟩ := trodAll_nil r0
  obtain rfl : args = #[v0] := by cases args; simp_all
  obtain ⟨rfl, rfl⟩ := trodVars_none hV
  have k0 := h0
  have lt0 : ∀ x ∈ p0, x.block < W.heap.size := by obtain ⟨m, hm⟩ := k0; exact DataW.trod_lt m _ _ _ hm
  obtain ⟨o0, rfl, z0⟩ := op_arg (j := 0) (hval 0 31 v0 rfl rfl) h0 hsz rfl rfl
  clear hA0 hval0 hsz hsz0
  refine (walk o0 z0 W ).mono fun e W' ⟨he, bel⟩ => ?_
  subst he
  exact ⟨_, rfl, _, _, _, [], _, [], hW', trodAll_mk1 (shut_bool Tryz.underlying4 _), (trodAll_cons_mk (Below.trod laidOut (by kernel_rfl) (of_decide_eq_true (by kernel_rfl)) k0 bel lt0) trodAll_mk0), rfl, bel.frame _, fun h => by cases h⟩

theorem over : Rows.shelfNilsRow.holds Tryz.pinned (OpenSpec.ofChange Rows.shelfNilsSpec) :=
  OpenClaim.holds_of_wide 7 Tryz.f7 rfl rfl rfl rfl rfl rfl rfl ⟨rfl, rfl, rfl, rfl, rfl⟩ rfl rfl rfl rfl rfl (by kernel_rfl) Tryz.func7 (by kernel_rfl)
    (of_decide_eq_true (by kernel_rfl)) (by unfold Func.isWrapper; first | (rw [if_pos (by decide +kernel)]; kernel_rfl) | (rw [if_neg (by decide +kernel)]; exact ⟨rfl, rfl⟩))
    (fun os started H enc _ => lifted os started H enc)

end Go.Proofs.YtnafalkcgghjgaaGreatDoor.shelfNils
namespace Go.Proofs.YtnafalkcgghjgaaGreatDoor
/-- The given statement. -/
theorem shelfNils_holds : Rows.ShelfNilsCardSaid :=
  Claim7.holds_tied_plain_at .later [] [.data, .pinned] true (true, "6fd85e21264fb8f5d6a7739dc9528525e97b2eb9f19e70d35414b6e16557796b") false
    shelfNils.over (fun _ h => by cases h) (by kernel_rfl) (fun _ h => by cases h) shelfNils_row_tie rfl ⟨rfl, rfl⟩ (by kernel_rfl) rfl
    (fun f fn hf hfn => by
      obtain rfl : f = 7 := Option.some.inj ((show Tryz.prog.funcNamed "strongroom/strongroomlaw08.ShelfNils" = some 7 by kernel_rfl).symm.trans hf) |>.symm
      obtain rfl : fn = Tryz.f7 := (Option.some.inj (Tryz.func7.symm.trans hfn)).symm
      exact ⟨by kernel_rfl, fun j t ht => by
        rw [Tryz.params7] at ht
        rcases j with _ | j
        · obtain rfl : t = 31 := by simpa using ht.symm
          exact (show Tryz.prog.wantsStandIn 31 = false by kernel_rfl)
        · simp at ht
      ⟩)
    (by kernel_rfl)
#print axioms shelfNils_holds
end Go.Proofs.YtnafalkcgghjgaaGreatDoor
