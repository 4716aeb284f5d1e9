/- Proved: for every size, every length and every step, the law ExtentNils returns true, the step as it was. No condition: every input that can be read as data. -/
import Derived.Test.YtgihdfmeokbplaaRows
import Derived.Test.YtgihdfmeokbplaaXY
import Derived.Test.YtgihdfmeokbplaaXP
import Derived.WalkKit
import Derived.ProofKit
import Derived.OpenShut
import Derived.ShutString
import Derived.ChangeOld
import Derived.Below
namespace Go.Proofs.Ytgihdfmeokbplaa.extentNils
open Go.ChangeShapes Go.WideShapes Go.ChangeAt Go.RowKit Ex
theorem own : ownKnob Try.prog.godebug = none := by kernel_rfl
theorem laidOut : laidOutB Try.prog = true := by kernel_rfl

set_option maxRecDepth 100000 in
set_option maxHeartbeats 8000000 in
theorem walk (x0 : Int) (z0 : -9223372036854775808 ≤ x0 ∧ x0 ≤ 9223372036854775807) (x1 : Int) (z1 : -9223372036854775808 ≤ x1 ∧ x1 ≤ 9223372036854775807) (o2 : OV) (_z2 : o2.In) (w : World)  :
    Calls Try.prog 8 #[.int .i64 x0, .int .i64 x1, o2.agg] w fun e w' => e = .returned (.bool true) ∧ Below w.heap.size w w' := by
  obtain ⟨B, hB⟩ : ∃ B, w.heap.size = B := ⟨_, rfl⟩
  obtain ⟨W0, hW0⟩ : ∃ W0, w.alloc (.cells #[.int .i64 o2.kind, .int .i64 o2.n, .int .i64 o2.rule, .int .i64 o2.at_.1, .int .i64 o2.at_.2] 39) = W0 := ⟨_, rfl⟩
  have hr0 : W0.heap[B]? = some (.cells #[.int .i64 o2.kind, .int .i64 o2.n, .int .i64 o2.rule, .int .i64 o2.at_.1, .int .i64 o2.at_.2] 39 (0, 0)) := by rw [← hW0, ← hB]; exact heap_alloc_new w _
  have hb0 : Below w.heap.size w W0 := by rw [← hW0]; exact (Below.refl _ w).alloc (Nat.le_refl _) _
  have H0 : Hid (Below w.heap.size w W0) := hb0
  have c1 : W0.cell? ⟨B, 1, none⟩ = some (.int .i64 o2.n) := by rw [cell_of_row _ B _ _ _ _ hr0]; rfl
  have c2 : W0.cell? ⟨B, 2, none⟩ = some (.int .i64 o2.rule) := by rw [cell_of_row _ B _ _ _ _ hr0]; rfl
  have c3 : W0.cell? ⟨B, 3, none⟩ = some (.int .i64 o2.at_.1) := by rw [cell_of_row _ B _ _ _ _ hr0]; rfl
  have c4 : W0.cell? ⟨B, 4, none⟩ = some (.int .i64 o2.at_.2) := by rw [cell_of_row _ B _ _ _ _ hr0]; rfl
  have HAL := alloc_nil o2.n o2.rule W0
  have HPL := plan_nil W0
  have HTK := take_nil o2.at_ W0
  unfold OV.agg
  unfold spA at HTK
  clear hr0 hb0
  go_enter Try.func8, Try.ntmps8
  go_wp2_with fail
  refine HAL.mono ?_
  rintro e V ⟨rfl, hV⟩
  subst V
  clear HAL
  go_wp2_with fail
  refine HPL.mono ?_
  rintro e V ⟨rfl, hV⟩
  subst V
  clear HPL
  go_wp2_with fail
  refine HTK.mono ?_
  rintro e V1 ⟨rfl, hV1⟩
  have d3 := keepc hV1 c3
  have d4 := keepc hV1 c4
  have H1 : Hid (Below w.heap.size w V1) := H0.out.trans (hV1.mono H0.out.size)
  have HGV := give_nil o2.at_ V1
  unfold spA at HGV
  clear HTK hV1 c1 c2 c3 c4
  go_wp2_with fail
  refine HGV.mono ?_
  rintro e V2 ⟨rfl, hV2⟩
  have H2 : Hid (Below w.heap.size w V2) := H1.out.trans (hV2.mono H1.out.size)
  have HS1 := size_nil V2
  have HS2 := free_nil V2
  have HS3 := largest_nil V2
  have HS4 := holes_nil V2
  have HS5 := taken_nil V2
  have HS6 := encode_nil V2
  clear HGV hV2 d3 d4
  go_wp2_with fail
  refine HS1.mono ?_
  rintro e V ⟨rfl, hV⟩
  subst V
  clear HS1
  go_wp2_with fail
  refine HS2.mono ?_
  rintro e V ⟨rfl, hV⟩
  subst V
  clear HS2
  go_wp2_with fail
  refine HS3.mono ?_
  rintro e V ⟨rfl, hV⟩
  subst V
  clear HS3
  go_wp2_with fail
  refine HS4.mono ?_
  rintro e V ⟨rfl, hV⟩
  subst V
  clear HS4
  go_wp2_with fail
  refine HS5.mono ?_
  rintro e V ⟨rfl, hV⟩
  subst V
  clear HS5
  go_wp2_with fail
  refine HS6.mono ?_
  rintro e V ⟨rfl, hV⟩
  subst V
  clear HS6
  by_cases hx : 1 ≤ x0 ∧ x0 ≤ 1048576
  rotate_left
  · have HNB := new_bad x0 V2 hx
    clear hx z0 z1
    go_wp2_with fail
    refine HNB.mono ?_
    rintro e V ⟨rfl, hV⟩
    subst V
    clear HNB
    have HLV := lives_h H2.out
    go_wp2_with fail
    refine HLV.mono ?_
    rintro e w9 ⟨rfl, hb9⟩
    have HB9 : Hid (Below w.heap.size w w9) := hb9
    clear HLV hb9
    go_wp2
    go_ret
    exact ⟨rfl, HB9.out⟩
  obtain ⟨sz, rfl⟩ := Int.eq_ofNat_of_zero_le (show 0 ≤ x0 by omega)
  have hs1 : 1 ≤ sz := by omega
  have hs2 : sz ≤ 1048576 := by omega
  have HNW := new_any sz V2 hs1 hs2
  clear hx z0
  go_wp2_with fail
  refine HNW.mono ?_
  rintro e V3 ⟨ab, rfl, h3, hb3⟩
  have HEN := encode_any h3
  have H3 : Hid (Below w.heap.size w V3) := H2.out.trans (hb3.mono H2.out.size)
  clear HNW h3 hb3
  go_wp2_with fail
  refine HEN.mono ?_
  rintro e V4 ⟨a, c, rfl, hrow, hb4⟩
  have HDC : Hid (∀ k, k < (encB (Ar.new sz)).length → decA ((encB (Ar.new sz)).take k) = (none, 4)) := fun k hk => dec_cut hs1 hs2 hk
  have H4 : Hid (Below w.heap.size w V4) := H3.out.trans (hb4.mono H3.out.size)
  obtain ⟨bs, hbs⟩ : ∃ bs, encB (Ar.new sz) = bs := ⟨_, rfl⟩
  rw [hbs] at hrow HDC
  try rw [hbs]
  obtain ⟨L, hL⟩ : ∃ L, bs.length = L := ⟨_, rfl⟩
  rw [hL] at hrow HDC
  try rw [hL]
  clear HEN hb4 hbs
  by_cases hk : 0 ≤ x1 ∧ x1 < (L : Int)
  rotate_left
  · have H4o := H4.out
    by_cases hk0 : x1 < 0
    · clear hk hrow
      have HLV := lives_h H4o
      go_wp2_with fail
      refine HLV.mono ?_
      rintro e w9 ⟨rfl, hb9⟩
      have HB9 : Hid (Below w.heap.size w w9) := hb9
      clear HLV hb9
      go_wp2
      go_ret
      exact ⟨rfl, HB9.out⟩
    · have hk1 : ¬ x1 < (L : Int) := by omega
      have hk2 : (L : Int) ≤ x1 := by omega
      clear hk hrow
      have HLV := lives_h H4o
      go_wp2_with fail
      refine HLV.mono ?_
      rintro e w9 ⟨rfl, hb9⟩
      have HB9 : Hid (Below w.heap.size w w9) := hb9
      clear HLV hb9
      go_wp2
      go_ret
      exact ⟨rfl, HB9.out⟩
  obtain ⟨k, rfl⟩ := Int.eq_ofNat_of_zero_le hk.1
  have hkL : k < L := by omega
  have hk3 : ¬ (L : Int) ≤ (k : Int) := by omega
  have hk4 : ¬ (k : Int) < 0 := by omega
  obtain ⟨g, rfl, hcp⟩ : ∃ g, a = some ⟨g, 0, none⟩ ∧ k ≤ c := by
    rcases hrow.2 with ⟨h5, h6⟩ | ⟨g, cp, cur, e, _, _, h7, _⟩
    · have := hrow.1; cases h5; omega
    · cases e; exact ⟨g, rfl, by omega⟩
  have hkc : (k : Int) ≤ (c : Int) := by omega
  have HDE := decode_any ((Bs.owned hrow).take_ (k := k) (by omega))
  have HDK := HDC.out k hkL
  clear hrow HDC hk
  go_wp2_with fail
  refine HDE.mono ?_
  rintro e V5 hto
  unfold DecTo at hto
  rw [HDK] at hto
  obtain ⟨rfl, hb5⟩ := hto
  have H5 : Below w.heap.size w V5 := H4.out.trans (hb5.mono H4.out.size)
  have HLV := lives_h H5
  clear HDE HDK hb5 H5
  go_wp2_with fail
  refine HLV.mono ?_
  rintro e w9 ⟨rfl, hb9⟩
  have HB9 : Hid (Below w.heap.size w w9) := hb9
  clear HLV hb9
  go_wp2
  go_ret
  exact ⟨rfl, HB9.out⟩

set_option linter.unusedVariables false in
set_option maxRecDepth 100000 in
theorem lifted (os : _root_.Go.Os) (started : os.Started) (H : Type) (enc : TypeId × Value → H) :
    ReturnsInHanded {} Try.checked os 8 .any (Rows.extentNilsSpec.pre6 enc Try.prog Try.f8 Rows.extentNilsRow.domain false) (Rows.extentNilsSpec.post enc Try.prog Try.f8 false true false false) := by
  refine returnsInHanded_of_change (C := Try.checked) own started (by kernel_rfl) Try.func8
    (ChangeSpec.witness6 (enc := enc) (C := Try.checked) false ⟨#[], #[.int .i64 0, .int .i64 0, .agg #[.int .i64 0, .int .i64 0, .int .i64 0, .int .i64 0, .int .i64 0]], []⟩ 8 (by kernel_rfl) (by kernel_rfl) (by kernel_rfl) (by kernel_rfl)) ?_
  intro W base args ds gs before hval0 hW hcnd _
  have hval : ∀ (j : Nat) t v, Try.f8.params[j]? = some t → args[j]? = some v → Value.okWide Try.prog W .any base t v := hval0
  have hW' := hW
  obtain ⟨p, q, hA0, hV, rfl, hfz, hnd⟩ := hW
  have hA : DataW.TrodAll enc Try.prog W 0 (fun _ => true) true Try.f8.params.toList args.toList ds p := hA0
  rw [Try.params8] at hA hval
  obtain ⟨v0, vs0, d0, ds0, p0, q0, hargs, rfl, rfl, h0, r0⟩ := trodAll_cons hA
  obtain ⟨v1, vs1, d1, ds1, p1, q1, rfl, rfl, rfl, h1, r1⟩ := trodAll_cons r0
  obtain ⟨v2, vs2, d2, ds2, p2, q2, rfl, rfl, rfl, h2, r2⟩ := trodAll_cons r1
  obtain ⟨rfl, rfl, rfl⟩ := trodAll_nil r2
  obtain rfl : args = #[v0, v1, v2] := by cases args; simp_all
  obtain ⟨rfl, rfl⟩ := trodVars_none hV
  obtain ⟨x0, rfl, rfl, rfl, w0⟩ := open_int Try.underlying3 (hval 0 3 v0 rfl rfl) h0
  obtain ⟨x1, rfl, rfl, rfl, w1⟩ := open_int Try.underlying3 (hval 1 3 v1 rfl rfl) h1
  have k2 := h2
  have lt2 : ∀ x ∈ p2, x.block < W.heap.size := by obtain ⟨m, hm⟩ := k2; exact DataW.trod_lt m _ _ _ hm
  obtain ⟨o2, rfl, z2⟩ := op_arg (hval 2 39 v2 rfl rfl) h2
  clear hA0 hval0
  refine (walk x0 (wf_i64 w0) x1 (wf_i64 w1) o2 z2 W ).mono fun e W' ⟨he, bel⟩ => ?_
  subst he
  exact ⟨_, rfl, _, _, _, [], _, [], hW', trodAll_mk1 (shut_bool Try.underlying4 _), (trodAll_cons_mk (shut_int Try.underlying3 w0) (trodAll_cons_mk (shut_int Try.underlying3 w1) (trodAll_cons_mk (Below.trod laidOut (by kernel_rfl) (of_decide_eq_true (by kernel_rfl)) k2 bel lt2) trodAll_mk0))), rfl, bel.frame _, fun h => by cases h⟩

theorem over : Rows.extentNilsRow.holds Try.pinned (OpenSpec.ofChange Rows.extentNilsSpec) :=
  OpenClaim.holds_of_wide 8 Try.f8 rfl rfl rfl rfl rfl rfl rfl ⟨rfl, rfl, rfl, rfl, rfl⟩ rfl rfl rfl rfl rfl (by kernel_rfl) Try.func8 (by kernel_rfl)
    (of_decide_eq_true (by kernel_rfl)) (by unfold Func.isWrapper; first | (rw [if_pos (by decide +kernel)]; kernel_rfl) | (rw [if_neg (by decide +kernel)]; exact ⟨rfl, rfl⟩))
    (fun os started H enc _ => lifted os started H enc)

end Go.Proofs.Ytgihdfmeokbplaa.extentNils
namespace Go.Proofs.Ytgihdfmeokbplaa
/-- The given statement. -/
theorem extentNils_holds : Rows.ExtentNilsSaid := extentNils.over
#print axioms extentNils_holds
end Go.Proofs.Ytgihdfmeokbplaa
