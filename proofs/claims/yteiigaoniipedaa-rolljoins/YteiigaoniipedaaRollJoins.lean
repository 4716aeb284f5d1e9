/- Proved: for every a, b and c, the law RollJoins returns true, a, b and c as they were. No condition: every input that can be read as data. -/
import Derived.Test.YteiigaoniipedaaRows
import Derived.Test.YteiigaoniipedaaF
import Derived.WalkKit
import Derived.ProofKit
import Derived.OpenShut
import Derived.ShutString
import Derived.ChangeOld
import Derived.Below
namespace Go.Proofs.Yteiigaoniipedaa.rollJoins
open Go.ChangeShapes Go.WideShapes Go.ChangeAt Go.RowKit
theorem own : ownKnob Try.prog.godebug = none := by kernel_rfl
theorem laidOut : laidOutB Try.prog = true := by kernel_rfl

set_option maxRecDepth 100000 in
set_option maxHeartbeats 2000000 in
theorem walk (a0 : Option Addr) (len0 cap0 : Nat) (zs0 : List Int) (a1 : Option Addr) (len1 cap1 : Nat) (zs1 : List Int) (a2 : Option Addr) (len2 cap2 : Nat) (zs2 : List Int) (w : World) (w0 : IsRow .u8 w a0 len0 cap0 zs0) (w1 : IsRow .u8 w a1 len1 cap1 zs1) (w2 : IsRow .u8 w a2 len2 cap2 zs2) :
    Calls Try.prog 6 #[.slice a0 len0 cap0, .slice a1 len1 cap1, .slice a2 len2 cap2] w fun e w' => e = .returned (.bool true) ∧ Below w.heap.size w w' := by
  have HLV : Hid (∀ W, Below w.heap.size w W → Calls Try.prog 9 #[] W fun e w' => e = .returned (.bool true) ∧ Below w.heap.size w w') := by
    intro W hW
    refine (lives_any W).mono ?_
    rintro e w' ⟨rfl, hb⟩
    exact ⟨rfl, hW.trans (hb.mono hW.size)⟩
  obtain ⟨A, hA⟩ := w0.bsI
  obtain ⟨B, hB⟩ := w1.bsI
  obtain ⟨C, hC⟩ := w2.bsI
  have hm0 : len0 ≤ 9223372036854775807 := Nat.le_trans hA.2.1 hA.2.2.1
  have hm1 : len1 ≤ 9223372036854775807 := Nat.le_trans hB.2.1 hB.2.2.1
  have hm2 : len2 ≤ 9223372036854775807 := Nat.le_trans hC.2.1 hC.2.2.1
  by_cases h0 : 1000 < len0
  · have hi : (1000 : Int) < (len0 : Int) := by omega
    clear w0 w1 w2 hA hB hC
    go_enter Try.func6, Try.ntmps6
    go_wp2_with (go_at_call 9; refine (HLV.out _ (Below.refl _ _)).mono ?_; rintro e w' ⟨rfl, hb⟩)
    go_ret
    exact ⟨rfl, hb⟩
  by_cases h1 : 1000 < len1
  · have hi : ¬ (1000 : Int) < (len0 : Int) := by omega
    have hi1 : (1000 : Int) < (len1 : Int) := by omega
    clear w0 w1 w2 hA hB hC
    go_enter Try.func6, Try.ntmps6
    go_wp2_with (go_at_call 9; refine (HLV.out _ (Below.refl _ _)).mono ?_; rintro e w' ⟨rfl, hb⟩)
    go_ret
    exact ⟨rfl, hb⟩
  by_cases h2 : 1000 < len2
  · have hi : ¬ (1000 : Int) < (len0 : Int) := by omega
    have hi1 : ¬ (1000 : Int) < (len1 : Int) := by omega
    have hi2 : (1000 : Int) < (len2 : Int) := by omega
    clear w0 w1 w2 hA hB hC
    go_enter Try.func6, Try.ntmps6
    go_wp2_with (go_at_call 9; refine (HLV.out _ (Below.refl _ _)).mono ?_; rintro e w' ⟨rfl, hb⟩)
    go_ret
    exact ⟨rfl, hb⟩
  have hi : ¬ (1000 : Int) < (len0 : Int) := by omega
  have hi1 : ¬ (1000 : Int) < (len1 : Int) := by omega
  have hi2 : ¬ (1000 : Int) < (len2 : Int) := by omega
  have HA : Hid (BsI w a0 len0 cap0 A) := hA
  have HB : Hid (BsI w a1 len1 cap1 B) := hB
  have HC : Hid (BsI w a2 len2 cap2 C) := hC
  have HN0 : Hid (a0 = none → cap0 = 0) := w0.nocap
  have HN1 : Hid (a1 = none → cap1 = 0) := w1.nocap
  have HN2 : Hid (a2 = none → cap2 = 0) := w2.nocap
  obtain ⟨X, hX⟩ : ∃ X, wsum A = X := ⟨_, rfl⟩
  obtain ⟨Y, hY⟩ : ∃ X, wsum B = X := ⟨_, rfl⟩
  obtain ⟨Z, hZ⟩ : ∃ X, wsum C = X := ⟨_, rfl⟩
  obtain ⟨T, hT⟩ : ∃ X, wsum (A ++ B) = X := ⟨_, rfl⟩
  obtain ⟨V, hV⟩ : ∃ X, wsum (B ++ C) = X := ⟨_, rfl⟩
  obtain ⟨U, hU⟩ : ∃ X, wsum (A ++ B ++ C) = X := ⟨_, rfl⟩
  have HSA : Hid (∀ W, Below w.heap.size w W → Calls Try.prog 10 #[.slice a0 len0 cap0] W fun e w' => e = .returned (.int .u32 (X : Int)) ∧ w' = W) := fun W hW => hX ▸ sum_any _ _ _ _ W (HA.out.below hW)
  have HSB : Hid (∀ W, Below w.heap.size w W → Calls Try.prog 10 #[.slice a1 len1 cap1] W fun e w' => e = .returned (.int .u32 (Y : Int)) ∧ w' = W) := fun W hW => hY ▸ sum_any _ _ _ _ W (HB.out.below hW)
  have HSC : Hid (∀ W, Below w.heap.size w W → Calls Try.prog 10 #[.slice a2 len2 cap2] W fun e w' => e = .returned (.int .u32 (Z : Int)) ∧ w' = W) := fun W hW => hZ ▸ sum_any _ _ _ _ W (HC.out.below hW)
  have HST : Hid (∀ W g cp, W.ownsRow w.heap.size 5 1 (.slice (some ⟨g, 0, none⟩) (len0 + len1) cp) (len0 + len1) (bytesV (A ++ B)) → Calls Try.prog 10 #[.slice (some ⟨g, 0, none⟩) (len0 + len1) cp] W fun e w' => e = .returned (.int .u32 (T : Int)) ∧ w' = W) := fun W g cp h => hT ▸ sum_any _ _ _ _ W (BsI.owned h)
  have HSU : Hid (∀ W g cp, W.ownsRow w.heap.size 5 1 (.slice (some ⟨g, 0, none⟩) (len0 + len1 + len2) cp) (len0 + len1 + len2) (bytesV (A ++ B ++ C)) → Calls Try.prog 10 #[.slice (some ⟨g, 0, none⟩) (len0 + len1 + len2) cp] W fun e w' => e = .returned (.int .u32 (U : Int)) ∧ w' = W) := fun W g cp h => hU ▸ sum_any _ _ _ _ W (BsI.owned h)
  have HJ1 : Hid (∀ W, Calls Try.prog 14 #[.int .u32 (X : Int), .int .u32 (Y : Int), .int .i64 (len1 : Int)] W fun e w' => e = .returned (.int .u32 (T : Int)) ∧ w' = W) := by
    intro W
    have := join_any (wsum A) (wsum B) (B.length : Int) W (wsum_lt _) (wsum_lt _)
    rw [join_wsum, hX, hY, hT, hB.1] at this
    exact this
  have HJ2 : Hid (∀ W, Calls Try.prog 14 #[.int .u32 (T : Int), .int .u32 (Z : Int), .int .i64 (len2 : Int)] W fun e w' => e = .returned (.int .u32 (U : Int)) ∧ w' = W) := by
    intro W
    have := join_any (wsum (A ++ B)) (wsum C) (C.length : Int) W (wsum_lt _) (wsum_lt _)
    rw [join_wsum, hT, hZ, hU, hC.1] at this
    exact this
  have HJ3 : Hid (∀ W, Calls Try.prog 14 #[.int .u32 (Y : Int), .int .u32 (Z : Int), .int .i64 (len2 : Int)] W fun e w' => e = .returned (.int .u32 (V : Int)) ∧ w' = W) := by
    intro W
    have := join_any (wsum B) (wsum C) (C.length : Int) W (wsum_lt _) (wsum_lt _)
    rw [join_wsum, hY, hZ, hV, hC.1] at this
    exact this
  have HJ4 : Hid (∀ W, Calls Try.prog 14 #[.int .u32 (X : Int), .int .u32 (V : Int), .int .i64 ((len1 : Int) + (len2 : Int))] W fun e w' => e = .returned (.int .u32 (U : Int)) ∧ w' = W) := by
    intro W
    have := join_any (wsum A) (wsum (B ++ C)) ((B ++ C).length : Int) W (wsum_lt _) (wsum_lt _)
    rw [join_wsum, hX, hV, ← List.append_assoc, hU, List.length_append, hB.1, hC.1] at this
    simpa using this
  have HGR : Hid (∀ (W W' : World) (g : Nat) {n cp k : Nat} {l : List Value}, Below w.heap.size w W → W.ownsRow w.heap.size 5 1 (.slice (some ⟨g, 0, none⟩) n cp) k l → W.grownBy W' (some g) → Below w.heap.size w W') := by
    intro W W' g n cp k l hW ho hg
    exact hW.grown hg hW.size (by intro k hk; cases hk; exact (ho.lt g rfl).1)
  have HO0 : Hid ((w.alloc (.cells #[] 5)).ownsRow w.heap.size 5 1 (.slice (some ⟨w.heap.size, 0, none⟩) 0 0) 0 (bytesV [])) := World.ownsRow_made w #[] 0 (Nat.le_refl _) (by decide) rfl
  have HB0 : Hid (Below w.heap.size w (w.alloc (.cells #[] 5))) := (Below.refl _ w).alloc (Nat.le_refl _) _
  clear w0 w1 w2 hA hB hC h0 h1 h2 hX hY hZ hT hV hU
  go_enter Try.func6, Try.ntmps6
  go_wp2_with (first | (at_builtin; refine append_bs _ rfl (.tmp 27) (.tmp 28) rfl w.heap.size w.heap.size 0 0 [] rfl HO0.out a0 len0 cap0 A rfl (HA.out.below HB0.out) HN0.out (by omega) HB0.out.size ?_; intro g1 cp1 v1 hown1 hgrow1; have HO1 : Hid (v1.ownsRow w.heap.size 5 1 (.slice (some ⟨g1, 0, none⟩) (len0) cp1) (len0) (bytesV (A))) := (by (first | exact hown1 | (show World.ownsRow _ _ _ _ _ _ _; simpa using hown1))); have HB1 : Hid (Below w.heap.size w v1) := HGR.out _ _ _ HB0.out HO0.out hgrow1; clear hown1 hgrow1) | (at_builtin; refine append_bs _ rfl (.tmp 30) (.tmp 31) rfl w.heap.size g1 len0 cp1 A rfl HO1.out a1 len1 cap1 B rfl (HB.out.below HB1.out) HN1.out (by omega) HB1.out.size ?_; intro g2 cp2 v2 hown2 hgrow2; have HO2 : Hid (v2.ownsRow w.heap.size 5 1 (.slice (some ⟨g2, 0, none⟩) (len0 + len1) cp2) (len0 + len1) (bytesV (A ++ B))) := (by (first | exact hown2 | (show World.ownsRow _ _ _ _ _ _ _; simpa using hown2))); have HB2 : Hid (Below w.heap.size w v2) := HGR.out _ _ _ HB1.out HO1.out hgrow2; clear hown2 hgrow2) | (at_builtin; refine append_bs _ rfl (.tmp 48) (.tmp 49) rfl w.heap.size g2 (len0 + len1) cp2 (A ++ B) rfl HO2.out a2 len2 cap2 C rfl (HC.out.below HB2.out) HN2.out (by omega) HB2.out.size ?_; intro g3 cp3 v3 hown3 hgrow3; have HO3 : Hid (v3.ownsRow w.heap.size 5 1 (.slice (some ⟨g3, 0, none⟩) (len0 + len1 + len2) cp3) (len0 + len1 + len2) (bytesV (A ++ B ++ C))) := (by (first | exact hown3 | (show World.ownsRow _ _ _ _ _ _ _; simpa using hown3))); have HB3 : Hid (Below w.heap.size w v3) := HGR.out _ _ _ HB2.out HO2.out hgrow3; clear hown3 hgrow3) | (go_at_call 10; first | with_reducible refine (HSA.out _ HB2.out).mono ?_ | with_reducible refine (HSB.out _ HB2.out).mono ?_ | with_reducible refine (HSC.out _ HB2.out).mono ?_ | with_reducible refine (HST.out _ _ _ HO2.out).mono ?_ | with_reducible refine (HSU.out _ _ _ HO3.out).mono ?_); (rintro e w' ⟨rfl, h⟩; subst w') | (go_at_call 14; first | with_reducible refine (HJ1.out _).mono ?_ | with_reducible refine (HJ2.out _).mono ?_ | with_reducible refine (HJ3.out _).mono ?_ | with_reducible refine (HJ4.out _).mono ?_); (rintro e w' ⟨rfl, h⟩; subst w') | (go_at_call 9; refine (HLV.out _ HB3.out).mono ?_; rintro e w' ⟨rfl, hb⟩))
  go_ret
  exact ⟨rfl, hb⟩

set_option linter.unusedVariables false in
set_option maxRecDepth 100000 in
theorem lifted (os : Os) (started : os.Started) (H : Type) (enc : TypeId × Value → H) :
    ReturnsInHanded {} Try.checked os 6 .any (Rows.rollJoinsSpec.pre6 enc Try.prog Try.f6 Rows.rollJoinsRow.domain false) (Rows.rollJoinsSpec.post enc Try.prog Try.f6 false true false false) := by
  refine returnsInHanded_of_change (C := Try.checked) own started (by kernel_rfl) Try.func6
    (ChangeSpec.witness6 (enc := enc) (C := Try.checked) false ⟨#[], #[.slice none 0 0, .slice none 0 0, .slice none 0 0], []⟩ 8 (by kernel_rfl) (by kernel_rfl) (by kernel_rfl) (by kernel_rfl)) ?_
  intro W base args ds gs before hval0 hW hcnd _
  have hval : ∀ (j : Nat) t v, Try.f6.params[j]? = some t → args[j]? = some v → Value.okWide Try.prog W .any base t v := hval0
  have hW' := hW
  obtain ⟨p, q, hA0, hV, rfl, hfz, hnd⟩ := hW
  have hA : DataW.TrodAll enc Try.prog W 0 (fun _ => true) true Try.f6.params.toList args.toList ds p := hA0
  rw [Try.params6] at hA hval
  obtain ⟨v0, vs0, d0, ds0, p0, q0, hargs, rfl, rfl, h0, r0⟩ := trodAll_cons hA
  obtain ⟨v1, vs1, d1, ds1, p1, q1, rfl, rfl, rfl, h1, r1⟩ := trodAll_cons r0
  obtain ⟨v2, vs2, d2, ds2, p2, q2, rfl, rfl, rfl, h2, r2⟩ := trodAll_cons r1
  obtain ⟨rfl, rfl, rfl⟩ := trodAll_nil r2
  obtain rfl : args = #[v0, v1, v2] := by cases args; simp_all
  obtain ⟨rfl, rfl⟩ := trodVars_none hV
  have k0 := h0
  have lt0 : ∀ x ∈ p0, x.block < W.heap.size := by obtain ⟨m, hm⟩ := k0; exact DataW.trod_lt m _ _ _ hm
  obtain ⟨a0, len0, cap0, rfl⟩ := okWide_slice Try.underlying22 (hval 0 22 v0 rfl rfl)
  obtain ⟨zs0, w0⟩ : ∃ zs, IsRow .u8 W a0 len0 cap0 zs := by
    obtain ⟨fuel, hf⟩ := h0
    rcases open_ints Try.underlying22 Try.underlying5 (by kernel_rfl) hf with ⟨hcs, _⟩ | ⟨x, l, c, zs, hcs, _, hl, hm, hz, _, hcell, hwz⟩
    · simp [Value.cells] at hcs
      obtain ⟨rfl, rfl, rfl⟩ := hcs
      exact ⟨[], .inl ⟨rfl, rfl, rfl, rfl⟩⟩
    · simp [Value.cells] at hcs
      obtain ⟨rfl, rfl, rfl⟩ := hcs
      exact ⟨zs, .inr ⟨_, rfl, hl, hm, by simpa using hz, hcell, hwz⟩⟩
  have k1 := h1
  have lt1 : ∀ x ∈ p1, x.block < W.heap.size := by obtain ⟨m, hm⟩ := k1; exact DataW.trod_lt m _ _ _ hm
  obtain ⟨a1, len1, cap1, rfl⟩ := okWide_slice Try.underlying22 (hval 1 22 v1 rfl rfl)
  obtain ⟨zs1, w1⟩ : ∃ zs, IsRow .u8 W a1 len1 cap1 zs := by
    obtain ⟨fuel, hf⟩ := h1
    rcases open_ints Try.underlying22 Try.underlying5 (by kernel_rfl) hf with ⟨hcs, _⟩ | ⟨x, l, c, zs, hcs, _, hl, hm, hz, _, hcell, hwz⟩
    · simp [Value.cells] at hcs
      obtain ⟨rfl, rfl, rfl⟩ := hcs
      exact ⟨[], .inl ⟨rfl, rfl, rfl, rfl⟩⟩
    · simp [Value.cells] at hcs
      obtain ⟨rfl, rfl, rfl⟩ := hcs
      exact ⟨zs, .inr ⟨_, rfl, hl, hm, by simpa using hz, hcell, hwz⟩⟩
  have k2 := h2
  have lt2 : ∀ x ∈ p2, x.block < W.heap.size := by obtain ⟨m, hm⟩ := k2; exact DataW.trod_lt m _ _ _ hm
  obtain ⟨a2, len2, cap2, rfl⟩ := okWide_slice Try.underlying22 (hval 2 22 v2 rfl rfl)
  obtain ⟨zs2, w2⟩ : ∃ zs, IsRow .u8 W a2 len2 cap2 zs := by
    obtain ⟨fuel, hf⟩ := h2
    rcases open_ints Try.underlying22 Try.underlying5 (by kernel_rfl) hf with ⟨hcs, _⟩ | ⟨x, l, c, zs, hcs, _, hl, hm, hz, _, hcell, hwz⟩
    · simp [Value.cells] at hcs
      obtain ⟨rfl, rfl, rfl⟩ := hcs
      exact ⟨[], .inl ⟨rfl, rfl, rfl, rfl⟩⟩
    · simp [Value.cells] at hcs
      obtain ⟨rfl, rfl, rfl⟩ := hcs
      exact ⟨zs, .inr ⟨_, rfl, hl, hm, by simpa using hz, hcell, hwz⟩⟩
  clear hA0 hval0
  refine (walk a0 len0 cap0 zs0 a1 len1 cap1 zs1 a2 len2 cap2 zs2 W w0 w1 w2).mono fun e W' ⟨he, bel⟩ => ?_
  subst he
  exact ⟨_, rfl, _, _, _, [], _, [], hW', trodAll_mk1 (shut_bool Try.underlying4 _), (trodAll_cons_mk (Below.trod laidOut (by kernel_rfl) (of_decide_eq_true (by kernel_rfl)) k0 bel lt0) (trodAll_cons_mk (Below.trod laidOut (by kernel_rfl) (of_decide_eq_true (by kernel_rfl)) k1 bel lt1) (trodAll_cons_mk (Below.trod laidOut (by kernel_rfl) (of_decide_eq_true (by kernel_rfl)) k2 bel lt2) trodAll_mk0))), rfl, bel.frame _, fun h => by cases h⟩

theorem over : Rows.rollJoinsRow.holds Try.pinned (OpenSpec.ofChange Rows.rollJoinsSpec) :=
  OpenClaim.holds_of_wide 6 Try.f6 rfl rfl rfl rfl rfl rfl rfl ⟨rfl, rfl, rfl, rfl, rfl⟩ rfl rfl rfl rfl rfl (by kernel_rfl) Try.func6 (by kernel_rfl)
    (of_decide_eq_true (by kernel_rfl)) (by unfold Func.isWrapper; first | (rw [if_pos (by decide +kernel)]; kernel_rfl) | (rw [if_neg (by decide +kernel)]; exact ⟨rfl, rfl⟩))
    (fun os started H enc _ => lifted os started H enc)

end Go.Proofs.Yteiigaoniipedaa.rollJoins
namespace Go.Proofs.Yteiigaoniipedaa
/-- The given statement. -/
theorem rollJoins_holds : Rows.RollJoinsSaid := rollJoins.over
#print axioms rollJoins_holds
end Go.Proofs.Yteiigaoniipedaa
