/- Proved: for every b and size, the law RollOn returns true, b and size as they were. No condition: every input that can be read as data. -/
import Derived.Test.YteiigaoniipedaaRows
import Derived.Test.YteiigaoniipedaaE
import Derived.WalkKit
import Derived.ProofKit
import Derived.OpenShut
import Derived.ShutString
import Derived.ChangeOld
import Derived.Below
namespace Go.Proofs.Yteiigaoniipedaa.rollOn
open Go.ChangeShapes Go.WideShapes Go.ChangeAt Go.RowKit
theorem own : ownKnob Try.prog.godebug = none := by kernel_rfl
theorem laidOut : laidOutB Try.prog = true := by kernel_rfl

set_option maxRecDepth 100000 in
set_option maxHeartbeats 2000000 in
theorem walk (a0 : Option Addr) (len0 cap0 : Nat) (zs0 : List Int) (x1 : Int) (z1 : -9223372036854775808 ≤ x1 ∧ x1 ≤ 9223372036854775807) (w : World) (w0 : IsRow .u8 w a0 len0 cap0 zs0) :
    Calls Try.prog 5 #[.slice a0 len0 cap0, .int .i64 x1] w fun e w' => e = .returned (.bool true) ∧ Below w.heap.size w w' := by
  have HLV : Hid (∀ W, Below w.heap.size w W → Calls Try.prog 9 #[] W fun e w' => e = .returned (.bool true) ∧ Below w.heap.size w w') := by
    intro W hW
    refine (lives_any W).mono ?_
    rintro e w' ⟨rfl, hb⟩
    exact ⟨rfl, hW.trans (hb.mono hW.size)⟩
  obtain ⟨bs, hb⟩ := w0.bsI
  have hm : len0 ≤ 9223372036854775807 := Nat.le_trans hb.2.1 hb.2.2.1
  by_cases h5 : 1000 < len0
  · have hi : (1000 : Int) < (len0 : Int) := by omega
    clear w0 hb
    go_enter Try.func5, Try.ntmps5
    go_wp2_with (go_at_call 9; refine (HLV.out _ (Below.refl _ _)).mono ?_; rintro e w' ⟨rfl, hb⟩)
    go_ret
    exact ⟨rfl, hb⟩
  by_cases h6 : x1 < 1
  · have hi : ¬ (1000 : Int) < (len0 : Int) := by omega
    clear w0 hb
    go_enter Try.func5, Try.ntmps5
    go_wp2_with (go_at_call 9; refine (HLV.out _ (Below.refl _ _)).mono ?_; rintro e w' ⟨rfl, hb⟩)
    go_ret
    exact ⟨rfl, hb⟩
  by_cases h7 : (len0 : Int) < x1
  · have hi : ¬ (1000 : Int) < (len0 : Int) := by omega
    clear w0 hb
    go_enter Try.func5, Try.ntmps5
    go_wp2_with (go_at_call 9; refine (HLV.out _ (Below.refl _ _)).mono ?_; rintro e w' ⟨rfl, hb⟩)
    go_ret
    exact ⟨rfl, hb⟩
  obtain ⟨n, rfl⟩ := Int.eq_ofNat_of_zero_le (show 0 ≤ x1 by omega)
  have hi : ¬ (1000 : Int) < (len0 : Int) := by omega
  have hn1 : 1 ≤ n := by omega
  have hnl : n ≤ len0 := by omega
  obtain ⟨bb, bo, rfl, hbl, hcl⟩ := hb.2.2.2 (by omega)
  have hcap : len0 ≤ cap0 := hb.2.1
  have hcap2 : cap0 ≤ 9223372036854775807 := hb.2.2.1
  have HB : Hid (BsI w (some ⟨bb, bo, none⟩) len0 cap0 bs) := hb
  have HLEN : Hid (bs.length = len0) := hb.1
  have hs0 := sl_to bb bo len0 cap0 n (by omega) w
  have HSUM : Hid (∀ (m : Nat) (W : World), m + n ≤ len0 → Below w.heap.size w W → Calls Try.prog 10 #[.slice (some ⟨bb, bo + m, none⟩) n (cap0 - m)] W fun e w' => e = .returned (.int .u32 (wsum (win bs m n) : Int)) ∧ w' = W) := by
    intro m W hmn hW
    exact sum_any _ _ _ _ W ((HB.out.below hW).piece m n (cap0 - m) hmn (by omega) (by omega))
  have HS0 : Hid (Calls Try.prog 10 #[.slice (some ⟨bb, bo, none⟩) n cap0] w fun e w' => e = .returned (.int .u32 (wsum (win bs 0 n) : Int)) ∧ w' = w) := HSUM.out 0 w (by omega) (Below.refl _ _)
  clear w0 hb hcl h5 h6 h7
  go_enter Try.func5, Try.ntmps5
  go_wp2_with (go_at_call 10; refine HS0.out.mono ?_; rintro e w' ⟨rfl, h⟩; subst w')
  clear hs0 HS0
  go_loopw [5, 6] (fun s i wr => ∃ k m : Nat, m + n = k ∧ k ≤ len0 ∧ i = .int .i64 k ∧ s = .int .u32 (wsum (win bs m n) : Int) ∧ Below w.heap.size w wr) (fun _ i _ => len0 - (intOf i).toNat)
  case atStart => exact ⟨n, 0, by omega, hnl, rfl, rfl, Below.refl _ _⟩
  case round =>
    obtain ⟨k, m, hmk, hk, rfl, rfl, hbel⟩ := hrel
    have HBEL : Hid (Below w.heap.size w wr) := hbel
    by_cases hlt : k < len0
    · obtain ⟨c1, hc1⟩ : ∃ c1 : Nat, (bs.getD m 0).toNat = c1 := ⟨_, rfl⟩
      obtain ⟨c2, hc2⟩ : ∃ c2 : Nat, (bs.getD k 0).toNat = c2 := ⟨_, rfl⟩
      have h1 : c1 < 256 := by rw [← hc1]; exact UInt8.toNat_lt _
      have h2 : c2 < 256 := by rw [← hc2]; exact UInt8.toNat_lt _
      have hmi : (k : Int) - (n : Int) = (m : Int) := by omega
      have hml : m < len0 := by omega
      have hwm : IntKind.i64.wrap (m : Int) = (m : Int) := wrapI _ (by omega) (by omega)
      obtain ⟨p, hp⟩ : ∃ p, m + 1 = p := ⟨_, rfl⟩
      obtain ⟨q, hq⟩ : ∃ q, k + 1 = q := ⟨_, rfl⟩
      have hpi : (m : Int) + 1 = (p : Int) := by omega
      have hqi : (k : Int) + 1 = (q : Int) := by omega
      obtain ⟨bb', bo', he, _, hcl⟩ := (HB.out.below hbel).2.2.2 (by omega)
      cases he
      have HC : Hid (wr.cell? ⟨bb, bo + m, none⟩ = some (.int .u8 (c1 : Int)) ∧ wr.cell? ⟨bb, bo + k, none⟩ = some (.int .u8 (c2 : Int))) := ⟨by rw [hcl m hml, hc1], by rw [hcl k hlt, hc2]⟩
      have HNX : Hid (∀ W, Calls Try.prog 12 #[.int .u32 (wsum (win bs m n) : Int), .int .i64 (n : Int), .int .u8 (c1 : Int), .int .u8 (c2 : Int)] W fun e w' => e = .returned (.int .u32 (wsum (win bs p n) : Int)) ∧ w' = W) := by
        intro W
        have := next_any (wsum (win bs m n)) (n : Int) c1 c2 W (wsum_lt _) h1 h2
        rw [← hc1, ← hc2, ← hmk, roll_step bs m n hn1 (by rw [HLEN.out]; omega)] at this
        rw [← hc1, ← hc2, ← hmk, ← hp]
        exact this
      have HSL : Hid (∀ W : World, (Instr.sliceAt 22 (.slice (some ⟨bb, bo, none⟩) len0 cap0) (some (.int .i64 (p : Int))) (some (.int .i64 (q : Int))) none).run Try.prog W = .ok (.slice (some ⟨bb, bo + p, none⟩) n (cap0 - p)) W) := by
        intro W
        have := sl_mid bb bo len0 cap0 p q (by omega) (by omega) (by omega) W
        rw [show q - p = n by omega] at this
        exact this
      have HSN : Hid (Calls Try.prog 10 #[.slice (some ⟨bb, bo + p, none⟩) n (cap0 - p)] wr.drew fun e w' => e = .returned (.int .u32 (wsum (win bs p n) : Int)) ∧ w' = wr.drew) := HSUM.out p wr.drew (by omega) hbel.drew
      obtain ⟨X, hX⟩ : ∃ X : Nat, wsum (win bs p n) = X := ⟨_, rfl⟩
      have HX : Hid (wsum (win bs p n) = X) := hX
      rw [hX] at HNX HSN
      have HQ : Hid (k + 1 = q) := hq
      have HP : Hid (m + 1 = p) := hp
      clear hbel hcl hc1 hc2 hX hq hp
      go_wp2
      refine wp_region_held_drew (S := fun W => W.cell? ⟨bb, bo + m, none⟩ = some (.int .u8 (c1 : Int)) ∧ W.cell? ⟨bb, bo + k, none⟩ = some (.int .u8 (c2 : Int))) (by kernel_rfl) (HC.out) (fun hHeld => ?_)
      refine wpAnyH_take (i := 0) (v := ?v0) rfl (by kernel_rfl) (by kernel_rfl) (by kernel_rfl) (fun _ _ _ h => h) (Or.inl ⟨by kernel_rfl, ?y0⟩) hHeld ?r0
      case y0 => (intro W hSW; have hS1 := hSW.1; have hS2 := hSW.2; clear hSW; go_simp; (try with_reducible rfl))
      change wpAnyH _ _ _ _ _ _ _ (Act.put _ (some 32) _) _
      simp only [Act.put, List.setIfInBounds_toArray, List.set_cons_zero, List.set_cons_succ]
      refine wpAnyH_take (i := 1) (v := ?v1) rfl (by kernel_rfl) (by kernel_rfl) (by kernel_rfl) (fun _ _ _ h => h) (Or.inl ⟨by kernel_rfl, ?y1⟩) hHeld ?r1
      case y1 => (intro W hSW; have hS1 := hSW.1; have hS2 := hSW.2; clear hSW; go_simp; (try with_reducible rfl))
      change wpAnyH _ _ _ _ _ _ _ (Act.put _ (some 33) _) _
      simp only [Act.put, List.setIfInBounds_toArray, List.set_cons_zero, List.set_cons_succ]
      refine wpAnyH_take (i := 2) (v := ?v2) rfl (by kernel_rfl) (by kernel_rfl) (by kernel_rfl) (fun _ _ _ h => h) (Or.inl ⟨by kernel_rfl, ?y2⟩) hHeld ?r2
      case y2 => (intro W hSW; have hS1 := hSW.1; have hS2 := hSW.2; clear hSW; go_simp; (try with_reducible rfl))
      change wpAnyH _ _ _ _ _ _ _ (Act.put _ (some 34) _) _
      simp only [Act.put, List.setIfInBounds_toArray, List.set_cons_zero, List.set_cons_succ]
      refine wpAnyH_take (i := 3) (v := ?v3) rfl (by kernel_rfl) (by kernel_rfl) (by kernel_rfl) (fun _ _ _ h => h) (Or.inl ⟨by kernel_rfl, ?y3⟩) hHeld ?r3
      case y3 => (intro W hSW; have hS1 := hSW.1; have hS2 := hSW.2; clear hSW; go_simp; (try with_reducible rfl))
      change wpAnyH _ _ _ _ _ _ _ (Act.put _ (some 35) _) _
      simp only [Act.put, List.setIfInBounds_toArray, List.set_cons_zero, List.set_cons_succ]
      refine wpAnyH_take (i := 4) (v := ?v4) rfl (by kernel_rfl) (by kernel_rfl) (by kernel_rfl) (fun _ _ _ h => h) (Or.inl ⟨by kernel_rfl, ?y4⟩) hHeld ?r4
      case y4 => (intro W hSW; have hS1 := hSW.1; have hS2 := hSW.2; clear hSW; go_simp; (try with_reducible rfl))
      change wpAnyH _ _ _ _ _ _ _ (Act.put _ (some 36) _) _
      simp only [Act.put, List.setIfInBounds_toArray, List.set_cons_zero, List.set_cons_succ]
      refine wpAnyH_take (i := 5) (v := ?v5) rfl (by kernel_rfl) (by kernel_rfl) (by kernel_rfl) (fun _ _ _ h => h) (Or.inl ⟨by kernel_rfl, ?y5⟩) hHeld ?r5
      case y5 => (intro W hSW; have hS1 := hSW.1; have hS2 := hSW.2; clear hSW; go_simp; (try with_reducible rfl))
      change wpAnyH _ _ _ _ _ _ _ (Act.put _ (some 37) _) _
      simp only [Act.put, List.setIfInBounds_toArray, List.set_cons_zero, List.set_cons_succ]
      refine wpAnyH_take (i := 6) (v := ?v6) rfl (by kernel_rfl) (by kernel_rfl) (by kernel_rfl) (fun _ _ _ h => h) (Or.inl ⟨by kernel_rfl, ?y6⟩) hHeld ?r6
      case y6 => (intro W hSW; have hS1 := hSW.1; have hS2 := hSW.2; clear hSW; go_simp; (try with_reducible rfl))
      change wpAnyH _ _ _ _ _ _ _ (Act.put _ (some 38) _) _
      simp only [Act.put, List.setIfInBounds_toArray, List.set_cons_zero, List.set_cons_succ]
      refine wpAnyH_take (i := 7) (v := ?v7) rfl (by kernel_rfl) (by kernel_rfl) (by kernel_rfl) (fun _ _ _ h => h) (Or.inl ⟨by kernel_rfl, ?y7⟩) hHeld ?r7
      case y7 => (intro W hSW; have hS1 := hSW.1; have hS2 := hSW.2; clear hSW; go_simp; (try with_reducible rfl))
      change wpAnyH _ _ _ _ _ _ _ (Act.put _ (some 39) _) _
      simp only [Act.put, List.setIfInBounds_toArray, List.set_cons_zero, List.set_cons_succ]
      refine wpAnyH_take (i := 8) (v := ?v8) rfl (by kernel_rfl) (by kernel_rfl) (by kernel_rfl) (fun _ _ _ h => h) (Or.inl ⟨by kernel_rfl, ?y8⟩) hHeld ?r8
      case y8 => (intro W hSW; have hS1 := hSW.1; have hS2 := hSW.2; clear hSW; go_simp; (try with_reducible rfl))
      change wpAnyH _ _ _ _ _ _ _ (Act.put _ (some 40) _) _
      simp only [Act.put, List.setIfInBounds_toArray, List.set_cons_zero, List.set_cons_succ]
      refine wpAnyH_take (i := 9) (v := ?v9) rfl (by kernel_rfl) (by kernel_rfl) (by kernel_rfl) (fun _ _ _ h => h) (Or.inl ⟨by kernel_rfl, ?y9⟩) hHeld ?r9
      case y9 => (intro W hSW; have hS1 := hSW.1; have hS2 := hSW.2; clear hSW; go_simp; (try with_reducible rfl))
      change wpAnyH _ _ _ _ _ _ _ (Act.put _ (some 41) _) _
      simp only [Act.put, List.setIfInBounds_toArray, List.set_cons_zero, List.set_cons_succ]
      refine wpAnyH_take (i := 10) (v := ?v10) rfl (by kernel_rfl) (by kernel_rfl) (by kernel_rfl) (fun _ _ _ h => h) (Or.inl ⟨by kernel_rfl, ?y10⟩) hHeld ?r10
      case y10 => (intro W hSW; have hS1 := hSW.1; have hS2 := hSW.2; clear hSW; go_simp; (try with_reducible rfl))
      change wpAnyH _ _ _ _ _ _ _ (Act.put _ (some 42) _) _
      simp only [Act.put, List.setIfInBounds_toArray, List.set_cons_zero, List.set_cons_succ]
      refine wpAnyH_take (i := 11) (v := ?v11) rfl (by kernel_rfl) (by kernel_rfl) (by kernel_rfl) (fun _ _ _ h => h) (Or.inl ⟨by kernel_rfl, ?y11⟩) hHeld ?r11
      case y11 => (intro W hSW; have hS1 := hSW.1; have hS2 := hSW.2; clear hSW; go_simp; (try with_reducible rfl))
      change wpAnyH _ _ _ _ _ _ _ (Act.put _ (some 43) _) _
      simp only [Act.put, List.setIfInBounds_toArray, List.set_cons_zero, List.set_cons_succ]
      refine wpAnyH_ready (rs := [12]) (by kernel_rfl) (by simp) ?_
      refine AllReadyH.cons rfl (fun K hK => ?_) AllReadyH.nil
      go_simp
      refine (HNX.out _).mono ?_
      rintro e w1 ⟨rfl, h⟩; subst w1
      refine hK.out _ _ (HC.out) (fun hHeld => ?_)
      clear hK K
      try simp only [Act.put, List.setIfInBounds_toArray, List.set_cons_zero, List.set_cons_succ]
      refine wpAnyH_take (i := 13) (v := ?v13) rfl (by kernel_rfl) (by kernel_rfl) (by kernel_rfl) (fun _ _ _ h => h) (Or.inl ⟨by kernel_rfl, ?y13⟩) hHeld ?r13
      case y13 => (intro W hSW; have hS1 := hSW.1; have hS2 := hSW.2; clear hSW; go_simp; (try with_reducible rfl))
      change wpAnyH _ _ _ _ _ _ _ (Act.put _ (some 5) _) _
      simp only [Act.put, List.setIfInBounds_toArray, List.set_cons_zero, List.set_cons_succ]
      refine wpAnyH_done (by kernel_rfl) ?_ _
      have hsl := HSL.out wr.drew
      go_wp2_with (go_at_call 10; refine HSN.out.mono ?_; rintro e w' ⟨rfl, h⟩; subst w')
      have hq := HQ.out
      have hp := HP.out
      exact ⟨⟨q, p, by omega, by omega, by go_num, by rw [HX.out], HBEL.out.drew⟩, by simp [intOf]; omega⟩
    · clear hbel
      go_wp2_with (go_at_call 9; refine (HLV.out _ HBEL.out).mono ?_; rintro e w' ⟨rfl, hb⟩)
      go_ret
      exact ⟨rfl, hb⟩

set_option linter.unusedVariables false in
set_option maxRecDepth 100000 in
theorem lifted (os : Os) (started : os.Started) (H : Type) (enc : TypeId × Value → H) :
    ReturnsInHanded {} Try.checked os 5 .any (Rows.rollOnSpec.pre6 enc Try.prog Try.f5 Rows.rollOnRow.domain false) (Rows.rollOnSpec.post enc Try.prog Try.f5 false true false false) := by
  refine returnsInHanded_of_change (C := Try.checked) own started (by kernel_rfl) Try.func5
    (ChangeSpec.witness6 (enc := enc) (C := Try.checked) false ⟨#[], #[.slice none 0 0, .int .i64 0], []⟩ 8 (by kernel_rfl) (by kernel_rfl) (by kernel_rfl) (by kernel_rfl)) ?_
  intro W base args ds gs before hval0 hW hcnd _
  have hval : ∀ (j : Nat) t v, Try.f5.params[j]? = some t → args[j]? = some v → Value.okWide Try.prog W .any base t v := hval0
  have hW' := hW
  obtain ⟨p, q, hA0, hV, rfl, hfz, hnd⟩ := hW
  have hA : DataW.TrodAll enc Try.prog W 0 (fun _ => true) true Try.f5.params.toList args.toList ds p := hA0
  rw [Try.params5] at hA hval
  obtain ⟨v0, vs0, d0, ds0, p0, q0, hargs, rfl, rfl, h0, r0⟩ := trodAll_cons hA
  obtain ⟨v1, vs1, d1, ds1, p1, q1, rfl, rfl, rfl, h1, r1⟩ := trodAll_cons r0
  obtain ⟨rfl, rfl, rfl⟩ := trodAll_nil r1
  obtain rfl : args = #[v0, v1] := by cases args; simp_all
  obtain ⟨rfl, rfl⟩ := trodVars_none hV
  have k0 := h0
  have lt0 : ∀ x ∈ p0, x.block < W.heap.size := by obtain ⟨m, hm⟩ := k0; exact DataW.trod_lt m _ _ _ hm
  obtain ⟨a0, len0, cap0, rfl⟩ := okWide_slice Try.underlying22 (hval 0 22 v0 rfl rfl)
  obtain ⟨zs0, w0⟩ : ∃ zs, IsRow .u8 W a0 len0 cap0 zs := by
    obtain ⟨fuel, hf⟩ := h0
    rcases open_ints Try.underlying22 Try.underlying5 (by kernel_rfl) hf with ⟨hcs, _⟩ | ⟨x, l, c, zs, hcs, _, hl, hm, hz, _, hcell, hwz⟩
    · simp [Value.cells] at hcs
      obtain ⟨rfl, rfl, rfl⟩ := hcs
      exact ⟨[], .inl ⟨rfl, rfl, rfl, rfl⟩⟩
    · simp [Value.cells] at hcs
      obtain ⟨rfl, rfl, rfl⟩ := hcs
      exact ⟨zs, .inr ⟨_, rfl, hl, hm, by simpa using hz, hcell, hwz⟩⟩
  obtain ⟨x1, rfl, rfl, rfl, w1⟩ := open_int Try.underlying3 (hval 1 3 v1 rfl rfl) h1
  clear hA0 hval0
  refine (walk a0 len0 cap0 zs0 x1 (wf_i64 w1) W w0).mono fun e W' ⟨he, bel⟩ => ?_
  subst he
  exact ⟨_, rfl, _, _, _, [], _, [], hW', trodAll_mk1 (shut_bool Try.underlying4 _), (trodAll_cons_mk (Below.trod laidOut (by kernel_rfl) (of_decide_eq_true (by kernel_rfl)) k0 bel lt0) (trodAll_cons_mk (shut_int Try.underlying3 w1) trodAll_mk0)), rfl, bel.frame _, fun h => by cases h⟩

theorem over : Rows.rollOnRow.holds Try.pinned (OpenSpec.ofChange Rows.rollOnSpec) :=
  OpenClaim.holds_of_wide 5 Try.f5 rfl rfl rfl rfl rfl rfl rfl ⟨rfl, rfl, rfl, rfl, rfl⟩ rfl rfl rfl rfl rfl (by kernel_rfl) Try.func5 (by kernel_rfl)
    (of_decide_eq_true (by kernel_rfl)) (by unfold Func.isWrapper; first | (rw [if_pos (by decide +kernel)]; kernel_rfl) | (rw [if_neg (by decide +kernel)]; exact ⟨rfl, rfl⟩))
    (fun os started H enc _ => lifted os started H enc)

end Go.Proofs.Yteiigaoniipedaa.rollOn
namespace Go.Proofs.Yteiigaoniipedaa
/-- The given statement. -/
theorem rollOn_holds : Rows.RollOnSaid := rollOn.over
#print axioms rollOn_holds
end Go.Proofs.Yteiigaoniipedaa
