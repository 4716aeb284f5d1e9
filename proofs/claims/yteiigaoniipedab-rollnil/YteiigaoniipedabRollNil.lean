/- Proved: for every l, the law RollNil returns true, l as it was. No condition: every input that can be read as data. -/
import Derived.Test.YteiigaoniipedabRows
import Derived.Test.YteiigaoniipedabLN
import Derived.WalkKit
import Derived.ProofKit
import Derived.OpenShut
import Derived.ShutString
import Derived.ChangeOld
import Derived.Below
namespace Go.Proofs.Yteiigaoniipedab.rollNil
open Go.ChangeShapes Go.WideShapes Go.ChangeAt Go.RowKit
theorem own : ownKnob Try.prog.godebug = none := by kernel_rfl
theorem laidOut : laidOutB Try.prog = true := by kernel_rfl

set_option maxRecDepth 100000 in
set_option maxHeartbeats 2000000 in
theorem walk (a0 : Option Addr) (len0 cap0 : Nat) (zs0 : List Int) (w : World) (w0 : IsRow .u8 w a0 len0 cap0 zs0) :
    Calls Try.prog 3 #[.slice a0 len0 cap0] w fun e w' => e = .returned (.bool true) ∧ Below w.heap.size w w' := by
  have HLV : Hid (∀ W, Below w.heap.size w W → Calls Try.prog 9 #[] W fun e w' => e = .returned (.bool true) ∧ Below w.heap.size w w') := by
    intro W hW
    refine (lives_any W).mono ?_
    rintro e w' ⟨rfl, hb⟩
    exact ⟨rfl, hW.trans (hb.mono hW.size)⟩
  obtain ⟨bs, hb⟩ := w0.bsI
  have hlen63 : len0 ≤ 9223372036854775807 := Nat.le_trans hb.2.1 hb.2.2.1
  have HBS : Hid (BsI w a0 len0 cap0 bs) := hb
  have HN : Hid (Calls Try.prog 7 #[.int .i64 3] w fun e w' => e = .returned (.tuple #[.pointer (some ⟨w.heap.size + 1, 0, none⟩), .int .i64 0]) ∧ WinIs w' w.heap.size (w.heap.size + 1) 3 [] ∧ Below w.heap.size w w') := new_any 3 w (by omega) (by omega)
  have HP0 : Hid (∀ W, Calls Try.prog 4 #[.pointer none, .int .u8 1] W fun e w' => e = .returned (.tuple #[]) ∧ w' = W) := fun W => put_nil 1 W
  clear w0 hb
  go_enter Try.func3, Try.ntmps3
  go_wp2_with (first | (go_at_call 4; refine (HP0.out _).mono ?_; rintro e w' ⟨rfl, h⟩; subst w') | (go_at_call 5; refine (clear_nil _).mono ?_; rintro e w' ⟨rfl, h⟩; subst w') | (go_at_call 6; refine (wsum_nil _).mono ?_; rintro e w' ⟨rfl, h⟩; subst w') | (go_at_call 8; refine (bytes_nil _).mono ?_; rintro e w' ⟨rfl, h⟩; subst w') | (go_at_call 7; refine HN.out.mono ?_; rintro e v0 ⟨rfl, hwi, hbe⟩; have HWI : Hid (WinIs v0 w.heap.size (w.heap.size + 1) 3 []) := hwi; have HBE : Hid (Below w.heap.size w v0) := hbe; clear hwi hbe))
  clear HN HP0
  go_loopw [8] (fun i wr => ∃ (t : Nat) (L : List UInt8), t ≤ 50 ∧ t ≤ len0 ∧ i = .int .i64 t ∧ WinIs wr w.heap.size (w.heap.size + 1) 3 L ∧ Below w.heap.size w wr) (fun i _ => 51 - (intOf i).toNat)
  case atStart => exact ⟨0, [], by omega, by omega, rfl, HWI.out, HBE.out⟩
  case round =>
    clear HWI HBE
    obtain ⟨t, L, ht, htl, rfl, hwin, hbel⟩ := hrel
    have HBE : Hid (Below w.heap.size w wr) := hbel
    have HWI : Hid (WinIs wr w.heap.size (w.heap.size + 1) 3 L) := hwin
    clear hbel hwin
    by_cases hgo : t < len0 ∧ t < 50
    · have d1 : decide ((t : Int) < (len0 : Int)) = true := by simp; omega
      have d2 : decide ((t : Int) < 50) = true := by simp; omega
      have d3 : (t : Int) < (len0 : Int) := by omega
      have d4 : (t : Int) < 50 := by omega
      have hgo1 := hgo.1
      have hgo2 := hgo.2
      obtain ⟨bb, bo, rfl, hbl, hcl⟩ := HBS.out.2.2.2 (by omega)
      obtain ⟨c, hcc⟩ : ∃ c : Nat, (bs.getD t 0).toNat = c := ⟨_, rfl⟩
      have hc : c < 256 := by rw [← hcc]; exact UInt8.toNat_lt _
      have hct : wr.cell? ⟨bb, bo + t, none⟩ = some (.int .u8 (c : Int)) := by rw [HBE.out.cell hbl, hcl t hgo.1, hcc]
      obtain ⟨M, hM⟩ : ∃ M, putL L (UInt8.ofNat c) 3 = M := ⟨_, rfl⟩
      obtain ⟨B, hB⟩ : ∃ B, strOf M = B := ⟨_, rfl⟩
      obtain ⟨K, hK⟩ : ∃ K, M.length = K := ⟨_, rfl⟩
      have HPU : Hid (Calls Try.prog 4 #[.pointer (some ⟨w.heap.size + 1, 0, none⟩), .int .u8 (c : Int)] wr fun e w' => e = .returned (.tuple #[]) ∧ WinIs w' w.heap.size (w.heap.size + 1) 3 M ∧ Below w.heap.size w w' ∧ K ≤ 3) := by
        refine (put_any _ _ 3 L c w.heap.size wr HWI.out (by omega) (Nat.le_refl _) hc).mono ?_
        rintro e w' ⟨rfl, h1, h2⟩
        rw [hM] at h1
        exact ⟨rfl, h1, HBE.out.trans h2, by have := h1.len.1; omega⟩
      have HBY : Hid (∀ V, WinIs V w.heap.size (w.heap.size + 1) 3 M → Below w.heap.size w V → Calls Try.prog 8 #[.pointer (some ⟨w.heap.size + 1, 0, none⟩)] V fun e w' => ∃ gg, e = .returned (.slice (some ⟨gg, 0, none⟩) K K) ∧ (convert 22 9 (.slice (some ⟨gg, 0, none⟩) K K)).run Try.prog w' = .ok (.string B) w' ∧ Beside w w.heap.size (w.heap.size + 1) 3 M gg K w' ∧ w.heap.size + 2 ≤ gg) := by
        intro V hV hb
        refine (bytes_any _ _ 3 M V hV).mono ?_
        rintro e w' ⟨rfl, hrow, hb2⟩
        have hcv := conv_u8v w' _ M hrow
        rw [hK, hB] at hcv
        rw [hK]
        exact ⟨_, rfl, hcv, ⟨hV.below hb2, ⟨M, hK, hrow⟩, hb.trans (hb2.mono hb.size)⟩, by have := hV.lt.1; omega⟩
      clear hM hB hK hcc hcl hgo HWI HBE
      go_wp2_with (first | (go_at_call 4; refine HPU.out.mono ?_; rintro e w2 ⟨rfl, hw2, hb2, hK3⟩; have HW2 : Hid (WinIs w2 w.heap.size (w.heap.size + 1) 3 M) := hw2; have HB2 : Hid (Below w.heap.size w w2) := hb2; clear hw2 hb2) | (go_at_call 8; refine (HBY.out _ HW2.out HB2.out).mono ?_; rintro e w3 ⟨gg, rfl, hcv3, hbs3, hgg⟩; have HBS3 : Hid (Beside w w.heap.size (w.heap.size + 1) 3 M gg K w3) := hbs3; clear hbs3))
      go_loopw [11] (fun i wv => ∃ q : Nat, q ≤ K ∧ i = .int .i64 q ∧ Beside w w.heap.size (w.heap.size + 1) 3 M gg K wv) (fun i _ => K - (intOf i).toNat)
      case atStart => exact ⟨0, by omega, rfl, HBS3.out⟩
      case round =>
        clear HBS3
        obtain ⟨q, hq, rfl, hbes⟩ := hrel
        by_cases hqk : q < K
        · obtain ⟨x, hx, hcx, hfx⟩ := hbes.cell q hqk
          obtain ⟨y, hy⟩ : ∃ y : Nat, x ^^^ 255 = y := ⟨_, rfl⟩
          have hy2 : y < 256 := by rw [← hy]; exact Nat.xor_lt_two_pow (n := 8) hx (by omega)
          have hxy : bits BinOp.xor IntKind.u8 (x : Int) 255 = (y : Int) := by
            have := u8_xor_nat x 255 hx (by omega)
            rw [hy] at this
            exact this
          have HBES : Hid (Beside w w.heap.size (w.heap.size + 1) 3 M gg K wr) := hbes
          have hqi : (q : Int) < (K : Int) := by omega
          clear hbes hy
          go_wp2
          exact ⟨⟨q + 1, by omega, by go_num, HBES.out.put (by omega) (by omega) (by omega) q y hy2⟩, by simp [intOf]; omega⟩
        · have hqi : ¬ (q : Int) < (K : Int) := by omega
          have HWV : Hid (WinIs wr w.heap.size (w.heap.size + 1) 3 M) := hbes.win
          have HBV : Hid (Below w.heap.size w wr) := hbes.bel
          clear hbes
          go_wp2_with (go_at_call 8; refine (HBY.out _ HWV.out HBV.out).mono ?_; rintro e w5 ⟨g5, rfl, hcv5, hbs5, _⟩; have HBS5 : Hid (Beside w w.heap.size (w.heap.size + 1) 3 M g5 K w5) := hbs5; clear hbs5)
          exact ⟨⟨t + 1, M, by omega, by omega, by go_num, HBS5.out.win, HBS5.out.bel⟩, by simp [intOf]; omega⟩
    · have HLW : Hid (Calls Try.prog 9 #[] wr fun e w' => e = .returned (.bool true) ∧ Below w.heap.size w w') := HLV.out _ HBE.out
      by_cases hlt : t < len0
      · have d1 : decide ((t : Int) < (len0 : Int)) = true := by simp; omega
        have d2 : decide ((t : Int) < 50) = false := by simp; omega
        have d3 : ¬ (t : Int) < 50 := by omega
        clear hgo
        go_wp2_with (go_at_call 9; refine HLW.out.mono ?_; rintro e w' ⟨rfl, hb⟩)
        go_ret
        exact ⟨rfl, hb⟩
      · have d1 : decide ((t : Int) < (len0 : Int)) = false := by simp; omega
        have d3 : ¬ (t : Int) < (len0 : Int) := by omega
        clear hgo
        go_wp2_with (go_at_call 9; refine HLW.out.mono ?_; rintro e w' ⟨rfl, hb⟩)
        go_ret
        exact ⟨rfl, hb⟩

set_option linter.unusedVariables false in
set_option maxRecDepth 100000 in
theorem lifted (os : Os) (started : os.Started) (H : Type) (enc : TypeId × Value → H) :
    ReturnsInHanded {} Try.checked os 3 .any (Rows.rollNilSpec.pre6 enc Try.prog Try.f3 Rows.rollNilRow.domain false) (Rows.rollNilSpec.post enc Try.prog Try.f3 false true false false) := by
  refine returnsInHanded_of_change (C := Try.checked) own started (by kernel_rfl) Try.func3
    (ChangeSpec.witness6 (enc := enc) (C := Try.checked) false ⟨#[], #[.slice none 0 0], []⟩ 8 (by kernel_rfl) (by kernel_rfl) (by kernel_rfl) (by kernel_rfl)) ?_
  intro W base args ds gs before hval0 hW hcnd _
  have hval : ∀ (j : Nat) t v, Try.f3.params[j]? = some t → args[j]? = some v → Value.okWide Try.prog W .any base t v := hval0
  have hW' := hW
  obtain ⟨p, q, hA0, hV, rfl, hfz, hnd⟩ := hW
  have hA : DataW.TrodAll enc Try.prog W 0 (fun _ => true) true Try.f3.params.toList args.toList ds p := hA0
  rw [Try.params3] at hA hval
  obtain ⟨v0, vs0, d0, ds0, p0, q0, hargs, rfl, rfl, h0, r0⟩ := trodAll_cons hA
  obtain ⟨rfl, rfl, rfl⟩ := trodAll_nil r0
  obtain rfl : args = #[v0] := by cases args; simp_all
  obtain ⟨rfl, rfl⟩ := trodVars_none hV
  have k0 := h0
  have lt0 : ∀ x ∈ p0, x.block < W.heap.size := by obtain ⟨m, hm⟩ := k0; exact DataW.trod_lt m _ _ _ hm
  obtain ⟨a0, len0, cap0, rfl⟩ := okWide_slice Try.underlying22 (hval 0 22 v0 rfl rfl)
  obtain ⟨zs0, w0⟩ : ∃ zs, IsRow .u8 W a0 len0 cap0 zs := by
    obtain ⟨fuel, hf⟩ := h0
    rcases open_ints Try.underlying22 Try.underlying5 (by kernel_rfl) hf with ⟨hcs, _⟩ | ⟨x, l, c, zs, hcs, _, hl, hm, hz, _, hcell, hwz⟩
    · simp [Value.cells] at hcs
      obtain ⟨rfl, rfl, rfl⟩ := hcs
      exact ⟨[], .inl ⟨rfl, rfl, rfl, rfl⟩⟩
    · simp [Value.cells] at hcs
      obtain ⟨rfl, rfl, rfl⟩ := hcs
      exact ⟨zs, .inr ⟨_, rfl, hl, hm, by simpa using hz, hcell, hwz⟩⟩
  clear hA0 hval0
  refine (walk a0 len0 cap0 zs0 W w0).mono fun e W' ⟨he, bel⟩ => ?_
  subst he
  exact ⟨_, rfl, _, _, _, [], _, [], hW', trodAll_mk1 (shut_bool Try.underlying4 _), (trodAll_cons_mk (Below.trod laidOut (by kernel_rfl) (of_decide_eq_true (by kernel_rfl)) k0 bel lt0) trodAll_mk0), rfl, bel.frame _, fun h => by cases h⟩

theorem over : Rows.rollNilRow.holds Try.pinned (OpenSpec.ofChange Rows.rollNilSpec) :=
  OpenClaim.holds_of_wide 3 Try.f3 rfl rfl rfl rfl rfl rfl rfl ⟨rfl, rfl, rfl, rfl, rfl⟩ rfl rfl rfl rfl rfl (by kernel_rfl) Try.func3 (by kernel_rfl)
    (of_decide_eq_true (by kernel_rfl)) (by unfold Func.isWrapper; first | (rw [if_pos (by decide +kernel)]; kernel_rfl) | (rw [if_neg (by decide +kernel)]; exact ⟨rfl, rfl⟩))
    (fun os started H enc _ => lifted os started H enc)

end Go.Proofs.Yteiigaoniipedab.rollNil
namespace Go.Proofs.Yteiigaoniipedab
/-- The given statement. -/
theorem rollNil_holds : Rows.RollNilSaid := rollNil.over
#print axioms rollNil_holds
end Go.Proofs.Yteiigaoniipedab
