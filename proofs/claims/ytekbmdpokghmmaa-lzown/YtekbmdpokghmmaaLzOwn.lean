/- Proved: for every bytes, the law LzOwn returns true, they as they were. No condition: every input that can be read as data. -/
import Derived.Test.YtekbmdpokghmmaaRows
import Derived.Test.YtekbmdpokghmmaaLS
import Derived.WalkKit
import Derived.ProofKit
import Derived.OpenShut
import Derived.ShutString
import Derived.ChangeOld
import Derived.SizedLaws
import Derived.Below
namespace Go.Proofs.Ytekbmdpokghmmaa.lzOwn
open Go.ChangeShapes Go.WideShapes Go.ChangeAt Go.RowKit Lz
open Go.ChangeMaps (open_string shut_string)
theorem own : ownKnob Try.prog.godebug = none := by kernel_rfl
theorem laidOut : laidOutB Try.prog = true := by kernel_rfl

set_option maxRecDepth 100000 in
set_option maxHeartbeats 2000000 in
theorem walk (a0 : Option Addr) (len0 cap0 : Nat) (l0 : List UInt8) (w : World) (w0 : Bs w a0 len0 cap0 l0) :
    Calls Try.prog 8 #[.slice a0 len0 cap0] w fun e w' => e = .returned (.bool true) ∧ Below w.heap.size w w' := by
  have HLV : Hid (∀ W, Below w.heap.size w W → Calls Try.prog 9 #[] W fun e w' => e = .returned (.bool true) ∧ Below w.heap.size w w') := by
    intro W hW
    refine (lives_any W).mono ?_
    rintro e w' ⟨rfl, hb⟩
    exact ⟨rfl, hW.trans (hb.mono hW.size)⟩
  by_cases h5 : 2000 < len0
  · have kk : (2000 : Int) < (len0 : Int) := by omega
    clear w0
    go_enter Try.func8, Try.ntmps8
    go_wp2_with (go_at_call 9; refine (HLV.out _ (Below.refl _ _)).mono ?_; rintro e w' ⟨rfl, hb⟩)
    go_ret
    exact ⟨rfl, hb⟩
  have kk : ¬ (2000 : Int) < (len0 : Int) := by omega
  have hl0 := w0.1
  have HB0 : Hid (Bs w a0 len0 cap0 l0 ∧ l0.length ≤ 2000) := ⟨w0, by omega⟩
  have HPK := pack_ok w0 (by omega)
  obtain ⟨n, hn⟩ : ∃ n, l0.length = n := ⟨_, rfl⟩
  obtain ⟨P, hP⟩ : ∃ P, (packB l0).length = P := ⟨_, rfl⟩
  rw [hP] at HPK
  have HPK : Hid _ := HPK
  have HNP : Hid (l0.length = n ∧ (packB l0).length = P) := ⟨hn, hP⟩
  clear w0 hl0 hn hP
  go_enter Try.func8, Try.ntmps8
  go_wp2_with fail
  refine Calls.mono HPK.out ?_
  rintro e w1 ⟨ap, cp, rfl, hop, hb1⟩
  have HP1 : Hid (w1.ownsRow w.heap.size 5 1 (.slice ap P cp) P (bytesV (packB l0)) ∧ Below w.heap.size w w1) := ⟨hop, hb1⟩
  have HU1 := unpack_pack (own_bs hop) (by have := HB0.out.2; omega) 65536 (by have := HB0.out.2; omega)
  rw [HNP.out.1] at HU1
  have HU1 : Hid (Calls Try.prog 10 #[.slice ap P cp, .int .i64 65536] w1 fun e w' => ∃ a c, e = .returned (.tuple #[.slice a n c, .int .i64 0]) ∧ w'.ownsRow w1.heap.size 5 1 (.slice a n c) n (bytesV l0) ∧ Below w1.heap.size w1 w') := HU1
  clear hop hb1 HPK
  go_wp2_with fail
  refine HU1.out.mono ?_
  rintro e w2 ⟨ax, cx, rfl, hox, hb2⟩
  have hop2 := own_keep HP1.out.1 (fun k hk => hb2.block k (HP1.out.1.lt k hk).2)
  have HU2 := unpack_pack (own_bs hop2) (by have := HB0.out.2; omega) 65536 (by have := HB0.out.2; omega)
  rw [HNP.out.1] at HU2
  have HU2 : Hid (Calls Try.prog 10 #[.slice ap P cp, .int .i64 65536] w2 fun e w' => ∃ a c, e = .returned (.tuple #[.slice a n c, .int .i64 0]) ∧ w'.ownsRow w2.heap.size 5 1 (.slice a n c) n (bytesV l0) ∧ Below w2.heap.size w2 w') := HU2
  have HX2 : Hid (w2.ownsRow w1.heap.size 5 1 (.slice ax n cx) n (bytesV l0) ∧ Below w1.heap.size w1 w2) := ⟨hox, hb2⟩
  clear hox hb2 hop2 HU1
  go_wp2_with fail
  refine HU2.out.mono ?_
  rintro e w3 ⟨ay, cy, rfl, hoy, hb3⟩
  have hb13 : Below w1.heap.size w1 w3 := HX2.out.2.trans (hb3.mono HX2.out.2.size)
  have HW3 : Hid (w3.ownsRow w1.heap.size 5 1 (.slice ax n cx) n (bytesV l0) ∧ w3.ownsRow w2.heap.size 5 1 (.slice ay n cy) n (bytesV l0) ∧ w3.ownsRow w.heap.size 5 1 (.slice ap P cp) P (bytesV (packB l0)) ∧ Below w.heap.size w w3 ∧ (∀ z, ob ax = some z → w1.heap.size ≤ z ∧ z < w2.heap.size) ∧ (∀ z, ob ap = some z → w.heap.size ≤ z ∧ z < w1.heap.size) ∧ (∀ z, ob ay = some z → w2.heap.size ≤ z) ∧ w.heap.size ≤ w1.heap.size ∧ w1.heap.size ≤ w2.heap.size) := by
    refine ⟨own_keep HX2.out.1 (fun k hk => hb3.block k (HX2.out.1.lt k hk).2), hoy, own_keep HP1.out.1 (fun k hk => hb13.block k (HP1.out.1.lt k hk).2), HP1.out.2.trans (hb13.mono HP1.out.2.size), fun z hz => HX2.out.1.lt z (by rw [ob_slice]; exact hz), fun z hz => HP1.out.1.lt z (by rw [ob_slice]; exact hz), fun z hz => (hoy.lt z (by rw [ob_slice]; exact hz)).1, HP1.out.2.size, HX2.out.2.size⟩
  have HXA : Hid (0 < n → ∃ g, ax = some ⟨g, 0, none⟩ ∧ XR w3 g n) := fun h0 => by
    obtain ⟨g, cap, e, _⟩ := own_some HW3.out.1 (fun e => by simp only [Value.slice.injEq] at e; omega)
    simp only [Value.slice.injEq] at e
    obtain ⟨rfl, _, rfl⟩ := e
    exact ⟨g, rfl, XR.of_own HW3.out.1⟩
  have HXP : Hid (0 < P → ∃ g, ap = some ⟨g, 0, none⟩ ∧ XR w3 g P) := fun h0 => by
    obtain ⟨g, cap, e, _⟩ := own_some HW3.out.2.2.1 (fun e => by simp only [Value.slice.injEq] at e; omega)
    simp only [Value.slice.injEq] at e
    obtain ⟨rfl, _, rfl⟩ := e
    exact ⟨g, rfl, XR.of_own HW3.out.2.2.1⟩
  have kn : n ≤ 2000 := by rw [← HNP.out.1]; exact HB0.out.2
  have kP : P ≤ 3000 := by have := pack_len l0 (by have := HB0.out.2; omega); have := HNP.out.2; have := HB0.out.2; omega
  clear hoy hb3 hb13 HU2
  go_wp2
  go_loopw [9] (fun v wr => ∃ i : Nat, i ≤ n ∧ v = .int .i64 (i : Int) ∧ (0 < n → ∃ g, ax = some ⟨g, 0, none⟩ ∧ XR wr g n) ∧ Upd (fun z => ob ax = some z) w3 wr) (fun v _ => n - (intOf v).toNat)
  case atStart => exact ⟨0, Nat.zero_le _, rfl, HXA.out, Upd.refl _ _⟩
  case round =>
    obtain ⟨i, hi, rfl, hx, hu⟩ := hrel
    by_cases hlt : i < n
    · have kk : (i : Int) < (n : Int) := by omega
      obtain ⟨g, hg, hxr⟩ := hx (by omega)
      subst hg
      obtain ⟨u, hu8, ci, fi⟩ := hxr.cell hlt
      obtain ⟨v, hv8, hxo⟩ := xor_u8 u hu8
      have HF : Hid (XR (wr.setCell ⟨g, i, none⟩ (.int .u8 (v : Int))) g n ∧ Upd (fun z => ob (some ⟨g, 0, none⟩) = some z) w3 (wr.setCell ⟨g, i, none⟩ (.int .u8 (v : Int)))) := ⟨hxr.set hv8, hu.setCell (p := ⟨g, i, none⟩) (fun _ => rfl) _⟩
      clear hx hu hxr
      go_wp2
      exact ⟨⟨i + 1, by omega, by go_num, fun _ => ⟨g, rfl, HF.out.1⟩, HF.out.2⟩, by simp [intOf]; omega⟩
    have hin : n = i := by omega
    have kk : ¬ (i : Int) < (n : Int) := by omega
    have HUX : Hid (Upd (fun z => ob ax = some z) w3 wr) := hu
    clear hx hu hi hlt
    have HXP2 : Hid (0 < P → ∃ g, ap = some ⟨g, 0, none⟩ ∧ XR wr g P) := fun h0 => by
      obtain ⟨g, e, h⟩ := HXP.out h0
      refine ⟨g, e, h.keep (HUX.out.block g ?_ ?_)⟩
      · have := (HW3.out.2.2.1.lt g (by rw [ob_slice, e]; rfl)).2; omega
      · intro e2
        have h1 := HW3.out.2.2.2.2.1 g e2
        have h2 := HW3.out.2.2.2.2.2.1 g (by rw [e]; rfl)
        omega
    obtain ⟨w4, hw4⟩ : ∃ w4, w4 = wr := ⟨_, rfl⟩
    subst hw4
    subst hin
    go_wp2
    go_loopw [10] (fun v wr => ∃ i : Nat, i ≤ P ∧ v = .int .i64 (i : Int) ∧ (0 < P → ∃ g, ap = some ⟨g, 0, none⟩ ∧ XR wr g P) ∧ Upd (fun z => ob ap = some z) w4 wr) (fun v _ => P - (intOf v).toNat)
    case atStart => exact ⟨0, Nat.zero_le _, rfl, HXP2.out, Upd.refl _ _⟩
    case round =>
      obtain ⟨i, hi, rfl, hx, hu⟩ := hrel
      by_cases hlt : i < P
      · have kk : (i : Int) < (P : Int) := by omega
        obtain ⟨g, hg, hxr⟩ := hx (by omega)
        subst hg
        obtain ⟨u, hu8, ci, fi⟩ := hxr.cell hlt
        obtain ⟨v, hv8, hxo⟩ := xor_u8 u hu8
        have HF : Hid (XR (wr.setCell ⟨g, i, none⟩ (.int .u8 (v : Int))) g P ∧ Upd (fun z => ob (some ⟨g, 0, none⟩) = some z) w4 (wr.setCell ⟨g, i, none⟩ (.int .u8 (v : Int)))) := ⟨hxr.set hv8, hu.setCell (p := ⟨g, i, none⟩) (fun _ => rfl) _⟩
        clear hx hu hxr
        go_wp2
        exact ⟨⟨i + 1, by omega, by go_num, fun _ => ⟨g, rfl, HF.out.1⟩, HF.out.2⟩, by simp [intOf]; omega⟩
      have hin : P = i := by omega
      have kk : ¬ (i : Int) < (P : Int) := by omega
      have HUP : Hid (Upd (fun z => ob ap = some z) w4 wr) := hu
      clear hx hu hi hlt
      have hbw : Below w.heap.size w wr := by
        refine (HW3.out.2.2.2.1.trans (HUX.out.below HW3.out.2.2.2.1.size (fun k hk => by have := HW3.out.2.2.2.2.1 k hk; have := HW3.out.2.2.2.2.2.2.2.1; omega))).trans (HUP.out.below ?_ (fun k hk => (HW3.out.2.2.2.2.2.1 k hk).1))
        have := HUX.out.size; have := HW3.out.2.2.2.1.size; omega
      have hy : wr.ownsRow w2.heap.size 5 1 (.slice ay n cy) n (bytesV l0) := by
        refine own_keep HW3.out.2.1 (fun k hk => ?_)
        have h1 := HW3.out.2.1.lt k hk
        have h9 := HUX.out.size
        have h8 := HW3.out.2.2.2.2.2.2.2.2
        rw [HUP.out.block k (by omega) (fun e => by have := HW3.out.2.2.2.2.2.1 k e; omega)]
        exact HUX.out.block k h1.2 (fun e => by have := HW3.out.2.2.2.2.1 k e; omega)
      have hcy := (own_bs hy).convS
      have hcb := (HB0.out.1.below hbw).convS
      have HBW : Hid (Below w.heap.size w wr) := hbw
      obtain ⟨T, hT⟩ : ∃ T, strOf l0 = T := ⟨_, rfl⟩
      rw [hT] at hcy hcb
      have kT : (T.toList == T.toList) = true := by simp
      clear hbw hy hT HU1 HU2 HPK
      go_wp2_with (go_at_call 9; refine (HLV.out _ (HBW.out)).mono ?_; rintro e w' ⟨rfl, hb⟩)
      go_ret
      exact ⟨rfl, hb⟩

set_option linter.unusedVariables false in
set_option maxRecDepth 100000 in
theorem lifted (os : _root_.Go.Os) (started : os.Started) (H : Type) (enc : TypeId × Value → H) :
    ReturnsInHanded {} Try.checked os 8 .any (Rows.lzOwnSpec.pre6 enc Try.prog Try.f8 Rows.lzOwnRow.domain false) (Rows.lzOwnSpec.post enc Try.prog Try.f8 false true false false) := by
  refine returnsInHanded_of_change_sized (C := Try.checked) own started (by kernel_rfl) Try.func8
    (ChangeSpec.witness6 (enc := enc) (C := Try.checked) false ⟨#[], #[.slice none 0 0], []⟩ 8 (by kernel_rfl) (by kernel_rfl) (by kernel_rfl) (by kernel_rfl)) ?_
  intro W base args ds gs before hval0 hW hcnd hsz0 _
  have hval : ∀ (j : Nat) t v, Try.f8.params[j]? = some t → args[j]? = some v → Value.okWide Try.prog W .any base t v := hval0
  have hsz : (DataW.weightsEach Try.prog (Try.f8.params.toList ++ Rows.lzOwnSpec.plain.varTypes Try.prog) (ds ++ gs)).all (· ≤ reachBytes) = true := hsz0
  have hW' := hW
  obtain ⟨p, q, hA0, hV, rfl, hfz, hnd⟩ := hW
  have hA : DataW.TrodAll enc Try.prog W 0 (fun _ => true) true Try.f8.params.toList args.toList ds p := hA0
  rw [Try.params8] at hA hval hsz
  obtain ⟨v0, vs0, d0, ds0, p0, q0, hargs, rfl, rfl, h0, r0⟩ := trodAll_cons hA
  obtain ⟨rfl, rfl, rfl⟩ := trodAll_nil r0
  obtain rfl : args = #[v0] := by cases args; simp_all
  obtain ⟨rfl, rfl⟩ := trodVars_none hV
  have k0 := h0
  have lt0 : ∀ x ∈ p0, x.block < W.heap.size := by obtain ⟨m, hm⟩ := k0; exact DataW.trod_lt m _ _ _ hm
  obtain ⟨a0, len0, cap0, rfl⟩ := okWide_slice Try.underlying22 (hval 0 22 v0 rfl rfl)
  obtain ⟨l0, w0⟩ : ∃ l, Bs W a0 len0 cap0 l := by
    obtain ⟨fuel, hf⟩ := h0
    exact bs_of (by simpa [Value.cells] using hf)
  clear hA0 hval0 hsz hsz0
  refine (walk a0 len0 cap0 l0 W w0).mono fun e W' ⟨he, bel⟩ => ?_
  subst he
  exact ⟨_, rfl, _, _, _, [], _, [], hW', trodAll_mk1 (shut_bool Try.underlying4 _), (trodAll_cons_mk (Below.trod laidOut (by kernel_rfl) (of_decide_eq_true (by kernel_rfl)) k0 bel lt0) trodAll_mk0), rfl, bel.frame _, fun h => by cases h⟩

theorem over : Rows.lzOwnRow.holds Try.pinned (OpenSpec.ofChange Rows.lzOwnSpec) :=
  OpenClaim.holds_of_wide 8 Try.f8 rfl rfl rfl rfl rfl rfl rfl ⟨rfl, rfl, rfl, rfl, rfl⟩ rfl rfl rfl rfl rfl (by kernel_rfl) Try.func8 (by kernel_rfl)
    (of_decide_eq_true (by kernel_rfl)) (by unfold Func.isWrapper; first | (rw [if_pos (by decide +kernel)]; kernel_rfl) | (rw [if_neg (by decide +kernel)]; exact ⟨rfl, rfl⟩))
    (fun os started H enc _ => lifted os started H enc)

end Go.Proofs.Ytekbmdpokghmmaa.lzOwn
namespace Go.Proofs.Ytekbmdpokghmmaa
/-- The given statement. -/
theorem lzOwn_holds : Rows.LzOwnSaid := lzOwn.over
#print axioms lzOwn_holds
end Go.Proofs.Ytekbmdpokghmmaa
