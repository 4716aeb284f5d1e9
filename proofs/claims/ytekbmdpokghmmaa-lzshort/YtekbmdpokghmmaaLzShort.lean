/- Proved: for every byte and number, the law LzShort returns true, both as they were. No condition: every input that can be read as data. -/
import Derived.Test.YtekbmdpokghmmaaRows
import Derived.Test.YtekbmdpokghmmaaLR
import Derived.WalkKit
import Derived.ProofKit
import Derived.OpenShut
import Derived.ShutString
import Derived.ChangeOld
import Derived.SizedLaws
import Derived.Below
namespace Go.Proofs.Ytekbmdpokghmmaa.lzShort
open Go.ChangeShapes Go.WideShapes Go.ChangeAt Go.RowKit Lz
open Go.ChangeMaps (open_string shut_string)
theorem own : ownKnob Try.prog.godebug = none := by kernel_rfl
theorem laidOut : laidOutB Try.prog = true := by kernel_rfl

set_option maxRecDepth 100000 in
set_option maxHeartbeats 2000000 in
theorem walk (x0 : Int) (z0 : 0 ≤ x0 ∧ x0 ≤ 255) (x1 : Int) (z1 : -9223372036854775808 ≤ x1 ∧ x1 ≤ 9223372036854775807) (w : World)  :
    Calls Try.prog 6 #[.int .u8 x0, .int .i64 x1] w fun e w' => e = .returned (.bool true) ∧ Below w.heap.size w w' := by
  have HLV : Hid (∀ W, Below w.heap.size w W → Calls Try.prog 9 #[] W fun e w' => e = .returned (.bool true) ∧ Below w.heap.size w w') := by
    intro W hW
    refine (lives_any W).mono ?_
    rintro e w' ⟨rfl, hb⟩
    exact ⟨rfl, hW.trans (hb.mono hW.size)⟩
  by_cases h0 : x1 < 0
  · clear z0
    go_enter Try.func6, Try.ntmps6
    go_wp2_with (go_at_call 9; refine (HLV.out _ (Below.refl _ _)).mono ?_; rintro e w' ⟨rfl, hb⟩)
    go_ret
    exact ⟨rfl, hb⟩
  by_cases h1 : 65536 < x1
  · have h0' : ¬ x1 < 0 := h0
    clear z0
    go_enter Try.func6, Try.ntmps6
    go_wp2_with (go_at_call 9; refine (HLV.out _ (Below.refl _ _)).mono ?_; rintro e w' ⟨rfl, hb⟩)
    go_ret
    exact ⟨rfl, hb⟩
  obtain ⟨n, hn⟩ : ∃ n : Nat, x1 = (n : Int) := ⟨x1.toNat, by omega⟩
  subst hn
  obtain ⟨ch, hch⟩ : ∃ ch : UInt8, x0 = ((ch.toNat : Nat) : Int) := ⟨UInt8.ofNat x0.toNat, by rw [toNat_ofNat_ (by omega)]; omega⟩
  subst hch
  obtain ⟨q, hq⟩ : ∃ q, ch.toNat = q := ⟨_, rfl⟩
  have hn : n ≤ 65536 := by omega
  obtain ⟨i0, hi0, hz0, hzs, hzb⟩ := info_parts info5
  have hmk := run_make (P := Try.prog) w 22 5 i0 (.int .u8 0) Try.underlying22 hi0 hz0 .i64 .i64 (n : Int) (n : Int) (by omega) (Int.le_refl _) (by rw [hzb]; omega) (by omega)
  rw [Int.toNat_natCast, hzs, Nat.mul_one] at hmk
  obtain ⟨C, hC⟩ : ∃ C, w.heap.size = C := ⟨_, rfl⟩
  rw [hC] at hmk
  obtain ⟨cs0, hcs0⟩ : ∃ cs, madeCells (Value.int .u8 0).cells n = cs := ⟨_, rfl⟩
  have hl0 : cs0.size = n := by rw [← hcs0]; exact size_madeCells _ _
  rw [hcs0] at hmk
  obtain ⟨W1, hW1⟩ : ∃ W, w.alloc (.cells cs0 5) = W := ⟨_, rfl⟩
  rw [hW1] at hmk
  have hb1 : Below w.heap.size w W1 := by rw [← hW1]; exact (Below.refl _ w).alloc (Nat.le_refl _) _
  have HR1 : Hid (W1.heap[C]? = some (.cells cs0 5 (0, 0)) ∧ Below w.heap.size w W1 ∧ cs0.size = n ∧ w.heap.size = C) := ⟨by rw [← hW1, ← hC]; exact heap_alloc_new w _, hb1, hl0, hC⟩
  have HN : Hid (n ≤ 65536 ∧ ch.toNat = q) := ⟨hn, hq⟩
  rw [hq]
  have hq8 : q < 256 := by rw [← hq]; exact UInt8.toNat_lt ch
  clear hb1 hl0 hcs0 hi0 hz0 hzs hzb hW1 hq
  have h0' : ¬ (n : Int) < 0 := by omega
  have h1' : ¬ (65536 : Int) < (n : Int) := by omega
  go_enter Try.func6, Try.ntmps6
  go_wp2
  go_loopw [6] (fun v6 wr => ∃ (i : Nat) (cs : Array Value), i ≤ n ∧ v6 = .int .i64 (i : Int) ∧ wr.heap[C]? = some (.cells cs 5 (0, 0)) ∧ cs.size = n ∧ (∀ j, j < i → cs[j]? = some (.int .u8 (q : Int))) ∧ Below w.heap.size w wr) (fun v6 _ => n - (intOf v6).toNat)
  case atStart => exact ⟨0, cs0, Nat.zero_le _, rfl, HR1.out.1, HR1.out.2.2.1, fun j hj => by omega, HR1.out.2.1⟩
  case round =>
    obtain ⟨i, cs, hi, rfl, hr, hl, hc, hb⟩ := hrel
    by_cases hlt : i < n
    · have kk : (i : Int) < (n : Int) := by omega
      obtain ⟨v, hv⟩ : ∃ v, cs[i]? = some v := ⟨_, Array.getElem?_eq_getElem (by omega)⟩
      have ci : wr.cell? ⟨C, i, none⟩ = some v := by rw [cell_of_row _ _ _ _ _ _ hr]; exact hv
      have fi := frozen_of_row wr C i _ _ hr
      have HF : Hid ((wr.setCell ⟨C, i, none⟩ (.int .u8 (q : Int))).heap[C]? = some (.cells (cs.setIfInBounds i (.int .u8 (q : Int))) 5 (0, 0)) ∧ (cs.setIfInBounds i (.int .u8 (q : Int))).size = n ∧ (∀ j, j < i + 1 → (cs.setIfInBounds i (.int .u8 (q : Int)))[j]? = some (.int .u8 (q : Int))) ∧ Below w.heap.size w (wr.setCell ⟨C, i, none⟩ (.int .u8 (q : Int)))) := by
        refine ⟨heap_setCell_same _ _ _ _ _ _ hr, by simp [hl], fun j hj => ?_, hb.setCell (by show w.heap.size ≤ C; rw [HR1.out.2.2.2]; exact Nat.le_refl _) _⟩
        rw [Array.getElem?_setIfInBounds]
        split
        · next h => rw [if_pos (by omega)]
        · next h => exact hc j (by omega)
      clear hr hl hc hb hv
      go_wp2
      exact ⟨⟨i + 1, _, by omega, by go_num, HF.out⟩, by simp [intOf]; omega⟩
    · have hin : i = n := by omega
      subst hin
      have kk : ¬ (i : Int) < (i : Int) := by omega
      have hcv : cs = (bytesV (List.replicate i ch)).toArray := by
        apply Array.ext_getElem?
        intro j
        by_cases hj : j < i
        · rw [hc j hj]
          unfold bytesV
          simp [hj, HN.out.2]
        · rw [Array.getElem?_eq_none (by omega), Array.getElem?_eq_none (by simp [bytesV_len]; omega)]
      have hbs : Bs wr (some ⟨C, 0, none⟩) i i (List.replicate i ch) := by
        rw [hcv] at hr
        refine Bs.owned (base := 0) ⟨by rw [bytesV_len, List.length_replicate, Nat.mul_one], .inr ⟨C, i, _, rfl, Nat.zero_le _, hr, Nat.le_refl _, by unfold maxLen; omega, by simp [bytesV_len], ?_⟩⟩
        rw [Nat.mul_one]
        exact List.take_of_length_le (by simp [bytesV_len])
      have hP := pack_any hbs
      have hsh := rep_short ch i HN.out.1
      obtain ⟨P, hPl⟩ : ∃ P, (packB (List.replicate i ch)).length = P := ⟨_, rfl⟩
      have HP : Hid (Calls Try.prog 15 #[.slice (some ⟨C, 0, none⟩) i i] wr fun e w' => ∃ a c, e = .returned (.tuple #[.slice a P c, .int .i64 0]) ∧ Below w.heap.size w w') := by
        refine hP.mono ?_
        rintro e w' ⟨hb', h⟩
        rcases h with ⟨h, _⟩ | ⟨_, a, c, rfl, _⟩
        · rw [List.length_replicate] at h; have := HN.out.1; omega
        · exact ⟨a, c, by rw [hPl], hb.trans (hb'.mono hb.size)⟩
      rw [hPl] at hsh
      have hdv : (i : Int).tdiv 20 = ((i / 20 : Nat) : Int) := by rw [Int.tdiv_eq_ediv_of_nonneg (by omega)]; omega
      obtain ⟨D, hD⟩ : ∃ D, i / 20 = D := ⟨_, rfl⟩
      rw [hD] at hdv hsh
      have hD2 : D ≤ 65536 := by omega
      have w1 : IntKind.i64.wrap ((i : Int) / 20) = (D : Int) := by rw [IntKind.wrap_i64]; omega
      have w1' : IntKind.i64.wrap (D : Int) = (D : Int) := by rw [IntKind.wrap_i64]; omega
      have w2 : IntKind.i64.wrap (12 + (D : Int)) = 12 + (D : Int) := by rw [IntKind.wrap_i64]; omega
      have k9 : (P : Int) ≤ 12 + (D : Int) := by omega
      have k10 : ((i : Int)) / 20 = (D : Int) := by omega
      clear hr hl hc hb hcv hbs hP hPl hsh
      go_wp2_with fail
      refine HP.out.mono ?_
      rintro e V ⟨a, c, rfl, hb⟩
      have HB : Hid (Below w.heap.size w V) := hb
      clear hb
      go_wp2_with (go_at_call 9; refine (HLV.out _ (HB.out)).mono ?_; rintro e w' ⟨rfl, hb⟩)
      go_ret
      exact ⟨rfl, hb⟩

set_option linter.unusedVariables false in
set_option maxRecDepth 100000 in
theorem lifted (os : _root_.Go.Os) (started : os.Started) (H : Type) (enc : TypeId × Value → H) :
    ReturnsInHanded {} Try.checked os 6 .any (Rows.lzShortSpec.pre6 enc Try.prog Try.f6 Rows.lzShortRow.domain false) (Rows.lzShortSpec.post enc Try.prog Try.f6 false true false false) := by
  refine returnsInHanded_of_change_sized (C := Try.checked) own started (by kernel_rfl) Try.func6
    (ChangeSpec.witness6 (enc := enc) (C := Try.checked) false ⟨#[], #[.int .u8 0, .int .i64 0], []⟩ 8 (by kernel_rfl) (by kernel_rfl) (by kernel_rfl) (by kernel_rfl)) ?_
  intro W base args ds gs before hval0 hW hcnd hsz0 _
  have hval : ∀ (j : Nat) t v, Try.f6.params[j]? = some t → args[j]? = some v → Value.okWide Try.prog W .any base t v := hval0
  have hsz : (DataW.weightsEach Try.prog (Try.f6.params.toList ++ Rows.lzShortSpec.plain.varTypes Try.prog) (ds ++ gs)).all (· ≤ reachBytes) = true := hsz0
  have hW' := hW
  obtain ⟨p, q, hA0, hV, rfl, hfz, hnd⟩ := hW
  have hA : DataW.TrodAll enc Try.prog W 0 (fun _ => true) true Try.f6.params.toList args.toList ds p := hA0
  rw [Try.params6] at hA hval hsz
  obtain ⟨v0, vs0, d0, ds0, p0, q0, hargs, rfl, rfl, h0, r0⟩ := trodAll_cons hA
  obtain ⟨v1, vs1, d1, ds1, p1, q1, rfl, rfl, rfl, h1, r1⟩ := trodAll_cons r0
  obtain ⟨rfl, rfl, rfl⟩ := trodAll_nil r1
  obtain rfl : args = #[v0, v1] := by cases args; simp_all
  obtain ⟨rfl, rfl⟩ := trodVars_none hV
  obtain ⟨x0, rfl, rfl, rfl, w0⟩ := open_int Try.underlying5 (hval 0 5 v0 rfl rfl) h0
  obtain ⟨x1, rfl, rfl, rfl, w1⟩ := open_int Try.underlying3 (hval 1 3 v1 rfl rfl) h1
  clear hA0 hval0 hsz hsz0
  refine (walk x0 (wf_u8 w0) x1 (wf_i64 w1) W ).mono fun e W' ⟨he, bel⟩ => ?_
  subst he
  exact ⟨_, rfl, _, _, _, [], _, [], hW', trodAll_mk1 (shut_bool Try.underlying4 _), (trodAll_cons_mk (shut_int Try.underlying5 w0) (trodAll_cons_mk (shut_int Try.underlying3 w1) trodAll_mk0)), rfl, bel.frame _, fun h => by cases h⟩

theorem over : Rows.lzShortRow.holds Try.pinned (OpenSpec.ofChange Rows.lzShortSpec) :=
  OpenClaim.holds_of_wide 6 Try.f6 rfl rfl rfl rfl rfl rfl rfl ⟨rfl, rfl, rfl, rfl, rfl⟩ rfl rfl rfl rfl rfl (by kernel_rfl) Try.func6 (by kernel_rfl)
    (of_decide_eq_true (by kernel_rfl)) (by unfold Func.isWrapper; first | (rw [if_pos (by decide +kernel)]; kernel_rfl) | (rw [if_neg (by decide +kernel)]; exact ⟨rfl, rfl⟩))
    (fun os started H enc _ => lifted os started H enc)

end Go.Proofs.Ytekbmdpokghmmaa.lzShort
namespace Go.Proofs.Ytekbmdpokghmmaa
/-- The given statement. -/
theorem lzShort_holds : Rows.LzShortSaid := lzShort.over
#print axioms lzShort_holds
end Go.Proofs.Ytekbmdpokghmmaa
