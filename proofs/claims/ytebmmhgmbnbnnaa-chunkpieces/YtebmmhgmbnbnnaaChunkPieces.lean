/- Proved: for every l and m, the law ChunkPieces returns true, l and m as they were. No condition: every input that can be read as data. -/
import Derived.Test.YtebmmhgmbnbnnaaRows
import Derived.Test.YtebmmhgmbnbnnaaCO
import Derived.WalkKit
import Derived.ProofKit
import Derived.OpenShut
import Derived.ShutString
import Derived.ChangeOld
import Derived.SizedLaws
import Derived.Below
namespace Go.Proofs.Ytebmmhgmbnbnnaa.chunkPieces
open Go.ChangeShapes Go.WideShapes Go.ChangeAt Go.RowKit Ck
open Go.ChangeMaps (open_string shut_string)
theorem own : ownKnob Try.prog.godebug = none := by kernel_rfl
theorem laidOut : laidOutB Try.prog = true := by kernel_rfl

set_option maxRecDepth 100000 in
set_option maxHeartbeats 2000000 in
theorem walk (a0 : Option Addr) (len0 cap0 : Nat) (ma1 mb1 mc1 : Int) (w : World) (w0 : Bss w a0 len0 cap0) :
    Calls Try.prog 6 #[.slice a0 len0 cap0, .agg #[.int .i64 ma1, .int .i64 mb1, .int .i64 mc1]] w fun e w' => e = .returned (.bool true) ∧ Below w.heap.size w w' := by
  have HLV : Hid (∀ W, Below w.heap.size w W → Calls Try.prog 9 #[] W fun e w' => e = .returned (.bool true) ∧ Below w.heap.size w w') := by
    intro W hW
    refine (lives_any W).mono ?_
    rintro e w' ⟨rfl, hb⟩
    exact ⟨rfl, hW.trans (hb.mono hW.size)⟩
  obtain ⟨B, hB⟩ : ∃ B, w.heap.size = B := ⟨_, rfl⟩
  obtain ⟨A, hA⟩ : ∃ A, w.alloc (.cells #[.int .i64 ma1, .int .i64 mb1, .int .i64 mc1] 23) = A := ⟨_, rfl⟩
  have hrowA : A.heap[B]? = some (.cells #[.int .i64 ma1, .int .i64 mb1, .int .i64 mc1] 23 (0, 0)) := by rw [← hA, ← hB]; exact heap_alloc_new w _
  have hbA : Below w.heap.size w A := by rw [← hA]; exact (Below.refl _ w).alloc (Nat.le_refl _) _
  have HMC : Hid (∀ V, Below A.heap.size A V → (V.cell? ⟨B, 0, none⟩ = some (.int .i64 ma1) ∧ V.cell? ⟨B, 1, none⟩ = some (.int .i64 mb1) ∧ V.cell? ⟨B, 2, none⟩ = some (.int .i64 mc1)) ∧ Below w.heap.size w V) := by
    intro V hV
    have hr := (hV.block _ (lt_of_some hrowA)).trans hrowA
    refine ⟨⟨?_, ?_, ?_⟩, hbA.trans (hV.mono hbA.size)⟩ <;> rw [cell_of_row _ _ _ _ _ _ hr] <;> rfl
  have HLA : Hid (∀ V, Below A.heap.size A V → Calls Try.prog 9 #[] V fun e w' => e = .returned (.bool true) ∧ Below w.heap.size w w') := fun V hV => HLV.out V (HMC.out V hV).2
  have HMY : Hid (∀ V, Below A.heap.size A V → Calls Try.prog 12 #[.agg #[.int .i64 ma1, .int .i64 mb1, .int .i64 mc1]] V fun e w' => e = .returned (.bool (mayI ma1 mb1 mc1)) ∧ Below A.heap.size A w') := by
    intro V hV
    refine (may_any _ _ _ V).mono ?_
    rintro e w' ⟨rfl, hb⟩
    exact ⟨rfl, hV.trans (hb.mono hV.size)⟩
  have hAA : Below A.heap.size A A := Below.refl _ _
  have HA0 : Hid (Below A.heap.size A A) := hAA
  have HBS : Hid (∀ V, Below A.heap.size A V → 0 < len0 → ∃ b o, a0 = some ⟨b, o, none⟩ ∧ ∀ i, i < len0 → ∃ (a' : Option Addr) (l' c' : Nat) (bs : List UInt8), V.cell? ⟨b, o + i, none⟩ = some (.slice a' l' c') ∧ BsI V a' l' c' bs ∧ (∀ x, ob a' = some x → 0 < l' → x < A.heap.size)) := by
    intro V hV h0
    obtain ⟨b, o, e, hb, hc⟩ := w0.2.2 h0
    refine ⟨b, o, e, fun i hi => ?_⟩
    obtain ⟨a', l', c', bs, h1, h2⟩ := hc i hi
    have hwV := (HMC.out V hV).2
    refine ⟨a', l', c', bs, by rw [hwV.cell hb]; exact h1, h2.below hwV, fun x hx h3 => ?_⟩
    obtain ⟨bb, bo, e2, h4, _⟩ := h2.2.2.2 h3
    rw [e2] at hx
    cases hx
    exact Nat.lt_of_lt_of_le h4 hbA.size
  have hlen0 : len0 ≤ 9223372036854775807 := Nat.le_trans w0.1 w0.2.1
  obtain ⟨R, hR⟩ : ∃ R, mayI ma1 mb1 mc1 = R := ⟨_, rfl⟩
  cases R with
  | false =>
    have HNW : Hid (∀ V, Below A.heap.size A V → Calls Try.prog 11 #[.agg #[.int .i64 ma1, .int .i64 mb1, .int .i64 mc1]] V fun e w' => e = .returned (.tuple #[.pointer none, .int .i64 1]) ∧ Below A.heap.size A w') := by
      intro V hV
      refine (new_no ma1 mb1 mc1 V hR).mono ?_
      rintro e w' ⟨rfl, hb⟩
      exact ⟨rfl, hV.trans (hb.mono hV.size)⟩
    rw [hR] at HMY
    clear hrowA hbA hAA hR w0 HBS
    obtain ⟨y0, y1, y2⟩ := (HMC.out A HA0.out).1
    go_enter Try.func6, Try.ntmps6
    go_wp2_with fail
    refine (HNW.out _ HA0.out).mono ?_
    clear y0 y1 y2
    rintro e V1 ⟨rfl, hb1⟩
    obtain ⟨c0, c1, c2⟩ := (HMC.out V1 hb1).1
    have H1 : Hid (Below A.heap.size A V1) := hb1
    clear hb1
    go_wp2_with fail
    refine (HMY.out _ H1.out).mono ?_
    rintro e V3 ⟨rfl, hb3⟩
    have H3 : Hid (Below A.heap.size A V3) := hb3
    clear hb3 c0 c1 c2
    go_wp2_with (go_at_call 9; refine (HLA.out _ H3.out).mono ?_; rintro e w' ⟨rfl, hb⟩)
    go_ret
    exact ⟨rfl, hb⟩
  | true =>
    obtain ⟨m, hm, e0, e1, e2⟩ := ms_of hR
    obtain ⟨mo, hmo⟩ : ∃ x, m.most = x := ⟨_, rfl⟩
    have hmoi : mb1 = (mo : Int) := by rw [e1, hmo]
    have HNW : Hid (Calls Try.prog 11 #[.agg #[.int .i64 ma1, .int .i64 mb1, .int .i64 mc1]] A fun e w' => ∃ g q r, e = .returned (.tuple #[.pointer (some ⟨g, 0, none⟩), .int .i64 0]) ∧ CtIs w' g q r none 0 m [] [] ∧ Below A.heap.size A w' ∧ A.heap.size ≤ g ∧ A.heap.size ≤ q ∧ A.heap.size ≤ r) := by
      rw [e0, e1, e2]
      exact new_yes m hm A
    have HCU0 : Hid (∀ (T : List UInt8) (S : ByteArray), strOf T = S → T.length ≤ 20000 → ∀ V, Below A.heap.size A V → Calls Try.prog 10 #[.string S, .agg #[.int .i64 ma1, .int .i64 mb1, .int .i64 mc1]] V fun e w' => ∃ a n c, e = .returned (.tuple #[.slice a n c, .int .i64 0]) ∧ Tw (fun _ => True) w' a n c ((cutL m T).map strOf) ∧ Below V.heap.size V w') := by
      intro T S hS hT V hV
      rw [← hS, e0, e1, e2]
      refine (cut_yes m hm T hT V).mono ?_
      rintro e w' ⟨a, n, c, rfl, h1, h2⟩
      exact ⟨a, n, c, rfl, tw_of_own h1, h2⟩
    have HMO : Hid (m.most = mo) := hmo
    have HM : Hid m.Ok := hm
    clear hrowA hbA hAA hR w0 HMY hm e0 e1 e2 hmo
    subst hmoi
    obtain ⟨y0, y1, y2⟩ := (HMC.out A HA0.out).1
    go_enter Try.func6, Try.ntmps6
    go_wp2_with fail
    refine HNW.out.mono ?_
    clear y0 y1 y2
    rintro e V1 ⟨g, q, r, rfl, hc1, hb1, hg, hq, hr⟩
    have H1 : Hid (CtIs V1 g q r none 0 m [] [] ∧ Below A.heap.size A V1 ∧ (∀ x, ctS g q r none x → A.heap.size ≤ x)) := ⟨hc1, hb1, fun x hx => by
      rcases hx with hx | hx | hx | hx
      · omega
      · omega
      · omega
      · cases hx⟩
    clear HNW hc1 hb1 hg hq hr
    go_wp2
    go_loopw [7] (fun vr wr => ∃ (rd : Nat) (wa : Option Addr) (wc : Nat), rd ≤ 2 ∧ vr = .int .i64 rd ∧ CtIs wr g q r wa wc m [] [] ∧ Below A.heap.size A wr ∧ (∀ x, ctS g q r wa x → A.heap.size ≤ x)) (fun vr _ => 3 - (intOf vr).toNat)
    case atStart => exact ⟨0, none, 0, by omega, rfl, H1.out.1, H1.out.2.1, H1.out.2.2⟩
    case round =>
      clear H1
      obtain ⟨rd, wa, wc, hrd, rfl, hct, hbw, hold⟩ := hrel
      have HS0 : Hid (PcS A wr g q r m [] none 0 0 wa wc [] []) := PcS.start hct hbw hold
      have HLW : Hid (Calls Try.prog 9 #[] wr fun e w' => e = .returned (.bool true) ∧ Below w.heap.size w w') := HLA.out wr hbw
      clear hct hbw hold
      by_cases hr2 : rd < 2
      · have kr : (rd : Int) < 2 := by omega
        clear HLW
        go_wp2
        go_loopw [8, 9, 10] (fun vg vt vi wr => ∃ (i : Nat) (T : List UInt8) (S : ByteArray) (ga : Option Addr) (gn gc : Nat) (wa : Option Addr) (wc : Nat) (Gs : List (List UInt8)) (wt : List UInt8), i ≤ 30 ∧ i ≤ len0 ∧ vi = .int .i64 i ∧ vt = .string S ∧ vg = .slice ga gn gc ∧ S = strOf T ∧ T.length ≤ 500 * i ∧ PcS A wr g q r m T ga gn gc wa wc Gs wt) (fun _ _ vi _ => 31 - (intOf vi).toNat)
        case atStart => exact ⟨0, [], ⟨#[]⟩, none, 0, 0, wa, wc, [], [], by omega, by omega, rfl, rfl, rfl, rfl, by simp, HS0.out⟩
        case round =>
          clear HS0
          obtain ⟨i, T, S, ga, gn, gc, wa, wc, Gs, wt, hi30, hil, rfl, rfl, rfl, hS, hTl, hP⟩ := hrel
          have HP : Hid (PcS A wr g q r m T ga gn gc wa wc Gs wt ∧ S = strOf T) := ⟨hP, hS⟩
          have hSz : S.size = T.length := by rw [hS, strOf_size]
          by_cases hgo : i < len0 ∧ i < 30
          · have k1 : (i : Int) < (len0 : Int) := by omega
            have k2 : (i : Int) < 30 := by omega
            obtain ⟨bb, bo, rfl, hcl⟩ := HBS.out wr hP.bel (by omega)
            obtain ⟨a', l', c', bs, hc1, hbs, hob⟩ := hcl i hgo.1
            by_cases h500 : 500 < l'
            · have k3 : (500 : Int) < (l' : Int) := by omega
              have HLW : Hid (Calls Try.prog 9 #[] wr fun e w' => e = .returned (.bool true) ∧ Below w.heap.size w w') := HLA.out wr hP.bel
              clear hcl hbs hob hP hS hgo
              go_wp2_with (go_at_call 9; refine HLW.out.mono ?_; rintro e w' ⟨rfl, hb⟩)
              go_ret
              exact ⟨rfl, hb⟩
            · have k3 : ¬ (500 : Int) < (l' : Int) := by omega
              have hbl := hbs.1
              have hcv := hbs.conv (Below.refl _ wr)
              obtain ⟨S1, hS1⟩ : ∃ S1, strOf bs = S1 := ⟨_, rfl⟩
              have hS1z : S1.size = l' := by rw [← hS1, strOf_size, hbl]
              obtain ⟨S2, hS2⟩ : ∃ S2, S ++ S1 = S2 := ⟨_, rfl⟩
              have hS2T : S2 = strOf (T ++ bs) := by rw [← hS2, hS, ← hS1, strOf_append]
              have hno : ¬ 9223372036854775807 < S.size + S1.size := by omega
              rw [hS1] at hcv
              have HWR : Hid (Calls Try.prog 17 #[.pointer (some ⟨g, 0, none⟩), .slice a' l' c'] wr fun e w' => ∃ oa on oc wa' wc' Ls wt', e = .returned (.slice oa on oc) ∧ WrS wr w' g q r wa m T wt bs l' oa on oc wa' wc' Ls wt') := by
                refine write_ct hP.ct hP.less hbs (fun x h9 hx hx2 => ?_) (by omega)
                have h8 := hP.old x hx2
                exact absurd (hob x hx h9) (by omega)
              have H2 : Hid (bs.length = l' ∧ S2 = strOf (T ++ bs) ∧ l' ≤ 500 ∧ T.length ≤ 500 * i) := ⟨hbl, hS2T, by omega, hTl⟩
              clear hcl hbs hob hP hS hbl hS1 hS2T hgo h500
              go_wp2_with fail
              refine HWR.out.mono ?_
              rintro e V1 ⟨oa, on, oc, wa', wc', Ls, wt', rfl, hW⟩
              have hW' : WrS wr V1 g q r wa m T wt bs bs.length oa on oc wa' wc' Ls wt' := by rw [H2.out.1]; exact hW
              have hfew := HP.out.1.few
              have hon := hW'.few HP.out.1.less
              have h2a := H2.out
              obtain ⟨hr1, hs1⟩ := HP.out.1.row1 hW'
              obtain ⟨ga', gc', V2, hrA, hoA, hgA, hatA⟩ := addT_own V1 hr1 (tw_of_own hW'.out) (by omega) hs1
              have hP2 : PcS A V2 g q r m (T ++ bs) ga' (gn + on) gc' wa' wc' (Gs ++ Ls) wt' := HP.out.1.wrote hW' hoA hgA hatA
              obtain ⟨gn2, hgn2⟩ : ∃ x, gn + on = x := ⟨_, rfl⟩
              obtain ⟨T2, hT2⟩ : ∃ x, T ++ bs = x := ⟨_, rfl⟩
              obtain ⟨G2, hG2⟩ : ∃ x, Gs ++ Ls = x := ⟨_, rfl⟩
              rw [hgn2] at hrA hP2
              rw [hT2, hG2] at hP2
              have hT2l : T2.length ≤ 500 * (i + 1) := by rw [← hT2, List.length_append]; omega
              have hS2T : S2 = strOf T2 := by rw [← hT2]; exact H2.out.2.1
              have hS2z : S2.size = T2.length := by rw [hS2T, strOf_size]
              have hP3 : Hid (PcS A V2 g q r m T2 ga' gn2 gc' wa' wc' G2 wt' ∧ S2 = strOf T2 ∧ T2.length ≤ 500 * (i + 1)) := ⟨hP2, hS2T, hT2l⟩
              have hgn : gn2 ≤ 15000 := by have := hP2.few; omega
              have hsum := hP2.sum
              have hless := hP2.less
              rw [HMO.out] at hless
              have HLF : Hid (Calls Try.prog 18 #[.pointer (some ⟨g, 0, none⟩)] V2.drew fun e w' => e = .returned (.int .i64 (wt'.length : Int)) ∧ w' = V2.drew) := left_any (w := V2.drew) (hP2.ct.below (Below.refl _ V2).drew)
              have HTG : Hid (Tw (fun _ => True) V2 ga' gn2 gc' (G2.map strOf) ∧ G2.length = gn2) := ⟨tw_of_own hP2.row, hP2.count⟩
              obtain ⟨z0, z1, z2⟩ := (HMC.out V2 hP2.bel).1
              obtain ⟨lw, hlw⟩ : ∃ x, wt'.length = x := ⟨_, rfl⟩
              obtain ⟨ln, hln⟩ : ∃ x, G2.flatten.length = x := ⟨_, rfl⟩
              rw [hlw] at HLF hless hsum
              rw [hln] at hsum
              have HLN : Hid (G2.flatten.length = ln) := hln
              have d1 : lw < mo := hless
              have d2 : (ln : Int) + (lw : Int) = (S2.size : Int) := by omega
              have hln2 : ln ≤ 15000 := by omega
              have hwS : IntKind.i64.wrap (S2.size : Int) = (S2.size : Int) := wrapI _ (by omega) (by omega)
              clear hW hW' hfew hon h2a hr1 hs1 hoA hgA hatA hP2 hgn2 hT2 hG2 hT2l hS2T hlw hln hless HWR hS2z hsum
              go_wp2_with (at_builtin; refine wpList_app V1 rfl _ _ _ _ rfl rfl rfl (hrA _) ?_)
              clear hrA
              go_loop [11, 12] (fun vn vk => ∃ (k p : Nat), k ≤ gn2 ∧ vk = .int .i64 k ∧ vn = .int .i64 p ∧ p = (G2.take k).flatten.length) (fun _ vk => gn2 - (intOf vk).toNat)
              case atStart => exact ⟨0, 0, by omega, rfl, rfl, by simp⟩
              case round =>
                obtain ⟨k, p, hk, rfl, rfl, hp⟩ := hrel
                by_cases hkl : k < gn2
                · have kk : (k : Int) < (gn2 : Int) := by omega
                  obtain ⟨tb, to, rfl, _, hcc⟩ := HTG.out.1.at (by omega)
                  obtain ⟨x, hx⟩ : ∃ x, G2[k]? = some x := ⟨_, List.getElem?_eq_getElem (by rw [HTG.out.2]; exact hkl)⟩
                  have t1 := hcc k (strOf x) (by rw [List.getElem?_map, hx]; rfl)
                  obtain ⟨X, hX⟩ : ∃ X, strOf x = X := ⟨_, rfl⟩
                  have hXz : X.size = x.length := by rw [← hX, strOf_size]
                  have f1 := flat_next G2 k x hx
                  have f2 := flat_le G2 (k + 1)
                  rw [hX] at t1
                  rw [← hp] at f1
                  rw [HLN.out] at f2
                  obtain ⟨s, hs⟩ : ∃ s, p + X.size = s := ⟨_, rfl⟩
                  have ks : (p : Int) + (X.size : Int) = (s : Int) := by omega
                  have HP4 : Hid (s = (G2.take (k + 1)).flatten.length) := by show _ = _; omega
                  have hs2 : (s : Int) ≤ 15000 := by omega
                  clear hcc hx hX f1 f2 hp hs hXz
                  go_wp2
                  exact ⟨⟨k + 1, s, by omega, by go_num, by go_num, HP4.out⟩, by simp [intOf]; omega⟩
                · have hkg : k = gn2 := by omega
                  have kk : ¬ (k : Int) < (gn2 : Int) := by omega
                  have hpl : p = ln := by
                    rw [hp, List.take_of_length_le (by rw [HTG.out.2]; omega)]
                    exact HLN.out
                  clear hp hkg
                  subst hpl
                  go_wp2
                  refine wp_region_held_drew (S := fun V => V.cell? ⟨B, 1, none⟩ = some (.int .i64 (mo : Int)) ∧ V = V2.drew) (by kernel_rfl) (⟨z1, rfl⟩) (fun hHeld => ?_)
                  refine wpAnyH_take (i := 0) (v := ?vq0) rfl (by kernel_rfl) (by kernel_rfl) (by kernel_rfl) (fun _ _ _ h => h) (Or.inl ⟨by first | kernel_rfl | rfl, ?yq0⟩) hHeld ?rq0
                  case yq0 => (intro W hSW; (try dsimp only at hSW); go_simp; (try with_reducible rfl))
                  change wpAnyH _ _ _ _ _ _ _ (Act.put _ (some 83) _) _
                  simp only [Act.put, List.setIfInBounds_toArray, List.set_cons_zero, List.set_cons_succ]
                  refine wpAnyH_take (i := 2) (v := ?vq2) rfl (by kernel_rfl) (by kernel_rfl) (by kernel_rfl) (fun _ _ _ h => h) (Or.inl ⟨by first | kernel_rfl | rfl, ?yq2⟩) hHeld ?rq2
                  case yq2 => (intro W hSW; (try dsimp only at hSW); go_simp; (try with_reducible rfl))
                  change wpAnyH _ _ _ _ _ _ _ (Act.put _ (some 85) _) _
                  simp only [Act.put, List.setIfInBounds_toArray, List.set_cons_zero, List.set_cons_succ]
                  refine wpAnyH_take (i := 3) (v := ?vq3) rfl (by kernel_rfl) (by kernel_rfl) (by kernel_rfl) (fun _ _ _ h => h) (Or.inl ⟨by first | kernel_rfl | rfl, ?yq3⟩) hHeld ?rq3
                  case yq3 => (intro W hSW; (try dsimp only at hSW); go_simp; (try with_reducible rfl))
                  change wpAnyH _ _ _ _ _ _ _ (Act.put _ (some 86) _) _
                  simp only [Act.put, List.setIfInBounds_toArray, List.set_cons_zero, List.set_cons_succ]
                  refine wpAnyH_ready (rs := [1]) (by kernel_rfl) (by simp) ?_
                  refine AllReadyH.cons rfl (fun K hK => ?_) AllReadyH.nil
                  go_simp
                  refine (HLF.out).mono ?_
                  rintro e u1 ⟨rfl, h⟩; subst u1
                  refine hK.out _ _ (hHeld) (fun hHeld => ?_)
                  clear hK K
                  try simp only [Act.put, List.setIfInBounds_toArray, List.set_cons_zero, List.set_cons_succ]
                  refine wpAnyH_take (i := 4) (v := .bool false) rfl (by kernel_rfl) (by kernel_rfl) (by kernel_rfl) (fun _ _ _ h => h) (Or.inl ⟨by first | kernel_rfl | rfl, ?yq4⟩) hHeld ?rq4
                  case yq4 => (intro W hSW; go_simp)
                  change wpAnyH _ _ _ _ _ _ _ (Act.put _ (some 87) _) _
                  simp only [Act.put, List.setIfInBounds_toArray, List.set_cons_zero, List.set_cons_succ]
                  refine wpAnyH_take (i := 5) (v := ?vq5) rfl (by kernel_rfl) (by kernel_rfl) (by kernel_rfl) (fun _ _ _ h => h) (Or.inl ⟨by first | kernel_rfl | rfl, ?yq5⟩) hHeld ?rq5
                  case yq5 => (intro W hSW; (try dsimp only at hSW); go_simp; (try with_reducible rfl))
                  change wpAnyH _ _ _ _ _ _ _ (Act.put _ (some 88) _) _
                  simp only [Act.put, List.setIfInBounds_toArray, List.set_cons_zero, List.set_cons_succ]
                  refine wpAnyH_take (i := 6) (v := ?vq6) rfl (by kernel_rfl) (by kernel_rfl) (by kernel_rfl) (fun _ _ _ h => h) (Or.inl ⟨by first | kernel_rfl | rfl, ?yq6⟩) hHeld ?rq6
                  case yq6 => (intro W hSW; (try dsimp only at hSW); go_simp; (try with_reducible rfl))
                  change wpAnyH _ _ _ _ _ _ _ (Act.put _ (some 89) _) _
                  simp only [Act.put, List.setIfInBounds_toArray, List.set_cons_zero, List.set_cons_succ]
                  refine wpAnyH_take (i := 7) (v := ?vq7) rfl (by kernel_rfl) (by kernel_rfl) (by kernel_rfl) (fun _ _ _ h => h) (Or.inl ⟨by first | kernel_rfl | rfl, ?yq7⟩) hHeld ?rq7
                  case yq7 => (intro W hSW; (try dsimp only at hSW); go_simp; (try with_reducible rfl))
                  change wpAnyH _ _ _ _ _ _ _ (Act.put _ (some 90) _) _
                  simp only [Act.put, List.setIfInBounds_toArray, List.set_cons_zero, List.set_cons_succ]
                  refine wpAnyH_take (i := 10) (v := ?vq10) rfl (by kernel_rfl) (by kernel_rfl) (by kernel_rfl) (fun _ _ _ h => h) (Or.inl ⟨by first | kernel_rfl | rfl, ?yq10⟩) hHeld ?rq10
                  case yq10 => (intro W hSW; (try dsimp only at hSW); go_simp; (try with_reducible rfl))
                  change wpAnyH _ _ _ _ _ _ _ (Act.put _ (some 93) _) _
                  simp only [Act.put, List.setIfInBounds_toArray, List.set_cons_zero, List.set_cons_succ]
                  refine wpAnyH_take (i := 11) (v := ?vq11) rfl (by kernel_rfl) (by kernel_rfl) (by kernel_rfl) (fun _ _ _ h => h) (Or.inl ⟨by first | kernel_rfl | rfl, ?yq11⟩) hHeld ?rq11
                  case yq11 => (intro W hSW; (try dsimp only at hSW); go_simp; (try with_reducible rfl))
                  change wpAnyH _ _ _ _ _ _ _ (Act.put _ (some 94) _) _
                  simp only [Act.put, List.setIfInBounds_toArray, List.set_cons_zero, List.set_cons_succ]
                  refine wpAnyH_ready (rs := [8]) (by kernel_rfl) (by simp) ?_
                  refine AllReadyH.cons rfl (fun K hK => ?_) AllReadyH.nil
                  go_simp
                  refine (HLF.out).mono ?_
                  rintro e u1 ⟨rfl, h⟩; subst u1
                  refine hK.out _ _ (hHeld) (fun hHeld => ?_)
                  clear hK K
                  try simp only [Act.put, List.setIfInBounds_toArray, List.set_cons_zero, List.set_cons_succ]
                  refine wpAnyH_take (i := 9) (v := ?vq9) rfl (by kernel_rfl) (by kernel_rfl) (by kernel_rfl) (fun _ _ _ h => h) (Or.inl ⟨by first | kernel_rfl | rfl, ?yq9⟩) hHeld ?rq9
                  case yq9 => (intro W hSW; (try dsimp only at hSW); go_simp; (try with_reducible rfl))
                  change wpAnyH _ _ _ _ _ _ _ (Act.put _ (some 92) _) _
                  simp only [Act.put, List.setIfInBounds_toArray, List.set_cons_zero, List.set_cons_succ]
                  refine wpAnyH_take (i := 12) (v := .bool false) rfl (by kernel_rfl) (by kernel_rfl) (by kernel_rfl) (fun _ _ _ h => h) (Or.inl ⟨by first | kernel_rfl | rfl, ?yq12⟩) hHeld ?rq12
                  case yq12 => (intro W hSW; go_simp)
                  change wpAnyH _ _ _ _ _ _ _ (Act.put _ (some 95) _) _
                  simp only [Act.put, List.setIfInBounds_toArray, List.set_cons_zero, List.set_cons_succ]
                  refine wpAnyH_take (i := 13) (v := ?vq13) rfl (by kernel_rfl) (by kernel_rfl) (by kernel_rfl) (fun _ _ _ h => h) (Or.inl ⟨by first | kernel_rfl | rfl, ?yq13⟩) hHeld ?rq13
                  case yq13 => (intro W hSW; (try dsimp only at hSW); go_simp; (try with_reducible rfl))
                  change wpAnyH _ _ _ _ _ _ _ (Act.put _ (some 96) _) _
                  simp only [Act.put, List.setIfInBounds_toArray, List.set_cons_zero, List.set_cons_succ]
                  refine wpAnyH_done (by kernel_rfl) ?_ _
                  clear hHeld
                  have HP9 : Hid (PcS A V2.drew g q r m T2 ga' gn2 gc' wa' wc' G2 wt') := hP3.out.1.keep (Below.refl _ V2).drew
                  go_wp2
                  exact ⟨⟨i + 1, T2, S2, ga', gn2, gc', wa', wc', G2, wt', by omega, by omega, by go_num, rfl, rfl, hP3.out.2.1, hP3.out.2.2, HP9.out⟩, by simp [intOf]; omega⟩
          · by_cases hil2 : i < len0
            · have k1 : (i : Int) < (len0 : Int) := by omega
              have k2 : ¬ (i : Int) < 30 := by omega
              clear hgo
              have HCU : Hid (∀ V, Below A.heap.size A V → Calls Try.prog 10 #[.string S, .agg #[.int .i64 ma1, .int .i64 (mo : Int), .int .i64 mc1]] V fun e w' => ∃ a n c, e = .returned (.tuple #[.slice a n c, .int .i64 0]) ∧ Tw (fun _ => True) w' a n c ((cutL m T).map strOf) ∧ Below V.heap.size V w') := HCU0.out T S hS.symm (by omega)
              have HEN : Hid (Calls Try.prog 19 #[.pointer (some ⟨g, 0, none⟩)] wr fun e w' => e = .returned (.tuple #[.string (strOf wt), .bool (decide (wt ≠ []))]) ∧ CtIs w' g q r wa wc m [] [] ∧ Upd (fun x => x = g ∨ x = q) wr w') := end_ct hP.ct
              have hfew := hP.few
              have hgn : gn ≤ 15000 := by omega
              have HSM : Hid (∀ (V : World) (a b : Option Addr) (n c k d : Nat), Below A.heap.size A V → Tw (fun _ => True) V a n c ((cutL m T).map strOf) → Tw (fun _ => True) V b k d ((cutL m T).map strOf) → Calls Try.prog 13 #[.slice a n c, .slice b k d] V fun e w' => e = .returned (.bool true) ∧ Below V.heap.size V w') := by
                intro V a b n c k d hV h1 h2
                refine (same_any h1 h2).mono ?_
                rintro e w' ⟨rfl, hb⟩
                exact ⟨by simp, hb⟩
              clear hP hS hTl hSz hfew
              by_cases h0 : wt = []
              · subst h0
                have e1 : (decide (([] : List UInt8) ≠ [])) = false := rfl
                have e2 : strOf ([] : List UInt8) = ⟨#[]⟩ := rfl
                rw [e1, e2] at HEN
                have HX0 : Hid (∀ V6, CtIs V6 g q r wa wc m [] [] → Upd (fun x => x = g ∨ x = q) wr V6 → Hid (V6.ownsRow A.heap.size 9 1 (.slice ga gn gc) gn (stR ((cutL m T).map strOf)) ∧ Below A.heap.size A V6 ∧ CtIs V6 g q r wa wc m [] [] ∧ (∀ x, ctS g q r wa x → A.heap.size ≤ x)) ∧ Hid (Calls Try.prog 18 #[.pointer (some ⟨g, 0, none⟩)] V6 fun e w' => e = .returned (.int .i64 0) ∧ w' = V6)) := by
                  intro V6 h1 h2
                  obtain ⟨q1, q2, q3⟩ := HP.out.1.ended h2
                  refine ⟨⟨?_, q2, h1, HP.out.1.old⟩, left_any h1⟩
                  rw [q3, show lastC [] = [] from rfl, List.append_nil]
                  exact q1
                have FIN : ∀ (K : Nat), K = K := fun _ => rfl
                clear FIN
                obtain ⟨ra, hra⟩ : ∃ x, ga = x := ⟨_, rfl⟩
                obtain ⟨rn, hrn⟩ : ∃ x, gn = x := ⟨_, rfl⟩
                obtain ⟨rc, hrc⟩ : ∃ x, gc = x := ⟨_, rfl⟩
                rw [hra, hrn, hrc] at HX0
                rw [hra, hrn, hrc]
                clear hra hrn hrc
                go_wp2_with fail
                refine HEN.out.mono ?_
                rintro e V6 ⟨rfl, h61, h62⟩
                obtain ⟨HX, HL6⟩ := HX0.out V6 h61 h62
                clear h61 h62 HX0
                go_wp2_with fail
                refine HL6.out.mono ?_
                rintro e u6 ⟨rfl, h⟩
                subst u6
                obtain ⟨x0, x1, x2⟩ := (HMC.out V6 HX.out.2.1).1
                go_wp2_with fail
                refine (HCU.out _ HX.out.2.1).mono ?_
                rintro e V8 ⟨sa, sn, sc, rfl, ht8, hb8⟩
                have HSS : Hid (Calls Try.prog 13 #[.slice ra rn rc, .slice sa sn sc] V8 fun e w' => e = .returned (.bool true) ∧ Below V6.heap.size V6 w') := by
                  refine (HSM.out V8 ra sa rn rc sn sc (HX.out.2.1.trans (hb8.mono HX.out.2.1.size)) ((tw_of_own HX.out.1).below hb8) ht8).mono ?_
                  rintro e w' ⟨rfl, hb⟩
                  exact ⟨rfl, hb8.trans (hb.mono hb8.size)⟩
                clear ht8 hb8 x0 x1 x2
                go_wp2_with fail
                refine HSS.out.mono ?_
                rintro e V9 ⟨rfl, hb9⟩
                have H9 : Hid (CtIs V9 g q r wa wc m [] [] ∧ Below A.heap.size A V9 ∧ (∀ x, ctS g q r wa x → A.heap.size ≤ x)) := ⟨HX.out.2.2.1.below hb9, HX.out.2.1.trans (hb9.mono HX.out.2.1.size), HX.out.2.2.2⟩
                clear hb9
                go_wp2
                exact ⟨⟨rd + 1, wa, wc, by omega, by go_num, H9.out.1, H9.out.2.1, H9.out.2.2⟩, by simp [intOf]; omega⟩
              · have e1 : (decide (wt ≠ [])) = true := by simp [h0]
                rw [e1] at HEN
                obtain ⟨X, hX⟩ : ∃ x, strOf wt = x := ⟨_, rfl⟩
                have hXe : X.toList.isEmpty = false := by
                  rw [ByteArray.toList_eq, ← hX]
                  show wt.isEmpty = false
                  cases wt with
                  | nil => exact absurd rfl h0
                  | cons => rfl
                rw [hX] at HEN
                have HX0 : Hid (∀ V6, CtIs V6 g q r wa wc m [] [] → Upd (fun x => x = g ∨ x = q) wr V6 → ∃ ra rc V7, (∀ ty, (Builtin.append_ #[25, 25] ty #[.slice ga gn gc, .slice (some ⟨V6.heap.size, 0, none⟩) 1 1]).run Try.prog (V6.alloc (.cells #[.string X] 9)) = .ok (.slice ra (gn + 1) rc) V7) ∧ Hid (V7.ownsRow A.heap.size 9 1 (.slice ra (gn + 1) rc) (gn + 1) (stR ((cutL m T).map strOf)) ∧ Below A.heap.size A V7 ∧ CtIs V7 g q r wa wc m [] [] ∧ (∀ x, ctS g q r wa x → A.heap.size ≤ x)) ∧ Hid (Calls Try.prog 18 #[.pointer (some ⟨g, 0, none⟩)] V6 fun e w' => e = .returned (.int .i64 0) ∧ w' = V6)) := by
                  intro V6 h1 h2
                  obtain ⟨q1, q2, q3⟩ := HP.out.1.ended h2
                  obtain ⟨W, hW⟩ : ∃ W, V6.alloc (.cells #[.string X] 9) = W := ⟨_, rfl⟩
                  have hbW : Below V6.heap.size V6 W := by rw [← hW]; exact (Below.refl _ V6).alloc (Nat.le_refl _) _
                  have hrW : W.heap[V6.heap.size]? = some (.cells #[.string X] 9 (0, 0)) := by rw [← hW]; exact heap_alloc_new V6 _
                  have q4 : W.ownsRow A.heap.size 9 1 (.slice ga gn gc) gn (stR (Gs.map strOf)) := own_keep q1 (fun x hx => hbW.block x (q1.lt x hx).2)
                  have q5 : Below A.heap.size A W := q2.trans (hbW.mono q2.size)
                  obtain ⟨ra, rc, V7, a1, a2, a3, a4⟩ := addT_own W q4 (txtRow hrW) (by omega) q5.size
                  refine ⟨ra, rc, V7, by rw [hW]; exact a1, ⟨?_, q5.grown a3 q5.size (fun k hk => (q4.lt k (by rw [ob_slice]; exact hk)).1), ?_, HP.out.1.old⟩, left_any h1⟩
                  · rw [q3, show lastC wt = [wt] from if_neg h0, List.map_append, List.map_singleton, hX]
                    exact a2
                  · have hcW := h1.below hbW
                    exact hcW.keep a3.size (fun x hx => a3.block x (hcW.lt x hx) (fun e => HP.out.1.apart x e.symm hx))
                clear hX
                go_wp2_with fail
                refine HEN.out.mono ?_
                rintro e V6 ⟨rfl, h61, h62⟩
                obtain ⟨ra, rc, V7, hrA, HX, HL6⟩ := HX0.out V6 h61 h62
                obtain ⟨rn, hrn⟩ : ∃ x, gn + 1 = x := ⟨_, rfl⟩
                rw [hrn] at hrA HX
                obtain ⟨W, hW⟩ : ∃ W, V6.alloc (.cells #[.string X] 9) = W := ⟨_, rfl⟩
                rw [hW] at hrA
                clear h61 h62 HX0
                go_wp2_with fail
                refine HL6.out.mono ?_
                rintro e u6 ⟨rfl, h⟩
                subst u6
                obtain ⟨x0, x1, x2⟩ := (HMC.out V7 HX.out.2.1).1
                go_wp2_with (at_builtin; refine wpList_app W rfl _ _ _ _ rfl rfl rfl (hrA _) ?_)
                refine (HCU.out _ HX.out.2.1).mono ?_
                rintro e V8 ⟨sa, sn, sc, rfl, ht8, hb8⟩
                have HSS : Hid (Calls Try.prog 13 #[.slice ra rn rc, .slice sa sn sc] V8 fun e w' => e = .returned (.bool true) ∧ Below V7.heap.size V7 w') := by
                  refine (HSM.out V8 ra sa rn rc sn sc (HX.out.2.1.trans (hb8.mono HX.out.2.1.size)) ((tw_of_own HX.out.1).below hb8) ht8).mono ?_
                  rintro e w' ⟨rfl, hb⟩
                  exact ⟨rfl, hb8.trans (hb.mono hb8.size)⟩
                clear ht8 hb8 x0 x1 x2
                go_wp2_with fail
                refine HSS.out.mono ?_
                rintro e V9 ⟨rfl, hb9⟩
                have H9 : Hid (CtIs V9 g q r wa wc m [] [] ∧ Below A.heap.size A V9 ∧ (∀ x, ctS g q r wa x → A.heap.size ≤ x)) := ⟨HX.out.2.2.1.below hb9, HX.out.2.1.trans (hb9.mono HX.out.2.1.size), HX.out.2.2.2⟩
                clear hb9
                go_wp2
                exact ⟨⟨rd + 1, wa, wc, by omega, by go_num, H9.out.1, H9.out.2.1, H9.out.2.2⟩, by simp [intOf]; omega⟩
            · have k1 : ¬ (i : Int) < (len0 : Int) := by omega
              clear hgo
              have HCU : Hid (∀ V, Below A.heap.size A V → Calls Try.prog 10 #[.string S, .agg #[.int .i64 ma1, .int .i64 (mo : Int), .int .i64 mc1]] V fun e w' => ∃ a n c, e = .returned (.tuple #[.slice a n c, .int .i64 0]) ∧ Tw (fun _ => True) w' a n c ((cutL m T).map strOf) ∧ Below V.heap.size V w') := HCU0.out T S hS.symm (by omega)
              have HEN : Hid (Calls Try.prog 19 #[.pointer (some ⟨g, 0, none⟩)] wr fun e w' => e = .returned (.tuple #[.string (strOf wt), .bool (decide (wt ≠ []))]) ∧ CtIs w' g q r wa wc m [] [] ∧ Upd (fun x => x = g ∨ x = q) wr w') := end_ct hP.ct
              have hfew := hP.few
              have hgn : gn ≤ 15000 := by omega
              have HSM : Hid (∀ (V : World) (a b : Option Addr) (n c k d : Nat), Below A.heap.size A V → Tw (fun _ => True) V a n c ((cutL m T).map strOf) → Tw (fun _ => True) V b k d ((cutL m T).map strOf) → Calls Try.prog 13 #[.slice a n c, .slice b k d] V fun e w' => e = .returned (.bool true) ∧ Below V.heap.size V w') := by
                intro V a b n c k d hV h1 h2
                refine (same_any h1 h2).mono ?_
                rintro e w' ⟨rfl, hb⟩
                exact ⟨by simp, hb⟩
              clear hP hS hTl hSz hfew
              by_cases h0 : wt = []
              · subst h0
                have e1 : (decide (([] : List UInt8) ≠ [])) = false := rfl
                have e2 : strOf ([] : List UInt8) = ⟨#[]⟩ := rfl
                rw [e1, e2] at HEN
                have HX0 : Hid (∀ V6, CtIs V6 g q r wa wc m [] [] → Upd (fun x => x = g ∨ x = q) wr V6 → Hid (V6.ownsRow A.heap.size 9 1 (.slice ga gn gc) gn (stR ((cutL m T).map strOf)) ∧ Below A.heap.size A V6 ∧ CtIs V6 g q r wa wc m [] [] ∧ (∀ x, ctS g q r wa x → A.heap.size ≤ x)) ∧ Hid (Calls Try.prog 18 #[.pointer (some ⟨g, 0, none⟩)] V6 fun e w' => e = .returned (.int .i64 0) ∧ w' = V6)) := by
                  intro V6 h1 h2
                  obtain ⟨q1, q2, q3⟩ := HP.out.1.ended h2
                  refine ⟨⟨?_, q2, h1, HP.out.1.old⟩, left_any h1⟩
                  rw [q3, show lastC [] = [] from rfl, List.append_nil]
                  exact q1
                have FIN : ∀ (K : Nat), K = K := fun _ => rfl
                clear FIN
                obtain ⟨ra, hra⟩ : ∃ x, ga = x := ⟨_, rfl⟩
                obtain ⟨rn, hrn⟩ : ∃ x, gn = x := ⟨_, rfl⟩
                obtain ⟨rc, hrc⟩ : ∃ x, gc = x := ⟨_, rfl⟩
                rw [hra, hrn, hrc] at HX0
                rw [hra, hrn, hrc]
                clear hra hrn hrc
                go_wp2_with fail
                refine HEN.out.mono ?_
                rintro e V6 ⟨rfl, h61, h62⟩
                obtain ⟨HX, HL6⟩ := HX0.out V6 h61 h62
                clear h61 h62 HX0
                go_wp2_with fail
                refine HL6.out.mono ?_
                rintro e u6 ⟨rfl, h⟩
                subst u6
                obtain ⟨x0, x1, x2⟩ := (HMC.out V6 HX.out.2.1).1
                go_wp2_with fail
                refine (HCU.out _ HX.out.2.1).mono ?_
                rintro e V8 ⟨sa, sn, sc, rfl, ht8, hb8⟩
                have HSS : Hid (Calls Try.prog 13 #[.slice ra rn rc, .slice sa sn sc] V8 fun e w' => e = .returned (.bool true) ∧ Below V6.heap.size V6 w') := by
                  refine (HSM.out V8 ra sa rn rc sn sc (HX.out.2.1.trans (hb8.mono HX.out.2.1.size)) ((tw_of_own HX.out.1).below hb8) ht8).mono ?_
                  rintro e w' ⟨rfl, hb⟩
                  exact ⟨rfl, hb8.trans (hb.mono hb8.size)⟩
                clear ht8 hb8 x0 x1 x2
                go_wp2_with fail
                refine HSS.out.mono ?_
                rintro e V9 ⟨rfl, hb9⟩
                have H9 : Hid (CtIs V9 g q r wa wc m [] [] ∧ Below A.heap.size A V9 ∧ (∀ x, ctS g q r wa x → A.heap.size ≤ x)) := ⟨HX.out.2.2.1.below hb9, HX.out.2.1.trans (hb9.mono HX.out.2.1.size), HX.out.2.2.2⟩
                clear hb9
                go_wp2
                exact ⟨⟨rd + 1, wa, wc, by omega, by go_num, H9.out.1, H9.out.2.1, H9.out.2.2⟩, by simp [intOf]; omega⟩
              · have e1 : (decide (wt ≠ [])) = true := by simp [h0]
                rw [e1] at HEN
                obtain ⟨X, hX⟩ : ∃ x, strOf wt = x := ⟨_, rfl⟩
                have hXe : X.toList.isEmpty = false := by
                  rw [ByteArray.toList_eq, ← hX]
                  show wt.isEmpty = false
                  cases wt with
                  | nil => exact absurd rfl h0
                  | cons => rfl
                rw [hX] at HEN
                have HX0 : Hid (∀ V6, CtIs V6 g q r wa wc m [] [] → Upd (fun x => x = g ∨ x = q) wr V6 → ∃ ra rc V7, (∀ ty, (Builtin.append_ #[25, 25] ty #[.slice ga gn gc, .slice (some ⟨V6.heap.size, 0, none⟩) 1 1]).run Try.prog (V6.alloc (.cells #[.string X] 9)) = .ok (.slice ra (gn + 1) rc) V7) ∧ Hid (V7.ownsRow A.heap.size 9 1 (.slice ra (gn + 1) rc) (gn + 1) (stR ((cutL m T).map strOf)) ∧ Below A.heap.size A V7 ∧ CtIs V7 g q r wa wc m [] [] ∧ (∀ x, ctS g q r wa x → A.heap.size ≤ x)) ∧ Hid (Calls Try.prog 18 #[.pointer (some ⟨g, 0, none⟩)] V6 fun e w' => e = .returned (.int .i64 0) ∧ w' = V6)) := by
                  intro V6 h1 h2
                  obtain ⟨q1, q2, q3⟩ := HP.out.1.ended h2
                  obtain ⟨W, hW⟩ : ∃ W, V6.alloc (.cells #[.string X] 9) = W := ⟨_, rfl⟩
                  have hbW : Below V6.heap.size V6 W := by rw [← hW]; exact (Below.refl _ V6).alloc (Nat.le_refl _) _
                  have hrW : W.heap[V6.heap.size]? = some (.cells #[.string X] 9 (0, 0)) := by rw [← hW]; exact heap_alloc_new V6 _
                  have q4 : W.ownsRow A.heap.size 9 1 (.slice ga gn gc) gn (stR (Gs.map strOf)) := own_keep q1 (fun x hx => hbW.block x (q1.lt x hx).2)
                  have q5 : Below A.heap.size A W := q2.trans (hbW.mono q2.size)
                  obtain ⟨ra, rc, V7, a1, a2, a3, a4⟩ := addT_own W q4 (txtRow hrW) (by omega) q5.size
                  refine ⟨ra, rc, V7, by rw [hW]; exact a1, ⟨?_, q5.grown a3 q5.size (fun k hk => (q4.lt k (by rw [ob_slice]; exact hk)).1), ?_, HP.out.1.old⟩, left_any h1⟩
                  · rw [q3, show lastC wt = [wt] from if_neg h0, List.map_append, List.map_singleton, hX]
                    exact a2
                  · have hcW := h1.below hbW
                    exact hcW.keep a3.size (fun x hx => a3.block x (hcW.lt x hx) (fun e => HP.out.1.apart x e.symm hx))
                clear hX
                go_wp2_with fail
                refine HEN.out.mono ?_
                rintro e V6 ⟨rfl, h61, h62⟩
                obtain ⟨ra, rc, V7, hrA, HX, HL6⟩ := HX0.out V6 h61 h62
                obtain ⟨rn, hrn⟩ : ∃ x, gn + 1 = x := ⟨_, rfl⟩
                rw [hrn] at hrA HX
                obtain ⟨W, hW⟩ : ∃ W, V6.alloc (.cells #[.string X] 9) = W := ⟨_, rfl⟩
                rw [hW] at hrA
                clear h61 h62 HX0
                go_wp2_with fail
                refine HL6.out.mono ?_
                rintro e u6 ⟨rfl, h⟩
                subst u6
                obtain ⟨x0, x1, x2⟩ := (HMC.out V7 HX.out.2.1).1
                go_wp2_with (at_builtin; refine wpList_app W rfl _ _ _ _ rfl rfl rfl (hrA _) ?_)
                refine (HCU.out _ HX.out.2.1).mono ?_
                rintro e V8 ⟨sa, sn, sc, rfl, ht8, hb8⟩
                have HSS : Hid (Calls Try.prog 13 #[.slice ra rn rc, .slice sa sn sc] V8 fun e w' => e = .returned (.bool true) ∧ Below V7.heap.size V7 w') := by
                  refine (HSM.out V8 ra sa rn rc sn sc (HX.out.2.1.trans (hb8.mono HX.out.2.1.size)) ((tw_of_own HX.out.1).below hb8) ht8).mono ?_
                  rintro e w' ⟨rfl, hb⟩
                  exact ⟨rfl, hb8.trans (hb.mono hb8.size)⟩
                clear ht8 hb8 x0 x1 x2
                go_wp2_with fail
                refine HSS.out.mono ?_
                rintro e V9 ⟨rfl, hb9⟩
                have H9 : Hid (CtIs V9 g q r wa wc m [] [] ∧ Below A.heap.size A V9 ∧ (∀ x, ctS g q r wa x → A.heap.size ≤ x)) := ⟨HX.out.2.2.1.below hb9, HX.out.2.1.trans (hb9.mono HX.out.2.1.size), HX.out.2.2.2⟩
                clear hb9
                go_wp2
                exact ⟨⟨rd + 1, wa, wc, by omega, by go_num, H9.out.1, H9.out.2.1, H9.out.2.2⟩, by simp [intOf]; omega⟩
      · have kr : ¬ (rd : Int) < 2 := by omega
        go_wp2_with (go_at_call 9; refine HLW.out.mono ?_; rintro e w' ⟨rfl, hb⟩)
        go_ret
        exact ⟨rfl, hb⟩

set_option linter.unusedVariables false in
set_option maxRecDepth 100000 in
theorem lifted (os : _root_.Go.Os) (started : os.Started) (H : Type) (enc : TypeId × Value → H) :
    ReturnsInHanded {} Try.checked os 6 .any (Rows.chunkPiecesSpec.pre6 enc Try.prog Try.f6 Rows.chunkPiecesRow.domain false) (Rows.chunkPiecesSpec.post enc Try.prog Try.f6 false true false false) := by
  refine returnsInHanded_of_change_sized (C := Try.checked) own started (by kernel_rfl) Try.func6
    (ChangeSpec.witness6 (enc := enc) (C := Try.checked) false ⟨#[], #[.slice none 0 0, .agg #[.int .i64 0, .int .i64 0, .int .i64 0]], []⟩ 8 (by kernel_rfl) (by kernel_rfl) (by kernel_rfl) (by kernel_rfl)) ?_
  intro W base args ds gs before hval0 hW hcnd hsz0 _
  have hval : ∀ (j : Nat) t v, Try.f6.params[j]? = some t → args[j]? = some v → Value.okWide Try.prog W .any base t v := hval0
  have hsz : (DataW.weightsEach Try.prog (Try.f6.params.toList ++ Rows.chunkPiecesSpec.plain.varTypes Try.prog) (ds ++ gs)).all (· ≤ reachBytes) = true := hsz0
  have hW' := hW
  obtain ⟨p, q, hA0, hV, rfl, hfz, hnd⟩ := hW
  have hA : DataW.TrodAll enc Try.prog W 0 (fun _ => true) true Try.f6.params.toList args.toList ds p := hA0
  rw [Try.params6] at hA hval hsz
  obtain ⟨v0, vs0, d0, ds0, p0, q0, hargs, rfl, rfl, h0, r0⟩ := trodAll_cons hA
  obtain ⟨v1, vs1, d1, ds1, p1, q1, rfl, rfl, rfl, h1, r1⟩ := trodAll_cons r0
  obtain ⟨rfl, rfl, rfl⟩ := trodAll_nil r1
  obtain rfl : args = #[v0, v1] := by cases args; simp_all
  obtain ⟨rfl, rfl⟩ := trodVars_none hV
  have k0 := h0
  have lt0 : ∀ x ∈ p0, x.block < W.heap.size := by obtain ⟨m, hm⟩ := k0; exact DataW.trod_lt m _ _ _ hm
  obtain ⟨a0, len0, cap0, rfl⟩ := okWide_slice Try.underlying39 (hval 0 39 v0 rfl rfl)
  have w0 : Bss W a0 len0 cap0 := by
    obtain ⟨fuel, hf⟩ := h0
    exact bss_of (by simpa [Value.cells] using hf)
  have k1 := h1
  have lt1 : ∀ x ∈ p1, x.block < W.heap.size := by obtain ⟨m, hm⟩ := k1; exact DataW.trod_lt m _ _ _ hm
  obtain ⟨ma1, mb1, mc1, rfl, za1, zb1, zc1⟩ := ms_arg (hval 1 23 v1 rfl rfl) h1
  clear hA0 hval0 hsz hsz0
  refine (walk a0 len0 cap0 ma1 mb1 mc1 W w0).mono fun e W' ⟨he, bel⟩ => ?_
  subst he
  exact ⟨_, rfl, _, _, _, [], _, [], hW', trodAll_mk1 (shut_bool Try.underlying4 _), (trodAll_cons_mk (Below.trod laidOut (by kernel_rfl) (of_decide_eq_true (by kernel_rfl)) k0 bel lt0) (trodAll_cons_mk (Below.trod laidOut (by kernel_rfl) (of_decide_eq_true (by kernel_rfl)) k1 bel lt1) trodAll_mk0)), rfl, bel.frame _, fun h => by cases h⟩

theorem over : Rows.chunkPiecesRow.holds Try.pinned (OpenSpec.ofChange Rows.chunkPiecesSpec) :=
  OpenClaim.holds_of_wide 6 Try.f6 rfl rfl rfl rfl rfl rfl rfl ⟨rfl, rfl, rfl, rfl, rfl⟩ rfl rfl rfl rfl rfl (by kernel_rfl) Try.func6 (by kernel_rfl)
    (of_decide_eq_true (by kernel_rfl)) (by unfold Func.isWrapper; first | (rw [if_pos (by decide +kernel)]; kernel_rfl) | (rw [if_neg (by decide +kernel)]; exact ⟨rfl, rfl⟩))
    (fun os started H enc _ => lifted os started H enc)

end Go.Proofs.Ytebmmhgmbnbnnaa.chunkPieces
namespace Go.Proofs.Ytebmmhgmbnbnnaa
/-- The given statement. -/
theorem chunkPieces_holds : Rows.ChunkPiecesSaid := chunkPieces.over
#print axioms chunkPieces_holds
end Go.Proofs.Ytebmmhgmbnbnnaa
