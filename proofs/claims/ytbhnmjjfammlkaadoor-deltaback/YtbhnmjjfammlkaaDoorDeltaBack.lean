/- Proved: for every key, basis, text and size the law DeltaBack returns true (what is made of a text by a basis' signatures makes that text again of the basis, or a block and some bytes of the text that differ have the same signature); where the package's two tables begin as the program's text lays them. -/
import Derived.Test.YtbhnmjjfammlkaaDoorJB
import Derived.Test.YtbhnmjjfammlkaaDoorCards
import Derived.Test.YtbhnmjjfammlkaaDoorTie
import Derived.WalkKit
import Derived.ProofKit
import Derived.OpenShut
import Derived.ShutString
import Derived.ChangeOld
import Derived.Below
import Derived.LaidMore
import Derived.Stop.Joined
import Derived.SevenTiedAt
namespace Go.Proofs.YtbhnmjjfammlkaaDoor.deltaBack
open Go.ChangeShapes Go.WideShapes Go.ChangeAt Go.WideMaps Go.WideElems Go.RowKit
open Go.ChangeMaps (open_string shut_string)

set_option maxRecDepth 100000 in
set_option maxHeartbeats 2000000 in
theorem walk (s0 : ByteArray) (_z0 : s0.size ≤ 140737488351232) (s1 t1 : ByteArray) (_z1 : s1.size ≤ 140737488351232) (_y1 : t1.size ≤ 140737488351232) (x2 : Int) (_z2 : -9223372036854775808 ≤ x2 ∧ x2 ≤ 9223372036854775807) (w : World)  (hL : Laid w) :
    Calls Tryd.prog 5 #[.string s0, .agg #[.string s1, .string t1], .int .i64 x2] w fun e w' => e = .returned (.bool true) ∧ Below w.heap.size w w' := by
  have HLV : Hid (∀ V, Below w.heap.size w V → Calls Tryd.prog 9 #[] V fun e w' => e = .returned (.bool true) ∧ Below w.heap.size w w') := fun V hV => (lives_any V (hL.below hV)).mono fun e w' h => ⟨h.1, hV.trans (h.2.mono hV.size)⟩
  obtain ⟨bx, hbx⟩ : ∃ bx, w.heap.size = bx := ⟨_, rfl⟩
  obtain ⟨W0, hW0⟩ : ∃ W0, w.alloc (.cells #[.string s1, .string t1] 37) = W0 := ⟨_, rfl⟩
  have r0 : W0.heap[bx]? = some (.cells #[.string s1, .string t1] 37 (0, 0)) := by rw [← hW0, ← hbx]; exact heap_alloc_new w _
  have hb0 : Below w.heap.size w W0 := by rw [← hW0]; exact (Below.refl _ w).alloc (Nat.le_refl _) _
  have c0 : W0.cell? ⟨bx, 0, none⟩ = some (.string s1) := by rw [cell_of_row _ _ _ _ _ _ r0]; rfl
  have c1 : W0.cell? ⟨bx, 1, none⟩ = some (.string t1) := by rw [cell_of_row _ _ _ _ _ _ r0]; rfl
  have HB0 : Hid (∀ m, Below w.heap.size w (W0.drewN m)) := fun m => below_drewN hb0 m
  have HL : Hid (Laid w) := hL
  clear r0 hb0 hL
  by_cases h1 : 100 < s0.size
  · have k1 : (100 : Int) < (s0.size : Int) := by omega
    go_enter Tryd.func5, Tryd.ntmps5
    go_wp2
    go_quiet (fail)
    go_wp2_with fail
    refine (HLV.out _ (HB0.out _)).mono ?_
    rintro e V ⟨rfl, hb⟩
    go_wp2
    go_ret
    exact ⟨rfl, hb⟩
  · have k1 : ¬ (100 : Int) < (s0.size : Int) := by omega
    by_cases h2 : 60 < s1.size
    · have k2 : (60 : Int) < (s1.size : Int) := by omega
      go_enter Tryd.func5, Tryd.ntmps5
      go_wp2
      go_quiet (fail)
      go_wp2_with fail
      refine (HLV.out _ (HB0.out _)).mono ?_
      rintro e V ⟨rfl, hb⟩
      go_wp2
      go_ret
      exact ⟨rfl, hb⟩
    · have k2 : ¬ (60 : Int) < (s1.size : Int) := by omega
      by_cases h5 : 60 < t1.size
      · have k5 : (60 : Int) < (t1.size : Int) := by omega
        go_enter Tryd.func5, Tryd.ntmps5
        go_wp2
        go_quiet (fail)
        go_wp2_with fail
        refine (HLV.out _ (HB0.out _)).mono ?_
        rintro e V ⟨rfl, hb⟩
        go_wp2
        go_ret
        exact ⟨rfl, hb⟩
      · have k5 : ¬ (60 : Int) < (t1.size : Int) := by omega
        by_cases h3 : x2 < 1
        · skip
          go_enter Tryd.func5, Tryd.ntmps5
          go_wp2
          go_quiet (fail)
          go_wp2_with fail
          refine (HLV.out _ (HB0.out _)).mono ?_
          rintro e V ⟨rfl, hb⟩
          go_wp2
          go_ret
          exact ⟨rfl, hb⟩
        · by_cases h4 : 128 < x2
          · skip
            go_enter Tryd.func5, Tryd.ntmps5
            go_wp2
            go_quiet (fail)
            go_wp2_with fail
            refine (HLV.out _ (HB0.out _)).mono ?_
            rintro e V ⟨rfl, hb⟩
            go_wp2
            go_ret
            exact ⟨rfl, hb⟩
          · obtain ⟨z, rfl⟩ : ∃ z : Nat, x2 = (z : Int) := ⟨x2.toNat, by omega⟩
            have hz1 : 1 ≤ z := by omega
            have hz2 : z ≤ 128 := by omega
            have hl : s1.data.toList.length = s1.size := Array.length_toList
            have htl : t1.data.toList.length = t1.size := Array.length_toList
            have HS : Hid (∀ V, Below w.heap.size w V → Calls Tryd.prog 18 #[.string s0, .string s1, .int .i64 (z : Int)] V fun e w' => ∃ (a : Option Addr) (n c : Nat), e = .returned (.tuple #[.slice a n c, .int .i64 0]) ∧ Gw (fun _ => True) w' a n c (sigsL (sgL s0) s1.data.toList z) ∧ n = cntL s1.data.toList z ∧ Below V.heap.size V w') := fun V hV => signs_short s0 s1 z V (by omega) hz1 hz2 (by omega) (HL.out.below hV)
            have HLa : Hid (∀ V, Calls Tryd.prog 19 #[.string s1, .int .i64 (z : Int)] V fun e w' => e = .returned (.int .i64 (lastL s1.data.toList z : Int)) ∧ w' = V) := fun V => last_any s1 z V hz1 hz2 (by omega)
            have HBL : Hid (∀ V, Calls Tryd.prog 20 #[.string s1, .int .i64 (z : Int)] V fun e w' => BlTo V (blocksL s1 z, 0) e w') := fun V => by
              have h6 := blocks_any s1 (z : Int) V (by omega)
              rw [blocks_ok hz1 hz2 (by omega)] at h6
              exact h6
            have hcl := cnt_le (b := s1.data.toList) hz1
            have HCN : Hid (cntL s1.data.toList z ≤ s1.size) := by show _ ≤ _; omega
            have hlc := last_cnt (b := s1.data.toList) hz1
            have hll := last_le (b := s1.data.toList) hz1
            obtain ⟨la, hla⟩ : ∃ la, lastL s1.data.toList z = la := ⟨_, rfl⟩
            have hbk := backP (sg := sgL s0) (b := s1.data.toList) (t := t1.data.toList) (s := z) hz1
            have hpb := patch_back (k := s0) (b := s1) (t := t1) hz1 hz2 (by omega) (by omega)
            have HM1 : Hid (∀ V a n c, Below w.heap.size w V → Gw (fun _ => True) V a n c (sigsL (sgL s0) s1.data.toList z) → n = cntL s1.data.toList z → Calls Tryd.prog 10 #[.string s0, .slice a n c, .int .i64 (z : Int), .int .i64 (la : Int), .string t1] V fun e w' => MkTo V (makeL s0 (sigsL (sgL s0) s1.data.toList z) z (lastL s1.data.toList z) t1) 0 e w') := fun V a n c hV hg hn => by
              rw [hla]
              exact make_any hg (sigs_weak s0 _ z) s0 t1 z la hz1 hz2 (by omega) (by omega) (by omega) (by omega) (by omega) (HL.out.below hV)
            have hmm := make_mayP (k := s0) (L := sigsL (sgL s0) s1.data.toList z) (z := z) (last := lastL s1.data.toList z) (t := t1) (by omega)
            have hmd := make_data (k := s0) (L := sigsL (sgL s0) s1.data.toList z) (z := z) (last := lastL s1.data.toList z) (t := t1)
            rw [show makeP (nextP (sgL s0) (sigsL (sgL s0) s1.data.toList z) z (lastL s1.data.toList z)) [] t1.data.toList = makeL s0 (sigsL (sgL s0) s1.data.toList z) z (lastL s1.data.toList z) t1 from rfl] at hbk
            obtain ⟨P, hP⟩ : ∃ P, makeL s0 (sigsL (sgL s0) s1.data.toList z) z (lastL s1.data.toList z) t1 = P := ⟨_, rfl⟩
            rw [hP] at hbk hpb HM1 hmm hmd
            rw [hla] at HLa
            have HPM : Hid (mayP P = true ∧ ∀ p ∈ P, p.data.size ≤ 140737488351232) := ⟨hmm, fun p hp => by have := hmd p hp; omega⟩
            obtain ⟨⟨R1, R2⟩, hR⟩ : ∃ R, patchF s1 (z : Int) P = R := ⟨_, rfl⟩
            have HRP : Hid (patchF s1 (z : Int) P = (R1, R2)) := hR
            rw [hR] at hpb
            clear hP hR hmm hmd hla hlc hll hcl
            by_cases hfin : R2 = 0 ∧ R1 = t1
            · obtain ⟨rfl, rfl⟩ := hfin
              have hee : (R1.toList == R1.toList) = true := by simp
              clear hbk hpb hl htl
              go_enter Tryd.func5, Tryd.ntmps5
              go_wp2
              go_quiet (fail)
              go_wp2_with fail
              refine (HS.out _ (HB0.out _)).mono ?_
              rintro e V1 ⟨ga, gn, gc, rfl, hgw, hgn, hb1⟩
              have hB1 : Below w.heap.size w V1 := (HB0.out _).trans (hb1.mono (HB0.out _).size)
              have HL1 := HLa.out V1
              have HM11 := HM1.out V1 ga gn gc hB1 hgw hgn
              have H1 : Hid (Below w.heap.size w V1) := hB1
              clear hgw hb1 hgn hB1
              go_wp2_with fail
              refine HL1.mono ?_
              rintro e V ⟨rfl, hV⟩
              subst V
              clear HL1
              go_wp2_with fail
              refine HM11.mono ?_
              rintro e V2 ⟨pa, pn, pc, rfl, hown, hb2⟩
              have hB2 : Below w.heap.size w V2 := H1.out.trans (hb2.mono H1.out.size)
              have hhw : Hw (fun _ => True) V2 pa pn pc P := Rw.own hown (fun _ _ => trivial)
              have HCK := dcheck_any hhw
              rw [HPM.out.1] at HCK
              have H2 : Hid (Hw (fun _ => True) V2 pa pn pc P ∧ Below w.heap.size w V2) := ⟨hhw, hB2⟩
              clear HM11 hown hb2 hB2 hhw H1
              go_wp2_with fail
              refine HCK.mono ?_
              rintro e V3 ⟨rfl, hb3⟩
              have e1 : ckI true = 0 := rfl
              rw [e1]
              have hB3 : Below w.heap.size w V3 := H2.out.2.trans (hb3.mono H2.out.2.size)
              have HPT := dpatch_any (H2.out.1.below hb3) s1 (z : Int) (by omega) HPM.out.2
              rw [HRP.out] at HPT
              have H3 : Hid (Below w.heap.size w V3) := hB3
              simp only at HPT
              clear HCK hb3 hB3 H2 e1
              go_wp2_with fail
              refine HPT.mono ?_
              rintro e V5 ⟨rfl, hb5⟩
              have H5 : Hid (Below w.heap.size w V5) := H3.out.trans (hb5.mono H3.out.size)
              have HBL5 := HBL.out V5
              clear HPT hb5 H3
              go_wp2_with fail
              refine (HLV.out _ (H5.out)).mono ?_
              rintro e V ⟨rfl, hb⟩
              go_wp2
              go_ret
              exact ⟨rfl, hb⟩
            · have HCL : Hid (∃ i k, i < cntL s1.data.toList z ∧ k < t1.size ∧ blkL s1.data.toList z i ≠ (t1.data.toList.drop k).take z ∧ sgL s0 (blkL s1.data.toList z i) = sgL s0 ((t1.data.toList.drop k).take z)) := by
                rcases hbk with ⟨hA1, hA2⟩ | ⟨i, k, hB1, hB2, hB3, hB4⟩
                · exact absurd (hpb hA1 hA2) (fun e => hfin ⟨(Prod.mk.inj e).2, (Prod.mk.inj e).1⟩)
                · exact ⟨i, k, hB1, by omega, hB3, hB4⟩
              by_cases hr2 : R2 = 0
              · have hne : (R1.toList == t1.toList) = false := str_nb (fun e => hfin ⟨hr2, e⟩)
                subst hr2
                clear hbk hpb hl htl hfin
                go_enter Tryd.func5, Tryd.ntmps5
                go_wp2
                go_quiet (fail)
                go_wp2_with fail
                refine (HS.out _ (HB0.out _)).mono ?_
                rintro e V1 ⟨ga, gn, gc, rfl, hgw, hgn, hb1⟩
                have hB1 : Below w.heap.size w V1 := (HB0.out _).trans (hb1.mono (HB0.out _).size)
                have HL1 := HLa.out V1
                have HM11 := HM1.out V1 ga gn gc hB1 hgw hgn
                have H1 : Hid (Below w.heap.size w V1) := hB1
                clear hgw hb1 hgn hB1
                go_wp2_with fail
                refine HL1.mono ?_
                rintro e V ⟨rfl, hV⟩
                subst V
                clear HL1
                go_wp2_with fail
                refine HM11.mono ?_
                rintro e V2 ⟨pa, pn, pc, rfl, hown, hb2⟩
                have hB2 : Below w.heap.size w V2 := H1.out.trans (hb2.mono H1.out.size)
                have hhw : Hw (fun _ => True) V2 pa pn pc P := Rw.own hown (fun _ _ => trivial)
                have HCK := dcheck_any hhw
                rw [HPM.out.1] at HCK
                have H2 : Hid (Hw (fun _ => True) V2 pa pn pc P ∧ Below w.heap.size w V2) := ⟨hhw, hB2⟩
                clear HM11 hown hb2 hB2 hhw H1
                go_wp2_with fail
                refine HCK.mono ?_
                rintro e V3 ⟨rfl, hb3⟩
                have e1 : ckI true = 0 := rfl
                rw [e1]
                have hB3 : Below w.heap.size w V3 := H2.out.2.trans (hb3.mono H2.out.2.size)
                have HPT := dpatch_any (H2.out.1.below hb3) s1 (z : Int) (by omega) HPM.out.2
                rw [HRP.out] at HPT
                have H3 : Hid (Below w.heap.size w V3) := hB3
                simp only at HPT
                clear HCK hb3 hB3 H2 e1
                go_wp2_with fail
                refine HPT.mono ?_
                rintro e V5 ⟨rfl, hb5⟩
                have H5 : Hid (Below w.heap.size w V5) := H3.out.trans (hb5.mono H3.out.size)
                have HBL5 := HBL.out V5
                clear HPT hb5 H3
                go_wp2_with fail
                refine HBL5.mono ?_
                rintro e V6 ⟨ba, bn, bc, rfl, hown, hb6⟩
                have hB6 : Below w.heap.size w V6 := H5.out.trans (hb6.mono H5.out.size)
                simp only at hown ⊢
                have hbn : bn = cntL s1.data.toList z := by
                  have := (Rw.own (G := fun _ => True) hown (fun _ _ => trivial)).1
                  unfold stR at this
                  rw [fm_len stC_len, blocksL_len] at this
                  omega
                have H6 : Hid (V6.ownsRow w.heap.size 9 1 (.slice ba bn bc) bn (stR (bothL s1 t1 z 0)) ∧ Below w.heap.size w V6 ∧ bn = cntL s1.data.toList z) := ⟨by
                  have h7 := own_base hown H5.out.size
                  unfold bothL
                  rw [List.range_zero, List.map_nil, List.append_nil]
                  exact h7, hB6, hbn⟩
                have hbn6 : bn ≤ 60 := by have := HCN.out; omega
                clear HBL5 hown hb6 hB6 hbn
                go_wp2
                go_loopw [15, 17] (fun va vi wr => ∃ (i m lc : Nat) (la : Option Addr), i ≤ t1.size ∧ vi = .int .i64 i ∧ va = .slice la m lc ∧ m = bn + i ∧ wr.ownsRow w.heap.size 9 1 (.slice la m lc) m (stR (bothL s1 t1 z i)) ∧ Below w.heap.size w wr) (fun _ vi _ => t1.size - (intOf vi).toNat)
                case atStart => exact ⟨0, bn, bc, ba, by omega, rfl, rfl, by omega, H6.out.1, H6.out.2.1⟩
                case round =>
                  obtain ⟨i, m, lc, la, hi, rfl, rfl, hm, hown, hbw⟩ := hrel
                  by_cases hlt : i < t1.size
                  · have kk : (i : Int) < (t1.size : Int) := by omega
                    obtain ⟨q, hq⟩ : ∃ q, i + z = q := ⟨_, rfl⟩
                    have kq : (i : Int) + (z : Int) = (q : Int) := by omega
                    obtain ⟨e, he⟩ : ∃ e, min t1.size q = e := ⟨_, rfl⟩
                    have ke : min (t1.size : Int) (q : Int) = (e : Int) := by omega
                    have he1 : (i : Int) ≤ (e : Int) := by omega
                    have he2 : (e : Int) ≤ (t1.size : Int) := by omega
                    obtain ⟨s, hs⟩ : ∃ s, t1.extract i e = s := ⟨_, rfl⟩
                    have HST : Hid (bothL s1 t1 z (i + 1) = bothL s1 t1 z i ++ [s]) := by
                      show _ = _
                      rw [all_next]
                      unfold winS
                      rw [hq, he, hs]
                    obtain ⟨V7, hV7⟩ : ∃ V7, wr.alloc (.cells #[.string s] 9) = V7 := ⟨_, rfl⟩
                    have hb7 : Below wr.heap.size wr V7 := by rw [← hV7]; exact (Below.refl _ wr).alloc (Nat.le_refl _) _
                    have r7 : V7.heap[wr.heap.size]? = some (.cells #[.string s] 9 (0, 0)) := by rw [← hV7]; exact heap_alloc_new wr _
                    have hB7 : Below w.heap.size w V7 := hbw.trans (hb7.mono hbw.size)
                    have ho7 := own_keep hown (W' := V7) (fun j hj => hb7.block j (hown.lt j hj).2)
                    obtain ⟨aA, cA, VA, hrA, hoA, hgA, _⟩ := addT_own V7 ho7 (txtRow r7) (by omega) hB7.size
                    have HE : Hid (VA.ownsRow w.heap.size 9 1 (.slice aA (m + 1) cA) (m + 1) (stR (bothL s1 t1 z i ++ [s])) ∧ Below w.heap.size w VA) := ⟨hoA, hB7.grown hgA hB7.size (fun j hj => (ho7.lt j (by rw [ob_slice]; exact hj)).1)⟩
                    have hm1 : m + 1 = bn + (i + 1) := by omega
                    have HM : Hid (m + 1 = bn + (i + 1)) := hm1
                    clear hown hbw hb7 r7 hB7 ho7 hoA hgA hm1 hm hq he
                    go_wp2_with ((at_builtin; refine wpList_app V7 rfl _ _ _ _ rfl rfl rfl (hrA _) ?_))
                    refine ⟨⟨i + 1, m + 1, cA, aA, by omega, by go_num, by first | rfl | go_num, HM.out, ?_, HE.out.2⟩, by simp [intOf]; omega⟩
                    rw [HST.out]
                    exact HE.out.1
                  · have kk : ¬ (i : Int) < (t1.size : Int) := by omega
                    obtain rfl : i = t1.size := by omega
                    obtain ⟨j0, k0, hj0, hk0, hne, heq⟩ := HCL.out
                    obtain ⟨g1, g2, g3, g4⟩ := all_clash (key := s0) hj0 hk0 hne heq
                    have HCA := clash_yes (show Tw (fun _ => True) wr la m lc (bothL s1 t1 z t1.size) from Rw.own hown (fun _ _ => trivial)) s0 (by omega) (all_size (by omega) hz2) (by omega) (by omega) g1 g2 g3 g4
                    have HB9 : Hid (Below w.heap.size w wr) := hbw
                    clear hown hbw hm g1 g2 g3 g4 hj0 hk0 hne heq
                    go_wp2_with fail
                    refine HCA.mono ?_
                    rintro e V8 ⟨rfl, hb8⟩
                    have H8 : Hid (Below w.heap.size w V8) := HB9.out.trans (hb8.mono HB9.out.size)
                    clear HCA hb8
                    go_wp2_with fail
                    refine (HLV.out _ (H8.out)).mono ?_
                    rintro e V ⟨rfl, hb⟩
                    go_wp2
                    go_ret
                    exact ⟨rfl, hb⟩
              · have hne : (R2 == 0) = false := by simpa using hr2
                clear hbk hpb hl htl hfin hr2
                go_enter Tryd.func5, Tryd.ntmps5
                go_wp2
                go_quiet (fail)
                go_wp2_with fail
                refine (HS.out _ (HB0.out _)).mono ?_
                rintro e V1 ⟨ga, gn, gc, rfl, hgw, hgn, hb1⟩
                have hB1 : Below w.heap.size w V1 := (HB0.out _).trans (hb1.mono (HB0.out _).size)
                have HL1 := HLa.out V1
                have HM11 := HM1.out V1 ga gn gc hB1 hgw hgn
                have H1 : Hid (Below w.heap.size w V1) := hB1
                clear hgw hb1 hgn hB1
                go_wp2_with fail
                refine HL1.mono ?_
                rintro e V ⟨rfl, hV⟩
                subst V
                clear HL1
                go_wp2_with fail
                refine HM11.mono ?_
                rintro e V2 ⟨pa, pn, pc, rfl, hown, hb2⟩
                have hB2 : Below w.heap.size w V2 := H1.out.trans (hb2.mono H1.out.size)
                have hhw : Hw (fun _ => True) V2 pa pn pc P := Rw.own hown (fun _ _ => trivial)
                have HCK := dcheck_any hhw
                rw [HPM.out.1] at HCK
                have H2 : Hid (Hw (fun _ => True) V2 pa pn pc P ∧ Below w.heap.size w V2) := ⟨hhw, hB2⟩
                clear HM11 hown hb2 hB2 hhw H1
                go_wp2_with fail
                refine HCK.mono ?_
                rintro e V3 ⟨rfl, hb3⟩
                have e1 : ckI true = 0 := rfl
                rw [e1]
                have hB3 : Below w.heap.size w V3 := H2.out.2.trans (hb3.mono H2.out.2.size)
                have HPT := dpatch_any (H2.out.1.below hb3) s1 (z : Int) (by omega) HPM.out.2
                rw [HRP.out] at HPT
                have H3 : Hid (Below w.heap.size w V3) := hB3
                simp only at HPT
                clear HCK hb3 hB3 H2 e1
                go_wp2_with fail
                refine HPT.mono ?_
                rintro e V5 ⟨rfl, hb5⟩
                have H5 : Hid (Below w.heap.size w V5) := H3.out.trans (hb5.mono H3.out.size)
                have HBL5 := HBL.out V5
                clear HPT hb5 H3
                go_wp2_with fail
                refine HBL5.mono ?_
                rintro e V6 ⟨ba, bn, bc, rfl, hown, hb6⟩
                have hB6 : Below w.heap.size w V6 := H5.out.trans (hb6.mono H5.out.size)
                simp only at hown ⊢
                have hbn : bn = cntL s1.data.toList z := by
                  have := (Rw.own (G := fun _ => True) hown (fun _ _ => trivial)).1
                  unfold stR at this
                  rw [fm_len stC_len, blocksL_len] at this
                  omega
                have H6 : Hid (V6.ownsRow w.heap.size 9 1 (.slice ba bn bc) bn (stR (bothL s1 t1 z 0)) ∧ Below w.heap.size w V6 ∧ bn = cntL s1.data.toList z) := ⟨by
                  have h7 := own_base hown H5.out.size
                  unfold bothL
                  rw [List.range_zero, List.map_nil, List.append_nil]
                  exact h7, hB6, hbn⟩
                have hbn6 : bn ≤ 60 := by have := HCN.out; omega
                clear HBL5 hown hb6 hB6 hbn
                go_wp2
                go_loopw [15, 17] (fun va vi wr => ∃ (i m lc : Nat) (la : Option Addr), i ≤ t1.size ∧ vi = .int .i64 i ∧ va = .slice la m lc ∧ m = bn + i ∧ wr.ownsRow w.heap.size 9 1 (.slice la m lc) m (stR (bothL s1 t1 z i)) ∧ Below w.heap.size w wr) (fun _ vi _ => t1.size - (intOf vi).toNat)
                case atStart => exact ⟨0, bn, bc, ba, by omega, rfl, rfl, by omega, H6.out.1, H6.out.2.1⟩
                case round =>
                  obtain ⟨i, m, lc, la, hi, rfl, rfl, hm, hown, hbw⟩ := hrel
                  by_cases hlt : i < t1.size
                  · have kk : (i : Int) < (t1.size : Int) := by omega
                    obtain ⟨q, hq⟩ : ∃ q, i + z = q := ⟨_, rfl⟩
                    have kq : (i : Int) + (z : Int) = (q : Int) := by omega
                    obtain ⟨e, he⟩ : ∃ e, min t1.size q = e := ⟨_, rfl⟩
                    have ke : min (t1.size : Int) (q : Int) = (e : Int) := by omega
                    have he1 : (i : Int) ≤ (e : Int) := by omega
                    have he2 : (e : Int) ≤ (t1.size : Int) := by omega
                    obtain ⟨s, hs⟩ : ∃ s, t1.extract i e = s := ⟨_, rfl⟩
                    have HST : Hid (bothL s1 t1 z (i + 1) = bothL s1 t1 z i ++ [s]) := by
                      show _ = _
                      rw [all_next]
                      unfold winS
                      rw [hq, he, hs]
                    obtain ⟨V7, hV7⟩ : ∃ V7, wr.alloc (.cells #[.string s] 9) = V7 := ⟨_, rfl⟩
                    have hb7 : Below wr.heap.size wr V7 := by rw [← hV7]; exact (Below.refl _ wr).alloc (Nat.le_refl _) _
                    have r7 : V7.heap[wr.heap.size]? = some (.cells #[.string s] 9 (0, 0)) := by rw [← hV7]; exact heap_alloc_new wr _
                    have hB7 : Below w.heap.size w V7 := hbw.trans (hb7.mono hbw.size)
                    have ho7 := own_keep hown (W' := V7) (fun j hj => hb7.block j (hown.lt j hj).2)
                    obtain ⟨aA, cA, VA, hrA, hoA, hgA, _⟩ := addT_own V7 ho7 (txtRow r7) (by omega) hB7.size
                    have HE : Hid (VA.ownsRow w.heap.size 9 1 (.slice aA (m + 1) cA) (m + 1) (stR (bothL s1 t1 z i ++ [s])) ∧ Below w.heap.size w VA) := ⟨hoA, hB7.grown hgA hB7.size (fun j hj => (ho7.lt j (by rw [ob_slice]; exact hj)).1)⟩
                    have hm1 : m + 1 = bn + (i + 1) := by omega
                    have HM : Hid (m + 1 = bn + (i + 1)) := hm1
                    clear hown hbw hb7 r7 hB7 ho7 hoA hgA hm1 hm hq he
                    go_wp2_with ((at_builtin; refine wpList_app V7 rfl _ _ _ _ rfl rfl rfl (hrA _) ?_))
                    refine ⟨⟨i + 1, m + 1, cA, aA, by omega, by go_num, by first | rfl | go_num, HM.out, ?_, HE.out.2⟩, by simp [intOf]; omega⟩
                    rw [HST.out]
                    exact HE.out.1
                  · have kk : ¬ (i : Int) < (t1.size : Int) := by omega
                    obtain rfl : i = t1.size := by omega
                    obtain ⟨j0, k0, hj0, hk0, hne, heq⟩ := HCL.out
                    obtain ⟨g1, g2, g3, g4⟩ := all_clash (key := s0) hj0 hk0 hne heq
                    have HCA := clash_yes (show Tw (fun _ => True) wr la m lc (bothL s1 t1 z t1.size) from Rw.own hown (fun _ _ => trivial)) s0 (by omega) (all_size (by omega) hz2) (by omega) (by omega) g1 g2 g3 g4
                    have HB9 : Hid (Below w.heap.size w wr) := hbw
                    clear hown hbw hm g1 g2 g3 g4 hj0 hk0 hne heq
                    go_wp2_with fail
                    refine HCA.mono ?_
                    rintro e V8 ⟨rfl, hb8⟩
                    have H8 : Hid (Below w.heap.size w V8) := HB9.out.trans (hb8.mono HB9.out.size)
                    clear HCA hb8
                    go_wp2_with fail
                    refine (HLV.out _ (H8.out)).mono ?_
                    rintro e V ⟨rfl, hb⟩
                    go_wp2
                    go_ret
                    exact ⟨rfl, hb⟩

set_option linter.unusedVariables false in
set_option maxRecDepth 100000 in
theorem lifted (os : Os) (started : os.Started) (H : Type) (enc : TypeId × Value → H) :
    ReturnsInHanded {} Tryd.checked os 5 .any (fun w args => (Rows.deltaBackSpec.pre enc Tryd.prog Tryd.f5 [] false w args ∧ laidMetH Tryd.prog laid2 w) ∧ sizedMet enc Tryd.prog Tryd.f5 (OpenSpec.ofChange Rows.deltaBackSpec) false w args) (Rows.deltaBackSpec.post enc Tryd.prog Tryd.f5 false true false false) := by
  refine returnsInHanded_of_change_and (C := Tryd.checked) (X := fun w _ => laidMetH Tryd.prog laid2 w) (fun _ _ _ hh h => h.of_heap hh) own started (by kernel_rfl) Tryd.func5
    (ChangeSpec.witness_shaped (enc := enc) (C := Tryd.checked) (os := os) (X := fun w _ => laidMetH Tryd.prog laid2 w) false (World.doorLaid Tryd.prog 19 os) #[.string ByteArray.empty, .agg #[.string ByteArray.empty, .string ByteArray.empty], .int .i64 0] 8 rfl (World.shaped_of_RefB (by kernel_rfl) (by kernel_rfl)) (by kernel_rfl) (by kernel_rfl) (by kernel_rfl) (door_met os _)) ?_
  intro W base args ds gs before hval0 hW _ hsz0 hL _
  have hval : ∀ (j : Nat) t v, Tryd.f5.params[j]? = some t → args[j]? = some v → Value.okWide Tryd.prog W .any base t v := hval0
  have hsz : (DataW.weightsEach Tryd.prog (Tryd.f5.params.toList ++ Rows.deltaBackSpec.plain.varTypes Tryd.prog) (ds ++ gs)).all (· ≤ reachBytes) = true := hsz0
  have hW' := hW
  obtain ⟨p, q, hA0, hV, rfl, hfz, hnd⟩ := hW
  have hA : DataW.TrodAll enc Tryd.prog W 0 (fun _ => true) true Tryd.f5.params.toList args.toList ds p := hA0
  rw [Tryd.params5] at hA hval hsz
  obtain ⟨v0, vs0, d0, ds0, p0, q0, hargs, rfl, rfl, h0, r0⟩ := trodAll_cons hA
  obtain ⟨v1, vs1, d1, ds1, p1, q1, rfl, rfl, rfl, h1, r1⟩ := trodAll_cons r0
  obtain ⟨v2, vs2, d2, ds2, p2, q2, rfl, rfl, rfl, h2, r2⟩ := trodAll_cons r1
  obtain ⟨rfl, rfl, rfl⟩ := trodAll_nil r2
  obtain rfl : args = #[v0, v1, v2] := by cases args; simp_all
  obtain ⟨rfl, rfl⟩ := trodVars_none hV
  obtain ⟨s0, rfl, rfl, rfl, w0⟩ := open_string Tryd.underlying9 (hval 0 9 v0 rfl rfl) h0
  have z0 : s0.size ≤ 140737488351232 := by
    have := sized_string hsz (j := 0) (t := 9) rfl rfl
    simpa [reachBytes] using this
  have k1 := h1
  have lt1 : ∀ x ∈ p1, x.block < W.heap.size := by obtain ⟨m, hm⟩ := k1; exact DataW.trod_lt m _ _ _ hm
  obtain ⟨s1, t1, rfl, z1, y1⟩ := strs2_of (j := 1) (hval 1 37 v1 rfl rfl) h1 hsz rfl rfl
  obtain ⟨x2, rfl, rfl, rfl, w2⟩ := open_int Tryd.underlying3 (hval 2 3 v2 rfl rfl) h2
  clear hA0 hval0 hsz hsz0
  refine (walk s0 z0 s1 t1 z1 y1 x2 (wf_i64 w2) W  (of_laid hL)).mono fun e W' ⟨he, bel⟩ => ?_
  subst he
  exact ⟨_, rfl, _, _, _, [], _, [], hW', trodAll_mk1 (shut_bool Tryd.underlying4 _), (trodAll_cons_mk (shut_string Tryd.underlying9 w0) (trodAll_cons_mk (Below.trod laidOut (by kernel_rfl) (of_decide_eq_true (by kernel_rfl)) k1 bel lt1) (trodAll_cons_mk (shut_int Tryd.underlying3 w2) trodAll_mk0))), rfl, bel.frame _, fun h => by cases h⟩

theorem over : Rows.deltaBackRow.holds Tryd.pinned (OpenSpec.ofChange Rows.deltaBackSpec) :=
  OpenClaim.holds_of_wide 5 Tryd.f5 rfl rfl rfl rfl rfl rfl rfl ⟨rfl, rfl, rfl, rfl, rfl⟩ rfl rfl rfl rfl rfl (by kernel_rfl) Tryd.func5 (by kernel_rfl)
    (of_decide_eq_true (by kernel_rfl)) (by unfold Func.isWrapper; first | (rw [if_pos (by decide +kernel)]; kernel_rfl) | (rw [if_neg (by decide +kernel)]; exact ⟨rfl, rfl⟩))
    (fun os started H enc _ => lifted os started H enc)

end Go.Proofs.YtbhnmjjfammlkaaDoor.deltaBack
namespace Go.Proofs.YtbhnmjjfammlkaaDoor
/-- The given statement. -/
theorem deltaBack_holds : Rows.DeltaBackCardSaid :=
  Claim7.holds_tied_plain_at .later [] [.data, .data] true (true, "27943a41a17194b98194b1148f1bcb5bf0b2dad1c028dfa582421bd3b0c29b3b") false
    deltaBack.over (fun _ h => by cases h) (by kernel_rfl) (fun _ h => by cases h) deltaBack_row_tie rfl ⟨rfl, rfl⟩ (by kernel_rfl) rfl
    (fun f fn hf hfn => by
      obtain rfl : f = 5 := Option.some.inj ((show Tryd.prog.funcNamed "strongroom/strongroomlaw11.DeltaBack" = some 5 by kernel_rfl).symm.trans hf) |>.symm
      obtain rfl : fn = Tryd.f5 := (Option.some.inj (Tryd.func5.symm.trans hfn)).symm
      exact ⟨by kernel_rfl, fun j t ht => by
        rw [Tryd.params5] at ht
        rcases j with _ | _ | _ | j
        · obtain rfl : t = 9 := by simpa using ht.symm
          exact (show Tryd.prog.wantsStandIn 9 = false by kernel_rfl)
        · obtain rfl : t = 37 := by simpa using ht.symm
          exact (show Tryd.prog.wantsStandIn 37 = false by kernel_rfl)
        · obtain rfl : t = 3 := by simpa using ht.symm
          exact (show Tryd.prog.wantsStandIn 3 = false by kernel_rfl)
        · simp at ht
      ⟩)
    (by kernel_rfl)
#print axioms deltaBack_holds
end Go.Proofs.YtbhnmjjfammlkaaDoor
