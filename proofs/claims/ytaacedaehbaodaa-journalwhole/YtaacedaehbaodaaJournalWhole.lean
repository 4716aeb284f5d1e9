/- For every Torn: a commit amid which the power fails behind any write, whatever is picked, is there as a whole or not at all when the store is opened again, also if that was broken off; as a whole, if it was told. No condition. -/
import Derived.Test.YtaacedaehbaodaaRows
import Derived.Test.YtaacedaehbaodaaJW
import Derived.WalkKit
import Derived.ProofKit
import Derived.OpenShut
import Derived.ShutString
import Derived.ChangeOld
import Derived.Below
namespace Go.Proofs.Ytaacedaehbaodaa.journalWhole
open Go.ChangeShapes Go.WideShapes Go.ChangeAt Go.RowKit
theorem own : ownKnob Try.prog.godebug = none := by kernel_rfl
theorem laidOut : laidOutB Try.prog = true := by kernel_rfl

set_option maxRecDepth 100000 in
set_option maxHeartbeats 4000000 in
theorem walk (x : TornV) (w : World) (w0 : x.In w) :
    Calls Try.prog 4 #[.agg #[.int .i64 x.pages, .slice x.a x.al x.ac, .slice x.p x.pl x.pc, .int .i64 x.cut, .int .i64 x.again, .slice x.k x.kl x.kc, .slice x.m x.ml x.mc]] w fun e w' => e = .returned (.bool true) ∧ Below w.heap.size w w' := by
  have HLV : Hid (∀ W, Below w.heap.size w W → Calls Try.prog 14 #[] W fun e w' => e = .returned (.bool true) ∧ Below w.heap.size w w') := fun W hW => lives_h hW
  obtain ⟨pages, a, al, ac, la, p, pl, pc, lp, cut, again, k, kl, kc, bk, m, ml, mc, bm⟩ := x
  simp only
  obtain ⟨W1, hW1⟩ : ∃ W1, w.alloc (.cells #[.int .i64 pages, .slice a al ac, .slice p pl pc, .int .i64 cut, .int .i64 again, .slice k kl kc, .slice m ml mc] 39) = W1 := ⟨_, rfl⟩
  have hr1 : W1.heap[w.heap.size]? = some (.cells #[.int .i64 pages, .slice a al ac, .slice p pl pc, .int .i64 cut, .int .i64 again, .slice k kl kc, .slice m ml mc] 39 (0, 0)) := by rw [← hW1]; exact heap_alloc_new w _
  have hb1 : Below w.heap.size w W1 := by rw [← hW1]; exact (Below.refl _ w).alloc (Nat.le_refl _) _
  have HW : Hid (∀ V, Below W1.heap.size W1 V → Below w.heap.size w V) := fun V hV => hb1.trans (hV.mono hb1.size)
  have HX : Hid (∀ V, Below W1.heap.size W1 V → V.cell? ⟨w.heap.size, 0, none⟩ = some (.int .i64 pages) ∧ V.cell? ⟨w.heap.size, 1, none⟩ = some (.slice a al ac) ∧ V.cell? ⟨w.heap.size, 2, none⟩ = some (.slice p pl pc) ∧ V.cell? ⟨w.heap.size, 3, none⟩ = some (.int .i64 cut) ∧ V.cell? ⟨w.heap.size, 4, none⟩ = some (.int .i64 again) ∧ V.cell? ⟨w.heap.size, 5, none⟩ = some (.slice k kl kc) ∧ V.cell? ⟨w.heap.size, 6, none⟩ = some (.slice m ml mc)) := fun V hV => by
    have hr := (hV.block w.heap.size (lt_of_some hr1)).trans hr1
    refine ⟨?_, ?_, ?_, ?_, ?_, ?_, ?_⟩ <;> rw [cell_of_row _ w.heap.size _ _ _ _ hr] <;> rfl
  have HIN : Hid (Ps W1 a al ac la ∧ Ps W1 p pl pc lp ∧ Bls W1 k kl kc bk ∧ Bls W1 m ml mc bm) := ⟨w0.a.below hb1, w0.p.below hb1, w0.k.below hb1, w0.m.below hb1⟩
  have hcutm := w0.c
  have hagm := w0.g
  simp only at hcutm hagm
  obtain ⟨x0, x1, x2, x3, x4, x5, x6⟩ := HX.out W1 (Below.refl _ _)
  have hbx := hb1.size
  clear w0 hr1 hb1
  by_cases hx : pages < 1 ∨ 6 < pages
  · have HO := opened_none pages a al ac W1 hx
    rcases hx with hx | hx
    · go_enter Try.func4, Try.ntmps4
      go_wp2_with (go_at_call 16; refine HO.mono ?_; rintro e V1 ⟨rfl, hV⟩; subst V1)
      clear HO
      refine (HLV.out _ (HW.out _ (Below.refl _ _))).mono ?_
      rintro e w9 ⟨rfl, hb9⟩
      go_wp2
      go_ret
      exact ⟨rfl, hb9⟩
    · have hx1 : ¬ pages < 1 := by omega
      go_enter Try.func4, Try.ntmps4
      go_wp2_with (go_at_call 16; refine HO.mono ?_; rintro e V1 ⟨rfl, hV⟩; subst V1)
      clear HO
      refine (HLV.out _ (HW.out _ (Below.refl _ _))).mono ?_
      rintro e w9 ⟨rfl, hb9⟩
      go_wp2
      go_ret
      exact ⟨rfl, hb9⟩
  · obtain ⟨n, rfl⟩ := Int.eq_ofNat_of_zero_le (show 0 ≤ pages by omega)
    have hn1 : 1 ≤ n := by omega
    have hn6 : n ≤ 6 := by omega
    have kn1 : ¬ (n : Int) < 1 := by omega
    have kn6 : ¬ (6 : Int) < (n : Int) := by omega
    have HO := opened_any n hn1 hn6 a al ac la W1 W1 (Below.refl _ _) HIN.out.1
    clear hx
    go_enter Try.func4, Try.ntmps4
    go_wp2_with fail
    refine HO.mono ?_
    rintro e V1 ⟨g, jb, rfl, D, S, hG, hwr, _, ho, hS, _⟩
    have HO1 : Hid (Own1 W1 V1 S g jb n D) := ho
    have HG : Hid (Good n D ∧ D.writes ≤ 80) := ⟨hG, hwr⟩
    obtain ⟨y0, y1, y2, y3, y4, y5, y6⟩ := HX.out V1 ho.bl
    clear HO ho hS hG x0 x1 x2 x3 x4 x5 x6
    by_cases hbig : 300 < kl ∨ 300 < ml ∨ 12 < pl
    · by_cases h1 : 300 < kl
      · have k1 : (300 : Int) < (kl : Int) := by omega
        go_wp2_with fail
        refine (HLV.out _ (HW.out _ HO1.out.bl)).mono ?_
        rintro e w9 ⟨rfl, hb9⟩
        go_wp2
        go_ret
        exact ⟨rfl, hb9⟩
      · have k1 : ¬ (300 : Int) < (kl : Int) := by omega
        by_cases h2 : 300 < ml
        · have k2 : (300 : Int) < (ml : Int) := by omega
          go_wp2_with fail
          refine (HLV.out _ (HW.out _ HO1.out.bl)).mono ?_
          rintro e w9 ⟨rfl, hb9⟩
          go_wp2
          go_ret
          exact ⟨rfl, hb9⟩
        · have k2 : ¬ (300 : Int) < (ml : Int) := by omega
          have k3 : (12 : Int) < (pl : Int) := by omega
          go_wp2_with fail
          refine (HLV.out _ (HW.out _ HO1.out.bl)).mono ?_
          rintro e w9 ⟨rfl, hb9⟩
          go_wp2
          go_ret
          exact ⟨rfl, hb9⟩
    · have k1 : ¬ (300 : Int) < (kl : Int) := by omega
      have k2 : ¬ (300 : Int) < (ml : Int) := by omega
      have k3 : ¬ (12 : Int) < (pl : Int) := by omega
      have HPG := pagesOf_any HO1.out.d HO1.out.j (by omega) (by rw [HG.out.1.ln]; omega) HG.out.1.up HG.out.1.sz.seen
      rw [HG.out.1.seen, good_pages HG.out.1] at HPG
      obtain ⟨L, hL⟩ : ∃ L, (List.range n).map (pgP (ownP n D.kept)) = L := ⟨_, rfl⟩
      have hLl : L.length = n := by rw [← hL]; simp
      rw [hL] at HPG
      go_wp2_with fail
      refine HPG.mono ?_
      rintro e V2 ⟨aw, cw, rfl, hown2, hb2⟩
      have hO2 := HO1.out.below hb2
      obtain ⟨_, _, y2, _, _, _, _⟩ := HX.out V2 hO2.bl
      have hmin : min pl 12 = pl := by omega
      have hlpl := HIN.out.2.1.1
      have HC := changes_any p pl pc lp (HIN.out.2.1.below hO2.bl)
      rw [hmin, List.take_of_length_le (by omega)] at HC
      obtain ⟨l, hl⟩ : ∃ l, chL lp = l := ⟨_, rfl⟩
      have hlen : l.length = pl := by rw [← hl, ← hlpl]; simp [chL]
      rw [hl] at HC
      have HO2 : Hid (Own1 W1 V2 S g jb n D) := hO2
      have HS2 : Hid (Ss V2 aw n cw L ∧ ∀ x, ob aw = some x → V1.heap.size ≤ x) := ⟨Ss.own hown2 hLl, fun x hx => (hown2.lt x (by rw [ob_slice]; exact hx)).1⟩
      have hSV1 := HO1.out.d.bd
      have hjV1 := HO1.out.j.lt
      have hsz12 := hb2.size
      clear HPG hown2 hb2 hO2 hmin hl HO1 y0 y1 y3 y4 y5 y6 hbig
      go_wp2_with fail
      refine HC.mono ?_
      rintro e V3 ⟨aa, ca, ab, cb, rfl, hoa, hob, hb3⟩
      have hO3 := HO2.out.below hb3
      obtain ⟨y0, _, _, y3, y4, _, _⟩ := HX.out V3 hO3.bl
      have hciB := Ci.own hob hlen
      have HWH := why_any n ab pl cb l hciB
      have HRA : Hid (Ci V3 aa pl ca l ∧ ∀ x, ob aa = some x → x < V3.heap.size ∧ V2.heap.size ≤ x) := ⟨Ci.own hoa hlen, fun x hx => hoa.lt x (by rw [ob_slice]; exact hx) |>.symm⟩
      have HRB : Hid (Ci V3 ab pl cb l ∧ ∀ x, ob ab = some x → x < V3.heap.size ∧ V2.heap.size ≤ x) := ⟨hciB, fun x hx => hob.lt x (by rw [ob_slice]; exact hx) |>.symm⟩
      have HS3 : Hid (Ss V3 aw n cw L) := HS2.out.1.below hb3
      have HO3 : Hid (Own1 W1 V3 S g jb n D) := hO3
      have hsz23 := hb3.size
      clear HC hoa hob hb3 hO3 hciB HO2 y2
      obtain ⟨ck, hck⟩ : ∃ ck, chk n l = ck := ⟨_, rfl⟩
      rw [hck] at HWH
      by_cases h0 : ck = 0
      · subst h0
        by_cases hc0 : cut < 0
        · go_wp2_with fail
          refine HWH.mono ?_
          rintro e V4 ⟨rfl, hb4⟩
          obtain ⟨_, _, _, y3, y4, _, _⟩ := HX.out V4 (HO3.out.bl.trans (hb4.mono HO3.out.bl.size))
          have HB4 : Hid (Below w.heap.size w V4) := HW.out _ (HO3.out.bl.trans (hb4.mono HO3.out.bl.size))
          clear HWH hb4
          go_wp2_with fail
          refine (HLV.out _ HB4.out).mono ?_
          rintro e w9 ⟨rfl, hb9⟩
          go_wp2
          go_ret
          exact ⟨rfl, hb9⟩
        · by_cases ha0 : again < 0
          · go_wp2_with fail
            refine HWH.mono ?_
            rintro e V4 ⟨rfl, hb4⟩
            obtain ⟨_, _, _, y3, y4, _, _⟩ := HX.out V4 (HO3.out.bl.trans (hb4.mono HO3.out.bl.size))
            have HB4 : Hid (Below w.heap.size w V4) := HW.out _ (HO3.out.bl.trans (hb4.mono HO3.out.bl.size))
            clear HWH hb4
            go_wp2_with fail
            refine (HLV.out _ HB4.out).mono ?_
            rintro e w9 ⟨rfl, hb9⟩
            go_wp2
            go_ret
            exact ⟨rfl, hb9⟩
          · obtain ⟨cu, rfl⟩ := Int.eq_ofNat_of_zero_le (show 0 ≤ cut by omega)
            obtain ⟨ag, rfl⟩ := Int.eq_ofNat_of_zero_le (show 0 ≤ again by omega)
            go_wp2_with fail
            refine HWH.mono ?_
            rintro e V4 ⟨rfl, hb4⟩
            have hO4 := HO3.out.below hb4
            obtain ⟨_, _, _, y3, y4, _, _⟩ := HX.out V4 hO4.bl
            have HF := fuse_any hO4.d cu HG.out.1.up (by omega)
            have HO4 : Hid (Own1 W1 V4 S g jb n D) := hO4
            have hsz34 := hb4.size
            have HR4 : Hid (Ss V4 aw n cw L ∧ Ci V4 aa pl ca l ∧ Ci V4 ab pl cb l) := ⟨HS3.out.below hb4, HRA.out.1.below hb4, HRB.out.1.below hb4⟩
            clear HWH hb4 hO4
            go_wp2_with fail
            refine HF.mono ?_
            rintro e V5 ⟨rfl, hd5, hu5⟩
            obtain ⟨S5, hO5, hs5, _⟩ := HO4.out.mut ⟨S, hd5, hu5, fun _ h => .inl h⟩
            have HR5 : Hid (Ss V5 aw n cw L ∧ Ci V5 aa pl ca l ∧ Ci V5 ab pl cb l) := by
              refine ⟨HR4.out.1.keep hu5.size (fun x hx hl => hu5.block x hl (fun hs => ?_)), HR4.out.2.1.mut hu5 (fun x hx hs => ?_), HR4.out.2.2.mut hu5 (fun x hx hs => ?_)⟩
              · have := HS2.out.2 x hx; have := hSV1 x hs; omega
              · have := (HRA.out.2 x hx).2; have := hSV1 x hs; omega
              · have := (HRB.out.2 x hx).2; have := hSV1 x hs; omega
            have hsz45 := hu5.size
            have HN5 : Hid (∀ x, x < V4.heap.size → V1.heap.size ≤ x → ¬ S5 x) := fun x hx h1 hs => by
              rcases hs5 x hs with h | h
              · have := hSV1 x h; omega
              · omega
            have HO5 : Hid (Own1 W1 V5 S5 g jb n (D.fused cu)) := hO5
            clear HF hd5 hu5 hO5 hs5 HO4 HR4 HS3 y0 y3 y4
            obtain ⟨i0, hi0, hz0, hz1, hz2⟩ := info_parts info9
            obtain ⟨bw, ow, rfl, hbw, hcw⟩ := HR5.out.1.2.2.2 (by omega)
            have hcwc := HR5.out.1.2.1
            have hcwm := HR5.out.1.2.2.1
            have HCW : Hid (∀ j u, (strsV L)[j]? = some u → (V5.alloc (.cells #[] 9)).cell? ((⟨bw, ow, none⟩ : Addr).add j) = some u) := fun j u hj => by
              rw [strsV_at] at hj
              rw [add_at, ((Below.refl V5.heap.size V5).alloc (Nat.le_refl _) _).cell hbw]
              rcases Nat.lt_or_ge j L.length with h | h
              · rw [List.getElem?_eq_getElem h] at hj
                cases hj
                exact hcw j h
              · rw [List.getElem?_eq_none h] at hj; cases hj
            go_wp2_with (at_builtin; refine wpList_append_lies _ rfl _ _ 42 rfl V5.heap.size 9 i0 (.string ByteArray.empty) 1 16 Try.underlying42 hi0 hz0 hz1 hz2 rfl (by decide) _ 0 [] rfl (own_empty V5 _ (Nat.le_refl _)) ⟨bw, ow, none⟩ n cw (strsV L) rfl (by rw [strsV_len, hLl, Nat.mul_one]) HCW.out (strsV_one L) (by omega) (by unfold maxLen; omega) (by omega) (by simp) _ rfl ?_)
            intro gw cw2 V6 hown6 hgrow6 hg6 hlt6
            have hb6 : Below V5.heap.size V5 V6 := Below.grown ((Below.refl _ V5).alloc (Nat.le_refl _) _) hgrow6 (by simp) (fun j hj => by cases hj; exact Nat.le_refl _)
            have HI : Hid (V6.ownsRow V5.heap.size 9 1 (.slice (some ⟨gw, 0, none⟩) n cw2) n (strsV (wantL L (l.take 0))) ∧ Below V5.heap.size V5 V6) := ⟨hown6, hb6⟩
            have hgw : V5.heap.size ≤ gw := (hown6.lt gw rfl).1
            have HZ : Hid (0 + n = n) := Nat.zero_add n
            clear hown6 hgrow6 hg6 hlt6 hb6 HCW hcw
            go_wp2
            go_loopw [9] (fun v wr => ∃ i : Nat, i ≤ pl ∧ v = .int .i64 i ∧ wr.ownsRow V5.heap.size 9 1 (.slice (some ⟨gw, 0, none⟩) n cw2) n (strsV (wantL L (l.take i))) ∧ Below V5.heap.size V5 wr) (fun v _ => pl - (intOf v).toNat)
            case atStart => exact ⟨0, by omega, rfl, HI.out⟩
            case round =>
              clear HI
              obtain ⟨i, hi, rfl, hown, hbel⟩ := hrel
              by_cases hlt : i < pl
              · have kk : (i : Int) < (pl : Int) := by omega
                have hil : i < l.length := by omega
                obtain ⟨b, o, rfl, hb, hcell⟩ := HR5.out.2.2.2.2.2 (by omega)
                have hcab := HR5.out.2.2.2.1
                have hcab2 := HR5.out.2.2.2.2.1
                obtain ⟨c1, c2⟩ := hcell i hil
                have hmem : l[i] ∈ l := List.getElem_mem hil
                obtain ⟨hpr, _, _⟩ := chk_zero hck
                have hp01 := hpr _ hmem
                obtain ⟨⟨pq, s⟩, hc⟩ : ∃ c, l[i] = c := ⟨_, rfl⟩
                rw [hc] at c1 c2 hp01
                simp only at c1 c2 hp01
                obtain ⟨pg, rfl⟩ := Int.eq_ofNat_of_zero_le hp01.1
                have hpgn : pg < n := by omega
                have kpg : (pg : Int) < (n : Int) := by omega
                have c1 : wr.drew.cell? ⟨b, o + i * 2, none⟩ = some (.int .i64 (pg : Int)) := (hbel.cell (p := ⟨b, o + i * 2, none⟩) hb).trans c1
                have c2 : wr.drew.cell? ⟨b, o + i * 2 + 1, none⟩ = some (.string s) := (hbel.cell (p := ⟨b, o + i * 2 + 1, none⟩) hb).trans c2
                have hnb : gw ≠ b := by omega
                have HTK : Hid (wantL L (l.take (i + 1)) = (wantL L (l.take i)).set pg s) := by
                  show _ = _
                  rw [List.take_succ_eq_append_getElem hil, wantL_snoc, hc]
                  rfl
                have hownd : wr.drew.ownsRow V5.heap.size 9 1 (.slice (some ⟨gw, 0, none⟩) n cw2) n (strsV (wantL L (l.take i))) := hown
                have cw0 := own_str hownd pg hpgn
                have fw0 : wr.drew.frozen? ⟨gw, pg, none⟩ = false := own_fro hownd pg
                have HN : Hid ((wr.drew.setCell ⟨gw, pg, none⟩ (.string s)).ownsRow V5.heap.size 9 1 (.slice (some ⟨gw, 0, none⟩) n cw2) n (strsV (wantL L (l.take (i + 1)))) ∧ Below V5.heap.size V5 (wr.drew.setCell ⟨gw, pg, none⟩ (.string s))) := by
                  refine ⟨?_, hbel.drew.setCell hgw _⟩
                  rw [HTK.out, ← strsV_set]
                  exact own_put hownd pg (.string s)
                clear hcell hown hbel hc hmem hpr hownd hp01
                go_wp2
                refine wp_region_held_drew (S := fun V => V.cell? ⟨b, o + i * 2, none⟩ = some (.int .i64 (pg : Int)) ∧ V.cell? ⟨b, o + i * 2 + 1, none⟩ = some (.string s)) (by kernel_rfl) (⟨c1, c2⟩) (fun hHeld => ?_)
                refine wpAnyH_take (i := 0) (v := ?vw0) rfl (by kernel_rfl) (by kernel_rfl) (by kernel_rfl) (fun _ _ _ h => h) (Or.inl ⟨by first | kernel_rfl | rfl, ?yw0⟩) hHeld ?rw0
                case yw0 => (intro W hSW; (try dsimp only at hSW); go_simp; (try with_reducible rfl))
                change wpAnyH _ _ _ _ _ _ _ (Act.put _ (some 99) _) _
                simp only [Act.put, List.setIfInBounds_toArray, List.set_cons_zero, List.set_cons_succ]
                refine wpAnyH_take (i := 1) (v := ?vw1) rfl (by kernel_rfl) (by kernel_rfl) (by kernel_rfl) (fun _ _ _ h => h) (Or.inl ⟨by first | kernel_rfl | rfl, ?yw1⟩) hHeld ?rw1
                case yw1 => (intro W hSW; (try dsimp only at hSW); go_simp; (try with_reducible rfl))
                change wpAnyH _ _ _ _ _ _ _ (Act.put _ (some 100) _) _
                simp only [Act.put, List.setIfInBounds_toArray, List.set_cons_zero, List.set_cons_succ]
                refine wpAnyH_take (i := 2) (v := ?vw2) rfl (by kernel_rfl) (by kernel_rfl) (by kernel_rfl) (fun _ _ _ h => h) (Or.inl ⟨by first | kernel_rfl | rfl, ?yw2⟩) hHeld ?rw2
                case yw2 => (intro W hSW; (try dsimp only at hSW); go_simp; (try with_reducible rfl))
                change wpAnyH _ _ _ _ _ _ _ (Act.put _ (some 101) _) _
                simp only [Act.put, List.setIfInBounds_toArray, List.set_cons_zero, List.set_cons_succ]
                refine wpAnyH_take (i := 3) (v := ?vw3) rfl (by kernel_rfl) (by kernel_rfl) (by kernel_rfl) (fun _ _ _ h => h) (Or.inl ⟨by first | kernel_rfl | rfl, ?yw3⟩) hHeld ?rw3
                case yw3 => (intro W hSW; (try dsimp only at hSW); go_simp; (try with_reducible rfl))
                change wpAnyH _ _ _ _ _ _ _ (Act.put _ (some 102) _) _
                simp only [Act.put, List.setIfInBounds_toArray, List.set_cons_zero, List.set_cons_succ]
                refine wpAnyH_take (i := 4) (v := ?vw4) rfl (by kernel_rfl) (by kernel_rfl) (by kernel_rfl) (fun _ _ _ h => h) (Or.inl ⟨by first | kernel_rfl | rfl, ?yw4⟩) hHeld ?rw4
                case yw4 => (intro W hSW; (try dsimp only at hSW); go_simp; (try with_reducible rfl))
                change wpAnyH _ _ _ _ _ _ _ (Act.put _ (some 103) _) _
                simp only [Act.put, List.setIfInBounds_toArray, List.set_cons_zero, List.set_cons_succ]
                refine wpAnyH_take (i := 5) (v := ?vw5) rfl (by kernel_rfl) (by kernel_rfl) (by kernel_rfl) (fun _ _ _ h => h) (Or.inl ⟨by first | kernel_rfl | rfl, ?yw5⟩) hHeld ?rw5
                case yw5 => (intro W hSW; (try dsimp only at hSW); go_simp; (try with_reducible rfl))
                change wpAnyH _ _ _ _ _ _ _ (Act.put _ (some 104) _) _
                simp only [Act.put, List.setIfInBounds_toArray, List.set_cons_zero, List.set_cons_succ]
                refine wpAnyH_take (i := 6) (v := ?vw6) rfl (by kernel_rfl) (by kernel_rfl) (by kernel_rfl) (fun _ _ _ h => h) (Or.inl ⟨by first | kernel_rfl | rfl, ?yw6⟩) hHeld ?rw6
                case yw6 => (intro W hSW; (try dsimp only at hSW); go_simp; (try with_reducible rfl))
                change wpAnyH _ _ _ _ _ _ _ (Act.put _ (some 105) _) _
                simp only [Act.put, List.setIfInBounds_toArray, List.set_cons_zero, List.set_cons_succ]
                refine wpAnyH_take (i := 7) (v := ?vw7) rfl (by kernel_rfl) (by kernel_rfl) (by kernel_rfl) (fun _ _ _ h => h) (Or.inl ⟨by first | kernel_rfl | rfl, ?yw7⟩) hHeld ?rw7
                case yw7 => (intro W hSW; (try dsimp only at hSW); go_simp; (try with_reducible rfl))
                change wpAnyH _ _ _ _ _ _ _ (Act.put _ (some 106) _) _
                simp only [Act.put, List.setIfInBounds_toArray, List.set_cons_zero, List.set_cons_succ]
                refine wpAnyH_take (i := 8) (v := ?vw8) rfl (by kernel_rfl) (by kernel_rfl) (by kernel_rfl) (fun _ _ _ h => h) (Or.inl ⟨by first | kernel_rfl | rfl, ?yw8⟩) hHeld ?rw8
                case yw8 => (intro W hSW; (try dsimp only at hSW); go_simp; (try with_reducible rfl))
                change wpAnyH _ _ _ _ _ _ _ (Act.put _ (some 107) _) _
                simp only [Act.put, List.setIfInBounds_toArray, List.set_cons_zero, List.set_cons_succ]
                refine wpAnyH_take (i := 9) (v := ?vw9) rfl (by kernel_rfl) (by kernel_rfl) (by kernel_rfl) (fun _ _ _ h => h) (Or.inl ⟨by first | kernel_rfl | rfl, ?yw9⟩) hHeld ?rw9
                case yw9 => (intro W hSW; (try dsimp only at hSW); go_simp; (try with_reducible rfl))
                change wpAnyH _ _ _ _ _ _ _ (Act.put _ (some 108) _) _
                simp only [Act.put, List.setIfInBounds_toArray, List.set_cons_zero, List.set_cons_succ]
                refine wpAnyH_take (i := 10) (v := ?vw10) rfl (by kernel_rfl) (by kernel_rfl) (by kernel_rfl) (fun _ _ _ h => h) (Or.inl ⟨by first | kernel_rfl | rfl, ?yw10⟩) hHeld ?rw10
                case yw10 => (intro W hSW; (try dsimp only at hSW); go_simp; (try with_reducible rfl))
                change wpAnyH _ _ _ _ _ _ _ (Act.put _ (some 109) _) _
                simp only [Act.put, List.setIfInBounds_toArray, List.set_cons_zero, List.set_cons_succ]
                refine wpAnyH_take (i := 11) (v := ?vw11) rfl (by kernel_rfl) (by kernel_rfl) (by kernel_rfl) (fun _ _ _ h => h) (Or.inl ⟨by first | kernel_rfl | rfl, ?yw11⟩) hHeld ?rw11
                case yw11 => (intro W hSW; (try dsimp only at hSW); go_simp; (try with_reducible rfl))
                change wpAnyH _ _ _ _ _ _ _ (Act.put _ (some 110) _) _
                simp only [Act.put, List.setIfInBounds_toArray, List.set_cons_zero, List.set_cons_succ]
                refine wpAnyH_ready (rs := [12]) (by kernel_rfl) (by simp) ?_
                refine AllReadyH.cons rfl (fun K hK => ?_) AllReadyH.nil
                go_simp
                refine hK.out _ _ (⟨by show (wr.setCell ⟨gw, pg, none⟩ (.string s)).cell? _ = _; rw [World.cell?_setCell_far _ _ _ _ hnb]; exact c1, by show (wr.setCell ⟨gw, pg, none⟩ (.string s)).cell? _ = _; rw [World.cell?_setCell_far _ _ _ _ hnb]; exact c2⟩) (fun hHeld => ?_)
                clear hK K
                refine wpAnyH_done (by kernel_rfl) ?_ _
                clear hHeld
                go_wp2
                exact ⟨⟨i + 1, by omega, by go_num, HN.out⟩, by simp [intOf]; omega⟩
              · obtain rfl : i = pl := by omega
                have kk : ¬ (i : Int) < (i : Int) := by omega
                rw [List.take_of_length_le (by omega), ← hL, want_is (by omega) hck] at hown
                obtain ⟨N, hN⟩ : ∃ N, (List.range n).map (pgP (newP (ownP n D.kept) (srtC l))) = N := ⟨_, rfl⟩
                rw [hN] at hown
                have hNl : N.length = n := by rw [← hN]; simp
                have hKa : Kept2 W1 wr S5 g (D.fused cu) (some ⟨bw, ow, none⟩) cw L (some ⟨gw, 0, none⟩) cw2 N n := by
                  have h5 := HO5.out.below hbel
                  refine ⟨⟨h5.bl, h5.d, h5.s0, HR5.out.1.below hbel, fun x hx hs => ?_⟩, Ss.own hown hNl, fun x hx hs => ?_⟩
                  · exact HN5.out x (by have := HS2.out.1.lt (by omega) x hx; omega) (HS2.out.2 x hx) hs
                  · cases hx
                    have h9 : gw < V5.heap.size := HO5.out.d.bd _ hs
                    omega
                have HCO := commit_any hKa.x.d (HO5.out.j.below hbel) HO5.out.nj (by omega) (by show _ ≤ D.kept.length; rw [HG.out.1.ln]; omega) aa i ca l (HR5.out.2.1.below hbel) (fun x hx => by have := (HRA.out.2 x hx).1; have := hbel.size; omega) (by omega) (by have := HG.out.2; show D.writes + _ < _; omega)
                obtain ⟨Q, hQr, hQ, hQs, hQl⟩ := torn_math HG.out.1 (by omega) l hck cu (pickOf bk)
                have hwD2 : (comDisk n (D.fused cu) l).writes ≤ 190 := by
                  unfold comDisk
                  have h1 := runS_writes (D.fused cu) (comSteps n l)
                  have h2 := comSteps_len n l
                  have h3 : (D.fused cu).writes ≤ 80 := HG.out.2
                  split <;> omega
                obtain ⟨D2, hD2⟩ : ∃ D2, comDisk n (D.fused cu) l = D2 := ⟨_, rfl⟩
                obtain ⟨cc, hcc⟩ : ∃ cc, comCode n (D.fused cu) l = cc := ⟨_, rfl⟩
                rw [hD2, hcc] at HCO
                rw [hD2] at hQr hQs hQl hwD2
                rw [hcc] at hQ
                have HKa : Hid (Kept2 W1 wr S5 g (D.fused cu) (some ⟨bw, ow, none⟩) cw L (some ⟨gw, 0, none⟩) cw2 N n) := hKa
                clear hown hbel hKa hD2 hcc HR5 HRA HRB HN5
                go_wp2_with fail
                refine HCO.mono ?_
                rintro e V7 ⟨rfl, hm7⟩
                obtain ⟨S7, hK7⟩ := HKa.out.mut (by omega) hm7
                obtain ⟨_, _, _, _, _, z5, _⟩ := HX.out V7 hK7.x.bl
                have HFA := fail_m hK7.x.d k kl kc bk HIN.out.2.2.1 hK7.x.bl hK7.x.s0
                have hf1 : (D2.failed (pickOf bk)).waits = [] := rfl
                have hf2 : (D2.failed (pickOf bk)).up = false := rfl
                have hf3 : (D2.failed (pickOf bk)).writes = D2.writes := rfl
                obtain ⟨D3, hD3⟩ : ∃ D3, D2.failed (pickOf bk) = D3 := ⟨_, rfl⟩
                rw [hD3] at HFA hf1 hf2 hf3 hQr hQs hQl
                have HK7 : Hid (Kept2 W1 V7 S7 g D2 (some ⟨bw, ow, none⟩) cw L (some ⟨gw, 0, none⟩) cw2 N n) := hK7
                clear HCO hm7 hK7 HKa hD3
                go_wp2_with fail
                refine HFA.mono ?_
                rintro e V8 ⟨rfl, hm8⟩
                obtain ⟨S8, hK8⟩ := HK7.out.mut (by omega) hm8
                have HST := start_m hK8.x.d hf2 hf1
                have HK8 : Hid (Kept2 W1 V8 S8 g D3 (some ⟨bw, ow, none⟩) cw L (some ⟨gw, 0, none⟩) cw2 N n) := hK8
                clear HFA hm8 hK8 HK7 z5
                go_wp2_with fail
                refine HST.mono ?_
                rintro e V9 ⟨rfl, hm9⟩
                obtain ⟨S9, hK9⟩ := HK8.out.mut (by omega) hm9
                obtain ⟨_, _, _, _, z4, _, _⟩ := HX.out V9 hK9.x.bl
                have HFU := fuse_any hK9.x.d ag rfl (by omega)
                have HK9 : Hid (Kept2 W1 V9 S9 g D3.started (some ⟨bw, ow, none⟩) cw L (some ⟨gw, 0, none⟩) cw2 N n) := hK9
                clear HST hm9 hK9 HK8
                go_wp2_with fail
                refine HFU.mono ?_
                rintro e V10 ⟨rfl, hd10, hu10⟩
                have hK10 := HK9.out.turn (by omega) hd10 hu10 (fun _ h => .inl h)
                obtain ⟨z0, _, _, _, _, _, _⟩ := HX.out V10 hK10.x.bl
                have h5 : (D3.started.fused ag).up = true ∧ (D3.started.fused ag).waits = [] ∧ (D3.started.fused ag).kept = D3.kept ∧ (D3.started.fused ag).writes = D3.writes ∧ (D3.started.fused ag).Sz := ⟨rfl, hf1, rfl, rfl, hQs.started.fused ag⟩
                obtain ⟨D5, hD5⟩ : ∃ D5, D3.started.fused ag = D5 := ⟨_, rfl⟩
                rw [hD5] at h5 hK10
                obtain ⟨h5u, h5w, h5k, h5r, h5z⟩ := h5
                have HOP := open_any (n := n) hK10.x.d hn1 (by omega) (by rw [h5k]; omega) h5u h5w h5z.k (by omega)
                have hrs := rec_safe n D5 Q h5u h5w (by rw [h5k]; omega) h5z (by rw [h5k]; exact hQr)
                have hz6 : (runS D5 (recS n D5.kept)).Sz := by
                  unfold recS
                  split
                  · exact h5z
                  · exact h5z.run _ (finS_sz (fun c hc => by
                      unfold recL at hc
                      obtain ⟨j, hj, rfl⟩ := List.mem_map.1 hc
                      unfold toldL at hj
                      have hjn : j < n := by simpa using (List.mem_filter.1 hj).1
                      show (pageAt D5.kept (1 + 4 * j)).size = 1024
                      rw [← preAt_four]
                      exact preAt_size _ _ 4 (fun q hq => h5z.at _ (by rw [h5k]; omega))))
                have hl6 : (runS D5 (recS n D5.kept)).kept.length = 8 * n + 1 := by rw [runS_len, h5k]; exact hQl
                have hw6 := runS_writes D5 (recS n D5.kept)
                have hw6' := recS_len n D5.kept
                obtain ⟨D6, hD6⟩ : ∃ D6, runS D5 (recS n D5.kept) = D6 := ⟨_, rfl⟩
                rw [hD6] at HOP hrs hz6 hl6 hw6
                have HK10 : Hid (Kept2 W1 V10 S9 g D5 (some ⟨bw, ow, none⟩) cw L (some ⟨gw, 0, none⟩) cw2 N n) := hK10
                clear HFU hd10 hu10 hK10 HK9 hD5 hD6 hQr hQs
                rcases hrs with ⟨r1, r2, r3, r4, r5⟩ | ⟨r1, r2, r3⟩
                · rw [r1] at HOP
                  have HO : Calls Try.prog 10 #[.pointer (some ⟨g, 0, none⟩), .int .i64 (n : Int)] V10 fun e w' => e = .returned (.tuple #[.pointer (some ⟨V10.heap.size, 0, none⟩), .int .i64 0]) ∧ Jat w' V10.heap.size g n ∧ ∃ S', DiskIs w' S' g D6 ∧ Upd S9 V10 w' ∧ (∀ x, S' x → S9 x ∨ V10.heap.size ≤ x) ∧ ¬ S' V10.heap.size := HOP
                  clear HOP
                  go_wp2_with fail
                  refine HO.mono ?_
                  rintro e V11 ⟨rfl, hj11, S11, hd11, hu11, hs11, hnj11⟩
                  have hK11 := HK10.out.turn (by omega) hd11 hu11 hs11
                  have HUP := up_any hK11.x.d
                  rw [r2] at HUP
                  have hKK : Kept2 W1 V11 S11 g D6 (some ⟨bw, ow, none⟩) cw L (some ⟨gw, 0, none⟩) cw2 N n := hK11
                  have hDK : D6.up = true ∧ D6.waits = [] ∧ Tidy n D6.kept ∧ Rec n D6.kept Q ∧ D6.Sz ∧ D6.kept.length = 8 * n + 1 := ⟨r2, r3, r4, r5, hz6, hl6⟩
                  obtain ⟨jk, hjke⟩ : ∃ jk, V10.heap.size = jk := ⟨_, rfl⟩
                  rw [hjke] at hj11 hnj11
                  clear HO hd11 hu11 hs11 hK11 HK10 r1 r2 r3 r4 r5 hz6 hl6
                  go_wp2_with fail
                  refine HUP.mono ?_
                  rintro e V12 ⟨rfl, hV⟩
                  subst V12
                  clear HUP
                  have HK : Hid (Kept2 W1 V11 S11 g D6 (some ⟨bw, ow, none⟩) cw L (some ⟨gw, 0, none⟩) cw2 N n) := hKK
                  have HDk : Hid (D6.up = true ∧ D6.waits = [] ∧ Tidy n D6.kept ∧ Rec n D6.kept Q ∧ D6.Sz ∧ D6.kept.length = 8 * n + 1) := hDK
                  clear hKK hDK
                  go_wp2_with fail
                  refine (fuse_m HK.out.x.d 0 (by omega)).mono ?_
                  rintro e VF ⟨rfl, hmF⟩
                  obtain ⟨SF, hKF⟩ := HK.out.mut (by omega) hmF
                  have hfp : D6.fput 0 = D6.fused 0 := by unfold Dk.fput; rw [if_pos ⟨HDk.out.1, by omega⟩]; rfl
                  rw [hfp] at hKF
                  have hjF : Jat VF jk g n := (hmF.block hj11.lt hnj11).trans hj11
                  have hseen : (D6.fused 0).seen = D6.kept := by
                    show over D6.kept D6.waits = D6.kept
                    rw [HDk.out.2.1]; rfl
                  have HPG := pagesOf_any hKF.x.d hjF (by omega) (by show _ ≤ D6.kept.length; rw [HDk.out.2.2.2.2.2]; omega) HDk.out.1 (HDk.out.2.2.2.2.1.fused 0).seen
                  have hpg : pgs n D6.kept = (List.range n).map (pgP Q) := by
                    unfold pgs
                    exact List.map_congr_left (fun i hi => page_rec HDk.out.2.2.2.1 HDk.out.2.2.1 i (by simpa using hi))
                  rw [hseen, hpg] at HPG
                  have HKF : Hid (Kept2 W1 VF SF g (D6.fused 0) (some ⟨bw, ow, none⟩) cw L (some ⟨gw, 0, none⟩) cw2 N n) := hKF
                  clear hmF hKF HK hjF hseen hpg hfp HDk hj11 hnj11
                  go_wp2_with fail
                  refine HPG.mono ?_
                  rintro e VP ⟨ap, cp, rfl, hoP, hbP⟩
                  have hSP := Ss.own hoP (by simp)
                  have hKP := HKF.out.below hbP
                  have HSM := same_any ap n cp _ hSP (some ⟨gw, 0, none⟩) n cw2 N hKP.r
                  have HKP : Hid (Kept2 W1 VP SF g (D6.fused 0) (some ⟨bw, ow, none⟩) cw L (some ⟨gw, 0, none⟩) cw2 N n ∧ Ss VP ap n cp ((List.range n).map (pgP Q))) := ⟨hKP, hSP⟩
                  clear HPG hoP hbP hSP hKP HKF
                  by_cases hdn : (List.range n).map (pgP Q) = N
                  · rw [decide_eq_true hdn] at HSM
                    go_wp2_with fail
                    refine HSM.mono ?_
                    rintro e VS ⟨rfl, hbS⟩
                    have HBS : Hid (Below w.heap.size w VS) := HW.out _ (HKP.out.1.x.bl.trans (hbS.mono HKP.out.1.x.bl.size))
                    clear HSM hbS HKP
                    go_wp2_with fail
                    refine (HLV.out _ HBS.out).mono ?_
                    rintro e w9 ⟨rfl, hb9⟩
                    go_wp2
                    go_ret
                    exact ⟨rfl, hb9⟩
                  · rw [decide_eq_false hdn] at HSM
                    have hQL : (List.range n).map (pgP Q) = L ∧ ¬ cc = 0 := by
                      rcases hQ with e | ⟨e1, e2⟩
                      · exact absurd (by rw [e, hN]) hdn
                      · exact ⟨by rw [e2, hL], e1⟩
                    have kcc : ¬ (cc : Int) = 0 := by have := hQL.2; omega
                    have kcn : ((cc : Int) != 0) = true := by rw [bne_iff_ne]; exact kcc
                    go_wp2_with fail
                    refine HSM.mono ?_
                    rintro e VS ⟨rfl, hbS⟩
                    have hKS := HKP.out.1.below hbS
                    have HSM2 := same_any ap n cp _ (HKP.out.2.below hbS) (some ⟨bw, ow, none⟩) n cw L hKS.x.r
                    rw [hQL.1, decide_eq_true rfl] at HSM2
                    have HBS : Hid (Below W1.heap.size W1 VS) := hKS.x.bl
                    clear HSM hbS HKP hKS
                    go_wp2_with fail
                    refine HSM2.mono ?_
                    rintro e VT ⟨rfl, hbT⟩
                    have HBT : Hid (Below w.heap.size w VT) := HW.out _ (HBS.out.trans (hbT.mono HBS.out.size))
                    clear HSM2 hbT HBS
                    go_wp2_with fail
                    refine (HLV.out _ HBT.out).mono ?_
                    rintro e w9 ⟨rfl, hb9⟩
                    go_wp2
                    go_ret
                    exact ⟨rfl, hb9⟩
                · rw [r1] at HOP
                  have HO : Calls Try.prog 10 #[.pointer (some ⟨g, 0, none⟩), .int .i64 (n : Int)] V10 fun e w' => e = .returned (.tuple #[.pointer none, .int .i64 10]) ∧ Jat w' V10.heap.size g n ∧ ∃ S', DiskIs w' S' g D6 ∧ Upd S9 V10 w' ∧ (∀ x, S' x → S9 x ∨ V10.heap.size ≤ x) ∧ ¬ S' V10.heap.size := HOP
                  clear HOP
                  go_wp2_with fail
                  refine HO.mono ?_
                  rintro e V11 ⟨rfl, _, S11, hd11, hu11, hs11, _⟩
                  have hK11 := HK10.out.turn (by omega) hd11 hu11 hs11
                  obtain ⟨_, _, _, _, _, _, z6⟩ := HX.out V11 hK11.x.bl
                  have HFA := fail_m hK11.x.d m ml mc bm HIN.out.2.2.2 hK11.x.bl hK11.x.s0
                  have hg1 : (D6.failed (pickOf bm)).waits = [] ∧ (D6.failed (pickOf bm)).up = false ∧ (D6.failed (pickOf bm)).writes = D6.writes ∧ (D6.failed (pickOf bm)).fuse = 0 ∧ (D6.failed (pickOf bm)).Sz ∧ Rec n (D6.failed (pickOf bm)).kept Q ∧ (D6.failed (pickOf bm)).kept.length = 8 * n + 1 := ⟨rfl, rfl, rfl, rfl, hz6.failed _, r3 _, by show (upTo _ _ _ _).length = _; rw [upTo_len]; exact hl6⟩
                  obtain ⟨D7, hD7⟩ : ∃ D7, D6.failed (pickOf bm) = D7 := ⟨_, rfl⟩
                  rw [hD7] at HFA hg1
                  obtain ⟨g1, g2, g3, g4, g5, g6, g7⟩ := hg1
                  have HK11 : Hid (Kept2 W1 V11 S11 g D6 (some ⟨bw, ow, none⟩) cw L (some ⟨gw, 0, none⟩) cw2 N n) := hK11
                  clear HO hd11 hu11 hs11 hK11 HK10 r1 r2 r3 hz6 hl6 hD7
                  go_wp2_with fail
                  refine HFA.mono ?_
                  rintro e V12 ⟨rfl, hm12⟩
                  obtain ⟨S12, hK12⟩ := HK11.out.mut (by omega) hm12
                  have HST := start_m hK12.x.d g2 g1
                  have HK12 : Hid (Kept2 W1 V12 S12 g D7 (some ⟨bw, ow, none⟩) cw L (some ⟨gw, 0, none⟩) cw2 N n) := hK12
                  clear HFA hm12 hK12 HK11
                  go_wp2_with fail
                  refine HST.mono ?_
                  rintro e V13 ⟨rfl, hm13⟩
                  obtain ⟨S13, hK13⟩ := HK12.out.mut (by omega) hm13
                  obtain ⟨z0, _, _, _, _, _, _⟩ := HX.out V13 hK13.x.bl
                  have h8 : D7.started.up = true ∧ D7.started.waits = [] ∧ D7.started.kept = D7.kept ∧ D7.started.writes = D7.writes ∧ D7.started.Sz ∧ D7.started.fuse = 0 := ⟨rfl, g1, rfl, rfl, g5.started, g4⟩
                  obtain ⟨D8, hD8⟩ : ∃ D8, D7.started = D8 := ⟨_, rfl⟩
                  rw [hD8] at h8 hK13
                  obtain ⟨h8u, h8w, h8k, h8r, h8z, h8f⟩ := h8
                  have HOP := open_any (n := n) hK13.x.d hn1 (by omega) (by rw [h8k]; omega) h8u h8w h8z.k (by omega)
                  have hc9 := (runS_free D8 (recS n D8.kept) h8u h8f).1
                  have hrs := rec_safe n D8 Q h8u h8w (by rw [h8k]; omega) h8z (by rw [h8k]; exact g6)
                  have hz9 : (runS D8 (recS n D8.kept)).Sz := by
                    unfold recS
                    split
                    · exact h8z
                    · exact h8z.run _ (finS_sz (fun c hc => by
                        unfold recL at hc
                        obtain ⟨j, hj, rfl⟩ := List.mem_map.1 hc
                        unfold toldL at hj
                        have hjn : j < n := by simpa using (List.mem_filter.1 hj).1
                        show (pageAt D8.kept (1 + 4 * j)).size = 1024
                        rw [← preAt_four]
                        exact preAt_size _ _ 4 (fun q hq => h8z.at _ (by rw [h8k]; omega))))
                  have hl9 : (runS D8 (recS n D8.kept)).kept.length = 8 * n + 1 := by rw [runS_len, h8k]; exact g7
                  rw [hc9] at HOP hrs
                  obtain ⟨D9, hD9⟩ : ∃ D9, runS D8 (recS n D8.kept) = D9 := ⟨_, rfl⟩
                  rw [hD9] at HOP hrs hz9 hl9
                  obtain ⟨_, r2, r3, r4, r5⟩ | ⟨r1, _⟩ := hrs
                  · have HO : Calls Try.prog 10 #[.pointer (some ⟨g, 0, none⟩), .int .i64 (n : Int)] V13 fun e w' => e = .returned (.tuple #[.pointer (some ⟨V13.heap.size, 0, none⟩), .int .i64 0]) ∧ Jat w' V13.heap.size g n ∧ ∃ S', DiskIs w' S' g D9 ∧ Upd S13 V13 w' ∧ (∀ x, S' x → S13 x ∨ V13.heap.size ≤ x) ∧ ¬ S' V13.heap.size := HOP
                    have HK13 : Hid (Kept2 W1 V13 S13 g D8 (some ⟨bw, ow, none⟩) cw L (some ⟨gw, 0, none⟩) cw2 N n) := hK13
                    clear HOP HST hm13 hK13 HK12 hD8 hD9 hc9
                    go_wp2_with fail
                    refine HO.mono ?_
                    rintro e V14 ⟨rfl, hj11, S14, hd14, hu14, hs14, hnj11⟩
                    have hKK := HK13.out.turn (by omega) hd14 hu14 hs14
                    have hDK : D9.up = true ∧ D9.waits = [] ∧ Tidy n D9.kept ∧ Rec n D9.kept Q ∧ D9.Sz ∧ D9.kept.length = 8 * n + 1 := ⟨r2, r3, r4, r5, hz9, hl9⟩
                    obtain ⟨jk, hjke⟩ : ∃ jk, V13.heap.size = jk := ⟨_, rfl⟩
                    rw [hjke] at hj11 hnj11
                    clear HO hd14 hu14 hs14 HK13 r2 r3 r4 r5 hz9 hl9
                    have HK : Hid (Kept2 W1 V14 S14 g D9 (some ⟨bw, ow, none⟩) cw L (some ⟨gw, 0, none⟩) cw2 N n) := hKK
                    have HDk : Hid (D9.up = true ∧ D9.waits = [] ∧ Tidy n D9.kept ∧ Rec n D9.kept Q ∧ D9.Sz ∧ D9.kept.length = 8 * n + 1) := hDK
                    clear hKK hDK
                    go_wp2_with fail
                    refine (fuse_m HK.out.x.d 0 (by omega)).mono ?_
                    rintro e VF ⟨rfl, hmF⟩
                    obtain ⟨SF, hKF⟩ := HK.out.mut (by omega) hmF
                    have hfp : D9.fput 0 = D9.fused 0 := by unfold Dk.fput; rw [if_pos ⟨HDk.out.1, by omega⟩]; rfl
                    rw [hfp] at hKF
                    have hjF : Jat VF jk g n := (hmF.block hj11.lt hnj11).trans hj11
                    have hseen : (D9.fused 0).seen = D9.kept := by
                      show over D9.kept D9.waits = D9.kept
                      rw [HDk.out.2.1]; rfl
                    have HPG := pagesOf_any hKF.x.d hjF (by omega) (by show _ ≤ D9.kept.length; rw [HDk.out.2.2.2.2.2]; omega) HDk.out.1 (HDk.out.2.2.2.2.1.fused 0).seen
                    have hpg : pgs n D9.kept = (List.range n).map (pgP Q) := by
                      unfold pgs
                      exact List.map_congr_left (fun i hi => page_rec HDk.out.2.2.2.1 HDk.out.2.2.1 i (by simpa using hi))
                    rw [hseen, hpg] at HPG
                    have HKF : Hid (Kept2 W1 VF SF g (D9.fused 0) (some ⟨bw, ow, none⟩) cw L (some ⟨gw, 0, none⟩) cw2 N n) := hKF
                    clear hmF hKF HK hjF hseen hpg hfp HDk hj11 hnj11
                    go_wp2_with fail
                    refine HPG.mono ?_
                    rintro e VP ⟨ap, cp, rfl, hoP, hbP⟩
                    have hSP := Ss.own hoP (by simp)
                    have hKP := HKF.out.below hbP
                    have HSM := same_any ap n cp _ hSP (some ⟨gw, 0, none⟩) n cw2 N hKP.r
                    have HKP : Hid (Kept2 W1 VP SF g (D9.fused 0) (some ⟨bw, ow, none⟩) cw L (some ⟨gw, 0, none⟩) cw2 N n ∧ Ss VP ap n cp ((List.range n).map (pgP Q))) := ⟨hKP, hSP⟩
                    clear HPG hoP hbP hSP hKP HKF
                    by_cases hdn : (List.range n).map (pgP Q) = N
                    · rw [decide_eq_true hdn] at HSM
                      go_wp2_with fail
                      refine HSM.mono ?_
                      rintro e VS ⟨rfl, hbS⟩
                      have HBS : Hid (Below w.heap.size w VS) := HW.out _ (HKP.out.1.x.bl.trans (hbS.mono HKP.out.1.x.bl.size))
                      clear HSM hbS HKP
                      go_wp2_with fail
                      refine (HLV.out _ HBS.out).mono ?_
                      rintro e w9 ⟨rfl, hb9⟩
                      go_wp2
                      go_ret
                      exact ⟨rfl, hb9⟩
                    · rw [decide_eq_false hdn] at HSM
                      have hQL : (List.range n).map (pgP Q) = L ∧ ¬ cc = 0 := by
                        rcases hQ with e | ⟨e1, e2⟩
                        · exact absurd (by rw [e, hN]) hdn
                        · exact ⟨by rw [e2, hL], e1⟩
                      have kcc : ¬ (cc : Int) = 0 := by have := hQL.2; omega
                      have kcn : ((cc : Int) != 0) = true := by rw [bne_iff_ne]; exact kcc
                      go_wp2_with fail
                      refine HSM.mono ?_
                      rintro e VS ⟨rfl, hbS⟩
                      have hKS := HKP.out.1.below hbS
                      have HSM2 := same_any ap n cp _ (HKP.out.2.below hbS) (some ⟨bw, ow, none⟩) n cw L hKS.x.r
                      rw [hQL.1, decide_eq_true rfl] at HSM2
                      have HBS : Hid (Below W1.heap.size W1 VS) := hKS.x.bl
                      clear HSM hbS HKP hKS
                      go_wp2_with fail
                      refine HSM2.mono ?_
                      rintro e VT ⟨rfl, hbT⟩
                      have HBT : Hid (Below w.heap.size w VT) := HW.out _ (HBS.out.trans (hbT.mono HBS.out.size))
                      clear HSM2 hbT HBS
                      go_wp2_with fail
                      refine (HLV.out _ HBT.out).mono ?_
                      rintro e w9 ⟨rfl, hb9⟩
                      go_wp2
                      go_ret
                      exact ⟨rfl, hb9⟩
                  · omega
      · have k0 : ¬ (ck : Int) = 0 := by omega
        go_wp2_with fail
        refine HWH.mono ?_
        rintro e V4 ⟨rfl, hb4⟩
        have HB4 : Hid (Below w.heap.size w V4) := HW.out _ (HO3.out.bl.trans (hb4.mono HO3.out.bl.size))
        clear HWH hb4
        go_wp2_with fail
        refine (HLV.out _ HB4.out).mono ?_
        rintro e w9 ⟨rfl, hb9⟩
        go_wp2
        go_ret
        exact ⟨rfl, hb9⟩

set_option linter.unusedVariables false in
set_option maxRecDepth 100000 in
theorem lifted (os : _root_.Go.Os) (started : os.Started) (H : Type) (enc : TypeId × Value → H) :
    ReturnsInHanded {} Try.checked os 4 .any (Rows.journalWholeSpec.pre6 enc Try.prog Try.f4 Rows.journalWholeRow.domain false) (Rows.journalWholeSpec.post enc Try.prog Try.f4 false true false false) := by
  refine returnsInHanded_of_change (C := Try.checked) own started (by kernel_rfl) Try.func4
    (ChangeSpec.witness6 (enc := enc) (C := Try.checked) false ⟨#[], #[.agg #[.int .i64 0, .slice none 0 0, .slice none 0 0, .int .i64 0, .int .i64 0, .slice none 0 0, .slice none 0 0]], []⟩ 8 (by kernel_rfl) (by kernel_rfl) (by kernel_rfl) (by kernel_rfl)) ?_
  intro W base args ds gs before hval0 hW hcnd _
  have hval : ∀ (j : Nat) t v, Try.f4.params[j]? = some t → args[j]? = some v → Value.okWide Try.prog W .any base t v := hval0
  have hW' := hW
  obtain ⟨p, q, hA0, hV, rfl, hfz, hnd⟩ := hW
  have hA : DataW.TrodAll enc Try.prog W 0 (fun _ => true) true Try.f4.params.toList args.toList ds p := hA0
  rw [Try.params4] at hA hval
  obtain ⟨v0, vs0, d0, ds0, p0, q0, hargs, rfl, rfl, h0, r0⟩ := trodAll_cons hA
  obtain ⟨rfl, rfl, rfl⟩ := trodAll_nil r0
  obtain rfl : args = #[v0] := by cases args; simp_all
  obtain ⟨rfl, rfl⟩ := trodVars_none hV
  have k0 := h0
  have lt0 : ∀ x ∈ p0, x.block < W.heap.size := by obtain ⟨m, hm⟩ := k0; exact DataW.trod_lt m _ _ _ hm
  obtain ⟨x, rfl, w0⟩ := torn_of (hval 0 39 v0 rfl rfl) h0
  clear hA0 hval0
  refine (walk x W w0).mono fun e W' ⟨he, bel⟩ => ?_
  subst he
  exact ⟨_, rfl, _, _, _, [], _, [], hW', trodAll_mk1 (shut_bool Try.underlying4 _), (trodAll_cons_mk (Below.trod laidOut (by kernel_rfl) (of_decide_eq_true (by kernel_rfl)) k0 bel lt0) trodAll_mk0), rfl, bel.frame _, fun h => by cases h⟩

theorem over : Rows.journalWholeRow.holds Try.pinned (OpenSpec.ofChange Rows.journalWholeSpec) :=
  OpenClaim.holds_of_wide 4 Try.f4 rfl rfl rfl rfl rfl rfl rfl ⟨rfl, rfl, rfl, rfl, rfl⟩ rfl rfl rfl rfl rfl (by kernel_rfl) Try.func4 (by kernel_rfl)
    (of_decide_eq_true (by kernel_rfl)) (by unfold Func.isWrapper; first | (rw [if_pos (by decide +kernel)]; kernel_rfl) | (rw [if_neg (by decide +kernel)]; exact ⟨rfl, rfl⟩))
    (fun os started H enc _ => lifted os started H enc)

end Go.Proofs.Ytaacedaehbaodaa.journalWhole
namespace Go.Proofs.Ytaacedaehbaodaa
/-- The given statement. -/
theorem journalWhole_holds : Rows.JournalWholeSaid := journalWhole.over
#print axioms journalWhole_holds
end Go.Proofs.Ytaacedaehbaodaa
