/- ShelfReads: of any bytes in the pages a table is opened, or refused; one that is opened is in order, and what it tells it gets. -/
import Derived.Test.YtnafalkcgghjgaaGreatDoorTN
import Derived.Test.YtnafalkcgghjgaaGreatDoorCards
import Derived.Test.YtnafalkcgghjgaaGreatDoorTie
import Derived.WalkKit
import Derived.ProofKit
import Derived.OpenShut
import Derived.ShutString
import Derived.ChangeOld
import Derived.Below
import Derived.LaidMore
import Derived.Lay
import Derived.Stop.Joined
import Derived.SevenTiedAt
namespace Go.Proofs.YtnafalkcgghjgaaGreatDoor.shelfReads
open Go.ChangeShapes Go.WideShapes Go.ChangeAt Go.RowKit
theorem own : ownKnob Tryz.prog.godebug = none := by kernel_rfl
theorem laidOut : laidOutB Tryz.prog = true := by kernel_rfl

set_option maxRecDepth 100000 in
set_option maxHeartbeats 16000000 in
theorem walk (x0 : Int) (z0 : -9223372036854775808 ≤ x0 ∧ x0 ≤ 9223372036854775807) (a1 : Option Addr) (len1 cap1 : Nat) (w : World) (w1 : Bss w a1 len1 cap1) :
    Calls Tryz.prog 6 #[.int .i64 x0, .slice a1 len1 cap1] w fun e w' => e = .returned (.bool true) ∧ Below w.heap.size w w' := by
  by_cases hx : x0 < 2 ∨ 12 < x0
  · have HO := opened_none x0 w hx
    have HLV := lives_h (Below.refl w.heap.size w)
    by_cases hx2 : x0 < 2
    · clear hx
      go_enter Tryz.func6, Tryz.ntmps6
      go_wp2_with fail
      refine HO.mono ?_
      rintro e V ⟨rfl, hV⟩
      subst V
      clear HO
      go_wp2_with fail
      refine HLV.mono ?_
      rintro e Z ⟨rfl, hbz⟩
      have HBZ : Hid (Below w.heap.size w Z) := hbz
      clear HLV hbz
      go_wp2
      go_ret
      exact ⟨rfl, HBZ.out⟩
    · have hx3 : 12 < x0 := by omega
      clear hx
      go_enter Tryz.func6, Tryz.ntmps6
      go_wp2_with fail
      refine HO.mono ?_
      rintro e V ⟨rfl, hV⟩
      subst V
      clear HO
      go_wp2_with fail
      refine HLV.mono ?_
      rintro e Z ⟨rfl, hbz⟩
      have HBZ : Hid (Below w.heap.size w Z) := hbz
      clear HLV hbz
      go_wp2
      go_ret
      exact ⟨rfl, HBZ.out⟩
  · obtain ⟨n, rfl⟩ : ∃ n : Nat, x0 = (n : Int) := Int.eq_ofNat_of_zero_le (by omega)
    have hn2 : 2 ≤ n := by omega
    have hn12 : n ≤ 12 := by omega
    have kn2 : ¬ (n : Int) < 2 := by omega
    have kn12 : ¬ (12 : Int) < (n : Int) := by omega
    have HO := opened_any n hn2 hn12 w
    have HBS : Hid (Bss w a1 len1 cap1) := w1
    have hlc := w1.1
    have hcm := w1.2.1
    clear hx z0 w1
    go_enter Tryz.func6, Tryz.ntmps6
    go_wp2_with fail
    refine HO.mono ?_
    rintro e V1 ⟨g, jb, sb, FF, S, KK, rfl, ht, hl, hj, hb⟩
    have HLV := lives_h hb
    have hwj : Wj w V1 S g (Dk.new (8 * n + 1) nought) jb n none 0 0 [] none 0 0 [] := ⟨FF, ht.sto, Rw.zero _ _ _ _ _ _ (Nat.zero_le _), Rw.zero _ _ _ _ _ _ (Nat.zero_le _), hb⟩
    have hG : Good n (Dk.new (8 * n + 1) nought) := Good.new n
    have hw0 : (Dk.new (8 * n + 1) nought).writes = 0 := rfl
    obtain ⟨D, hD⟩ : ∃ D, Dk.new (8 * n + 1) nought = D := ⟨_, rfl⟩
    rw [hD] at hwj hG hw0
    have HG : Hid (Good n D ∧ D.writes = 0) := ⟨hG, hw0⟩
    have HWJ1 : Hid (Wj w V1 S g D jb n none 0 0 [] none 0 0 []) := hwj
    clear HO ht hl hj hb hG hw0 hD hwj
    by_cases hl12 : 12 < len1
    · have k12 : (12 : Int) < (len1 : Int) := by omega
      go_wp2_with fail
      refine HLV.mono ?_
      rintro e Z ⟨rfl, hbz⟩
      have HBZ : Hid (Below w.heap.size w Z) := hbz
      clear HLV hbz
      go_wp2
      go_ret
      exact ⟨rfl, HBZ.out⟩
    · have k12 : ¬ (12 : Int) < (len1 : Int) := by omega
      clear HLV
      obtain ⟨BB, hBB⟩ : ∃ BB, V1.heap.size = BB := ⟨_, rfl⟩
      go_wp2
      go_loopw [8, 9] (fun vc vi wr => ∃ (i ln lc : Nat) (lla : Option Addr) (cl : List Chi), i ≤ len1 ∧ i ≤ n ∧ vi = .int .i64 i ∧ vc = .slice lla ln lc ∧ wr.ownsRow BB 69 2 (.slice lla ln lc) ln (chiV cl) ∧ Firsts i cl ∧ Below BB V1 wr) (fun _ vi _ => n - (intOf vi).toNat)
      case atStart => exact ⟨0, 0, 0, none, [], by omega, by omega, rfl, rfl, World.ownsRow_nil _ _ _ _, Firsts.nil, by rw [← hBB]; exact Below.refl _ _⟩
      case round =>
        obtain ⟨i, ln, lc, lla, cl, hi1, hi2, rfl, rfl, hown, hfi, hbw⟩ := hrel
        have hcl : cl.length = ln := by have := hown.1; rw [chiV_len] at this; omega
        have hcl2 := hfi.len
        by_cases hgo : i < len1 ∧ i < n
        · have k1 : (i : Int) < (len1 : Int) := by omega
          have k2 : (i : Int) < (n : Int) := by omega
          have hBw : BB ≤ wr.heap.size := by rw [← hBB]; exact hbw.size
          have hwbl : Below w.heap.size w wr := HWJ1.out.on.trans (by rw [← hBB] at hbw; exact hbw.mono HWJ1.out.on.size)
          obtain ⟨lb, lo, rfl, hlb, hbs⟩ := HBS.out.2.2 (by omega)
          obtain ⟨sa, sl_, sc, bs, hcell, hby⟩ := hbs i hgo.1
          obtain ⟨V2, hV2⟩ : ∃ V2, wr.alloc (.cells (brow []) 5) = V2 := ⟨_, rfl⟩
          have hmk := made_full wr
          rw [hV2] at hmk
          have hB2 : Below wr.heap.size wr V2 := by rw [← hV2]; exact (Below.refl _ wr).alloc (Nat.le_refl _) _
          have hbt : Bt V2 wr.heap.size [] := by rw [← hV2]; exact heap_alloc_new wr _
          have hw2 : Below w.heap.size w V2 := hwbl.trans (hB2.mono hwbl.size)
          have c1 : V2.cell? ⟨lb, lo + i, none⟩ = some (.slice sa sl_ sc) := by rw [hw2.cell hlb]; exact hcell
          obtain ⟨gb, hgb⟩ : ∃ gb, wr.heap.size = gb := ⟨_, rfl⟩
          rw [hgb] at hbt hmk hBw
          obtain ⟨m, V3, Lb, hcp, hbt3, hlb3, hb3⟩ := copy_in hbt (hby.below hw2)
          have hB3 : Below gb V2 V3 := hb3 gb (Nat.le_refl _)
          obtain ⟨s, hs1, hcv⟩ := page_conv hbt3 hlb3
          obtain ⟨V4, hV4⟩ : ∃ V4, V3.alloc (.cells #[.int .i64 (i : Int), .string s] 69) = V4 := ⟨_, rfl⟩
          have hB4 : Below V3.heap.size V3 V4 := by rw [← hV4]; exact (Below.refl _ V3).alloc (Nat.le_refl _) _
          have r4 : V4.heap[V3.heap.size]? = some (.cells #[.int .i64 (i : Int), .string s] 69 (0, 0)) := by rw [← hV4]; exact heap_alloc_new V3 _
          have hB2' : Below gb wr V2 := by rw [← hgb]; exact hB2
          have hB13 : Below gb wr V3 := hB2'.trans hB3
          have hsz3 : gb ≤ V3.heap.size := by rw [← hgb]; exact hB13.size
          have hB14 : Below gb wr V4 := hB13.trans (hB4.mono hsz3)
          have ho4 := own_keep hown (W' := V4) (fun z hz => hB14.block z (by have := (hown.lt z hz).2; omega))
          have hsz4 : BB ≤ V4.heap.size := Nat.le_trans hBw (Nat.le_trans hsz3 hB4.size)
          obtain ⟨aA, cA, VA, hrA, hoA, hgA, _⟩ := addC_own V4 ho4 (chRow r4) (by omega) hsz4
          have HE : Hid (VA.ownsRow BB 69 2 (.slice aA (ln + 1) cA) (ln + 1) (chiV (cl ++ [((i : Int), s)])) ∧ Firsts (i + 1) (cl ++ [((i : Int), s)]) ∧ Below BB V1 VA) :=
            ⟨hoA, hfi.add hs1, (hbw.trans (hB14.mono hBw)).grown hgA hsz4 (fun z hz => (ho4.lt z (by rw [ob_slice]; exact hz)).1)⟩
          have HGB : Hid (wr.heap.size = gb) := hgb
          clear hown hfi hbw hbs hcell hby hB2 hbt hw2 hbt3 hb3 hB3 hs1 hB4 r4 hB2' hB13 hB14 ho4 hoA hgA hwbl hcl hcl2 hgb hgo hlb3
          go_wp2_with ((at_builtin; refine wpList_app V4 rfl _ _ _ _ rfl rfl rfl (hrA _) ?_))
          exact ⟨⟨i + 1, ln + 1, cA, aA, cl ++ [((i : Int), s)], by omega, by omega, by go_num, rfl, HE.out.1, HE.out.2.1, HE.out.2.2⟩, by simp [intOf]; omega⟩
        · have hck := hfi.chk (n := n) hi2
          have hbw' : Below V1.heap.size V1 wr := by rw [hBB]; exact hbw
          have hwj2 := HWJ1.out.below hbw'
          have HCM := commit_any hwj2.disk.1 hwj2.disk.2.1 hwj2.disk.2.2 (by omega) (by rw [HG.out.1.ln]; exact Nat.le_refl _) lla ln lc cl (Ci.own hown hcl) (fun x hx => (hown.lt x (by rw [ob_slice]; exact hx)).2) (by omega) (by have := HG.out.2; omega)
          obtain ⟨g1, g2, _, _⟩ := HG.out.1.commit (by omega) cl
          rw [g1, hck] at HCM
          obtain ⟨D1, hD1⟩ : ∃ D1, comDisk n D cl = D1 := ⟨_, rfl⟩
          rw [hD1] at HCM g2
          have HG1 : Hid (Good n D1) := g2
          have HWJ2 : Hid (Wj w wr S g D jb n none 0 0 [] none 0 0 []) := hwj2
          have HCM : Calls Tryz.prog 32 #[.pointer (some ⟨jb, 0, none⟩), .slice lla ln lc] wr fun e w' => e = .returned (.int .i64 0) ∧ Mut S wr g D1 w' := HCM
          have hbr : (i < len1 ∧ ¬ i < n) ∨ ¬ i < len1 := by omega
          clear hown hfi hbw hbw' hwj2 hcl hcl2 hgo hck g1 g2 hD1
          rcases hbr with ⟨hb1, hb2⟩ | hb1
          · have k1 : (i : Int) < (len1 : Int) := by omega
            have k2 : ¬ (i : Int) < (n : Int) := by omega
            go_wp2_with fail
            refine HCM.mono ?_
            rintro e V5 ⟨rfl, hm5⟩
            obtain ⟨S6, hw5⟩ := HWJ2.out.mut hm5
            have HSO := wj_open2 hw5 hn2 hn12 HG1.out
            clear HCM hm5 hw5 HWJ2 HWJ1
            go_wp2_with fail
            refine HSO.mono ?_
            rintro e V6 (⟨sb2, L5, rfl, hw6⟩ | ⟨rfl, hb6⟩)
            · obtain ⟨T, hT⟩ : ∃ T, flat (lfs L5) = T := ⟨_, rfl⟩
              have HTT : Hid (flat (lfs L5) = T) := hT
              have HF : Hid (Rise T ∧ (∀ p ∈ T, May p) ∧ T.length ≤ 20000) := hw6.facts hT
              have HAL := wh_all_a hw6
              rw [hT] at HAL
              clear HSO hw6 hT
              go_wp2_with fail
              refine HAL.mono ?_
              rintro e V7 ⟨xa, xn, xc, rfl, hw7, _⟩
              have HX5 : Hid (Wh w V7 S6 g D1 sb2 jb n L5 L5 xa xn xc T none 0 0 []) := hw7
              have hxn : xn ≤ 20000 := by have := hw7.rows.1.len; have := HF.out.2.2; omega
              clear HAL hw7
              go_wp2
              go_loopw [14] (fun v wr => ∃ i : Nat, i ≤ xn ∧ v = .int .i64 i ∧ Wh w wr S6 g D1 sb2 jb n L5 L5 xa xn xc T none 0 0 []) (fun v _ => xn - (intOf v).toNat)
              case atStart => exact ⟨0, by omega, rfl, HX5.out⟩
              case round =>
                clear HX5
                obtain ⟨i, hi, rfl, hk⟩ := hrel
                have hpx := hk.rows.1
                by_cases hlt : i < xn
                · have kk : (i : Int) < (xn : Int) := by omega
                  have hxl := hpx.len
                  obtain ⟨xb, xo, rfl, _, _, hc⟩ := hpx.at (by omega)
                  have hp : T[i]? = some T[i] := List.getElem?_eq_getElem (by omega)
                  obtain ⟨⟨p1, p2⟩, hpe⟩ : ∃ p, T[i]'(by omega) = p := ⟨_, rfl⟩
                  rw [hpe] at hp
                  obtain ⟨c1, c2⟩ := hc i _ hp
                  simp only at c1 c2
                  obtain ⟨gm1, gm2⟩ := get_mem HF.out.1 (List.mem_of_getElem? hp)
                  simp only at gm1 gm2
                  have hmy := HF.out.2.1 _ (List.mem_of_getElem? hp)
                  have HG5 := wh_get hk HTT.out p1
                  rw [gm1, gm2, Option.getD_some] at HG5
                  have HP : Hid (T[i]? = some (p1, p2)) := hp
                  have HMY : Hid (∀ W, Calls Tryz.prog 33 #[.string p1, .string p2] W fun e w' => e = .returned (.bool true) ∧ w' = W) := fun W => by
                    have h1 := may_any p1 p2 (by have := hmy.2.1; simp only at this; omega) (by have := hmy.2.2; simp only at this; omega) W
                    rw [decide_eq_true hmy] at h1
                    exact h1
                  clear hc hp hpe gm1 gm2 hk hpx hmy
                  go_wp2_with fail
                  refine HG5.mono ?_
                  rintro e V7 ⟨rfl, hk7⟩
                  have hpx7 := hk7.rows.1
                  obtain ⟨xb', xo', hxe, _, _, hc⟩ := hpx7.at (by omega)
                  cases hxe
                  obtain ⟨c1, c2⟩ := hc i _ HP.out
                  simp only at c1 c2
                  have HE : Hid (Wh w V7 S6 g D1 sb2 jb n L5 L5 (some ⟨xb, xo, none⟩) xn xc T none 0 0 []) := hk7
                  by_cases h0 : i = 0
                  · have k0 : decide ((0 : Int) < (i : Int)) = false := decide_eq_false (by omega)
                    have k0n : decide (0 < i) = false := decide_eq_false (by omega)
                    have HI0 : Hid (i = 0) := h0
                    clear h0 hc HG5 hk7 hpx7
                    go_wp2
                    go_quiet ((go_at_call 33; refine Calls.quiet_of_same (HMY.out _)))
                    go_wp2
                    exact ⟨⟨i + 1, by omega, by go_num, HE.out.below (below_drewN (Below.refl _ _) _)⟩, by simp [intOf]; omega⟩
                  · have k0 : decide ((0 : Int) < (i : Int)) = true := decide_eq_true (by omega)
                    have k0n : decide (0 < i) = true := decide_eq_true (by omega)
                    obtain ⟨i', hi'⟩ : ∃ i', i = i' + 1 := ⟨i - 1, by omega⟩
                    have ki : (i : Int) - 1 = (i' : Int) := by omega
                    have ki2 : (i' : Int) < (xn : Int) := by omega
                    have hq1 : T[i']? = some T[i'] := List.getElem?_eq_getElem (by omega)
                    obtain ⟨⟨q1, q2⟩, hqe⟩ : ∃ p, T[i']'(by omega) = p := ⟨_, rfl⟩
                    rw [hqe] at hq1
                    obtain ⟨b1, b2⟩ := hc i' _ hq1
                    simp only at b1 b2
                    have hge : Op.bytesLess q1.toList p1.toList = true := by
                      have h5 := HP.out
                      have h6 := List.pairwise_iff_getElem.1 HF.out.1 i' i (by omega) (by omega) (by omega)
                      rw [hqe] at h6
                      rw [List.getElem?_eq_getElem (by omega)] at h5
                      rw [Option.some.inj h5] at h6
                      exact h6
                    have HII : Hid (i = i' + 1) := hi'
                    clear h0 hc HG5 hk7 hpx7 hq1 hqe hi'
                    go_wp2
                    go_quiet ((go_at_call 33; refine Calls.quiet_of_same (HMY.out _)))
                    go_wp2
                    exact ⟨⟨i + 1, by omega, by go_num, HE.out.below (below_drewN (Below.refl _ _) _)⟩, by simp [intOf]; omega⟩
                · have kk : ¬ (i : Int) < (xn : Int) := by omega
                  have hxl := hpx.len
                  have HFA := fail_m (w0 := w) hk.disk.1 none 0 0 [] (Bls.nil w) hk.on hk.disk.2
                  have HK : Hid (Wh w wr S6 g D1 sb2 jb n L5 L5 xa xn xc T none 0 0 []) := hk
                  clear hk hpx
                  go_wp2_with fail
                  refine HFA.mono ?_
                  rintro e V8 ⟨rfl, hm8⟩
                  obtain ⟨S8, hw8⟩ := HK.out.mut hm8
                  have HOF := wh_off hw8 rfl
                  clear HFA hm8 hw8 HK
                  go_wp2_with fail
                  refine HOF.mono ?_
                  rintro e V9 ⟨rfl, hw9⟩
                  have HLN := wh_len hw9 HTT.out
                  rw [hxl] at HLN
                  clear HOF hw9
                  go_wp2_with fail
                  refine HLN.mono ?_
                  rintro e VA ⟨rfl, hwA⟩
                  have HLV := lives_h hwA.on
                  clear HLN hwA
                  go_wp2_with fail
                  refine HLV.mono ?_
                  rintro e Z ⟨rfl, hbz⟩
                  have HBZ : Hid (Below w.heap.size w Z) := hbz
                  clear HLV hbz
                  go_wp2
                  go_ret
                  exact ⟨rfl, HBZ.out⟩
            · have HLV := lives_h hb6
              clear HSO hb6
              go_wp2_with fail
              refine HLV.mono ?_
              rintro e Z ⟨rfl, hbz⟩
              have HBZ : Hid (Below w.heap.size w Z) := hbz
              clear HLV hbz
              go_wp2
              go_ret
              exact ⟨rfl, HBZ.out⟩
          · have k1 : ¬ (i : Int) < (len1 : Int) := by omega
            go_wp2_with fail
            refine HCM.mono ?_
            rintro e V5 ⟨rfl, hm5⟩
            obtain ⟨S6, hw5⟩ := HWJ2.out.mut hm5
            have HSO := wj_open2 hw5 hn2 hn12 HG1.out
            clear HCM hm5 hw5 HWJ2 HWJ1
            go_wp2_with fail
            refine HSO.mono ?_
            rintro e V6 (⟨sb2, L5, rfl, hw6⟩ | ⟨rfl, hb6⟩)
            · obtain ⟨T, hT⟩ : ∃ T, flat (lfs L5) = T := ⟨_, rfl⟩
              have HTT : Hid (flat (lfs L5) = T) := hT
              have HF : Hid (Rise T ∧ (∀ p ∈ T, May p) ∧ T.length ≤ 20000) := hw6.facts hT
              have HAL := wh_all_a hw6
              rw [hT] at HAL
              clear HSO hw6 hT
              go_wp2_with fail
              refine HAL.mono ?_
              rintro e V7 ⟨xa, xn, xc, rfl, hw7, _⟩
              have HX5 : Hid (Wh w V7 S6 g D1 sb2 jb n L5 L5 xa xn xc T none 0 0 []) := hw7
              have hxn : xn ≤ 20000 := by have := hw7.rows.1.len; have := HF.out.2.2; omega
              clear HAL hw7
              go_wp2
              go_loopw [14] (fun v wr => ∃ i : Nat, i ≤ xn ∧ v = .int .i64 i ∧ Wh w wr S6 g D1 sb2 jb n L5 L5 xa xn xc T none 0 0 []) (fun v _ => xn - (intOf v).toNat)
              case atStart => exact ⟨0, by omega, rfl, HX5.out⟩
              case round =>
                clear HX5
                obtain ⟨i, hi, rfl, hk⟩ := hrel
                have hpx := hk.rows.1
                by_cases hlt : i < xn
                · have kk : (i : Int) < (xn : Int) := by omega
                  have hxl := hpx.len
                  obtain ⟨xb, xo, rfl, _, _, hc⟩ := hpx.at (by omega)
                  have hp : T[i]? = some T[i] := List.getElem?_eq_getElem (by omega)
                  obtain ⟨⟨p1, p2⟩, hpe⟩ : ∃ p, T[i]'(by omega) = p := ⟨_, rfl⟩
                  rw [hpe] at hp
                  obtain ⟨c1, c2⟩ := hc i _ hp
                  simp only at c1 c2
                  obtain ⟨gm1, gm2⟩ := get_mem HF.out.1 (List.mem_of_getElem? hp)
                  simp only at gm1 gm2
                  have hmy := HF.out.2.1 _ (List.mem_of_getElem? hp)
                  have HG5 := wh_get hk HTT.out p1
                  rw [gm1, gm2, Option.getD_some] at HG5
                  have HP : Hid (T[i]? = some (p1, p2)) := hp
                  have HMY : Hid (∀ W, Calls Tryz.prog 33 #[.string p1, .string p2] W fun e w' => e = .returned (.bool true) ∧ w' = W) := fun W => by
                    have h1 := may_any p1 p2 (by have := hmy.2.1; simp only at this; omega) (by have := hmy.2.2; simp only at this; omega) W
                    rw [decide_eq_true hmy] at h1
                    exact h1
                  clear hc hp hpe gm1 gm2 hk hpx hmy
                  go_wp2_with fail
                  refine HG5.mono ?_
                  rintro e V7 ⟨rfl, hk7⟩
                  have hpx7 := hk7.rows.1
                  obtain ⟨xb', xo', hxe, _, _, hc⟩ := hpx7.at (by omega)
                  cases hxe
                  obtain ⟨c1, c2⟩ := hc i _ HP.out
                  simp only at c1 c2
                  have HE : Hid (Wh w V7 S6 g D1 sb2 jb n L5 L5 (some ⟨xb, xo, none⟩) xn xc T none 0 0 []) := hk7
                  by_cases h0 : i = 0
                  · have k0 : decide ((0 : Int) < (i : Int)) = false := decide_eq_false (by omega)
                    have k0n : decide (0 < i) = false := decide_eq_false (by omega)
                    have HI0 : Hid (i = 0) := h0
                    clear h0 hc HG5 hk7 hpx7
                    go_wp2
                    go_quiet ((go_at_call 33; refine Calls.quiet_of_same (HMY.out _)))
                    go_wp2
                    exact ⟨⟨i + 1, by omega, by go_num, HE.out.below (below_drewN (Below.refl _ _) _)⟩, by simp [intOf]; omega⟩
                  · have k0 : decide ((0 : Int) < (i : Int)) = true := decide_eq_true (by omega)
                    have k0n : decide (0 < i) = true := decide_eq_true (by omega)
                    obtain ⟨i', hi'⟩ : ∃ i', i = i' + 1 := ⟨i - 1, by omega⟩
                    have ki : (i : Int) - 1 = (i' : Int) := by omega
                    have ki2 : (i' : Int) < (xn : Int) := by omega
                    have hq1 : T[i']? = some T[i'] := List.getElem?_eq_getElem (by omega)
                    obtain ⟨⟨q1, q2⟩, hqe⟩ : ∃ p, T[i']'(by omega) = p := ⟨_, rfl⟩
                    rw [hqe] at hq1
                    obtain ⟨b1, b2⟩ := hc i' _ hq1
                    simp only at b1 b2
                    have hge : Op.bytesLess q1.toList p1.toList = true := by
                      have h5 := HP.out
                      have h6 := List.pairwise_iff_getElem.1 HF.out.1 i' i (by omega) (by omega) (by omega)
                      rw [hqe] at h6
                      rw [List.getElem?_eq_getElem (by omega)] at h5
                      rw [Option.some.inj h5] at h6
                      exact h6
                    have HII : Hid (i = i' + 1) := hi'
                    clear h0 hc HG5 hk7 hpx7 hq1 hqe hi'
                    go_wp2
                    go_quiet ((go_at_call 33; refine Calls.quiet_of_same (HMY.out _)))
                    go_wp2
                    exact ⟨⟨i + 1, by omega, by go_num, HE.out.below (below_drewN (Below.refl _ _) _)⟩, by simp [intOf]; omega⟩
                · have kk : ¬ (i : Int) < (xn : Int) := by omega
                  have hxl := hpx.len
                  have HFA := fail_m (w0 := w) hk.disk.1 none 0 0 [] (Bls.nil w) hk.on hk.disk.2
                  have HK : Hid (Wh w wr S6 g D1 sb2 jb n L5 L5 xa xn xc T none 0 0 []) := hk
                  clear hk hpx
                  go_wp2_with fail
                  refine HFA.mono ?_
                  rintro e V8 ⟨rfl, hm8⟩
                  obtain ⟨S8, hw8⟩ := HK.out.mut hm8
                  have HOF := wh_off hw8 rfl
                  clear HFA hm8 hw8 HK
                  go_wp2_with fail
                  refine HOF.mono ?_
                  rintro e V9 ⟨rfl, hw9⟩
                  have HLN := wh_len hw9 HTT.out
                  rw [hxl] at HLN
                  clear HOF hw9
                  go_wp2_with fail
                  refine HLN.mono ?_
                  rintro e VA ⟨rfl, hwA⟩
                  have HLV := lives_h hwA.on
                  clear HLN hwA
                  go_wp2_with fail
                  refine HLV.mono ?_
                  rintro e Z ⟨rfl, hbz⟩
                  have HBZ : Hid (Below w.heap.size w Z) := hbz
                  clear HLV hbz
                  go_wp2
                  go_ret
                  exact ⟨rfl, HBZ.out⟩
            · have HLV := lives_h hb6
              clear HSO hb6
              go_wp2_with fail
              refine HLV.mono ?_
              rintro e Z ⟨rfl, hbz⟩
              have HBZ : Hid (Below w.heap.size w Z) := hbz
              clear HLV hbz
              go_wp2
              go_ret
              exact ⟨rfl, HBZ.out⟩

set_option linter.unusedVariables false in
set_option maxRecDepth 100000 in
theorem lifted (os : _root_.Go.Os) (started : os.Started) (H : Type) (enc : TypeId × Value → H) :
    ReturnsInHanded {} Tryz.checked os 6 .any (fun w args => (Rows.shelfReadsSpec.pre enc Tryz.prog Tryz.f6 Rows.shelfReadsRow.domain false w args ∧ laidMetH Tryz.prog Rows.shelfReadsRow.laid w) ∧ sizedMet enc Tryz.prog Tryz.f6 (OpenSpec.ofChange Rows.shelfReadsSpec) false w args) (Rows.shelfReadsSpec.post enc Tryz.prog Tryz.f6 false true false false) := by
  refine returnsInHanded_of_change_and (C := Tryz.checked) (X := fun w _ => laidMetH Tryz.prog Rows.shelfReadsRow.laid w) (fun _ _ _ hh h => h.of_heap hh) own started (by kernel_rfl) Tryz.func6
    (ChangeSpec.witness_shaped (enc := enc) (C := Tryz.checked) (os := os) (X := fun w _ => laidMetH Tryz.prog Rows.shelfReadsRow.laid w) false (World.laidAll Tryz.prog os Rows.shelfReadsRow.laid) #[.int .i64 0, .slice none 0 0] 8 (World.laidAll_os _ _ _)
      (World.shaped_of_ZipB (by kernel_rfl) (by kernel_rfl)) (by kernel_rfl) (by kernel_rfl) (by kernel_rfl)
      (by rw [MakeChecks.laidMetH_plain _ _ _ (by kernel_rfl)]; exact laidMet_laidAll _ (by kernel_rfl) (by kernel_rfl))) ?_
  intro W base args ds gs before hval0 hW _ hsz0 hL _
  have hval : ∀ (j : Nat) t v, Tryz.f6.params[j]? = some t → args[j]? = some v → Value.okWide Tryz.prog W .any base t v := hval0
  have hsz : (DataW.weightsEach Tryz.prog (Tryz.f6.params.toList ++ Rows.shelfReadsSpec.plain.varTypes Tryz.prog) (ds ++ gs)).all (· ≤ reachBytes) = true := hsz0
  have hW' := hW
  obtain ⟨p, q, hA0, hV, rfl, hfz, hnd⟩ := hW
  have hA : DataW.TrodAll enc Tryz.prog W 0 (fun _ => true) true Tryz.f6.params.toList args.toList ds p := hA0
  rw [Tryz.params6] at hA hval hsz
  obtain ⟨v0, vs0, d0, ds0, p0, q0, hargs, rfl, rfl, h0, r0⟩ := trodAll_cons hA
  obtain ⟨v1, vs1, d1, ds1, p1, q1, rfl, rfl, rfl, h1, r1⟩ := trodAll_cons r0
  obtain ⟨rfl, rfl, rfl⟩ := trodAll_nil r1
  obtain rfl : args = #[v0, v1] := by cases args; simp_all
  obtain ⟨rfl, rfl⟩ := trodVars_none hV
  obtain ⟨x0, rfl, rfl, rfl, w0⟩ := open_int Tryz.underlying3 (hval 0 3 v0 rfl rfl) h0
  have k1 := h1
  have lt1 : ∀ x ∈ p1, x.block < W.heap.size := by obtain ⟨m, hm⟩ := k1; exact DataW.trod_lt m _ _ _ hm
  obtain ⟨a1, len1, cap1, rfl⟩ := okWide_slice Tryz.underlying65 (hval 1 65 v1 rfl rfl)
  have w1 : Bss W a1 len1 cap1 := by
    obtain ⟨fuel, hf⟩ := h1
    exact bss_of (by simpa [Value.cells] using hf)
  clear hA0 hval0 hsz hsz0
  refine (walk x0 (wf_i64 w0) a1 len1 cap1 W w1).mono fun e W' ⟨he, bel⟩ => ?_
  subst he
  exact ⟨_, rfl, _, _, _, [], _, [], hW', trodAll_mk1 (shut_bool Tryz.underlying4 _), (trodAll_cons_mk (shut_int Tryz.underlying3 w0) (trodAll_cons_mk (Below.trod laidOut (by kernel_rfl) (of_decide_eq_true (by kernel_rfl)) k1 bel lt1) trodAll_mk0)), rfl, bel.frame _, fun h => by cases h⟩

theorem over : Rows.shelfReadsRow.holds Tryz.pinned (OpenSpec.ofChange Rows.shelfReadsSpec) :=
  OpenClaim.holds_of_wide 6 Tryz.f6 rfl rfl rfl rfl rfl rfl rfl ⟨rfl, rfl, rfl, rfl, rfl⟩ rfl rfl rfl rfl rfl (by kernel_rfl) Tryz.func6 (by kernel_rfl)
    (of_decide_eq_true (by kernel_rfl)) (by unfold Func.isWrapper; first | (rw [if_pos (by decide +kernel)]; kernel_rfl) | (rw [if_neg (by decide +kernel)]; exact ⟨rfl, rfl⟩))
    (fun os started H enc _ => lifted os started H enc)

end Go.Proofs.YtnafalkcgghjgaaGreatDoor.shelfReads
namespace Go.Proofs.YtnafalkcgghjgaaGreatDoor
/-- The given statement. -/
theorem shelfReads_holds : Rows.ShelfReadsCardSaid :=
  Claim7.holds_tied_plain_at .later [] [.data, .pinned] true (true, "6fd85e21264fb8f5d6a7739dc9528525e97b2eb9f19e70d35414b6e16557796b") false
    shelfReads.over (fun _ h => by cases h) (by kernel_rfl) (fun _ h => by cases h) shelfReads_row_tie rfl ⟨rfl, rfl⟩ (by kernel_rfl) rfl
    (fun f fn hf hfn => by
      obtain rfl : f = 6 := Option.some.inj ((show Tryz.prog.funcNamed "strongroom/strongroomlaw08.ShelfReads" = some 6 by kernel_rfl).symm.trans hf) |>.symm
      obtain rfl : fn = Tryz.f6 := (Option.some.inj (Tryz.func6.symm.trans hfn)).symm
      exact ⟨by kernel_rfl, fun j t ht => by
        rw [Tryz.params6] at ht
        rcases j with _ | _ | j
        · obtain rfl : t = 3 := by simpa using ht.symm
          exact (show Tryz.prog.wantsStandIn 3 = false by kernel_rfl)
        · obtain rfl : t = 65 := by simpa using ht.symm
          exact (show Tryz.prog.wantsStandIn 65 = false by kernel_rfl)
        · simp at ht
      ⟩)
    (by kernel_rfl)
#print axioms shelfReads_holds
end Go.Proofs.YtnafalkcgghjgaaGreatDoor
