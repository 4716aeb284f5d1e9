/- Proved: for every number of pages and steps, the law JournalPlays returns true, both as they were. No condition: every input that can be read as data. -/
import Derived.Test.YtaacedaehbaodaaGreatRows
import Derived.Test.YtaacedaehbaodaaGreatYI
import Derived.WalkKit
import Derived.ProofKit
import Derived.OpenShut
import Derived.ShutString
import Derived.ChangeOld
import Derived.Below
namespace Go.Proofs.YtaacedaehbaodaaGreat.journalPlays
open Go.ChangeShapes Go.WideShapes Go.ChangeAt Go.RowKit
theorem own : ownKnob Tryz.prog.godebug = none := by kernel_rfl
theorem laidOut : laidOutB Tryz.prog = true := by kernel_rfl

set_option maxRecDepth 100000 in
set_option maxHeartbeats 40000000 in
theorem walk (x0 : Int) (_z0 : -9223372036854775808 ≤ x0 ∧ x0 ≤ 9223372036854775807) (a1 : Option Addr) (len1 cap1 : Nat) (l1 : List OpV) (w : World) (w1 : Os w a1 len1 cap1 l1) :
    Calls Tryz.prog 3 #[.int .i64 x0, .slice a1 len1 cap1] w fun e w' => e = .returned (.bool true) ∧ Below w.heap.size w w' := by
  have HLV : Hid (∀ W, Below w.heap.size w W → Calls Tryz.prog 4 #[] W fun e w' => e = .returned (.bool true) ∧ Below w.heap.size w w') := fun W hW => lives_h hW
  have HOS : Hid (Os w a1 len1 cap1 l1) := w1
  clear w1
  by_cases hx1 : x0 < 1
  · go_enter Tryz.func3, Tryz.ntmps3
    go_wp2_with fail
    refine (HLV.out _ (Below.refl _ _)).mono ?_
    rintro e w9 ⟨rfl, hb9⟩
    go_wp2
    go_ret
    exact ⟨rfl, hb9⟩
  by_cases hx6 : 6 < x0
  · go_enter Tryz.func3, Tryz.ntmps3
    go_wp2_with fail
    refine (HLV.out _ (Below.refl _ _)).mono ?_
    rintro e w9 ⟨rfl, hb9⟩
    go_wp2
    go_ret
    exact ⟨rfl, hb9⟩
  obtain ⟨n, rfl⟩ := Int.eq_ofNat_of_zero_le (show 0 ≤ x0 by omega)
  have hn1 : 1 ≤ n := by omega
  have hn6 : n ≤ 6 := by omega
  have RN : Hid (∀ W, Calls Tryz.prog 6 #[.int .i64 (n : Int)] W fun e w' => e = .returned (.int .i64 ((8 * n + 1 : Nat) : Int)) ∧ w' = W) := fun W => by
    have := rneed_any (n : Int) W
    rw [show needN (n : Int) = 8 * n + 1 by unfold needN; rw [if_neg (by omega)]; omega] at this
    exact this
  have HNW := new_any (8 * n + 1) w (by omega) (by omega)
  have HRW : Hid (∀ W, Calls Tryz.prog 7 #[.int .i64 ((8 * n + 1 : Nat) : Int)] W fun e w' => ∃ lb lc, e = .returned (.tuple #[.agg (rcells lb lc none 0 (Dk.new (8 * n + 1) nought)), .bool true]) ∧ W.heap.size ≤ lb ∧ RefAt w' lb lc none 0 (Dk.new (8 * n + 1) nought) ∧ Below W.heap.size W w') := fun W => rnew_any (8 * n + 1) W (by omega) (by omega)
  obtain ⟨nd, hnd⟩ : ∃ nd : Int, ((8 * n + 1 : Nat) : Int) = nd := ⟨_, rfl⟩
  rw [hnd] at RN HNW HRW
  have HIV : Hid (Inv n (Dk.new (8 * n + 1) nought) ∧ (Dk.new (8 * n + 1) nought).writes ≤ 0) := ⟨Inv.new n, Nat.le_refl 0⟩
  have HRC : Hid (recS n (Dk.new (8 * n + 1) nought).kept = [] ∧ (Dk.new (8 * n + 1) nought).up = true ∧ (Dk.new (8 * n + 1) nought).waits = []) := ⟨new_open n, rfl, rfl⟩
  obtain ⟨D, hD⟩ : ∃ D, Dk.new (8 * n + 1) nought = D := ⟨_, rfl⟩
  rw [hD] at HNW HRW HIV HRC
  clear hD hnd hx1 hx6
  go_enter Tryz.func3, Tryz.ntmps3
  have kx1 : ¬ (n : Int) < 1 := by omega
  have kx6 : ¬ 6 < (n : Int) := by omega
  go_wp2_with fail
  refine (RN.out _).mono ?_
  rintro e V1 ⟨rfl, hV⟩
  subst V1
  go_wp2_with fail
  refine HNW.mono ?_
  rintro e w2 ⟨g, rfl, hd2, hb2⟩
  clear HNW
  have HD2 : Hid (DiskIs w2 (fresh w w2) g D ∧ Below w.heap.size w w2) := ⟨hd2, hb2⟩
  clear hd2 hb2
  go_wp2_with fail
  refine (RN.out _).mono ?_
  rintro e V1 ⟨rfl, hV⟩
  subst V1
  go_wp2_with fail
  refine (HRW.out w2).mono ?_
  rintro e w3 ⟨lb, lc, rfl, hlb, hr3, hb3⟩
  have HR3 : Hid (w2.heap.size ≤ lb ∧ RefAt w3 lb lc none 0 D ∧ Below w2.heap.size w2 w3) := ⟨hlb, hr3, hb3⟩
  clear hlb hr3 hb3 HRW
  unfold rcells
  obtain ⟨xb, hxb⟩ : ∃ xb, w3.heap.size = xb := ⟨_, rfl⟩
  obtain ⟨W, hW⟩ : ∃ W, w3.alloc (.cells #[.slice (some ⟨lb, 0, none⟩) D.kept.length lc, .slice none D.waits.length 0, .int .i64 (D.fuse : Int), .int .i64 (D.writes : Int), .bool (!D.up)] 32) = W := ⟨_, rfl⟩
  have hbW : Below w2.heap.size w2 W := HR3.out.2.2.trans (by rw [← hW]; exact (Below.refl _ w3).alloc HR3.out.2.2.size _)
  have HO : Calls Tryz.prog 8 #[.pointer (some ⟨g, 0, none⟩), .int .i64 (n : Int)] W fun e w' => e = .returned (.tuple #[.pointer (some ⟨W.heap.size, 0, none⟩), .int .i64 0]) ∧ Jat w' W.heap.size g n ∧ ∃ S', DiskIs w' S' g D ∧ Upd (fresh w w2) W w' ∧ (∀ x, S' x → fresh w w2 x ∨ W.heap.size ≤ x) ∧ ¬ S' W.heap.size := by
    have h := open_any (HD2.out.1.below hbW) hn1 (by omega) (by rw [HIV.out.1.ln]; omega) HRC.out.2.1 HRC.out.2.2 HIV.out.1.sz.k (by have := HIV.out.2; omega)
    rw [HRC.out.1, show codeS D [] = 0 from rfl, show runS D [] = D from rfl, if_pos rfl] at h
    exact h
  clear hbW
  go_wp2_with fail
  try simp only [hxb, hW]
  refine HO.mono ?_
  rintro e V5 ⟨rfl, hj5, S5, hd5, hu5, hs5, hn5⟩
  have HI : Hid (Pl w n xb g W.heap.size lb lc none 0 D V5) := by
    rw [← hxb]
    exact Pl.new HD2.out.2 HR3.out.1 HR3.out.2.1 HR3.out.2.2 hW hj5 hd5 hu5 hs5 hn5
  obtain ⟨jb, hjb⟩ : ∃ jb, W.heap.size = jb := ⟨_, rfl⟩
  rw [hjb] at HI
  rw [hjb]
  clear HO hj5 hd5 hu5 hs5 hn5 hjb hW hxb HD2 HR3 HRC RN
  go_wp2
  go_loopw [9, 11] (fun jv v wr => ∃ (i jb lb lc : Nat) (wa : Option Addr) (wc : Nat) (D : Dk), i ≤ len1 ∧ i ≤ 30 ∧ jv = .pointer (some ⟨jb, 0, none⟩) ∧ v = .int .i64 i ∧ Inv n D ∧ D.writes ≤ 140 * i ∧ Pl w n xb g jb lb lc wa wc D wr) (fun _ v _ => 31 - (intOf v).toNat)
  case atStart => exact ⟨0, jb, lb, lc, none, 0, D, by omega, by omega, rfl, rfl, HIV.out.1, HIV.out.2, HI.out⟩
  case round =>
    clear HI HIV
    obtain ⟨i, jb, lb, lc, wa, wc, D, hi1, hi2, rfl, rfl, hiv, hwi, hp⟩ := hrel
    have HIV : Hid (Inv n D ∧ D.writes ≤ 140 * i) := ⟨hiv, hwi⟩
    have HP : Hid (Pl w n xb g jb lb lc wa wc D wr) := hp
    clear hiv hwi hp
    by_cases hgo : i < len1 ∧ i < 30
    · have k1 : (i : Int) < (len1 : Int) := by omega
      have k2 : (i : Int) < 30 := by omega
      have hml := HOS.out.1
      have hil : i < l1.length := by omega
      obtain ⟨b, oo, rfl, hbl, hc⟩ := HOS.out.2.2.2 (by omega)
      have hci := hc i hil
      obtain ⟨⟨kd, nn, p, pl, pc, ps, q, ql, qc, bs⟩, ho⟩ : ∃ o, l1[i] = o := ⟨_, rfl⟩
      rw [ho] at hci
      obtain ⟨d0, d1, d2, d3, d5⟩ := hci
      simp only at d0 d1 d2 d3
      have HIN : Hid ((-9223372036854775808 ≤ nn ∧ nn ≤ 9223372036854775807) ∧ Ps w p pl pc ps ∧ Bls w q ql qc bs) := ⟨⟨d5.n1, d5.n2⟩, d5.p, d5.q⟩
      have e0 : wr.cell? ⟨b, oo + i * 4, none⟩ = some (.int .i64 kd) := by rw [HP.out.bl.cell hbl]; exact d0
      have e1 : wr.cell? ⟨b, oo + i * 4 + 1, none⟩ = some (.int .i64 nn) := by rw [HP.out.bl.cell hbl]; exact d1
      have e2 : wr.cell? ⟨b, oo + i * 4 + 2, none⟩ = some (.slice p pl pc) := by rw [HP.out.bl.cell hbl]; exact d2
      have e3 : wr.cell? ⟨b, oo + i * 4 + 3, none⟩ = some (.slice q ql qc) := by rw [HP.out.bl.cell hbl]; exact d3
      obtain ⟨V0, hV0⟩ : ∃ V0, wr.alloc (.cells #[.int .i64 kd, .int .i64 nn, .slice p pl pc, .slice q ql qc] 41) = V0 := ⟨_, rfl⟩
      obtain ⟨xo, hxo⟩ : ∃ xo, wr.heap.size = xo := ⟨_, rfl⟩
      obtain ⟨S, hst⟩ := HP.out.st #[.int .i64 kd, .int .i64 nn, .slice p pl pc, .slice q ql qc]
      rw [hV0, hxo] at hst
      have HLI := light_any kd nn p pl pc q ql qc V0
      have f0 : V0.cell? ⟨xo, 0, none⟩ = some (.int .i64 kd) := hst.op.1
      have f1 : V0.cell? ⟨xo, 1, none⟩ = some (.int .i64 nn) := hst.op.2.1
      have f2 : V0.cell? ⟨xo, 2, none⟩ = some (.slice p pl pc) := hst.op.2.2.1
      have f3 : V0.cell? ⟨xo, 3, none⟩ = some (.slice q ql qc) := hst.op.2.2.2
      obtain ⟨kl, hkl⟩ : ∃ kl, D.kept.length = kl := ⟨_, rfl⟩
      obtain ⟨wl, hwl⟩ : ∃ wl, D.waits.length = wl := ⟨_, rfl⟩
      obtain ⟨dn, hdn⟩ : ∃ dn, (!D.up) = dn := ⟨_, rfl⟩
      obtain ⟨fs, hfs⟩ : ∃ fs, (D.fuse : Int) = fs := ⟨_, rfl⟩
      obtain ⟨ws, hws⟩ : ∃ ws, (D.writes : Int) = ws := ⟨_, rfl⟩
      have HQ : Hid (D.kept.length = kl ∧ D.waits.length = wl ∧ (!D.up) = dn ∧ (D.fuse : Int) = fs ∧ (D.writes : Int) = ws) := ⟨hkl, hwl, hdn, hfs, hws⟩
      have HRC : Hid (rcells lb lc wa wc D = #[.slice (some ⟨lb, 0, none⟩) kl lc, .slice wa wl wc, .int .i64 fs, .int .i64 ws, .bool dn]) := by
        show _ = _
        unfold rcells
        rw [hkl, hwl, hdn, hfs, hws]
      have HST : Hid (St w n xb xo (.cells #[.int .i64 kd, .int .i64 nn, .slice p pl pc, .slice q ql qc] 41 (0, 0)) S g jb D lb lc wa wc D #[.slice (some ⟨lb, 0, none⟩) kl lc, .slice wa wl wc, .int .i64 fs, .int .i64 ws, .bool dn] V0) := by
        rw [← HRC.out]; exact hst
      clear hc hgo ho d0 d1 d2 d3 d5 hst hkl hwl hdn hfs hws HOS hml hil hbl
      by_cases hli : ql ≤ 300 ∧ pl ≤ 100
      · rw [decide_eq_true hli] at HLI
        clear hli
        go_wp2_with fail
        try simp only [hxo, hV0]
        refine HLI.mono ?_
        rintro e V1 ⟨rfl, hb1⟩
        have HS1 : Hid (St w n xb xo (.cells #[.int .i64 kd, .int .i64 nn, .slice p pl pc, .slice q ql qc] 41 (0, 0)) S g jb D lb lc wa wc D #[.slice (some ⟨lb, 0, none⟩) kl lc, .slice wa wl wc, .int .i64 fs, .int .i64 ws, .bool dn] V1) := HST.out.keep hb1
        clear HLI hb1 HST HP e0 e1 e2 e3 f0 f1 f2 f3 hV0 hxo
        by_cases hk0 : kd = 0
        · subst hk0
          have HCH := changes_any p pl pc ps (HIN.out.2.1.below HS1.out.bl)
          obtain ⟨m, hm⟩ : ∃ m, min pl 12 = m := ⟨_, rfl⟩
          obtain ⟨L, hL⟩ : ∃ L, chL (ps.take 12) = L := ⟨_, rfl⟩
          have hLm : L.length = m := by
            have := HIN.out.2.1.1
            rw [← hL, ← hm]
            unfold chL
            rw [List.length_map, List.length_take]
            omega
          have hm12 : m ≤ 12 := by omega
          rw [hm, hL] at HCH
          have HLM : Hid (L.length = m) := hLm
          obtain ⟨c0, c1, c2, c3⟩ := HS1.out.op
          have hx1b : xb < V1.heap.size := lt_of_some HS1.out.hx
          clear hm hL hLm
          go_wp2_with fail
          refine HCH.mono ?_
          rintro e V2 ⟨x1, v1, x2, v2, rfl, ho1, ho2, hb2⟩
          have HS2 : Hid (St w n xb xo (.cells #[.int .i64 0, .int .i64 nn, .slice p pl pc, .slice q ql qc] 41 (0, 0)) S g jb D lb lc wa wc D #[.slice (some ⟨lb, 0, none⟩) kl lc, .slice wa wl wc, .int .i64 fs, .int .i64 ws, .bool dn] V2) := HS1.out.keep hb2
          have HC2 : Hid (Ci V2 x1 m v1 L ∧ (∀ x, ob x1 = some x → x < V2.heap.size ∧ xb < x) ∧ Ci V2 x2 m v2 L) := ⟨Ci.own ho1 HLM.out, fun x hx => by have h := ho1.lt x (by rw [ob_slice]; exact hx); exact ⟨h.2, by omega⟩, Ci.own ho2 HLM.out⟩
          have HWY := why_any n x2 m v2 L HC2.out.2.2
          obtain ⟨ck, hck⟩ : ∃ ck, chk n L = ck := ⟨_, rfl⟩
          rw [hck] at HWY
          have HCK0 : Hid (chk n L = ck) := hck
          clear HCH ho1 ho2 hb2 HS1 c0 c1 c2 c3 hx1b hck
          go_wp2_with fail
          refine HWY.mono ?_
          rintro e V3 ⟨rfl, hb3⟩
          have HS3 : Hid (St w n xb xo (.cells #[.int .i64 0, .int .i64 nn, .slice p pl pc, .slice q ql qc] 41 (0, 0)) S g jb D lb lc wa wc D #[.slice (some ⟨lb, 0, none⟩) kl lc, .slice wa wl wc, .int .i64 fs, .int .i64 ws, .bool dn] V3) := HS2.out.keep hb3
          have HC3 : Hid (Ci V3 x1 m v1 L ∧ (∀ x, ob x1 = some x → x < V3.heap.size) ∧ Ci V3 x2 m v2 L) := ⟨HC2.out.1.below hb3, fun x hx => Nat.lt_of_lt_of_le (HC2.out.2.1 x hx).1 hb3.size, HC2.out.2.2.below hb3⟩
          have HCK : Hid (∀ V5, Below V3.heap.size V3 V5 → ∀ V6 u0 u1 u2 u3 u4, (((((V5.setCell ⟨xb, 0, none⟩ u0).setCell ⟨xb, 1, none⟩ u1).setCell ⟨xb, 2, none⟩ u2).setCell ⟨xb, 3, none⟩ u3).setCell ⟨xb, 4, none⟩ u4) = V6 → Ci V6 x1 m v1 L ∧ ∀ x, ob x1 = some x → x < V6.heap.size) := by
            intro V5 hV5 V6 u0 u1 u2 u3 u4 hV6
            subst hV6
            have hsz := hV5.size
            have hs6 := (five_below V5 xb u0 u1 u2 u3 u4).size
            refine ⟨HC3.out.1.keep ?_ (fun x hx hl => ?_), fun x hx => ?_⟩
            · exact Nat.le_trans hsz hs6
            · rw [five_other _ _ _ _ _ _ _ _ (by have := (HC2.out.2.1 x hx).2; omega)]
              exact hV5.block x hl
            · exact Nat.lt_of_lt_of_le (HC3.out.2.1 x hx) (Nat.le_trans hsz hs6)
          obtain ⟨y0, y1, y2, y3, y4, y5⟩ := row_at HS3.out.hx
          obtain ⟨D', hD'⟩ : ∃ D', comDisk n D L = D' := ⟨_, rfl⟩
          obtain ⟨cc, hcc⟩ : ∃ cc, comCode n D L = cc := ⟨_, rfl⟩
          have HNV : Hid (Inv n D' ∧ D'.writes ≤ 140 * (i + 1)) := by
            rw [← hD']
            exact ⟨HIV.out.1.com (by omega) L, by have h1 := com_writes (n := n) (D := D) L (by have := HLM.out; omega); have := HIV.out.2; omega⟩
          have HCC : Hid (comCode n D L = cc ∧ comDisk n D L = D') := ⟨hcc, hD'⟩
          have HCM : Hid (∀ (V : World) (S : Nat → Prop) (lb lc : Nat) (wa : Option Addr) (wc : Nat) (Dr : Dk) (xv : Array Value), St w n xb xo (.cells #[.int .i64 0, .int .i64 nn, .slice p pl pc, .slice q ql qc] 41 (0, 0)) S g jb D lb lc wa wc Dr xv V → Ci V x1 m v1 L → (∀ x, ob x1 = some x → x < V.heap.size) → Calls Tryz.prog 14 #[.pointer (some ⟨jb, 0, none⟩), .slice x1 m v1] V fun e w' => e = .returned (.int .i64 (cc : Int)) ∧ Mut S V g D' w') := by
            intro V S lb lc wa wc Dr xv hs hC hab
            have h := commit_any hs.d hs.j hs.sj (by omega) (by rw [HIV.out.1.ln]; omega) x1 m v1 L hC hab (by omega) (by have := HIV.out.2; omega)
            rw [HCC.out.1, HCC.out.2] at h
            exact h
          clear HWY hb3 HS2 hcc hD'
          by_cases h0 : ck = 0
          · subst h0
            by_cases hu : D.up = true
            · obtain rfl : dn = false := by rw [← HQ.out.2.2.1, hu]; rfl
              by_cases hm0 : m = 0
              · subst hm0
                have HEQ : Hid (cc = 0 ∧ D' = D) := by
                  have hl : L = [] := List.eq_nil_of_length_eq_zero HLM.out
                  have hcs : comSteps n L = [] := by unfold comSteps; rw [if_pos hl]
                  refine ⟨HCC.out.1.symm.trans ?_, HCC.out.2.symm.trans ?_⟩
                  · unfold comCode
                    rw [if_pos HCK0.out, if_pos hu, hcs]
                    first | done | rfl
                  · unfold comDisk
                    rw [if_pos ⟨HCK0.out, hu⟩, hcs]
                    first | done | rfl
                clear hu
                have HPF := HCM.out V3 S lb lc wa wc D #[.slice (some ⟨lb, 0, none⟩) kl lc, .slice wa wl wc, .int .i64 fs, .int .i64 ws, .bool false] HS3.out HC3.out.1 HC3.out.2.1
                rw [HEQ.out.1, HEQ.out.2] at HPF
                rw [HEQ.out.2] at HNV
                go_wp2_with fail
                refine HPF.mono ?_
                rintro e V4 ⟨rfl, hm⟩
                obtain ⟨S9, hst9⟩ := HS3.out.mut hm
                have HSF : Hid (St w n xb xo (.cells #[.int .i64 0, .int .i64 nn, .slice p pl pc, .slice q ql qc] 41 (0, 0)) S9 g jb D lb lc wa wc D #[.slice (some ⟨lb, 0, none⟩) kl lc, .slice wa wl wc, .int .i64 fs, .int .i64 ws, .bool false] V4) := hst9
                clear hst9 hm HS3 HPF y0 y1 y2 y3 y4 y5
                have HAL := same_any HSF.out.d HSF.out.r
                rw [HQ.out.1, HQ.out.2.1, HQ.out.2.2.1, HQ.out.2.2.2.1, HQ.out.2.2.2.2] at HAL
                obtain ⟨g0, g1, g2, g3, g4, _⟩ := row_at HSF.out.hx
                go_wp2_with fail
                refine HAL.mono ?_
                rintro e V99 ⟨rfl, hb99⟩
                have HP9 : Hid (Pl w n xb g jb lb lc wa wc D V99) := by
                  have h := HSF.out
                  rw [← HRC.out] at h
                  exact (h.keep hb99).pl
                clear HAL hb99 HSF g0 g1 g2 g3 g4
                go_wp2
                exact ⟨⟨i + 1, jb, lb, lc, wa, wc, D, by omega, by omega, rfl, by go_num, HNV.out.1, HNV.out.2, HP9.out⟩, by simp [intOf]; omega⟩
              · have HXS : Hid (runS D (commitS n (srtC L) (markOf (pagesL L))) = D' ∧ codeS D (commitS n (srtC L) (markOf (pagesL L))) = cc ∧ (∀ q, some q ∈ (commitS n (srtC L) (markOf (pagesL L))) → q.1 < D.kept.length ∧ q.2.size = 256) ∧ D.writes + (commitS n (srtC L) (markOf (pagesL L))).length < 1000000) := by
                  have hl : ¬ L = [] := fun e => hm0 (by rw [← HLM.out, e]; rfl)
                  have hcs : comSteps n L = commitS n (srtC L) (markOf (pagesL L)) := by unfold comSteps; rw [if_neg hl]
                  refine ⟨?_, ?_, ?_, ?_⟩
                  · rw [← HCC.out.2]; unfold comDisk; rw [if_pos ⟨HCK0.out, hu⟩, hcs]
                  · rw [← HCC.out.1]; unfold comCode; rw [if_pos HCK0.out, if_pos hu, hcs]
                  · rw [HIV.out.1.ln]; exact com_ok (by omega) HCK0.out
                  · have h1 := comSteps_len n L
                    rw [hcs] at h1
                    have h2 := HLM.out
                    have h3 := HIV.out.2
                    omega
                have HCO := rcommit_any (w := V3.drew) x2 m v2 L (HC3.out.2.2.below (Below.refl _ V3).drew) n (by omega) HCK0.out (by omega)
                obtain ⟨XS, hXS⟩ : ∃ XS, commitS n (srtC L) (markOf (pagesL L)) = XS := ⟨_, rfl⟩
                rw [hXS] at HXS HCO
                have HRUN : Hid (∀ (V : World) (a : Option Addr) (len cap : Nat), St w n xb xo (.cells #[.int .i64 0, .int .i64 nn, .slice p pl pc, .slice q ql qc] 41 (0, 0)) S g jb D lb lc wa wc D #[.slice (some ⟨lb, 0, none⟩) kl lc, .slice wa wl wc, .int .i64 fs, .int .i64 ws, .bool false] V → Ci V a len cap (XS.map stC) → Calls Tryz.prog 12 #[.agg #[.slice (some ⟨lb, 0, none⟩) kl lc, .slice wa wl wc, .int .i64 fs, .int .i64 ws, .bool false], .slice a len cap] V fun e w' => ∃ lb' lc' wa' wc', e = .returned (.tuple #[.agg (rcells lb' lc' wa' wc' D'), .int .i64 (cc : Int)]) ∧ RefAt w' lb' lc' wa' wc' D' ∧ RefTo V w' lb wa lb' wa') := by
                  intro V a len cap hs hC
                  have h := rrun_any hs.r a len cap XS hC HXS.out.2.2.1 HXS.out.2.2.2
                  rw [HQ.out.1, HQ.out.2.1, HQ.out.2.2.1, HQ.out.2.2.2.1, HQ.out.2.2.2.2, HXS.out.1, HXS.out.2.1] at h
                  exact h
                have km : 0 < (m : Int) := by omega
                clear hu hXS
                go_wp2
                refine wp_region_held_drew (S := fun _ => True) (by kernel_rfl) (trivial) (fun hHeld => ?_)
                refine wpAnyH_take (i := 1) (v := ?vc1) rfl (by kernel_rfl) (by kernel_rfl) (by kernel_rfl) (fun _ _ _ h => h) (Or.inl ⟨by first | kernel_rfl | rfl, ?yc1⟩) hHeld ?rc1
                case yc1 => (intro W hSW; (try dsimp only at hSW); go_simp; (try with_reducible rfl))
                change wpAnyH _ _ _ _ _ _ _ (Act.put _ (some 136) _) _
                simp only [Act.put, List.setIfInBounds_toArray, List.set_cons_zero, List.set_cons_succ]
                refine wpAnyH_take (i := 2) (v := ?vc2) rfl (by kernel_rfl) (by kernel_rfl) (by kernel_rfl) (fun _ _ _ h => h) (Or.inl ⟨by first | kernel_rfl | rfl, ?yc2⟩) hHeld ?rc2
                case yc2 => (intro W hSW; (try dsimp only at hSW); go_simp; (try with_reducible rfl))
                change wpAnyH _ _ _ _ _ _ _ (Act.put _ (some 137) _) _
                simp only [Act.put, List.setIfInBounds_toArray, List.set_cons_zero, List.set_cons_succ]
                refine wpAnyH_ready (rs := [0, 3]) (by kernel_rfl) (by simp) ?_
                refine AllReadyH.cons rfl (fun K hK => ?_) (AllReadyH.cons rfl (fun K hK => ?_) AllReadyH.nil)
                · go_simp
                  refine hK.out _ _ (trivial) (fun hHeld => ?_)
                  clear hK K
                  try simp only [Act.put, List.setIfInBounds_toArray, List.set_cons_zero, List.set_cons_succ]
                  refine wpAnyH_ready (rs := [3]) (by kernel_rfl) (by simp) ?_
                  refine AllReadyH.cons rfl (fun K hK => ?_) AllReadyH.nil
                  go_simp
                  refine (HCO).mono ?_
                  rintro e V4 ⟨a4, k4, c4, rfl, hk4, ho4, hb4⟩; have HS4 : Hid (St w n xb xo (.cells #[.int .i64 0, .int .i64 nn, .slice p pl pc, .slice q ql qc] 41 (0, 0)) S g jb D lb lc wa wc D #[.slice (some ⟨lb, 0, none⟩) kl lc, .slice wa wl wc, .int .i64 fs, .int .i64 ws, .bool false] V4) := HS3.out.drew.keep hb4; have HB4 : Hid (Below V3.heap.size V3 V4) := (Below.refl V3.heap.size V3).drew.trans hb4; have HO4 : Hid (Ci V4 a4 k4 c4 (XS.map stC)) := Ci.own ho4 (by rw [List.length_map]; exact hk4.symm); clear hk4 ho4 hb4
                  refine hK.out _ _ (trivial) (fun hHeld => ?_)
                  clear hK K
                  try simp only [Act.put, List.setIfInBounds_toArray, List.set_cons_zero, List.set_cons_succ]
                  refine wpAnyH_ready (rs := [4]) (by kernel_rfl) (by simp) ?_
                  refine AllReadyH.cons rfl (fun K hK => ?_) AllReadyH.nil
                  go_simp
                  refine (HRUN.out _ _ _ _ HS4.out HO4.out).mono ?_
                  rintro e V5 ⟨lb', lc', wa', wc', rfl, hr5, ht5⟩; have HS5 : Hid (St w n xb xo (.cells #[.int .i64 0, .int .i64 nn, .slice p pl pc, .slice q ql qc] 41 (0, 0)) S g jb D lb' lc' wa' wc' D' #[.slice (some ⟨lb, 0, none⟩) kl lc, .slice wa wl wc, .int .i64 fs, .int .i64 ws, .bool false] V5) := HS4.out.ref hr5 ht5; have HB5 : Hid (Below V3.heap.size V3 V5) := HB4.out.trans (ht5.b.mono HB4.out.size); obtain ⟨z0, z1, z2, z3, z4, z5⟩ := row_at HS5.out.hx; clear hr5 ht5; unfold rcells
                  refine hK.out _ _ (trivial) (fun hHeld => ?_)
                  clear hK K
                  try simp only [Act.put, List.setIfInBounds_toArray, List.set_cons_zero, List.set_cons_succ]
                  refine wpAnyH_take (i := 5) (v := ?vca5) rfl (by kernel_rfl) (by kernel_rfl) (by kernel_rfl) (fun _ _ _ h => h) (Or.inl ⟨by first | kernel_rfl | rfl, ?yca5⟩) hHeld ?rca5
                  case yca5 => (intro W hSW; (try dsimp only at hSW); go_simp; (try with_reducible rfl))
                  change wpAnyH _ _ _ _ _ _ _ (Act.put _ (some 134) _) _
                  simp only [Act.put, List.setIfInBounds_toArray, List.set_cons_zero, List.set_cons_succ]
                  refine wpAnyH_take (i := 6) (v := ?vca6) rfl (by kernel_rfl) (by kernel_rfl) (by kernel_rfl) (fun _ _ _ h => h) (Or.inl ⟨by first | kernel_rfl | rfl, ?yca6⟩) hHeld ?rca6
                  case yca6 => (intro W hSW; (try dsimp only at hSW); go_simp; (try with_reducible rfl))
                  change wpAnyH _ _ _ _ _ _ _ (Act.put _ (some 140) _) _
                  simp only [Act.put, List.setIfInBounds_toArray, List.set_cons_zero, List.set_cons_succ]
                  refine wpAnyH_take (i := 7) (v := ?vca7) rfl (by kernel_rfl) (by kernel_rfl) (by kernel_rfl) (fun _ _ _ h => h) (Or.inl ⟨by first | kernel_rfl | rfl, ?yca7⟩) hHeld ?rca7
                  case yca7 => (intro W hSW; (try dsimp only at hSW); go_simp; (try with_reducible rfl))
                  change wpAnyH _ _ _ _ _ _ _ (Act.put _ (some 141) _) _
                  simp only [Act.put, List.setIfInBounds_toArray, List.set_cons_zero, List.set_cons_succ]
                  have HS6 : Hid (St w n xb xo (.cells #[.int .i64 0, .int .i64 nn, .slice p pl pc, .slice q ql qc] 41 (0, 0)) S g jb D lb' lc' wa' wc' D' #[.slice (some ⟨lb', 0, none⟩) D'.kept.length lc', .slice wa' D'.waits.length wc', .int .i64 (D'.fuse : Int), .int .i64 (D'.writes : Int), .bool (!D'.up)] (((((V5.setCell ⟨xb, 0, none⟩ (.slice (some ⟨lb', 0, none⟩) D'.kept.length lc')).setCell ⟨xb, 1, none⟩ (.slice wa' D'.waits.length wc')).setCell ⟨xb, 2, none⟩ (.int .i64 (D'.fuse : Int))).setCell ⟨xb, 3, none⟩ (.int .i64 (D'.writes : Int))).setCell ⟨xb, 4, none⟩ (.bool (!D'.up)))) := HS5.out.five _ _ _ _ _
                  obtain ⟨V6, hV6⟩ : ∃ V6, (((((V5.setCell ⟨xb, 0, none⟩ (.slice (some ⟨lb', 0, none⟩) D'.kept.length lc')).setCell ⟨xb, 1, none⟩ (.slice wa' D'.waits.length wc')).setCell ⟨xb, 2, none⟩ (.int .i64 (D'.fuse : Int))).setCell ⟨xb, 3, none⟩ (.int .i64 (D'.writes : Int))).setCell ⟨xb, 4, none⟩ (.bool (!D'.up))) = V6 := ⟨_, rfl⟩
                  have HC6 : Hid (Ci V6 x1 m v1 L ∧ ∀ x, ob x1 = some x → x < V6.heap.size) := HCK.out V5 HB5.out V6 _ _ _ _ _ hV6
                  rw [hV6] at HS6
                  refine wpAnyH_ready (rs := [8]) (by kernel_rfl) (by simp) ?_
                  refine AllReadyH.cons rfl (fun K hK => ?_) AllReadyH.nil
                  go_simp
                  try rw [hV6]
                  refine hK.out _ _ trivial (fun hHeld => ?_)
                  clear hK K
                  refine wpAnyH_take (i := 9) (v := ?vca9) rfl (by kernel_rfl) (by kernel_rfl) (by kernel_rfl) (fun _ _ _ h => h) (Or.inl ⟨by first | kernel_rfl | rfl, ?yca9⟩) hHeld ?rca9
                  case yca9 => (intro W hSW; (try dsimp only at hSW); go_simp; (try with_reducible rfl))
                  change wpAnyH _ _ _ _ _ _ _ (Act.put _ (some 15) _) _
                  simp only [Act.put, List.setIfInBounds_toArray, List.set_cons_zero, List.set_cons_succ]
                  refine wpAnyH_done (by kernel_rfl) ?_ _
                  clear hHeld HS5 HS4 HB4 HB5 z0 z1 z2 z3 z4 z5 y0 y1 y2 y3 y4 y5 hV6
                  have HPF := HCM.out V6 S lb' lc' wa' wc' D' _ HS6.out HC6.out.1 HC6.out.2
                  go_wp2_with fail
                  refine HPF.mono ?_
                  rintro e V7 ⟨rfl, hm⟩
                  obtain ⟨S9, hst9⟩ := HS6.out.mut hm
                  have HSF : Hid (St w n xb xo (.cells #[.int .i64 0, .int .i64 nn, .slice p pl pc, .slice q ql qc] 41 (0, 0)) S9 g jb D' lb' lc' wa' wc' D' (rcells lb' lc' wa' wc' D') V7) := hst9
                  clear hst9 hm HS6 HPF HC6
                  have HAL := same_any HSF.out.d HSF.out.r
                  have HX9 : Hid _ := HSF.out.hx
                  obtain ⟨g0, g1, g2, g3, g4, _⟩ := row_at HX9.out
                  go_wp2_with fail
                  refine HAL.mono ?_
                  rintro e V99 ⟨rfl, hb99⟩
                  have HP9 : Hid (Pl w n xb g jb lb' lc' wa' wc' D' V99) := (HSF.out.keep hb99).pl
                  clear HAL hb99 HSF HX9 g0 g1 g2 g3 g4
                  go_wp2
                  exact ⟨⟨i + 1, jb, lb', lc', wa', wc', D', by omega, by omega, rfl, by go_num, HNV.out.1, HNV.out.2, HP9.out⟩, by simp [intOf]; omega⟩
                · go_simp
                  refine (HCO).mono ?_
                  rintro e V4 ⟨a4, k4, c4, rfl, hk4, ho4, hb4⟩; have HS4 : Hid (St w n xb xo (.cells #[.int .i64 0, .int .i64 nn, .slice p pl pc, .slice q ql qc] 41 (0, 0)) S g jb D lb lc wa wc D #[.slice (some ⟨lb, 0, none⟩) kl lc, .slice wa wl wc, .int .i64 fs, .int .i64 ws, .bool false] V4) := HS3.out.drew.keep hb4; have HB4 : Hid (Below V3.heap.size V3 V4) := (Below.refl V3.heap.size V3).drew.trans hb4; have HO4 : Hid (Ci V4 a4 k4 c4 (XS.map stC)) := Ci.own ho4 (by rw [List.length_map]; exact hk4.symm); clear hk4 ho4 hb4
                  refine hK.out _ _ trivial (fun hHeld => ?_)
                  clear hK K
                  try simp only [Act.put, List.setIfInBounds_toArray, List.set_cons_zero, List.set_cons_succ]
                  obtain ⟨t0, t1, t2, t3, t4, t5⟩ := row_at HS4.out.hx
                  refine wpAnyH_ready (rs := [0]) (by kernel_rfl) (by simp) ?_
                  refine AllReadyH.cons rfl (fun K hK => ?_) AllReadyH.nil
                  go_simp
                  refine hK.out _ _ (trivial) (fun hHeld => ?_)
                  clear hK K
                  try simp only [Act.put, List.setIfInBounds_toArray, List.set_cons_zero, List.set_cons_succ]
                  clear t0 t1 t2 t3 t4 t5
                  refine wpAnyH_ready (rs := [4]) (by kernel_rfl) (by simp) ?_
                  refine AllReadyH.cons rfl (fun K hK => ?_) AllReadyH.nil
                  go_simp
                  refine (HRUN.out _ _ _ _ HS4.out HO4.out).mono ?_
                  rintro e V5 ⟨lb', lc', wa', wc', rfl, hr5, ht5⟩; have HS5 : Hid (St w n xb xo (.cells #[.int .i64 0, .int .i64 nn, .slice p pl pc, .slice q ql qc] 41 (0, 0)) S g jb D lb' lc' wa' wc' D' #[.slice (some ⟨lb, 0, none⟩) kl lc, .slice wa wl wc, .int .i64 fs, .int .i64 ws, .bool false] V5) := HS4.out.ref hr5 ht5; have HB5 : Hid (Below V3.heap.size V3 V5) := HB4.out.trans (ht5.b.mono HB4.out.size); obtain ⟨z0, z1, z2, z3, z4, z5⟩ := row_at HS5.out.hx; clear hr5 ht5; unfold rcells
                  refine hK.out _ _ (trivial) (fun hHeld => ?_)
                  clear hK K
                  try simp only [Act.put, List.setIfInBounds_toArray, List.set_cons_zero, List.set_cons_succ]
                  refine wpAnyH_take (i := 5) (v := ?vcb5) rfl (by kernel_rfl) (by kernel_rfl) (by kernel_rfl) (fun _ _ _ h => h) (Or.inl ⟨by first | kernel_rfl | rfl, ?ycb5⟩) hHeld ?rcb5
                  case ycb5 => (intro W hSW; (try dsimp only at hSW); go_simp; (try with_reducible rfl))
                  change wpAnyH _ _ _ _ _ _ _ (Act.put _ (some 134) _) _
                  simp only [Act.put, List.setIfInBounds_toArray, List.set_cons_zero, List.set_cons_succ]
                  refine wpAnyH_take (i := 6) (v := ?vcb6) rfl (by kernel_rfl) (by kernel_rfl) (by kernel_rfl) (fun _ _ _ h => h) (Or.inl ⟨by first | kernel_rfl | rfl, ?ycb6⟩) hHeld ?rcb6
                  case ycb6 => (intro W hSW; (try dsimp only at hSW); go_simp; (try with_reducible rfl))
                  change wpAnyH _ _ _ _ _ _ _ (Act.put _ (some 140) _) _
                  simp only [Act.put, List.setIfInBounds_toArray, List.set_cons_zero, List.set_cons_succ]
                  refine wpAnyH_take (i := 7) (v := ?vcb7) rfl (by kernel_rfl) (by kernel_rfl) (by kernel_rfl) (fun _ _ _ h => h) (Or.inl ⟨by first | kernel_rfl | rfl, ?ycb7⟩) hHeld ?rcb7
                  case ycb7 => (intro W hSW; (try dsimp only at hSW); go_simp; (try with_reducible rfl))
                  change wpAnyH _ _ _ _ _ _ _ (Act.put _ (some 141) _) _
                  simp only [Act.put, List.setIfInBounds_toArray, List.set_cons_zero, List.set_cons_succ]
                  have HS6 : Hid (St w n xb xo (.cells #[.int .i64 0, .int .i64 nn, .slice p pl pc, .slice q ql qc] 41 (0, 0)) S g jb D lb' lc' wa' wc' D' #[.slice (some ⟨lb', 0, none⟩) D'.kept.length lc', .slice wa' D'.waits.length wc', .int .i64 (D'.fuse : Int), .int .i64 (D'.writes : Int), .bool (!D'.up)] (((((V5.setCell ⟨xb, 0, none⟩ (.slice (some ⟨lb', 0, none⟩) D'.kept.length lc')).setCell ⟨xb, 1, none⟩ (.slice wa' D'.waits.length wc')).setCell ⟨xb, 2, none⟩ (.int .i64 (D'.fuse : Int))).setCell ⟨xb, 3, none⟩ (.int .i64 (D'.writes : Int))).setCell ⟨xb, 4, none⟩ (.bool (!D'.up)))) := HS5.out.five _ _ _ _ _
                  obtain ⟨V6, hV6⟩ : ∃ V6, (((((V5.setCell ⟨xb, 0, none⟩ (.slice (some ⟨lb', 0, none⟩) D'.kept.length lc')).setCell ⟨xb, 1, none⟩ (.slice wa' D'.waits.length wc')).setCell ⟨xb, 2, none⟩ (.int .i64 (D'.fuse : Int))).setCell ⟨xb, 3, none⟩ (.int .i64 (D'.writes : Int))).setCell ⟨xb, 4, none⟩ (.bool (!D'.up))) = V6 := ⟨_, rfl⟩
                  have HC6 : Hid (Ci V6 x1 m v1 L ∧ ∀ x, ob x1 = some x → x < V6.heap.size) := HCK.out V5 HB5.out V6 _ _ _ _ _ hV6
                  rw [hV6] at HS6
                  refine wpAnyH_ready (rs := [8]) (by kernel_rfl) (by simp) ?_
                  refine AllReadyH.cons rfl (fun K hK => ?_) AllReadyH.nil
                  go_simp
                  try rw [hV6]
                  refine hK.out _ _ trivial (fun hHeld => ?_)
                  clear hK K
                  refine wpAnyH_take (i := 9) (v := ?vcb9) rfl (by kernel_rfl) (by kernel_rfl) (by kernel_rfl) (fun _ _ _ h => h) (Or.inl ⟨by first | kernel_rfl | rfl, ?ycb9⟩) hHeld ?rcb9
                  case ycb9 => (intro W hSW; (try dsimp only at hSW); go_simp; (try with_reducible rfl))
                  change wpAnyH _ _ _ _ _ _ _ (Act.put _ (some 15) _) _
                  simp only [Act.put, List.setIfInBounds_toArray, List.set_cons_zero, List.set_cons_succ]
                  refine wpAnyH_done (by kernel_rfl) ?_ _
                  clear hHeld HS5 HS4 HB4 HB5 z0 z1 z2 z3 z4 z5 y0 y1 y2 y3 y4 y5 hV6
                  have HPF := HCM.out V6 S lb' lc' wa' wc' D' _ HS6.out HC6.out.1 HC6.out.2
                  go_wp2_with fail
                  refine HPF.mono ?_
                  rintro e V7 ⟨rfl, hm⟩
                  obtain ⟨S9, hst9⟩ := HS6.out.mut hm
                  have HSF : Hid (St w n xb xo (.cells #[.int .i64 0, .int .i64 nn, .slice p pl pc, .slice q ql qc] 41 (0, 0)) S9 g jb D' lb' lc' wa' wc' D' (rcells lb' lc' wa' wc' D') V7) := hst9
                  clear hst9 hm HS6 HPF HC6
                  have HAL := same_any HSF.out.d HSF.out.r
                  have HX9 : Hid _ := HSF.out.hx
                  obtain ⟨g0, g1, g2, g3, g4, _⟩ := row_at HX9.out
                  go_wp2_with fail
                  refine HAL.mono ?_
                  rintro e V99 ⟨rfl, hb99⟩
                  have HP9 : Hid (Pl w n xb g jb lb' lc' wa' wc' D' V99) := (HSF.out.keep hb99).pl
                  clear HAL hb99 HSF HX9 g0 g1 g2 g3 g4
                  go_wp2
                  exact ⟨⟨i + 1, jb, lb', lc', wa', wc', D', by omega, by omega, rfl, by go_num, HNV.out.1, HNV.out.2, HP9.out⟩, by simp [intOf]; omega⟩
            · obtain rfl : dn = true := by rw [← HQ.out.2.2.1]; cases e : D.up <;> simp_all
              have HEQ : Hid (cc = 10 ∧ D' = D) := by
                rw [← HCC.out.1, ← HCC.out.2]
                unfold comCode comDisk
                rw [if_pos HCK0.out, if_neg hu, if_neg (fun e => hu e.2)]
                exact ⟨rfl, rfl⟩
              clear hu
              have HPF := HCM.out V3 S lb lc wa wc D #[.slice (some ⟨lb, 0, none⟩) kl lc, .slice wa wl wc, .int .i64 fs, .int .i64 ws, .bool true] HS3.out HC3.out.1 HC3.out.2.1
              rw [HEQ.out.1, HEQ.out.2] at HPF
              rw [HEQ.out.2] at HNV
              go_wp2_with fail
              refine HPF.mono ?_
              rintro e V4 ⟨rfl, hm⟩
              obtain ⟨S9, hst9⟩ := HS3.out.mut hm
              have HSF : Hid (St w n xb xo (.cells #[.int .i64 0, .int .i64 nn, .slice p pl pc, .slice q ql qc] 41 (0, 0)) S9 g jb D lb lc wa wc D #[.slice (some ⟨lb, 0, none⟩) kl lc, .slice wa wl wc, .int .i64 fs, .int .i64 ws, .bool true] V4) := hst9
              clear hst9 hm HS3 HPF y0 y1 y2 y3 y4 y5
              have HAL := same_any HSF.out.d HSF.out.r
              rw [HQ.out.1, HQ.out.2.1, HQ.out.2.2.1, HQ.out.2.2.2.1, HQ.out.2.2.2.2] at HAL
              obtain ⟨g0, g1, g2, g3, g4, _⟩ := row_at HSF.out.hx
              go_wp2_with fail
              refine HAL.mono ?_
              rintro e V99 ⟨rfl, hb99⟩
              have HP9 : Hid (Pl w n xb g jb lb lc wa wc D V99) := by
                have h := HSF.out
                rw [← HRC.out] at h
                exact (h.keep hb99).pl
              clear HAL hb99 HSF g0 g1 g2 g3 g4
              go_wp2
              exact ⟨⟨i + 1, jb, lb, lc, wa, wc, D, by omega, by omega, rfl, by go_num, HNV.out.1, HNV.out.2, HP9.out⟩, by simp [intOf]; omega⟩
          · have HEQ : Hid (cc = ck ∧ D' = D) := by
              have hc : ¬ chk n L = 0 := by rw [HCK0.out]; exact h0
              rw [← HCC.out.1, ← HCC.out.2]
              unfold comCode comDisk
              rw [if_neg hc, if_neg (fun e => hc e.1), HCK0.out]
              exact ⟨rfl, rfl⟩
            have kc : ¬ (ck : Int) = 0 := by omega
            have kcb : ((ck : Int) == 0) = false := by rw [beq_eq_false_iff_ne]; exact kc
            have HPF := HCM.out V3 S lb lc wa wc D #[.slice (some ⟨lb, 0, none⟩) kl lc, .slice wa wl wc, .int .i64 fs, .int .i64 ws, .bool dn] HS3.out HC3.out.1 HC3.out.2.1
            rw [HEQ.out.1, HEQ.out.2] at HPF
            rw [HEQ.out.2] at HNV
            go_wp2_with fail
            refine HPF.mono ?_
            rintro e V4 ⟨rfl, hm⟩
            obtain ⟨S9, hst9⟩ := HS3.out.mut hm
            have HSF : Hid (St w n xb xo (.cells #[.int .i64 0, .int .i64 nn, .slice p pl pc, .slice q ql qc] 41 (0, 0)) S9 g jb D lb lc wa wc D #[.slice (some ⟨lb, 0, none⟩) kl lc, .slice wa wl wc, .int .i64 fs, .int .i64 ws, .bool dn] V4) := hst9
            clear hst9 hm HS3 HPF y0 y1 y2 y3 y4 y5
            have HAL := same_any HSF.out.d HSF.out.r
            rw [HQ.out.1, HQ.out.2.1, HQ.out.2.2.1, HQ.out.2.2.2.1, HQ.out.2.2.2.2] at HAL
            obtain ⟨g0, g1, g2, g3, g4, _⟩ := row_at HSF.out.hx
            go_wp2_with fail
            refine HAL.mono ?_
            rintro e V99 ⟨rfl, hb99⟩
            have HP9 : Hid (Pl w n xb g jb lb lc wa wc D V99) := by
              have h := HSF.out
              rw [← HRC.out] at h
              exact (h.keep hb99).pl
            clear HAL hb99 HSF g0 g1 g2 g3 g4
            go_wp2
            exact ⟨⟨i + 1, jb, lb, lc, wa, wc, D, by omega, by omega, rfl, by go_num, HNV.out.1, HNV.out.2, HP9.out⟩, by simp [intOf]; omega⟩
        · by_cases hk1 : kd = 1
          · subst hk1
            clear hk0
            have HRF := rfuse_any (w := V1) (lb := lb) (lc := lc) (wa := wa) (wc := wc) (D := D) HS1.out.r.ok.n1 nn
            rw [HQ.out.1, HQ.out.2.1, HQ.out.2.2.1, HQ.out.2.2.2.1, HQ.out.2.2.2.2] at HRF
            obtain ⟨D', hD'⟩ : ∃ D', D.fput nn = D' := ⟨_, rfl⟩
            obtain ⟨c0, c1, c2, c3⟩ := HS1.out.op
            obtain ⟨y0, y1, y2, y3, y4, y5⟩ := row_at HS1.out.hx
            rw [hD'] at HRF
            have HNV : Hid (Inv n D' ∧ D'.writes ≤ 140 * (i + 1)) := by
              rw [← hD']
              have h := HIV.out.1.fput nn
              exact ⟨h.1, by rw [h.2]; have := HIV.out.2; omega⟩
            go_wp2_with fail
            refine HRF.mono ?_
            rintro e V2 ⟨rfl, hb2⟩
            have HS2 : Hid (St w n xb xo (.cells #[.int .i64 1, .int .i64 nn, .slice p pl pc, .slice q ql qc] 41 (0, 0)) S g jb D lb lc wa wc D' #[.slice (some ⟨lb, 0, none⟩) kl lc, .slice wa wl wc, .int .i64 fs, .int .i64 ws, .bool dn] V2) := by
              rw [← hD']
              exact HS1.out.ref ((HS1.out.r.below hb2).fput nn HIN.out.1.2) (RefTo.same hb2)
            obtain ⟨z0, z1, z2, z3, z4, z5⟩ := row_at HS2.out.hx
            have HS3 : Hid (St w n xb xo (.cells #[.int .i64 1, .int .i64 nn, .slice p pl pc, .slice q ql qc] 41 (0, 0)) S g jb D lb lc wa wc D' #[.slice (some ⟨lb, 0, none⟩) D'.kept.length lc, .slice wa D'.waits.length wc, .int .i64 (D'.fuse : Int), .int .i64 (D'.writes : Int), .bool (!D'.up)] (((((V2.setCell ⟨xb, 0, none⟩ (.slice (some ⟨lb, 0, none⟩) D'.kept.length lc)).setCell ⟨xb, 1, none⟩ (.slice wa D'.waits.length wc)).setCell ⟨xb, 2, none⟩ (.int .i64 (D'.fuse : Int))).setCell ⟨xb, 3, none⟩ (.int .i64 (D'.writes : Int))).setCell ⟨xb, 4, none⟩ (.bool (!D'.up)))) := HS2.out.five _ _ _ _ _
            obtain ⟨V3, hV3⟩ : ∃ V3, (((((V2.setCell ⟨xb, 0, none⟩ (.slice (some ⟨lb, 0, none⟩) D'.kept.length lc)).setCell ⟨xb, 1, none⟩ (.slice wa D'.waits.length wc)).setCell ⟨xb, 2, none⟩ (.int .i64 (D'.fuse : Int))).setCell ⟨xb, 3, none⟩ (.int .i64 (D'.writes : Int))).setCell ⟨xb, 4, none⟩ (.bool (!D'.up))) = V3 := ⟨_, rfl⟩
            rw [hV3] at HS3
            obtain ⟨q0, q1, q2, q3⟩ := HS3.out.op
            have HPF := fuse_m HS3.out.d nn HIN.out.1.2
            rw [hD'] at HPF
            unfold rcells
            clear HRF hb2 HS1 HS2 c0 c1 c2 c3 y0 y1 y2 y3 y4 y5 hD'
            go_wp2_with fail
            try rw [hV3]
            refine HPF.mono ?_
            rintro e V4 ⟨rfl, hm⟩
            obtain ⟨S9, hst9⟩ := HS3.out.mut hm
            have HSF : Hid (St w n xb xo (.cells #[.int .i64 1, .int .i64 nn, .slice p pl pc, .slice q ql qc] 41 (0, 0)) S9 g jb D' lb lc wa wc D' (rcells lb lc wa wc D') V4) := hst9
            clear hst9 hm HS3 HPF hV3 z0 z1 z2 z3 z4 z5 q0 q1 q2 q3
            have HAL := same_any HSF.out.d HSF.out.r
            have HX9 : Hid _ := HSF.out.hx
            obtain ⟨g0, g1, g2, g3, g4, _⟩ := row_at HX9.out
            go_wp2_with fail
            refine HAL.mono ?_
            rintro e V99 ⟨rfl, hb99⟩
            have HP9 : Hid (Pl w n xb g jb lb lc wa wc D' V99) := (HSF.out.keep hb99).pl
            clear HAL hb99 HSF HX9 g0 g1 g2 g3 g4
            go_wp2
            exact ⟨⟨i + 1, jb, lb, lc, wa, wc, D', by omega, by omega, rfl, by go_num, HNV.out.1, HNV.out.2, HP9.out⟩, by simp [intOf]; omega⟩
          · by_cases hk2 : kd = 2
            · subst hk2
              clear hk0 hk1
              have HRF := rfail_any HS1.out.r q ql qc bs (HIN.out.2.2.below HS1.out.bl)
              rw [HQ.out.1, HQ.out.2.1, HQ.out.2.2.1, HQ.out.2.2.2.1, HQ.out.2.2.2.2] at HRF
              obtain ⟨D1, hD1⟩ : ∃ D1, D.failed (pickOf bs) = D1 := ⟨_, rfl⟩
              obtain ⟨D2, hD2⟩ : ∃ D2, D1.started = D2 := ⟨_, rfl⟩
              have HD12 : Hid (D1.sput = D2 ∧ D1.up = false ∧ D1.waits = []) := ⟨by rw [← hD2, ← hD1]; exact sput_failed D _, by rw [← hD1]; rfl, by rw [← hD1]; rfl⟩
              have HI2 : Hid (Inv n D2 ∧ D2.up = true ∧ D2.fuse = 0 ∧ D2.waits = [] ∧ D2.writes = D.writes) := by
                rw [← hD2, ← hD1]
                exact HIV.out.1.restart (pickOf bs)
              obtain ⟨D3, hD3⟩ : ∃ D3, runS D2 (recS n D2.kept) = D3 := ⟨_, rfl⟩
              have HI3 : Hid (codeS D2 (recS n D2.kept) = 0) := (HI2.out.1.open HI2.out.2.1 HI2.out.2.2.1).2.1
              have HNV : Hid (Inv n D3 ∧ D3.writes ≤ 140 * (i + 1)) := by
                rw [← hD3]
                have h := HI2.out.1.open HI2.out.2.1 HI2.out.2.2.1
                exact ⟨h.1, by have h2 := h.2.2; have h3 := HI2.out.2.2.2.2; have := HIV.out.2; omega⟩
              obtain ⟨c0, c1, c2, c3⟩ := HS1.out.op
              obtain ⟨y0, y1, y2, y3, y4, y5⟩ := row_at HS1.out.hx
              rw [hD1] at HRF
              have HDD : Hid (D.failed (pickOf bs) = D1 ∧ D1.started = D2 ∧ runS D2 (recS n D2.kept) = D3) := ⟨hD1, hD2, hD3⟩
              clear hD1 hD2 hD3
              go_wp2_with fail
              refine HRF.mono ?_
              rintro e V2 ⟨lb1, lc1, rfl, hl1, hr1, hb1⟩
              have HS2 : Hid (St w n xb xo (.cells #[.int .i64 2, .int .i64 nn, .slice p pl pc, .slice q ql qc] 41 (0, 0)) S g jb D lb1 lc1 none 0 D1 #[.slice (some ⟨lb, 0, none⟩) kl lc, .slice wa wl wc, .int .i64 fs, .int .i64 ws, .bool dn] V2) := HS1.out.ref hr1 ⟨.inr hl1, (by intro x hx; cases hx), hb1⟩
              obtain ⟨z0, z1, z2, z3, z4, z5⟩ := row_at HS2.out.hx
              have HS3 : Hid (St w n xb xo (.cells #[.int .i64 2, .int .i64 nn, .slice p pl pc, .slice q ql qc] 41 (0, 0)) S g jb D lb1 lc1 none 0 D1 #[.slice (some ⟨lb1, 0, none⟩) D1.kept.length lc1, .slice none D1.waits.length 0, .int .i64 (D1.fuse : Int), .int .i64 (D1.writes : Int), .bool (!D1.up)] (((((V2.setCell ⟨xb, 0, none⟩ (.slice (some ⟨lb1, 0, none⟩) D1.kept.length lc1)).setCell ⟨xb, 1, none⟩ (.slice none D1.waits.length 0)).setCell ⟨xb, 2, none⟩ (.int .i64 (D1.fuse : Int))).setCell ⟨xb, 3, none⟩ (.int .i64 (D1.writes : Int))).setCell ⟨xb, 4, none⟩ (.bool (!D1.up)))) := HS2.out.five _ _ _ _ _
              obtain ⟨V3, hV3⟩ : ∃ V3, (((((V2.setCell ⟨xb, 0, none⟩ (.slice (some ⟨lb1, 0, none⟩) D1.kept.length lc1)).setCell ⟨xb, 1, none⟩ (.slice none D1.waits.length 0)).setCell ⟨xb, 2, none⟩ (.int .i64 (D1.fuse : Int))).setCell ⟨xb, 3, none⟩ (.int .i64 (D1.writes : Int))).setCell ⟨xb, 4, none⟩ (.bool (!D1.up))) = V3 := ⟨_, rfl⟩
              rw [hV3] at HS3
              obtain ⟨p0, p1, p2, p3, p4, p5⟩ := row_at HS3.out.hx
              have HRS := rstart_any (w := V3) (lb := lb1) (lc := lc1) (wa := none) (wc := 0) (D := D1)
              rw [HD12.out.1] at HRS
              unfold rcells
              clear HRF hl1 hr1 hb1 HS1 HS2 c0 c1 c2 c3 y0 y1 y2 y3 y4 y5
              go_wp2_with fail
              try rw [hV3]
              refine HRS.mono ?_
              rintro e V4 ⟨rfl, hb4⟩
              have HS4 : Hid (St w n xb xo (.cells #[.int .i64 2, .int .i64 nn, .slice p pl pc, .slice q ql qc] 41 (0, 0)) S g jb D lb1 lc1 none 0 D2 #[.slice (some ⟨lb1, 0, none⟩) D1.kept.length lc1, .slice none D1.waits.length 0, .int .i64 (D1.fuse : Int), .int .i64 (D1.writes : Int), .bool (!D1.up)] V4) := by
                have h := HS3.out.ref (HS3.out.r.below hb4).sput (RefTo.same hb4)
                rw [HD12.out.1] at h
                exact h
              obtain ⟨u0, u1, u2, u3, u4, u5⟩ := row_at HS4.out.hx
              have HS5 : Hid (St w n xb xo (.cells #[.int .i64 2, .int .i64 nn, .slice p pl pc, .slice q ql qc] 41 (0, 0)) S g jb D lb1 lc1 none 0 D2 #[.slice (some ⟨lb1, 0, none⟩) D2.kept.length lc1, .slice none D2.waits.length 0, .int .i64 (D2.fuse : Int), .int .i64 (D2.writes : Int), .bool (!D2.up)] (((((V4.setCell ⟨xb, 0, none⟩ (.slice (some ⟨lb1, 0, none⟩) D2.kept.length lc1)).setCell ⟨xb, 1, none⟩ (.slice none D2.waits.length 0)).setCell ⟨xb, 2, none⟩ (.int .i64 (D2.fuse : Int))).setCell ⟨xb, 3, none⟩ (.int .i64 (D2.writes : Int))).setCell ⟨xb, 4, none⟩ (.bool (!D2.up)))) := HS4.out.five _ _ _ _ _
              obtain ⟨V5, hV5⟩ : ∃ V5, (((((V4.setCell ⟨xb, 0, none⟩ (.slice (some ⟨lb1, 0, none⟩) D2.kept.length lc1)).setCell ⟨xb, 1, none⟩ (.slice none D2.waits.length 0)).setCell ⟨xb, 2, none⟩ (.int .i64 (D2.fuse : Int))).setCell ⟨xb, 3, none⟩ (.int .i64 (D2.writes : Int))).setCell ⟨xb, 4, none⟩ (.bool (!D2.up))) = V5 := ⟨_, rfl⟩
              rw [hV5] at HS5
              obtain ⟨q0, q1, q2, q3⟩ := HS5.out.op
              have HPF := fail_m HS5.out.d q ql qc bs HIN.out.2.2 HS5.out.bl HS5.out.sS
              rw [HDD.out.1] at HPF
              unfold rcells
              clear HRS hb4 HS3 HS4 z0 z1 z2 z3 z4 z5 p0 p1 p2 p3 p4 p5 hV3
              go_wp2_with fail
              try rw [hV5]
              refine HPF.mono ?_
              rintro e V6 ⟨rfl, hm⟩
              obtain ⟨S6, hst6⟩ := HS5.out.mut hm
              have HPS := start_m hst6.d HD12.out.2.1 HD12.out.2.2
              rw [HDD.out.2.1] at HPS
              have HS6 : Hid (St w n xb xo (.cells #[.int .i64 2, .int .i64 nn, .slice p pl pc, .slice q ql qc] 41 (0, 0)) S6 g jb D1 lb1 lc1 none 0 D2 #[.slice (some ⟨lb1, 0, none⟩) D2.kept.length lc1, .slice none D2.waits.length 0, .int .i64 (D2.fuse : Int), .int .i64 (D2.writes : Int), .bool (!D2.up)] V6) := hst6
              clear HPF hm hst6 HS5 u0 u1 u2 u3 u4 u5 q0 q1 q2 q3 hV5
              go_wp2_with fail
              refine HPS.mono ?_
              rintro e V7 ⟨rfl, hm⟩
              obtain ⟨S7, hst7⟩ := HS6.out.mut hm
              have HS7 : Hid (St w n xb xo (.cells #[.int .i64 2, .int .i64 nn, .slice p pl pc, .slice q ql qc] 41 (0, 0)) S7 g jb D2 lb1 lc1 none 0 D2 #[.slice (some ⟨lb1, 0, none⟩) D2.kept.length lc1, .slice none D2.waits.length 0, .int .i64 (D2.fuse : Int), .int .i64 (D2.writes : Int), .bool (!D2.up)] V7) := hst7
              have HRO := ropen_any hst7.r n hn1 (by omega) (by rw [HI2.out.1.ln]; omega) HI2.out.2.1 HI2.out.2.2.2.1 HI2.out.1.sz.k (by have h1 := HI2.out.2.2.2.2; have := HIV.out.2; omega)
              rw [HDD.out.2.2, HI3.out] at HRO
              obtain ⟨z0, z1, z2, z3, z4, z5⟩ := row_at HS7.out.hx
              clear HPS hm hst7 HS6
              go_wp2_with fail
              refine HRO.mono ?_
              rintro e V8 ⟨lb3, lc3, wa3, wc3, rfl, hr3, ht3⟩
              have HS8 : Hid (St w n xb xo (.cells #[.int .i64 2, .int .i64 nn, .slice p pl pc, .slice q ql qc] 41 (0, 0)) S7 g jb D2 lb3 lc3 wa3 wc3 D3 #[.slice (some ⟨lb1, 0, none⟩) D2.kept.length lc1, .slice none D2.waits.length 0, .int .i64 (D2.fuse : Int), .int .i64 (D2.writes : Int), .bool (!D2.up)] V8) := HS7.out.ref hr3 ht3
              obtain ⟨V9, hV9⟩ : ∃ V9, V8.alloc (.cells #[.slice (some ⟨lb3, 0, none⟩) D3.kept.length lc3, .slice wa3 D3.waits.length wc3, .int .i64 (D3.fuse : Int), .int .i64 (D3.writes : Int), .bool (!D3.up)] 32) = V9 := ⟨_, rfl⟩
              obtain ⟨yb, hyb⟩ : ∃ yb, V8.heap.size = yb := ⟨_, rfl⟩
              have hb9 : Below V8.heap.size V8 V9 := by rw [← hV9]; exact (Below.refl _ V8).alloc (Nat.le_refl _) _
              have hy9 : V9.heap[yb]? = some (.cells #[.slice (some ⟨lb3, 0, none⟩) D3.kept.length lc3, .slice wa3 D3.waits.length wc3, .int .i64 (D3.fuse : Int), .int .i64 (D3.writes : Int), .bool (!D3.up)] 32 (0, 0)) := by rw [← hV9, ← hyb]; exact heap_alloc_new V8 _
              have HS9 : Hid (St w n xb xo (.cells #[.int .i64 2, .int .i64 nn, .slice p pl pc, .slice q ql qc] 41 (0, 0)) S7 g jb D2 lb3 lc3 wa3 wc3 D3 #[.slice (some ⟨lb1, 0, none⟩) D2.kept.length lc1, .slice none D2.waits.length 0, .int .i64 (D2.fuse : Int), .int .i64 (D2.writes : Int), .bool (!D2.up)] V9) := HS8.out.keep hb9
              obtain ⟨p0, p1, p2, p3, p4, p5⟩ := row_at hy9
              obtain ⟨u0, u1, u2, u3, u4, u5⟩ := row_at HS9.out.hx
              have HSA : Hid (St w n xb xo (.cells #[.int .i64 2, .int .i64 nn, .slice p pl pc, .slice q ql qc] 41 (0, 0)) S7 g jb D2 lb3 lc3 wa3 wc3 D3 #[.slice (some ⟨lb3, 0, none⟩) D3.kept.length lc3, .slice wa3 D3.waits.length wc3, .int .i64 (D3.fuse : Int), .int .i64 (D3.writes : Int), .bool (!D3.up)] (((((V9.setCell ⟨xb, 0, none⟩ (.slice (some ⟨lb3, 0, none⟩) D3.kept.length lc3)).setCell ⟨xb, 1, none⟩ (.slice wa3 D3.waits.length wc3)).setCell ⟨xb, 2, none⟩ (.int .i64 (D3.fuse : Int))).setCell ⟨xb, 3, none⟩ (.int .i64 (D3.writes : Int))).setCell ⟨xb, 4, none⟩ (.bool (!D3.up)))) := HS9.out.five _ _ _ _ _
              obtain ⟨VA, hVA⟩ : ∃ VA, (((((V9.setCell ⟨xb, 0, none⟩ (.slice (some ⟨lb3, 0, none⟩) D3.kept.length lc3)).setCell ⟨xb, 1, none⟩ (.slice wa3 D3.waits.length wc3)).setCell ⟨xb, 2, none⟩ (.int .i64 (D3.fuse : Int))).setCell ⟨xb, 3, none⟩ (.int .i64 (D3.writes : Int))).setCell ⟨xb, 4, none⟩ (.bool (!D3.up))) = VA := ⟨_, rfl⟩
              rw [hVA] at HSA
              have HO : Calls Tryz.prog 8 #[.pointer (some ⟨g, 0, none⟩), .int .i64 (n : Int)] VA fun e w' => e = .returned (.tuple #[.pointer (some ⟨VA.heap.size, 0, none⟩), .int .i64 0]) ∧ Jat w' VA.heap.size g n ∧ ∃ S', DiskIs w' S' g D3 ∧ Upd S7 VA w' ∧ (∀ x, S' x → S7 x ∨ VA.heap.size ≤ x) ∧ ¬ S' VA.heap.size := by
                have h := open_any HSA.out.d hn1 (by omega) (by rw [HI2.out.1.ln]; omega) HI2.out.2.1 HI2.out.2.2.2.1 HI2.out.1.sz.k (by have h1 := HI2.out.2.2.2.2; have := HIV.out.2; omega)
                rw [HI3.out, HDD.out.2.2, if_pos rfl] at h
                exact h
              unfold rcells
              clear HRO hr3 ht3 HS7 HS8 HS9 hb9 hy9 z0 z1 z2 z3 z4 z5
              go_wp2_with fail
              try simp only [hyb, hV9, hVA]
              refine HO.mono ?_
              rintro e VB ⟨rfl, hjB, SB, hdB, huB, hsB, hnB⟩
              obtain ⟨jc, hjc⟩ : ∃ jc, VA.heap.size = jc := ⟨_, rfl⟩
              have HSF : Hid (St w n xb xo (.cells #[.int .i64 2, .int .i64 nn, .slice p pl pc, .slice q ql qc] 41 (0, 0)) SB g jc D3 lb3 lc3 wa3 wc3 D3 (rcells lb3 lc3 wa3 wc3 D3) VB) := by
                rw [← hjc]
                exact (HSA.out.turn hdB huB hsB).jn hjB hnB (by have := lt_of_some HSA.out.hx; omega)
              rw [hjc]
              clear HO hjB hdB huB hsB hnB HSA p0 p1 p2 p3 p4 p5 u0 u1 u2 u3 u4 u5 hVA hV9 hyb hjc
              have HAL := same_any HSF.out.d HSF.out.r
              have HX9 : Hid _ := HSF.out.hx
              obtain ⟨g0, g1, g2, g3, g4, _⟩ := row_at HX9.out
              go_wp2_with fail
              refine HAL.mono ?_
              rintro e V99 ⟨rfl, hb99⟩
              have HP9 : Hid (Pl w n xb g jc lb3 lc3 wa3 wc3 D3 V99) := (HSF.out.keep hb99).pl
              clear HAL hb99 HSF HX9 g0 g1 g2 g3 g4
              go_wp2
              exact ⟨⟨i + 1, jc, lb3, lc3, wa3, wc3, D3, by omega, by omega, rfl, by go_num, HNV.out.1, HNV.out.2, HP9.out⟩, by simp [intOf]; omega⟩
            · obtain ⟨c0, c1, c2, c3⟩ := HS1.out.op
              obtain ⟨y0, y1, y2, y3, y4, y5⟩ := row_at HS1.out.hx
              have HNV : Hid (Inv n D ∧ D.writes ≤ 140 * (i + 1)) := ⟨HIV.out.1, by have := HIV.out.2; omega⟩
              by_cases hin : 0 ≤ nn ∧ nn < (n : Int)
              · obtain ⟨m, rfl⟩ := Int.eq_ofNat_of_zero_le hin.1
                have hmn : m < n := by omega
                have m1 : 0 ≤ (m : Int) := by omega
                have m2 : (m : Int) < (n : Int) := by omega
                have HRR : Hid (∃ T : ByteArray, ∃ E : Nat, (Calls Tryz.prog 22 #[.pointer (some ⟨jb, 0, none⟩), .int .i64 (m : Int)] V1 fun e w' => e = .returned (.tuple #[.string T, .int .i64 (E : Int)]) ∧ Below V1.heap.size V1 w') ∧ ∀ V, Below V1.heap.size V1 V → Calls Tryz.prog 23 #[.agg #[.slice (some ⟨lb, 0, none⟩) kl lc, .slice wa wl wc, .int .i64 fs, .int .i64 ws, .bool dn], .int .i64 (1 + 4 * ((n : Int) + (m : Int)))] V fun e w' => e = .returned (.tuple #[.string T, .int .i64 (E : Int)]) ∧ Below V.heap.size V w') := by
                  have hln := HIV.out.1.ln
                  have hbox : (#[.slice (some ⟨lb, 0, none⟩) D.kept.length lc, .slice wa D.waits.length wc, .int .i64 (D.fuse : Int), .int .i64 (D.writes : Int), .bool (!D.up)] : Array Value) = #[.slice (some ⟨lb, 0, none⟩) kl lc, .slice wa wl wc, .int .i64 fs, .int .i64 ws, .bool dn] := HRC.out
                  rw [← hbox]
                  by_cases hu : D.up = true
                  · refine ⟨pageAt D.seen (1 + 4 * (n + m)), 0, ?_, fun V hV => ?_⟩
                    · have h := jread_any HS1.out.d HS1.out.j (by omega) (by omega) hu HIV.out.1.sz.seen m hmn
                      rw [show 1 + 4 * n + 4 * m = 1 + 4 * (n + m) by omega] at h
                      exact h
                    · have h := rpage_any (HS1.out.keep hV).r (1 + 4 * (n + m)) hu (by omega) (fun j hj => by
                        refine HIV.out.1.sz.seen _ ?_
                        unfold at_
                        rw [List.getD_eq_getElem?_getD, List.getElem?_eq_getElem (by rw [seen_len]; omega)]
                        exact List.getElem_mem _)
                      rw [show ((1 + 4 * (n + m) : Nat) : Int) = 1 + 4 * ((n : Int) + (m : Int)) by omega] at h
                      exact h
                  · have hu' : D.up = false := by cases e : D.up <;> simp_all
                    refine ⟨⟨#[]⟩, 10, jread_down HS1.out.d HS1.out.j (by omega) hu' m hmn, fun V hV => ?_⟩
                    have h := rpage_down (HS1.out.keep hV).r (1 + 4 * (n + m)) hu' (by omega)
                    rw [show ((1 + 4 * (n + m) : Nat) : Int) = 1 + 4 * ((n : Int) + (m : Int)) by omega] at h
                    exact h
                obtain ⟨T, E, HR1, HR2⟩ := HRR.out
                have HR2 : Hid _ := HR2
                clear hin HRR
                go_wp2_with fail
                refine HR1.mono ?_
                rintro e V2 ⟨rfl, hb2⟩
                have HS2 : Hid (St w n xb xo (.cells #[.int .i64 kd, .int .i64 (m : Int), .slice p pl pc, .slice q ql qc] 41 (0, 0)) S g jb D lb lc wa wc D #[.slice (some ⟨lb, 0, none⟩) kl lc, .slice wa wl wc, .int .i64 fs, .int .i64 ws, .bool dn] V2) := HS1.out.keep hb2
                have HR3 := HR2.out V2 hb2
                obtain ⟨p0, p1, p2, p3⟩ := HS2.out.op
                obtain ⟨z0, z1, z2, z3, z4, z5⟩ := row_at HS2.out.hx
                clear HR1 hb2 HR2 HS1 c0 c1 c2 c3 y0 y1 y2 y3 y4 y5
                go_wp2_with fail
                refine HR3.mono ?_
                rintro e V3 ⟨rfl, hb3⟩
                have HSF : Hid (St w n xb xo (.cells #[.int .i64 kd, .int .i64 (m : Int), .slice p pl pc, .slice q ql qc] 41 (0, 0)) S g jb D lb lc wa wc D #[.slice (some ⟨lb, 0, none⟩) kl lc, .slice wa wl wc, .int .i64 fs, .int .i64 ws, .bool dn] V3) := HS2.out.keep hb3
                clear HR3 hb3 HS2 p0 p1 p2 p3 z0 z1 z2 z3 z4 z5
                have HAL := same_any HSF.out.d HSF.out.r
                rw [HQ.out.1, HQ.out.2.1, HQ.out.2.2.1, HQ.out.2.2.2.1, HQ.out.2.2.2.2] at HAL
                obtain ⟨g0, g1, g2, g3, g4, _⟩ := row_at HSF.out.hx
                go_wp2_with fail
                refine HAL.mono ?_
                rintro e V99 ⟨rfl, hb99⟩
                have HP9 : Hid (Pl w n xb g jb lb lc wa wc D V99) := by
                  have h := HSF.out
                  rw [← HRC.out] at h
                  exact (h.keep hb99).pl
                clear HAL hb99 HSF g0 g1 g2 g3 g4
                go_wp2
                exact ⟨⟨i + 1, jb, lb, lc, wa, wc, D, by omega, by omega, rfl, by go_num, HNV.out.1, HNV.out.2, HP9.out⟩, by simp [intOf]; omega⟩
              · have HR1 := jread_out HS1.out.j nn hin
                have HS2 : Hid (St w n xb xo (.cells #[.int .i64 kd, .int .i64 nn, .slice p pl pc, .slice q ql qc] 41 (0, 0)) S g jb D lb lc wa wc D #[.slice (some ⟨lb, 0, none⟩) kl lc, .slice wa wl wc, .int .i64 fs, .int .i64 ws, .bool dn] V1) := HS1.out
                by_cases h0 : 0 ≤ nn
                · have m1 : 0 ≤ nn := h0
                  have m2 : ¬ nn < (n : Int) := fun e => hin ⟨h0, e⟩
                  clear hin h0
                  have HSF : Hid (St w n xb xo (.cells #[.int .i64 kd, .int .i64 nn, .slice p pl pc, .slice q ql qc] 41 (0, 0)) S g jb D lb lc wa wc D #[.slice (some ⟨lb, 0, none⟩) kl lc, .slice wa wl wc, .int .i64 fs, .int .i64 ws, .bool dn] V1) := HS2.out
                  clear HS2 HS1
                  go_wp2_with fail
                  refine HR1.mono ?_
                  rintro e V2 ⟨rfl, hV2⟩
                  subst V2
                  clear HR1
                  have HAL := same_any HSF.out.d HSF.out.r
                  rw [HQ.out.1, HQ.out.2.1, HQ.out.2.2.1, HQ.out.2.2.2.1, HQ.out.2.2.2.2] at HAL
                  obtain ⟨g0, g1, g2, g3, g4, _⟩ := row_at HSF.out.hx
                  go_wp2_with fail
                  refine HAL.mono ?_
                  rintro e V99 ⟨rfl, hb99⟩
                  have HP9 : Hid (Pl w n xb g jb lb lc wa wc D V99) := by
                    have h := HSF.out
                    rw [← HRC.out] at h
                    exact (h.keep hb99).pl
                  clear HAL hb99 HSF g0 g1 g2 g3 g4
                  go_wp2
                  exact ⟨⟨i + 1, jb, lb, lc, wa, wc, D, by omega, by omega, rfl, by go_num, HNV.out.1, HNV.out.2, HP9.out⟩, by simp [intOf]; omega⟩
                · have m1 : ¬ 0 ≤ nn := h0
                  clear hin h0
                  have HSF : Hid (St w n xb xo (.cells #[.int .i64 kd, .int .i64 nn, .slice p pl pc, .slice q ql qc] 41 (0, 0)) S g jb D lb lc wa wc D #[.slice (some ⟨lb, 0, none⟩) kl lc, .slice wa wl wc, .int .i64 fs, .int .i64 ws, .bool dn] V1) := HS2.out
                  clear HS2 HS1
                  go_wp2_with fail
                  refine HR1.mono ?_
                  rintro e V2 ⟨rfl, hV2⟩
                  subst V2
                  clear HR1
                  have HAL := same_any HSF.out.d HSF.out.r
                  rw [HQ.out.1, HQ.out.2.1, HQ.out.2.2.1, HQ.out.2.2.2.1, HQ.out.2.2.2.2] at HAL
                  obtain ⟨g0, g1, g2, g3, g4, _⟩ := row_at HSF.out.hx
                  go_wp2_with fail
                  refine HAL.mono ?_
                  rintro e V99 ⟨rfl, hb99⟩
                  have HP9 : Hid (Pl w n xb g jb lb lc wa wc D V99) := by
                    have h := HSF.out
                    rw [← HRC.out] at h
                    exact (h.keep hb99).pl
                  clear HAL hb99 HSF g0 g1 g2 g3 g4
                  go_wp2
                  exact ⟨⟨i + 1, jb, lb, lc, wa, wc, D, by omega, by omega, rfl, by go_num, HNV.out.1, HNV.out.2, HP9.out⟩, by simp [intOf]; omega⟩
      · rw [decide_eq_false hli] at HLI
        clear hli
        have HB0 : Hid (Below w.heap.size w V0) := HST.out.bl
        go_wp2_with fail
        try simp only [hxo, hV0]
        refine HLI.mono ?_
        rintro e V1 ⟨rfl, hb1⟩
        have HB1 : Hid (Below w.heap.size w V1) := HB0.out.trans (hb1.mono HB0.out.size)
        clear HLI hb1
        go_wp2_with fail
        refine (HLV.out _ HB1.out).mono ?_
        rintro e w9 ⟨rfl, hb9⟩
        go_wp2
        go_ret
        exact ⟨rfl, hb9⟩
    · by_cases hlt : i < len1
      · have k1 : (i : Int) < (len1 : Int) := by omega
        have k2 : ¬ (i : Int) < 30 := by omega
        clear hgo
        go_wp2_with fail
        refine (HLV.out _ HP.out.bl).mono ?_
        rintro e w9 ⟨rfl, hb9⟩
        go_wp2
        go_ret
        exact ⟨rfl, hb9⟩
      · have k1 : ¬ (i : Int) < (len1 : Int) := by omega
        clear hgo
        go_wp2_with fail
        refine (HLV.out _ HP.out.bl).mono ?_
        rintro e w9 ⟨rfl, hb9⟩
        go_wp2
        go_ret
        exact ⟨rfl, hb9⟩

set_option linter.unusedVariables false in
set_option maxRecDepth 100000 in
theorem lifted (os : _root_.Go.Os) (started : os.Started) (H : Type) (enc : TypeId × Value → H) :
    ReturnsInHanded {} Tryz.checked os 3 .any (Rows.journalPlaysSpec.pre6 enc Tryz.prog Tryz.f3 Rows.journalPlaysRow.domain false) (Rows.journalPlaysSpec.post enc Tryz.prog Tryz.f3 false true false false) := by
  refine returnsInHanded_of_change (C := Tryz.checked) own started (by kernel_rfl) Tryz.func3
    (ChangeSpec.witness6 (enc := enc) (C := Tryz.checked) false ⟨#[], #[.int .i64 0, .slice none 0 0], []⟩ 8 (by kernel_rfl) (by kernel_rfl) (by kernel_rfl) (by kernel_rfl)) ?_
  intro W base args ds gs before hval0 hW hcnd _
  have hval : ∀ (j : Nat) t v, Tryz.f3.params[j]? = some t → args[j]? = some v → Value.okWide Tryz.prog W .any base t v := hval0
  have hW' := hW
  obtain ⟨p, q, hA0, hV, rfl, hfz, hnd⟩ := hW
  have hA : DataW.TrodAll enc Tryz.prog W 0 (fun _ => true) true Tryz.f3.params.toList args.toList ds p := hA0
  rw [Tryz.params3] at hA hval
  obtain ⟨v0, vs0, d0, ds0, p0, q0, hargs, rfl, rfl, h0, r0⟩ := trodAll_cons hA
  obtain ⟨v1, vs1, d1, ds1, p1, q1, rfl, rfl, rfl, h1, r1⟩ := trodAll_cons r0
  obtain ⟨rfl, rfl, rfl⟩ := trodAll_nil r1
  obtain rfl : args = #[v0, v1] := by cases args; simp_all
  obtain ⟨rfl, rfl⟩ := trodVars_none hV
  obtain ⟨x0, rfl, rfl, rfl, w0⟩ := open_int Tryz.underlying3 (hval 0 3 v0 rfl rfl) h0
  have k1 := h1
  have lt1 : ∀ x ∈ p1, x.block < W.heap.size := by obtain ⟨m, hm⟩ := k1; exact DataW.trod_lt m _ _ _ hm
  obtain ⟨a1, len1, cap1, rfl⟩ := okWide_slice Tryz.underlying22 (hval 1 22 v1 rfl rfl)
  obtain ⟨l1, w1⟩ : ∃ l, Os W a1 len1 cap1 l := by
    obtain ⟨fuel, hf⟩ := h1
    exact ops_of (by simpa [Value.cells] using hf)
  clear hA0 hval0
  refine (walk x0 (wf_i64 w0) a1 len1 cap1 l1 W w1).mono fun e W' ⟨he, bel⟩ => ?_
  subst he
  exact ⟨_, rfl, _, _, _, [], _, [], hW', trodAll_mk1 (shut_bool Tryz.underlying4 _), (trodAll_cons_mk (shut_int Tryz.underlying3 w0) (trodAll_cons_mk (Below.trod laidOut (by kernel_rfl) (of_decide_eq_true (by kernel_rfl)) k1 bel lt1) trodAll_mk0)), rfl, bel.frame _, fun h => by cases h⟩

theorem over : Rows.journalPlaysRow.holds Tryz.pinned (OpenSpec.ofChange Rows.journalPlaysSpec) :=
  OpenClaim.holds_of_wide 3 Tryz.f3 rfl rfl rfl rfl rfl rfl rfl ⟨rfl, rfl, rfl, rfl, rfl⟩ rfl rfl rfl rfl rfl (by kernel_rfl) Tryz.func3 (by kernel_rfl)
    (of_decide_eq_true (by kernel_rfl)) (by unfold Func.isWrapper; first | (rw [if_pos (by decide +kernel)]; kernel_rfl) | (rw [if_neg (by decide +kernel)]; exact ⟨rfl, rfl⟩))
    (fun os started H enc _ => lifted os started H enc)

end Go.Proofs.YtaacedaehbaodaaGreat.journalPlays
namespace Go.Proofs.YtaacedaehbaodaaGreat
/-- The given statement. -/
theorem journalPlays_holds : Rows.JournalPlaysSaid := journalPlays.over
#print axioms journalPlays_holds
end Go.Proofs.YtaacedaehbaodaaGreat
