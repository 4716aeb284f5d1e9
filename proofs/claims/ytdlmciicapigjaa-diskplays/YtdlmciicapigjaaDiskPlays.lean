/- Proved: for every number of sectors and steps, the law DiskPlays returns true, both as they were. No condition: every input that can be read as data. -/
import Derived.Test.YtdlmciicapigjaaRows
import Derived.Test.YtdlmciicapigjaaZI
import Derived.WalkKit
import Derived.ProofKit
import Derived.OpenShut
import Derived.ShutString
import Derived.ChangeOld
import Derived.Below
namespace Go.Proofs.Ytdlmciicapigjaa.diskPlays
open Go.ChangeShapes Go.WideShapes Go.ChangeAt Go.RowKit
theorem own : ownKnob Try.prog.godebug = none := by kernel_rfl
theorem laidOut : laidOutB Try.prog = true := by kernel_rfl

set_option maxRecDepth 100000 in
set_option maxHeartbeats 16000000 in
theorem walk (x0 : Int) (_z0 : -9223372036854775808 ≤ x0 ∧ x0 ≤ 9223372036854775807) (a1 : Option Addr) (len1 cap1 : Nat) (l1 : List OpV) (w : World) (w1 : Os w a1 len1 cap1 l1) :
    Calls Try.prog 4 #[.int .i64 x0, .slice a1 len1 cap1] w fun e w' => e = .returned (.bool true) ∧ Below w.heap.size w w' := by
  have HLV : Hid (∀ W, Below w.heap.size w W → Calls Try.prog 20 #[] W fun e w' => e = .returned (.bool true) ∧ Below w.heap.size w w') := fun W hW => lives_h hW
  have HOS : Hid (Os w a1 len1 cap1 l1) := w1
  clear w1
  by_cases hx : x0 < 1 ∨ 2048 < x0
  · have HN := new_bad x0 w hx
    have HR := rnew_bad x0 w hx
    go_enter Try.func4, Try.ntmps4
    go_wp2_with fail
    refine HN.mono ?_
    rintro e w2 ⟨rfl, hw2⟩
    subst w2
    clear HN hx
    go_wp2_with fail
    refine HR.mono ?_
    rintro e w2 ⟨rfl, hb2⟩
    have HB2 : Hid (∀ o, Below w.heap.size w (w2.alloc o)) := fun o => hb2.alloc hb2.size o
    clear hb2 HR
    go_wp2_with fail
    refine (HLV.out _ (HB2.out _)).mono ?_
    rintro e w99 ⟨rfl, hb99⟩
    go_wp2
    go_ret
    exact ⟨rfl, hb99⟩
  · obtain ⟨s, rfl⟩ := Int.eq_ofNat_of_zero_le (show 0 ≤ x0 by omega)
    have hs1 : 1 ≤ s := by omega
    have hs2 : s ≤ 2048 := by omega
    have HN := new_any s w hs1 hs2
    clear hx
    go_enter Try.func4, Try.ntmps4
    go_wp2_with fail
    refine HN.mono ?_
    rintro e w2 ⟨g, rfl, hd2, hb2⟩
    have HR := rnew_any s w2 hs1 hs2
    obtain ⟨D, hD⟩ : ∃ D, Dk.new s nought = D := ⟨_, rfl⟩
    rw [hD] at HR hd2
    clear HN
    go_wp2_with fail
    refine HR.mono ?_
    rintro e w3 ⟨lb, lc, rfl, hlb, hr3, hb3⟩
    have hB3 : Below w.heap.size w w3 := hb2.trans (hb3.mono hb2.size)
    have hd3 := hd2.below hb3
    have HP3 : Hid (∀ W xb, W = w3.alloc (.cells (rcells lb lc none 0 D) 40) → xb = w3.heap.size → Pair w xb (.cells (rcells lb lc none 0 D) 40 (0, 0)) W g lb lc none 0 D ∧ w.heap.size ≤ xb) := by
      rintro W xb rfl rfl
      have hb4 : Below w3.heap.size w3 (w3.alloc (.cells (rcells lb lc none 0 D) 40)) := (Below.refl _ w3).alloc (Nat.le_refl _) _
      refine ⟨⟨hB3.trans (hb4.mono hB3.size), hr3.below hb4, ⟨fresh w w2, hd3.below hb4, fun x hx => hx.1, fun hs => ?_, (by intro x hx; cases hx), fun hs => ?_⟩, heap_alloc_new w3 _⟩, hB3.size⟩
      · have := hs.2; omega
      · have := hs.2; have := hb3.size; omega
    have HN0 : Hid (D.kept.length = s ∧ D.writes ≤ 0) := by rw [← hD]; exact ⟨by simp [Dk.new], Nat.le_refl 0⟩
    have HB3 : Hid (∀ o, Below w.heap.size w (w3.alloc o)) := fun o => hB3.alloc hB3.size o
    unfold rcells at HP3 ⊢
    clear hD HR hd2 hd3 hb2 hb3 hr3 hB3 hlb
    by_cases h40 : 40 < s
    · have k40 : (40 : Int) < (s : Int) := by omega
      go_wp2_with fail
      refine (HLV.out _ (HB3.out _)).mono ?_
      rintro e w99 ⟨rfl, hb99⟩
      go_wp2
      go_ret
      exact ⟨rfl, hb99⟩
    · have k40 : ¬ (40 : Int) < (s : Int) := by omega
      go_wp2
      obtain ⟨xb, hxb⟩ : ∃ xb, w3.heap.size = xb := ⟨_, rfl⟩
      obtain ⟨W, hW⟩ : ∃ W, w3.alloc (.cells #[.slice (some ⟨lb, 0, none⟩) D.kept.length lc, .slice none D.waits.length 0, .int .i64 (D.fuse : Int), .int .i64 (D.writes : Int), .bool (!D.up)] 40) = W := ⟨_, rfl⟩
      have HI : Hid _ := HP3.out W xb hW.symm hxb.symm
      simp only [hxb, hW]
      clear HP3 HB3
      go_loopw [5, 8, 9] (fun dv ov v wr => ∃ (i g lb lc : Nat) (wa : Option Addr) (wc : Nat) (D : Dk), i ≤ len1 ∧ i ≤ 80 ∧ dv = .pointer (some ⟨g, 0, none⟩) ∧ ov = .bool true ∧ v = .int .i64 i ∧ D.kept.length = s ∧ D.writes ≤ i ∧ Pair w xb (.cells #[.slice (some ⟨lb, 0, none⟩) D.kept.length lc, .slice wa D.waits.length wc, .int .i64 (D.fuse : Int), .int .i64 (D.writes : Int), .bool (!D.up)] 40 (0, 0)) wr g lb lc wa wc D ∧ w.heap.size ≤ xb) (fun _ _ v _ => 81 - (intOf v).toNat)
      case atStart => exact ⟨0, g, lb, lc, none, 0, D, by omega, by omega, rfl, rfl, rfl, HN0.out.1, HN0.out.2, HI.out.1, HI.out.2⟩
      case round =>
        clear HI hW hxb HN0
        obtain ⟨i, g, lb, lc, wa, wc, D, hi1, hi2, rfl, rfl, rfl, hn, hwi, hp, hx0⟩ := hrel
        have HN1 : Hid (D.kept.length = s ∧ D.writes ≤ i) := ⟨hn, hwi⟩
        clear hn hwi
        have HP : Hid (Pair w xb (.cells #[.slice (some ⟨lb, 0, none⟩) D.kept.length lc, .slice wa D.waits.length wc, .int .i64 (D.fuse : Int), .int .i64 (D.writes : Int), .bool (!D.up)] 40 (0, 0)) wr g lb lc wa wc D) := hp
        clear hp
        by_cases hgo : i < len1 ∧ i < 80
        · have k1 : (i : Int) < (len1 : Int) := by omega
          have k2 : (i : Int) < 80 := by omega
          have hml := HOS.out.1
          have hil : i < l1.length := by omega
          obtain ⟨b, oo, rfl, hbl, hc⟩ := HOS.out.2.2.2 (by omega)
          have hci := hc i hil
          obtain ⟨⟨kd, ad, lo, fi, pa, pl, pc, ps⟩, ho⟩ : ∃ o, l1[i] = o := ⟨_, rfl⟩
          rw [ho] at hci
          obtain ⟨d0, d1, d2, d3, d4, d5⟩ := hci
          simp only at d0 d1 d2 d3 d4
          have HCS : Hid (∀ V, Below w.heap.size w V → V.cell? ⟨b, oo + i * 5, none⟩ = some (.int .i64 kd) ∧ V.cell? ⟨b, oo + i * 5 + 1, none⟩ = some (.int .i64 ad) ∧ V.cell? ⟨b, oo + i * 5 + 2, none⟩ = some (.int .i64 lo) ∧ V.cell? ⟨b, oo + i * 5 + 3, none⟩ = some (.int .u8 (fi : Int)) ∧ V.cell? ⟨b, oo + i * 5 + 4, none⟩ = some (.slice pa pl pc)) := fun V hV =>
            ⟨by rw [hV.cell hbl]; exact d0, by rw [hV.cell hbl]; exact d1, by rw [hV.cell hbl]; exact d2, by rw [hV.cell hbl]; exact d3, by rw [hV.cell hbl]; exact d4⟩
          have HIN : Hid (OpV.In w ⟨kd, ad, lo, fi, pa, pl, pc, ps⟩) := d5
          obtain ⟨e0, e1, e2, e3, e4⟩ := HCS.out wr HP.out.bl
          have HLI := light_any ⟨kd, ad, lo, fi, pa, pl, pc, ps⟩ wr
          simp only at HLI
          clear hc hgo ho d0 d1 d2 d3 d4 d5
          by_cases hpl : pl ≤ 300
          · rw [decide_eq_true hpl] at HLI
            go_wp2_with fail
            refine HLI.mono ?_
            rintro e V1 ⟨rfl, hb1⟩
            have HP1 : Hid (Pair w xb (.cells #[.slice (some ⟨lb, 0, none⟩) D.kept.length lc, .slice wa D.waits.length wc, .int .i64 (D.fuse : Int), .int .i64 (D.writes : Int), .bool (!D.up)] 40 (0, 0)) V1 g lb lc wa wc D) := HP.out.below hb1
            have HSTP := step_any HP1.out.drew kd ad lo fi pa pl pc ps HIN.out (by have := HN1.out.2; omega)
            obtain ⟨c0, c1, c2, c3, c4, cf⟩ := HP1.out.drew.at
            clear HLI hb1 HP e0 e1 e2 e3 e4
            go_wp2
            refine wp_region_held_drew (S := fun V => V.cell? ⟨b, oo + i * 5, none⟩ = some (.int .i64 kd) ∧ V.cell? ⟨b, oo + i * 5 + 1, none⟩ = some (.int .i64 ad) ∧ V.cell? ⟨b, oo + i * 5 + 2, none⟩ = some (.int .i64 lo) ∧ V.cell? ⟨b, oo + i * 5 + 3, none⟩ = some (.int .u8 (fi : Int)) ∧ V.cell? ⟨b, oo + i * 5 + 4, none⟩ = some (.slice pa pl pc)) (by kernel_rfl) (HCS.out _ HP1.out.drew.bl) (fun hHeld => ?_)
            refine wpAnyH_take (i := 0) (v := ?vp0) rfl (by kernel_rfl) (by kernel_rfl) (by kernel_rfl) (fun _ _ _ h => h) (Or.inl ⟨by first | kernel_rfl | rfl, ?yp0⟩) hHeld ?rp0
            case yp0 => (intro W hSW; (try dsimp only at hSW); go_simp; (try with_reducible rfl))
            change wpAnyH _ _ _ _ _ _ _ (Act.put _ (some 51) _) _
            simp only [Act.put, List.setIfInBounds_toArray, List.set_cons_zero, List.set_cons_succ]
            refine wpAnyH_take (i := 2) (v := ?vp2) rfl (by kernel_rfl) (by kernel_rfl) (by kernel_rfl) (fun _ _ _ h => h) (Or.inl ⟨by first | kernel_rfl | rfl, ?yp2⟩) hHeld ?rp2
            case yp2 => (intro W hSW; (try dsimp only at hSW); go_simp; (try with_reducible rfl))
            change wpAnyH _ _ _ _ _ _ _ (Act.put _ (some 53) _) _
            simp only [Act.put, List.setIfInBounds_toArray, List.set_cons_zero, List.set_cons_succ]
            refine wpAnyH_take (i := 3) (v := ?vp3) rfl (by kernel_rfl) (by kernel_rfl) (by kernel_rfl) (fun _ _ _ h => h) (Or.inl ⟨by first | kernel_rfl | rfl, ?yp3⟩) hHeld ?rp3
            case yp3 => (intro W hSW; (try dsimp only at hSW); go_simp; (try with_reducible rfl))
            change wpAnyH _ _ _ _ _ _ _ (Act.put _ (some 54) _) _
            simp only [Act.put, List.setIfInBounds_toArray, List.set_cons_zero, List.set_cons_succ]
            refine wpAnyH_take (i := 4) (v := ?vp4) rfl (by kernel_rfl) (by kernel_rfl) (by kernel_rfl) (fun _ _ _ h => h) (Or.inl ⟨by first | kernel_rfl | rfl, ?yp4⟩) hHeld ?rp4
            case yp4 => (intro W hSW; (try dsimp only at hSW); go_simp; (try with_reducible rfl))
            change wpAnyH _ _ _ _ _ _ _ (Act.put _ (some 55) _) _
            simp only [Act.put, List.setIfInBounds_toArray, List.set_cons_zero, List.set_cons_succ]
            refine wpAnyH_take (i := 5) (v := ?vp5) rfl (by kernel_rfl) (by kernel_rfl) (by kernel_rfl) (fun _ _ _ h => h) (Or.inl ⟨by first | kernel_rfl | rfl, ?yp5⟩) hHeld ?rp5
            case yp5 => (intro W hSW; (try dsimp only at hSW); go_simp; (try with_reducible rfl))
            change wpAnyH _ _ _ _ _ _ _ (Act.put _ (some 56) _) _
            simp only [Act.put, List.setIfInBounds_toArray, List.set_cons_zero, List.set_cons_succ]
            refine wpAnyH_ready (rs := [1]) (by kernel_rfl) (by simp) ?_
            refine AllReadyH.cons rfl (fun K hK => ?_) AllReadyH.nil
            go_simp
            refine hK.out _ _ (hHeld) (fun hHeld => ?_)
            clear hK K
            try simp only [Act.put, List.setIfInBounds_toArray, List.set_cons_zero, List.set_cons_succ]
            refine wpAnyH_ready (rs := [6]) (by kernel_rfl) (by simp) ?_
            refine AllReadyH.cons rfl (fun K hK => ?_) AllReadyH.nil
            go_simp
            refine (HSTP).mono ?_
            rintro e V2 ⟨g', lb', lc', wa', wc', D', rfl, hp2, hk2, hw2⟩; have HP2 : Hid (Pair w xb (.cells #[.slice (some ⟨lb, 0, none⟩) D.kept.length lc, .slice wa D.waits.length wc, .int .i64 (D.fuse : Int), .int .i64 (D.writes : Int), .bool (!D.up)] 40 (0, 0)) V2 g' lb' lc' wa' wc' D') := hp2; clear hp2; have HKW : Hid (D'.kept.length = s ∧ D'.writes ≤ i + 1) := ⟨hk2.trans HN1.out.1, Nat.le_trans hw2 (Nat.succ_le_succ HN1.out.2)⟩; clear hk2 hw2; unfold rcells; obtain ⟨b0, b1, b2, b3, b4, bf⟩ := HP2.out.at
            refine hK.out _ _ (HCS.out _ HP2.out.bl) (fun hHeld => ?_)
            clear hK K
            try simp only [Act.put, List.setIfInBounds_toArray, List.set_cons_zero, List.set_cons_succ]
            refine wpAnyH_take (i := 7) (v := ?vp7) rfl (by kernel_rfl) (by kernel_rfl) (by kernel_rfl) (fun _ _ _ h => h) (Or.inl ⟨by first | kernel_rfl | rfl, ?yp7⟩) hHeld ?rp7
            case yp7 => (intro W hSW; (try dsimp only at hSW); go_simp; (try with_reducible rfl))
            change wpAnyH _ _ _ _ _ _ _ (Act.put _ (some 50) _) _
            simp only [Act.put, List.setIfInBounds_toArray, List.set_cons_zero, List.set_cons_succ]
            refine wpAnyH_take (i := 8) (v := ?vp8) rfl (by kernel_rfl) (by kernel_rfl) (by kernel_rfl) (fun _ _ _ h => h) (Or.inl ⟨by first | kernel_rfl | rfl, ?yp8⟩) hHeld ?rp8
            case yp8 => (intro W hSW; (try dsimp only at hSW); go_simp; (try with_reducible rfl))
            change wpAnyH _ _ _ _ _ _ _ (Act.put _ (some 58) _) _
            simp only [Act.put, List.setIfInBounds_toArray, List.set_cons_zero, List.set_cons_succ]
            refine wpAnyH_take (i := 9) (v := ?vp9) rfl (by kernel_rfl) (by kernel_rfl) (by kernel_rfl) (fun _ _ _ h => h) (Or.inl ⟨by first | kernel_rfl | rfl, ?yp9⟩) hHeld ?rp9
            case yp9 => (intro W hSW; (try dsimp only at hSW); go_simp; (try with_reducible rfl))
            change wpAnyH _ _ _ _ _ _ _ (Act.put _ (some 59) _) _
            simp only [Act.put, List.setIfInBounds_toArray, List.set_cons_zero, List.set_cons_succ]
            refine wpAnyH_take (i := 10) (v := ?vp10) rfl (by kernel_rfl) (by kernel_rfl) (by kernel_rfl) (fun _ _ _ h => h) (Or.inl ⟨by first | kernel_rfl | rfl, ?yp10⟩) hHeld ?rp10
            case yp10 => (intro W hSW; (try dsimp only at hSW); go_simp; (try with_reducible rfl))
            change wpAnyH _ _ _ _ _ _ _ (Act.put _ (some 60) _) _
            simp only [Act.put, List.setIfInBounds_toArray, List.set_cons_zero, List.set_cons_succ]
            refine wpAnyH_take (i := 11) (v := ?vp11) rfl (by kernel_rfl) (by kernel_rfl) (by kernel_rfl) (fun _ _ _ h => h) (Or.inl ⟨by first | kernel_rfl | rfl, ?yp11⟩) hHeld ?rp11
            case yp11 => (intro W hSW; (try dsimp only at hSW); go_simp; (try with_reducible rfl))
            change wpAnyH _ _ _ _ _ _ _ (Act.put _ (some 5) _) _
            simp only [Act.put, List.setIfInBounds_toArray, List.set_cons_zero, List.set_cons_succ]
            have HP3 : Hid (Pair w xb (.cells #[.slice (some ⟨lb', 0, none⟩) D'.kept.length lc', .slice wa' D'.waits.length wc', .int .i64 (D'.fuse : Int), .int .i64 (D'.writes : Int), .bool (!D'.up)] 40 (0, 0)) (((((V2.setCell ⟨xb, 0, none⟩ (.slice (some ⟨lb', 0, none⟩) D'.kept.length lc')).setCell ⟨xb, 1, none⟩ (.slice wa' D'.waits.length wc')).setCell ⟨xb, 2, none⟩ (.int .i64 (D'.fuse : Int))).setCell ⟨xb, 3, none⟩ (.int .i64 (D'.writes : Int))).setCell ⟨xb, 4, none⟩ (.bool (!D'.up))) g' lb' lc' wa' wc' D') := HP2.out.put hx0 _ _ _ _ _
            obtain ⟨V3, hV3⟩ : ∃ V3, (((((V2.setCell ⟨xb, 0, none⟩ (.slice (some ⟨lb', 0, none⟩) D'.kept.length lc')).setCell ⟨xb, 1, none⟩ (.slice wa' D'.waits.length wc')).setCell ⟨xb, 2, none⟩ (.int .i64 (D'.fuse : Int))).setCell ⟨xb, 3, none⟩ (.int .i64 (D'.writes : Int))).setCell ⟨xb, 4, none⟩ (.bool (!D'.up))) = V3 := ⟨_, rfl⟩
            rw [hV3] at HP3
            refine wpAnyH_ready (rs := [12]) (by kernel_rfl) (by simp) ?_
            refine AllReadyH.cons rfl (fun K hK => ?_) AllReadyH.nil
            go_simp
            try rw [hV3]
            refine hK.out _ _ (HCS.out _ HP3.out.bl) (fun hHeld => ?_)
            clear hK K
            refine wpAnyH_take (i := 13) (v := ?vp13) rfl (by kernel_rfl) (by kernel_rfl) (by kernel_rfl) (fun _ _ _ h => h) (Or.inl ⟨by first | kernel_rfl | rfl, ?yp13⟩) hHeld ?rp13
            case yp13 => (intro W hSW; (try dsimp only at hSW); go_simp; (try with_reducible rfl))
            change wpAnyH _ _ _ _ _ _ _ (Act.put _ (some 8) _) _
            simp only [Act.put, List.setIfInBounds_toArray, List.set_cons_zero, List.set_cons_succ]
            refine wpAnyH_done (by kernel_rfl) ?_ _
            clear hHeld b0 b1 b2 b3 b4 bf c0 c1 c2 c3 c4 cf HP2 HP1 HSTP hV3
            obtain ⟨S3, hd3, _⟩ := HP3.out.d
            have HAL := alike_any hd3 HP3.out.r
            obtain ⟨g0, g1, g2, g3, g4, gf⟩ := HP3.out.at
            clear hd3
            go_wp2_with fail
            refine HAL.mono ?_
            rintro e V4 ⟨rfl, hb4⟩
            have HP4 : Hid (Pair w xb (.cells #[.slice (some ⟨lb', 0, none⟩) D'.kept.length lc', .slice wa' D'.waits.length wc', .int .i64 (D'.fuse : Int), .int .i64 (D'.writes : Int), .bool (!D'.up)] 40 (0, 0)) V4 g' lb' lc' wa' wc' D') := HP3.out.below hb4
            clear HAL hb4 HP3 g0 g1 g2 g3 g4 gf
            go_wp2
            exact ⟨⟨i + 1, g', lb', lc', wa', wc', D', by omega, by omega, rfl, rfl, by go_num, HKW.out.1, HKW.out.2, HP4.out, hx0⟩, by simp [intOf]; omega⟩
          · rw [decide_eq_false hpl] at HLI
            go_wp2_with fail
            refine HLI.mono ?_
            rintro e V1 ⟨rfl, hb1⟩
            have HB1 : Hid (Below w.heap.size w V1) := HP.out.bl.trans (hb1.mono HP.out.bl.size)
            clear HLI hb1
            go_wp2_with fail
            refine (HLV.out _ HB1.out).mono ?_
            rintro e w99 ⟨rfl, hb99⟩
            go_wp2
            go_ret
            exact ⟨rfl, hb99⟩
        · by_cases hlt : i < len1
          · have k1 : (i : Int) < (len1 : Int) := by omega
            have k2 : ¬ (i : Int) < 80 := by omega
            clear hgo
            go_wp2_with fail
            refine (HLV.out _ HP.out.bl).mono ?_
            rintro e w99 ⟨rfl, hb99⟩
            go_wp2
            go_ret
            exact ⟨rfl, hb99⟩
          · have k1 : ¬ (i : Int) < (len1 : Int) := by omega
            clear hgo
            go_wp2_with fail
            refine (HLV.out _ HP.out.bl).mono ?_
            rintro e w99 ⟨rfl, hb99⟩
            go_wp2
            go_ret
            exact ⟨rfl, hb99⟩

set_option linter.unusedVariables false in
set_option maxRecDepth 100000 in
theorem lifted (os : _root_.Go.Os) (started : os.Started) (H : Type) (enc : TypeId × Value → H) :
    ReturnsInHanded {} Try.checked os 4 .any (Rows.diskPlaysSpec.pre6 enc Try.prog Try.f4 Rows.diskPlaysRow.domain false) (Rows.diskPlaysSpec.post enc Try.prog Try.f4 false true false false) := by
  refine returnsInHanded_of_change (C := Try.checked) own started (by kernel_rfl) Try.func4
    (ChangeSpec.witness6 (enc := enc) (C := Try.checked) false ⟨#[], #[.int .i64 0, .slice none 0 0], []⟩ 8 (by kernel_rfl) (by kernel_rfl) (by kernel_rfl) (by kernel_rfl)) ?_
  intro W base args ds gs before hval0 hW hcnd _
  have hval : ∀ (j : Nat) t v, Try.f4.params[j]? = some t → args[j]? = some v → Value.okWide Try.prog W .any base t v := hval0
  have hW' := hW
  obtain ⟨p, q, hA0, hV, rfl, hfz, hnd⟩ := hW
  have hA : DataW.TrodAll enc Try.prog W 0 (fun _ => true) true Try.f4.params.toList args.toList ds p := hA0
  rw [Try.params4] at hA hval
  obtain ⟨v0, vs0, d0, ds0, p0, q0, hargs, rfl, rfl, h0, r0⟩ := trodAll_cons hA
  obtain ⟨v1, vs1, d1, ds1, p1, q1, rfl, rfl, rfl, h1, r1⟩ := trodAll_cons r0
  obtain ⟨rfl, rfl, rfl⟩ := trodAll_nil r1
  obtain rfl : args = #[v0, v1] := by cases args; simp_all
  obtain ⟨rfl, rfl⟩ := trodVars_none hV
  obtain ⟨x0, rfl, rfl, rfl, w0⟩ := open_int Try.underlying3 (hval 0 3 v0 rfl rfl) h0
  have k1 := h1
  have lt1 : ∀ x ∈ p1, x.block < W.heap.size := by obtain ⟨m, hm⟩ := k1; exact DataW.trod_lt m _ _ _ hm
  obtain ⟨a1, len1, cap1, rfl⟩ := okWide_slice Try.underlying36 (hval 1 36 v1 rfl rfl)
  obtain ⟨l1, w1⟩ : ∃ l, Os W a1 len1 cap1 l := by
    obtain ⟨fuel, hf⟩ := h1
    exact ops_of (by simpa [Value.cells] using hf)
  clear hA0 hval0
  refine (walk x0 (wf_i64 w0) a1 len1 cap1 l1 W w1).mono fun e W' ⟨he, bel⟩ => ?_
  subst he
  exact ⟨_, rfl, _, _, _, [], _, [], hW', trodAll_mk1 (shut_bool Try.underlying4 _), (trodAll_cons_mk (shut_int Try.underlying3 w0) (trodAll_cons_mk (Below.trod laidOut (by kernel_rfl) (of_decide_eq_true (by kernel_rfl)) k1 bel lt1) trodAll_mk0)), rfl, bel.frame _, fun h => by cases h⟩

theorem over : Rows.diskPlaysRow.holds Try.pinned (OpenSpec.ofChange Rows.diskPlaysSpec) :=
  OpenClaim.holds_of_wide 4 Try.f4 rfl rfl rfl rfl rfl rfl rfl ⟨rfl, rfl, rfl, rfl, rfl⟩ rfl rfl rfl rfl rfl (by kernel_rfl) Try.func4 (by kernel_rfl)
    (of_decide_eq_true (by kernel_rfl)) (by unfold Func.isWrapper; first | (rw [if_pos (by decide +kernel)]; kernel_rfl) | (rw [if_neg (by decide +kernel)]; exact ⟨rfl, rfl⟩))
    (fun os started H enc _ => lifted os started H enc)

end Go.Proofs.Ytdlmciicapigjaa.diskPlays
namespace Go.Proofs.Ytdlmciicapigjaa
/-- The given statement. -/
theorem diskPlays_holds : Rows.DiskPlaysSaid := diskPlays.over
#print axioms diskPlays_holds
end Go.Proofs.Ytdlmciicapigjaa
