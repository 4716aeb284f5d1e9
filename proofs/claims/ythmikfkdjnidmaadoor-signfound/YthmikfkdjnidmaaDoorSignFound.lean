/- The law of a block that is found. -/
import Derived.Test.YthmikfkdjnidmaaDoorGJ
import Derived.Test.YthmikfkdjnidmaaDoorCards
import Derived.Test.YthmikfkdjnidmaaDoorTie
import Derived.WalkKit
import Derived.ProofKit
import Derived.OpenShut
import Derived.ShutString
import Derived.ChangeOld
import Derived.Below
import Derived.LaidMore
import Derived.Stop.Joined
import Derived.SevenTiedAt
namespace Go.Proofs.YthmikfkdjnidmaaDoor.signFound
open Go.ChangeShapes Go.WideShapes Go.ChangeAt Go.WideMaps Go.WideElems Go.RowKit
open Go.ChangeMaps (open_string shut_string)

set_option maxRecDepth 100000 in
set_option maxHeartbeats 2000000 in
theorem walk (s0 : ByteArray) (_z0 : s0.size ≤ 140737488351232) (s1 : ByteArray) (_z1 : s1.size ≤ 140737488351232) (x2 : Int) (_z2 : -9223372036854775808 ≤ x2 ∧ x2 ≤ 9223372036854775807) (w : World)  (hL : Laid w) :
    Calls Tryd.prog 7 #[.string s0, .string s1, .int .i64 x2] w fun e w' => e = .returned (.bool true) ∧ Below w.heap.size w w' := by
  have HLV : Hid (∀ V, Below w.heap.size w V → Calls Tryd.prog 9 #[] V fun e w' => e = .returned (.bool true) ∧ Below w.heap.size w w') := fun V hV => (lives_any V (hL.below hV)).mono fun e w' h => ⟨h.1, hV.trans (h.2.mono hV.size)⟩
  by_cases h1 : 200 < s0.size
  · have k1 : (200 : Int) < (s0.size : Int) := by omega
    clear hL
    go_enter Tryd.func7, Tryd.ntmps7
    go_wp2_with fail
    refine (HLV.out _ (Below.refl _ _)).mono ?_
    rintro e V ⟨rfl, hb⟩
    go_wp2
    go_ret
    exact ⟨rfl, hb⟩
  · have k1 : ¬ (200 : Int) < (s0.size : Int) := by omega
    by_cases h3 : 300 < s1.size
    · have k3 : (300 : Int) < (s1.size : Int) := by omega
      clear hL
      go_enter Tryd.func7, Tryd.ntmps7
      go_wp2_with fail
      refine (HLV.out _ (Below.refl _ _)).mono ?_
      rintro e V ⟨rfl, hb⟩
      go_wp2
      go_ret
      exact ⟨rfl, hb⟩
    · have k3 : ¬ (300 : Int) < (s1.size : Int) := by omega
      have HL : Hid (Laid w) := hL
      have HS := signs_any s0 s1 x2 w (by omega) (by omega) hL
      have HB : Hid (∀ V, Calls Tryd.prog 12 #[.string s1, .int .i64 x2] V fun e w' => BlTo V (blocksF s1 x2) e w') := fun V => blocks_any s1 x2 V (by omega)
      have HSZ : Hid (∀ s ∈ (blocksF s1 x2).1, s.size ≤ 128) := fun s hs => blocks_size hs
      have hfew := blocks_few s1 x2
      obtain ⟨⟨bl, er⟩, hbl⟩ : ∃ r, blocksF s1 x2 = r := ⟨_, rfl⟩
      rw [hbl] at HB HS HSZ hfew
      simp only at hfew HSZ
      clear hbl hL
      go_enter Tryd.func7, Tryd.ntmps7
      go_wp2_with fail
      refine HS.mono ?_
      rintro e V1 ⟨ga, gn, gc, rfl, hown, hb1⟩
      have HG1 : Hid (Gw (fun _ => True) V1 ga gn gc (bl.map (sgOf s0)) ∧ Below w.heap.size w V1) := ⟨Rw.own hown (fun _ _ => trivial), hb1⟩
      have hgl := HG1.out.1.len
      have hgm := HG1.out.1.max
      rw [List.length_map] at hgl
      have HB1 := HB.out V1
      clear HS hown hb1 HB
      go_wp2_with fail
      refine HB1.mono ?_
      intro e V2 hV2
      obtain ⟨ba, bn, bc, rfl, htw, hb2⟩ := hV2.tw
      have htl := htw.len
      simp only at htl
      obtain rfl : bn = gn := by omega
      have H2 : Hid (Gw (fun _ => True) V2 ga bn gc (bl.map (sgOf s0)) ∧ Tw (fun _ => True) V2 ba bn bc bl ∧ Below w.heap.size w V2) := ⟨HG1.out.1.below hb2, htw, HG1.out.2.trans (hb2.mono HG1.out.2.size)⟩
      have HB : Hid (Below w.heap.size w V2) := H2.out.2.2
      have hnn : ((bn : Int) == (bn : Int)) = true := by simp
      clear HB1 hV2 htw hb2
      by_cases h0 : er = 0
      · subst h0
        have HNW := new_index H2.out.1 (fun s hs => by
          obtain ⟨b, _, rfl⟩ := List.mem_map.1 hs
          exact wsum_lt _)
        rw [List.take_of_length_le (by rw [List.length_map]; omega)] at HNW
        go_wp2_with fail
        refine HNW.mono ?_
        rintro e V3 ⟨x, rfl, hix, hb3, _⟩
        have H3 : Hid (Inx V3 V2.heap.size x (bl.map (sgOf s0)) ∧ Gw (fun _ => True) V3 ga bn gc (bl.map (sgOf s0)) ∧ Tw (fun _ => True) V3 ba bn bc bl ∧ Below w.heap.size w V3) := ⟨hix, H2.out.1.below hb3, H2.out.2.1.below hb3, H2.out.2.2.trans (hb3.mono H2.out.2.2.size)⟩
        clear HNW hix hb3
        go_wp2
        go_loopw [12] (fun vi wr => ∃ i : Nat, i ≤ bn ∧ i ≤ 60 ∧ vi = .int .i64 i ∧ Below V3.heap.size V3 wr) (fun vi _ => bn - (intOf vi).toNat)
        case atStart => exact ⟨0, by omega, by omega, rfl, Below.refl _ _⟩
        case round =>
          obtain ⟨i, hi, hi60, rfl, hbw⟩ := hrel
          have HW : Hid (Below w.heap.size w wr ∧ Below V3.heap.size V3 wr) := ⟨H3.out.2.2.2.trans (hbw.mono H3.out.2.2.2.size), hbw⟩
          by_cases hlt : i < bn ∧ i < 60
          · have kk : (i : Int) < (bn : Int) := by omega
            have kk60 : (i : Int) < 60 := by omega
            obtain ⟨tb, to, rfl, htb, hct⟩ := (H3.out.2.2.1.below hbw).at (by omega)
            obtain ⟨s, hs⟩ : ∃ s, bl[i]? = some s := ⟨_, List.getElem?_eq_getElem (by omega)⟩
            have c0 := hct i s hs
            have HO := one_any s0 s wr (by omega) (by have := HSZ.out s (List.mem_of_getElem? hs); omega) (HL.out.below HW.out.1)
            have hat : (bl.map (sgOf s0))[i]? = some (sgOf s0 s) := by rw [List.getElem?_map, hs]; rfl
            have hglt : (sgOf s0 s).1 < 4294967296 := wsum_lt _
            obtain ⟨⟨g1, g2⟩, hge⟩ : ∃ g, sgOf s0 s = g := ⟨_, rfl⟩
            rw [hge] at HO hat hglt
            simp only at HO hglt
            obtain ⟨k, hk, hki, hfk⟩ : ∃ k, (bl.map (sgOf s0))[k]? = some (g1, g2) ∧ k ≤ i ∧ fnd (bl.map (sgOf s0)) (g1, g2) = some k := by
              cases hf : fnd (bl.map (sgOf s0)) (g1, g2) with
              | none =>
                exfalso
                unfold fnd at hf
                rw [List.findIdx?_eq_none_iff] at hf
                have := hf (g1, g2) (List.mem_of_getElem? hat)
                simp at this
              | some k =>
                have hf0 := hf
                unfold fnd at hf
                rw [List.findIdx?_eq_some_iff_getElem] at hf
                obtain ⟨hk, h5, h6⟩ := hf
                refine ⟨k, by rw [List.getElem?_eq_getElem hk]; exact congrArg some (of_decide_eq_true h5), ?_, rfl⟩
                rcases Nat.lt_or_ge i k with h7 | h7
                · exfalso
                  have h8 := h6 i h7
                  have h9 := (List.getElem?_eq_some_iff.1 hat).2
                  rw [h9] at h8
                  simp at h8
                · exact h7
            have HWKT : wk (bl.map (sgOf s0)) g1 = true := (wk_iff _ _).2 ⟨(g1, g2), List.mem_of_getElem? hat, rfl⟩
            have HK : Hid ((bl.map (sgOf s0))[i]? = some (g1, g2) ∧ (bl.map (sgOf s0))[k]? = some (g1, g2) ∧ fnd (bl.map (sgOf s0)) (g1, g2) = some k ∧ wk (bl.map (sgOf s0)) g1 = true) := ⟨hat, hk, hfk, HWKT⟩
            have hkb : k < bn := by have := (List.getElem?_eq_some_iff.1 hk).1; rw [List.length_map] at this; omega
            clear hbw hct hs hat hge hk hfk HWKT htb
            go_wp2_with fail
            refine HO.mono ?_
            rintro e V4 ⟨rfl, hb4⟩
            have hbV4 : Below V3.heap.size V3 V4 := HW.out.2.trans (hb4.mono HW.out.2.size)
            have HFI := find_any (H3.out.1.below hbV4) g1 g2 hglt
            rw [HK.out.2.2.1] at HFI
            have HW4 : Hid (Below w.heap.size w V4 ∧ Below V3.heap.size V3 V4) := ⟨HW.out.1.trans (hb4.mono HW.out.1.size), hbV4⟩
            clear HO hb4 hbV4 c0
            go_wp2_with fail
            refine HFI.mono ?_
            rintro e V5 ⟨rfl, hb5⟩
            simp only [Option.getD_some, Option.isSome_some]
            have hbV5 : Below V3.heap.size V3 V5 := HW4.out.2.trans (hb5.mono HW4.out.2.size)
            obtain ⟨gb, go, hga, hgb, hcg⟩ := (H3.out.2.1.below hbV5).at (by omega)
            subst hga
            obtain ⟨p0, p1⟩ := hcg i (g1, g2) HK.out.1
            obtain ⟨q0, q1⟩ := hcg k (g1, g2) HK.out.2.1
            simp only at p0 p1 q0 q1
            have HC5 : Hid (V5.cell? ⟨gb, go + i * 2, none⟩ = some (.int .u32 (g1 : Int)) ∧ V5.cell? ⟨gb, go + i * 2 + 1, none⟩ = some (.string g2) ∧ V5.cell? ⟨gb, go + k * 2, none⟩ = some (.int .u32 (g1 : Int)) ∧ V5.cell? ⟨gb, go + k * 2 + 1, none⟩ = some (.string g2)) := ⟨p0, p1, q0, q1⟩
            have HLT : Hid (gb < V5.drew.heap.size) := hgb
            have HWK : Hid (∀ V, Below V5.heap.size V5 V → Calls Tryd.prog 20 #[.pointer (some ⟨x, 0, none⟩), .int .u32 (g1 : Int)] V fun e w' => e = .returned (.bool true) ∧ Below V.heap.size V w') := fun V hV => by
              have h5 := weak_any ((H3.out.1.below hbV5).below hV) g1 hglt
              rw [HK.out.2.2.2] at h5
              exact h5
            have HEQ := fun V => eq_yes ((g1, g2) : Sg) V
            simp only at HEQ
            have HB5 : Hid (Below V3.heap.size V3 V5) := hbV5
            have kki : ¬ (i : Int) < (k : Int) := by omega
            have kkd : decide ((i : Int) < (k : Int)) = false := decide_eq_false kki
            have kkd2 : decide (i < k) = false := decide_eq_false (by omega)
            have kil : (i : Int) < (bn : Int) := by omega
            have kkl : (k : Int) < (bn : Int) := by omega
            clear HFI hb5 hbV5 hgb hcg p0 p1 q0 q1 hglt hki
            go_wp2
            refine wp_region_held_drew (S := fun W => W.cell? ⟨gb, go + i * 2, none⟩ = some (.int .u32 (g1 : Int)) ∧ W.cell? ⟨gb, go + i * 2 + 1, none⟩ = some (.string g2) ∧ W.cell? ⟨gb, go + k * 2, none⟩ = some (.int .u32 (g1 : Int)) ∧ W.cell? ⟨gb, go + k * 2 + 1, none⟩ = some (.string g2)) (by kernel_rfl) (HC5.out) (fun hHeld => ?_)
            refine wpAnyH_take (i := 0) (v := ?va_0) rfl (by kernel_rfl) (by kernel_rfl) (by kernel_rfl) (fun _ _ _ h => h) (Or.inl ⟨by first | kernel_rfl | rfl, ?ya_0⟩) hHeld ?ra_0
            case ya_0 => (intro W hSW; (try dsimp only at hSW); go_simp; (try with_reducible rfl))
            change wpAnyH _ _ _ _ _ _ _ (Act.put _ (some 74) _) _
            simp only [Act.put, List.setIfInBounds_toArray, List.set_cons_zero, List.set_cons_succ]
            refine wpAnyH_take (i := 1) (v := ?va_1) rfl (by kernel_rfl) (by kernel_rfl) (by kernel_rfl) (fun _ _ _ h => h) (Or.inl ⟨by first | kernel_rfl | rfl, ?ya_1⟩) hHeld ?ra_1
            case ya_1 => (intro W hSW; (try dsimp only at hSW); go_simp; (try with_reducible rfl))
            change wpAnyH _ _ _ _ _ _ _ (Act.put _ (some 75) _) _
            simp only [Act.put, List.setIfInBounds_toArray, List.set_cons_zero, List.set_cons_succ]
            refine wpAnyH_take (i := 2) (v := ?va_2) rfl (by kernel_rfl) (by kernel_rfl) (by kernel_rfl) (fun _ _ _ h => h) (Or.inl ⟨by first | kernel_rfl | rfl, ?ya_2⟩) hHeld ?ra_2
            case ya_2 => (intro W hSW; (try dsimp only at hSW); go_simp; (try with_reducible rfl))
            change wpAnyH _ _ _ _ _ _ _ (Act.put _ (some 76) _) _
            simp only [Act.put, List.setIfInBounds_toArray, List.set_cons_zero, List.set_cons_succ]
            refine wpAnyH_take (i := 3) (v := ?va_3) rfl (by kernel_rfl) (by kernel_rfl) (by kernel_rfl) (fun _ _ _ h => h) (Or.inl ⟨by first | kernel_rfl | rfl, ?ya_3⟩) hHeld ?ra_3
            case ya_3 => (intro W hSW; (try dsimp only at hSW); go_simp; (try with_reducible rfl))
            change wpAnyH _ _ _ _ _ _ _ (Act.put _ (some 77) _) _
            simp only [Act.put, List.setIfInBounds_toArray, List.set_cons_zero, List.set_cons_succ]
            refine wpAnyH_take (i := 4) (v := ?va_4) rfl (by kernel_rfl) (by kernel_rfl) (by kernel_rfl) (fun _ _ _ h => h) (Or.inl ⟨by first | kernel_rfl | rfl, ?ya_4⟩) hHeld ?ra_4
            case ya_4 => (intro W hSW; (try dsimp only at hSW); go_simp; (try with_reducible rfl))
            change wpAnyH _ _ _ _ _ _ _ (Act.put _ (some 78) _) _
            simp only [Act.put, List.setIfInBounds_toArray, List.set_cons_zero, List.set_cons_succ]
            refine wpAnyH_take (i := 5) (v := ?va_5) rfl (by kernel_rfl) (by kernel_rfl) (by kernel_rfl) (fun _ _ _ h => h) (Or.inl ⟨by first | kernel_rfl | rfl, ?ya_5⟩) hHeld ?ra_5
            case ya_5 => (intro W hSW; (try dsimp only at hSW); go_simp; (try with_reducible rfl))
            change wpAnyH _ _ _ _ _ _ _ (Act.put _ (some 79) _) _
            simp only [Act.put, List.setIfInBounds_toArray, List.set_cons_zero, List.set_cons_succ]
            refine wpAnyH_take (i := 6) (v := ?va_6) rfl (by kernel_rfl) (by kernel_rfl) (by kernel_rfl) (fun _ _ _ h => h) (Or.inl ⟨by first | kernel_rfl | rfl, ?ya_6⟩) hHeld ?ra_6
            case ya_6 => (intro W hSW; (try dsimp only at hSW); go_simp; (try with_reducible rfl))
            change wpAnyH _ _ _ _ _ _ _ (Act.put _ (some 80) _) _
            simp only [Act.put, List.setIfInBounds_toArray, List.set_cons_zero, List.set_cons_succ]
            refine wpAnyH_take (i := 7) (v := ?va_7) rfl (by kernel_rfl) (by kernel_rfl) (by kernel_rfl) (fun _ _ _ h => h) (Or.inl ⟨by first | kernel_rfl | rfl, ?ya_7⟩) hHeld ?ra_7
            case ya_7 => (intro W hSW; (try dsimp only at hSW); go_simp; (try with_reducible rfl))
            change wpAnyH _ _ _ _ _ _ _ (Act.put _ (some 81) _) _
            simp only [Act.put, List.setIfInBounds_toArray, List.set_cons_zero, List.set_cons_succ]
            refine wpAnyH_take (i := 8) (v := ?va_8) rfl (by kernel_rfl) (by kernel_rfl) (by kernel_rfl) (fun _ _ _ h => h) (Or.inl ⟨by first | kernel_rfl | rfl, ?ya_8⟩) hHeld ?ra_8
            case ya_8 => (intro W hSW; (try dsimp only at hSW); go_simp; (try with_reducible rfl))
            change wpAnyH _ _ _ _ _ _ _ (Act.put _ (some 82) _) _
            simp only [Act.put, List.setIfInBounds_toArray, List.set_cons_zero, List.set_cons_succ]
            refine wpAnyH_take (i := 9) (v := ?va_9) rfl (by kernel_rfl) (by kernel_rfl) (by kernel_rfl) (fun _ _ _ h => h) (Or.inl ⟨by first | kernel_rfl | rfl, ?ya_9⟩) hHeld ?ra_9
            case ya_9 => (intro W hSW; (try dsimp only at hSW); go_simp; (try with_reducible rfl))
            change wpAnyH _ _ _ _ _ _ _ (Act.put _ (some 83) _) _
            simp only [Act.put, List.setIfInBounds_toArray, List.set_cons_zero, List.set_cons_succ]
            refine wpAnyH_take (i := 10) (v := ?va_10) rfl (by kernel_rfl) (by kernel_rfl) (by kernel_rfl) (fun _ _ _ h => h) (Or.inl ⟨by first | kernel_rfl | rfl, ?ya_10⟩) hHeld ?ra_10
            case ya_10 => (intro W hSW; (try dsimp only at hSW); go_simp; (try with_reducible rfl))
            change wpAnyH _ _ _ _ _ _ _ (Act.put _ (some 84) _) _
            simp only [Act.put, List.setIfInBounds_toArray, List.set_cons_zero, List.set_cons_succ]
            refine wpAnyH_take (i := 11) (v := ?va_11) rfl (by kernel_rfl) (by kernel_rfl) (by kernel_rfl) (fun _ _ _ h => h) (Or.inl ⟨by first | kernel_rfl | rfl, ?ya_11⟩) hHeld ?ra_11
            case ya_11 => (intro W hSW; (try dsimp only at hSW); go_simp; (try with_reducible rfl))
            change wpAnyH _ _ _ _ _ _ _ (Act.put _ (some 85) _) _
            simp only [Act.put, List.setIfInBounds_toArray, List.set_cons_zero, List.set_cons_succ]
            refine wpAnyH_take (i := 12) (v := ?va_12) rfl (by kernel_rfl) (by kernel_rfl) (by kernel_rfl) (fun _ _ _ h => h) (Or.inl ⟨by first | kernel_rfl | rfl, ?ya_12⟩) hHeld ?ra_12
            case ya_12 => (intro W hSW; (try dsimp only at hSW); go_simp; (try with_reducible rfl))
            change wpAnyH _ _ _ _ _ _ _ (Act.put _ (some 86) _) _
            simp only [Act.put, List.setIfInBounds_toArray, List.set_cons_zero, List.set_cons_succ]
            refine wpAnyH_take (i := 13) (v := ?va_13) rfl (by kernel_rfl) (by kernel_rfl) (by kernel_rfl) (fun _ _ _ h => h) (Or.inl ⟨by first | kernel_rfl | rfl, ?ya_13⟩) hHeld ?ra_13
            case ya_13 => (intro W hSW; (try dsimp only at hSW); go_simp; (try with_reducible rfl))
            change wpAnyH _ _ _ _ _ _ _ (Act.put _ (some 87) _) _
            simp only [Act.put, List.setIfInBounds_toArray, List.set_cons_zero, List.set_cons_succ]
            refine wpAnyH_take (i := 14) (v := ?va_14) rfl (by kernel_rfl) (by kernel_rfl) (by kernel_rfl) (fun _ _ _ h => h) (Or.inl ⟨by first | kernel_rfl | rfl, ?ya_14⟩) hHeld ?ra_14
            case ya_14 => (intro W hSW; (try dsimp only at hSW); go_simp; (try with_reducible rfl))
            change wpAnyH _ _ _ _ _ _ _ (Act.put _ (some 88) _) _
            simp only [Act.put, List.setIfInBounds_toArray, List.set_cons_zero, List.set_cons_succ]
            refine wpAnyH_take (i := 15) (v := ?va_15) rfl (by kernel_rfl) (by kernel_rfl) (by kernel_rfl) (fun _ _ _ h => h) (Or.inl ⟨by first | kernel_rfl | rfl, ?ya_15⟩) hHeld ?ra_15
            case ya_15 => (intro W hSW; (try dsimp only at hSW); go_simp; (try with_reducible rfl))
            change wpAnyH _ _ _ _ _ _ _ (Act.put _ (some 89) _) _
            simp only [Act.put, List.setIfInBounds_toArray, List.set_cons_zero, List.set_cons_succ]
            refine wpAnyH_take (i := 16) (v := ?va_16) rfl (by kernel_rfl) (by kernel_rfl) (by kernel_rfl) (fun _ _ _ h => h) (Or.inl ⟨by first | kernel_rfl | rfl, ?ya_16⟩) hHeld ?ra_16
            case ya_16 => (intro W hSW; (try dsimp only at hSW); go_simp; (try with_reducible rfl))
            change wpAnyH _ _ _ _ _ _ _ (Act.put _ (some 90) _) _
            simp only [Act.put, List.setIfInBounds_toArray, List.set_cons_zero, List.set_cons_succ]
            refine wpAnyH_take (i := 17) (v := ?va_17) rfl (by kernel_rfl) (by kernel_rfl) (by kernel_rfl) (fun _ _ _ h => h) (Or.inl ⟨by first | kernel_rfl | rfl, ?ya_17⟩) hHeld ?ra_17
            case ya_17 => (intro W hSW; (try dsimp only at hSW); go_simp; (try with_reducible rfl))
            change wpAnyH _ _ _ _ _ _ _ (Act.put _ (some 91) _) _
            simp only [Act.put, List.setIfInBounds_toArray, List.set_cons_zero, List.set_cons_succ]
            refine wpAnyH_take (i := 18) (v := ?va_18) rfl (by kernel_rfl) (by kernel_rfl) (by kernel_rfl) (fun _ _ _ h => h) (Or.inl ⟨by first | kernel_rfl | rfl, ?ya_18⟩) hHeld ?ra_18
            case ya_18 => (intro W hSW; (try dsimp only at hSW); go_simp; (try with_reducible rfl))
            change wpAnyH _ _ _ _ _ _ _ (Act.put _ (some 92) _) _
            simp only [Act.put, List.setIfInBounds_toArray, List.set_cons_zero, List.set_cons_succ]
            refine wpAnyH_take (i := 19) (v := ?va_19) rfl (by kernel_rfl) (by kernel_rfl) (by kernel_rfl) (fun _ _ _ h => h) (Or.inl ⟨by first | kernel_rfl | rfl, ?ya_19⟩) hHeld ?ra_19
            case ya_19 => (intro W hSW; (try dsimp only at hSW); go_simp; (try with_reducible rfl))
            change wpAnyH _ _ _ _ _ _ _ (Act.put _ (some 93) _) _
            simp only [Act.put, List.setIfInBounds_toArray, List.set_cons_zero, List.set_cons_succ]
            refine wpAnyH_take (i := 20) (v := ?va_20) rfl (by kernel_rfl) (by kernel_rfl) (by kernel_rfl) (fun _ _ _ h => h) (Or.inl ⟨by first | kernel_rfl | rfl, ?ya_20⟩) hHeld ?ra_20
            case ya_20 => (intro W hSW; (try dsimp only at hSW); go_simp; (try with_reducible rfl))
            change wpAnyH _ _ _ _ _ _ _ (Act.put _ (some 94) _) _
            simp only [Act.put, List.setIfInBounds_toArray, List.set_cons_zero, List.set_cons_succ]
            refine wpAnyH_take (i := 21) (v := ?va_21) rfl (by kernel_rfl) (by kernel_rfl) (by kernel_rfl) (fun _ _ _ h => h) (Or.inl ⟨by first | kernel_rfl | rfl, ?ya_21⟩) hHeld ?ra_21
            case ya_21 => (intro W hSW; (try dsimp only at hSW); go_simp; (try with_reducible rfl))
            change wpAnyH _ _ _ _ _ _ _ (Act.put _ (some 95) _) _
            simp only [Act.put, List.setIfInBounds_toArray, List.set_cons_zero, List.set_cons_succ]
            refine wpAnyH_take (i := 22) (v := ?va_22) rfl (by kernel_rfl) (by kernel_rfl) (by kernel_rfl) (fun _ _ _ h => h) (Or.inl ⟨by first | kernel_rfl | rfl, ?ya_22⟩) hHeld ?ra_22
            case ya_22 => (intro W hSW; (try dsimp only at hSW); go_simp; (try with_reducible rfl))
            change wpAnyH _ _ _ _ _ _ _ (Act.put _ (some 96) _) _
            simp only [Act.put, List.setIfInBounds_toArray, List.set_cons_zero, List.set_cons_succ]
            refine wpAnyH_take (i := 23) (v := ?va_23) rfl (by kernel_rfl) (by kernel_rfl) (by kernel_rfl) (fun _ _ _ h => h) (Or.inl ⟨by first | kernel_rfl | rfl, ?ya_23⟩) hHeld ?ra_23
            case ya_23 => (intro W hSW; (try dsimp only at hSW); go_simp; (try with_reducible rfl))
            change wpAnyH _ _ _ _ _ _ _ (Act.put _ (some 97) _) _
            simp only [Act.put, List.setIfInBounds_toArray, List.set_cons_zero, List.set_cons_succ]
            refine wpAnyH_take (i := 24) (v := ?va_24) rfl (by kernel_rfl) (by kernel_rfl) (by kernel_rfl) (fun _ _ _ h => h) (Or.inl ⟨by first | kernel_rfl | rfl, ?ya_24⟩) hHeld ?ra_24
            case ya_24 => (intro W hSW; (try dsimp only at hSW); go_simp; (try with_reducible rfl))
            change wpAnyH _ _ _ _ _ _ _ (Act.put _ (some 98) _) _
            simp only [Act.put, List.setIfInBounds_toArray, List.set_cons_zero, List.set_cons_succ]
            refine wpAnyH_ready (rs := [25]) (by kernel_rfl) (by simp) ?_
            refine AllReadyH.cons rfl (fun K hK => ?_) AllReadyH.nil
            go_simp
            refine (HWK.out V5.drew ((Below.refl _ V5).drew)).mono ?_
            rintro e V6 ⟨rfl, hb6⟩
            refine hK.out _ _ (⟨by rw [hb6.cell HLT.out]; exact HC5.out.1, by rw [hb6.cell HLT.out]; exact HC5.out.2.1, by rw [hb6.cell HLT.out]; exact HC5.out.2.2.1, by rw [hb6.cell HLT.out]; exact HC5.out.2.2.2⟩) (fun hHeld => ?_)
            clear hK K
            try simp only [Act.put, List.setIfInBounds_toArray, List.set_cons_zero, List.set_cons_succ]
            refine wpAnyH_take (i := 26) (v := ?va_26) rfl (by kernel_rfl) (by kernel_rfl) (by kernel_rfl) (fun _ _ _ h => h) (Or.inl ⟨by first | kernel_rfl | rfl, ?ya_26⟩) hHeld ?ra_26
            case ya_26 => (intro W hSW; (try dsimp only at hSW); go_simp; (try with_reducible rfl))
            change wpAnyH _ _ _ _ _ _ _ (Act.put _ (some 100) _) _
            simp only [Act.put, List.setIfInBounds_toArray, List.set_cons_zero, List.set_cons_succ]
            refine wpAnyH_take (i := 27) (v := ?va_27) rfl (by kernel_rfl) (by kernel_rfl) (by kernel_rfl) (fun _ _ _ h => h) (Or.inl ⟨by first | kernel_rfl | rfl, ?ya_27⟩) hHeld ?ra_27
            case ya_27 => (intro W hSW; (try dsimp only at hSW); go_simp; (try with_reducible rfl))
            change wpAnyH _ _ _ _ _ _ _ (Act.put _ (some 101) _) _
            simp only [Act.put, List.setIfInBounds_toArray, List.set_cons_zero, List.set_cons_succ]
            refine wpAnyH_done (by kernel_rfl) ?_ _
            go_wp2
            exact ⟨⟨i + 1, by omega, by omega, by go_num, HB5.out.drew.trans (hb6.mono HB5.out.drew.size)⟩, by simp [intOf]; omega⟩
          · by_cases hl : i < bn
            · have kk : (i : Int) < (bn : Int) := by omega
              have kk60 : ¬ (i : Int) < 60 := by omega
              clear hbw hlt
              go_wp2_with fail
              refine (HLV.out _ (HW.out.1)).mono ?_
              rintro e V ⟨rfl, hb⟩
              go_wp2
              go_ret
              exact ⟨rfl, hb⟩
            · have kk : ¬ (i : Int) < (bn : Int) := by omega
              clear hbw hlt
              go_wp2_with fail
              refine (HLV.out _ (HW.out.1)).mono ?_
              rintro e V ⟨rfl, hb⟩
              go_wp2
              go_ret
              exact ⟨rfl, hb⟩
      · have k0 : (er == 0) = false := by simpa using h0
        have k0n : (er != 0) = true := by simpa using h0
        go_wp2_with fail
        refine (HLV.out _ (HB.out)).mono ?_
        rintro e V ⟨rfl, hb⟩
        go_wp2
        go_ret
        exact ⟨rfl, hb⟩

set_option linter.unusedVariables false in
set_option maxRecDepth 100000 in
theorem lifted (os : Os) (started : os.Started) (H : Type) (enc : TypeId × Value → H) :
    ReturnsInHanded {} Tryd.checked os 7 .any (fun w args => (Rows.signFoundSpec.pre enc Tryd.prog Tryd.f7 [] false w args ∧ laidMetH Tryd.prog laid2 w) ∧ sizedMet enc Tryd.prog Tryd.f7 (OpenSpec.ofChange Rows.signFoundSpec) false w args) (Rows.signFoundSpec.post enc Tryd.prog Tryd.f7 false true false false) := by
  refine returnsInHanded_of_change_and (C := Tryd.checked) (X := fun w _ => laidMetH Tryd.prog laid2 w) (fun _ _ _ hh h => h.of_heap hh) own started (by kernel_rfl) Tryd.func7
    (ChangeSpec.witness_shaped (enc := enc) (C := Tryd.checked) (os := os) (X := fun w _ => laidMetH Tryd.prog laid2 w) false (World.doorLaid Tryd.prog 19 os) #[.string ByteArray.empty, .string ByteArray.empty, .int .i64 0] 8 rfl (World.shaped_of_RefB (by kernel_rfl) (by kernel_rfl)) (by kernel_rfl) (by kernel_rfl) (by kernel_rfl) (door_met os _)) ?_
  intro W base args ds gs before hval0 hW _ hsz0 hL _
  have hval : ∀ (j : Nat) t v, Tryd.f7.params[j]? = some t → args[j]? = some v → Value.okWide Tryd.prog W .any base t v := hval0
  have hsz : (DataW.weightsEach Tryd.prog (Tryd.f7.params.toList ++ Rows.signFoundSpec.plain.varTypes Tryd.prog) (ds ++ gs)).all (· ≤ reachBytes) = true := hsz0
  have hW' := hW
  obtain ⟨p, q, hA0, hV, rfl, hfz, hnd⟩ := hW
  have hA : DataW.TrodAll enc Tryd.prog W 0 (fun _ => true) true Tryd.f7.params.toList args.toList ds p := hA0
  rw [Tryd.params7] at hA hval hsz
  obtain ⟨v0, vs0, d0, ds0, p0, q0, hargs, rfl, rfl, h0, r0⟩ := trodAll_cons hA
  obtain ⟨v1, vs1, d1, ds1, p1, q1, rfl, rfl, rfl, h1, r1⟩ := trodAll_cons r0
  obtain ⟨v2, vs2, d2, ds2, p2, q2, rfl, rfl, rfl, h2, r2⟩ := trodAll_cons r1
  obtain ⟨rfl, rfl, rfl⟩ := trodAll_nil r2
  obtain rfl : args = #[v0, v1, v2] := by cases args; simp_all
  obtain ⟨rfl, rfl⟩ := trodVars_none hV
  obtain ⟨s0, rfl, rfl, rfl, w0⟩ := open_string Tryd.underlying9 (hval 0 9 v0 rfl rfl) h0
  have z0 : s0.size ≤ 140737488351232 := by
    have := sized_string hsz (j := 0) (t := 9) rfl rfl
    simpa [reachBytes] using this
  obtain ⟨s1, rfl, rfl, rfl, w1⟩ := open_string Tryd.underlying9 (hval 1 9 v1 rfl rfl) h1
  have z1 : s1.size ≤ 140737488351232 := by
    have := sized_string hsz (j := 1) (t := 9) rfl rfl
    simpa [reachBytes] using this
  obtain ⟨x2, rfl, rfl, rfl, w2⟩ := open_int Tryd.underlying3 (hval 2 3 v2 rfl rfl) h2
  clear hA0 hval0 hsz hsz0
  refine (walk s0 z0 s1 z1 x2 (wf_i64 w2) W  (of_laid hL)).mono fun e W' ⟨he, bel⟩ => ?_
  subst he
  exact ⟨_, rfl, _, _, _, [], _, [], hW', trodAll_mk1 (shut_bool Tryd.underlying4 _), (trodAll_cons_mk (shut_string Tryd.underlying9 w0) (trodAll_cons_mk (shut_string Tryd.underlying9 w1) (trodAll_cons_mk (shut_int Tryd.underlying3 w2) trodAll_mk0))), rfl, bel.frame _, fun h => by cases h⟩

theorem over : Rows.signFoundRow.holds Tryd.pinned (OpenSpec.ofChange Rows.signFoundSpec) :=
  OpenClaim.holds_of_wide 7 Tryd.f7 rfl rfl rfl rfl rfl rfl rfl ⟨rfl, rfl, rfl, rfl, rfl⟩ rfl rfl rfl rfl rfl (by kernel_rfl) Tryd.func7 (by kernel_rfl)
    (of_decide_eq_true (by kernel_rfl)) (by unfold Func.isWrapper; first | (rw [if_pos (by decide +kernel)]; kernel_rfl) | (rw [if_neg (by decide +kernel)]; exact ⟨rfl, rfl⟩))
    (fun os started H enc _ => lifted os started H enc)

end Go.Proofs.YthmikfkdjnidmaaDoor.signFound
namespace Go.Proofs.YthmikfkdjnidmaaDoor
/-- The given statement. -/
theorem signFound_holds : Rows.SignFoundCardSaid :=
  Claim7.holds_tied_plain_at .later [] [.data, .data] true (true, "9366dbee3e6b8144bc6f035be57a0a175d8cc15111da3a5f955b6f509a08af4f") false
    signFound.over (fun _ h => by cases h) (by kernel_rfl) (fun _ h => by cases h) signFound_row_tie rfl ⟨rfl, rfl⟩ (by kernel_rfl) rfl
    (fun f fn hf hfn => by
      obtain rfl : f = 7 := Option.some.inj ((show Tryd.prog.funcNamed "strongroom/strongroomlaw10.SignFound" = some 7 by kernel_rfl).symm.trans hf) |>.symm
      obtain rfl : fn = Tryd.f7 := (Option.some.inj (Tryd.func7.symm.trans hfn)).symm
      exact ⟨by kernel_rfl, fun j t ht => by
        rw [Tryd.params7] at ht
        rcases j with _ | _ | _ | j
        · obtain rfl : t = 9 := by simpa using ht.symm
          exact (show Tryd.prog.wantsStandIn 9 = false by kernel_rfl)
        · obtain rfl : t = 9 := by simpa using ht.symm
          exact (show Tryd.prog.wantsStandIn 9 = false by kernel_rfl)
        · obtain rfl : t = 3 := by simpa using ht.symm
          exact (show Tryd.prog.wantsStandIn 3 = false by kernel_rfl)
        · simp at ht
      ⟩)
    (by kernel_rfl)
#print axioms signFound_holds
end Go.Proofs.YthmikfkdjnidmaaDoor
