/- ShelfRoom: as long as there must be room, there is. -/
import Derived.Test.YtnafalkcgghjgaaDoorSU
import Derived.Test.YtnafalkcgghjgaaDoorCards
import Derived.Test.YtnafalkcgghjgaaDoorTie
import Derived.WalkKit
import Derived.ProofKit
import Derived.OpenShut
import Derived.ShutString
import Derived.ChangeOld
import Derived.Below
import Derived.LaidMore
import Derived.Lay
import Derived.Stop.Joined
import Derived.SevenTiedAt
namespace Go.Proofs.YtnafalkcgghjgaaDoor.shelfRoom
open Go.ChangeShapes Go.WideShapes Go.ChangeAt Go.RowKit
theorem own : ownKnob Tryd.prog.godebug = none := by kernel_rfl
theorem laidOut : laidOutB Tryd.prog = true := by kernel_rfl

set_option maxRecDepth 100000 in
set_option maxHeartbeats 4000000 in
theorem walk (x0 : Int) (z0 : -9223372036854775808 ≤ x0 ∧ x0 ≤ 9223372036854775807) (a1 : Option Addr) (len1 cap1 : Nat) (l1 : List OV) (y1 : len1 ≤ 140737488351232) (a2 : Option Addr) (len2 cap2 : Nat) (l2 : List OV) (y2 : len2 ≤ 140737488351232) (w : World) (w1 : Os w a1 len1 cap1 l1) (w2 : Os w a2 len2 cap2 l2) :
    Calls Tryd.prog 3 #[.int .i64 x0, .slice a1 len1 cap1, .slice a2 len2 cap2] w fun e w' => e = .returned (.bool true) ∧ Below w.heap.size w w' := by
  by_cases hx : x0 < 2 ∨ 12 < x0
  · have HO := opened_none x0 w hx
    have HLV := lives_any w
    by_cases h2 : x0 < 2
    · clear hx
      go_enter Tryd.func3, Tryd.ntmps3
      go_wp2_with fail
      refine HO.mono ?_
      rintro e V ⟨rfl, hV⟩
      subst V
      clear HO
      go_wp2_with fail
      refine HLV.mono ?_
      rintro e w1 ⟨rfl, hb⟩
      have HB : Hid (Below w.heap.size w w1) := hb
      clear HLV hb
      go_wp2
      go_ret
      exact ⟨rfl, HB.out⟩
    · have h12 : 12 < x0 := by omega
      clear hx
      go_enter Tryd.func3, Tryd.ntmps3
      go_wp2_with fail
      refine HO.mono ?_
      rintro e V ⟨rfl, hV⟩
      subst V
      clear HO
      go_wp2_with fail
      refine HLV.mono ?_
      rintro e w1 ⟨rfl, hb⟩
      have HB : Hid (Below w.heap.size w w1) := hb
      clear HLV hb
      go_wp2
      go_ret
      exact ⟨rfl, HB.out⟩
  · obtain ⟨n, rfl⟩ := Int.eq_ofNat_of_zero_le (show 0 ≤ x0 by omega)
    have hn2 : 2 ≤ n := by omega
    have hn12 : n ≤ 12 := by omega
    have HO := opened_any n hn2 hn12 w
    have HOS1 : Hid (Os w a1 len1 cap1 l1) := w1
    have HOS2 : Hid (Os w a2 len2 cap2 l2) := w2
    clear hx z0 w1 w2
    go_enter Tryd.func3, Tryd.ntmps3
    go_wp2_with fail
    refine HO.mono ?_
    rintro e w1 ⟨g, jb, sb, F1, S, KK, rfl, ht, _, _, hb⟩
    have HK0 : Hid (Kept w w1 S g (Dk.new (8 * n + 1) nought) sb jb n KK) := ⟨F1, KK, ht, hb⟩
    obtain ⟨D, hD⟩ : ∃ D, Dk.new (8 * n + 1) nought = D := ⟨_, rfl⟩
    rw [hD] at HK0
    clear HO ht hb hD
    go_wp2
    go_loopw [10] (fun v wr => ∃ i : Nat, i ≤ 120 ∧ i ≤ len1 + len2 ∧ v = .int .i64 i ∧ Kept w wr S g D sb jb n KK) (fun v _ => 121 - (intOf v).toNat)
    case atStart => exact ⟨0, by omega, by omega, rfl, HK0.out⟩
    case round =>
      clear HK0
      obtain ⟨i, hi, hil, rfl, hk⟩ := hrel
      have HK : Hid (Kept w wr S g D sb jb n KK) := hk
      clear hk
      by_cases hgo : i < len1 + len2 ∧ i < 120
      · have k1 : (i : Int) < (len1 : Int) + (len2 : Int) := by omega
        have k2 : (i : Int) < 120 := by omega
        have kb1 : -9223372036854775808 ≤ (len1 : Int) + (len2 : Int) := by omega
        have kb2 : (len1 : Int) + (len2 : Int) ≤ 9223372036854775807 := by omega
        clear hgo
        by_cases h1 : i < len1
        · have k3 : (i : Int) < (len1 : Int) := by omega
          obtain ⟨b, oo, x, rfl, hbl, hin, hcs⟩ := HOS1.out.cells h1
          obtain ⟨kd, nn, lo, ke, ti, va⟩ := x
          simp only at hcs
          have HIN : Hid (OV.In ⟨kd, nn, lo, ke, ti, va⟩) := hin
          obtain ⟨W0, hW0⟩ : ∃ W0, wr.alloc (.cells #[.int .i64 0, .int .i64 0, .int .i64 0, .string ⟨#[]⟩, .string ⟨#[]⟩, .string ⟨#[]⟩] 30) = W0 := ⟨_, rfl⟩
          have hbW0 : Below w.heap.size w W0 := by rw [← hW0]; exact HK.out.on.alloc HK.out.on.size _
          obtain ⟨e0, e1, e2, e3, e4, e5⟩ := hcs _ hbW0
          rw [← hW0] at e0 e1 e2 e3 e4 e5
          have hob : wr.heap.size < (wr.alloc (.cells #[.int .i64 kd, .int .i64 nn, .int .i64 lo, .string ke, .string ti, .string va] 30)).heap.size := by simp
          have HC1 : Hid ((wr.alloc (.cells #[.int .i64 kd, .int .i64 nn, .int .i64 lo, .string ke, .string ti, .string va] 30)).cell? ⟨wr.heap.size, 0, none⟩ = some (.int .i64 kd) ∧ (wr.alloc (.cells #[.int .i64 kd, .int .i64 nn, .int .i64 lo, .string ke, .string ti, .string va] 30)).cell? ⟨wr.heap.size, 1, none⟩ = some (.int .i64 nn) ∧ (wr.alloc (.cells #[.int .i64 kd, .int .i64 nn, .int .i64 lo, .string ke, .string ti, .string va] 30)).cell? ⟨wr.heap.size, 2, none⟩ = some (.int .i64 lo) ∧ (wr.alloc (.cells #[.int .i64 kd, .int .i64 nn, .int .i64 lo, .string ke, .string ti, .string va] 30)).cell? ⟨wr.heap.size, 3, none⟩ = some (.string ke) ∧ (wr.alloc (.cells #[.int .i64 kd, .int .i64 nn, .int .i64 lo, .string ke, .string ti, .string va] 30)).cell? ⟨wr.heap.size, 4, none⟩ = some (.string ti) ∧ (wr.alloc (.cells #[.int .i64 kd, .int .i64 nn, .int .i64 lo, .string ke, .string ti, .string va] 30)).cell? ⟨wr.heap.size, 5, none⟩ = some (.string va)) :=
            ⟨by rw [cell_of_row _ wr.heap.size _ _ _ _ (heap_alloc_new wr _)]; rfl, by rw [cell_of_row _ wr.heap.size _ _ _ _ (heap_alloc_new wr _)]; rfl, by rw [cell_of_row _ wr.heap.size _ _ _ _ (heap_alloc_new wr _)]; rfl, by rw [cell_of_row _ wr.heap.size _ _ _ _ (heap_alloc_new wr _)]; rfl, by rw [cell_of_row _ wr.heap.size _ _ _ _ (heap_alloc_new wr _)]; rfl, by rw [cell_of_row _ wr.heap.size _ _ _ _ (heap_alloc_new wr _)]; rfl⟩
          have hbw1 : Below wr.heap.size wr (wr.alloc (.cells #[.int .i64 kd, .int .i64 nn, .int .i64 lo, .string ke, .string ti, .string va] 30)) := (Below.refl _ wr).alloc (Nat.le_refl _) _
          have HK1 : Hid (Kept w (wr.alloc (.cells #[.int .i64 kd, .int .i64 nn, .int .i64 lo, .string ke, .string ti, .string va] 30)) S g D sb jb n KK) := HK.out.below hbw1
          clear hin hcs hbW0 hW0 hbw1 HK
          have HLI : Calls Tryd.prog 6 #[.agg #[.int .i64 kd, .int .i64 nn, .int .i64 lo, .string ke, .string ti, .string va]] (wr.alloc (.cells #[.int .i64 kd, .int .i64 nn, .int .i64 lo, .string ke, .string ti, .string va] 30)) fun e w' => e = .returned (.bool (decide (OV.w ⟨kd, nn, lo, ke, ti, va⟩ ≤ 2000))) ∧ Below (wr.alloc (.cells #[.int .i64 kd, .int .i64 nn, .int .i64 lo, .string ke, .string ti, .string va] 30)).heap.size (wr.alloc (.cells #[.int .i64 kd, .int .i64 nn, .int .i64 lo, .string ke, .string ti, .string va] 30)) w' := light_any ⟨kd, nn, lo, ke, ti, va⟩ HIN.out (wr.alloc (.cells #[.int .i64 kd, .int .i64 nn, .int .i64 lo, .string ke, .string ti, .string va] 30))
          obtain ⟨q, hq⟩ : ∃ q, decide (OV.w ⟨kd, nn, lo, ke, ti, va⟩ ≤ 2000) = q := ⟨_, rfl⟩
          rw [hq] at HLI
          clear hq
          go_wp2_with fail
          refine HLI.mono ?_
          rintro e V1 ⟨rfl, hbv1⟩
          obtain ⟨d0, d1, d2, d3, d4, d5⟩ : V1.cell? ⟨wr.heap.size, 0, none⟩ = some (.int .i64 kd) ∧ V1.cell? ⟨wr.heap.size, 1, none⟩ = some (.int .i64 nn) ∧ V1.cell? ⟨wr.heap.size, 2, none⟩ = some (.int .i64 lo) ∧ V1.cell? ⟨wr.heap.size, 3, none⟩ = some (.string ke) ∧ V1.cell? ⟨wr.heap.size, 4, none⟩ = some (.string ti) ∧ V1.cell? ⟨wr.heap.size, 5, none⟩ = some (.string va) :=
            ⟨by rw [hbv1.cell hob]; exact HC1.out.1, by rw [hbv1.cell hob]; exact HC1.out.2.1, by rw [hbv1.cell hob]; exact HC1.out.2.2.1, by rw [hbv1.cell hob]; exact HC1.out.2.2.2.1, by rw [hbv1.cell hob]; exact HC1.out.2.2.2.2.1, by rw [hbv1.cell hob]; exact HC1.out.2.2.2.2.2⟩
          have hob1 : wr.heap.size < V1.heap.size := Nat.lt_of_lt_of_le hob hbv1.size
          have HKV1 : Hid (Kept w V1 S g D sb jb n KK) := HK1.out.below hbv1
          clear HLI hbv1 HK1 HC1 hob e0 e1 e2 e3 e4 e5
          cases q with
          | false =>
            have HLV := lives_h HKV1.out.on
            go_wp2_with fail
            refine HLV.mono ?_
            rintro e V2 ⟨rfl, hb2⟩
            have HB2 : Hid (Below w.heap.size w V2) := hb2
            clear HLV hb2
            go_wp2
            go_ret
            exact ⟨rfl, HB2.out⟩
          | true =>
            by_cases q1 : kd = 1
            · subst q1
              have HDR := kept_drop HKV1.out ke
              go_wp2_with fail
              refine HDR.mono ?_
              rintro e V2 ⟨y, rfl, hh2⟩
              have HH2 : Hid (Kept w V2 S g D sb jb n KK) := hh2
              clear HDR hh2
              go_wp2
              exact ⟨⟨i + 1, by omega, by omega, by go_num, HH2.out⟩, by simp [intOf]; omega⟩
            · have q2 : (kd == 1) = false := by simpa using q1
              have HVA : Calls Tryd.prog 8 #[.agg #[.int .i64 kd, .int .i64 nn, .int .i64 lo, .string ke, .string ti, .string va]] V1 fun e w' => e = .returned (.string (OV.val ⟨kd, nn, lo, ke, ti, va⟩)) ∧ Below V1.heap.size V1 w' := value_any ⟨kd, nn, lo, ke, ti, va⟩ HIN.out V1
              have hvs : (OV.val ⟨kd, nn, lo, ke, ti, va⟩).size ≤ 140737488351232 := val_le _ HIN.out
              have hks : ke.size ≤ 140737488351232 := HIN.out.2.2.2.1
              obtain ⟨T, hT⟩ : ∃ T, OV.val ⟨kd, nn, lo, ke, ti, va⟩ = T := ⟨_, rfl⟩
              rw [hT] at HVA hvs
              clear hT
              go_wp2_with fail
              refine HVA.mono ?_
              rintro e V2 ⟨rfl, hb2⟩
              have f3 : V2.cell? ⟨wr.heap.size, 3, none⟩ = some (.string ke) := by rw [hb2.cell hob1]; exact d3
              have hob2 : wr.heap.size < V2.heap.size := Nat.lt_of_lt_of_le hob1 hb2.size
              have HKV2 : Hid (Kept w V2 S g D sb jb n KK) := HKV1.out.below hb2
              have HMY := may_any ke T hks hvs V2
              clear HVA hb2 d0 d1 d2 d3 d4 d5 hob1 HKV1
              obtain ⟨my, hmy⟩ : ∃ my, decide (May (ke, T)) = my := ⟨_, rfl⟩
              rw [hmy] at HMY
              go_wp2_with fail
              refine HMY.mono ?_
              rintro e V ⟨rfl, hV⟩
              subst V
              clear HMY
              cases my with
              | false =>
                clear hmy
                go_wp2
                exact ⟨⟨i + 1, by omega, by omega, by go_num, HKV2.out⟩, by simp [intOf]; omega⟩
              | true =>
                have hmay : May (ke, T) := of_decide_eq_true hmy
                have hms := (may_iff ke T).1 hmay
                clear hmy
                obtain ⟨F2, L4, ht2, hbw2⟩ := HKV2.out
                have HG := get_any ht2 ke
                have HTT : Hid (Tab w.heap.size F2 V2 S g D sb jb n L4 KK ∧ Below w.heap.size w V2) := ⟨ht2, hbw2⟩
                have htot := ht2.total
                have HRE0 := room_eq (flat (lfs L4)) ke T
                have hwas := get_le (flat (lfs L4)) ke T
                simp only [eSz] at hwas
                obtain ⟨was, hws⟩ : ∃ was, (getT (flat (lfs L4)) ke).getD ByteArray.empty = was := ⟨_, rfl⟩
                obtain ⟨it, hit⟩ : ∃ it, isT (flat (lfs L4)) ke = it := ⟨_, rfl⟩
                obtain ⟨sz, hsz⟩ : ∃ sz, szL (flat (lfs L4)) = sz := ⟨_, rfl⟩
                rw [hws, hit] at HG
                rw [hws, hit, hsz] at HRE0
                rw [hws, hsz] at hwas
                rw [hsz] at htot
                have HSE : Hid (szL (flat (lfs L4)) = sz) := hsz
                clear ht2 hbw2 HKV2 hws hit hsz
                go_wp2_with fail
                refine HG.mono ?_
                rintro e V4 ⟨rfl, hb4⟩
                obtain ⟨F4, hF4⟩ : ∃ F4, Tab w.heap.size F4 V4.drew S g D sb jb n L4 KK := ⟨_, (HTT.out.1.below hb4).below (Below.refl _ _).drew⟩
                have HB4 : Below w.heap.size w V4.drew := (HTT.out.2.trans (hb4.mono HTT.out.2.size)).drew
                have hob4 : wr.heap.size < V4.heap.size := Nat.lt_of_lt_of_le hob2 hb4.size
                have g3 : V4.cell? ⟨wr.heap.size, 3, none⟩ = some (.string ke) := by rw [hb4.cell hob2]; exact f3
                have g3d : V4.drew.cell? ⟨wr.heap.size, 3, none⟩ = some (.string ke) := by
                  rw [((Below.refl V4.heap.size V4).drew).cell hob4]; exact g3
                have HK4 : Hid (Tab w.heap.size F4 V4.drew S g D sb jb n L4 KK ∧ Below w.heap.size w V4.drew ∧ V4.drew.cell? ⟨wr.heap.size, 3, none⟩ = some (.string ke)) := ⟨hF4, HB4, g3d⟩
                have hsv := size_any' hF4
                rw [HSE.out] at hsv
                have HSZ : Hid (Calls Tryd.prog 11 #[.pointer (some ⟨sb, 0, none⟩)] V4.drew fun e w' => e = .returned (.int .i64 (sz : Int)) ∧ Below V4.drew.heap.size V4.drew w') := hsv
                have HK45 : Hid (∀ V5, Below V4.drew.heap.size V4.drew V5 → Tab w.heap.size (mor F4 V4.drew V5) V5 S g D sb jb n L4 KK ∧ Below w.heap.size w V5 ∧ V5.cell? ⟨wr.heap.size, 3, none⟩ = some (.string ke)) := fun V5 h5 =>
                  ⟨hF4.below h5, HB4.trans (h5.mono HB4.size), by rw [h5.cell (World.block_lt_of_cell? _ _ g3d)]; exact g3d⟩
                clear HG hb4 hF4 HB4 f3 g3d hsv HTT hob2 hob4 g3
                have u1 : (sz : Int) ≤ 20000 := by omega
                have u2 : (ke.size : Int) ≤ 64 := by omega
                have u3 : (T.size : Int) ≤ 400 := by omega
                have u4 : (was.size : Int) ≤ 30000 := by omega
                have v1 : -9223372036854775808 ≤ (sz : Int) + 3 := by omega
                have v2 : (sz : Int) + 3 ≤ 9223372036854775807 := by omega
                have v3 : -9223372036854775808 ≤ (sz : Int) + 3 + (ke.size : Int) := by omega
                have v4 : (sz : Int) + 3 + (ke.size : Int) ≤ 9223372036854775807 := by omega
                have v5 : -9223372036854775808 ≤ (sz : Int) + 3 + (ke.size : Int) + (T.size : Int) := by omega
                have v6 : (sz : Int) + 3 + (ke.size : Int) + (T.size : Int) ≤ 9223372036854775807 := by omega
                go_wp2
                refine wp_region_held_drew (S := fun V => V.cell? ⟨wr.heap.size, 3, none⟩ = some (.string ke)) (by kernel_rfl) (HK4.out.2.2) (fun hHeld => ?_)
                refine wpAnyH_take (i := 0) (v := ?vr0) rfl (by kernel_rfl) (by kernel_rfl) (by kernel_rfl) (fun _ _ _ h => h) (Or.inl ⟨by first | kernel_rfl | rfl, ?yr0⟩) hHeld ?rr0
                case yr0 => (intro W hSW; (try dsimp only at hSW); go_simp; (try with_reducible rfl))
                change wpAnyH _ _ _ _ _ _ _ (Act.put _ (some 88) _) _
                simp only [Act.put, List.setIfInBounds_toArray, List.set_cons_zero, List.set_cons_succ]
                refine wpAnyH_take (i := 3) (v := ?vr3) rfl (by kernel_rfl) (by kernel_rfl) (by kernel_rfl) (fun _ _ _ h => h) (Or.inl ⟨by first | kernel_rfl | rfl, ?yr3⟩) hHeld ?rr3
                case yr3 => (intro W hSW; (try dsimp only at hSW); go_simp; (try with_reducible rfl))
                change wpAnyH _ _ _ _ _ _ _ (Act.put _ (some 91) _) _
                simp only [Act.put, List.setIfInBounds_toArray, List.set_cons_zero, List.set_cons_succ]
                refine wpAnyH_take (i := 4) (v := ?vr4) rfl (by kernel_rfl) (by kernel_rfl) (by kernel_rfl) (fun _ _ _ h => h) (Or.inl ⟨by first | kernel_rfl | rfl, ?yr4⟩) hHeld ?rr4
                case yr4 => (intro W hSW; (try dsimp only at hSW); go_simp; (try with_reducible rfl))
                change wpAnyH _ _ _ _ _ _ _ (Act.put _ (some 92) _) _
                simp only [Act.put, List.setIfInBounds_toArray, List.set_cons_zero, List.set_cons_succ]
                refine wpAnyH_take (i := 5) (v := ?vr5) rfl (by kernel_rfl) (by kernel_rfl) (by kernel_rfl) (fun _ _ _ h => h) (Or.inl ⟨by first | kernel_rfl | rfl, ?yr5⟩) hHeld ?rr5
                case yr5 => (intro W hSW; (try dsimp only at hSW); go_simp; (try with_reducible rfl))
                change wpAnyH _ _ _ _ _ _ _ (Act.put _ (some 93) _) _
                simp only [Act.put, List.setIfInBounds_toArray, List.set_cons_zero, List.set_cons_succ]
                refine wpAnyH_take (i := 7) (v := ?vr7) rfl (by kernel_rfl) (by kernel_rfl) (by kernel_rfl) (fun _ _ _ h => h) (Or.inl ⟨by first | kernel_rfl | rfl, ?yr7⟩) hHeld ?rr7
                case yr7 => (intro W hSW; (try dsimp only at hSW); go_simp; (try with_reducible rfl))
                change wpAnyH _ _ _ _ _ _ _ (Act.put _ (some 95) _) _
                simp only [Act.put, List.setIfInBounds_toArray, List.set_cons_zero, List.set_cons_succ]
                refine wpAnyH_take (i := 8) (v := ?vr8) rfl (by kernel_rfl) (by kernel_rfl) (by kernel_rfl) (fun _ _ _ h => h) (Or.inl ⟨by first | kernel_rfl | rfl, ?yr8⟩) hHeld ?rr8
                case yr8 => (intro W hSW; (try dsimp only at hSW); go_simp; (try with_reducible rfl))
                change wpAnyH _ _ _ _ _ _ _ (Act.put _ (some 96) _) _
                simp only [Act.put, List.setIfInBounds_toArray, List.set_cons_zero, List.set_cons_succ]
                refine wpAnyH_ready (rs := [1]) (by kernel_rfl) (by simp) ?_
                refine AllReadyH.cons rfl (fun K hK => ?_) AllReadyH.nil
                go_simp
                refine (HSZ.out).mono ?_
                rintro e V5 ⟨rfl, hb5⟩; have HK5 : Hid (Tab w.heap.size (mor F4 V4.drew V5) V5 S g D sb jb n L4 KK ∧ Below w.heap.size w V5 ∧ V5.cell? ⟨wr.heap.size, 3, none⟩ = some (.string ke)) := HK45.out _ hb5; clear hb5
                refine hK.out _ _ (HK5.out.2.2) (fun hHeld => ?_)
                clear hK K
                try simp only [Act.put, List.setIfInBounds_toArray, List.set_cons_zero, List.set_cons_succ]
                refine wpAnyH_take (i := 2) (v := ?vr2) rfl (by kernel_rfl) (by kernel_rfl) (by kernel_rfl) (fun _ _ _ h => h) (Or.inl ⟨by first | kernel_rfl | rfl, ?yr2⟩) hHeld ?rr2
                case yr2 => (intro W hSW; (try dsimp only at hSW); go_simp; (try with_reducible rfl))
                change wpAnyH _ _ _ _ _ _ _ (Act.put _ (some 90) _) _
                simp only [Act.put, List.setIfInBounds_toArray, List.set_cons_zero, List.set_cons_succ]
                refine wpAnyH_take (i := 6) (v := ?vr6) rfl (by kernel_rfl) (by kernel_rfl) (by kernel_rfl) (fun _ _ _ h => h) (Or.inl ⟨by first | kernel_rfl | rfl, ?yr6⟩) hHeld ?rr6
                case yr6 => (intro W hSW; (try dsimp only at hSW); go_simp; (try with_reducible rfl))
                change wpAnyH _ _ _ _ _ _ _ (Act.put _ (some 94) _) _
                simp only [Act.put, List.setIfInBounds_toArray, List.set_cons_zero, List.set_cons_succ]
                refine wpAnyH_take (i := 9) (v := ?vr9) rfl (by kernel_rfl) (by kernel_rfl) (by kernel_rfl) (fun _ _ _ h => h) (Or.inl ⟨by first | kernel_rfl | rfl, ?yr9⟩) hHeld ?rr9
                case yr9 => (intro W hSW; (try dsimp only at hSW); go_simp; (try with_reducible rfl))
                change wpAnyH _ _ _ _ _ _ _ (Act.put _ (some 97) _) _
                simp only [Act.put, List.setIfInBounds_toArray, List.set_cons_zero, List.set_cons_succ]
                refine wpAnyH_take (i := 10) (v := ?vr10) rfl (by kernel_rfl) (by kernel_rfl) (by kernel_rfl) (fun _ _ _ h => h) (Or.inl ⟨by first | kernel_rfl | rfl, ?yr10⟩) hHeld ?rr10
                case yr10 => (intro W hSW; (try dsimp only at hSW); go_simp; (try with_reducible rfl))
                change wpAnyH _ _ _ _ _ _ _ (Act.put _ (some 15) _) _
                simp only [Act.put, List.setIfInBounds_toArray, List.set_cons_zero, List.set_cons_succ]
                refine wpAnyH_done (by kernel_rfl) ?_ _
                clear hHeld HK4 HSZ HK45
                obtain ⟨g3, _⟩ : V5.cell? ⟨wr.heap.size, 3, none⟩ = some (.string ke) ∧ True := ⟨HK5.out.2.2, trivial⟩
                cases it with
                | false =>
                  have HRE : Hid (((sz : Int) + 3 + (ke.size : Int) + (T.size : Int)) = (szL (putT (flat (lfs L4)) ke T) : Int)) := by
                    show _ = _
                    rw [← HRE0, if_neg (by simp)]
                  clear HRE0
                  have HPU := put_any HK5.out.1 ke T hmay
                  unfold PutTo at HPU
                  have HN : Hid (((sz : Int) + 3 + (ke.size : Int) + (T.size : Int)) = (szL (putT (flat (lfs L4)) ke T) : Int)) := HRE.out
                  clear HRE
                  go_wp2_with fail
                  refine HPU.mono ?_
                  rintro e V6 ⟨F6, L6, ht6, _, hb6, hres⟩
                  have HB6 : Hid (Below w.heap.size w V6) := HK5.out.2.1.trans hb6
                  clear HPU hb6
                  rcases hres with ⟨rfl, hfl⟩ | ⟨rfl, hL6, hlt⟩
                  · have HS6 := size_any' ht6
                    rw [hfl, ← HN.out] at HS6
                    have HT6 : Hid (Tab w.heap.size F6 V6 S g D sb jb n L6 KK) := ht6
                    clear hfl ht6
                    go_wp2_with fail
                    refine HS6.mono ?_
                    rintro e V7 ⟨rfl, hb7⟩
                    have HK7 : Hid (Kept w V7 S g D sb jb n KK) := ⟨_, L6, HT6.out.below hb7, HB6.out.trans (hb7.mono HB6.out.size)⟩
                    clear HS6 hb7
                    go_wp2
                    exact ⟨⟨i + 1, by omega, by omega, by go_num, HK7.out⟩, by simp [intOf]; omega⟩
                  · have kz : ¬ ((sz : Int) + 3 + (ke.size : Int) + (T.size : Int)) ≤ 510 * ((n : Int) - 2) := by
                      have := HN.out
                      omega
                    have HK7 : Hid (Kept w V6 S g D sb jb n KK) := ⟨F6, L6, ht6, HB6.out⟩
                    have kzd : decide (((sz : Int) + 3 + (ke.size : Int) + (T.size : Int)) ≤ 510 * ((n : Int) - 2)) = false := decide_eq_false kz
                    have p1 : -9223372036854775808 ≤ (n : Int) - 2 := by omega
                    have p2 : (n : Int) - 2 ≤ 9223372036854775807 := by omega
                    have p3 : -9223372036854775808 ≤ 510 * ((n : Int) - 2) := by omega
                    have p4 : 510 * ((n : Int) - 2) ≤ 9223372036854775807 := by omega
                    clear hL6 hlt ht6 kz
                    go_wp2
                    exact ⟨⟨i + 1, by omega, by omega, by go_num, HK7.out⟩, by simp [intOf]; omega⟩
                | true =>
                  have HRE : Hid (((sz : Int) + 3 + (ke.size : Int) + (T.size : Int) - 3 - (ke.size : Int) - (was.size : Int)) = (szL (putT (flat (lfs L4)) ke T) : Int)) := by
                    show _ = _
                    rw [← HRE0, if_pos rfl]
                  clear HRE0
                  have HPU := put_any HK5.out.1 ke T hmay
                  unfold PutTo at HPU
                  have HN : Hid (((sz : Int) + 3 + (ke.size : Int) + (T.size : Int) - 3 - (ke.size : Int) - (was.size : Int)) = (szL (putT (flat (lfs L4)) ke T) : Int)) := HRE.out
                  clear HRE
                  go_wp2_with fail
                  refine HPU.mono ?_
                  rintro e V6 ⟨F6, L6, ht6, _, hb6, hres⟩
                  have HB6 : Hid (Below w.heap.size w V6) := HK5.out.2.1.trans hb6
                  clear HPU hb6
                  rcases hres with ⟨rfl, hfl⟩ | ⟨rfl, hL6, hlt⟩
                  · have HS6 := size_any' ht6
                    rw [hfl, ← HN.out] at HS6
                    have HT6 : Hid (Tab w.heap.size F6 V6 S g D sb jb n L6 KK) := ht6
                    clear hfl ht6
                    go_wp2_with fail
                    refine HS6.mono ?_
                    rintro e V7 ⟨rfl, hb7⟩
                    have HK7 : Hid (Kept w V7 S g D sb jb n KK) := ⟨_, L6, HT6.out.below hb7, HB6.out.trans (hb7.mono HB6.out.size)⟩
                    clear HS6 hb7
                    go_wp2
                    exact ⟨⟨i + 1, by omega, by omega, by go_num, HK7.out⟩, by simp [intOf]; omega⟩
                  · have kz : ¬ ((sz : Int) + 3 + (ke.size : Int) + (T.size : Int) - 3 - (ke.size : Int) - (was.size : Int)) ≤ 510 * ((n : Int) - 2) := by
                      have := HN.out
                      omega
                    have HK7 : Hid (Kept w V6 S g D sb jb n KK) := ⟨F6, L6, ht6, HB6.out⟩
                    have kzd : decide (((sz : Int) + 3 + (ke.size : Int) + (T.size : Int) - 3 - (ke.size : Int) - (was.size : Int)) ≤ 510 * ((n : Int) - 2)) = false := decide_eq_false kz
                    have p1 : -9223372036854775808 ≤ (n : Int) - 2 := by omega
                    have p2 : (n : Int) - 2 ≤ 9223372036854775807 := by omega
                    have p3 : -9223372036854775808 ≤ 510 * ((n : Int) - 2) := by omega
                    have p4 : 510 * ((n : Int) - 2) ≤ 9223372036854775807 := by omega
                    clear hL6 hlt ht6 kz
                    go_wp2
                    exact ⟨⟨i + 1, by omega, by omega, by go_num, HK7.out⟩, by simp [intOf]; omega⟩
        · have k3 : ¬ (i : Int) < (len1 : Int) := by omega
          obtain ⟨m, hm⟩ : ∃ m, i - len1 = m := ⟨_, rfl⟩
          have k4 : (m : Int) < (len2 : Int) := by omega
          have k5 : (i : Int) - (len1 : Int) = (m : Int) := by omega
          obtain ⟨b, oo, x, rfl, hbl, hin, hcs⟩ := HOS2.out.cells (i := m) (by omega)
          clear hm
          obtain ⟨kd, nn, lo, ke, ti, va⟩ := x
          simp only at hcs
          have HIN : Hid (OV.In ⟨kd, nn, lo, ke, ti, va⟩) := hin
          obtain ⟨W0, hW0⟩ : ∃ W0, wr.alloc (.cells #[.int .i64 0, .int .i64 0, .int .i64 0, .string ⟨#[]⟩, .string ⟨#[]⟩, .string ⟨#[]⟩] 30) = W0 := ⟨_, rfl⟩
          have hbW0 : Below w.heap.size w W0 := by rw [← hW0]; exact HK.out.on.alloc HK.out.on.size _
          obtain ⟨e0, e1, e2, e3, e4, e5⟩ := hcs _ hbW0
          rw [← hW0] at e0 e1 e2 e3 e4 e5
          have hob : wr.heap.size < (wr.alloc (.cells #[.int .i64 kd, .int .i64 nn, .int .i64 lo, .string ke, .string ti, .string va] 30)).heap.size := by simp
          have HC1 : Hid ((wr.alloc (.cells #[.int .i64 kd, .int .i64 nn, .int .i64 lo, .string ke, .string ti, .string va] 30)).cell? ⟨wr.heap.size, 0, none⟩ = some (.int .i64 kd) ∧ (wr.alloc (.cells #[.int .i64 kd, .int .i64 nn, .int .i64 lo, .string ke, .string ti, .string va] 30)).cell? ⟨wr.heap.size, 1, none⟩ = some (.int .i64 nn) ∧ (wr.alloc (.cells #[.int .i64 kd, .int .i64 nn, .int .i64 lo, .string ke, .string ti, .string va] 30)).cell? ⟨wr.heap.size, 2, none⟩ = some (.int .i64 lo) ∧ (wr.alloc (.cells #[.int .i64 kd, .int .i64 nn, .int .i64 lo, .string ke, .string ti, .string va] 30)).cell? ⟨wr.heap.size, 3, none⟩ = some (.string ke) ∧ (wr.alloc (.cells #[.int .i64 kd, .int .i64 nn, .int .i64 lo, .string ke, .string ti, .string va] 30)).cell? ⟨wr.heap.size, 4, none⟩ = some (.string ti) ∧ (wr.alloc (.cells #[.int .i64 kd, .int .i64 nn, .int .i64 lo, .string ke, .string ti, .string va] 30)).cell? ⟨wr.heap.size, 5, none⟩ = some (.string va)) :=
            ⟨by rw [cell_of_row _ wr.heap.size _ _ _ _ (heap_alloc_new wr _)]; rfl, by rw [cell_of_row _ wr.heap.size _ _ _ _ (heap_alloc_new wr _)]; rfl, by rw [cell_of_row _ wr.heap.size _ _ _ _ (heap_alloc_new wr _)]; rfl, by rw [cell_of_row _ wr.heap.size _ _ _ _ (heap_alloc_new wr _)]; rfl, by rw [cell_of_row _ wr.heap.size _ _ _ _ (heap_alloc_new wr _)]; rfl, by rw [cell_of_row _ wr.heap.size _ _ _ _ (heap_alloc_new wr _)]; rfl⟩
          have hbw1 : Below wr.heap.size wr (wr.alloc (.cells #[.int .i64 kd, .int .i64 nn, .int .i64 lo, .string ke, .string ti, .string va] 30)) := (Below.refl _ wr).alloc (Nat.le_refl _) _
          have HK1 : Hid (Kept w (wr.alloc (.cells #[.int .i64 kd, .int .i64 nn, .int .i64 lo, .string ke, .string ti, .string va] 30)) S g D sb jb n KK) := HK.out.below hbw1
          clear hin hcs hbW0 hW0 hbw1 HK
          have HLI : Calls Tryd.prog 6 #[.agg #[.int .i64 kd, .int .i64 nn, .int .i64 lo, .string ke, .string ti, .string va]] (wr.alloc (.cells #[.int .i64 kd, .int .i64 nn, .int .i64 lo, .string ke, .string ti, .string va] 30)) fun e w' => e = .returned (.bool (decide (OV.w ⟨kd, nn, lo, ke, ti, va⟩ ≤ 2000))) ∧ Below (wr.alloc (.cells #[.int .i64 kd, .int .i64 nn, .int .i64 lo, .string ke, .string ti, .string va] 30)).heap.size (wr.alloc (.cells #[.int .i64 kd, .int .i64 nn, .int .i64 lo, .string ke, .string ti, .string va] 30)) w' := light_any ⟨kd, nn, lo, ke, ti, va⟩ HIN.out (wr.alloc (.cells #[.int .i64 kd, .int .i64 nn, .int .i64 lo, .string ke, .string ti, .string va] 30))
          obtain ⟨q, hq⟩ : ∃ q, decide (OV.w ⟨kd, nn, lo, ke, ti, va⟩ ≤ 2000) = q := ⟨_, rfl⟩
          rw [hq] at HLI
          clear hq
          go_wp2_with fail
          refine HLI.mono ?_
          rintro e V1 ⟨rfl, hbv1⟩
          obtain ⟨d0, d1, d2, d3, d4, d5⟩ : V1.cell? ⟨wr.heap.size, 0, none⟩ = some (.int .i64 kd) ∧ V1.cell? ⟨wr.heap.size, 1, none⟩ = some (.int .i64 nn) ∧ V1.cell? ⟨wr.heap.size, 2, none⟩ = some (.int .i64 lo) ∧ V1.cell? ⟨wr.heap.size, 3, none⟩ = some (.string ke) ∧ V1.cell? ⟨wr.heap.size, 4, none⟩ = some (.string ti) ∧ V1.cell? ⟨wr.heap.size, 5, none⟩ = some (.string va) :=
            ⟨by rw [hbv1.cell hob]; exact HC1.out.1, by rw [hbv1.cell hob]; exact HC1.out.2.1, by rw [hbv1.cell hob]; exact HC1.out.2.2.1, by rw [hbv1.cell hob]; exact HC1.out.2.2.2.1, by rw [hbv1.cell hob]; exact HC1.out.2.2.2.2.1, by rw [hbv1.cell hob]; exact HC1.out.2.2.2.2.2⟩
          have hob1 : wr.heap.size < V1.heap.size := Nat.lt_of_lt_of_le hob hbv1.size
          have HKV1 : Hid (Kept w V1 S g D sb jb n KK) := HK1.out.below hbv1
          clear HLI hbv1 HK1 HC1 hob e0 e1 e2 e3 e4 e5
          cases q with
          | false =>
            have HLV := lives_h HKV1.out.on
            go_wp2_with fail
            refine HLV.mono ?_
            rintro e V2 ⟨rfl, hb2⟩
            have HB2 : Hid (Below w.heap.size w V2) := hb2
            clear HLV hb2
            go_wp2
            go_ret
            exact ⟨rfl, HB2.out⟩
          | true =>
            by_cases q1 : kd = 1
            · subst q1
              have HDR := kept_drop HKV1.out ke
              go_wp2_with fail
              refine HDR.mono ?_
              rintro e V2 ⟨y, rfl, hh2⟩
              have HH2 : Hid (Kept w V2 S g D sb jb n KK) := hh2
              clear HDR hh2
              go_wp2
              exact ⟨⟨i + 1, by omega, by omega, by go_num, HH2.out⟩, by simp [intOf]; omega⟩
            · have q2 : (kd == 1) = false := by simpa using q1
              have HVA : Calls Tryd.prog 8 #[.agg #[.int .i64 kd, .int .i64 nn, .int .i64 lo, .string ke, .string ti, .string va]] V1 fun e w' => e = .returned (.string (OV.val ⟨kd, nn, lo, ke, ti, va⟩)) ∧ Below V1.heap.size V1 w' := value_any ⟨kd, nn, lo, ke, ti, va⟩ HIN.out V1
              have hvs : (OV.val ⟨kd, nn, lo, ke, ti, va⟩).size ≤ 140737488351232 := val_le _ HIN.out
              have hks : ke.size ≤ 140737488351232 := HIN.out.2.2.2.1
              obtain ⟨T, hT⟩ : ∃ T, OV.val ⟨kd, nn, lo, ke, ti, va⟩ = T := ⟨_, rfl⟩
              rw [hT] at HVA hvs
              clear hT
              go_wp2_with fail
              refine HVA.mono ?_
              rintro e V2 ⟨rfl, hb2⟩
              have f3 : V2.cell? ⟨wr.heap.size, 3, none⟩ = some (.string ke) := by rw [hb2.cell hob1]; exact d3
              have hob2 : wr.heap.size < V2.heap.size := Nat.lt_of_lt_of_le hob1 hb2.size
              have HKV2 : Hid (Kept w V2 S g D sb jb n KK) := HKV1.out.below hb2
              have HMY := may_any ke T hks hvs V2
              clear HVA hb2 d0 d1 d2 d3 d4 d5 hob1 HKV1
              obtain ⟨my, hmy⟩ : ∃ my, decide (May (ke, T)) = my := ⟨_, rfl⟩
              rw [hmy] at HMY
              go_wp2_with fail
              refine HMY.mono ?_
              rintro e V ⟨rfl, hV⟩
              subst V
              clear HMY
              cases my with
              | false =>
                clear hmy
                go_wp2
                exact ⟨⟨i + 1, by omega, by omega, by go_num, HKV2.out⟩, by simp [intOf]; omega⟩
              | true =>
                have hmay : May (ke, T) := of_decide_eq_true hmy
                have hms := (may_iff ke T).1 hmay
                clear hmy
                obtain ⟨F2, L4, ht2, hbw2⟩ := HKV2.out
                have HG := get_any ht2 ke
                have HTT : Hid (Tab w.heap.size F2 V2 S g D sb jb n L4 KK ∧ Below w.heap.size w V2) := ⟨ht2, hbw2⟩
                have htot := ht2.total
                have HRE0 := room_eq (flat (lfs L4)) ke T
                have hwas := get_le (flat (lfs L4)) ke T
                simp only [eSz] at hwas
                obtain ⟨was, hws⟩ : ∃ was, (getT (flat (lfs L4)) ke).getD ByteArray.empty = was := ⟨_, rfl⟩
                obtain ⟨it, hit⟩ : ∃ it, isT (flat (lfs L4)) ke = it := ⟨_, rfl⟩
                obtain ⟨sz, hsz⟩ : ∃ sz, szL (flat (lfs L4)) = sz := ⟨_, rfl⟩
                rw [hws, hit] at HG
                rw [hws, hit, hsz] at HRE0
                rw [hws, hsz] at hwas
                rw [hsz] at htot
                have HSE : Hid (szL (flat (lfs L4)) = sz) := hsz
                clear ht2 hbw2 HKV2 hws hit hsz
                go_wp2_with fail
                refine HG.mono ?_
                rintro e V4 ⟨rfl, hb4⟩
                obtain ⟨F4, hF4⟩ : ∃ F4, Tab w.heap.size F4 V4.drew S g D sb jb n L4 KK := ⟨_, (HTT.out.1.below hb4).below (Below.refl _ _).drew⟩
                have HB4 : Below w.heap.size w V4.drew := (HTT.out.2.trans (hb4.mono HTT.out.2.size)).drew
                have hob4 : wr.heap.size < V4.heap.size := Nat.lt_of_lt_of_le hob2 hb4.size
                have g3 : V4.cell? ⟨wr.heap.size, 3, none⟩ = some (.string ke) := by rw [hb4.cell hob2]; exact f3
                have g3d : V4.drew.cell? ⟨wr.heap.size, 3, none⟩ = some (.string ke) := by
                  rw [((Below.refl V4.heap.size V4).drew).cell hob4]; exact g3
                have HK4 : Hid (Tab w.heap.size F4 V4.drew S g D sb jb n L4 KK ∧ Below w.heap.size w V4.drew ∧ V4.drew.cell? ⟨wr.heap.size, 3, none⟩ = some (.string ke)) := ⟨hF4, HB4, g3d⟩
                have hsv := size_any' hF4
                rw [HSE.out] at hsv
                have HSZ : Hid (Calls Tryd.prog 11 #[.pointer (some ⟨sb, 0, none⟩)] V4.drew fun e w' => e = .returned (.int .i64 (sz : Int)) ∧ Below V4.drew.heap.size V4.drew w') := hsv
                have HK45 : Hid (∀ V5, Below V4.drew.heap.size V4.drew V5 → Tab w.heap.size (mor F4 V4.drew V5) V5 S g D sb jb n L4 KK ∧ Below w.heap.size w V5 ∧ V5.cell? ⟨wr.heap.size, 3, none⟩ = some (.string ke)) := fun V5 h5 =>
                  ⟨hF4.below h5, HB4.trans (h5.mono HB4.size), by rw [h5.cell (World.block_lt_of_cell? _ _ g3d)]; exact g3d⟩
                clear HG hb4 hF4 HB4 f3 g3d hsv HTT hob2 hob4 g3
                have u1 : (sz : Int) ≤ 20000 := by omega
                have u2 : (ke.size : Int) ≤ 64 := by omega
                have u3 : (T.size : Int) ≤ 400 := by omega
                have u4 : (was.size : Int) ≤ 30000 := by omega
                have v1 : -9223372036854775808 ≤ (sz : Int) + 3 := by omega
                have v2 : (sz : Int) + 3 ≤ 9223372036854775807 := by omega
                have v3 : -9223372036854775808 ≤ (sz : Int) + 3 + (ke.size : Int) := by omega
                have v4 : (sz : Int) + 3 + (ke.size : Int) ≤ 9223372036854775807 := by omega
                have v5 : -9223372036854775808 ≤ (sz : Int) + 3 + (ke.size : Int) + (T.size : Int) := by omega
                have v6 : (sz : Int) + 3 + (ke.size : Int) + (T.size : Int) ≤ 9223372036854775807 := by omega
                go_wp2
                refine wp_region_held_drew (S := fun V => V.cell? ⟨wr.heap.size, 3, none⟩ = some (.string ke)) (by kernel_rfl) (HK4.out.2.2) (fun hHeld => ?_)
                refine wpAnyH_take (i := 0) (v := ?vs0) rfl (by kernel_rfl) (by kernel_rfl) (by kernel_rfl) (fun _ _ _ h => h) (Or.inl ⟨by first | kernel_rfl | rfl, ?ys0⟩) hHeld ?rs0
                case ys0 => (intro W hSW; (try dsimp only at hSW); go_simp; (try with_reducible rfl))
                change wpAnyH _ _ _ _ _ _ _ (Act.put _ (some 88) _) _
                simp only [Act.put, List.setIfInBounds_toArray, List.set_cons_zero, List.set_cons_succ]
                refine wpAnyH_take (i := 3) (v := ?vs3) rfl (by kernel_rfl) (by kernel_rfl) (by kernel_rfl) (fun _ _ _ h => h) (Or.inl ⟨by first | kernel_rfl | rfl, ?ys3⟩) hHeld ?rs3
                case ys3 => (intro W hSW; (try dsimp only at hSW); go_simp; (try with_reducible rfl))
                change wpAnyH _ _ _ _ _ _ _ (Act.put _ (some 91) _) _
                simp only [Act.put, List.setIfInBounds_toArray, List.set_cons_zero, List.set_cons_succ]
                refine wpAnyH_take (i := 4) (v := ?vs4) rfl (by kernel_rfl) (by kernel_rfl) (by kernel_rfl) (fun _ _ _ h => h) (Or.inl ⟨by first | kernel_rfl | rfl, ?ys4⟩) hHeld ?rs4
                case ys4 => (intro W hSW; (try dsimp only at hSW); go_simp; (try with_reducible rfl))
                change wpAnyH _ _ _ _ _ _ _ (Act.put _ (some 92) _) _
                simp only [Act.put, List.setIfInBounds_toArray, List.set_cons_zero, List.set_cons_succ]
                refine wpAnyH_take (i := 5) (v := ?vs5) rfl (by kernel_rfl) (by kernel_rfl) (by kernel_rfl) (fun _ _ _ h => h) (Or.inl ⟨by first | kernel_rfl | rfl, ?ys5⟩) hHeld ?rs5
                case ys5 => (intro W hSW; (try dsimp only at hSW); go_simp; (try with_reducible rfl))
                change wpAnyH _ _ _ _ _ _ _ (Act.put _ (some 93) _) _
                simp only [Act.put, List.setIfInBounds_toArray, List.set_cons_zero, List.set_cons_succ]
                refine wpAnyH_take (i := 7) (v := ?vs7) rfl (by kernel_rfl) (by kernel_rfl) (by kernel_rfl) (fun _ _ _ h => h) (Or.inl ⟨by first | kernel_rfl | rfl, ?ys7⟩) hHeld ?rs7
                case ys7 => (intro W hSW; (try dsimp only at hSW); go_simp; (try with_reducible rfl))
                change wpAnyH _ _ _ _ _ _ _ (Act.put _ (some 95) _) _
                simp only [Act.put, List.setIfInBounds_toArray, List.set_cons_zero, List.set_cons_succ]
                refine wpAnyH_take (i := 8) (v := ?vs8) rfl (by kernel_rfl) (by kernel_rfl) (by kernel_rfl) (fun _ _ _ h => h) (Or.inl ⟨by first | kernel_rfl | rfl, ?ys8⟩) hHeld ?rs8
                case ys8 => (intro W hSW; (try dsimp only at hSW); go_simp; (try with_reducible rfl))
                change wpAnyH _ _ _ _ _ _ _ (Act.put _ (some 96) _) _
                simp only [Act.put, List.setIfInBounds_toArray, List.set_cons_zero, List.set_cons_succ]
                refine wpAnyH_ready (rs := [1]) (by kernel_rfl) (by simp) ?_
                refine AllReadyH.cons rfl (fun K hK => ?_) AllReadyH.nil
                go_simp
                refine (HSZ.out).mono ?_
                rintro e V5 ⟨rfl, hb5⟩; have HK5 : Hid (Tab w.heap.size (mor F4 V4.drew V5) V5 S g D sb jb n L4 KK ∧ Below w.heap.size w V5 ∧ V5.cell? ⟨wr.heap.size, 3, none⟩ = some (.string ke)) := HK45.out _ hb5; clear hb5
                refine hK.out _ _ (HK5.out.2.2) (fun hHeld => ?_)
                clear hK K
                try simp only [Act.put, List.setIfInBounds_toArray, List.set_cons_zero, List.set_cons_succ]
                refine wpAnyH_take (i := 2) (v := ?vs2) rfl (by kernel_rfl) (by kernel_rfl) (by kernel_rfl) (fun _ _ _ h => h) (Or.inl ⟨by first | kernel_rfl | rfl, ?ys2⟩) hHeld ?rs2
                case ys2 => (intro W hSW; (try dsimp only at hSW); go_simp; (try with_reducible rfl))
                change wpAnyH _ _ _ _ _ _ _ (Act.put _ (some 90) _) _
                simp only [Act.put, List.setIfInBounds_toArray, List.set_cons_zero, List.set_cons_succ]
                refine wpAnyH_take (i := 6) (v := ?vs6) rfl (by kernel_rfl) (by kernel_rfl) (by kernel_rfl) (fun _ _ _ h => h) (Or.inl ⟨by first | kernel_rfl | rfl, ?ys6⟩) hHeld ?rs6
                case ys6 => (intro W hSW; (try dsimp only at hSW); go_simp; (try with_reducible rfl))
                change wpAnyH _ _ _ _ _ _ _ (Act.put _ (some 94) _) _
                simp only [Act.put, List.setIfInBounds_toArray, List.set_cons_zero, List.set_cons_succ]
                refine wpAnyH_take (i := 9) (v := ?vs9) rfl (by kernel_rfl) (by kernel_rfl) (by kernel_rfl) (fun _ _ _ h => h) (Or.inl ⟨by first | kernel_rfl | rfl, ?ys9⟩) hHeld ?rs9
                case ys9 => (intro W hSW; (try dsimp only at hSW); go_simp; (try with_reducible rfl))
                change wpAnyH _ _ _ _ _ _ _ (Act.put _ (some 97) _) _
                simp only [Act.put, List.setIfInBounds_toArray, List.set_cons_zero, List.set_cons_succ]
                refine wpAnyH_take (i := 10) (v := ?vs10) rfl (by kernel_rfl) (by kernel_rfl) (by kernel_rfl) (fun _ _ _ h => h) (Or.inl ⟨by first | kernel_rfl | rfl, ?ys10⟩) hHeld ?rs10
                case ys10 => (intro W hSW; (try dsimp only at hSW); go_simp; (try with_reducible rfl))
                change wpAnyH _ _ _ _ _ _ _ (Act.put _ (some 15) _) _
                simp only [Act.put, List.setIfInBounds_toArray, List.set_cons_zero, List.set_cons_succ]
                refine wpAnyH_done (by kernel_rfl) ?_ _
                clear hHeld HK4 HSZ HK45
                obtain ⟨g3, _⟩ : V5.cell? ⟨wr.heap.size, 3, none⟩ = some (.string ke) ∧ True := ⟨HK5.out.2.2, trivial⟩
                cases it with
                | false =>
                  have HRE : Hid (((sz : Int) + 3 + (ke.size : Int) + (T.size : Int)) = (szL (putT (flat (lfs L4)) ke T) : Int)) := by
                    show _ = _
                    rw [← HRE0, if_neg (by simp)]
                  clear HRE0
                  have HPU := put_any HK5.out.1 ke T hmay
                  unfold PutTo at HPU
                  have HN : Hid (((sz : Int) + 3 + (ke.size : Int) + (T.size : Int)) = (szL (putT (flat (lfs L4)) ke T) : Int)) := HRE.out
                  clear HRE
                  go_wp2_with fail
                  refine HPU.mono ?_
                  rintro e V6 ⟨F6, L6, ht6, _, hb6, hres⟩
                  have HB6 : Hid (Below w.heap.size w V6) := HK5.out.2.1.trans hb6
                  clear HPU hb6
                  rcases hres with ⟨rfl, hfl⟩ | ⟨rfl, hL6, hlt⟩
                  · have HS6 := size_any' ht6
                    rw [hfl, ← HN.out] at HS6
                    have HT6 : Hid (Tab w.heap.size F6 V6 S g D sb jb n L6 KK) := ht6
                    clear hfl ht6
                    go_wp2_with fail
                    refine HS6.mono ?_
                    rintro e V7 ⟨rfl, hb7⟩
                    have HK7 : Hid (Kept w V7 S g D sb jb n KK) := ⟨_, L6, HT6.out.below hb7, HB6.out.trans (hb7.mono HB6.out.size)⟩
                    clear HS6 hb7
                    go_wp2
                    exact ⟨⟨i + 1, by omega, by omega, by go_num, HK7.out⟩, by simp [intOf]; omega⟩
                  · have kz : ¬ ((sz : Int) + 3 + (ke.size : Int) + (T.size : Int)) ≤ 510 * ((n : Int) - 2) := by
                      have := HN.out
                      omega
                    have HK7 : Hid (Kept w V6 S g D sb jb n KK) := ⟨F6, L6, ht6, HB6.out⟩
                    have kzd : decide (((sz : Int) + 3 + (ke.size : Int) + (T.size : Int)) ≤ 510 * ((n : Int) - 2)) = false := decide_eq_false kz
                    have p1 : -9223372036854775808 ≤ (n : Int) - 2 := by omega
                    have p2 : (n : Int) - 2 ≤ 9223372036854775807 := by omega
                    have p3 : -9223372036854775808 ≤ 510 * ((n : Int) - 2) := by omega
                    have p4 : 510 * ((n : Int) - 2) ≤ 9223372036854775807 := by omega
                    clear hL6 hlt ht6 kz
                    go_wp2
                    exact ⟨⟨i + 1, by omega, by omega, by go_num, HK7.out⟩, by simp [intOf]; omega⟩
                | true =>
                  have HRE : Hid (((sz : Int) + 3 + (ke.size : Int) + (T.size : Int) - 3 - (ke.size : Int) - (was.size : Int)) = (szL (putT (flat (lfs L4)) ke T) : Int)) := by
                    show _ = _
                    rw [← HRE0, if_pos rfl]
                  clear HRE0
                  have HPU := put_any HK5.out.1 ke T hmay
                  unfold PutTo at HPU
                  have HN : Hid (((sz : Int) + 3 + (ke.size : Int) + (T.size : Int) - 3 - (ke.size : Int) - (was.size : Int)) = (szL (putT (flat (lfs L4)) ke T) : Int)) := HRE.out
                  clear HRE
                  go_wp2_with fail
                  refine HPU.mono ?_
                  rintro e V6 ⟨F6, L6, ht6, _, hb6, hres⟩
                  have HB6 : Hid (Below w.heap.size w V6) := HK5.out.2.1.trans hb6
                  clear HPU hb6
                  rcases hres with ⟨rfl, hfl⟩ | ⟨rfl, hL6, hlt⟩
                  · have HS6 := size_any' ht6
                    rw [hfl, ← HN.out] at HS6
                    have HT6 : Hid (Tab w.heap.size F6 V6 S g D sb jb n L6 KK) := ht6
                    clear hfl ht6
                    go_wp2_with fail
                    refine HS6.mono ?_
                    rintro e V7 ⟨rfl, hb7⟩
                    have HK7 : Hid (Kept w V7 S g D sb jb n KK) := ⟨_, L6, HT6.out.below hb7, HB6.out.trans (hb7.mono HB6.out.size)⟩
                    clear HS6 hb7
                    go_wp2
                    exact ⟨⟨i + 1, by omega, by omega, by go_num, HK7.out⟩, by simp [intOf]; omega⟩
                  · have kz : ¬ ((sz : Int) + 3 + (ke.size : Int) + (T.size : Int) - 3 - (ke.size : Int) - (was.size : Int)) ≤ 510 * ((n : Int) - 2) := by
                      have := HN.out
                      omega
                    have HK7 : Hid (Kept w V6 S g D sb jb n KK) := ⟨F6, L6, ht6, HB6.out⟩
                    have kzd : decide (((sz : Int) + 3 + (ke.size : Int) + (T.size : Int) - 3 - (ke.size : Int) - (was.size : Int)) ≤ 510 * ((n : Int) - 2)) = false := decide_eq_false kz
                    have p1 : -9223372036854775808 ≤ (n : Int) - 2 := by omega
                    have p2 : (n : Int) - 2 ≤ 9223372036854775807 := by omega
                    have p3 : -9223372036854775808 ≤ 510 * ((n : Int) - 2) := by omega
                    have p4 : 510 * ((n : Int) - 2) ≤ 9223372036854775807 := by omega
                    clear hL6 hlt ht6 kz
                    go_wp2
                    exact ⟨⟨i + 1, by omega, by omega, by go_num, HK7.out⟩, by simp [intOf]; omega⟩
      · have HLV := lives_h HK.out.on
        by_cases hg1 : i < len1 + len2
        · have k1 : (i : Int) < (len1 : Int) + (len2 : Int) := by omega
          have k2 : ¬ (i : Int) < 120 := by omega
          have kb1 : -9223372036854775808 ≤ (len1 : Int) + (len2 : Int) := by omega
          have kb2 : (len1 : Int) + (len2 : Int) ≤ 9223372036854775807 := by omega
          clear hgo
          go_wp2_with fail
          refine HLV.mono ?_
          rintro e V2 ⟨rfl, hb2⟩
          have HB2 : Hid (Below w.heap.size w V2) := hb2
          clear HLV hb2
          go_wp2
          go_ret
          exact ⟨rfl, HB2.out⟩
        · have k1 : ¬ (i : Int) < (len1 : Int) + (len2 : Int) := by omega
          have kb1 : -9223372036854775808 ≤ (len1 : Int) + (len2 : Int) := by omega
          have kb2 : (len1 : Int) + (len2 : Int) ≤ 9223372036854775807 := by omega
          clear hgo
          go_wp2_with fail
          refine HLV.mono ?_
          rintro e V2 ⟨rfl, hb2⟩
          have HB2 : Hid (Below w.heap.size w V2) := hb2
          clear HLV hb2
          go_wp2
          go_ret
          exact ⟨rfl, HB2.out⟩

set_option linter.unusedVariables false in
set_option maxRecDepth 100000 in
theorem lifted (os : _root_.Go.Os) (started : os.Started) (H : Type) (enc : TypeId × Value → H) :
    ReturnsInHanded {} Tryd.checked os 3 .any (fun w args => (Rows.shelfRoomSpec.pre enc Tryd.prog Tryd.f3 Rows.shelfRoomRow.domain false w args ∧ laidMetH Tryd.prog Rows.shelfRoomRow.laid w) ∧ sizedMet enc Tryd.prog Tryd.f3 (OpenSpec.ofChange Rows.shelfRoomSpec) false w args) (Rows.shelfRoomSpec.post enc Tryd.prog Tryd.f3 false true false false) := by
  refine returnsInHanded_of_change_and (C := Tryd.checked) (X := fun w _ => laidMetH Tryd.prog Rows.shelfRoomRow.laid w) (fun _ _ _ hh h => h.of_heap hh) own started (by kernel_rfl) Tryd.func3
    (ChangeSpec.witness_shaped (enc := enc) (C := Tryd.checked) (os := os) (X := fun w _ => laidMetH Tryd.prog Rows.shelfRoomRow.laid w) false (World.laidAll Tryd.prog os Rows.shelfRoomRow.laid) #[.int .i64 0, .slice none 0 0, .slice none 0 0] 8 (World.laidAll_os _ _ _)
      (World.shaped_of_ZipB (by kernel_rfl) (by kernel_rfl)) (by kernel_rfl) (by kernel_rfl) (by kernel_rfl)
      (by rw [MakeChecks.laidMetH_plain _ _ _ (by kernel_rfl)]; exact laidMet_laidAll _ (by kernel_rfl) (by kernel_rfl))) ?_
  intro W base args ds gs before hval0 hW _ hsz0 hL _
  have hval : ∀ (j : Nat) t v, Tryd.f3.params[j]? = some t → args[j]? = some v → Value.okWide Tryd.prog W .any base t v := hval0
  have hsz : (DataW.weightsEach Tryd.prog (Tryd.f3.params.toList ++ Rows.shelfRoomSpec.plain.varTypes Tryd.prog) (ds ++ gs)).all (· ≤ reachBytes) = true := hsz0
  have hW' := hW
  obtain ⟨p, q, hA0, hV, rfl, hfz, hnd⟩ := hW
  have hA : DataW.TrodAll enc Tryd.prog W 0 (fun _ => true) true Tryd.f3.params.toList args.toList ds p := hA0
  rw [Tryd.params3] at hA hval hsz
  obtain ⟨v0, vs0, d0, ds0, p0, q0, hargs, rfl, rfl, h0, r0⟩ := trodAll_cons hA
  obtain ⟨v1, vs1, d1, ds1, p1, q1, rfl, rfl, rfl, h1, r1⟩ := trodAll_cons r0
  obtain ⟨v2, vs2, d2, ds2, p2, q2, rfl, rfl, rfl, h2, r2⟩ := trodAll_cons r1
  obtain ⟨rfl, rfl, rfl⟩ := trodAll_nil r2
  obtain rfl : args = #[v0, v1, v2] := by cases args; simp_all
  obtain ⟨rfl, rfl⟩ := trodVars_none hV
  obtain ⟨x0, rfl, rfl, rfl, w0⟩ := open_int Tryd.underlying3 (hval 0 3 v0 rfl rfl) h0
  have k1 := h1
  have lt1 : ∀ x ∈ p1, x.block < W.heap.size := by obtain ⟨m, hm⟩ := k1; exact DataW.trod_lt m _ _ _ hm
  obtain ⟨a1, len1, cap1, rfl⟩ := okWide_slice Tryd.underlying22 (hval 1 22 v1 rfl rfl)
  obtain ⟨l1, w1, y1⟩ : ∃ l, Os W a1 len1 cap1 l ∧ len1 ≤ 140737488351232 := by
    obtain ⟨fuel, hf⟩ := h1
    exact ops_in (j := 1) (by simpa [Value.cells] using hf) hsz rfl rfl
  have k2 := h2
  have lt2 : ∀ x ∈ p2, x.block < W.heap.size := by obtain ⟨m, hm⟩ := k2; exact DataW.trod_lt m _ _ _ hm
  obtain ⟨a2, len2, cap2, rfl⟩ := okWide_slice Tryd.underlying22 (hval 2 22 v2 rfl rfl)
  obtain ⟨l2, w2, y2⟩ : ∃ l, Os W a2 len2 cap2 l ∧ len2 ≤ 140737488351232 := by
    obtain ⟨fuel, hf⟩ := h2
    exact ops_in (j := 2) (by simpa [Value.cells] using hf) hsz rfl rfl
  clear hA0 hval0 hsz hsz0
  refine (walk x0 (wf_i64 w0) a1 len1 cap1 l1 y1 a2 len2 cap2 l2 y2 W w1 w2).mono fun e W' ⟨he, bel⟩ => ?_
  subst he
  exact ⟨_, rfl, _, _, _, [], _, [], hW', trodAll_mk1 (shut_bool Tryd.underlying4 _), (trodAll_cons_mk (shut_int Tryd.underlying3 w0) (trodAll_cons_mk (Below.trod laidOut (by kernel_rfl) (of_decide_eq_true (by kernel_rfl)) k1 bel lt1) (trodAll_cons_mk (Below.trod laidOut (by kernel_rfl) (of_decide_eq_true (by kernel_rfl)) k2 bel lt2) trodAll_mk0))), rfl, bel.frame _, fun h => by cases h⟩

theorem over : Rows.shelfRoomRow.holds Tryd.pinned (OpenSpec.ofChange Rows.shelfRoomSpec) :=
  OpenClaim.holds_of_wide 3 Tryd.f3 rfl rfl rfl rfl rfl rfl rfl ⟨rfl, rfl, rfl, rfl, rfl⟩ rfl rfl rfl rfl rfl (by kernel_rfl) Tryd.func3 (by kernel_rfl)
    (of_decide_eq_true (by kernel_rfl)) (by unfold Func.isWrapper; first | (rw [if_pos (by decide +kernel)]; kernel_rfl) | (rw [if_neg (by decide +kernel)]; exact ⟨rfl, rfl⟩))
    (fun os started H enc _ => lifted os started H enc)

end Go.Proofs.YtnafalkcgghjgaaDoor.shelfRoom
namespace Go.Proofs.YtnafalkcgghjgaaDoor
/-- The given statement. -/
theorem shelfRoom_holds : Rows.ShelfRoomCardSaid :=
  Claim7.holds_tied_plain_at .later [] [.data, .pinned] true (true, "bb8340586ab252b0dc73735df024f2efdb3a889b7d787b57e695310f2f3851cf") false
    shelfRoom.over (fun _ h => by cases h) (by kernel_rfl) (fun _ h => by cases h) shelfRoom_row_tie rfl ⟨rfl, rfl⟩ (by kernel_rfl) rfl
    (fun f fn hf hfn => by
      obtain rfl : f = 3 := Option.some.inj ((show Tryd.prog.funcNamed "strongroom/strongroomlaw08.ShelfRoom" = some 3 by kernel_rfl).symm.trans hf) |>.symm
      obtain rfl : fn = Tryd.f3 := (Option.some.inj (Tryd.func3.symm.trans hfn)).symm
      exact ⟨by kernel_rfl, fun j t ht => by
        rw [Tryd.params3] at ht
        rcases j with _ | _ | _ | j
        · obtain rfl : t = 3 := by simpa using ht.symm
          exact (show Tryd.prog.wantsStandIn 3 = false by kernel_rfl)
        · obtain rfl : t = 22 := by simpa using ht.symm
          exact (show Tryd.prog.wantsStandIn 22 = false by kernel_rfl)
        · obtain rfl : t = 22 := by simpa using ht.symm
          exact (show Tryd.prog.wantsStandIn 22 = false by kernel_rfl)
        · simp at ht
      ⟩)
    (by kernel_rfl)
#print axioms shelfRoom_holds
end Go.Proofs.YtnafalkcgghjgaaDoor
