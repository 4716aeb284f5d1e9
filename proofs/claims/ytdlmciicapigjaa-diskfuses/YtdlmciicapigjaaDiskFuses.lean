/- Proved: for every number of sectors, every n and fill, the law DiskFuses returns true, the three as they were. No condition: every input that can be read as data. -/
import Derived.Test.YtdlmciicapigjaaRows
import Derived.Test.YtdlmciicapigjaaN
import Derived.WalkKit
import Derived.ProofKit
import Derived.OpenShut
import Derived.ShutString
import Derived.ChangeOld
import Derived.Below
namespace Go.Proofs.Ytdlmciicapigjaa.diskFuses
open Go.ChangeShapes Go.WideShapes Go.ChangeAt Go.RowKit
theorem own : ownKnob Try.prog.godebug = none := by kernel_rfl
theorem laidOut : laidOutB Try.prog = true := by kernel_rfl

set_option maxRecDepth 100000 in
set_option maxHeartbeats 8000000 in
theorem walk (x0 : Int) (_z0 : -9223372036854775808 ≤ x0 ∧ x0 ≤ 9223372036854775807) (x1 : Int) (_z1 : -9223372036854775808 ≤ x1 ∧ x1 ≤ 9223372036854775807) (x2 : Nat) (z2 : x2 < 256) (w : World)  :
    Calls Try.prog 7 #[.int .i64 x0, .int .i64 x1, .int .u8 (x2 : Int)] w fun e w' => e = .returned (.bool true) ∧ Below w.heap.size w w' := by
  have HLV : Hid (∀ W, Below w.heap.size w W → Calls Try.prog 20 #[] W fun e w' => e = .returned (.bool true) ∧ Below w.heap.size w w') := fun W hW => lives_h hW
  have LAST : Hid (∀ W, Below w.heap.size w W → Calls Try.prog 20 #[] W fun e w' => e = .returned (.bool true) ∧ Below w.heap.size w w') := HLV
  by_cases hx : x0 < 1 ∨ 2048 < x0
  · have HN := new_bad x0 w hx
    clear hx
    go_enter Try.func7, Try.ntmps7
    go_wp2_with fail
    refine HN.mono ?_
    rintro e w1 ⟨rfl, hw1⟩
    subst w1
    clear HN
    go_wp2_with fail
    refine (HLV.out _ (Below.refl _ _)).mono ?_
    rintro e w3 ⟨rfl, hb3⟩
    go_wp2
    go_ret
    exact ⟨rfl, hb3⟩
  · obtain ⟨s, rfl⟩ := Int.eq_ofNat_of_zero_le (show 0 ≤ x0 by omega)
    have hs1 : 1 ≤ s := by omega
    have hs2 : s ≤ 2048 := by omega
    have HN := new_h (Below.refl w.heap.size w) s hs1 hs2
    clear hx
    go_enter Try.func7, Try.ntmps7
    go_wp2_with fail
    refine HN.mono ?_
    rintro e w1 ⟨g, rfl, hh1⟩
    have HH1 : Hid (Has w w1 g (Dk.new s nought)) := hh1
    clear HN hh1
    by_cases hn : x1 < 1 ∨ 300 < x1
    · by_cases hn1 : x1 < 1
      · clear hn
        go_wp2_with fail
        refine (HLV.out _ HH1.out.1).mono ?_
        rintro e w3 ⟨rfl, hb3⟩
        go_wp2
        go_ret
        exact ⟨rfl, hb3⟩
      · have hn2 : 300 < x1 := by omega
        clear hn
        go_wp2_with fail
        refine (HLV.out _ HH1.out.1).mono ?_
        rintro e w3 ⟨rfl, hb3⟩
        go_wp2
        go_ret
        exact ⟨rfl, hb3⟩
    · obtain ⟨n, rfl⟩ := Int.eq_ofNat_of_zero_le (show 0 ≤ x1 by omega)
      have kn1 : ¬ (n : Int) < 1 := by omega
      have kn2 : ¬ (300 : Int) < (n : Int) := by omega
      have hn1 : 1 ≤ n := by omega
      have hn3 : n ≤ 300 := by omega
      have HFU := fuse_h HH1.out n rfl (by omega)
      clear hn
      go_wp2_with fail
      refine HFU.mono ?_
      rintro e w2 ⟨rfl, hh2⟩
      have HH2 : Hid (Has w w2 g ((Dk.new s nought).fused n)) := hh2
      have hs0 : ¬ s = 0 := by omega
      clear HFU hh2 HH1
      go_wp2
      go_loopw [9] (fun v wr => ∃ (i : Nat) (D : Dk), 1 ≤ i ∧ i ≤ n + 1 ∧ v = .int .i64 i ∧ Has w wr g D ∧ D.kept.length = s ∧ D.writes = i - 1 ∧ D.waits.length = i - 1 ∧ D.fuse = n - (i - 1) ∧ D.up = decide (i ≤ n)) (fun v _ => n + 1 - (intOf v).toNat)
      case atStart => exact ⟨1, _, by omega, by omega, rfl, HH2.out, by simp [Dk.fused, Dk.new], rfl, rfl, rfl, by simp [Dk.fused, Dk.new, hn1]⟩
      case round =>
        clear HH2
        obtain ⟨i, D, hi1, hi2, rfl, hh, hk, hw, hwl, hfu, hup⟩ := hrel
        by_cases hlt : i ≤ n
        · have kk : (i : Int) ≤ (n : Int) := by omega
          have HH : Hid (Has w wr g D) := hh
          obtain ⟨a, ha⟩ : ∃ a, i % s = a := ⟨_, rfl⟩
          have has : a < s := by rw [← ha]; exact Nat.mod_lt _ (by omega)
          have hrem : Int.tmod (i : Int) (s : Int) = (a : Int) := by rw [← ha]; rfl
          have HU1 : Hid (Calls Try.prog 18 #[.pointer (some ⟨g, 0, none⟩)] wr.drew fun e w' => e = .returned (.bool true) ∧ w' = wr.drew) := by
            have := up_h hh.drew
            rw [hup, decide_eq_true hlt] at this
            exact this
          obtain ⟨T, hT⟩ : ∃ T, fillS 0 x2 = T := ⟨_, rfl⟩
          have hTs : T.size = 256 := by rw [← hT, fillS_size]; rfl
          have HFI : Hid (Calls Try.prog 27 #[.agg #[.int .i64 0, .int .i64 0, .int .i64 0, .int .u8 (x2 : Int), .slice none 0 0]] wr.drew fun e w' => e = .returned (.string T) ∧ Below wr.drew.heap.size wr.drew w') := by
            rw [← hT]; exact filled_any 0 0 0 x2 none 0 0 wr.drew z2
          obtain ⟨D', hD'⟩ : ∃ D', D.wrote a T = D' := ⟨_, rfl⟩
          have HWR : Hid (∀ V, Has w V g D → Calls Try.prog 11 #[.pointer (some ⟨g, 0, none⟩), .int .i64 (a : Int), .string T] V fun e w' => e = .returned (.int .i64 0) ∧ Has w w' g D') := by
            intro V hV
            rw [← hD']
            exact write_h hV a T (by rw [hup]; simpa using hlt) (by omega) hTs (by omega)
          have HWS : Hid (∀ V, Has w V g D' → Calls Try.prog 17 #[.pointer (some ⟨g, 0, none⟩)] V fun e w' => e = .returned (.int .i64 (i : Int)) ∧ w' = V) := by
            intro V hV
            have := writes_h hV
            rw [show D'.writes = i by rw [← hD']; show D.writes + 1 = i; omega] at this
            exact this
          have HD : Hid (D'.kept.length = s ∧ D'.writes = i ∧ D'.waits.length = i ∧ D'.fuse = n - i ∧ D'.up = decide (i + 1 ≤ n)) := by
            rw [← hD']
            refine ⟨hk, ?_, ?_, ?_, ?_⟩
            · show D.writes + 1 = i; omega
            · show (D.waits ++ [(a, T)]).length = i; simp; omega
            · show D.fuse - 1 = n - i; omega
            · show decide (D.fuse ≠ 1) = _
              rw [decide_eq_decide]; omega
          clear hh hk hw hwl hfu hup ha hT hD'
          go_wp2
          refine wp_region_held_drew (S := fun _ => True) (by kernel_rfl) (trivial) (fun hHeld => ?_)
          refine wpAnyH_take (i := 0) (v := ?vr0) rfl (by kernel_rfl) (by kernel_rfl) (by kernel_rfl) (fun _ _ _ h => h) (Or.inl ⟨by first | kernel_rfl | rfl, ?yr0⟩) hHeld ?rr0
          case yr0 => (intro W hSW; (try dsimp only at hSW); go_simp; (try with_reducible rfl))
          change wpAnyH _ _ _ _ _ _ _ (Act.put _ (some 35) _) _
          simp only [Act.put, List.setIfInBounds_toArray, List.set_cons_zero, List.set_cons_succ]
          refine wpAnyH_ready (rs := [1]) (by kernel_rfl) (by simp) ?_
          refine AllReadyH.cons rfl (fun K hK => ?_) AllReadyH.nil
          go_simp
          refine (HU1.out).mono ?_
          rintro e V1 ⟨rfl, hV⟩; subst V1
          refine hK.out _ _ (trivial) (fun hHeld => ?_)
          clear hK K
          try simp only [Act.put, List.setIfInBounds_toArray, List.set_cons_zero, List.set_cons_succ]
          refine wpAnyH_take (i := 2) (v := ?vr2) rfl (by kernel_rfl) (by kernel_rfl) (by kernel_rfl) (fun _ _ _ h => h) (Or.inl ⟨by first | kernel_rfl | rfl, ?yr2⟩) hHeld ?rr2
          case yr2 => (intro W hSW; (try dsimp only at hSW); go_simp; (try with_reducible rfl))
          change wpAnyH _ _ _ _ _ _ _ (Act.put _ (some 37) _) _
          simp only [Act.put, List.setIfInBounds_toArray, List.set_cons_zero, List.set_cons_succ]
          refine wpAnyH_take (i := 3) (v := ?vr3) rfl (by kernel_rfl) (by kernel_rfl) (by kernel_rfl) (fun _ _ _ h => h) (Or.inl ⟨by first | kernel_rfl | rfl, ?yr3⟩) hHeld ?rr3
          case yr3 => (intro W hSW; (try dsimp only at hSW); go_simp; (try with_reducible rfl))
          change wpAnyH _ _ _ _ _ _ _ (Act.put _ (some 38) _) _
          simp only [Act.put, List.setIfInBounds_toArray, List.set_cons_zero, List.set_cons_succ]
          refine wpAnyH_take (i := 4) (v := ?vr4) rfl (by kernel_rfl) (by kernel_rfl) (by kernel_rfl) (fun _ _ _ h => h) (Or.inl ⟨by first | kernel_rfl | rfl, ?yr4⟩) hHeld ?rr4
          case yr4 => (intro W hSW; (try dsimp only at hSW); go_simp; (try with_reducible rfl))
          change wpAnyH _ _ _ _ _ _ _ (Act.put _ (some 39) _) _
          simp only [Act.put, List.setIfInBounds_toArray, List.set_cons_zero, List.set_cons_succ]
          refine wpAnyH_take (i := 5) (v := ?vr5) rfl (by kernel_rfl) (by kernel_rfl) (by kernel_rfl) (fun _ _ _ h => h) (Or.inl ⟨by first | kernel_rfl | rfl, ?yr5⟩) hHeld ?rr5
          case yr5 => (intro W hSW; (try dsimp only at hSW); go_simp; (try with_reducible rfl))
          change wpAnyH _ _ _ _ _ _ _ (Act.put _ (some 40) _) _
          simp only [Act.put, List.setIfInBounds_toArray, List.set_cons_zero, List.set_cons_succ]
          refine wpAnyH_take (i := 6) (v := ?vr6) rfl (by kernel_rfl) (by kernel_rfl) (by kernel_rfl) (fun _ _ _ h => h) (Or.inl ⟨by first | kernel_rfl | rfl, ?yr6⟩) hHeld ?rr6
          case yr6 => (intro W hSW; (try dsimp only at hSW); go_simp; (try with_reducible rfl))
          change wpAnyH _ _ _ _ _ _ _ (Act.put _ (some 41) _) _
          simp only [Act.put, List.setIfInBounds_toArray, List.set_cons_zero, List.set_cons_succ]
          refine wpAnyH_take (i := 7) (v := ?vr7) rfl (by kernel_rfl) (by kernel_rfl) (by kernel_rfl) (fun _ _ _ h => h) (Or.inl ⟨by first | kernel_rfl | rfl, ?yr7⟩) hHeld ?rr7
          case yr7 => (intro W hSW; (try dsimp only at hSW); go_simp; (try with_reducible rfl))
          change wpAnyH _ _ _ _ _ _ _ (Act.put _ (some 42) _) _
          simp only [Act.put, List.setIfInBounds_toArray, List.set_cons_zero, List.set_cons_succ]
          refine wpAnyH_take (i := 8) (v := ?vr8) rfl (by kernel_rfl) (by kernel_rfl) (by kernel_rfl) (fun _ _ _ h => h) (Or.inl ⟨by first | kernel_rfl | rfl, ?yr8⟩) hHeld ?rr8
          case yr8 => (intro W hSW; (try dsimp only at hSW); go_simp; (try with_reducible rfl))
          change wpAnyH _ _ _ _ _ _ _ (Act.put _ (some 43) _) _
          simp only [Act.put, List.setIfInBounds_toArray, List.set_cons_zero, List.set_cons_succ]
          refine wpAnyH_take (i := 9) (v := ?vr9) rfl (by kernel_rfl) (by kernel_rfl) (by kernel_rfl) (fun _ _ _ h => h) (Or.inl ⟨by first | kernel_rfl | rfl, ?yr9⟩) hHeld ?rr9
          case yr9 => (intro W hSW; (try dsimp only at hSW); go_simp; (try with_reducible rfl))
          change wpAnyH _ _ _ _ _ _ _ (Act.put _ (some 44) _) _
          simp only [Act.put, List.setIfInBounds_toArray, List.set_cons_zero, List.set_cons_succ]
          refine wpAnyH_ready (rs := [10]) (by kernel_rfl) (by simp) ?_
          refine AllReadyH.cons rfl (fun K hK => ?_) AllReadyH.nil
          go_simp
          refine (HFI.out).mono ?_
          rintro e V2 ⟨rfl, hb2⟩; have HH2 : Hid (Has w V2 g D) := HH.out.drew.below hb2; clear hb2
          refine hK.out _ _ (trivial) (fun hHeld => ?_)
          clear hK K
          try simp only [Act.put, List.setIfInBounds_toArray, List.set_cons_zero, List.set_cons_succ]
          refine wpAnyH_ready (rs := [11]) (by kernel_rfl) (by simp) ?_
          refine AllReadyH.cons rfl (fun K hK => ?_) AllReadyH.nil
          go_simp
          refine ((HWR.out V2 HH2.out)).mono ?_
          rintro e V3 ⟨rfl, hh3⟩; have HH3 : Hid (Has w V3 g D') := hh3; clear hh3 HH2
          refine hK.out _ _ (trivial) (fun hHeld => ?_)
          clear hK K
          try simp only [Act.put, List.setIfInBounds_toArray, List.set_cons_zero, List.set_cons_succ]
          refine wpAnyH_take (i := 12) (v := ?vr12) rfl (by kernel_rfl) (by kernel_rfl) (by kernel_rfl) (fun _ _ _ h => h) (Or.inl ⟨by first | kernel_rfl | rfl, ?yr12⟩) hHeld ?rr12
          case yr12 => (intro W hSW; (try dsimp only at hSW); go_simp; (try with_reducible rfl))
          change wpAnyH _ _ _ _ _ _ _ (Act.put _ (some 47) _) _
          simp only [Act.put, List.setIfInBounds_toArray, List.set_cons_zero, List.set_cons_succ]
          refine wpAnyH_take (i := 13) (v := ?vr13) rfl (by kernel_rfl) (by kernel_rfl) (by kernel_rfl) (fun _ _ _ h => h) (Or.inl ⟨by first | kernel_rfl | rfl, ?yr13⟩) hHeld ?rr13
          case yr13 => (intro W hSW; (try dsimp only at hSW); go_simp; (try with_reducible rfl))
          change wpAnyH _ _ _ _ _ _ _ (Act.put _ (some 48) _) _
          simp only [Act.put, List.setIfInBounds_toArray, List.set_cons_zero, List.set_cons_succ]
          refine wpAnyH_take (i := 14) (v := ?vr14) rfl (by kernel_rfl) (by kernel_rfl) (by kernel_rfl) (fun _ _ _ h => h) (Or.inl ⟨by first | kernel_rfl | rfl, ?yr14⟩) hHeld ?rr14
          case yr14 => (intro W hSW; (try dsimp only at hSW); go_simp; (try with_reducible rfl))
          change wpAnyH _ _ _ _ _ _ _ (Act.put _ (some 49) _) _
          simp only [Act.put, List.setIfInBounds_toArray, List.set_cons_zero, List.set_cons_succ]
          refine wpAnyH_take (i := 15) (v := ?vr15) rfl (by kernel_rfl) (by kernel_rfl) (by kernel_rfl) (fun _ _ _ h => h) (Or.inl ⟨by first | kernel_rfl | rfl, ?yr15⟩) hHeld ?rr15
          case yr15 => (intro W hSW; (try dsimp only at hSW); go_simp; (try with_reducible rfl))
          change wpAnyH _ _ _ _ _ _ _ (Act.put _ (some 50) _) _
          simp only [Act.put, List.setIfInBounds_toArray, List.set_cons_zero, List.set_cons_succ]
          refine wpAnyH_take (i := 17) (v := ?vr17) rfl (by kernel_rfl) (by kernel_rfl) (by kernel_rfl) (fun _ _ _ h => h) (Or.inl ⟨by first | kernel_rfl | rfl, ?yr17⟩) hHeld ?rr17
          case yr17 => (intro W hSW; (try dsimp only at hSW); go_simp; (try with_reducible rfl))
          change wpAnyH _ _ _ _ _ _ _ (Act.put _ (some 52) _) _
          simp only [Act.put, List.setIfInBounds_toArray, List.set_cons_zero, List.set_cons_succ]
          refine wpAnyH_ready (rs := [16]) (by kernel_rfl) (by simp) ?_
          refine AllReadyH.cons rfl (fun K hK => ?_) AllReadyH.nil
          go_simp
          refine ((HWS.out V3 HH3.out)).mono ?_
          rintro e V4 ⟨rfl, hV⟩; subst V4
          refine hK.out _ _ (trivial) (fun hHeld => ?_)
          clear hK K
          try simp only [Act.put, List.setIfInBounds_toArray, List.set_cons_zero, List.set_cons_succ]
          refine wpAnyH_take (i := 18) (v := ?vr18) rfl (by kernel_rfl) (by kernel_rfl) (by kernel_rfl) (fun _ _ _ h => h) (Or.inl ⟨by first | kernel_rfl | rfl, ?yr18⟩) hHeld ?rr18
          case yr18 => (intro W hSW; (try dsimp only at hSW); go_simp; (try with_reducible rfl))
          change wpAnyH _ _ _ _ _ _ _ (Act.put _ (some 53) _) _
          simp only [Act.put, List.setIfInBounds_toArray, List.set_cons_zero, List.set_cons_succ]
          refine wpAnyH_take (i := 19) (v := ?vr19) rfl (by kernel_rfl) (by kernel_rfl) (by kernel_rfl) (fun _ _ _ h => h) (Or.inl ⟨by first | kernel_rfl | rfl, ?yr19⟩) hHeld ?rr19
          case yr19 => (intro W hSW; (try dsimp only at hSW); go_simp; (try with_reducible rfl))
          change wpAnyH _ _ _ _ _ _ _ (Act.put _ (some 54) _) _
          simp only [Act.put, List.setIfInBounds_toArray, List.set_cons_zero, List.set_cons_succ]
          refine wpAnyH_done (by kernel_rfl) ?_ _
          clear hHeld HWR HWS HFI HU1 HH
          go_wp2
          exact ⟨⟨i + 1, D', by omega, by omega, by go_num, HH3.out, HD.out⟩, by simp [intOf]; omega⟩
        · obtain rfl : i = n + 1 := by omega
          have kk : ¬ ((n + 1 : Nat) : Int) ≤ (n : Int) := by omega
          have hu : D.up = false := by rw [hup]; simp
          have HH : Hid (Has w wr g D) := hh
          have hwn : D.waits.length = n := by omega
          have HU1 : Hid (∀ V, Has w V g D → Calls Try.prog 18 #[.pointer (some ⟨g, 0, none⟩)] V fun e w' => e = .returned (.bool false) ∧ w' = V) := fun V hV => by
            have := up_h hV
            rw [hu] at this
            exact this
          obtain ⟨T, hT⟩ : ∃ T, fillS 0 x2 = T := ⟨_, rfl⟩
          have hTs : T.size = 256 := by rw [← hT, fillS_size]; rfl
          have HFI : Hid (∀ W, Calls Try.prog 27 #[.agg #[.int .i64 0, .int .i64 0, .int .i64 0, .int .u8 (x2 : Int), .slice none 0 0]] W fun e w' => e = .returned (.string T) ∧ Below W.heap.size W w') := by
            intro W; rw [← hT]; exact filled_any 0 0 0 x2 none 0 0 W z2
          have HWR : Hid (∀ V, Has w V g D → Calls Try.prog 11 #[.pointer (some ⟨g, 0, none⟩), .int .i64 0, .string T] V fun e w' => e = .returned (.int .i64 10) ∧ w' = V) := by
            intro V hV
            have hr : D.reach 0 = 10 := by unfold Dk.reach; rw [hu]; rfl
            have := write_bad_h hV 0 T (by omega)
            rw [hr] at this
            exact this
          have HFL : Hid (∀ V, Has w V g D → Calls Try.prog 12 #[.pointer (some ⟨g, 0, none⟩)] V fun e w' => e = .returned (.int .i64 10) ∧ w' = V) := fun V hV => flush_down_h hV hu
          have HSB : Hid (∀ V, Has w V g D → Calls Try.prog 14 #[.pointer (some ⟨g, 0, none⟩)] V fun e w' => e = .returned (.int .i64 8) ∧ w' = V) := fun V hV => start_bad_h hV (.inr (by omega))
          have HWA : Hid (∀ V, Has w V g D → Calls Try.prog 16 #[.pointer (some ⟨g, 0, none⟩)] V fun e w' => e = .returned (.int .i64 (n : Int)) ∧ w' = V) := fun V hV => by
            have := waits_h hV
            rw [hwn] at this
            exact this
          have HFA : Hid (∀ V, Has w V g D → Calls Try.prog 10 #[.pointer (some ⟨g, 0, none⟩), .slice none 0 0] V fun e w' => e = .returned (.tuple #[]) ∧ Has w w' g (D.failed (pickOf []))) := fun V hV => fail_none_h hV
          have HST : Hid (∀ V, Has w V g (D.failed (pickOf [])) → Calls Try.prog 14 #[.pointer (some ⟨g, 0, none⟩)] V fun e w' => e = .returned (.int .i64 0) ∧ Has w w' g (D.failed (pickOf [])).started) := fun V hV => start_h hV rfl rfl
          have HW2 : Hid (∀ V, Has w V g (D.failed (pickOf [])).started → Calls Try.prog 11 #[.pointer (some ⟨g, 0, none⟩), .int .i64 0, .string T] V fun e w' => e = .returned (.int .i64 0) ∧ Has w w' g ((D.failed (pickOf [])).started.wrote 0 T)) := by
            intro V hV
            refine write_h hV 0 T rfl ?_ hTs ?_
            · show 0 < (upTo D.kept (pickOf []) D.waits D.waits.length).length
              rw [upTo_len]; omega
            · show D.writes < 1000000
              omega
          have HU2 : Hid (∀ V, Has w V g ((D.failed (pickOf [])).started.wrote 0 T) → Calls Try.prog 18 #[.pointer (some ⟨g, 0, none⟩)] V fun e w' => e = .returned (.bool true) ∧ w' = V) := fun V hV => up_h hV
          clear hh hk hw hwl hfu hup hT hu hwn
          go_wp2_with (go_at_call 18; refine (HU1.out _ HH.out).mono ?_; rintro e V1 ⟨rfl, hV⟩; subst V1)
          refine (HFI.out _).mono ?_
          rintro e V2 ⟨rfl, hb2⟩
          have HH2 : Hid (Has w V2 g D) := HH.out.below hb2
          clear hb2 HH HU1
          go_wp2_with (first | (go_at_call 11; refine (HWR.out _ HH2.out).mono ?_; rintro e V1 ⟨rfl, hV⟩; subst V1) | (go_at_call 12; refine (HFL.out _ HH2.out).mono ?_; rintro e V1 ⟨rfl, hV⟩; subst V1) | (go_at_call 14; refine (HSB.out _ HH2.out).mono ?_; rintro e V1 ⟨rfl, hV⟩; subst V1) | (go_at_call 16; refine (HWA.out _ HH2.out).mono ?_; rintro e V1 ⟨rfl, hV⟩; subst V1))
          refine (HFA.out _ HH2.out).mono ?_
          rintro e V3 ⟨rfl, hh3⟩
          have HH3 : Hid (Has w V3 g (D.failed (pickOf []))) := hh3
          clear hh3 HH2 HWR HFL HSB HWA HFA
          go_wp2_with fail
          refine (HST.out _ HH3.out).mono ?_
          rintro e V4 ⟨rfl, hh4⟩
          have HH4 : Hid (Has w V4 g (D.failed (pickOf [])).started) := hh4
          clear hh4 HH3 HST
          go_wp2_with fail
          refine (HFI.out _).mono ?_
          rintro e V5 ⟨rfl, hb5⟩
          have HH5 : Hid (Has w V5 g (D.failed (pickOf [])).started) := HH4.out.below hb5
          clear hb5 HH4 HFI
          go_wp2_with fail
          refine (HW2.out _ HH5.out).mono ?_
          rintro e V6 ⟨rfl, hh6⟩
          have HH6 : Hid (Has w V6 g ((D.failed (pickOf [])).started.wrote 0 T)) := hh6
          clear hh6 HH5 HW2
          go_wp2_with (go_at_call 18; refine (HU2.out _ HH6.out).mono ?_; rintro e V1 ⟨rfl, hV⟩; subst V1)
          refine (LAST.out _ HH6.out.1).mono ?_
          rintro e w3 ⟨rfl, hb3⟩
          go_wp2
          go_ret
          exact ⟨rfl, hb3⟩

set_option linter.unusedVariables false in
set_option maxRecDepth 100000 in
theorem lifted (os : Os) (started : os.Started) (H : Type) (enc : TypeId × Value → H) :
    ReturnsInHanded {} Try.checked os 7 .any (Rows.diskFusesSpec.pre6 enc Try.prog Try.f7 Rows.diskFusesRow.domain false) (Rows.diskFusesSpec.post enc Try.prog Try.f7 false true false false) := by
  refine returnsInHanded_of_change (C := Try.checked) own started (by kernel_rfl) Try.func7
    (ChangeSpec.witness6 (enc := enc) (C := Try.checked) false ⟨#[], #[.int .i64 0, .int .i64 0, .int .u8 0], []⟩ 8 (by kernel_rfl) (by kernel_rfl) (by kernel_rfl) (by kernel_rfl)) ?_
  intro W base args ds gs before hval0 hW hcnd _
  have hval : ∀ (j : Nat) t v, Try.f7.params[j]? = some t → args[j]? = some v → Value.okWide Try.prog W .any base t v := hval0
  have hW' := hW
  obtain ⟨p, q, hA0, hV, rfl, hfz, hnd⟩ := hW
  have hA : DataW.TrodAll enc Try.prog W 0 (fun _ => true) true Try.f7.params.toList args.toList ds p := hA0
  rw [Try.params7] at hA hval
  obtain ⟨v0, vs0, d0, ds0, p0, q0, hargs, rfl, rfl, h0, r0⟩ := trodAll_cons hA
  obtain ⟨v1, vs1, d1, ds1, p1, q1, rfl, rfl, rfl, h1, r1⟩ := trodAll_cons r0
  obtain ⟨v2, vs2, d2, ds2, p2, q2, rfl, rfl, rfl, h2, r2⟩ := trodAll_cons r1
  obtain ⟨rfl, rfl, rfl⟩ := trodAll_nil r2
  obtain rfl : args = #[v0, v1, v2] := by cases args; simp_all
  obtain ⟨rfl, rfl⟩ := trodVars_none hV
  obtain ⟨x0, rfl, rfl, rfl, w0⟩ := open_int Try.underlying3 (hval 0 3 v0 rfl rfl) h0
  obtain ⟨x1, rfl, rfl, rfl, w1⟩ := open_int Try.underlying3 (hval 1 3 v1 rfl rfl) h1
  obtain ⟨y2, rfl, rfl, rfl, w2⟩ := open_int Try.underlying5 (hval 2 5 v2 rfl rfl) h2
  have r28 := wf_u8 w2
  obtain ⟨x2, rfl⟩ := Int.eq_ofNat_of_zero_le r28.1
  clear hA0 hval0
  refine (walk x0 (wf_i64 w0) x1 (wf_i64 w1) x2 (by omega) W ).mono fun e W' ⟨he, bel⟩ => ?_
  subst he
  exact ⟨_, rfl, _, _, _, [], _, [], hW', trodAll_mk1 (shut_bool Try.underlying4 _), (trodAll_cons_mk (shut_int Try.underlying3 w0) (trodAll_cons_mk (shut_int Try.underlying3 w1) (trodAll_cons_mk (shut_int Try.underlying5 w2) trodAll_mk0))), rfl, bel.frame _, fun h => by cases h⟩

theorem over : Rows.diskFusesRow.holds Try.pinned (OpenSpec.ofChange Rows.diskFusesSpec) :=
  OpenClaim.holds_of_wide 7 Try.f7 rfl rfl rfl rfl rfl rfl rfl ⟨rfl, rfl, rfl, rfl, rfl⟩ rfl rfl rfl rfl rfl (by kernel_rfl) Try.func7 (by kernel_rfl)
    (of_decide_eq_true (by kernel_rfl)) (by unfold Func.isWrapper; first | (rw [if_pos (by decide +kernel)]; kernel_rfl) | (rw [if_neg (by decide +kernel)]; exact ⟨rfl, rfl⟩))
    (fun os started H enc _ => lifted os started H enc)

end Go.Proofs.Ytdlmciicapigjaa.diskFuses
namespace Go.Proofs.Ytdlmciicapigjaa
/-- The given statement. -/
theorem diskFuses_holds : Rows.DiskFusesSaid := diskFuses.over
#print axioms diskFuses_holds
end Go.Proofs.Ytdlmciicapigjaa
