/- Proved: for every number of sectors, steps and picks, the law DiskFlushed returns true, the three as they were. No condition: every input that can be read as data. -/
import Derived.Test.YtdlmciicapigjaaRows
import Derived.Test.YtdlmciicapigjaaRF
import Derived.WalkKit
import Derived.ProofKit
import Derived.OpenShut
import Derived.ShutString
import Derived.ChangeOld
import Derived.Below
namespace Go.Proofs.Ytdlmciicapigjaa.diskFlushed
open Go.ChangeShapes Go.WideShapes Go.ChangeAt Go.RowKit
theorem own : ownKnob Try.prog.godebug = none := by kernel_rfl
theorem laidOut : laidOutB Try.prog = true := by kernel_rfl

set_option maxRecDepth 100000 in
set_option maxHeartbeats 16000000 in
theorem walk (x0 : Int) (_z0 : -9223372036854775808 ≤ x0 ∧ x0 ≤ 9223372036854775807) (a1 : Option Addr) (len1 cap1 : Nat) (l1 : List OpV) (b1 : Option Addr) (ben1 bap1 : Nat) (m1 : List OpV) (a2 : Option Addr) (len2 cap2 : Nat) (l2 : List Bool) (w : World) (w1 : Os w a1 len1 cap1 l1) (u1 : Os w b1 ben1 bap1 m1) (w2 : Bls w a2 len2 cap2 l2) :
    Calls Try.prog 5 #[.int .i64 x0, .agg #[.slice a1 len1 cap1, .slice b1 ben1 bap1], .slice a2 len2 cap2] w fun e w' => e = .returned (.bool true) ∧ Below w.heap.size w w' := by
  have HLV : Hid (∀ W, Below w.heap.size w W → Calls Try.prog 20 #[] W fun e w' => e = .returned (.bool true) ∧ Below w.heap.size w w') := fun W hW => lives_h hW
  obtain ⟨W1, hW1⟩ : ∃ W1, w.alloc (.cells #[.slice a1 len1 cap1, .slice b1 ben1 bap1] 51) = W1 := ⟨_, rfl⟩
  have hr1 : W1.heap[w.heap.size]? = some (.cells #[.slice a1 len1 cap1, .slice b1 ben1 bap1] 51 (0, 0)) := by rw [← hW1]; exact heap_alloc_new w _
  have cx0 : W1.drew.cell? ⟨w.heap.size, 0, none⟩ = some (.slice a1 len1 cap1) := by show W1.cell? _ = _; rw [cell_of_row _ w.heap.size _ _ _ _ hr1]; rfl
  have cx1 : W1.drew.cell? ⟨w.heap.size, 1, none⟩ = some (.slice b1 ben1 bap1) := by show W1.cell? _ = _; rw [cell_of_row _ w.heap.size _ _ _ _ hr1]; rfl
  have HB1 : Hid (Below w.heap.size w W1.drew) := by rw [← hW1]; exact ((Below.refl _ w).alloc (Nat.le_refl _) _).drew
  have HOS1 : Hid (Os w a1 len1 cap1 l1) := w1
  have HOS2 : Hid (Os w b1 ben1 bap1 m1) := u1
  have HBL : Hid (Bls w a2 len2 cap2 l2) := w2
  clear hr1 w1 u1 w2
  by_cases hx : x0 < 1 ∨ 40 < x0
  · have HMD := made_none x0 a1 len1 cap1 w W1.drew HB1.out hx
    clear hx
    go_enter Try.func5, Try.ntmps5
    go_wp2
    try rw [hW1]
    refine wp_region_held_drew (S := fun V => V.cell? ⟨w.heap.size, 0, none⟩ = some (.slice a1 len1 cap1) ∧ V.cell? ⟨w.heap.size, 1, none⟩ = some (.slice b1 ben1 bap1)) (by kernel_rfl) (⟨cx0, cx1⟩) (fun hHeld => ?_)
    refine wpAnyH_take (i := 0) (v := ?vu0) rfl (by kernel_rfl) (by kernel_rfl) (by kernel_rfl) (fun _ _ _ h => h) (Or.inl ⟨by first | kernel_rfl | rfl, ?yu0⟩) hHeld ?ru0
    case yu0 => (intro W hSW; (try dsimp only at hSW); go_simp; (try with_reducible rfl))
    change wpAnyH _ _ _ _ _ _ _ (Act.put _ (some 15) _) _
    simp only [Act.put, List.setIfInBounds_toArray, List.set_cons_zero, List.set_cons_succ]
    refine wpAnyH_take (i := 1) (v := ?vu1) rfl (by kernel_rfl) (by kernel_rfl) (by kernel_rfl) (fun _ _ _ h => h) (Or.inl ⟨by first | kernel_rfl | rfl, ?yu1⟩) hHeld ?ru1
    case yu1 => (intro W hSW; (try dsimp only at hSW); go_simp; (try with_reducible rfl))
    change wpAnyH _ _ _ _ _ _ _ (Act.put _ (some 16) _) _
    simp only [Act.put, List.setIfInBounds_toArray, List.set_cons_zero, List.set_cons_succ]
    refine wpAnyH_take (i := 2) (v := ?vu2) rfl (by kernel_rfl) (by kernel_rfl) (by kernel_rfl) (fun _ _ _ h => h) (Or.inl ⟨by first | kernel_rfl | rfl, ?yu2⟩) hHeld ?ru2
    case yu2 => (intro W hSW; (try dsimp only at hSW); go_simp; (try with_reducible rfl))
    change wpAnyH _ _ _ _ _ _ _ (Act.put _ (some 17) _) _
    simp only [Act.put, List.setIfInBounds_toArray, List.set_cons_zero, List.set_cons_succ]
    refine wpAnyH_take (i := 3) (v := ?vu3) rfl (by kernel_rfl) (by kernel_rfl) (by kernel_rfl) (fun _ _ _ h => h) (Or.inl ⟨by first | kernel_rfl | rfl, ?yu3⟩) hHeld ?ru3
    case yu3 => (intro W hSW; (try dsimp only at hSW); go_simp; (try with_reducible rfl))
    change wpAnyH _ _ _ _ _ _ _ (Act.put _ (some 18) _) _
    simp only [Act.put, List.setIfInBounds_toArray, List.set_cons_zero, List.set_cons_succ]
    refine wpAnyH_take (i := 4) (v := ?vu4) rfl (by kernel_rfl) (by kernel_rfl) (by kernel_rfl) (fun _ _ _ h => h) (Or.inl ⟨by first | kernel_rfl | rfl, ?yu4⟩) hHeld ?ru4
    case yu4 => (intro W hSW; (try dsimp only at hSW); go_simp; (try with_reducible rfl))
    change wpAnyH _ _ _ _ _ _ _ (Act.put _ (some 7) _) _
    simp only [Act.put, List.setIfInBounds_toArray, List.set_cons_zero, List.set_cons_succ]
    refine wpAnyH_take (i := 5) (v := ?vu5) rfl (by kernel_rfl) (by kernel_rfl) (by kernel_rfl) (fun _ _ _ h => h) (Or.inl ⟨by first | kernel_rfl | rfl, ?yu5⟩) hHeld ?ru5
    case yu5 => (intro W hSW; (try dsimp only at hSW); go_simp; (try with_reducible rfl))
    change wpAnyH _ _ _ _ _ _ _ (Act.put _ (some 8) _) _
    simp only [Act.put, List.setIfInBounds_toArray, List.set_cons_zero, List.set_cons_succ]
    refine wpAnyH_done (by kernel_rfl) ?_ _
    go_wp2_with fail
    refine HMD.mono ?_
    rintro e w3 ⟨rfl, hb3⟩
    have HB3 : Hid (Below w.heap.size w w3) := hb3
    clear hb3 HMD hHeld
    go_wp2_with fail
    refine (HLV.out _ HB3.out).mono ?_
    rintro e w9 ⟨rfl, hb9⟩
    go_wp2
    go_ret
    exact ⟨rfl, hb9⟩
  · obtain ⟨s, rfl⟩ := Int.eq_ofNat_of_zero_le (show 0 ≤ x0 by omega)
    have hs1 : 1 ≤ s := by omega
    have hs2 : s ≤ 40 := by omega
    have HMD := made_any s a1 len1 cap1 l1 w HOS1.out W1.drew HB1.out hs1 hs2
    have hll := HOS1.out.1
    have hok := MadeOk.all s l1 (min len1 60) (by omega)
    obtain ⟨D0, hD0⟩ : ∃ D, madeD s l1 (min len1 60) = D := ⟨_, rfl⟩
    rw [hD0] at HMD hok
    have HOK : Hid (MadeOk D0 s l1 (min len1 60)) := hok
    clear hx hok hD0 hll
    go_enter Try.func5, Try.ntmps5
    go_wp2
    try rw [hW1]
    refine wp_region_held_drew (S := fun V => V.cell? ⟨w.heap.size, 0, none⟩ = some (.slice a1 len1 cap1) ∧ V.cell? ⟨w.heap.size, 1, none⟩ = some (.slice b1 ben1 bap1)) (by kernel_rfl) (⟨cx0, cx1⟩) (fun hHeld => ?_)
    refine wpAnyH_take (i := 0) (v := ?vx0) rfl (by kernel_rfl) (by kernel_rfl) (by kernel_rfl) (fun _ _ _ h => h) (Or.inl ⟨by first | kernel_rfl | rfl, ?yx0⟩) hHeld ?rx0
    case yx0 => (intro W hSW; (try dsimp only at hSW); go_simp; (try with_reducible rfl))
    change wpAnyH _ _ _ _ _ _ _ (Act.put _ (some 15) _) _
    simp only [Act.put, List.setIfInBounds_toArray, List.set_cons_zero, List.set_cons_succ]
    refine wpAnyH_take (i := 1) (v := ?vx1) rfl (by kernel_rfl) (by kernel_rfl) (by kernel_rfl) (fun _ _ _ h => h) (Or.inl ⟨by first | kernel_rfl | rfl, ?yx1⟩) hHeld ?rx1
    case yx1 => (intro W hSW; (try dsimp only at hSW); go_simp; (try with_reducible rfl))
    change wpAnyH _ _ _ _ _ _ _ (Act.put _ (some 16) _) _
    simp only [Act.put, List.setIfInBounds_toArray, List.set_cons_zero, List.set_cons_succ]
    refine wpAnyH_take (i := 2) (v := ?vx2) rfl (by kernel_rfl) (by kernel_rfl) (by kernel_rfl) (fun _ _ _ h => h) (Or.inl ⟨by first | kernel_rfl | rfl, ?yx2⟩) hHeld ?rx2
    case yx2 => (intro W hSW; (try dsimp only at hSW); go_simp; (try with_reducible rfl))
    change wpAnyH _ _ _ _ _ _ _ (Act.put _ (some 17) _) _
    simp only [Act.put, List.setIfInBounds_toArray, List.set_cons_zero, List.set_cons_succ]
    refine wpAnyH_take (i := 3) (v := ?vx3) rfl (by kernel_rfl) (by kernel_rfl) (by kernel_rfl) (fun _ _ _ h => h) (Or.inl ⟨by first | kernel_rfl | rfl, ?yx3⟩) hHeld ?rx3
    case yx3 => (intro W hSW; (try dsimp only at hSW); go_simp; (try with_reducible rfl))
    change wpAnyH _ _ _ _ _ _ _ (Act.put _ (some 18) _) _
    simp only [Act.put, List.setIfInBounds_toArray, List.set_cons_zero, List.set_cons_succ]
    refine wpAnyH_take (i := 4) (v := ?vx4) rfl (by kernel_rfl) (by kernel_rfl) (by kernel_rfl) (fun _ _ _ h => h) (Or.inl ⟨by first | kernel_rfl | rfl, ?yx4⟩) hHeld ?rx4
    case yx4 => (intro W hSW; (try dsimp only at hSW); go_simp; (try with_reducible rfl))
    change wpAnyH _ _ _ _ _ _ _ (Act.put _ (some 7) _) _
    simp only [Act.put, List.setIfInBounds_toArray, List.set_cons_zero, List.set_cons_succ]
    refine wpAnyH_take (i := 5) (v := ?vx5) rfl (by kernel_rfl) (by kernel_rfl) (by kernel_rfl) (fun _ _ _ h => h) (Or.inl ⟨by first | kernel_rfl | rfl, ?yx5⟩) hHeld ?rx5
    case yx5 => (intro W hSW; (try dsimp only at hSW); go_simp; (try with_reducible rfl))
    change wpAnyH _ _ _ _ _ _ _ (Act.put _ (some 8) _) _
    simp only [Act.put, List.setIfInBounds_toArray, List.set_cons_zero, List.set_cons_succ]
    refine wpAnyH_done (by kernel_rfl) ?_ _
    go_wp2_with fail
    refine HMD.mono ?_
    rintro e w3 ⟨g, rfl, hh3⟩
    have HH3 : Hid (Has w w3 g D0) := hh3
    clear hh3 HMD hHeld cx0 cx1 hW1 HB1
    by_cases hlen : 300 < len2
    · have k300 : (300 : Int) < (len2 : Int) := by omega
      go_wp2_with fail
      refine (HLV.out _ HH3.out.1).mono ?_
      rintro e w9 ⟨rfl, hb9⟩
      go_wp2
      go_ret
      exact ⟨rfl, hb9⟩
    · have k300 : ¬ (300 : Int) < (len2 : Int) := by omega
      have HFL := flush_h HH3.out HOK.out.up
      obtain ⟨D1, hD1⟩ : ∃ D, D0.settled (fun _ => true) = D := ⟨_, rfl⟩
      rw [hD1] at HFL
      obtain ⟨K, hK⟩ : ∃ K, D1.kept = K := ⟨_, rfl⟩
      have hKl : K.length = s := by
        rw [← hK, ← hD1]
        show (upTo _ _ _ _).length = s
        rw [upTo_len]; exact HOK.out.n
      have hup1 : D1.up = true := by rw [← hD1]; exact HOK.out.up
      have hsn1 : D1.seen = K := by rw [← hK, ← hD1]; rfl
      have HLT : Hid (Later D1 K (List.replicate s false) 0) := by
        refine ⟨hK, hup1, ?_, ?_, by simp [hKl], ?_⟩
        · rw [← hD1]; exact HOK.out.fu
        · rw [← hD1]
          show D0.writes ≤ 60
          have := HOK.out.wr
          omega
        · intro q hq
          rw [← hD1] at hq
          have : q ∈ ([] : List Wt) := hq
          simp at this
      have hk1 : D1.kept.length = s := by rw [hK, hKl]
      go_wp2_with fail
      refine HFL.mono ?_
      rintro e w4 ⟨rfl, hh4⟩
      have HAL := all_h hh4 hup1
      rw [hk1, hsn1] at HAL
      clear HFL HH3 hD1 HOK
      go_wp2_with fail
      refine HAL.mono ?_
      rintro e w5 ⟨wab, wcp, rfl, hwab, how5, hb5⟩
      have hmk := make_bls w5 s (by omega)
      have hwal : wab < w5.heap.size := (how5.lt wab rfl).2
      have hhx := hh4.x (hb5.trans ((Below.refl w5.heap.size w5).alloc (Nat.le_refl _) (.cells (blsV (List.replicate s false)) 4) |>.mono hb5.size)) (fun x => x = wab ∨ x = w5.heap.size) (fun x hx => by
        rcases hx with rfl | rfl
        · exact ⟨hwab, by simp; omega⟩
        · exact ⟨hb5.size, by simp⟩)
      obtain ⟨wob, hwob⟩ : ∃ b, w5.heap.size = b := ⟨_, rfl⟩
      obtain ⟨W6, hW6⟩ : ∃ W, w5.alloc (.cells (blsV (List.replicate s false)) 4) = W := ⟨_, rfl⟩
      rw [hW6, hwob] at hmk
      rw [hW6, hwob] at hhx
      have how6 : W6.ownsRow 0 9 1 (.slice (some ⟨wab, 0, none⟩) s wcp) s (strsV K) := by rw [← hW6]; exact how5.alloc _
      have hro6 : W6.heap[wob]? = some (.cells (blsV (List.replicate s false)) 4 (0, 0)) := by rw [← hW6, ← hwob]; exact heap_alloc_new w5 _
      obtain ⟨X, hXe⟩ : ∃ X, (fun x => x = wab ∨ x = wob) = X := ⟨_, rfl⟩
      rw [hXe] at hhx
      have HXA : Hid (X wab ∧ X wob ∧ wab ≠ wob) := by rw [← hXe]; exact ⟨.inl rfl, .inr rfl, by omega⟩
      have HI : Hid (HasX w X W6 g D1 ∧ W6.heap[wob]? = some (.cells (blsV (List.replicate s false)) 4 (0, 0)) ∧ W6.ownsRow 0 9 1 (.slice (some ⟨wab, 0, none⟩) s wcp) s (strsV K)) := ⟨hhx, hro6, how6⟩
      clear HAL hh4 hb5 how5 how6 hro6 hhx hXe hup1 hsn1 hk1 hK hwal hwab
      go_wp2
      go_loopw [12] (fun v wr => ∃ (i : Nat) (D : Dk) (bs : List Bool), i ≤ ben1 ∧ i ≤ 40 ∧ v = .int .i64 i ∧ Later D K bs i ∧ HasX w X wr g D ∧ wr.heap[wob]? = some (.cells (blsV bs) 4 (0, 0)) ∧ wr.ownsRow 0 9 1 (.slice (some ⟨wab, 0, none⟩) s wcp) s (strsV K)) (fun v _ => 41 - (intOf v).toNat)
      case atStart => exact ⟨0, D1, _, by omega, by omega, rfl, HLT.out, HI.out⟩
      case round =>
        clear HLT HI hmk hW6 hwob
        obtain ⟨i, D, bs, hi1, hi2, rfl, hlt, hh, hro, how⟩ := hrel
        have HLT : Hid (Later D K bs i) := hlt
        have HH : Hid (HasX w X wr g D) := hh
        have HRO : Hid (wr.heap[wob]? = some (.cells (blsV bs) 4 (0, 0))) := hro
        have HOW : Hid (wr.ownsRow 0 9 1 (.slice (some ⟨wab, 0, none⟩) s wcp) s (strsV K)) := how
        have hbsl : bs.length = s := by rw [hlt.bl, hKl]
        clear hlt hh hro how
        by_cases hgo : i < ben1 ∧ i < 40
        · have k1 : (i : Int) < (ben1 : Int) := by omega
          have k2 : (i : Int) < 40 := by omega
          have hml := HOS2.out.1
          have hil : i < m1.length := by omega
          obtain ⟨b, oo, rfl, hbl, hc⟩ := HOS2.out.2.2.2 (by omega)
          have hci := hc i hil
          obtain ⟨⟨kd, ad, lo, fi, pa, pl, pc, ps⟩, ho⟩ : ∃ o, m1[i] = o := ⟨_, rfl⟩
          rw [ho] at hci
          obtain ⟨d0, d1, d2, d3, d4, d5⟩ := hci
          simp only at d0 d1 d2 d3 d4
          have hwr : D.writes < 1000000 := by have := HLT.out.wr; omega
          have hfi : fi < 256 := d5.2.2.2.1
          clear hc hgo ho d5
          by_cases q0 : kd = 0
          · subst q0
            obtain ⟨T, hT⟩ : ∃ T, fillS lo fi = T := ⟨_, rfl⟩
            have HFI : Hid (Calls Try.prog 27 #[.agg #[.int .i64 0, .int .i64 ad, .int .i64 lo, .int .u8 (fi : Int), .slice pa pl pc]] wr.drew fun e w' => e = .returned (.string T) ∧ Below wr.drew.heap.size wr.drew w') := by
              rw [← hT]; exact filled_any 0 ad lo fi pa pl pc wr.drew hfi
            obtain ⟨D', hD'⟩ : ∃ D', D.wput ad T = D' := ⟨_, rfl⟩
            by_cases hcd : D.wcode ad T = 0
            · obtain ⟨_, ha0, ha1⟩ := reach_zero (wcode_zero hcd).1
              obtain ⟨aN, rfl⟩ := Int.eq_ofNat_of_zero_le ha0
              have han : aN < s := by rw [HLT.out.kept, hKl] at ha1; omega
              have kan : (aN : Int) < (s : Int) := by omega
              have HLT2 : Hid (Later D' K (bs.set aN true) (i + 1)) := by rw [← hD']; exact HLT.out.write aN T hcd
              have HWR : Hid (∀ V, HasX w X V g D → Calls Try.prog 11 #[.pointer (some ⟨g, 0, none⟩), .int .i64 (aN : Int), .string T] V fun e w' => e = .returned (.int .i64 0) ∧ HasX w X w' g D' ∧ ∀ x, X x → w'.heap[x]? = V.heap[x]?) := by
                intro V hV
                have := write_x hV (aN : Int) T hwr
                rw [hcd, hD'] at this
                exact this
              have HCS : Hid (∀ V, Below w.heap.size w V → V.cell? ⟨b, oo + i * 5, none⟩ = some (.int .i64 0) ∧ V.cell? ⟨b, oo + i * 5 + 1, none⟩ = some (.int .i64 (aN : Int)) ∧ V.cell? ⟨b, oo + i * 5 + 2, none⟩ = some (.int .i64 lo) ∧ V.cell? ⟨b, oo + i * 5 + 3, none⟩ = some (.int .u8 (fi : Int)) ∧ V.cell? ⟨b, oo + i * 5 + 4, none⟩ = some (.slice pa pl pc)) := fun V hV =>
                ⟨by rw [hV.cell hbl]; exact d0, by rw [hV.cell hbl]; exact d1, by rw [hV.cell hbl]; exact d2, by rw [hV.cell hbl]; exact d3, by rw [hV.cell hbl]; exact d4⟩
              clear hT hD' hcd ha0 ha1 d0 d1 d2 d3 d4
              go_wp2
              refine wp_region_held_drew (S := fun V => V.cell? ⟨b, oo + i * 5, none⟩ = some (.int .i64 0) ∧ V.cell? ⟨b, oo + i * 5 + 1, none⟩ = some (.int .i64 (aN : Int)) ∧ V.cell? ⟨b, oo + i * 5 + 2, none⟩ = some (.int .i64 lo) ∧ V.cell? ⟨b, oo + i * 5 + 3, none⟩ = some (.int .u8 (fi : Int)) ∧ V.cell? ⟨b, oo + i * 5 + 4, none⟩ = some (.slice pa pl pc)) (by kernel_rfl) (HCS.out _ HH.out.drew.1) (fun hHeld => ?_)
              refine wpAnyH_take (i := 0) (v := ?vA0) rfl (by kernel_rfl) (by kernel_rfl) (by kernel_rfl) (fun _ _ _ h => h) (Or.inl ⟨by first | kernel_rfl | rfl, ?yA0⟩) hHeld ?rA0
              case yA0 => (intro W hSW; (try dsimp only at hSW); go_simp; (try with_reducible rfl))
              change wpAnyH _ _ _ _ _ _ _ (Act.put _ (some 48) _) _
              simp only [Act.put, List.setIfInBounds_toArray, List.set_cons_zero, List.set_cons_succ]
              refine wpAnyH_take (i := 1) (v := ?vA1) rfl (by kernel_rfl) (by kernel_rfl) (by kernel_rfl) (fun _ _ _ h => h) (Or.inl ⟨by first | kernel_rfl | rfl, ?yA1⟩) hHeld ?rA1
              case yA1 => (intro W hSW; (try dsimp only at hSW); go_simp; (try with_reducible rfl))
              change wpAnyH _ _ _ _ _ _ _ (Act.put _ (some 49) _) _
              simp only [Act.put, List.setIfInBounds_toArray, List.set_cons_zero, List.set_cons_succ]
              refine wpAnyH_take (i := 2) (v := ?vA2) rfl (by kernel_rfl) (by kernel_rfl) (by kernel_rfl) (fun _ _ _ h => h) (Or.inl ⟨by first | kernel_rfl | rfl, ?yA2⟩) hHeld ?rA2
              case yA2 => (intro W hSW; (try dsimp only at hSW); go_simp; (try with_reducible rfl))
              change wpAnyH _ _ _ _ _ _ _ (Act.put _ (some 50) _) _
              simp only [Act.put, List.setIfInBounds_toArray, List.set_cons_zero, List.set_cons_succ]
              refine wpAnyH_take (i := 3) (v := ?vA3) rfl (by kernel_rfl) (by kernel_rfl) (by kernel_rfl) (fun _ _ _ h => h) (Or.inl ⟨by first | kernel_rfl | rfl, ?yA3⟩) hHeld ?rA3
              case yA3 => (intro W hSW; (try dsimp only at hSW); go_simp; (try with_reducible rfl))
              change wpAnyH _ _ _ _ _ _ _ (Act.put _ (some 51) _) _
              simp only [Act.put, List.setIfInBounds_toArray, List.set_cons_zero, List.set_cons_succ]
              refine wpAnyH_take (i := 4) (v := ?vA4) rfl (by kernel_rfl) (by kernel_rfl) (by kernel_rfl) (fun _ _ _ h => h) (Or.inl ⟨by first | kernel_rfl | rfl, ?yA4⟩) hHeld ?rA4
              case yA4 => (intro W hSW; (try dsimp only at hSW); go_simp; (try with_reducible rfl))
              change wpAnyH _ _ _ _ _ _ _ (Act.put _ (some 52) _) _
              simp only [Act.put, List.setIfInBounds_toArray, List.set_cons_zero, List.set_cons_succ]
              refine wpAnyH_take (i := 5) (v := ?vA5) rfl (by kernel_rfl) (by kernel_rfl) (by kernel_rfl) (fun _ _ _ h => h) (Or.inl ⟨by first | kernel_rfl | rfl, ?yA5⟩) hHeld ?rA5
              case yA5 => (intro W hSW; (try dsimp only at hSW); go_simp; (try with_reducible rfl))
              change wpAnyH _ _ _ _ _ _ _ (Act.put _ (some 53) _) _
              simp only [Act.put, List.setIfInBounds_toArray, List.set_cons_zero, List.set_cons_succ]
              refine wpAnyH_take (i := 6) (v := ?vA6) rfl (by kernel_rfl) (by kernel_rfl) (by kernel_rfl) (fun _ _ _ h => h) (Or.inl ⟨by first | kernel_rfl | rfl, ?yA6⟩) hHeld ?rA6
              case yA6 => (intro W hSW; (try dsimp only at hSW); go_simp; (try with_reducible rfl))
              change wpAnyH _ _ _ _ _ _ _ (Act.put _ (some 54) _) _
              simp only [Act.put, List.setIfInBounds_toArray, List.set_cons_zero, List.set_cons_succ]
              refine wpAnyH_take (i := 7) (v := ?vA7) rfl (by kernel_rfl) (by kernel_rfl) (by kernel_rfl) (fun _ _ _ h => h) (Or.inl ⟨by first | kernel_rfl | rfl, ?yA7⟩) hHeld ?rA7
              case yA7 => (intro W hSW; (try dsimp only at hSW); go_simp; (try with_reducible rfl))
              change wpAnyH _ _ _ _ _ _ _ (Act.put _ (some 55) _) _
              simp only [Act.put, List.setIfInBounds_toArray, List.set_cons_zero, List.set_cons_succ]
              refine wpAnyH_take (i := 8) (v := ?vA8) rfl (by kernel_rfl) (by kernel_rfl) (by kernel_rfl) (fun _ _ _ h => h) (Or.inl ⟨by first | kernel_rfl | rfl, ?yA8⟩) hHeld ?rA8
              case yA8 => (intro W hSW; (try dsimp only at hSW); go_simp; (try with_reducible rfl))
              change wpAnyH _ _ _ _ _ _ _ (Act.put _ (some 56) _) _
              simp only [Act.put, List.setIfInBounds_toArray, List.set_cons_zero, List.set_cons_succ]
              refine wpAnyH_take (i := 9) (v := ?vA9) rfl (by kernel_rfl) (by kernel_rfl) (by kernel_rfl) (fun _ _ _ h => h) (Or.inl ⟨by first | kernel_rfl | rfl, ?yA9⟩) hHeld ?rA9
              case yA9 => (intro W hSW; (try dsimp only at hSW); go_simp; (try with_reducible rfl))
              change wpAnyH _ _ _ _ _ _ _ (Act.put _ (some 57) _) _
              simp only [Act.put, List.setIfInBounds_toArray, List.set_cons_zero, List.set_cons_succ]
              refine wpAnyH_take (i := 10) (v := ?vA10) rfl (by kernel_rfl) (by kernel_rfl) (by kernel_rfl) (fun _ _ _ h => h) (Or.inl ⟨by first | kernel_rfl | rfl, ?yA10⟩) hHeld ?rA10
              case yA10 => (intro W hSW; (try dsimp only at hSW); go_simp; (try with_reducible rfl))
              change wpAnyH _ _ _ _ _ _ _ (Act.put _ (some 58) _) _
              simp only [Act.put, List.setIfInBounds_toArray, List.set_cons_zero, List.set_cons_succ]
              refine wpAnyH_take (i := 11) (v := ?vA11) rfl (by kernel_rfl) (by kernel_rfl) (by kernel_rfl) (fun _ _ _ h => h) (Or.inl ⟨by first | kernel_rfl | rfl, ?yA11⟩) hHeld ?rA11
              case yA11 => (intro W hSW; (try dsimp only at hSW); go_simp; (try with_reducible rfl))
              change wpAnyH _ _ _ _ _ _ _ (Act.put _ (some 59) _) _
              simp only [Act.put, List.setIfInBounds_toArray, List.set_cons_zero, List.set_cons_succ]
              refine wpAnyH_take (i := 12) (v := ?vA12) rfl (by kernel_rfl) (by kernel_rfl) (by kernel_rfl) (fun _ _ _ h => h) (Or.inl ⟨by first | kernel_rfl | rfl, ?yA12⟩) hHeld ?rA12
              case yA12 => (intro W hSW; (try dsimp only at hSW); go_simp; (try with_reducible rfl))
              change wpAnyH _ _ _ _ _ _ _ (Act.put _ (some 60) _) _
              simp only [Act.put, List.setIfInBounds_toArray, List.set_cons_zero, List.set_cons_succ]
              refine wpAnyH_take (i := 13) (v := ?vA13) rfl (by kernel_rfl) (by kernel_rfl) (by kernel_rfl) (fun _ _ _ h => h) (Or.inl ⟨by first | kernel_rfl | rfl, ?yA13⟩) hHeld ?rA13
              case yA13 => (intro W hSW; (try dsimp only at hSW); go_simp; (try with_reducible rfl))
              change wpAnyH _ _ _ _ _ _ _ (Act.put _ (some 61) _) _
              simp only [Act.put, List.setIfInBounds_toArray, List.set_cons_zero, List.set_cons_succ]
              refine wpAnyH_take (i := 14) (v := ?vA14) rfl (by kernel_rfl) (by kernel_rfl) (by kernel_rfl) (fun _ _ _ h => h) (Or.inl ⟨by first | kernel_rfl | rfl, ?yA14⟩) hHeld ?rA14
              case yA14 => (intro W hSW; (try dsimp only at hSW); go_simp; (try with_reducible rfl))
              change wpAnyH _ _ _ _ _ _ _ (Act.put _ (some 62) _) _
              simp only [Act.put, List.setIfInBounds_toArray, List.set_cons_zero, List.set_cons_succ]
              refine wpAnyH_take (i := 15) (v := ?vA15) rfl (by kernel_rfl) (by kernel_rfl) (by kernel_rfl) (fun _ _ _ h => h) (Or.inl ⟨by first | kernel_rfl | rfl, ?yA15⟩) hHeld ?rA15
              case yA15 => (intro W hSW; (try dsimp only at hSW); go_simp; (try with_reducible rfl))
              change wpAnyH _ _ _ _ _ _ _ (Act.put _ (some 63) _) _
              simp only [Act.put, List.setIfInBounds_toArray, List.set_cons_zero, List.set_cons_succ]
              refine wpAnyH_take (i := 16) (v := ?vA16) rfl (by kernel_rfl) (by kernel_rfl) (by kernel_rfl) (fun _ _ _ h => h) (Or.inl ⟨by first | kernel_rfl | rfl, ?yA16⟩) hHeld ?rA16
              case yA16 => (intro W hSW; (try dsimp only at hSW); go_simp; (try with_reducible rfl))
              change wpAnyH _ _ _ _ _ _ _ (Act.put _ (some 64) _) _
              simp only [Act.put, List.setIfInBounds_toArray, List.set_cons_zero, List.set_cons_succ]
              refine wpAnyH_ready (rs := [17]) (by kernel_rfl) (by simp) ?_
              refine AllReadyH.cons rfl (fun K hK => ?_) AllReadyH.nil
              go_simp
              refine (HFI.out).mono ?_
              rintro e V2 ⟨rfl, hb2⟩; obtain ⟨hh2, hx2⟩ := HH.out.drew.below hb2; have HH2 : Hid (HasX w X V2 g D) := hh2; have HX2 : Hid (∀ x, X x → V2.heap[x]? = wr.heap[x]?) := hx2; clear hb2 hh2 hx2
              refine hK.out _ _ (HCS.out _ HH2.out.1) (fun hHeld => ?_)
              clear hK K
              try simp only [Act.put, List.setIfInBounds_toArray, List.set_cons_zero, List.set_cons_succ]
              refine wpAnyH_ready (rs := [18]) (by kernel_rfl) (by simp) ?_
              refine AllReadyH.cons rfl (fun K hK => ?_) AllReadyH.nil
              go_simp
              refine ((HWR.out V2 HH2.out)).mono ?_
              rintro e V3 ⟨rfl, hh3, hx3⟩; have HH3 : Hid (HasX w X V3 g D') := hh3; have HX3 : Hid (∀ x, X x → V3.heap[x]? = wr.heap[x]?) := fun x hx => (hx3 x hx).trans (HX2.out x hx); clear hh3 hx3 HH2 HX2
              refine hK.out _ _ (HCS.out _ HH3.out.1) (fun hHeld => ?_)
              clear hK K
              try simp only [Act.put, List.setIfInBounds_toArray, List.set_cons_zero, List.set_cons_succ]
              refine wpAnyH_take (i := 19) (v := ?vA19) rfl (by kernel_rfl) (by kernel_rfl) (by kernel_rfl) (fun _ _ _ h => h) (Or.inl ⟨by first | kernel_rfl | rfl, ?yA19⟩) hHeld ?rA19
              case yA19 => (intro W hSW; (try dsimp only at hSW); go_simp; (try with_reducible rfl))
              change wpAnyH _ _ _ _ _ _ _ (Act.put _ (some 67) _) _
              simp only [Act.put, List.setIfInBounds_toArray, List.set_cons_zero, List.set_cons_succ]
              refine wpAnyH_take (i := 20) (v := ?vA20) rfl (by kernel_rfl) (by kernel_rfl) (by kernel_rfl) (fun _ _ _ h => h) (Or.inl ⟨by first | kernel_rfl | rfl, ?yA20⟩) hHeld ?rA20
              case yA20 => (intro W hSW; (try dsimp only at hSW); go_simp; (try with_reducible rfl))
              change wpAnyH _ _ _ _ _ _ _ (Act.put _ (some 68) _) _
              simp only [Act.put, List.setIfInBounds_toArray, List.set_cons_zero, List.set_cons_succ]
              refine wpAnyH_done (by kernel_rfl) ?_ _
              obtain ⟨e0, e1, e2, e3, e4⟩ := HCS.out _ HH3.out.1
              have hro3 : V3.heap[wob]? = some (.cells (blsV bs) 4 (0, 0)) := (HX3.out wob HXA.out.2.1).trans HRO.out
              have c3 : V3.cell? ⟨wob, aN, none⟩ = some (.bool (bs.getD aN false)) := by rw [cell_of_row _ wob _ _ _ _ hro3]; exact blsV_get bs aN (by omega)
              have f3 := frozen_of_row V3 wob aN _ _ hro3
              have HN : Hid (HasX w X (V3.setCell ⟨wob, aN, none⟩ (.bool true)) g D' ∧ (V3.setCell ⟨wob, aN, none⟩ (.bool true)).heap[wob]? = some (.cells (blsV (bs.set aN true)) 4 (0, 0)) ∧ (V3.setCell ⟨wob, aN, none⟩ (.bool true)).ownsRow 0 9 1 (.slice (some ⟨wab, 0, none⟩) s wcp) s (strsV K)) := by
                refine ⟨HH3.out.poke wob aN _ HXA.out.2.1, ?_, ?_⟩
                · rw [heap_setCell_same V3 wob aN _ _ _ hro3, blsV_set]
                · refine own_keep HOW.out (fun x hx => ?_)
                  rw [ob_slice] at hx
                  cases hx
                  rw [heap_setCell_other _ _ _ _ HXA.out.2.2]
                  exact HX3.out wab HXA.out.1
              clear hHeld HFI HWR HH HRO HOW hro3 HCS HH3 HX3
              go_wp2
              exact ⟨⟨i + 1, D', bs.set aN true, by omega, by omega, by go_num, HLT2.out, HN.out⟩, by simp [intOf]; omega⟩
            · obtain ⟨cd, hcde⟩ : ∃ cd, D.wcode ad T = cd := ⟨_, rfl⟩
              rw [hcde] at hcd
              have hDD : D' = D := by rw [← hD']; exact wput_other (by rw [hcde]; exact hcd)
              have HLT2 : Hid (Later D' K bs (i + 1)) := by rw [hDD]; exact HLT.out.other
              have HWR : Hid (∀ V, HasX w X V g D → Calls Try.prog 11 #[.pointer (some ⟨g, 0, none⟩), .int .i64 ad, .string T] V fun e w' => e = .returned (.int .i64 (cd : Int)) ∧ HasX w X w' g D' ∧ ∀ x, X x → w'.heap[x]? = V.heap[x]?) := by
                intro V hV
                have := write_x hV ad T hwr
                rw [hcde, hD'] at this
                exact this
              have HCS : Hid (∀ V, Below w.heap.size w V → V.cell? ⟨b, oo + i * 5, none⟩ = some (.int .i64 0) ∧ V.cell? ⟨b, oo + i * 5 + 1, none⟩ = some (.int .i64 ad) ∧ V.cell? ⟨b, oo + i * 5 + 2, none⟩ = some (.int .i64 lo) ∧ V.cell? ⟨b, oo + i * 5 + 3, none⟩ = some (.int .u8 (fi : Int)) ∧ V.cell? ⟨b, oo + i * 5 + 4, none⟩ = some (.slice pa pl pc)) := fun V hV =>
                ⟨by rw [hV.cell hbl]; exact d0, by rw [hV.cell hbl]; exact d1, by rw [hV.cell hbl]; exact d2, by rw [hV.cell hbl]; exact d3, by rw [hV.cell hbl]; exact d4⟩
              have hcb : ((cd : Int) == 0) = false := by simp; omega
              have hcn : ¬ (cd : Int) = 0 := by omega
              clear hT hD' d0 d1 d2 d3 d4 hcd hcde hDD
              go_wp2
              refine wp_region_held_drew (S := fun V => V.cell? ⟨b, oo + i * 5, none⟩ = some (.int .i64 0) ∧ V.cell? ⟨b, oo + i * 5 + 1, none⟩ = some (.int .i64 ad) ∧ V.cell? ⟨b, oo + i * 5 + 2, none⟩ = some (.int .i64 lo) ∧ V.cell? ⟨b, oo + i * 5 + 3, none⟩ = some (.int .u8 (fi : Int)) ∧ V.cell? ⟨b, oo + i * 5 + 4, none⟩ = some (.slice pa pl pc)) (by kernel_rfl) (HCS.out _ HH.out.drew.1) (fun hHeld => ?_)
              refine wpAnyH_take (i := 0) (v := ?vB0) rfl (by kernel_rfl) (by kernel_rfl) (by kernel_rfl) (fun _ _ _ h => h) (Or.inl ⟨by first | kernel_rfl | rfl, ?yB0⟩) hHeld ?rB0
              case yB0 => (intro W hSW; (try dsimp only at hSW); go_simp; (try with_reducible rfl))
              change wpAnyH _ _ _ _ _ _ _ (Act.put _ (some 48) _) _
              simp only [Act.put, List.setIfInBounds_toArray, List.set_cons_zero, List.set_cons_succ]
              refine wpAnyH_take (i := 1) (v := ?vB1) rfl (by kernel_rfl) (by kernel_rfl) (by kernel_rfl) (fun _ _ _ h => h) (Or.inl ⟨by first | kernel_rfl | rfl, ?yB1⟩) hHeld ?rB1
              case yB1 => (intro W hSW; (try dsimp only at hSW); go_simp; (try with_reducible rfl))
              change wpAnyH _ _ _ _ _ _ _ (Act.put _ (some 49) _) _
              simp only [Act.put, List.setIfInBounds_toArray, List.set_cons_zero, List.set_cons_succ]
              refine wpAnyH_take (i := 2) (v := ?vB2) rfl (by kernel_rfl) (by kernel_rfl) (by kernel_rfl) (fun _ _ _ h => h) (Or.inl ⟨by first | kernel_rfl | rfl, ?yB2⟩) hHeld ?rB2
              case yB2 => (intro W hSW; (try dsimp only at hSW); go_simp; (try with_reducible rfl))
              change wpAnyH _ _ _ _ _ _ _ (Act.put _ (some 50) _) _
              simp only [Act.put, List.setIfInBounds_toArray, List.set_cons_zero, List.set_cons_succ]
              refine wpAnyH_take (i := 3) (v := ?vB3) rfl (by kernel_rfl) (by kernel_rfl) (by kernel_rfl) (fun _ _ _ h => h) (Or.inl ⟨by first | kernel_rfl | rfl, ?yB3⟩) hHeld ?rB3
              case yB3 => (intro W hSW; (try dsimp only at hSW); go_simp; (try with_reducible rfl))
              change wpAnyH _ _ _ _ _ _ _ (Act.put _ (some 51) _) _
              simp only [Act.put, List.setIfInBounds_toArray, List.set_cons_zero, List.set_cons_succ]
              refine wpAnyH_take (i := 4) (v := ?vB4) rfl (by kernel_rfl) (by kernel_rfl) (by kernel_rfl) (fun _ _ _ h => h) (Or.inl ⟨by first | kernel_rfl | rfl, ?yB4⟩) hHeld ?rB4
              case yB4 => (intro W hSW; (try dsimp only at hSW); go_simp; (try with_reducible rfl))
              change wpAnyH _ _ _ _ _ _ _ (Act.put _ (some 52) _) _
              simp only [Act.put, List.setIfInBounds_toArray, List.set_cons_zero, List.set_cons_succ]
              refine wpAnyH_take (i := 5) (v := ?vB5) rfl (by kernel_rfl) (by kernel_rfl) (by kernel_rfl) (fun _ _ _ h => h) (Or.inl ⟨by first | kernel_rfl | rfl, ?yB5⟩) hHeld ?rB5
              case yB5 => (intro W hSW; (try dsimp only at hSW); go_simp; (try with_reducible rfl))
              change wpAnyH _ _ _ _ _ _ _ (Act.put _ (some 53) _) _
              simp only [Act.put, List.setIfInBounds_toArray, List.set_cons_zero, List.set_cons_succ]
              refine wpAnyH_take (i := 6) (v := ?vB6) rfl (by kernel_rfl) (by kernel_rfl) (by kernel_rfl) (fun _ _ _ h => h) (Or.inl ⟨by first | kernel_rfl | rfl, ?yB6⟩) hHeld ?rB6
              case yB6 => (intro W hSW; (try dsimp only at hSW); go_simp; (try with_reducible rfl))
              change wpAnyH _ _ _ _ _ _ _ (Act.put _ (some 54) _) _
              simp only [Act.put, List.setIfInBounds_toArray, List.set_cons_zero, List.set_cons_succ]
              refine wpAnyH_take (i := 7) (v := ?vB7) rfl (by kernel_rfl) (by kernel_rfl) (by kernel_rfl) (fun _ _ _ h => h) (Or.inl ⟨by first | kernel_rfl | rfl, ?yB7⟩) hHeld ?rB7
              case yB7 => (intro W hSW; (try dsimp only at hSW); go_simp; (try with_reducible rfl))
              change wpAnyH _ _ _ _ _ _ _ (Act.put _ (some 55) _) _
              simp only [Act.put, List.setIfInBounds_toArray, List.set_cons_zero, List.set_cons_succ]
              refine wpAnyH_take (i := 8) (v := ?vB8) rfl (by kernel_rfl) (by kernel_rfl) (by kernel_rfl) (fun _ _ _ h => h) (Or.inl ⟨by first | kernel_rfl | rfl, ?yB8⟩) hHeld ?rB8
              case yB8 => (intro W hSW; (try dsimp only at hSW); go_simp; (try with_reducible rfl))
              change wpAnyH _ _ _ _ _ _ _ (Act.put _ (some 56) _) _
              simp only [Act.put, List.setIfInBounds_toArray, List.set_cons_zero, List.set_cons_succ]
              refine wpAnyH_take (i := 9) (v := ?vB9) rfl (by kernel_rfl) (by kernel_rfl) (by kernel_rfl) (fun _ _ _ h => h) (Or.inl ⟨by first | kernel_rfl | rfl, ?yB9⟩) hHeld ?rB9
              case yB9 => (intro W hSW; (try dsimp only at hSW); go_simp; (try with_reducible rfl))
              change wpAnyH _ _ _ _ _ _ _ (Act.put _ (some 57) _) _
              simp only [Act.put, List.setIfInBounds_toArray, List.set_cons_zero, List.set_cons_succ]
              refine wpAnyH_take (i := 10) (v := ?vB10) rfl (by kernel_rfl) (by kernel_rfl) (by kernel_rfl) (fun _ _ _ h => h) (Or.inl ⟨by first | kernel_rfl | rfl, ?yB10⟩) hHeld ?rB10
              case yB10 => (intro W hSW; (try dsimp only at hSW); go_simp; (try with_reducible rfl))
              change wpAnyH _ _ _ _ _ _ _ (Act.put _ (some 58) _) _
              simp only [Act.put, List.setIfInBounds_toArray, List.set_cons_zero, List.set_cons_succ]
              refine wpAnyH_take (i := 11) (v := ?vB11) rfl (by kernel_rfl) (by kernel_rfl) (by kernel_rfl) (fun _ _ _ h => h) (Or.inl ⟨by first | kernel_rfl | rfl, ?yB11⟩) hHeld ?rB11
              case yB11 => (intro W hSW; (try dsimp only at hSW); go_simp; (try with_reducible rfl))
              change wpAnyH _ _ _ _ _ _ _ (Act.put _ (some 59) _) _
              simp only [Act.put, List.setIfInBounds_toArray, List.set_cons_zero, List.set_cons_succ]
              refine wpAnyH_take (i := 12) (v := ?vB12) rfl (by kernel_rfl) (by kernel_rfl) (by kernel_rfl) (fun _ _ _ h => h) (Or.inl ⟨by first | kernel_rfl | rfl, ?yB12⟩) hHeld ?rB12
              case yB12 => (intro W hSW; (try dsimp only at hSW); go_simp; (try with_reducible rfl))
              change wpAnyH _ _ _ _ _ _ _ (Act.put _ (some 60) _) _
              simp only [Act.put, List.setIfInBounds_toArray, List.set_cons_zero, List.set_cons_succ]
              refine wpAnyH_take (i := 13) (v := ?vB13) rfl (by kernel_rfl) (by kernel_rfl) (by kernel_rfl) (fun _ _ _ h => h) (Or.inl ⟨by first | kernel_rfl | rfl, ?yB13⟩) hHeld ?rB13
              case yB13 => (intro W hSW; (try dsimp only at hSW); go_simp; (try with_reducible rfl))
              change wpAnyH _ _ _ _ _ _ _ (Act.put _ (some 61) _) _
              simp only [Act.put, List.setIfInBounds_toArray, List.set_cons_zero, List.set_cons_succ]
              refine wpAnyH_take (i := 14) (v := ?vB14) rfl (by kernel_rfl) (by kernel_rfl) (by kernel_rfl) (fun _ _ _ h => h) (Or.inl ⟨by first | kernel_rfl | rfl, ?yB14⟩) hHeld ?rB14
              case yB14 => (intro W hSW; (try dsimp only at hSW); go_simp; (try with_reducible rfl))
              change wpAnyH _ _ _ _ _ _ _ (Act.put _ (some 62) _) _
              simp only [Act.put, List.setIfInBounds_toArray, List.set_cons_zero, List.set_cons_succ]
              refine wpAnyH_take (i := 15) (v := ?vB15) rfl (by kernel_rfl) (by kernel_rfl) (by kernel_rfl) (fun _ _ _ h => h) (Or.inl ⟨by first | kernel_rfl | rfl, ?yB15⟩) hHeld ?rB15
              case yB15 => (intro W hSW; (try dsimp only at hSW); go_simp; (try with_reducible rfl))
              change wpAnyH _ _ _ _ _ _ _ (Act.put _ (some 63) _) _
              simp only [Act.put, List.setIfInBounds_toArray, List.set_cons_zero, List.set_cons_succ]
              refine wpAnyH_take (i := 16) (v := ?vB16) rfl (by kernel_rfl) (by kernel_rfl) (by kernel_rfl) (fun _ _ _ h => h) (Or.inl ⟨by first | kernel_rfl | rfl, ?yB16⟩) hHeld ?rB16
              case yB16 => (intro W hSW; (try dsimp only at hSW); go_simp; (try with_reducible rfl))
              change wpAnyH _ _ _ _ _ _ _ (Act.put _ (some 64) _) _
              simp only [Act.put, List.setIfInBounds_toArray, List.set_cons_zero, List.set_cons_succ]
              refine wpAnyH_ready (rs := [17]) (by kernel_rfl) (by simp) ?_
              refine AllReadyH.cons rfl (fun K hK => ?_) AllReadyH.nil
              go_simp
              refine (HFI.out).mono ?_
              rintro e V2 ⟨rfl, hb2⟩; obtain ⟨hh2, hx2⟩ := HH.out.drew.below hb2; have HH2 : Hid (HasX w X V2 g D) := hh2; have HX2 : Hid (∀ x, X x → V2.heap[x]? = wr.heap[x]?) := hx2; clear hb2 hh2 hx2
              refine hK.out _ _ (HCS.out _ HH2.out.1) (fun hHeld => ?_)
              clear hK K
              try simp only [Act.put, List.setIfInBounds_toArray, List.set_cons_zero, List.set_cons_succ]
              refine wpAnyH_ready (rs := [18]) (by kernel_rfl) (by simp) ?_
              refine AllReadyH.cons rfl (fun K hK => ?_) AllReadyH.nil
              go_simp
              refine ((HWR.out V2 HH2.out)).mono ?_
              rintro e V3 ⟨rfl, hh3, hx3⟩; have HH3 : Hid (HasX w X V3 g D') := hh3; have HX3 : Hid (∀ x, X x → V3.heap[x]? = wr.heap[x]?) := fun x hx => (hx3 x hx).trans (HX2.out x hx); clear hh3 hx3 HH2 HX2
              refine hK.out _ _ (HCS.out _ HH3.out.1) (fun hHeld => ?_)
              clear hK K
              try simp only [Act.put, List.setIfInBounds_toArray, List.set_cons_zero, List.set_cons_succ]
              refine wpAnyH_take (i := 19) (v := ?vB19) rfl (by kernel_rfl) (by kernel_rfl) (by kernel_rfl) (fun _ _ _ h => h) (Or.inl ⟨by first | kernel_rfl | rfl, ?yB19⟩) hHeld ?rB19
              case yB19 => (intro W hSW; (try dsimp only at hSW); go_simp; (try with_reducible rfl))
              change wpAnyH _ _ _ _ _ _ _ (Act.put _ (some 67) _) _
              simp only [Act.put, List.setIfInBounds_toArray, List.set_cons_zero, List.set_cons_succ]
              refine wpAnyH_take (i := 20) (v := ?vB20) rfl (by kernel_rfl) (by kernel_rfl) (by kernel_rfl) (fun _ _ _ h => h) (Or.inl ⟨by first | kernel_rfl | rfl, ?yB20⟩) hHeld ?rB20
              case yB20 => (intro W hSW; (try dsimp only at hSW); go_simp; (try with_reducible rfl))
              change wpAnyH _ _ _ _ _ _ _ (Act.put _ (some 68) _) _
              simp only [Act.put, List.setIfInBounds_toArray, List.set_cons_zero, List.set_cons_succ]
              refine wpAnyH_done (by kernel_rfl) ?_ _
              have HN : Hid (HasX w X V3 g D' ∧ V3.heap[wob]? = some (.cells (blsV bs) 4 (0, 0)) ∧ V3.ownsRow 0 9 1 (.slice (some ⟨wab, 0, none⟩) s wcp) s (strsV K)) := by
                refine ⟨HH3.out, (HX3.out wob HXA.out.2.1).trans HRO.out, own_keep HOW.out (fun x hx => ?_)⟩
                rw [ob_slice] at hx
                cases hx
                exact HX3.out wab HXA.out.1
              clear hHeld HFI HWR HH HRO HOW HCS HH3 HX3
              go_wp2
              exact ⟨⟨i + 1, D', bs, by omega, by omega, by go_num, HLT2.out, HN.out⟩, by simp [intOf]; omega⟩
          · have HCS : Hid (∀ V, Below w.heap.size w V → V.cell? ⟨b, oo + i * 5, none⟩ = some (.int .i64 kd) ∧ V.cell? ⟨b, oo + i * 5 + 1, none⟩ = some (.int .i64 ad) ∧ V.cell? ⟨b, oo + i * 5 + 2, none⟩ = some (.int .i64 lo) ∧ V.cell? ⟨b, oo + i * 5 + 3, none⟩ = some (.int .u8 (fi : Int)) ∧ V.cell? ⟨b, oo + i * 5 + 4, none⟩ = some (.slice pa pl pc)) := fun V hV =>
              ⟨by rw [hV.cell hbl]; exact d0, by rw [hV.cell hbl]; exact d1, by rw [hV.cell hbl]; exact d2, by rw [hV.cell hbl]; exact d3, by rw [hV.cell hbl]; exact d4⟩
            have hkb : (kd == 0) = false := by simpa using q0
            have HLT2 : Hid (Later D K bs (i + 1)) := HLT.out.other
            have HN : Hid (HasX w X wr.drew g D ∧ wr.drew.heap[wob]? = some (.cells (blsV bs) 4 (0, 0)) ∧ wr.drew.ownsRow 0 9 1 (.slice (some ⟨wab, 0, none⟩) s wcp) s (strsV K)) := ⟨HH.out.drew, HRO.out, HOW.out⟩
            clear d0 d1 d2 d3 d4
            go_wp2
            refine wp_region_held_drew (S := fun V => V.cell? ⟨b, oo + i * 5, none⟩ = some (.int .i64 kd) ∧ V.cell? ⟨b, oo + i * 5 + 1, none⟩ = some (.int .i64 ad) ∧ V.cell? ⟨b, oo + i * 5 + 2, none⟩ = some (.int .i64 lo) ∧ V.cell? ⟨b, oo + i * 5 + 3, none⟩ = some (.int .u8 (fi : Int)) ∧ V.cell? ⟨b, oo + i * 5 + 4, none⟩ = some (.slice pa pl pc)) (by kernel_rfl) (HCS.out _ HH.out.drew.1) (fun hHeld => ?_)
            refine wpAnyH_take (i := 0) (v := ?vC0) rfl (by kernel_rfl) (by kernel_rfl) (by kernel_rfl) (fun _ _ _ h => h) (Or.inl ⟨by first | kernel_rfl | rfl, ?yC0⟩) hHeld ?rC0
            case yC0 => (intro W hSW; (try dsimp only at hSW); go_simp; (try with_reducible rfl))
            change wpAnyH _ _ _ _ _ _ _ (Act.put _ (some 48) _) _
            simp only [Act.put, List.setIfInBounds_toArray, List.set_cons_zero, List.set_cons_succ]
            refine wpAnyH_take (i := 1) (v := ?vC1) rfl (by kernel_rfl) (by kernel_rfl) (by kernel_rfl) (fun _ _ _ h => h) (Or.inl ⟨by first | kernel_rfl | rfl, ?yC1⟩) hHeld ?rC1
            case yC1 => (intro W hSW; (try dsimp only at hSW); go_simp; (try with_reducible rfl))
            change wpAnyH _ _ _ _ _ _ _ (Act.put _ (some 49) _) _
            simp only [Act.put, List.setIfInBounds_toArray, List.set_cons_zero, List.set_cons_succ]
            refine wpAnyH_take (i := 2) (v := ?vC2) rfl (by kernel_rfl) (by kernel_rfl) (by kernel_rfl) (fun _ _ _ h => h) (Or.inl ⟨by first | kernel_rfl | rfl, ?yC2⟩) hHeld ?rC2
            case yC2 => (intro W hSW; (try dsimp only at hSW); go_simp; (try with_reducible rfl))
            change wpAnyH _ _ _ _ _ _ _ (Act.put _ (some 50) _) _
            simp only [Act.put, List.setIfInBounds_toArray, List.set_cons_zero, List.set_cons_succ]
            refine wpAnyH_take (i := 3) (v := ?vC3) rfl (by kernel_rfl) (by kernel_rfl) (by kernel_rfl) (fun _ _ _ h => h) (Or.inl ⟨by first | kernel_rfl | rfl, ?yC3⟩) hHeld ?rC3
            case yC3 => (intro W hSW; (try dsimp only at hSW); go_simp; (try with_reducible rfl))
            change wpAnyH _ _ _ _ _ _ _ (Act.put _ (some 51) _) _
            simp only [Act.put, List.setIfInBounds_toArray, List.set_cons_zero, List.set_cons_succ]
            refine wpAnyH_take (i := 4) (v := ?vC4) rfl (by kernel_rfl) (by kernel_rfl) (by kernel_rfl) (fun _ _ _ h => h) (Or.inl ⟨by first | kernel_rfl | rfl, ?yC4⟩) hHeld ?rC4
            case yC4 => (intro W hSW; (try dsimp only at hSW); go_simp; (try with_reducible rfl))
            change wpAnyH _ _ _ _ _ _ _ (Act.put _ (some 52) _) _
            simp only [Act.put, List.setIfInBounds_toArray, List.set_cons_zero, List.set_cons_succ]
            refine wpAnyH_take (i := 5) (v := ?vC5) rfl (by kernel_rfl) (by kernel_rfl) (by kernel_rfl) (fun _ _ _ h => h) (Or.inl ⟨by first | kernel_rfl | rfl, ?yC5⟩) hHeld ?rC5
            case yC5 => (intro W hSW; (try dsimp only at hSW); go_simp; (try with_reducible rfl))
            change wpAnyH _ _ _ _ _ _ _ (Act.put _ (some 53) _) _
            simp only [Act.put, List.setIfInBounds_toArray, List.set_cons_zero, List.set_cons_succ]
            refine wpAnyH_take (i := 6) (v := ?vC6) rfl (by kernel_rfl) (by kernel_rfl) (by kernel_rfl) (fun _ _ _ h => h) (Or.inl ⟨by first | kernel_rfl | rfl, ?yC6⟩) hHeld ?rC6
            case yC6 => (intro W hSW; (try dsimp only at hSW); go_simp; (try with_reducible rfl))
            change wpAnyH _ _ _ _ _ _ _ (Act.put _ (some 54) _) _
            simp only [Act.put, List.setIfInBounds_toArray, List.set_cons_zero, List.set_cons_succ]
            refine wpAnyH_take (i := 7) (v := undef) rfl (by kernel_rfl) (by kernel_rfl) (by kernel_rfl) (fun _ _ _ h => h) (Or.inr ⟨by first | kernel_rfl | rfl, rfl⟩) hHeld ?_
            change wpAnyH _ _ _ _ _ _ _ (Act.put _ (some 55) _) _
            simp only [Act.put, List.setIfInBounds_toArray, List.set_cons_zero, List.set_cons_succ]
            refine wpAnyH_take (i := 8) (v := undef) rfl (by kernel_rfl) (by kernel_rfl) (by kernel_rfl) (fun _ _ _ h => h) (Or.inr ⟨by first | kernel_rfl | rfl, rfl⟩) hHeld ?_
            change wpAnyH _ _ _ _ _ _ _ (Act.put _ (some 56) _) _
            simp only [Act.put, List.setIfInBounds_toArray, List.set_cons_zero, List.set_cons_succ]
            refine wpAnyH_take (i := 9) (v := undef) rfl (by kernel_rfl) (by kernel_rfl) (by kernel_rfl) (fun _ _ _ h => h) (Or.inr ⟨by first | kernel_rfl | rfl, rfl⟩) hHeld ?_
            change wpAnyH _ _ _ _ _ _ _ (Act.put _ (some 57) _) _
            simp only [Act.put, List.setIfInBounds_toArray, List.set_cons_zero, List.set_cons_succ]
            refine wpAnyH_take (i := 10) (v := undef) rfl (by kernel_rfl) (by kernel_rfl) (by kernel_rfl) (fun _ _ _ h => h) (Or.inr ⟨by first | kernel_rfl | rfl, rfl⟩) hHeld ?_
            change wpAnyH _ _ _ _ _ _ _ (Act.put _ (some 58) _) _
            simp only [Act.put, List.setIfInBounds_toArray, List.set_cons_zero, List.set_cons_succ]
            refine wpAnyH_take (i := 11) (v := undef) rfl (by kernel_rfl) (by kernel_rfl) (by kernel_rfl) (fun _ _ _ h => h) (Or.inr ⟨by first | kernel_rfl | rfl, rfl⟩) hHeld ?_
            change wpAnyH _ _ _ _ _ _ _ (Act.put _ (some 59) _) _
            simp only [Act.put, List.setIfInBounds_toArray, List.set_cons_zero, List.set_cons_succ]
            refine wpAnyH_take (i := 12) (v := undef) rfl (by kernel_rfl) (by kernel_rfl) (by kernel_rfl) (fun _ _ _ h => h) (Or.inr ⟨by first | kernel_rfl | rfl, rfl⟩) hHeld ?_
            change wpAnyH _ _ _ _ _ _ _ (Act.put _ (some 60) _) _
            simp only [Act.put, List.setIfInBounds_toArray, List.set_cons_zero, List.set_cons_succ]
            refine wpAnyH_take (i := 13) (v := undef) rfl (by kernel_rfl) (by kernel_rfl) (by kernel_rfl) (fun _ _ _ h => h) (Or.inr ⟨by first | kernel_rfl | rfl, rfl⟩) hHeld ?_
            change wpAnyH _ _ _ _ _ _ _ (Act.put _ (some 61) _) _
            simp only [Act.put, List.setIfInBounds_toArray, List.set_cons_zero, List.set_cons_succ]
            refine wpAnyH_take (i := 14) (v := undef) rfl (by kernel_rfl) (by kernel_rfl) (by kernel_rfl) (fun _ _ _ h => h) (Or.inr ⟨by first | kernel_rfl | rfl, rfl⟩) hHeld ?_
            change wpAnyH _ _ _ _ _ _ _ (Act.put _ (some 62) _) _
            simp only [Act.put, List.setIfInBounds_toArray, List.set_cons_zero, List.set_cons_succ]
            refine wpAnyH_take (i := 15) (v := undef) rfl (by kernel_rfl) (by kernel_rfl) (by kernel_rfl) (fun _ _ _ h => h) (Or.inr ⟨by first | kernel_rfl | rfl, rfl⟩) hHeld ?_
            change wpAnyH _ _ _ _ _ _ _ (Act.put _ (some 63) _) _
            simp only [Act.put, List.setIfInBounds_toArray, List.set_cons_zero, List.set_cons_succ]
            refine wpAnyH_take (i := 16) (v := undef) rfl (by kernel_rfl) (by kernel_rfl) (by kernel_rfl) (fun _ _ _ h => h) (Or.inr ⟨by first | kernel_rfl | rfl, rfl⟩) hHeld ?_
            change wpAnyH _ _ _ _ _ _ _ (Act.put _ (some 64) _) _
            simp only [Act.put, List.setIfInBounds_toArray, List.set_cons_zero, List.set_cons_succ]
            refine wpAnyH_take (i := 17) (v := undef) rfl (by kernel_rfl) (by kernel_rfl) (by kernel_rfl) (fun _ _ _ h => h) (Or.inr ⟨by first | kernel_rfl | rfl, rfl⟩) hHeld ?_
            change wpAnyH _ _ _ _ _ _ _ (Act.put _ (some 65) _) _
            simp only [Act.put, List.setIfInBounds_toArray, List.set_cons_zero, List.set_cons_succ]
            refine wpAnyH_take (i := 18) (v := undef) rfl (by kernel_rfl) (by kernel_rfl) (by kernel_rfl) (fun _ _ _ h => h) (Or.inr ⟨by first | kernel_rfl | rfl, rfl⟩) hHeld ?_
            change wpAnyH _ _ _ _ _ _ _ (Act.put _ (some 66) _) _
            simp only [Act.put, List.setIfInBounds_toArray, List.set_cons_zero, List.set_cons_succ]
            refine wpAnyH_take (i := 19) (v := undef) rfl (by kernel_rfl) (by kernel_rfl) (by kernel_rfl) (fun _ _ _ h => h) (Or.inr ⟨by first | kernel_rfl | rfl, rfl⟩) hHeld ?_
            change wpAnyH _ _ _ _ _ _ _ (Act.put _ (some 67) _) _
            simp only [Act.put, List.setIfInBounds_toArray, List.set_cons_zero, List.set_cons_succ]
            refine wpAnyH_take (i := 20) (v := ?vC20) rfl (by kernel_rfl) (by kernel_rfl) (by kernel_rfl) (fun _ _ _ h => h) (Or.inl ⟨by first | kernel_rfl | rfl, ?yC20⟩) hHeld ?rC20
            case yC20 => (intro W hSW; (try dsimp only at hSW); go_simp; (try with_reducible rfl))
            change wpAnyH _ _ _ _ _ _ _ (Act.put _ (some 68) _) _
            simp only [Act.put, List.setIfInBounds_toArray, List.set_cons_zero, List.set_cons_succ]
            refine wpAnyH_done (by kernel_rfl) ?_ _
            clear hHeld HH HRO HOW HCS
            go_wp2
            exact ⟨⟨i + 1, D, bs, by omega, by omega, by go_num, HLT2.out, HN.out⟩, by simp [intOf]; omega⟩
        · have HFA : Hid (Calls Try.prog 10 #[.pointer (some ⟨g, 0, none⟩), .slice a2 len2 cap2] wr fun e w' => e = .returned (.tuple #[]) ∧ HasX w X w' g (D.failed (pickOf l2)) ∧ ∀ x, X x → w'.heap[x]? = wr.heap[x]?) := fail_x HH.out a2 len2 cap2 l2 HBL.out
          have HSZ : Hid (((D.failed (pickOf l2)).started).kept.length = s) := by
            show _ = s
            rw [HLT.out.size, hKl]
          have HSTAY : Hid (∀ j, bs.getD j false = false → ((D.failed (pickOf l2)).started).seen.getD j ByteArray.empty = K.getD j ByteArray.empty) := fun j hj => HLT.out.stays (pickOf l2) j hj
          obtain ⟨D2, hD2⟩ : ∃ D2, D.failed (pickOf l2) = D2 := ⟨_, rfl⟩
          have hu2 : D2.up = false := by rw [← hD2]; rfl
          have hw2 : D2.waits = [] := by rw [← hD2]; rfl
          rw [hD2] at HFA HSZ HSTAY
          have hend : ¬ i < ben1 ∨ (i < ben1 ∧ ¬ i < 40) := by omega
          clear hD2 HLT hgo
          rcases hend with hend | ⟨hend0, hend⟩
          · have k1 : ¬ (i : Int) < (ben1 : Int) := by omega
            go_wp2_with fail
            refine HFA.out.mono ?_
            rintro e V1 ⟨rfl, hh1, hx1⟩
            have HUP := up_x hh1
            rw [hu2] at HUP
            have HWA := waits_x hh1
            rw [hw2] at HWA
            have HST := start_x hh1 hu2 hw2
            have HX1 : Hid (∀ x, X x → V1.heap[x]? = wr.heap[x]?) := hx1
            clear HFA hh1 hx1
            go_wp2_with fail
            refine HUP.mono ?_
            rintro e V2 ⟨rfl, hV⟩
            subst V2
            go_wp2_with fail
            refine HWA.mono ?_
            rintro e V2 ⟨rfl, hV⟩
            subst V2
            clear HUP HWA
            go_wp2_with fail
            refine HST.mono ?_
            rintro e V2 ⟨rfl, hh2, hx2⟩
            have HAL := all_x hh2 rfl
            rw [HSZ.out] at HAL
            have HX2 : Hid (∀ x, X x → V2.heap[x]? = wr.heap[x]?) := fun x hx => (hx2 x hx).trans (HX1.out x hx)
            have HH2 : Hid (HasX w X V2 g D2.started) := hh2
            clear HST hh2 hx2 HX1
            go_wp2_with fail
            refine HAL.mono ?_
            rintro e V3 ⟨nb, ncp, rfl, hnb, hown3, hb3⟩
            obtain ⟨hh3, hx3⟩ := HH2.out.below hb3
            have hro3 : V3.heap[wob]? = some (.cells (blsV bs) 4 (0, 0)) := ((hx3 wob HXA.out.2.1).trans (HX2.out wob HXA.out.2.1)).trans HRO.out
            have how3 : V3.ownsRow 0 9 1 (.slice (some ⟨wab, 0, none⟩) s wcp) s (strsV K) := own_keep HOW.out (fun x hx => by
              rw [ob_slice] at hx
              cases hx
              exact (hx3 wab HXA.out.1).trans (HX2.out wab HXA.out.1))
            have HCEL : Hid (∀ (V : World), V.heap = V3.heap → ∀ j, j < s → V.cell? ⟨wob, j, none⟩ = some (.bool (bs.getD j false)) ∧ V.cell? ⟨nb, j, none⟩ = some (.string (D2.started.seen.getD j ByteArray.empty)) ∧ V.cell? ⟨wab, j, none⟩ = some (.string (K.getD j ByteArray.empty))) := by
              intro V hV j hj
              have e : ∀ a : Addr, V.cell? a = V3.cell? a := fun a => World.cell?_of_block (w := V3) (by rw [hV])
              refine ⟨?_, ?_, ?_⟩
              · rw [e, cell_of_row _ wob _ _ _ _ hro3]; exact blsV_get bs j (by omega)
              · rw [e]; exact own_str hown3 j hj
              · rw [e]; exact own_str how3 j hj
            have HB3 : Hid (Below w.heap.size w V3) := hh3.1
            clear HAL hh3 hx3 hro3 how3 hown3 hb3 HH2 HX2 HOW HRO HH
            go_wp2
            go_loopw [14] (fun v wr => ∃ j : Nat, j ≤ s ∧ v = .int .i64 j ∧ wr.heap = V3.heap ∧ Below w.heap.size w wr) (fun v _ => s - (intOf v).toNat)
            case atStart => exact ⟨0, by omega, rfl, rfl, HB3.out⟩
            case round =>
              obtain ⟨j, hj, rfl, hheap, hbel⟩ := hrel
              have HB4 : Hid (Below w.heap.size w wr) := hbel
              have HHP : Hid (wr.heap = V3.heap) := hheap
              clear hbel hheap HB3
              by_cases hlt : j < s
              · have kj : (j : Int) < (s : Int) := by omega
                obtain ⟨e1, e2, e3⟩ := HCEL.out wr.drew HHP.out j hlt
                have HNX : Hid (wr.drew.heap = V3.heap ∧ Below w.heap.size w wr.drew) := ⟨HHP.out, HB4.out.drew⟩
                cases hbj : bs.getD j false with
                | true =>
                  rw [hbj] at e1
                  generalize D2.started.seen.getD j ByteArray.empty = tn at e2
                  generalize K.getD j ByteArray.empty = tw at e3
                  go_wp2
                  refine wp_region_held_drew (S := fun V => V.cell? ⟨wob, j, none⟩ = some (.bool true) ∧ V.cell? ⟨nb, j, none⟩ = some (.string tn) ∧ V.cell? ⟨wab, j, none⟩ = some (.string tw)) (by kernel_rfl) (⟨e1, e2, e3⟩) (fun hHeld => ?_)
                  refine wpAnyH_take (i := 0) (v := ?vEa0) rfl (by kernel_rfl) (by kernel_rfl) (by kernel_rfl) (fun _ _ _ h => h) (Or.inl ⟨by first | kernel_rfl | rfl, ?yEa0⟩) hHeld ?rEa0
                  case yEa0 => (intro W hSW; (try dsimp only at hSW); go_simp; (try with_reducible rfl))
                  change wpAnyH _ _ _ _ _ _ _ (Act.put _ (some 99) _) _
                  simp only [Act.put, List.setIfInBounds_toArray, List.set_cons_zero, List.set_cons_succ]
                  refine wpAnyH_take (i := 1) (v := ?vEa1) rfl (by kernel_rfl) (by kernel_rfl) (by kernel_rfl) (fun _ _ _ h => h) (Or.inl ⟨by first | kernel_rfl | rfl, ?yEa1⟩) hHeld ?rEa1
                  case yEa1 => (intro W hSW; (try dsimp only at hSW); go_simp; (try with_reducible rfl))
                  change wpAnyH _ _ _ _ _ _ _ (Act.put _ (some 100) _) _
                  simp only [Act.put, List.setIfInBounds_toArray, List.set_cons_zero, List.set_cons_succ]
                  refine wpAnyH_take (i := 2) (v := ?vEa2) rfl (by kernel_rfl) (by kernel_rfl) (by kernel_rfl) (fun _ _ _ h => h) (Or.inl ⟨by first | kernel_rfl | rfl, ?yEa2⟩) hHeld ?rEa2
                  case yEa2 => (intro W hSW; (try dsimp only at hSW); go_simp; (try with_reducible rfl))
                  change wpAnyH _ _ _ _ _ _ _ (Act.put _ (some 101) _) _
                  simp only [Act.put, List.setIfInBounds_toArray, List.set_cons_zero, List.set_cons_succ]
                  refine wpAnyH_take (i := 3) (v := ?vEa3) rfl (by kernel_rfl) (by kernel_rfl) (by kernel_rfl) (fun _ _ _ h => h) (Or.inl ⟨by first | kernel_rfl | rfl, ?yEa3⟩) hHeld ?rEa3
                  case yEa3 => (intro W hSW; (try dsimp only at hSW); go_simp; (try with_reducible rfl))
                  change wpAnyH _ _ _ _ _ _ _ (Act.put _ (some 102) _) _
                  simp only [Act.put, List.setIfInBounds_toArray, List.set_cons_zero, List.set_cons_succ]
                  refine wpAnyH_take (i := 4) (v := ?vEa4) rfl (by kernel_rfl) (by kernel_rfl) (by kernel_rfl) (fun _ _ _ h => h) (Or.inl ⟨by first | kernel_rfl | rfl, ?yEa4⟩) hHeld ?rEa4
                  case yEa4 => (intro W hSW; (try dsimp only at hSW); go_simp; (try with_reducible rfl))
                  change wpAnyH _ _ _ _ _ _ _ (Act.put _ (some 103) _) _
                  simp only [Act.put, List.setIfInBounds_toArray, List.set_cons_zero, List.set_cons_succ]
                  refine wpAnyH_take (i := 5) (v := ?vEa5) rfl (by kernel_rfl) (by kernel_rfl) (by kernel_rfl) (fun _ _ _ h => h) (Or.inl ⟨by first | kernel_rfl | rfl, ?yEa5⟩) hHeld ?rEa5
                  case yEa5 => (intro W hSW; (try dsimp only at hSW); go_simp; (try with_reducible rfl))
                  change wpAnyH _ _ _ _ _ _ _ (Act.put _ (some 104) _) _
                  simp only [Act.put, List.setIfInBounds_toArray, List.set_cons_zero, List.set_cons_succ]
                  refine wpAnyH_take (i := 6) (v := undef) rfl (by kernel_rfl) (by kernel_rfl) (by kernel_rfl) (fun _ _ _ h => h) (Or.inr ⟨by first | kernel_rfl | rfl, rfl⟩) hHeld ?_
                  change wpAnyH _ _ _ _ _ _ _ (Act.put _ (some 105) _) _
                  simp only [Act.put, List.setIfInBounds_toArray, List.set_cons_zero, List.set_cons_succ]
                  refine wpAnyH_take (i := 7) (v := undef) rfl (by kernel_rfl) (by kernel_rfl) (by kernel_rfl) (fun _ _ _ h => h) (Or.inr ⟨by first | kernel_rfl | rfl, rfl⟩) hHeld ?_
                  change wpAnyH _ _ _ _ _ _ _ (Act.put _ (some 106) _) _
                  simp only [Act.put, List.setIfInBounds_toArray, List.set_cons_zero, List.set_cons_succ]
                  refine wpAnyH_take (i := 8) (v := undef) rfl (by kernel_rfl) (by kernel_rfl) (by kernel_rfl) (fun _ _ _ h => h) (Or.inr ⟨by first | kernel_rfl | rfl, rfl⟩) hHeld ?_
                  change wpAnyH _ _ _ _ _ _ _ (Act.put _ (some 107) _) _
                  simp only [Act.put, List.setIfInBounds_toArray, List.set_cons_zero, List.set_cons_succ]
                  refine wpAnyH_take (i := 9) (v := undef) rfl (by kernel_rfl) (by kernel_rfl) (by kernel_rfl) (fun _ _ _ h => h) (Or.inr ⟨by first | kernel_rfl | rfl, rfl⟩) hHeld ?_
                  change wpAnyH _ _ _ _ _ _ _ (Act.put _ (some 108) _) _
                  simp only [Act.put, List.setIfInBounds_toArray, List.set_cons_zero, List.set_cons_succ]
                  refine wpAnyH_take (i := 10) (v := undef) rfl (by kernel_rfl) (by kernel_rfl) (by kernel_rfl) (fun _ _ _ h => h) (Or.inr ⟨by first | kernel_rfl | rfl, rfl⟩) hHeld ?_
                  change wpAnyH _ _ _ _ _ _ _ (Act.put _ (some 109) _) _
                  simp only [Act.put, List.setIfInBounds_toArray, List.set_cons_zero, List.set_cons_succ]
                  refine wpAnyH_take (i := 11) (v := undef) rfl (by kernel_rfl) (by kernel_rfl) (by kernel_rfl) (fun _ _ _ h => h) (Or.inr ⟨by first | kernel_rfl | rfl, rfl⟩) hHeld ?_
                  change wpAnyH _ _ _ _ _ _ _ (Act.put _ (some 110) _) _
                  simp only [Act.put, List.setIfInBounds_toArray, List.set_cons_zero, List.set_cons_succ]
                  refine wpAnyH_take (i := 12) (v := undef) rfl (by kernel_rfl) (by kernel_rfl) (by kernel_rfl) (fun _ _ _ h => h) (Or.inr ⟨by first | kernel_rfl | rfl, rfl⟩) hHeld ?_
                  change wpAnyH _ _ _ _ _ _ _ (Act.put _ (some 111) _) _
                  simp only [Act.put, List.setIfInBounds_toArray, List.set_cons_zero, List.set_cons_succ]
                  refine wpAnyH_take (i := 13) (v := undef) rfl (by kernel_rfl) (by kernel_rfl) (by kernel_rfl) (fun _ _ _ h => h) (Or.inr ⟨by first | kernel_rfl | rfl, rfl⟩) hHeld ?_
                  change wpAnyH _ _ _ _ _ _ _ (Act.put _ (some 112) _) _
                  simp only [Act.put, List.setIfInBounds_toArray, List.set_cons_zero, List.set_cons_succ]
                  refine wpAnyH_take (i := 14) (v := undef) rfl (by kernel_rfl) (by kernel_rfl) (by kernel_rfl) (fun _ _ _ h => h) (Or.inr ⟨by first | kernel_rfl | rfl, rfl⟩) hHeld ?_
                  change wpAnyH _ _ _ _ _ _ _ (Act.put _ (some 113) _) _
                  simp only [Act.put, List.setIfInBounds_toArray, List.set_cons_zero, List.set_cons_succ]
                  refine wpAnyH_take (i := 15) (v := ?vEa15) rfl (by kernel_rfl) (by kernel_rfl) (by kernel_rfl) (fun _ _ _ h => h) (Or.inl ⟨by first | kernel_rfl | rfl, ?yEa15⟩) hHeld ?rEa15
                  case yEa15 => (intro W hSW; (try dsimp only at hSW); go_simp; (try with_reducible rfl))
                  change wpAnyH _ _ _ _ _ _ _ (Act.put _ (some 114) _) _
                  simp only [Act.put, List.setIfInBounds_toArray, List.set_cons_zero, List.set_cons_succ]
                  refine wpAnyH_done (by kernel_rfl) ?_ _
                  clear hHeld e1 e2 e3
                  go_wp2
                  exact ⟨⟨j + 1, by omega, by go_num, HNX.out⟩, by simp [intOf]; omega⟩
                | false =>
                  rw [hbj] at e1
                  rw [HSTAY.out j hbj] at e2
                  obtain ⟨tw, htw⟩ : ∃ tw, K.getD j ByteArray.empty = tw := ⟨_, rfl⟩
                  rw [htw] at e2 e3
                  clear htw
                  go_wp2
                  refine wp_region_held_drew (S := fun V => V.cell? ⟨wob, j, none⟩ = some (.bool false) ∧ V.cell? ⟨nb, j, none⟩ = some (.string tw) ∧ V.cell? ⟨wab, j, none⟩ = some (.string tw)) (by kernel_rfl) (⟨e1, e2, e3⟩) (fun hHeld => ?_)
                  refine wpAnyH_take (i := 0) (v := ?vEb0) rfl (by kernel_rfl) (by kernel_rfl) (by kernel_rfl) (fun _ _ _ h => h) (Or.inl ⟨by first | kernel_rfl | rfl, ?yEb0⟩) hHeld ?rEb0
                  case yEb0 => (intro W hSW; (try dsimp only at hSW); go_simp; (try with_reducible rfl))
                  change wpAnyH _ _ _ _ _ _ _ (Act.put _ (some 99) _) _
                  simp only [Act.put, List.setIfInBounds_toArray, List.set_cons_zero, List.set_cons_succ]
                  refine wpAnyH_take (i := 1) (v := ?vEb1) rfl (by kernel_rfl) (by kernel_rfl) (by kernel_rfl) (fun _ _ _ h => h) (Or.inl ⟨by first | kernel_rfl | rfl, ?yEb1⟩) hHeld ?rEb1
                  case yEb1 => (intro W hSW; (try dsimp only at hSW); go_simp; (try with_reducible rfl))
                  change wpAnyH _ _ _ _ _ _ _ (Act.put _ (some 100) _) _
                  simp only [Act.put, List.setIfInBounds_toArray, List.set_cons_zero, List.set_cons_succ]
                  refine wpAnyH_take (i := 2) (v := ?vEb2) rfl (by kernel_rfl) (by kernel_rfl) (by kernel_rfl) (fun _ _ _ h => h) (Or.inl ⟨by first | kernel_rfl | rfl, ?yEb2⟩) hHeld ?rEb2
                  case yEb2 => (intro W hSW; (try dsimp only at hSW); go_simp; (try with_reducible rfl))
                  change wpAnyH _ _ _ _ _ _ _ (Act.put _ (some 101) _) _
                  simp only [Act.put, List.setIfInBounds_toArray, List.set_cons_zero, List.set_cons_succ]
                  refine wpAnyH_take (i := 3) (v := ?vEb3) rfl (by kernel_rfl) (by kernel_rfl) (by kernel_rfl) (fun _ _ _ h => h) (Or.inl ⟨by first | kernel_rfl | rfl, ?yEb3⟩) hHeld ?rEb3
                  case yEb3 => (intro W hSW; (try dsimp only at hSW); go_simp; (try with_reducible rfl))
                  change wpAnyH _ _ _ _ _ _ _ (Act.put _ (some 102) _) _
                  simp only [Act.put, List.setIfInBounds_toArray, List.set_cons_zero, List.set_cons_succ]
                  refine wpAnyH_take (i := 4) (v := ?vEb4) rfl (by kernel_rfl) (by kernel_rfl) (by kernel_rfl) (fun _ _ _ h => h) (Or.inl ⟨by first | kernel_rfl | rfl, ?yEb4⟩) hHeld ?rEb4
                  case yEb4 => (intro W hSW; (try dsimp only at hSW); go_simp; (try with_reducible rfl))
                  change wpAnyH _ _ _ _ _ _ _ (Act.put _ (some 103) _) _
                  simp only [Act.put, List.setIfInBounds_toArray, List.set_cons_zero, List.set_cons_succ]
                  refine wpAnyH_take (i := 5) (v := ?vEb5) rfl (by kernel_rfl) (by kernel_rfl) (by kernel_rfl) (fun _ _ _ h => h) (Or.inl ⟨by first | kernel_rfl | rfl, ?yEb5⟩) hHeld ?rEb5
                  case yEb5 => (intro W hSW; (try dsimp only at hSW); go_simp; (try with_reducible rfl))
                  change wpAnyH _ _ _ _ _ _ _ (Act.put _ (some 104) _) _
                  simp only [Act.put, List.setIfInBounds_toArray, List.set_cons_zero, List.set_cons_succ]
                  refine wpAnyH_take (i := 6) (v := ?vEb6) rfl (by kernel_rfl) (by kernel_rfl) (by kernel_rfl) (fun _ _ _ h => h) (Or.inl ⟨by first | kernel_rfl | rfl, ?yEb6⟩) hHeld ?rEb6
                  case yEb6 => (intro W hSW; (try dsimp only at hSW); go_simp; (try with_reducible rfl))
                  change wpAnyH _ _ _ _ _ _ _ (Act.put _ (some 105) _) _
                  simp only [Act.put, List.setIfInBounds_toArray, List.set_cons_zero, List.set_cons_succ]
                  refine wpAnyH_take (i := 7) (v := ?vEb7) rfl (by kernel_rfl) (by kernel_rfl) (by kernel_rfl) (fun _ _ _ h => h) (Or.inl ⟨by first | kernel_rfl | rfl, ?yEb7⟩) hHeld ?rEb7
                  case yEb7 => (intro W hSW; (try dsimp only at hSW); go_simp; (try with_reducible rfl))
                  change wpAnyH _ _ _ _ _ _ _ (Act.put _ (some 106) _) _
                  simp only [Act.put, List.setIfInBounds_toArray, List.set_cons_zero, List.set_cons_succ]
                  refine wpAnyH_take (i := 8) (v := ?vEb8) rfl (by kernel_rfl) (by kernel_rfl) (by kernel_rfl) (fun _ _ _ h => h) (Or.inl ⟨by first | kernel_rfl | rfl, ?yEb8⟩) hHeld ?rEb8
                  case yEb8 => (intro W hSW; (try dsimp only at hSW); go_simp; (try with_reducible rfl))
                  change wpAnyH _ _ _ _ _ _ _ (Act.put _ (some 107) _) _
                  simp only [Act.put, List.setIfInBounds_toArray, List.set_cons_zero, List.set_cons_succ]
                  refine wpAnyH_take (i := 9) (v := ?vEb9) rfl (by kernel_rfl) (by kernel_rfl) (by kernel_rfl) (fun _ _ _ h => h) (Or.inl ⟨by first | kernel_rfl | rfl, ?yEb9⟩) hHeld ?rEb9
                  case yEb9 => (intro W hSW; (try dsimp only at hSW); go_simp; (try with_reducible rfl))
                  change wpAnyH _ _ _ _ _ _ _ (Act.put _ (some 108) _) _
                  simp only [Act.put, List.setIfInBounds_toArray, List.set_cons_zero, List.set_cons_succ]
                  refine wpAnyH_take (i := 10) (v := ?vEb10) rfl (by kernel_rfl) (by kernel_rfl) (by kernel_rfl) (fun _ _ _ h => h) (Or.inl ⟨by first | kernel_rfl | rfl, ?yEb10⟩) hHeld ?rEb10
                  case yEb10 => (intro W hSW; (try dsimp only at hSW); go_simp; (try with_reducible rfl))
                  change wpAnyH _ _ _ _ _ _ _ (Act.put _ (some 109) _) _
                  simp only [Act.put, List.setIfInBounds_toArray, List.set_cons_zero, List.set_cons_succ]
                  refine wpAnyH_take (i := 11) (v := ?vEb11) rfl (by kernel_rfl) (by kernel_rfl) (by kernel_rfl) (fun _ _ _ h => h) (Or.inl ⟨by first | kernel_rfl | rfl, ?yEb11⟩) hHeld ?rEb11
                  case yEb11 => (intro W hSW; (try dsimp only at hSW); go_simp; (try with_reducible rfl))
                  change wpAnyH _ _ _ _ _ _ _ (Act.put _ (some 110) _) _
                  simp only [Act.put, List.setIfInBounds_toArray, List.set_cons_zero, List.set_cons_succ]
                  refine wpAnyH_take (i := 12) (v := ?vEb12) rfl (by kernel_rfl) (by kernel_rfl) (by kernel_rfl) (fun _ _ _ h => h) (Or.inl ⟨by first | kernel_rfl | rfl, ?yEb12⟩) hHeld ?rEb12
                  case yEb12 => (intro W hSW; (try dsimp only at hSW); go_simp; (try with_reducible rfl))
                  change wpAnyH _ _ _ _ _ _ _ (Act.put _ (some 111) _) _
                  simp only [Act.put, List.setIfInBounds_toArray, List.set_cons_zero, List.set_cons_succ]
                  refine wpAnyH_take (i := 13) (v := ?vEb13) rfl (by kernel_rfl) (by kernel_rfl) (by kernel_rfl) (fun _ _ _ h => h) (Or.inl ⟨by first | kernel_rfl | rfl, ?yEb13⟩) hHeld ?rEb13
                  case yEb13 => (intro W hSW; (try dsimp only at hSW); go_simp; (try with_reducible rfl))
                  change wpAnyH _ _ _ _ _ _ _ (Act.put _ (some 112) _) _
                  simp only [Act.put, List.setIfInBounds_toArray, List.set_cons_zero, List.set_cons_succ]
                  refine wpAnyH_take (i := 14) (v := ?vEb14) rfl (by kernel_rfl) (by kernel_rfl) (by kernel_rfl) (fun _ _ _ h => h) (Or.inl ⟨by first | kernel_rfl | rfl, ?yEb14⟩) hHeld ?rEb14
                  case yEb14 => (intro W hSW; (try dsimp only at hSW); go_simp; (try with_reducible rfl))
                  change wpAnyH _ _ _ _ _ _ _ (Act.put _ (some 113) _) _
                  simp only [Act.put, List.setIfInBounds_toArray, List.set_cons_zero, List.set_cons_succ]
                  refine wpAnyH_take (i := 15) (v := ?vEb15) rfl (by kernel_rfl) (by kernel_rfl) (by kernel_rfl) (fun _ _ _ h => h) (Or.inl ⟨by first | kernel_rfl | rfl, ?yEb15⟩) hHeld ?rEb15
                  case yEb15 => (intro W hSW; (try dsimp only at hSW); go_simp; (try with_reducible rfl))
                  change wpAnyH _ _ _ _ _ _ _ (Act.put _ (some 114) _) _
                  simp only [Act.put, List.setIfInBounds_toArray, List.set_cons_zero, List.set_cons_succ]
                  refine wpAnyH_done (by kernel_rfl) ?_ _
                  clear hHeld e1 e2 e3
                  go_wp2
                  exact ⟨⟨j + 1, by omega, by go_num, HNX.out⟩, by simp [intOf]; omega⟩
              · obtain rfl : j = s := by omega
                have kj : ¬ (j : Int) < (j : Int) := by omega
                go_wp2_with fail
                refine (HLV.out _ HB4.out).mono ?_
                rintro e w9 ⟨rfl, hb9⟩
                go_wp2
                go_ret
                exact ⟨rfl, hb9⟩
          · have k1 : (i : Int) < (ben1 : Int) := by omega
            have k2 : ¬ (i : Int) < 40 := by omega
            go_wp2_with fail
            refine HFA.out.mono ?_
            rintro e V1 ⟨rfl, hh1, hx1⟩
            have HUP := up_x hh1
            rw [hu2] at HUP
            have HWA := waits_x hh1
            rw [hw2] at HWA
            have HST := start_x hh1 hu2 hw2
            have HX1 : Hid (∀ x, X x → V1.heap[x]? = wr.heap[x]?) := hx1
            clear HFA hh1 hx1
            go_wp2_with fail
            refine HUP.mono ?_
            rintro e V2 ⟨rfl, hV⟩
            subst V2
            go_wp2_with fail
            refine HWA.mono ?_
            rintro e V2 ⟨rfl, hV⟩
            subst V2
            clear HUP HWA
            go_wp2_with fail
            refine HST.mono ?_
            rintro e V2 ⟨rfl, hh2, hx2⟩
            have HAL := all_x hh2 rfl
            rw [HSZ.out] at HAL
            have HX2 : Hid (∀ x, X x → V2.heap[x]? = wr.heap[x]?) := fun x hx => (hx2 x hx).trans (HX1.out x hx)
            have HH2 : Hid (HasX w X V2 g D2.started) := hh2
            clear HST hh2 hx2 HX1
            go_wp2_with fail
            refine HAL.mono ?_
            rintro e V3 ⟨nb, ncp, rfl, hnb, hown3, hb3⟩
            obtain ⟨hh3, hx3⟩ := HH2.out.below hb3
            have hro3 : V3.heap[wob]? = some (.cells (blsV bs) 4 (0, 0)) := ((hx3 wob HXA.out.2.1).trans (HX2.out wob HXA.out.2.1)).trans HRO.out
            have how3 : V3.ownsRow 0 9 1 (.slice (some ⟨wab, 0, none⟩) s wcp) s (strsV K) := own_keep HOW.out (fun x hx => by
              rw [ob_slice] at hx
              cases hx
              exact (hx3 wab HXA.out.1).trans (HX2.out wab HXA.out.1))
            have HCEL : Hid (∀ (V : World), V.heap = V3.heap → ∀ j, j < s → V.cell? ⟨wob, j, none⟩ = some (.bool (bs.getD j false)) ∧ V.cell? ⟨nb, j, none⟩ = some (.string (D2.started.seen.getD j ByteArray.empty)) ∧ V.cell? ⟨wab, j, none⟩ = some (.string (K.getD j ByteArray.empty))) := by
              intro V hV j hj
              have e : ∀ a : Addr, V.cell? a = V3.cell? a := fun a => World.cell?_of_block (w := V3) (by rw [hV])
              refine ⟨?_, ?_, ?_⟩
              · rw [e, cell_of_row _ wob _ _ _ _ hro3]; exact blsV_get bs j (by omega)
              · rw [e]; exact own_str hown3 j hj
              · rw [e]; exact own_str how3 j hj
            have HB3 : Hid (Below w.heap.size w V3) := hh3.1
            clear HAL hh3 hx3 hro3 how3 hown3 hb3 HH2 HX2 HOW HRO HH
            go_wp2
            go_loopw [14] (fun v wr => ∃ j : Nat, j ≤ s ∧ v = .int .i64 j ∧ wr.heap = V3.heap ∧ Below w.heap.size w wr) (fun v _ => s - (intOf v).toNat)
            case atStart => exact ⟨0, by omega, rfl, rfl, HB3.out⟩
            case round =>
              obtain ⟨j, hj, rfl, hheap, hbel⟩ := hrel
              have HB4 : Hid (Below w.heap.size w wr) := hbel
              have HHP : Hid (wr.heap = V3.heap) := hheap
              clear hbel hheap HB3
              by_cases hlt : j < s
              · have kj : (j : Int) < (s : Int) := by omega
                obtain ⟨e1, e2, e3⟩ := HCEL.out wr.drew HHP.out j hlt
                have HNX : Hid (wr.drew.heap = V3.heap ∧ Below w.heap.size w wr.drew) := ⟨HHP.out, HB4.out.drew⟩
                cases hbj : bs.getD j false with
                | true =>
                  rw [hbj] at e1
                  generalize D2.started.seen.getD j ByteArray.empty = tn at e2
                  generalize K.getD j ByteArray.empty = tw at e3
                  go_wp2
                  refine wp_region_held_drew (S := fun V => V.cell? ⟨wob, j, none⟩ = some (.bool true) ∧ V.cell? ⟨nb, j, none⟩ = some (.string tn) ∧ V.cell? ⟨wab, j, none⟩ = some (.string tw)) (by kernel_rfl) (⟨e1, e2, e3⟩) (fun hHeld => ?_)
                  refine wpAnyH_take (i := 0) (v := ?vFa0) rfl (by kernel_rfl) (by kernel_rfl) (by kernel_rfl) (fun _ _ _ h => h) (Or.inl ⟨by first | kernel_rfl | rfl, ?yFa0⟩) hHeld ?rFa0
                  case yFa0 => (intro W hSW; (try dsimp only at hSW); go_simp; (try with_reducible rfl))
                  change wpAnyH _ _ _ _ _ _ _ (Act.put _ (some 99) _) _
                  simp only [Act.put, List.setIfInBounds_toArray, List.set_cons_zero, List.set_cons_succ]
                  refine wpAnyH_take (i := 1) (v := ?vFa1) rfl (by kernel_rfl) (by kernel_rfl) (by kernel_rfl) (fun _ _ _ h => h) (Or.inl ⟨by first | kernel_rfl | rfl, ?yFa1⟩) hHeld ?rFa1
                  case yFa1 => (intro W hSW; (try dsimp only at hSW); go_simp; (try with_reducible rfl))
                  change wpAnyH _ _ _ _ _ _ _ (Act.put _ (some 100) _) _
                  simp only [Act.put, List.setIfInBounds_toArray, List.set_cons_zero, List.set_cons_succ]
                  refine wpAnyH_take (i := 2) (v := ?vFa2) rfl (by kernel_rfl) (by kernel_rfl) (by kernel_rfl) (fun _ _ _ h => h) (Or.inl ⟨by first | kernel_rfl | rfl, ?yFa2⟩) hHeld ?rFa2
                  case yFa2 => (intro W hSW; (try dsimp only at hSW); go_simp; (try with_reducible rfl))
                  change wpAnyH _ _ _ _ _ _ _ (Act.put _ (some 101) _) _
                  simp only [Act.put, List.setIfInBounds_toArray, List.set_cons_zero, List.set_cons_succ]
                  refine wpAnyH_take (i := 3) (v := ?vFa3) rfl (by kernel_rfl) (by kernel_rfl) (by kernel_rfl) (fun _ _ _ h => h) (Or.inl ⟨by first | kernel_rfl | rfl, ?yFa3⟩) hHeld ?rFa3
                  case yFa3 => (intro W hSW; (try dsimp only at hSW); go_simp; (try with_reducible rfl))
                  change wpAnyH _ _ _ _ _ _ _ (Act.put _ (some 102) _) _
                  simp only [Act.put, List.setIfInBounds_toArray, List.set_cons_zero, List.set_cons_succ]
                  refine wpAnyH_take (i := 4) (v := ?vFa4) rfl (by kernel_rfl) (by kernel_rfl) (by kernel_rfl) (fun _ _ _ h => h) (Or.inl ⟨by first | kernel_rfl | rfl, ?yFa4⟩) hHeld ?rFa4
                  case yFa4 => (intro W hSW; (try dsimp only at hSW); go_simp; (try with_reducible rfl))
                  change wpAnyH _ _ _ _ _ _ _ (Act.put _ (some 103) _) _
                  simp only [Act.put, List.setIfInBounds_toArray, List.set_cons_zero, List.set_cons_succ]
                  refine wpAnyH_take (i := 5) (v := ?vFa5) rfl (by kernel_rfl) (by kernel_rfl) (by kernel_rfl) (fun _ _ _ h => h) (Or.inl ⟨by first | kernel_rfl | rfl, ?yFa5⟩) hHeld ?rFa5
                  case yFa5 => (intro W hSW; (try dsimp only at hSW); go_simp; (try with_reducible rfl))
                  change wpAnyH _ _ _ _ _ _ _ (Act.put _ (some 104) _) _
                  simp only [Act.put, List.setIfInBounds_toArray, List.set_cons_zero, List.set_cons_succ]
                  refine wpAnyH_take (i := 6) (v := undef) rfl (by kernel_rfl) (by kernel_rfl) (by kernel_rfl) (fun _ _ _ h => h) (Or.inr ⟨by first | kernel_rfl | rfl, rfl⟩) hHeld ?_
                  change wpAnyH _ _ _ _ _ _ _ (Act.put _ (some 105) _) _
                  simp only [Act.put, List.setIfInBounds_toArray, List.set_cons_zero, List.set_cons_succ]
                  refine wpAnyH_take (i := 7) (v := undef) rfl (by kernel_rfl) (by kernel_rfl) (by kernel_rfl) (fun _ _ _ h => h) (Or.inr ⟨by first | kernel_rfl | rfl, rfl⟩) hHeld ?_
                  change wpAnyH _ _ _ _ _ _ _ (Act.put _ (some 106) _) _
                  simp only [Act.put, List.setIfInBounds_toArray, List.set_cons_zero, List.set_cons_succ]
                  refine wpAnyH_take (i := 8) (v := undef) rfl (by kernel_rfl) (by kernel_rfl) (by kernel_rfl) (fun _ _ _ h => h) (Or.inr ⟨by first | kernel_rfl | rfl, rfl⟩) hHeld ?_
                  change wpAnyH _ _ _ _ _ _ _ (Act.put _ (some 107) _) _
                  simp only [Act.put, List.setIfInBounds_toArray, List.set_cons_zero, List.set_cons_succ]
                  refine wpAnyH_take (i := 9) (v := undef) rfl (by kernel_rfl) (by kernel_rfl) (by kernel_rfl) (fun _ _ _ h => h) (Or.inr ⟨by first | kernel_rfl | rfl, rfl⟩) hHeld ?_
                  change wpAnyH _ _ _ _ _ _ _ (Act.put _ (some 108) _) _
                  simp only [Act.put, List.setIfInBounds_toArray, List.set_cons_zero, List.set_cons_succ]
                  refine wpAnyH_take (i := 10) (v := undef) rfl (by kernel_rfl) (by kernel_rfl) (by kernel_rfl) (fun _ _ _ h => h) (Or.inr ⟨by first | kernel_rfl | rfl, rfl⟩) hHeld ?_
                  change wpAnyH _ _ _ _ _ _ _ (Act.put _ (some 109) _) _
                  simp only [Act.put, List.setIfInBounds_toArray, List.set_cons_zero, List.set_cons_succ]
                  refine wpAnyH_take (i := 11) (v := undef) rfl (by kernel_rfl) (by kernel_rfl) (by kernel_rfl) (fun _ _ _ h => h) (Or.inr ⟨by first | kernel_rfl | rfl, rfl⟩) hHeld ?_
                  change wpAnyH _ _ _ _ _ _ _ (Act.put _ (some 110) _) _
                  simp only [Act.put, List.setIfInBounds_toArray, List.set_cons_zero, List.set_cons_succ]
                  refine wpAnyH_take (i := 12) (v := undef) rfl (by kernel_rfl) (by kernel_rfl) (by kernel_rfl) (fun _ _ _ h => h) (Or.inr ⟨by first | kernel_rfl | rfl, rfl⟩) hHeld ?_
                  change wpAnyH _ _ _ _ _ _ _ (Act.put _ (some 111) _) _
                  simp only [Act.put, List.setIfInBounds_toArray, List.set_cons_zero, List.set_cons_succ]
                  refine wpAnyH_take (i := 13) (v := undef) rfl (by kernel_rfl) (by kernel_rfl) (by kernel_rfl) (fun _ _ _ h => h) (Or.inr ⟨by first | kernel_rfl | rfl, rfl⟩) hHeld ?_
                  change wpAnyH _ _ _ _ _ _ _ (Act.put _ (some 112) _) _
                  simp only [Act.put, List.setIfInBounds_toArray, List.set_cons_zero, List.set_cons_succ]
                  refine wpAnyH_take (i := 14) (v := undef) rfl (by kernel_rfl) (by kernel_rfl) (by kernel_rfl) (fun _ _ _ h => h) (Or.inr ⟨by first | kernel_rfl | rfl, rfl⟩) hHeld ?_
                  change wpAnyH _ _ _ _ _ _ _ (Act.put _ (some 113) _) _
                  simp only [Act.put, List.setIfInBounds_toArray, List.set_cons_zero, List.set_cons_succ]
                  refine wpAnyH_take (i := 15) (v := ?vFa15) rfl (by kernel_rfl) (by kernel_rfl) (by kernel_rfl) (fun _ _ _ h => h) (Or.inl ⟨by first | kernel_rfl | rfl, ?yFa15⟩) hHeld ?rFa15
                  case yFa15 => (intro W hSW; (try dsimp only at hSW); go_simp; (try with_reducible rfl))
                  change wpAnyH _ _ _ _ _ _ _ (Act.put _ (some 114) _) _
                  simp only [Act.put, List.setIfInBounds_toArray, List.set_cons_zero, List.set_cons_succ]
                  refine wpAnyH_done (by kernel_rfl) ?_ _
                  clear hHeld e1 e2 e3
                  go_wp2
                  exact ⟨⟨j + 1, by omega, by go_num, HNX.out⟩, by simp [intOf]; omega⟩
                | false =>
                  rw [hbj] at e1
                  rw [HSTAY.out j hbj] at e2
                  obtain ⟨tw, htw⟩ : ∃ tw, K.getD j ByteArray.empty = tw := ⟨_, rfl⟩
                  rw [htw] at e2 e3
                  clear htw
                  go_wp2
                  refine wp_region_held_drew (S := fun V => V.cell? ⟨wob, j, none⟩ = some (.bool false) ∧ V.cell? ⟨nb, j, none⟩ = some (.string tw) ∧ V.cell? ⟨wab, j, none⟩ = some (.string tw)) (by kernel_rfl) (⟨e1, e2, e3⟩) (fun hHeld => ?_)
                  refine wpAnyH_take (i := 0) (v := ?vFb0) rfl (by kernel_rfl) (by kernel_rfl) (by kernel_rfl) (fun _ _ _ h => h) (Or.inl ⟨by first | kernel_rfl | rfl, ?yFb0⟩) hHeld ?rFb0
                  case yFb0 => (intro W hSW; (try dsimp only at hSW); go_simp; (try with_reducible rfl))
                  change wpAnyH _ _ _ _ _ _ _ (Act.put _ (some 99) _) _
                  simp only [Act.put, List.setIfInBounds_toArray, List.set_cons_zero, List.set_cons_succ]
                  refine wpAnyH_take (i := 1) (v := ?vFb1) rfl (by kernel_rfl) (by kernel_rfl) (by kernel_rfl) (fun _ _ _ h => h) (Or.inl ⟨by first | kernel_rfl | rfl, ?yFb1⟩) hHeld ?rFb1
                  case yFb1 => (intro W hSW; (try dsimp only at hSW); go_simp; (try with_reducible rfl))
                  change wpAnyH _ _ _ _ _ _ _ (Act.put _ (some 100) _) _
                  simp only [Act.put, List.setIfInBounds_toArray, List.set_cons_zero, List.set_cons_succ]
                  refine wpAnyH_take (i := 2) (v := ?vFb2) rfl (by kernel_rfl) (by kernel_rfl) (by kernel_rfl) (fun _ _ _ h => h) (Or.inl ⟨by first | kernel_rfl | rfl, ?yFb2⟩) hHeld ?rFb2
                  case yFb2 => (intro W hSW; (try dsimp only at hSW); go_simp; (try with_reducible rfl))
                  change wpAnyH _ _ _ _ _ _ _ (Act.put _ (some 101) _) _
                  simp only [Act.put, List.setIfInBounds_toArray, List.set_cons_zero, List.set_cons_succ]
                  refine wpAnyH_take (i := 3) (v := ?vFb3) rfl (by kernel_rfl) (by kernel_rfl) (by kernel_rfl) (fun _ _ _ h => h) (Or.inl ⟨by first | kernel_rfl | rfl, ?yFb3⟩) hHeld ?rFb3
                  case yFb3 => (intro W hSW; (try dsimp only at hSW); go_simp; (try with_reducible rfl))
                  change wpAnyH _ _ _ _ _ _ _ (Act.put _ (some 102) _) _
                  simp only [Act.put, List.setIfInBounds_toArray, List.set_cons_zero, List.set_cons_succ]
                  refine wpAnyH_take (i := 4) (v := ?vFb4) rfl (by kernel_rfl) (by kernel_rfl) (by kernel_rfl) (fun _ _ _ h => h) (Or.inl ⟨by first | kernel_rfl | rfl, ?yFb4⟩) hHeld ?rFb4
                  case yFb4 => (intro W hSW; (try dsimp only at hSW); go_simp; (try with_reducible rfl))
                  change wpAnyH _ _ _ _ _ _ _ (Act.put _ (some 103) _) _
                  simp only [Act.put, List.setIfInBounds_toArray, List.set_cons_zero, List.set_cons_succ]
                  refine wpAnyH_take (i := 5) (v := ?vFb5) rfl (by kernel_rfl) (by kernel_rfl) (by kernel_rfl) (fun _ _ _ h => h) (Or.inl ⟨by first | kernel_rfl | rfl, ?yFb5⟩) hHeld ?rFb5
                  case yFb5 => (intro W hSW; (try dsimp only at hSW); go_simp; (try with_reducible rfl))
                  change wpAnyH _ _ _ _ _ _ _ (Act.put _ (some 104) _) _
                  simp only [Act.put, List.setIfInBounds_toArray, List.set_cons_zero, List.set_cons_succ]
                  refine wpAnyH_take (i := 6) (v := ?vFb6) rfl (by kernel_rfl) (by kernel_rfl) (by kernel_rfl) (fun _ _ _ h => h) (Or.inl ⟨by first | kernel_rfl | rfl, ?yFb6⟩) hHeld ?rFb6
                  case yFb6 => (intro W hSW; (try dsimp only at hSW); go_simp; (try with_reducible rfl))
                  change wpAnyH _ _ _ _ _ _ _ (Act.put _ (some 105) _) _
                  simp only [Act.put, List.setIfInBounds_toArray, List.set_cons_zero, List.set_cons_succ]
                  refine wpAnyH_take (i := 7) (v := ?vFb7) rfl (by kernel_rfl) (by kernel_rfl) (by kernel_rfl) (fun _ _ _ h => h) (Or.inl ⟨by first | kernel_rfl | rfl, ?yFb7⟩) hHeld ?rFb7
                  case yFb7 => (intro W hSW; (try dsimp only at hSW); go_simp; (try with_reducible rfl))
                  change wpAnyH _ _ _ _ _ _ _ (Act.put _ (some 106) _) _
                  simp only [Act.put, List.setIfInBounds_toArray, List.set_cons_zero, List.set_cons_succ]
                  refine wpAnyH_take (i := 8) (v := ?vFb8) rfl (by kernel_rfl) (by kernel_rfl) (by kernel_rfl) (fun _ _ _ h => h) (Or.inl ⟨by first | kernel_rfl | rfl, ?yFb8⟩) hHeld ?rFb8
                  case yFb8 => (intro W hSW; (try dsimp only at hSW); go_simp; (try with_reducible rfl))
                  change wpAnyH _ _ _ _ _ _ _ (Act.put _ (some 107) _) _
                  simp only [Act.put, List.setIfInBounds_toArray, List.set_cons_zero, List.set_cons_succ]
                  refine wpAnyH_take (i := 9) (v := ?vFb9) rfl (by kernel_rfl) (by kernel_rfl) (by kernel_rfl) (fun _ _ _ h => h) (Or.inl ⟨by first | kernel_rfl | rfl, ?yFb9⟩) hHeld ?rFb9
                  case yFb9 => (intro W hSW; (try dsimp only at hSW); go_simp; (try with_reducible rfl))
                  change wpAnyH _ _ _ _ _ _ _ (Act.put _ (some 108) _) _
                  simp only [Act.put, List.setIfInBounds_toArray, List.set_cons_zero, List.set_cons_succ]
                  refine wpAnyH_take (i := 10) (v := ?vFb10) rfl (by kernel_rfl) (by kernel_rfl) (by kernel_rfl) (fun _ _ _ h => h) (Or.inl ⟨by first | kernel_rfl | rfl, ?yFb10⟩) hHeld ?rFb10
                  case yFb10 => (intro W hSW; (try dsimp only at hSW); go_simp; (try with_reducible rfl))
                  change wpAnyH _ _ _ _ _ _ _ (Act.put _ (some 109) _) _
                  simp only [Act.put, List.setIfInBounds_toArray, List.set_cons_zero, List.set_cons_succ]
                  refine wpAnyH_take (i := 11) (v := ?vFb11) rfl (by kernel_rfl) (by kernel_rfl) (by kernel_rfl) (fun _ _ _ h => h) (Or.inl ⟨by first | kernel_rfl | rfl, ?yFb11⟩) hHeld ?rFb11
                  case yFb11 => (intro W hSW; (try dsimp only at hSW); go_simp; (try with_reducible rfl))
                  change wpAnyH _ _ _ _ _ _ _ (Act.put _ (some 110) _) _
                  simp only [Act.put, List.setIfInBounds_toArray, List.set_cons_zero, List.set_cons_succ]
                  refine wpAnyH_take (i := 12) (v := ?vFb12) rfl (by kernel_rfl) (by kernel_rfl) (by kernel_rfl) (fun _ _ _ h => h) (Or.inl ⟨by first | kernel_rfl | rfl, ?yFb12⟩) hHeld ?rFb12
                  case yFb12 => (intro W hSW; (try dsimp only at hSW); go_simp; (try with_reducible rfl))
                  change wpAnyH _ _ _ _ _ _ _ (Act.put _ (some 111) _) _
                  simp only [Act.put, List.setIfInBounds_toArray, List.set_cons_zero, List.set_cons_succ]
                  refine wpAnyH_take (i := 13) (v := ?vFb13) rfl (by kernel_rfl) (by kernel_rfl) (by kernel_rfl) (fun _ _ _ h => h) (Or.inl ⟨by first | kernel_rfl | rfl, ?yFb13⟩) hHeld ?rFb13
                  case yFb13 => (intro W hSW; (try dsimp only at hSW); go_simp; (try with_reducible rfl))
                  change wpAnyH _ _ _ _ _ _ _ (Act.put _ (some 112) _) _
                  simp only [Act.put, List.setIfInBounds_toArray, List.set_cons_zero, List.set_cons_succ]
                  refine wpAnyH_take (i := 14) (v := ?vFb14) rfl (by kernel_rfl) (by kernel_rfl) (by kernel_rfl) (fun _ _ _ h => h) (Or.inl ⟨by first | kernel_rfl | rfl, ?yFb14⟩) hHeld ?rFb14
                  case yFb14 => (intro W hSW; (try dsimp only at hSW); go_simp; (try with_reducible rfl))
                  change wpAnyH _ _ _ _ _ _ _ (Act.put _ (some 113) _) _
                  simp only [Act.put, List.setIfInBounds_toArray, List.set_cons_zero, List.set_cons_succ]
                  refine wpAnyH_take (i := 15) (v := ?vFb15) rfl (by kernel_rfl) (by kernel_rfl) (by kernel_rfl) (fun _ _ _ h => h) (Or.inl ⟨by first | kernel_rfl | rfl, ?yFb15⟩) hHeld ?rFb15
                  case yFb15 => (intro W hSW; (try dsimp only at hSW); go_simp; (try with_reducible rfl))
                  change wpAnyH _ _ _ _ _ _ _ (Act.put _ (some 114) _) _
                  simp only [Act.put, List.setIfInBounds_toArray, List.set_cons_zero, List.set_cons_succ]
                  refine wpAnyH_done (by kernel_rfl) ?_ _
                  clear hHeld e1 e2 e3
                  go_wp2
                  exact ⟨⟨j + 1, by omega, by go_num, HNX.out⟩, by simp [intOf]; omega⟩
              · obtain rfl : j = s := by omega
                have kj : ¬ (j : Int) < (j : Int) := by omega
                go_wp2_with fail
                refine (HLV.out _ HB4.out).mono ?_
                rintro e w9 ⟨rfl, hb9⟩
                go_wp2
                go_ret
                exact ⟨rfl, hb9⟩

set_option linter.unusedVariables false in
set_option maxRecDepth 100000 in
theorem lifted (os : _root_.Go.Os) (started : os.Started) (H : Type) (enc : TypeId × Value → H) :
    ReturnsInHanded {} Try.checked os 5 .any (Rows.diskFlushedSpec.pre6 enc Try.prog Try.f5 Rows.diskFlushedRow.domain false) (Rows.diskFlushedSpec.post enc Try.prog Try.f5 false true false false) := by
  refine returnsInHanded_of_change (C := Try.checked) own started (by kernel_rfl) Try.func5
    (ChangeSpec.witness6 (enc := enc) (C := Try.checked) false ⟨#[], #[.int .i64 0, .agg #[.slice none 0 0, .slice none 0 0], .slice none 0 0], []⟩ 8 (by kernel_rfl) (by kernel_rfl) (by kernel_rfl) (by kernel_rfl)) ?_
  intro W base args ds gs before hval0 hW hcnd _
  have hval : ∀ (j : Nat) t v, Try.f5.params[j]? = some t → args[j]? = some v → Value.okWide Try.prog W .any base t v := hval0
  have hW' := hW
  obtain ⟨p, q, hA0, hV, rfl, hfz, hnd⟩ := hW
  have hA : DataW.TrodAll enc Try.prog W 0 (fun _ => true) true Try.f5.params.toList args.toList ds p := hA0
  rw [Try.params5] at hA hval
  obtain ⟨v0, vs0, d0, ds0, p0, q0, hargs, rfl, rfl, h0, r0⟩ := trodAll_cons hA
  obtain ⟨v1, vs1, d1, ds1, p1, q1, rfl, rfl, rfl, h1, r1⟩ := trodAll_cons r0
  obtain ⟨v2, vs2, d2, ds2, p2, q2, rfl, rfl, rfl, h2, r2⟩ := trodAll_cons r1
  obtain ⟨rfl, rfl, rfl⟩ := trodAll_nil r2
  obtain rfl : args = #[v0, v1, v2] := by cases args; simp_all
  obtain ⟨rfl, rfl⟩ := trodVars_none hV
  obtain ⟨x0, rfl, rfl, rfl, w0⟩ := open_int Try.underlying3 (hval 0 3 v0 rfl rfl) h0
  have k1 := h1
  have lt1 : ∀ x ∈ p1, x.block < W.heap.size := by obtain ⟨m, hm⟩ := k1; exact DataW.trod_lt m _ _ _ hm
  obtain ⟨a1, len1, cap1, l1, b1, ben1, bap1, m1, rfl, w1, u1⟩ := ops2_of (hval 1 51 v1 rfl rfl) h1
  have k2 := h2
  have lt2 : ∀ x ∈ p2, x.block < W.heap.size := by obtain ⟨m, hm⟩ := k2; exact DataW.trod_lt m _ _ _ hm
  obtain ⟨a2, len2, cap2, rfl⟩ := okWide_slice Try.underlying44 (hval 2 44 v2 rfl rfl)
  obtain ⟨l2, w2⟩ : ∃ l, Bls W a2 len2 cap2 l := by
    obtain ⟨fuel, hf⟩ := h2
    exact bools_of (by simpa [Value.cells] using hf)
  clear hA0 hval0
  refine (walk x0 (wf_i64 w0) a1 len1 cap1 l1 b1 ben1 bap1 m1 a2 len2 cap2 l2 W w1 u1 w2).mono fun e W' ⟨he, bel⟩ => ?_
  subst he
  exact ⟨_, rfl, _, _, _, [], _, [], hW', trodAll_mk1 (shut_bool Try.underlying4 _), (trodAll_cons_mk (shut_int Try.underlying3 w0) (trodAll_cons_mk (Below.trod laidOut (by kernel_rfl) (of_decide_eq_true (by kernel_rfl)) k1 bel lt1) (trodAll_cons_mk (Below.trod laidOut (by kernel_rfl) (of_decide_eq_true (by kernel_rfl)) k2 bel lt2) trodAll_mk0))), rfl, bel.frame _, fun h => by cases h⟩

theorem over : Rows.diskFlushedRow.holds Try.pinned (OpenSpec.ofChange Rows.diskFlushedSpec) :=
  OpenClaim.holds_of_wide 5 Try.f5 rfl rfl rfl rfl rfl rfl rfl ⟨rfl, rfl, rfl, rfl, rfl⟩ rfl rfl rfl rfl rfl (by kernel_rfl) Try.func5 (by kernel_rfl)
    (of_decide_eq_true (by kernel_rfl)) (by unfold Func.isWrapper; first | (rw [if_pos (by decide +kernel)]; kernel_rfl) | (rw [if_neg (by decide +kernel)]; exact ⟨rfl, rfl⟩))
    (fun os started H enc _ => lifted os started H enc)

end Go.Proofs.Ytdlmciicapigjaa.diskFlushed
namespace Go.Proofs.Ytdlmciicapigjaa
/-- The given statement. -/
theorem diskFlushed_holds : Rows.DiskFlushedSaid := diskFlushed.over
#print axioms diskFlushed_holds
end Go.Proofs.Ytdlmciicapigjaa
