/- A walk over the document's May. -/
import Derived.Test.YtkhidkilkbmpoaaDoorQC
namespace Go.Proofs.YtkhidkilkbmpoaaDoor
open Go.RowKit
theorem run_take {s : Int} {l : List En} {i : Nat} {e : En} (h : runB s (l.take i) = true) (hi : l[i]? = some e) (h1 : e.ok = true) (h2 : e.seq = s + (i : Int)) (hl : i < l.length) : runB s (l.take (i + 1)) = true := by
  rw [take_snocK hi, run_snoc]
  exact ⟨h, h1, by rw [h2, List.length_take]; omega⟩
theorem may_stop {k : ByteArray} {n : Int} {l : List En} {ln i : Nat} {e : En} (hl : l.length = ln) (hi : l[i]? = some e) (h : e.ok = false ∨ e.seq ≠ n - (ln : Int) + 1 + (i : Int)) : mayA ⟨k, n, l⟩ = false := by
  cases hm : mayA ⟨k, n, l⟩ with
  | false => rfl
  | true =>
    have hr := (mayA_iff.1 hm).2.2.2.2
    simp only at hr
    rw [hl] at hr
    obtain ⟨h1, h2⟩ := (run_iff _ _).1 hr i e hi
    rcases h with h | h
    · rw [h1] at h; cases h
    · exact absurd h2 h
theorem may_no {k : ByteArray} {n : Int} {l : List En} (h : ¬ (k.size = 32 ∧ 0 ≤ n ∧ n ≤ 2147483648 ∧ (l.length : Int) = min n 8)) : mayA ⟨k, n, l⟩ = false := by
  cases hm : mayA ⟨k, n, l⟩ with
  | false => rfl
  | true =>
    have hr := mayA_iff.1 hm
    simp only at hr
    exact absurd ⟨hr.1, hr.2.1, hr.2.2.1, hr.2.2.2.1⟩ h
set_option maxRecDepth 100000 in
set_option maxHeartbeats 4000000 in
theorem rmay_any {w : World} {a : Option Addr} {ln cp : Nat} {l : List En} (s : ByteArray) (n : Int) (h : Ew w a ln cp l) : Calls Tryd.prog 17 #[.agg #[.string s, .int .i64 n, .slice a ln cp]] w fun e w' => YeTo w (mayA ⟨s, n, l⟩) e w' := by
  have hl := h.len
  have hmx := h.max
  obtain ⟨pb, hpb⟩ : ∃ pb, w.heap.size = pb := ⟨_, rfl⟩
  obtain ⟨V1, hV1, r1, hb1⟩ := box_au 24 (w := w) s n a ln cp
  rw [hpb] at r1
  have HK : Hid (∀ W, Below V1.heap.size V1 W → W.cell? ⟨pb, 0, none⟩ = some (.string s) ∧ W.cell? ⟨pb, 1, none⟩ = some (.int .i64 n) ∧ W.cell? ⟨pb, 2, none⟩ = some (.slice a ln cp)) := fun W hW => by
    obtain ⟨x0, x1, x2, _⟩ := row3 ((hW.block pb (lt_of_some r1)).trans r1)
    exact ⟨x0, x1, x2⟩
  obtain ⟨y0, y1, y2⟩ := HK.out V1 (Below.refl _ _)
  have HB : Hid (Below w.heap.size w V1) := hb1
  have HR : Hid (∀ W, Below V1.heap.size V1 W → Ew W a ln cp l) := fun W hW => h.below (hb1.trans (hW.mono hb1.size))
  have HL : Hid (l.length = ln) := hl
  have HN : Hid (¬ (s.size = 32 ∧ 0 ≤ n ∧ n ≤ 2147483648 ∧ (ln : Int) = min n 8) → Hid (YeTo w (mayA ⟨s, n, l⟩) (.returned (.bool false)) V1)) := fun h => ⟨by rw [may_no (by rw [hl]; exact h)], hb1⟩
  clear r1 hb1 h
  by_cases h32 : s.size = 32
  · have k32 : (s.size : Int) = 32 := by omega
    have b32 : ((s.size : Int) == 32) = true := by simpa using k32
    have n32 : ((s.size : Int) != 32) = false := by simpa using k32
    by_cases c1 : n < 0
    · have HE := HN.out (by omega)
      clear hl
      go_enter Tryd.func17, Tryd.ntmps17
      go_wp2
      go_ret
      exact HE.out
    · by_cases c2 : 2147483648 < n
      · have HE := HN.out (by omega)
        clear hl
        go_enter Tryd.func17, Tryd.ntmps17
        go_wp2
        go_ret
        exact HE.out
      · by_cases c3 : 8 < n
        · by_cases c4 : ln = 8
          · have k4 : (ln : Int) = 8 := by omega
            have b4 : ((ln : Int) == 8) = true := by simpa using k4
            have n4 : ((ln : Int) != 8) = false := by simpa using k4
            have HM : Hid (runB (n - (l.length : Int) + 1) l = true → mayA ⟨s, n, l⟩ = true) := fun h => mayA_iff.2 ⟨h32, by simp only; omega, by simp only; omega, by simp only; omega, h⟩
            have H8 : Hid ((ln : Int) = 8) := k4
            clear hl c4 k4
            go_enter Tryd.func17, Tryd.ntmps17
            go_wp2
            go_loopw [4] (fun v wr => ∃ i : Nat, i ≤ ln ∧ v = .int .i64 i ∧ runB (n - (ln : Int) + 1) (l.take i) = true ∧ Below V1.heap.size V1 wr) (fun v _ => ln - (intOf v).toNat)
            case atStart => exact ⟨0, by omega, rfl, rfl, Below.refl _ _⟩
            case round =>
            obtain ⟨i, hi, rfl, hal, hbw⟩ := hrel
            clear y0 y1 y2
            obtain ⟨y0, y1, y2⟩ := HK.out wr hbw
            have hln := H8.out
            by_cases hlt : i < ln
            · have kk : (i : Int) < (8 : Int) := by omega
              have kl : (i : Int) < (ln : Int) := by omega
              clear hln
              obtain ⟨ab, ao, rfl, _, hc⟩ := (HR.out wr hbw).at (by omega)
              obtain ⟨⟨c0, c1, c2, c3, c4⟩, hci⟩ : ∃ c, l[i]? = some c := ⟨_, List.getElem?_eq_getElem (by have := HL.out; omega)⟩
              have HS : Hid (∀ W, Below wr.heap.size wr W → (W.cell? ⟨pb, 0, none⟩ = some (.string s) ∧ W.cell? ⟨pb, 1, none⟩ = some (.int .i64 n) ∧ W.cell? ⟨pb, 2, none⟩ = some (.slice (some ⟨ab, ao, none⟩) ln cp)) ∧ W.cell? ⟨ab, ao + i * 5, none⟩ = some (.int .i64 c0) ∧ W.cell? ⟨ab, ao + i * 5 + 1, none⟩ = some (.int .i64 c1) ∧ W.cell? ⟨ab, ao + i * 5 + 2, none⟩ = some (.int .i64 c2) ∧ W.cell? ⟨ab, ao + i * 5 + 3, none⟩ = some (.string c3) ∧ W.cell? ⟨ab, ao + i * 5 + 4, none⟩ = some (.int .i64 c4)) := fun W hW => by
                have hW1 := hbw.trans (hW.mono hbw.size)
                obtain ⟨ab', ao', he, _, hc'⟩ := (HR.out W hW1).at (by omega)
                obtain ⟨rfl, rfl⟩ : ab = ab' ∧ ao = ao' := by
                  have := Option.some.inj he
                  exact ⟨congrArg Addr.block this, congrArg Addr.off this⟩
                exact ⟨HK.out W hW1, hc' i _ hci⟩
              have HI : Hid (∀ W, Calls Tryd.prog 22 #[.agg #[.int .i64 c0, .int .i64 c1, .int .i64 c2, .string c3, .int .i64 c4]] W fun e w' => e = .returned (.bool (⟨c0, c1, c2, c3, c4⟩ : En).ok) ∧ Below W.heap.size W w') := fun W => rgood_any ⟨c0, c1, c2, c3, c4⟩ W
              have HB3 : Hid (Below V1.heap.size V1 wr) := hbw
              have HRT : Hid (runB (n - (ln : Int) + 1) (l.take i) = true ∧ l[i]? = some ⟨c0, c1, c2, c3, c4⟩) := ⟨hal, hci⟩
              obtain ⟨g, hg⟩ : ∃ g, (⟨c0, c1, c2, c3, c4⟩ : En).ok = g := ⟨_, rfl⟩
              rw [hg] at HI
              have HG : Hid ((⟨c0, c1, c2, c3, c4⟩ : En).ok = g) := hg
              clear hc hci hal hbw hg
              cases g with
              | false =>
                have HA : Hid (mayA ⟨s, n, l⟩ = false) := may_stop HL.out HRT.out.2 (.inl HG.out)
                go_wp2
                refine wp_region_held_drew (S := fun W => (W.cell? ⟨pb, 0, none⟩ = some (.string s) ∧ W.cell? ⟨pb, 1, none⟩ = some (.int .i64 n) ∧ W.cell? ⟨pb, 2, none⟩ = some (.slice (some ⟨ab, ao, none⟩) ln cp)) ∧ W.cell? ⟨ab, ao + i * 5, none⟩ = some (.int .i64 c0) ∧ W.cell? ⟨ab, ao + i * 5 + 1, none⟩ = some (.int .i64 c1) ∧ W.cell? ⟨ab, ao + i * 5 + 2, none⟩ = some (.int .i64 c2) ∧ W.cell? ⟨ab, ao + i * 5 + 3, none⟩ = some (.string c3) ∧ W.cell? ⟨ab, ao + i * 5 + 4, none⟩ = some (.int .i64 c4)) (by kernel_rfl) (HS.out wr.drew (Below.refl _ wr).drew) (fun hHeld => ?_)
                refine wpAnyH_take (i := 0) (v := ?vaf_0) rfl (by kernel_rfl) (by kernel_rfl) (by kernel_rfl) (fun _ _ _ h => h) (Or.inl ⟨by first | kernel_rfl | rfl, ?yaf_0⟩) hHeld ?raf_0
                case yaf_0 => (intro W hSW; (try dsimp only at hSW); go_simp; (try with_reducible rfl))
                change wpAnyH _ _ _ _ _ _ _ (Act.put _ (some 33) _) _
                simp only [Act.put, List.setIfInBounds_toArray, List.set_cons_zero, List.set_cons_succ]
                refine wpAnyH_take (i := 1) (v := ?vaf_1) rfl (by kernel_rfl) (by kernel_rfl) (by kernel_rfl) (fun _ _ _ h => h) (Or.inl ⟨by first | kernel_rfl | rfl, ?yaf_1⟩) hHeld ?raf_1
                case yaf_1 => (intro W hSW; (try dsimp only at hSW); go_simp; (try with_reducible rfl))
                change wpAnyH _ _ _ _ _ _ _ (Act.put _ (some 34) _) _
                simp only [Act.put, List.setIfInBounds_toArray, List.set_cons_zero, List.set_cons_succ]
                refine wpAnyH_take (i := 2) (v := ?vaf_2) rfl (by kernel_rfl) (by kernel_rfl) (by kernel_rfl) (fun _ _ _ h => h) (Or.inl ⟨by first | kernel_rfl | rfl, ?yaf_2⟩) hHeld ?raf_2
                case yaf_2 => (intro W hSW; (try dsimp only at hSW); go_simp; (try with_reducible rfl))
                change wpAnyH _ _ _ _ _ _ _ (Act.put _ (some 35) _) _
                simp only [Act.put, List.setIfInBounds_toArray, List.set_cons_zero, List.set_cons_succ]
                refine wpAnyH_take (i := 3) (v := ?vaf_3) rfl (by kernel_rfl) (by kernel_rfl) (by kernel_rfl) (fun _ _ _ h => h) (Or.inl ⟨by first | kernel_rfl | rfl, ?yaf_3⟩) hHeld ?raf_3
                case yaf_3 => (intro W hSW; (try dsimp only at hSW); go_simp; (try with_reducible rfl))
                change wpAnyH _ _ _ _ _ _ _ (Act.put _ (some 36) _) _
                simp only [Act.put, List.setIfInBounds_toArray, List.set_cons_zero, List.set_cons_succ]
                refine wpAnyH_take (i := 4) (v := ?vaf_4) rfl (by kernel_rfl) (by kernel_rfl) (by kernel_rfl) (fun _ _ _ h => h) (Or.inl ⟨by first | kernel_rfl | rfl, ?yaf_4⟩) hHeld ?raf_4
                case yaf_4 => (intro W hSW; (try dsimp only at hSW); go_simp; (try with_reducible rfl))
                change wpAnyH _ _ _ _ _ _ _ (Act.put _ (some 37) _) _
                simp only [Act.put, List.setIfInBounds_toArray, List.set_cons_zero, List.set_cons_succ]
                refine wpAnyH_ready (rs := [5]) (by kernel_rfl) (by simp) ?_
                refine AllReadyH.cons rfl (fun K hK => ?_) AllReadyH.nil
                go_simp
                refine (HI.out wr.drew).mono ?_
                rintro e V4 ⟨rfl, hb4⟩
                refine hK.out _ _ (HS.out V4 ((Below.refl _ wr).drew.trans hb4)) (fun hHeld => ?_)
                clear hK K
                try simp only [Act.put, List.setIfInBounds_toArray, List.set_cons_zero, List.set_cons_succ]
                have HB4 : Hid (Below V1.heap.size V1 V4) := HB3.out.trans (((Below.refl _ wr).drew.trans hb4).mono HB3.out.size)
                clear hb4
                refine wpAnyH_take (i := 6) (v := ?vaf_6) rfl (by kernel_rfl) (by kernel_rfl) (by kernel_rfl) (fun _ _ _ h => h) (Or.inl ⟨by first | kernel_rfl | rfl, ?yaf_6⟩) hHeld ?raf_6
                case yaf_6 => (intro W hSW; (try dsimp only at hSW); go_simp; (try with_reducible rfl))
                change wpAnyH _ _ _ _ _ _ _ (Act.put _ (some 39) _) _
                simp only [Act.put, List.setIfInBounds_toArray, List.set_cons_zero, List.set_cons_succ]
                refine wpAnyH_take (i := 7) (v := ?vaf_7) rfl (by kernel_rfl) (by kernel_rfl) (by kernel_rfl) (fun _ _ _ h => h) (Or.inl ⟨by first | kernel_rfl | rfl, ?yaf_7⟩) hHeld ?raf_7
                case yaf_7 => (intro W hSW; (try dsimp only at hSW); go_simp; (try with_reducible rfl))
                change wpAnyH _ _ _ _ _ _ _ (Act.put _ (some 40) _) _
                simp only [Act.put, List.setIfInBounds_toArray, List.set_cons_zero, List.set_cons_succ]
                refine wpAnyH_take (i := 8) (v := undef) rfl (by kernel_rfl) (by kernel_rfl) (by kernel_rfl) (fun _ _ _ h => h) (Or.inr ⟨by first | kernel_rfl | rfl, rfl⟩) hHeld ?_
                change wpAnyH _ _ _ _ _ _ _ (Act.put _ (some 41) _) _
                simp only [Act.put, List.setIfInBounds_toArray, List.set_cons_zero, List.set_cons_succ]
                refine wpAnyH_take (i := 9) (v := undef) rfl (by kernel_rfl) (by kernel_rfl) (by kernel_rfl) (fun _ _ _ h => h) (Or.inr ⟨by first | kernel_rfl | rfl, rfl⟩) hHeld ?_
                change wpAnyH _ _ _ _ _ _ _ (Act.put _ (some 42) _) _
                simp only [Act.put, List.setIfInBounds_toArray, List.set_cons_zero, List.set_cons_succ]
                refine wpAnyH_take (i := 10) (v := undef) rfl (by kernel_rfl) (by kernel_rfl) (by kernel_rfl) (fun _ _ _ h => h) (Or.inr ⟨by first | kernel_rfl | rfl, rfl⟩) hHeld ?_
                change wpAnyH _ _ _ _ _ _ _ (Act.put _ (some 43) _) _
                simp only [Act.put, List.setIfInBounds_toArray, List.set_cons_zero, List.set_cons_succ]
                refine wpAnyH_take (i := 11) (v := undef) rfl (by kernel_rfl) (by kernel_rfl) (by kernel_rfl) (fun _ _ _ h => h) (Or.inr ⟨by first | kernel_rfl | rfl, rfl⟩) hHeld ?_
                change wpAnyH _ _ _ _ _ _ _ (Act.put _ (some 44) _) _
                simp only [Act.put, List.setIfInBounds_toArray, List.set_cons_zero, List.set_cons_succ]
                refine wpAnyH_take (i := 12) (v := undef) rfl (by kernel_rfl) (by kernel_rfl) (by kernel_rfl) (fun _ _ _ h => h) (Or.inr ⟨by first | kernel_rfl | rfl, rfl⟩) hHeld ?_
                change wpAnyH _ _ _ _ _ _ _ (Act.put _ (some 45) _) _
                simp only [Act.put, List.setIfInBounds_toArray, List.set_cons_zero, List.set_cons_succ]
                refine wpAnyH_take (i := 13) (v := undef) rfl (by kernel_rfl) (by kernel_rfl) (by kernel_rfl) (fun _ _ _ h => h) (Or.inr ⟨by first | kernel_rfl | rfl, rfl⟩) hHeld ?_
                change wpAnyH _ _ _ _ _ _ _ (Act.put _ (some 46) _) _
                simp only [Act.put, List.setIfInBounds_toArray, List.set_cons_zero, List.set_cons_succ]
                refine wpAnyH_take (i := 14) (v := undef) rfl (by kernel_rfl) (by kernel_rfl) (by kernel_rfl) (fun _ _ _ h => h) (Or.inr ⟨by first | kernel_rfl | rfl, rfl⟩) hHeld ?_
                change wpAnyH _ _ _ _ _ _ _ (Act.put _ (some 47) _) _
                simp only [Act.put, List.setIfInBounds_toArray, List.set_cons_zero, List.set_cons_succ]
                refine wpAnyH_take (i := 15) (v := undef) rfl (by kernel_rfl) (by kernel_rfl) (by kernel_rfl) (fun _ _ _ h => h) (Or.inr ⟨by first | kernel_rfl | rfl, rfl⟩) hHeld ?_
                change wpAnyH _ _ _ _ _ _ _ (Act.put _ (some 48) _) _
                simp only [Act.put, List.setIfInBounds_toArray, List.set_cons_zero, List.set_cons_succ]
                refine wpAnyH_take (i := 16) (v := undef) rfl (by kernel_rfl) (by kernel_rfl) (by kernel_rfl) (fun _ _ _ h => h) (Or.inr ⟨by first | kernel_rfl | rfl, rfl⟩) hHeld ?_
                change wpAnyH _ _ _ _ _ _ _ (Act.put _ (some 49) _) _
                simp only [Act.put, List.setIfInBounds_toArray, List.set_cons_zero, List.set_cons_succ]
                refine wpAnyH_take (i := 17) (v := undef) rfl (by kernel_rfl) (by kernel_rfl) (by kernel_rfl) (fun _ _ _ h => h) (Or.inr ⟨by first | kernel_rfl | rfl, rfl⟩) hHeld ?_
                change wpAnyH _ _ _ _ _ _ _ (Act.put _ (some 50) _) _
                simp only [Act.put, List.setIfInBounds_toArray, List.set_cons_zero, List.set_cons_succ]
                refine wpAnyH_take (i := 18) (v := undef) rfl (by kernel_rfl) (by kernel_rfl) (by kernel_rfl) (fun _ _ _ h => h) (Or.inr ⟨by first | kernel_rfl | rfl, rfl⟩) hHeld ?_
                change wpAnyH _ _ _ _ _ _ _ (Act.put _ (some 51) _) _
                simp only [Act.put, List.setIfInBounds_toArray, List.set_cons_zero, List.set_cons_succ]
                refine wpAnyH_take (i := 19) (v := undef) rfl (by kernel_rfl) (by kernel_rfl) (by kernel_rfl) (fun _ _ _ h => h) (Or.inr ⟨by first | kernel_rfl | rfl, rfl⟩) hHeld ?_
                change wpAnyH _ _ _ _ _ _ _ (Act.put _ (some 52) _) _
                simp only [Act.put, List.setIfInBounds_toArray, List.set_cons_zero, List.set_cons_succ]
                refine wpAnyH_take (i := 20) (v := undef) rfl (by kernel_rfl) (by kernel_rfl) (by kernel_rfl) (fun _ _ _ h => h) (Or.inr ⟨by first | kernel_rfl | rfl, rfl⟩) hHeld ?_
                change wpAnyH _ _ _ _ _ _ _ (Act.put _ (some 53) _) _
                simp only [Act.put, List.setIfInBounds_toArray, List.set_cons_zero, List.set_cons_succ]
                refine wpAnyH_take (i := 21) (v := undef) rfl (by kernel_rfl) (by kernel_rfl) (by kernel_rfl) (fun _ _ _ h => h) (Or.inr ⟨by first | kernel_rfl | rfl, rfl⟩) hHeld ?_
                change wpAnyH _ _ _ _ _ _ _ (Act.put _ (some 54) _) _
                simp only [Act.put, List.setIfInBounds_toArray, List.set_cons_zero, List.set_cons_succ]
                refine wpAnyH_take (i := 22) (v := ?vaf_22) rfl (by kernel_rfl) (by kernel_rfl) (by kernel_rfl) (fun _ _ _ h => h) (Or.inl ⟨by first | kernel_rfl | rfl, ?yaf_22⟩) hHeld ?raf_22
                case yaf_22 => (intro W hSW; (try dsimp only at hSW); go_simp; (try with_reducible rfl))
                change wpAnyH _ _ _ _ _ _ _ (Act.put _ (some 55) _) _
                simp only [Act.put, List.setIfInBounds_toArray, List.set_cons_zero, List.set_cons_succ]
                refine wpAnyH_done (by kernel_rfl) ?_ _
                have HE : Hid (YeTo w (mayA ⟨s, n, l⟩) (.returned (.bool false)) V4) := ⟨by rw [HA.out], HB.out.trans (HB4.out.mono HB.out.size)⟩
                go_wp2
                go_ret
                exact HE.out
              | true =>
                have w1 : IntKind.i64.wrap (n - 8) = n - 8 := by rw [IntKind.wrap_i64]; omega
                have w2 : IntKind.i64.wrap (n - 8 + 1) = n - 8 + 1 := by rw [IntKind.wrap_i64]; omega
                have w3 : IntKind.i64.wrap (n - 8 + 1 + (i : Int)) = n - 8 + 1 + (i : Int) := by rw [IntKind.wrap_i64]; omega
                by_cases hs : c0 = n - 8 + 1 + (i : Int)
                · have hsb : (c0 != n - 8 + 1 + (i : Int)) = false := by simpa using hs
                  have HA : Hid (runB (n - (ln : Int) + 1) (l.take (i + 1)) = true) := run_take HRT.out.1 HRT.out.2 HG.out (by show c0 = _; have := H8.out; omega) (by have := HL.out; omega)
                  clear hs
                  go_wp2
                  refine wp_region_held_drew (S := fun W => (W.cell? ⟨pb, 0, none⟩ = some (.string s) ∧ W.cell? ⟨pb, 1, none⟩ = some (.int .i64 n) ∧ W.cell? ⟨pb, 2, none⟩ = some (.slice (some ⟨ab, ao, none⟩) ln cp)) ∧ W.cell? ⟨ab, ao + i * 5, none⟩ = some (.int .i64 c0) ∧ W.cell? ⟨ab, ao + i * 5 + 1, none⟩ = some (.int .i64 c1) ∧ W.cell? ⟨ab, ao + i * 5 + 2, none⟩ = some (.int .i64 c2) ∧ W.cell? ⟨ab, ao + i * 5 + 3, none⟩ = some (.string c3) ∧ W.cell? ⟨ab, ao + i * 5 + 4, none⟩ = some (.int .i64 c4)) (by kernel_rfl) (HS.out wr.drew (Below.refl _ wr).drew) (fun hHeld => ?_)
                  refine wpAnyH_take (i := 0) (v := ?vat_0) rfl (by kernel_rfl) (by kernel_rfl) (by kernel_rfl) (fun _ _ _ h => h) (Or.inl ⟨by first | kernel_rfl | rfl, ?yat_0⟩) hHeld ?rat_0
                  case yat_0 => (intro W hSW; (try dsimp only at hSW); go_simp; (try with_reducible rfl))
                  change wpAnyH _ _ _ _ _ _ _ (Act.put _ (some 33) _) _
                  simp only [Act.put, List.setIfInBounds_toArray, List.set_cons_zero, List.set_cons_succ]
                  refine wpAnyH_take (i := 1) (v := ?vat_1) rfl (by kernel_rfl) (by kernel_rfl) (by kernel_rfl) (fun _ _ _ h => h) (Or.inl ⟨by first | kernel_rfl | rfl, ?yat_1⟩) hHeld ?rat_1
                  case yat_1 => (intro W hSW; (try dsimp only at hSW); go_simp; (try with_reducible rfl))
                  change wpAnyH _ _ _ _ _ _ _ (Act.put _ (some 34) _) _
                  simp only [Act.put, List.setIfInBounds_toArray, List.set_cons_zero, List.set_cons_succ]
                  refine wpAnyH_take (i := 2) (v := ?vat_2) rfl (by kernel_rfl) (by kernel_rfl) (by kernel_rfl) (fun _ _ _ h => h) (Or.inl ⟨by first | kernel_rfl | rfl, ?yat_2⟩) hHeld ?rat_2
                  case yat_2 => (intro W hSW; (try dsimp only at hSW); go_simp; (try with_reducible rfl))
                  change wpAnyH _ _ _ _ _ _ _ (Act.put _ (some 35) _) _
                  simp only [Act.put, List.setIfInBounds_toArray, List.set_cons_zero, List.set_cons_succ]
                  refine wpAnyH_take (i := 3) (v := ?vat_3) rfl (by kernel_rfl) (by kernel_rfl) (by kernel_rfl) (fun _ _ _ h => h) (Or.inl ⟨by first | kernel_rfl | rfl, ?yat_3⟩) hHeld ?rat_3
                  case yat_3 => (intro W hSW; (try dsimp only at hSW); go_simp; (try with_reducible rfl))
                  change wpAnyH _ _ _ _ _ _ _ (Act.put _ (some 36) _) _
                  simp only [Act.put, List.setIfInBounds_toArray, List.set_cons_zero, List.set_cons_succ]
                  refine wpAnyH_take (i := 4) (v := ?vat_4) rfl (by kernel_rfl) (by kernel_rfl) (by kernel_rfl) (fun _ _ _ h => h) (Or.inl ⟨by first | kernel_rfl | rfl, ?yat_4⟩) hHeld ?rat_4
                  case yat_4 => (intro W hSW; (try dsimp only at hSW); go_simp; (try with_reducible rfl))
                  change wpAnyH _ _ _ _ _ _ _ (Act.put _ (some 37) _) _
                  simp only [Act.put, List.setIfInBounds_toArray, List.set_cons_zero, List.set_cons_succ]
                  refine wpAnyH_ready (rs := [5]) (by kernel_rfl) (by simp) ?_
                  refine AllReadyH.cons rfl (fun K hK => ?_) AllReadyH.nil
                  go_simp
                  refine (HI.out wr.drew).mono ?_
                  rintro e V4 ⟨rfl, hb4⟩
                  refine hK.out _ _ (HS.out V4 ((Below.refl _ wr).drew.trans hb4)) (fun hHeld => ?_)
                  clear hK K
                  try simp only [Act.put, List.setIfInBounds_toArray, List.set_cons_zero, List.set_cons_succ]
                  have HB4 : Hid (Below V1.heap.size V1 V4) := HB3.out.trans (((Below.refl _ wr).drew.trans hb4).mono HB3.out.size)
                  clear hb4
                  refine wpAnyH_take (i := 6) (v := ?vat_6) rfl (by kernel_rfl) (by kernel_rfl) (by kernel_rfl) (fun _ _ _ h => h) (Or.inl ⟨by first | kernel_rfl | rfl, ?yat_6⟩) hHeld ?rat_6
                  case yat_6 => (intro W hSW; (try dsimp only at hSW); go_simp; (try with_reducible rfl))
                  change wpAnyH _ _ _ _ _ _ _ (Act.put _ (some 39) _) _
                  simp only [Act.put, List.setIfInBounds_toArray, List.set_cons_zero, List.set_cons_succ]
                  refine wpAnyH_take (i := 7) (v := ?vat_7) rfl (by kernel_rfl) (by kernel_rfl) (by kernel_rfl) (fun _ _ _ h => h) (Or.inl ⟨by first | kernel_rfl | rfl, ?yat_7⟩) hHeld ?rat_7
                  case yat_7 => (intro W hSW; (try dsimp only at hSW); go_simp; (try with_reducible rfl))
                  change wpAnyH _ _ _ _ _ _ _ (Act.put _ (some 40) _) _
                  simp only [Act.put, List.setIfInBounds_toArray, List.set_cons_zero, List.set_cons_succ]
                  refine wpAnyH_take (i := 8) (v := ?vat_8) rfl (by kernel_rfl) (by kernel_rfl) (by kernel_rfl) (fun _ _ _ h => h) (Or.inl ⟨by first | kernel_rfl | rfl, ?yat_8⟩) hHeld ?rat_8
                  case yat_8 => (intro W hSW; (try dsimp only at hSW); go_simp; (try with_reducible rfl))
                  change wpAnyH _ _ _ _ _ _ _ (Act.put _ (some 41) _) _
                  simp only [Act.put, List.setIfInBounds_toArray, List.set_cons_zero, List.set_cons_succ]
                  refine wpAnyH_take (i := 9) (v := ?vat_9) rfl (by kernel_rfl) (by kernel_rfl) (by kernel_rfl) (fun _ _ _ h => h) (Or.inl ⟨by first | kernel_rfl | rfl, ?yat_9⟩) hHeld ?rat_9
                  case yat_9 => (intro W hSW; (try dsimp only at hSW); go_simp; (try with_reducible rfl))
                  change wpAnyH _ _ _ _ _ _ _ (Act.put _ (some 42) _) _
                  simp only [Act.put, List.setIfInBounds_toArray, List.set_cons_zero, List.set_cons_succ]
                  refine wpAnyH_take (i := 10) (v := ?vat_10) rfl (by kernel_rfl) (by kernel_rfl) (by kernel_rfl) (fun _ _ _ h => h) (Or.inl ⟨by first | kernel_rfl | rfl, ?yat_10⟩) hHeld ?rat_10
                  case yat_10 => (intro W hSW; (try dsimp only at hSW); go_simp; (try with_reducible rfl))
                  change wpAnyH _ _ _ _ _ _ _ (Act.put _ (some 43) _) _
                  simp only [Act.put, List.setIfInBounds_toArray, List.set_cons_zero, List.set_cons_succ]
                  refine wpAnyH_take (i := 11) (v := ?vat_11) rfl (by kernel_rfl) (by kernel_rfl) (by kernel_rfl) (fun _ _ _ h => h) (Or.inl ⟨by first | kernel_rfl | rfl, ?yat_11⟩) hHeld ?rat_11
                  case yat_11 => (intro W hSW; (try dsimp only at hSW); go_simp; (try with_reducible rfl))
                  change wpAnyH _ _ _ _ _ _ _ (Act.put _ (some 44) _) _
                  simp only [Act.put, List.setIfInBounds_toArray, List.set_cons_zero, List.set_cons_succ]
                  refine wpAnyH_take (i := 12) (v := ?vat_12) rfl (by kernel_rfl) (by kernel_rfl) (by kernel_rfl) (fun _ _ _ h => h) (Or.inl ⟨by first | kernel_rfl | rfl, ?yat_12⟩) hHeld ?rat_12
                  case yat_12 => (intro W hSW; (try dsimp only at hSW); go_simp; (try with_reducible rfl))
                  change wpAnyH _ _ _ _ _ _ _ (Act.put _ (some 45) _) _
                  simp only [Act.put, List.setIfInBounds_toArray, List.set_cons_zero, List.set_cons_succ]
                  refine wpAnyH_take (i := 13) (v := ?vat_13) rfl (by kernel_rfl) (by kernel_rfl) (by kernel_rfl) (fun _ _ _ h => h) (Or.inl ⟨by first | kernel_rfl | rfl, ?yat_13⟩) hHeld ?rat_13
                  case yat_13 => (intro W hSW; (try dsimp only at hSW); go_simp; (try with_reducible rfl))
                  change wpAnyH _ _ _ _ _ _ _ (Act.put _ (some 46) _) _
                  simp only [Act.put, List.setIfInBounds_toArray, List.set_cons_zero, List.set_cons_succ]
                  refine wpAnyH_take (i := 14) (v := ?vat_14) rfl (by kernel_rfl) (by kernel_rfl) (by kernel_rfl) (fun _ _ _ h => h) (Or.inl ⟨by first | kernel_rfl | rfl, ?yat_14⟩) hHeld ?rat_14
                  case yat_14 => (intro W hSW; (try dsimp only at hSW); go_simp; (try with_reducible rfl))
                  change wpAnyH _ _ _ _ _ _ _ (Act.put _ (some 47) _) _
                  simp only [Act.put, List.setIfInBounds_toArray, List.set_cons_zero, List.set_cons_succ]
                  refine wpAnyH_take (i := 15) (v := ?vat_15) rfl (by kernel_rfl) (by kernel_rfl) (by kernel_rfl) (fun _ _ _ h => h) (Or.inl ⟨by first | kernel_rfl | rfl, ?yat_15⟩) hHeld ?rat_15
                  case yat_15 => (intro W hSW; (try dsimp only at hSW); go_simp; (try with_reducible rfl))
                  change wpAnyH _ _ _ _ _ _ _ (Act.put _ (some 48) _) _
                  simp only [Act.put, List.setIfInBounds_toArray, List.set_cons_zero, List.set_cons_succ]
                  refine wpAnyH_take (i := 16) (v := ?vat_16) rfl (by kernel_rfl) (by kernel_rfl) (by kernel_rfl) (fun _ _ _ h => h) (Or.inl ⟨by first | kernel_rfl | rfl, ?yat_16⟩) hHeld ?rat_16
                  case yat_16 => (intro W hSW; (try dsimp only at hSW); go_simp; (try with_reducible rfl))
                  change wpAnyH _ _ _ _ _ _ _ (Act.put _ (some 49) _) _
                  simp only [Act.put, List.setIfInBounds_toArray, List.set_cons_zero, List.set_cons_succ]
                  refine wpAnyH_take (i := 17) (v := ?vat_17) rfl (by kernel_rfl) (by kernel_rfl) (by kernel_rfl) (fun _ _ _ h => h) (Or.inl ⟨by first | kernel_rfl | rfl, ?yat_17⟩) hHeld ?rat_17
                  case yat_17 => (intro W hSW; (try dsimp only at hSW); go_simp; (try with_reducible rfl))
                  change wpAnyH _ _ _ _ _ _ _ (Act.put _ (some 50) _) _
                  simp only [Act.put, List.setIfInBounds_toArray, List.set_cons_zero, List.set_cons_succ]
                  refine wpAnyH_take (i := 18) (v := ?vat_18) rfl (by kernel_rfl) (by kernel_rfl) (by kernel_rfl) (fun _ _ _ h => h) (Or.inl ⟨by first | kernel_rfl | rfl, ?yat_18⟩) hHeld ?rat_18
                  case yat_18 => (intro W hSW; (try dsimp only at hSW); go_simp; (try with_reducible rfl))
                  change wpAnyH _ _ _ _ _ _ _ (Act.put _ (some 51) _) _
                  simp only [Act.put, List.setIfInBounds_toArray, List.set_cons_zero, List.set_cons_succ]
                  refine wpAnyH_take (i := 19) (v := ?vat_19) rfl (by kernel_rfl) (by kernel_rfl) (by kernel_rfl) (fun _ _ _ h => h) (Or.inl ⟨by first | kernel_rfl | rfl, ?yat_19⟩) hHeld ?rat_19
                  case yat_19 => (intro W hSW; (try dsimp only at hSW); go_simp; (try with_reducible rfl))
                  change wpAnyH _ _ _ _ _ _ _ (Act.put _ (some 52) _) _
                  simp only [Act.put, List.setIfInBounds_toArray, List.set_cons_zero, List.set_cons_succ]
                  refine wpAnyH_take (i := 20) (v := ?vat_20) rfl (by kernel_rfl) (by kernel_rfl) (by kernel_rfl) (fun _ _ _ h => h) (Or.inl ⟨by first | kernel_rfl | rfl, ?yat_20⟩) hHeld ?rat_20
                  case yat_20 => (intro W hSW; (try dsimp only at hSW); go_simp; (try with_reducible rfl))
                  change wpAnyH _ _ _ _ _ _ _ (Act.put _ (some 53) _) _
                  simp only [Act.put, List.setIfInBounds_toArray, List.set_cons_zero, List.set_cons_succ]
                  refine wpAnyH_take (i := 21) (v := ?vat_21) rfl (by kernel_rfl) (by kernel_rfl) (by kernel_rfl) (fun _ _ _ h => h) (Or.inl ⟨by first | kernel_rfl | rfl, ?yat_21⟩) hHeld ?rat_21
                  case yat_21 => (intro W hSW; (try dsimp only at hSW); go_simp; (try with_reducible rfl))
                  change wpAnyH _ _ _ _ _ _ _ (Act.put _ (some 54) _) _
                  simp only [Act.put, List.setIfInBounds_toArray, List.set_cons_zero, List.set_cons_succ]
                  refine wpAnyH_take (i := 22) (v := ?vat_22) rfl (by kernel_rfl) (by kernel_rfl) (by kernel_rfl) (fun _ _ _ h => h) (Or.inl ⟨by first | kernel_rfl | rfl, ?yat_22⟩) hHeld ?rat_22
                  case yat_22 => (intro W hSW; (try dsimp only at hSW); go_simp; (try with_reducible rfl))
                  change wpAnyH _ _ _ _ _ _ _ (Act.put _ (some 55) _) _
                  simp only [Act.put, List.setIfInBounds_toArray, List.set_cons_zero, List.set_cons_succ]
                  refine wpAnyH_done (by kernel_rfl) ?_ _
                  go_wp2
                  exact ⟨⟨i + 1, by omega, by go_num, HA.out, HB4.out⟩, by simp [intOf]; omega⟩
                · have hsb : (c0 != n - 8 + 1 + (i : Int)) = true := by simpa using hs
                  have HA : Hid (mayA ⟨s, n, l⟩ = false) := may_stop HL.out HRT.out.2 (.inr (by show c0 ≠ _; have := H8.out; omega))
                  clear hs
                  go_wp2
                  refine wp_region_held_drew (S := fun W => (W.cell? ⟨pb, 0, none⟩ = some (.string s) ∧ W.cell? ⟨pb, 1, none⟩ = some (.int .i64 n) ∧ W.cell? ⟨pb, 2, none⟩ = some (.slice (some ⟨ab, ao, none⟩) ln cp)) ∧ W.cell? ⟨ab, ao + i * 5, none⟩ = some (.int .i64 c0) ∧ W.cell? ⟨ab, ao + i * 5 + 1, none⟩ = some (.int .i64 c1) ∧ W.cell? ⟨ab, ao + i * 5 + 2, none⟩ = some (.int .i64 c2) ∧ W.cell? ⟨ab, ao + i * 5 + 3, none⟩ = some (.string c3) ∧ W.cell? ⟨ab, ao + i * 5 + 4, none⟩ = some (.int .i64 c4)) (by kernel_rfl) (HS.out wr.drew (Below.refl _ wr).drew) (fun hHeld => ?_)
                  refine wpAnyH_take (i := 0) (v := ?van_0) rfl (by kernel_rfl) (by kernel_rfl) (by kernel_rfl) (fun _ _ _ h => h) (Or.inl ⟨by first | kernel_rfl | rfl, ?yan_0⟩) hHeld ?ran_0
                  case yan_0 => (intro W hSW; (try dsimp only at hSW); go_simp; (try with_reducible rfl))
                  change wpAnyH _ _ _ _ _ _ _ (Act.put _ (some 33) _) _
                  simp only [Act.put, List.setIfInBounds_toArray, List.set_cons_zero, List.set_cons_succ]
                  refine wpAnyH_take (i := 1) (v := ?van_1) rfl (by kernel_rfl) (by kernel_rfl) (by kernel_rfl) (fun _ _ _ h => h) (Or.inl ⟨by first | kernel_rfl | rfl, ?yan_1⟩) hHeld ?ran_1
                  case yan_1 => (intro W hSW; (try dsimp only at hSW); go_simp; (try with_reducible rfl))
                  change wpAnyH _ _ _ _ _ _ _ (Act.put _ (some 34) _) _
                  simp only [Act.put, List.setIfInBounds_toArray, List.set_cons_zero, List.set_cons_succ]
                  refine wpAnyH_take (i := 2) (v := ?van_2) rfl (by kernel_rfl) (by kernel_rfl) (by kernel_rfl) (fun _ _ _ h => h) (Or.inl ⟨by first | kernel_rfl | rfl, ?yan_2⟩) hHeld ?ran_2
                  case yan_2 => (intro W hSW; (try dsimp only at hSW); go_simp; (try with_reducible rfl))
                  change wpAnyH _ _ _ _ _ _ _ (Act.put _ (some 35) _) _
                  simp only [Act.put, List.setIfInBounds_toArray, List.set_cons_zero, List.set_cons_succ]
                  refine wpAnyH_take (i := 3) (v := ?van_3) rfl (by kernel_rfl) (by kernel_rfl) (by kernel_rfl) (fun _ _ _ h => h) (Or.inl ⟨by first | kernel_rfl | rfl, ?yan_3⟩) hHeld ?ran_3
                  case yan_3 => (intro W hSW; (try dsimp only at hSW); go_simp; (try with_reducible rfl))
                  change wpAnyH _ _ _ _ _ _ _ (Act.put _ (some 36) _) _
                  simp only [Act.put, List.setIfInBounds_toArray, List.set_cons_zero, List.set_cons_succ]
                  refine wpAnyH_take (i := 4) (v := ?van_4) rfl (by kernel_rfl) (by kernel_rfl) (by kernel_rfl) (fun _ _ _ h => h) (Or.inl ⟨by first | kernel_rfl | rfl, ?yan_4⟩) hHeld ?ran_4
                  case yan_4 => (intro W hSW; (try dsimp only at hSW); go_simp; (try with_reducible rfl))
                  change wpAnyH _ _ _ _ _ _ _ (Act.put _ (some 37) _) _
                  simp only [Act.put, List.setIfInBounds_toArray, List.set_cons_zero, List.set_cons_succ]
                  refine wpAnyH_ready (rs := [5]) (by kernel_rfl) (by simp) ?_
                  refine AllReadyH.cons rfl (fun K hK => ?_) AllReadyH.nil
                  go_simp
                  refine (HI.out wr.drew).mono ?_
                  rintro e V4 ⟨rfl, hb4⟩
                  refine hK.out _ _ (HS.out V4 ((Below.refl _ wr).drew.trans hb4)) (fun hHeld => ?_)
                  clear hK K
                  try simp only [Act.put, List.setIfInBounds_toArray, List.set_cons_zero, List.set_cons_succ]
                  have HB4 : Hid (Below V1.heap.size V1 V4) := HB3.out.trans (((Below.refl _ wr).drew.trans hb4).mono HB3.out.size)
                  clear hb4
                  refine wpAnyH_take (i := 6) (v := ?van_6) rfl (by kernel_rfl) (by kernel_rfl) (by kernel_rfl) (fun _ _ _ h => h) (Or.inl ⟨by first | kernel_rfl | rfl, ?yan_6⟩) hHeld ?ran_6
                  case yan_6 => (intro W hSW; (try dsimp only at hSW); go_simp; (try with_reducible rfl))
                  change wpAnyH _ _ _ _ _ _ _ (Act.put _ (some 39) _) _
                  simp only [Act.put, List.setIfInBounds_toArray, List.set_cons_zero, List.set_cons_succ]
                  refine wpAnyH_take (i := 7) (v := ?van_7) rfl (by kernel_rfl) (by kernel_rfl) (by kernel_rfl) (fun _ _ _ h => h) (Or.inl ⟨by first | kernel_rfl | rfl, ?yan_7⟩) hHeld ?ran_7
                  case yan_7 => (intro W hSW; (try dsimp only at hSW); go_simp; (try with_reducible rfl))
                  change wpAnyH _ _ _ _ _ _ _ (Act.put _ (some 40) _) _
                  simp only [Act.put, List.setIfInBounds_toArray, List.set_cons_zero, List.set_cons_succ]
                  refine wpAnyH_take (i := 8) (v := ?van_8) rfl (by kernel_rfl) (by kernel_rfl) (by kernel_rfl) (fun _ _ _ h => h) (Or.inl ⟨by first | kernel_rfl | rfl, ?yan_8⟩) hHeld ?ran_8
                  case yan_8 => (intro W hSW; (try dsimp only at hSW); go_simp; (try with_reducible rfl))
                  change wpAnyH _ _ _ _ _ _ _ (Act.put _ (some 41) _) _
                  simp only [Act.put, List.setIfInBounds_toArray, List.set_cons_zero, List.set_cons_succ]
                  refine wpAnyH_take (i := 9) (v := ?van_9) rfl (by kernel_rfl) (by kernel_rfl) (by kernel_rfl) (fun _ _ _ h => h) (Or.inl ⟨by first | kernel_rfl | rfl, ?yan_9⟩) hHeld ?ran_9
                  case yan_9 => (intro W hSW; (try dsimp only at hSW); go_simp; (try with_reducible rfl))
                  change wpAnyH _ _ _ _ _ _ _ (Act.put _ (some 42) _) _
                  simp only [Act.put, List.setIfInBounds_toArray, List.set_cons_zero, List.set_cons_succ]
                  refine wpAnyH_take (i := 10) (v := ?van_10) rfl (by kernel_rfl) (by kernel_rfl) (by kernel_rfl) (fun _ _ _ h => h) (Or.inl ⟨by first | kernel_rfl | rfl, ?yan_10⟩) hHeld ?ran_10
                  case yan_10 => (intro W hSW; (try dsimp only at hSW); go_simp; (try with_reducible rfl))
                  change wpAnyH _ _ _ _ _ _ _ (Act.put _ (some 43) _) _
                  simp only [Act.put, List.setIfInBounds_toArray, List.set_cons_zero, List.set_cons_succ]
                  refine wpAnyH_take (i := 11) (v := ?van_11) rfl (by kernel_rfl) (by kernel_rfl) (by kernel_rfl) (fun _ _ _ h => h) (Or.inl ⟨by first | kernel_rfl | rfl, ?yan_11⟩) hHeld ?ran_11
                  case yan_11 => (intro W hSW; (try dsimp only at hSW); go_simp; (try with_reducible rfl))
                  change wpAnyH _ _ _ _ _ _ _ (Act.put _ (some 44) _) _
                  simp only [Act.put, List.setIfInBounds_toArray, List.set_cons_zero, List.set_cons_succ]
                  refine wpAnyH_take (i := 12) (v := ?van_12) rfl (by kernel_rfl) (by kernel_rfl) (by kernel_rfl) (fun _ _ _ h => h) (Or.inl ⟨by first | kernel_rfl | rfl, ?yan_12⟩) hHeld ?ran_12
                  case yan_12 => (intro W hSW; (try dsimp only at hSW); go_simp; (try with_reducible rfl))
                  change wpAnyH _ _ _ _ _ _ _ (Act.put _ (some 45) _) _
                  simp only [Act.put, List.setIfInBounds_toArray, List.set_cons_zero, List.set_cons_succ]
                  refine wpAnyH_take (i := 13) (v := ?van_13) rfl (by kernel_rfl) (by kernel_rfl) (by kernel_rfl) (fun _ _ _ h => h) (Or.inl ⟨by first | kernel_rfl | rfl, ?yan_13⟩) hHeld ?ran_13
                  case yan_13 => (intro W hSW; (try dsimp only at hSW); go_simp; (try with_reducible rfl))
                  change wpAnyH _ _ _ _ _ _ _ (Act.put _ (some 46) _) _
                  simp only [Act.put, List.setIfInBounds_toArray, List.set_cons_zero, List.set_cons_succ]
                  refine wpAnyH_take (i := 14) (v := ?van_14) rfl (by kernel_rfl) (by kernel_rfl) (by kernel_rfl) (fun _ _ _ h => h) (Or.inl ⟨by first | kernel_rfl | rfl, ?yan_14⟩) hHeld ?ran_14
                  case yan_14 => (intro W hSW; (try dsimp only at hSW); go_simp; (try with_reducible rfl))
                  change wpAnyH _ _ _ _ _ _ _ (Act.put _ (some 47) _) _
                  simp only [Act.put, List.setIfInBounds_toArray, List.set_cons_zero, List.set_cons_succ]
                  refine wpAnyH_take (i := 15) (v := ?van_15) rfl (by kernel_rfl) (by kernel_rfl) (by kernel_rfl) (fun _ _ _ h => h) (Or.inl ⟨by first | kernel_rfl | rfl, ?yan_15⟩) hHeld ?ran_15
                  case yan_15 => (intro W hSW; (try dsimp only at hSW); go_simp; (try with_reducible rfl))
                  change wpAnyH _ _ _ _ _ _ _ (Act.put _ (some 48) _) _
                  simp only [Act.put, List.setIfInBounds_toArray, List.set_cons_zero, List.set_cons_succ]
                  refine wpAnyH_take (i := 16) (v := ?van_16) rfl (by kernel_rfl) (by kernel_rfl) (by kernel_rfl) (fun _ _ _ h => h) (Or.inl ⟨by first | kernel_rfl | rfl, ?yan_16⟩) hHeld ?ran_16
                  case yan_16 => (intro W hSW; (try dsimp only at hSW); go_simp; (try with_reducible rfl))
                  change wpAnyH _ _ _ _ _ _ _ (Act.put _ (some 49) _) _
                  simp only [Act.put, List.setIfInBounds_toArray, List.set_cons_zero, List.set_cons_succ]
                  refine wpAnyH_take (i := 17) (v := ?van_17) rfl (by kernel_rfl) (by kernel_rfl) (by kernel_rfl) (fun _ _ _ h => h) (Or.inl ⟨by first | kernel_rfl | rfl, ?yan_17⟩) hHeld ?ran_17
                  case yan_17 => (intro W hSW; (try dsimp only at hSW); go_simp; (try with_reducible rfl))
                  change wpAnyH _ _ _ _ _ _ _ (Act.put _ (some 50) _) _
                  simp only [Act.put, List.setIfInBounds_toArray, List.set_cons_zero, List.set_cons_succ]
                  refine wpAnyH_take (i := 18) (v := ?van_18) rfl (by kernel_rfl) (by kernel_rfl) (by kernel_rfl) (fun _ _ _ h => h) (Or.inl ⟨by first | kernel_rfl | rfl, ?yan_18⟩) hHeld ?ran_18
                  case yan_18 => (intro W hSW; (try dsimp only at hSW); go_simp; (try with_reducible rfl))
                  change wpAnyH _ _ _ _ _ _ _ (Act.put _ (some 51) _) _
                  simp only [Act.put, List.setIfInBounds_toArray, List.set_cons_zero, List.set_cons_succ]
                  refine wpAnyH_take (i := 19) (v := ?van_19) rfl (by kernel_rfl) (by kernel_rfl) (by kernel_rfl) (fun _ _ _ h => h) (Or.inl ⟨by first | kernel_rfl | rfl, ?yan_19⟩) hHeld ?ran_19
                  case yan_19 => (intro W hSW; (try dsimp only at hSW); go_simp; (try with_reducible rfl))
                  change wpAnyH _ _ _ _ _ _ _ (Act.put _ (some 52) _) _
                  simp only [Act.put, List.setIfInBounds_toArray, List.set_cons_zero, List.set_cons_succ]
                  refine wpAnyH_take (i := 20) (v := ?van_20) rfl (by kernel_rfl) (by kernel_rfl) (by kernel_rfl) (fun _ _ _ h => h) (Or.inl ⟨by first | kernel_rfl | rfl, ?yan_20⟩) hHeld ?ran_20
                  case yan_20 => (intro W hSW; (try dsimp only at hSW); go_simp; (try with_reducible rfl))
                  change wpAnyH _ _ _ _ _ _ _ (Act.put _ (some 53) _) _
                  simp only [Act.put, List.setIfInBounds_toArray, List.set_cons_zero, List.set_cons_succ]
                  refine wpAnyH_take (i := 21) (v := ?van_21) rfl (by kernel_rfl) (by kernel_rfl) (by kernel_rfl) (fun _ _ _ h => h) (Or.inl ⟨by first | kernel_rfl | rfl, ?yan_21⟩) hHeld ?ran_21
                  case yan_21 => (intro W hSW; (try dsimp only at hSW); go_simp; (try with_reducible rfl))
                  change wpAnyH _ _ _ _ _ _ _ (Act.put _ (some 54) _) _
                  simp only [Act.put, List.setIfInBounds_toArray, List.set_cons_zero, List.set_cons_succ]
                  refine wpAnyH_take (i := 22) (v := ?van_22) rfl (by kernel_rfl) (by kernel_rfl) (by kernel_rfl) (fun _ _ _ h => h) (Or.inl ⟨by first | kernel_rfl | rfl, ?yan_22⟩) hHeld ?ran_22
                  case yan_22 => (intro W hSW; (try dsimp only at hSW); go_simp; (try with_reducible rfl))
                  change wpAnyH _ _ _ _ _ _ _ (Act.put _ (some 55) _) _
                  simp only [Act.put, List.setIfInBounds_toArray, List.set_cons_zero, List.set_cons_succ]
                  refine wpAnyH_done (by kernel_rfl) ?_ _
                  have HE : Hid (YeTo w (mayA ⟨s, n, l⟩) (.returned (.bool false)) V4) := ⟨by rw [HA.out], HB.out.trans (HB4.out.mono HB.out.size)⟩
                  go_wp2
                  go_ret
                  exact HE.out
            · obtain rfl : i = ln := by omega
              have kk : ¬ (i : Int) < (8 : Int) := by omega
              clear hln
              have HE : Hid (YeTo w (mayA ⟨s, n, l⟩) (.returned (.bool true)) wr) := by
                refine ⟨?_, HB.out.trans (hbw.mono HB.out.size)⟩
                rw [List.take_of_length_le (by have := HL.out; omega)] at hal
                rw [HM.out (by have := HL.out; rw [this]; exact hal)]
              clear hal hbw
              go_wp2
              go_ret
              exact HE.out
          · have k4 : ¬ (ln : Int) = 8 := by omega
            have b4 : ((ln : Int) == 8) = false := by simpa using k4
            have n4 : ((ln : Int) != 8) = true := by simpa using k4
            have HE := HN.out (by omega)
            clear hl
            go_enter Tryd.func17, Tryd.ntmps17
            go_wp2
            go_ret
            exact HE.out
        · by_cases c4 : (ln : Int) = n
          · have b4 : ((ln : Int) == n) = true := by simpa using c4
            have n4 : ((ln : Int) != n) = false := by simpa using c4
            have HM : Hid (runB (n - (l.length : Int) + 1) l = true → mayA ⟨s, n, l⟩ = true) := fun h => mayA_iff.2 ⟨h32, by simp only; omega, by simp only; omega, by simp only; omega, h⟩
            have H8 : Hid ((ln : Int) = n) := c4
            clear hl c4
            go_enter Tryd.func17, Tryd.ntmps17
            go_wp2
            go_loopw [4] (fun v wr => ∃ i : Nat, i ≤ ln ∧ v = .int .i64 i ∧ runB (n - (ln : Int) + 1) (l.take i) = true ∧ Below V1.heap.size V1 wr) (fun v _ => ln - (intOf v).toNat)
            case atStart => exact ⟨0, by omega, rfl, rfl, Below.refl _ _⟩
            case round =>
            obtain ⟨i, hi, rfl, hal, hbw⟩ := hrel
            clear y0 y1 y2
            obtain ⟨y0, y1, y2⟩ := HK.out wr hbw
            have hln := H8.out
            by_cases hlt : i < ln
            · have kk : (i : Int) < n := by omega
              have kl : (i : Int) < (ln : Int) := by omega
              clear hln
              obtain ⟨ab, ao, rfl, _, hc⟩ := (HR.out wr hbw).at (by omega)
              obtain ⟨⟨c0, c1, c2, c3, c4⟩, hci⟩ : ∃ c, l[i]? = some c := ⟨_, List.getElem?_eq_getElem (by have := HL.out; omega)⟩
              have HS : Hid (∀ W, Below wr.heap.size wr W → (W.cell? ⟨pb, 0, none⟩ = some (.string s) ∧ W.cell? ⟨pb, 1, none⟩ = some (.int .i64 n) ∧ W.cell? ⟨pb, 2, none⟩ = some (.slice (some ⟨ab, ao, none⟩) ln cp)) ∧ W.cell? ⟨ab, ao + i * 5, none⟩ = some (.int .i64 c0) ∧ W.cell? ⟨ab, ao + i * 5 + 1, none⟩ = some (.int .i64 c1) ∧ W.cell? ⟨ab, ao + i * 5 + 2, none⟩ = some (.int .i64 c2) ∧ W.cell? ⟨ab, ao + i * 5 + 3, none⟩ = some (.string c3) ∧ W.cell? ⟨ab, ao + i * 5 + 4, none⟩ = some (.int .i64 c4)) := fun W hW => by
                have hW1 := hbw.trans (hW.mono hbw.size)
                obtain ⟨ab', ao', he, _, hc'⟩ := (HR.out W hW1).at (by omega)
                obtain ⟨rfl, rfl⟩ : ab = ab' ∧ ao = ao' := by
                  have := Option.some.inj he
                  exact ⟨congrArg Addr.block this, congrArg Addr.off this⟩
                exact ⟨HK.out W hW1, hc' i _ hci⟩
              have HI : Hid (∀ W, Calls Tryd.prog 22 #[.agg #[.int .i64 c0, .int .i64 c1, .int .i64 c2, .string c3, .int .i64 c4]] W fun e w' => e = .returned (.bool (⟨c0, c1, c2, c3, c4⟩ : En).ok) ∧ Below W.heap.size W w') := fun W => rgood_any ⟨c0, c1, c2, c3, c4⟩ W
              have HB3 : Hid (Below V1.heap.size V1 wr) := hbw
              have HRT : Hid (runB (n - (ln : Int) + 1) (l.take i) = true ∧ l[i]? = some ⟨c0, c1, c2, c3, c4⟩) := ⟨hal, hci⟩
              obtain ⟨g, hg⟩ : ∃ g, (⟨c0, c1, c2, c3, c4⟩ : En).ok = g := ⟨_, rfl⟩
              rw [hg] at HI
              have HG : Hid ((⟨c0, c1, c2, c3, c4⟩ : En).ok = g) := hg
              clear hc hci hal hbw hg
              cases g with
              | false =>
                have HA : Hid (mayA ⟨s, n, l⟩ = false) := may_stop HL.out HRT.out.2 (.inl HG.out)
                go_wp2
                refine wp_region_held_drew (S := fun W => (W.cell? ⟨pb, 0, none⟩ = some (.string s) ∧ W.cell? ⟨pb, 1, none⟩ = some (.int .i64 n) ∧ W.cell? ⟨pb, 2, none⟩ = some (.slice (some ⟨ab, ao, none⟩) ln cp)) ∧ W.cell? ⟨ab, ao + i * 5, none⟩ = some (.int .i64 c0) ∧ W.cell? ⟨ab, ao + i * 5 + 1, none⟩ = some (.int .i64 c1) ∧ W.cell? ⟨ab, ao + i * 5 + 2, none⟩ = some (.int .i64 c2) ∧ W.cell? ⟨ab, ao + i * 5 + 3, none⟩ = some (.string c3) ∧ W.cell? ⟨ab, ao + i * 5 + 4, none⟩ = some (.int .i64 c4)) (by kernel_rfl) (HS.out wr.drew (Below.refl _ wr).drew) (fun hHeld => ?_)
                refine wpAnyH_take (i := 0) (v := ?vbf_0) rfl (by kernel_rfl) (by kernel_rfl) (by kernel_rfl) (fun _ _ _ h => h) (Or.inl ⟨by first | kernel_rfl | rfl, ?ybf_0⟩) hHeld ?rbf_0
                case ybf_0 => (intro W hSW; (try dsimp only at hSW); go_simp; (try with_reducible rfl))
                change wpAnyH _ _ _ _ _ _ _ (Act.put _ (some 33) _) _
                simp only [Act.put, List.setIfInBounds_toArray, List.set_cons_zero, List.set_cons_succ]
                refine wpAnyH_take (i := 1) (v := ?vbf_1) rfl (by kernel_rfl) (by kernel_rfl) (by kernel_rfl) (fun _ _ _ h => h) (Or.inl ⟨by first | kernel_rfl | rfl, ?ybf_1⟩) hHeld ?rbf_1
                case ybf_1 => (intro W hSW; (try dsimp only at hSW); go_simp; (try with_reducible rfl))
                change wpAnyH _ _ _ _ _ _ _ (Act.put _ (some 34) _) _
                simp only [Act.put, List.setIfInBounds_toArray, List.set_cons_zero, List.set_cons_succ]
                refine wpAnyH_take (i := 2) (v := ?vbf_2) rfl (by kernel_rfl) (by kernel_rfl) (by kernel_rfl) (fun _ _ _ h => h) (Or.inl ⟨by first | kernel_rfl | rfl, ?ybf_2⟩) hHeld ?rbf_2
                case ybf_2 => (intro W hSW; (try dsimp only at hSW); go_simp; (try with_reducible rfl))
                change wpAnyH _ _ _ _ _ _ _ (Act.put _ (some 35) _) _
                simp only [Act.put, List.setIfInBounds_toArray, List.set_cons_zero, List.set_cons_succ]
                refine wpAnyH_take (i := 3) (v := ?vbf_3) rfl (by kernel_rfl) (by kernel_rfl) (by kernel_rfl) (fun _ _ _ h => h) (Or.inl ⟨by first | kernel_rfl | rfl, ?ybf_3⟩) hHeld ?rbf_3
                case ybf_3 => (intro W hSW; (try dsimp only at hSW); go_simp; (try with_reducible rfl))
                change wpAnyH _ _ _ _ _ _ _ (Act.put _ (some 36) _) _
                simp only [Act.put, List.setIfInBounds_toArray, List.set_cons_zero, List.set_cons_succ]
                refine wpAnyH_take (i := 4) (v := ?vbf_4) rfl (by kernel_rfl) (by kernel_rfl) (by kernel_rfl) (fun _ _ _ h => h) (Or.inl ⟨by first | kernel_rfl | rfl, ?ybf_4⟩) hHeld ?rbf_4
                case ybf_4 => (intro W hSW; (try dsimp only at hSW); go_simp; (try with_reducible rfl))
                change wpAnyH _ _ _ _ _ _ _ (Act.put _ (some 37) _) _
                simp only [Act.put, List.setIfInBounds_toArray, List.set_cons_zero, List.set_cons_succ]
                refine wpAnyH_ready (rs := [5]) (by kernel_rfl) (by simp) ?_
                refine AllReadyH.cons rfl (fun K hK => ?_) AllReadyH.nil
                go_simp
                refine (HI.out wr.drew).mono ?_
                rintro e V4 ⟨rfl, hb4⟩
                refine hK.out _ _ (HS.out V4 ((Below.refl _ wr).drew.trans hb4)) (fun hHeld => ?_)
                clear hK K
                try simp only [Act.put, List.setIfInBounds_toArray, List.set_cons_zero, List.set_cons_succ]
                have HB4 : Hid (Below V1.heap.size V1 V4) := HB3.out.trans (((Below.refl _ wr).drew.trans hb4).mono HB3.out.size)
                clear hb4
                refine wpAnyH_take (i := 6) (v := ?vbf_6) rfl (by kernel_rfl) (by kernel_rfl) (by kernel_rfl) (fun _ _ _ h => h) (Or.inl ⟨by first | kernel_rfl | rfl, ?ybf_6⟩) hHeld ?rbf_6
                case ybf_6 => (intro W hSW; (try dsimp only at hSW); go_simp; (try with_reducible rfl))
                change wpAnyH _ _ _ _ _ _ _ (Act.put _ (some 39) _) _
                simp only [Act.put, List.setIfInBounds_toArray, List.set_cons_zero, List.set_cons_succ]
                refine wpAnyH_take (i := 7) (v := ?vbf_7) rfl (by kernel_rfl) (by kernel_rfl) (by kernel_rfl) (fun _ _ _ h => h) (Or.inl ⟨by first | kernel_rfl | rfl, ?ybf_7⟩) hHeld ?rbf_7
                case ybf_7 => (intro W hSW; (try dsimp only at hSW); go_simp; (try with_reducible rfl))
                change wpAnyH _ _ _ _ _ _ _ (Act.put _ (some 40) _) _
                simp only [Act.put, List.setIfInBounds_toArray, List.set_cons_zero, List.set_cons_succ]
                refine wpAnyH_take (i := 8) (v := undef) rfl (by kernel_rfl) (by kernel_rfl) (by kernel_rfl) (fun _ _ _ h => h) (Or.inr ⟨by first | kernel_rfl | rfl, rfl⟩) hHeld ?_
                change wpAnyH _ _ _ _ _ _ _ (Act.put _ (some 41) _) _
                simp only [Act.put, List.setIfInBounds_toArray, List.set_cons_zero, List.set_cons_succ]
                refine wpAnyH_take (i := 9) (v := undef) rfl (by kernel_rfl) (by kernel_rfl) (by kernel_rfl) (fun _ _ _ h => h) (Or.inr ⟨by first | kernel_rfl | rfl, rfl⟩) hHeld ?_
                change wpAnyH _ _ _ _ _ _ _ (Act.put _ (some 42) _) _
                simp only [Act.put, List.setIfInBounds_toArray, List.set_cons_zero, List.set_cons_succ]
                refine wpAnyH_take (i := 10) (v := undef) rfl (by kernel_rfl) (by kernel_rfl) (by kernel_rfl) (fun _ _ _ h => h) (Or.inr ⟨by first | kernel_rfl | rfl, rfl⟩) hHeld ?_
                change wpAnyH _ _ _ _ _ _ _ (Act.put _ (some 43) _) _
                simp only [Act.put, List.setIfInBounds_toArray, List.set_cons_zero, List.set_cons_succ]
                refine wpAnyH_take (i := 11) (v := undef) rfl (by kernel_rfl) (by kernel_rfl) (by kernel_rfl) (fun _ _ _ h => h) (Or.inr ⟨by first | kernel_rfl | rfl, rfl⟩) hHeld ?_
                change wpAnyH _ _ _ _ _ _ _ (Act.put _ (some 44) _) _
                simp only [Act.put, List.setIfInBounds_toArray, List.set_cons_zero, List.set_cons_succ]
                refine wpAnyH_take (i := 12) (v := undef) rfl (by kernel_rfl) (by kernel_rfl) (by kernel_rfl) (fun _ _ _ h => h) (Or.inr ⟨by first | kernel_rfl | rfl, rfl⟩) hHeld ?_
                change wpAnyH _ _ _ _ _ _ _ (Act.put _ (some 45) _) _
                simp only [Act.put, List.setIfInBounds_toArray, List.set_cons_zero, List.set_cons_succ]
                refine wpAnyH_take (i := 13) (v := undef) rfl (by kernel_rfl) (by kernel_rfl) (by kernel_rfl) (fun _ _ _ h => h) (Or.inr ⟨by first | kernel_rfl | rfl, rfl⟩) hHeld ?_
                change wpAnyH _ _ _ _ _ _ _ (Act.put _ (some 46) _) _
                simp only [Act.put, List.setIfInBounds_toArray, List.set_cons_zero, List.set_cons_succ]
                refine wpAnyH_take (i := 14) (v := undef) rfl (by kernel_rfl) (by kernel_rfl) (by kernel_rfl) (fun _ _ _ h => h) (Or.inr ⟨by first | kernel_rfl | rfl, rfl⟩) hHeld ?_
                change wpAnyH _ _ _ _ _ _ _ (Act.put _ (some 47) _) _
                simp only [Act.put, List.setIfInBounds_toArray, List.set_cons_zero, List.set_cons_succ]
                refine wpAnyH_take (i := 15) (v := undef) rfl (by kernel_rfl) (by kernel_rfl) (by kernel_rfl) (fun _ _ _ h => h) (Or.inr ⟨by first | kernel_rfl | rfl, rfl⟩) hHeld ?_
                change wpAnyH _ _ _ _ _ _ _ (Act.put _ (some 48) _) _
                simp only [Act.put, List.setIfInBounds_toArray, List.set_cons_zero, List.set_cons_succ]
                refine wpAnyH_take (i := 16) (v := undef) rfl (by kernel_rfl) (by kernel_rfl) (by kernel_rfl) (fun _ _ _ h => h) (Or.inr ⟨by first | kernel_rfl | rfl, rfl⟩) hHeld ?_
                change wpAnyH _ _ _ _ _ _ _ (Act.put _ (some 49) _) _
                simp only [Act.put, List.setIfInBounds_toArray, List.set_cons_zero, List.set_cons_succ]
                refine wpAnyH_take (i := 17) (v := undef) rfl (by kernel_rfl) (by kernel_rfl) (by kernel_rfl) (fun _ _ _ h => h) (Or.inr ⟨by first | kernel_rfl | rfl, rfl⟩) hHeld ?_
                change wpAnyH _ _ _ _ _ _ _ (Act.put _ (some 50) _) _
                simp only [Act.put, List.setIfInBounds_toArray, List.set_cons_zero, List.set_cons_succ]
                refine wpAnyH_take (i := 18) (v := undef) rfl (by kernel_rfl) (by kernel_rfl) (by kernel_rfl) (fun _ _ _ h => h) (Or.inr ⟨by first | kernel_rfl | rfl, rfl⟩) hHeld ?_
                change wpAnyH _ _ _ _ _ _ _ (Act.put _ (some 51) _) _
                simp only [Act.put, List.setIfInBounds_toArray, List.set_cons_zero, List.set_cons_succ]
                refine wpAnyH_take (i := 19) (v := undef) rfl (by kernel_rfl) (by kernel_rfl) (by kernel_rfl) (fun _ _ _ h => h) (Or.inr ⟨by first | kernel_rfl | rfl, rfl⟩) hHeld ?_
                change wpAnyH _ _ _ _ _ _ _ (Act.put _ (some 52) _) _
                simp only [Act.put, List.setIfInBounds_toArray, List.set_cons_zero, List.set_cons_succ]
                refine wpAnyH_take (i := 20) (v := undef) rfl (by kernel_rfl) (by kernel_rfl) (by kernel_rfl) (fun _ _ _ h => h) (Or.inr ⟨by first | kernel_rfl | rfl, rfl⟩) hHeld ?_
                change wpAnyH _ _ _ _ _ _ _ (Act.put _ (some 53) _) _
                simp only [Act.put, List.setIfInBounds_toArray, List.set_cons_zero, List.set_cons_succ]
                refine wpAnyH_take (i := 21) (v := undef) rfl (by kernel_rfl) (by kernel_rfl) (by kernel_rfl) (fun _ _ _ h => h) (Or.inr ⟨by first | kernel_rfl | rfl, rfl⟩) hHeld ?_
                change wpAnyH _ _ _ _ _ _ _ (Act.put _ (some 54) _) _
                simp only [Act.put, List.setIfInBounds_toArray, List.set_cons_zero, List.set_cons_succ]
                refine wpAnyH_take (i := 22) (v := ?vbf_22) rfl (by kernel_rfl) (by kernel_rfl) (by kernel_rfl) (fun _ _ _ h => h) (Or.inl ⟨by first | kernel_rfl | rfl, ?ybf_22⟩) hHeld ?rbf_22
                case ybf_22 => (intro W hSW; (try dsimp only at hSW); go_simp; (try with_reducible rfl))
                change wpAnyH _ _ _ _ _ _ _ (Act.put _ (some 55) _) _
                simp only [Act.put, List.setIfInBounds_toArray, List.set_cons_zero, List.set_cons_succ]
                refine wpAnyH_done (by kernel_rfl) ?_ _
                have HE : Hid (YeTo w (mayA ⟨s, n, l⟩) (.returned (.bool false)) V4) := ⟨by rw [HA.out], HB.out.trans (HB4.out.mono HB.out.size)⟩
                go_wp2
                go_ret
                exact HE.out
              | true =>
                have w1 : IntKind.i64.wrap 0 = 0 := by rw [IntKind.wrap_i64]; omega
                have w2 : IntKind.i64.wrap 1 = 1 := by rw [IntKind.wrap_i64]; omega
                have w3 : IntKind.i64.wrap (1 + (i : Int)) = 1 + (i : Int) := by rw [IntKind.wrap_i64]; omega
                by_cases hs : c0 = 1 + (i : Int)
                · have hsb : (c0 != 1 + (i : Int)) = false := by simpa using hs
                  have HA : Hid (runB (n - (ln : Int) + 1) (l.take (i + 1)) = true) := run_take HRT.out.1 HRT.out.2 HG.out (by show c0 = _; have := H8.out; omega) (by have := HL.out; omega)
                  clear hs
                  go_wp2
                  refine wp_region_held_drew (S := fun W => (W.cell? ⟨pb, 0, none⟩ = some (.string s) ∧ W.cell? ⟨pb, 1, none⟩ = some (.int .i64 n) ∧ W.cell? ⟨pb, 2, none⟩ = some (.slice (some ⟨ab, ao, none⟩) ln cp)) ∧ W.cell? ⟨ab, ao + i * 5, none⟩ = some (.int .i64 c0) ∧ W.cell? ⟨ab, ao + i * 5 + 1, none⟩ = some (.int .i64 c1) ∧ W.cell? ⟨ab, ao + i * 5 + 2, none⟩ = some (.int .i64 c2) ∧ W.cell? ⟨ab, ao + i * 5 + 3, none⟩ = some (.string c3) ∧ W.cell? ⟨ab, ao + i * 5 + 4, none⟩ = some (.int .i64 c4)) (by kernel_rfl) (HS.out wr.drew (Below.refl _ wr).drew) (fun hHeld => ?_)
                  refine wpAnyH_take (i := 0) (v := ?vbt_0) rfl (by kernel_rfl) (by kernel_rfl) (by kernel_rfl) (fun _ _ _ h => h) (Or.inl ⟨by first | kernel_rfl | rfl, ?ybt_0⟩) hHeld ?rbt_0
                  case ybt_0 => (intro W hSW; (try dsimp only at hSW); go_simp; (try with_reducible rfl))
                  change wpAnyH _ _ _ _ _ _ _ (Act.put _ (some 33) _) _
                  simp only [Act.put, List.setIfInBounds_toArray, List.set_cons_zero, List.set_cons_succ]
                  refine wpAnyH_take (i := 1) (v := ?vbt_1) rfl (by kernel_rfl) (by kernel_rfl) (by kernel_rfl) (fun _ _ _ h => h) (Or.inl ⟨by first | kernel_rfl | rfl, ?ybt_1⟩) hHeld ?rbt_1
                  case ybt_1 => (intro W hSW; (try dsimp only at hSW); go_simp; (try with_reducible rfl))
                  change wpAnyH _ _ _ _ _ _ _ (Act.put _ (some 34) _) _
                  simp only [Act.put, List.setIfInBounds_toArray, List.set_cons_zero, List.set_cons_succ]
                  refine wpAnyH_take (i := 2) (v := ?vbt_2) rfl (by kernel_rfl) (by kernel_rfl) (by kernel_rfl) (fun _ _ _ h => h) (Or.inl ⟨by first | kernel_rfl | rfl, ?ybt_2⟩) hHeld ?rbt_2
                  case ybt_2 => (intro W hSW; (try dsimp only at hSW); go_simp; (try with_reducible rfl))
                  change wpAnyH _ _ _ _ _ _ _ (Act.put _ (some 35) _) _
                  simp only [Act.put, List.setIfInBounds_toArray, List.set_cons_zero, List.set_cons_succ]
                  refine wpAnyH_take (i := 3) (v := ?vbt_3) rfl (by kernel_rfl) (by kernel_rfl) (by kernel_rfl) (fun _ _ _ h => h) (Or.inl ⟨by first | kernel_rfl | rfl, ?ybt_3⟩) hHeld ?rbt_3
                  case ybt_3 => (intro W hSW; (try dsimp only at hSW); go_simp; (try with_reducible rfl))
                  change wpAnyH _ _ _ _ _ _ _ (Act.put _ (some 36) _) _
                  simp only [Act.put, List.setIfInBounds_toArray, List.set_cons_zero, List.set_cons_succ]
                  refine wpAnyH_take (i := 4) (v := ?vbt_4) rfl (by kernel_rfl) (by kernel_rfl) (by kernel_rfl) (fun _ _ _ h => h) (Or.inl ⟨by first | kernel_rfl | rfl, ?ybt_4⟩) hHeld ?rbt_4
                  case ybt_4 => (intro W hSW; (try dsimp only at hSW); go_simp; (try with_reducible rfl))
                  change wpAnyH _ _ _ _ _ _ _ (Act.put _ (some 37) _) _
                  simp only [Act.put, List.setIfInBounds_toArray, List.set_cons_zero, List.set_cons_succ]
                  refine wpAnyH_ready (rs := [5]) (by kernel_rfl) (by simp) ?_
                  refine AllReadyH.cons rfl (fun K hK => ?_) AllReadyH.nil
                  go_simp
                  refine (HI.out wr.drew).mono ?_
                  rintro e V4 ⟨rfl, hb4⟩
                  refine hK.out _ _ (HS.out V4 ((Below.refl _ wr).drew.trans hb4)) (fun hHeld => ?_)
                  clear hK K
                  try simp only [Act.put, List.setIfInBounds_toArray, List.set_cons_zero, List.set_cons_succ]
                  have HB4 : Hid (Below V1.heap.size V1 V4) := HB3.out.trans (((Below.refl _ wr).drew.trans hb4).mono HB3.out.size)
                  clear hb4
                  refine wpAnyH_take (i := 6) (v := ?vbt_6) rfl (by kernel_rfl) (by kernel_rfl) (by kernel_rfl) (fun _ _ _ h => h) (Or.inl ⟨by first | kernel_rfl | rfl, ?ybt_6⟩) hHeld ?rbt_6
                  case ybt_6 => (intro W hSW; (try dsimp only at hSW); go_simp; (try with_reducible rfl))
                  change wpAnyH _ _ _ _ _ _ _ (Act.put _ (some 39) _) _
                  simp only [Act.put, List.setIfInBounds_toArray, List.set_cons_zero, List.set_cons_succ]
                  refine wpAnyH_take (i := 7) (v := ?vbt_7) rfl (by kernel_rfl) (by kernel_rfl) (by kernel_rfl) (fun _ _ _ h => h) (Or.inl ⟨by first | kernel_rfl | rfl, ?ybt_7⟩) hHeld ?rbt_7
                  case ybt_7 => (intro W hSW; (try dsimp only at hSW); go_simp; (try with_reducible rfl))
                  change wpAnyH _ _ _ _ _ _ _ (Act.put _ (some 40) _) _
                  simp only [Act.put, List.setIfInBounds_toArray, List.set_cons_zero, List.set_cons_succ]
                  refine wpAnyH_take (i := 8) (v := ?vbt_8) rfl (by kernel_rfl) (by kernel_rfl) (by kernel_rfl) (fun _ _ _ h => h) (Or.inl ⟨by first | kernel_rfl | rfl, ?ybt_8⟩) hHeld ?rbt_8
                  case ybt_8 => (intro W hSW; (try dsimp only at hSW); go_simp; (try with_reducible rfl))
                  change wpAnyH _ _ _ _ _ _ _ (Act.put _ (some 41) _) _
                  simp only [Act.put, List.setIfInBounds_toArray, List.set_cons_zero, List.set_cons_succ]
                  refine wpAnyH_take (i := 9) (v := ?vbt_9) rfl (by kernel_rfl) (by kernel_rfl) (by kernel_rfl) (fun _ _ _ h => h) (Or.inl ⟨by first | kernel_rfl | rfl, ?ybt_9⟩) hHeld ?rbt_9
                  case ybt_9 => (intro W hSW; (try dsimp only at hSW); go_simp; (try with_reducible rfl))
                  change wpAnyH _ _ _ _ _ _ _ (Act.put _ (some 42) _) _
                  simp only [Act.put, List.setIfInBounds_toArray, List.set_cons_zero, List.set_cons_succ]
                  refine wpAnyH_take (i := 10) (v := ?vbt_10) rfl (by kernel_rfl) (by kernel_rfl) (by kernel_rfl) (fun _ _ _ h => h) (Or.inl ⟨by first | kernel_rfl | rfl, ?ybt_10⟩) hHeld ?rbt_10
                  case ybt_10 => (intro W hSW; (try dsimp only at hSW); go_simp; (try with_reducible rfl))
                  change wpAnyH _ _ _ _ _ _ _ (Act.put _ (some 43) _) _
                  simp only [Act.put, List.setIfInBounds_toArray, List.set_cons_zero, List.set_cons_succ]
                  refine wpAnyH_take (i := 11) (v := ?vbt_11) rfl (by kernel_rfl) (by kernel_rfl) (by kernel_rfl) (fun _ _ _ h => h) (Or.inl ⟨by first | kernel_rfl | rfl, ?ybt_11⟩) hHeld ?rbt_11
                  case ybt_11 => (intro W hSW; (try dsimp only at hSW); go_simp; (try with_reducible rfl))
                  change wpAnyH _ _ _ _ _ _ _ (Act.put _ (some 44) _) _
                  simp only [Act.put, List.setIfInBounds_toArray, List.set_cons_zero, List.set_cons_succ]
                  refine wpAnyH_take (i := 12) (v := ?vbt_12) rfl (by kernel_rfl) (by kernel_rfl) (by kernel_rfl) (fun _ _ _ h => h) (Or.inl ⟨by first | kernel_rfl | rfl, ?ybt_12⟩) hHeld ?rbt_12
                  case ybt_12 => (intro W hSW; (try dsimp only at hSW); go_simp; (try with_reducible rfl))
                  change wpAnyH _ _ _ _ _ _ _ (Act.put _ (some 45) _) _
                  simp only [Act.put, List.setIfInBounds_toArray, List.set_cons_zero, List.set_cons_succ]
                  refine wpAnyH_take (i := 13) (v := ?vbt_13) rfl (by kernel_rfl) (by kernel_rfl) (by kernel_rfl) (fun _ _ _ h => h) (Or.inl ⟨by first | kernel_rfl | rfl, ?ybt_13⟩) hHeld ?rbt_13
                  case ybt_13 => (intro W hSW; (try dsimp only at hSW); go_simp; (try with_reducible rfl))
                  change wpAnyH _ _ _ _ _ _ _ (Act.put _ (some 46) _) _
                  simp only [Act.put, List.setIfInBounds_toArray, List.set_cons_zero, List.set_cons_succ]
                  refine wpAnyH_take (i := 14) (v := ?vbt_14) rfl (by kernel_rfl) (by kernel_rfl) (by kernel_rfl) (fun _ _ _ h => h) (Or.inl ⟨by first | kernel_rfl | rfl, ?ybt_14⟩) hHeld ?rbt_14
                  case ybt_14 => (intro W hSW; (try dsimp only at hSW); go_simp; (try with_reducible rfl))
                  change wpAnyH _ _ _ _ _ _ _ (Act.put _ (some 47) _) _
                  simp only [Act.put, List.setIfInBounds_toArray, List.set_cons_zero, List.set_cons_succ]
                  refine wpAnyH_take (i := 15) (v := ?vbt_15) rfl (by kernel_rfl) (by kernel_rfl) (by kernel_rfl) (fun _ _ _ h => h) (Or.inl ⟨by first | kernel_rfl | rfl, ?ybt_15⟩) hHeld ?rbt_15
                  case ybt_15 => (intro W hSW; (try dsimp only at hSW); go_simp; (try with_reducible rfl))
                  change wpAnyH _ _ _ _ _ _ _ (Act.put _ (some 48) _) _
                  simp only [Act.put, List.setIfInBounds_toArray, List.set_cons_zero, List.set_cons_succ]
                  refine wpAnyH_take (i := 16) (v := ?vbt_16) rfl (by kernel_rfl) (by kernel_rfl) (by kernel_rfl) (fun _ _ _ h => h) (Or.inl ⟨by first | kernel_rfl | rfl, ?ybt_16⟩) hHeld ?rbt_16
                  case ybt_16 => (intro W hSW; (try dsimp only at hSW); go_simp; (try with_reducible rfl))
                  change wpAnyH _ _ _ _ _ _ _ (Act.put _ (some 49) _) _
                  simp only [Act.put, List.setIfInBounds_toArray, List.set_cons_zero, List.set_cons_succ]
                  refine wpAnyH_take (i := 17) (v := ?vbt_17) rfl (by kernel_rfl) (by kernel_rfl) (by kernel_rfl) (fun _ _ _ h => h) (Or.inl ⟨by first | kernel_rfl | rfl, ?ybt_17⟩) hHeld ?rbt_17
                  case ybt_17 => (intro W hSW; (try dsimp only at hSW); go_simp; (try with_reducible rfl))
                  change wpAnyH _ _ _ _ _ _ _ (Act.put _ (some 50) _) _
                  simp only [Act.put, List.setIfInBounds_toArray, List.set_cons_zero, List.set_cons_succ]
                  refine wpAnyH_take (i := 18) (v := ?vbt_18) rfl (by kernel_rfl) (by kernel_rfl) (by kernel_rfl) (fun _ _ _ h => h) (Or.inl ⟨by first | kernel_rfl | rfl, ?ybt_18⟩) hHeld ?rbt_18
                  case ybt_18 => (intro W hSW; (try dsimp only at hSW); go_simp; (try with_reducible rfl))
                  change wpAnyH _ _ _ _ _ _ _ (Act.put _ (some 51) _) _
                  simp only [Act.put, List.setIfInBounds_toArray, List.set_cons_zero, List.set_cons_succ]
                  refine wpAnyH_take (i := 19) (v := ?vbt_19) rfl (by kernel_rfl) (by kernel_rfl) (by kernel_rfl) (fun _ _ _ h => h) (Or.inl ⟨by first | kernel_rfl | rfl, ?ybt_19⟩) hHeld ?rbt_19
                  case ybt_19 => (intro W hSW; (try dsimp only at hSW); go_simp; (try with_reducible rfl))
                  change wpAnyH _ _ _ _ _ _ _ (Act.put _ (some 52) _) _
                  simp only [Act.put, List.setIfInBounds_toArray, List.set_cons_zero, List.set_cons_succ]
                  refine wpAnyH_take (i := 20) (v := ?vbt_20) rfl (by kernel_rfl) (by kernel_rfl) (by kernel_rfl) (fun _ _ _ h => h) (Or.inl ⟨by first | kernel_rfl | rfl, ?ybt_20⟩) hHeld ?rbt_20
                  case ybt_20 => (intro W hSW; (try dsimp only at hSW); go_simp; (try with_reducible rfl))
                  change wpAnyH _ _ _ _ _ _ _ (Act.put _ (some 53) _) _
                  simp only [Act.put, List.setIfInBounds_toArray, List.set_cons_zero, List.set_cons_succ]
                  refine wpAnyH_take (i := 21) (v := ?vbt_21) rfl (by kernel_rfl) (by kernel_rfl) (by kernel_rfl) (fun _ _ _ h => h) (Or.inl ⟨by first | kernel_rfl | rfl, ?ybt_21⟩) hHeld ?rbt_21
                  case ybt_21 => (intro W hSW; (try dsimp only at hSW); go_simp; (try with_reducible rfl))
                  change wpAnyH _ _ _ _ _ _ _ (Act.put _ (some 54) _) _
                  simp only [Act.put, List.setIfInBounds_toArray, List.set_cons_zero, List.set_cons_succ]
                  refine wpAnyH_take (i := 22) (v := ?vbt_22) rfl (by kernel_rfl) (by kernel_rfl) (by kernel_rfl) (fun _ _ _ h => h) (Or.inl ⟨by first | kernel_rfl | rfl, ?ybt_22⟩) hHeld ?rbt_22
                  case ybt_22 => (intro W hSW; (try dsimp only at hSW); go_simp; (try with_reducible rfl))
                  change wpAnyH _ _ _ _ _ _ _ (Act.put _ (some 55) _) _
                  simp only [Act.put, List.setIfInBounds_toArray, List.set_cons_zero, List.set_cons_succ]
                  refine wpAnyH_done (by kernel_rfl) ?_ _
                  go_wp2
                  exact ⟨⟨i + 1, by omega, by go_num, HA.out, HB4.out⟩, by simp [intOf]; omega⟩
                · have hsb : (c0 != 1 + (i : Int)) = true := by simpa using hs
                  have HA : Hid (mayA ⟨s, n, l⟩ = false) := may_stop HL.out HRT.out.2 (.inr (by show c0 ≠ _; have := H8.out; omega))
                  clear hs
                  go_wp2
                  refine wp_region_held_drew (S := fun W => (W.cell? ⟨pb, 0, none⟩ = some (.string s) ∧ W.cell? ⟨pb, 1, none⟩ = some (.int .i64 n) ∧ W.cell? ⟨pb, 2, none⟩ = some (.slice (some ⟨ab, ao, none⟩) ln cp)) ∧ W.cell? ⟨ab, ao + i * 5, none⟩ = some (.int .i64 c0) ∧ W.cell? ⟨ab, ao + i * 5 + 1, none⟩ = some (.int .i64 c1) ∧ W.cell? ⟨ab, ao + i * 5 + 2, none⟩ = some (.int .i64 c2) ∧ W.cell? ⟨ab, ao + i * 5 + 3, none⟩ = some (.string c3) ∧ W.cell? ⟨ab, ao + i * 5 + 4, none⟩ = some (.int .i64 c4)) (by kernel_rfl) (HS.out wr.drew (Below.refl _ wr).drew) (fun hHeld => ?_)
                  refine wpAnyH_take (i := 0) (v := ?vbn_0) rfl (by kernel_rfl) (by kernel_rfl) (by kernel_rfl) (fun _ _ _ h => h) (Or.inl ⟨by first | kernel_rfl | rfl, ?ybn_0⟩) hHeld ?rbn_0
                  case ybn_0 => (intro W hSW; (try dsimp only at hSW); go_simp; (try with_reducible rfl))
                  change wpAnyH _ _ _ _ _ _ _ (Act.put _ (some 33) _) _
                  simp only [Act.put, List.setIfInBounds_toArray, List.set_cons_zero, List.set_cons_succ]
                  refine wpAnyH_take (i := 1) (v := ?vbn_1) rfl (by kernel_rfl) (by kernel_rfl) (by kernel_rfl) (fun _ _ _ h => h) (Or.inl ⟨by first | kernel_rfl | rfl, ?ybn_1⟩) hHeld ?rbn_1
                  case ybn_1 => (intro W hSW; (try dsimp only at hSW); go_simp; (try with_reducible rfl))
                  change wpAnyH _ _ _ _ _ _ _ (Act.put _ (some 34) _) _
                  simp only [Act.put, List.setIfInBounds_toArray, List.set_cons_zero, List.set_cons_succ]
                  refine wpAnyH_take (i := 2) (v := ?vbn_2) rfl (by kernel_rfl) (by kernel_rfl) (by kernel_rfl) (fun _ _ _ h => h) (Or.inl ⟨by first | kernel_rfl | rfl, ?ybn_2⟩) hHeld ?rbn_2
                  case ybn_2 => (intro W hSW; (try dsimp only at hSW); go_simp; (try with_reducible rfl))
                  change wpAnyH _ _ _ _ _ _ _ (Act.put _ (some 35) _) _
                  simp only [Act.put, List.setIfInBounds_toArray, List.set_cons_zero, List.set_cons_succ]
                  refine wpAnyH_take (i := 3) (v := ?vbn_3) rfl (by kernel_rfl) (by kernel_rfl) (by kernel_rfl) (fun _ _ _ h => h) (Or.inl ⟨by first | kernel_rfl | rfl, ?ybn_3⟩) hHeld ?rbn_3
                  case ybn_3 => (intro W hSW; (try dsimp only at hSW); go_simp; (try with_reducible rfl))
                  change wpAnyH _ _ _ _ _ _ _ (Act.put _ (some 36) _) _
                  simp only [Act.put, List.setIfInBounds_toArray, List.set_cons_zero, List.set_cons_succ]
                  refine wpAnyH_take (i := 4) (v := ?vbn_4) rfl (by kernel_rfl) (by kernel_rfl) (by kernel_rfl) (fun _ _ _ h => h) (Or.inl ⟨by first | kernel_rfl | rfl, ?ybn_4⟩) hHeld ?rbn_4
                  case ybn_4 => (intro W hSW; (try dsimp only at hSW); go_simp; (try with_reducible rfl))
                  change wpAnyH _ _ _ _ _ _ _ (Act.put _ (some 37) _) _
                  simp only [Act.put, List.setIfInBounds_toArray, List.set_cons_zero, List.set_cons_succ]
                  refine wpAnyH_ready (rs := [5]) (by kernel_rfl) (by simp) ?_
                  refine AllReadyH.cons rfl (fun K hK => ?_) AllReadyH.nil
                  go_simp
                  refine (HI.out wr.drew).mono ?_
                  rintro e V4 ⟨rfl, hb4⟩
                  refine hK.out _ _ (HS.out V4 ((Below.refl _ wr).drew.trans hb4)) (fun hHeld => ?_)
                  clear hK K
                  try simp only [Act.put, List.setIfInBounds_toArray, List.set_cons_zero, List.set_cons_succ]
                  have HB4 : Hid (Below V1.heap.size V1 V4) := HB3.out.trans (((Below.refl _ wr).drew.trans hb4).mono HB3.out.size)
                  clear hb4
                  refine wpAnyH_take (i := 6) (v := ?vbn_6) rfl (by kernel_rfl) (by kernel_rfl) (by kernel_rfl) (fun _ _ _ h => h) (Or.inl ⟨by first | kernel_rfl | rfl, ?ybn_6⟩) hHeld ?rbn_6
                  case ybn_6 => (intro W hSW; (try dsimp only at hSW); go_simp; (try with_reducible rfl))
                  change wpAnyH _ _ _ _ _ _ _ (Act.put _ (some 39) _) _
                  simp only [Act.put, List.setIfInBounds_toArray, List.set_cons_zero, List.set_cons_succ]
                  refine wpAnyH_take (i := 7) (v := ?vbn_7) rfl (by kernel_rfl) (by kernel_rfl) (by kernel_rfl) (fun _ _ _ h => h) (Or.inl ⟨by first | kernel_rfl | rfl, ?ybn_7⟩) hHeld ?rbn_7
                  case ybn_7 => (intro W hSW; (try dsimp only at hSW); go_simp; (try with_reducible rfl))
                  change wpAnyH _ _ _ _ _ _ _ (Act.put _ (some 40) _) _
                  simp only [Act.put, List.setIfInBounds_toArray, List.set_cons_zero, List.set_cons_succ]
                  refine wpAnyH_take (i := 8) (v := ?vbn_8) rfl (by kernel_rfl) (by kernel_rfl) (by kernel_rfl) (fun _ _ _ h => h) (Or.inl ⟨by first | kernel_rfl | rfl, ?ybn_8⟩) hHeld ?rbn_8
                  case ybn_8 => (intro W hSW; (try dsimp only at hSW); go_simp; (try with_reducible rfl))
                  change wpAnyH _ _ _ _ _ _ _ (Act.put _ (some 41) _) _
                  simp only [Act.put, List.setIfInBounds_toArray, List.set_cons_zero, List.set_cons_succ]
                  refine wpAnyH_take (i := 9) (v := ?vbn_9) rfl (by kernel_rfl) (by kernel_rfl) (by kernel_rfl) (fun _ _ _ h => h) (Or.inl ⟨by first | kernel_rfl | rfl, ?ybn_9⟩) hHeld ?rbn_9
                  case ybn_9 => (intro W hSW; (try dsimp only at hSW); go_simp; (try with_reducible rfl))
                  change wpAnyH _ _ _ _ _ _ _ (Act.put _ (some 42) _) _
                  simp only [Act.put, List.setIfInBounds_toArray, List.set_cons_zero, List.set_cons_succ]
                  refine wpAnyH_take (i := 10) (v := ?vbn_10) rfl (by kernel_rfl) (by kernel_rfl) (by kernel_rfl) (fun _ _ _ h => h) (Or.inl ⟨by first | kernel_rfl | rfl, ?ybn_10⟩) hHeld ?rbn_10
                  case ybn_10 => (intro W hSW; (try dsimp only at hSW); go_simp; (try with_reducible rfl))
                  change wpAnyH _ _ _ _ _ _ _ (Act.put _ (some 43) _) _
                  simp only [Act.put, List.setIfInBounds_toArray, List.set_cons_zero, List.set_cons_succ]
                  refine wpAnyH_take (i := 11) (v := ?vbn_11) rfl (by kernel_rfl) (by kernel_rfl) (by kernel_rfl) (fun _ _ _ h => h) (Or.inl ⟨by first | kernel_rfl | rfl, ?ybn_11⟩) hHeld ?rbn_11
                  case ybn_11 => (intro W hSW; (try dsimp only at hSW); go_simp; (try with_reducible rfl))
                  change wpAnyH _ _ _ _ _ _ _ (Act.put _ (some 44) _) _
                  simp only [Act.put, List.setIfInBounds_toArray, List.set_cons_zero, List.set_cons_succ]
                  refine wpAnyH_take (i := 12) (v := ?vbn_12) rfl (by kernel_rfl) (by kernel_rfl) (by kernel_rfl) (fun _ _ _ h => h) (Or.inl ⟨by first | kernel_rfl | rfl, ?ybn_12⟩) hHeld ?rbn_12
                  case ybn_12 => (intro W hSW; (try dsimp only at hSW); go_simp; (try with_reducible rfl))
                  change wpAnyH _ _ _ _ _ _ _ (Act.put _ (some 45) _) _
                  simp only [Act.put, List.setIfInBounds_toArray, List.set_cons_zero, List.set_cons_succ]
                  refine wpAnyH_take (i := 13) (v := ?vbn_13) rfl (by kernel_rfl) (by kernel_rfl) (by kernel_rfl) (fun _ _ _ h => h) (Or.inl ⟨by first | kernel_rfl | rfl, ?ybn_13⟩) hHeld ?rbn_13
                  case ybn_13 => (intro W hSW; (try dsimp only at hSW); go_simp; (try with_reducible rfl))
                  change wpAnyH _ _ _ _ _ _ _ (Act.put _ (some 46) _) _
                  simp only [Act.put, List.setIfInBounds_toArray, List.set_cons_zero, List.set_cons_succ]
                  refine wpAnyH_take (i := 14) (v := ?vbn_14) rfl (by kernel_rfl) (by kernel_rfl) (by kernel_rfl) (fun _ _ _ h => h) (Or.inl ⟨by first | kernel_rfl | rfl, ?ybn_14⟩) hHeld ?rbn_14
                  case ybn_14 => (intro W hSW; (try dsimp only at hSW); go_simp; (try with_reducible rfl))
                  change wpAnyH _ _ _ _ _ _ _ (Act.put _ (some 47) _) _
                  simp only [Act.put, List.setIfInBounds_toArray, List.set_cons_zero, List.set_cons_succ]
                  refine wpAnyH_take (i := 15) (v := ?vbn_15) rfl (by kernel_rfl) (by kernel_rfl) (by kernel_rfl) (fun _ _ _ h => h) (Or.inl ⟨by first | kernel_rfl | rfl, ?ybn_15⟩) hHeld ?rbn_15
                  case ybn_15 => (intro W hSW; (try dsimp only at hSW); go_simp; (try with_reducible rfl))
                  change wpAnyH _ _ _ _ _ _ _ (Act.put _ (some 48) _) _
                  simp only [Act.put, List.setIfInBounds_toArray, List.set_cons_zero, List.set_cons_succ]
                  refine wpAnyH_take (i := 16) (v := ?vbn_16) rfl (by kernel_rfl) (by kernel_rfl) (by kernel_rfl) (fun _ _ _ h => h) (Or.inl ⟨by first | kernel_rfl | rfl, ?ybn_16⟩) hHeld ?rbn_16
                  case ybn_16 => (intro W hSW; (try dsimp only at hSW); go_simp; (try with_reducible rfl))
                  change wpAnyH _ _ _ _ _ _ _ (Act.put _ (some 49) _) _
                  simp only [Act.put, List.setIfInBounds_toArray, List.set_cons_zero, List.set_cons_succ]
                  refine wpAnyH_take (i := 17) (v := ?vbn_17) rfl (by kernel_rfl) (by kernel_rfl) (by kernel_rfl) (fun _ _ _ h => h) (Or.inl ⟨by first | kernel_rfl | rfl, ?ybn_17⟩) hHeld ?rbn_17
                  case ybn_17 => (intro W hSW; (try dsimp only at hSW); go_simp; (try with_reducible rfl))
                  change wpAnyH _ _ _ _ _ _ _ (Act.put _ (some 50) _) _
                  simp only [Act.put, List.setIfInBounds_toArray, List.set_cons_zero, List.set_cons_succ]
                  refine wpAnyH_take (i := 18) (v := ?vbn_18) rfl (by kernel_rfl) (by kernel_rfl) (by kernel_rfl) (fun _ _ _ h => h) (Or.inl ⟨by first | kernel_rfl | rfl, ?ybn_18⟩) hHeld ?rbn_18
                  case ybn_18 => (intro W hSW; (try dsimp only at hSW); go_simp; (try with_reducible rfl))
                  change wpAnyH _ _ _ _ _ _ _ (Act.put _ (some 51) _) _
                  simp only [Act.put, List.setIfInBounds_toArray, List.set_cons_zero, List.set_cons_succ]
                  refine wpAnyH_take (i := 19) (v := ?vbn_19) rfl (by kernel_rfl) (by kernel_rfl) (by kernel_rfl) (fun _ _ _ h => h) (Or.inl ⟨by first | kernel_rfl | rfl, ?ybn_19⟩) hHeld ?rbn_19
                  case ybn_19 => (intro W hSW; (try dsimp only at hSW); go_simp; (try with_reducible rfl))
                  change wpAnyH _ _ _ _ _ _ _ (Act.put _ (some 52) _) _
                  simp only [Act.put, List.setIfInBounds_toArray, List.set_cons_zero, List.set_cons_succ]
                  refine wpAnyH_take (i := 20) (v := ?vbn_20) rfl (by kernel_rfl) (by kernel_rfl) (by kernel_rfl) (fun _ _ _ h => h) (Or.inl ⟨by first | kernel_rfl | rfl, ?ybn_20⟩) hHeld ?rbn_20
                  case ybn_20 => (intro W hSW; (try dsimp only at hSW); go_simp; (try with_reducible rfl))
                  change wpAnyH _ _ _ _ _ _ _ (Act.put _ (some 53) _) _
                  simp only [Act.put, List.setIfInBounds_toArray, List.set_cons_zero, List.set_cons_succ]
                  refine wpAnyH_take (i := 21) (v := ?vbn_21) rfl (by kernel_rfl) (by kernel_rfl) (by kernel_rfl) (fun _ _ _ h => h) (Or.inl ⟨by first | kernel_rfl | rfl, ?ybn_21⟩) hHeld ?rbn_21
                  case ybn_21 => (intro W hSW; (try dsimp only at hSW); go_simp; (try with_reducible rfl))
                  change wpAnyH _ _ _ _ _ _ _ (Act.put _ (some 54) _) _
                  simp only [Act.put, List.setIfInBounds_toArray, List.set_cons_zero, List.set_cons_succ]
                  refine wpAnyH_take (i := 22) (v := ?vbn_22) rfl (by kernel_rfl) (by kernel_rfl) (by kernel_rfl) (fun _ _ _ h => h) (Or.inl ⟨by first | kernel_rfl | rfl, ?ybn_22⟩) hHeld ?rbn_22
                  case ybn_22 => (intro W hSW; (try dsimp only at hSW); go_simp; (try with_reducible rfl))
                  change wpAnyH _ _ _ _ _ _ _ (Act.put _ (some 55) _) _
                  simp only [Act.put, List.setIfInBounds_toArray, List.set_cons_zero, List.set_cons_succ]
                  refine wpAnyH_done (by kernel_rfl) ?_ _
                  have HE : Hid (YeTo w (mayA ⟨s, n, l⟩) (.returned (.bool false)) V4) := ⟨by rw [HA.out], HB.out.trans (HB4.out.mono HB.out.size)⟩
                  go_wp2
                  go_ret
                  exact HE.out
            · obtain rfl : i = ln := by omega
              have kk : ¬ (i : Int) < n := by omega
              clear hln
              have HE : Hid (YeTo w (mayA ⟨s, n, l⟩) (.returned (.bool true)) wr) := by
                refine ⟨?_, HB.out.trans (hbw.mono HB.out.size)⟩
                rw [List.take_of_length_le (by have := HL.out; omega)] at hal
                rw [HM.out (by have := HL.out; rw [this]; exact hal)]
              clear hal hbw
              go_wp2
              go_ret
              exact HE.out
          · have b4 : ((ln : Int) == n) = false := by simpa using c4
            have n4 : ((ln : Int) != n) = true := by simpa using c4
            have HE := HN.out (by omega)
            clear hl
            go_enter Tryd.func17, Tryd.ntmps17
            go_wp2
            go_ret
            exact HE.out
  · have k32 : ¬ (s.size : Int) = 32 := by omega
    have b32 : ((s.size : Int) == 32) = false := by simpa using k32
    have n32 : ((s.size : Int) != 32) = true := by simpa using k32
    have HE := HN.out (by omega)
    clear hl
    go_enter Tryd.func17, Tryd.ntmps17
    go_wp2
    go_ret
    exact HE.out
end Go.Proofs.YtkhidkilkbmpoaaDoor
