/- Proved: for every text and m, the law ChunkWhole returns true, text and m as they were. No condition: every input that can be read as data. -/
import Derived.Test.YtebmmhgmbnbnnaaRows
import Derived.Test.YtebmmhgmbnbnnaaCN
import Derived.WalkKit
import Derived.ProofKit
import Derived.OpenShut
import Derived.ShutString
import Derived.ChangeOld
import Derived.SizedLaws
import Derived.Below
namespace Go.Proofs.Ytebmmhgmbnbnnaa.chunkWhole
open Go.ChangeShapes Go.WideShapes Go.ChangeAt Go.RowKit Ck
open Go.ChangeMaps (open_string shut_string)
theorem own : ownKnob Try.prog.godebug = none := by kernel_rfl
theorem laidOut : laidOutB Try.prog = true := by kernel_rfl

set_option maxRecDepth 100000 in
set_option maxHeartbeats 2000000 in
theorem walk (s0 : ByteArray) (_z0 : s0.size ≤ 140737488351232) (ma1 mb1 mc1 : Int) (w : World)  :
    Calls Try.prog 5 #[.string s0, .agg #[.int .i64 ma1, .int .i64 mb1, .int .i64 mc1]] w fun e w' => e = .returned (.bool true) ∧ Below w.heap.size w w' := by
  have HLV : Hid (∀ W, Below w.heap.size w W → Calls Try.prog 9 #[] W fun e w' => e = .returned (.bool true) ∧ Below w.heap.size w w') := by
    intro W hW
    refine (lives_any W).mono ?_
    rintro e w' ⟨rfl, hb⟩
    exact ⟨rfl, hW.trans (hb.mono hW.size)⟩
  obtain ⟨bs, hbs⟩ : ∃ bs, s0.data.toList = bs := ⟨_, rfl⟩
  have hs0 : strOf bs = s0 := by rw [← hbs]; exact strOf_of s0
  have hsz : s0.size = bs.length := by rw [← hs0, strOf_size]
  obtain ⟨B, hB⟩ : ∃ B, w.heap.size = B := ⟨_, rfl⟩
  obtain ⟨A, hA⟩ : ∃ A, w.alloc (.cells #[.int .i64 ma1, .int .i64 mb1, .int .i64 mc1] 23) = A := ⟨_, rfl⟩
  have hrowA : A.heap[B]? = some (.cells #[.int .i64 ma1, .int .i64 mb1, .int .i64 mc1] 23 (0, 0)) := by rw [← hA, ← hB]; exact heap_alloc_new w _
  have hbA : Below w.heap.size w A := by rw [← hA]; exact (Below.refl _ w).alloc (Nat.le_refl _) _
  have HMC : Hid (∀ V, Below A.heap.size A V → (V.cell? ⟨B, 0, none⟩ = some (.int .i64 ma1) ∧ V.cell? ⟨B, 1, none⟩ = some (.int .i64 mb1) ∧ V.cell? ⟨B, 2, none⟩ = some (.int .i64 mc1)) ∧ Below w.heap.size w V) := by
    intro V hV
    have hr := (hV.block _ (lt_of_some hrowA)).trans hrowA
    refine ⟨⟨?_, ?_, ?_⟩, hbA.trans (hV.mono hbA.size)⟩ <;> rw [cell_of_row _ _ _ _ _ _ hr] <;> rfl
  have HLA : Hid (∀ V, Below A.heap.size A V → Calls Try.prog 9 #[] V fun e w' => e = .returned (.bool true) ∧ Below w.heap.size w w') := fun V hV => HLV.out V (HMC.out V hV).2
  have HMY : Hid (∀ V, Below A.heap.size A V → Calls Try.prog 12 #[.agg #[.int .i64 ma1, .int .i64 mb1, .int .i64 mc1]] V fun e w' => e = .returned (.bool (mayI ma1 mb1 mc1)) ∧ Below A.heap.size A w') := by
    intro V hV
    refine (may_any _ _ _ V).mono ?_
    rintro e w' ⟨rfl, hb⟩
    exact ⟨rfl, hV.trans (hb.mono hV.size)⟩
  have hAA : Below A.heap.size A A := Below.refl _ _
  have HA0 : Hid (Below A.heap.size A A) := hAA
  by_cases h5 : 5000 < s0.size
  · have kk : (5000 : Int) < (s0.size : Int) := by omega
    clear hbs hs0 hsz hrowA hbA hAA
    go_enter Try.func5, Try.ntmps5
    go_wp2_with (go_at_call 9; refine (HLA.out _ HA0.out).mono ?_; rintro e w' ⟨rfl, hb⟩)
    go_ret
    exact ⟨rfl, hb⟩
  have kk : ¬ (5000 : Int) < (s0.size : Int) := by omega
  obtain ⟨R, hR⟩ : ∃ R, mayI ma1 mb1 mc1 = R := ⟨_, rfl⟩
  cases R with
  | false =>
    have HCU : Hid (∀ V, Below A.heap.size A V → Calls Try.prog 10 #[.string s0, .agg #[.int .i64 ma1, .int .i64 mb1, .int .i64 mc1]] V fun e w' => e = .returned (.tuple #[.slice none 0 0, .int .i64 1]) ∧ Below A.heap.size A w') := by
      intro V hV
      refine (cut_no ma1 mb1 mc1 s0 V hR).mono ?_
      rintro e w' ⟨rfl, hb⟩
      exact ⟨rfl, hV.trans (hb.mono hV.size)⟩
    rw [hR] at HMY
    clear hbs hs0 hsz hrowA hbA hAA hR h5
    obtain ⟨y0, y1, y2⟩ := (HMC.out A HA0.out).1
    go_enter Try.func5, Try.ntmps5
    go_wp2_with fail
    refine (HCU.out _ HA0.out).mono ?_
    clear y0 y1 y2
    rintro e V1 ⟨rfl, hb1⟩
    obtain ⟨c0, c1, c2⟩ := (HMC.out V1 hb1).1
    have H1 : Hid (Below A.heap.size A V1) := hb1
    clear hb1
    go_wp2_with fail
    refine (HMY.out _ H1.out).mono ?_
    rintro e V3 ⟨rfl, hb3⟩
    have H3 : Hid (Below A.heap.size A V3) := hb3
    clear hb3 c0 c1 c2
    go_wp2_with (go_at_call 9; refine (HLA.out _ H3.out).mono ?_; rintro e w' ⟨rfl, hb⟩)
    go_ret
    exact ⟨rfl, hb⟩
  | true =>
    obtain ⟨m, hm, rfl, rfl, rfl⟩ := ms_of hR
    have hbl : bs.length ≤ 5000 := by omega
    have HCU : Hid (∀ V, Below A.heap.size A V → Calls Try.prog 10 #[.string s0, .agg #[.int .i64 (m.least : Int), .int .i64 (m.most : Int), .int .i64 (m.bits : Int)]] V fun e w' => ∃ a n c, e = .returned (.tuple #[.slice a n c, .int .i64 0]) ∧ Tw (fun _ => True) w' a n c ((cutL m bs).map strOf) ∧ Below A.heap.size A w') := by
      intro V hV
      rw [← hs0]
      refine (cut_yes m hm bs (by omega) V).mono ?_
      rintro e w' ⟨a, n, c, rfl, h1, h2⟩
      exact ⟨a, n, c, rfl, tw_of_own h1, hV.trans (h2.mono hV.size)⟩
    obtain ⟨Ls, hLs⟩ : ∃ Ls, cutL m bs = Ls := ⟨_, rfl⟩
    have HFL : Hid (strOf Ls.flatten = s0 ∧ Ls.flatten.length ≤ 5000) := by
      rw [← hLs, cutL_join]
      exact ⟨hs0, hbl⟩
    have HSZ : Hid (∀ x ∈ Ls, 1 ≤ x.length ∧ x.length ≤ m.most) := by rw [← hLs]; exact cutL_size hm bs
    have HLE : Hid (∀ i, i + 1 < Ls.length → m.least ≤ (Ls.getD i []).length) := by rw [← hLs]; exact cutL_least hm bs
    rw [hLs] at HCU
    obtain ⟨le, hle⟩ : ∃ x, m.least = x := ⟨_, rfl⟩
    obtain ⟨mo, hmo⟩ : ∃ x, m.most = x := ⟨_, rfl⟩
    obtain ⟨bi, hbi⟩ : ∃ x, m.bits = x := ⟨_, rfl⟩
    rw [hle, hmo, hbi] at HCU HMC
    rw [hle] at HLE
    rw [hmo] at HSZ
    rw [hle, hmo, hbi] at hA
    rw [hle, hmo, hbi]
    clear hbs hs0 hsz hrowA hbA hAA hR hm h5 HMY hLs hle hmo hbi hbl
    obtain ⟨y0, y1, y2⟩ := (HMC.out A HA0.out).1
    go_enter Try.func5, Try.ntmps5
    go_wp2_with fail
    refine (HCU.out _ HA0.out).mono ?_
    clear y0 y1 y2
    rintro e V1 ⟨a, n, c, rfl, ht1, hb1⟩
    have hln := ht1.len
    rw [List.length_map] at hln
    have hmx : n ≤ 5000 := by have h1 := flat_len Ls (fun x hx => (HSZ.out x hx).1); have h2 := HFL.out.2; omega
    have H1 : Hid (Below A.heap.size A V1 ∧ Tw (fun _ => True) V1 a n c (Ls.map strOf) ∧ Ls.length = n) := ⟨hb1, ht1, hln⟩
    have HT1 : Hid (∀ V, Below V1.heap.size V1 V → Tw (fun _ => True) V a n c (Ls.map strOf) ∧ Below A.heap.size A V) := fun V hV => ⟨H1.out.2.1.below hV, H1.out.1.trans (hV.mono H1.out.1.size)⟩
    clear hb1 ht1 hln
    go_wp2
    go_loopw [7, 8] (fun vs vi wr => ∃ (i : Nat) (T : ByteArray), i ≤ n ∧ vi = .int .i64 i ∧ vs = .string T ∧ T = strOf (Ls.take i).flatten ∧ Below V1.heap.size V1 wr) (fun _ vi _ => n - (intOf vi).toNat)
    case atStart => exact ⟨0, ⟨#[]⟩, by omega, rfl, rfl, by rw [List.take_zero]; rfl, Below.refl _ _⟩
    case round =>
      obtain ⟨i, T, hi, rfl, rfl, hT, hbw⟩ := hrel
      have HI : Hid (T = strOf (Ls.take i).flatten ∧ Below V1.heap.size V1 wr) := ⟨hT, hbw⟩
      by_cases hlt : i < n
      · have ki : (i : Int) < (n : Int) := by omega
        obtain ⟨ht, hbA⟩ := HT1.out wr hbw
        obtain ⟨b, o, rfl, _, hc⟩ := ht.at (by omega)
        obtain ⟨x, hx⟩ : ∃ x, Ls[i]? = some x := ⟨_, List.getElem?_eq_getElem (by rw [H1.out.2.2]; exact hlt)⟩
        have g1 := hc i (strOf x) (by rw [List.getElem?_map, hx]; rfl)
        obtain ⟨c0, c1, c2⟩ := (HMC.out wr hbA).1
        have hxs := HSZ.out x (List.mem_of_getElem? hx)
        have hxl : i + 1 < n → le ≤ x.length := fun h => by
          have := HLE.out i (by rw [H1.out.2.2]; exact h)
          rwa [List.getD_eq_getElem?_getD, hx] at this
        have hTl : T.size ≤ 5000 := by rw [hT, strOf_size]; exact Nat.le_trans (flat_le Ls i) HFL.out.2
        have hfn := flat_next Ls i x hx
        have hfl := flat_le Ls (i + 1)
        have hfl2 := HFL.out.2
        have hst : T ++ strOf x = strOf (Ls.take (i + 1)).flatten := by
          rw [hT, ← strOf_append, take_snoc hx]; simp
        obtain ⟨S, hS⟩ : ∃ S, strOf x = S := ⟨_, rfl⟩
        obtain ⟨z, hz⟩ : ∃ z, x.length = z := ⟨_, rfl⟩
        have hSz : S.size = z := by rw [← hS, strOf_size, hz]
        have hSe : S.toList.isEmpty = false := by
          rw [ByteArray.toList_eq, ← hS]
          show x.isEmpty = false
          cases x with
          | nil => simp at hxs
          | cons => rfl
        rw [hS] at g1 hst
        rw [hz] at hxs hxl hfn
        have hns : ¬ 9223372036854775807 < T.size + S.size := by omega
        obtain ⟨U, hU⟩ : ∃ U, T ++ S = U := ⟨_, rfl⟩
        rw [hU] at hst
        have HU : Hid (U = strOf (Ls.take (i + 1)).flatten) := hst
        have d1 : z ≤ mo := hxs.2
        clear hc hx hS hz hT hbw ht hbA hfn hfl hfl2 hst hTl
        by_cases hlast : i + 1 < n
        · obtain ⟨n1, hn1⟩ : ∃ n1, n - 1 = n1 := ⟨_, rfl⟩
          have kn1 : (n : Int) - 1 = (n1 : Int) := by omega
          have hwn1 : IntKind.i64.wrap (n1 : Int) = (n1 : Int) := wrapI _ (by omega) (by omega)
          have d2 : (i : Int) < (n1 : Int) := by omega
          have d3 : le ≤ z := hxl hlast
          clear hxl
          go_wp2
          go_quiet (fail)
          go_wp2
          exact ⟨⟨i + 1, U, by omega, by go_num, rfl, HU.out, below_drewN HI.out.2 _⟩, by simp [intOf]; omega⟩
        · obtain ⟨n1, hn1⟩ : ∃ n1, n - 1 = n1 := ⟨_, rfl⟩
          have kn1 : (n : Int) - 1 = (n1 : Int) := by omega
          have hwn1 : IntKind.i64.wrap (n1 : Int) = (n1 : Int) := wrapI _ (by omega) (by omega)
          have d2 : n1 ≤ i := by omega
          clear hxl
          go_wp2
          refine wp_region_held_drew (S := fun V => V.cell? ⟨b, o + i, none⟩ = some (.string S) ∧ V.cell? ⟨B, 0, none⟩ = some (.int .i64 (le : Int)) ∧ V.cell? ⟨B, 1, none⟩ = some (.int .i64 (mo : Int))) (by kernel_rfl) (⟨g1, c0, c1⟩) (fun hHeld => ?_)
          refine wpAnyH_take (i := 0) (v := ?vq0) rfl (by kernel_rfl) (by kernel_rfl) (by kernel_rfl) (fun _ _ _ h => h) (Or.inl ⟨by first | kernel_rfl | rfl, ?yq0⟩) hHeld ?rq0
          case yq0 => (intro W hSW; (try dsimp only at hSW); go_simp; (try with_reducible rfl))
          change wpAnyH _ _ _ _ _ _ _ (Act.put _ (some 44) _) _
          simp only [Act.put, List.setIfInBounds_toArray, List.set_cons_zero, List.set_cons_succ]
          refine wpAnyH_take (i := 1) (v := ?vq1) rfl (by kernel_rfl) (by kernel_rfl) (by kernel_rfl) (fun _ _ _ h => h) (Or.inl ⟨by first | kernel_rfl | rfl, ?yq1⟩) hHeld ?rq1
          case yq1 => (intro W hSW; (try dsimp only at hSW); go_simp; (try with_reducible rfl))
          change wpAnyH _ _ _ _ _ _ _ (Act.put _ (some 45) _) _
          simp only [Act.put, List.setIfInBounds_toArray, List.set_cons_zero, List.set_cons_succ]
          refine wpAnyH_take (i := 2) (v := ?vq2) rfl (by kernel_rfl) (by kernel_rfl) (by kernel_rfl) (fun _ _ _ h => h) (Or.inl ⟨by first | kernel_rfl | rfl, ?yq2⟩) hHeld ?rq2
          case yq2 => (intro W hSW; (try dsimp only at hSW); go_simp; (try with_reducible rfl))
          change wpAnyH _ _ _ _ _ _ _ (Act.put _ (some 46) _) _
          simp only [Act.put, List.setIfInBounds_toArray, List.set_cons_zero, List.set_cons_succ]
          refine wpAnyH_take (i := 3) (v := ?vq3) rfl (by kernel_rfl) (by kernel_rfl) (by kernel_rfl) (fun _ _ _ h => h) (Or.inl ⟨by first | kernel_rfl | rfl, ?yq3⟩) hHeld ?rq3
          case yq3 => (intro W hSW; (try dsimp only at hSW); go_simp; (try with_reducible rfl))
          change wpAnyH _ _ _ _ _ _ _ (Act.put _ (some 47) _) _
          simp only [Act.put, List.setIfInBounds_toArray, List.set_cons_zero, List.set_cons_succ]
          refine wpAnyH_take (i := 4) (v := ?vq4) rfl (by kernel_rfl) (by kernel_rfl) (by kernel_rfl) (fun _ _ _ h => h) (Or.inl ⟨by first | kernel_rfl | rfl, ?yq4⟩) hHeld ?rq4
          case yq4 => (intro W hSW; (try dsimp only at hSW); go_simp; (try with_reducible rfl))
          change wpAnyH _ _ _ _ _ _ _ (Act.put _ (some 48) _) _
          simp only [Act.put, List.setIfInBounds_toArray, List.set_cons_zero, List.set_cons_succ]
          refine wpAnyH_take (i := 5) (v := ?vq5) rfl (by kernel_rfl) (by kernel_rfl) (by kernel_rfl) (fun _ _ _ h => h) (Or.inl ⟨by first | kernel_rfl | rfl, ?yq5⟩) hHeld ?rq5
          case yq5 => (intro W hSW; (try dsimp only at hSW); go_simp; (try with_reducible rfl))
          change wpAnyH _ _ _ _ _ _ _ (Act.put _ (some 49) _) _
          simp only [Act.put, List.setIfInBounds_toArray, List.set_cons_zero, List.set_cons_succ]
          refine wpAnyH_take (i := 6) (v := ?vq6) rfl (by kernel_rfl) (by kernel_rfl) (by kernel_rfl) (fun _ _ _ h => h) (Or.inl ⟨by first | kernel_rfl | rfl, ?yq6⟩) hHeld ?rq6
          case yq6 => (intro W hSW; (try dsimp only at hSW); go_simp; (try with_reducible rfl))
          change wpAnyH _ _ _ _ _ _ _ (Act.put _ (some 50) _) _
          simp only [Act.put, List.setIfInBounds_toArray, List.set_cons_zero, List.set_cons_succ]
          refine wpAnyH_take (i := 7) (v := .bool false) rfl (by kernel_rfl) (by kernel_rfl) (by kernel_rfl) (fun _ _ _ h => h) (Or.inl ⟨by first | kernel_rfl | rfl, ?yq7⟩) hHeld ?rq7
          case yq7 => (intro W hSW; go_simp)
          change wpAnyH _ _ _ _ _ _ _ (Act.put _ (some 51) _) _
          simp only [Act.put, List.setIfInBounds_toArray, List.set_cons_zero, List.set_cons_succ]
          refine wpAnyH_take (i := 8) (v := ?vq8) rfl (by kernel_rfl) (by kernel_rfl) (by kernel_rfl) (fun _ _ _ h => h) (Or.inl ⟨by first | kernel_rfl | rfl, ?yq8⟩) hHeld ?rq8
          case yq8 => (intro W hSW; (try dsimp only at hSW); go_simp; (try with_reducible rfl))
          change wpAnyH _ _ _ _ _ _ _ (Act.put _ (some 52) _) _
          simp only [Act.put, List.setIfInBounds_toArray, List.set_cons_zero, List.set_cons_succ]
          refine wpAnyH_take (i := 9) (v := ?vq9) rfl (by kernel_rfl) (by kernel_rfl) (by kernel_rfl) (fun _ _ _ h => h) (Or.inl ⟨by first | kernel_rfl | rfl, ?yq9⟩) hHeld ?rq9
          case yq9 => (intro W hSW; (try dsimp only at hSW); go_simp; (try with_reducible rfl))
          change wpAnyH _ _ _ _ _ _ _ (Act.put _ (some 53) _) _
          simp only [Act.put, List.setIfInBounds_toArray, List.set_cons_zero, List.set_cons_succ]
          refine wpAnyH_take (i := 10) (v := ?vq10) rfl (by kernel_rfl) (by kernel_rfl) (by kernel_rfl) (fun _ _ _ h => h) (Or.inl ⟨by first | kernel_rfl | rfl, ?yq10⟩) hHeld ?rq10
          case yq10 => (intro W hSW; (try dsimp only at hSW); go_simp; (try with_reducible rfl))
          change wpAnyH _ _ _ _ _ _ _ (Act.put _ (some 54) _) _
          simp only [Act.put, List.setIfInBounds_toArray, List.set_cons_zero, List.set_cons_succ]
          refine wpAnyH_take (i := 11) (v := ?vq11) rfl (by kernel_rfl) (by kernel_rfl) (by kernel_rfl) (fun _ _ _ h => h) (Or.inl ⟨by first | kernel_rfl | rfl, ?yq11⟩) hHeld ?rq11
          case yq11 => (intro W hSW; (try dsimp only at hSW); go_simp; (try with_reducible rfl))
          change wpAnyH _ _ _ _ _ _ _ (Act.put _ (some 55) _) _
          simp only [Act.put, List.setIfInBounds_toArray, List.set_cons_zero, List.set_cons_succ]
          refine wpAnyH_take (i := 12) (v := ?vq12) rfl (by kernel_rfl) (by kernel_rfl) (by kernel_rfl) (fun _ _ _ h => h) (Or.inl ⟨by first | kernel_rfl | rfl, ?yq12⟩) hHeld ?rq12
          case yq12 => (intro W hSW; (try dsimp only at hSW); go_simp; (try with_reducible rfl))
          change wpAnyH _ _ _ _ _ _ _ (Act.put _ (some 56) _) _
          simp only [Act.put, List.setIfInBounds_toArray, List.set_cons_zero, List.set_cons_succ]
          refine wpAnyH_take (i := 13) (v := .bool false) rfl (by kernel_rfl) (by kernel_rfl) (by kernel_rfl) (fun _ _ _ h => h) (Or.inl ⟨by first | kernel_rfl | rfl, ?yq13⟩) hHeld ?rq13
          case yq13 => (intro W hSW; (try go_simp); (try simp); (try omega))
          change wpAnyH _ _ _ _ _ _ _ (Act.put _ (some 57) _) _
          simp only [Act.put, List.setIfInBounds_toArray, List.set_cons_zero, List.set_cons_succ]
          refine wpAnyH_take (i := 14) (v := ?vq14) rfl (by kernel_rfl) (by kernel_rfl) (by kernel_rfl) (fun _ _ _ h => h) (Or.inl ⟨by first | kernel_rfl | rfl, ?yq14⟩) hHeld ?rq14
          case yq14 => (intro W hSW; (try dsimp only at hSW); go_simp; (try with_reducible rfl))
          change wpAnyH _ _ _ _ _ _ _ (Act.put _ (some 58) _) _
          simp only [Act.put, List.setIfInBounds_toArray, List.set_cons_zero, List.set_cons_succ]
          refine wpAnyH_take (i := 15) (v := undef) rfl (by kernel_rfl) (by kernel_rfl) (by kernel_rfl) (fun _ _ _ h => h) (Or.inr ⟨by first | kernel_rfl | rfl, rfl⟩) hHeld ?_
          change wpAnyH _ _ _ _ _ _ _ (Act.put _ (some 59) _) _
          simp only [Act.put, List.setIfInBounds_toArray, List.set_cons_zero, List.set_cons_succ]
          refine wpAnyH_take (i := 16) (v := undef) rfl (by kernel_rfl) (by kernel_rfl) (by kernel_rfl) (fun _ _ _ h => h) (Or.inr ⟨by first | kernel_rfl | rfl, rfl⟩) hHeld ?_
          change wpAnyH _ _ _ _ _ _ _ (Act.put _ (some 60) _) _
          simp only [Act.put, List.setIfInBounds_toArray, List.set_cons_zero, List.set_cons_succ]
          refine wpAnyH_take (i := 17) (v := undef) rfl (by kernel_rfl) (by kernel_rfl) (by kernel_rfl) (fun _ _ _ h => h) (Or.inr ⟨by first | kernel_rfl | rfl, rfl⟩) hHeld ?_
          change wpAnyH _ _ _ _ _ _ _ (Act.put _ (some 61) _) _
          simp only [Act.put, List.setIfInBounds_toArray, List.set_cons_zero, List.set_cons_succ]
          refine wpAnyH_take (i := 18) (v := undef) rfl (by kernel_rfl) (by kernel_rfl) (by kernel_rfl) (fun _ _ _ h => h) (Or.inr ⟨by first | kernel_rfl | rfl, rfl⟩) hHeld ?_
          change wpAnyH _ _ _ _ _ _ _ (Act.put _ (some 62) _) _
          simp only [Act.put, List.setIfInBounds_toArray, List.set_cons_zero, List.set_cons_succ]
          refine wpAnyH_take (i := 19) (v := undef) rfl (by kernel_rfl) (by kernel_rfl) (by kernel_rfl) (fun _ _ _ h => h) (Or.inr ⟨by first | kernel_rfl | rfl, rfl⟩) hHeld ?_
          change wpAnyH _ _ _ _ _ _ _ (Act.put _ (some 63) _) _
          simp only [Act.put, List.setIfInBounds_toArray, List.set_cons_zero, List.set_cons_succ]
          refine wpAnyH_take (i := 20) (v := undef) rfl (by kernel_rfl) (by kernel_rfl) (by kernel_rfl) (fun _ _ _ h => h) (Or.inr ⟨by first | kernel_rfl | rfl, rfl⟩) hHeld ?_
          change wpAnyH _ _ _ _ _ _ _ (Act.put _ (some 64) _) _
          simp only [Act.put, List.setIfInBounds_toArray, List.set_cons_zero, List.set_cons_succ]
          refine wpAnyH_take (i := 21) (v := undef) rfl (by kernel_rfl) (by kernel_rfl) (by kernel_rfl) (fun _ _ _ h => h) (Or.inr ⟨by first | kernel_rfl | rfl, rfl⟩) hHeld ?_
          change wpAnyH _ _ _ _ _ _ _ (Act.put _ (some 65) _) _
          simp only [Act.put, List.setIfInBounds_toArray, List.set_cons_zero, List.set_cons_succ]
          refine wpAnyH_take (i := 22) (v := undef) rfl (by kernel_rfl) (by kernel_rfl) (by kernel_rfl) (fun _ _ _ h => h) (Or.inr ⟨by first | kernel_rfl | rfl, rfl⟩) hHeld ?_
          change wpAnyH _ _ _ _ _ _ _ (Act.put _ (some 66) _) _
          simp only [Act.put, List.setIfInBounds_toArray, List.set_cons_zero, List.set_cons_succ]
          refine wpAnyH_take (i := 23) (v := ?vq23) rfl (by kernel_rfl) (by kernel_rfl) (by kernel_rfl) (fun _ _ _ h => h) (Or.inl ⟨by first | kernel_rfl | rfl, ?yq23⟩) hHeld ?rq23
          case yq23 => (intro W hSW; (try dsimp only at hSW); go_simp; (try with_reducible rfl))
          change wpAnyH _ _ _ _ _ _ _ (Act.put _ (some 67) _) _
          simp only [Act.put, List.setIfInBounds_toArray, List.set_cons_zero, List.set_cons_succ]
          refine wpAnyH_take (i := 24) (v := ?vq24) rfl (by kernel_rfl) (by kernel_rfl) (by kernel_rfl) (fun _ _ _ h => h) (Or.inl ⟨by first | kernel_rfl | rfl, ?yq24⟩) hHeld ?rq24
          case yq24 => (intro W hSW; (try dsimp only at hSW); go_simp; (try with_reducible rfl))
          change wpAnyH _ _ _ _ _ _ _ (Act.put _ (some 68) _) _
          simp only [Act.put, List.setIfInBounds_toArray, List.set_cons_zero, List.set_cons_succ]
          refine wpAnyH_take (i := 25) (v := ?vq25) rfl (by kernel_rfl) (by kernel_rfl) (by kernel_rfl) (fun _ _ _ h => h) (Or.inl ⟨by first | kernel_rfl | rfl, ?yq25⟩) hHeld ?rq25
          case yq25 => (intro W hSW; (try dsimp only at hSW); go_simp; (try with_reducible rfl))
          change wpAnyH _ _ _ _ _ _ _ (Act.put _ (some 69) _) _
          simp only [Act.put, List.setIfInBounds_toArray, List.set_cons_zero, List.set_cons_succ]
          refine wpAnyH_take (i := 26) (v := ?vq26) rfl (by kernel_rfl) (by kernel_rfl) (by kernel_rfl) (fun _ _ _ h => h) (Or.inl ⟨by first | kernel_rfl | rfl, ?yq26⟩) hHeld ?rq26
          case yq26 => (intro W hSW; (try dsimp only at hSW); go_simp; (try with_reducible rfl))
          change wpAnyH _ _ _ _ _ _ _ (Act.put _ (some 70) _) _
          simp only [Act.put, List.setIfInBounds_toArray, List.set_cons_zero, List.set_cons_succ]
          refine wpAnyH_take (i := 27) (v := ?vq27) rfl (by kernel_rfl) (by kernel_rfl) (by kernel_rfl) (fun _ _ _ h => h) (Or.inl ⟨by first | kernel_rfl | rfl, ?yq27⟩) hHeld ?rq27
          case yq27 => (intro W hSW; (try dsimp only at hSW); go_simp; (try with_reducible rfl))
          change wpAnyH _ _ _ _ _ _ _ (Act.put _ (some 71) _) _
          simp only [Act.put, List.setIfInBounds_toArray, List.set_cons_zero, List.set_cons_succ]
          refine wpAnyH_take (i := 28) (v := ?vq28) rfl (by kernel_rfl) (by kernel_rfl) (by kernel_rfl) (fun _ _ _ h => h) (Or.inl ⟨by first | kernel_rfl | rfl, ?yq28⟩) hHeld ?rq28
          case yq28 => (intro W hSW; (try dsimp only at hSW); go_simp; (try with_reducible rfl))
          change wpAnyH _ _ _ _ _ _ _ (Act.put _ (some 72) _) _
          simp only [Act.put, List.setIfInBounds_toArray, List.set_cons_zero, List.set_cons_succ]
          refine wpAnyH_take (i := 29) (v := ?vq29) rfl (by kernel_rfl) (by kernel_rfl) (by kernel_rfl) (fun _ _ _ h => h) (Or.inl ⟨by first | kernel_rfl | rfl, ?yq29⟩) hHeld ?rq29
          case yq29 => (intro W hSW; (try dsimp only at hSW); go_simp; (try with_reducible rfl))
          change wpAnyH _ _ _ _ _ _ _ (Act.put _ (some 73) _) _
          simp only [Act.put, List.setIfInBounds_toArray, List.set_cons_zero, List.set_cons_succ]
          refine wpAnyH_take (i := 30) (v := .bool false) rfl (by kernel_rfl) (by kernel_rfl) (by kernel_rfl) (fun _ _ _ h => h) (Or.inl ⟨by first | kernel_rfl | rfl, ?yq30⟩) hHeld ?rq30
          case yq30 => (intro W hSW; go_simp)
          change wpAnyH _ _ _ _ _ _ _ (Act.put _ (some 74) _) _
          simp only [Act.put, List.setIfInBounds_toArray, List.set_cons_zero, List.set_cons_succ]
          refine wpAnyH_take (i := 31) (v := ?vq31) rfl (by kernel_rfl) (by kernel_rfl) (by kernel_rfl) (fun _ _ _ h => h) (Or.inl ⟨by first | kernel_rfl | rfl, ?yq31⟩) hHeld ?rq31
          case yq31 => (intro W hSW; (try dsimp only at hSW); go_simp; (try with_reducible rfl))
          change wpAnyH _ _ _ _ _ _ _ (Act.put _ (some 75) _) _
          simp only [Act.put, List.setIfInBounds_toArray, List.set_cons_zero, List.set_cons_succ]
          refine wpAnyH_done (by kernel_rfl) ?_ _
          clear hHeld
          go_wp2
          exact ⟨⟨i + 1, U, by omega, by go_num, rfl, HU.out, HI.out.2.drew⟩, by simp [intOf]; omega⟩
      · have hin : i = n := by omega
        have ki : ¬ (i : Int) < (n : Int) := by omega
        have hTs : T = s0 := by
          rw [hT, List.take_of_length_le (by rw [H1.out.2.2]; omega)]
          exact HFL.out.1
        clear hT hbw hin
        subst hTs
        have hbe : (T.toList == T.toList) = true := by simp
        have HLV2 := HLA.out wr (HT1.out wr HI.out.2).2
        clear HLA
        go_wp2_with (go_at_call 9; refine HLV2.mono ?_; rintro e w' ⟨rfl, hb⟩)
        go_ret
        exact ⟨rfl, hb⟩

set_option linter.unusedVariables false in
set_option maxRecDepth 100000 in
theorem lifted (os : _root_.Go.Os) (started : os.Started) (H : Type) (enc : TypeId × Value → H) :
    ReturnsInHanded {} Try.checked os 5 .any (Rows.chunkWholeSpec.pre6 enc Try.prog Try.f5 Rows.chunkWholeRow.domain false) (Rows.chunkWholeSpec.post enc Try.prog Try.f5 false true false false) := by
  refine returnsInHanded_of_change_sized (C := Try.checked) own started (by kernel_rfl) Try.func5
    (ChangeSpec.witness6 (enc := enc) (C := Try.checked) false ⟨#[], #[.string ByteArray.empty, .agg #[.int .i64 0, .int .i64 0, .int .i64 0]], []⟩ 8 (by kernel_rfl) (by kernel_rfl) (by kernel_rfl) (by kernel_rfl)) ?_
  intro W base args ds gs before hval0 hW hcnd hsz0 _
  have hval : ∀ (j : Nat) t v, Try.f5.params[j]? = some t → args[j]? = some v → Value.okWide Try.prog W .any base t v := hval0
  have hsz : (DataW.weightsEach Try.prog (Try.f5.params.toList ++ Rows.chunkWholeSpec.plain.varTypes Try.prog) (ds ++ gs)).all (· ≤ reachBytes) = true := hsz0
  have hW' := hW
  obtain ⟨p, q, hA0, hV, rfl, hfz, hnd⟩ := hW
  have hA : DataW.TrodAll enc Try.prog W 0 (fun _ => true) true Try.f5.params.toList args.toList ds p := hA0
  rw [Try.params5] at hA hval hsz
  obtain ⟨v0, vs0, d0, ds0, p0, q0, hargs, rfl, rfl, h0, r0⟩ := trodAll_cons hA
  obtain ⟨v1, vs1, d1, ds1, p1, q1, rfl, rfl, rfl, h1, r1⟩ := trodAll_cons r0
  obtain ⟨rfl, rfl, rfl⟩ := trodAll_nil r1
  obtain rfl : args = #[v0, v1] := by cases args; simp_all
  obtain ⟨rfl, rfl⟩ := trodVars_none hV
  obtain ⟨s0, rfl, rfl, rfl, w0⟩ := open_string Try.underlying9 (hval 0 9 v0 rfl rfl) h0
  have z0 : s0.size ≤ 140737488351232 := by
    have := sized_string hsz (j := 0) (t := 9) rfl rfl
    simp [reachBytes] at this
    omega
  have k1 := h1
  have lt1 : ∀ x ∈ p1, x.block < W.heap.size := by obtain ⟨m, hm⟩ := k1; exact DataW.trod_lt m _ _ _ hm
  obtain ⟨ma1, mb1, mc1, rfl, za1, zb1, zc1⟩ := ms_arg (hval 1 23 v1 rfl rfl) h1
  clear hA0 hval0 hsz hsz0
  refine (walk s0 z0 ma1 mb1 mc1 W ).mono fun e W' ⟨he, bel⟩ => ?_
  subst he
  exact ⟨_, rfl, _, _, _, [], _, [], hW', trodAll_mk1 (shut_bool Try.underlying4 _), (trodAll_cons_mk (shut_string Try.underlying9 w0) (trodAll_cons_mk (Below.trod laidOut (by kernel_rfl) (of_decide_eq_true (by kernel_rfl)) k1 bel lt1) trodAll_mk0)), rfl, bel.frame _, fun h => by cases h⟩

theorem over : Rows.chunkWholeRow.holds Try.pinned (OpenSpec.ofChange Rows.chunkWholeSpec) :=
  OpenClaim.holds_of_wide 5 Try.f5 rfl rfl rfl rfl rfl rfl rfl ⟨rfl, rfl, rfl, rfl, rfl⟩ rfl rfl rfl rfl rfl (by kernel_rfl) Try.func5 (by kernel_rfl)
    (of_decide_eq_true (by kernel_rfl)) (by unfold Func.isWrapper; first | (rw [if_pos (by decide +kernel)]; kernel_rfl) | (rw [if_neg (by decide +kernel)]; exact ⟨rfl, rfl⟩))
    (fun os started H enc _ => lifted os started H enc)

end Go.Proofs.Ytebmmhgmbnbnnaa.chunkWhole
namespace Go.Proofs.Ytebmmhgmbnbnnaa
/-- The given statement. -/
theorem chunkWhole_holds : Rows.ChunkWholeSaid := chunkWhole.over
#print axioms chunkWhole_holds
end Go.Proofs.Ytebmmhgmbnbnnaa
