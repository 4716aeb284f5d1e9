/- Proved: for every size, all steps and numbers, the law ExtentPlans returns true, what came in as it was. No condition: every input that can be read as data. -/
import Derived.Test.YtgihdfmeokbplaaRows
import Derived.Test.YtgihdfmeokbplaaXQ
import Derived.Test.YtgihdfmeokbplaaQF
import Derived.Test.YtgihdfmeokbplaaRC
import Derived.Test.YtgihdfmeokbplaaXP
import Derived.BigQuiet
import Derived.Laws.MakeOwn
import Derived.Deep.CutBlock
import Derived.WalkKit
import Derived.ProofKit
import Derived.OpenShut
import Derived.ShutString
import Derived.ChangeOld
import Derived.Below
namespace Go.Proofs.Ytgihdfmeokbplaa.extentPlans
open Go.ChangeShapes Go.WideShapes Go.ChangeAt Go.RowKit Ex
theorem own : ownKnob Try.prog.godebug = none := by kernel_rfl
theorem laidOut : laidOutB Try.prog = true := by kernel_rfl
theorem info3 : (Try.prog.info? 3).map (fun i => (i.zero, i.size, i.bytes)) = some (some (.int .i64 0), 1, 8) := by kernel_rfl
theorem infoSp : (Try.prog.info? 37).map (·.size) = some 2 := by kernel_rfl
theorem below_setRow {B : Nat} {a w : World} (h : Below B a w) (g : Nat) (hg : B ≤ g) (cs : Array Value) : Below B a (w.setRow g cs) :=
  ⟨h.os, h.tape, h.output, by rw [size_setRow]; exact h.size, fun k hk => by rw [setRow_other w g k cs (by omega)]; exact h.block k hk⟩
def Rel1 (w : World) (sz ab : Nat) (v9 : Value) (wx : World) : Prop := ∃ (X : Ar) (S : Nat → Prop) (a : Option Addr) (n c : Nat) (out : List Sp), v9 = .slice a n c ∧ n ≤ 40 ∧ LpG w wx sz ab X S a n c out

set_option maxRecDepth 100000 in
set_option maxHeartbeats 8000000 in
theorem walk (x0 : Int) (z0 : -9223372036854775808 ≤ x0 ∧ x0 ≤ 9223372036854775807) (a1 : Option Addr) (len1 cap1 : Nat) (l1 : List OV) (a2 : Option Addr) (len2 cap2 : Nat) (l2 : List Int) (w : World) (w1 : Os w a1 len1 cap1 l1) (w2 : Is w a2 len2 cap2 l2) :
    Calls Try.prog 5 #[.int .i64 x0, .slice a1 len1 cap1, .slice a2 len2 cap2] w fun e w' => e = .returned (.bool true) ∧ Below w.heap.size w w' := by
  have HIS : Hid (Is w a2 len2 cap2 l2) := w2
  have HOS : Hid (Os w a1 len1 cap1 l1) := w1
  have hlc := w1.2.1
  clear w1 w2
  by_cases hx : 1 ≤ x0 ∧ x0 ≤ 1048576
  rotate_left
  · have HNB := new_bad x0 w hx
    have HLV := lives_any w
    clear hx z0
    go_enter Try.func5, Try.ntmps5
    go_wp2_with fail
    refine HNB.mono ?_
    rintro e V ⟨rfl, hV⟩
    subst V
    clear HNB
    go_wp2_with fail
    refine HLV.mono ?_
    rintro e w9 ⟨rfl, hb9⟩
    have HB9 : Hid (Below w.heap.size w w9) := hb9
    clear HLV hb9
    go_wp2
    go_ret
    exact ⟨rfl, HB9.out⟩
  obtain ⟨sz, rfl⟩ := Int.eq_ofNat_of_zero_le (show 0 ≤ x0 by omega)
  have hs1 : 1 ≤ sz := by omega
  have hs2 : sz ≤ 1048576 := by omega
  have HNW := new_any sz w hs1 hs2
  clear hx z0
  by_cases h3 : 300 < sz
  · have k3 : (300 : Int) < (sz : Int) := by omega
    clear HOS HIS hlc
    go_enter Try.func5, Try.ntmps5
    go_wp2_with fail
    refine HNW.mono ?_
    rintro e V0 ⟨ab, rfl, _, hb0⟩
    clear HNW
    have HLV := lives_h hb0
    go_wp2_with fail
    refine HLV.mono ?_
    rintro e w9 ⟨rfl, hb9⟩
    have HB9 : Hid (Below w.heap.size w w9) := hb9
    clear HLV hb9
    go_wp2
    go_ret
    exact ⟨rfl, HB9.out⟩
  have k3 : ¬ (300 : Int) < (sz : Int) := by omega
  have HSZ : Hid (1 ≤ sz ∧ sz ≤ 300) := ⟨hs1, by omega⟩
  go_enter Try.func5, Try.ntmps5
  
  go_wp2_with fail
  refine HNW.mono ?_
  rintro e V0 ⟨ab, rfl, h0, hb0⟩
  have H0 : Hid (LpG w V0 sz ab (Ar.new sz) (fresh w V0) none 0 0 []) := ⟨h0, fun x hx => hx.1, Out.new hs1 hs2, rfl, GR.nil _ _, fun x hx => (by cases hx), hb0⟩
  clear HNW h0 hb0 h3 hs1 hs2
  go_upto_block 0 with fail
  go_cut [9, 10, 11, 12] from 48 to 100 (fun v9 _ _ _ wx => Rel1 w sz ab v9 wx)
  case first =>
    go_wp2_with fail
    go_loopw [9, 10] (fun v9 v10 wr => ∃ (i : Nat) (X : Ar) (S : Nat → Prop) (a : Option Addr) (n c : Nat) (out : List Sp), i ≤ len1 ∧ i ≤ 40 ∧ v10 = .int .i64 (i : Int) ∧ v9 = .slice a n c ∧ n ≤ i ∧ LpG w wr sz ab X S a n c out) (fun _ v _ => len1 - (intOf v).toNat)
    case atStart => exact ⟨0, Ar.new sz, fresh w V0, none, 0, 0, [], by omega, by omega, rfl, rfl, by omega, H0.out⟩
    case round =>
      clear H0
      obtain ⟨i, X, S, a, n, c, out, hi1, hi40, rfl, rfl, hni, hL⟩ := hrel
      have HL0 : Hid (LpG w wr sz ab X S a n c out) := hL
      by_cases hgo : i < len1 ∧ i < 40
      rotate_left
      · have HRL : Hid (Rel1 w sz ab (.slice a n c) wr) := ⟨X, S, a, n, c, out, rfl, by omega, hL⟩
        clear hL HL0
        by_cases hs : i < len1
        · have kk : (i : Int) < (len1 : Int) := by omega
          have kk6 : ¬ (i : Int) < 40 := by omega
          clear hgo
          go_wp2
          go_meet
          case rel => exact HRL.out
        · have kk : ¬ (i : Int) < (len1 : Int) := by omega
          clear hgo
          go_wp2
          go_meet
          case rel => exact HRL.out
      obtain ⟨hil, hi4⟩ := hgo
      have kk : (i : Int) < (len1 : Int) := by omega
      have kk6 : (i : Int) < 40 := by omega
      obtain ⟨o1, o2, _, o4⟩ := HOS.out
      obtain ⟨b1, q1, rfl, hb1, hcs⟩ := o4 (by omega)
      obtain ⟨c0, c1, c2, c3, c4, hin⟩ := hcs i (by omega)
      obtain ⟨o, ho⟩ : ∃ o, l1[i]'(by omega) = o := ⟨_, rfl⟩
      rw [ho] at c0 c1 c2 hin
      have d0 : wr.cell? ⟨b1, q1 + i * 5, none⟩ = some (.int .i64 o.kind) := by rw [hL.bel.cell hb1]; exact c0
      have d1 : wr.drew.cell? ⟨b1, q1 + i * 5 + 1, none⟩ = some (.int .i64 o.n) := by show wr.cell? _ = _; rw [hL.bel.cell hb1]; exact c1
      have d2 : wr.drew.cell? ⟨b1, q1 + i * 5 + 2, none⟩ = some (.int .i64 o.rule) := by show wr.cell? _ = _; rw [hL.bel.cell hb1]; exact c2
      have HKP : Hid (∀ V2, Upd S wr.drew V2 → V2.cell? ⟨b1, q1 + i * 5 + 1, none⟩ = some (.int .i64 o.n) ∧ V2.cell? ⟨b1, q1 + i * 5 + 2, none⟩ = some (.int .i64 o.rule)) := fun V2 hu => by
        have hlt : b1 < wr.drew.heap.size := Nat.lt_of_lt_of_le hb1 hL.bel.size
        have hns : ¬ S b1 := fun h => by have := hL.fr b1 h; omega
        exact ⟨(World.cell?_of_block (a := ⟨b1, q1 + i * 5 + 1, none⟩) (hu.block b1 hlt hns)).trans d1, (World.cell?_of_block (a := ⟨b1, q1 + i * 5 + 2, none⟩) (hu.block b1 hlt hns)).trans d2⟩
      clear hcs o2 o4 c0 c1 c2 c3 c4 ho hb1
      by_cases hk0 : o.kind = 0
      · have HAL := alloc_any (hL.below (Below.refl _ _).drew).ar o.n o.rule
        obtain ⟨r1, hr1⟩ : ∃ x, (X.alloc o.n o.rule).2.1 = x := ⟨_, rfl⟩
        obtain ⟨r2, hr2⟩ : ∃ x, (X.alloc o.n o.rule).2.2 = x := ⟨_, rfl⟩
        obtain ⟨X', hX'⟩ : ∃ x, (X.alloc o.n o.rule).1 = x := ⟨_, rfl⟩
        rw [hr1, hr2, hX'] at HAL
        have HR : Hid (X.alloc o.n o.rule = (X', r1, r2)) := by show _ = _; rw [← hX', ← hr1, ← hr2]
        have hkb : (o.kind == 0) = true := by simpa using hk0
        rw [hk0] at d0
        clear hr1 hr2 hX' hk0 hL
        go_wp2
        refine wp_region_held_drew (S := fun V => V.cell? ⟨b1, q1 + i * 5 + 1, none⟩ = some (.int .i64 o.n) ∧ V.cell? ⟨b1, q1 + i * 5 + 2, none⟩ = some (.int .i64 o.rule)) (by kernel_rfl) (⟨d1, d2⟩) (fun hHeld => ?_)
        refine wpAnyH_take (i := 0) (v := ?va_0) rfl (by kernel_rfl) (by kernel_rfl) (by kernel_rfl) (fun _ _ _ h => h) (Or.inl ⟨by first | kernel_rfl | rfl, ?ya_0⟩) hHeld ?ra_0
        case ya_0 => (intro W hSW; (try dsimp only at hSW); go_simp; (try with_reducible rfl))
        change wpAnyH _ _ _ _ _ _ _ (Act.put _ (some 65) _) _
        simp only [Act.put, List.setIfInBounds_toArray, List.set_cons_zero, List.set_cons_succ]
        refine wpAnyH_take (i := 1) (v := ?va_1) rfl (by kernel_rfl) (by kernel_rfl) (by kernel_rfl) (fun _ _ _ h => h) (Or.inl ⟨by first | kernel_rfl | rfl, ?ya_1⟩) hHeld ?ra_1
        case ya_1 => (intro W hSW; (try dsimp only at hSW); go_simp; (try with_reducible rfl))
        change wpAnyH _ _ _ _ _ _ _ (Act.put _ (some 66) _) _
        simp only [Act.put, List.setIfInBounds_toArray, List.set_cons_zero, List.set_cons_succ]
        refine wpAnyH_take (i := 2) (v := ?va_2) rfl (by kernel_rfl) (by kernel_rfl) (by kernel_rfl) (fun _ _ _ h => h) (Or.inl ⟨by first | kernel_rfl | rfl, ?ya_2⟩) hHeld ?ra_2
        case ya_2 => (intro W hSW; (try dsimp only at hSW); go_simp; (try with_reducible rfl))
        change wpAnyH _ _ _ _ _ _ _ (Act.put _ (some 67) _) _
        simp only [Act.put, List.setIfInBounds_toArray, List.set_cons_zero, List.set_cons_succ]
        refine wpAnyH_take (i := 3) (v := ?va_3) rfl (by kernel_rfl) (by kernel_rfl) (by kernel_rfl) (fun _ _ _ h => h) (Or.inl ⟨by first | kernel_rfl | rfl, ?ya_3⟩) hHeld ?ra_3
        case ya_3 => (intro W hSW; (try dsimp only at hSW); go_simp; (try with_reducible rfl))
        change wpAnyH _ _ _ _ _ _ _ (Act.put _ (some 68) _) _
        simp only [Act.put, List.setIfInBounds_toArray, List.set_cons_zero, List.set_cons_succ]
        refine wpAnyH_take (i := 4) (v := ?va_4) rfl (by kernel_rfl) (by kernel_rfl) (by kernel_rfl) (fun _ _ _ h => h) (Or.inl ⟨by first | kernel_rfl | rfl, ?ya_4⟩) hHeld ?ra_4
        case ya_4 => (intro W hSW; (try dsimp only at hSW); go_simp; (try with_reducible rfl))
        change wpAnyH _ _ _ _ _ _ _ (Act.put _ (some 69) _) _
        simp only [Act.put, List.setIfInBounds_toArray, List.set_cons_zero, List.set_cons_succ]
        refine wpAnyH_take (i := 5) (v := ?va_5) rfl (by kernel_rfl) (by kernel_rfl) (by kernel_rfl) (fun _ _ _ h => h) (Or.inl ⟨by first | kernel_rfl | rfl, ?ya_5⟩) hHeld ?ra_5
        case ya_5 => (intro W hSW; (try dsimp only at hSW); go_simp; (try with_reducible rfl))
        change wpAnyH _ _ _ _ _ _ _ (Act.put _ (some 70) _) _
        simp only [Act.put, List.setIfInBounds_toArray, List.set_cons_zero, List.set_cons_succ]
        refine wpAnyH_take (i := 6) (v := ?va_6) rfl (by kernel_rfl) (by kernel_rfl) (by kernel_rfl) (fun _ _ _ h => h) (Or.inl ⟨by first | kernel_rfl | rfl, ?ya_6⟩) hHeld ?ra_6
        case ya_6 => (intro W hSW; (try dsimp only at hSW); go_simp; (try with_reducible rfl))
        change wpAnyH _ _ _ _ _ _ _ (Act.put _ (some 71) _) _
        simp only [Act.put, List.setIfInBounds_toArray, List.set_cons_zero, List.set_cons_succ]
        refine wpAnyH_take (i := 7) (v := ?va_7) rfl (by kernel_rfl) (by kernel_rfl) (by kernel_rfl) (fun _ _ _ h => h) (Or.inl ⟨by first | kernel_rfl | rfl, ?ya_7⟩) hHeld ?ra_7
        case ya_7 => (intro W hSW; (try dsimp only at hSW); go_simp; (try with_reducible rfl))
        change wpAnyH _ _ _ _ _ _ _ (Act.put _ (some 72) _) _
        simp only [Act.put, List.setIfInBounds_toArray, List.set_cons_zero, List.set_cons_succ]
        refine wpAnyH_take (i := 8) (v := ?va_8) rfl (by kernel_rfl) (by kernel_rfl) (by kernel_rfl) (fun _ _ _ h => h) (Or.inl ⟨by first | kernel_rfl | rfl, ?ya_8⟩) hHeld ?ra_8
        case ya_8 => (intro W hSW; (try dsimp only at hSW); go_simp; (try with_reducible rfl))
        change wpAnyH _ _ _ _ _ _ _ (Act.put _ (some 73) _) _
        simp only [Act.put, List.setIfInBounds_toArray, List.set_cons_zero, List.set_cons_succ]
        refine wpAnyH_take (i := 9) (v := ?va_9) rfl (by kernel_rfl) (by kernel_rfl) (by kernel_rfl) (fun _ _ _ h => h) (Or.inl ⟨by first | kernel_rfl | rfl, ?ya_9⟩) hHeld ?ra_9
        case ya_9 => (intro W hSW; (try dsimp only at hSW); go_simp; (try with_reducible rfl))
        change wpAnyH _ _ _ _ _ _ _ (Act.put _ (some 74) _) _
        simp only [Act.put, List.setIfInBounds_toArray, List.set_cons_zero, List.set_cons_succ]
        refine wpAnyH_take (i := 10) (v := ?va_10) rfl (by kernel_rfl) (by kernel_rfl) (by kernel_rfl) (fun _ _ _ h => h) (Or.inl ⟨by first | kernel_rfl | rfl, ?ya_10⟩) hHeld ?ra_10
        case ya_10 => (intro W hSW; (try dsimp only at hSW); go_simp; (try with_reducible rfl))
        change wpAnyH _ _ _ _ _ _ _ (Act.put _ (some 75) _) _
        simp only [Act.put, List.setIfInBounds_toArray, List.set_cons_zero, List.set_cons_succ]
        refine wpAnyH_ready (rs := [11]) (by kernel_rfl) (by simp) ?_
        refine AllReadyH.cons rfl (fun K hK => ?_) AllReadyH.nil
        go_simp
        refine (HAL).mono ?_
        rintro e V2 hto; have hk2 := hto; obtain ⟨rfl, _, _⟩ := hk2
        refine hK.out _ _ (HKP.out V2 hto.2.2) (fun hHeld => ?_)
        clear hK K
        try simp only [Act.put, List.setIfInBounds_toArray, List.set_cons_zero, List.set_cons_succ]
        refine wpAnyH_take (i := 12) (v := ?va_12) rfl (by kernel_rfl) (by kernel_rfl) (by kernel_rfl) (fun _ _ _ h => h) (Or.inl ⟨by first | kernel_rfl | rfl, ?ya_12⟩) hHeld ?ra_12
        case ya_12 => (intro W hSW; (try dsimp only at hSW); go_simp; (try with_reducible rfl))
        change wpAnyH _ _ _ _ _ _ _ (Act.put _ (some 64) _) _
        simp only [Act.put, List.setIfInBounds_toArray, List.set_cons_zero, List.set_cons_succ]
        refine wpAnyH_take (i := 13) (v := ?va_13) rfl (by kernel_rfl) (by kernel_rfl) (by kernel_rfl) (fun _ _ _ h => h) (Or.inl ⟨by first | kernel_rfl | rfl, ?ya_13⟩) hHeld ?ra_13
        case ya_13 => (intro W hSW; (try dsimp only at hSW); go_simp; (try with_reducible rfl))
        change wpAnyH _ _ _ _ _ _ _ (Act.put _ (some 77) _) _
        simp only [Act.put, List.setIfInBounds_toArray, List.set_cons_zero, List.set_cons_succ]
        refine wpAnyH_take (i := 14) (v := ?va_14) rfl (by kernel_rfl) (by kernel_rfl) (by kernel_rfl) (fun _ _ _ h => h) (Or.inl ⟨by first | kernel_rfl | rfl, ?ya_14⟩) hHeld ?ra_14
        case ya_14 => (intro W hSW; (try dsimp only at hSW); go_simp; (try with_reducible rfl))
        change wpAnyH _ _ _ _ _ _ _ (Act.put _ (some 78) _) _
        simp only [Act.put, List.setIfInBounds_toArray, List.set_cons_zero, List.set_cons_succ]
        refine wpAnyH_take (i := 15) (v := ?va_15) rfl (by kernel_rfl) (by kernel_rfl) (by kernel_rfl) (fun _ _ _ h => h) (Or.inl ⟨by first | kernel_rfl | rfl, ?ya_15⟩) hHeld ?ra_15
        case ya_15 => (intro W hSW; (try dsimp only at hSW); go_simp; (try with_reducible rfl))
        change wpAnyH _ _ _ _ _ _ _ (Act.put _ (some 11) _) _
        simp only [Act.put, List.setIfInBounds_toArray, List.set_cons_zero, List.set_cons_succ]
        refine wpAnyH_take (i := 16) (v := ?va_16) rfl (by kernel_rfl) (by kernel_rfl) (by kernel_rfl) (fun _ _ _ h => h) (Or.inl ⟨by first | kernel_rfl | rfl, ?ya_16⟩) hHeld ?ra_16
        case ya_16 => (intro W hSW; (try dsimp only at hSW); go_simp; (try with_reducible rfl))
        change wpAnyH _ _ _ _ _ _ _ (Act.put _ (some 12) _) _
        simp only [Act.put, List.setIfInBounds_toArray, List.set_cons_zero, List.set_cons_succ]
        refine wpAnyH_done (by kernel_rfl) ?_ _
        have HTO : Hid (ATo wr.drew S ab X' (.tuple #[.int .i64 r1, .int .i64 r2]) (.returned (.tuple #[.int .i64 r1, .int .i64 r2])) V2) := hto
        have HTT := (HL0.out.below (Below.refl _ _).drew).to hto
        have g1 := hHeld.1
        clear hto hHeld HAL HKP d0 d1 d2
        by_cases hc0 : r2 = 0
        rotate_left
        · have hsame : X' = X := by
            have h9 := (Ar.alloc_ok HL0.out.inv.ok o.n o.rule).2.2.2.1
            rw [HR.out] at h9
            exact (h9 hc0).1
          subst hsame
          have HL2 : Hid (LpG w V2 sz ab X' (more S wr.drew V2) a n c out) := ⟨HTT.1, HTT.2.1, HL0.out.inv, HL0.out.sz, HTT.2.2.1, HTT.2.2.2.1, HTT.2.2.2.2⟩
          clear HTT g1
          go_wp2
          exact ⟨⟨i + 1, X', _, a, n, c, out, by omega, by omega, by go_num, rfl, by omega, HL2.out⟩, by simp [intOf]; omega⟩
        · subst hc0
          obtain ⟨ho1, _, ho3, _, _, _⟩ := HL0.out.inv.alloc (n := o.n) (rule := o.rule) (by rw [HR.out])
          rw [HR.out] at ho1 ho3
          simp only at ho1 ho3
          have hsz3 : X'.sz = sz := by rw [ho3]; exact HL0.out.sz
          obtain ⟨C, hC⟩ : ∃ C, V2.heap.size = C := ⟨_, rfl⟩
          obtain ⟨W6, hW6⟩ : ∃ W6, V2.alloc (.cells #[.int .i64 r1, .int .i64 o.n] 37) = W6 := ⟨_, rfl⟩
          have hb6 : Below V2.heap.size V2 W6 := by rw [← hW6]; exact (Below.refl _ _).alloc (Nat.le_refl _) _
          have h6 : Blk W6 C (spsV [(r1, o.n)]) := by rw [spsV_one1]; unfold Blk; rw [← hW6, ← hC]; exact heap_alloc_new _ _
          have hB6 : w.heap.size ≤ W6.heap.size := Nat.le_trans HTT.2.2.2.2.size hb6.size
          obtain ⟨a', c', w7, hap, hr7, hat7, hu7⟩ := (HTT.2.2.1.below hb6).add hB6 (by omega) h6
          have HL7 : Hid (LpG w w7 sz ab X' (more S wr.drew V2) a' (n + 1) c' (out ++ [(r1, o.n)])) :=
            ⟨(HTT.1.below hb6).upd hu7 (fun x hx ha => HTT.2.2.2.1 x ha hx), HTT.2.1, ho1, hsz3, hr7, fun x hx hs => (hat7 x hx).elim (fun h2 => HTT.2.2.2.1 x h2 hs) (fun h2 => by have := (HTT.1.below hb6).bd x hs; omega), (HTT.2.2.2.2.trans (hb6.mono HTT.2.2.2.2.size)).trans (hu7.below hB6 (fun x hx => ((HTT.2.2.1.below hb6).fr x hx).1))⟩
          clear hb6 h6 hB6 hr7 hat7 hu7 HTT ho1 ho3 hsz3 HTO
          go_wp2_with (at_builtin; refine Lib.wpList_append_run _ rfl _ _ _ _ rfl _ _ rfl rfl _ _ hap ?_)
          go_wp2
          exact ⟨⟨i + 1, X', _, a', n + 1, c', _, by omega, by omega, by go_num, rfl, by omega, HL7.out⟩, by simp [intOf]; omega⟩
      · have hkb : (o.kind == 0) = false := by simpa using hk0
        clear hk0 d1 d2 HKP
        by_cases hn0 : 0 < n
        rotate_left
        · have kn0 : ¬ (0 : Int) < (n : Int) := by omega
          clear hn0 hL
          go_wp2
          exact ⟨⟨i + 1, X, S, a, n, c, out, by omega, by omega, by go_num, rfl, by omega, HL0.out⟩, by simp [intOf]; omega⟩
        · have kn0 : (0 : Int) < (n : Int) := by omega
          have hsp := hL.row.sp
          have hcp := hsp.hcp
          have hmx := hsp.hmx
          obtain ⟨q, hq⟩ : ∃ q, out[0]? = some q := ⟨_, List.getElem?_eq_getElem (by have := hsp.hl; omega)⟩
          obtain ⟨b, o9, rfl, hb, hcs⟩ := hsp.hat (by omega)
          obtain ⟨e1, e2⟩ := hcs 0 q hq
          have f1 : wr.cell? ⟨b, o9, none⟩ = some (.int .i64 q.1) := by simpa using e1
          have f2 : wr.cell? ⟨b, o9 + 1, none⟩ = some (.int .i64 q.2) := by simpa using e2
          obtain ⟨gv1, gv2, gv3, _⟩ := hL.inv.give hq
          have HG1 := give_any hL.ar q
          rw [gv1] at HG1
          obtain ⟨X', hX'⟩ : ∃ x, (X.give q).1 = x := ⟨_, rfl⟩
          have HGV : Hid (X'.sz = sz ∧ Out X' (out.drop 1)) := by rw [← hX']; exact ⟨by rw [gv2]; exact hL.sz, by simpa using gv3⟩
          rw [hX'] at HG1
          have kc1 : (1 : Int) ≤ (n : Int) := by omega
          have kc2 : (n : Int) ≤ (c : Int) := by omega
          clear gv1 gv2 gv3 hX' hcs hq hsp hb e1 e2 hL hn0
          go_wp2_with fail
          refine HG1.mono ?_
          rintro e V2 hto
          have hk2 := hto
          obtain ⟨rfl, _, _⟩ := hk2
          have HTT := HL0.out.to hto
          have HRW := HTT.2.2.1.tail (by omega)
          clear HG1 hto d0 f1 f2
          by_cases hc1 : c = 1
          · rw [if_pos hc1] at HRW
            have HL2 : Hid (LpG w V2 sz ab X' (more S wr V2) (some ⟨b, o9, none⟩) (n - 1) (c - 1) (out.drop 1)) := ⟨HTT.1, HTT.2.1, HGV.out.2, HGV.out.1, HRW, HTT.2.2.2.1, HTT.2.2.2.2⟩
            have hn1 : n - 1 = 0 := by omega
            rw [hn1] at HL2
            clear HTT HRW hn1
            subst hc1
            go_wp2
            exact ⟨⟨i + 1, X', _, _, 0, _, _, by omega, by omega, by go_num, rfl, by omega, HL2.out⟩, by simp [intOf]; omega⟩
          · rw [if_neg hc1] at HRW
            have HL2 : Hid (LpG w V2 sz ab X' (more S wr V2) (some ⟨b, o9 + 2, none⟩) (n - 1) (c - 1) (out.drop 1)) := ⟨HTT.1, HTT.2.1, HGV.out.2, HGV.out.1, HRW, HTT.2.2.2.1, HTT.2.2.2.2⟩
            clear HTT HRW
            go_wp2
            exact ⟨⟨i + 1, X', _, _, n - 1, _, _, by omega, by omega, by go_num, rfl, by omega, HL2.out⟩, by simp [intOf]; omega⟩
  case rest =>
  as_aux_lemma =>
  obtain ⟨X, S, a, n, c, out, rfl, hn40, hL⟩ := hcut
  have HL : Hid (LpG w wc sz ab X S a n c out) := hL
  clear hL
  go_upto_block 2 with fail
  go_cut [13, 14] from 101 to 138 (fun _ _ wx => ∃ out, LpG w wx sz ab X S a n c out)
  case first =>
    go_wp2_with fail
    go_loopw [13] (fun v13 wr => ∃ (i : Nat) (out : List Sp), i ≤ len2 ∧ i ≤ n ∧ v13 = .int .i64 (i : Int) ∧ LpG w wr sz ab X S a n c out) (fun v _ => n - (intOf v).toNat)
    case atStart => exact ⟨0, out, by omega, by omega, rfl, HL.out⟩
    case round =>
      clear HL
      obtain ⟨i, out, hi2, hin, rfl, hL⟩ := hrel
      have HL0 : Hid (LpG w wr sz ab X S a n c out) := hL
      by_cases hgo : i < len2 ∧ i < n
      rotate_left
      · clear hL
        by_cases hs : i < len2
        · have kk : (i : Int) < (len2 : Int) := by omega
          have kk6 : ¬ (i : Int) < (n : Int) := by omega
          clear hgo
          go_wp2
          go_meet
          case rel => exact ⟨out, HL0.out⟩
        · have kk : ¬ (i : Int) < (len2 : Int) := by omega
          clear hgo
          go_wp2
          go_meet
          case rel => exact ⟨out, HL0.out⟩
      obtain ⟨hil, hi4⟩ := hgo
      have kk : (i : Int) < (len2 : Int) := by omega
      have kk6 : (i : Int) < (n : Int) := by omega
      obtain ⟨o1, o2, _, o4⟩ := HIS.out.on hL.bel
      obtain ⟨b2, q2, rfl, hb2, hcs2⟩ := o4 (by omega)
      obtain ⟨x, hx⟩ : ∃ x, l2[i]? = some x := ⟨_, List.getElem?_eq_getElem (by omega)⟩
      obtain ⟨d0, _⟩ := hcs2 i x hx
      clear hcs2 o2 o4 hx hb2
      by_cases hx0 : 0 ≤ x
      rotate_left
      · have kx : ¬ x ≥ 0 := by omega
        clear hL hx0
        go_wp2
        exact ⟨⟨i + 1, out, by omega, by omega, by go_num, HL0.out⟩, by simp [intOf]; omega⟩
      have kx : x ≥ 0 := hx0
      by_cases hxn : x < (n : Int)
      rotate_left
      · have kn : ¬ x < (n : Int) := hxn
        clear hL hx0 hxn
        go_wp2
        exact ⟨⟨i + 1, out, by omega, by omega, by go_num, HL0.out⟩, by simp [intOf]; omega⟩
      obtain ⟨k, rfl⟩ := Int.eq_ofNat_of_zero_le hx0
      have hkn : k < n := by omega
      have hsp := hL.row.sp
      have hnl := hsp.hl
      have hnc := hsp.hcp
      have hmx := hsp.hmx
      obtain ⟨p, hp⟩ : ∃ p, out[i]? = some p := ⟨_, List.getElem?_eq_getElem (by omega)⟩
      obtain ⟨q, hq⟩ : ∃ q, out[k]? = some q := ⟨_, List.getElem?_eq_getElem (by omega)⟩
      obtain ⟨b, o9, rfl, hb, hcs⟩ := hsp.hat (by omega)
      obtain ⟨e1, e2⟩ := hcs i p hp
      obtain ⟨e3, e4⟩ := hcs k q hq
      obtain ⟨cur, hcur, _, _⟩ := hL.row.row (by omega)
      obtain ⟨W4, hW4⟩ : ∃ W, (wr.setCell ⟨b, o9 + i * 2, none⟩ (.int .i64 q.1)).setCell ⟨b, o9 + i * 2 + 1, none⟩ (.int .i64 q.2) = W := ⟨_, rfl⟩
      obtain ⟨W5, hW5⟩ : ∃ W, (W4.setCell ⟨b, o9 + k * 2, none⟩ (.int .i64 p.1)).setCell ⟨b, o9 + k * 2 + 1, none⟩ (.int .i64 p.2) = W := ⟨_, rfl⟩
      obtain ⟨hg6, hu6⟩ := (hL.row).swap hp hq (W := W5) (by rw [← hW5, ← hW4])
      obtain ⟨z3, z4, v3, v4, hc5⟩ := swap_cells hcur e3 e4 hW4
      have f1 := frozen_of_row wr b (o9 + i * 2) _ _ hcur
      have f2 := frozen_of_row wr b (o9 + i * 2 + 1) _ _ hcur
      have f3 := frozen_of_row W4 b (o9 + k * 2) _ _ hc5
      have f4 := frozen_of_row W4 b (o9 + k * 2 + 1) _ _ hc5
      have HL6 : Hid (LpG w W5 sz ab X S (some ⟨b, o9, none⟩) n c ((out.set i q).set k p)) := hL.row_ (Out.perm hL.inv (swap_perm hp hq).symm) hg6 (fun x hx => .inl hx) (hu6.mono (fun x hx _ => by cases hx; rfl))
      clear hsp hp hq hb hcs hg6 hu6 hL hcur hc5
      go_wp2_with fail
      go_region
      go_wp2
      exact ⟨⟨i + 1, _, by omega, by omega, by go_num, HL6.out.below (Below.refl _ _).drew⟩, by simp [intOf]; omega⟩
  case rest =>
  as_aux_lemma =>
  obtain ⟨out, hL⟩ := hcut
  have HL : Hid (LpG w wc sz ab X S a n c out) := hL
  have HEN := encode_any hL.ar
  obtain ⟨L, hLn⟩ : ∃ L, (encB X).length = L := ⟨_, rfl⟩
  rw [hLn] at HEN
  obtain ⟨ST, hST⟩ : ∃ ST : ByteArray, (⟨(encB X).toArray⟩ : ByteArray) = ST := ⟨_, rfl⟩
  have HST : Hid ((⟨(encB X).toArray⟩ : ByteArray) = ST ∧ (encB X).length = L) := ⟨hST, hLn⟩
  have hse : (ST.toList == ST.toList) = true := by simp
  have HFN : Hid ((∀ s ∈ out, X.has s = true) ∧ FineL X out ∧ (∀ s ∈ out, 1 ≤ s.2) ∧ ∀ s ∈ out, 0 ≤ s.1) := by
    have hi := hL.inv
    refine ⟨fun s hs => ?_, ⟨fun s hs => ?_, ?_⟩, fun s hs => (hi.in_ s hs).2.1, fun s hs => (hi.in_ s hs).1⟩
    · obtain ⟨c1, c2, c3, _⟩ := hi.in_ s hs
      exact (X.has_iff s).2 ⟨c1, c2, c3⟩
    · obtain ⟨c1, c2, c3, c4⟩ := hi.in_ s hs
      exact (takD_iff hi.ok.g c2).2 c4
    · refine hi.ap.imp ?_
      intro x y hxy
      unfold apart at hxy
      unfold ovl
      omega
  clear hL hST hLn
  go_wp2_with fail
  refine HEN.mono ?_
  rintro e V1 ⟨a6, c6, rfl, hrow, hb1⟩
  have hcv : (convert 48 9 (.slice a6 L c6)).run Try.prog V1 = .ok (.string ST) V1 := by rw [← HST.out.1]; exact (own_bs hrow).conv
  have HL1 : Hid (LpG w V1 sz ab X S a n c out) := HL.out.below hb1
  have HPL := plan_any HL1.out.ar HL1.out.row.sp (by omega)
  clear HEN HL hrow hb1
  go_wp2_with fail
  refine HPL.mono ?_
  rintro e V2 hp
  obtain ⟨hb2, hcase⟩ := hp
  have HL2 : Hid (LpG w V2 sz ab X S a n c out) := HL1.out.below hb2
  obtain ⟨l', HPM, a7, c7, rfl, hrow2⟩ : ∃ l' : List Sp, Hid (l'.Perm out ∧ chkL X 0 l' = true) ∧ ∃ a c, e = .returned (.tuple #[.slice a (movL 0 l').length c, .int .i64 0]) ∧ V2.ownsRow V1.heap.size 54 3 (.slice a (movL 0 l').length c) (movL 0 l').length (mvsV (movL 0 l')) := by
    rcases hcase with ⟨⟨s, hs, hf⟩, _⟩ | ⟨_, l', hpm, hso, hch⟩
    · have := HFN.out.1 s hs
      rw [this] at hf
      cases hf
    · have hck : chkL X 0 l' = true := (chk_iff X hpm hso HFN.out.2.2.1 HFN.out.2.2.2).2 HFN.out.2.1
      rcases hch with ⟨hf, _⟩ | ⟨hc, a7, c7, he, hrow2⟩
      · rw [hck] at hf; cases hf
      · exact ⟨l', ⟨hpm, hck⟩, a7, c7, he, hrow2⟩
  have HEN2 := encode_any HL2.out.ar
  rw [HST.out.2] at HEN2
  obtain ⟨M, hM⟩ : ∃ M, movL 0 l' = M := ⟨_, rfl⟩
  have HM : Hid (movL 0 l' = M) := hM
  rw [hM] at hrow2
  rw [hM]
  clear HPL hcase hb2 hM HL1 hcv
  go_wp2_with fail
  refine HEN2.mono ?_
  rintro e V3 ⟨a8, c8, rfl, hrow3, hb3⟩
  have hcv2 : (convert 48 9 (.slice a8 L c8)).run Try.prog V3 = .ok (.string ST) V3 := by rw [← HST.out.1]; exact (own_bs hrow3).conv
  have HL3 : Hid (LpG w V3 sz ab X S a n c out) := HL2.out.below hb3
  have HMV : Hid (MvR V3 a7 M) := (MvR.own hrow2).upd (S := fun _ => False) (Upd.of_below hb3) (fun x hx => hx.elim)
  have HMI : Hid ((∀ m ∈ M, 0 ≤ m.to ∧ m.to ≤ m.from_ ∧ 1 ≤ m.size ∧ m.from_ + m.size ≤ sz) ∧ M.length ≤ 40) := by
    rw [← HM.out]
    refine ⟨fun m hm => ?_, ?_⟩
    · have h9 := mov_in X l' 0 0 (by omega) (by omega) HPM.out.2 (fun s hs => HFN.out.1 s (HPM.out.1.mem_iff.1 hs)) m hm
      rw [HL3.out.sz] at h9
      exact h9
    · have h8 : (movL 0 l').length ≤ l'.length := by first | exact movL_len 0 l' | exact movL_len l' 0 | exact movL_len _ _
      have h9 := HPM.out.1.length_eq
      have h10 := HL3.out.row.sp.hl
      omega
  clear HEN2 HL2 hrow3 hb3 hrow2
  obtain ⟨i0, hi, hz0, hzs, hzb⟩ := info_parts info3
  have hsz2 := HSZ.out.2
  have hmk := run_makeSlice V3 (P := Try.prog) 47 3 i0 _ Try.underlying47 hi hz0 .i64 .i64 (sz : Int) (sz : Int) (by omega) (by omega) (by rw [hzs]; omega) (by rw [hzb]; omega) (by omega)
  rw [hzs, Int.toNat_natCast, Nat.mul_one] at hmk
  obtain ⟨AB, hAB⟩ : ∃ AB, V3.heap.size = AB := ⟨_, rfl⟩
  obtain ⟨W3, hW3⟩ : ∃ W3, V3.alloc (.cells (madeCells (Value.int .i64 0).cells sz) 3) = W3 := ⟨_, rfl⟩
  have hblk : W3.heap[AB]? = some (.cells (madeCells (Value.int .i64 0).cells sz) 3 (0, 0)) := by rw [← hW3, ← hAB]; exact heap_alloc_new _ _
  have hb3 : Below V3.heap.size V3 W3 := by rw [← hW3]; exact (Below.refl _ _).alloc (Nat.le_refl _) _
  have HW3 : Hid (Below V3.heap.size V3 W3 ∧ V3.heap.size = AB ∧ W3.heap[AB]? = some (.cells (madeCells (Value.int .i64 0).cells sz) 3 (0, 0))) := ⟨hb3, hAB, hblk⟩
  rw [hW3, hAB] at hmk
  clear hi hz0 hzs hzb hW3 hb3 hblk
  go_upto_block 4 with fail
  go_wp2_with fail
  go_loopw [19] (fun v19 wr => ∃ (i : Nat) (cur : Array Value), i ≤ sz ∧ v19 = .int .i64 (i : Int) ∧ wr.heap[AB]? = some (.cells cur 3 (0, 0)) ∧ cur.size = sz ∧ (∀ j, j < i → cur[j]? = some (.int .i64 (j : Int))) ∧ Below V3.heap.size V3 wr) (fun v _ => sz - (intOf v).toNat)
  case atStart => exact ⟨0, _, by omega, rfl, HW3.out.2.2, size_madeCells _ _, fun j hj => absurd hj (by omega), HW3.out.1⟩
  case round =>
    obtain ⟨i, cur, hi, rfl, hg, hsz, hcs, hu⟩ := hrel
    by_cases hlt : i < sz
    · have kk : (i : Int) < (sz : Int) := by omega
      have hce : wr.cell? ⟨AB, i, none⟩ = some (cur[i]'(by omega)) := by rw [cell_of_row _ _ _ _ _ _ hg]; exact Array.getElem?_eq_getElem (by omega)
      obtain ⟨y, hy⟩ : ∃ y, wr.cell? ⟨AB, i, none⟩ = some y := ⟨_, hce⟩
      have hfz := frozen_of_row wr AB i _ _ hg
      have HNX : Hid ((wr.setCell ⟨AB, i, none⟩ (.int .i64 (i : Int))).heap[AB]? = some (.cells (cur.setIfInBounds i (.int .i64 (i : Int))) 3 (0, 0)) ∧ (cur.setIfInBounds i (.int .i64 (i : Int))).size = sz ∧ (∀ j, j < i + 1 → (cur.setIfInBounds i (.int .i64 (i : Int)))[j]? = some (.int .i64 (j : Int))) ∧ Below V3.heap.size V3 (wr.setCell ⟨AB, i, none⟩ (.int .i64 (i : Int)))) := by
        refine ⟨heap_setCell_same _ _ _ _ _ _ hg, by simp [hsz], fun j hj => ?_, hu.setCell (Nat.le_of_eq HW3.out.2.1) _⟩
        rw [Array.getElem?_setIfInBounds]
        by_cases hji : i = j
        · subst hji; rw [if_pos rfl, if_pos (by omega)]
        · rw [if_neg hji]; exact hcs j (by omega)
      clear hg hsz hcs hu hce
      go_wp2
      exact ⟨⟨i + 1, _, by omega, by go_num, HNX.out⟩, by simp [intOf]; omega⟩
    · obtain rfl : sz = i := by omega
      have kk : ¬ (sz : Int) < (sz : Int) := by omega
      have HAR : Hid (wr.heap[AB]? = some (.cells (arrI (fun x => x) sz) 3 (0, 0)) ∧ Below V3.heap.size V3 wr) := by
        refine ⟨?_, hu⟩
        have : cur = arrI (fun x => x) sz := by
          apply Array.ext_getElem?
          intro j
          by_cases hj : j < sz
          · rw [hcs j hj, arrI_at _ _ _ hj]
          · rw [Array.getElem?_eq_none (by omega), Array.getElem?_eq_none (by rw [arrI_size]; omega)]
        rw [hg, this]
      clear hg hsz hcs hu
      go_upto_block 6 with fail
      go_wp2_with fail
      go_loopw [20] (fun v20 wr => ∃ j : Nat, j ≤ M.length ∧ v20 = .int .i64 (j : Int) ∧ wr.heap[AB]? = some (.cells (arrI (runM (fun x => x) (M.take j)) sz) 3 (0, 0)) ∧ Below V3.heap.size V3 wr) (fun v _ => M.length - (intOf v).toNat)
      case atStart => exact ⟨0, by omega, rfl, HAR.out⟩
      case round =>
        clear HAR
        obtain ⟨j, hj, rfl, hg, hu⟩ := hrel
        have hML := HMI.out.2
        by_cases hlt2 : j < M.length
        · have kk2 : (j : Int) < (M.length : Int) := by omega
          obtain ⟨m, hm⟩ : ∃ m, M[j]? = some m := ⟨_, List.getElem?_eq_getElem hlt2⟩
          obtain ⟨m1, m2, m3, m4⟩ := HMI.out.1 m (List.mem_of_getElem? hm)
          have HTK : Hid (M.take (j + 1) = M.take j ++ [m]) := by show _ = _; rw [List.take_add_one, hm]; rfl
          obtain ⟨b, o, rfl, hb, hcs⟩ := (HMV.out.upd (S := fun _ => False) (Upd.of_below hu) (fun x hx => hx.elim)) (by omega)
          obtain ⟨e1, e2, e3⟩ := hcs j m hm
          obtain ⟨fr, hfr⟩ := Int.eq_ofNat_of_zero_le (show 0 ≤ m.from_ by omega)
          obtain ⟨tw, hto⟩ := Int.eq_ofNat_of_zero_le m1
          obtain ⟨mz, hmz⟩ := Int.eq_ofNat_of_zero_le (show 0 ≤ m.size by omega)
          rw [hfr] at e1 m2 m4
          rw [hto] at e2 m2
          rw [hmz] at e3 m3 m4
          have HMM : Hid (m.from_ = (fr : Int) ∧ m.to = (tw : Int) ∧ m.size = (mz : Int)) := ⟨hfr, hto, hmz⟩
          obtain ⟨B, hB⟩ : ∃ B, wr.heap.size = B := ⟨_, rfl⟩
          obtain ⟨W1, hW1⟩ : ∃ W1, wr.alloc (.cells #[.int .i64 (fr : Int), .int .i64 (tw : Int), .int .i64 (mz : Int)] 54) = W1 := ⟨_, rfl⟩
          have hbW : Below wr.heap.size wr W1 := by rw [← hW1]; exact (Below.refl _ _).alloc (Nat.le_refl _) _
          have hbx : W1.heap[B]? = some (.cells #[.int .i64 (fr : Int), .int .i64 (tw : Int), .int .i64 (mz : Int)] 54 (0, 0)) := by rw [← hW1, ← hB]; exact heap_alloc_new _ _
          have g0 : W1.cell? ⟨B, 0, none⟩ = some (.int .i64 (fr : Int)) := by rw [cell_of_row _ _ _ _ _ _ hbx]; rfl
          have g1 : W1.cell? ⟨B, 1, none⟩ = some (.int .i64 (tw : Int)) := by rw [cell_of_row _ _ _ _ _ _ hbx]; rfl
          have g2 : W1.cell? ⟨B, 2, none⟩ = some (.int .i64 (mz : Int)) := by rw [cell_of_row _ _ _ _ _ _ hbx]; rfl
          have hABlt : AB < wr.heap.size := lt_of_some hg
          have HW1 : Hid (W1.heap[AB]? = some (.cells (arrI (runM (fun x => x) (M.take j)) sz) 3 (0, 0)) ∧ Below V3.heap.size V3 W1 ∧ W1.heap[B]? = some (.cells #[.int .i64 (fr : Int), .int .i64 (tw : Int), .int .i64 (mz : Int)] 54 (0, 0)) ∧ AB ≠ B) := ⟨(hbW.block AB hABlt).trans hg, hu.trans (hbW.mono hu.size), hbx, by omega⟩
          have n1 : ¬ (mz : Int) < 1 := by omega
          have n2 : ¬ (fr : Int) < 0 := by omega
          have n3 : ¬ (tw : Int) < 0 := by omega
          have w1 : IntKind.i64.wrap ((sz : Int) - (fr : Int)) = (sz : Int) - (fr : Int) := wr64_in ⟨by omega, by omega⟩
          have w2 : IntKind.i64.wrap ((sz : Int) - (tw : Int)) = (sz : Int) - (tw : Int) := wr64_in ⟨by omega, by omega⟩
          have n4 : ¬ (mz : Int) > (sz : Int) - (fr : Int) := by omega
          have n5 : ¬ (mz : Int) > (sz : Int) - (tw : Int) := by omega
          clear hg hu hm hcs hb hfr hto hmz hbW hbx hABlt
          go_upto_block 8 with fail
          go_wp2_with fail
          go_loopw [22] (fun v22 wr => ∃ k : Nat, k ≤ mz ∧ v22 = .int .i64 (k : Int) ∧ wr.heap[AB]? = some (.cells (arrI (mv1 (runM (fun x => x) (M.take j)) (tw : Int) (fr : Int) k) sz) 3 (0, 0)) ∧ Below V3.heap.size V3 wr ∧ wr.heap[B]? = some (.cells #[.int .i64 (fr : Int), .int .i64 (tw : Int), .int .i64 (mz : Int)] 54 (0, 0))) (fun v _ => mz - (intOf v).toNat)
          case atStart => exact ⟨0, by omega, rfl, HW1.out.1, HW1.out.2.1, HW1.out.2.2.1⟩
          case round =>
            obtain ⟨k, hk, rfl, hg, hu, hx⟩ := hrel
            have y0 : wr.cell? ⟨B, 0, none⟩ = some (.int .i64 (fr : Int)) := by rw [cell_of_row _ _ _ _ _ _ hx]; rfl
            have y1 : wr.cell? ⟨B, 1, none⟩ = some (.int .i64 (tw : Int)) := by rw [cell_of_row _ _ _ _ _ _ hx]; rfl
            have y2 : wr.cell? ⟨B, 2, none⟩ = some (.int .i64 (mz : Int)) := by rw [cell_of_row _ _ _ _ _ _ hx]; rfl
            have HKE : Hid (wr.heap[AB]? = some (.cells (arrI (mv1 (runM (fun x => x) (M.take j)) (tw : Int) (fr : Int) k) sz) 3 (0, 0)) ∧ Below V3.heap.size V3 wr) := ⟨hg, hu⟩
            by_cases hlk : k < mz
            · have kk3 : (k : Int) < (mz : Int) := by omega
              obtain ⟨f, hf⟩ : ∃ f, mv1 (runM (fun x => x) (M.take j)) (tw : Int) (fr : Int) k = f := ⟨_, rfl⟩
              rw [hf] at hg
              obtain ⟨val, hval⟩ : ∃ v, f ((fr + k : Nat) : Int) = v := ⟨_, rfl⟩
              have c1 : wr.cell? ⟨AB, fr + k, none⟩ = some (.int .i64 val) := by rw [cell_of_row _ _ _ _ _ _ hg, ← hval]; exact arrI_at _ _ _ (by omega)
              obtain ⟨z, hz⟩ : ∃ z, wr.cell? ⟨AB, tw + k, none⟩ = some z := ⟨_, by rw [cell_of_row _ _ _ _ _ _ hg]; exact arrI_at _ _ _ (by omega)⟩
              have fz := frozen_of_row wr AB (tw + k) _ _ hg
              obtain ⟨W9, hW9⟩ : ∃ W, wr.setCell ⟨AB, tw + k, none⟩ (.int .i64 val) = W := ⟨_, rfl⟩
              have HNX : Hid (W9.heap[AB]? = some (.cells (arrI (mv1 (runM (fun x => x) (M.take j)) (tw : Int) (fr : Int) (k + 1)) sz) 3 (0, 0)) ∧ Below V3.heap.size V3 W9 ∧ W9.heap[B]? = some (.cells #[.int .i64 (fr : Int), .int .i64 (tw : Int), .int .i64 (mz : Int)] 54 (0, 0))) := by
                refine ⟨?_, by rw [← hW9]; exact hu.setCell (Nat.le_of_eq HW3.out.2.1) _, by rw [← hW9, heap_setCell_other _ _ _ _ (fun e => HW1.out.2.2.2 e.symm)]; exact hx⟩
                have h1 : W9.heap[AB]? = some (.cells ((arrI f sz).setIfInBounds (tw + k) (.int .i64 val)) 3 (0, 0)) := by rw [← hW9]; exact heap_setCell_same _ _ _ _ _ _ hg
                rw [h1, arrI_set]
                have h2 : (fun x => if x = ((tw + k : Nat) : Int) then val else f x) = mv1 (runM (fun x => x) (M.take j)) (tw : Int) (fr : Int) (k + 1) := by
                  funext x
                  simp only [mv1]
                  rw [hf, ← hval, Int.natCast_add, Int.natCast_add]
                rw [h2]
              have q1 : IntKind.i64.wrap ((tw : Int) + (k : Int)) = (tw : Int) + (k : Int) := wr64_in ⟨by omega, by omega⟩
              have q2 : IntKind.i64.wrap ((fr : Int) + (k : Int)) = (fr : Int) + (k : Int) := wr64_in ⟨by omega, by omega⟩
              have q3 : ((tw : Int) + (k : Int)).toNat = tw + k := by omega
              have q4 : ((fr : Int) + (k : Int)).toNat = fr + k := by omega
              have q5 : (0 : Int) ≤ (tw : Int) + (k : Int) := by omega
              have q6 : (0 : Int) ≤ (fr : Int) + (k : Int) := by omega
              have q7 : (tw : Int) + (k : Int) < (sz : Int) := by omega
              have q8 : (fr : Int) + (k : Int) < (sz : Int) := by omega
              clear hg hu hx hf hval
              go_wp2_with fail
              go_region
              go_wp2
              exact ⟨⟨k + 1, by omega, by go_num, HNX.out.1, HNX.out.2.1.drew, HNX.out.2.2⟩, by simp [intOf]; omega⟩
            · obtain rfl : mz = k := by omega
              have kk3 : ¬ (mz : Int) < (mz : Int) := by omega
              have HEN : Hid (wr.heap[AB]? = some (.cells (arrI (runM (fun x => x) (M.take (j + 1))) sz) 3 (0, 0)) ∧ Below V3.heap.size V3 wr) := by
                refine ⟨?_, hu⟩
                rw [HTK.out, runM_snoc, HMM.out.1, HMM.out.2.1, HMM.out.2.2, Int.toNat_natCast]
                exact hg
              clear hg hu hx
              go_wp2
              exact ⟨⟨j + 1, by omega, by go_num, HEN.out⟩, by simp [intOf]; omega⟩
        · obtain rfl : M.length = j := by omega
          have kk2 : ¬ (M.length : Int) < (M.length : Int) := by omega
          rw [List.take_length] at hg
          obtain ⟨F, hF⟩ : ∃ F, runM (fun x => x) M = F := ⟨_, rfl⟩
          rw [hF] at hg
          have h1l : ∀ s ∈ l', 1 ≤ s.2 := fun s hs => HFN.out.2.2.1 s (HPM.out.1.mem_iff.1 hs)
          have HPK : Hid (PackAt F 0 l') := by
            have h := (run_pack X l' (fun x => x) 0 0 (by omega) (fun x _ => rfl) HPM.out.2 h1l).2
            rw [HM.out, hF] at h
            exact h
          have HLL : Hid (l'.length = n ∧ out.length = n) := ⟨by rw [HPM.out.1.length_eq]; exact HL3.out.row.sp.hl, HL3.out.row.sp.hl⟩
          have HAW : Hid (wr.heap[AB]? = some (.cells (arrI F sz) 3 (0, 0)) ∧ Below V3.heap.size V3 wr) := ⟨hg, hu⟩
          have HSM : Hid (∀ i, 0 ≤ sumS (l'.take i) ∧ sumS (l'.take i) ≤ (sz : Int)) := fun i => by
            have h := sum_chk X (l'.take i) 0 (chk_take X l' 0 HPM.out.2 i) (fun s hs => HFN.out.1 s (HPM.out.1.mem_iff.1 (List.mem_of_mem_take hs))) (by omega) (by have := HL3.out.sz; omega)
            have := HL3.out.sz
            omega
          clear hg hu hF h1l hj hlt2 hML
          go_upto_block 10 with fail
          go_wp2_with fail
          go_loopw [23, 24] (fun v23 v24 wr => ∃ (i : Nat) (A : Int), i ≤ n ∧ A = sumS (l'.take i) ∧ v23 = .int .i64 A ∧ v24 = .int .i64 (i : Int) ∧ wr.heap[AB]? = some (.cells (arrI F sz) 3 (0, 0)) ∧ Below V3.heap.size V3 wr) (fun _ v _ => n - (intOf v).toNat)
          case atStart => exact ⟨0, 0, by omega, by simp [sumS], rfl, rfl, HAW.out⟩
          case round =>
            clear HAW
            obtain ⟨i, A, hi, hA, rfl, rfl, hg, hu⟩ := hrel
            by_cases hin : i < n
            · have kin : (i : Int) < (n : Int) := by omega
              obtain ⟨s, hs⟩ : ∃ s, l'[i]? = some s := ⟨_, List.getElem?_eq_getElem (by rw [HLL.out.1]; exact hin)⟩
              have hsm := List.mem_of_getElem? hs
              have hso := HPM.out.1.mem_iff.1 hsm
              have hs1 := HFN.out.2.2.1 s hso
              obtain ⟨hs0, _, hsz, _⟩ := HL3.out.inv.in_ s hso
              have hXs := HL3.out.sz
              rw [hXs] at hsz
              obtain ⟨hA0, hA1⟩ := HSM.out i
              have hA2 := (HSM.out (i + 1)).2
              have htk : l'.take (i + 1) = l'.take i ++ [s] := by rw [List.take_add_one, hs]; rfl
              have hsum : sumS (l'.take (i + 1)) = A + s.2 := by rw [htk, sumS_app, ← hA, sumS_cons, sumS_nil]; omega
              rw [hsum] at hA2
              rw [← hA] at hA0 hA1
              obtain ⟨E, hE⟩ : ∃ E, endL 0 (l'.take i) = E := ⟨_, rfl⟩
              have h1l : ∀ s ∈ l', 1 ≤ s.2 := fun s hs => HFN.out.2.2.1 s (HPM.out.1.mem_iff.1 hs)
              have HLS : Hid (leastL E ((sz : Int), 0) out = s) := by
                show _ = s
                rw [← hE]
                refine least_next X HPM.out.1 HPM.out.2 h1l _ (fun q hq => ?_) hs
                obtain ⟨_, q1, q2, _⟩ := HL3.out.inv.in_ q (HPM.out.1.mem_iff.1 hq)
                show q.1 < (sz : Int)
                omega
              have HPA : Hid (∀ k : Int, 0 ≤ k → k < s.2 → F (A + k) = s.1 + k) := fun k h0 h1 => by
                have h := pack_at l' F 0 HPK.out i s hs k h0 h1
                rw [← hA, Int.zero_add] at h
                exact h
              have HE0 : Hid (i = 0 → A = 0 ∧ E = 0) := fun h => by
                subst h
                rw [List.take_zero] at hA hE
                exact ⟨by rw [hA]; rfl, by rw [← hE]; rfl⟩
              have HE1 : Hid (0 < i → 0 < A ∧ F (A - 1) = E - 1) := fun h => by
                obtain ⟨i', rfl⟩ : ∃ i', i = i' + 1 := ⟨i - 1, by omega⟩
                obtain ⟨s', hs'⟩ : ∃ s', l'[i']? = some s' := ⟨_, List.getElem?_eq_getElem (by rw [HLL.out.1]; omega)⟩
                have h2 := h1l s' (List.mem_of_getElem? hs')
                have h3 : l'.take (i' + 1) = l'.take i' ++ [s'] := by rw [List.take_add_one, hs']; rfl
                have h4 := pack_at l' F 0 HPK.out i' s' hs' (s'.2 - 1) (by omega) (by omega)
                have h5 := (HSM.out i').1
                rw [h3, sumS_app, sumS_cons, sumS_nil] at hA
                rw [h3, endL_snoc] at hE
                refine ⟨by omega, ?_⟩
                rw [show A - 1 = 0 + sumS (l'.take i') + (s'.2 - 1) by omega, h4]
                omega
              obtain ⟨An, rfl⟩ := Int.eq_ofNat_of_zero_le hA0
              obtain ⟨s1, s2⟩ := s
              simp only at hs1 hs0 hsz hA2 HPA hsum
              obtain ⟨sf, rfl⟩ := Int.eq_ofNat_of_zero_le hs0
              obtain ⟨sn, rfl⟩ := Int.eq_ofNat_of_zero_le (show 0 ≤ s2 by omega)
              have HSUM : Hid (sumS (l'.take (i + 1)) = ((An + sn : Nat) : Int)) := by show _ = _; rw [hsum]; omega
              have hn0 : 0 < n := by omega
              obtain ⟨ob, oo, hae, hob, hoc⟩ := HL3.out.row.sp.hat hn0
              have hocap := HL3.out.row.sp.hcp
              have HOC : Hid (∀ V, Below V3.heap.size V3 V → ∀ k q, out[k]? = some q → V.cell? ⟨ob, oo + k * 2, none⟩ = some (.int .i64 q.1) ∧ V.cell? ⟨ob, oo + k * 2 + 1, none⟩ = some (.int .i64 q.2)) := fun V hV k q hq => by
                obtain ⟨f1, f2⟩ := hoc k q hq
                exact ⟨(World.cell?_of_block (a := ⟨ob, oo + k * 2, none⟩) (hV.block ob hob)).trans f1, (World.cell?_of_block (a := ⟨ob, oo + k * 2 + 1, none⟩) (hV.block ob hob)).trans f2⟩
              have HON : Hid (∀ k (q : Sp), out[k]? = some q → 0 ≤ q.1 ∧ q.1 < (sz : Int)) := fun k q hq => by
                obtain ⟨q0, q1, q2, _⟩ := HL3.out.inv.in_ q (List.mem_of_getElem? hq)
                exact ⟨q0, by omega⟩
              subst hae
              obtain ⟨B2, hB2⟩ : ∃ B2, wr.heap.size = B2 := ⟨_, rfl⟩
              obtain ⟨U1, hU1⟩ : ∃ W, wr.alloc (.cells #[.int .i64 (sz : Int), .int .i64 0] 37) = W := ⟨_, rfl⟩
              have hr2 : U1.heap[B2]? = some (.cells #[.int .i64 (sz : Int), .int .i64 0] 37 (0, 0)) := by rw [← hU1, ← hB2]; exact heap_alloc_new _ _
              have hbu : Below wr.heap.size wr U1 := by rw [← hU1]; exact (Below.refl _ _).alloc (Nat.le_refl _) _
              have hABl : AB < B2 := by rw [← hB2]; exact lt_of_some hg
              have HB2 : Hid (V3.heap.size ≤ B2 ∧ AB ≠ B2) := ⟨by rw [← hB2]; exact hu.size, by omega⟩
              have HST7 : Hid (U1.heap[B2]? = some (.cells #[.int .i64 (leastL E ((sz : Int), 0) (out.take 0)).1, .int .i64 (leastL E ((sz : Int), 0) (out.take 0)).2] 37 (0, 0)) ∧ U1.heap[AB]? = some (.cells (arrI F sz) 3 (0, 0)) ∧ Below V3.heap.size V3 U1) := ⟨hr2, (hbu.block AB (by omega)).trans hg, hu.trans (hbu.mono hu.size)⟩
              have HII : Hid (i < n ∧ (An : Int) + (sn : Int) ≤ (sz : Int) ∧ (sf : Int) + (sn : Int) ≤ (sz : Int) ∧ 1 ≤ sn ∧ sz ≤ 300) := ⟨hin, by omega, by omega, by omega, HSZ.out.2⟩
              subst hU1
              clear hr2 hbu hg hu hA hA1 hA2 htk hsum hE h1l hs hsm hso hs1 hs0 hsz hXs hob hoc hABl hA0 hin
              go_upto_block 12 with fail
              go_wp2_with fail
              go_loopw [26] (fun v26 wr => ∃ k : Nat, k ≤ n ∧ v26 = .int .i64 (k : Int) ∧ wr.heap[B2]? = some (.cells #[.int .i64 (leastL E ((sz : Int), 0) (out.take k)).1, .int .i64 (leastL E ((sz : Int), 0) (out.take k)).2] 37 (0, 0)) ∧ wr.heap[AB]? = some (.cells (arrI F sz) 3 (0, 0)) ∧ Below V3.heap.size V3 wr) (fun v _ => n - (intOf v).toNat)
              case atStart => exact ⟨0, by omega, rfl, HST7.out⟩
              case round =>
                clear HST7
                obtain ⟨k, hk, rfl, hr2, hg, hu⟩ := hrel
                by_cases hkn : k < n
                · have kk3 : (k : Int) < (n : Int) := by omega
                  obtain ⟨q, hq⟩ : ∃ q, out[k]? = some q := ⟨_, List.getElem?_eq_getElem (by rw [HLL.out.2]; exact hkn)⟩
                  obtain ⟨q1, q2⟩ := q
                  have hsn := least_snoc E ((sz : Int), 0) (out.take k) (q1, q2)
                  rw [show out.take k ++ [(q1, q2)] = out.take (k + 1) by rw [List.take_add_one, hq]; rfl] at hsn
                  obtain ⟨b, hb⟩ : ∃ b, leastL E ((sz : Int), 0) (out.take k) = b := ⟨_, rfl⟩
                  rw [hb] at hsn hr2
                  obtain ⟨b1, b2⟩ := b
                  simp only at hsn hr2
                  have HSN : Hid (leastL E ((sz : Int), 0) (out.take (k + 1)) = if q1 < b1 ∧ E ≤ q1 then (q1, q2) else (b1, b2)) := hsn
                  obtain ⟨f1, f2⟩ := HOC.out wr hu k (q1, q2) hq
                  obtain ⟨q0, _⟩ := HON.out k (q1, q2) hq
                  have f1 : wr.drew.cell? ⟨ob, oo + k * 2, none⟩ = some (.int .i64 q1) := f1
                  have f2 : wr.drew.cell? ⟨ob, oo + k * 2 + 1, none⟩ = some (.int .i64 q2) := f2
                  have x0u : wr.cell? ⟨B2, 0, none⟩ = some (.int .i64 b1) := by rw [cell_of_row _ _ _ _ _ _ hr2]; rfl
                  have x0 : wr.drew.cell? ⟨B2, 0, none⟩ = some (.int .i64 b1) := x0u
                  have HK : Hid (wr.heap[B2]? = some (.cells #[.int .i64 b1, .int .i64 b2] 37 (0, 0)) ∧ wr.heap[AB]? = some (.cells (arrI F sz) 3 (0, 0)) ∧ Below V3.heap.size V3 wr) := ⟨hr2, hg, hu⟩
                  have HY : Hid (q1 < b1 → E ≤ q1 → ∀ N, ((wr.drewN N).setRow B2 #[.int .i64 q1, .int .i64 q2]).heap[B2]? = some (.cells #[.int .i64 (leastL E ((sz : Int), 0) (out.take (k + 1))).1, .int .i64 (leastL E ((sz : Int), 0) (out.take (k + 1))).2] 37 (0, 0)) ∧ ((wr.drewN N).setRow B2 #[.int .i64 q1, .int .i64 q2]).heap[AB]? = some (.cells (arrI F sz) 3 (0, 0)) ∧ Below V3.heap.size V3 ((wr.drewN N).setRow B2 #[.int .i64 q1, .int .i64 q2])) := fun h1 h2 N => by
                    rw [HSN.out, if_pos ⟨h1, h2⟩]
                    exact ⟨setRow_heap (wr.drewN N) B2 #[.int .i64 b1, .int .i64 b2] _ _ _ HK.out.1, by rw [setRow_other _ _ _ _ HB2.out.2]; exact HK.out.2.1, below_setRow (below_drewN HK.out.2.2 N) B2 HB2.out.1 _⟩
                  have HN : Hid (¬ (q1 < b1 ∧ E ≤ q1) → ∀ N, (wr.drewN N).heap[B2]? = some (.cells #[.int .i64 (leastL E ((sz : Int), 0) (out.take (k + 1))).1, .int .i64 (leastL E ((sz : Int), 0) (out.take (k + 1))).2] 37 (0, 0)) ∧ (wr.drewN N).heap[AB]? = some (.cells (arrI F sz) 3 (0, 0)) ∧ Below V3.heap.size V3 (wr.drewN N)) := fun h N => by
                    rw [HSN.out, if_neg h]
                    exact ⟨HK.out.1, HK.out.2.1, below_drewN HK.out.2.2 N⟩
                  clear hsn hb hq hr2 hu
                  by_cases h1 : q1 < b1
                  · have hd1 : decide (q1 < b1) = true := by simpa using h1
                    by_cases hA : An = 0
                    · have HE : Hid (E ≤ q1) := by
                        by_cases hi0 : i = 0
                        · have := (HE0.out hi0).2
                          show E ≤ q1
                          omega
                        · have := (HE1.out (by omega)).1
                          omega
                      have HY1 : Hid _ := HY.out h1 HE.out
                      have hdA : decide ((An : Int) = 0) = true := by simp; omega
                      have hdA2 : ((An : Int) == 0) = true := by simp; omega
                      clear h1 hg HY HN HE q0 hA
                      go_wp2
                      go_quiet (fail)
                      go_wp2_with (first | (refine wpList_store_row rfl 37 _ _ rfl B2 #[.int .i64 q1, .int .i64 q2] rfl rfl 37 #[.int .i64 b1, .int .i64 b2] HK.out.1 infoSp rfl (by simp [Value.oneCell']) ?_))
                      exact ⟨⟨k + 1, by omega, by go_num, HY1.out _⟩, by simp [intOf]; omega⟩
                    · obtain ⟨p, hp⟩ : ∃ p, An - 1 = p := ⟨_, rfl⟩
                      have kp : (An : Int) - 1 = (p : Int) := by omega
                      have hw : IntKind.i64.wrap (p : Int) = (p : Int) := wr64_in ⟨by omega, by have := HII.out; omega⟩
                      have kpz : (p : Int) < (sz : Int) := by have := HII.out; omega
                      have hi0 : 0 < i := by
                        by_cases h : i = 0
                        · have := (HE0.out h).1
                          omega
                        · omega
                      have hv := (HE1.out hi0).2
                      rw [kp] at hv
                      have cvu : wr.cell? ⟨AB, p, none⟩ = some (.int .i64 (E - 1)) := by
                        rw [cell_of_row _ _ _ _ _ _ hg, arrI_at _ _ _ (by omega), hv]
                      obtain ⟨v, hvv⟩ : ∃ v, E - 1 = v := ⟨_, rfl⟩
                      rw [hvv] at cvu
                      have cv : wr.drew.cell? ⟨AB, p, none⟩ = some (.int .i64 v) := cvu
                      have kA : ¬ (An : Int) = 0 := by omega
                      have hdA : decide ((An : Int) = 0) = false := by simpa using kA
                      have hdA2 : ((An : Int) == 0) = false := by simpa using kA
                      by_cases h2 : E ≤ q1
                      · have hd2 : decide (v < q1) = true := by simp; omega
                        have HY1 : Hid _ := HY.out h1 h2
                        clear h1 h2 hg HY HN q0 hv hi0 hp hvv kA
                        go_wp2
                        go_quiet (fail)
                        go_wp2_with (first | (refine wpList_store_row rfl 37 _ _ rfl B2 #[.int .i64 q1, .int .i64 q2] rfl rfl 37 #[.int .i64 b1, .int .i64 b2] HK.out.1 infoSp rfl (by simp [Value.oneCell']) ?_))
                        exact ⟨⟨k + 1, by omega, by go_num, HY1.out _⟩, by simp [intOf]; omega⟩
                      · have hd2 : decide (v < q1) = false := by simp; omega
                        have HN1 : Hid _ := HN.out (fun h => h2 h.2)
                        clear h1 h2 hg HY HN q0 hv hi0 hp hvv kA
                        go_wp2
                        go_quiet (fail)
                        go_wp2
                        exact ⟨⟨k + 1, by omega, by go_num, HN1.out _⟩, by simp [intOf]; omega⟩
                  · have hd1 : decide (q1 < b1) = false := by simpa using h1
                    have HN1 : Hid _ := HN.out (fun h => h1 h.1)
                    clear h1 hg HY HN q0
                    go_wp2
                    go_quiet (fail)
                    go_wp2
                    exact ⟨⟨k + 1, by omega, by go_num, HN1.out _⟩, by simp [intOf]; omega⟩
                · obtain rfl : k = n := by omega
                  have kk3 : ¬ (k : Int) < (k : Int) := by omega
                  rw [List.take_of_length_le (by rw [HLL.out.2]; omega), HLS.out] at hr2
                  simp only at hr2
                  obtain ⟨i1, i2, i3, i4, i5⟩ := HII.out
                  have x0 : wr.cell? ⟨B2, 0, none⟩ = some (.int .i64 (sf : Int)) := by rw [cell_of_row _ _ _ _ _ _ hr2]; rfl
                  have x1 : wr.cell? ⟨B2, 1, none⟩ = some (.int .i64 (sn : Int)) := by rw [cell_of_row _ _ _ _ _ _ hr2]; rfl
                  have w5 : IntKind.i64.wrap ((sz : Int) - (An : Int)) = (sz : Int) - (An : Int) := wr64_in ⟨by omega, by omega⟩
                  have n5 : ¬ (sn : Int) > (sz : Int) - (An : Int) := by omega
                  have HST8 : Hid (wr.heap[B2]? = some (.cells #[.int .i64 (sf : Int), .int .i64 (sn : Int)] 37 (0, 0)) ∧ wr.heap[AB]? = some (.cells (arrI F sz) 3 (0, 0)) ∧ Below V3.heap.size V3 wr) := ⟨hr2, hg, hu⟩
                  clear hr2 hg hu
                  go_upto_block 14 with fail
                  go_wp2_with fail
                  go_loopw [27] (fun v27 wr => ∃ m : Nat, m ≤ sn ∧ v27 = .int .i64 (m : Int) ∧ wr.heap[B2]? = some (.cells #[.int .i64 (sf : Int), .int .i64 (sn : Int)] 37 (0, 0)) ∧ wr.heap[AB]? = some (.cells (arrI F sz) 3 (0, 0)) ∧ Below V3.heap.size V3 wr) (fun v _ => sn - (intOf v).toNat)
                  case atStart => exact ⟨0, by omega, rfl, HST8.out⟩
                  case round =>
                    clear HST8
                    obtain ⟨m, hm, rfl, hr2, hg, hu⟩ := hrel
                    have y0 : wr.cell? ⟨B2, 0, none⟩ = some (.int .i64 (sf : Int)) := by rw [cell_of_row _ _ _ _ _ _ hr2]; rfl
                    have y1 : wr.cell? ⟨B2, 1, none⟩ = some (.int .i64 (sn : Int)) := by rw [cell_of_row _ _ _ _ _ _ hr2]; rfl
                    have HK8 : Hid (wr.heap[B2]? = some (.cells #[.int .i64 (sf : Int), .int .i64 (sn : Int)] 37 (0, 0)) ∧ wr.heap[AB]? = some (.cells (arrI F sz) 3 (0, 0)) ∧ Below V3.heap.size V3 wr) := ⟨hr2, hg, hu⟩
                    by_cases hmn : m < sn
                    · have kk4 : (m : Int) < (sn : Int) := by omega
                      obtain ⟨J, hJ⟩ : ∃ J, An + m = J := ⟨_, rfl⟩
                      obtain ⟨K, hK⟩ : ∃ K, sf + m = K := ⟨_, rfl⟩
                      have kJ : (An : Int) + (m : Int) = (J : Int) := by omega
                      have kK : (sf : Int) + (m : Int) = (K : Int) := by omega
                      have hJ2 : IntKind.i64.wrap (J : Int) = (J : Int) := wr64_in ⟨by omega, by omega⟩
                      have hK2 : IntKind.i64.wrap (K : Int) = (K : Int) := wr64_in ⟨by omega, by omega⟩
                      have kJz : (J : Int) < (sz : Int) := by omega
                      have hFJ : F (J : Int) = (K : Int) := by rw [← kJ, HPA.out (m : Int) (by omega) (by omega), kK]
                      have cJ : wr.cell? ⟨AB, J, none⟩ = some (.int .i64 (K : Int)) := by rw [cell_of_row _ _ _ _ _ _ hg, arrI_at _ _ _ (by omega), hFJ]
                      clear hr2 hg hu hJ hK hFJ
                      go_wp2_with fail
                      go_region
                      go_wp2
                      exact ⟨⟨m + 1, by omega, by go_num, HK8.out.1, HK8.out.2.1, HK8.out.2.2.drew⟩, by simp [intOf]; omega⟩
                    · obtain rfl : m = sn := by omega
                      have kk4 : ¬ (m : Int) < (m : Int) := by omega
                      have hu2 := hu
                      clear hr2 hg hu
                      go_wp2
                      exact ⟨⟨i + 1, ((An + m : Nat) : Int), by omega, HSUM.out.symm, by go_num, by go_num, HK8.out.2⟩, by simp [intOf]; omega⟩
            · obtain rfl : i = n := by omega
              have kin : ¬ (i : Int) < (i : Int) := by omega
              have HUW : Hid (Below w.heap.size w wr) := HL3.out.bel.trans (hu.mono HL3.out.bel.size)
              clear hg hu hA
              have HLV := lives_any wr
              go_wp2_with fail
              refine HLV.mono ?_
              rintro e w9 ⟨rfl, hb9⟩
              have HB9 : Hid (Below w.heap.size w w9) := HUW.out.trans (hb9.mono HUW.out.size)
              clear HLV hb9
              go_wp2
              go_ret
              exact ⟨rfl, HB9.out⟩

set_option linter.unusedVariables false in
set_option maxRecDepth 100000 in
theorem lifted (os : _root_.Go.Os) (started : os.Started) (H : Type) (enc : TypeId × Value → H) :
    ReturnsInHanded {} Try.checked os 5 .any (Rows.extentPlansSpec.pre6 enc Try.prog Try.f5 Rows.extentPlansRow.domain false) (Rows.extentPlansSpec.post enc Try.prog Try.f5 false true false false) := by
  refine returnsInHanded_of_change (C := Try.checked) own started (by kernel_rfl) Try.func5
    (ChangeSpec.witness6 (enc := enc) (C := Try.checked) false ⟨#[], #[.int .i64 0, .slice none 0 0, .slice none 0 0], []⟩ 8 (by kernel_rfl) (by kernel_rfl) (by kernel_rfl) (by kernel_rfl)) ?_
  intro W base args ds gs before hval0 hW hcnd _
  have hval : ∀ (j : Nat) t v, Try.f5.params[j]? = some t → args[j]? = some v → Value.okWide Try.prog W .any base t v := hval0
  have hW' := hW
  obtain ⟨p, q, hA0, hV, rfl, hfz, hnd⟩ := hW
  have hA : DataW.TrodAll enc Try.prog W 0 (fun _ => true) true Try.f5.params.toList args.toList ds p := hA0
  rw [Try.params5] at hA hval
  obtain ⟨v0, vs0, d0, ds0, p0, q0, hargs, rfl, rfl, h0, r0⟩ := trodAll_cons hA
  obtain ⟨v1, vs1, d1, ds1, p1, q1, rfl, rfl, rfl, h1, r1⟩ := trodAll_cons r0
  obtain ⟨v2, vs2, d2, ds2, p2, q2, rfl, rfl, rfl, h2, r2⟩ := trodAll_cons r1
  obtain ⟨rfl, rfl, rfl⟩ := trodAll_nil r2
  obtain rfl : args = #[v0, v1, v2] := by cases args; simp_all
  obtain ⟨rfl, rfl⟩ := trodVars_none hV
  obtain ⟨x0, rfl, rfl, rfl, w0⟩ := open_int Try.underlying3 (hval 0 3 v0 rfl rfl) h0
  have k1 := h1
  have lt1 : ∀ x ∈ p1, x.block < W.heap.size := by obtain ⟨m, hm⟩ := k1; exact DataW.trod_lt m _ _ _ hm
  obtain ⟨a1, len1, cap1, rfl⟩ := okWide_slice Try.underlying22 (hval 1 22 v1 rfl rfl)
  obtain ⟨l1, w1⟩ : ∃ l, Os W a1 len1 cap1 l := by
    obtain ⟨fuel, hf⟩ := h1
    exact ops_of (by simpa [Value.cells] using hf)
  have k2 := h2
  have lt2 : ∀ x ∈ p2, x.block < W.heap.size := by obtain ⟨m, hm⟩ := k2; exact DataW.trod_lt m _ _ _ hm
  obtain ⟨a2, len2, cap2, rfl⟩ := okWide_slice Try.underlying47 (hval 2 47 v2 rfl rfl)
  obtain ⟨l2, w2⟩ : ∃ l, Is W a2 len2 cap2 l := by
    obtain ⟨fuel, hf⟩ := h2
    exact ints_of (by simpa [Value.cells] using hf)
  clear hA0 hval0
  refine (walk x0 (wf_i64 w0) a1 len1 cap1 l1 a2 len2 cap2 l2 W w1 w2).mono fun e W' ⟨he, bel⟩ => ?_
  subst he
  exact ⟨_, rfl, _, _, _, [], _, [], hW', trodAll_mk1 (shut_bool Try.underlying4 _), (trodAll_cons_mk (shut_int Try.underlying3 w0) (trodAll_cons_mk (Below.trod laidOut (by kernel_rfl) (of_decide_eq_true (by kernel_rfl)) k1 bel lt1) (trodAll_cons_mk (Below.trod laidOut (by kernel_rfl) (of_decide_eq_true (by kernel_rfl)) k2 bel lt2) trodAll_mk0))), rfl, bel.frame _, fun h => by cases h⟩

theorem over : Rows.extentPlansRow.holds Try.pinned (OpenSpec.ofChange Rows.extentPlansSpec) :=
  OpenClaim.holds_of_wide 5 Try.f5 rfl rfl rfl rfl rfl rfl rfl ⟨rfl, rfl, rfl, rfl, rfl⟩ rfl rfl rfl rfl rfl (by kernel_rfl) Try.func5 (by kernel_rfl)
    (of_decide_eq_true (by kernel_rfl)) (by unfold Func.isWrapper; first | (rw [if_pos (by decide +kernel)]; kernel_rfl) | (rw [if_neg (by decide +kernel)]; exact ⟨rfl, rfl⟩))
    (fun os started H enc _ => lifted os started H enc)

end Go.Proofs.Ytgihdfmeokbplaa.extentPlans
namespace Go.Proofs.Ytgihdfmeokbplaa
/-- The given statement. -/
theorem extentPlans_holds : Rows.ExtentPlansSaid := extentPlans.over
#print axioms extentPlans_holds
end Go.Proofs.Ytgihdfmeokbplaa
