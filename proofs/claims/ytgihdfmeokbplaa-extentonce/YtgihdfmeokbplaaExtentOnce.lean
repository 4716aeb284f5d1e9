/- Proved: for every size and all steps, the law ExtentOnce returns true, the steps as they were. No condition: every input that can be read as data. -/
import Derived.Test.YtgihdfmeokbplaaRows
import Derived.Test.YtgihdfmeokbplaaXR
import Derived.Deep.CutRange
import Derived.WalkKit
import Derived.ProofKit
import Derived.OpenShut
import Derived.ShutString
import Derived.ChangeOld
import Derived.Below
namespace Go.Proofs.Ytgihdfmeokbplaa.extentOnce
open Go.ChangeShapes Go.WideShapes Go.ChangeAt Go.RowKit Ex
theorem own : ownKnob Try.prog.godebug = none := by kernel_rfl
theorem laidOut : laidOutB Try.prog = true := by kernel_rfl
/-- Behind some rounds: the area, what is out, and the row of it. -/
structure LpI (w W : World) (sz ab : Nat) (X : Ar) (S : Nat → Prop) (a : Option Addr) (n c : Nat) (out : List Sp) : Prop where
  ar : AIs W S ab X
  fr : ∀ x, S x → w.heap.size ≤ x
  inv : Out X out
  sz : X.sz = sz
  row : OutR W w.heap.size a n c out
  ap : ∀ x, ob a = some x → ¬ S x
  bel : Below w.heap.size w W
def RelS (w : World) (sz ab i : Nat) (v7 : Value) (wx : World) : Prop := ∃ (X : Ar) (S : Nat → Prop) (a : Option Addr) (n c : Nat) (out : List Sp), v7 = .slice a n c ∧ n ≤ i + 1 ∧ LpI w wx sz ab X S a n c out
def RelK (W : World) (n : Nat) (v13 : Value) (wx : World) : Prop := ∃ k : Nat, k < n ∧ v13 = .int .i64 (k : Int) ∧ wx = W
theorem LpI.to {w W W' : World} {sz ab : Nat} {X X' : Ar} {S : Nat → Prop} {a : Option Addr} {n c : Nat} {out : List Sp} (h : LpI w W sz ab X S a n c out) {v : Value} {e : Ending} (hto : ATo W S ab X' v e W') (hsz : X'.sz = sz) (hinv : Out X' out) : LpI w W' sz ab X' (more S W W') a n c out :=
  ⟨hto.2.1, fun x hx => hx.elim (h.fr x) (fun h2 => Nat.le_trans h.bel.size h2.1), hinv, hsz, h.row.upd hto.2.2 h.ap, fun x hx hm => hm.elim (h.ap x hx) (fun h2 => by have := (h.row.fr x hx).2; omega), h.bel.trans (hto.2.2.below h.bel.size h.fr)⟩
theorem LpI.row_ {w W W' : World} {sz ab : Nat} {X : Ar} {S : Nat → Prop} {a a' : Option Addr} {n c n' c' : Nat} {out out' : List Sp} (h : LpI w W sz ab X S a n c out) (hinv : Out X out') (hrow : OutR W' w.heap.size a' n' c' out') (hat : ∀ x, ob a' = some x → ob a = some x ∨ x = W.heap.size) (hu : Upd (fun x => ob a = some x) W W') : LpI w W' sz ab X S a' n' c' out' :=
  ⟨h.ar.upd hu (fun x hx ha => h.ap x ha hx), h.fr, hinv, h.sz, hrow, fun x hx hs => (hat x hx).elim (fun h2 => h.ap x h2 hs) (fun h2 => by have := h.ar.bd x hs; omega), h.bel.trans (hu.below h.bel.size (fun x hx => (h.row.fr x hx).1))⟩
theorem LpI.below {w W W' : World} {sz ab : Nat} {X : Ar} {S : Nat → Prop} {a : Option Addr} {n c : Nat} {out : List Sp} (h : LpI w W sz ab X S a n c out) (hb : Below W.heap.size W W') : LpI w W' sz ab X S a n c out :=
  ⟨h.ar.below hb, h.fr, h.inv, h.sz, h.row.below hb, h.ap, h.bel.trans (hb.mono h.bel.size)⟩

set_option maxRecDepth 100000 in
set_option maxHeartbeats 8000000 in
theorem walk (x0 : Int) (z0 : -9223372036854775808 ≤ x0 ∧ x0 ≤ 9223372036854775807) (a1 : Option Addr) (len1 cap1 : Nat) (l1 : List OV) (w : World) (w1 : Os w a1 len1 cap1 l1) :
    Calls Try.prog 4 #[.int .i64 x0, .slice a1 len1 cap1] w fun e w' => e = .returned (.bool true) ∧ Below w.heap.size w w' := by
  by_cases hx : 1 ≤ x0 ∧ x0 ≤ 1048576
  rotate_left
  · have HNB := new_bad x0 w hx
    have HLV := lives_any w
    clear hx z0 w1
    go_enter Try.func4, Try.ntmps4
    go_wp2_with fail
    refine HNB.mono ?_
    rintro e V ⟨rfl, hV⟩
    subst V
    clear HNB
    go_wp2_with fail
    refine HLV.mono ?_
    rintro e w9 ⟨rfl, hb9⟩
    have HB9 : Hid (Below w.heap.size w w9) := hb9
    clear HLV hb9
    go_wp2
    go_ret
    exact ⟨rfl, HB9.out⟩
  obtain ⟨sz, rfl⟩ := Int.eq_ofNat_of_zero_le (show 0 ≤ x0 by omega)
  have hs1 : 1 ≤ sz := by omega
  have hs2 : sz ≤ 1048576 := by omega
  have HNW := new_any sz w hs1 hs2
  have HOS : Hid (Os w a1 len1 cap1 l1) := w1
  have hlc := w1.2.1
  clear hx z0 w1
  go_enter Try.func4, Try.ntmps4
  go_wp2_with fail
  refine HNW.mono ?_
  rintro e V0 ⟨ab, rfl, h0, hb0⟩
  have H0 : Hid (LpI w V0 sz ab (Ar.new sz) (fresh w V0) none 0 0 []) := ⟨h0, fun x hx => hx.1, Out.new hs1 hs2, rfl, OutR.nil _ _, fun x hx => (by cases hx), hb0⟩
  clear HNW h0 hb0
  go_wp2
  go_loopw [7, 8] (fun v7 v8 wr => ∃ (i : Nat) (X : Ar) (S : Nat → Prop) (a : Option Addr) (n c : Nat) (out : List Sp), i ≤ len1 ∧ i ≤ 60 ∧ v8 = .int .i64 (i : Int) ∧ v7 = .slice a n c ∧ n ≤ i ∧ LpI w wr sz ab X S a n c out) (fun _ v _ => len1 - (intOf v).toNat)
  case atStart => exact ⟨0, Ar.new sz, fresh w V0, none, 0, 0, [], by omega, by omega, rfl, rfl, by omega, H0.out⟩
  case round =>
    clear H0
    obtain ⟨i, X, S, a, n, c, out, hi1, hi60, rfl, rfl, hni, hL⟩ := hrel
    have HL0 : Hid (LpI w wr sz ab X S a n c out) := hL
    by_cases hgo : i < len1 ∧ i < 60
    rotate_left
    · have hLb := hL.bel
      by_cases hs : i < len1
      · have kk : (i : Int) < (len1 : Int) := by omega
        have kk6 : ¬ (i : Int) < 60 := by omega
        clear hL HL0
        have HLV := lives_h hLb
        go_wp2_with fail
        refine HLV.mono ?_
        rintro e w9 ⟨rfl, hb9⟩
        have HB9 : Hid (Below w.heap.size w w9) := hb9
        clear HLV hb9
        go_wp2
        go_ret
        exact ⟨rfl, HB9.out⟩
      · have kk : ¬ (i : Int) < (len1 : Int) := by omega
        clear hL HL0
        have HLV := lives_h hLb
        go_wp2_with fail
        refine HLV.mono ?_
        rintro e w9 ⟨rfl, hb9⟩
        have HB9 : Hid (Below w.heap.size w w9) := hb9
        clear HLV hb9
        go_wp2
        go_ret
        exact ⟨rfl, HB9.out⟩
    obtain ⟨hil, hi6⟩ := hgo
    have kk : (i : Int) < (len1 : Int) := by omega
    have kk6 : (i : Int) < 60 := by omega
    obtain ⟨o1, o2, _, o4⟩ := HOS.out.on hL.bel
    obtain ⟨b1, q1, rfl, hb1, hcs⟩ := o4 (by omega)
    obtain ⟨d0, d1, d2, d3, d4, hin⟩ := hcs i (by omega)
    obtain ⟨o, ho⟩ : ∃ o, l1[i]'(by omega) = o := ⟨_, rfl⟩
    rw [ho] at d0 d1 d2 d3 d4 hin
    obtain ⟨B, hB⟩ : ∃ B, wr.heap.size = B := ⟨_, rfl⟩
    obtain ⟨W1, hW1⟩ : ∃ W1, wr.alloc (.cells #[.int .i64 o.kind, .int .i64 o.n, .int .i64 o.rule, .int .i64 o.at_.1, .int .i64 o.at_.2] 39) = W1 := ⟨_, rfl⟩
    have hbW : Below wr.heap.size wr W1 := by rw [← hW1]; exact (Below.refl _ _).alloc (Nat.le_refl _) _
    have hbx : W1.heap[B]? = some (.cells #[.int .i64 o.kind, .int .i64 o.n, .int .i64 o.rule, .int .i64 o.at_.1, .int .i64 o.at_.2] 39 (0, 0)) := by rw [← hW1, ← hB]; exact heap_alloc_new _ _
    have f0 : W1.cell? ⟨B, 0, none⟩ = some (.int .i64 o.kind) := by rw [cell_of_row _ _ _ _ _ _ hbx]; rfl
    have f1 : W1.cell? ⟨B, 1, none⟩ = some (.int .i64 o.n) := by rw [cell_of_row _ _ _ _ _ _ hbx]; rfl
    have f2 : W1.cell? ⟨B, 2, none⟩ = some (.int .i64 o.rule) := by rw [cell_of_row _ _ _ _ _ _ hbx]; rfl
    have HL1 : Hid (LpI w W1 sz ab X S a n c out) := hL.below hbW
    have HBX : Hid (¬ S B ∧ (∀ x, ob a = some x → x ≠ B) ∧ B < W1.heap.size) := ⟨fun h => by have := hL.ar.bd B h; omega, fun x hx e => by have := (hL.row.fr x hx).2; omega, lt_of_some hbx⟩
    clear hL HL0 hcs o1 o2 o4 hbW ho hbx
    go_upto_if 46 with fail
    go_cut [7, 10, 11, 12, 13] from 30 to 206 (fun v7 _ _ _ _ wx => RelS w sz ab i v7 wx)
    case first =>
      by_cases hk0 : o.kind = 0
      · as_aux_lemma =>
        have HAL := alloc_any HL1.out.ar o.n o.rule
        obtain ⟨r1, hr1⟩ : ∃ x, (X.alloc o.n o.rule).2.1 = x := ⟨_, rfl⟩
        obtain ⟨r2, hr2⟩ : ∃ x, (X.alloc o.n o.rule).2.2 = x := ⟨_, rfl⟩
        obtain ⟨X', hX'⟩ : ∃ x, (X.alloc o.n o.rule).1 = x := ⟨_, rfl⟩
        rw [hr1, hr2, hX'] at HAL
        have HR : Hid (X.alloc o.n o.rule = (X', r1, r2)) := by show _ = _; rw [← hX', ← hr1, ← hr2]
        have hkb : (o.kind == 0) = true := by simpa using hk0
        have HK0 : Hid (o.kind = 0) := hk0
        rw [hk0] at f0
        clear hr1 hr2 hX' hk0 d0 d1 d2 d3 d4
        go_wp2_with fail
        refine HAL.mono ?_
        rintro e V2 hto
        have hk := hto
        obtain ⟨rfl, _, hu⟩ := hk
        have g1 : V2.cell? ⟨B, 1, none⟩ = some (.int .i64 o.n) := (World.cell?_of_block (a := ⟨B, 1, none⟩) (hu.block B HBX.out.2.2 HBX.out.1)).trans f1
        have HTO : Hid (ATo W1 S ab X' (.tuple #[.int .i64 r1, .int .i64 r2]) (.returned (.tuple #[.int .i64 r1, .int .i64 r2])) V2) := hto
        have hcod := Ar.alloc_codes X o.n o.rule
        rw [HR.out] at hcod
        simp only at hcod
        have HBY : Hid (B < V2.heap.size ∧ ∀ x, more S W1 V2 x → x ≠ B) := ⟨Nat.lt_of_lt_of_le HBX.out.2.2 hu.size, fun x hx e => by subst e; exact hx.elim HBX.out.1 (fun h => by have := HBX.out.2.2; omega)⟩
        clear hto hu HAL f1 f2 f0
        by_cases hc0 : r2 = 0
        rotate_left
        · have hsame : X' = X := by
            have h9 := (Ar.alloc_ok HL1.out.inv.ok o.n o.rule).2.2.2.1
            rw [HR.out] at h9
            exact (h9 hc0).1
          subst hsame
          have HL2 : Hid (LpI w V2 sz ab X' (more S W1 V2) a n c out) := HL1.out.to HTO.out HL1.out.sz HL1.out.inv
          by_cases hc5 : r2 = 5
          · subst hc5
            have hful := Ar.full HL1.out.inv.ok (n := o.n) (rule := o.rule) (by rw [HR.out])
            have HLG := largest_any (w := V2.drew) (HL2.out.below (Below.refl _ _).drew).ar
            obtain ⟨mk, hmk⟩ : ∃ m, maxK X'.hs = m := ⟨_, rfl⟩
            rw [hmk] at HLG
            have hle : ¬ o.n ≤ mk := by have : maxK X'.hs < o.n := hful; omega
            have g1d : V2.drew.cell? ⟨B, 1, none⟩ = some (.int .i64 o.n) := g1
            clear hful hmk hc0 hcod g1
            go_wp2
            refine wp_region_held_drew (S := fun V => V.cell? ⟨B, 1, none⟩ = some (.int .i64 o.n)) (by kernel_rfl) (g1d) (fun hHeld => ?_)
            refine wpAnyH_take (i := 0) (v := ?vm0) rfl (by kernel_rfl) (by kernel_rfl) (by kernel_rfl) (fun _ _ _ h => h) (Or.inl ⟨by first | kernel_rfl | rfl, ?ym0⟩) hHeld ?rm0
            case ym0 => (intro W hSW; (try dsimp only at hSW); go_simp; (try with_reducible rfl))
            change wpAnyH _ _ _ _ _ _ _ (Act.put _ (some 58) _) _
            simp only [Act.put, List.setIfInBounds_toArray, List.set_cons_zero, List.set_cons_succ]
            refine wpAnyH_take (i := 1) (v := .bool true) rfl (by kernel_rfl) (by kernel_rfl) (by kernel_rfl) (fun _ _ _ h => h) (Or.inl ⟨by first | kernel_rfl | rfl, ?ym1⟩) hHeld ?rm1
            case ym1 => (intro W hSW; (try dsimp only at hSW); go_simp; (try with_reducible rfl))
            change wpAnyH _ _ _ _ _ _ _ (Act.put _ (some 59) _) _
            simp only [Act.put, List.setIfInBounds_toArray, List.set_cons_zero, List.set_cons_succ]
            refine wpAnyH_take (i := 2) (v := .bool true) rfl (by kernel_rfl) (by kernel_rfl) (by kernel_rfl) (fun _ _ _ h => h) (Or.inl ⟨by first | kernel_rfl | rfl, ?ym2⟩) hHeld ?rm2
            case ym2 => (intro W hSW; (try dsimp only at hSW); go_simp; (try with_reducible rfl))
            change wpAnyH _ _ _ _ _ _ _ (Act.put _ (some 60) _) _
            simp only [Act.put, List.setIfInBounds_toArray, List.set_cons_zero, List.set_cons_succ]
            refine wpAnyH_take (i := 3) (v := ?vm3) rfl (by kernel_rfl) (by kernel_rfl) (by kernel_rfl) (fun _ _ _ h => h) (Or.inl ⟨by first | kernel_rfl | rfl, ?ym3⟩) hHeld ?rm3
            case ym3 => (intro W hSW; (try dsimp only at hSW); go_simp; (try with_reducible rfl))
            change wpAnyH _ _ _ _ _ _ _ (Act.put _ (some 61) _) _
            simp only [Act.put, List.setIfInBounds_toArray, List.set_cons_zero, List.set_cons_succ]
            refine wpAnyH_take (i := 4) (v := ?vm4) rfl (by kernel_rfl) (by kernel_rfl) (by kernel_rfl) (fun _ _ _ h => h) (Or.inl ⟨by first | kernel_rfl | rfl, ?ym4⟩) hHeld ?rm4
            case ym4 => (intro W hSW; (try dsimp only at hSW); go_simp; (try with_reducible rfl))
            change wpAnyH _ _ _ _ _ _ _ (Act.put _ (some 62) _) _
            simp only [Act.put, List.setIfInBounds_toArray, List.set_cons_zero, List.set_cons_succ]
            refine wpAnyH_take (i := 5) (v := ?vm5) rfl (by kernel_rfl) (by kernel_rfl) (by kernel_rfl) (fun _ _ _ h => h) (Or.inl ⟨by first | kernel_rfl | rfl, ?ym5⟩) hHeld ?rm5
            case ym5 => (intro W hSW; (try dsimp only at hSW); go_simp; (try with_reducible rfl))
            change wpAnyH _ _ _ _ _ _ _ (Act.put _ (some 63) _) _
            simp only [Act.put, List.setIfInBounds_toArray, List.set_cons_zero, List.set_cons_succ]
            refine wpAnyH_ready (rs := [6]) (by kernel_rfl) (by simp) ?_
            refine AllReadyH.cons rfl (fun K hK => ?_) AllReadyH.nil
            go_simp
            refine (HLG).mono ?_
            rintro e V3 ⟨rfl, hV3⟩
            refine hK.out _ _ (keepc hV3 hHeld) (fun hHeld => ?_)
            clear hK K
            try simp only [Act.put, List.setIfInBounds_toArray, List.set_cons_zero, List.set_cons_succ]
            refine wpAnyH_take (i := 7) (v := .bool false) rfl (by kernel_rfl) (by kernel_rfl) (by kernel_rfl) (fun _ _ _ h => h) (Or.inl ⟨by first | kernel_rfl | rfl, ?ym7⟩) hHeld ?rm7
            case ym7 => (intro W hSW; (try dsimp only at hSW); go_simp; (try with_reducible rfl))
            change wpAnyH _ _ _ _ _ _ _ (Act.put _ (some 65) _) _
            simp only [Act.put, List.setIfInBounds_toArray, List.set_cons_zero, List.set_cons_succ]
            refine wpAnyH_take (i := 8) (v := .bool false) rfl (by kernel_rfl) (by kernel_rfl) (by kernel_rfl) (fun _ _ _ h => h) (Or.inl ⟨by first | kernel_rfl | rfl, ?ym8⟩) hHeld ?rm8
            case ym8 => (intro W hSW; (try dsimp only at hSW); go_simp; (try with_reducible rfl))
            change wpAnyH _ _ _ _ _ _ _ (Act.put _ (some 66) _) _
            simp only [Act.put, List.setIfInBounds_toArray, List.set_cons_zero, List.set_cons_succ]
            refine wpAnyH_done (by kernel_rfl) ?_ _
            have HL3 : Hid (LpI w V3 sz ab X' (more S W1 V2) a n c out) := (HL2.out.below (Below.refl _ _).drew).below hV3
            clear hHeld HLG hV3
            go_wp2
            exact ⟨⟨i + 1, X', _, a, n, c, out, by omega, by omega, by go_num, rfl, by omega, HL3.out⟩, by simp [intOf]; omega⟩
          · obtain rfl : r2 = 1 := by omega
            clear hc0 hcod hc5
            go_wp2
            refine wp_region_held_drew (S := fun _ => True) (by kernel_rfl) (trivial) (fun hHeld => ?_)
            refine wpAnyH_take (i := 0) (v := ?vn0) rfl (by kernel_rfl) (by kernel_rfl) (by kernel_rfl) (fun _ _ _ h => h) (Or.inl ⟨by first | kernel_rfl | rfl, ?yn0⟩) hHeld ?rn0
            case yn0 => (intro W hSW; (try dsimp only at hSW); go_simp; (try with_reducible rfl))
            change wpAnyH _ _ _ _ _ _ _ (Act.put _ (some 58) _) _
            simp only [Act.put, List.setIfInBounds_toArray, List.set_cons_zero, List.set_cons_succ]
            refine wpAnyH_take (i := 1) (v := .bool false) rfl (by kernel_rfl) (by kernel_rfl) (by kernel_rfl) (fun _ _ _ h => h) (Or.inl ⟨by first | kernel_rfl | rfl, ?yn1⟩) hHeld ?rn1
            case yn1 => (intro W hSW; (try dsimp only at hSW); go_simp; (try with_reducible rfl))
            change wpAnyH _ _ _ _ _ _ _ (Act.put _ (some 59) _) _
            simp only [Act.put, List.setIfInBounds_toArray, List.set_cons_zero, List.set_cons_succ]
            refine wpAnyH_take (i := 2) (v := .bool false) rfl (by kernel_rfl) (by kernel_rfl) (by kernel_rfl) (fun _ _ _ h => h) (Or.inl ⟨by first | kernel_rfl | rfl, ?yn2⟩) hHeld ?rn2
            case yn2 => (intro W hSW; (try dsimp only at hSW); go_simp; (try with_reducible rfl))
            change wpAnyH _ _ _ _ _ _ _ (Act.put _ (some 60) _) _
            simp only [Act.put, List.setIfInBounds_toArray, List.set_cons_zero, List.set_cons_succ]
            refine wpAnyH_take (i := 3) (v := undef) rfl (by kernel_rfl) (by kernel_rfl) (by kernel_rfl) (fun _ _ _ h => h) (Or.inr ⟨by first | kernel_rfl | rfl, rfl⟩) hHeld ?_
            change wpAnyH _ _ _ _ _ _ _ (Act.put _ (some 61) _) _
            simp only [Act.put, List.setIfInBounds_toArray, List.set_cons_zero, List.set_cons_succ]
            refine wpAnyH_take (i := 4) (v := undef) rfl (by kernel_rfl) (by kernel_rfl) (by kernel_rfl) (fun _ _ _ h => h) (Or.inr ⟨by first | kernel_rfl | rfl, rfl⟩) hHeld ?_
            change wpAnyH _ _ _ _ _ _ _ (Act.put _ (some 62) _) _
            simp only [Act.put, List.setIfInBounds_toArray, List.set_cons_zero, List.set_cons_succ]
            refine wpAnyH_take (i := 5) (v := undef) rfl (by kernel_rfl) (by kernel_rfl) (by kernel_rfl) (fun _ _ _ h => h) (Or.inr ⟨by first | kernel_rfl | rfl, rfl⟩) hHeld ?_
            change wpAnyH _ _ _ _ _ _ _ (Act.put _ (some 63) _) _
            simp only [Act.put, List.setIfInBounds_toArray, List.set_cons_zero, List.set_cons_succ]
            refine wpAnyH_take (i := 6) (v := undef) rfl (by kernel_rfl) (by kernel_rfl) (by kernel_rfl) (fun _ _ _ h => h) (Or.inr ⟨by first | kernel_rfl | rfl, rfl⟩) hHeld ?_
            change wpAnyH _ _ _ _ _ _ _ (Act.put _ (some 64) _) _
            simp only [Act.put, List.setIfInBounds_toArray, List.set_cons_zero, List.set_cons_succ]
            refine wpAnyH_take (i := 7) (v := undef) rfl (by kernel_rfl) (by kernel_rfl) (by kernel_rfl) (fun _ _ _ h => h) (Or.inr ⟨by first | kernel_rfl | rfl, rfl⟩) hHeld ?_
            change wpAnyH _ _ _ _ _ _ _ (Act.put _ (some 65) _) _
            simp only [Act.put, List.setIfInBounds_toArray, List.set_cons_zero, List.set_cons_succ]
            refine wpAnyH_take (i := 8) (v := .bool false) rfl (by kernel_rfl) (by kernel_rfl) (by kernel_rfl) (fun _ _ _ h => h) (Or.inl ⟨by first | kernel_rfl | rfl, ?yn8⟩) hHeld ?rn8
            case yn8 => (intro W hSW; (try dsimp only at hSW); go_simp; (try with_reducible rfl))
            change wpAnyH _ _ _ _ _ _ _ (Act.put _ (some 66) _) _
            simp only [Act.put, List.setIfInBounds_toArray, List.set_cons_zero, List.set_cons_succ]
            refine wpAnyH_done (by kernel_rfl) ?_ _
            clear hHeld
            go_wp2
            exact ⟨⟨i + 1, X', _, a, n, c, out, by omega, by omega, by go_num, rfl, by omega, HL2.out.below (Below.refl _ _).drew⟩, by simp [intOf]; omega⟩
        · subst hc0
          obtain ⟨ho1, ho2, ho3, ho4, ho5, ho6⟩ := HL1.out.inv.alloc (n := o.n) (rule := o.rule) (by rw [HR.out])
          rw [HR.out] at ho1 ho2 ho3 ho5 ho6
          simp only at ho1 ho2 ho3 ho5 ho6
          have hx1 : X.sz ≤ 1048576 := HL1.out.inv.ok.s2
          have HL2 : Hid (AIs V2 (more S W1 V2) ab X' ∧ (∀ x, more S W1 V2 x → w.heap.size ≤ x) ∧ OutR V2 w.heap.size a n c out ∧ (∀ x, ob a = some x → ¬ more S W1 V2 x) ∧ Below w.heap.size w V2) :=
            ⟨HTO.out.2.1, fun x hx => hx.elim (HL1.out.fr x) (fun h2 => Nat.le_trans HL1.out.bel.size h2.1), HL1.out.row.upd HTO.out.2.2 HL1.out.ap, fun x hx hm => hm.elim (HL1.out.ap x hx) (fun h2 => by have := (HL1.out.row.fr x hx).2; omega), HL1.out.bel.trans (HTO.out.2.2.below HL1.out.bel.size HL1.out.fr)⟩
          have HO : Hid (Out X' (out ++ [(r1, o.n)]) ∧ (∀ t ∈ out, apart t (r1, o.n)) ∧ X'.sz = sz) := ⟨ho1, ho2, by rw [ho3]; exact HL1.out.sz⟩
          have HOX : Hid (∀ t ∈ out, 0 ≤ t.1 ∧ 1 ≤ t.2 ∧ t.1 + t.2 ≤ 1048576) := fun t ht => by have := HL1.out.inv.in_ t ht; omega
          have kw6 : IntKind.i64.wrap (r1 + o.n) = r1 + o.n := wr64_in ⟨by omega, by omega⟩
          have HRB : Hid (∀ x, ob a = some x → x ≠ B) := HBX.out.2.1
          clear ho1 ho2 ho3 HTO HL1 hcod HR hx1
          go_wp2
          go_loopw [12] (fun v12 wr => ∃ k : Nat, k ≤ n ∧ v12 = .int .i64 (k : Int) ∧ Below V2.heap.size V2 wr) (fun v _ => n - (intOf v).toNat)
          case atStart => exact ⟨0, by omega, rfl, Below.refl _ _⟩
          case round =>
            obtain ⟨k, hk, rfl, hbk⟩ := hrel
            have HBK : Hid (Below V2.heap.size V2 wr) := hbk
            by_cases hlt : k < n
            · have kkn : (k : Int) < (n : Int) := by omega
              have hsp := (HL2.out.2.2.1.below hbk).sp
              have hnn := hsp.hcp
              have hnl := hsp.hl
              obtain ⟨q, hq⟩ : ∃ q, out[k]? = some q := ⟨_, List.getElem?_eq_getElem (by omega)⟩
              obtain ⟨b, o9, rfl, hb, hcs⟩ := hsp.hat (by omega)
              obtain ⟨e1, e2⟩ := hcs k q hq
              have e1d : wr.drew.cell? ⟨b, o9 + k * 2, none⟩ = some (.int .i64 q.1) := e1
              have e2d : wr.drew.cell? ⟨b, o9 + k * 2 + 1, none⟩ = some (.int .i64 q.2) := e2
              have e3d : wr.drew.cell? ⟨B, 1, none⟩ = some (.int .i64 o.n) := keepc hbk.drew g1
              have hqm := HOX.out q (List.mem_of_getElem? hq)
              have hqa := HO.out.2.1 q (List.mem_of_getElem? hq)
              unfold apart at hqa
              simp only at hqa
              have kw7 : IntKind.i64.wrap (q.1 + q.2) = q.1 + q.2 := wr64_in ⟨by omega, by omega⟩
              clear hcs hq hsp hbk e1 e2
              by_cases hov : r1 < q.1 + q.2
              · have hov2 : ¬ q.1 < r1 + o.n := by omega
                clear hqa
                go_wp2
                refine wp_region_held_drew (S := fun V => V.cell? ⟨b, o9 + k * 2, none⟩ = some (.int .i64 q.1) ∧ V.cell? ⟨b, o9 + k * 2 + 1, none⟩ = some (.int .i64 q.2) ∧ V.cell? ⟨B, 1, none⟩ = some (.int .i64 o.n)) (by kernel_rfl) (⟨e1d, e2d, e3d⟩) (fun hHeld => ?_)
                refine wpAnyH_take (i := 0) (v := ?vo0) rfl (by kernel_rfl) (by kernel_rfl) (by kernel_rfl) (fun _ _ _ h => h) (Or.inl ⟨by first | kernel_rfl | rfl, ?yo0⟩) hHeld ?ro0
                case yo0 => (intro W hSW; (try dsimp only at hSW); go_simp; (try with_reducible rfl))
                change wpAnyH _ _ _ _ _ _ _ (Act.put _ (some 73) _) _
                simp only [Act.put, List.setIfInBounds_toArray, List.set_cons_zero, List.set_cons_succ]
                refine wpAnyH_take (i := 1) (v := ?vo1) rfl (by kernel_rfl) (by kernel_rfl) (by kernel_rfl) (fun _ _ _ h => h) (Or.inl ⟨by first | kernel_rfl | rfl, ?yo1⟩) hHeld ?ro1
                case yo1 => (intro W hSW; (try dsimp only at hSW); go_simp; (try with_reducible rfl))
                change wpAnyH _ _ _ _ _ _ _ (Act.put _ (some 74) _) _
                simp only [Act.put, List.setIfInBounds_toArray, List.set_cons_zero, List.set_cons_succ]
                refine wpAnyH_take (i := 2) (v := ?vo2) rfl (by kernel_rfl) (by kernel_rfl) (by kernel_rfl) (fun _ _ _ h => h) (Or.inl ⟨by first | kernel_rfl | rfl, ?yo2⟩) hHeld ?ro2
                case yo2 => (intro W hSW; (try dsimp only at hSW); go_simp; (try with_reducible rfl))
                change wpAnyH _ _ _ _ _ _ _ (Act.put _ (some 75) _) _
                simp only [Act.put, List.setIfInBounds_toArray, List.set_cons_zero, List.set_cons_succ]
                refine wpAnyH_take (i := 3) (v := ?vo3) rfl (by kernel_rfl) (by kernel_rfl) (by kernel_rfl) (fun _ _ _ h => h) (Or.inl ⟨by first | kernel_rfl | rfl, ?yo3⟩) hHeld ?ro3
                case yo3 => (intro W hSW; (try dsimp only at hSW); go_simp; (try with_reducible rfl))
                change wpAnyH _ _ _ _ _ _ _ (Act.put _ (some 76) _) _
                simp only [Act.put, List.setIfInBounds_toArray, List.set_cons_zero, List.set_cons_succ]
                refine wpAnyH_take (i := 4) (v := ?vo4) rfl (by kernel_rfl) (by kernel_rfl) (by kernel_rfl) (fun _ _ _ h => h) (Or.inl ⟨by first | kernel_rfl | rfl, ?yo4⟩) hHeld ?ro4
                case yo4 => (intro W hSW; (try dsimp only at hSW); go_simp; (try with_reducible rfl))
                change wpAnyH _ _ _ _ _ _ _ (Act.put _ (some 77) _) _
                simp only [Act.put, List.setIfInBounds_toArray, List.set_cons_zero, List.set_cons_succ]
                refine wpAnyH_take (i := 5) (v := ?vo5) rfl (by kernel_rfl) (by kernel_rfl) (by kernel_rfl) (fun _ _ _ h => h) (Or.inl ⟨by first | kernel_rfl | rfl, ?yo5⟩) hHeld ?ro5
                case yo5 => (intro W hSW; (try dsimp only at hSW); go_simp; (try with_reducible rfl))
                change wpAnyH _ _ _ _ _ _ _ (Act.put _ (some 78) _) _
                simp only [Act.put, List.setIfInBounds_toArray, List.set_cons_zero, List.set_cons_succ]
                refine wpAnyH_take (i := 6) (v := ?vo6) rfl (by kernel_rfl) (by kernel_rfl) (by kernel_rfl) (fun _ _ _ h => h) (Or.inl ⟨by first | kernel_rfl | rfl, ?yo6⟩) hHeld ?ro6
                case yo6 => (intro W hSW; (try dsimp only at hSW); go_simp; (try with_reducible rfl))
                change wpAnyH _ _ _ _ _ _ _ (Act.put _ (some 79) _) _
                simp only [Act.put, List.setIfInBounds_toArray, List.set_cons_zero, List.set_cons_succ]
                refine wpAnyH_take (i := 7) (v := ?vo7) rfl (by kernel_rfl) (by kernel_rfl) (by kernel_rfl) (fun _ _ _ h => h) (Or.inl ⟨by first | kernel_rfl | rfl, ?yo7⟩) hHeld ?ro7
                case yo7 => (intro W hSW; (try dsimp only at hSW); go_simp; (try with_reducible rfl))
                change wpAnyH _ _ _ _ _ _ _ (Act.put _ (some 80) _) _
                simp only [Act.put, List.setIfInBounds_toArray, List.set_cons_zero, List.set_cons_succ]
                refine wpAnyH_take (i := 8) (v := ?vo8) rfl (by kernel_rfl) (by kernel_rfl) (by kernel_rfl) (fun _ _ _ h => h) (Or.inl ⟨by first | kernel_rfl | rfl, ?yo8⟩) hHeld ?ro8
                case yo8 => (intro W hSW; (try dsimp only at hSW); go_simp; (try with_reducible rfl))
                change wpAnyH _ _ _ _ _ _ _ (Act.put _ (some 81) _) _
                simp only [Act.put, List.setIfInBounds_toArray, List.set_cons_zero, List.set_cons_succ]
                refine wpAnyH_take (i := 9) (v := ?vo9) rfl (by kernel_rfl) (by kernel_rfl) (by kernel_rfl) (fun _ _ _ h => h) (Or.inl ⟨by first | kernel_rfl | rfl, ?yo9⟩) hHeld ?ro9
                case yo9 => (intro W hSW; (try dsimp only at hSW); go_simp; (try with_reducible rfl))
                change wpAnyH _ _ _ _ _ _ _ (Act.put _ (some 82) _) _
                simp only [Act.put, List.setIfInBounds_toArray, List.set_cons_zero, List.set_cons_succ]
                refine wpAnyH_take (i := 10) (v := ?vo10) rfl (by kernel_rfl) (by kernel_rfl) (by kernel_rfl) (fun _ _ _ h => h) (Or.inl ⟨by first | kernel_rfl | rfl, ?yo10⟩) hHeld ?ro10
                case yo10 => (intro W hSW; (try dsimp only at hSW); go_simp; (try with_reducible rfl))
                change wpAnyH _ _ _ _ _ _ _ (Act.put _ (some 83) _) _
                simp only [Act.put, List.setIfInBounds_toArray, List.set_cons_zero, List.set_cons_succ]
                refine wpAnyH_take (i := 11) (v := ?vo11) rfl (by kernel_rfl) (by kernel_rfl) (by kernel_rfl) (fun _ _ _ h => h) (Or.inl ⟨by first | kernel_rfl | rfl, ?yo11⟩) hHeld ?ro11
                case yo11 => (intro W hSW; (try dsimp only at hSW); go_simp; (try with_reducible rfl))
                change wpAnyH _ _ _ _ _ _ _ (Act.put _ (some 84) _) _
                simp only [Act.put, List.setIfInBounds_toArray, List.set_cons_zero, List.set_cons_succ]
                refine wpAnyH_take (i := 12) (v := .bool true) rfl (by kernel_rfl) (by kernel_rfl) (by kernel_rfl) (fun _ _ _ h => h) (Or.inl ⟨by first | kernel_rfl | rfl, ?yo12⟩) hHeld ?ro12
                case yo12 => (intro W hSW; (try dsimp only at hSW); go_simp; (try with_reducible rfl))
                change wpAnyH _ _ _ _ _ _ _ (Act.put _ (some 85) _) _
                simp only [Act.put, List.setIfInBounds_toArray, List.set_cons_zero, List.set_cons_succ]
                refine wpAnyH_take (i := 13) (v := .bool true) rfl (by kernel_rfl) (by kernel_rfl) (by kernel_rfl) (fun _ _ _ h => h) (Or.inl ⟨by first | kernel_rfl | rfl, ?yo13⟩) hHeld ?ro13
                case yo13 => (intro W hSW; (try dsimp only at hSW); go_simp; (try with_reducible rfl))
                change wpAnyH _ _ _ _ _ _ _ (Act.put _ (some 86) _) _
                simp only [Act.put, List.setIfInBounds_toArray, List.set_cons_zero, List.set_cons_succ]
                refine wpAnyH_take (i := 14) (v := ?vo14) rfl (by kernel_rfl) (by kernel_rfl) (by kernel_rfl) (fun _ _ _ h => h) (Or.inl ⟨by first | kernel_rfl | rfl, ?yo14⟩) hHeld ?ro14
                case yo14 => (intro W hSW; (try dsimp only at hSW); go_simp; (try with_reducible rfl))
                change wpAnyH _ _ _ _ _ _ _ (Act.put _ (some 87) _) _
                simp only [Act.put, List.setIfInBounds_toArray, List.set_cons_zero, List.set_cons_succ]
                refine wpAnyH_take (i := 15) (v := ?vo15) rfl (by kernel_rfl) (by kernel_rfl) (by kernel_rfl) (fun _ _ _ h => h) (Or.inl ⟨by first | kernel_rfl | rfl, ?yo15⟩) hHeld ?ro15
                case yo15 => (intro W hSW; (try dsimp only at hSW); go_simp; (try with_reducible rfl))
                change wpAnyH _ _ _ _ _ _ _ (Act.put _ (some 88) _) _
                simp only [Act.put, List.setIfInBounds_toArray, List.set_cons_zero, List.set_cons_succ]
                refine wpAnyH_take (i := 16) (v := ?vo16) rfl (by kernel_rfl) (by kernel_rfl) (by kernel_rfl) (fun _ _ _ h => h) (Or.inl ⟨by first | kernel_rfl | rfl, ?yo16⟩) hHeld ?ro16
                case yo16 => (intro W hSW; (try dsimp only at hSW); go_simp; (try with_reducible rfl))
                change wpAnyH _ _ _ _ _ _ _ (Act.put _ (some 89) _) _
                simp only [Act.put, List.setIfInBounds_toArray, List.set_cons_zero, List.set_cons_succ]
                refine wpAnyH_take (i := 17) (v := ?vo17) rfl (by kernel_rfl) (by kernel_rfl) (by kernel_rfl) (fun _ _ _ h => h) (Or.inl ⟨by first | kernel_rfl | rfl, ?yo17⟩) hHeld ?ro17
                case yo17 => (intro W hSW; (try dsimp only at hSW); go_simp; (try with_reducible rfl))
                change wpAnyH _ _ _ _ _ _ _ (Act.put _ (some 90) _) _
                simp only [Act.put, List.setIfInBounds_toArray, List.set_cons_zero, List.set_cons_succ]
                refine wpAnyH_take (i := 18) (v := ?vo18) rfl (by kernel_rfl) (by kernel_rfl) (by kernel_rfl) (fun _ _ _ h => h) (Or.inl ⟨by first | kernel_rfl | rfl, ?yo18⟩) hHeld ?ro18
                case yo18 => (intro W hSW; (try dsimp only at hSW); go_simp; (try with_reducible rfl))
                change wpAnyH _ _ _ _ _ _ _ (Act.put _ (some 91) _) _
                simp only [Act.put, List.setIfInBounds_toArray, List.set_cons_zero, List.set_cons_succ]
                refine wpAnyH_take (i := 19) (v := ?vo19) rfl (by kernel_rfl) (by kernel_rfl) (by kernel_rfl) (fun _ _ _ h => h) (Or.inl ⟨by first | kernel_rfl | rfl, ?yo19⟩) hHeld ?ro19
                case yo19 => (intro W hSW; (try dsimp only at hSW); go_simp; (try with_reducible rfl))
                change wpAnyH _ _ _ _ _ _ _ (Act.put _ (some 92) _) _
                simp only [Act.put, List.setIfInBounds_toArray, List.set_cons_zero, List.set_cons_succ]
                refine wpAnyH_take (i := 20) (v := ?vo20) rfl (by kernel_rfl) (by kernel_rfl) (by kernel_rfl) (fun _ _ _ h => h) (Or.inl ⟨by first | kernel_rfl | rfl, ?yo20⟩) hHeld ?ro20
                case yo20 => (intro W hSW; (try dsimp only at hSW); go_simp; (try with_reducible rfl))
                change wpAnyH _ _ _ _ _ _ _ (Act.put _ (some 93) _) _
                simp only [Act.put, List.setIfInBounds_toArray, List.set_cons_zero, List.set_cons_succ]
                refine wpAnyH_take (i := 21) (v := ?vo21) rfl (by kernel_rfl) (by kernel_rfl) (by kernel_rfl) (fun _ _ _ h => h) (Or.inl ⟨by first | kernel_rfl | rfl, ?yo21⟩) hHeld ?ro21
                case yo21 => (intro W hSW; (try dsimp only at hSW); go_simp; (try with_reducible rfl))
                change wpAnyH _ _ _ _ _ _ _ (Act.put _ (some 94) _) _
                simp only [Act.put, List.setIfInBounds_toArray, List.set_cons_zero, List.set_cons_succ]
                refine wpAnyH_take (i := 22) (v := ?vo22) rfl (by kernel_rfl) (by kernel_rfl) (by kernel_rfl) (fun _ _ _ h => h) (Or.inl ⟨by first | kernel_rfl | rfl, ?yo22⟩) hHeld ?ro22
                case yo22 => (intro W hSW; (try dsimp only at hSW); go_simp; (try with_reducible rfl))
                change wpAnyH _ _ _ _ _ _ _ (Act.put _ (some 95) _) _
                simp only [Act.put, List.setIfInBounds_toArray, List.set_cons_zero, List.set_cons_succ]
                refine wpAnyH_take (i := 23) (v := .bool false) rfl (by kernel_rfl) (by kernel_rfl) (by kernel_rfl) (fun _ _ _ h => h) (Or.inl ⟨by first | kernel_rfl | rfl, ?yo23⟩) hHeld ?ro23
                case yo23 => (intro W hSW; (try dsimp only at hSW); go_simp; (try with_reducible rfl))
                change wpAnyH _ _ _ _ _ _ _ (Act.put _ (some 96) _) _
                simp only [Act.put, List.setIfInBounds_toArray, List.set_cons_zero, List.set_cons_succ]
                refine wpAnyH_take (i := 24) (v := .bool false) rfl (by kernel_rfl) (by kernel_rfl) (by kernel_rfl) (fun _ _ _ h => h) (Or.inl ⟨by first | kernel_rfl | rfl, ?yo24⟩) hHeld ?ro24
                case yo24 => (intro W hSW; (try dsimp only at hSW); go_simp; (try with_reducible rfl))
                change wpAnyH _ _ _ _ _ _ _ (Act.put _ (some 97) _) _
                simp only [Act.put, List.setIfInBounds_toArray, List.set_cons_zero, List.set_cons_succ]
                refine wpAnyH_done (by kernel_rfl) ?_ _
                clear hHeld
                go_wp2
                exact ⟨⟨k + 1, by omega, by go_num, HBK.out.drew⟩, by simp [intOf]; omega⟩
              · clear hqa
                go_wp2
                refine wp_region_held_drew (S := fun V => V.cell? ⟨b, o9 + k * 2, none⟩ = some (.int .i64 q.1) ∧ V.cell? ⟨b, o9 + k * 2 + 1, none⟩ = some (.int .i64 q.2) ∧ V.cell? ⟨B, 1, none⟩ = some (.int .i64 o.n)) (by kernel_rfl) (⟨e1d, e2d, e3d⟩) (fun hHeld => ?_)
                refine wpAnyH_take (i := 0) (v := ?vp0) rfl (by kernel_rfl) (by kernel_rfl) (by kernel_rfl) (fun _ _ _ h => h) (Or.inl ⟨by first | kernel_rfl | rfl, ?yp0⟩) hHeld ?rp0
                case yp0 => (intro W hSW; (try dsimp only at hSW); go_simp; (try with_reducible rfl))
                change wpAnyH _ _ _ _ _ _ _ (Act.put _ (some 73) _) _
                simp only [Act.put, List.setIfInBounds_toArray, List.set_cons_zero, List.set_cons_succ]
                refine wpAnyH_take (i := 1) (v := ?vp1) rfl (by kernel_rfl) (by kernel_rfl) (by kernel_rfl) (fun _ _ _ h => h) (Or.inl ⟨by first | kernel_rfl | rfl, ?yp1⟩) hHeld ?rp1
                case yp1 => (intro W hSW; (try dsimp only at hSW); go_simp; (try with_reducible rfl))
                change wpAnyH _ _ _ _ _ _ _ (Act.put _ (some 74) _) _
                simp only [Act.put, List.setIfInBounds_toArray, List.set_cons_zero, List.set_cons_succ]
                refine wpAnyH_take (i := 2) (v := ?vp2) rfl (by kernel_rfl) (by kernel_rfl) (by kernel_rfl) (fun _ _ _ h => h) (Or.inl ⟨by first | kernel_rfl | rfl, ?yp2⟩) hHeld ?rp2
                case yp2 => (intro W hSW; (try dsimp only at hSW); go_simp; (try with_reducible rfl))
                change wpAnyH _ _ _ _ _ _ _ (Act.put _ (some 75) _) _
                simp only [Act.put, List.setIfInBounds_toArray, List.set_cons_zero, List.set_cons_succ]
                refine wpAnyH_take (i := 3) (v := ?vp3) rfl (by kernel_rfl) (by kernel_rfl) (by kernel_rfl) (fun _ _ _ h => h) (Or.inl ⟨by first | kernel_rfl | rfl, ?yp3⟩) hHeld ?rp3
                case yp3 => (intro W hSW; (try dsimp only at hSW); go_simp; (try with_reducible rfl))
                change wpAnyH _ _ _ _ _ _ _ (Act.put _ (some 76) _) _
                simp only [Act.put, List.setIfInBounds_toArray, List.set_cons_zero, List.set_cons_succ]
                refine wpAnyH_take (i := 4) (v := ?vp4) rfl (by kernel_rfl) (by kernel_rfl) (by kernel_rfl) (fun _ _ _ h => h) (Or.inl ⟨by first | kernel_rfl | rfl, ?yp4⟩) hHeld ?rp4
                case yp4 => (intro W hSW; (try dsimp only at hSW); go_simp; (try with_reducible rfl))
                change wpAnyH _ _ _ _ _ _ _ (Act.put _ (some 77) _) _
                simp only [Act.put, List.setIfInBounds_toArray, List.set_cons_zero, List.set_cons_succ]
                refine wpAnyH_take (i := 5) (v := ?vp5) rfl (by kernel_rfl) (by kernel_rfl) (by kernel_rfl) (fun _ _ _ h => h) (Or.inl ⟨by first | kernel_rfl | rfl, ?yp5⟩) hHeld ?rp5
                case yp5 => (intro W hSW; (try dsimp only at hSW); go_simp; (try with_reducible rfl))
                change wpAnyH _ _ _ _ _ _ _ (Act.put _ (some 78) _) _
                simp only [Act.put, List.setIfInBounds_toArray, List.set_cons_zero, List.set_cons_succ]
                refine wpAnyH_take (i := 6) (v := ?vp6) rfl (by kernel_rfl) (by kernel_rfl) (by kernel_rfl) (fun _ _ _ h => h) (Or.inl ⟨by first | kernel_rfl | rfl, ?yp6⟩) hHeld ?rp6
                case yp6 => (intro W hSW; (try dsimp only at hSW); go_simp; (try with_reducible rfl))
                change wpAnyH _ _ _ _ _ _ _ (Act.put _ (some 79) _) _
                simp only [Act.put, List.setIfInBounds_toArray, List.set_cons_zero, List.set_cons_succ]
                refine wpAnyH_take (i := 7) (v := ?vp7) rfl (by kernel_rfl) (by kernel_rfl) (by kernel_rfl) (fun _ _ _ h => h) (Or.inl ⟨by first | kernel_rfl | rfl, ?yp7⟩) hHeld ?rp7
                case yp7 => (intro W hSW; (try dsimp only at hSW); go_simp; (try with_reducible rfl))
                change wpAnyH _ _ _ _ _ _ _ (Act.put _ (some 80) _) _
                simp only [Act.put, List.setIfInBounds_toArray, List.set_cons_zero, List.set_cons_succ]
                refine wpAnyH_take (i := 8) (v := ?vp8) rfl (by kernel_rfl) (by kernel_rfl) (by kernel_rfl) (fun _ _ _ h => h) (Or.inl ⟨by first | kernel_rfl | rfl, ?yp8⟩) hHeld ?rp8
                case yp8 => (intro W hSW; (try dsimp only at hSW); go_simp; (try with_reducible rfl))
                change wpAnyH _ _ _ _ _ _ _ (Act.put _ (some 81) _) _
                simp only [Act.put, List.setIfInBounds_toArray, List.set_cons_zero, List.set_cons_succ]
                refine wpAnyH_take (i := 9) (v := ?vp9) rfl (by kernel_rfl) (by kernel_rfl) (by kernel_rfl) (fun _ _ _ h => h) (Or.inl ⟨by first | kernel_rfl | rfl, ?yp9⟩) hHeld ?rp9
                case yp9 => (intro W hSW; (try dsimp only at hSW); go_simp; (try with_reducible rfl))
                change wpAnyH _ _ _ _ _ _ _ (Act.put _ (some 82) _) _
                simp only [Act.put, List.setIfInBounds_toArray, List.set_cons_zero, List.set_cons_succ]
                refine wpAnyH_take (i := 10) (v := ?vp10) rfl (by kernel_rfl) (by kernel_rfl) (by kernel_rfl) (fun _ _ _ h => h) (Or.inl ⟨by first | kernel_rfl | rfl, ?yp10⟩) hHeld ?rp10
                case yp10 => (intro W hSW; (try dsimp only at hSW); go_simp; (try with_reducible rfl))
                change wpAnyH _ _ _ _ _ _ _ (Act.put _ (some 83) _) _
                simp only [Act.put, List.setIfInBounds_toArray, List.set_cons_zero, List.set_cons_succ]
                refine wpAnyH_take (i := 11) (v := ?vp11) rfl (by kernel_rfl) (by kernel_rfl) (by kernel_rfl) (fun _ _ _ h => h) (Or.inl ⟨by first | kernel_rfl | rfl, ?yp11⟩) hHeld ?rp11
                case yp11 => (intro W hSW; (try dsimp only at hSW); go_simp; (try with_reducible rfl))
                change wpAnyH _ _ _ _ _ _ _ (Act.put _ (some 84) _) _
                simp only [Act.put, List.setIfInBounds_toArray, List.set_cons_zero, List.set_cons_succ]
                refine wpAnyH_take (i := 12) (v := .bool false) rfl (by kernel_rfl) (by kernel_rfl) (by kernel_rfl) (fun _ _ _ h => h) (Or.inl ⟨by first | kernel_rfl | rfl, ?yp12⟩) hHeld ?rp12
                case yp12 => (intro W hSW; (try dsimp only at hSW); go_simp; (try with_reducible rfl))
                change wpAnyH _ _ _ _ _ _ _ (Act.put _ (some 85) _) _
                simp only [Act.put, List.setIfInBounds_toArray, List.set_cons_zero, List.set_cons_succ]
                refine wpAnyH_take (i := 13) (v := .bool false) rfl (by kernel_rfl) (by kernel_rfl) (by kernel_rfl) (fun _ _ _ h => h) (Or.inl ⟨by first | kernel_rfl | rfl, ?yp13⟩) hHeld ?rp13
                case yp13 => (intro W hSW; (try dsimp only at hSW); go_simp; (try with_reducible rfl))
                change wpAnyH _ _ _ _ _ _ _ (Act.put _ (some 86) _) _
                simp only [Act.put, List.setIfInBounds_toArray, List.set_cons_zero, List.set_cons_succ]
                refine wpAnyH_take (i := 14) (v := undef) rfl (by kernel_rfl) (by kernel_rfl) (by kernel_rfl) (fun _ _ _ h => h) (Or.inr ⟨by first | kernel_rfl | rfl, rfl⟩) hHeld ?_
                change wpAnyH _ _ _ _ _ _ _ (Act.put _ (some 87) _) _
                simp only [Act.put, List.setIfInBounds_toArray, List.set_cons_zero, List.set_cons_succ]
                refine wpAnyH_take (i := 15) (v := undef) rfl (by kernel_rfl) (by kernel_rfl) (by kernel_rfl) (fun _ _ _ h => h) (Or.inr ⟨by first | kernel_rfl | rfl, rfl⟩) hHeld ?_
                change wpAnyH _ _ _ _ _ _ _ (Act.put _ (some 88) _) _
                simp only [Act.put, List.setIfInBounds_toArray, List.set_cons_zero, List.set_cons_succ]
                refine wpAnyH_take (i := 16) (v := undef) rfl (by kernel_rfl) (by kernel_rfl) (by kernel_rfl) (fun _ _ _ h => h) (Or.inr ⟨by first | kernel_rfl | rfl, rfl⟩) hHeld ?_
                change wpAnyH _ _ _ _ _ _ _ (Act.put _ (some 89) _) _
                simp only [Act.put, List.setIfInBounds_toArray, List.set_cons_zero, List.set_cons_succ]
                refine wpAnyH_take (i := 17) (v := undef) rfl (by kernel_rfl) (by kernel_rfl) (by kernel_rfl) (fun _ _ _ h => h) (Or.inr ⟨by first | kernel_rfl | rfl, rfl⟩) hHeld ?_
                change wpAnyH _ _ _ _ _ _ _ (Act.put _ (some 90) _) _
                simp only [Act.put, List.setIfInBounds_toArray, List.set_cons_zero, List.set_cons_succ]
                refine wpAnyH_take (i := 18) (v := undef) rfl (by kernel_rfl) (by kernel_rfl) (by kernel_rfl) (fun _ _ _ h => h) (Or.inr ⟨by first | kernel_rfl | rfl, rfl⟩) hHeld ?_
                change wpAnyH _ _ _ _ _ _ _ (Act.put _ (some 91) _) _
                simp only [Act.put, List.setIfInBounds_toArray, List.set_cons_zero, List.set_cons_succ]
                refine wpAnyH_take (i := 19) (v := undef) rfl (by kernel_rfl) (by kernel_rfl) (by kernel_rfl) (fun _ _ _ h => h) (Or.inr ⟨by first | kernel_rfl | rfl, rfl⟩) hHeld ?_
                change wpAnyH _ _ _ _ _ _ _ (Act.put _ (some 92) _) _
                simp only [Act.put, List.setIfInBounds_toArray, List.set_cons_zero, List.set_cons_succ]
                refine wpAnyH_take (i := 20) (v := undef) rfl (by kernel_rfl) (by kernel_rfl) (by kernel_rfl) (fun _ _ _ h => h) (Or.inr ⟨by first | kernel_rfl | rfl, rfl⟩) hHeld ?_
                change wpAnyH _ _ _ _ _ _ _ (Act.put _ (some 93) _) _
                simp only [Act.put, List.setIfInBounds_toArray, List.set_cons_zero, List.set_cons_succ]
                refine wpAnyH_take (i := 21) (v := undef) rfl (by kernel_rfl) (by kernel_rfl) (by kernel_rfl) (fun _ _ _ h => h) (Or.inr ⟨by first | kernel_rfl | rfl, rfl⟩) hHeld ?_
                change wpAnyH _ _ _ _ _ _ _ (Act.put _ (some 94) _) _
                simp only [Act.put, List.setIfInBounds_toArray, List.set_cons_zero, List.set_cons_succ]
                refine wpAnyH_take (i := 22) (v := undef) rfl (by kernel_rfl) (by kernel_rfl) (by kernel_rfl) (fun _ _ _ h => h) (Or.inr ⟨by first | kernel_rfl | rfl, rfl⟩) hHeld ?_
                change wpAnyH _ _ _ _ _ _ _ (Act.put _ (some 95) _) _
                simp only [Act.put, List.setIfInBounds_toArray, List.set_cons_zero, List.set_cons_succ]
                refine wpAnyH_take (i := 23) (v := undef) rfl (by kernel_rfl) (by kernel_rfl) (by kernel_rfl) (fun _ _ _ h => h) (Or.inr ⟨by first | kernel_rfl | rfl, rfl⟩) hHeld ?_
                change wpAnyH _ _ _ _ _ _ _ (Act.put _ (some 96) _) _
                simp only [Act.put, List.setIfInBounds_toArray, List.set_cons_zero, List.set_cons_succ]
                refine wpAnyH_take (i := 24) (v := .bool false) rfl (by kernel_rfl) (by kernel_rfl) (by kernel_rfl) (fun _ _ _ h => h) (Or.inl ⟨by first | kernel_rfl | rfl, ?yp24⟩) hHeld ?rp24
                case yp24 => (intro W hSW; (try dsimp only at hSW); go_simp; (try with_reducible rfl))
                change wpAnyH _ _ _ _ _ _ _ (Act.put _ (some 97) _) _
                simp only [Act.put, List.setIfInBounds_toArray, List.set_cons_zero, List.set_cons_succ]
                refine wpAnyH_done (by kernel_rfl) ?_ _
                clear hHeld
                go_wp2
                exact ⟨⟨k + 1, by omega, by go_num, HBK.out.drew⟩, by simp [intOf]; omega⟩
            · obtain rfl : k = n := by omega
              have kkn : ¬ (k : Int) < (k : Int) := by omega
              have g1r : wr.cell? ⟨B, 1, none⟩ = some (.int .i64 o.n) := keepc hbk g1
              obtain ⟨C, hC⟩ : ∃ C, wr.heap.size = C := ⟨_, rfl⟩
              obtain ⟨W6, hW6⟩ : ∃ W6, wr.alloc (.cells #[.int .i64 r1, .int .i64 o.n] 37) = W6 := ⟨_, rfl⟩
              have hb6 : Below wr.heap.size wr W6 := by rw [← hW6]; exact (Below.refl _ _).alloc (Nat.le_refl _) _
              have h6 : Blk W6 C (spsV [(r1, o.n)]) := by rw [spsV_one1]; unfold Blk; rw [← hW6, ← hC]; exact heap_alloc_new _ _
              have hb26 : Below V2.heap.size V2 W6 := hbk.trans (hb6.mono hbk.size)
              have hr6 := HL2.out.2.2.1.below hb26
              have hB6 : w.heap.size ≤ W6.heap.size := Nat.le_trans HL2.out.2.2.2.2.size hb26.size
              obtain ⟨a', c', w7, hap, hr7, hat7, hu7⟩ := out_add hr6 hB6 (by omega) h6
              have HRS : Hid (RelS w sz ab i (.slice a' (k + 1) c') w7) := ⟨X', more S W1 V2, a', k + 1, c', out ++ [(r1, o.n)], rfl, by omega,
                (HL2.out.1.below hb26).upd hu7 (fun x hx ha => HL2.out.2.2.2.1 x ha hx), HL2.out.2.1, HO.out.1, HO.out.2.2, hr7, fun x hx hs => (hat7 x hx).elim (fun h2 => HL2.out.2.2.2.1 x h2 hs) (fun h2 => by have := HL2.out.1.bd x hs; have := hb26.size; omega),
                (HL2.out.2.2.2.2.trans (hb26.mono HL2.out.2.2.2.2.size)).trans (hu7.below hB6 (fun x hx => (hr6.fr x hx).1))⟩
              clear hbk HBK hb6 h6 hb26 hr6 hr7 hat7 hu7 g1
              go_wp2_with (at_builtin; refine Lib.wpList_append_run _ rfl _ _ _ _ rfl _ _ rfl rfl _ _ hap ?_)
              go_meet
              case rel => exact HRS.out
      · as_aux_lemma =>
        have hkb : (o.kind == 0) = false := by simpa using hk0
        clear hk0 d0 d1 d2 d3 d4
        by_cases hn0 : 0 < n
        rotate_left
        · have kn0 : ¬ (0 : Int) < (n : Int) := by omega
          have HRS : Hid (RelS w sz ab i (.slice a n c) W1) := ⟨X, S, a, n, c, out, rfl, by omega, HL1.out⟩
          clear hn0
          go_wp2
          go_meet
          case rel => exact HRS.out
        · have kn0 : (0 : Int) < (n : Int) := by omega
          go_upto_if 110 with fail
          go_cut [13] from 30 to 206 (fun v13 wx => RelK W1 n v13 wx)
          case first =>
            by_cases hp : 0 < o.n
            · obtain ⟨kq, hkq⟩ : ∃ kq : Nat, o.n % (n : Int) = (kq : Int) := ⟨(o.n % (n : Int)).toNat, by have := Int.emod_nonneg o.n (show (n : Int) ≠ 0 by omega); omega⟩
              have hkl : kq < n := by have := Int.emod_lt_of_pos o.n kn0; omega
              have HRK : Hid (RelK W1 n (.int .i64 (o.n % (n : Int))) W1) := ⟨kq, hkl, by rw [hkq], rfl⟩
              have hnz : ¬ (n : Int) = 0 := by omega
              clear hkl hkq
              go_wp2
              go_meet
              case rel => exact HRK.out
            · have hp2 : ¬ (0 : Int) < o.n := by omega
              have HRK : Hid (RelK W1 n (.int .i64 0) W1) := ⟨0, hn0, rfl, rfl⟩
              clear hp
              go_wp2
              go_meet
              case rel => exact HRK.out
          case rest =>
          obtain ⟨k, hkn, rfl, rfl⟩ := hcut
          have hsp := HL1.out.row.sp
          have hnn := hsp.hcp
          have hmx := hsp.hmx
          have hnl := hsp.hl
          obtain ⟨q, hq⟩ : ∃ q, out[k]? = some q := ⟨_, List.getElem?_eq_getElem (by omega)⟩
          obtain ⟨b, o9, rfl, hb, hcs⟩ := hsp.hat (by omega)
          obtain ⟨e1, e2⟩ := hcs k q hq
          have kkn : (k : Int) < (n : Int) := by omega
          obtain ⟨gv1, gv2, gv3, gv4⟩ := HL1.out.inv.give hq
          have HG1 := give_any HL1.out.ar q
          rw [gv1] at HG1
          have HGV : Hid ((X.give q).1.sz = sz ∧ Out (X.give q).1 (out.take k ++ out.drop (k + 1)) ∧ (X.give q).1.give q = ((X.give q).1, 8)) := ⟨by rw [gv2]; exact HL1.out.sz, gv3, gv4⟩
          obtain ⟨X', hX'⟩ : ∃ x, (X.give q).1 = x := ⟨_, rfl⟩
          rw [hX'] at HG1 HGV
          clear gv1 gv2 gv3 gv4 hX' hcs hq hsp f0 f1 f2
          go_wp2_with fail
          refine HG1.mono ?_
          rintro e V2 hto
          have HTO : Hid (ATo wc S ab X' (.int .i64 0) e V2) := hto
          obtain ⟨rfl, ha2, hu2⟩ := hto
          have hrow2 := HL1.out.row.upd hu2 HL1.out.ap
          have HL2 : Hid (AIs V2 (more S wc V2) ab X' ∧ (∀ x, more S wc V2 x → w.heap.size ≤ x) ∧ OutR V2 w.heap.size (some ⟨b, o9, none⟩) n c out ∧ (∀ x, ob (some ⟨b, o9, none⟩) = some x → ¬ more S wc V2 x) ∧ Below w.heap.size w V2) :=
            ⟨ha2, fun x hx => hx.elim (HL1.out.fr x) (fun h2 => Nat.le_trans HL1.out.bel.size h2.1), hrow2, fun x hx hm => hm.elim (HL1.out.ap x hx) (fun h2 => by have := (HL1.out.row.fr x hx).2; omega), HL1.out.bel.trans (hu2.below HL1.out.bel.size HL1.out.fr)⟩
          have e3 : V2.cell? ⟨b, o9 + k * 2, none⟩ = some (.int .i64 q.1) := (World.cell?_of_block (a := ⟨b, o9 + k * 2, none⟩) (hu2.block b hb (HL1.out.ap b rfl))).trans e1
          have e4 : V2.cell? ⟨b, o9 + k * 2 + 1, none⟩ = some (.int .i64 q.2) := (World.cell?_of_block (a := ⟨b, o9 + k * 2 + 1, none⟩) (hu2.block b hb (HL1.out.ap b rfl))).trans e2
          have HG2 := give_any ha2 q
          rw [HGV.out.2.2] at HG2
          clear HG1 ha2 hu2 hrow2 HTO e1 e2 HL1
          go_wp2_with fail
          refine HG2.mono ?_
          rintro e V3 hto
          obtain ⟨rfl, ha3, hu3⟩ := hto
          have hrow3 := HL2.out.2.2.1.upd hu3 HL2.out.2.2.2.1
          have HL3 : Hid (AIs V3 (more (more S wc V2) V2 V3) ab X' ∧ (∀ x, more (more S wc V2) V2 V3 x → w.heap.size ≤ x) ∧ OutR V3 w.heap.size (some ⟨b, o9, none⟩) n c out ∧ (∀ x, ob (some ⟨b, o9, none⟩) = some x → ¬ more (more S wc V2) V2 V3 x) ∧ Below w.heap.size w V3) :=
            ⟨ha3, fun x hx => hx.elim (HL2.out.2.1 x) (fun h2 => Nat.le_trans HL2.out.2.2.2.2.size h2.1), hrow3, fun x hx hm => hm.elim (HL2.out.2.2.2.1 x hx) (fun h2 => by have := (HL2.out.2.2.1.fr x hx).2; omega), HL2.out.2.2.2.2.trans (hu3.below HL2.out.2.2.2.2.size HL2.out.2.1)⟩
          have HFIN : Hid (∀ (a' : Option Addr) (c' : Nat) (w7 : World), OutR w7 w.heap.size a' (n - 1) c' (out.take k ++ out.drop (k + 1)) → (∀ x, ob a' = some x → x = b ∨ x = V3.heap.size) → Below V3.heap.size V3.drew w7 → RelS w sz ab i (.slice a' (n - 1) c') w7) := fun a' c' w7 h1 h2 h3 =>
            ⟨X', _, a', n - 1, c', _, rfl, by omega, HL3.out.1.below (show Below V3.heap.size V3 w7 from (Below.refl _ V3).drew.trans h3), HL3.out.2.1, HGV.out.2.1, HGV.out.1, h1, fun x hx hs => (h2 x hx).elim (fun h4 => HL3.out.2.2.2.1 b rfl (h4 ▸ hs)) (fun h4 => by have := HL3.out.1.bd x hs; omega), HL3.out.2.2.2.2.trans ((show Below V3.heap.size V3 w7 from (Below.refl _ V3).drew.trans h3).mono HL3.out.2.2.2.2.size)⟩
          have hr3d : OutR V3.drew w.heap.size (some ⟨b, o9, none⟩) n c out := HL3.out.2.2.1.below (Below.refl _ _).drew
          have htn : ((k : Int) + 1).toNat = k + 1 := by omega
          have kw1 : IntKind.i64.wrap ((k : Int) + 1) = (k : Int) + 1 := by rw [IntKind.wrap_i64]; omega
          have kc1 : (k : Int) ≤ (c : Int) := by omega
          have kc2 : (k : Int) + 1 ≤ (n : Int) := by omega
          have kc3 : (0 : Int) ≤ (k : Int) + 1 := by omega
          have kk0 : k ≤ c := by omega
          clear HG2 ha3 hu3 hrow3 HL2 e3 e4 HGV hb
          by_cases hck : c = k + 1
          · have hnk : n = k + 1 := by omega
            obtain ⟨a', c', w7, hap, hr7, hat7, hb7⟩ := out_cut hr3d (show w.heap.size ≤ V3.heap.size from HL3.out.2.2.2.2.size) (by omega) hkn (some ⟨b, o9, none⟩) 0 (fun h => absurd h (by omega))
            have HRS : Hid (RelS w sz ab i (.slice a' (n - 1) c') w7) := HFIN.out a' c' w7 hr7 hat7 hb7
            rw [show n - (k + 1) = 0 by omega] at hap
            have hn1 : n - 1 = k := by omega
            rw [hn1] at hap HRS
            clear HFIN hr3d hr7 hat7 hb7 hn1
            subst hck
            have kc5 : (k : Int) ≤ (k : Int) + 1 := by omega
            go_wp2
            refine wp_region_held_drew (S := fun _ => True) (by kernel_rfl) (trivial) (fun hHeld => ?_)
            refine wpAnyH_take (i := 0) (v := ?vs0) rfl (by kernel_rfl) (by kernel_rfl) (by kernel_rfl) (fun _ _ _ h => h) (Or.inl ⟨by first | kernel_rfl | rfl, ?ys0⟩) hHeld ?rs0
            case ys0 => (intro W hSW; (try dsimp only at hSW); go_simp; (try with_reducible rfl))
            change wpAnyH _ _ _ _ _ _ _ (Act.put _ (some 132) _) _
            simp only [Act.put, List.setIfInBounds_toArray, List.set_cons_zero, List.set_cons_succ]
            refine wpAnyH_take (i := 1) (v := ?vs1) rfl (by kernel_rfl) (by kernel_rfl) (by kernel_rfl) (fun _ _ _ h => h) (Or.inl ⟨by first | kernel_rfl | rfl, ?ys1⟩) hHeld ?rs1
            case ys1 => (intro W hSW; (try dsimp only at hSW); go_simp; (try with_reducible rfl))
            change wpAnyH _ _ _ _ _ _ _ (Act.put _ (some 133) _) _
            simp only [Act.put, List.setIfInBounds_toArray, List.set_cons_zero, List.set_cons_succ]
            refine wpAnyH_take (i := 2) (v := ?vs2) rfl (by kernel_rfl) (by kernel_rfl) (by kernel_rfl) (fun _ _ _ h => h) (Or.inl ⟨by first | kernel_rfl | rfl, ?ys2⟩) hHeld ?rs2
            case ys2 => (intro W hSW; (try dsimp only at hSW); go_simp; (try with_reducible rfl))
            change wpAnyH _ _ _ _ _ _ _ (Act.put _ (some 134) _) _
            simp only [Act.put, List.setIfInBounds_toArray, List.set_cons_zero, List.set_cons_succ]
            refine wpAnyH_take (i := 3) (v := ?vs3) rfl (by kernel_rfl) (by kernel_rfl) (by kernel_rfl) (fun _ _ _ h => h) (Or.inl ⟨by first | kernel_rfl | rfl, ?ys3⟩) hHeld ?rs3
            case ys3 => (intro W hSW; (try dsimp only at hSW); go_simp; (try with_reducible rfl))
            change wpAnyH _ _ _ _ _ _ _ (Act.put _ (some 135) _) _
            simp only [Act.put, List.setIfInBounds_toArray, List.set_cons_zero, List.set_cons_succ]
            refine wpAnyH_take (i := 4) (v := ?vs4) rfl (by kernel_rfl) (by kernel_rfl) (by kernel_rfl) (fun _ _ _ h => h) (Or.inl ⟨by first | kernel_rfl | rfl, ?ys4⟩) hHeld ?rs4
            case ys4 => (intro W hSW; (try dsimp only at hSW); go_simp; (try with_reducible rfl))
            change wpAnyH _ _ _ _ _ _ _ (Act.put _ (some 136) _) _
            simp only [Act.put, List.setIfInBounds_toArray, List.set_cons_zero, List.set_cons_succ]
            refine wpAnyH_take (i := 5) (v := ?vs5) rfl (by kernel_rfl) (by kernel_rfl) (by kernel_rfl) (fun _ _ _ h => h) (Or.inl ⟨by first | kernel_rfl | rfl, ?ys5⟩) hHeld ?rs5
            case ys5 => (intro W hSW; (try dsimp only at hSW); go_simp; (try with_reducible rfl))
            change wpAnyH _ _ _ _ _ _ _ (Act.put _ (some 137) _) _
            simp only [Act.put, List.setIfInBounds_toArray, List.set_cons_zero, List.set_cons_succ]
            refine wpAnyH_take (i := 6) (v := ?vs6) rfl (by kernel_rfl) (by kernel_rfl) (by kernel_rfl) (fun _ _ _ h => h) (Or.inl ⟨by first | kernel_rfl | rfl, ?ys6⟩) hHeld ?rs6
            case ys6 => (intro W hSW; (try dsimp only at hSW); go_simp; (try with_reducible rfl))
            change wpAnyH _ _ _ _ _ _ _ (Act.put _ (some 138) _) _
            simp only [Act.put, List.setIfInBounds_toArray, List.set_cons_zero, List.set_cons_succ]
            refine wpAnyH_take (i := 7) (v := ?vs7) rfl (by kernel_rfl) (by kernel_rfl) (by kernel_rfl) (fun _ _ _ h => h) (Or.inl ⟨by first | kernel_rfl | rfl, ?ys7⟩) hHeld ?rs7
            case ys7 => (intro W hSW; (try dsimp only at hSW); go_simp; (try with_reducible rfl))
            change wpAnyH _ _ _ _ _ _ _ (Act.put _ (some 139) _) _
            simp only [Act.put, List.setIfInBounds_toArray, List.set_cons_zero, List.set_cons_succ]
            refine wpAnyH_ready (rs := [8]) (by kernel_rfl) (by simp) ?_
            refine AllReadyH.cons rfl (fun K hK => ?_) AllReadyH.nil
            rw [if_pos (by rfl)]
            refine Lib.wp_append_run _ _ _ 33 33 rfl _ _ rfl rfl _ _ hap ?_
            skip
            refine hK.out _ _ (trivial) (fun hHeld => ?_)
            clear hK K
            change wpAnyH _ _ _ _ _ _ _ (Act.put _ (some 140) _) _
            simp only [Act.put, List.setIfInBounds_toArray, List.set_cons_zero, List.set_cons_succ]
            refine wpAnyH_take (i := 9) (v := ?vs9) rfl (by kernel_rfl) (by kernel_rfl) (by kernel_rfl) (fun _ _ _ h => h) (Or.inl ⟨by first | kernel_rfl | rfl, ?ys9⟩) hHeld ?rs9
            case ys9 => (intro W hSW; (try dsimp only at hSW); go_simp; (try with_reducible rfl))
            change wpAnyH _ _ _ _ _ _ _ (Act.put _ (some 7) _) _
            simp only [Act.put, List.setIfInBounds_toArray, List.set_cons_zero, List.set_cons_succ]
            refine wpAnyH_done (by kernel_rfl) ?_ _
            clear hHeld
            go_wp2
            go_meet
            case rel => exact HRS.out
          · obtain ⟨a', c', w7, hap, hr7, hat7, hb7⟩ := out_cut hr3d (show w.heap.size ≤ V3.heap.size from HL3.out.2.2.2.2.size) (by omega) hkn (some ⟨b, o9 + (k + 1) * 2, none⟩) (c - (k + 1)) (fun _ => rfl)
            have HRS : Hid (RelS w sz ab i (.slice a' (n - 1) c') w7) := HFIN.out a' c' w7 hr7 hat7 hb7
            clear HFIN hr3d hr7 hat7 hb7
            go_wp2
            refine wp_region_held_drew (S := fun _ => True) (by kernel_rfl) (trivial) (fun hHeld => ?_)
            refine wpAnyH_take (i := 0) (v := ?vt0) rfl (by kernel_rfl) (by kernel_rfl) (by kernel_rfl) (fun _ _ _ h => h) (Or.inl ⟨by first | kernel_rfl | rfl, ?yt0⟩) hHeld ?rt0
            case yt0 => (intro W hSW; (try dsimp only at hSW); go_simp; (try with_reducible rfl))
            change wpAnyH _ _ _ _ _ _ _ (Act.put _ (some 132) _) _
            simp only [Act.put, List.setIfInBounds_toArray, List.set_cons_zero, List.set_cons_succ]
            refine wpAnyH_take (i := 1) (v := ?vt1) rfl (by kernel_rfl) (by kernel_rfl) (by kernel_rfl) (fun _ _ _ h => h) (Or.inl ⟨by first | kernel_rfl | rfl, ?yt1⟩) hHeld ?rt1
            case yt1 => (intro W hSW; (try dsimp only at hSW); go_simp; (try with_reducible rfl))
            change wpAnyH _ _ _ _ _ _ _ (Act.put _ (some 133) _) _
            simp only [Act.put, List.setIfInBounds_toArray, List.set_cons_zero, List.set_cons_succ]
            refine wpAnyH_take (i := 2) (v := ?vt2) rfl (by kernel_rfl) (by kernel_rfl) (by kernel_rfl) (fun _ _ _ h => h) (Or.inl ⟨by first | kernel_rfl | rfl, ?yt2⟩) hHeld ?rt2
            case yt2 => (intro W hSW; (try dsimp only at hSW); go_simp; (try with_reducible rfl))
            change wpAnyH _ _ _ _ _ _ _ (Act.put _ (some 134) _) _
            simp only [Act.put, List.setIfInBounds_toArray, List.set_cons_zero, List.set_cons_succ]
            refine wpAnyH_take (i := 3) (v := ?vt3) rfl (by kernel_rfl) (by kernel_rfl) (by kernel_rfl) (fun _ _ _ h => h) (Or.inl ⟨by first | kernel_rfl | rfl, ?yt3⟩) hHeld ?rt3
            case yt3 => (intro W hSW; (try dsimp only at hSW); go_simp; (try with_reducible rfl))
            change wpAnyH _ _ _ _ _ _ _ (Act.put _ (some 135) _) _
            simp only [Act.put, List.setIfInBounds_toArray, List.set_cons_zero, List.set_cons_succ]
            refine wpAnyH_take (i := 4) (v := ?vt4) rfl (by kernel_rfl) (by kernel_rfl) (by kernel_rfl) (fun _ _ _ h => h) (Or.inl ⟨by first | kernel_rfl | rfl, ?yt4⟩) hHeld ?rt4
            case yt4 => (intro W hSW; (try dsimp only at hSW); go_simp; (try with_reducible rfl))
            change wpAnyH _ _ _ _ _ _ _ (Act.put _ (some 136) _) _
            simp only [Act.put, List.setIfInBounds_toArray, List.set_cons_zero, List.set_cons_succ]
            refine wpAnyH_take (i := 5) (v := ?vt5) rfl (by kernel_rfl) (by kernel_rfl) (by kernel_rfl) (fun _ _ _ h => h) (Or.inl ⟨by first | kernel_rfl | rfl, ?yt5⟩) hHeld ?rt5
            case yt5 => (intro W hSW; (try dsimp only at hSW); go_simp; (try with_reducible rfl))
            change wpAnyH _ _ _ _ _ _ _ (Act.put _ (some 137) _) _
            simp only [Act.put, List.setIfInBounds_toArray, List.set_cons_zero, List.set_cons_succ]
            refine wpAnyH_take (i := 6) (v := ?vt6) rfl (by kernel_rfl) (by kernel_rfl) (by kernel_rfl) (fun _ _ _ h => h) (Or.inl ⟨by first | kernel_rfl | rfl, ?yt6⟩) hHeld ?rt6
            case yt6 => (intro W hSW; (try dsimp only at hSW); go_simp; (try with_reducible rfl))
            change wpAnyH _ _ _ _ _ _ _ (Act.put _ (some 138) _) _
            simp only [Act.put, List.setIfInBounds_toArray, List.set_cons_zero, List.set_cons_succ]
            refine wpAnyH_take (i := 7) (v := ?vt7) rfl (by kernel_rfl) (by kernel_rfl) (by kernel_rfl) (fun _ _ _ h => h) (Or.inl ⟨by first | kernel_rfl | rfl, ?yt7⟩) hHeld ?rt7
            case yt7 => (intro W hSW; (try dsimp only at hSW); go_simp; (try with_reducible rfl))
            change wpAnyH _ _ _ _ _ _ _ (Act.put _ (some 139) _) _
            simp only [Act.put, List.setIfInBounds_toArray, List.set_cons_zero, List.set_cons_succ]
            refine wpAnyH_ready (rs := [8]) (by kernel_rfl) (by simp) ?_
            refine AllReadyH.cons rfl (fun K hK => ?_) AllReadyH.nil
            rw [if_pos (by rfl)]
            refine Lib.wp_append_run _ _ _ 33 33 rfl _ _ rfl rfl _ _ hap ?_
            skip
            refine hK.out _ _ (trivial) (fun hHeld => ?_)
            clear hK K
            change wpAnyH _ _ _ _ _ _ _ (Act.put _ (some 140) _) _
            simp only [Act.put, List.setIfInBounds_toArray, List.set_cons_zero, List.set_cons_succ]
            refine wpAnyH_take (i := 9) (v := ?vt9) rfl (by kernel_rfl) (by kernel_rfl) (by kernel_rfl) (fun _ _ _ h => h) (Or.inl ⟨by first | kernel_rfl | rfl, ?yt9⟩) hHeld ?rt9
            case yt9 => (intro W hSW; (try dsimp only at hSW); go_simp; (try with_reducible rfl))
            change wpAnyH _ _ _ _ _ _ _ (Act.put _ (some 7) _) _
            simp only [Act.put, List.setIfInBounds_toArray, List.set_cons_zero, List.set_cons_succ]
            refine wpAnyH_done (by kernel_rfl) ?_ _
            clear hHeld
            go_wp2
            go_meet
            case rel => exact HRS.out
    case rest =>
    as_aux_lemma =>
    obtain ⟨X, S, a, n, c, out, rfl, hni, hL⟩ := hcut
    have HL : Hid (LpI w wc sz ab X S a n c out) := hL
    clear hL
    have HFR := free_any HL.out.ar
    have HSM : Hid (∀ k, k ≤ n → 0 ≤ sumS (out.take k) ∧ sumS (out.take k) ≤ sumS out) := fun k _ => sum_part2 (fun s hs => (HL.out.inv.in_ s hs).2.1) k
    have hsm := HL.out.inv.sum
    have hszz := HL.out.inv.ok.s2
    have hszq := HL.out.sz
    have hh0 : 0 ≤ sumS X.hs := (HL.out.inv.ok.g.sum (by omega)).1
    obtain ⟨m0, hm0⟩ : ∃ m0, sumS X.hs = m0 := ⟨_, rfl⟩
    rw [hm0] at HFR hsm hh0
    have HM0 : Hid (m0 + sumS out = (sz : Int)) := by show _ = _; omega
    clear hm0 hszq
    go_wp2_with fail
    refine HFR.mono ?_
    rintro e V1 ⟨rfl, hV1⟩
    have HL1 : Hid (LpI w V1 sz ab X S a n c out) := HL.out.below hV1
    clear HFR hV1 HL
    go_wp2
    go_loopw [14, 15] (fun v14 v15 wr => ∃ k : Nat, k ≤ n ∧ v15 = .int .i64 (k : Int) ∧ v14 = .int .i64 (m0 + sumS (out.take k)) ∧ LpI w wr sz ab X S a n c out) (fun _ v _ => n - (intOf v).toNat)
    case atStart => exact ⟨0, by omega, rfl, by simp [sumS], HL1.out⟩
    case round =>
      clear HL1
      obtain ⟨k, hk, rfl, rfl, hL⟩ := hrel
      have HL2 : Hid (LpI w wr sz ab X S a n c out) := hL
      by_cases hlt : k < n
      · have kk : (k : Int) < (n : Int) := by omega
        have hnn := hL.row.sp.hcp
        have hnl := hL.row.sp.hl
        obtain ⟨q, hq⟩ : ∃ q, out[k]? = some q := ⟨_, List.getElem?_eq_getElem (by omega)⟩
        obtain ⟨b, o, rfl, hb, hcs⟩ := hL.row.sp.hat (by omega)
        obtain ⟨e1, e2⟩ := hcs k q hq
        have e1d : wr.drew.cell? ⟨b, o + k * 2, none⟩ = some (.int .i64 q.1) := e1
        have e2d : wr.drew.cell? ⟨b, o + k * 2 + 1, none⟩ = some (.int .i64 q.2) := e2
        obtain ⟨q1, q2, q3, _⟩ := hL.inv.in_ q (List.mem_of_getElem? hq)
        have hst := sum_step hq
        have hp1 := HSM.out (k + 1) (by omega)
        have hp0 := HSM.out k (by omega)
        obtain ⟨s0, hs0⟩ : ∃ s0, sumS (out.take k) = s0 := ⟨_, rfl⟩
        rw [hs0] at hst hp0 ⊢
        have hw : IntKind.i64.wrap (m0 + s0 + q.2) = m0 + s0 + q.2 := wr64_in ⟨by omega, by omega⟩
        have hq3 : q.1 + q.2 ≤ (sz : Int) := by rw [← hL.sz]; exact q3
        have hw2 : IntKind.i64.wrap ((sz : Int) - q.1) = (sz : Int) - q.1 := wr64_in ⟨by omega, by omega⟩
        have hlt1 : ¬ q.1 < 0 := by omega
        have hlt2 : ¬ q.2 > (sz : Int) - q.1 := by omega
        have HST : Hid (m0 + sumS (out.take (k + 1)) = m0 + s0 + q.2) := by show _ = _; rw [hst]; omega
        clear hcs hq hL hst hp1 hp0 hs0 hsm hszz hh0 q3
        go_wp2
        refine wp_region_held_drew (S := fun V => V.cell? ⟨b, o + k * 2, none⟩ = some (.int .i64 q.1) ∧ V.cell? ⟨b, o + k * 2 + 1, none⟩ = some (.int .i64 q.2)) (by kernel_rfl) (⟨e1d, e2d⟩) (fun hHeld => ?_)
        refine wpAnyH_take (i := 0) (v := ?vu40) rfl (by kernel_rfl) (by kernel_rfl) (by kernel_rfl) (fun _ _ _ h => h) (Or.inl ⟨by first | kernel_rfl | rfl, ?yu40⟩) hHeld ?ru40
        case yu40 => (intro W hSW; (try dsimp only at hSW); go_simp; (try with_reducible rfl))
        change wpAnyH _ _ _ _ _ _ _ (Act.put _ (some 156) _) _
        simp only [Act.put, List.setIfInBounds_toArray, List.set_cons_zero, List.set_cons_succ]
        refine wpAnyH_take (i := 1) (v := ?vu41) rfl (by kernel_rfl) (by kernel_rfl) (by kernel_rfl) (fun _ _ _ h => h) (Or.inl ⟨by first | kernel_rfl | rfl, ?yu41⟩) hHeld ?ru41
        case yu41 => (intro W hSW; (try dsimp only at hSW); go_simp; (try with_reducible rfl))
        change wpAnyH _ _ _ _ _ _ _ (Act.put _ (some 157) _) _
        simp only [Act.put, List.setIfInBounds_toArray, List.set_cons_zero, List.set_cons_succ]
        refine wpAnyH_take (i := 2) (v := ?vu42) rfl (by kernel_rfl) (by kernel_rfl) (by kernel_rfl) (fun _ _ _ h => h) (Or.inl ⟨by first | kernel_rfl | rfl, ?yu42⟩) hHeld ?ru42
        case yu42 => (intro W hSW; (try dsimp only at hSW); go_simp; (try with_reducible rfl))
        change wpAnyH _ _ _ _ _ _ _ (Act.put _ (some 158) _) _
        simp only [Act.put, List.setIfInBounds_toArray, List.set_cons_zero, List.set_cons_succ]
        refine wpAnyH_take (i := 3) (v := ?vu43) rfl (by kernel_rfl) (by kernel_rfl) (by kernel_rfl) (fun _ _ _ h => h) (Or.inl ⟨by first | kernel_rfl | rfl, ?yu43⟩) hHeld ?ru43
        case yu43 => (intro W hSW; (try dsimp only at hSW); go_simp; (try with_reducible rfl))
        change wpAnyH _ _ _ _ _ _ _ (Act.put _ (some 159) _) _
        simp only [Act.put, List.setIfInBounds_toArray, List.set_cons_zero, List.set_cons_succ]
        refine wpAnyH_take (i := 4) (v := ?vu44) rfl (by kernel_rfl) (by kernel_rfl) (by kernel_rfl) (fun _ _ _ h => h) (Or.inl ⟨by first | kernel_rfl | rfl, ?yu44⟩) hHeld ?ru44
        case yu44 => (intro W hSW; (try dsimp only at hSW); go_simp; (try with_reducible rfl))
        change wpAnyH _ _ _ _ _ _ _ (Act.put _ (some 160) _) _
        simp only [Act.put, List.setIfInBounds_toArray, List.set_cons_zero, List.set_cons_succ]
        refine wpAnyH_take (i := 5) (v := .bool false) rfl (by kernel_rfl) (by kernel_rfl) (by kernel_rfl) (fun _ _ _ h => h) (Or.inl ⟨by first | kernel_rfl | rfl, ?yu45⟩) hHeld ?ru45
        case yu45 => (intro W hSW; (try dsimp only at hSW); go_simp; (try with_reducible rfl))
        change wpAnyH _ _ _ _ _ _ _ (Act.put _ (some 161) _) _
        simp only [Act.put, List.setIfInBounds_toArray, List.set_cons_zero, List.set_cons_succ]
        refine wpAnyH_take (i := 6) (v := .bool false) rfl (by kernel_rfl) (by kernel_rfl) (by kernel_rfl) (fun _ _ _ h => h) (Or.inl ⟨by first | kernel_rfl | rfl, ?yu46⟩) hHeld ?ru46
        case yu46 => (intro W hSW; (try dsimp only at hSW); go_simp; (try with_reducible rfl))
        change wpAnyH _ _ _ _ _ _ _ (Act.put _ (some 162) _) _
        simp only [Act.put, List.setIfInBounds_toArray, List.set_cons_zero, List.set_cons_succ]
        refine wpAnyH_take (i := 7) (v := ?vu47) rfl (by kernel_rfl) (by kernel_rfl) (by kernel_rfl) (fun _ _ _ h => h) (Or.inl ⟨by first | kernel_rfl | rfl, ?yu47⟩) hHeld ?ru47
        case yu47 => (intro W hSW; (try dsimp only at hSW); go_simp; (try with_reducible rfl))
        change wpAnyH _ _ _ _ _ _ _ (Act.put _ (some 163) _) _
        simp only [Act.put, List.setIfInBounds_toArray, List.set_cons_zero, List.set_cons_succ]
        refine wpAnyH_take (i := 8) (v := ?vu48) rfl (by kernel_rfl) (by kernel_rfl) (by kernel_rfl) (fun _ _ _ h => h) (Or.inl ⟨by first | kernel_rfl | rfl, ?yu48⟩) hHeld ?ru48
        case yu48 => (intro W hSW; (try dsimp only at hSW); go_simp; (try with_reducible rfl))
        change wpAnyH _ _ _ _ _ _ _ (Act.put _ (some 164) _) _
        simp only [Act.put, List.setIfInBounds_toArray, List.set_cons_zero, List.set_cons_succ]
        refine wpAnyH_take (i := 9) (v := ?vu49) rfl (by kernel_rfl) (by kernel_rfl) (by kernel_rfl) (fun _ _ _ h => h) (Or.inl ⟨by first | kernel_rfl | rfl, ?yu49⟩) hHeld ?ru49
        case yu49 => (intro W hSW; (try dsimp only at hSW); go_simp; (try with_reducible rfl))
        change wpAnyH _ _ _ _ _ _ _ (Act.put _ (some 165) _) _
        simp only [Act.put, List.setIfInBounds_toArray, List.set_cons_zero, List.set_cons_succ]
        refine wpAnyH_take (i := 10) (v := ?vu410) rfl (by kernel_rfl) (by kernel_rfl) (by kernel_rfl) (fun _ _ _ h => h) (Or.inl ⟨by first | kernel_rfl | rfl, ?yu410⟩) hHeld ?ru410
        case yu410 => (intro W hSW; (try dsimp only at hSW); go_simp; (try with_reducible rfl))
        change wpAnyH _ _ _ _ _ _ _ (Act.put _ (some 166) _) _
        simp only [Act.put, List.setIfInBounds_toArray, List.set_cons_zero, List.set_cons_succ]
        refine wpAnyH_take (i := 11) (v := ?vu411) rfl (by kernel_rfl) (by kernel_rfl) (by kernel_rfl) (fun _ _ _ h => h) (Or.inl ⟨by first | kernel_rfl | rfl, ?yu411⟩) hHeld ?ru411
        case yu411 => (intro W hSW; (try dsimp only at hSW); go_simp; (try with_reducible rfl))
        change wpAnyH _ _ _ _ _ _ _ (Act.put _ (some 167) _) _
        simp only [Act.put, List.setIfInBounds_toArray, List.set_cons_zero, List.set_cons_succ]
        refine wpAnyH_take (i := 12) (v := ?vu412) rfl (by kernel_rfl) (by kernel_rfl) (by kernel_rfl) (fun _ _ _ h => h) (Or.inl ⟨by first | kernel_rfl | rfl, ?yu412⟩) hHeld ?ru412
        case yu412 => (intro W hSW; (try dsimp only at hSW); go_simp; (try with_reducible rfl))
        change wpAnyH _ _ _ _ _ _ _ (Act.put _ (some 168) _) _
        simp only [Act.put, List.setIfInBounds_toArray, List.set_cons_zero, List.set_cons_succ]
        refine wpAnyH_take (i := 13) (v := ?vu413) rfl (by kernel_rfl) (by kernel_rfl) (by kernel_rfl) (fun _ _ _ h => h) (Or.inl ⟨by first | kernel_rfl | rfl, ?yu413⟩) hHeld ?ru413
        case yu413 => (intro W hSW; (try dsimp only at hSW); go_simp; (try with_reducible rfl))
        change wpAnyH _ _ _ _ _ _ _ (Act.put _ (some 169) _) _
        simp only [Act.put, List.setIfInBounds_toArray, List.set_cons_zero, List.set_cons_succ]
        refine wpAnyH_take (i := 14) (v := ?vu414) rfl (by kernel_rfl) (by kernel_rfl) (by kernel_rfl) (fun _ _ _ h => h) (Or.inl ⟨by first | kernel_rfl | rfl, ?yu414⟩) hHeld ?ru414
        case yu414 => (intro W hSW; (try dsimp only at hSW); go_simp; (try with_reducible rfl))
        change wpAnyH _ _ _ _ _ _ _ (Act.put _ (some 170) _) _
        simp only [Act.put, List.setIfInBounds_toArray, List.set_cons_zero, List.set_cons_succ]
        refine wpAnyH_take (i := 15) (v := ?vu415) rfl (by kernel_rfl) (by kernel_rfl) (by kernel_rfl) (fun _ _ _ h => h) (Or.inl ⟨by first | kernel_rfl | rfl, ?yu415⟩) hHeld ?ru415
        case yu415 => (intro W hSW; (try dsimp only at hSW); go_simp; (try with_reducible rfl))
        change wpAnyH _ _ _ _ _ _ _ (Act.put _ (some 171) _) _
        simp only [Act.put, List.setIfInBounds_toArray, List.set_cons_zero, List.set_cons_succ]
        refine wpAnyH_take (i := 16) (v := ?vu416) rfl (by kernel_rfl) (by kernel_rfl) (by kernel_rfl) (fun _ _ _ h => h) (Or.inl ⟨by first | kernel_rfl | rfl, ?yu416⟩) hHeld ?ru416
        case yu416 => (intro W hSW; (try dsimp only at hSW); go_simp; (try with_reducible rfl))
        change wpAnyH _ _ _ _ _ _ _ (Act.put _ (some 172) _) _
        simp only [Act.put, List.setIfInBounds_toArray, List.set_cons_zero, List.set_cons_succ]
        refine wpAnyH_take (i := 17) (v := ?vu417) rfl (by kernel_rfl) (by kernel_rfl) (by kernel_rfl) (fun _ _ _ h => h) (Or.inl ⟨by first | kernel_rfl | rfl, ?yu417⟩) hHeld ?ru417
        case yu417 => (intro W hSW; (try dsimp only at hSW); go_simp; (try with_reducible rfl))
        change wpAnyH _ _ _ _ _ _ _ (Act.put _ (some 173) _) _
        simp only [Act.put, List.setIfInBounds_toArray, List.set_cons_zero, List.set_cons_succ]
        refine wpAnyH_take (i := 18) (v := ?vu418) rfl (by kernel_rfl) (by kernel_rfl) (by kernel_rfl) (fun _ _ _ h => h) (Or.inl ⟨by first | kernel_rfl | rfl, ?yu418⟩) hHeld ?ru418
        case yu418 => (intro W hSW; (try dsimp only at hSW); go_simp; (try with_reducible rfl))
        change wpAnyH _ _ _ _ _ _ _ (Act.put _ (some 174) _) _
        simp only [Act.put, List.setIfInBounds_toArray, List.set_cons_zero, List.set_cons_succ]
        refine wpAnyH_take (i := 19) (v := .bool false) rfl (by kernel_rfl) (by kernel_rfl) (by kernel_rfl) (fun _ _ _ h => h) (Or.inl ⟨by first | kernel_rfl | rfl, ?yu419⟩) hHeld ?ru419
        case yu419 => (intro W hSW; (try dsimp only at hSW); go_simp; (try with_reducible rfl))
        change wpAnyH _ _ _ _ _ _ _ (Act.put _ (some 175) _) _
        simp only [Act.put, List.setIfInBounds_toArray, List.set_cons_zero, List.set_cons_succ]
        refine wpAnyH_take (i := 20) (v := .bool false) rfl (by kernel_rfl) (by kernel_rfl) (by kernel_rfl) (fun _ _ _ h => h) (Or.inl ⟨by first | kernel_rfl | rfl, ?yu420⟩) hHeld ?ru420
        case yu420 => (intro W hSW; (try dsimp only at hSW); go_simp; (try with_reducible rfl))
        change wpAnyH _ _ _ _ _ _ _ (Act.put _ (some 176) _) _
        simp only [Act.put, List.setIfInBounds_toArray, List.set_cons_zero, List.set_cons_succ]
        refine wpAnyH_done (by kernel_rfl) ?_ _
        clear hHeld
        go_wp2
        exact ⟨⟨k + 1, by omega, by go_num, by rw [HST.out], HL2.out.below (Below.refl _ _).drew⟩, by simp [intOf]; omega⟩
      · obtain rfl : k = n := by omega
        have kk : ¬ (k : Int) < (k : Int) := by omega
        have hnl := hL.row.sp.hl
        have hfin : m0 + sumS (out.take k) = (sz : Int) := by rw [List.take_of_length_le (by omega)]; exact HM0.out
        rw [hfin]
        have hxx : ((sz : Int) != (sz : Int)) = false := by simp
        have HHO := holes_any HL2.out.ar
        obtain ⟨N, hN⟩ : ∃ N, X.hs.length = N := ⟨_, rfl⟩
        have hNl := HL2.out.inv.ok.len
        rw [hN] at HHO hNl
        have HN : Hid (X.hs.length = N) := hN
        clear hL hfin hN hnl
        go_wp2_with fail
        refine HHO.mono ?_
        rintro e V3 ⟨ha, hcp, rfl, hfr, hrow, hV3⟩
        have HL3 : Hid (LpI w V3 sz ab X S a k c out ∧ SpW V3 ha N hcp X.hs) := ⟨HL2.out.below hV3, SpW.own hrow⟩
        have hNc := HL3.out.2.hcp
        clear HHO hfr hrow hV3 HL2
        go_wp2
        go_loopw [17] (fun v17 wr => ∃ j : Nat, 1 ≤ j ∧ (j ≤ N ∨ j = 1) ∧ v17 = .int .i64 (j : Int) ∧ LpI w wr sz ab X S a k c out ∧ SpW wr ha N hcp X.hs) (fun v _ => N + 1 - (intOf v).toNat)
        case atStart => exact ⟨1, by omega, .inr rfl, rfl, HL3.out⟩
        case round =>
          clear HL3
          obtain ⟨j, hj1, hjN, rfl, hL4⟩ := hrel
          have HL4 : Hid (LpI w wr sz ab X S a k c out ∧ SpW wr ha N hcp X.hs) := hL4
          by_cases hlt4 : j < N
          · obtain ⟨p, rfl⟩ : ∃ p, j = p + 1 := ⟨j - 1, by omega⟩
            have kk4 : ((p + 1 : Nat) : Int) < (N : Int) := by omega
            have kp : (p : Int) < (N : Int) := by omega
            have kp1 : (p : Int) + 1 < (N : Int) := by omega
            obtain ⟨q, hq⟩ : ∃ q, X.hs[p]? = some q := ⟨_, List.getElem?_eq_getElem (by rw [HN.out]; omega)⟩
            obtain ⟨u, hu⟩ : ∃ q, X.hs[p + 1]? = some q := ⟨_, List.getElem?_eq_getElem (by rw [HN.out]; omega)⟩
            obtain ⟨b, o, rfl, hb, hcs⟩ := hL4.2.hat (by omega)
            obtain ⟨e1, e2⟩ := hcs p q hq
            obtain ⟨e3, _⟩ := hcs (p + 1) u hu
            have e1d : wr.drew.cell? ⟨b, o + p * 2, none⟩ = some (.int .i64 q.1) := e1
            have e2d : wr.drew.cell? ⟨b, o + p * 2 + 1, none⟩ = some (.int .i64 q.2) := e2
            have e3d : wr.drew.cell? ⟨b, o + (p + 1) * 2, none⟩ = some (.int .i64 u.1) := e3
            have hord := hL4.1.inv.ok.g.order (show p < p + 1 by omega) hq hu
            simp only [en] at hord
            have hmq := sp_i64 hL4.1.inv.ok (List.mem_of_getElem? hq)
            have hw4 : IntKind.i64.wrap ((p : Int) + 1 - 1) = (p : Int) := by rw [IntKind.wrap_i64]; omega
            have hw5 : IntKind.i64.wrap (q.1 + q.2) = q.1 + q.2 := wr64_in ⟨by omega, by omega⟩
            have kp0 : (0 : Int) ≤ (p : Int) + 1 := by omega
            have hw6 : IntKind.i64.wrap (p : Int) = (p : Int) := by rw [IntKind.wrap_i64]; omega
            have hge : ¬ q.1 + q.2 ≥ u.1 := by omega
            have hge2 : ¬ u.1 ≤ q.1 + q.2 := by omega
            clear hcs hq hu hL4 hord hmq e1 e2 e3
            go_wp2
            refine wp_region_held_drew (S := fun V => V.cell? ⟨b, o + p * 2, none⟩ = some (.int .i64 q.1) ∧ V.cell? ⟨b, o + p * 2 + 1, none⟩ = some (.int .i64 q.2) ∧ V.cell? ⟨b, o + (p + 1) * 2, none⟩ = some (.int .i64 u.1)) (by kernel_rfl) (⟨e1d, e2d, e3d⟩) (fun hHeld => ?_)
            refine wpAnyH_take (i := 0) (v := ?vy40) rfl (by kernel_rfl) (by kernel_rfl) (by kernel_rfl) (fun _ _ _ h => h) (Or.inl ⟨by first | kernel_rfl | rfl, ?yy40⟩) hHeld ?ry40
            case yy40 => (intro W hSW; (try dsimp only at hSW); go_simp; (try with_reducible rfl))
            change wpAnyH _ _ _ _ _ _ _ (Act.put _ (some 188) _) _
            simp only [Act.put, List.setIfInBounds_toArray, List.set_cons_zero, List.set_cons_succ]
            refine wpAnyH_take (i := 1) (v := ?vy41) rfl (by kernel_rfl) (by kernel_rfl) (by kernel_rfl) (fun _ _ _ h => h) (Or.inl ⟨by first | kernel_rfl | rfl, ?yy41⟩) hHeld ?ry41
            case yy41 => (intro W hSW; (try dsimp only at hSW); go_simp; (try with_reducible rfl))
            change wpAnyH _ _ _ _ _ _ _ (Act.put _ (some 189) _) _
            simp only [Act.put, List.setIfInBounds_toArray, List.set_cons_zero, List.set_cons_succ]
            refine wpAnyH_take (i := 2) (v := ?vy42) rfl (by kernel_rfl) (by kernel_rfl) (by kernel_rfl) (fun _ _ _ h => h) (Or.inl ⟨by first | kernel_rfl | rfl, ?yy42⟩) hHeld ?ry42
            case yy42 => (intro W hSW; (try dsimp only at hSW); go_simp; (try with_reducible rfl))
            change wpAnyH _ _ _ _ _ _ _ (Act.put _ (some 190) _) _
            simp only [Act.put, List.setIfInBounds_toArray, List.set_cons_zero, List.set_cons_succ]
            refine wpAnyH_take (i := 3) (v := ?vy43) rfl (by kernel_rfl) (by kernel_rfl) (by kernel_rfl) (fun _ _ _ h => h) (Or.inl ⟨by first | kernel_rfl | rfl, ?yy43⟩) hHeld ?ry43
            case yy43 => (intro W hSW; (try dsimp only at hSW); go_simp; (try with_reducible rfl))
            change wpAnyH _ _ _ _ _ _ _ (Act.put _ (some 191) _) _
            simp only [Act.put, List.setIfInBounds_toArray, List.set_cons_zero, List.set_cons_succ]
            refine wpAnyH_take (i := 4) (v := ?vy44) rfl (by kernel_rfl) (by kernel_rfl) (by kernel_rfl) (fun _ _ _ h => h) (Or.inl ⟨by first | kernel_rfl | rfl, ?yy44⟩) hHeld ?ry44
            case yy44 => (intro W hSW; (try dsimp only at hSW); go_simp; (try with_reducible rfl))
            change wpAnyH _ _ _ _ _ _ _ (Act.put _ (some 192) _) _
            simp only [Act.put, List.setIfInBounds_toArray, List.set_cons_zero, List.set_cons_succ]
            refine wpAnyH_take (i := 5) (v := ?vy45) rfl (by kernel_rfl) (by kernel_rfl) (by kernel_rfl) (fun _ _ _ h => h) (Or.inl ⟨by first | kernel_rfl | rfl, ?yy45⟩) hHeld ?ry45
            case yy45 => (intro W hSW; (try dsimp only at hSW); go_simp; (try with_reducible rfl))
            change wpAnyH _ _ _ _ _ _ _ (Act.put _ (some 193) _) _
            simp only [Act.put, List.setIfInBounds_toArray, List.set_cons_zero, List.set_cons_succ]
            refine wpAnyH_take (i := 6) (v := ?vy46) rfl (by kernel_rfl) (by kernel_rfl) (by kernel_rfl) (fun _ _ _ h => h) (Or.inl ⟨by first | kernel_rfl | rfl, ?yy46⟩) hHeld ?ry46
            case yy46 => (intro W hSW; (try dsimp only at hSW); go_simp; (try with_reducible rfl))
            change wpAnyH _ _ _ _ _ _ _ (Act.put _ (some 194) _) _
            simp only [Act.put, List.setIfInBounds_toArray, List.set_cons_zero, List.set_cons_succ]
            refine wpAnyH_take (i := 7) (v := ?vy47) rfl (by kernel_rfl) (by kernel_rfl) (by kernel_rfl) (fun _ _ _ h => h) (Or.inl ⟨by first | kernel_rfl | rfl, ?yy47⟩) hHeld ?ry47
            case yy47 => (intro W hSW; (try dsimp only at hSW); go_simp; (try with_reducible rfl))
            change wpAnyH _ _ _ _ _ _ _ (Act.put _ (some 195) _) _
            simp only [Act.put, List.setIfInBounds_toArray, List.set_cons_zero, List.set_cons_succ]
            refine wpAnyH_take (i := 8) (v := ?vy48) rfl (by kernel_rfl) (by kernel_rfl) (by kernel_rfl) (fun _ _ _ h => h) (Or.inl ⟨by first | kernel_rfl | rfl, ?yy48⟩) hHeld ?ry48
            case yy48 => (intro W hSW; (try dsimp only at hSW); go_simp; (try with_reducible rfl))
            change wpAnyH _ _ _ _ _ _ _ (Act.put _ (some 196) _) _
            simp only [Act.put, List.setIfInBounds_toArray, List.set_cons_zero, List.set_cons_succ]
            refine wpAnyH_take (i := 9) (v := ?vy49) rfl (by kernel_rfl) (by kernel_rfl) (by kernel_rfl) (fun _ _ _ h => h) (Or.inl ⟨by first | kernel_rfl | rfl, ?yy49⟩) hHeld ?ry49
            case yy49 => (intro W hSW; (try dsimp only at hSW); go_simp; (try with_reducible rfl))
            change wpAnyH _ _ _ _ _ _ _ (Act.put _ (some 197) _) _
            simp only [Act.put, List.setIfInBounds_toArray, List.set_cons_zero, List.set_cons_succ]
            refine wpAnyH_take (i := 10) (v := ?vy410) rfl (by kernel_rfl) (by kernel_rfl) (by kernel_rfl) (fun _ _ _ h => h) (Or.inl ⟨by first | kernel_rfl | rfl, ?yy410⟩) hHeld ?ry410
            case yy410 => (intro W hSW; (try dsimp only at hSW); go_simp; (try with_reducible rfl))
            change wpAnyH _ _ _ _ _ _ _ (Act.put _ (some 198) _) _
            simp only [Act.put, List.setIfInBounds_toArray, List.set_cons_zero, List.set_cons_succ]
            refine wpAnyH_take (i := 11) (v := ?vy411) rfl (by kernel_rfl) (by kernel_rfl) (by kernel_rfl) (fun _ _ _ h => h) (Or.inl ⟨by first | kernel_rfl | rfl, ?yy411⟩) hHeld ?ry411
            case yy411 => (intro W hSW; (try dsimp only at hSW); go_simp; (try with_reducible rfl))
            change wpAnyH _ _ _ _ _ _ _ (Act.put _ (some 199) _) _
            simp only [Act.put, List.setIfInBounds_toArray, List.set_cons_zero, List.set_cons_succ]
            refine wpAnyH_take (i := 12) (v := ?vy412) rfl (by kernel_rfl) (by kernel_rfl) (by kernel_rfl) (fun _ _ _ h => h) (Or.inl ⟨by first | kernel_rfl | rfl, ?yy412⟩) hHeld ?ry412
            case yy412 => (intro W hSW; (try dsimp only at hSW); go_simp; (try with_reducible rfl))
            change wpAnyH _ _ _ _ _ _ _ (Act.put _ (some 200) _) _
            simp only [Act.put, List.setIfInBounds_toArray, List.set_cons_zero, List.set_cons_succ]
            refine wpAnyH_take (i := 13) (v := ?vy413) rfl (by kernel_rfl) (by kernel_rfl) (by kernel_rfl) (fun _ _ _ h => h) (Or.inl ⟨by first | kernel_rfl | rfl, ?yy413⟩) hHeld ?ry413
            case yy413 => (intro W hSW; (try dsimp only at hSW); go_simp; (try with_reducible rfl))
            change wpAnyH _ _ _ _ _ _ _ (Act.put _ (some 201) _) _
            simp only [Act.put, List.setIfInBounds_toArray, List.set_cons_zero, List.set_cons_succ]
            refine wpAnyH_take (i := 14) (v := ?vy414) rfl (by kernel_rfl) (by kernel_rfl) (by kernel_rfl) (fun _ _ _ h => h) (Or.inl ⟨by first | kernel_rfl | rfl, ?yy414⟩) hHeld ?ry414
            case yy414 => (intro W hSW; (try dsimp only at hSW); go_simp; (try with_reducible rfl))
            change wpAnyH _ _ _ _ _ _ _ (Act.put _ (some 202) _) _
            simp only [Act.put, List.setIfInBounds_toArray, List.set_cons_zero, List.set_cons_succ]
            refine wpAnyH_take (i := 15) (v := ?vy415) rfl (by kernel_rfl) (by kernel_rfl) (by kernel_rfl) (fun _ _ _ h => h) (Or.inl ⟨by first | kernel_rfl | rfl, ?yy415⟩) hHeld ?ry415
            case yy415 => (intro W hSW; (try dsimp only at hSW); go_simp; (try with_reducible rfl))
            change wpAnyH _ _ _ _ _ _ _ (Act.put _ (some 203) _) _
            simp only [Act.put, List.setIfInBounds_toArray, List.set_cons_zero, List.set_cons_succ]
            refine wpAnyH_take (i := 16) (v := ?vy416) rfl (by kernel_rfl) (by kernel_rfl) (by kernel_rfl) (fun _ _ _ h => h) (Or.inl ⟨by first | kernel_rfl | rfl, ?yy416⟩) hHeld ?ry416
            case yy416 => (intro W hSW; (try dsimp only at hSW); go_simp; (try with_reducible rfl))
            change wpAnyH _ _ _ _ _ _ _ (Act.put _ (some 204) _) _
            simp only [Act.put, List.setIfInBounds_toArray, List.set_cons_zero, List.set_cons_succ]
            refine wpAnyH_take (i := 17) (v := ?vy417) rfl (by kernel_rfl) (by kernel_rfl) (by kernel_rfl) (fun _ _ _ h => h) (Or.inl ⟨by first | kernel_rfl | rfl, ?yy417⟩) hHeld ?ry417
            case yy417 => (intro W hSW; (try dsimp only at hSW); go_simp; (try with_reducible rfl))
            change wpAnyH _ _ _ _ _ _ _ (Act.put _ (some 205) _) _
            simp only [Act.put, List.setIfInBounds_toArray, List.set_cons_zero, List.set_cons_succ]
            refine wpAnyH_take (i := 18) (v := .bool false) rfl (by kernel_rfl) (by kernel_rfl) (by kernel_rfl) (fun _ _ _ h => h) (Or.inl ⟨by first | kernel_rfl | rfl, ?yy418⟩) hHeld ?ry418
            case yy418 => (intro W hSW; (try dsimp only at hSW); go_simp; (try with_reducible rfl))
            change wpAnyH _ _ _ _ _ _ _ (Act.put _ (some 206) _) _
            simp only [Act.put, List.setIfInBounds_toArray, List.set_cons_zero, List.set_cons_succ]
            refine wpAnyH_done (by kernel_rfl) ?_ _
            clear hHeld
            go_wp2
            exact ⟨⟨p + 1 + 1, by omega, .inl (by omega), by go_num, HL4.out.1.below (Below.refl _ _).drew, HL4.out.2.below (Below.refl _ _).drew⟩, by simp [intOf]; omega⟩
          · have kk4 : ¬ (j : Int) < (N : Int) := by omega
            have HLX : Hid (LpI w wr sz ab X S a k c out) := hL4.1
            clear hL4 HL4
            go_wp2
            exact ⟨⟨i + 1, X, S, a, k, c, out, by omega, by omega, by go_num, rfl, by omega, HLX.out⟩, by simp [intOf]; omega⟩

set_option linter.unusedVariables false in
set_option maxRecDepth 100000 in
theorem lifted (os : _root_.Go.Os) (started : os.Started) (H : Type) (enc : TypeId × Value → H) :
    ReturnsInHanded {} Try.checked os 4 .any (Rows.extentOnceSpec.pre6 enc Try.prog Try.f4 Rows.extentOnceRow.domain false) (Rows.extentOnceSpec.post enc Try.prog Try.f4 false true false false) := by
  refine returnsInHanded_of_change (C := Try.checked) own started (by kernel_rfl) Try.func4
    (ChangeSpec.witness6 (enc := enc) (C := Try.checked) false ⟨#[], #[.int .i64 0, .slice none 0 0], []⟩ 8 (by kernel_rfl) (by kernel_rfl) (by kernel_rfl) (by kernel_rfl)) ?_
  intro W base args ds gs before hval0 hW hcnd _
  have hval : ∀ (j : Nat) t v, Try.f4.params[j]? = some t → args[j]? = some v → Value.okWide Try.prog W .any base t v := hval0
  have hW' := hW
  obtain ⟨p, q, hA0, hV, rfl, hfz, hnd⟩ := hW
  have hA : DataW.TrodAll enc Try.prog W 0 (fun _ => true) true Try.f4.params.toList args.toList ds p := hA0
  rw [Try.params4] at hA hval
  obtain ⟨v0, vs0, d0, ds0, p0, q0, hargs, rfl, rfl, h0, r0⟩ := trodAll_cons hA
  obtain ⟨v1, vs1, d1, ds1, p1, q1, rfl, rfl, rfl, h1, r1⟩ := trodAll_cons r0
  obtain ⟨rfl, rfl, rfl⟩ := trodAll_nil r1
  obtain rfl : args = #[v0, v1] := by cases args; simp_all
  obtain ⟨rfl, rfl⟩ := trodVars_none hV
  obtain ⟨x0, rfl, rfl, rfl, w0⟩ := open_int Try.underlying3 (hval 0 3 v0 rfl rfl) h0
  have k1 := h1
  have lt1 : ∀ x ∈ p1, x.block < W.heap.size := by obtain ⟨m, hm⟩ := k1; exact DataW.trod_lt m _ _ _ hm
  obtain ⟨a1, len1, cap1, rfl⟩ := okWide_slice Try.underlying22 (hval 1 22 v1 rfl rfl)
  obtain ⟨l1, w1⟩ : ∃ l, Os W a1 len1 cap1 l := by
    obtain ⟨fuel, hf⟩ := h1
    exact ops_of (by simpa [Value.cells] using hf)
  clear hA0 hval0
  refine (walk x0 (wf_i64 w0) a1 len1 cap1 l1 W w1).mono fun e W' ⟨he, bel⟩ => ?_
  subst he
  exact ⟨_, rfl, _, _, _, [], _, [], hW', trodAll_mk1 (shut_bool Try.underlying4 _), (trodAll_cons_mk (shut_int Try.underlying3 w0) (trodAll_cons_mk (Below.trod laidOut (by kernel_rfl) (of_decide_eq_true (by kernel_rfl)) k1 bel lt1) trodAll_mk0)), rfl, bel.frame _, fun h => by cases h⟩

theorem over : Rows.extentOnceRow.holds Try.pinned (OpenSpec.ofChange Rows.extentOnceSpec) :=
  OpenClaim.holds_of_wide 4 Try.f4 rfl rfl rfl rfl rfl rfl rfl ⟨rfl, rfl, rfl, rfl, rfl⟩ rfl rfl rfl rfl rfl (by kernel_rfl) Try.func4 (by kernel_rfl)
    (of_decide_eq_true (by kernel_rfl)) (by unfold Func.isWrapper; first | (rw [if_pos (by decide +kernel)]; kernel_rfl) | (rw [if_neg (by decide +kernel)]; exact ⟨rfl, rfl⟩))
    (fun os started H enc _ => lifted os started H enc)

end Go.Proofs.Ytgihdfmeokbplaa.extentOnce
namespace Go.Proofs.Ytgihdfmeokbplaa
/-- The given statement. -/
theorem extentOnce_holds : Rows.ExtentOnceSaid := extentOnce.over
#print axioms extentOnce_holds
end Go.Proofs.Ytgihdfmeokbplaa
