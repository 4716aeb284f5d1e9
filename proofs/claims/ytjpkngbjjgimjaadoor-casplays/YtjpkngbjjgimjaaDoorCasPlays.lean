/- The law of steps in any order, beside the document. -/
import Derived.Test.YtjpkngbjjgimjaaDoorLJ
import Derived.Test.YtjpkngbjjgimjaaDoorLF
import Derived.Test.YtjpkngbjjgimjaaDoorCards
import Derived.Test.YtjpkngbjjgimjaaDoorTie
import Derived.WalkKit
import Derived.ProofKit
import Derived.OpenShut
import Derived.ShutString
import Derived.ChangeOld
import Derived.Below
import Derived.LaidMore
import Derived.Stop.Joined
import Derived.SevenTiedAt
namespace Go.Proofs.YtjpkngbjjgimjaaDoor.casPlays
open Go.ChangeShapes Go.WideShapes Go.ChangeAt Go.WideMaps Go.WideElems Go.RowKit
open Go.ChangeMaps (open_string shut_string)
theorem dw_nil {G : Nat → Prop} (w : World) : Dw G w none 0 0 [] := ⟨rfl, Nat.le_refl _, Nat.zero_le _, fun h => absurd h (by omega)⟩

set_option maxRecDepth 100000 in
set_option maxHeartbeats 2000000 in
theorem walk (x0 : Int) (_z0 : -9223372036854775808 ≤ x0 ∧ x0 ≤ 9223372036854775807) (a1 : Option Addr) (len1 cap1 : Nat) (os1 : List OV) (w : World) (w1 : OpsIn w a1 len1 cap1 os1) (hL : Laid w) :
    Calls Tryd.prog 3 #[.int .i64 x0, .slice a1 len1 cap1] w fun e w' => e = .returned (.bool true) ∧ Below w.heap.size w w' := by
  obtain ⟨tb, htb⟩ : ∃ tb, w.heap.size = tb := ⟨_, rfl⟩
  obtain ⟨W1, hW1⟩ : ∃ W1, w.alloc (.cells #[.slice none 0 0, .int .i64 (-1)] 30) = W1 := ⟨_, rfl⟩
  have hs1 : W1.heap.size = tb + 1 := by rw [← hW1, ← htb]; simp
  have hb1 : Below w.heap.size w W1 := by rw [← hW1]; exact (Below.refl _ w).alloc (Nat.le_refl _) _
  have HO : Hid (OpsIn w a1 len1 cap1 os1) := w1
  have hnn := HO.out.1
  have hcap : cap1 ≤ 9223372036854775807 := HO.out.2.2.1
  have hlc : len1 ≤ cap1 := HO.out.2.1
  clear w1
  by_cases hx1 : x0 < 1
  · skip
    have HN := new_no (.iface 27 (.pointer (some ⟨tb, 0, none⟩))) x0 W1 (.inr ⟨tb, rfl⟩) (.inr (by omega))
    have HLV : Calls Tryd.prog 10 #[] W1 fun e w' => e = .returned (.bool true) ∧ Below W1.heap.size W1 w' := lives_any W1 (hL.below hb1)
    have HB1 : Hid (Below w.heap.size w W1) := hb1
    clear hL hb1 hs1
    go_enter Tryd.func3, Tryd.ntmps3
    go_wp2_with fail
    refine HN.mono ?_
    rintro e V ⟨rfl, hV⟩
    subst V
    go_wp2_with fail
    refine HLV.mono ?_
    rintro e V ⟨rfl, hb⟩
    go_wp2
    go_ret
    exact ⟨rfl, HB1.out.trans (hb.mono HB1.out.size)⟩
  by_cases hx2 : 32 < x0
  · skip
    have HN := new_no (.iface 27 (.pointer (some ⟨tb, 0, none⟩))) x0 W1 (.inr ⟨tb, rfl⟩) (.inr (by omega))
    have HLV : Calls Tryd.prog 10 #[] W1 fun e w' => e = .returned (.bool true) ∧ Below W1.heap.size W1 w' := lives_any W1 (hL.below hb1)
    have HB1 : Hid (Below w.heap.size w W1) := hb1
    clear hL hb1 hs1
    go_enter Tryd.func3, Tryd.ntmps3
    go_wp2_with fail
    refine HN.mono ?_
    rintro e V ⟨rfl, hV⟩
    subst V
    go_wp2_with fail
    refine HLV.mono ?_
    rintro e V ⟨rfl, hb⟩
    go_wp2
    go_ret
    exact ⟨rfl, HB1.out.trans (hb.mono HB1.out.size)⟩
  · obtain ⟨W, hWx, hWa, hW⟩ : ∃ W : Nat, x0 = (W : Int) ∧ 1 ≤ W ∧ W ≤ 32 := ⟨x0.toNat, by omega, by omega, by omega⟩
    subst hWx
    have HN : Calls Tryd.prog 9 #[.iface 27 (.pointer (some ⟨tb, 0, none⟩)), .int .i64 (W : Int)] W1 fun e w' => e = .returned (.tuple #[.pointer (some ⟨W1.heap.size, 0, none⟩), .int .i64 0]) ∧ w' = W1.alloc (.cells #[.iface 27 (.pointer (some ⟨tb, 0, none⟩)), .int .i64 (W : Int)] 71) := new_yes tb W W1 hWa hW
    have hcn := cs_new (w := w) (W := W) (-1)
    rw [hW1, htb] at hcn
    rw [hs1] at HN
    obtain ⟨W2, hW2⟩ : ∃ W2, W1.alloc (.cells #[.iface 27 (.pointer (some ⟨tb, 0, none⟩)), .int .i64 (W : Int)] 71) = W2 := ⟨_, rfl⟩
    rw [hW2] at HN hcn
    obtain ⟨st, hst⟩ : ∃ st, tb + 1 = st := ⟨_, rfl⟩
    rw [hst] at HN hcn
    have HCS : Hid (Cs tb (fun _ => False) W2 st tb W (-1) [] ∧ Below w.heap.size w W2 ∧ Laid w ∧ w.heap.size = tb) := ⟨hcn.1, by rw [htb]; exact hcn.2, hL, htb⟩
    have HLV : Hid (∀ V, Below w.heap.size w V → Calls Tryd.prog 10 #[] V fun e w' => e = .returned (.bool true) ∧ Below w.heap.size w w') := fun V hV => (lives_any V (hL.below hV)).mono fun e w' h => ⟨h.1, hV.trans (h.2.mono hV.size)⟩
    clear hs1 hcn hW2 hst hL hb1
    go_enter Tryd.func3, Tryd.ntmps3
    go_wp2_with fail
    refine HN.mono ?_
    rintro e V ⟨rfl, hV⟩
    subst V
    clear HN hW1 htb
    go_wp2
    go_loopw [7, 8, 9] (fun vl vd vi wr => ∃ (i dn dc ni ic : Nat) (da ia : Option Addr) (F : Nat → Prop) (T : List Pr) (L : List Cn) (ids : List Ix), i ≤ 50 ∧ i ≤ len1 ∧ ni ≤ i ∧ vi = .int .i64 i ∧ vl = .slice da dn dc ∧ vd = .slice ia ni ic ∧ Pl tb F wr st W i T L da dn dc ia ni ic ids ∧ Below w.heap.size w wr) (fun _ _ vi _ => 51 - (intOf vi).toNat)
    case atStart => exact ⟨0, 0, 0, 0, 0, none, none, _, [], [], [], by omega, by omega, by omega, rfl, rfl, rfl, ⟨HCS.out.1, Doc.nil W 0 (by omega), dw_nil _, Ids.nil _ _ _⟩, HCS.out.2.1⟩
    case round =>
      obtain ⟨i, dn, dc, ni, ic, da, ia, F, T, L, ids, hi, hil, hni, rfl, rfl, rfl, hPl, hbw⟩ := hrel
      rename World => wo
      by_cases hlt : i < len1 ∧ i < 50
      · have k1 : (i : Int) < (len1 : Int) := by omega
        have k2 : (i : Int) < 50 := by omega
        obtain ⟨sb, so, ha1, hsc⟩ := HO.out.at (by omega)
        subst ha1
        obtain ⟨⟨q0, q1, q2, q3, q4⟩, ho⟩ : ∃ o, os1[i]? = some o := ⟨_, List.getElem?_eq_getElem (by omega)⟩
        obtain ⟨s0, s1, s2, s3, s4, hin⟩ := hsc wo hbw i _ ho
        simp only at s0 s1 s2 s3 s4
        clear hsc ho
        obtain ⟨V1, hV1⟩ : ∃ V1, wo.alloc (.cells #[.int .i64 q0, .int .i64 q1, .string q2, .string q3, .int .i64 q4] 37) = V1 := ⟨_, rfl⟩
        obtain ⟨ob1, hob⟩ : ∃ ob1, wo.heap.size = ob1 := ⟨_, rfl⟩
        have hB1 : Below wo.heap.size wo V1 := by rw [← hV1]; exact (Below.refl _ wo).alloc (Nat.le_refl _) _
        have r1 : V1.heap[ob1]? = some (.cells #[.int .i64 q0, .int .i64 q1, .string q2, .string q3, .int .i64 q4] 37 (0, 0)) := by rw [← hV1, ← hob]; exact heap_alloc_new wo _
        have t0 : V1.cell? ⟨ob1, 0, none⟩ = some (.int .i64 q0) := by rw [cell_of_row _ _ _ _ _ _ r1]; rfl
        have t1 : V1.cell? ⟨ob1, 1, none⟩ = some (.int .i64 q1) := by rw [cell_of_row _ _ _ _ _ _ r1]; rfl
        have t2 : V1.cell? ⟨ob1, 2, none⟩ = some (.string q2) := by rw [cell_of_row _ _ _ _ _ _ r1]; rfl
        have t3 : V1.cell? ⟨ob1, 3, none⟩ = some (.string q3) := by rw [cell_of_row _ _ _ _ _ _ r1]; rfl
        have t4 : V1.cell? ⟨ob1, 4, none⟩ = some (.int .i64 q4) := by rw [cell_of_row _ _ _ _ _ _ r1]; rfl
        have HSH := short_any ⟨q0, q1, q2, q3, q4⟩ hin V1
        have HIN : Hid (OV.In ⟨q0, q1, q2, q3, q4⟩) := hin
        have H1 : Hid (Pl tb F wo st W i T L da dn dc ia ni ic ids ∧ Below w.heap.size w wo ∧ Below wo.heap.size wo V1 ∧ V1.heap[ob1]? = some (.cells #[.int .i64 q0, .int .i64 q1, .string q2, .string q3, .int .i64 q4] 37 (0, 0)) ∧ wo.heap.size = ob1) := ⟨hPl, hbw, hB1, r1, hob⟩
        unfold OV.cells at HSH
        simp only at HSH
        clear hPl hbw hB1 r1 hin
        by_cases hsh : q2.size + q3.size ≤ 1000
        · rw [decide_eq_true hsh] at HSH
          go_wp2_with fail
          refine HSH.mono ?_
          rintro e V2 ⟨rfl, hb2⟩
          have hB2 : Below wo.heap.size wo V2 := H1.out.2.2.1.trans (hb2.mono H1.out.2.2.1.size)
          have hP2 := H1.out.1.below hB2
          have r2 := (hb2.block ob1 (lt_of_some H1.out.2.2.2.1)).trans H1.out.2.2.2.1
          clear t0 t1 t2 t3 t4 s0 s1 s2 s3 s4
          have t0 : V2.cell? ⟨ob1, 0, none⟩ = some (.int .i64 q0) := by rw [cell_of_row _ _ _ _ _ _ r2]; rfl
          have t1 : V2.cell? ⟨ob1, 1, none⟩ = some (.int .i64 q1) := by rw [cell_of_row _ _ _ _ _ _ r2]; rfl
          have t2 : V2.cell? ⟨ob1, 2, none⟩ = some (.string q2) := by rw [cell_of_row _ _ _ _ _ _ r2]; rfl
          have t3 : V2.cell? ⟨ob1, 3, none⟩ = some (.string q3) := by rw [cell_of_row _ _ _ _ _ _ r2]; rfl
          have t4 : V2.cell? ⟨ob1, 4, none⟩ = some (.int .i64 q4) := by rw [cell_of_row _ _ _ _ _ _ r2]; rfl
          have HPK := picked_any (Rw.own hP2.id.1 (fun _ _ => trivial) : Iw (fun _ => True) V2 ia ni ic ids) (by omega) ⟨q0, q1, q2, q3, q4⟩ HIN.out
          obtain ⟨⟨ps, pm⟩, hpk⟩ : ∃ p, pickF ids ⟨q0, q1, q2, q3, q4⟩ = p := ⟨_, rfl⟩
          rw [hpk] at HPK
          unfold PkTo OV.cells at HPK
          simp only at HPK
          have H2 : Hid (Below wo.heap.size wo V2 ∧ V2.heap[ob1]? = some (.cells #[.int .i64 q0, .int .i64 q1, .string q2, .string q3, .int .i64 q4] 37 (0, 0))) := ⟨hB2, r2⟩
          clear HSH hb2 hB2 hP2 r2 hpk hV1
          go_wp2_with fail
          refine HPK.mono ?_
          rintro e V3 ⟨rfl, hb3⟩
          obtain ⟨V4, hV4⟩ : ∃ V4, V3.alloc (.cells #[.string ps, .int .i64 pm] 35) = V4 := ⟨_, rfl⟩
          obtain ⟨xb, hxb⟩ : ∃ xb, V3.heap.size = xb := ⟨_, rfl⟩
          have hB3 : Below wo.heap.size wo V3 := H2.out.1.trans (hb3.mono H2.out.1.size)
          have hB34 : Below V3.heap.size V3 V4 := by rw [← hV4]; exact (Below.refl _ V3).alloc (Nat.le_refl _) _
          have hB4 : Below wo.heap.size wo V4 := hB3.trans (hB34.mono hB3.size)
          have r3o := (hb3.block ob1 (lt_of_some H2.out.2)).trans H2.out.2
          have r4o := (hB34.block ob1 (lt_of_some r3o)).trans r3o
          have r4x : V4.heap[xb]? = some (.cells #[.string ps, .int .i64 pm] 35 (0, 0)) := by rw [← hV4, ← hxb]; exact heap_alloc_new V3 _
          have hox : ob1 < xb := by have := lt_of_some r3o; omega
          obtain ⟨F4, hF4⟩ : ∃ F4, mor F wo V4 = F4 := ⟨_, rfl⟩
          have H4 : Hid (Pl tb F4 V4 st W i T L da dn dc ia ni ic ids ∧ Below w.heap.size w V4 ∧ V4.heap[ob1]? = some (.cells #[.int .i64 q0, .int .i64 q1, .string q2, .string q3, .int .i64 q4] 37 (0, 0)) ∧ V4.heap[xb]? = some (.cells #[.string ps, .int .i64 pm] 35 (0, 0)) ∧ F4 ob1 ∧ F4 xb ∧ ob1 < xb ∧ w.heap.size ≤ xb ∧ ∀ z, ob ia = some z → z ≠ xb) := by
            refine ⟨by rw [← hF4]; exact H1.out.1.below hB4, H1.out.2.1.trans (hB4.mono H1.out.2.1.size), r4o, r4x, ?_, ?_, hox, ?_, fun z hz e => ?_⟩
            · rw [← hF4]; exact .inr ⟨Nat.le_of_eq H1.out.2.2.2.2, lt_of_some r4o⟩
            · rw [← hF4]; exact .inr ⟨by have := H1.out.2.2.2.2; omega, lt_of_some r4x⟩
            · have h5 := H1.out.2.1.size; have h6 := H1.out.2.2.2.2; omega
            · have h5 := H1.out.1.idlt z hz; have h6 := H1.out.2.2.2.2; omega
          have v0 : V4.cell? ⟨xb, 0, none⟩ = some (.string ps) := by rw [cell_of_row _ _ _ _ _ _ r4x]; rfl
          have v1 : V4.cell? ⟨xb, 1, none⟩ = some (.int .i64 pm) := by rw [cell_of_row _ _ _ _ _ _ r4x]; rfl
          have c0 : V4.cell? ⟨ob1, 0, none⟩ = some (.int .i64 q0) := by rw [cell_of_row _ _ _ _ _ _ r4o]; rfl
          have c2 : V4.cell? ⟨ob1, 2, none⟩ = some (.string q2) := by rw [cell_of_row _ _ _ _ _ _ r4o]; rfl
          obtain ⟨dg, hdg⟩ : ∃ dg, digW W q2 = dg := ⟨_, rfl⟩
          have HDE : Hid (digW W q2 = dg) := hdg
          have heq : (dg.toList == dg.toList) = true := by simp
          clear HPK hb3 hB3 hB34 hB4 r3o r4o r4x hox hF4 hdg t0 t1 t2 t3 t4 HIN H1 H2 hob
          by_cases e0 : q0 = 0
          · subst e0
            obtain ⟨L5, T5, sm, nm, er, hdoc5, hRP, hSP⟩ := put_both (tb := tb) (st := st) (da := da) (dc := dc) H4.out.1.doc (by omega) hW H4.out.1.dw.len q2
            have HRP := hRP V4 _ H4.out.1.dw
            have HSP2 : Hid (∀ V G, Cs tb G V st tb W (-1) T → Laid V → Calls Tryd.prog 14 #[.pointer (some ⟨st, 0, none⟩), .string q2] V fun e w' => StTo tb G V st W T5 (.tuple #[.agg #[.string sm, .int .i64 (nm : Int)], .int .i64 er]) e w') := hSP
            have HD5 : Hid (Doc W (i + 1) T5 L5) := hdoc5
            clear hRP hSP hdoc5
            go_wp2_with fail
            refine HRP.mono ?_
            rintro e V5 ⟨ea, en, ec, rfl, hd5, hb5⟩
            obtain ⟨hc5, hdw5, hi5⟩ := H4.out.1.dws hb5 hd5
            have r5o := (hb5.block ob1 (lt_of_some H4.out.2.2.1)).trans H4.out.2.2.1
            have r5x := (hb5.block xb (lt_of_some H4.out.2.2.2.1)).trans H4.out.2.2.2.1
            have hbw5 : Below w.heap.size w V5 := H4.out.2.1.trans (hb5.mono H4.out.2.1.size)
            obtain ⟨V6, hV6⟩ : ∃ V6, V5.alloc (.cells #[.string sm, .int .i64 (nm : Int)] 35) = V6 := ⟨_, rfl⟩
            obtain ⟨yb, hyb⟩ : ∃ yb, V5.heap.size = yb := ⟨_, rfl⟩
            have hB6 : Below V5.heap.size V5 V6 := by rw [← hV6]; exact (Below.refl _ V5).alloc (Nat.le_refl _) _
            have r6y : V6.heap[yb]? = some (.cells #[.string sm, .int .i64 (nm : Int)] 35 (0, 0)) := by rw [← hV6, ← hyb]; exact heap_alloc_new V5 _
            have r6o := (hB6.block ob1 (lt_of_some r5o)).trans r5o
            have r6x := (hB6.block xb (lt_of_some r5x)).trans r5x
            have hxy : xb < yb := by have := lt_of_some r5x; omega
            have hbw6 : Below w.heap.size w V6 := hbw5.trans (hB6.mono hbw5.size)
            have HST := HSP2.out V6 _ (hc5.below hB6) (HCS.out.2.2.1.below hbw6)
            have H6 : Hid (Dw (mor (mor F4 V4 V5) V5 V6) V6 ea en ec L5 ∧ Ids tb (mor (mor F4 V4 V5) V5 V6) V6 ia ni ic ids ∧ Below w.heap.size w V6 ∧ V6.heap[ob1]? = some (.cells #[.int .i64 0, .int .i64 q1, .string q2, .string q3, .int .i64 q4] 37 (0, 0)) ∧ V6.heap[xb]? = some (.cells #[.string ps, .int .i64 pm] 35 (0, 0)) ∧ V6.heap[yb]? = some (.cells #[.string sm, .int .i64 (nm : Int)] 35 (0, 0)) ∧ mor (mor F4 V4 V5) V5 V6 ob1 ∧ mor (mor F4 V4 V5) V5 V6 xb ∧ mor (mor F4 V4 V5) V5 V6 yb) := ⟨Rw.fr hdw5 (Fr.below hB6), hi5.fr (Fr.below hB6), hbw6, r6o, r6x, r6y, .inl (.inl H4.out.2.2.2.2.1), .inl (.inl H4.out.2.2.2.2.2.1), .inr ⟨Nat.le_of_eq hyb, lt_of_some r6y⟩⟩
            have c62 : V6.cell? ⟨ob1, 2, none⟩ = some (.string q2) := by rw [cell_of_row _ _ _ _ _ _ r6o]; rfl
            clear HRP hd5 hb5 hc5 hdw5 hi5 r5o r5x hbw5 hB6 r6y r6o r6x hbw6 c0 c2 v0 v1
            go_wp2_with fail
            refine HST.mono ?_
            rintro e V7 ⟨F7, rfl, hc7, hf7, hb7⟩
            have r7o := (hf7.blk ob1 H6.out.2.2.2.2.2.2.1 (lt_of_some H6.out.2.2.2.1)).trans H6.out.2.2.2.1
            have r7x := (hf7.blk xb H6.out.2.2.2.2.2.2.2.1 (lt_of_some H6.out.2.2.2.2.1)).trans H6.out.2.2.2.2.1
            have r7y := (hf7.blk yb H6.out.2.2.2.2.2.2.2.2 (lt_of_some H6.out.2.2.2.2.2.1)).trans H6.out.2.2.2.2.2.1
            have hbw7 : Below w.heap.size w V7 := H6.out.2.2.1.trans (by rw [HCS.out.2.2.2]; exact hb7)
            have z0 : V7.cell? ⟨xb, 0, none⟩ = some (.string ps) := by rw [cell_of_row _ _ _ _ _ _ r7x]; rfl
            have z1 : V7.cell? ⟨xb, 1, none⟩ = some (.int .i64 pm) := by rw [cell_of_row _ _ _ _ _ _ r7x]; rfl
            have f0 := frozen_of_row V7 xb 0 _ _ r7x
            have f1 := frozen_of_row V7 xb 1 _ _ r7x
            obtain ⟨V8, hV8⟩ : ∃ V8, (V7.setCell ⟨xb, 0, none⟩ (.string sm)).setCell ⟨xb, 1, none⟩ (.int .i64 (nm : Int)) = V8 := ⟨_, rfl⟩
            have e8 : ∀ z, z ≠ xb → V8.heap[z]? = V7.heap[z]? := fun z hz => by rw [← hV8]; exact (Below.heap_setCell _ _ _ _ hz).trans (Below.heap_setCell _ _ _ _ hz)
            have r8x : V8.heap[xb]? = some (.cells #[.string sm, .int .i64 (nm : Int)] 35 (0, 0)) := by rw [← hV8]; exact set2 r7x _ _
            have r8y := (e8 yb (by omega)).trans r7y
            have r8o := (e8 ob1 (by have := H4.out.2.2.2.2.2.2.1; omega)).trans r7o
            have hbw8 : Below w.heap.size w V8 := by rw [← hV8]; exact below2s hbw7 (by have := H4.out.2.2.2.2.2.2.2.1; omega) _ _
            have hc8 : Cs tb F7 V8 st tb W (-1) T5 := by rw [← hV8]; exact hc7.set2 r7x _ _
            have hdw8 : Dw F7 V8 ea en ec L5 := by rw [← hV8]; exact Dw.set (Rw.fr H6.out.1 hf7) r7x _ _
            have hi8 : Ids tb F7 V8 ia ni ic ids := by rw [← hV8]; exact (H6.out.2.1.fr hf7).set2 H4.out.2.2.2.2.2.2.2.2 _ _
            have v0 : V8.cell? ⟨xb, 0, none⟩ = some (.string sm) := by rw [cell_of_row _ _ _ _ _ _ r8x]; rfl
            have v1 : V8.cell? ⟨xb, 1, none⟩ = some (.int .i64 (nm : Int)) := by rw [cell_of_row _ _ _ _ _ _ r8x]; rfl
            have y0 : V8.cell? ⟨yb, 0, none⟩ = some (.string sm) := by rw [cell_of_row _ _ _ _ _ _ r8y]; rfl
            have y1 : V8.cell? ⟨yb, 1, none⟩ = some (.int .i64 (nm : Int)) := by rw [cell_of_row _ _ _ _ _ _ r8y]; rfl
            have HEQ : ∀ V, (Op.equalIn 10000 35 (.agg #[.string sm, .int .i64 (nm : Int)]) (.agg #[.string sm, .int .i64 (nm : Int)])).run Tryd.prog V = .ok true V := fun V => by
              have := eqin_id sm sm (nm : Int) (nm : Int) V
              simpa using this
            obtain ⟨V9, hV9⟩ : ∃ V9, V8.alloc (.cells #[.string sm, .int .i64 (nm : Int)] 35) = V9 := ⟨_, rfl⟩
            have hB9 : Below V8.heap.size V8 V9 := by rw [← hV9]; exact (Below.refl _ V8).alloc (Nat.le_refl _) _
            have r9 : V9.heap[V8.heap.size]? = some (.cells (Ix.cells (sm, nm)) 35 (0, 0)) := by rw [← hV9]; exact heap_alloc_new V8 _
            have hc9 := hc8.below hB9
            have hi9 := hi8.fr (Fr.below hB9)
            have hdw9 : Dw (mor F7 V8 V9) V9 ea en ec L5 := Rw.fr hdw8 (Fr.below hB9)
            have hbw9 : Below w.heap.size w V9 := hbw8.trans (hB9.mono hbw8.size)
            have r9o := (hB9.block ob1 (lt_of_some r8o)).trans r8o
            have r9x := (hB9.block xb (lt_of_some r8x)).trans r8x
            obtain ⟨aA, cA, VA, hrA, hiA, hcA, hgA⟩ := hi9.add hc9 (by rw [← HCS.out.2.2.2]; exact hbw9.size) (by omega) r9
            have rAo : VA.heap[ob1]? = some (.cells #[.int .i64 0, .int .i64 q1, .string q2, .string q3, .int .i64 q4] 37 (0, 0)) := (hgA.block ob1 (lt_of_some r9o) (fun e => H4.out.2.2.2.2.2.2.2.2 ob1 e.symm (by
              obtain ⟨_, cur, fr, h5⟩ := hi9.2 ob1 e.symm
              rw [r9o] at h5
              simp only [Option.some.injEq, Obj.cells.injEq] at h5
              exact absurd h5.2.1 (by decide)))).trans r9o
            have rAx : VA.heap[xb]? = some (.cells #[.string sm, .int .i64 (nm : Int)] 35 (0, 0)) := (hgA.block xb (lt_of_some r9x) (fun e => H4.out.2.2.2.2.2.2.2.2 xb e.symm rfl)).trans r9x
            have HZ : Hid (Pl tb (mor (mor F7 V8 V9) V9 VA) VA st W (i + 1) T5 L5 ea en ec aA (ni + 1) cA (ids ++ [(sm, nm)]) ∧ Below w.heap.size w VA ∧ VA.heap[ob1]? = some (.cells #[.int .i64 0, .int .i64 q1, .string q2, .string q3, .int .i64 q4] 37 (0, 0)) ∧ VA.heap[xb]? = some (.cells #[.string sm, .int .i64 (nm : Int)] 35 (0, 0))) := by
              refine ⟨⟨hcA, HD5.out, Rw.grow hdw9 (by decide) hgA (fun z hz => (hi9.2 z hz).2), hiA⟩, hbw9.grown hgA hbw9.size (fun z hz => ?_), rAo, rAx⟩
              have := (hi9.1.lt z (by rw [ob_slice]; exact hz)).1
              rw [HCS.out.2.2.2]
              exact this
            have HC : Hid (∀ V, Below VA.heap.size VA V → V.cell? ⟨xb, 0, none⟩ = some (.string sm) ∧ V.cell? ⟨xb, 1, none⟩ = some (.int .i64 (nm : Int)) ∧ V.cell? ⟨ob1, 2, none⟩ = some (.string q2)) := fun V hV => by
              have g1 := (hV.block xb (lt_of_some HZ.out.2.2.2)).trans HZ.out.2.2.2
              have g2 := (hV.block ob1 (lt_of_some HZ.out.2.2.1)).trans HZ.out.2.2.1
              exact ⟨by rw [cell_of_row _ _ _ _ _ _ g1]; rfl, by rw [cell_of_row _ _ _ _ _ _ g1]; rfl, by rw [cell_of_row _ _ _ _ _ _ g2]; rfl⟩
            have HAL : Hid (∀ V, Below VA.heap.size VA V → Calls Tryd.prog 18 #[.pointer (some ⟨st, 0, none⟩), .slice ea en ec, .agg #[.string sm, .int .i64 (nm : Int)], .int .i64 (W : Int)] V fun e w' => e = .returned (.bool true) ∧ Below V.heap.size V w') := fun V hV => alike_true (HZ.out.1.below hV).cs hW HZ.out.1.doc (by omega) (HZ.out.1.below hV).dw sm (nm : Int)
            have HDG : Hid (∀ V, Below VA.heap.size VA V → Calls Tryd.prog 19 #[.pointer (some ⟨st, 0, none⟩), .string q2] V fun e w' => e = .returned (.string dg) ∧ Below V.heap.size V w') := fun V hV => by
              rw [← HDE.out]
              exact digest_any (HZ.out.1.below hV).cs.c1 hW (HCS.out.2.2.1.below (HZ.out.2.1.trans (hV.mono HZ.out.2.1.size))) q2 (by omega)
            have HRD : Hid (∀ V, Below VA.heap.size VA V → Calls Tryd.prog 20 #[.string q2, .int .i64 (W : Int)] V fun e w' => e = .returned (.string dg) ∧ Below V.heap.size V w') := fun V _ => by
              rw [← HDE.out]
              exact rdigest_any q2 W hW V (by omega)
            have HFIN : Hid (∀ V, Below VA.heap.size VA V → Pl tb (mor (mor (mor F7 V8 V9) V9 VA) VA V) V st W (i + 1) T5 L5 ea en ec aA (ni + 1) cA (ids ++ [(sm, nm)]) ∧ Below w.heap.size w V) := fun V hV => ⟨HZ.out.1.below hV, HZ.out.2.1.trans (hV.mono HZ.out.2.1.size)⟩
            clear HST hc7 hf7 hb7 r7o r7x r7y hbw7 e8 r8x r8y r8o hbw8 hc8 hdw8 hi8 hB9 r9 hc9 hi9 hdw9 hbw9 r9o r9x hiA hcA hgA rAo rAx c62
            go_wp2_with ((at_builtin; refine wpList_app V9 rfl _ _ _ _ rfl rfl rfl (hrA _) (Stop.out ?_)))
            unfold Stop
            go_wp2
            refine wp_region_held_drew (S := fun W => W.cell? ⟨xb, 0, none⟩ = some (.string sm) ∧ W.cell? ⟨xb, 1, none⟩ = some (.int .i64 (nm : Int)) ∧ W.cell? ⟨ob1, 2, none⟩ = some (.string q2)) (by kernel_rfl) (HC.out VA.drew (Below.refl _ VA).drew) (fun hHeld => ?_)
            refine wpAnyH_take (i := 0) (v := ?vb_0) rfl (by kernel_rfl) (by kernel_rfl) (by kernel_rfl) (fun _ _ _ h => h) (Or.inl ⟨by first | kernel_rfl | rfl, ?yb_0⟩) hHeld ?rb_0
            case yb_0 => (intro W hSW; (try dsimp only at hSW); go_simp; (try with_reducible rfl))
            change wpAnyH _ _ _ _ _ _ _ (Act.put _ (some 118) _) _
            simp only [Act.put, List.setIfInBounds_toArray, List.set_cons_zero, List.set_cons_succ]
            refine wpAnyH_take (i := 1) (v := ?vb_1) rfl (by kernel_rfl) (by kernel_rfl) (by kernel_rfl) (fun _ _ _ h => h) (Or.inl ⟨by first | kernel_rfl | rfl, ?yb_1⟩) hHeld ?rb_1
            case yb_1 => (intro W hSW; (try dsimp only at hSW); go_simp; (try with_reducible rfl))
            change wpAnyH _ _ _ _ _ _ _ (Act.put _ (some 119) _) _
            simp only [Act.put, List.setIfInBounds_toArray, List.set_cons_zero, List.set_cons_succ]
            refine wpAnyH_take (i := 2) (v := ?vb_2) rfl (by kernel_rfl) (by kernel_rfl) (by kernel_rfl) (fun _ _ _ h => h) (Or.inl ⟨by first | kernel_rfl | rfl, ?yb_2⟩) hHeld ?rb_2
            case yb_2 => (intro W hSW; (try dsimp only at hSW); go_simp; (try with_reducible rfl))
            change wpAnyH _ _ _ _ _ _ _ (Act.put _ (some 120) _) _
            simp only [Act.put, List.setIfInBounds_toArray, List.set_cons_zero, List.set_cons_succ]
            refine wpAnyH_take (i := 3) (v := ?vb_3) rfl (by kernel_rfl) (by kernel_rfl) (by kernel_rfl) (fun _ _ _ h => h) (Or.inl ⟨by first | kernel_rfl | rfl, ?yb_3⟩) hHeld ?rb_3
            case yb_3 => (intro W hSW; (try dsimp only at hSW); go_simp; (try with_reducible rfl))
            change wpAnyH _ _ _ _ _ _ _ (Act.put _ (some 121) _) _
            simp only [Act.put, List.setIfInBounds_toArray, List.set_cons_zero, List.set_cons_succ]
            refine wpAnyH_take (i := 4) (v := ?vb_4) rfl (by kernel_rfl) (by kernel_rfl) (by kernel_rfl) (fun _ _ _ h => h) (Or.inl ⟨by first | kernel_rfl | rfl, ?yb_4⟩) hHeld ?rb_4
            case yb_4 => (intro W hSW; (try dsimp only at hSW); go_simp; (try with_reducible rfl))
            change wpAnyH _ _ _ _ _ _ _ (Act.put _ (some 122) _) _
            simp only [Act.put, List.setIfInBounds_toArray, List.set_cons_zero, List.set_cons_succ]
            refine wpAnyH_take (i := 5) (v := ?vb_5) rfl (by kernel_rfl) (by kernel_rfl) (by kernel_rfl) (fun _ _ _ h => h) (Or.inl ⟨by first | kernel_rfl | rfl, ?yb_5⟩) hHeld ?rb_5
            case yb_5 => (intro W hSW; (try dsimp only at hSW); go_simp; (try with_reducible rfl))
            change wpAnyH _ _ _ _ _ _ _ (Act.put _ (some 123) _) _
            simp only [Act.put, List.setIfInBounds_toArray, List.set_cons_zero, List.set_cons_succ]
            refine wpAnyH_take (i := 6) (v := ?vb_6) rfl (by kernel_rfl) (by kernel_rfl) (by kernel_rfl) (fun _ _ _ h => h) (Or.inl ⟨by first | kernel_rfl | rfl, ?yb_6⟩) hHeld ?rb_6
            case yb_6 => (intro W hSW; (try dsimp only at hSW); go_simp; (try with_reducible rfl))
            change wpAnyH _ _ _ _ _ _ _ (Act.put _ (some 124) _) _
            simp only [Act.put, List.setIfInBounds_toArray, List.set_cons_zero, List.set_cons_succ]
            refine wpAnyH_take (i := 7) (v := ?vb_7) rfl (by kernel_rfl) (by kernel_rfl) (by kernel_rfl) (fun _ _ _ h => h) (Or.inl ⟨by first | kernel_rfl | rfl, ?yb_7⟩) hHeld ?rb_7
            case yb_7 => (intro W hSW; (try dsimp only at hSW); go_simp; (try with_reducible rfl))
            change wpAnyH _ _ _ _ _ _ _ (Act.put _ (some 125) _) _
            simp only [Act.put, List.setIfInBounds_toArray, List.set_cons_zero, List.set_cons_succ]
            refine wpAnyH_ready (rs := [8]) (by kernel_rfl) (by simp) ?_
            refine AllReadyH.cons rfl (fun K hK => ?_) AllReadyH.nil
            go_simp
            refine (HAL.out VA.drew (Below.refl _ VA).drew).mono ?_
            rintro e Va ⟨rfl, hba⟩
            refine hK.out _ _ (HC.out Va ((Below.refl _ VA).drew.trans hba)) (fun hHeld => ?_)
            clear hK K
            try simp only [Act.put, List.setIfInBounds_toArray, List.set_cons_zero, List.set_cons_succ]
            have HVA : Hid (Below VA.heap.size VA Va) := (Below.refl _ VA).drew.trans hba
            clear hba
            refine wpAnyH_take (i := 9) (v := ?vb_9) rfl (by kernel_rfl) (by kernel_rfl) (by kernel_rfl) (fun _ _ _ h => h) (Or.inl ⟨by first | kernel_rfl | rfl, ?yb_9⟩) hHeld ?rb_9
            case yb_9 => (intro W hSW; (try dsimp only at hSW); go_simp; (try with_reducible rfl))
            change wpAnyH _ _ _ _ _ _ _ (Act.put _ (some 127) _) _
            simp only [Act.put, List.setIfInBounds_toArray, List.set_cons_zero, List.set_cons_succ]
            refine wpAnyH_take (i := 10) (v := ?vb_10) rfl (by kernel_rfl) (by kernel_rfl) (by kernel_rfl) (fun _ _ _ h => h) (Or.inl ⟨by first | kernel_rfl | rfl, ?yb_10⟩) hHeld ?rb_10
            case yb_10 => (intro W hSW; (try dsimp only at hSW); go_simp; (try with_reducible rfl))
            change wpAnyH _ _ _ _ _ _ _ (Act.put _ (some 128) _) _
            simp only [Act.put, List.setIfInBounds_toArray, List.set_cons_zero, List.set_cons_succ]
            refine wpAnyH_take (i := 11) (v := ?vb_11) rfl (by kernel_rfl) (by kernel_rfl) (by kernel_rfl) (fun _ _ _ h => h) (Or.inl ⟨by first | kernel_rfl | rfl, ?yb_11⟩) hHeld ?rb_11
            case yb_11 => (intro W hSW; (try dsimp only at hSW); go_simp; (try with_reducible rfl))
            change wpAnyH _ _ _ _ _ _ _ (Act.put _ (some 129) _) _
            simp only [Act.put, List.setIfInBounds_toArray, List.set_cons_zero, List.set_cons_succ]
            refine wpAnyH_take (i := 12) (v := ?vb_12) rfl (by kernel_rfl) (by kernel_rfl) (by kernel_rfl) (fun _ _ _ h => h) (Or.inl ⟨by first | kernel_rfl | rfl, ?yb_12⟩) hHeld ?rb_12
            case yb_12 => (intro W hSW; (try dsimp only at hSW); go_simp; (try with_reducible rfl))
            change wpAnyH _ _ _ _ _ _ _ (Act.put _ (some 130) _) _
            simp only [Act.put, List.setIfInBounds_toArray, List.set_cons_zero, List.set_cons_succ]
            refine wpAnyH_take (i := 13) (v := ?vb_13) rfl (by kernel_rfl) (by kernel_rfl) (by kernel_rfl) (fun _ _ _ h => h) (Or.inl ⟨by first | kernel_rfl | rfl, ?yb_13⟩) hHeld ?rb_13
            case yb_13 => (intro W hSW; (try dsimp only at hSW); go_simp; (try with_reducible rfl))
            change wpAnyH _ _ _ _ _ _ _ (Act.put _ (some 131) _) _
            simp only [Act.put, List.setIfInBounds_toArray, List.set_cons_zero, List.set_cons_succ]
            refine wpAnyH_take (i := 14) (v := ?vb_14) rfl (by kernel_rfl) (by kernel_rfl) (by kernel_rfl) (fun _ _ _ h => h) (Or.inl ⟨by first | kernel_rfl | rfl, ?yb_14⟩) hHeld ?rb_14
            case yb_14 => (intro W hSW; (try dsimp only at hSW); go_simp; (try with_reducible rfl))
            change wpAnyH _ _ _ _ _ _ _ (Act.put _ (some 132) _) _
            simp only [Act.put, List.setIfInBounds_toArray, List.set_cons_zero, List.set_cons_succ]
            refine wpAnyH_take (i := 16) (v := ?vb_16) rfl (by kernel_rfl) (by kernel_rfl) (by kernel_rfl) (fun _ _ _ h => h) (Or.inl ⟨by first | kernel_rfl | rfl, ?yb_16⟩) hHeld ?rb_16
            case yb_16 => (intro W hSW; (try dsimp only at hSW); go_simp; (try with_reducible rfl))
            change wpAnyH _ _ _ _ _ _ _ (Act.put _ (some 134) _) _
            simp only [Act.put, List.setIfInBounds_toArray, List.set_cons_zero, List.set_cons_succ]
            refine wpAnyH_take (i := 17) (v := ?vb_17) rfl (by kernel_rfl) (by kernel_rfl) (by kernel_rfl) (fun _ _ _ h => h) (Or.inl ⟨by first | kernel_rfl | rfl, ?yb_17⟩) hHeld ?rb_17
            case yb_17 => (intro W hSW; (try dsimp only at hSW); go_simp; (try with_reducible rfl))
            change wpAnyH _ _ _ _ _ _ _ (Act.put _ (some 135) _) _
            simp only [Act.put, List.setIfInBounds_toArray, List.set_cons_zero, List.set_cons_succ]
            refine wpAnyH_take (i := 18) (v := ?vb_18) rfl (by kernel_rfl) (by kernel_rfl) (by kernel_rfl) (fun _ _ _ h => h) (Or.inl ⟨by first | kernel_rfl | rfl, ?yb_18⟩) hHeld ?rb_18
            case yb_18 => (intro W hSW; (try dsimp only at hSW); go_simp; (try with_reducible rfl))
            change wpAnyH _ _ _ _ _ _ _ (Act.put _ (some 136) _) _
            simp only [Act.put, List.setIfInBounds_toArray, List.set_cons_zero, List.set_cons_succ]
            refine wpAnyH_ready (rs := [15]) (by kernel_rfl) (by simp) ?_
            refine AllReadyH.cons rfl (fun K hK => ?_) AllReadyH.nil
            go_simp
            refine (HDG.out Va HVA.out).mono ?_
            rintro e Vb ⟨rfl, hbb⟩
            refine hK.out _ _ (HC.out Vb (HVA.out.trans (hbb.mono HVA.out.size))) (fun hHeld => ?_)
            clear hK K
            try simp only [Act.put, List.setIfInBounds_toArray, List.set_cons_zero, List.set_cons_succ]
            have HVB : Hid (Below VA.heap.size VA Vb) := HVA.out.trans (hbb.mono HVA.out.size)
            clear hbb
            refine wpAnyH_ready (rs := [19]) (by kernel_rfl) (by simp) ?_
            refine AllReadyH.cons rfl (fun K hK => ?_) AllReadyH.nil
            go_simp
            refine (HRD.out Vb HVB.out).mono ?_
            rintro e Vc ⟨rfl, hbc⟩
            refine hK.out _ _ (HC.out Vc (HVB.out.trans (hbc.mono HVB.out.size))) (fun hHeld => ?_)
            clear hK K
            try simp only [Act.put, List.setIfInBounds_toArray, List.set_cons_zero, List.set_cons_succ]
            have HVC : Hid (Below VA.heap.size VA Vc) := HVB.out.trans (hbc.mono HVB.out.size)
            clear hbc
            refine wpAnyH_take (i := 20) (v := ?vb_20) rfl (by kernel_rfl) (by kernel_rfl) (by kernel_rfl) (fun _ _ _ h => h) (Or.inl ⟨by first | kernel_rfl | rfl, ?yb_20⟩) hHeld ?rb_20
            case yb_20 => (intro W hSW; (try dsimp only at hSW); go_simp; (try with_reducible rfl))
            change wpAnyH _ _ _ _ _ _ _ (Act.put _ (some 138) _) _
            simp only [Act.put, List.setIfInBounds_toArray, List.set_cons_zero, List.set_cons_succ]
            refine wpAnyH_take (i := 21) (v := ?vb_21) rfl (by kernel_rfl) (by kernel_rfl) (by kernel_rfl) (fun _ _ _ h => h) (Or.inl ⟨by first | kernel_rfl | rfl, ?yb_21⟩) hHeld ?rb_21
            case yb_21 => (intro W hSW; (try dsimp only at hSW); go_simp; (try with_reducible rfl))
            change wpAnyH _ _ _ _ _ _ _ (Act.put _ (some 139) _) _
            simp only [Act.put, List.setIfInBounds_toArray, List.set_cons_zero, List.set_cons_succ]
            refine wpAnyH_done (by kernel_rfl) ?_ _
            go_wp2
            exact ⟨⟨i + 1, en, ec, (ni + 1), cA, ea, aA, _, T5, L5, (ids ++ [(sm, nm)]), by omega, by omega, by omega, by go_num, by first | rfl | go_num, by first | rfl | go_num, (HFIN.out Vc HVC.out).1, (HFIN.out Vc HVC.out).2⟩, by simp [intOf]; omega⟩
          by_cases e1 : q0 = 1
          · subst e1
            obtain ⟨L5, T5, er, hdoc5, hRC, hSC⟩ := again_both (tb := tb) (st := st) (da := da) (dc := dc) H4.out.1.doc (by omega) hW H4.out.1.dw.len ps pm
            have HRC := hRC V4 _ H4.out.1.dw
            have HSC2 : Hid (∀ V G, Cs tb G V st tb W (-1) T → Calls Tryd.prog 16 #[.pointer (some ⟨st, 0, none⟩), .agg #[.string ps, .int .i64 pm]] V fun e w' => StTo tb G V st W T5 (.int .i64 er) e w') := hSC
            clear hRC hSC
            go_wp2_with fail
            refine HRC.mono ?_
            rintro e V5 ⟨ea, en, ec, rfl, hd5, hb5⟩
            obtain ⟨hc5, hdw5, hi5⟩ := H4.out.1.dws hb5 hd5
            have r5o := (hb5.block ob1 (lt_of_some H4.out.2.2.1)).trans H4.out.2.2.1
            have r5x := (hb5.block xb (lt_of_some H4.out.2.2.2.1)).trans H4.out.2.2.2.1
            have HST := HSC2.out V5 _ hc5
            have H5 : Hid (Dw (mor F4 V4 V5) V5 ea en ec L5 ∧ Ids tb (mor F4 V4 V5) V5 ia ni ic ids ∧ Below w.heap.size w V5 ∧ V5.heap[ob1]? = some (.cells #[.int .i64 1, .int .i64 q1, .string q2, .string q3, .int .i64 q4] 37 (0, 0)) ∧ V5.heap[xb]? = some (.cells #[.string ps, .int .i64 pm] 35 (0, 0)) ∧ Doc W (i + 1) T5 L5 ∧ mor F4 V4 V5 ob1 ∧ mor F4 V4 V5 xb) := ⟨hdw5, hi5, H4.out.2.1.trans (hb5.mono H4.out.2.1.size), r5o, r5x, hdoc5, .inl H4.out.2.2.2.2.1, .inl H4.out.2.2.2.2.2.1⟩
            have u0 : V5.cell? ⟨xb, 0, none⟩ = some (.string ps) := by rw [cell_of_row _ _ _ _ _ _ r5x]; rfl
            have u1 : V5.cell? ⟨xb, 1, none⟩ = some (.int .i64 pm) := by rw [cell_of_row _ _ _ _ _ _ r5x]; rfl
            clear HRC hd5 hb5 hc5 hdw5 hi5 r5o r5x hdoc5 c0 c2 v0 v1
            go_wp2_with fail
            refine HST.mono ?_
            rintro e V6 ⟨F6, rfl, hc6, hf6, hb6⟩
            have HZ : Hid (Pl tb F6 V6 st W (i + 1) T5 L5 ea en ec ia ni ic ids ∧ Below w.heap.size w V6 ∧ V6.heap[ob1]? = some (.cells #[.int .i64 1, .int .i64 q1, .string q2, .string q3, .int .i64 q4] 37 (0, 0)) ∧ V6.heap[xb]? = some (.cells #[.string ps, .int .i64 pm] 35 (0, 0))) := ⟨⟨hc6, H5.out.2.2.2.2.2.1, Rw.fr H5.out.1 hf6, H5.out.2.1.fr hf6⟩, H5.out.2.2.1.trans (by rw [HCS.out.2.2.2]; exact hb6), (hf6.blk ob1 H5.out.2.2.2.2.2.2.1 (lt_of_some H5.out.2.2.2.1)).trans H5.out.2.2.2.1, (hf6.blk xb H5.out.2.2.2.2.2.2.2 (lt_of_some H5.out.2.2.2.2.1)).trans H5.out.2.2.2.2.1⟩
            have HC : Hid (∀ V, Below V6.heap.size V6 V → V.cell? ⟨xb, 0, none⟩ = some (.string ps) ∧ V.cell? ⟨xb, 1, none⟩ = some (.int .i64 pm) ∧ V.cell? ⟨ob1, 2, none⟩ = some (.string q2)) := fun V hV => by
              have g1 := (hV.block xb (lt_of_some HZ.out.2.2.2)).trans HZ.out.2.2.2
              have g2 := (hV.block ob1 (lt_of_some HZ.out.2.2.1)).trans HZ.out.2.2.1
              exact ⟨by rw [cell_of_row _ _ _ _ _ _ g1]; rfl, by rw [cell_of_row _ _ _ _ _ _ g1]; rfl, by rw [cell_of_row _ _ _ _ _ _ g2]; rfl⟩
            have HAL : Hid (∀ V, Below V6.heap.size V6 V → Calls Tryd.prog 18 #[.pointer (some ⟨st, 0, none⟩), .slice ea en ec, .agg #[.string ps, .int .i64 pm], .int .i64 (W : Int)] V fun e w' => e = .returned (.bool true) ∧ Below V.heap.size V w') := fun V hV => alike_true (HZ.out.1.below hV).cs hW HZ.out.1.doc (by omega) (HZ.out.1.below hV).dw ps pm
            have HDG : Hid (∀ V, Below V6.heap.size V6 V → Calls Tryd.prog 19 #[.pointer (some ⟨st, 0, none⟩), .string q2] V fun e w' => e = .returned (.string dg) ∧ Below V.heap.size V w') := fun V hV => by
              rw [← HDE.out]
              exact digest_any (HZ.out.1.below hV).cs.c1 hW (HCS.out.2.2.1.below (HZ.out.2.1.trans (hV.mono HZ.out.2.1.size))) q2 (by omega)
            have HRD : Hid (∀ V, Below V6.heap.size V6 V → Calls Tryd.prog 20 #[.string q2, .int .i64 (W : Int)] V fun e w' => e = .returned (.string dg) ∧ Below V.heap.size V w') := fun V _ => by
              rw [← HDE.out]
              exact rdigest_any q2 W hW V (by omega)
            have HFIN : Hid (∀ V, Below V6.heap.size V6 V → Pl tb (mor F6 V6 V) V st W (i + 1) T5 L5 ea en ec ia ni ic ids ∧ Below w.heap.size w V) := fun V hV => ⟨HZ.out.1.below hV, HZ.out.2.1.trans (hV.mono HZ.out.2.1.size)⟩
            clear HST hc6 hf6 hb6 u0 u1
            go_wp2
            refine wp_region_held_drew (S := fun W => W.cell? ⟨xb, 0, none⟩ = some (.string ps) ∧ W.cell? ⟨xb, 1, none⟩ = some (.int .i64 pm) ∧ W.cell? ⟨ob1, 2, none⟩ = some (.string q2)) (by kernel_rfl) (HC.out V6.drew (Below.refl _ V6).drew) (fun hHeld => ?_)
            refine wpAnyH_take (i := 0) (v := ?vc_0) rfl (by kernel_rfl) (by kernel_rfl) (by kernel_rfl) (fun _ _ _ h => h) (Or.inl ⟨by first | kernel_rfl | rfl, ?yc_0⟩) hHeld ?rc_0
            case yc_0 => (intro W hSW; (try dsimp only at hSW); go_simp; (try with_reducible rfl))
            change wpAnyH _ _ _ _ _ _ _ (Act.put _ (some 118) _) _
            simp only [Act.put, List.setIfInBounds_toArray, List.set_cons_zero, List.set_cons_succ]
            refine wpAnyH_take (i := 1) (v := ?vc_1) rfl (by kernel_rfl) (by kernel_rfl) (by kernel_rfl) (fun _ _ _ h => h) (Or.inl ⟨by first | kernel_rfl | rfl, ?yc_1⟩) hHeld ?rc_1
            case yc_1 => (intro W hSW; (try dsimp only at hSW); go_simp; (try with_reducible rfl))
            change wpAnyH _ _ _ _ _ _ _ (Act.put _ (some 119) _) _
            simp only [Act.put, List.setIfInBounds_toArray, List.set_cons_zero, List.set_cons_succ]
            refine wpAnyH_take (i := 2) (v := ?vc_2) rfl (by kernel_rfl) (by kernel_rfl) (by kernel_rfl) (fun _ _ _ h => h) (Or.inl ⟨by first | kernel_rfl | rfl, ?yc_2⟩) hHeld ?rc_2
            case yc_2 => (intro W hSW; (try dsimp only at hSW); go_simp; (try with_reducible rfl))
            change wpAnyH _ _ _ _ _ _ _ (Act.put _ (some 120) _) _
            simp only [Act.put, List.setIfInBounds_toArray, List.set_cons_zero, List.set_cons_succ]
            refine wpAnyH_take (i := 3) (v := ?vc_3) rfl (by kernel_rfl) (by kernel_rfl) (by kernel_rfl) (fun _ _ _ h => h) (Or.inl ⟨by first | kernel_rfl | rfl, ?yc_3⟩) hHeld ?rc_3
            case yc_3 => (intro W hSW; (try dsimp only at hSW); go_simp; (try with_reducible rfl))
            change wpAnyH _ _ _ _ _ _ _ (Act.put _ (some 121) _) _
            simp only [Act.put, List.setIfInBounds_toArray, List.set_cons_zero, List.set_cons_succ]
            refine wpAnyH_take (i := 4) (v := ?vc_4) rfl (by kernel_rfl) (by kernel_rfl) (by kernel_rfl) (fun _ _ _ h => h) (Or.inl ⟨by first | kernel_rfl | rfl, ?yc_4⟩) hHeld ?rc_4
            case yc_4 => (intro W hSW; (try dsimp only at hSW); go_simp; (try with_reducible rfl))
            change wpAnyH _ _ _ _ _ _ _ (Act.put _ (some 122) _) _
            simp only [Act.put, List.setIfInBounds_toArray, List.set_cons_zero, List.set_cons_succ]
            refine wpAnyH_take (i := 5) (v := ?vc_5) rfl (by kernel_rfl) (by kernel_rfl) (by kernel_rfl) (fun _ _ _ h => h) (Or.inl ⟨by first | kernel_rfl | rfl, ?yc_5⟩) hHeld ?rc_5
            case yc_5 => (intro W hSW; (try dsimp only at hSW); go_simp; (try with_reducible rfl))
            change wpAnyH _ _ _ _ _ _ _ (Act.put _ (some 123) _) _
            simp only [Act.put, List.setIfInBounds_toArray, List.set_cons_zero, List.set_cons_succ]
            refine wpAnyH_take (i := 6) (v := ?vc_6) rfl (by kernel_rfl) (by kernel_rfl) (by kernel_rfl) (fun _ _ _ h => h) (Or.inl ⟨by first | kernel_rfl | rfl, ?yc_6⟩) hHeld ?rc_6
            case yc_6 => (intro W hSW; (try dsimp only at hSW); go_simp; (try with_reducible rfl))
            change wpAnyH _ _ _ _ _ _ _ (Act.put _ (some 124) _) _
            simp only [Act.put, List.setIfInBounds_toArray, List.set_cons_zero, List.set_cons_succ]
            refine wpAnyH_take (i := 7) (v := ?vc_7) rfl (by kernel_rfl) (by kernel_rfl) (by kernel_rfl) (fun _ _ _ h => h) (Or.inl ⟨by first | kernel_rfl | rfl, ?yc_7⟩) hHeld ?rc_7
            case yc_7 => (intro W hSW; (try dsimp only at hSW); go_simp; (try with_reducible rfl))
            change wpAnyH _ _ _ _ _ _ _ (Act.put _ (some 125) _) _
            simp only [Act.put, List.setIfInBounds_toArray, List.set_cons_zero, List.set_cons_succ]
            refine wpAnyH_ready (rs := [8]) (by kernel_rfl) (by simp) ?_
            refine AllReadyH.cons rfl (fun K hK => ?_) AllReadyH.nil
            go_simp
            refine (HAL.out V6.drew (Below.refl _ V6).drew).mono ?_
            rintro e Va ⟨rfl, hba⟩
            refine hK.out _ _ (HC.out Va ((Below.refl _ V6).drew.trans hba)) (fun hHeld => ?_)
            clear hK K
            try simp only [Act.put, List.setIfInBounds_toArray, List.set_cons_zero, List.set_cons_succ]
            have HVA : Hid (Below V6.heap.size V6 Va) := (Below.refl _ V6).drew.trans hba
            clear hba
            refine wpAnyH_take (i := 9) (v := ?vc_9) rfl (by kernel_rfl) (by kernel_rfl) (by kernel_rfl) (fun _ _ _ h => h) (Or.inl ⟨by first | kernel_rfl | rfl, ?yc_9⟩) hHeld ?rc_9
            case yc_9 => (intro W hSW; (try dsimp only at hSW); go_simp; (try with_reducible rfl))
            change wpAnyH _ _ _ _ _ _ _ (Act.put _ (some 127) _) _
            simp only [Act.put, List.setIfInBounds_toArray, List.set_cons_zero, List.set_cons_succ]
            refine wpAnyH_take (i := 10) (v := ?vc_10) rfl (by kernel_rfl) (by kernel_rfl) (by kernel_rfl) (fun _ _ _ h => h) (Or.inl ⟨by first | kernel_rfl | rfl, ?yc_10⟩) hHeld ?rc_10
            case yc_10 => (intro W hSW; (try dsimp only at hSW); go_simp; (try with_reducible rfl))
            change wpAnyH _ _ _ _ _ _ _ (Act.put _ (some 128) _) _
            simp only [Act.put, List.setIfInBounds_toArray, List.set_cons_zero, List.set_cons_succ]
            refine wpAnyH_take (i := 11) (v := ?vc_11) rfl (by kernel_rfl) (by kernel_rfl) (by kernel_rfl) (fun _ _ _ h => h) (Or.inl ⟨by first | kernel_rfl | rfl, ?yc_11⟩) hHeld ?rc_11
            case yc_11 => (intro W hSW; (try dsimp only at hSW); go_simp; (try with_reducible rfl))
            change wpAnyH _ _ _ _ _ _ _ (Act.put _ (some 129) _) _
            simp only [Act.put, List.setIfInBounds_toArray, List.set_cons_zero, List.set_cons_succ]
            refine wpAnyH_take (i := 12) (v := ?vc_12) rfl (by kernel_rfl) (by kernel_rfl) (by kernel_rfl) (fun _ _ _ h => h) (Or.inl ⟨by first | kernel_rfl | rfl, ?yc_12⟩) hHeld ?rc_12
            case yc_12 => (intro W hSW; (try dsimp only at hSW); go_simp; (try with_reducible rfl))
            change wpAnyH _ _ _ _ _ _ _ (Act.put _ (some 130) _) _
            simp only [Act.put, List.setIfInBounds_toArray, List.set_cons_zero, List.set_cons_succ]
            refine wpAnyH_take (i := 13) (v := ?vc_13) rfl (by kernel_rfl) (by kernel_rfl) (by kernel_rfl) (fun _ _ _ h => h) (Or.inl ⟨by first | kernel_rfl | rfl, ?yc_13⟩) hHeld ?rc_13
            case yc_13 => (intro W hSW; (try dsimp only at hSW); go_simp; (try with_reducible rfl))
            change wpAnyH _ _ _ _ _ _ _ (Act.put _ (some 131) _) _
            simp only [Act.put, List.setIfInBounds_toArray, List.set_cons_zero, List.set_cons_succ]
            refine wpAnyH_take (i := 14) (v := ?vc_14) rfl (by kernel_rfl) (by kernel_rfl) (by kernel_rfl) (fun _ _ _ h => h) (Or.inl ⟨by first | kernel_rfl | rfl, ?yc_14⟩) hHeld ?rc_14
            case yc_14 => (intro W hSW; (try dsimp only at hSW); go_simp; (try with_reducible rfl))
            change wpAnyH _ _ _ _ _ _ _ (Act.put _ (some 132) _) _
            simp only [Act.put, List.setIfInBounds_toArray, List.set_cons_zero, List.set_cons_succ]
            refine wpAnyH_take (i := 16) (v := ?vc_16) rfl (by kernel_rfl) (by kernel_rfl) (by kernel_rfl) (fun _ _ _ h => h) (Or.inl ⟨by first | kernel_rfl | rfl, ?yc_16⟩) hHeld ?rc_16
            case yc_16 => (intro W hSW; (try dsimp only at hSW); go_simp; (try with_reducible rfl))
            change wpAnyH _ _ _ _ _ _ _ (Act.put _ (some 134) _) _
            simp only [Act.put, List.setIfInBounds_toArray, List.set_cons_zero, List.set_cons_succ]
            refine wpAnyH_take (i := 17) (v := ?vc_17) rfl (by kernel_rfl) (by kernel_rfl) (by kernel_rfl) (fun _ _ _ h => h) (Or.inl ⟨by first | kernel_rfl | rfl, ?yc_17⟩) hHeld ?rc_17
            case yc_17 => (intro W hSW; (try dsimp only at hSW); go_simp; (try with_reducible rfl))
            change wpAnyH _ _ _ _ _ _ _ (Act.put _ (some 135) _) _
            simp only [Act.put, List.setIfInBounds_toArray, List.set_cons_zero, List.set_cons_succ]
            refine wpAnyH_take (i := 18) (v := ?vc_18) rfl (by kernel_rfl) (by kernel_rfl) (by kernel_rfl) (fun _ _ _ h => h) (Or.inl ⟨by first | kernel_rfl | rfl, ?yc_18⟩) hHeld ?rc_18
            case yc_18 => (intro W hSW; (try dsimp only at hSW); go_simp; (try with_reducible rfl))
            change wpAnyH _ _ _ _ _ _ _ (Act.put _ (some 136) _) _
            simp only [Act.put, List.setIfInBounds_toArray, List.set_cons_zero, List.set_cons_succ]
            refine wpAnyH_ready (rs := [15]) (by kernel_rfl) (by simp) ?_
            refine AllReadyH.cons rfl (fun K hK => ?_) AllReadyH.nil
            go_simp
            refine (HDG.out Va HVA.out).mono ?_
            rintro e Vb ⟨rfl, hbb⟩
            refine hK.out _ _ (HC.out Vb (HVA.out.trans (hbb.mono HVA.out.size))) (fun hHeld => ?_)
            clear hK K
            try simp only [Act.put, List.setIfInBounds_toArray, List.set_cons_zero, List.set_cons_succ]
            have HVB : Hid (Below V6.heap.size V6 Vb) := HVA.out.trans (hbb.mono HVA.out.size)
            clear hbb
            refine wpAnyH_ready (rs := [19]) (by kernel_rfl) (by simp) ?_
            refine AllReadyH.cons rfl (fun K hK => ?_) AllReadyH.nil
            go_simp
            refine (HRD.out Vb HVB.out).mono ?_
            rintro e Vc ⟨rfl, hbc⟩
            refine hK.out _ _ (HC.out Vc (HVB.out.trans (hbc.mono HVB.out.size))) (fun hHeld => ?_)
            clear hK K
            try simp only [Act.put, List.setIfInBounds_toArray, List.set_cons_zero, List.set_cons_succ]
            have HVC : Hid (Below V6.heap.size V6 Vc) := HVB.out.trans (hbc.mono HVB.out.size)
            clear hbc
            refine wpAnyH_take (i := 20) (v := ?vc_20) rfl (by kernel_rfl) (by kernel_rfl) (by kernel_rfl) (fun _ _ _ h => h) (Or.inl ⟨by first | kernel_rfl | rfl, ?yc_20⟩) hHeld ?rc_20
            case yc_20 => (intro W hSW; (try dsimp only at hSW); go_simp; (try with_reducible rfl))
            change wpAnyH _ _ _ _ _ _ _ (Act.put _ (some 138) _) _
            simp only [Act.put, List.setIfInBounds_toArray, List.set_cons_zero, List.set_cons_succ]
            refine wpAnyH_take (i := 21) (v := ?vc_21) rfl (by kernel_rfl) (by kernel_rfl) (by kernel_rfl) (fun _ _ _ h => h) (Or.inl ⟨by first | kernel_rfl | rfl, ?yc_21⟩) hHeld ?rc_21
            case yc_21 => (intro W hSW; (try dsimp only at hSW); go_simp; (try with_reducible rfl))
            change wpAnyH _ _ _ _ _ _ _ (Act.put _ (some 139) _) _
            simp only [Act.put, List.setIfInBounds_toArray, List.set_cons_zero, List.set_cons_succ]
            refine wpAnyH_done (by kernel_rfl) ?_ _
            go_wp2
            exact ⟨⟨i + 1, en, ec, ni, ic, ea, ia, _, T5, L5, ids, by omega, by omega, by omega, by go_num, by first | rfl | go_num, by first | rfl | go_num, (HFIN.out Vc HVC.out).1, (HFIN.out Vc HVC.out).2⟩, by simp [intOf]; omega⟩
          by_cases e5 : q0 = 5
          · subst e5
            obtain ⟨L5, T5, er, hdoc5, hRC, hSC⟩ := again_both (tb := tb) (st := st) (da := da) (dc := dc) H4.out.1.doc (by omega) hW H4.out.1.dw.len ps pm
            have HRC := hRC V4 _ H4.out.1.dw
            have HSC2 : Hid (∀ V G, Cs tb G V st tb W (-1) T → Calls Tryd.prog 16 #[.pointer (some ⟨st, 0, none⟩), .agg #[.string ps, .int .i64 pm]] V fun e w' => StTo tb G V st W T5 (.int .i64 er) e w') := hSC
            clear hRC hSC
            go_wp2_with fail
            refine HRC.mono ?_
            rintro e V5 ⟨ea, en, ec, rfl, hd5, hb5⟩
            obtain ⟨hc5, hdw5, hi5⟩ := H4.out.1.dws hb5 hd5
            have r5o := (hb5.block ob1 (lt_of_some H4.out.2.2.1)).trans H4.out.2.2.1
            have r5x := (hb5.block xb (lt_of_some H4.out.2.2.2.1)).trans H4.out.2.2.2.1
            have HST := HSC2.out V5 _ hc5
            have H5 : Hid (Dw (mor F4 V4 V5) V5 ea en ec L5 ∧ Ids tb (mor F4 V4 V5) V5 ia ni ic ids ∧ Below w.heap.size w V5 ∧ V5.heap[ob1]? = some (.cells #[.int .i64 5, .int .i64 q1, .string q2, .string q3, .int .i64 q4] 37 (0, 0)) ∧ V5.heap[xb]? = some (.cells #[.string ps, .int .i64 pm] 35 (0, 0)) ∧ Doc W (i + 1) T5 L5 ∧ mor F4 V4 V5 ob1 ∧ mor F4 V4 V5 xb) := ⟨hdw5, hi5, H4.out.2.1.trans (hb5.mono H4.out.2.1.size), r5o, r5x, hdoc5, .inl H4.out.2.2.2.2.1, .inl H4.out.2.2.2.2.2.1⟩
            have u0 : V5.cell? ⟨xb, 0, none⟩ = some (.string ps) := by rw [cell_of_row _ _ _ _ _ _ r5x]; rfl
            have u1 : V5.cell? ⟨xb, 1, none⟩ = some (.int .i64 pm) := by rw [cell_of_row _ _ _ _ _ _ r5x]; rfl
            clear HRC hd5 hb5 hc5 hdw5 hi5 r5o r5x hdoc5 c0 c2 v0 v1
            go_wp2_with fail
            refine HST.mono ?_
            rintro e V6 ⟨F6, rfl, hc6, hf6, hb6⟩
            have HZ : Hid (Pl tb F6 V6 st W (i + 1) T5 L5 ea en ec ia ni ic ids ∧ Below w.heap.size w V6 ∧ V6.heap[ob1]? = some (.cells #[.int .i64 5, .int .i64 q1, .string q2, .string q3, .int .i64 q4] 37 (0, 0)) ∧ V6.heap[xb]? = some (.cells #[.string ps, .int .i64 pm] 35 (0, 0))) := ⟨⟨hc6, H5.out.2.2.2.2.2.1, Rw.fr H5.out.1 hf6, H5.out.2.1.fr hf6⟩, H5.out.2.2.1.trans (by rw [HCS.out.2.2.2]; exact hb6), (hf6.blk ob1 H5.out.2.2.2.2.2.2.1 (lt_of_some H5.out.2.2.2.1)).trans H5.out.2.2.2.1, (hf6.blk xb H5.out.2.2.2.2.2.2.2 (lt_of_some H5.out.2.2.2.2.1)).trans H5.out.2.2.2.2.1⟩
            have HC : Hid (∀ V, Below V6.heap.size V6 V → V.cell? ⟨xb, 0, none⟩ = some (.string ps) ∧ V.cell? ⟨xb, 1, none⟩ = some (.int .i64 pm) ∧ V.cell? ⟨ob1, 2, none⟩ = some (.string q2)) := fun V hV => by
              have g1 := (hV.block xb (lt_of_some HZ.out.2.2.2)).trans HZ.out.2.2.2
              have g2 := (hV.block ob1 (lt_of_some HZ.out.2.2.1)).trans HZ.out.2.2.1
              exact ⟨by rw [cell_of_row _ _ _ _ _ _ g1]; rfl, by rw [cell_of_row _ _ _ _ _ _ g1]; rfl, by rw [cell_of_row _ _ _ _ _ _ g2]; rfl⟩
            have HAL : Hid (∀ V, Below V6.heap.size V6 V → Calls Tryd.prog 18 #[.pointer (some ⟨st, 0, none⟩), .slice ea en ec, .agg #[.string ps, .int .i64 pm], .int .i64 (W : Int)] V fun e w' => e = .returned (.bool true) ∧ Below V.heap.size V w') := fun V hV => alike_true (HZ.out.1.below hV).cs hW HZ.out.1.doc (by omega) (HZ.out.1.below hV).dw ps pm
            have HDG : Hid (∀ V, Below V6.heap.size V6 V → Calls Tryd.prog 19 #[.pointer (some ⟨st, 0, none⟩), .string q2] V fun e w' => e = .returned (.string dg) ∧ Below V.heap.size V w') := fun V hV => by
              rw [← HDE.out]
              exact digest_any (HZ.out.1.below hV).cs.c1 hW (HCS.out.2.2.1.below (HZ.out.2.1.trans (hV.mono HZ.out.2.1.size))) q2 (by omega)
            have HRD : Hid (∀ V, Below V6.heap.size V6 V → Calls Tryd.prog 20 #[.string q2, .int .i64 (W : Int)] V fun e w' => e = .returned (.string dg) ∧ Below V.heap.size V w') := fun V _ => by
              rw [← HDE.out]
              exact rdigest_any q2 W hW V (by omega)
            have HFIN : Hid (∀ V, Below V6.heap.size V6 V → Pl tb (mor F6 V6 V) V st W (i + 1) T5 L5 ea en ec ia ni ic ids ∧ Below w.heap.size w V) := fun V hV => ⟨HZ.out.1.below hV, HZ.out.2.1.trans (hV.mono HZ.out.2.1.size)⟩
            clear HST hc6 hf6 hb6 u0 u1
            go_wp2
            refine wp_region_held_drew (S := fun W => W.cell? ⟨xb, 0, none⟩ = some (.string ps) ∧ W.cell? ⟨xb, 1, none⟩ = some (.int .i64 pm) ∧ W.cell? ⟨ob1, 2, none⟩ = some (.string q2)) (by kernel_rfl) (HC.out V6.drew (Below.refl _ V6).drew) (fun hHeld => ?_)
            refine wpAnyH_take (i := 0) (v := ?vd_0) rfl (by kernel_rfl) (by kernel_rfl) (by kernel_rfl) (fun _ _ _ h => h) (Or.inl ⟨by first | kernel_rfl | rfl, ?yd_0⟩) hHeld ?rd_0
            case yd_0 => (intro W hSW; (try dsimp only at hSW); go_simp; (try with_reducible rfl))
            change wpAnyH _ _ _ _ _ _ _ (Act.put _ (some 118) _) _
            simp only [Act.put, List.setIfInBounds_toArray, List.set_cons_zero, List.set_cons_succ]
            refine wpAnyH_take (i := 1) (v := ?vd_1) rfl (by kernel_rfl) (by kernel_rfl) (by kernel_rfl) (fun _ _ _ h => h) (Or.inl ⟨by first | kernel_rfl | rfl, ?yd_1⟩) hHeld ?rd_1
            case yd_1 => (intro W hSW; (try dsimp only at hSW); go_simp; (try with_reducible rfl))
            change wpAnyH _ _ _ _ _ _ _ (Act.put _ (some 119) _) _
            simp only [Act.put, List.setIfInBounds_toArray, List.set_cons_zero, List.set_cons_succ]
            refine wpAnyH_take (i := 2) (v := ?vd_2) rfl (by kernel_rfl) (by kernel_rfl) (by kernel_rfl) (fun _ _ _ h => h) (Or.inl ⟨by first | kernel_rfl | rfl, ?yd_2⟩) hHeld ?rd_2
            case yd_2 => (intro W hSW; (try dsimp only at hSW); go_simp; (try with_reducible rfl))
            change wpAnyH _ _ _ _ _ _ _ (Act.put _ (some 120) _) _
            simp only [Act.put, List.setIfInBounds_toArray, List.set_cons_zero, List.set_cons_succ]
            refine wpAnyH_take (i := 3) (v := ?vd_3) rfl (by kernel_rfl) (by kernel_rfl) (by kernel_rfl) (fun _ _ _ h => h) (Or.inl ⟨by first | kernel_rfl | rfl, ?yd_3⟩) hHeld ?rd_3
            case yd_3 => (intro W hSW; (try dsimp only at hSW); go_simp; (try with_reducible rfl))
            change wpAnyH _ _ _ _ _ _ _ (Act.put _ (some 121) _) _
            simp only [Act.put, List.setIfInBounds_toArray, List.set_cons_zero, List.set_cons_succ]
            refine wpAnyH_take (i := 4) (v := ?vd_4) rfl (by kernel_rfl) (by kernel_rfl) (by kernel_rfl) (fun _ _ _ h => h) (Or.inl ⟨by first | kernel_rfl | rfl, ?yd_4⟩) hHeld ?rd_4
            case yd_4 => (intro W hSW; (try dsimp only at hSW); go_simp; (try with_reducible rfl))
            change wpAnyH _ _ _ _ _ _ _ (Act.put _ (some 122) _) _
            simp only [Act.put, List.setIfInBounds_toArray, List.set_cons_zero, List.set_cons_succ]
            refine wpAnyH_take (i := 5) (v := ?vd_5) rfl (by kernel_rfl) (by kernel_rfl) (by kernel_rfl) (fun _ _ _ h => h) (Or.inl ⟨by first | kernel_rfl | rfl, ?yd_5⟩) hHeld ?rd_5
            case yd_5 => (intro W hSW; (try dsimp only at hSW); go_simp; (try with_reducible rfl))
            change wpAnyH _ _ _ _ _ _ _ (Act.put _ (some 123) _) _
            simp only [Act.put, List.setIfInBounds_toArray, List.set_cons_zero, List.set_cons_succ]
            refine wpAnyH_take (i := 6) (v := ?vd_6) rfl (by kernel_rfl) (by kernel_rfl) (by kernel_rfl) (fun _ _ _ h => h) (Or.inl ⟨by first | kernel_rfl | rfl, ?yd_6⟩) hHeld ?rd_6
            case yd_6 => (intro W hSW; (try dsimp only at hSW); go_simp; (try with_reducible rfl))
            change wpAnyH _ _ _ _ _ _ _ (Act.put _ (some 124) _) _
            simp only [Act.put, List.setIfInBounds_toArray, List.set_cons_zero, List.set_cons_succ]
            refine wpAnyH_take (i := 7) (v := ?vd_7) rfl (by kernel_rfl) (by kernel_rfl) (by kernel_rfl) (fun _ _ _ h => h) (Or.inl ⟨by first | kernel_rfl | rfl, ?yd_7⟩) hHeld ?rd_7
            case yd_7 => (intro W hSW; (try dsimp only at hSW); go_simp; (try with_reducible rfl))
            change wpAnyH _ _ _ _ _ _ _ (Act.put _ (some 125) _) _
            simp only [Act.put, List.setIfInBounds_toArray, List.set_cons_zero, List.set_cons_succ]
            refine wpAnyH_ready (rs := [8]) (by kernel_rfl) (by simp) ?_
            refine AllReadyH.cons rfl (fun K hK => ?_) AllReadyH.nil
            go_simp
            refine (HAL.out V6.drew (Below.refl _ V6).drew).mono ?_
            rintro e Va ⟨rfl, hba⟩
            refine hK.out _ _ (HC.out Va ((Below.refl _ V6).drew.trans hba)) (fun hHeld => ?_)
            clear hK K
            try simp only [Act.put, List.setIfInBounds_toArray, List.set_cons_zero, List.set_cons_succ]
            have HVA : Hid (Below V6.heap.size V6 Va) := (Below.refl _ V6).drew.trans hba
            clear hba
            refine wpAnyH_take (i := 9) (v := ?vd_9) rfl (by kernel_rfl) (by kernel_rfl) (by kernel_rfl) (fun _ _ _ h => h) (Or.inl ⟨by first | kernel_rfl | rfl, ?yd_9⟩) hHeld ?rd_9
            case yd_9 => (intro W hSW; (try dsimp only at hSW); go_simp; (try with_reducible rfl))
            change wpAnyH _ _ _ _ _ _ _ (Act.put _ (some 127) _) _
            simp only [Act.put, List.setIfInBounds_toArray, List.set_cons_zero, List.set_cons_succ]
            refine wpAnyH_take (i := 10) (v := ?vd_10) rfl (by kernel_rfl) (by kernel_rfl) (by kernel_rfl) (fun _ _ _ h => h) (Or.inl ⟨by first | kernel_rfl | rfl, ?yd_10⟩) hHeld ?rd_10
            case yd_10 => (intro W hSW; (try dsimp only at hSW); go_simp; (try with_reducible rfl))
            change wpAnyH _ _ _ _ _ _ _ (Act.put _ (some 128) _) _
            simp only [Act.put, List.setIfInBounds_toArray, List.set_cons_zero, List.set_cons_succ]
            refine wpAnyH_take (i := 11) (v := ?vd_11) rfl (by kernel_rfl) (by kernel_rfl) (by kernel_rfl) (fun _ _ _ h => h) (Or.inl ⟨by first | kernel_rfl | rfl, ?yd_11⟩) hHeld ?rd_11
            case yd_11 => (intro W hSW; (try dsimp only at hSW); go_simp; (try with_reducible rfl))
            change wpAnyH _ _ _ _ _ _ _ (Act.put _ (some 129) _) _
            simp only [Act.put, List.setIfInBounds_toArray, List.set_cons_zero, List.set_cons_succ]
            refine wpAnyH_take (i := 12) (v := ?vd_12) rfl (by kernel_rfl) (by kernel_rfl) (by kernel_rfl) (fun _ _ _ h => h) (Or.inl ⟨by first | kernel_rfl | rfl, ?yd_12⟩) hHeld ?rd_12
            case yd_12 => (intro W hSW; (try dsimp only at hSW); go_simp; (try with_reducible rfl))
            change wpAnyH _ _ _ _ _ _ _ (Act.put _ (some 130) _) _
            simp only [Act.put, List.setIfInBounds_toArray, List.set_cons_zero, List.set_cons_succ]
            refine wpAnyH_take (i := 13) (v := ?vd_13) rfl (by kernel_rfl) (by kernel_rfl) (by kernel_rfl) (fun _ _ _ h => h) (Or.inl ⟨by first | kernel_rfl | rfl, ?yd_13⟩) hHeld ?rd_13
            case yd_13 => (intro W hSW; (try dsimp only at hSW); go_simp; (try with_reducible rfl))
            change wpAnyH _ _ _ _ _ _ _ (Act.put _ (some 131) _) _
            simp only [Act.put, List.setIfInBounds_toArray, List.set_cons_zero, List.set_cons_succ]
            refine wpAnyH_take (i := 14) (v := ?vd_14) rfl (by kernel_rfl) (by kernel_rfl) (by kernel_rfl) (fun _ _ _ h => h) (Or.inl ⟨by first | kernel_rfl | rfl, ?yd_14⟩) hHeld ?rd_14
            case yd_14 => (intro W hSW; (try dsimp only at hSW); go_simp; (try with_reducible rfl))
            change wpAnyH _ _ _ _ _ _ _ (Act.put _ (some 132) _) _
            simp only [Act.put, List.setIfInBounds_toArray, List.set_cons_zero, List.set_cons_succ]
            refine wpAnyH_take (i := 16) (v := ?vd_16) rfl (by kernel_rfl) (by kernel_rfl) (by kernel_rfl) (fun _ _ _ h => h) (Or.inl ⟨by first | kernel_rfl | rfl, ?yd_16⟩) hHeld ?rd_16
            case yd_16 => (intro W hSW; (try dsimp only at hSW); go_simp; (try with_reducible rfl))
            change wpAnyH _ _ _ _ _ _ _ (Act.put _ (some 134) _) _
            simp only [Act.put, List.setIfInBounds_toArray, List.set_cons_zero, List.set_cons_succ]
            refine wpAnyH_take (i := 17) (v := ?vd_17) rfl (by kernel_rfl) (by kernel_rfl) (by kernel_rfl) (fun _ _ _ h => h) (Or.inl ⟨by first | kernel_rfl | rfl, ?yd_17⟩) hHeld ?rd_17
            case yd_17 => (intro W hSW; (try dsimp only at hSW); go_simp; (try with_reducible rfl))
            change wpAnyH _ _ _ _ _ _ _ (Act.put _ (some 135) _) _
            simp only [Act.put, List.setIfInBounds_toArray, List.set_cons_zero, List.set_cons_succ]
            refine wpAnyH_take (i := 18) (v := ?vd_18) rfl (by kernel_rfl) (by kernel_rfl) (by kernel_rfl) (fun _ _ _ h => h) (Or.inl ⟨by first | kernel_rfl | rfl, ?yd_18⟩) hHeld ?rd_18
            case yd_18 => (intro W hSW; (try dsimp only at hSW); go_simp; (try with_reducible rfl))
            change wpAnyH _ _ _ _ _ _ _ (Act.put _ (some 136) _) _
            simp only [Act.put, List.setIfInBounds_toArray, List.set_cons_zero, List.set_cons_succ]
            refine wpAnyH_ready (rs := [15]) (by kernel_rfl) (by simp) ?_
            refine AllReadyH.cons rfl (fun K hK => ?_) AllReadyH.nil
            go_simp
            refine (HDG.out Va HVA.out).mono ?_
            rintro e Vb ⟨rfl, hbb⟩
            refine hK.out _ _ (HC.out Vb (HVA.out.trans (hbb.mono HVA.out.size))) (fun hHeld => ?_)
            clear hK K
            try simp only [Act.put, List.setIfInBounds_toArray, List.set_cons_zero, List.set_cons_succ]
            have HVB : Hid (Below V6.heap.size V6 Vb) := HVA.out.trans (hbb.mono HVA.out.size)
            clear hbb
            refine wpAnyH_ready (rs := [19]) (by kernel_rfl) (by simp) ?_
            refine AllReadyH.cons rfl (fun K hK => ?_) AllReadyH.nil
            go_simp
            refine (HRD.out Vb HVB.out).mono ?_
            rintro e Vc ⟨rfl, hbc⟩
            refine hK.out _ _ (HC.out Vc (HVB.out.trans (hbc.mono HVB.out.size))) (fun hHeld => ?_)
            clear hK K
            try simp only [Act.put, List.setIfInBounds_toArray, List.set_cons_zero, List.set_cons_succ]
            have HVC : Hid (Below V6.heap.size V6 Vc) := HVB.out.trans (hbc.mono HVB.out.size)
            clear hbc
            refine wpAnyH_take (i := 20) (v := ?vd_20) rfl (by kernel_rfl) (by kernel_rfl) (by kernel_rfl) (fun _ _ _ h => h) (Or.inl ⟨by first | kernel_rfl | rfl, ?yd_20⟩) hHeld ?rd_20
            case yd_20 => (intro W hSW; (try dsimp only at hSW); go_simp; (try with_reducible rfl))
            change wpAnyH _ _ _ _ _ _ _ (Act.put _ (some 138) _) _
            simp only [Act.put, List.setIfInBounds_toArray, List.set_cons_zero, List.set_cons_succ]
            refine wpAnyH_take (i := 21) (v := ?vd_21) rfl (by kernel_rfl) (by kernel_rfl) (by kernel_rfl) (fun _ _ _ h => h) (Or.inl ⟨by first | kernel_rfl | rfl, ?yd_21⟩) hHeld ?rd_21
            case yd_21 => (intro W hSW; (try dsimp only at hSW); go_simp; (try with_reducible rfl))
            change wpAnyH _ _ _ _ _ _ _ (Act.put _ (some 139) _) _
            simp only [Act.put, List.setIfInBounds_toArray, List.set_cons_zero, List.set_cons_succ]
            refine wpAnyH_done (by kernel_rfl) ?_ _
            go_wp2
            exact ⟨⟨i + 1, en, ec, ni, ic, ea, ia, _, T5, L5, ids, by omega, by omega, by omega, by go_num, by first | rfl | go_num, by first | rfl | go_num, (HFIN.out Vc HVC.out).1, (HFIN.out Vc HVC.out).2⟩, by simp [intOf]; omega⟩
          by_cases e2 : q0 = 2
          · subst e2
            obtain ⟨L5, T5, er, hdoc5, hRC, hSC⟩ := take_both (tb := tb) (st := st) (da := da) (dc := dc) H4.out.1.doc (by omega) hW H4.out.1.dw.len ps pm
            have HRC := hRC V4 _ H4.out.1.dw
            have HSC2 : Hid (∀ V G, Cs tb G V st tb W (-1) T → Calls Tryd.prog 17 #[.pointer (some ⟨st, 0, none⟩), .agg #[.string ps, .int .i64 pm]] V fun e w' => StTo tb G V st W T5 (.int .i64 er) e w') := hSC
            clear hRC hSC
            go_wp2_with fail
            refine HRC.mono ?_
            rintro e V5 ⟨ea, en, ec, rfl, hd5, hb5⟩
            obtain ⟨hc5, hdw5, hi5⟩ := H4.out.1.dws hb5 hd5
            have r5o := (hb5.block ob1 (lt_of_some H4.out.2.2.1)).trans H4.out.2.2.1
            have r5x := (hb5.block xb (lt_of_some H4.out.2.2.2.1)).trans H4.out.2.2.2.1
            have HST := HSC2.out V5 _ hc5
            have H5 : Hid (Dw (mor F4 V4 V5) V5 ea en ec L5 ∧ Ids tb (mor F4 V4 V5) V5 ia ni ic ids ∧ Below w.heap.size w V5 ∧ V5.heap[ob1]? = some (.cells #[.int .i64 2, .int .i64 q1, .string q2, .string q3, .int .i64 q4] 37 (0, 0)) ∧ V5.heap[xb]? = some (.cells #[.string ps, .int .i64 pm] 35 (0, 0)) ∧ Doc W (i + 1) T5 L5 ∧ mor F4 V4 V5 ob1 ∧ mor F4 V4 V5 xb) := ⟨hdw5, hi5, H4.out.2.1.trans (hb5.mono H4.out.2.1.size), r5o, r5x, hdoc5, .inl H4.out.2.2.2.2.1, .inl H4.out.2.2.2.2.2.1⟩
            have u0 : V5.cell? ⟨xb, 0, none⟩ = some (.string ps) := by rw [cell_of_row _ _ _ _ _ _ r5x]; rfl
            have u1 : V5.cell? ⟨xb, 1, none⟩ = some (.int .i64 pm) := by rw [cell_of_row _ _ _ _ _ _ r5x]; rfl
            clear HRC hd5 hb5 hc5 hdw5 hi5 r5o r5x hdoc5 c0 c2 v0 v1
            go_wp2_with fail
            refine HST.mono ?_
            rintro e V6 ⟨F6, rfl, hc6, hf6, hb6⟩
            have HZ : Hid (Pl tb F6 V6 st W (i + 1) T5 L5 ea en ec ia ni ic ids ∧ Below w.heap.size w V6 ∧ V6.heap[ob1]? = some (.cells #[.int .i64 2, .int .i64 q1, .string q2, .string q3, .int .i64 q4] 37 (0, 0)) ∧ V6.heap[xb]? = some (.cells #[.string ps, .int .i64 pm] 35 (0, 0))) := ⟨⟨hc6, H5.out.2.2.2.2.2.1, Rw.fr H5.out.1 hf6, H5.out.2.1.fr hf6⟩, H5.out.2.2.1.trans (by rw [HCS.out.2.2.2]; exact hb6), (hf6.blk ob1 H5.out.2.2.2.2.2.2.1 (lt_of_some H5.out.2.2.2.1)).trans H5.out.2.2.2.1, (hf6.blk xb H5.out.2.2.2.2.2.2.2 (lt_of_some H5.out.2.2.2.2.1)).trans H5.out.2.2.2.2.1⟩
            have HC : Hid (∀ V, Below V6.heap.size V6 V → V.cell? ⟨xb, 0, none⟩ = some (.string ps) ∧ V.cell? ⟨xb, 1, none⟩ = some (.int .i64 pm) ∧ V.cell? ⟨ob1, 2, none⟩ = some (.string q2)) := fun V hV => by
              have g1 := (hV.block xb (lt_of_some HZ.out.2.2.2)).trans HZ.out.2.2.2
              have g2 := (hV.block ob1 (lt_of_some HZ.out.2.2.1)).trans HZ.out.2.2.1
              exact ⟨by rw [cell_of_row _ _ _ _ _ _ g1]; rfl, by rw [cell_of_row _ _ _ _ _ _ g1]; rfl, by rw [cell_of_row _ _ _ _ _ _ g2]; rfl⟩
            have HAL : Hid (∀ V, Below V6.heap.size V6 V → Calls Tryd.prog 18 #[.pointer (some ⟨st, 0, none⟩), .slice ea en ec, .agg #[.string ps, .int .i64 pm], .int .i64 (W : Int)] V fun e w' => e = .returned (.bool true) ∧ Below V.heap.size V w') := fun V hV => alike_true (HZ.out.1.below hV).cs hW HZ.out.1.doc (by omega) (HZ.out.1.below hV).dw ps pm
            have HDG : Hid (∀ V, Below V6.heap.size V6 V → Calls Tryd.prog 19 #[.pointer (some ⟨st, 0, none⟩), .string q2] V fun e w' => e = .returned (.string dg) ∧ Below V.heap.size V w') := fun V hV => by
              rw [← HDE.out]
              exact digest_any (HZ.out.1.below hV).cs.c1 hW (HCS.out.2.2.1.below (HZ.out.2.1.trans (hV.mono HZ.out.2.1.size))) q2 (by omega)
            have HRD : Hid (∀ V, Below V6.heap.size V6 V → Calls Tryd.prog 20 #[.string q2, .int .i64 (W : Int)] V fun e w' => e = .returned (.string dg) ∧ Below V.heap.size V w') := fun V _ => by
              rw [← HDE.out]
              exact rdigest_any q2 W hW V (by omega)
            have HFIN : Hid (∀ V, Below V6.heap.size V6 V → Pl tb (mor F6 V6 V) V st W (i + 1) T5 L5 ea en ec ia ni ic ids ∧ Below w.heap.size w V) := fun V hV => ⟨HZ.out.1.below hV, HZ.out.2.1.trans (hV.mono HZ.out.2.1.size)⟩
            clear HST hc6 hf6 hb6 u0 u1
            go_wp2
            refine wp_region_held_drew (S := fun W => W.cell? ⟨xb, 0, none⟩ = some (.string ps) ∧ W.cell? ⟨xb, 1, none⟩ = some (.int .i64 pm) ∧ W.cell? ⟨ob1, 2, none⟩ = some (.string q2)) (by kernel_rfl) (HC.out V6.drew (Below.refl _ V6).drew) (fun hHeld => ?_)
            refine wpAnyH_take (i := 0) (v := ?ve_0) rfl (by kernel_rfl) (by kernel_rfl) (by kernel_rfl) (fun _ _ _ h => h) (Or.inl ⟨by first | kernel_rfl | rfl, ?ye_0⟩) hHeld ?re_0
            case ye_0 => (intro W hSW; (try dsimp only at hSW); go_simp; (try with_reducible rfl))
            change wpAnyH _ _ _ _ _ _ _ (Act.put _ (some 118) _) _
            simp only [Act.put, List.setIfInBounds_toArray, List.set_cons_zero, List.set_cons_succ]
            refine wpAnyH_take (i := 1) (v := ?ve_1) rfl (by kernel_rfl) (by kernel_rfl) (by kernel_rfl) (fun _ _ _ h => h) (Or.inl ⟨by first | kernel_rfl | rfl, ?ye_1⟩) hHeld ?re_1
            case ye_1 => (intro W hSW; (try dsimp only at hSW); go_simp; (try with_reducible rfl))
            change wpAnyH _ _ _ _ _ _ _ (Act.put _ (some 119) _) _
            simp only [Act.put, List.setIfInBounds_toArray, List.set_cons_zero, List.set_cons_succ]
            refine wpAnyH_take (i := 2) (v := ?ve_2) rfl (by kernel_rfl) (by kernel_rfl) (by kernel_rfl) (fun _ _ _ h => h) (Or.inl ⟨by first | kernel_rfl | rfl, ?ye_2⟩) hHeld ?re_2
            case ye_2 => (intro W hSW; (try dsimp only at hSW); go_simp; (try with_reducible rfl))
            change wpAnyH _ _ _ _ _ _ _ (Act.put _ (some 120) _) _
            simp only [Act.put, List.setIfInBounds_toArray, List.set_cons_zero, List.set_cons_succ]
            refine wpAnyH_take (i := 3) (v := ?ve_3) rfl (by kernel_rfl) (by kernel_rfl) (by kernel_rfl) (fun _ _ _ h => h) (Or.inl ⟨by first | kernel_rfl | rfl, ?ye_3⟩) hHeld ?re_3
            case ye_3 => (intro W hSW; (try dsimp only at hSW); go_simp; (try with_reducible rfl))
            change wpAnyH _ _ _ _ _ _ _ (Act.put _ (some 121) _) _
            simp only [Act.put, List.setIfInBounds_toArray, List.set_cons_zero, List.set_cons_succ]
            refine wpAnyH_take (i := 4) (v := ?ve_4) rfl (by kernel_rfl) (by kernel_rfl) (by kernel_rfl) (fun _ _ _ h => h) (Or.inl ⟨by first | kernel_rfl | rfl, ?ye_4⟩) hHeld ?re_4
            case ye_4 => (intro W hSW; (try dsimp only at hSW); go_simp; (try with_reducible rfl))
            change wpAnyH _ _ _ _ _ _ _ (Act.put _ (some 122) _) _
            simp only [Act.put, List.setIfInBounds_toArray, List.set_cons_zero, List.set_cons_succ]
            refine wpAnyH_take (i := 5) (v := ?ve_5) rfl (by kernel_rfl) (by kernel_rfl) (by kernel_rfl) (fun _ _ _ h => h) (Or.inl ⟨by first | kernel_rfl | rfl, ?ye_5⟩) hHeld ?re_5
            case ye_5 => (intro W hSW; (try dsimp only at hSW); go_simp; (try with_reducible rfl))
            change wpAnyH _ _ _ _ _ _ _ (Act.put _ (some 123) _) _
            simp only [Act.put, List.setIfInBounds_toArray, List.set_cons_zero, List.set_cons_succ]
            refine wpAnyH_take (i := 6) (v := ?ve_6) rfl (by kernel_rfl) (by kernel_rfl) (by kernel_rfl) (fun _ _ _ h => h) (Or.inl ⟨by first | kernel_rfl | rfl, ?ye_6⟩) hHeld ?re_6
            case ye_6 => (intro W hSW; (try dsimp only at hSW); go_simp; (try with_reducible rfl))
            change wpAnyH _ _ _ _ _ _ _ (Act.put _ (some 124) _) _
            simp only [Act.put, List.setIfInBounds_toArray, List.set_cons_zero, List.set_cons_succ]
            refine wpAnyH_take (i := 7) (v := ?ve_7) rfl (by kernel_rfl) (by kernel_rfl) (by kernel_rfl) (fun _ _ _ h => h) (Or.inl ⟨by first | kernel_rfl | rfl, ?ye_7⟩) hHeld ?re_7
            case ye_7 => (intro W hSW; (try dsimp only at hSW); go_simp; (try with_reducible rfl))
            change wpAnyH _ _ _ _ _ _ _ (Act.put _ (some 125) _) _
            simp only [Act.put, List.setIfInBounds_toArray, List.set_cons_zero, List.set_cons_succ]
            refine wpAnyH_ready (rs := [8]) (by kernel_rfl) (by simp) ?_
            refine AllReadyH.cons rfl (fun K hK => ?_) AllReadyH.nil
            go_simp
            refine (HAL.out V6.drew (Below.refl _ V6).drew).mono ?_
            rintro e Va ⟨rfl, hba⟩
            refine hK.out _ _ (HC.out Va ((Below.refl _ V6).drew.trans hba)) (fun hHeld => ?_)
            clear hK K
            try simp only [Act.put, List.setIfInBounds_toArray, List.set_cons_zero, List.set_cons_succ]
            have HVA : Hid (Below V6.heap.size V6 Va) := (Below.refl _ V6).drew.trans hba
            clear hba
            refine wpAnyH_take (i := 9) (v := ?ve_9) rfl (by kernel_rfl) (by kernel_rfl) (by kernel_rfl) (fun _ _ _ h => h) (Or.inl ⟨by first | kernel_rfl | rfl, ?ye_9⟩) hHeld ?re_9
            case ye_9 => (intro W hSW; (try dsimp only at hSW); go_simp; (try with_reducible rfl))
            change wpAnyH _ _ _ _ _ _ _ (Act.put _ (some 127) _) _
            simp only [Act.put, List.setIfInBounds_toArray, List.set_cons_zero, List.set_cons_succ]
            refine wpAnyH_take (i := 10) (v := ?ve_10) rfl (by kernel_rfl) (by kernel_rfl) (by kernel_rfl) (fun _ _ _ h => h) (Or.inl ⟨by first | kernel_rfl | rfl, ?ye_10⟩) hHeld ?re_10
            case ye_10 => (intro W hSW; (try dsimp only at hSW); go_simp; (try with_reducible rfl))
            change wpAnyH _ _ _ _ _ _ _ (Act.put _ (some 128) _) _
            simp only [Act.put, List.setIfInBounds_toArray, List.set_cons_zero, List.set_cons_succ]
            refine wpAnyH_take (i := 11) (v := ?ve_11) rfl (by kernel_rfl) (by kernel_rfl) (by kernel_rfl) (fun _ _ _ h => h) (Or.inl ⟨by first | kernel_rfl | rfl, ?ye_11⟩) hHeld ?re_11
            case ye_11 => (intro W hSW; (try dsimp only at hSW); go_simp; (try with_reducible rfl))
            change wpAnyH _ _ _ _ _ _ _ (Act.put _ (some 129) _) _
            simp only [Act.put, List.setIfInBounds_toArray, List.set_cons_zero, List.set_cons_succ]
            refine wpAnyH_take (i := 12) (v := ?ve_12) rfl (by kernel_rfl) (by kernel_rfl) (by kernel_rfl) (fun _ _ _ h => h) (Or.inl ⟨by first | kernel_rfl | rfl, ?ye_12⟩) hHeld ?re_12
            case ye_12 => (intro W hSW; (try dsimp only at hSW); go_simp; (try with_reducible rfl))
            change wpAnyH _ _ _ _ _ _ _ (Act.put _ (some 130) _) _
            simp only [Act.put, List.setIfInBounds_toArray, List.set_cons_zero, List.set_cons_succ]
            refine wpAnyH_take (i := 13) (v := ?ve_13) rfl (by kernel_rfl) (by kernel_rfl) (by kernel_rfl) (fun _ _ _ h => h) (Or.inl ⟨by first | kernel_rfl | rfl, ?ye_13⟩) hHeld ?re_13
            case ye_13 => (intro W hSW; (try dsimp only at hSW); go_simp; (try with_reducible rfl))
            change wpAnyH _ _ _ _ _ _ _ (Act.put _ (some 131) _) _
            simp only [Act.put, List.setIfInBounds_toArray, List.set_cons_zero, List.set_cons_succ]
            refine wpAnyH_take (i := 14) (v := ?ve_14) rfl (by kernel_rfl) (by kernel_rfl) (by kernel_rfl) (fun _ _ _ h => h) (Or.inl ⟨by first | kernel_rfl | rfl, ?ye_14⟩) hHeld ?re_14
            case ye_14 => (intro W hSW; (try dsimp only at hSW); go_simp; (try with_reducible rfl))
            change wpAnyH _ _ _ _ _ _ _ (Act.put _ (some 132) _) _
            simp only [Act.put, List.setIfInBounds_toArray, List.set_cons_zero, List.set_cons_succ]
            refine wpAnyH_take (i := 16) (v := ?ve_16) rfl (by kernel_rfl) (by kernel_rfl) (by kernel_rfl) (fun _ _ _ h => h) (Or.inl ⟨by first | kernel_rfl | rfl, ?ye_16⟩) hHeld ?re_16
            case ye_16 => (intro W hSW; (try dsimp only at hSW); go_simp; (try with_reducible rfl))
            change wpAnyH _ _ _ _ _ _ _ (Act.put _ (some 134) _) _
            simp only [Act.put, List.setIfInBounds_toArray, List.set_cons_zero, List.set_cons_succ]
            refine wpAnyH_take (i := 17) (v := ?ve_17) rfl (by kernel_rfl) (by kernel_rfl) (by kernel_rfl) (fun _ _ _ h => h) (Or.inl ⟨by first | kernel_rfl | rfl, ?ye_17⟩) hHeld ?re_17
            case ye_17 => (intro W hSW; (try dsimp only at hSW); go_simp; (try with_reducible rfl))
            change wpAnyH _ _ _ _ _ _ _ (Act.put _ (some 135) _) _
            simp only [Act.put, List.setIfInBounds_toArray, List.set_cons_zero, List.set_cons_succ]
            refine wpAnyH_take (i := 18) (v := ?ve_18) rfl (by kernel_rfl) (by kernel_rfl) (by kernel_rfl) (fun _ _ _ h => h) (Or.inl ⟨by first | kernel_rfl | rfl, ?ye_18⟩) hHeld ?re_18
            case ye_18 => (intro W hSW; (try dsimp only at hSW); go_simp; (try with_reducible rfl))
            change wpAnyH _ _ _ _ _ _ _ (Act.put _ (some 136) _) _
            simp only [Act.put, List.setIfInBounds_toArray, List.set_cons_zero, List.set_cons_succ]
            refine wpAnyH_ready (rs := [15]) (by kernel_rfl) (by simp) ?_
            refine AllReadyH.cons rfl (fun K hK => ?_) AllReadyH.nil
            go_simp
            refine (HDG.out Va HVA.out).mono ?_
            rintro e Vb ⟨rfl, hbb⟩
            refine hK.out _ _ (HC.out Vb (HVA.out.trans (hbb.mono HVA.out.size))) (fun hHeld => ?_)
            clear hK K
            try simp only [Act.put, List.setIfInBounds_toArray, List.set_cons_zero, List.set_cons_succ]
            have HVB : Hid (Below V6.heap.size V6 Vb) := HVA.out.trans (hbb.mono HVA.out.size)
            clear hbb
            refine wpAnyH_ready (rs := [19]) (by kernel_rfl) (by simp) ?_
            refine AllReadyH.cons rfl (fun K hK => ?_) AllReadyH.nil
            go_simp
            refine (HRD.out Vb HVB.out).mono ?_
            rintro e Vc ⟨rfl, hbc⟩
            refine hK.out _ _ (HC.out Vc (HVB.out.trans (hbc.mono HVB.out.size))) (fun hHeld => ?_)
            clear hK K
            try simp only [Act.put, List.setIfInBounds_toArray, List.set_cons_zero, List.set_cons_succ]
            have HVC : Hid (Below V6.heap.size V6 Vc) := HVB.out.trans (hbc.mono HVB.out.size)
            clear hbc
            refine wpAnyH_take (i := 20) (v := ?ve_20) rfl (by kernel_rfl) (by kernel_rfl) (by kernel_rfl) (fun _ _ _ h => h) (Or.inl ⟨by first | kernel_rfl | rfl, ?ye_20⟩) hHeld ?re_20
            case ye_20 => (intro W hSW; (try dsimp only at hSW); go_simp; (try with_reducible rfl))
            change wpAnyH _ _ _ _ _ _ _ (Act.put _ (some 138) _) _
            simp only [Act.put, List.setIfInBounds_toArray, List.set_cons_zero, List.set_cons_succ]
            refine wpAnyH_take (i := 21) (v := ?ve_21) rfl (by kernel_rfl) (by kernel_rfl) (by kernel_rfl) (fun _ _ _ h => h) (Or.inl ⟨by first | kernel_rfl | rfl, ?ye_21⟩) hHeld ?re_21
            case ye_21 => (intro W hSW; (try dsimp only at hSW); go_simp; (try with_reducible rfl))
            change wpAnyH _ _ _ _ _ _ _ (Act.put _ (some 139) _) _
            simp only [Act.put, List.setIfInBounds_toArray, List.set_cons_zero, List.set_cons_succ]
            refine wpAnyH_done (by kernel_rfl) ?_ _
            go_wp2
            exact ⟨⟨i + 1, en, ec, ni, ic, ea, ia, _, T5, L5, ids, by omega, by omega, by omega, by go_num, by first | rfl | go_num, by first | rfl | go_num, (HFIN.out Vc HVC.out).1, (HFIN.out Vc HVC.out).2⟩, by simp [intOf]; omega⟩
          by_cases e6 : q0 = 6
          · subst e6
            obtain ⟨L5, T5, er, hdoc5, hRC, hSC⟩ := take_both (tb := tb) (st := st) (da := da) (dc := dc) H4.out.1.doc (by omega) hW H4.out.1.dw.len ps pm
            have HRC := hRC V4 _ H4.out.1.dw
            have HSC2 : Hid (∀ V G, Cs tb G V st tb W (-1) T → Calls Tryd.prog 17 #[.pointer (some ⟨st, 0, none⟩), .agg #[.string ps, .int .i64 pm]] V fun e w' => StTo tb G V st W T5 (.int .i64 er) e w') := hSC
            clear hRC hSC
            go_wp2_with fail
            refine HRC.mono ?_
            rintro e V5 ⟨ea, en, ec, rfl, hd5, hb5⟩
            obtain ⟨hc5, hdw5, hi5⟩ := H4.out.1.dws hb5 hd5
            have r5o := (hb5.block ob1 (lt_of_some H4.out.2.2.1)).trans H4.out.2.2.1
            have r5x := (hb5.block xb (lt_of_some H4.out.2.2.2.1)).trans H4.out.2.2.2.1
            have HST := HSC2.out V5 _ hc5
            have H5 : Hid (Dw (mor F4 V4 V5) V5 ea en ec L5 ∧ Ids tb (mor F4 V4 V5) V5 ia ni ic ids ∧ Below w.heap.size w V5 ∧ V5.heap[ob1]? = some (.cells #[.int .i64 6, .int .i64 q1, .string q2, .string q3, .int .i64 q4] 37 (0, 0)) ∧ V5.heap[xb]? = some (.cells #[.string ps, .int .i64 pm] 35 (0, 0)) ∧ Doc W (i + 1) T5 L5 ∧ mor F4 V4 V5 ob1 ∧ mor F4 V4 V5 xb) := ⟨hdw5, hi5, H4.out.2.1.trans (hb5.mono H4.out.2.1.size), r5o, r5x, hdoc5, .inl H4.out.2.2.2.2.1, .inl H4.out.2.2.2.2.2.1⟩
            have u0 : V5.cell? ⟨xb, 0, none⟩ = some (.string ps) := by rw [cell_of_row _ _ _ _ _ _ r5x]; rfl
            have u1 : V5.cell? ⟨xb, 1, none⟩ = some (.int .i64 pm) := by rw [cell_of_row _ _ _ _ _ _ r5x]; rfl
            clear HRC hd5 hb5 hc5 hdw5 hi5 r5o r5x hdoc5 c0 c2 v0 v1
            go_wp2_with fail
            refine HST.mono ?_
            rintro e V6 ⟨F6, rfl, hc6, hf6, hb6⟩
            have HZ : Hid (Pl tb F6 V6 st W (i + 1) T5 L5 ea en ec ia ni ic ids ∧ Below w.heap.size w V6 ∧ V6.heap[ob1]? = some (.cells #[.int .i64 6, .int .i64 q1, .string q2, .string q3, .int .i64 q4] 37 (0, 0)) ∧ V6.heap[xb]? = some (.cells #[.string ps, .int .i64 pm] 35 (0, 0))) := ⟨⟨hc6, H5.out.2.2.2.2.2.1, Rw.fr H5.out.1 hf6, H5.out.2.1.fr hf6⟩, H5.out.2.2.1.trans (by rw [HCS.out.2.2.2]; exact hb6), (hf6.blk ob1 H5.out.2.2.2.2.2.2.1 (lt_of_some H5.out.2.2.2.1)).trans H5.out.2.2.2.1, (hf6.blk xb H5.out.2.2.2.2.2.2.2 (lt_of_some H5.out.2.2.2.2.1)).trans H5.out.2.2.2.2.1⟩
            have HC : Hid (∀ V, Below V6.heap.size V6 V → V.cell? ⟨xb, 0, none⟩ = some (.string ps) ∧ V.cell? ⟨xb, 1, none⟩ = some (.int .i64 pm) ∧ V.cell? ⟨ob1, 2, none⟩ = some (.string q2)) := fun V hV => by
              have g1 := (hV.block xb (lt_of_some HZ.out.2.2.2)).trans HZ.out.2.2.2
              have g2 := (hV.block ob1 (lt_of_some HZ.out.2.2.1)).trans HZ.out.2.2.1
              exact ⟨by rw [cell_of_row _ _ _ _ _ _ g1]; rfl, by rw [cell_of_row _ _ _ _ _ _ g1]; rfl, by rw [cell_of_row _ _ _ _ _ _ g2]; rfl⟩
            have HAL : Hid (∀ V, Below V6.heap.size V6 V → Calls Tryd.prog 18 #[.pointer (some ⟨st, 0, none⟩), .slice ea en ec, .agg #[.string ps, .int .i64 pm], .int .i64 (W : Int)] V fun e w' => e = .returned (.bool true) ∧ Below V.heap.size V w') := fun V hV => alike_true (HZ.out.1.below hV).cs hW HZ.out.1.doc (by omega) (HZ.out.1.below hV).dw ps pm
            have HDG : Hid (∀ V, Below V6.heap.size V6 V → Calls Tryd.prog 19 #[.pointer (some ⟨st, 0, none⟩), .string q2] V fun e w' => e = .returned (.string dg) ∧ Below V.heap.size V w') := fun V hV => by
              rw [← HDE.out]
              exact digest_any (HZ.out.1.below hV).cs.c1 hW (HCS.out.2.2.1.below (HZ.out.2.1.trans (hV.mono HZ.out.2.1.size))) q2 (by omega)
            have HRD : Hid (∀ V, Below V6.heap.size V6 V → Calls Tryd.prog 20 #[.string q2, .int .i64 (W : Int)] V fun e w' => e = .returned (.string dg) ∧ Below V.heap.size V w') := fun V _ => by
              rw [← HDE.out]
              exact rdigest_any q2 W hW V (by omega)
            have HFIN : Hid (∀ V, Below V6.heap.size V6 V → Pl tb (mor F6 V6 V) V st W (i + 1) T5 L5 ea en ec ia ni ic ids ∧ Below w.heap.size w V) := fun V hV => ⟨HZ.out.1.below hV, HZ.out.2.1.trans (hV.mono HZ.out.2.1.size)⟩
            clear HST hc6 hf6 hb6 u0 u1
            go_wp2
            refine wp_region_held_drew (S := fun W => W.cell? ⟨xb, 0, none⟩ = some (.string ps) ∧ W.cell? ⟨xb, 1, none⟩ = some (.int .i64 pm) ∧ W.cell? ⟨ob1, 2, none⟩ = some (.string q2)) (by kernel_rfl) (HC.out V6.drew (Below.refl _ V6).drew) (fun hHeld => ?_)
            refine wpAnyH_take (i := 0) (v := ?vf_0) rfl (by kernel_rfl) (by kernel_rfl) (by kernel_rfl) (fun _ _ _ h => h) (Or.inl ⟨by first | kernel_rfl | rfl, ?yf_0⟩) hHeld ?rf_0
            case yf_0 => (intro W hSW; (try dsimp only at hSW); go_simp; (try with_reducible rfl))
            change wpAnyH _ _ _ _ _ _ _ (Act.put _ (some 118) _) _
            simp only [Act.put, List.setIfInBounds_toArray, List.set_cons_zero, List.set_cons_succ]
            refine wpAnyH_take (i := 1) (v := ?vf_1) rfl (by kernel_rfl) (by kernel_rfl) (by kernel_rfl) (fun _ _ _ h => h) (Or.inl ⟨by first | kernel_rfl | rfl, ?yf_1⟩) hHeld ?rf_1
            case yf_1 => (intro W hSW; (try dsimp only at hSW); go_simp; (try with_reducible rfl))
            change wpAnyH _ _ _ _ _ _ _ (Act.put _ (some 119) _) _
            simp only [Act.put, List.setIfInBounds_toArray, List.set_cons_zero, List.set_cons_succ]
            refine wpAnyH_take (i := 2) (v := ?vf_2) rfl (by kernel_rfl) (by kernel_rfl) (by kernel_rfl) (fun _ _ _ h => h) (Or.inl ⟨by first | kernel_rfl | rfl, ?yf_2⟩) hHeld ?rf_2
            case yf_2 => (intro W hSW; (try dsimp only at hSW); go_simp; (try with_reducible rfl))
            change wpAnyH _ _ _ _ _ _ _ (Act.put _ (some 120) _) _
            simp only [Act.put, List.setIfInBounds_toArray, List.set_cons_zero, List.set_cons_succ]
            refine wpAnyH_take (i := 3) (v := ?vf_3) rfl (by kernel_rfl) (by kernel_rfl) (by kernel_rfl) (fun _ _ _ h => h) (Or.inl ⟨by first | kernel_rfl | rfl, ?yf_3⟩) hHeld ?rf_3
            case yf_3 => (intro W hSW; (try dsimp only at hSW); go_simp; (try with_reducible rfl))
            change wpAnyH _ _ _ _ _ _ _ (Act.put _ (some 121) _) _
            simp only [Act.put, List.setIfInBounds_toArray, List.set_cons_zero, List.set_cons_succ]
            refine wpAnyH_take (i := 4) (v := ?vf_4) rfl (by kernel_rfl) (by kernel_rfl) (by kernel_rfl) (fun _ _ _ h => h) (Or.inl ⟨by first | kernel_rfl | rfl, ?yf_4⟩) hHeld ?rf_4
            case yf_4 => (intro W hSW; (try dsimp only at hSW); go_simp; (try with_reducible rfl))
            change wpAnyH _ _ _ _ _ _ _ (Act.put _ (some 122) _) _
            simp only [Act.put, List.setIfInBounds_toArray, List.set_cons_zero, List.set_cons_succ]
            refine wpAnyH_take (i := 5) (v := ?vf_5) rfl (by kernel_rfl) (by kernel_rfl) (by kernel_rfl) (fun _ _ _ h => h) (Or.inl ⟨by first | kernel_rfl | rfl, ?yf_5⟩) hHeld ?rf_5
            case yf_5 => (intro W hSW; (try dsimp only at hSW); go_simp; (try with_reducible rfl))
            change wpAnyH _ _ _ _ _ _ _ (Act.put _ (some 123) _) _
            simp only [Act.put, List.setIfInBounds_toArray, List.set_cons_zero, List.set_cons_succ]
            refine wpAnyH_take (i := 6) (v := ?vf_6) rfl (by kernel_rfl) (by kernel_rfl) (by kernel_rfl) (fun _ _ _ h => h) (Or.inl ⟨by first | kernel_rfl | rfl, ?yf_6⟩) hHeld ?rf_6
            case yf_6 => (intro W hSW; (try dsimp only at hSW); go_simp; (try with_reducible rfl))
            change wpAnyH _ _ _ _ _ _ _ (Act.put _ (some 124) _) _
            simp only [Act.put, List.setIfInBounds_toArray, List.set_cons_zero, List.set_cons_succ]
            refine wpAnyH_take (i := 7) (v := ?vf_7) rfl (by kernel_rfl) (by kernel_rfl) (by kernel_rfl) (fun _ _ _ h => h) (Or.inl ⟨by first | kernel_rfl | rfl, ?yf_7⟩) hHeld ?rf_7
            case yf_7 => (intro W hSW; (try dsimp only at hSW); go_simp; (try with_reducible rfl))
            change wpAnyH _ _ _ _ _ _ _ (Act.put _ (some 125) _) _
            simp only [Act.put, List.setIfInBounds_toArray, List.set_cons_zero, List.set_cons_succ]
            refine wpAnyH_ready (rs := [8]) (by kernel_rfl) (by simp) ?_
            refine AllReadyH.cons rfl (fun K hK => ?_) AllReadyH.nil
            go_simp
            refine (HAL.out V6.drew (Below.refl _ V6).drew).mono ?_
            rintro e Va ⟨rfl, hba⟩
            refine hK.out _ _ (HC.out Va ((Below.refl _ V6).drew.trans hba)) (fun hHeld => ?_)
            clear hK K
            try simp only [Act.put, List.setIfInBounds_toArray, List.set_cons_zero, List.set_cons_succ]
            have HVA : Hid (Below V6.heap.size V6 Va) := (Below.refl _ V6).drew.trans hba
            clear hba
            refine wpAnyH_take (i := 9) (v := ?vf_9) rfl (by kernel_rfl) (by kernel_rfl) (by kernel_rfl) (fun _ _ _ h => h) (Or.inl ⟨by first | kernel_rfl | rfl, ?yf_9⟩) hHeld ?rf_9
            case yf_9 => (intro W hSW; (try dsimp only at hSW); go_simp; (try with_reducible rfl))
            change wpAnyH _ _ _ _ _ _ _ (Act.put _ (some 127) _) _
            simp only [Act.put, List.setIfInBounds_toArray, List.set_cons_zero, List.set_cons_succ]
            refine wpAnyH_take (i := 10) (v := ?vf_10) rfl (by kernel_rfl) (by kernel_rfl) (by kernel_rfl) (fun _ _ _ h => h) (Or.inl ⟨by first | kernel_rfl | rfl, ?yf_10⟩) hHeld ?rf_10
            case yf_10 => (intro W hSW; (try dsimp only at hSW); go_simp; (try with_reducible rfl))
            change wpAnyH _ _ _ _ _ _ _ (Act.put _ (some 128) _) _
            simp only [Act.put, List.setIfInBounds_toArray, List.set_cons_zero, List.set_cons_succ]
            refine wpAnyH_take (i := 11) (v := ?vf_11) rfl (by kernel_rfl) (by kernel_rfl) (by kernel_rfl) (fun _ _ _ h => h) (Or.inl ⟨by first | kernel_rfl | rfl, ?yf_11⟩) hHeld ?rf_11
            case yf_11 => (intro W hSW; (try dsimp only at hSW); go_simp; (try with_reducible rfl))
            change wpAnyH _ _ _ _ _ _ _ (Act.put _ (some 129) _) _
            simp only [Act.put, List.setIfInBounds_toArray, List.set_cons_zero, List.set_cons_succ]
            refine wpAnyH_take (i := 12) (v := ?vf_12) rfl (by kernel_rfl) (by kernel_rfl) (by kernel_rfl) (fun _ _ _ h => h) (Or.inl ⟨by first | kernel_rfl | rfl, ?yf_12⟩) hHeld ?rf_12
            case yf_12 => (intro W hSW; (try dsimp only at hSW); go_simp; (try with_reducible rfl))
            change wpAnyH _ _ _ _ _ _ _ (Act.put _ (some 130) _) _
            simp only [Act.put, List.setIfInBounds_toArray, List.set_cons_zero, List.set_cons_succ]
            refine wpAnyH_take (i := 13) (v := ?vf_13) rfl (by kernel_rfl) (by kernel_rfl) (by kernel_rfl) (fun _ _ _ h => h) (Or.inl ⟨by first | kernel_rfl | rfl, ?yf_13⟩) hHeld ?rf_13
            case yf_13 => (intro W hSW; (try dsimp only at hSW); go_simp; (try with_reducible rfl))
            change wpAnyH _ _ _ _ _ _ _ (Act.put _ (some 131) _) _
            simp only [Act.put, List.setIfInBounds_toArray, List.set_cons_zero, List.set_cons_succ]
            refine wpAnyH_take (i := 14) (v := ?vf_14) rfl (by kernel_rfl) (by kernel_rfl) (by kernel_rfl) (fun _ _ _ h => h) (Or.inl ⟨by first | kernel_rfl | rfl, ?yf_14⟩) hHeld ?rf_14
            case yf_14 => (intro W hSW; (try dsimp only at hSW); go_simp; (try with_reducible rfl))
            change wpAnyH _ _ _ _ _ _ _ (Act.put _ (some 132) _) _
            simp only [Act.put, List.setIfInBounds_toArray, List.set_cons_zero, List.set_cons_succ]
            refine wpAnyH_take (i := 16) (v := ?vf_16) rfl (by kernel_rfl) (by kernel_rfl) (by kernel_rfl) (fun _ _ _ h => h) (Or.inl ⟨by first | kernel_rfl | rfl, ?yf_16⟩) hHeld ?rf_16
            case yf_16 => (intro W hSW; (try dsimp only at hSW); go_simp; (try with_reducible rfl))
            change wpAnyH _ _ _ _ _ _ _ (Act.put _ (some 134) _) _
            simp only [Act.put, List.setIfInBounds_toArray, List.set_cons_zero, List.set_cons_succ]
            refine wpAnyH_take (i := 17) (v := ?vf_17) rfl (by kernel_rfl) (by kernel_rfl) (by kernel_rfl) (fun _ _ _ h => h) (Or.inl ⟨by first | kernel_rfl | rfl, ?yf_17⟩) hHeld ?rf_17
            case yf_17 => (intro W hSW; (try dsimp only at hSW); go_simp; (try with_reducible rfl))
            change wpAnyH _ _ _ _ _ _ _ (Act.put _ (some 135) _) _
            simp only [Act.put, List.setIfInBounds_toArray, List.set_cons_zero, List.set_cons_succ]
            refine wpAnyH_take (i := 18) (v := ?vf_18) rfl (by kernel_rfl) (by kernel_rfl) (by kernel_rfl) (fun _ _ _ h => h) (Or.inl ⟨by first | kernel_rfl | rfl, ?yf_18⟩) hHeld ?rf_18
            case yf_18 => (intro W hSW; (try dsimp only at hSW); go_simp; (try with_reducible rfl))
            change wpAnyH _ _ _ _ _ _ _ (Act.put _ (some 136) _) _
            simp only [Act.put, List.setIfInBounds_toArray, List.set_cons_zero, List.set_cons_succ]
            refine wpAnyH_ready (rs := [15]) (by kernel_rfl) (by simp) ?_
            refine AllReadyH.cons rfl (fun K hK => ?_) AllReadyH.nil
            go_simp
            refine (HDG.out Va HVA.out).mono ?_
            rintro e Vb ⟨rfl, hbb⟩
            refine hK.out _ _ (HC.out Vb (HVA.out.trans (hbb.mono HVA.out.size))) (fun hHeld => ?_)
            clear hK K
            try simp only [Act.put, List.setIfInBounds_toArray, List.set_cons_zero, List.set_cons_succ]
            have HVB : Hid (Below V6.heap.size V6 Vb) := HVA.out.trans (hbb.mono HVA.out.size)
            clear hbb
            refine wpAnyH_ready (rs := [19]) (by kernel_rfl) (by simp) ?_
            refine AllReadyH.cons rfl (fun K hK => ?_) AllReadyH.nil
            go_simp
            refine (HRD.out Vb HVB.out).mono ?_
            rintro e Vc ⟨rfl, hbc⟩
            refine hK.out _ _ (HC.out Vc (HVB.out.trans (hbc.mono HVB.out.size))) (fun hHeld => ?_)
            clear hK K
            try simp only [Act.put, List.setIfInBounds_toArray, List.set_cons_zero, List.set_cons_succ]
            have HVC : Hid (Below V6.heap.size V6 Vc) := HVB.out.trans (hbc.mono HVB.out.size)
            clear hbc
            refine wpAnyH_take (i := 20) (v := ?vf_20) rfl (by kernel_rfl) (by kernel_rfl) (by kernel_rfl) (fun _ _ _ h => h) (Or.inl ⟨by first | kernel_rfl | rfl, ?yf_20⟩) hHeld ?rf_20
            case yf_20 => (intro W hSW; (try dsimp only at hSW); go_simp; (try with_reducible rfl))
            change wpAnyH _ _ _ _ _ _ _ (Act.put _ (some 138) _) _
            simp only [Act.put, List.setIfInBounds_toArray, List.set_cons_zero, List.set_cons_succ]
            refine wpAnyH_take (i := 21) (v := ?vf_21) rfl (by kernel_rfl) (by kernel_rfl) (by kernel_rfl) (fun _ _ _ h => h) (Or.inl ⟨by first | kernel_rfl | rfl, ?yf_21⟩) hHeld ?rf_21
            case yf_21 => (intro W hSW; (try dsimp only at hSW); go_simp; (try with_reducible rfl))
            change wpAnyH _ _ _ _ _ _ _ (Act.put _ (some 139) _) _
            simp only [Act.put, List.setIfInBounds_toArray, List.set_cons_zero, List.set_cons_succ]
            refine wpAnyH_done (by kernel_rfl) ?_ _
            go_wp2
            exact ⟨⟨i + 1, en, ec, ni, ic, ea, ia, _, T5, L5, ids, by omega, by omega, by omega, by go_num, by first | rfl | go_num, by first | rfl | go_num, (HFIN.out Vc HVC.out).1, (HFIN.out Vc HVC.out).2⟩, by simp [intOf]; omega⟩
          have b0 : (q0 == 0) = false := by simp; exact e0
          have b1 : (q0 == 1) = false := by simp; exact e1
          have b5 : (q0 == 5) = false := by simp; exact e5
          have b2 : (q0 == 2) = false := by simp; exact e2
          have b6 : (q0 == 6) = false := by simp; exact e6
          have HZ : Hid (Pl tb F4 V4 st W (i + 1) T L da dn dc ia ni ic ids ∧ Below w.heap.size w V4 ∧ V4.heap[ob1]? = some (.cells #[.int .i64 q0, .int .i64 q1, .string q2, .string q3, .int .i64 q4] 37 (0, 0)) ∧ V4.heap[xb]? = some (.cells #[.string ps, .int .i64 pm] 35 (0, 0))) := ⟨⟨H4.out.1.cs, H4.out.1.doc.up (by omega) (by omega), H4.out.1.dw, H4.out.1.id⟩, H4.out.2.1, H4.out.2.2.1, H4.out.2.2.2.1⟩
          have HC : Hid (∀ V, Below V4.heap.size V4 V → V.cell? ⟨xb, 0, none⟩ = some (.string ps) ∧ V.cell? ⟨xb, 1, none⟩ = some (.int .i64 pm) ∧ V.cell? ⟨ob1, 2, none⟩ = some (.string q2)) := fun V hV => by
            have g1 := (hV.block xb (lt_of_some HZ.out.2.2.2)).trans HZ.out.2.2.2
            have g2 := (hV.block ob1 (lt_of_some HZ.out.2.2.1)).trans HZ.out.2.2.1
            exact ⟨by rw [cell_of_row _ _ _ _ _ _ g1]; rfl, by rw [cell_of_row _ _ _ _ _ _ g1]; rfl, by rw [cell_of_row _ _ _ _ _ _ g2]; rfl⟩
          have HAL : Hid (∀ V, Below V4.heap.size V4 V → Calls Tryd.prog 18 #[.pointer (some ⟨st, 0, none⟩), .slice da dn dc, .agg #[.string ps, .int .i64 pm], .int .i64 (W : Int)] V fun e w' => e = .returned (.bool true) ∧ Below V.heap.size V w') := fun V hV => alike_true (HZ.out.1.below hV).cs hW HZ.out.1.doc (by omega) (HZ.out.1.below hV).dw ps pm
          have HDG : Hid (∀ V, Below V4.heap.size V4 V → Calls Tryd.prog 19 #[.pointer (some ⟨st, 0, none⟩), .string q2] V fun e w' => e = .returned (.string dg) ∧ Below V.heap.size V w') := fun V hV => by
            rw [← HDE.out]
            exact digest_any (HZ.out.1.below hV).cs.c1 hW (HCS.out.2.2.1.below (HZ.out.2.1.trans (hV.mono HZ.out.2.1.size))) q2 (by omega)
          have HRD : Hid (∀ V, Below V4.heap.size V4 V → Calls Tryd.prog 20 #[.string q2, .int .i64 (W : Int)] V fun e w' => e = .returned (.string dg) ∧ Below V.heap.size V w') := fun V _ => by
            rw [← HDE.out]
            exact rdigest_any q2 W hW V (by omega)
          have HFIN : Hid (∀ V, Below V4.heap.size V4 V → Pl tb (mor F4 V4 V) V st W (i + 1) T L da dn dc ia ni ic ids ∧ Below w.heap.size w V) := fun V hV => ⟨HZ.out.1.below hV, HZ.out.2.1.trans (hV.mono HZ.out.2.1.size)⟩
          clear v0 v1 c2
          go_wp2
          refine wp_region_held_drew (S := fun W => W.cell? ⟨xb, 0, none⟩ = some (.string ps) ∧ W.cell? ⟨xb, 1, none⟩ = some (.int .i64 pm) ∧ W.cell? ⟨ob1, 2, none⟩ = some (.string q2)) (by kernel_rfl) (HC.out V4.drew (Below.refl _ V4).drew) (fun hHeld => ?_)
          refine wpAnyH_take (i := 0) (v := ?vg_0) rfl (by kernel_rfl) (by kernel_rfl) (by kernel_rfl) (fun _ _ _ h => h) (Or.inl ⟨by first | kernel_rfl | rfl, ?yg_0⟩) hHeld ?rg_0
          case yg_0 => (intro W hSW; (try dsimp only at hSW); go_simp; (try with_reducible rfl))
          change wpAnyH _ _ _ _ _ _ _ (Act.put _ (some 118) _) _
          simp only [Act.put, List.setIfInBounds_toArray, List.set_cons_zero, List.set_cons_succ]
          refine wpAnyH_take (i := 1) (v := ?vg_1) rfl (by kernel_rfl) (by kernel_rfl) (by kernel_rfl) (fun _ _ _ h => h) (Or.inl ⟨by first | kernel_rfl | rfl, ?yg_1⟩) hHeld ?rg_1
          case yg_1 => (intro W hSW; (try dsimp only at hSW); go_simp; (try with_reducible rfl))
          change wpAnyH _ _ _ _ _ _ _ (Act.put _ (some 119) _) _
          simp only [Act.put, List.setIfInBounds_toArray, List.set_cons_zero, List.set_cons_succ]
          refine wpAnyH_take (i := 2) (v := ?vg_2) rfl (by kernel_rfl) (by kernel_rfl) (by kernel_rfl) (fun _ _ _ h => h) (Or.inl ⟨by first | kernel_rfl | rfl, ?yg_2⟩) hHeld ?rg_2
          case yg_2 => (intro W hSW; (try dsimp only at hSW); go_simp; (try with_reducible rfl))
          change wpAnyH _ _ _ _ _ _ _ (Act.put _ (some 120) _) _
          simp only [Act.put, List.setIfInBounds_toArray, List.set_cons_zero, List.set_cons_succ]
          refine wpAnyH_take (i := 3) (v := ?vg_3) rfl (by kernel_rfl) (by kernel_rfl) (by kernel_rfl) (fun _ _ _ h => h) (Or.inl ⟨by first | kernel_rfl | rfl, ?yg_3⟩) hHeld ?rg_3
          case yg_3 => (intro W hSW; (try dsimp only at hSW); go_simp; (try with_reducible rfl))
          change wpAnyH _ _ _ _ _ _ _ (Act.put _ (some 121) _) _
          simp only [Act.put, List.setIfInBounds_toArray, List.set_cons_zero, List.set_cons_succ]
          refine wpAnyH_take (i := 4) (v := ?vg_4) rfl (by kernel_rfl) (by kernel_rfl) (by kernel_rfl) (fun _ _ _ h => h) (Or.inl ⟨by first | kernel_rfl | rfl, ?yg_4⟩) hHeld ?rg_4
          case yg_4 => (intro W hSW; (try dsimp only at hSW); go_simp; (try with_reducible rfl))
          change wpAnyH _ _ _ _ _ _ _ (Act.put _ (some 122) _) _
          simp only [Act.put, List.setIfInBounds_toArray, List.set_cons_zero, List.set_cons_succ]
          refine wpAnyH_take (i := 5) (v := ?vg_5) rfl (by kernel_rfl) (by kernel_rfl) (by kernel_rfl) (fun _ _ _ h => h) (Or.inl ⟨by first | kernel_rfl | rfl, ?yg_5⟩) hHeld ?rg_5
          case yg_5 => (intro W hSW; (try dsimp only at hSW); go_simp; (try with_reducible rfl))
          change wpAnyH _ _ _ _ _ _ _ (Act.put _ (some 123) _) _
          simp only [Act.put, List.setIfInBounds_toArray, List.set_cons_zero, List.set_cons_succ]
          refine wpAnyH_take (i := 6) (v := ?vg_6) rfl (by kernel_rfl) (by kernel_rfl) (by kernel_rfl) (fun _ _ _ h => h) (Or.inl ⟨by first | kernel_rfl | rfl, ?yg_6⟩) hHeld ?rg_6
          case yg_6 => (intro W hSW; (try dsimp only at hSW); go_simp; (try with_reducible rfl))
          change wpAnyH _ _ _ _ _ _ _ (Act.put _ (some 124) _) _
          simp only [Act.put, List.setIfInBounds_toArray, List.set_cons_zero, List.set_cons_succ]
          refine wpAnyH_take (i := 7) (v := ?vg_7) rfl (by kernel_rfl) (by kernel_rfl) (by kernel_rfl) (fun _ _ _ h => h) (Or.inl ⟨by first | kernel_rfl | rfl, ?yg_7⟩) hHeld ?rg_7
          case yg_7 => (intro W hSW; (try dsimp only at hSW); go_simp; (try with_reducible rfl))
          change wpAnyH _ _ _ _ _ _ _ (Act.put _ (some 125) _) _
          simp only [Act.put, List.setIfInBounds_toArray, List.set_cons_zero, List.set_cons_succ]
          refine wpAnyH_ready (rs := [8]) (by kernel_rfl) (by simp) ?_
          refine AllReadyH.cons rfl (fun K hK => ?_) AllReadyH.nil
          go_simp
          refine (HAL.out V4.drew (Below.refl _ V4).drew).mono ?_
          rintro e Va ⟨rfl, hba⟩
          refine hK.out _ _ (HC.out Va ((Below.refl _ V4).drew.trans hba)) (fun hHeld => ?_)
          clear hK K
          try simp only [Act.put, List.setIfInBounds_toArray, List.set_cons_zero, List.set_cons_succ]
          have HVA : Hid (Below V4.heap.size V4 Va) := (Below.refl _ V4).drew.trans hba
          clear hba
          refine wpAnyH_take (i := 9) (v := ?vg_9) rfl (by kernel_rfl) (by kernel_rfl) (by kernel_rfl) (fun _ _ _ h => h) (Or.inl ⟨by first | kernel_rfl | rfl, ?yg_9⟩) hHeld ?rg_9
          case yg_9 => (intro W hSW; (try dsimp only at hSW); go_simp; (try with_reducible rfl))
          change wpAnyH _ _ _ _ _ _ _ (Act.put _ (some 127) _) _
          simp only [Act.put, List.setIfInBounds_toArray, List.set_cons_zero, List.set_cons_succ]
          refine wpAnyH_take (i := 10) (v := ?vg_10) rfl (by kernel_rfl) (by kernel_rfl) (by kernel_rfl) (fun _ _ _ h => h) (Or.inl ⟨by first | kernel_rfl | rfl, ?yg_10⟩) hHeld ?rg_10
          case yg_10 => (intro W hSW; (try dsimp only at hSW); go_simp; (try with_reducible rfl))
          change wpAnyH _ _ _ _ _ _ _ (Act.put _ (some 128) _) _
          simp only [Act.put, List.setIfInBounds_toArray, List.set_cons_zero, List.set_cons_succ]
          refine wpAnyH_take (i := 11) (v := ?vg_11) rfl (by kernel_rfl) (by kernel_rfl) (by kernel_rfl) (fun _ _ _ h => h) (Or.inl ⟨by first | kernel_rfl | rfl, ?yg_11⟩) hHeld ?rg_11
          case yg_11 => (intro W hSW; (try dsimp only at hSW); go_simp; (try with_reducible rfl))
          change wpAnyH _ _ _ _ _ _ _ (Act.put _ (some 129) _) _
          simp only [Act.put, List.setIfInBounds_toArray, List.set_cons_zero, List.set_cons_succ]
          refine wpAnyH_take (i := 12) (v := ?vg_12) rfl (by kernel_rfl) (by kernel_rfl) (by kernel_rfl) (fun _ _ _ h => h) (Or.inl ⟨by first | kernel_rfl | rfl, ?yg_12⟩) hHeld ?rg_12
          case yg_12 => (intro W hSW; (try dsimp only at hSW); go_simp; (try with_reducible rfl))
          change wpAnyH _ _ _ _ _ _ _ (Act.put _ (some 130) _) _
          simp only [Act.put, List.setIfInBounds_toArray, List.set_cons_zero, List.set_cons_succ]
          refine wpAnyH_take (i := 13) (v := ?vg_13) rfl (by kernel_rfl) (by kernel_rfl) (by kernel_rfl) (fun _ _ _ h => h) (Or.inl ⟨by first | kernel_rfl | rfl, ?yg_13⟩) hHeld ?rg_13
          case yg_13 => (intro W hSW; (try dsimp only at hSW); go_simp; (try with_reducible rfl))
          change wpAnyH _ _ _ _ _ _ _ (Act.put _ (some 131) _) _
          simp only [Act.put, List.setIfInBounds_toArray, List.set_cons_zero, List.set_cons_succ]
          refine wpAnyH_take (i := 14) (v := ?vg_14) rfl (by kernel_rfl) (by kernel_rfl) (by kernel_rfl) (fun _ _ _ h => h) (Or.inl ⟨by first | kernel_rfl | rfl, ?yg_14⟩) hHeld ?rg_14
          case yg_14 => (intro W hSW; (try dsimp only at hSW); go_simp; (try with_reducible rfl))
          change wpAnyH _ _ _ _ _ _ _ (Act.put _ (some 132) _) _
          simp only [Act.put, List.setIfInBounds_toArray, List.set_cons_zero, List.set_cons_succ]
          refine wpAnyH_take (i := 16) (v := ?vg_16) rfl (by kernel_rfl) (by kernel_rfl) (by kernel_rfl) (fun _ _ _ h => h) (Or.inl ⟨by first | kernel_rfl | rfl, ?yg_16⟩) hHeld ?rg_16
          case yg_16 => (intro W hSW; (try dsimp only at hSW); go_simp; (try with_reducible rfl))
          change wpAnyH _ _ _ _ _ _ _ (Act.put _ (some 134) _) _
          simp only [Act.put, List.setIfInBounds_toArray, List.set_cons_zero, List.set_cons_succ]
          refine wpAnyH_take (i := 17) (v := ?vg_17) rfl (by kernel_rfl) (by kernel_rfl) (by kernel_rfl) (fun _ _ _ h => h) (Or.inl ⟨by first | kernel_rfl | rfl, ?yg_17⟩) hHeld ?rg_17
          case yg_17 => (intro W hSW; (try dsimp only at hSW); go_simp; (try with_reducible rfl))
          change wpAnyH _ _ _ _ _ _ _ (Act.put _ (some 135) _) _
          simp only [Act.put, List.setIfInBounds_toArray, List.set_cons_zero, List.set_cons_succ]
          refine wpAnyH_take (i := 18) (v := ?vg_18) rfl (by kernel_rfl) (by kernel_rfl) (by kernel_rfl) (fun _ _ _ h => h) (Or.inl ⟨by first | kernel_rfl | rfl, ?yg_18⟩) hHeld ?rg_18
          case yg_18 => (intro W hSW; (try dsimp only at hSW); go_simp; (try with_reducible rfl))
          change wpAnyH _ _ _ _ _ _ _ (Act.put _ (some 136) _) _
          simp only [Act.put, List.setIfInBounds_toArray, List.set_cons_zero, List.set_cons_succ]
          refine wpAnyH_ready (rs := [15]) (by kernel_rfl) (by simp) ?_
          refine AllReadyH.cons rfl (fun K hK => ?_) AllReadyH.nil
          go_simp
          refine (HDG.out Va HVA.out).mono ?_
          rintro e Vb ⟨rfl, hbb⟩
          refine hK.out _ _ (HC.out Vb (HVA.out.trans (hbb.mono HVA.out.size))) (fun hHeld => ?_)
          clear hK K
          try simp only [Act.put, List.setIfInBounds_toArray, List.set_cons_zero, List.set_cons_succ]
          have HVB : Hid (Below V4.heap.size V4 Vb) := HVA.out.trans (hbb.mono HVA.out.size)
          clear hbb
          refine wpAnyH_ready (rs := [19]) (by kernel_rfl) (by simp) ?_
          refine AllReadyH.cons rfl (fun K hK => ?_) AllReadyH.nil
          go_simp
          refine (HRD.out Vb HVB.out).mono ?_
          rintro e Vc ⟨rfl, hbc⟩
          refine hK.out _ _ (HC.out Vc (HVB.out.trans (hbc.mono HVB.out.size))) (fun hHeld => ?_)
          clear hK K
          try simp only [Act.put, List.setIfInBounds_toArray, List.set_cons_zero, List.set_cons_succ]
          have HVC : Hid (Below V4.heap.size V4 Vc) := HVB.out.trans (hbc.mono HVB.out.size)
          clear hbc
          refine wpAnyH_take (i := 20) (v := ?vg_20) rfl (by kernel_rfl) (by kernel_rfl) (by kernel_rfl) (fun _ _ _ h => h) (Or.inl ⟨by first | kernel_rfl | rfl, ?yg_20⟩) hHeld ?rg_20
          case yg_20 => (intro W hSW; (try dsimp only at hSW); go_simp; (try with_reducible rfl))
          change wpAnyH _ _ _ _ _ _ _ (Act.put _ (some 138) _) _
          simp only [Act.put, List.setIfInBounds_toArray, List.set_cons_zero, List.set_cons_succ]
          refine wpAnyH_take (i := 21) (v := ?vg_21) rfl (by kernel_rfl) (by kernel_rfl) (by kernel_rfl) (fun _ _ _ h => h) (Or.inl ⟨by first | kernel_rfl | rfl, ?yg_21⟩) hHeld ?rg_21
          case yg_21 => (intro W hSW; (try dsimp only at hSW); go_simp; (try with_reducible rfl))
          change wpAnyH _ _ _ _ _ _ _ (Act.put _ (some 139) _) _
          simp only [Act.put, List.setIfInBounds_toArray, List.set_cons_zero, List.set_cons_succ]
          refine wpAnyH_done (by kernel_rfl) ?_ _
          go_wp2
          exact ⟨⟨i + 1, dn, dc, ni, ic, da, ia, _, T, L, ids, by omega, by omega, by omega, by go_num, by first | rfl | go_num, by first | rfl | go_num, (HFIN.out Vc HVC.out).1, (HFIN.out Vc HVC.out).2⟩, by simp [intOf]; omega⟩
        · rw [decide_eq_false hsh] at HSH
          go_wp2_with fail
          refine HSH.mono ?_
          rintro e V2 ⟨rfl, hb2⟩
          have hB2 : Below wo.heap.size wo V2 := H1.out.2.2.1.trans (hb2.mono H1.out.2.2.1.size)
          have HB : Hid (Below w.heap.size w V2) := H1.out.2.1.trans (hB2.mono H1.out.2.1.size)
          clear HSH hb2 hB2 hV1
          go_wp2_with fail
          refine (HLV.out _ HB.out).mono ?_
          rintro e V ⟨rfl, hb⟩
          go_wp2
          go_ret
          exact ⟨rfl, hb⟩
      · have HB : Hid (Below w.heap.size w wo) := hbw
        clear hPl hbw
        by_cases hl : i < len1
        · have k1 : (i : Int) < (len1 : Int) := by omega
          have k2 : ¬ (i : Int) < 50 := by omega
          clear hlt
          go_wp2_with fail
          refine (HLV.out _ HB.out).mono ?_
          rintro e V ⟨rfl, hb⟩
          go_wp2
          go_ret
          exact ⟨rfl, hb⟩
        · have k1 : ¬ (i : Int) < (len1 : Int) := by omega
          clear hlt
          go_wp2_with fail
          refine (HLV.out _ HB.out).mono ?_
          rintro e V ⟨rfl, hb⟩
          go_wp2
          go_ret
          exact ⟨rfl, hb⟩

set_option linter.unusedVariables false in
set_option maxRecDepth 100000 in
theorem lifted (os : Os) (started : os.Started) (H : Type) (enc : TypeId × Value → H) :
    ReturnsInHanded {} Tryd.checked os 3 .any (fun w args => (Rows.casPlaysSpec.pre enc Tryd.prog Tryd.f3 [] false w args ∧ laidMetH Tryd.prog laid2 w) ∧ sizedMet enc Tryd.prog Tryd.f3 (OpenSpec.ofChange Rows.casPlaysSpec) false w args) (Rows.casPlaysSpec.post enc Tryd.prog Tryd.f3 false true false false) := by
  refine returnsInHanded_of_change_and (C := Tryd.checked) (X := fun w _ => laidMetH Tryd.prog laid2 w) (fun _ _ _ hh h => h.of_heap hh) own started (by kernel_rfl) Tryd.func3
    (ChangeSpec.witness_shaped (enc := enc) (C := Tryd.checked) (os := os) (X := fun w _ => laidMetH Tryd.prog laid2 w) false (World.doorLaid Tryd.prog 19 os) #[.int .i64 0, .slice none 0 0] 8 rfl (World.shaped_of_RefB (by kernel_rfl) (by kernel_rfl)) (by kernel_rfl) (by kernel_rfl) (by kernel_rfl) (door_met os _)) ?_
  intro W base args ds gs before hval0 hW _ hsz0 hL _
  have hval : ∀ (j : Nat) t v, Tryd.f3.params[j]? = some t → args[j]? = some v → Value.okWide Tryd.prog W .any base t v := hval0
  have hsz : (DataW.weightsEach Tryd.prog (Tryd.f3.params.toList ++ Rows.casPlaysSpec.plain.varTypes Tryd.prog) (ds ++ gs)).all (· ≤ reachBytes) = true := hsz0
  have hW' := hW
  obtain ⟨p, q, hA0, hV, rfl, hfz, hnd⟩ := hW
  have hA : DataW.TrodAll enc Tryd.prog W 0 (fun _ => true) true Tryd.f3.params.toList args.toList ds p := hA0
  rw [Tryd.params3] at hA hval hsz
  obtain ⟨v0, vs0, d0, ds0, p0, q0, hargs, rfl, rfl, h0, r0⟩ := trodAll_cons hA
  obtain ⟨v1, vs1, d1, ds1, p1, q1, rfl, rfl, rfl, h1, r1⟩ := trodAll_cons r0
  obtain ⟨rfl, rfl, rfl⟩ := trodAll_nil r1
  obtain rfl : args = #[v0, v1] := by cases args; simp_all
  obtain ⟨rfl, rfl⟩ := trodVars_none hV
  obtain ⟨x0, rfl, rfl, rfl, w0⟩ := open_int Tryd.underlying3 (hval 0 3 v0 rfl rfl) h0
  have k1 := h1
  have lt1 : ∀ x ∈ p1, x.block < W.heap.size := by obtain ⟨m, hm⟩ := k1; exact DataW.trod_lt m _ _ _ hm
  obtain ⟨a1, len1, cap1, rfl⟩ := okWide_slice Tryd.underlying22 (hval 1 22 v1 rfl rfl)
  obtain ⟨os1, w1⟩ : ∃ l, OpsIn W a1 len1 cap1 l := by
    obtain ⟨fuel, hf⟩ := h1
    exact ops_of (by simpa [Value.cells] using hf) (fun n hn => by
      have := List.all_eq_true.1 hsz n (DataW.weights_mem_each (j := 1) rfl rfl n hn)
      simpa using this)
  clear hA0 hval0 hsz hsz0
  refine (walk x0 (wf_i64 w0) a1 len1 cap1 os1 W w1 (of_laid hL)).mono fun e W' ⟨he, bel⟩ => ?_
  subst he
  exact ⟨_, rfl, _, _, _, [], _, [], hW', trodAll_mk1 (shut_bool Tryd.underlying4 _), (trodAll_cons_mk (shut_int Tryd.underlying3 w0) (trodAll_cons_mk (Below.trod laidOut (by kernel_rfl) (of_decide_eq_true (by kernel_rfl)) k1 bel lt1) trodAll_mk0)), rfl, bel.frame _, fun h => by cases h⟩

theorem over : Rows.casPlaysRow.holds Tryd.pinned (OpenSpec.ofChange Rows.casPlaysSpec) :=
  OpenClaim.holds_of_wide 3 Tryd.f3 rfl rfl rfl rfl rfl rfl rfl ⟨rfl, rfl, rfl, rfl, rfl⟩ rfl rfl rfl rfl rfl (by kernel_rfl) Tryd.func3 (by kernel_rfl)
    (of_decide_eq_true (by kernel_rfl)) (by unfold Func.isWrapper; first | (rw [if_pos (by decide +kernel)]; kernel_rfl) | (rw [if_neg (by decide +kernel)]; exact ⟨rfl, rfl⟩))
    (fun os started H enc _ => lifted os started H enc)

end Go.Proofs.YtjpkngbjjgimjaaDoor.casPlays
namespace Go.Proofs.YtjpkngbjjgimjaaDoor
/-- The given statement. -/
theorem casPlays_holds : Rows.CasPlaysCardSaid :=
  Claim7.holds_tied_plain_at .later [] [.data, .data] true (true, "714266a7f20758317d11b46492cd9cd49cf98b3981d461172de498aac6b57d6c") false
    casPlays.over (fun _ h => by cases h) (by kernel_rfl) (fun _ h => by cases h) casPlays_row_tie rfl ⟨rfl, rfl⟩ (by kernel_rfl) rfl
    (fun f fn hf hfn => by
      obtain rfl : f = 3 := Option.some.inj ((show Tryd.prog.funcNamed "strongroom/strongroomlaw09.CasPlays" = some 3 by kernel_rfl).symm.trans hf) |>.symm
      obtain rfl : fn = Tryd.f3 := (Option.some.inj (Tryd.func3.symm.trans hfn)).symm
      exact ⟨by kernel_rfl, fun j t ht => by
        rw [Tryd.params3] at ht
        rcases j with _ | _ | j
        · obtain rfl : t = 3 := by simpa using ht.symm
          exact (show Tryd.prog.wantsStandIn 3 = false by kernel_rfl)
        · obtain rfl : t = 22 := by simpa using ht.symm
          exact (show Tryd.prog.wantsStandIn 22 = false by kernel_rfl)
        · simp at ht
      ⟩)
    (by kernel_rfl)
#print axioms casPlays_holds
end Go.Proofs.YtjpkngbjjgimjaaDoor
