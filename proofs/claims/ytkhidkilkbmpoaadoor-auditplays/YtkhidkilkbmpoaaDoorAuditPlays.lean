/- Proved: for every list of entries the law AuditPlays returns true, what was handed in as it was (an audit that goes on by any entries, one behind the other, is the document's of all that there ever were; its digest is that of all of them); where the package's two tables begin as the program's text lays them. -/
import Derived.Test.YtkhidkilkbmpoaaDoorRM
import Derived.Test.YtkhidkilkbmpoaaDoorCards
import Derived.Test.YtkhidkilkbmpoaaDoorTie
import Derived.WalkKit
import Derived.Deep.Cut
import Derived.Deep.CutRange
import Derived.ProofKit
import Derived.OpenShut
import Derived.ShutString
import Derived.ChangeOld
import Derived.Below
import Derived.LaidMore
import Derived.Stop.Joined
import Derived.SevenTiedAt
namespace Go.Proofs.YtkhidkilkbmpoaaDoor.auditPlays
open Go.ChangeShapes Go.WideShapes Go.ChangeAt Go.WideMaps Go.WideElems Go.RowKit
open Go.ChangeMaps (open_string shut_string)

set_option maxRecDepth 100000 in
set_option maxHeartbeats 8000000 in
theorem walk (a0 : Option Addr) (len0 cap0 : Nat) (l0 : List En) (c0 : ∀ c ∈ l0, c.In) (w : World) (w0 : Ew w a0 len0 cap0 l0) (hL : Laid w) :
    Calls Tryd.prog 5 #[.slice a0 len0 cap0] w fun e w' => e = .returned (.bool true) ∧ Below w.heap.size w w' := by
  have HLV : Hid (∀ V, Below w.heap.size w V → Calls Tryd.prog 10 #[] V fun e w' => e = .returned (.bool true) ∧ Below V.heap.size V w') := fun V hV => lives_any V (hL.below hV)
  obtain ⟨Z, hZ⟩ : ∃ Z, baOf zeros32 = Z := ⟨_, rfl⟩
  have HZZ : Hid (baOf zeros32 = Z) := hZ
  have HLW : Hid (∀ W, Below w.heap.size w W → Laid W) := fun W hW => hL.below hW
  have HL0 : Hid ((∀ W, Below w.heap.size w W → Ew W a0 len0 cap0 l0) ∧ l0.length = len0 ∧ ∀ c ∈ l0, c.path.size ≤ 140737488351232) := ⟨fun W hW => w0.below hW, w0.len, fun c hc => (c0 c hc).2.2.2.2⟩
  have hmx := w0.max
  have HN := anew_any w
  rw [hZ] at HN
  clear hL w0 c0 hZ
  go_enter Tryd.func5, Tryd.ntmps5
  go_wp2_with fail
  refine HN.mono ?_
  rintro e V1 ⟨rfl, hb1⟩
  obtain ⟨ab, hab⟩ : ∃ x, V1.heap.size = x := ⟨_, rfl⟩
  obtain ⟨U1, hU1⟩ : ∃ x, V1.alloc (.cells #[.string ⟨#[]⟩, .int .i64 0, .slice none 0 0] 27) = x := ⟨_, rfl⟩
  have rU1 : U1.heap[ab]? = some (.cells #[.string ⟨#[]⟩, .int .i64 0, .slice none 0 0] 27 (0, 0)) := by rw [← hU1, ← hab]; exact heap_alloc_new _ _
  have bU1 : Below V1.heap.size V1 U1 := by rw [← hU1]; exact (Below.refl _ _).alloc (Nat.le_refl _) _
  obtain ⟨q0, q1, q2, qz⟩ := row3 rU1
  have qf0 := qz 0
  have qf1 := qz 1
  have qf2 := qz 2
  obtain ⟨V2, hV2⟩ : ∃ x, ((U1.setCell ⟨ab, 0, none⟩ (.string Z)).setCell ⟨ab, 1, none⟩ (.int .i64 0)).setCell ⟨ab, 2, none⟩ (.slice none 0 0) = x := ⟨_, rfl⟩
  have rV2 : V2.heap[ab]? = some (.cells #[.string Z, .int .i64 0, .slice none 0 0] 27 (0, 0)) := by rw [← hV2]; exact set3 rU1 _ _ _
  have bV2 : Below V1.heap.size V1 V2 := by rw [← hV2]; exact below3s bU1 (Nat.le_of_eq hab) _ _ _
  obtain ⟨B, hB⟩ : ∃ x, V2.heap.size = x := ⟨_, rfl⟩
  have HAB : Hid (ab < B ∧ w.heap.size ≤ ab) := ⟨by rw [← hB]; exact lt_of_some rV2, by rw [← hab]; exact hb1.size⟩
  have HB2 : Hid (B ≤ V2.heap.size) := Nat.le_of_eq hB.symm
  have HP0 : Hid (Ply w B ab [] none 0 0 V2) := by
    refine ⟨World.ownsRow_nil _ _ _ _, rfl, (fun e he => by cases he), ⟨none, 0, 0, ?_, Rw.zero _ _ _ _ _ _ (Nat.zero_le _)⟩, hb1.trans (bV2.mono hb1.size)⟩
    rw [of_nil]
    show V2.heap[ab]? = some (.cells #[.string (baOf zeros32), .int .i64 0, .slice none 0 0] 27 (0, 0))
    rw [HZZ.out]
    exact rV2
  clear HN hb1 rU1 bU1 qz rV2 bV2 hB
  go_wp2
  clear q0 q1 q2 qf0 qf1 qf2
  go_loopw [4, 5] (fun va vi wr => ∃ (i : Nat) (K : List En) (al : Option Addr) (an ac : Nat), i ≤ len0 ∧ i ≤ 30 ∧ an ≤ i ∧ vi = .int .i64 i ∧ va = .slice al an ac ∧ Ply w B ab K al an ac wr ∧ B ≤ wr.heap.size) (fun _ vi _ => len0 - (intOf vi).toNat)
  case atStart => exact ⟨0, [], none, 0, 0, by omega, by omega, by omega, rfl, rfl, HP0.out, HB2.out⟩
  case round =>
  obtain ⟨i, K, al, an, ac, hi, hi30, han, rfl, rfl, hply, hBS⟩ := hrel
  have HBS : Hid (B ≤ wr.heap.size) := hBS
  clear hBS
  have hown := hply.1
  by_cases hlt : i < len0
  · have kk : (i : Int) < (len0 : Int) := by omega
    by_cases h30 : i < 30
    · have k30 : (i : Int) < 30 := by omega
      have hBw := hply.2.2.2.2
      obtain ⟨lb, lo, rfl, _, hc⟩ := (HL0.out.1 wr hBw).at (by omega)
      obtain ⟨⟨e0, e1, e2, e3, e4⟩, hci⟩ : ∃ c, l0[i]? = some c := ⟨_, List.getElem?_eq_getElem (by have := HL0.out.2.1; omega)⟩
      obtain ⟨d0, d1, d2, d3, d4⟩ := hc i _ hci
      simp only at d0 d1 d2 d3 d4
      have hpz : e3.size ≤ 140737488351232 := HL0.out.2.2 _ (List.mem_of_getElem? hci)
      by_cases hpl : 1000 < e3.size
      · have kpl : (1000 : Int) < (e3.size : Int) := by omega
        have HB : Hid (Below w.heap.size w wr) := hBw
        clear hply hown hBw hc hci
        have HLX := HLV.out wr HB.out
        go_wp2_with fail
        refine HLX.mono ?_
        rintro e VZ ⟨rfl, hbZ⟩
        have HZ : Hid (Below w.heap.size w VZ) := HB.out.trans (hbZ.mono HB.out.size)
        clear HLX hbZ
        go_wp2
        go_ret
        exact ⟨rfl, HZ.out⟩
      have kpl : ¬ (1000 : Int) < (e3.size : Int) := by omega
      have wan : IntKind.i64.wrap ((an : Int) + 1) = (an : Int) + 1 := by rw [IntKind.wrap_i64]; omega
      obtain ⟨V4, hV4, r4, hb4⟩ := box_en (w := wr) e0 e1 e2 e3 e4
      obtain ⟨eb, heb⟩ : ∃ x, wr.heap.size = x := ⟨_, rfl⟩
      rw [heb] at r4
      obtain ⟨s0, _, _, _, _, sz⟩ := row5 r4
      have sf := sz 0
      obtain ⟨V5, hV5⟩ : ∃ x, V4.setCell ⟨eb, 0, none⟩ (.int .i64 ((an : Int) + 1)) = x := ⟨_, rfl⟩
      have r5 : V5.heap[eb]? = some (.cells #[.int .i64 ((an : Int) + 1), .int .i64 e1, .int .i64 e2, .string e3, .int .i64 e4] 36 (0, 0)) := by rw [← hV5, heap_setCell_same _ _ _ _ _ _ r4]; rfl
      have hb5 : Below wr.heap.size wr V5 := by rw [← hV5]; exact hb4.setCell (Nat.le_of_eq heb) _
      have hply5 := hply.below hb5
      obtain ⟨k0, hk0⟩ : ∃ k, (ofA K).anchor = k := ⟨_, rfl⟩
      obtain ⟨xa, xn, xc, hbx, hrx⟩ := hply5.2.2.2.1
      have hBw5 := hply5.2.2.2.2
      obtain ⟨⟨r1, r2⟩, hr⟩ : ∃ r, addA ⟨(ofA K).anchor, (an : Int), (ofA K).ents⟩ ⟨e0, e1, e2, e3, e4⟩ = r := ⟨_, rfl⟩
      have HAD : Hid (∀ W, Below V5.heap.size V5 W → Calls Tryd.prog 18 #[.agg #[.string k0, .int .i64 (an : Int), .slice xa xn xc], .agg #[.int .i64 e0, .int .i64 e1, .int .i64 e2, .string e3, .int .i64 e4]] W fun e w' => ∃ (a : Option Addr) (n c : Nat), e = .returned (.tuple #[.agg #[.string r1.anchor, .int .i64 r1.last, .slice a n c], .int .i64 (r2 : Int)]) ∧ Nw W.heap.size w' a n c r1.ents ∧ Below W.heap.size W w') := fun W hW => by
        have h9 := aadd_any (ofA K).anchor (an : Int) ⟨e0, e1, e2, e3, e4⟩ W (Rw.mono (hrx.below hW) (fun _ _ _ => trivial)) (HLW.out W (hBw5.trans (hW.mono hBw5.size)))
        rw [hr] at h9
        rw [← hk0]
        exact h9
      rw [hk0] at hbx
      have HK : Hid (∀ W, Below V5.heap.size V5 W → ((W.cell? ⟨ab, 0, none⟩ = some (.string k0) ∧ W.cell? ⟨ab, 1, none⟩ = some (.int .i64 (an : Int)) ∧ W.cell? ⟨ab, 2, none⟩ = some (.slice xa xn xc)) ∧ (W.cell? ⟨lb, lo + i * 5, none⟩ = some (.int .i64 e0) ∧ W.cell? ⟨lb, lo + i * 5 + 1, none⟩ = some (.int .i64 e1) ∧ W.cell? ⟨lb, lo + i * 5 + 2, none⟩ = some (.int .i64 e2) ∧ W.cell? ⟨lb, lo + i * 5 + 3, none⟩ = some (.string e3) ∧ W.cell? ⟨lb, lo + i * 5 + 4, none⟩ = some (.int .i64 e4))) ∧ Below w.heap.size w W) := fun W hW => by
        have hW9 := hBw5.trans (hW.mono hBw5.size)
        obtain ⟨g0, g1, g2, _⟩ := row3 ((hW.block ab (lt_of_some hbx)).trans hbx)
        obtain ⟨lb', lo', heq, _, hc'⟩ := (HL0.out.1 W hW9).at (by omega)
        obtain ⟨rfl, rfl⟩ : lb = lb' ∧ lo = lo' := by
          have := Option.some.inj heq
          exact ⟨congrArg Addr.block this, congrArg Addr.off this⟩
        exact ⟨⟨⟨g0, g1, g2⟩, hc' i _ hci⟩, hW9⟩
      have H5 : Hid (Ply w B ab K al an ac V5 ∧ V5.heap[eb]? = some (.cells #[.int .i64 ((an : Int) + 1), .int .i64 e1, .int .i64 e2, .string e3, .int .i64 e4] 36 (0, 0)) ∧ addA ⟨(ofA K).anchor, (an : Int), (ofA K).ents⟩ ⟨e0, e1, e2, e3, e4⟩ = (r1, r2) ∧ wr.heap.size = eb) := ⟨hply5, r5, hr, heb⟩
      clear hply hown hBw hc hci r4 hb4 sz r5 hb5 hply5 hk0 hbx hrx hBw5 hr
      go_upto_region 10 with fail
      go_cut [7, 8] from 10 to 64 (fun v7 v8 wx => BxTo 27 V5 (r1, r2) v7 v8 wx)
      case first =>
        refine wp_region_held_drew (S := fun W => (W.cell? ⟨ab, 0, none⟩ = some (.string k0) ∧ W.cell? ⟨ab, 1, none⟩ = some (.int .i64 (an : Int)) ∧ W.cell? ⟨ab, 2, none⟩ = some (.slice xa xn xc)) ∧ (W.cell? ⟨lb, lo + i * 5, none⟩ = some (.int .i64 e0) ∧ W.cell? ⟨lb, lo + i * 5 + 1, none⟩ = some (.int .i64 e1) ∧ W.cell? ⟨lb, lo + i * 5 + 2, none⟩ = some (.int .i64 e2) ∧ W.cell? ⟨lb, lo + i * 5 + 3, none⟩ = some (.string e3) ∧ W.cell? ⟨lb, lo + i * 5 + 4, none⟩ = some (.int .i64 e4))) (by kernel_rfl) ((HK.out V5.drew (Below.refl _ V5).drew).1) (fun hHeld => ?_)
        have H0 : Hid (Below V5.heap.size V5 V5.drew) := (Below.refl _ V5).drew
        refine wpAnyH_take (i := 0) (v := ?va_0) rfl (by kernel_rfl) (by kernel_rfl) (by kernel_rfl) (fun _ _ _ h => h) (Or.inl ⟨by first | kernel_rfl | rfl, ?ya_0⟩) hHeld ?ra_0
        case ya_0 => (intro W hSW; (try dsimp only at hSW); go_simp; (try with_reducible rfl))
        change wpAnyH _ _ _ _ _ _ _ (Act.put _ (some 37) _) _
        simp only [Act.put, List.setIfInBounds_toArray, List.set_cons_zero, List.set_cons_succ]
        refine wpAnyH_take (i := 1) (v := ?va_1) rfl (by kernel_rfl) (by kernel_rfl) (by kernel_rfl) (fun _ _ _ h => h) (Or.inl ⟨by first | kernel_rfl | rfl, ?ya_1⟩) hHeld ?ra_1
        case ya_1 => (intro W hSW; (try dsimp only at hSW); go_simp; (try with_reducible rfl))
        change wpAnyH _ _ _ _ _ _ _ (Act.put _ (some 38) _) _
        simp only [Act.put, List.setIfInBounds_toArray, List.set_cons_zero, List.set_cons_succ]
        refine wpAnyH_take (i := 2) (v := ?va_2) rfl (by kernel_rfl) (by kernel_rfl) (by kernel_rfl) (fun _ _ _ h => h) (Or.inl ⟨by first | kernel_rfl | rfl, ?ya_2⟩) hHeld ?ra_2
        case ya_2 => (intro W hSW; (try dsimp only at hSW); go_simp; (try with_reducible rfl))
        change wpAnyH _ _ _ _ _ _ _ (Act.put _ (some 39) _) _
        simp only [Act.put, List.setIfInBounds_toArray, List.set_cons_zero, List.set_cons_succ]
        refine wpAnyH_take (i := 3) (v := ?va_3) rfl (by kernel_rfl) (by kernel_rfl) (by kernel_rfl) (fun _ _ _ h => h) (Or.inl ⟨by first | kernel_rfl | rfl, ?ya_3⟩) hHeld ?ra_3
        case ya_3 => (intro W hSW; (try dsimp only at hSW); go_simp; (try with_reducible rfl))
        change wpAnyH _ _ _ _ _ _ _ (Act.put _ (some 40) _) _
        simp only [Act.put, List.setIfInBounds_toArray, List.set_cons_zero, List.set_cons_succ]
        refine wpAnyH_take (i := 4) (v := ?va_4) rfl (by kernel_rfl) (by kernel_rfl) (by kernel_rfl) (fun _ _ _ h => h) (Or.inl ⟨by first | kernel_rfl | rfl, ?ya_4⟩) hHeld ?ra_4
        case ya_4 => (intro W hSW; (try dsimp only at hSW); go_simp; (try with_reducible rfl))
        change wpAnyH _ _ _ _ _ _ _ (Act.put _ (some 41) _) _
        simp only [Act.put, List.setIfInBounds_toArray, List.set_cons_zero, List.set_cons_succ]
        obtain ⟨ub, hub⟩ : ∃ ub, V5.drew.heap.size = ub := ⟨_, rfl⟩
        obtain ⟨U0, hU0⟩ : ∃ U0, V5.drew.alloc (.cells #[.string ⟨#[]⟩, .int .i64 0, .slice none 0 0] 27) = U0 := ⟨_, rfl⟩
        have ru : U0.heap[ub]? = some (.cells #[.string ⟨#[]⟩, .int .i64 0, .slice none 0 0] 27 (0, 0)) := by rw [← hU0, ← hub]; exact heap_alloc_new _ _
        have HU : Hid (Below V5.heap.size V5 U0 ∧ V5.heap.size ≤ ub ∧ U0.heap[ub]? = some (.cells #[.string ⟨#[]⟩, .int .i64 0, .slice none 0 0] 27 (0, 0)) ∧ V5.drew.heap.size = ub ∧ Below V5.drew.heap.size V5.drew U0) := ⟨by rw [← hU0]; exact (H0.out).alloc (H0.out).size _, by rw [← hub]; exact (H0.out).size, ru, hub, by rw [← hU0]; exact (Below.refl _ _).alloc (Nat.le_refl _) _⟩
        clear ru
        refine wpAnyH_ready (rs := [5, 9]) (by kernel_rfl) (by simp) ?_
        refine AllReadyH.cons rfl (fun K hK => ?_) (AllReadyH.cons rfl (fun K hK => ?_) AllReadyH.nil)
        · clear HU hU0 hub U0 ub
          go_simp
          refine (HAD.out V5.drew (H0.out)).mono ?_
          rintro e V6 ⟨ba, bn, bc, rfl, hnw, hb6⟩
          refine hK.out _ _ ((HK.out V6 ((H0.out).trans (hb6.mono (H0.out).size))).1) (fun hHeld => ?_)
          clear hK K
          try simp only [Act.put, List.setIfInBounds_toArray, List.set_cons_zero, List.set_cons_succ]
          have H6 : Hid (Below V5.heap.size V5 V6 ∧ Nw V5.drew.heap.size V6 ba bn bc r1.ents ∧ Below V5.drew.heap.size V5.drew V6) := ⟨(H0.out).trans (hb6.mono (H0.out).size), hnw, hb6⟩
          clear hnw hb6
          refine wpAnyH_take (i := 6) (v := ?vb_6) rfl (by kernel_rfl) (by kernel_rfl) (by kernel_rfl) (fun _ _ _ h => h) (Or.inl ⟨by first | kernel_rfl | rfl, ?yb_6⟩) hHeld ?rb_6
          case yb_6 => (intro W hSW; (try dsimp only at hSW); go_simp; (try with_reducible rfl))
          change wpAnyH _ _ _ _ _ _ _ (Act.put _ (some 36) _) _
          simp only [Act.put, List.setIfInBounds_toArray, List.set_cons_zero, List.set_cons_succ]
          refine wpAnyH_take (i := 7) (v := ?vb_7) rfl (by kernel_rfl) (by kernel_rfl) (by kernel_rfl) (fun _ _ _ h => h) (Or.inl ⟨by first | kernel_rfl | rfl, ?yb_7⟩) hHeld ?rb_7
          case yb_7 => (intro W hSW; (try dsimp only at hSW); go_simp; (try with_reducible rfl))
          change wpAnyH _ _ _ _ _ _ _ (Act.put _ (some 43) _) _
          simp only [Act.put, List.setIfInBounds_toArray, List.set_cons_zero, List.set_cons_succ]
          refine wpAnyH_take (i := 8) (v := ?vb_8) rfl (by kernel_rfl) (by kernel_rfl) (by kernel_rfl) (fun _ _ _ h => h) (Or.inl ⟨by first | kernel_rfl | rfl, ?yb_8⟩) hHeld ?rb_8
          case yb_8 => (intro W hSW; (try dsimp only at hSW); go_simp; (try with_reducible rfl))
          change wpAnyH _ _ _ _ _ _ _ (Act.put _ (some 44) _) _
          simp only [Act.put, List.setIfInBounds_toArray, List.set_cons_zero, List.set_cons_succ]
          obtain ⟨ub, hub⟩ : ∃ ub, V6.heap.size = ub := ⟨_, rfl⟩
          obtain ⟨U0, hU0⟩ : ∃ U0, V6.alloc (.cells #[.string ⟨#[]⟩, .int .i64 0, .slice none 0 0] 27) = U0 := ⟨_, rfl⟩
          have ru : U0.heap[ub]? = some (.cells #[.string ⟨#[]⟩, .int .i64 0, .slice none 0 0] 27 (0, 0)) := by rw [← hU0, ← hub]; exact heap_alloc_new _ _
          have HU : Hid (Below V5.heap.size V5 U0 ∧ V5.heap.size ≤ ub ∧ U0.heap[ub]? = some (.cells #[.string ⟨#[]⟩, .int .i64 0, .slice none 0 0] 27 (0, 0)) ∧ V6.heap.size = ub ∧ Below V6.heap.size V6 U0) := ⟨by rw [← hU0]; exact (H6.out.1).alloc (H6.out.1).size _, by rw [← hub]; exact (H6.out.1).size, ru, hub, by rw [← hU0]; exact (Below.refl _ _).alloc (Nat.le_refl _) _⟩
          clear ru
          refine wpAnyH_ready (rs := [9]) (by kernel_rfl) (by simp) ?_
          refine AllReadyH.cons rfl (fun K hK => ?_) AllReadyH.nil
          go_simp
          refine hK.out _ _ ((HK.out U0 HU.out.1).1) (fun hHeld => ?_)
          clear hK K
          try simp only [Act.put, List.setIfInBounds_toArray, List.set_cons_zero, List.set_cons_succ]
          have rub := HU.out.2.2.1
          obtain ⟨v0, v1, v2, vz⟩ := row3 rub
          have vf0 := vz 0
          have vf1 := vz 1
          have vf2 := vz 2
          obtain ⟨W7, hW7⟩ : ∃ W7, ((U0.setCell ⟨ub, 0, none⟩ (.string r1.anchor)).setCell ⟨ub, 1, none⟩ (.int .i64 r1.last)).setCell ⟨ub, 2, none⟩ (.slice ba bn bc) = W7 := ⟨_, rfl⟩
          have HE : Hid (BxTo 27 V5 (r1, r2) (.pointer (some ⟨ub, 0, none⟩)) (.int .i64 (r2 : Int)) W7) := by
            rw [← hW7]
            exact BxTo.fill (t := 27) (V := V5) (r := (r1, r2)) rub (HU.out.1) HU.out.2.1 (Rw.keep (w := V6) (G := fun x => V5.heap.size ≤ x ∧ x < V6.heap.size) (Rw.mono H6.out.2.1 (fun x hx h9 => ⟨hx, h9⟩)) HU.out.2.2.2.2.size (fun b _ hb => HU.out.2.2.2.2.block b hb)) (fun x hx => ⟨hx.1, by have := HU.out.2.2.2.1; omega⟩)
          have HK7 : Hid ((W7.cell? ⟨ab, 0, none⟩ = some (.string k0) ∧ W7.cell? ⟨ab, 1, none⟩ = some (.int .i64 (an : Int)) ∧ W7.cell? ⟨ab, 2, none⟩ = some (.slice xa xn xc)) ∧ (W7.cell? ⟨lb, lo + i * 5, none⟩ = some (.int .i64 e0) ∧ W7.cell? ⟨lb, lo + i * 5 + 1, none⟩ = some (.int .i64 e1) ∧ W7.cell? ⟨lb, lo + i * 5 + 2, none⟩ = some (.int .i64 e2) ∧ W7.cell? ⟨lb, lo + i * 5 + 3, none⟩ = some (.string e3) ∧ W7.cell? ⟨lb, lo + i * 5 + 4, none⟩ = some (.int .i64 e4))) := (HK.out W7 (by obtain ⟨_, _, _, _, _, _, _, _, h9, _⟩ := HE.out; exact h9)).1
          clear rub vz
          refine wpAnyH_ready (rs := [10]) (by kernel_rfl) (by simp) ?_
          refine AllReadyH.cons rfl (fun K hK => ?_) AllReadyH.nil
          go_simp
          refine hK.out _ _ (HK7.out) (fun hHeld => ?_)
          clear hK K
          refine wpAnyH_take (i := 11) (v := ?vb_11) rfl (by kernel_rfl) (by kernel_rfl) (by kernel_rfl) (fun _ _ _ h => h) (Or.inl ⟨by first | kernel_rfl | rfl, ?yb_11⟩) hHeld ?rb_11
          case yb_11 => (intro W hSW; (try dsimp only at hSW); go_simp; (try with_reducible rfl))
          change wpAnyH _ _ _ _ _ _ _ (Act.put _ (some 8) _) _
          simp only [Act.put, List.setIfInBounds_toArray, List.set_cons_zero, List.set_cons_succ]
          refine wpAnyH_done (by kernel_rfl) ?_ _
          go_wp2_with fail
          go_meet
          case rel => exact HE.out
        · go_simp
          refine hK.out _ _ ((HK.out U0 HU.out.1).1) (fun hHeld => ?_)
          clear hK K
          try simp only [Act.put, List.setIfInBounds_toArray, List.set_cons_zero, List.set_cons_succ]
          refine wpAnyH_ready (rs := [5]) (by kernel_rfl) (by simp) ?_
          refine AllReadyH.cons rfl (fun K hK => ?_) AllReadyH.nil
          go_simp
          refine (HAD.out U0 (HU.out.1)).mono ?_
          rintro e V6 ⟨ba, bn, bc, rfl, hnw, hb6⟩
          refine hK.out _ _ ((HK.out V6 ((HU.out.1).trans (hb6.mono (HU.out.1).size))).1) (fun hHeld => ?_)
          clear hK K
          try simp only [Act.put, List.setIfInBounds_toArray, List.set_cons_zero, List.set_cons_succ]
          have H6 : Hid (Below V5.heap.size V5 V6 ∧ Nw U0.heap.size V6 ba bn bc r1.ents ∧ Below U0.heap.size U0 V6) := ⟨(HU.out.1).trans (hb6.mono (HU.out.1).size), hnw, hb6⟩
          clear hnw hb6
          refine wpAnyH_take (i := 6) (v := ?ve_6) rfl (by kernel_rfl) (by kernel_rfl) (by kernel_rfl) (fun _ _ _ h => h) (Or.inl ⟨by first | kernel_rfl | rfl, ?ye_6⟩) hHeld ?re_6
          case ye_6 => (intro W hSW; (try dsimp only at hSW); go_simp; (try with_reducible rfl))
          change wpAnyH _ _ _ _ _ _ _ (Act.put _ (some 36) _) _
          simp only [Act.put, List.setIfInBounds_toArray, List.set_cons_zero, List.set_cons_succ]
          refine wpAnyH_take (i := 7) (v := ?ve_7) rfl (by kernel_rfl) (by kernel_rfl) (by kernel_rfl) (fun _ _ _ h => h) (Or.inl ⟨by first | kernel_rfl | rfl, ?ye_7⟩) hHeld ?re_7
          case ye_7 => (intro W hSW; (try dsimp only at hSW); go_simp; (try with_reducible rfl))
          change wpAnyH _ _ _ _ _ _ _ (Act.put _ (some 43) _) _
          simp only [Act.put, List.setIfInBounds_toArray, List.set_cons_zero, List.set_cons_succ]
          refine wpAnyH_take (i := 8) (v := ?ve_8) rfl (by kernel_rfl) (by kernel_rfl) (by kernel_rfl) (fun _ _ _ h => h) (Or.inl ⟨by first | kernel_rfl | rfl, ?ye_8⟩) hHeld ?re_8
          case ye_8 => (intro W hSW; (try dsimp only at hSW); go_simp; (try with_reducible rfl))
          change wpAnyH _ _ _ _ _ _ _ (Act.put _ (some 44) _) _
          simp only [Act.put, List.setIfInBounds_toArray, List.set_cons_zero, List.set_cons_succ]
          have rub := (H6.out.2.2.block ub (lt_of_some HU.out.2.2.1)).trans HU.out.2.2.1
          obtain ⟨v0, v1, v2, vz⟩ := row3 rub
          have vf0 := vz 0
          have vf1 := vz 1
          have vf2 := vz 2
          obtain ⟨W7, hW7⟩ : ∃ W7, ((V6.setCell ⟨ub, 0, none⟩ (.string r1.anchor)).setCell ⟨ub, 1, none⟩ (.int .i64 r1.last)).setCell ⟨ub, 2, none⟩ (.slice ba bn bc) = W7 := ⟨_, rfl⟩
          have HE : Hid (BxTo 27 V5 (r1, r2) (.pointer (some ⟨ub, 0, none⟩)) (.int .i64 (r2 : Int)) W7) := by
            rw [← hW7]
            exact BxTo.fill (t := 27) (V := V5) (r := (r1, r2)) rub (H6.out.1) HU.out.2.1 (H6.out.2.1) (fun x hx => ⟨Nat.le_trans HU.out.1.size hx, by have := lt_of_some HU.out.2.2.1; omega⟩)
          have HK7 : Hid ((W7.cell? ⟨ab, 0, none⟩ = some (.string k0) ∧ W7.cell? ⟨ab, 1, none⟩ = some (.int .i64 (an : Int)) ∧ W7.cell? ⟨ab, 2, none⟩ = some (.slice xa xn xc)) ∧ (W7.cell? ⟨lb, lo + i * 5, none⟩ = some (.int .i64 e0) ∧ W7.cell? ⟨lb, lo + i * 5 + 1, none⟩ = some (.int .i64 e1) ∧ W7.cell? ⟨lb, lo + i * 5 + 2, none⟩ = some (.int .i64 e2) ∧ W7.cell? ⟨lb, lo + i * 5 + 3, none⟩ = some (.string e3) ∧ W7.cell? ⟨lb, lo + i * 5 + 4, none⟩ = some (.int .i64 e4))) := (HK.out W7 (by obtain ⟨_, _, _, _, _, _, _, _, h9, _⟩ := HE.out; exact h9)).1
          clear rub vz
          refine wpAnyH_ready (rs := [10]) (by kernel_rfl) (by simp) ?_
          refine AllReadyH.cons rfl (fun K hK => ?_) AllReadyH.nil
          go_simp
          refine hK.out _ _ (HK7.out) (fun hHeld => ?_)
          clear hK K
          refine wpAnyH_take (i := 11) (v := ?ve_11) rfl (by kernel_rfl) (by kernel_rfl) (by kernel_rfl) (fun _ _ _ h => h) (Or.inl ⟨by first | kernel_rfl | rfl, ?ye_11⟩) hHeld ?re_11
          case ye_11 => (intro W hSW; (try dsimp only at hSW); go_simp; (try with_reducible rfl))
          change wpAnyH _ _ _ _ _ _ _ (Act.put _ (some 8) _) _
          simp only [Act.put, List.setIfInBounds_toArray, List.set_cons_zero, List.set_cons_succ]
          refine wpAnyH_done (by kernel_rfl) ?_ _
          go_wp2_with fail
          go_meet
          case rel => exact HE.out
      case rest =>
      obtain ⟨bb, ba, bn, bc, rfl, rfl, hrb, hnw, hbc, hbb⟩ := hcut
      simp only at hrb hnw
      clear d0 d1 d2 d3 d4 s0 sf
      have re := (hbc.block eb (lt_of_some H5.out.2.1)).trans H5.out.2.1
      obtain ⟨g0, g1, g2, g3, g4, _⟩ := row5 re
      have HGD := rgood_any ⟨(an : Int) + 1, e1, e2, e3, e4⟩ wc
      simp only at HGD
      unfold YeTo at HGD
      have hplyc := H5.out.1.below hbc
      have HC : Hid (Below V5.heap.size V5 wc ∧ Nw V5.heap.size wc ba bn bc r1.ents ∧ wc.heap[bb]? = some (.cells #[.string r1.anchor, .int .i64 r1.last, .slice ba bn bc] 27 (0, 0)) ∧ V5.heap.size ≤ bb ∧ Ply w B ab K al an ac wc ∧ wc.heap[eb]? = some (.cells #[.int .i64 ((an : Int) + 1), .int .i64 e1, .int .i64 e2, .string e3, .int .i64 e4] 36 (0, 0))) := ⟨hbc, hnw, hrb, hbb, hplyc, re⟩
      clear hrb hnw hbc hbb re hplyc
      cases hok : (⟨(an : Int) + 1, e1, e2, e3, e4⟩ : En).ok with
      | false =>
        rw [hok] at HGD
        have hno := HC.out.2.2.2.2.1.not ⟨e0, e1, e2, e3, e4⟩ hok
        rw [H5.out.2.2.1] at hno
        obtain ⟨hz1, hz2⟩ := Prod.mk.inj hno
        subst hz2
        clear hno hz1 hok
        go_wp2_with fail
        refine HGD.mono ?_
        rintro e V8 ⟨rfl, hb8⟩
        have HE : Hid (Ply w B ab K al an ac V8 ∧ B ≤ V8.heap.size) := ⟨HC.out.2.2.2.2.1.below hb8, by have := HBS.out; have := H5.out.2.2.2; have := lt_of_some H5.out.2.1; have := HC.out.1.size; have := hb8.size; omega⟩
        clear HGD hb8 g0 g1 g2 g3 g4
        go_wp2
        exact ⟨⟨i + 1, K, al, an, ac, by omega, by omega, by omega, by go_num, rfl, HE.out⟩, by simp [intOf]; omega⟩
      | true =>
        rw [hok] at HGD
        have hyes := HC.out.2.2.2.2.1.add (by omega) ⟨e0, e1, e2, e3, e4⟩ hok
        rw [H5.out.2.2.1] at hyes
        obtain ⟨hz1, hz2⟩ := Prod.mk.inj hyes
        subst hz2
        obtain ⟨KK, hKK⟩ : ∃ x, K ++ [En.at ⟨e0, e1, e2, e3, e4⟩ ((an : Int) + 1)] = x := ⟨_, rfl⟩
        rw [hKK] at hz1
        subst hz1
        have HOK : Hid ((En.at ⟨e0, e1, e2, e3, e4⟩ ((an : Int) + 1)).ok = true ∧ K ++ [En.at ⟨e0, e1, e2, e3, e4⟩ ((an : Int) + 1)] = KK) := ⟨hok, hKK⟩
        clear hyes hok hKK
        go_wp2_with fail
        refine HGD.mono ?_
        rintro e V8 ⟨rfl, hb8⟩
        clear g0 g1 g2 g3 g4
        have re8 := (hb8.block eb (lt_of_some HC.out.2.2.2.2.2)).trans HC.out.2.2.2.2.2
        obtain ⟨g0, g1, g2, g3, g4, _⟩ := row5 re8
        have hply8 := HC.out.2.2.2.2.1.below hb8
        obtain ⟨V9, hV9, r9, hb9⟩ := box_en (w := V8) ((an : Int) + 1) e1 e2 e3 e4
        obtain ⟨g9, hg9⟩ : ∃ x, V8.heap.size = x := ⟨_, rfl⟩
        rw [hg9] at r9
        have hply9 := hply8.below hb9
        have ho9 := hply9.1
        have hB9 : B ≤ V9.heap.size := by have := HBS.out; have := H5.out.2.2.2; have := lt_of_some H5.out.2.1; have := HC.out.1.size; have := hb8.size; have := hb9.size; omega
        obtain ⟨aA, cA, VA, hrA, hoA, hgA, hoB⟩ := addE_own V9 ho9 (enRow (p := ⟨(an : Int) + 1, e1, e2, e3, e4⟩) r9) (by omega) hB9
        obtain ⟨an1, han1⟩ : ∃ x, an + 1 = x := ⟨_, rfl⟩
        rw [han1] at hrA hoA
        have hb59 : Below V5.heap.size V5 V9 := (HC.out.1.trans (hb8.mono HC.out.1.size)).trans (hb9.mono (Nat.le_trans HC.out.1.size hb8.size))
        have halt : ∀ j, ob al = some j → B ≤ j ∧ j < V5.heap.size := fun j hj => H5.out.1.1.lt j (by rw [ob_slice]; exact hj)
        have hkeep : ∀ j, j < V9.heap.size → ob al ≠ some j → VA.heap[j]? = V9.heap[j]? := fun j hj hne => hgA.block j hj (fun h => hne h.symm)
        have hb19 : Below wc.heap.size wc V9 := hb8.trans (hb9.mono hb8.size)
        have rbA : VA.heap[bb]? = some (.cells #[.string (ofA KK).anchor, .int .i64 (ofA KK).last, .slice ba bn bc] 27 (0, 0)) := (hkeep bb (Nat.lt_of_lt_of_le (lt_of_some HC.out.2.2.1) hb19.size) (fun h => by have := halt bb h; have := HC.out.2.2.2.1; omega)).trans ((hb19.block bb (lt_of_some HC.out.2.2.1)).trans HC.out.2.2.1)
        have rrA : Rw (fun x => V5.heap.size ≤ x ∧ ob aA ≠ some x) VA 36 5 ba bn bc (enR (ofA KK).ents) := by
          have h1 : Rw (fun x => V5.heap.size ≤ x ∧ x < wc.heap.size) wc 36 5 ba bn bc (enR (ofA KK).ents) := Rw.mono HC.out.2.1 (fun x hx hl => ⟨hx, hl⟩)
          have h2 := h1.below hb19
          have h3 := Rw.keep h2 hgA.size (fun b hb hl => hkeep b hl (fun h => by have := halt b h; omega))
          refine Rw.mono h3 (fun x hx _ => ⟨hx.1, fun h => ?_⟩)
          rcases hoB with h9 | h9
          · rw [h9] at h; have := halt x h; omega
          · rw [h9] at h; have := Option.some.inj h; have := hb19.size; omega
        obtain ⟨xa9, xn9, xc9, ra9, _⟩ := hply9.2.2.2.1
        have raA := (hkeep ab (lt_of_some ra9) (fun h => by have := halt ab h; have := HAB.out; omega)).trans ra9
        have hBA : Below w.heap.size w VA := hply9.2.2.2.2.grown hgA hply9.2.2.2.2.size (fun j hj => by have := halt j hj; have := HAB.out; omega)
        obtain ⟨u0, u1, u2, _⟩ := row3 rbA
        obtain ⟨kA, hkA⟩ : ∃ x, (ofA KK).anchor = x := ⟨_, rfl⟩
        have hKl : KK.length = an1 := by have := (Ew.own hoA).len; rw [← HOK.out.2, ← han1, List.length_append, HC.out.2.2.2.2.1.len]; rfl
        have hlA : (ofA KK).last = (an1 : Int) := by rw [← hKl]; rfl
        rw [hkA] at u0
        rw [hlA] at u1
        have hKok : ∀ e ∈ numE KK, e.ok = true := by
          have h1 : numE KK = KK := by
            rw [← HOK.out.2]
            have h9 := num_next HC.out.2.2.2.2.1.2.1 ⟨e0, e1, e2, e3, e4⟩
            rw [HC.out.2.2.2.2.1.len] at h9
            exact h9
          rw [h1, ← HOK.out.2]
          intro x hx
          rcases List.mem_append.1 hx with hx | hx
          · exact HC.out.2.2.2.2.1.2.2.1 x hx
          · rw [List.mem_singleton.1 hx]; exact HOK.out.1
        have hoA2 : VA.ownsRow B 36 5 (.slice aA an1 cA) an1 (enR KK) := by rw [← HOK.out.2]; exact hoA
        have HTH : Hid (∀ W, Calls Tryd.prog 13 #[.agg #[.string kA, .int .i64 (an1 : Int), .slice ba bn bc]] W fun e w' => e = .returned (.agg #[.string kA, .int .i64 (an1 : Int), .slice ba bn bc]) ∧ Below W.heap.size W w') := fun W => theirs_any kA (an1 : Int) ba bn bc
        have HOF : Hid (∀ W, Below VA.heap.size VA W → Calls Tryd.prog 14 #[.slice aA an1 cA] W fun e w' => ∃ (a : Option Addr) (n c : Nat), e = .returned (.agg #[.string kA, .int .i64 (an1 : Int), .slice a n c]) ∧ Nw W.heap.size w' a n c (ofA KK).ents ∧ Below W.heap.size W w') := fun W hW => by
          have h9 := rof_any ((Ew.own hoA2).below hW) (by omega) hKok
          unfold OfTo at h9
          rw [hkA, hlA] at h9
          exact h9
        have HA : Hid (Rw (fun x => V5.heap.size ≤ x ∧ ob aA ≠ some x) VA 36 5 ba bn bc (enR (ofA KK).ents) ∧ VA.ownsRow B 36 5 (.slice aA an1 cA) an1 (enR KK) ∧ VA.heap[ab]? = some (.cells #[.string (ofA K).anchor, .int .i64 (an : Int), .slice xa9 xn9 xc9] 27 (0, 0)) ∧ VA.heap[bb]? = some (.cells #[.string (ofA KK).anchor, .int .i64 (ofA KK).last, .slice ba bn bc] 27 (0, 0)) ∧ Below w.heap.size w VA ∧ an + 1 = an1 ∧ (ofA KK).anchor = kA ∧ (ofA KK).last = (an1 : Int)) := ⟨rrA, hoA2, raA, rbA, hBA, han1, hkA, hlA⟩
        have HBA : Hid (B ≤ VA.heap.size) := Nat.le_trans hB9 hgA.size
        have HTA := HTH.out VA
        clear HGD hb8 re8 hply8 r9 hb9 hply9 ho9 hB9 hoA hgA hoB hb59 halt hkeep hb19 rbA rrA ra9 raA hBA hkA hKl hlA hKok hoA2 han1
        go_wp2_with (first | (at_builtin; refine wpList_app V9 rfl _ _ _ _ rfl rfl rfl (hrA _) ?_))
        clear hrA g0 g1 g2 g3 g4
        refine HTA.mono ?_
        rintro e VB ⟨rfl, hbB⟩
        have HOB := HOF.out VB hbB
        have HB1 : Hid (Below VA.heap.size VA VB) := hbB
        clear HTA hbB u0 u1 u2
        go_wp2_with fail
        refine HOB.mono ?_
        rintro e VC ⟨oa, on, oc, rfl, hno, hbC⟩
        have hBC : Below VA.heap.size VA VC := HB1.out.trans (hbC.mono HB1.out.size)
        have HSA := same_au kA (an1 : Int) kA (an1 : Int) (Ew.below (Rw.mono HA.out.1 (fun _ _ _ => trivial)) hBC) hno.ew
        rw [sameA_self] at HSA
        unfold YeTo at HSA
        have HC1 : Hid (Below VA.heap.size VA VC) := hBC
        clear HOB hbC hBC hno
        go_wp2_with fail
        refine HSA.mono ?_
        rintro e VD ⟨rfl, hbD⟩
        have hBD : Below VA.heap.size VA VD := HC1.out.trans (hbD.mono HC1.out.size)
        have rbD := (hBD.block bb (lt_of_some HA.out.2.2.2.1)).trans HA.out.2.2.2.1
        rw [HA.out.2.2.2.2.2.2.1, HA.out.2.2.2.2.2.2.2] at rbD
        obtain ⟨u0, u1, u2, _⟩ := row3 rbD
        have raD := (hBD.block ab (lt_of_some HA.out.2.2.1)).trans HA.out.2.2.1
        obtain ⟨t0, t1, t2, tz⟩ := row3 raD
        have tf0 := tz 0
        have tf1 := tz 1
        have tf2 := tz 2
        obtain ⟨kO, hkO⟩ : ∃ x, (ofA K).anchor = x := ⟨_, rfl⟩
        rw [hkO] at t0
        obtain ⟨W5, hW5⟩ : ∃ x, ((VD.setCell ⟨ab, 0, none⟩ (.string kA)).setCell ⟨ab, 1, none⟩ (.int .i64 (an1 : Int))).setCell ⟨ab, 2, none⟩ (.slice ba bn bc) = x := ⟨_, rfl⟩
        have HE : Hid (Ply w B ab KK aA an1 cA W5 ∧ B ≤ W5.heap.size) := by
          refine ⟨?_, by rw [← hW5]; exact Nat.le_trans HBA.out (Nat.le_trans hBD.size (below3s (Below.refl 0 VD) (Nat.zero_le ab) _ _ _).size)⟩
          show Ply w B ab KK aA an1 cA W5
          have hoD : VD.ownsRow B 36 5 (.slice aA an1 cA) an1 (enR KK) := own_keep HA.out.2.1 (fun j hj => hBD.block j (HA.out.2.1.lt j hj).2)
          have hrD := HA.out.1.below hBD
          rw [← HOK.out.2, ← HA.out.2.2.2.2.2.1] at hoD ⊢
          rw [← HOK.out.2] at hrD
          have hvb : ab < V5.heap.size := by obtain ⟨_, _, _, h9, _⟩ := H5.out.1.2.2.2.1; exact lt_of_some h9
          refine Ply.on H5.out.1 HAB.out.1 HAB.out.2 hoD HOK.out.1 hrD hvb raD (HA.out.2.2.2.2.1.trans (hBD.mono HA.out.2.2.2.2.1.size)) ?_
          rw [HOK.out.2, HA.out.2.2.2.2.2.2.1, HA.out.2.2.2.2.2.1]
          exact hW5
        have HAN : Hid (an + 1 = an1) := HA.out.2.2.2.2.2.1
        clear HSA hbD hBD rbD raD tz hkO
        go_wp2
        exact ⟨⟨i + 1, KK, aA, an1, cA, by omega, by omega, by have := HAN.out; omega, by go_num, rfl, HE.out⟩, by simp [intOf]; omega⟩
    · have k30 : ¬ (i : Int) < 30 := by omega
      obtain ⟨_, hnum, hKok, ⟨xa, xn, xc, hbx, hrx⟩, hBw⟩ := hply
      have hply : Ply w B ab K al an ac wr := ⟨hown, hnum, hKok, ⟨xa, xn, xc, hbx, hrx⟩, hBw⟩
      obtain ⟨k0, hk0⟩ : ∃ k, (ofA K).anchor = k := ⟨_, rfl⟩
      have hdig := hply.dig (by omega)
      obtain ⟨D, hD⟩ : ∃ D, strOf (chA zeros32 K) = D := ⟨_, rfl⟩
      have HDG : Hid (∀ W, Below wr.heap.size wr W → Calls Tryd.prog 20 #[.agg #[.string k0, .int .i64 (an : Int), .slice xa xn xc]] W fun e w' => e = .returned (.string D) ∧ Below W.heap.size W w') := fun W hW => by
        have h9 := adig_any (ofA K).anchor (an : Int) (Rw.mono (hrx.below hW) (fun _ _ _ => trivial)) (HLW.out W (hBw.trans (hW.mono hBw.size)))
        rw [hdig] at h9
        unfold StTo at h9
        rw [hD, hk0] at h9
        exact h9
      have HCH : Hid (∀ W, Below wr.heap.size wr W → Calls Tryd.prog 21 #[.string Z, .slice al an ac] W fun e w' => e = .returned (.string D) ∧ Below W.heap.size W w') := fun W hW => by
        have h9 := rch_any Z W ((Ew.own hown).below hW) (by omega) (by rw [← HZZ.out]; decide) hKok
        rw [show Z.data.toList = zeros32 by rw [← HZZ.out]; rfl] at h9
        unfold StTo at h9
        rw [hD] at h9
        exact h9
      rw [hk0] at hbx
      have HS : Hid (∀ W, Below wr.heap.size wr W → (W.cell? ⟨ab, 0, none⟩ = some (.string k0) ∧ W.cell? ⟨ab, 1, none⟩ = some (.int .i64 (an : Int)) ∧ W.cell? ⟨ab, 2, none⟩ = some (.slice xa xn xc)) ∧ Below w.heap.size w W) := fun W hW => by
        obtain ⟨g0, g1, g2, _⟩ := row3 ((hW.block ab (lt_of_some hbx)).trans hbx)
        exact ⟨⟨g0, g1, g2⟩, hBw.trans (hW.mono hBw.size)⟩
      have HC32 : Hid (∀ (W : World) (g : Nat), W.heap[g]? = some (.cells zr32 5 (0, 0)) → (convert 45 9 (.slice (some ⟨g, 0, none⟩) 32 32)).run Tryd.prog W = .ok (.string Z) W) := fun W g h => by rw [← HZZ.out]; exact conv32 h
      have hdd : (D.toList == D.toList) = true := by simp
      clear hply hown hnum hKok hbx hrx hBw hk0 hdig hD
      go_wp2
      refine wp_region_held_drew (S := fun W => (W.cell? ⟨ab, 0, none⟩ = some (.string k0) ∧ W.cell? ⟨ab, 1, none⟩ = some (.int .i64 (an : Int)) ∧ W.cell? ⟨ab, 2, none⟩ = some (.slice xa xn xc))) (by kernel_rfl) ((HS.out wr.drew (Below.refl _ wr).drew).1) (fun hHeld => ?_)
      refine wpAnyH_take (i := 0) (v := ?vga_0) rfl (by kernel_rfl) (by kernel_rfl) (by kernel_rfl) (fun _ _ _ h => h) (Or.inl ⟨by first | kernel_rfl | rfl, ?yga_0⟩) hHeld ?rga_0
      case yga_0 => (intro W hSW; (try dsimp only at hSW); go_simp; (try with_reducible rfl))
      change wpAnyH _ _ _ _ _ _ _ (Act.put _ (some 65) _) _
      simp only [Act.put, List.setIfInBounds_toArray, List.set_cons_zero, List.set_cons_succ]
      refine wpAnyH_take (i := 4) (v := ?vga_4) rfl (by kernel_rfl) (by kernel_rfl) (by kernel_rfl) (fun _ _ _ h => h) (Or.inl ⟨by first | kernel_rfl | rfl, ?yga_4⟩) hHeld ?rga_4
      case yga_4 => (intro W hSW; (try dsimp only at hSW); go_simp; (try with_reducible rfl))
      change wpAnyH _ _ _ _ _ _ _ (Act.put _ (some 69) _) _
      simp only [Act.put, List.setIfInBounds_toArray, List.set_cons_zero, List.set_cons_succ]
      have HY0 : Hid (Below wr.heap.size wr wr.drew) := (Below.refl _ wr).drew
      obtain ⟨mb, hmb⟩ : ∃ mb, wr.drew.heap.size = mb := ⟨_, rfl⟩
      obtain ⟨X3, hX3⟩ : ∃ X, wr.drew.alloc (.cells zr32 5) = X := ⟨_, rfl⟩
      have hmk : (Instr.makeSlice 45 (.int .i64 32) (.int .i64 32)).run Tryd.prog wr.drew = .ok (.slice (some ⟨mb, 0, none⟩) 32 32) X3 := by rw [← hmb, ← hX3]; exact make32 wr.drew
      refine wpAnyH_ready (rs := [1, 2]) (by kernel_rfl) (by simp) ?_
      refine AllReadyH.cons rfl (fun K hK => ?_) (AllReadyH.cons rfl (fun K hK => ?_) AllReadyH.nil)
      · clear hmk hX3 hmb X3 mb
        go_simp
        refine (HDG.out wr.drew HY0.out).mono ?_
        rintro e Y1 ⟨rfl, hbY1⟩
        refine hK.out _ _ ((HS.out Y1 (HY0.out.trans hbY1)).1) (fun hHeld => ?_)
        clear hK K
        try simp only [Act.put, List.setIfInBounds_toArray, List.set_cons_zero, List.set_cons_succ]
        have HY1 : Hid (Below wr.heap.size wr Y1) := HY0.out.trans hbY1
        clear hbY1
        obtain ⟨mb, hmb⟩ : ∃ mb, Y1.heap.size = mb := ⟨_, rfl⟩
        obtain ⟨X4, hX4⟩ : ∃ X, Y1.alloc (.cells zr32 5) = X := ⟨_, rfl⟩
        have hmk : (Instr.makeSlice 45 (.int .i64 32) (.int .i64 32)).run Tryd.prog Y1 = .ok (.slice (some ⟨mb, 0, none⟩) 32 32) X4 := by rw [← hmb, ← hX4]; exact make32 Y1
        refine wpAnyH_ready (rs := [2]) (by kernel_rfl) (by simp) ?_
        refine AllReadyH.cons rfl (fun K hK => ?_) AllReadyH.nil
        go_simp
        refine hK.out _ _ (by rw [← hX4]; exact (HS.out _ (HY1.out.alloc HY1.out.size _)).1) (fun hHeld => ?_)
        clear hK K
        try simp only [Act.put, List.setIfInBounds_toArray, List.set_cons_zero, List.set_cons_succ]
        have rX4 : X4.heap[mb]? = some (.cells zr32 5 (0, 0)) := by rw [← hX4, ← hmb]; exact heap_alloc_new _ _
        have HX4 : Hid (Below wr.heap.size wr X4) := by rw [← hX4]; exact (HY1.out).alloc ((HY1.out).size) _
        have HM : Hid (∀ W, Below X4.heap.size X4 W → (W.cell? ⟨ab, 0, none⟩ = some (.string k0) ∧ W.cell? ⟨ab, 1, none⟩ = some (.int .i64 (an : Int)) ∧ W.cell? ⟨ab, 2, none⟩ = some (.slice xa xn xc)) ∧ (convert 45 9 (.slice (some ⟨mb, 0, none⟩) 32 32)).run Tryd.prog W = .ok (.string Z) W) := fun W hW => ⟨(HS.out W (HX4.out.trans (hW.mono HX4.out.size))).1, HC32.out W mb ((hW.block mb (lt_of_some rX4)).trans rX4)⟩
        refine wpAnyH_strengthen (S' := fun W => (W.cell? ⟨ab, 0, none⟩ = some (.string k0) ∧ W.cell? ⟨ab, 1, none⟩ = some (.int .i64 (an : Int)) ∧ W.cell? ⟨ab, 2, none⟩ = some (.slice xa xn xc)) ∧ (convert 45 9 (.slice (some ⟨mb, 0, none⟩) 32 32)).run Tryd.prog W = .ok (.string Z) W) (fun W h => h.1) ?_
        have hHeld : (fun W => (W.cell? ⟨ab, 0, none⟩ = some (.string k0) ∧ W.cell? ⟨ab, 1, none⟩ = some (.int .i64 (an : Int)) ∧ W.cell? ⟨ab, 2, none⟩ = some (.slice xa xn xc)) ∧ (convert 45 9 (.slice (some ⟨mb, 0, none⟩) 32 32)).run Tryd.prog W = .ok (.string Z) W) X4 := HM.out X4 (Below.refl _ _)
        refine wpAnyH_take (i := 3) (v := ?vgb_3) rfl (by kernel_rfl) (by kernel_rfl) (by kernel_rfl) (fun _ _ _ h => h) (Or.inl ⟨by first | kernel_rfl | rfl, ?ygb_3⟩) hHeld ?rgb_3
        case ygb_3 => (intro W hSW; (try dsimp only at hSW); go_simp; (try with_reducible rfl))
        change wpAnyH _ _ _ _ _ _ _ (Act.put _ (some 68) _) _
        simp only [Act.put, List.setIfInBounds_toArray, List.set_cons_zero, List.set_cons_succ]
        have HXV : Hid (Below X4.heap.size X4 X4) := Below.refl _ _
        refine wpAnyH_ready (rs := [5]) (by kernel_rfl) (by simp) ?_
        refine AllReadyH.cons rfl (fun K hK => ?_) AllReadyH.nil
        go_simp
        refine (HCH.out X4 HX4.out).mono ?_
        rintro e Y5 ⟨rfl, hbY5⟩
        refine hK.out _ _ (HM.out Y5 (HXV.out.trans (hbY5.mono HXV.out.size))) (fun hHeld => ?_)
        clear hK K
        try simp only [Act.put, List.setIfInBounds_toArray, List.set_cons_zero, List.set_cons_succ]
        have HY5 : Hid (Below wr.heap.size wr Y5) := HX4.out.trans (hbY5.mono HX4.out.size)
        have HXW : Hid (Below X4.heap.size X4 Y5) := HXV.out.trans (hbY5.mono HXV.out.size)
        clear hbY5
        refine wpAnyH_take (i := 6) (v := ?vgb_6) rfl (by kernel_rfl) (by kernel_rfl) (by kernel_rfl) (fun _ _ _ h => h) (Or.inl ⟨by first | kernel_rfl | rfl, ?ygb_6⟩) hHeld ?rgb_6
        case ygb_6 => (intro W hSW; (try dsimp only at hSW); go_simp; (try with_reducible rfl))
        change wpAnyH _ _ _ _ _ _ _ (Act.put _ (some 71) _) _
        simp only [Act.put, List.setIfInBounds_toArray, List.set_cons_zero, List.set_cons_succ]
        refine wpAnyH_take (i := 7) (v := ?vgb_7) rfl (by kernel_rfl) (by kernel_rfl) (by kernel_rfl) (fun _ _ _ h => h) (Or.inl ⟨by first | kernel_rfl | rfl, ?ygb_7⟩) hHeld ?rgb_7
        case ygb_7 => (intro W hSW; (try dsimp only at hSW); go_simp; (try with_reducible rfl))
        change wpAnyH _ _ _ _ _ _ _ (Act.put _ (some 72) _) _
        simp only [Act.put, List.setIfInBounds_toArray, List.set_cons_zero, List.set_cons_succ]
        refine wpAnyH_ready (rs := [8]) (by kernel_rfl) (by simp) ?_
        refine AllReadyH.cons rfl (fun K hK => ?_) AllReadyH.nil
        go_simp
        refine (HLV.out Y5 (HS.out Y5 HY5.out).2).mono ?_
        rintro e Y6 ⟨rfl, hbY6⟩
        refine hK.out _ _ (HM.out Y6 (HXW.out.trans (hbY6.mono HXW.out.size))) (fun hHeld => ?_)
        clear hK K
        try simp only [Act.put, List.setIfInBounds_toArray, List.set_cons_zero, List.set_cons_succ]
        have HZ : Hid (Below w.heap.size w Y6) := (HS.out Y5 HY5.out).2.trans (hbY6.mono (HS.out Y5 HY5.out).2.size)
        clear hbY6
        refine wpAnyH_take (i := 9) (v := ?vgb_9) rfl (by kernel_rfl) (by kernel_rfl) (by kernel_rfl) (fun _ _ _ h => h) (Or.inl ⟨by first | kernel_rfl | rfl, ?ygb_9⟩) hHeld ?rgb_9
        case ygb_9 => (intro W hSW; (try dsimp only at hSW); go_simp; (try with_reducible rfl))
        change wpAnyH _ _ _ _ _ _ _ (Act.put _ (some 74) _) _
        simp only [Act.put, List.setIfInBounds_toArray, List.set_cons_zero, List.set_cons_succ]
        refine wpAnyH_take (i := 10) (v := ?vgb_10) rfl (by kernel_rfl) (by kernel_rfl) (by kernel_rfl) (fun _ _ _ h => h) (Or.inl ⟨by first | kernel_rfl | rfl, ?ygb_10⟩) hHeld ?rgb_10
        case ygb_10 => (intro W hSW; (try dsimp only at hSW); go_simp; (try with_reducible rfl))
        change wpAnyH _ _ _ _ _ _ _ (Act.put _ (some 2) _) _
        simp only [Act.put, List.setIfInBounds_toArray, List.set_cons_zero, List.set_cons_succ]
        refine wpAnyH_done (by kernel_rfl) ?_ _
        go_wp2
        go_ret
        exact ⟨rfl, HZ.out⟩
      · go_simp
        refine hK.out _ _ (by rw [← hX3]; exact (HS.out _ (HY0.out.alloc HY0.out.size _)).1) (fun hHeld => ?_)
        clear hK K
        try simp only [Act.put, List.setIfInBounds_toArray, List.set_cons_zero, List.set_cons_succ]
        have rX3 : X3.heap[mb]? = some (.cells zr32 5 (0, 0)) := by rw [← hX3, ← hmb]; exact heap_alloc_new _ _
        have HX3 : Hid (Below wr.heap.size wr X3) := by rw [← hX3]; exact (HY0.out).alloc ((HY0.out).size) _
        have HM : Hid (∀ W, Below X3.heap.size X3 W → (W.cell? ⟨ab, 0, none⟩ = some (.string k0) ∧ W.cell? ⟨ab, 1, none⟩ = some (.int .i64 (an : Int)) ∧ W.cell? ⟨ab, 2, none⟩ = some (.slice xa xn xc)) ∧ (convert 45 9 (.slice (some ⟨mb, 0, none⟩) 32 32)).run Tryd.prog W = .ok (.string Z) W) := fun W hW => ⟨(HS.out W (HX3.out.trans (hW.mono HX3.out.size))).1, HC32.out W mb ((hW.block mb (lt_of_some rX3)).trans rX3)⟩
        refine wpAnyH_strengthen (S' := fun W => (W.cell? ⟨ab, 0, none⟩ = some (.string k0) ∧ W.cell? ⟨ab, 1, none⟩ = some (.int .i64 (an : Int)) ∧ W.cell? ⟨ab, 2, none⟩ = some (.slice xa xn xc)) ∧ (convert 45 9 (.slice (some ⟨mb, 0, none⟩) 32 32)).run Tryd.prog W = .ok (.string Z) W) (fun W h => h.1) ?_
        have hHeld : (fun W => (W.cell? ⟨ab, 0, none⟩ = some (.string k0) ∧ W.cell? ⟨ab, 1, none⟩ = some (.int .i64 (an : Int)) ∧ W.cell? ⟨ab, 2, none⟩ = some (.slice xa xn xc)) ∧ (convert 45 9 (.slice (some ⟨mb, 0, none⟩) 32 32)).run Tryd.prog W = .ok (.string Z) W) X3 := HM.out X3 (Below.refl _ _)
        refine wpAnyH_take (i := 3) (v := ?vgc_3) rfl (by kernel_rfl) (by kernel_rfl) (by kernel_rfl) (fun _ _ _ h => h) (Or.inl ⟨by first | kernel_rfl | rfl, ?ygc_3⟩) hHeld ?rgc_3
        case ygc_3 => (intro W hSW; (try dsimp only at hSW); go_simp; (try with_reducible rfl))
        change wpAnyH _ _ _ _ _ _ _ (Act.put _ (some 68) _) _
        simp only [Act.put, List.setIfInBounds_toArray, List.set_cons_zero, List.set_cons_succ]
        refine wpAnyH_ready (rs := [1]) (by kernel_rfl) (by simp) ?_
        refine AllReadyH.cons rfl (fun K hK => ?_) AllReadyH.nil
        go_simp
        refine (HDG.out X3 HX3.out).mono ?_
        rintro e Y1 ⟨rfl, hbY1⟩
        refine hK.out _ _ (HM.out Y1 hbY1) (fun hHeld => ?_)
        clear hK K
        try simp only [Act.put, List.setIfInBounds_toArray, List.set_cons_zero, List.set_cons_succ]
        have HY1 : Hid (Below wr.heap.size wr Y1) := HX3.out.trans (hbY1.mono HX3.out.size)
        have HXV : Hid (Below X3.heap.size X3 Y1) := hbY1
        clear hbY1
        refine wpAnyH_ready (rs := [5]) (by kernel_rfl) (by simp) ?_
        refine AllReadyH.cons rfl (fun K hK => ?_) AllReadyH.nil
        go_simp
        refine (HCH.out Y1 HY1.out).mono ?_
        rintro e Y5 ⟨rfl, hbY5⟩
        refine hK.out _ _ (HM.out Y5 (HXV.out.trans (hbY5.mono HXV.out.size))) (fun hHeld => ?_)
        clear hK K
        try simp only [Act.put, List.setIfInBounds_toArray, List.set_cons_zero, List.set_cons_succ]
        have HY5 : Hid (Below wr.heap.size wr Y5) := HY1.out.trans (hbY5.mono HY1.out.size)
        have HXW : Hid (Below X3.heap.size X3 Y5) := HXV.out.trans (hbY5.mono HXV.out.size)
        clear hbY5
        refine wpAnyH_take (i := 6) (v := ?vgc_6) rfl (by kernel_rfl) (by kernel_rfl) (by kernel_rfl) (fun _ _ _ h => h) (Or.inl ⟨by first | kernel_rfl | rfl, ?ygc_6⟩) hHeld ?rgc_6
        case ygc_6 => (intro W hSW; (try dsimp only at hSW); go_simp; (try with_reducible rfl))
        change wpAnyH _ _ _ _ _ _ _ (Act.put _ (some 71) _) _
        simp only [Act.put, List.setIfInBounds_toArray, List.set_cons_zero, List.set_cons_succ]
        refine wpAnyH_take (i := 7) (v := ?vgc_7) rfl (by kernel_rfl) (by kernel_rfl) (by kernel_rfl) (fun _ _ _ h => h) (Or.inl ⟨by first | kernel_rfl | rfl, ?ygc_7⟩) hHeld ?rgc_7
        case ygc_7 => (intro W hSW; (try dsimp only at hSW); go_simp; (try with_reducible rfl))
        change wpAnyH _ _ _ _ _ _ _ (Act.put _ (some 72) _) _
        simp only [Act.put, List.setIfInBounds_toArray, List.set_cons_zero, List.set_cons_succ]
        refine wpAnyH_ready (rs := [8]) (by kernel_rfl) (by simp) ?_
        refine AllReadyH.cons rfl (fun K hK => ?_) AllReadyH.nil
        go_simp
        refine (HLV.out Y5 (HS.out Y5 HY5.out).2).mono ?_
        rintro e Y6 ⟨rfl, hbY6⟩
        refine hK.out _ _ (HM.out Y6 (HXW.out.trans (hbY6.mono HXW.out.size))) (fun hHeld => ?_)
        clear hK K
        try simp only [Act.put, List.setIfInBounds_toArray, List.set_cons_zero, List.set_cons_succ]
        have HZ : Hid (Below w.heap.size w Y6) := (HS.out Y5 HY5.out).2.trans (hbY6.mono (HS.out Y5 HY5.out).2.size)
        clear hbY6
        refine wpAnyH_take (i := 9) (v := ?vgc_9) rfl (by kernel_rfl) (by kernel_rfl) (by kernel_rfl) (fun _ _ _ h => h) (Or.inl ⟨by first | kernel_rfl | rfl, ?ygc_9⟩) hHeld ?rgc_9
        case ygc_9 => (intro W hSW; (try dsimp only at hSW); go_simp; (try with_reducible rfl))
        change wpAnyH _ _ _ _ _ _ _ (Act.put _ (some 74) _) _
        simp only [Act.put, List.setIfInBounds_toArray, List.set_cons_zero, List.set_cons_succ]
        refine wpAnyH_take (i := 10) (v := ?vgc_10) rfl (by kernel_rfl) (by kernel_rfl) (by kernel_rfl) (fun _ _ _ h => h) (Or.inl ⟨by first | kernel_rfl | rfl, ?ygc_10⟩) hHeld ?rgc_10
        case ygc_10 => (intro W hSW; (try dsimp only at hSW); go_simp; (try with_reducible rfl))
        change wpAnyH _ _ _ _ _ _ _ (Act.put _ (some 2) _) _
        simp only [Act.put, List.setIfInBounds_toArray, List.set_cons_zero, List.set_cons_succ]
        refine wpAnyH_done (by kernel_rfl) ?_ _
        go_wp2
        go_ret
        exact ⟨rfl, HZ.out⟩
  · have kk : ¬ (i : Int) < (len0 : Int) := by omega
    obtain ⟨_, hnum, hKok, ⟨xa, xn, xc, hbx, hrx⟩, hBw⟩ := hply
    have hply : Ply w B ab K al an ac wr := ⟨hown, hnum, hKok, ⟨xa, xn, xc, hbx, hrx⟩, hBw⟩
    obtain ⟨k0, hk0⟩ : ∃ k, (ofA K).anchor = k := ⟨_, rfl⟩
    have hdig := hply.dig (by omega)
    obtain ⟨D, hD⟩ : ∃ D, strOf (chA zeros32 K) = D := ⟨_, rfl⟩
    have HDG : Hid (∀ W, Below wr.heap.size wr W → Calls Tryd.prog 20 #[.agg #[.string k0, .int .i64 (an : Int), .slice xa xn xc]] W fun e w' => e = .returned (.string D) ∧ Below W.heap.size W w') := fun W hW => by
      have h9 := adig_any (ofA K).anchor (an : Int) (Rw.mono (hrx.below hW) (fun _ _ _ => trivial)) (HLW.out W (hBw.trans (hW.mono hBw.size)))
      rw [hdig] at h9
      unfold StTo at h9
      rw [hD, hk0] at h9
      exact h9
    have HCH : Hid (∀ W, Below wr.heap.size wr W → Calls Tryd.prog 21 #[.string Z, .slice al an ac] W fun e w' => e = .returned (.string D) ∧ Below W.heap.size W w') := fun W hW => by
      have h9 := rch_any Z W ((Ew.own hown).below hW) (by omega) (by rw [← HZZ.out]; decide) hKok
      rw [show Z.data.toList = zeros32 by rw [← HZZ.out]; rfl] at h9
      unfold StTo at h9
      rw [hD] at h9
      exact h9
    rw [hk0] at hbx
    have HS : Hid (∀ W, Below wr.heap.size wr W → (W.cell? ⟨ab, 0, none⟩ = some (.string k0) ∧ W.cell? ⟨ab, 1, none⟩ = some (.int .i64 (an : Int)) ∧ W.cell? ⟨ab, 2, none⟩ = some (.slice xa xn xc)) ∧ Below w.heap.size w W) := fun W hW => by
      obtain ⟨g0, g1, g2, _⟩ := row3 ((hW.block ab (lt_of_some hbx)).trans hbx)
      exact ⟨⟨g0, g1, g2⟩, hBw.trans (hW.mono hBw.size)⟩
    have HC32 : Hid (∀ (W : World) (g : Nat), W.heap[g]? = some (.cells zr32 5 (0, 0)) → (convert 45 9 (.slice (some ⟨g, 0, none⟩) 32 32)).run Tryd.prog W = .ok (.string Z) W) := fun W g h => by rw [← HZZ.out]; exact conv32 h
    have hdd : (D.toList == D.toList) = true := by simp
    clear hply hown hnum hKok hbx hrx hBw hk0 hdig hD
    go_wp2
    refine wp_region_held_drew (S := fun W => (W.cell? ⟨ab, 0, none⟩ = some (.string k0) ∧ W.cell? ⟨ab, 1, none⟩ = some (.int .i64 (an : Int)) ∧ W.cell? ⟨ab, 2, none⟩ = some (.slice xa xn xc))) (by kernel_rfl) ((HS.out wr.drew (Below.refl _ wr).drew).1) (fun hHeld => ?_)
    refine wpAnyH_take (i := 0) (v := ?vha_0) rfl (by kernel_rfl) (by kernel_rfl) (by kernel_rfl) (fun _ _ _ h => h) (Or.inl ⟨by first | kernel_rfl | rfl, ?yha_0⟩) hHeld ?rha_0
    case yha_0 => (intro W hSW; (try dsimp only at hSW); go_simp; (try with_reducible rfl))
    change wpAnyH _ _ _ _ _ _ _ (Act.put _ (some 65) _) _
    simp only [Act.put, List.setIfInBounds_toArray, List.set_cons_zero, List.set_cons_succ]
    refine wpAnyH_take (i := 4) (v := ?vha_4) rfl (by kernel_rfl) (by kernel_rfl) (by kernel_rfl) (fun _ _ _ h => h) (Or.inl ⟨by first | kernel_rfl | rfl, ?yha_4⟩) hHeld ?rha_4
    case yha_4 => (intro W hSW; (try dsimp only at hSW); go_simp; (try with_reducible rfl))
    change wpAnyH _ _ _ _ _ _ _ (Act.put _ (some 69) _) _
    simp only [Act.put, List.setIfInBounds_toArray, List.set_cons_zero, List.set_cons_succ]
    have HY0 : Hid (Below wr.heap.size wr wr.drew) := (Below.refl _ wr).drew
    obtain ⟨mb, hmb⟩ : ∃ mb, wr.drew.heap.size = mb := ⟨_, rfl⟩
    obtain ⟨X3, hX3⟩ : ∃ X, wr.drew.alloc (.cells zr32 5) = X := ⟨_, rfl⟩
    have hmk : (Instr.makeSlice 45 (.int .i64 32) (.int .i64 32)).run Tryd.prog wr.drew = .ok (.slice (some ⟨mb, 0, none⟩) 32 32) X3 := by rw [← hmb, ← hX3]; exact make32 wr.drew
    refine wpAnyH_ready (rs := [1, 2]) (by kernel_rfl) (by simp) ?_
    refine AllReadyH.cons rfl (fun K hK => ?_) (AllReadyH.cons rfl (fun K hK => ?_) AllReadyH.nil)
    · clear hmk hX3 hmb X3 mb
      go_simp
      refine (HDG.out wr.drew HY0.out).mono ?_
      rintro e Y1 ⟨rfl, hbY1⟩
      refine hK.out _ _ ((HS.out Y1 (HY0.out.trans hbY1)).1) (fun hHeld => ?_)
      clear hK K
      try simp only [Act.put, List.setIfInBounds_toArray, List.set_cons_zero, List.set_cons_succ]
      have HY1 : Hid (Below wr.heap.size wr Y1) := HY0.out.trans hbY1
      clear hbY1
      obtain ⟨mb, hmb⟩ : ∃ mb, Y1.heap.size = mb := ⟨_, rfl⟩
      obtain ⟨X4, hX4⟩ : ∃ X, Y1.alloc (.cells zr32 5) = X := ⟨_, rfl⟩
      have hmk : (Instr.makeSlice 45 (.int .i64 32) (.int .i64 32)).run Tryd.prog Y1 = .ok (.slice (some ⟨mb, 0, none⟩) 32 32) X4 := by rw [← hmb, ← hX4]; exact make32 Y1
      refine wpAnyH_ready (rs := [2]) (by kernel_rfl) (by simp) ?_
      refine AllReadyH.cons rfl (fun K hK => ?_) AllReadyH.nil
      go_simp
      refine hK.out _ _ (by rw [← hX4]; exact (HS.out _ (HY1.out.alloc HY1.out.size _)).1) (fun hHeld => ?_)
      clear hK K
      try simp only [Act.put, List.setIfInBounds_toArray, List.set_cons_zero, List.set_cons_succ]
      have rX4 : X4.heap[mb]? = some (.cells zr32 5 (0, 0)) := by rw [← hX4, ← hmb]; exact heap_alloc_new _ _
      have HX4 : Hid (Below wr.heap.size wr X4) := by rw [← hX4]; exact (HY1.out).alloc ((HY1.out).size) _
      have HM : Hid (∀ W, Below X4.heap.size X4 W → (W.cell? ⟨ab, 0, none⟩ = some (.string k0) ∧ W.cell? ⟨ab, 1, none⟩ = some (.int .i64 (an : Int)) ∧ W.cell? ⟨ab, 2, none⟩ = some (.slice xa xn xc)) ∧ (convert 45 9 (.slice (some ⟨mb, 0, none⟩) 32 32)).run Tryd.prog W = .ok (.string Z) W) := fun W hW => ⟨(HS.out W (HX4.out.trans (hW.mono HX4.out.size))).1, HC32.out W mb ((hW.block mb (lt_of_some rX4)).trans rX4)⟩
      refine wpAnyH_strengthen (S' := fun W => (W.cell? ⟨ab, 0, none⟩ = some (.string k0) ∧ W.cell? ⟨ab, 1, none⟩ = some (.int .i64 (an : Int)) ∧ W.cell? ⟨ab, 2, none⟩ = some (.slice xa xn xc)) ∧ (convert 45 9 (.slice (some ⟨mb, 0, none⟩) 32 32)).run Tryd.prog W = .ok (.string Z) W) (fun W h => h.1) ?_
      have hHeld : (fun W => (W.cell? ⟨ab, 0, none⟩ = some (.string k0) ∧ W.cell? ⟨ab, 1, none⟩ = some (.int .i64 (an : Int)) ∧ W.cell? ⟨ab, 2, none⟩ = some (.slice xa xn xc)) ∧ (convert 45 9 (.slice (some ⟨mb, 0, none⟩) 32 32)).run Tryd.prog W = .ok (.string Z) W) X4 := HM.out X4 (Below.refl _ _)
      refine wpAnyH_take (i := 3) (v := ?vhb_3) rfl (by kernel_rfl) (by kernel_rfl) (by kernel_rfl) (fun _ _ _ h => h) (Or.inl ⟨by first | kernel_rfl | rfl, ?yhb_3⟩) hHeld ?rhb_3
      case yhb_3 => (intro W hSW; (try dsimp only at hSW); go_simp; (try with_reducible rfl))
      change wpAnyH _ _ _ _ _ _ _ (Act.put _ (some 68) _) _
      simp only [Act.put, List.setIfInBounds_toArray, List.set_cons_zero, List.set_cons_succ]
      have HXV : Hid (Below X4.heap.size X4 X4) := Below.refl _ _
      refine wpAnyH_ready (rs := [5]) (by kernel_rfl) (by simp) ?_
      refine AllReadyH.cons rfl (fun K hK => ?_) AllReadyH.nil
      go_simp
      refine (HCH.out X4 HX4.out).mono ?_
      rintro e Y5 ⟨rfl, hbY5⟩
      refine hK.out _ _ (HM.out Y5 (HXV.out.trans (hbY5.mono HXV.out.size))) (fun hHeld => ?_)
      clear hK K
      try simp only [Act.put, List.setIfInBounds_toArray, List.set_cons_zero, List.set_cons_succ]
      have HY5 : Hid (Below wr.heap.size wr Y5) := HX4.out.trans (hbY5.mono HX4.out.size)
      have HXW : Hid (Below X4.heap.size X4 Y5) := HXV.out.trans (hbY5.mono HXV.out.size)
      clear hbY5
      refine wpAnyH_take (i := 6) (v := ?vhb_6) rfl (by kernel_rfl) (by kernel_rfl) (by kernel_rfl) (fun _ _ _ h => h) (Or.inl ⟨by first | kernel_rfl | rfl, ?yhb_6⟩) hHeld ?rhb_6
      case yhb_6 => (intro W hSW; (try dsimp only at hSW); go_simp; (try with_reducible rfl))
      change wpAnyH _ _ _ _ _ _ _ (Act.put _ (some 71) _) _
      simp only [Act.put, List.setIfInBounds_toArray, List.set_cons_zero, List.set_cons_succ]
      refine wpAnyH_take (i := 7) (v := ?vhb_7) rfl (by kernel_rfl) (by kernel_rfl) (by kernel_rfl) (fun _ _ _ h => h) (Or.inl ⟨by first | kernel_rfl | rfl, ?yhb_7⟩) hHeld ?rhb_7
      case yhb_7 => (intro W hSW; (try dsimp only at hSW); go_simp; (try with_reducible rfl))
      change wpAnyH _ _ _ _ _ _ _ (Act.put _ (some 72) _) _
      simp only [Act.put, List.setIfInBounds_toArray, List.set_cons_zero, List.set_cons_succ]
      refine wpAnyH_ready (rs := [8]) (by kernel_rfl) (by simp) ?_
      refine AllReadyH.cons rfl (fun K hK => ?_) AllReadyH.nil
      go_simp
      refine (HLV.out Y5 (HS.out Y5 HY5.out).2).mono ?_
      rintro e Y6 ⟨rfl, hbY6⟩
      refine hK.out _ _ (HM.out Y6 (HXW.out.trans (hbY6.mono HXW.out.size))) (fun hHeld => ?_)
      clear hK K
      try simp only [Act.put, List.setIfInBounds_toArray, List.set_cons_zero, List.set_cons_succ]
      have HZ : Hid (Below w.heap.size w Y6) := (HS.out Y5 HY5.out).2.trans (hbY6.mono (HS.out Y5 HY5.out).2.size)
      clear hbY6
      refine wpAnyH_take (i := 9) (v := ?vhb_9) rfl (by kernel_rfl) (by kernel_rfl) (by kernel_rfl) (fun _ _ _ h => h) (Or.inl ⟨by first | kernel_rfl | rfl, ?yhb_9⟩) hHeld ?rhb_9
      case yhb_9 => (intro W hSW; (try dsimp only at hSW); go_simp; (try with_reducible rfl))
      change wpAnyH _ _ _ _ _ _ _ (Act.put _ (some 74) _) _
      simp only [Act.put, List.setIfInBounds_toArray, List.set_cons_zero, List.set_cons_succ]
      refine wpAnyH_take (i := 10) (v := ?vhb_10) rfl (by kernel_rfl) (by kernel_rfl) (by kernel_rfl) (fun _ _ _ h => h) (Or.inl ⟨by first | kernel_rfl | rfl, ?yhb_10⟩) hHeld ?rhb_10
      case yhb_10 => (intro W hSW; (try dsimp only at hSW); go_simp; (try with_reducible rfl))
      change wpAnyH _ _ _ _ _ _ _ (Act.put _ (some 2) _) _
      simp only [Act.put, List.setIfInBounds_toArray, List.set_cons_zero, List.set_cons_succ]
      refine wpAnyH_done (by kernel_rfl) ?_ _
      go_wp2
      go_ret
      exact ⟨rfl, HZ.out⟩
    · go_simp
      refine hK.out _ _ (by rw [← hX3]; exact (HS.out _ (HY0.out.alloc HY0.out.size _)).1) (fun hHeld => ?_)
      clear hK K
      try simp only [Act.put, List.setIfInBounds_toArray, List.set_cons_zero, List.set_cons_succ]
      have rX3 : X3.heap[mb]? = some (.cells zr32 5 (0, 0)) := by rw [← hX3, ← hmb]; exact heap_alloc_new _ _
      have HX3 : Hid (Below wr.heap.size wr X3) := by rw [← hX3]; exact (HY0.out).alloc ((HY0.out).size) _
      have HM : Hid (∀ W, Below X3.heap.size X3 W → (W.cell? ⟨ab, 0, none⟩ = some (.string k0) ∧ W.cell? ⟨ab, 1, none⟩ = some (.int .i64 (an : Int)) ∧ W.cell? ⟨ab, 2, none⟩ = some (.slice xa xn xc)) ∧ (convert 45 9 (.slice (some ⟨mb, 0, none⟩) 32 32)).run Tryd.prog W = .ok (.string Z) W) := fun W hW => ⟨(HS.out W (HX3.out.trans (hW.mono HX3.out.size))).1, HC32.out W mb ((hW.block mb (lt_of_some rX3)).trans rX3)⟩
      refine wpAnyH_strengthen (S' := fun W => (W.cell? ⟨ab, 0, none⟩ = some (.string k0) ∧ W.cell? ⟨ab, 1, none⟩ = some (.int .i64 (an : Int)) ∧ W.cell? ⟨ab, 2, none⟩ = some (.slice xa xn xc)) ∧ (convert 45 9 (.slice (some ⟨mb, 0, none⟩) 32 32)).run Tryd.prog W = .ok (.string Z) W) (fun W h => h.1) ?_
      have hHeld : (fun W => (W.cell? ⟨ab, 0, none⟩ = some (.string k0) ∧ W.cell? ⟨ab, 1, none⟩ = some (.int .i64 (an : Int)) ∧ W.cell? ⟨ab, 2, none⟩ = some (.slice xa xn xc)) ∧ (convert 45 9 (.slice (some ⟨mb, 0, none⟩) 32 32)).run Tryd.prog W = .ok (.string Z) W) X3 := HM.out X3 (Below.refl _ _)
      refine wpAnyH_take (i := 3) (v := ?vhc_3) rfl (by kernel_rfl) (by kernel_rfl) (by kernel_rfl) (fun _ _ _ h => h) (Or.inl ⟨by first | kernel_rfl | rfl, ?yhc_3⟩) hHeld ?rhc_3
      case yhc_3 => (intro W hSW; (try dsimp only at hSW); go_simp; (try with_reducible rfl))
      change wpAnyH _ _ _ _ _ _ _ (Act.put _ (some 68) _) _
      simp only [Act.put, List.setIfInBounds_toArray, List.set_cons_zero, List.set_cons_succ]
      refine wpAnyH_ready (rs := [1]) (by kernel_rfl) (by simp) ?_
      refine AllReadyH.cons rfl (fun K hK => ?_) AllReadyH.nil
      go_simp
      refine (HDG.out X3 HX3.out).mono ?_
      rintro e Y1 ⟨rfl, hbY1⟩
      refine hK.out _ _ (HM.out Y1 hbY1) (fun hHeld => ?_)
      clear hK K
      try simp only [Act.put, List.setIfInBounds_toArray, List.set_cons_zero, List.set_cons_succ]
      have HY1 : Hid (Below wr.heap.size wr Y1) := HX3.out.trans (hbY1.mono HX3.out.size)
      have HXV : Hid (Below X3.heap.size X3 Y1) := hbY1
      clear hbY1
      refine wpAnyH_ready (rs := [5]) (by kernel_rfl) (by simp) ?_
      refine AllReadyH.cons rfl (fun K hK => ?_) AllReadyH.nil
      go_simp
      refine (HCH.out Y1 HY1.out).mono ?_
      rintro e Y5 ⟨rfl, hbY5⟩
      refine hK.out _ _ (HM.out Y5 (HXV.out.trans (hbY5.mono HXV.out.size))) (fun hHeld => ?_)
      clear hK K
      try simp only [Act.put, List.setIfInBounds_toArray, List.set_cons_zero, List.set_cons_succ]
      have HY5 : Hid (Below wr.heap.size wr Y5) := HY1.out.trans (hbY5.mono HY1.out.size)
      have HXW : Hid (Below X3.heap.size X3 Y5) := HXV.out.trans (hbY5.mono HXV.out.size)
      clear hbY5
      refine wpAnyH_take (i := 6) (v := ?vhc_6) rfl (by kernel_rfl) (by kernel_rfl) (by kernel_rfl) (fun _ _ _ h => h) (Or.inl ⟨by first | kernel_rfl | rfl, ?yhc_6⟩) hHeld ?rhc_6
      case yhc_6 => (intro W hSW; (try dsimp only at hSW); go_simp; (try with_reducible rfl))
      change wpAnyH _ _ _ _ _ _ _ (Act.put _ (some 71) _) _
      simp only [Act.put, List.setIfInBounds_toArray, List.set_cons_zero, List.set_cons_succ]
      refine wpAnyH_take (i := 7) (v := ?vhc_7) rfl (by kernel_rfl) (by kernel_rfl) (by kernel_rfl) (fun _ _ _ h => h) (Or.inl ⟨by first | kernel_rfl | rfl, ?yhc_7⟩) hHeld ?rhc_7
      case yhc_7 => (intro W hSW; (try dsimp only at hSW); go_simp; (try with_reducible rfl))
      change wpAnyH _ _ _ _ _ _ _ (Act.put _ (some 72) _) _
      simp only [Act.put, List.setIfInBounds_toArray, List.set_cons_zero, List.set_cons_succ]
      refine wpAnyH_ready (rs := [8]) (by kernel_rfl) (by simp) ?_
      refine AllReadyH.cons rfl (fun K hK => ?_) AllReadyH.nil
      go_simp
      refine (HLV.out Y5 (HS.out Y5 HY5.out).2).mono ?_
      rintro e Y6 ⟨rfl, hbY6⟩
      refine hK.out _ _ (HM.out Y6 (HXW.out.trans (hbY6.mono HXW.out.size))) (fun hHeld => ?_)
      clear hK K
      try simp only [Act.put, List.setIfInBounds_toArray, List.set_cons_zero, List.set_cons_succ]
      have HZ : Hid (Below w.heap.size w Y6) := (HS.out Y5 HY5.out).2.trans (hbY6.mono (HS.out Y5 HY5.out).2.size)
      clear hbY6
      refine wpAnyH_take (i := 9) (v := ?vhc_9) rfl (by kernel_rfl) (by kernel_rfl) (by kernel_rfl) (fun _ _ _ h => h) (Or.inl ⟨by first | kernel_rfl | rfl, ?yhc_9⟩) hHeld ?rhc_9
      case yhc_9 => (intro W hSW; (try dsimp only at hSW); go_simp; (try with_reducible rfl))
      change wpAnyH _ _ _ _ _ _ _ (Act.put _ (some 74) _) _
      simp only [Act.put, List.setIfInBounds_toArray, List.set_cons_zero, List.set_cons_succ]
      refine wpAnyH_take (i := 10) (v := ?vhc_10) rfl (by kernel_rfl) (by kernel_rfl) (by kernel_rfl) (fun _ _ _ h => h) (Or.inl ⟨by first | kernel_rfl | rfl, ?yhc_10⟩) hHeld ?rhc_10
      case yhc_10 => (intro W hSW; (try dsimp only at hSW); go_simp; (try with_reducible rfl))
      change wpAnyH _ _ _ _ _ _ _ (Act.put _ (some 2) _) _
      simp only [Act.put, List.setIfInBounds_toArray, List.set_cons_zero, List.set_cons_succ]
      refine wpAnyH_done (by kernel_rfl) ?_ _
      go_wp2
      go_ret
      exact ⟨rfl, HZ.out⟩

set_option linter.unusedVariables false in
set_option maxRecDepth 100000 in
theorem lifted (os : Os) (started : os.Started) (H : Type) (enc : TypeId × Value → H) :
    ReturnsInHanded {} Tryd.checked os 5 .any (fun w args => (Rows.auditPlaysSpec.pre enc Tryd.prog Tryd.f5 [] false w args ∧ laidMetH Tryd.prog laid2 w) ∧ sizedMet enc Tryd.prog Tryd.f5 (OpenSpec.ofChange Rows.auditPlaysSpec) false w args) (Rows.auditPlaysSpec.post enc Tryd.prog Tryd.f5 false true false false) := by
  refine returnsInHanded_of_change_and (C := Tryd.checked) (X := fun w _ => laidMetH Tryd.prog laid2 w) (fun _ _ _ hh h => h.of_heap hh) own started (by kernel_rfl) Tryd.func5
    (ChangeSpec.witness_shaped (enc := enc) (C := Tryd.checked) (os := os) (X := fun w _ => laidMetH Tryd.prog laid2 w) false (World.doorLaid Tryd.prog 19 os) #[.slice none 0 0] 8 rfl (World.shaped_of_RefB (by kernel_rfl) (by kernel_rfl)) (by kernel_rfl) (by kernel_rfl) (by kernel_rfl) (door_met os _)) ?_
  intro W base args ds gs before hval0 hW _ hsz0 hL _
  have hval : ∀ (j : Nat) t v, Tryd.f5.params[j]? = some t → args[j]? = some v → Value.okWide Tryd.prog W .any base t v := hval0
  have hsz : (DataW.weightsEach Tryd.prog (Tryd.f5.params.toList ++ Rows.auditPlaysSpec.plain.varTypes Tryd.prog) (ds ++ gs)).all (· ≤ reachBytes) = true := hsz0
  have hW' := hW
  obtain ⟨p, q, hA0, hV, rfl, hfz, hnd⟩ := hW
  have hA : DataW.TrodAll enc Tryd.prog W 0 (fun _ => true) true Tryd.f5.params.toList args.toList ds p := hA0
  rw [Tryd.params5] at hA hval hsz
  obtain ⟨v0, vs0, d0, ds0, p0, q0, hargs, rfl, rfl, h0, r0⟩ := trodAll_cons hA
  obtain ⟨rfl, rfl, rfl⟩ := trodAll_nil r0
  obtain rfl : args = #[v0] := by cases args; simp_all
  obtain ⟨rfl, rfl⟩ := trodVars_none hV
  have k0 := h0
  have lt0 : ∀ x ∈ p0, x.block < W.heap.size := by obtain ⟨m, hm⟩ := k0; exact DataW.trod_lt m _ _ _ hm
  obtain ⟨a0, len0, cap0, rfl⟩ := okWide_slice Tryd.underlying22 (hval 0 22 v0 rfl rfl)
  obtain ⟨l0, w0, c0⟩ : ∃ l, Ew W a0 len0 cap0 l ∧ ∀ c ∈ l, c.In := by
    obtain ⟨fuel, hf⟩ := h0
    exact ents_arg (j := 0) (by simpa [Value.cells] using hf) hsz rfl rfl
  clear hA0 hval0 hsz hsz0
  refine (walk a0 len0 cap0 l0 c0 W w0 (of_laid hL)).mono fun e W' ⟨he, bel⟩ => ?_
  subst he
  exact ⟨_, rfl, _, _, _, [], _, [], hW', trodAll_mk1 (shut_bool Tryd.underlying4 _), (trodAll_cons_mk (Below.trod laidOut (by kernel_rfl) (of_decide_eq_true (by kernel_rfl)) k0 bel lt0) trodAll_mk0), rfl, bel.frame _, fun h => by cases h⟩

theorem over : Rows.auditPlaysRow.holds Tryd.pinned (OpenSpec.ofChange Rows.auditPlaysSpec) :=
  OpenClaim.holds_of_wide 5 Tryd.f5 rfl rfl rfl rfl rfl rfl rfl ⟨rfl, rfl, rfl, rfl, rfl⟩ rfl rfl rfl rfl rfl (by kernel_rfl) Tryd.func5 (by kernel_rfl)
    (of_decide_eq_true (by kernel_rfl)) (by unfold Func.isWrapper; first | (rw [if_pos (by decide +kernel)]; kernel_rfl) | (rw [if_neg (by decide +kernel)]; exact ⟨rfl, rfl⟩))
    (fun os started H enc _ => lifted os started H enc)

end Go.Proofs.YtkhidkilkbmpoaaDoor.auditPlays
namespace Go.Proofs.YtkhidkilkbmpoaaDoor
/-- The given statement. -/
theorem auditPlays_holds : Rows.AuditPlaysCardSaid :=
  Claim7.holds_tied_plain_at .later [] [.data, .data] true (true, "c0eea24fd7221e3afb955dddc54761337ed5996520cfcdb0e8757455c9d47393") false
    auditPlays.over (fun _ h => by cases h) (by kernel_rfl) (fun _ h => by cases h) auditPlays_row_tie rfl ⟨rfl, rfl⟩ (by kernel_rfl) rfl
    (fun f fn hf hfn => by
      obtain rfl : f = 5 := Option.some.inj ((show Tryd.prog.funcNamed "strongroom/strongroomlaw13.AuditPlays" = some 5 by kernel_rfl).symm.trans hf) |>.symm
      obtain rfl : fn = Tryd.f5 := (Option.some.inj (Tryd.func5.symm.trans hfn)).symm
      exact ⟨by kernel_rfl, fun j t ht => by
        rw [Tryd.params5] at ht
        rcases j with _ | j
        · obtain rfl : t = 22 := by simpa using ht.symm
          exact (show Tryd.prog.wantsStandIn 22 = false by kernel_rfl)
        · simp at ht
      ⟩)
    (by kernel_rfl)
#print axioms auditPlays_holds
end Go.Proofs.YtkhidkilkbmpoaaDoor
