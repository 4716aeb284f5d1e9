/- The law of an index that is its own. -/
import Derived.Test.YthmikfkdjnidmaaDoorGK
import Derived.Test.YthmikfkdjnidmaaDoorCards
import Derived.Test.YthmikfkdjnidmaaDoorTie
import Derived.WalkKit
import Derived.ProofKit
import Derived.OpenShut
import Derived.ShutString
import Derived.ChangeOld
import Derived.Below
import Derived.LaidMore
import Derived.Stop.Joined
import Derived.SevenTiedAt
namespace Go.Proofs.YthmikfkdjnidmaaDoor.signOwn
open Go.ChangeShapes Go.WideShapes Go.ChangeAt Go.WideMaps Go.WideElems Go.RowKit
open Go.ChangeMaps (open_string shut_string)

set_option maxRecDepth 100000 in
set_option maxHeartbeats 2000000 in
theorem walk (a0 : Option Addr) (len0 cap0 : Nat) (ss0 : List Sg) (z0 : ∀ s ∈ ss0, s.1 < 4294967296 ∧ s.2.size ≤ 140737488351232) (n1 : Nat) (s1 : ByteArray) (_z1 : s1.size ≤ 140737488351232) (u1 : n1 < 4294967296) (w : World) (w0 : Gs w a0 len0 cap0 ss0) (hL : Laid w) :
    Calls Tryd.prog 8 #[.slice a0 len0 cap0, .agg #[.int .u32 (n1 : Int), .string s1]] w fun e w' => e = .returned (.bool true) ∧ Below w.heap.size w w' := by
  have HLV : Hid (∀ V, Below w.heap.size w V → Calls Tryd.prog 9 #[] V fun e w' => e = .returned (.bool true) ∧ Below w.heap.size w w') := fun V hV => (lives_any V (hL.below hV)).mono fun e w' h => ⟨h.1, hV.trans (h.2.mono hV.size)⟩
  have HG : Hid (Gs w a0 len0 cap0 ss0) := w0
  have hgl := w0.len
  have hgm := w0.max
  obtain ⟨bx, hbx⟩ : ∃ bx, w.heap.size = bx := ⟨_, rfl⟩
  obtain ⟨W1, hW1, r1, hb1⟩ := box_sg (w := w) n1 s1
  rw [hbx] at r1
  have HF := few_any (w0.below hb1)
  have x1 : W1.cell? ⟨bx, 1, none⟩ = some (.string s1) := by rw [cell_of_row _ _ _ _ _ _ r1]; rfl
  have H1 : Hid (Below w.heap.size w W1 ∧ W1.heap[bx]? = some (.cells #[.int .u32 (n1 : Int), .string s1] 25 (0, 0)) ∧ w.heap.size = bx) := ⟨hb1, r1, hbx⟩
  obtain ⟨fb, hfb⟩ : ∃ fb, fewB ss0 = fb := ⟨_, rfl⟩
  rw [hfb] at HF
  clear w0 hL r1 hb1
  cases fb with
  | false =>
    go_enter Tryd.func8, Tryd.ntmps8
    go_wp2_with fail
    refine HF.mono ?_
    rintro e V ⟨rfl, hV⟩
    subst V
    clear HF
    go_wp2_with fail
    refine (HLV.out _ (H1.out.1)).mono ?_
    rintro e V ⟨rfl, hb⟩
    go_wp2
    go_ret
    exact ⟨rfl, hb⟩
  | true =>
    by_cases hz : 100 < s1.size
    · have kz : (100 : Int) < (s1.size : Int) := by omega
      go_enter Tryd.func8, Tryd.ntmps8
      go_wp2_with fail
      refine HF.mono ?_
      rintro e V ⟨rfl, hV⟩
      subst V
      clear HF
      go_wp2_with fail
      refine (HLV.out _ (H1.out.1)).mono ?_
      rintro e V ⟨rfl, hb⟩
      go_wp2
      go_ret
      exact ⟨rfl, hb⟩
    · have kz : ¬ (100 : Int) < (s1.size : Int) := by omega
      have hfew := of_decide_eq_true hfb
      have hlen : len0 ≤ 1100 := by have := hfew.1; omega
      obtain ⟨aA, cA, VA, hrA, hoA, hgA, _⟩ := addG_own (m := len0) W1 (show W1.ownsRow W1.heap.size 25 2 (.slice none 0 0) 0 (sgR []) from World.ownsRow_nil _ _ _ _) (show Gw (fun _ => True) W1 a0 len0 cap0 ss0 from HG.out.below H1.out.1) (by omega) (Nat.le_refl _)
      simp only [Nat.zero_add, List.nil_append] at hrA hoA
      have hbA : Below W1.heap.size W1 VA := (Below.refl _ W1).grown hgA (Nat.le_refl _) (fun z hz => by cases hz)
      have HNW := new_index (show Gw (fun _ => True) VA aA len0 cA ss0 from Rw.own hoA (fun _ _ => trivial)) (fun s hs => (z0 s hs).1)
      obtain ⟨L, hL⟩ : ∃ L, ss0.take 1024 = L := ⟨_, rfl⟩
      rw [hL] at HNW
      have HLE : Hid (ss0.take 1024 = L) := hL
      have HA : Hid (VA.ownsRow W1.heap.size 25 2 (.slice aA len0 cA) len0 (sgR ss0) ∧ Below W1.heap.size W1 VA) := ⟨hoA, hbA⟩
      clear hL hfb hfew hoA hbA hgA
      go_enter Tryd.func8, Tryd.ntmps8
      go_wp2_with fail
      refine HF.mono ?_
      rintro e V ⟨rfl, hV⟩
      subst V
      clear HF
      go_wp2_with (first | (at_builtin; refine wpList_app W1 rfl _ _ _ _ rfl rfl rfl (hrA _) ?_) | fail)
      refine HNW.mono ?_
      rintro e V2 ⟨g, rfl, hix, hb2, hg2⟩
      have hbW1 : Below W1.heap.size W1 V2 := HA.out.2.trans (hb2.mono HA.out.2.size)
      have H2 : Hid (V2.ownsRow W1.heap.size 25 2 (.slice aA len0 cA) len0 (sgR ss0) ∧ Inx V2 VA.heap.size g L ∧ Below W1.heap.size W1 V2) := ⟨own_keep HA.out.1 (fun k hk => hb2.block k (HA.out.1.lt k hk).2), hix, hbW1⟩
      clear HNW hix hb2 hbW1 hg2
      go_wp2
      go_loopw [7] (fun vi wr => ∃ (i : Nat) (xs : List Value), i ≤ len0 ∧ vi = .int .i64 i ∧ wr.ownsRow W1.heap.size 25 2 (.slice aA len0 cA) len0 xs ∧ Inx wr VA.heap.size g L ∧ Below W1.heap.size W1 wr) (fun vi _ => len0 - (intOf vi).toNat)
      case atStart => exact ⟨0, sgR ss0, by omega, rfl, H2.out⟩
      case round =>
        clear H2
        obtain ⟨i, xs, hi, rfl, hown, hix, hbw⟩ := hrel
        by_cases hlt : i < len0
        · have kk : (i : Int) < (len0 : Int) := by omega
          obtain ⟨z, cur, ha, hr, hzb⟩ := own_blk hown (by omega)
          subst ha
          have hxl := hown.1
          obtain ⟨u0, hu0⟩ : ∃ u, xs[i * 2]? = some u := ⟨_, List.getElem?_eq_getElem (by omega)⟩
          obtain ⟨u1', hu1⟩ : ∃ u, xs[i * 2 + 1]? = some u := ⟨_, List.getElem?_eq_getElem (by omega)⟩
          have c0 := own_at hown hu0
          have c1 := own_at hown hu1
          have f0 := own_fro hown (i * 2)
          have f1 := own_fro hown (i * 2 + 1)
          have hzA : z < VA.heap.size := (HA.out.1.lt z rfl).2
          have ho1 := own_put2 hown (i * 2) (.int .u32 7)
          have ho2 := own_put2 ho1 (i * 2 + 1) (.string ⟨#[115, 112, 111, 105, 108, 116]⟩)
          have hx1 := hix.set (o := i * 2) (v := .int .u32 7) hr hzA
          have hr1 : (wr.setCell ⟨z, i * 2, none⟩ (.int .u32 7)).heap[z]? = some (.cells (cur.setIfInBounds (i * 2) (.int .u32 7)) 25 (0, 0)) := heap_setCell_same wr z (i * 2) _ _ _ hr
          have hx2 := hx1.set (o := i * 2 + 1) (v := .string ⟨#[115, 112, 111, 105, 108, 116]⟩) hr1 hzA
          have HE : Hid (((wr.setCell ⟨z, i * 2, none⟩ (.int .u32 7)).setCell ⟨z, i * 2 + 1, none⟩ (.string ⟨#[115, 112, 111, 105, 108, 116]⟩)).ownsRow W1.heap.size 25 2 (.slice (some ⟨z, 0, none⟩) len0 cA) len0 ((xs.set (i * 2) (.int .u32 7)).set (i * 2 + 1) (.string ⟨#[115, 112, 111, 105, 108, 116]⟩)) ∧ Inx ((wr.setCell ⟨z, i * 2, none⟩ (.int .u32 7)).setCell ⟨z, i * 2 + 1, none⟩ (.string ⟨#[115, 112, 111, 105, 108, 116]⟩)) VA.heap.size g L ∧ Below W1.heap.size W1 ((wr.setCell ⟨z, i * 2, none⟩ (.int .u32 7)).setCell ⟨z, i * 2 + 1, none⟩ (.string ⟨#[115, 112, 111, 105, 108, 116]⟩))) := ⟨ho2, hx2, (hbw.setCell hzb _).setCell hzb _⟩
          clear hown hix hbw hr hu0 hu1 ho1 ho2 hx1 hr1 hx2 hxl
          go_wp2
          exact ⟨⟨i + 1, _, by omega, by go_num, HE.out⟩, by simp [intOf]; omega⟩
        · have kk : ¬ (i : Int) < (len0 : Int) := by omega
          have rb4 := (hbw.block bx (lt_of_some H1.out.2.1)).trans H1.out.2.1
          have x0 : wr.cell? ⟨bx, 0, none⟩ = some (.int .u32 (n1 : Int)) := by rw [cell_of_row _ _ _ _ _ _ rb4]; rfl
          have x1 : wr.cell? ⟨bx, 1, none⟩ = some (.string s1) := by rw [cell_of_row _ _ _ _ _ _ rb4]; rfl
          have HFI := find_any hix n1 s1 u1
          have H3 : Hid (Below w.heap.size w wr ∧ wr.heap[bx]? = some (.cells #[.int .u32 (n1 : Int), .string s1] 25 (0, 0))) := ⟨H1.out.1.trans (hbw.mono H1.out.1.size), rb4⟩
          obtain ⟨r, hr⟩ : ∃ r, fnd L (n1, s1) = r := ⟨_, rfl⟩
          have HR : Hid (fnd L (n1, s1) = r) := hr
          rw [hr] at HFI
          unfold FiTo at HFI
          obtain ⟨kv, hkv⟩ : ∃ kv : Nat, r.getD 0 = kv := ⟨_, rfl⟩
          obtain ⟨bv, hbv⟩ : ∃ bv, r.isSome = bv := ⟨_, rfl⟩
          rw [hkv, hbv] at HFI
          have HKB : Hid (r.getD 0 = kv ∧ r.isSome = bv) := ⟨hkv, hbv⟩
          clear hown hix hbw rb4 hr hkv hbv
          go_wp2_with fail
          refine HFI.mono ?_
          rintro e V4 ⟨rfl, hb4⟩
          have rb4 := (hb4.block bx (lt_of_some H3.out.2)).trans H3.out.2
          have H4 : Hid (Below w.heap.size w V4 ∧ V4.heap[bx]? = some (.cells #[.int .u32 (n1 : Int), .string s1] 25 (0, 0))) := ⟨H3.out.1.trans (hb4.mono H3.out.1.size), rb4⟩
          have HC4 : Hid (V4.cell? ⟨bx, 0, none⟩ = some (.int .u32 (n1 : Int)) ∧ V4.cell? ⟨bx, 1, none⟩ = some (.string s1)) := ⟨by rw [cell_of_row _ _ _ _ _ _ rb4]; rfl, by rw [cell_of_row _ _ _ _ _ _ rb4]; rfl⟩
          have HLT : Hid (bx < V4.drew.heap.size) := lt_of_some rb4
          have HNW2 : Hid (∀ V, Below V4.heap.size V4 V → Calls Tryd.prog 17 #[.slice a0 len0 cap0] V fun e w' => NwTo V L e w') := fun V hV => by
            have h5 := new_index (HG.out.below (H4.out.1.trans (hV.mono H4.out.1.size))) (fun s hs => (z0 s hs).1)
            rw [HLE.out] at h5
            exact h5
          clear HFI hb4 rb4 x0 x1
          go_wp2
          refine wp_region_held_drew (S := fun W => W.cell? ⟨bx, 0, none⟩ = some (.int .u32 (n1 : Int)) ∧ W.cell? ⟨bx, 1, none⟩ = some (.string s1)) (by kernel_rfl) (HC4.out) (fun hHeld => ?_)
          refine wpAnyH_take (i := 0) (v := ?va_0) rfl (by kernel_rfl) (by kernel_rfl) (by kernel_rfl) (fun _ _ _ h => h) (Or.inl ⟨by first | kernel_rfl | rfl, ?ya_0⟩) hHeld ?ra_0
          case ya_0 => (intro W hSW; (try dsimp only at hSW); go_simp; (try with_reducible rfl))
          change wpAnyH _ _ _ _ _ _ _ (Act.put _ (some 47) _) _
          simp only [Act.put, List.setIfInBounds_toArray, List.set_cons_zero, List.set_cons_succ]
          refine wpAnyH_take (i := 2) (v := ?va_2) rfl (by kernel_rfl) (by kernel_rfl) (by kernel_rfl) (fun _ _ _ h => h) (Or.inl ⟨by first | kernel_rfl | rfl, ?ya_2⟩) hHeld ?ra_2
          case ya_2 => (intro W hSW; (try dsimp only at hSW); go_simp; (try with_reducible rfl))
          change wpAnyH _ _ _ _ _ _ _ (Act.put _ (some 49) _) _
          simp only [Act.put, List.setIfInBounds_toArray, List.set_cons_zero, List.set_cons_succ]
          refine wpAnyH_ready (rs := [1]) (by kernel_rfl) (by simp) ?_
          refine AllReadyH.cons rfl (fun K hK => ?_) AllReadyH.nil
          go_simp
          refine (HNW2.out V4.drew ((Below.refl _ V4).drew)).mono ?_
          rintro e V5 ⟨g2, rfl, hix2, hb5, _⟩
          refine hK.out _ _ (⟨by rw [hb5.cell HLT.out]; exact HC4.out.1, by rw [hb5.cell HLT.out]; exact HC4.out.2⟩) (fun hHeld => ?_)
          clear hK K
          try simp only [Act.put, List.setIfInBounds_toArray, List.set_cons_zero, List.set_cons_succ]
          refine wpAnyH_ready (rs := [3]) (by kernel_rfl) (by simp) ?_
          refine AllReadyH.cons rfl (fun K hK => ?_) AllReadyH.nil
          go_simp
          refine (find_any hix2 n1 s1 u1).mono ?_
          rintro e V6 ⟨rfl, hb6⟩
          refine hK.out _ _ (⟨by rw [hb6.cell (Nat.lt_of_lt_of_le HLT.out hb5.size), hb5.cell HLT.out]; exact HC4.out.1, by rw [hb6.cell (Nat.lt_of_lt_of_le HLT.out hb5.size), hb5.cell HLT.out]; exact HC4.out.2⟩) (fun hHeld => ?_)
          clear hK K
          try simp only [Act.put, List.setIfInBounds_toArray, List.set_cons_zero, List.set_cons_succ]
          refine wpAnyH_take (i := 4) (v := ?va_4) rfl (by kernel_rfl) (by kernel_rfl) (by kernel_rfl) (fun _ _ _ h => h) (Or.inl ⟨by first | kernel_rfl | rfl, ?ya_4⟩) hHeld ?ra_4
          case ya_4 => (intro W hSW; (try dsimp only at hSW); go_simp; (try with_reducible rfl))
          change wpAnyH _ _ _ _ _ _ _ (Act.put _ (some 46) _) _
          simp only [Act.put, List.setIfInBounds_toArray, List.set_cons_zero, List.set_cons_succ]
          refine wpAnyH_take (i := 5) (v := ?va_5) rfl (by kernel_rfl) (by kernel_rfl) (by kernel_rfl) (fun _ _ _ h => h) (Or.inl ⟨by first | kernel_rfl | rfl, ?ya_5⟩) hHeld ?ra_5
          case ya_5 => (intro W hSW; (try dsimp only at hSW); go_simp; (try with_reducible rfl))
          change wpAnyH _ _ _ _ _ _ _ (Act.put _ (some 51) _) _
          simp only [Act.put, List.setIfInBounds_toArray, List.set_cons_zero, List.set_cons_succ]
          refine wpAnyH_take (i := 6) (v := ?va_6) rfl (by kernel_rfl) (by kernel_rfl) (by kernel_rfl) (fun _ _ _ h => h) (Or.inl ⟨by first | kernel_rfl | rfl, ?ya_6⟩) hHeld ?ra_6
          case ya_6 => (intro W hSW; (try dsimp only at hSW); go_simp; (try with_reducible rfl))
          change wpAnyH _ _ _ _ _ _ _ (Act.put _ (some 52) _) _
          simp only [Act.put, List.setIfInBounds_toArray, List.set_cons_zero, List.set_cons_succ]
          refine wpAnyH_take (i := 7) (v := ?va_7) rfl (by kernel_rfl) (by kernel_rfl) (by kernel_rfl) (fun _ _ _ h => h) (Or.inl ⟨by first | kernel_rfl | rfl, ?ya_7⟩) hHeld ?ra_7
          case ya_7 => (intro W hSW; (try dsimp only at hSW); go_simp; (try with_reducible rfl))
          change wpAnyH _ _ _ _ _ _ _ (Act.put _ (some 10) _) _
          simp only [Act.put, List.setIfInBounds_toArray, List.set_cons_zero, List.set_cons_succ]
          refine wpAnyH_take (i := 8) (v := ?va_8) rfl (by kernel_rfl) (by kernel_rfl) (by kernel_rfl) (fun _ _ _ h => h) (Or.inl ⟨by first | kernel_rfl | rfl, ?ya_8⟩) hHeld ?ra_8
          case ya_8 => (intro W hSW; (try dsimp only at hSW); go_simp; (try with_reducible rfl))
          change wpAnyH _ _ _ _ _ _ _ (Act.put _ (some 11) _) _
          simp only [Act.put, List.setIfInBounds_toArray, List.set_cons_zero, List.set_cons_succ]
          refine wpAnyH_done (by kernel_rfl) ?_ _
          have hb46 : Below V4.heap.size V4 V6 := (Below.refl _ V4).drew.trans (hb5.trans (hb6.mono hb5.size))
          have rb6 := (hb46.block bx (lt_of_some H4.out.2)).trans H4.out.2
          have x0 : V6.cell? ⟨bx, 0, none⟩ = some (.int .u32 (n1 : Int)) := by rw [cell_of_row _ _ _ _ _ _ rb6]; rfl
          have x1 : V6.cell? ⟨bx, 1, none⟩ = some (.string s1) := by rw [cell_of_row _ _ _ _ _ _ rb6]; rfl
          have H6 : Hid (Below w.heap.size w V6 ∧ V6.heap[bx]? = some (.cells #[.int .u32 (n1 : Int), .string s1] 25 (0, 0))) := ⟨H4.out.1.trans (hb46.mono H4.out.1.size), rb6⟩
          rw [HR.out, HKB.out.1, HKB.out.2]
          have HNF := find_nilx n1 s1 V6
          have hke : ((kv : Int) == (kv : Int)) = true := by simp
          have hbe : (bv == bv) = true := by simp
          clear hb46 rb6 hix2 hb5 hb6 HNW2 HC4 HLT
          go_wp2_with fail
          refine HNF.mono ?_
          rintro e V7 ⟨rfl, hb7⟩
          have rb7 := (hb7.block bx (lt_of_some H6.out.2)).trans H6.out.2
          have x0 : V7.cell? ⟨bx, 0, none⟩ = some (.int .u32 (n1 : Int)) := by rw [cell_of_row _ _ _ _ _ _ rb7]; rfl
          have H7 : Hid (Below w.heap.size w V7) := H6.out.1.trans (hb7.mono H6.out.1.size)
          have HWN := weak_nilx n1 V7
          clear HNF hb7 rb7 x1
          go_wp2_with fail
          refine HWN.mono ?_
          rintro e V8 ⟨rfl, hb8⟩
          have H8 : Hid (Below w.heap.size w V8) := H7.out.trans (hb8.mono H7.out.size)
          have HLN := len_nilx V8
          clear HWN hb8 x0
          go_wp2_with fail
          refine HLN.mono ?_
          rintro e V9 ⟨rfl, hb9⟩
          have H9 : Hid (Below w.heap.size w V9) := H8.out.trans (hb9.mono H8.out.size)
          have HNN := new_index (show Gw (fun _ => True) V9 none 0 0 [] from Rw.zero _ V9 25 2 _ _ (Nat.zero_le _)) (fun s hs => by cases hs)
          clear HLN hb9
          go_wp2_with fail
          refine HNN.mono ?_
          rintro e VB ⟨gB, rfl, hixB, hbB, _⟩
          have HB0 : Hid (Below w.heap.size w VB) := H9.out.trans (hbB.mono H9.out.size)
          have HLB : Calls Tryd.prog 21 #[.pointer (some ⟨gB, 0, none⟩)] VB fun e w' => e = .returned (.int .i64 0) ∧ Below VB.heap.size VB w' := len_any hixB
          clear HNN hixB hbB
          go_wp2_with fail
          refine HLB.mono ?_
          rintro e VC ⟨rfl, hbC⟩
          have HB : Hid (Below w.heap.size w VC) := HB0.out.trans (hbC.mono HB0.out.size)
          clear HLB hbC
          go_wp2_with fail
          refine (HLV.out _ (HB.out)).mono ?_
          rintro e V ⟨rfl, hb⟩
          go_wp2
          go_ret
          exact ⟨rfl, hb⟩

set_option linter.unusedVariables false in
set_option maxRecDepth 100000 in
theorem lifted (os : Os) (started : os.Started) (H : Type) (enc : TypeId × Value → H) :
    ReturnsInHanded {} Tryd.checked os 8 .any (fun w args => (Rows.signOwnSpec.pre enc Tryd.prog Tryd.f8 [] false w args ∧ laidMetH Tryd.prog laid2 w) ∧ sizedMet enc Tryd.prog Tryd.f8 (OpenSpec.ofChange Rows.signOwnSpec) false w args) (Rows.signOwnSpec.post enc Tryd.prog Tryd.f8 false true false false) := by
  refine returnsInHanded_of_change_and (C := Tryd.checked) (X := fun w _ => laidMetH Tryd.prog laid2 w) (fun _ _ _ hh h => h.of_heap hh) own started (by kernel_rfl) Tryd.func8
    (ChangeSpec.witness_shaped (enc := enc) (C := Tryd.checked) (os := os) (X := fun w _ => laidMetH Tryd.prog laid2 w) false (World.doorLaid Tryd.prog 19 os) #[.slice none 0 0, .agg #[.int .u32 0, .string ByteArray.empty]] 8 rfl (World.shaped_of_RefB (by kernel_rfl) (by kernel_rfl)) (by kernel_rfl) (by kernel_rfl) (by kernel_rfl) (door_met os _)) ?_
  intro W base args ds gs before hval0 hW _ hsz0 hL _
  have hval : ∀ (j : Nat) t v, Tryd.f8.params[j]? = some t → args[j]? = some v → Value.okWide Tryd.prog W .any base t v := hval0
  have hsz : (DataW.weightsEach Tryd.prog (Tryd.f8.params.toList ++ Rows.signOwnSpec.plain.varTypes Tryd.prog) (ds ++ gs)).all (· ≤ reachBytes) = true := hsz0
  have hW' := hW
  obtain ⟨p, q, hA0, hV, rfl, hfz, hnd⟩ := hW
  have hA : DataW.TrodAll enc Tryd.prog W 0 (fun _ => true) true Tryd.f8.params.toList args.toList ds p := hA0
  rw [Tryd.params8] at hA hval hsz
  obtain ⟨v0, vs0, d0, ds0, p0, q0, hargs, rfl, rfl, h0, r0⟩ := trodAll_cons hA
  obtain ⟨v1, vs1, d1, ds1, p1, q1, rfl, rfl, rfl, h1, r1⟩ := trodAll_cons r0
  obtain ⟨rfl, rfl, rfl⟩ := trodAll_nil r1
  obtain rfl : args = #[v0, v1] := by cases args; simp_all
  obtain ⟨rfl, rfl⟩ := trodVars_none hV
  have k0 := h0
  have lt0 : ∀ x ∈ p0, x.block < W.heap.size := by obtain ⟨m, hm⟩ := k0; exact DataW.trod_lt m _ _ _ hm
  obtain ⟨a0, len0, cap0, rfl⟩ := okWide_slice Tryd.underlying34 (hval 0 34 v0 rfl rfl)
  obtain ⟨ss0, w0, z0⟩ : ∃ ss, Gs W a0 len0 cap0 ss ∧ ∀ s ∈ ss, s.1 < 4294967296 ∧ s.2.size ≤ 140737488351232 := by
    obtain ⟨fuel, hf⟩ := h0
    exact signs_of (j := 0) (by simpa [Value.cells] using hf) hsz rfl rfl
  have k1 := h1
  have lt1 : ∀ x ∈ p1, x.block < W.heap.size := by obtain ⟨m, hm⟩ := k1; exact DataW.trod_lt m _ _ _ hm
  obtain ⟨n1, s1, rfl, z1, u1⟩ := sign_arg (j := 1) (hval 1 25 v1 rfl rfl) h1 hsz rfl rfl
  clear hA0 hval0 hsz hsz0
  refine (walk a0 len0 cap0 ss0 z0 n1 s1 z1 u1 W w0 (of_laid hL)).mono fun e W' ⟨he, bel⟩ => ?_
  subst he
  exact ⟨_, rfl, _, _, _, [], _, [], hW', trodAll_mk1 (shut_bool Tryd.underlying4 _), (trodAll_cons_mk (Below.trod laidOut (by kernel_rfl) (of_decide_eq_true (by kernel_rfl)) k0 bel lt0) (trodAll_cons_mk (Below.trod laidOut (by kernel_rfl) (of_decide_eq_true (by kernel_rfl)) k1 bel lt1) trodAll_mk0)), rfl, bel.frame _, fun h => by cases h⟩

theorem over : Rows.signOwnRow.holds Tryd.pinned (OpenSpec.ofChange Rows.signOwnSpec) :=
  OpenClaim.holds_of_wide 8 Tryd.f8 rfl rfl rfl rfl rfl rfl rfl ⟨rfl, rfl, rfl, rfl, rfl⟩ rfl rfl rfl rfl rfl (by kernel_rfl) Tryd.func8 (by kernel_rfl)
    (of_decide_eq_true (by kernel_rfl)) (by unfold Func.isWrapper; first | (rw [if_pos (by decide +kernel)]; kernel_rfl) | (rw [if_neg (by decide +kernel)]; exact ⟨rfl, rfl⟩))
    (fun os started H enc _ => lifted os started H enc)

end Go.Proofs.YthmikfkdjnidmaaDoor.signOwn
namespace Go.Proofs.YthmikfkdjnidmaaDoor
/-- The given statement. -/
theorem signOwn_holds : Rows.SignOwnCardSaid :=
  Claim7.holds_tied_plain_at .later [] [.data, .data] true (true, "9366dbee3e6b8144bc6f035be57a0a175d8cc15111da3a5f955b6f509a08af4f") false
    signOwn.over (fun _ h => by cases h) (by kernel_rfl) (fun _ h => by cases h) signOwn_row_tie rfl ⟨rfl, rfl⟩ (by kernel_rfl) rfl
    (fun f fn hf hfn => by
      obtain rfl : f = 8 := Option.some.inj ((show Tryd.prog.funcNamed "strongroom/strongroomlaw10.SignOwn" = some 8 by kernel_rfl).symm.trans hf) |>.symm
      obtain rfl : fn = Tryd.f8 := (Option.some.inj (Tryd.func8.symm.trans hfn)).symm
      exact ⟨by kernel_rfl, fun j t ht => by
        rw [Tryd.params8] at ht
        rcases j with _ | _ | j
        · obtain rfl : t = 34 := by simpa using ht.symm
          exact (show Tryd.prog.wantsStandIn 34 = false by kernel_rfl)
        · obtain rfl : t = 25 := by simpa using ht.symm
          exact (show Tryd.prog.wantsStandIn 25 = false by kernel_rfl)
        · simp at ht
      ⟩)
    (by kernel_rfl)
#print axioms signOwn_holds
end Go.Proofs.YthmikfkdjnidmaaDoor
