/- A walk over the document's Put: a new content. -/
import Derived.Test.YtjpkngbjjgimjaaDoorLD
namespace Go.Proofs.YtjpkngbjjgimjaaDoor
open Go.RowKit
def cellN (w : World) (a : Addr) : Nat := match w.cell? a with
  | some (.int _ z) => z.toNat
  | _ => 0
set_option maxRecDepth 100000 in
set_option maxHeartbeats 800000 in
theorem rput_new {G : Nat → Prop} {w : World} {a : Option Addr} {n c : Nat} {L : List Cn} (h : Dw G w a n c L) (hn : n ≤ 1000) (data : ByteArray) (W : Nat) (hW : W ≤ 32) (hd : ¬ 128 < data.size) {m : Nat} (hno : ∀ e ∈ L, e.data ≠ data) (hm : m ≤ 255) (hfree : ∀ e ∈ L, ¬ (e.sum = digW W data ∧ e.n = m)) (hlow : ∀ j, j < m → ∃ e ∈ L, e.sum = digW W data ∧ e.n = j) : Calls Tryd.prog 13 #[.slice a n c, .string data, .int .i64 (W : Int)] w fun e w' => RpTo w (L ++ [⟨digW W data, m, 1, data⟩]) (digW W data) m 0 e w' := by
  obtain ⟨rb, hrb⟩ : ∃ rb, w.heap.size = rb := ⟨_, rfl⟩
  obtain ⟨W1, hW1, r1, hb1⟩ := box_id (w := w) ⟨#[]⟩ 0
  rw [hrb] at r1
  have hl := h.len
  have hmx := h.max
  have kd : ¬ (128 : Int) < (data.size : Int) := by omega
  have HD : Hid (∀ V, Calls Tryd.prog 20 #[.string data, .int .i64 (W : Int)] V fun e w' => e = .returned (.string (digW W data)) ∧ Below V.heap.size V w') := fun V => rdigest_any data W hW V (by omega)
  obtain ⟨dg, hdg⟩ : ∃ dg, digW W data = dg := ⟨_, rfl⟩
  rw [hdg] at HD hfree hlow ⊢
  have HAT : Hid (∀ V j, Below w.heap.size w V → j ≤ m → Calls Tryd.prog 28 #[.slice a n c, .agg #[.string dg, .int .i64 (j : Int)]] V fun e w' => AtTo V (atF L dg (j : Int)) e w') := fun V j hV _ => at_any (h.below hV) dg (j : Int)
  have HA : Hid ((∀ j : Nat, j < m → ∃ q, atF L dg (j : Int) = some q) ∧ atF L dg (m : Int) = none) := by
    refine ⟨fun j hj => ?_, at_no (fun e he hh => hfree e he ⟨hh.1, by omega⟩)⟩
    obtain ⟨e, he, h1, h2⟩ := hlow j hj
    cases ha : atF L dg (j : Int) with
    | some q => exact ⟨q, rfl⟩
    | none => exact absurd ⟨h1, by omega⟩ (at_none ha e he)
  have HDW : Hid (∀ V, Below w.heap.size w V → Dw G V a n c L) := fun V hV => h.below hV
  have HNO : Hid (∀ (j : Nat) (e : Cn), L[j]? = some e → e.data ≠ data) := fun j e he => hno e (List.mem_of_getElem? he)
  have HRB : Hid (w.heap.size = rb) := hrb
  have HW1 : Hid (Below w.heap.size w W1 ∧ W1.heap[rb]? = some (.cells #[.string ⟨#[]⟩, .int .i64 0] 35 (0, 0))) := ⟨hb1, r1⟩
  clear h hno hfree hlow r1 hb1 hdg
  go_enter Tryd.func13, Tryd.ntmps13
  go_wp2
  go_loopw [9] (fun vi wr => ∃ j : Nat, j ≤ n ∧ vi = .int .i64 j ∧ Below w.heap.size w wr ∧ wr.heap[rb]? = some (.cells #[.string ⟨#[]⟩, .int .i64 0] 35 (0, 0))) (fun vi _ => n - (intOf vi).toNat)
  case atStart => exact ⟨0, by omega, rfl, HW1.out⟩
  case round =>
    clear HW1
    obtain ⟨j, hj, rfl, hbw, hrr⟩ := hrel
    have HB0 : Hid (Below w.heap.size w wr ∧ wr.heap[rb]? = some (.cells #[.string ⟨#[]⟩, .int .i64 0] 35 (0, 0))) := ⟨hbw, hrr⟩
    by_cases hji : j < n
    · have kk : (j : Int) < (n : Int) := by omega
      obtain ⟨sb, so, rfl, _, hc⟩ := (HDW.out wr hbw).at (by omega)
      obtain ⟨e, he⟩ : ∃ e, L[j]? = some e := ⟨_, List.getElem?_eq_getElem (by omega)⟩
      have s3 := (hc j e he).2.2.2
      have hbe : (e.data.toList == data.toList) = false := str_nb (HNO.out j e he)
      obtain ⟨ed, hed⟩ : ∃ ed, e.data = ed := ⟨_, rfl⟩
      rw [hed] at s3 hbe
      clear hbw hrr he hed hc
      go_wp2
      exact ⟨⟨j + 1, by omega, by go_num, HB0.out⟩, by simp [intOf]; omega⟩
    · have kk : ¬ (j : Int) < (n : Int) := by omega
      have HDV := HD.out wr
      clear hbw hrr
      go_wp2_with fail
      refine HDV.mono ?_
      rintro e V1 ⟨rfl, hbv⟩
      obtain ⟨ib, hib⟩ : ∃ ib, V1.heap.size = ib := ⟨_, rfl⟩
      obtain ⟨V2, hV2, r2, hb2⟩ := box_id (w := V1) dg 0
      rw [hib] at r2
      have hbw1 : Below w.heap.size w V1 := HB0.out.1.trans (hbv.mono HB0.out.1.size)
      have hrr1 := (hbv.block rb (lt_of_some HB0.out.2)).trans HB0.out.2
      have HV2 : Hid (Below w.heap.size w V2 ∧ V2.heap[rb]? = some (.cells #[.string ⟨#[]⟩, .int .i64 0] 35 (0, 0)) ∧ V2.heap[ib]? = some (.cells #[.string dg, .int .i64 0] 35 (0, 0)) ∧ rb < ib) := ⟨hbw1.trans (hb2.mono hbw1.size), (hb2.block rb (lt_of_some hrr1)).trans hrr1, r2, by have := lt_of_some hrr1; omega⟩
      have HhV2 : Hid (_ = V2) := hV2
      clear HDV hbv hbw1 hrr1 r2 hb2 hV2
      go_wp2
      go_loopw [53] (fun _ wr => ∃ q : Nat, q ≤ m ∧ Below w.heap.size w wr ∧ wr.heap[rb]? = some (.cells #[.string ⟨#[]⟩, .int .i64 0] 35 (0, 0)) ∧ wr.heap[ib]? = some (.cells #[.string dg, .int .i64 (q : Int)] 35 (0, 0))) (fun _ wr => m - cellN wr ⟨ib, 1, none⟩)
      case atStart =>
        refine ⟨0, by omega, ?_⟩
        have e7 := HhV2.out
        first
          | exact ⟨HV2.out.1, HV2.out.2.1, HV2.out.2.2.1⟩
          | (rw [e7]; exact ⟨HV2.out.1, HV2.out.2.1, HV2.out.2.2.1⟩)
      case round =>
        obtain ⟨q, hq, hbw, hrr, hri⟩ := hrel
        rename World => wq
        have x0 : wq.cell? ⟨ib, 0, none⟩ = some (.string dg) := by rw [cell_of_row _ _ _ _ _ _ hri]; rfl
        have x1 : wq.cell? ⟨ib, 1, none⟩ = some (.int .i64 (q : Int)) := by rw [cell_of_row _ _ _ _ _ _ hri]; rfl
        have HAQ := HAT.out wq q hbw hq
        have HQ : Hid (Below w.heap.size w wq ∧ wq.heap[rb]? = some (.cells #[.string ⟨#[]⟩, .int .i64 0] 35 (0, 0)) ∧ wq.heap[ib]? = some (.cells #[.string dg, .int .i64 (q : Int)] 35 (0, 0)) ∧ cellN wq ⟨ib, 1, none⟩ = q) := ⟨hbw, hrr, hri, by unfold cellN; rw [x1]; simp⟩
        clear hbw hrr hri
        by_cases hqm : q < m
        · obtain ⟨p, hp⟩ := HA.out.1 q hqm
          rw [hp] at HAQ
          go_wp2_with fail
          refine HAQ.mono ?_
          rintro e V3 ⟨rfl, hb3⟩
          have ri3 := (hb3.block ib (lt_of_some HQ.out.2.2.1)).trans HQ.out.2.2.1
          have rr3 := (hb3.block rb (lt_of_some HQ.out.2.1)).trans HQ.out.2.1
          have y1 : V3.cell? ⟨ib, 1, none⟩ = some (.int .i64 (q : Int)) := by rw [cell_of_row _ _ _ _ _ _ ri3]; rfl
          have fy := frozen_of_row V3 ib 1 _ _ ri3
          have hp0 : (0 : Int) ≤ (p : Int) := by omega
          have hne : rb ≠ ib := by have := HV2.out.2.2.2; omega
          have HE : Hid (Below w.heap.size w (V3.setCell ⟨ib, 1, none⟩ (.int .i64 ((q + 1 : Nat) : Int))) ∧ (V3.setCell ⟨ib, 1, none⟩ (.int .i64 ((q + 1 : Nat) : Int))).heap[rb]? = some (.cells #[.string ⟨#[]⟩, .int .i64 0] 35 (0, 0)) ∧ (V3.setCell ⟨ib, 1, none⟩ (.int .i64 ((q + 1 : Nat) : Int))).heap[ib]? = some (.cells #[.string dg, .int .i64 ((q + 1 : Nat) : Int)] 35 (0, 0))) := by
            have hbq : Below w.heap.size w V3 := HQ.out.1.trans (hb3.mono HQ.out.1.size)
            refine ⟨hbq.setCell (by show _ ≤ ib; have := HRB.out; have := HV2.out.2.2.2; omega) _, (Below.heap_setCell _ _ _ _ hne).trans rr3, ?_⟩
            rw [heap_setCell_same _ _ _ _ _ _ ri3]
            rfl
          obtain ⟨q1, hq1⟩ : ∃ q1, q + 1 = q1 := ⟨_, rfl⟩
          rw [hq1] at HE
          have kq : (q : Int) + 1 = (q1 : Int) := by omega
          unfold atV
          clear HAQ hb3 ri3 rr3 x0 x1 hp
          go_wp2
          refine ⟨⟨q1, by omega, HE.out⟩, ?_⟩
          have e5 : cellN (V3.setCell ⟨ib, 1, none⟩ (.int .i64 (q1 : Int))) ⟨ib, 1, none⟩ = q1 := by unfold cellN; rw [cell_of_row _ _ _ _ _ _ HE.out.2.2]; simp
          have e6 := HQ.out.2.2.2
          omega
        · obtain rfl : q = m := by omega
          rw [HA.out.2] at HAQ
          go_wp2_with fail
          refine HAQ.mono ?_
          rintro e V3 ⟨rfl, hb3⟩
          have ri3 := (hb3.block ib (lt_of_some HQ.out.2.2.1)).trans HQ.out.2.2.1
          have rr3 := (hb3.block rb (lt_of_some HQ.out.2.1)).trans HQ.out.2.1
          have hbq : Below w.heap.size w V3 := HQ.out.1.trans (hb3.mono HQ.out.1.size)
          have y1 : V3.cell? ⟨ib, 1, none⟩ = some (.int .i64 (q : Int)) := by rw [cell_of_row _ _ _ _ _ _ ri3]; rfl
          have k255 : ¬ (255 : Int) < (q : Int) := by omega
          obtain ⟨aA, cA, VA, hrA, hoA, hgA, _⟩ := addD_own (m := n) V3 (show V3.ownsRow V3.heap.size 73 4 (.slice none 0 0) 0 (dnR []) from World.ownsRow_nil _ _ _ _) (HDW.out V3 hbq) (by omega) (Nat.le_refl _)
          simp only [Nat.zero_add, List.nil_append] at hrA hoA
          have hb3A : Below V3.heap.size V3 VA := (Below.refl _ V3).grown hgA (Nat.le_refl _) (fun z hz => by cases hz)
          obtain ⟨V4, hV4⟩ : ∃ V4, VA.drew.alloc (.cells #[.string dg, .int .i64 (q : Int), .int .i64 1, .string data] 73) = V4 := ⟨_, rfl⟩
          have r4 : V4.heap[VA.heap.size]? = some (.cells #[.string dg, .int .i64 (q : Int), .int .i64 1, .string data] 73 (0, 0)) := by rw [← hV4]; exact heap_alloc_new VA.drew _
          have hbA4 : Below VA.heap.size VA V4 := by rw [← hV4]; exact (Below.refl _ VA).drew.alloc (Nat.le_refl _) _
          have hb34 : Below V3.heap.size V3 V4 := hb3A.trans (hbA4.mono hb3A.size)
          have ho4 := own_keep hoA (W' := V4) (fun z hz => hbA4.block z (hoA.lt z hz).2)
          obtain ⟨aB, cB, V5, hrB, hoB, hgB, _⟩ := addD_own V4 ho4 (dnRow (c := ⟨dg, q, 1, data⟩) r4) (by omega) hb34.size
          have hb35 : Below V3.heap.size V3 V5 := hb34.grown hgB hb34.size (fun z hz => (ho4.lt z (by rw [ob_slice]; exact hz)).1)
          have ri5 := (hb35.block ib (lt_of_some ri3)).trans ri3
          have rr5 := (hb35.block rb (lt_of_some rr3)).trans rr3
          have SU : ∀ V : World, V.heap[ib]? = some (.cells #[.string dg, .int .i64 (q : Int)] 35 (0, 0)) → V.cell? ⟨ib, 0, none⟩ = some (.string dg) ∧ V.cell? ⟨ib, 1, none⟩ = some (.int .i64 (q : Int)) := fun V h1 => ⟨by rw [cell_of_row _ _ _ _ _ _ h1]; rfl, by rw [cell_of_row _ _ _ _ _ _ h1]; rfl⟩
          have hne : ib ≠ rb := by have := HV2.out.2.2.2; omega
          have HI3 : Hid (VA.drew.cell? ⟨ib, 0, none⟩ = some (.string dg) ∧ VA.drew.cell? ⟨ib, 1, none⟩ = some (.int .i64 (q : Int))) := SU VA.drew ((hb3A.block ib (lt_of_some ri3)).trans ri3)
          have HI4 : Hid (V4.cell? ⟨ib, 0, none⟩ = some (.string dg) ∧ V4.cell? ⟨ib, 1, none⟩ = some (.int .i64 (q : Int))) := SU V4 ((hb34.block ib (lt_of_some ri3)).trans ri3)
          have HI5 : Hid (V5.cell? ⟨ib, 0, none⟩ = some (.string dg) ∧ V5.cell? ⟨ib, 1, none⟩ = some (.int .i64 (q : Int))) := SU V5 ri5
          have HI6 : Hid (((V5.setCell ⟨rb, 0, none⟩ (.string dg)).setCell ⟨rb, 1, none⟩ (.int .i64 (q : Int))).cell? ⟨ib, 0, none⟩ = some (.string dg) ∧ ((V5.setCell ⟨rb, 0, none⟩ (.string dg)).setCell ⟨rb, 1, none⟩ (.int .i64 (q : Int))).cell? ⟨ib, 1, none⟩ = some (.int .i64 (q : Int))) := SU _ (((Below.heap_setCell _ _ _ _ hne).trans (Below.heap_setCell _ _ _ _ hne)).trans ri5)
          have HZ5 : Hid (V5.cell? ⟨rb, 0, none⟩ = some (.string ⟨#[]⟩) ∧ V5.cell? ⟨rb, 1, none⟩ = some (.int .i64 0) ∧ V5.frozen? ⟨rb, 0, none⟩ = false ∧ V5.frozen? ⟨rb, 1, none⟩ = false) := ⟨by rw [cell_of_row _ _ _ _ _ _ rr5]; rfl, by rw [cell_of_row _ _ _ _ _ _ rr5]; rfl, frozen_of_row V5 rb 0 _ _ rr5, frozen_of_row V5 rb 1 _ _ rr5⟩
          have HE : Hid (Dw (fun x => w.heap.size ≤ x) V5 aB (n + 1) cB (L ++ [⟨dg, q, 1, data⟩]) ∧ V5.heap[rb]? = some (.cells #[.string ⟨#[]⟩, .int .i64 0] 35 (0, 0)) ∧ Below w.heap.size w V5) := ⟨Rw.own hoB (fun _ hx => Nat.le_trans hbq.size hx), rr5, hbq.trans (hb35.mono hbq.size)⟩
          unfold atV
          clear HAQ hb3 ri3 rr3 x0 x1 hbq hoA hgA hb3A r4 hbA4 hb34 ho4 hoB hgB hb35 ri5 rr5 SU
          go_wp2_with ((at_builtin; refine wpList_app V3 rfl _ _ _ _ rfl rfl rfl (hrA _) (Stop.out ?_)))
          unfold Stop
          go_wp2
          refine wp_region_held_drew (S := fun W => W.cell? ⟨ib, 0, none⟩ = some (.string dg) ∧ W.cell? ⟨ib, 1, none⟩ = some (.int .i64 (q : Int))) (by kernel_rfl) (HI3.out) (fun hHeld => ?_)
          refine wpAnyH_take (i := 0) (v := ?vc_0) rfl (by kernel_rfl) (by kernel_rfl) (by kernel_rfl) (fun _ _ _ h => h) (Or.inl ⟨by first | kernel_rfl | rfl, ?yc_0⟩) hHeld ?rc_0
          case yc_0 => (intro W hSW; (try dsimp only at hSW); go_simp; (try with_reducible rfl))
          change wpAnyH _ _ _ _ _ _ _ (Act.put _ (some 64) _) _
          simp only [Act.put, List.setIfInBounds_toArray, List.set_cons_zero, List.set_cons_succ]
          refine wpAnyH_take (i := 1) (v := ?vc_1) rfl (by kernel_rfl) (by kernel_rfl) (by kernel_rfl) (fun _ _ _ h => h) (Or.inl ⟨by first | kernel_rfl | rfl, ?yc_1⟩) hHeld ?rc_1
          case yc_1 => (intro W hSW; (try dsimp only at hSW); go_simp; (try with_reducible rfl))
          change wpAnyH _ _ _ _ _ _ _ (Act.put _ (some 65) _) _
          simp only [Act.put, List.setIfInBounds_toArray, List.set_cons_zero, List.set_cons_succ]
          refine wpAnyH_take (i := 2) (v := ?vc_2) rfl (by kernel_rfl) (by kernel_rfl) (by kernel_rfl) (fun _ _ _ h => h) (Or.inl ⟨by first | kernel_rfl | rfl, ?yc_2⟩) hHeld ?rc_2
          case yc_2 => (intro W hSW; (try dsimp only at hSW); go_simp; (try with_reducible rfl))
          change wpAnyH _ _ _ _ _ _ _ (Act.put _ (some 66) _) _
          simp only [Act.put, List.setIfInBounds_toArray, List.set_cons_zero, List.set_cons_succ]
          refine wpAnyH_take (i := 3) (v := ?vc_3) rfl (by kernel_rfl) (by kernel_rfl) (by kernel_rfl) (fun _ _ _ h => h) (Or.inl ⟨by first | kernel_rfl | rfl, ?yc_3⟩) hHeld ?rc_3
          case yc_3 => (intro W hSW; (try dsimp only at hSW); go_simp; (try with_reducible rfl))
          change wpAnyH _ _ _ _ _ _ _ (Act.put _ (some 67) _) _
          simp only [Act.put, List.setIfInBounds_toArray, List.set_cons_zero, List.set_cons_succ]
          refine wpAnyH_take (i := 6) (v := ?vc_6) rfl (by kernel_rfl) (by kernel_rfl) (by kernel_rfl) (fun _ _ _ h => h) (Or.inl ⟨by first | kernel_rfl | rfl, ?yc_6⟩) hHeld ?rc_6
          case yc_6 => (intro W hSW; (try dsimp only at hSW); go_simp; (try with_reducible rfl))
          change wpAnyH _ _ _ _ _ _ _ (Act.put _ (some 70) _) _
          simp only [Act.put, List.setIfInBounds_toArray, List.set_cons_zero, List.set_cons_succ]
          refine wpAnyH_ready (rs := [4]) (by kernel_rfl) (by simp) ?_
          refine AllReadyH.cons rfl (fun K hK => ?_) AllReadyH.nil
          go_simp
          refine hK.out _ _ (HI4.out) (fun hHeld => ?_)
          clear hK K
          try simp only [Act.put, List.setIfInBounds_toArray, List.set_cons_zero, List.set_cons_succ]
          refine wpAnyH_ready (rs := [5]) (by kernel_rfl) (by simp) ?_
          refine AllReadyH.cons rfl (fun K hK => ?_) AllReadyH.nil
          rw [if_pos (by rfl)]
          refine wp_app V4 _ _ _ _ rfl rfl rfl (hrB _) ?_
          skip
          refine hK.out _ _ (HI5.out) (fun hHeld => ?_)
          clear hK K
          change wpAnyH _ _ _ _ _ _ _ (Act.put _ (some 69) _) _
          simp only [Act.put, List.setIfInBounds_toArray, List.set_cons_zero, List.set_cons_succ]
          refine wpAnyH_take (i := 7) (v := ?vc_7) rfl (by kernel_rfl) (by kernel_rfl) (by kernel_rfl) (fun _ _ _ h => h) (Or.inl ⟨by first | kernel_rfl | rfl, ?yc_7⟩) hHeld ?rc_7
          case yc_7 => (intro W hSW; (try dsimp only at hSW); go_simp; (try with_reducible rfl))
          change wpAnyH _ _ _ _ _ _ _ (Act.put _ (some 6) _) _
          simp only [Act.put, List.setIfInBounds_toArray, List.set_cons_zero, List.set_cons_succ]
          have z0 := HZ5.out.1
          have z1 := HZ5.out.2.1
          have f0 := HZ5.out.2.2.1
          have f1 := HZ5.out.2.2.2
          refine wpAnyH_ready (rs := [8]) (by kernel_rfl) (by simp) ?_
          refine AllReadyH.cons rfl (fun K hK => ?_) AllReadyH.nil
          go_simp
          refine hK.out _ _ (HI6.out) (fun hHeld => ?_)
          clear hK K
          refine wpAnyH_take (i := 9) (v := ?vc_9) rfl (by kernel_rfl) (by kernel_rfl) (by kernel_rfl) (fun _ _ _ h => h) (Or.inl ⟨by first | kernel_rfl | rfl, ?yc_9⟩) hHeld ?rc_9
          case yc_9 => (intro W hSW; (try dsimp only at hSW); go_simp; (try with_reducible rfl))
          change wpAnyH _ _ _ _ _ _ _ (Act.put _ (some 8) _) _
          simp only [Act.put, List.setIfInBounds_toArray, List.set_cons_zero, List.set_cons_succ]
          refine wpAnyH_done (by kernel_rfl) ?_ _
          go_wp2
          refine bodyPost_ret (v := .tuple #[.slice aB (n + 1) cB, .agg #[.string dg, .int .i64 (q : Int)], .int .i64 0]) ?_ rfl ⟨aB, n + 1, cB, rfl, HE.out.1.set HE.out.2.1 _ _, below2s HE.out.2.2 (Nat.le_of_eq HRB.out) _ _⟩
          exact res_put (fn := Tryd.f13) (p := 7) (q := 6) (s := 8) (by rfl) _ _ rb _ (by rfl) (set2 HE.out.2.1 _ _) infoI
end Go.Proofs.YtjpkngbjjgimjaaDoor
