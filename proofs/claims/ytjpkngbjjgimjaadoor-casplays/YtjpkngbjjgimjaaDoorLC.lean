/- Walks over the document's with, Change and Put. -/
import Derived.Test.YtjpkngbjjgimjaaDoorLB
import Derived.Test.YtjpkngbjjgimjaaDoorKW
namespace Go.Proofs.YtjpkngbjjgimjaaDoor
open Go.RowKit
/-- A goal at which the walk stands still. -/
def Stop (p : Prop) : Prop := p
theorem Stop.out {p : Prop} (h : Stop p) : p := h
/-- What with leaves. -/
def WiTo (w : World) (L : List Cn) (e : Ending) (w' : World) : Prop := ∃ (a : Option Addr) (n c : Nat), e = .returned (.slice a n c) ∧ Dw (fun x => w.heap.size ≤ x) w' a n c L ∧ Below w.heap.size w w'
theorem wrap_add1 {q q1 : Nat} (h : q + 1 = q1) (hq : q1 ≤ 1000000) : IntKind.i64.wrap ((q : Int) + 1) = (q1 : Int) := by
  rw [show (q : Int) + 1 = (q1 : Int) by omega]
  simp only [IntKind.wrap, IntKind.signed, IntKind.bits]
  simp
  omega
set_option maxRecDepth 100000 in
set_option maxHeartbeats 4000000 in
theorem with_any {G : Nat → Prop} {w : World} {a : Option Addr} {n c : Nat} {L : List Cn} (h : Dw G w a n c L) (hn : n ≤ 1000) (i r : Nat) (hi : i < n) : Calls Tryd.prog 27 #[.slice a n c, .int .i64 (i : Int), .int .i64 (r : Int)] w fun e w' => WiTo w (withL L i r) e w' := by
  have hl := h.len
  have hmx := h.max
  obtain ⟨sb, so, rfl, hsb, hc⟩ := h.at (by omega)
  obtain ⟨⟨c1, c2, c3, c4⟩, hci⟩ : ∃ d, L[i]? = some d := ⟨_, List.getElem?_eq_getElem (by omega)⟩
  obtain ⟨d0, d1, d2, d3⟩ := hc i _ hci
  simp only at d0 d1 d2 d3
  have hwl : withL L i r = L.take i ++ (if 0 < r then [⟨c1, c2, r, c4⟩] else []) ++ L.drop (i + 1) := by unfold withL; rw [hci]
  rw [hwl]
  have hpr := fun V => pre_cons (some ⟨sb, so, none⟩) n c i (by omega) V
  obtain ⟨i1, hi1⟩ : ∃ i1, i + 1 = i1 := ⟨_, rfl⟩
  have hof := fun V => off_cons (some ⟨sb, so, none⟩) n c i1 (by omega) V
  have hoff := h.off i1 (by omega)
  have ki1 : (i : Int) + 1 = (i1 : Int) := by omega
  rw [hi1]
  obtain ⟨aA, cA, V2, hrA, hoA, hgA, _⟩ := addD_own (m := i) w (show w.ownsRow w.heap.size 73 4 (.slice none 0 0) 0 (dnR []) from World.ownsRow_nil _ _ _ _) (h.pre i (by omega)) (by omega) (Nat.le_refl _)
  simp only [Nat.zero_add, List.nil_append] at hrA hoA
  obtain ⟨ca0, hca0⟩ : ∃ ca0, cutA (some ⟨sb, so, none⟩) c 0 4 = ca0 := ⟨_, rfl⟩
  obtain ⟨ca1, hca1⟩ : ∃ ca1, cutA (some ⟨sb, so, none⟩) c i1 4 = ca1 := ⟨_, rfl⟩
  obtain ⟨n1, hn1⟩ : ∃ n1, n - i1 = n1 := ⟨_, rfl⟩
  obtain ⟨cc, hcc⟩ : ∃ cc, c - i1 = cc := ⟨_, rfl⟩
  rw [hca0] at hpr hrA
  rw [hca1, hn1, hcc] at hof hoff
  clear hca0 hca1 hcc
  have hb2 : Below w.heap.size w V2 := (Below.refl _ w).grown hgA (Nat.le_refl _) (fun z hz => by cases hz)
  by_cases hr : 0 < r
  · have kr : (0 : Int) < (r : Int) := by omega
    rw [if_pos hr]
    obtain ⟨V3, hV3⟩ : ∃ V3, V2.drew.alloc (.cells #[.string c1, .int .i64 (c2 : Int), .int .i64 (r : Int), .string c4] 73) = V3 := ⟨_, rfl⟩
    have r3 : V3.heap[V2.heap.size]? = some (.cells #[.string c1, .int .i64 (c2 : Int), .int .i64 (r : Int), .string c4] 73 (0, 0)) := by rw [← hV3]; exact heap_alloc_new V2.drew _
    have hb23 : Below V2.heap.size V2 V3 := by rw [← hV3]; exact (Below.refl _ V2).drew.alloc (Nat.le_refl _) _
    have hb3 : Below w.heap.size w V3 := hb2.trans (hb23.mono hb2.size)
    have ho3 := own_keep hoA (W' := V3) (fun z hz => hb23.block z (hoA.lt z hz).2)
    obtain ⟨aB, cB, V4, hrB, hoB, hgB, _⟩ := addD_own V3 ho3 (dnRow (c := ⟨c1, c2, r, c4⟩) r3) (by omega) hb3.size
    have hb4 : Below w.heap.size w V4 := hb3.grown hgB hb3.size (fun z hz => (ho3.lt z (by rw [ob_slice]; exact hz)).1)
    obtain ⟨aC, cC, V5, hrC, hoC, hgC, _⟩ := addD_own V4 hoB (hoff.below hb4) (by omega) hb4.size
    have hb5 : Below w.heap.size w V5 := hb4.grown hgC hb4.size (fun z hz => (hoB.lt z (by rw [ob_slice]; exact hz)).1)
    have HS2 : Hid (V2.drew.cell? ⟨sb, so + i * 4, none⟩ = some (.string c1) ∧ V2.drew.cell? ⟨sb, so + i * 4 + 1, none⟩ = some (.int .i64 (c2 : Int)) ∧ V2.drew.cell? ⟨sb, so + i * 4 + 3, none⟩ = some (.string c4)) := ⟨by rw [hb2.drew.cell hsb]; exact d0, by rw [hb2.drew.cell hsb]; exact d1, by rw [hb2.drew.cell hsb]; exact d3⟩
    have HS3 : Hid (V3.cell? ⟨sb, so + i * 4, none⟩ = some (.string c1) ∧ V3.cell? ⟨sb, so + i * 4 + 1, none⟩ = some (.int .i64 (c2 : Int)) ∧ V3.cell? ⟨sb, so + i * 4 + 3, none⟩ = some (.string c4)) := ⟨by rw [hb3.cell hsb]; exact d0, by rw [hb3.cell hsb]; exact d1, by rw [hb3.cell hsb]; exact d3⟩
    have HS4 : Hid (V4.cell? ⟨sb, so + i * 4, none⟩ = some (.string c1) ∧ V4.cell? ⟨sb, so + i * 4 + 1, none⟩ = some (.int .i64 (c2 : Int)) ∧ V4.cell? ⟨sb, so + i * 4 + 3, none⟩ = some (.string c4)) := ⟨by rw [hb4.cell hsb]; exact d0, by rw [hb4.cell hsb]; exact d1, by rw [hb4.cell hsb]; exact d3⟩
    rw [hi1] at hrB hrC hoC
    have HE : Hid (WiTo w ((L.take i ++ [⟨c1, c2, r, c4⟩]) ++ L.drop i1) (.returned (.slice aC (i1 + n1) cC)) V5) := ⟨aC, _, cC, rfl, Rw.own hoC (fun _ hx => hx), hb5⟩
    clear h hc hci hwl hoff hoA hgA hb2 r3 hb23 hb3 ho3 hoB hgB hb4 hoC hgC hb5 d0 d1 d2 d3
    go_enter Tryd.func27, Tryd.ntmps27
    go_wp2_with ((at_builtin; refine wpList_app w rfl _ _ _ _ rfl rfl rfl (hrA _) (Stop.out ?_)))
    unfold Stop
    go_wp2
    refine wp_region_held_drew (S := fun W => W.cell? ⟨sb, so + i * 4, none⟩ = some (.string c1) ∧ W.cell? ⟨sb, so + i * 4 + 1, none⟩ = some (.int .i64 (c2 : Int)) ∧ W.cell? ⟨sb, so + i * 4 + 3, none⟩ = some (.string c4)) (by kernel_rfl) (HS2.out) (fun hHeld => ?_)
    refine wpAnyH_take (i := 0) (v := ?va_0) rfl (by kernel_rfl) (by kernel_rfl) (by kernel_rfl) (fun _ _ _ h => h) (Or.inl ⟨by first | kernel_rfl | rfl, ?ya_0⟩) hHeld ?ra_0
    case ya_0 => (intro W hSW; (try dsimp only at hSW); go_simp; (try with_reducible rfl))
    change wpAnyH _ _ _ _ _ _ _ (Act.put _ (some 15) _) _
    simp only [Act.put, List.setIfInBounds_toArray, List.set_cons_zero, List.set_cons_succ]
    refine wpAnyH_take (i := 1) (v := ?va_1) rfl (by kernel_rfl) (by kernel_rfl) (by kernel_rfl) (fun _ _ _ h => h) (Or.inl ⟨by first | kernel_rfl | rfl, ?ya_1⟩) hHeld ?ra_1
    case ya_1 => (intro W hSW; (try dsimp only at hSW); go_simp; (try with_reducible rfl))
    change wpAnyH _ _ _ _ _ _ _ (Act.put _ (some 16) _) _
    simp only [Act.put, List.setIfInBounds_toArray, List.set_cons_zero, List.set_cons_succ]
    refine wpAnyH_take (i := 2) (v := ?va_2) rfl (by kernel_rfl) (by kernel_rfl) (by kernel_rfl) (fun _ _ _ h => h) (Or.inl ⟨by first | kernel_rfl | rfl, ?ya_2⟩) hHeld ?ra_2
    case ya_2 => (intro W hSW; (try dsimp only at hSW); go_simp; (try with_reducible rfl))
    change wpAnyH _ _ _ _ _ _ _ (Act.put _ (some 17) _) _
    simp only [Act.put, List.setIfInBounds_toArray, List.set_cons_zero, List.set_cons_succ]
    refine wpAnyH_take (i := 3) (v := ?va_3) rfl (by kernel_rfl) (by kernel_rfl) (by kernel_rfl) (fun _ _ _ h => h) (Or.inl ⟨by first | kernel_rfl | rfl, ?ya_3⟩) hHeld ?ra_3
    case ya_3 => (intro W hSW; (try dsimp only at hSW); go_simp; (try with_reducible rfl))
    change wpAnyH _ _ _ _ _ _ _ (Act.put _ (some 18) _) _
    simp only [Act.put, List.setIfInBounds_toArray, List.set_cons_zero, List.set_cons_succ]
    refine wpAnyH_take (i := 4) (v := ?va_4) rfl (by kernel_rfl) (by kernel_rfl) (by kernel_rfl) (fun _ _ _ h => h) (Or.inl ⟨by first | kernel_rfl | rfl, ?ya_4⟩) hHeld ?ra_4
    case ya_4 => (intro W hSW; (try dsimp only at hSW); go_simp; (try with_reducible rfl))
    change wpAnyH _ _ _ _ _ _ _ (Act.put _ (some 19) _) _
    simp only [Act.put, List.setIfInBounds_toArray, List.set_cons_zero, List.set_cons_succ]
    refine wpAnyH_take (i := 5) (v := ?va_5) rfl (by kernel_rfl) (by kernel_rfl) (by kernel_rfl) (fun _ _ _ h => h) (Or.inl ⟨by first | kernel_rfl | rfl, ?ya_5⟩) hHeld ?ra_5
    case ya_5 => (intro W hSW; (try dsimp only at hSW); go_simp; (try with_reducible rfl))
    change wpAnyH _ _ _ _ _ _ _ (Act.put _ (some 20) _) _
    simp only [Act.put, List.setIfInBounds_toArray, List.set_cons_zero, List.set_cons_succ]
    refine wpAnyH_take (i := 6) (v := ?va_6) rfl (by kernel_rfl) (by kernel_rfl) (by kernel_rfl) (fun _ _ _ h => h) (Or.inl ⟨by first | kernel_rfl | rfl, ?ya_6⟩) hHeld ?ra_6
    case ya_6 => (intro W hSW; (try dsimp only at hSW); go_simp; (try with_reducible rfl))
    change wpAnyH _ _ _ _ _ _ _ (Act.put _ (some 21) _) _
    simp only [Act.put, List.setIfInBounds_toArray, List.set_cons_zero, List.set_cons_succ]
    refine wpAnyH_take (i := 7) (v := ?va_7) rfl (by kernel_rfl) (by kernel_rfl) (by kernel_rfl) (fun _ _ _ h => h) (Or.inl ⟨by first | kernel_rfl | rfl, ?ya_7⟩) hHeld ?ra_7
    case ya_7 => (intro W hSW; (try dsimp only at hSW); go_simp; (try with_reducible rfl))
    change wpAnyH _ _ _ _ _ _ _ (Act.put _ (some 22) _) _
    simp only [Act.put, List.setIfInBounds_toArray, List.set_cons_zero, List.set_cons_succ]
    refine wpAnyH_take (i := 8) (v := ?va_8) rfl (by kernel_rfl) (by kernel_rfl) (by kernel_rfl) (fun _ _ _ h => h) (Or.inl ⟨by first | kernel_rfl | rfl, ?ya_8⟩) hHeld ?ra_8
    case ya_8 => (intro W hSW; (try dsimp only at hSW); go_simp; (try with_reducible rfl))
    change wpAnyH _ _ _ _ _ _ _ (Act.put _ (some 23) _) _
    simp only [Act.put, List.setIfInBounds_toArray, List.set_cons_zero, List.set_cons_succ]
    refine wpAnyH_take (i := 9) (v := ?va_9) rfl (by kernel_rfl) (by kernel_rfl) (by kernel_rfl) (fun _ _ _ h => h) (Or.inl ⟨by first | kernel_rfl | rfl, ?ya_9⟩) hHeld ?ra_9
    case ya_9 => (intro W hSW; (try dsimp only at hSW); go_simp; (try with_reducible rfl))
    change wpAnyH _ _ _ _ _ _ _ (Act.put _ (some 24) _) _
    simp only [Act.put, List.setIfInBounds_toArray, List.set_cons_zero, List.set_cons_succ]
    refine wpAnyH_take (i := 10) (v := ?va_10) rfl (by kernel_rfl) (by kernel_rfl) (by kernel_rfl) (fun _ _ _ h => h) (Or.inl ⟨by first | kernel_rfl | rfl, ?ya_10⟩) hHeld ?ra_10
    case ya_10 => (intro W hSW; (try dsimp only at hSW); go_simp; (try with_reducible rfl))
    change wpAnyH _ _ _ _ _ _ _ (Act.put _ (some 25) _) _
    simp only [Act.put, List.setIfInBounds_toArray, List.set_cons_zero, List.set_cons_succ]
    refine wpAnyH_take (i := 11) (v := ?va_11) rfl (by kernel_rfl) (by kernel_rfl) (by kernel_rfl) (fun _ _ _ h => h) (Or.inl ⟨by first | kernel_rfl | rfl, ?ya_11⟩) hHeld ?ra_11
    case ya_11 => (intro W hSW; (try dsimp only at hSW); go_simp; (try with_reducible rfl))
    change wpAnyH _ _ _ _ _ _ _ (Act.put _ (some 26) _) _
    simp only [Act.put, List.setIfInBounds_toArray, List.set_cons_zero, List.set_cons_succ]
    refine wpAnyH_take (i := 12) (v := ?va_12) rfl (by kernel_rfl) (by kernel_rfl) (by kernel_rfl) (fun _ _ _ h => h) (Or.inl ⟨by first | kernel_rfl | rfl, ?ya_12⟩) hHeld ?ra_12
    case ya_12 => (intro W hSW; (try dsimp only at hSW); go_simp; (try with_reducible rfl))
    change wpAnyH _ _ _ _ _ _ _ (Act.put _ (some 27) _) _
    simp only [Act.put, List.setIfInBounds_toArray, List.set_cons_zero, List.set_cons_succ]
    refine wpAnyH_ready (rs := [13]) (by kernel_rfl) (by simp) ?_
    refine AllReadyH.cons rfl (fun K hK => ?_) AllReadyH.nil
    go_simp
    refine hK.out _ _ (HS3.out) (fun hHeld => ?_)
    clear hK K
    try simp only [Act.put, List.setIfInBounds_toArray, List.set_cons_zero, List.set_cons_succ]
    refine wpAnyH_ready (rs := [14]) (by kernel_rfl) (by simp) ?_
    refine AllReadyH.cons rfl (fun K hK => ?_) AllReadyH.nil
    rw [if_pos (by rfl)]
    refine wp_app V3 _ _ _ _ rfl rfl rfl (hrB _) ?_
    skip
    refine hK.out _ _ (HS4.out) (fun hHeld => ?_)
    clear hK K
    change wpAnyH _ _ _ _ _ _ _ (Act.put _ (some 29) _) _
    simp only [Act.put, List.setIfInBounds_toArray, List.set_cons_zero, List.set_cons_succ]
    refine wpAnyH_take (i := 15) (v := ?va_15) rfl (by kernel_rfl) (by kernel_rfl) (by kernel_rfl) (fun _ _ _ h => h) (Or.inl ⟨by first | kernel_rfl | rfl, ?ya_15⟩) hHeld ?ra_15
    case ya_15 => (intro W hSW; (try dsimp only at hSW); go_simp; (try with_reducible rfl))
    change wpAnyH _ _ _ _ _ _ _ (Act.put _ (some 7) _) _
    simp only [Act.put, List.setIfInBounds_toArray, List.set_cons_zero, List.set_cons_succ]
    refine wpAnyH_done (by kernel_rfl) ?_ _
    go_wp2_with ((at_builtin; refine wpList_app V4 rfl _ _ _ _ rfl rfl rfl (hrC _) ?_))
    go_ret
    exact HE.out
  · have kr : ¬ (0 : Int) < (r : Int) := by omega
    rw [if_neg hr, List.append_nil]
    obtain ⟨aC, cC, V5, hrC, hoC, hgC, _⟩ := addD_own V2 hoA (hoff.below hb2) (by omega) hb2.size
    have hb5 : Below w.heap.size w V5 := hb2.grown hgC hb2.size (fun z hz => (hoA.lt z (by rw [ob_slice]; exact hz)).1)
    have HE : Hid (WiTo w (L.take i ++ L.drop i1) (.returned (.slice aC (i + n1) cC)) V5) := ⟨aC, _, cC, rfl, Rw.own hoC (fun _ hx => hx), hb5⟩
    clear h hc hci hwl hoff hoA hgA hb2 hoC hgC hb5 d0 d1 d2 d3
    go_enter Tryd.func27, Tryd.ntmps27
    go_wp2_with ((at_builtin; refine wpList_app w rfl _ _ _ _ rfl rfl rfl (hrA _) (Stop.out ?_)))
    unfold Stop
    go_wp2_with ((at_builtin; refine wpList_app V2 rfl _ _ _ _ rfl rfl rfl (hrC _) ?_))
    go_ret
    exact HE.out
/-- What Change leaves. -/
def ChTo (w : World) (L : List Cn) (er : Int) (e : Ending) (w' : World) : Prop := ∃ (a : Option Addr) (n c : Nat), e = .returned (.tuple #[.slice a n c, .int .i64 er]) ∧ Dw (fun x => w.heap.size ≤ x) w' a n c L ∧ Below w.heap.size w w'
set_option maxRecDepth 100000 in
set_option maxHeartbeats 1000000 in
theorem change_no {G : Nat → Prop} {w : World} {a : Option Addr} {n c : Nat} {L : List Cn} (h : Dw G w a n c L) (s : ByteArray) (m by_ : Int) (ha : atF L s m = none) : Calls Tryd.prog 15 #[.slice a n c, .agg #[.string s, .int .i64 m], .int .i64 by_] w fun e w' => e = .returned (.tuple #[.slice a n c, .int .i64 6]) ∧ Below w.heap.size w w' := by
  obtain ⟨bx, hbx⟩ : ∃ bx, w.heap.size = bx := ⟨_, rfl⟩
  obtain ⟨W1, hW1, r1, hb1⟩ := box_id (w := w) s m
  rw [hbx] at r1
  have x0 : W1.cell? ⟨bx, 0, none⟩ = some (.string s) := by rw [cell_of_row _ _ _ _ _ _ r1]; rfl
  have x1 : W1.cell? ⟨bx, 1, none⟩ = some (.int .i64 m) := by rw [cell_of_row _ _ _ _ _ _ r1]; rfl
  have HAT := at_any (h.below hb1) s m
  rw [ha] at HAT
  have HH : Hid (Below w.heap.size w W1 ∧ w.heap.size = bx) := ⟨hb1, hbx⟩
  clear h r1 hb1
  go_enter Tryd.func15, Tryd.ntmps15
  go_wp2_with fail
  refine HAT.mono ?_
  rintro e V ⟨rfl, hb⟩
  have HB : Hid (Below w.heap.size w V) := HH.out.1.trans (hb.mono HH.out.1.size)
  unfold atV
  clear HAT hb x0 x1
  go_wp2
  refine bodyPost_ret (v := .tuple #[.slice a n c, .int .i64 6]) ?_ rfl ⟨rfl, HB.out⟩
  simp [results, go_sem]
set_option maxRecDepth 100000 in
set_option maxHeartbeats 1000000 in
theorem change_yes {G : Nat → Prop} {w : World} {a : Option Addr} {n c : Nat} {L : List Cn} (h : Dw G w a n c L) (hn : n ≤ 1000) (s : ByteArray) (m by_ : Int) {i r : Nat} {d : Cn} (ha : atF L s m = some i) (hd : L[i]? = some d) (hr : (d.refs : Int) + by_ = (r : Int)) (hrb : d.refs ≤ 1000000 ∧ r ≤ 1000000) : Calls Tryd.prog 15 #[.slice a n c, .agg #[.string s, .int .i64 m], .int .i64 by_] w fun e w' => ChTo w (withL L i r) 0 e w' := by
  obtain ⟨bx, hbx⟩ : ∃ bx, w.heap.size = bx := ⟨_, rfl⟩
  obtain ⟨W1, hW1, r1, hb1⟩ := box_id (w := w) s m
  rw [hbx] at r1
  have hl := h.len
  have hi : i < n := by have := (List.getElem?_eq_some_iff.1 hd).1; omega
  have hmx := h.max
  have x0 : W1.cell? ⟨bx, 0, none⟩ = some (.string s) := by rw [cell_of_row _ _ _ _ _ _ r1]; rfl
  have x1 : W1.cell? ⟨bx, 1, none⟩ = some (.int .i64 m) := by rw [cell_of_row _ _ _ _ _ _ r1]; rfl
  have HAT := at_any (h.below hb1) s m
  rw [ha] at HAT
  obtain ⟨d1, d2, d3, d4⟩ := d
  simp only at hr hrb
  have HH : Hid (Below w.heap.size w W1 ∧ w.heap.size = bx ∧ Dw G W1 a n c L ∧ L[i]? = some ⟨d1, d2, d3, d4⟩) := ⟨hb1, hbx, h.below hb1, hd⟩
  clear h r1 hb1 hd ha
  go_enter Tryd.func15, Tryd.ntmps15
  go_wp2_with fail
  refine HAT.mono ?_
  rintro e V ⟨rfl, hb⟩
  have hdV := HH.out.2.2.1.below hb
  obtain ⟨sb, so, rfl, _, hc⟩ := hdV.at (by omega)
  obtain ⟨_, _, c2, _⟩ := hc i _ HH.out.2.2.2
  simp only at c2
  have HWI := with_any hdV hn i r hi
  have HB : Hid (Below w.heap.size w V) := HH.out.1.trans (hb.mono HH.out.1.size)
  have ki : ¬ (i : Int) < 0 := by omega
  have kin : (i : Int) < (n : Int) := by omega
  unfold atV
  clear HAT hb x0 x1 hdV hc
  go_wp2_with fail
  refine HWI.mono ?_
  rintro e V2 ⟨a2, n2, c2', rfl, hd2, hb2⟩
  have HE : Hid (Dw (fun x => w.heap.size ≤ x) V2 a2 n2 c2' (withL L i r) ∧ Below w.heap.size w V2) := ⟨Rw.mono hd2 (fun _ hx _ => Nat.le_trans HB.out.size hx), HB.out.trans (hb2.mono HB.out.size)⟩
  clear HWI hd2 hb2
  go_wp2
  refine bodyPost_ret (v := .tuple #[.slice a2 n2 c2', .int .i64 0]) ?_ rfl ⟨a2, n2, c2', rfl, HE.out.1, HE.out.2⟩
  simp [results, go_sem]
end Go.Proofs.YtjpkngbjjgimjaaDoor
