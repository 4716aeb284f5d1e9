/- A walk over the document's Put. -/
import Derived.Test.YtjpkngbjjgimjaaDoorLC
namespace Go.Proofs.YtjpkngbjjgimjaaDoor
open Go.RowKit
theorem res_put {fn : Func} {p q s : Tmp} (h : fn.results = #[.tmp q, .cell p 35, .tmp s]) (tmps : Array Value) (w : World) (g : Nat) (cs : Array Value) (hp : tmps.getD p undef = .pointer (some ⟨g, 0, none⟩)) (hg : w.heap[g]? = some (.cells cs 35 (0, 0))) (hi : (Tryd.prog.info? 35).map (·.size) = some cs.size) :
    (results fn tmps).run Tryd.prog w = .ok (.tuple #[tmps.getD q undef, .agg cs, tmps.getD s undef]) w := by
  have hp' : tmps[p]?.getD undef = .pointer (some ⟨g, 0, none⟩) := by simpa using hp
  have hl := run_loadVar_row (P := Tryd.prog) w g 35 35 cs (0, 0) _ hg Tryd.underlying35 rfl hi
  simp [results, h, hp', asAddr, hl]
theorem below2s {B rb : Nat} {w V : World} (h : Below B w V) (hr : B ≤ rb) (x0 x1 : Value) : Below B w ((V.setCell ⟨rb, 0, none⟩ x0).setCell ⟨rb, 1, none⟩ x1) := (h.setCell hr _).setCell hr _
/-- What Put leaves. -/
def RpTo (w : World) (L : List Cn) (s : ByteArray) (n : Nat) (er : Int) (e : Ending) (w' : World) : Prop := ∃ (a : Option Addr) (k c : Nat), e = .returned (.tuple #[.slice a k c, .agg #[.string s, .int .i64 (n : Int)], .int .i64 er]) ∧ Dw (fun x => w.heap.size ≤ x) w' a k c L ∧ Below w.heap.size w w'
theorem Dw.set {G : Nat → Prop} {w : World} {a : Option Addr} {len cap rb : Nat} {l : List Cn} (h : Dw G w a len cap l) {cs : Array Value} (hr : w.heap[rb]? = some (.cells cs 35 (0, 0))) (x0 x1 : Value) : Dw G ((w.setCell ⟨rb, 0, none⟩ x0).setCell ⟨rb, 1, none⟩ x1) a len cap l := by
  obtain ⟨h1, h2, h3, h4⟩ := h
  refine ⟨h1, h2, h3, fun h0 => ?_⟩
  obtain ⟨b, o, rfl, ⟨cur, fr, hb⟩, hg, hc⟩ := h4 h0
  have hne : b ≠ rb := fun e => by
    subst e
    rw [hb] at hr
    simp only [Option.some.injEq, Obj.cells.injEq] at hr
    exact absurd hr.2.1 (by decide)
  have e : ((w.setCell ⟨rb, 0, none⟩ x0).setCell ⟨rb, 1, none⟩ x1).heap[b]? = w.heap[b]? := (Below.heap_setCell _ _ _ _ hne).trans (Below.heap_setCell _ _ _ _ hne)
  exact ⟨b, o, rfl, ⟨cur, fr, e.trans hb⟩, hg, fun j u hu => by rw [World.cell?_of_block (w := w) e]; exact hc j u hu⟩
set_option maxRecDepth 100000 in
set_option maxHeartbeats 1000000 in
theorem rput_long {w : World} {a : Option Addr} {n c : Nat} (data : ByteArray) (W : Int) (hd : 128 < data.size) : Calls Tryd.prog 13 #[.slice a n c, .string data, .int .i64 W] w fun e w' => e = .returned (.tuple #[.slice a n c, .agg #[.string ⟨#[]⟩, .int .i64 0], .int .i64 2]) ∧ Below w.heap.size w w' := by
  obtain ⟨rb, hrb⟩ : ∃ rb, w.heap.size = rb := ⟨_, rfl⟩
  obtain ⟨W1, hW1, r1, hb1⟩ := box_id (w := w) ⟨#[]⟩ 0
  rw [hrb] at r1
  have z0 : W1.cell? ⟨rb, 0, none⟩ = some (.string ⟨#[]⟩) := by rw [cell_of_row _ _ _ _ _ _ r1]; rfl
  have z1 : W1.cell? ⟨rb, 1, none⟩ = some (.int .i64 0) := by rw [cell_of_row _ _ _ _ _ _ r1]; rfl
  have f0 := frozen_of_row W1 rb 0 _ _ r1
  have f1 := frozen_of_row W1 rb 1 _ _ r1
  have kd : (128 : Int) < (data.size : Int) := by omega
  have HH : Hid (Below w.heap.size w W1 ∧ W1.heap[rb]? = some (.cells #[.string ⟨#[]⟩, .int .i64 0] 35 (0, 0)) ∧ w.heap.size = rb) := ⟨hb1, r1, hrb⟩
  clear r1 hb1
  go_enter Tryd.func13, Tryd.ntmps13
  go_wp2
  refine bodyPost_ret (v := .tuple #[.slice a n c, .agg #[.string ⟨#[]⟩, .int .i64 0], .int .i64 2]) ?_ rfl ⟨rfl, below2s HH.out.1 (Nat.le_of_eq HH.out.2.2) _ _⟩
  exact res_put (fn := Tryd.f13) (p := 7) (q := 6) (s := 8) (by rfl) _ _ rb _ (by rfl) (set2 HH.out.2.1 _ _) infoI
set_option maxRecDepth 100000 in
set_option maxHeartbeats 800000 in
theorem rput_old {G : Nat → Prop} {w : World} {a : Option Addr} {n c : Nat} {L : List Cn} (h : Dw G w a n c L) (hn : n ≤ 1000) (data : ByteArray) (W : Int) (hd : ¬ 128 < data.size) {i c31 : Nat} {d : Cn} (hi : L[i]? = some d) (hdd : d.data = data) (hbe : ∀ j, j < i → ∀ e, L[j]? = some e → e.data ≠ data) (hr : d.refs + 1 = c31) (hr1 : c31 ≤ 1000000) : Calls Tryd.prog 13 #[.slice a n c, .string data, .int .i64 W] w fun e w' => RpTo w (withL L i c31) d.sum d.n 0 e w' := by
  obtain ⟨rb, hrb⟩ : ∃ rb, w.heap.size = rb := ⟨_, rfl⟩
  obtain ⟨W1, hW1, r1, hb1⟩ := box_id (w := w) ⟨#[]⟩ 0
  rw [hrb] at r1
  have hl := h.len
  have hmx := h.max
  have hin : i < n := by have := (List.getElem?_eq_some_iff.1 hi).1; omega
  obtain ⟨sb, so, rfl, hsb, hc⟩ := h.at (by omega)
  obtain ⟨c1, c2, c3, c4⟩ := d
  simp only at hdd hr ⊢
  subst hdd
  have kd : ¬ (128 : Int) < (c4.size : Int) := by omega
  have HC0 : Hid (∀ V, Below w.heap.size w V → V.cell? ⟨sb, so + i * 4, none⟩ = some (.string c1) ∧ V.cell? ⟨sb, so + i * 4 + 1, none⟩ = some (.int .i64 (c2 : Int)) ∧ V.cell? ⟨sb, so + i * 4 + 2, none⟩ = some (.int .i64 (c3 : Int))) := fun V hV => by
    obtain ⟨d0, d1, d2, d3⟩ := hc i _ hi
    exact ⟨by rw [hV.cell hsb]; exact d0, by rw [hV.cell hsb]; exact d1, by rw [hV.cell hsb]; exact d2⟩
  have HCD : Hid (∀ V, Below w.heap.size w V → ∀ j e, L[j]? = some e → V.cell? ⟨sb, so + j * 4 + 3, none⟩ = some (.string e.data)) := fun V hV j e he => by
    rw [hV.cell hsb]
    exact (hc j e he).2.2.2
  have HWI : Hid (∀ V, Below w.heap.size w V → Calls Tryd.prog 27 #[.slice (some ⟨sb, so, none⟩) n c, .int .i64 (i : Int), .int .i64 (c31 : Int)] V fun e w' => WiTo V (withL L i c31) e w') := fun V hV => with_any (h.below hV) hn i c31 hin
  have HL : Hid (L[i]? = some ⟨c1, c2, c3, c4⟩ ∧ ∀ j, j < i → ∀ e, L[j]? = some e → e.data ≠ c4) := ⟨hi, hbe⟩
  have HRB : Hid (w.heap.size = rb) := hrb
  have HW1 : Hid (Below w.heap.size w W1 ∧ W1.heap[rb]? = some (.cells #[.string ⟨#[]⟩, .int .i64 0] 35 (0, 0))) := ⟨hb1, r1⟩
  have kr1 : (c3 : Int) + 1 = (c31 : Int) := by omega
  have wr1 : IntKind.i64.wrap ((c3 : Int) + 1) = (c31 : Int) := wrap_add1 hr hr1
  have wr2 : IntKind.i64.wrap (c31 : Int) = (c31 : Int) := by have := wr1; rwa [kr1] at this
  clear h hc hi hbe r1 hb1
  go_enter Tryd.func13, Tryd.ntmps13
  go_wp2
  go_loopw [9] (fun vi wr => ∃ j : Nat, j ≤ i ∧ vi = .int .i64 j ∧ Below w.heap.size w wr ∧ wr.heap[rb]? = some (.cells #[.string ⟨#[]⟩, .int .i64 0] 35 (0, 0))) (fun vi _ => i - (intOf vi).toNat)
  case atStart => exact ⟨0, by omega, rfl, HW1.out⟩
  case round =>
    clear HW1
    obtain ⟨j, hj, rfl, hbw, hrr⟩ := hrel
    have HB0 : Hid (Below w.heap.size w wr ∧ wr.heap[rb]? = some (.cells #[.string ⟨#[]⟩, .int .i64 0] 35 (0, 0))) := ⟨hbw, hrr⟩
    have kk : (j : Int) < (n : Int) := by omega
    by_cases hji : j < i
    · obtain ⟨e, he⟩ : ∃ e, L[j]? = some e := ⟨_, List.getElem?_eq_getElem (by omega)⟩
      have s3 := HCD.out wr hbw j e he
      have hbe : (e.data.toList == c4.toList) = false := str_nb (HL.out.2 j hji e he)
      obtain ⟨ed, hed⟩ : ∃ ed, e.data = ed := ⟨_, rfl⟩
      rw [hed] at s3 hbe
      clear hbw hrr he hed
      go_wp2
      exact ⟨⟨j + 1, by omega, by go_num, HB0.out⟩, by simp [intOf]; omega⟩
    · obtain rfl : i = j := by omega
      have s3 := HCD.out wr hbw i _ HL.out.1
      simp only at s3
      have hbe : (c4.toList == c4.toList) = true := by simp
      clear hbw hrr
      go_wp2
      refine wp_region_held_drew (S := fun W => W.cell? ⟨sb, so + i * 4, none⟩ = some (.string c1) ∧ W.cell? ⟨sb, so + i * 4 + 1, none⟩ = some (.int .i64 (c2 : Int)) ∧ W.cell? ⟨sb, so + i * 4 + 2, none⟩ = some (.int .i64 (c3 : Int))) (by kernel_rfl) (HC0.out wr.drew HB0.out.1.drew) (fun hHeld => ?_)
      refine wpAnyH_take (i := 0) (v := ?vb_0) rfl (by kernel_rfl) (by kernel_rfl) (by kernel_rfl) (fun _ _ _ h => h) (Or.inl ⟨by first | kernel_rfl | rfl, ?yb_0⟩) hHeld ?rb_0
      case yb_0 => (intro W hSW; (try dsimp only at hSW); go_simp; (try with_reducible rfl))
      change wpAnyH _ _ _ _ _ _ _ (Act.put _ (some 30) _) _
      simp only [Act.put, List.setIfInBounds_toArray, List.set_cons_zero, List.set_cons_succ]
      refine wpAnyH_take (i := 1) (v := ?vb_1) rfl (by kernel_rfl) (by kernel_rfl) (by kernel_rfl) (fun _ _ _ h => h) (Or.inl ⟨by first | kernel_rfl | rfl, ?yb_1⟩) hHeld ?rb_1
      case yb_1 => (intro W hSW; (try dsimp only at hSW); go_simp; (try with_reducible rfl))
      change wpAnyH _ _ _ _ _ _ _ (Act.put _ (some 31) _) _
      simp only [Act.put, List.setIfInBounds_toArray, List.set_cons_zero, List.set_cons_succ]
      refine wpAnyH_take (i := 2) (v := ?vb_2) rfl (by kernel_rfl) (by kernel_rfl) (by kernel_rfl) (fun _ _ _ h => h) (Or.inl ⟨by first | kernel_rfl | rfl, ?yb_2⟩) hHeld ?rb_2
      case yb_2 => (intro W hSW; (try dsimp only at hSW); go_simp; (try with_reducible rfl))
      change wpAnyH _ _ _ _ _ _ _ (Act.put _ (some 32) _) _
      simp only [Act.put, List.setIfInBounds_toArray, List.set_cons_zero, List.set_cons_succ]
      refine wpAnyH_take (i := 3) (v := ?vb_3) rfl (by kernel_rfl) (by kernel_rfl) (by kernel_rfl) (fun _ _ _ h => h) (Or.inl ⟨by first | kernel_rfl | rfl, ?yb_3⟩) hHeld ?rb_3
      case yb_3 => (intro W hSW; (try dsimp only at hSW); go_simp; (try with_reducible rfl))
      change wpAnyH _ _ _ _ _ _ _ (Act.put _ (some 33) _) _
      simp only [Act.put, List.setIfInBounds_toArray, List.set_cons_zero, List.set_cons_succ]
      refine wpAnyH_take (i := 4) (v := ?vb_4) rfl (by kernel_rfl) (by kernel_rfl) (by kernel_rfl) (fun _ _ _ h => h) (Or.inl ⟨by first | kernel_rfl | rfl, ?yb_4⟩) hHeld ?rb_4
      case yb_4 => (intro W hSW; (try dsimp only at hSW); go_simp; (try with_reducible rfl))
      change wpAnyH _ _ _ _ _ _ _ (Act.put _ (some 34) _) _
      simp only [Act.put, List.setIfInBounds_toArray, List.set_cons_zero, List.set_cons_succ]
      refine wpAnyH_take (i := 5) (v := ?vb_5) rfl (by kernel_rfl) (by kernel_rfl) (by kernel_rfl) (fun _ _ _ h => h) (Or.inl ⟨by first | kernel_rfl | rfl, ?yb_5⟩) hHeld ?rb_5
      case yb_5 => (intro W hSW; (try dsimp only at hSW); go_simp; (try with_reducible rfl))
      change wpAnyH _ _ _ _ _ _ _ (Act.put _ (some 35) _) _
      simp only [Act.put, List.setIfInBounds_toArray, List.set_cons_zero, List.set_cons_succ]
      refine wpAnyH_take (i := 6) (v := ?vb_6) rfl (by kernel_rfl) (by kernel_rfl) (by kernel_rfl) (fun _ _ _ h => h) (Or.inl ⟨by first | kernel_rfl | rfl, ?yb_6⟩) hHeld ?rb_6
      case yb_6 => (intro W hSW; (try dsimp only at hSW); go_simp; (try with_reducible rfl))
      change wpAnyH _ _ _ _ _ _ _ (Act.put _ (some 36) _) _
      simp only [Act.put, List.setIfInBounds_toArray, List.set_cons_zero, List.set_cons_succ]
      refine wpAnyH_take (i := 7) (v := ?vb_7) rfl (by kernel_rfl) (by kernel_rfl) (by kernel_rfl) (fun _ _ _ h => h) (Or.inl ⟨by first | kernel_rfl | rfl, ?yb_7⟩) hHeld ?rb_7
      case yb_7 => (intro W hSW; (try dsimp only at hSW); go_simp; (try with_reducible rfl))
      change wpAnyH _ _ _ _ _ _ _ (Act.put _ (some 37) _) _
      simp only [Act.put, List.setIfInBounds_toArray, List.set_cons_zero, List.set_cons_succ]
      refine wpAnyH_take (i := 9) (v := ?vb_9) rfl (by kernel_rfl) (by kernel_rfl) (by kernel_rfl) (fun _ _ _ h => h) (Or.inl ⟨by first | kernel_rfl | rfl, ?yb_9⟩) hHeld ?rb_9
      case yb_9 => (intro W hSW; (try dsimp only at hSW); go_simp; (try with_reducible rfl))
      change wpAnyH _ _ _ _ _ _ _ (Act.put _ (some 39) _) _
      simp only [Act.put, List.setIfInBounds_toArray, List.set_cons_zero, List.set_cons_succ]
      refine wpAnyH_take (i := 10) (v := ?vb_10) rfl (by kernel_rfl) (by kernel_rfl) (by kernel_rfl) (fun _ _ _ h => h) (Or.inl ⟨by first | kernel_rfl | rfl, ?yb_10⟩) hHeld ?rb_10
      case yb_10 => (intro W hSW; (try dsimp only at hSW); go_simp; (try with_reducible rfl))
      change wpAnyH _ _ _ _ _ _ _ (Act.put _ (some 40) _) _
      simp only [Act.put, List.setIfInBounds_toArray, List.set_cons_zero, List.set_cons_succ]
      refine wpAnyH_take (i := 11) (v := ?vb_11) rfl (by kernel_rfl) (by kernel_rfl) (by kernel_rfl) (fun _ _ _ h => h) (Or.inl ⟨by first | kernel_rfl | rfl, ?yb_11⟩) hHeld ?rb_11
      case yb_11 => (intro W hSW; (try dsimp only at hSW); go_simp; (try with_reducible rfl))
      change wpAnyH _ _ _ _ _ _ _ (Act.put _ (some 41) _) _
      simp only [Act.put, List.setIfInBounds_toArray, List.set_cons_zero, List.set_cons_succ]
      refine wpAnyH_take (i := 12) (v := ?vb_12) rfl (by kernel_rfl) (by kernel_rfl) (by kernel_rfl) (fun _ _ _ h => h) (Or.inl ⟨by first | kernel_rfl | rfl, ?yb_12⟩) hHeld ?rb_12
      case yb_12 => (intro W hSW; (try dsimp only at hSW); go_simp; (try with_reducible rfl))
      change wpAnyH _ _ _ _ _ _ _ (Act.put _ (some 42) _) _
      simp only [Act.put, List.setIfInBounds_toArray, List.set_cons_zero, List.set_cons_succ]
      refine wpAnyH_take (i := 13) (v := ?vb_13) rfl (by kernel_rfl) (by kernel_rfl) (by kernel_rfl) (fun _ _ _ h => h) (Or.inl ⟨by first | kernel_rfl | rfl, ?yb_13⟩) hHeld ?rb_13
      case yb_13 => (intro W hSW; (try dsimp only at hSW); go_simp; (try with_reducible rfl))
      change wpAnyH _ _ _ _ _ _ _ (Act.put _ (some 43) _) _
      simp only [Act.put, List.setIfInBounds_toArray, List.set_cons_zero, List.set_cons_succ]
      refine wpAnyH_ready (rs := [8]) (by kernel_rfl) (by simp) ?_
      refine AllReadyH.cons rfl (fun K hK => ?_) AllReadyH.nil
      go_simp
      refine (HWI.out wr.drew HB0.out.1.drew).mono ?_
      rintro e V5 ⟨wa, wn, wc, rfl, hdw, hb5⟩
      refine hK.out _ _ (HC0.out V5 (HB0.out.1.drew.trans (hb5.mono HB0.out.1.drew.size))) (fun hHeld => ?_)
      clear hK K
      try simp only [Act.put, List.setIfInBounds_toArray, List.set_cons_zero, List.set_cons_succ]
      refine wpAnyH_take (i := 14) (v := ?vb_14) rfl (by kernel_rfl) (by kernel_rfl) (by kernel_rfl) (fun _ _ _ h => h) (Or.inl ⟨by first | kernel_rfl | rfl, ?yb_14⟩) hHeld ?rb_14
      case yb_14 => (intro W hSW; (try dsimp only at hSW); go_simp; (try with_reducible rfl))
      change wpAnyH _ _ _ _ _ _ _ (Act.put _ (some 6) _) _
      simp only [Act.put, List.setIfInBounds_toArray, List.set_cons_zero, List.set_cons_succ]
      have HV5 : Hid (V5.heap[rb]? = some (.cells #[.string ⟨#[]⟩, .int .i64 0] 35 (0, 0)) ∧ Below w.heap.size w V5 ∧ Dw (fun x => w.heap.size ≤ x) V5 wa wn wc (withL L i c31)) := ⟨(hb5.block rb (lt_of_some HB0.out.2)).trans HB0.out.2, HB0.out.1.drew.trans (hb5.mono HB0.out.1.drew.size), Rw.mono hdw (fun _ hx _ => Nat.le_trans HB0.out.1.drew.size hx)⟩
      have z0 : V5.cell? ⟨rb, 0, none⟩ = some (.string ⟨#[]⟩) := by rw [cell_of_row _ _ _ _ _ _ HV5.out.1]; rfl
      have z1 : V5.cell? ⟨rb, 1, none⟩ = some (.int .i64 0) := by rw [cell_of_row _ _ _ _ _ _ HV5.out.1]; rfl
      have f0 := frozen_of_row V5 rb 0 _ _ HV5.out.1
      have f1 := frozen_of_row V5 rb 1 _ _ HV5.out.1
      refine wpAnyH_ready (rs := [15]) (by kernel_rfl) (by simp) ?_
      refine AllReadyH.cons rfl (fun K hK => ?_) AllReadyH.nil
      go_simp
      refine hK.out _ _ (HC0.out _ (below2s HV5.out.2.1 (Nat.le_of_eq HRB.out) _ _)) (fun hHeld => ?_)
      clear hK K
      refine wpAnyH_take (i := 16) (v := ?vb_16) rfl (by kernel_rfl) (by kernel_rfl) (by kernel_rfl) (fun _ _ _ h => h) (Or.inl ⟨by first | kernel_rfl | rfl, ?yb_16⟩) hHeld ?rb_16
      case yb_16 => (intro W hSW; (try dsimp only at hSW); go_simp; (try with_reducible rfl))
      change wpAnyH _ _ _ _ _ _ _ (Act.put _ (some 8) _) _
      simp only [Act.put, List.setIfInBounds_toArray, List.set_cons_zero, List.set_cons_succ]
      refine wpAnyH_done (by kernel_rfl) ?_ _
      go_wp2
      refine bodyPost_ret (v := .tuple #[.slice wa wn wc, .agg #[.string c1, .int .i64 (c2 : Int)], .int .i64 0]) ?_ rfl ⟨wa, wn, wc, rfl, HV5.out.2.2.set HV5.out.1 _ _, below2s HV5.out.2.1 (Nat.le_of_eq HRB.out) _ _⟩
      exact res_put (fn := Tryd.f13) (p := 7) (q := 6) (s := 8) (by rfl) _ _ rb _ (by rfl) (set2 HV5.out.1 _ _) infoI
end Go.Proofs.YtjpkngbjjgimjaaDoor
