/- Walks over look, Get, Refs. -/
import Derived.Test.YtjpkngbjjgimjaaDoorKG
namespace Go.Proofs.YtjpkngbjjgimjaaDoor
open Go.RowKit
/-- The content with an ID. -/
def lookF (W : Nat) (T : List Pr) (sum : ByteArray) (n : Int) : Option Cn := if sum.size = W ∧ 0 ≤ n ∧ n < 256 ∧ isT T (keyB sum n.toNat) = true then parseF W (keyB sum n.toNat, (getT T (keyB sum n.toNat)).getD ByteArray.empty) else none
set_option maxRecDepth 100000 in
set_option maxHeartbeats 2000000 in
theorem look_nil (sum : ByteArray) (n : Int) (w : World) : Calls Tryd.prog 31 #[.pointer none, .agg #[.string sum, .int .i64 n]] w fun e w' => ParTo w none e w' := by
  obtain ⟨W1, hW1⟩ : ∃ W1, w.alloc (.cells #[.string sum, .int .i64 n] 35) = W1 := ⟨_, rfl⟩
  have hb1 : Below w.heap.size w W1 := by rw [← hW1]; exact (Below.refl _ w).alloc (Nat.le_refl _) _
  obtain ⟨W2, hW2⟩ : ∃ W2, W1.alloc (.cells #[.string ⟨#[]⟩, .int .i64 0, .int .u32 0, .string ⟨#[]⟩] 78) = W2 := ⟨_, rfl⟩
  obtain ⟨rb, hrb⟩ : ∃ rb, W1.heap.size = rb := ⟨_, rfl⟩
  have r2 : W2.heap[rb]? = some (.cells #[.string ⟨#[]⟩, .int .i64 0, .int .u32 0, .string ⟨#[]⟩] 78 (0, 0)) := by rw [← hW2, ← hrb]; exact heap_alloc_new W1 _
  have hb2 : Below w.heap.size w W2 := by rw [← hW2]; exact hb1.alloc hb1.size _
  have hwr : w.heap.size ≤ rb := by have := hb1.size; omega
  have HB2 : Hid (Below w.heap.size w W2 ∧ W2.heap[rb]? = some (.cells #[.string ⟨#[]⟩, .int .i64 0, .int .u32 0, .string ⟨#[]⟩] 78 (0, 0))∧ True) := ⟨hb2, r2, trivial⟩
  clear r2 hb1 hb2
  go_enter Tryd.func31, Tryd.ntmps31
  go_wp2
  go_quiet (fail)
  rename_i nq
  obtain ⟨V3, hV3⟩ : ∃ V3, W2.drewN nq = V3 := ⟨_, rfl⟩
  have hr3 : V3.heap[rb]? = some (.cells #[.string ⟨#[]⟩, .int .i64 0, .int .u32 0, .string ⟨#[]⟩] 78 (0, 0)) := by rw [← hV3]; exact HB2.out.2.1
  have hb3 : Below w.heap.size w V3 := by rw [← hV3]; exact below_drewN HB2.out.1 nq
  have z0 : V3.cell? ⟨rb, 0, none⟩ = some (.string ⟨#[]⟩) := by rw [cell_of_row _ _ _ _ _ _ hr3]; rfl
  have z1 : V3.cell? ⟨rb, 1, none⟩ = some (.int .i64 0) := by rw [cell_of_row _ _ _ _ _ _ hr3]; rfl
  have z2 : V3.cell? ⟨rb, 2, none⟩ = some (.int .u32 0) := by rw [cell_of_row _ _ _ _ _ _ hr3]; rfl
  have z3 : V3.cell? ⟨rb, 3, none⟩ = some (.string ⟨#[]⟩) := by rw [cell_of_row _ _ _ _ _ _ hr3]; rfl
  have e0 := frozen_of_row V3 rb 0 _ _ hr3
  have e1 := frozen_of_row V3 rb 1 _ _ hr3
  have e2 := frozen_of_row V3 rb 2 _ _ hr3
  have e3 := frozen_of_row V3 rb 3 _ _ hr3
  have HX : Hid (V3.heap[rb]? = some (.cells #[.string ⟨#[]⟩, .int .i64 0, .int .u32 0, .string ⟨#[]⟩] 78 (0, 0)) ∧ Below w.heap.size w V3) := ⟨hr3, hb3⟩
  rw [hV3]
  clear hr3 hb3 hV3
  go_wp2
  refine bodyPost_ret (v := .tuple #[.agg #[.string ⟨#[]⟩, .int .i64 0, .int .u32 0, .string ⟨#[]⟩], .bool false]) ?_ rfl ⟨rfl, below4 HX.out.2 (by omega) _ _ _ _⟩
  exact res_cell (fn := Tryd.f31) (p := 4) (s := 5) (by rfl) _ _ rb _ (by rfl) (set4 HX.out.1 _ _ _ _) infoC
section
variable {h0 : Nat} {F : Nat → Prop} {w : World} {st tb W : Nat} {full : Int} {T : List Pr}
set_option maxRecDepth 100000 in
set_option maxHeartbeats 4000000 in
theorem look_any (h : Cs h0 F w st tb W full T) (hW : W ≤ 32) (sum : ByteArray) (n : Int) : Calls Tryd.prog 31 #[.pointer (some ⟨st, 0, none⟩), .agg #[.string sum, .int .i64 n]] w fun e w' => ParTo w (lookF W T sum n) e w' := by
  obtain ⟨W1, hW1⟩ : ∃ W1, w.alloc (.cells #[.string sum, .int .i64 n] 35) = W1 := ⟨_, rfl⟩
  obtain ⟨ib, hib⟩ : ∃ ib, w.heap.size = ib := ⟨_, rfl⟩
  have r1 : W1.heap[ib]? = some (.cells #[.string sum, .int .i64 n] 35 (0, 0)) := by rw [← hW1, ← hib]; exact heap_alloc_new w _
  have hb1 : Below w.heap.size w W1 := by rw [← hW1]; exact (Below.refl _ w).alloc (Nat.le_refl _) _
  obtain ⟨W2, hW2⟩ : ∃ W2, W1.alloc (.cells #[.string ⟨#[]⟩, .int .i64 0, .int .u32 0, .string ⟨#[]⟩] 78) = W2 := ⟨_, rfl⟩
  obtain ⟨rb, hrb⟩ : ∃ rb, W1.heap.size = rb := ⟨_, rfl⟩
  have r2 : W2.heap[rb]? = some (.cells #[.string ⟨#[]⟩, .int .i64 0, .int .u32 0, .string ⟨#[]⟩] 78 (0, 0)) := by rw [← hW2, ← hrb]; exact heap_alloc_new W1 _
  have hB12 : Below W1.heap.size W1 W2 := by rw [← hW2]; exact (Below.refl _ W1).alloc (Nat.le_refl _) _
  have hb2 : Below w.heap.size w W2 := hb1.trans (hB12.mono hb1.size)
  have q1 := (hB12.block ib (lt_of_some r1)).trans r1
  have c0 : W2.cell? ⟨ib, 0, none⟩ = some (.string sum) := by rw [cell_of_row _ _ _ _ _ _ q1]; rfl
  have c1 : W2.cell? ⟨ib, 1, none⟩ = some (.int .i64 n) := by rw [cell_of_row _ _ _ _ _ _ q1]; rfl
  have h2 := h.below hb2
  have d0 : W2.cell? ⟨st, 0, none⟩ = some (.iface 27 (.pointer (some ⟨tb, 0, none⟩))) := by rw [cell_of_row _ _ _ _ _ _ h2.stat]; rfl
  have d1 : W2.cell? ⟨st, 1, none⟩ = some (.int .i64 (W : Int)) := by rw [cell_of_row _ _ _ _ _ _ h2.stat]; rfl
  have hwr : w.heap.size ≤ rb := by have := hb1.size; omega
  have HB2 : Hid (Below w.heap.size w W2 ∧ W2.heap[rb]? = some (.cells #[.string ⟨#[]⟩, .int .i64 0, .int .u32 0, .string ⟨#[]⟩] 78 (0, 0)) ∧ Cs h0 (mor F w W2) W2 st tb W full T ∧ W2.heap[ib]? = some (.cells #[.string sum, .int .i64 n] 35 (0, 0))) := ⟨hb2, r2, h2, q1⟩
  clear h r1 hb1 r2 hB12 hb2 q1 h2
  by_cases hs : sum.size = W
  · have kb : ((sum.size : Int) != (W : Int)) = false := by rw [bne_eq_false_iff_eq]; omega
    have kc : ((sum.size : Int) == (W : Int)) = true := by rw [beq_iff_eq]; omega
    by_cases hn0 : n < 0
    · have HN : Hid (lookF W T sum n = none) := by show _ = _; unfold lookF; rw [if_neg (fun h => by omega)]
      have k2 : decide (n < 0) = true := decide_eq_true hn0
      have HS : Hid (sum.size = W) := hs
      clear hn0 hs
      go_enter Tryd.func31, Tryd.ntmps31
      go_wp2
      go_quiet (fail)
      rename_i nq
      obtain ⟨V3, hV3⟩ : ∃ V3, W2.drewN nq = V3 := ⟨_, rfl⟩
      have hr3 : V3.heap[rb]? = some (.cells #[.string ⟨#[]⟩, .int .i64 0, .int .u32 0, .string ⟨#[]⟩] 78 (0, 0)) := by rw [← hV3]; exact HB2.out.2.1
      have hb3 : Below w.heap.size w V3 := by rw [← hV3]; exact below_drewN HB2.out.1 nq
      have z0 : V3.cell? ⟨rb, 0, none⟩ = some (.string ⟨#[]⟩) := by rw [cell_of_row _ _ _ _ _ _ hr3]; rfl
      have z1 : V3.cell? ⟨rb, 1, none⟩ = some (.int .i64 0) := by rw [cell_of_row _ _ _ _ _ _ hr3]; rfl
      have z2 : V3.cell? ⟨rb, 2, none⟩ = some (.int .u32 0) := by rw [cell_of_row _ _ _ _ _ _ hr3]; rfl
      have z3 : V3.cell? ⟨rb, 3, none⟩ = some (.string ⟨#[]⟩) := by rw [cell_of_row _ _ _ _ _ _ hr3]; rfl
      have e0 := frozen_of_row V3 rb 0 _ _ hr3
      have e1 := frozen_of_row V3 rb 1 _ _ hr3
      have e2 := frozen_of_row V3 rb 2 _ _ hr3
      have e3 := frozen_of_row V3 rb 3 _ _ hr3
      have HX : Hid (V3.heap[rb]? = some (.cells #[.string ⟨#[]⟩, .int .i64 0, .int .u32 0, .string ⟨#[]⟩] 78 (0, 0)) ∧ Below w.heap.size w V3) := ⟨hr3, hb3⟩
      rw [hV3]
      clear hr3 hb3 hV3
      go_wp2
      refine bodyPost_ret (v := .tuple #[.agg #[.string ⟨#[]⟩, .int .i64 0, .int .u32 0, .string ⟨#[]⟩], .bool false]) ?_ rfl ⟨by rw [HN.out]; rfl, below4 HX.out.2 (by omega) _ _ _ _⟩
      exact res_cell (fn := Tryd.f31) (p := 4) (s := 5) (by rfl) _ _ rb _ (by rfl) (set4 HX.out.1 _ _ _ _) infoC
    · have k2 : decide (n < 0) = false := decide_eq_false hn0
      by_cases hn1 : 256 ≤ n
      · have HN : Hid (lookF W T sum n = none) := by show _ = _; unfold lookF; rw [if_neg (fun h => by omega)]
        have k3 : decide (256 ≤ n) = true := decide_eq_true hn1
        have HS : Hid (sum.size = W) := hs
        clear hn0 hn1 hs
        go_enter Tryd.func31, Tryd.ntmps31
        go_wp2
        go_quiet (fail)
        rename_i nq
        obtain ⟨V3, hV3⟩ : ∃ V3, W2.drewN nq = V3 := ⟨_, rfl⟩
        have hr3 : V3.heap[rb]? = some (.cells #[.string ⟨#[]⟩, .int .i64 0, .int .u32 0, .string ⟨#[]⟩] 78 (0, 0)) := by rw [← hV3]; exact HB2.out.2.1
        have hb3 : Below w.heap.size w V3 := by rw [← hV3]; exact below_drewN HB2.out.1 nq
        have z0 : V3.cell? ⟨rb, 0, none⟩ = some (.string ⟨#[]⟩) := by rw [cell_of_row _ _ _ _ _ _ hr3]; rfl
        have z1 : V3.cell? ⟨rb, 1, none⟩ = some (.int .i64 0) := by rw [cell_of_row _ _ _ _ _ _ hr3]; rfl
        have z2 : V3.cell? ⟨rb, 2, none⟩ = some (.int .u32 0) := by rw [cell_of_row _ _ _ _ _ _ hr3]; rfl
        have z3 : V3.cell? ⟨rb, 3, none⟩ = some (.string ⟨#[]⟩) := by rw [cell_of_row _ _ _ _ _ _ hr3]; rfl
        have e0 := frozen_of_row V3 rb 0 _ _ hr3
        have e1 := frozen_of_row V3 rb 1 _ _ hr3
        have e2 := frozen_of_row V3 rb 2 _ _ hr3
        have e3 := frozen_of_row V3 rb 3 _ _ hr3
        have HX : Hid (V3.heap[rb]? = some (.cells #[.string ⟨#[]⟩, .int .i64 0, .int .u32 0, .string ⟨#[]⟩] 78 (0, 0)) ∧ Below w.heap.size w V3) := ⟨hr3, hb3⟩
        rw [hV3]
        clear hr3 hb3 hV3
        go_wp2
        refine bodyPost_ret (v := .tuple #[.agg #[.string ⟨#[]⟩, .int .i64 0, .int .u32 0, .string ⟨#[]⟩], .bool false]) ?_ rfl ⟨by rw [HN.out]; rfl, below4 HX.out.2 (by omega) _ _ _ _⟩
        exact res_cell (fn := Tryd.f31) (p := 4) (s := 5) (by rfl) _ _ rb _ (by rfl) (set4 HX.out.1 _ _ _ _) infoC
      · have k3 : decide (256 ≤ n) = false := decide_eq_false hn1
        obtain ⟨m, rfl⟩ : ∃ m : Nat, n = (m : Int) := Int.eq_ofNat_of_zero_le (by omega)
        obtain ⟨key, hkey⟩ : ∃ key, keyB sum m = key := ⟨_, rfl⟩
        have HKO : Hid (∀ V, Calls Tryd.prog 33 #[.agg #[.string sum, .int .i64 (m : Int)]] V fun e w' => e = .returned (.string key) ∧ Below V.heap.size V w') := fun V => by rw [← hkey]; exact keyof_any sum m (by omega) (by omega) V
        obtain ⟨gv, hgv⟩ : ∃ gv, (getT T key).getD ByteArray.empty = gv := ⟨_, rfl⟩
        obtain ⟨it, hit⟩ : ∃ it, isT T key = it := ⟨_, rfl⟩
        have HGE : Hid (∀ V, Below W2.heap.size W2 V → Calls Tryd.prog 26 #[.pointer (some ⟨tb, 0, none⟩), .string key] V fun e w' => e = .returned (.tuple #[.string gv, .bool it]) ∧ Below V.heap.size V w') := fun V hV => by rw [← hgv, ← hit]; exact tget_any (HB2.out.2.2.1.below hV) key
        have HN : Hid (lookF W T sum (m : Int) = if it then parseF W (key, gv) else none) := by
          show _ = _
          unfold lookF
          rw [Int.toNat_natCast, hkey, hgv, hit]
          cases it with
          | true => rw [if_pos ⟨hs, by omega, by omega, rfl⟩]; rfl
          | false => rw [if_neg (fun h => by cases h.2.2.2)]; rfl
        have HS : Hid (sum.size = W) := hs
        have HDC : Hid (∀ V, Below W2.heap.size W2 V → V.cell? ⟨st, 0, none⟩ = some (.iface 27 (.pointer (some ⟨tb, 0, none⟩))) ∧ V.cell? ⟨st, 1, none⟩ = some (.int .i64 (W : Int)) ∧ V.heap[rb]? = some (.cells #[.string ⟨#[]⟩, .int .i64 0, .int .u32 0, .string ⟨#[]⟩] 78 (0, 0)) ∧ Below w.heap.size w V) := fun V hV => by
          have h5 := (hV.block st (lt_of_some HB2.out.2.2.1.stat)).trans HB2.out.2.2.1.stat
          exact ⟨by rw [cell_of_row _ _ _ _ _ _ h5]; rfl, by rw [cell_of_row _ _ _ _ _ _ h5]; rfl, (hV.block rb (lt_of_some HB2.out.2.1)).trans HB2.out.2.1, HB2.out.1.trans (hV.mono HB2.out.1.size)⟩
        clear hn0 hn1 hs hkey hgv hit
        go_enter Tryd.func31, Tryd.ntmps31
        go_wp2
        go_quiet (fail)
        rename_i nq
        obtain ⟨V3, hV3⟩ : ∃ V3, W2.drewN nq = V3 := ⟨_, rfl⟩
        have hb23 : Below W2.heap.size W2 V3 := by rw [← hV3]; exact below_drewN (Below.refl _ _) nq
        have i0 : V3.cell? ⟨ib, 0, none⟩ = some (.string sum) := by rw [← hV3]; exact c0
        have i1 : V3.cell? ⟨ib, 1, none⟩ = some (.int .i64 (m : Int)) := by rw [← hV3]; exact c1
        have HK3 := HKO.out V3
        have HB3 : Hid (Below W2.heap.size W2 V3) := hb23
        rw [hV3]
        clear hb23 hV3 c0 c1 d0 d1 kb kc k2 k3
        go_wp2_with fail
        refine HK3.mono ?_
        rintro e V4 ⟨rfl, hb4⟩
        have HB4 : Hid (Below W2.heap.size W2 V4) := HB3.out.trans (hb4.mono HB3.out.size)
        obtain ⟨d0, d1, _, _⟩ := HDC.out V4 HB4.out
        have HG4 := HGE.out V4 HB4.out
        clear HK3 hb4 i0 i1
        go_wp2_with fail
        refine HG4.mono ?_
        rintro e V5 ⟨rfl, hb5⟩
        have HB5 : Hid (Below W2.heap.size W2 V5) := HB4.out.trans (hb5.mono HB4.out.size)
        obtain ⟨d0, d1, hr5, hw5⟩ := HDC.out V5 HB5.out
        clear HG4 hb5
        cases it with
        | false =>
          have HN0 : Hid (lookF W T sum (m : Int) = none) := HN.out
          have z0 : V5.cell? ⟨rb, 0, none⟩ = some (.string ⟨#[]⟩) := by rw [cell_of_row _ _ _ _ _ _ hr5]; rfl
          have z1 : V5.cell? ⟨rb, 1, none⟩ = some (.int .i64 0) := by rw [cell_of_row _ _ _ _ _ _ hr5]; rfl
          have z2 : V5.cell? ⟨rb, 2, none⟩ = some (.int .u32 0) := by rw [cell_of_row _ _ _ _ _ _ hr5]; rfl
          have z3 : V5.cell? ⟨rb, 3, none⟩ = some (.string ⟨#[]⟩) := by rw [cell_of_row _ _ _ _ _ _ hr5]; rfl
          have e0 := frozen_of_row V5 rb 0 _ _ hr5
          have e1 := frozen_of_row V5 rb 1 _ _ hr5
          have e2 := frozen_of_row V5 rb 2 _ _ hr5
          have e3 := frozen_of_row V5 rb 3 _ _ hr5
          have HX : Hid (V5.heap[rb]? = some (.cells #[.string ⟨#[]⟩, .int .i64 0, .int .u32 0, .string ⟨#[]⟩] 78 (0, 0)) ∧ Below w.heap.size w V5) := ⟨hr5, hw5⟩
          clear hr5 hw5 d0 d1
          go_wp2
          refine bodyPost_ret (v := .tuple #[.agg #[.string ⟨#[]⟩, .int .i64 0, .int .u32 0, .string ⟨#[]⟩], .bool false]) ?_ rfl ⟨by rw [HN0.out]; rfl, below4 HX.out.2 (by omega) _ _ _ _⟩
          exact res_cell (fn := Tryd.f31) (p := 4) (s := 5) (by rfl) _ _ rb _ (by rfl) (set4 HX.out.1 _ _ _ _) infoC
        | true =>
          obtain ⟨q, hq⟩ : ∃ q, parseF W (key, gv) = q := ⟨_, rfl⟩
          have HN0 : Hid (lookF W T sum (m : Int) = q) := by show _ = _; rw [HN.out, ← hq]; rfl
          have HPA := parse_any d1 hW key gv
          unfold ParTo at HPA
          rw [hq] at HPA
          clear hq hr5 hw5 d0
          go_wp2_with fail
          refine HPA.mono ?_
          rintro e V6 ⟨rfl, hb6⟩
          have HB6 : Hid (Below W2.heap.size W2 V6) := HB5.out.trans (hb6.mono HB5.out.size)
          obtain ⟨_, _, hr6, hw6⟩ := HDC.out V6 HB6.out
          have z0 : V6.cell? ⟨rb, 0, none⟩ = some (.string ⟨#[]⟩) := by rw [cell_of_row _ _ _ _ _ _ hr6]; rfl
          have z1 : V6.cell? ⟨rb, 1, none⟩ = some (.int .i64 0) := by rw [cell_of_row _ _ _ _ _ _ hr6]; rfl
          have z2 : V6.cell? ⟨rb, 2, none⟩ = some (.int .u32 0) := by rw [cell_of_row _ _ _ _ _ _ hr6]; rfl
          have z3 : V6.cell? ⟨rb, 3, none⟩ = some (.string ⟨#[]⟩) := by rw [cell_of_row _ _ _ _ _ _ hr6]; rfl
          have e0 := frozen_of_row V6 rb 0 _ _ hr6
          have e1 := frozen_of_row V6 rb 1 _ _ hr6
          have e2 := frozen_of_row V6 rb 2 _ _ hr6
          have e3 := frozen_of_row V6 rb 3 _ _ hr6
          have HX : Hid (V6.heap[rb]? = some (.cells #[.string ⟨#[]⟩, .int .i64 0, .int .u32 0, .string ⟨#[]⟩] 78 (0, 0)) ∧ Below w.heap.size w V6) := ⟨hr6, hw6⟩
          clear HPA hb6 hr6 hw6 d1
          cases q with
          | none =>
            unfold cnV
            go_wp2
            refine bodyPost_ret (v := .tuple #[.agg #[.string ⟨#[]⟩, .int .i64 0, .int .u32 0, .string ⟨#[]⟩], .bool false]) ?_ rfl ⟨by rw [HN0.out]; rfl, below4 HX.out.2 (by omega) _ _ _ _⟩
            exact res_cell (fn := Tryd.f31) (p := 4) (s := 5) (by rfl) _ _ rb _ (by rfl) (set4 HX.out.1 _ _ _ _) infoC
          | some c =>
            obtain ⟨s1, n1, f1, t1⟩ := c
            unfold cnV Cn.cells
            simp only
            go_wp2
            refine bodyPost_ret (v := .tuple #[.agg #[.string s1, .int .i64 (n1 : Int), .int .u32 (f1 : Int), .string t1], .bool true]) ?_ rfl ⟨by rw [HN0.out]; rfl, below4 HX.out.2 (by omega) _ _ _ _⟩
            exact res_cell (fn := Tryd.f31) (p := 4) (s := 5) (by rfl) _ _ rb _ (by rfl) (set4 HX.out.1 _ _ _ _) infoC
  · have HN : Hid (lookF W T sum n = none) := by show _ = _; unfold lookF; rw [if_neg (fun h => hs h.1)]
    have kb : ((sum.size : Int) != (W : Int)) = true := by rw [bne_iff_ne]; omega
    have kc : ((sum.size : Int) == (W : Int)) = false := by rw [beq_eq_false_iff_ne]; omega
    clear hs
    go_enter Tryd.func31, Tryd.ntmps31
    go_wp2
    go_quiet (fail)
    rename_i nq
    obtain ⟨V3, hV3⟩ : ∃ V3, W2.drewN nq = V3 := ⟨_, rfl⟩
    have hr3 : V3.heap[rb]? = some (.cells #[.string ⟨#[]⟩, .int .i64 0, .int .u32 0, .string ⟨#[]⟩] 78 (0, 0)) := by rw [← hV3]; exact HB2.out.2.1
    have hb3 : Below w.heap.size w V3 := by rw [← hV3]; exact below_drewN HB2.out.1 nq
    have z0 : V3.cell? ⟨rb, 0, none⟩ = some (.string ⟨#[]⟩) := by rw [cell_of_row _ _ _ _ _ _ hr3]; rfl
    have z1 : V3.cell? ⟨rb, 1, none⟩ = some (.int .i64 0) := by rw [cell_of_row _ _ _ _ _ _ hr3]; rfl
    have z2 : V3.cell? ⟨rb, 2, none⟩ = some (.int .u32 0) := by rw [cell_of_row _ _ _ _ _ _ hr3]; rfl
    have z3 : V3.cell? ⟨rb, 3, none⟩ = some (.string ⟨#[]⟩) := by rw [cell_of_row _ _ _ _ _ _ hr3]; rfl
    have e0 := frozen_of_row V3 rb 0 _ _ hr3
    have e1 := frozen_of_row V3 rb 1 _ _ hr3
    have e2 := frozen_of_row V3 rb 2 _ _ hr3
    have e3 := frozen_of_row V3 rb 3 _ _ hr3
    have HX : Hid (V3.heap[rb]? = some (.cells #[.string ⟨#[]⟩, .int .i64 0, .int .u32 0, .string ⟨#[]⟩] 78 (0, 0)) ∧ Below w.heap.size w V3) := ⟨hr3, hb3⟩
    rw [hV3]
    clear hr3 hb3 hV3
    go_wp2
    refine bodyPost_ret (v := .tuple #[.agg #[.string ⟨#[]⟩, .int .i64 0, .int .u32 0, .string ⟨#[]⟩], .bool false]) ?_ rfl ⟨by rw [HN.out]; rfl, below4 HX.out.2 (by omega) _ _ _ _⟩
    exact res_cell (fn := Tryd.f31) (p := 4) (s := 5) (by rfl) _ _ rb _ (by rfl) (set4 HX.out.1 _ _ _ _) infoC
end
end Go.Proofs.YtjpkngbjjgimjaaDoor
