/- Walks over the statements' short, picked and alike. -/
import Derived.Test.YtjpkngbjjgimjaaDoorLG
namespace Go.Proofs.YtjpkngbjjgimjaaDoor
open Go.RowKit
/-- A step that came in. -/
structure OV where
  kind : Int
  at_ : Int
  data : ByteArray
  sum : ByteArray
  n : Int
def OV.cells (o : OV) : Array Value := #[.int .i64 o.kind, .int .i64 o.at_, .string o.data, .string o.sum, .int .i64 o.n]
def OV.In (o : OV) : Prop := (-9223372036854775808 ≤ o.kind ∧ o.kind ≤ 9223372036854775807) ∧ (-9223372036854775808 ≤ o.at_ ∧ o.at_ ≤ 9223372036854775807) ∧ o.data.size ≤ 140737488351232 ∧ o.sum.size ≤ 140737488351232 ∧ (-9223372036854775808 ≤ o.n ∧ o.n ≤ 9223372036854775807)
set_option maxRecDepth 100000 in
set_option maxHeartbeats 1000000 in
theorem short_any (o : OV) (ho : o.In) (w : World) : Calls Tryd.prog 11 #[.agg o.cells] w fun e w' => e = .returned (.bool (decide (o.data.size + o.sum.size ≤ 1000))) ∧ Below w.heap.size w w' := by
  obtain ⟨k1, k2, k3, k4, k5⟩ := o
  obtain ⟨_, _, h3, h4, _⟩ := ho
  simp only at h3 h4 ⊢
  unfold OV.cells
  simp only
  obtain ⟨W1, hW1⟩ : ∃ W1, w.alloc (.cells #[.int .i64 k1, .int .i64 k2, .string k3, .string k4, .int .i64 k5] 37) = W1 := ⟨_, rfl⟩
  obtain ⟨bx, hbx⟩ : ∃ bx, w.heap.size = bx := ⟨_, rfl⟩
  have r1 : W1.heap[bx]? = some (.cells #[.int .i64 k1, .int .i64 k2, .string k3, .string k4, .int .i64 k5] 37 (0, 0)) := by rw [← hW1, ← hbx]; exact heap_alloc_new w _
  have x2 : W1.cell? ⟨bx, 2, none⟩ = some (.string k3) := by rw [cell_of_row _ _ _ _ _ _ r1]; rfl
  have x3 : W1.cell? ⟨bx, 3, none⟩ = some (.string k4) := by rw [cell_of_row _ _ _ _ _ _ r1]; rfl
  have HB : Hid (Below w.heap.size w W1) := by show Below _ _ _; rw [← hW1]; exact (Below.refl _ w).alloc (Nat.le_refl _) _
  obtain ⟨z, hz⟩ : ∃ z, k3.size + k4.size = z := ⟨_, rfl⟩
  have kz : (k3.size : Int) + (k4.size : Int) = (z : Int) := by omega
  rw [hz]
  have hz2 : z ≤ 281474976702464 := by omega
  have HX : Hid (w.heap.size = bx) := hbx
  clear r1 hz
  by_cases h5 : z ≤ 1000
  · have k5 : (z : Int) ≤ 1000 := by omega
    rw [decide_eq_true h5]
    go_enter Tryd.func11, Tryd.ntmps11
    go_wp2
    go_ret
    exact ⟨rfl, by first | exact HB.out | (rw [← HX.out]; exact HB.out)⟩
  · have k5 : ¬ (z : Int) ≤ 1000 := by omega
    rw [decide_eq_false h5]
    go_enter Tryd.func11, Tryd.ntmps11
    go_wp2
    go_ret
    exact ⟨rfl, by first | exact HB.out | (rw [← HX.out]; exact HB.out)⟩
/-- The ID that a step is about. -/
def pickF (ids : List Ix) (o : OV) : ByteArray × Int := if 4 ≤ o.kind then (o.sum, o.n) else match ids[(o.at_ % (ids.length : Int)).toNat]? with
  | some x => (x.1, (x.2 : Int))
  | none => (o.sum, o.n)
def PkTo (w : World) (p : ByteArray × Int) (e : Ending) (w' : World) : Prop := e = .returned (.agg #[.string p.1, .int .i64 p.2]) ∧ Below w.heap.size w w'
theorem res_one_id {fn : Func} {p : Tmp} (h : fn.results = #[.cell p 35]) (tmps : Array Value) (w : World) (g : Nat) (cs : Array Value) (hp : tmps.getD p undef = .pointer (some ⟨g, 0, none⟩)) (hg : w.heap[g]? = some (.cells cs 35 (0, 0))) (hi : (Tryd.prog.info? 35).map (·.size) = some cs.size) :
    (results fn tmps).run Tryd.prog w = .ok (.agg cs) w := by
  have hp' : tmps[p]?.getD undef = .pointer (some ⟨g, 0, none⟩) := by simpa using hp
  have hl := run_loadVar_row (P := Tryd.prog) w g 35 35 cs (0, 0) _ hg Tryd.underlying35 rfl hi
  simp [results, h, hp', asAddr, hl]
set_option maxRecDepth 100000 in
set_option maxHeartbeats 2000000 in
theorem picked_any {G : Nat → Prop} {w : World} {a : Option Addr} {n c : Nat} {ids : List Ix} (h : Iw G w a n c ids) (hn : n ≤ 1000) (o : OV) (ho : o.In) : Calls Tryd.prog 12 #[.slice a n c, .agg o.cells] w fun e w' => PkTo w (pickF ids o) e w' := by
  have hl := h.len
  obtain ⟨k1, k2, k3, k4, k5⟩ := o
  obtain ⟨_, h2, _, _, _⟩ := ho
  simp only at h2
  unfold OV.cells
  simp only
  obtain ⟨W1, hW1⟩ : ∃ W1, w.alloc (.cells #[.int .i64 k1, .int .i64 k2, .string k3, .string k4, .int .i64 k5] 37) = W1 := ⟨_, rfl⟩
  obtain ⟨bx, hbx⟩ : ∃ bx, w.heap.size = bx := ⟨_, rfl⟩
  have r1 : W1.heap[bx]? = some (.cells #[.int .i64 k1, .int .i64 k2, .string k3, .string k4, .int .i64 k5] 37 (0, 0)) := by rw [← hW1, ← hbx]; exact heap_alloc_new w _
  have hb1 : Below w.heap.size w W1 := by rw [← hW1]; exact (Below.refl _ w).alloc (Nat.le_refl _) _
  obtain ⟨rb, hrb⟩ : ∃ rb, W1.heap.size = rb := ⟨_, rfl⟩
  obtain ⟨W2, hW2, r2, hb2⟩ := box_id (w := W1) ⟨#[]⟩ 0
  rw [hrb] at r2
  have hsx : bx < rb := by have := lt_of_some r1; omega
  have r1 := (hb2.block bx (by omega)).trans r1
  have x0 : W2.cell? ⟨bx, 0, none⟩ = some (.int .i64 k1) := by rw [cell_of_row _ _ _ _ _ _ r1]; rfl
  have x1 : W2.cell? ⟨bx, 1, none⟩ = some (.int .i64 k2) := by rw [cell_of_row _ _ _ _ _ _ r1]; rfl
  have x3 : W2.cell? ⟨bx, 3, none⟩ = some (.string k4) := by rw [cell_of_row _ _ _ _ _ _ r1]; rfl
  have x4 : W2.cell? ⟨bx, 4, none⟩ = some (.int .i64 k5) := by rw [cell_of_row _ _ _ _ _ _ r1]; rfl
  have z0 : W2.cell? ⟨rb, 0, none⟩ = some (.string ⟨#[]⟩) := by rw [cell_of_row _ _ _ _ _ _ r2]; rfl
  have z1 : W2.cell? ⟨rb, 1, none⟩ = some (.int .i64 0) := by rw [cell_of_row _ _ _ _ _ _ r2]; rfl
  have f0 := frozen_of_row W2 rb 0 _ _ r2
  have f1 := frozen_of_row W2 rb 1 _ _ r2
  have hbw2 : Below w.heap.size w W2 := hb1.trans (hb2.mono hb1.size)
  have HH : Hid (Below w.heap.size w W2 ∧ W2.heap[rb]? = some (.cells #[.string ⟨#[]⟩, .int .i64 0] 35 (0, 0)) ∧ w.heap.size ≤ rb ∧ Iw G W2 a n c ids) := ⟨hbw2, r2, by omega, h.below hbw2⟩
  have FIN : ∀ (s : ByteArray) (m : Int), pickF ids ⟨k1, k2, k3, k4, k5⟩ = (s, m) → Hid (PkTo w (pickF ids ⟨k1, k2, k3, k4, k5⟩) (.returned (.agg #[.string s, .int .i64 m])) ((W2.setCell ⟨rb, 0, none⟩ (.string s)).setCell ⟨rb, 1, none⟩ (.int .i64 m))) := fun s m e => by
    rw [e]
    exact ⟨rfl, below2s HH.out.1 HH.out.2.2.1 _ _⟩
  clear h r1 hb1 r2 hb2 hbw2
  by_cases q1 : 4 ≤ k1
  · have HE := FIN k4 k5 (by unfold pickF; rw [if_pos q1])
    clear FIN
    go_enter Tryd.func12, Tryd.ntmps12
    go_wp2
    refine bodyPost_ret (v := .agg #[.string k4, .int .i64 k5]) ?_ rfl HE.out
    exact res_one_id (fn := Tryd.f12) (p := 4) (by rfl) _ _ rb _ (by rfl) (set2 HH.out.2.1 _ _) infoI
  · by_cases q2 : n = 0
    · subst q2
      have hi0 : ids = [] := List.eq_nil_of_length_eq_zero (by omega)
      have HE := FIN k4 k5 (by unfold pickF; rw [if_neg q1, hi0]; rfl)
      rw [hi0] at HE
      clear FIN
      go_enter Tryd.func12, Tryd.ntmps12
      go_wp2
      refine bodyPost_ret (v := .agg #[.string k4, .int .i64 k5]) ?_ rfl HE.out
      exact res_one_id (fn := Tryd.f12) (p := 4) (by rfl) _ _ rb _ (by rfl) (set2 HH.out.2.1 _ _) infoI
    · have h5 := Int.emod_nonneg k2 (b := (n : Int)) (by omega)
      have h6 := Int.emod_lt_of_pos k2 (b := (n : Int)) (by omega)
      obtain ⟨j, hj⟩ : ∃ j : Nat, k2 % (n : Int) = (j : Int) := ⟨(k2 % (n : Int)).toNat, by omega⟩
      obtain ⟨⟨xs, xn⟩, hx⟩ : ∃ x, ids[j]? = some x := ⟨_, List.getElem?_eq_getElem (by omega)⟩
      have HE := FIN xs (xn : Int) (by
        unfold pickF
        rw [if_neg q1]
        simp only [hl, hj, Int.toNat_natCast, hx])
      obtain ⟨ib, io, rfl, _, _, hc⟩ := HH.out.2.2.2.at (by omega)
      obtain ⟨g0, g1⟩ := hc j (xs, xn) hx
      simp only at g0 g1
      have kn0 : ((n : Int) == 0) = false := by simp; omega
      have kn1 : ¬ (n : Int) = 0 := by omega
      have knm : ¬ (n : Int) = -1 := by omega
      have kjn : (j : Int) < (n : Int) := by omega
      clear FIN hc hx
      by_cases q3 : 0 ≤ k2.tmod (n : Int)
      · have ht : k2.tmod (n : Int) = (j : Int) := by
          rw [← hj]
          by_cases h0 : 0 ≤ k2
          · exact Int.tmod_eq_emod_of_nonneg h0
          · have h7 := Int.tmod_add_mul_tdiv k2 (n : Int)
            have h8 : k2.tmod (n : Int) ≤ 0 := by
              have := Int.tmod_nonneg (n : Int) (a := -k2) (by omega)
              rw [Int.neg_tmod] at this
              omega
            have h9 : k2.tmod (n : Int) = 0 := by omega
            rw [h9]
            have := Int.dvd_of_tmod_eq_zero h9
            exact (Int.emod_eq_zero_of_dvd this).symm
        clear q3 hj h5 h6
        go_enter Tryd.func12, Tryd.ntmps12
        go_wp2
        refine bodyPost_ret (v := .agg #[.string xs, .int .i64 (xn : Int)]) ?_ rfl HE.out
        exact res_one_id (fn := Tryd.f12) (p := 4) (by rfl) _ _ rb _ (by rfl) (set2 HH.out.2.1 _ _) infoI
      · obtain ⟨t, ht⟩ : ∃ t, k2.tmod (n : Int) = t := ⟨_, rfl⟩
        have htn : t + (n : Int) = (j : Int) := by
          have h7 : k2.tmod (n : Int) = k2 % (n : Int) - ((if 0 ≤ k2 ∨ (n : Int) ∣ k2 then 0 else (n : Int).natAbs : Nat) : Int) := Int.tmod_eq_emod
          rw [ht, hj] at h7
          split at h7
          · rw [ht] at q3
            omega
          · simp at h7
            omega
        rw [ht] at q3
        have kt : t < 0 := by omega
        have ktn : -9223372036854775808 ≤ t := by omega
        clear q3 hj h5 h6
        go_enter Tryd.func12, Tryd.ntmps12
        go_wp2
        refine bodyPost_ret (v := .agg #[.string xs, .int .i64 (xn : Int)]) ?_ rfl HE.out
        exact res_one_id (fn := Tryd.f12) (p := 4) (by rfl) _ _ rb _ (by rfl) (set2 HH.out.2.1 _ _) infoI
end Go.Proofs.YtjpkngbjjgimjaaDoor
