/- The document's states in memory; walks over why, with. A walk over the document's with. -/
import Derived.Test.YtdgffocmdkadpaaGreatOC
import Derived.Test.YtdgffocmdkadpaaGreatOH
import Derived.Test.YtdgffocmdkadpaaGreatOG
namespace Go.Proofs.YtdgffocmdkadpaaGreat
open Go.RowKit Go.Shelf Pg
set_option maxRecDepth 100000 in
theorem rblank_any (w : World) : Calls Tryz.prog 53 #[] w fun e w' => e = .returned (.string zeroS) ∧ Below w.heap.size w w' := by
  obtain ⟨W1, hW1⟩ : ∃ W1, w.alloc (.cells (u8L (List.replicate 1024 0)).toArray 5) = W1 := ⟨_, rfl⟩
  have hmk : (Instr.makeSlice 22 (.int .i64 1024) (.int .i64 1024)).run Tryz.prog w = .ok (.slice (some ⟨w.heap.size, 0, none⟩) 1024 1024) W1 := by rw [← hW1]; exact make_zero 1024 (by omega) w
  have hr1 : W1.heap[w.heap.size]? = some (.cells (u8L (List.replicate 1024 0)).toArray 5 (0, 0)) := by rw [← hW1]; exact heap_alloc_new w _
  have hcv : (convert 22 9 (.slice (some ⟨w.heap.size, 0, none⟩) 1024 1024)).run Tryz.prog W1 = .ok (.string zeroS) W1 := conv_u8 W1 _ _ _ _ hr1 1024 (by rw [List.length_replicate])
  have HB : Hid (Below w.heap.size w W1) := by show Below _ _ _; rw [← hW1]; exact (Below.refl _ w).alloc (Nat.le_refl _) _
  clear hr1 hW1
  go_enter Tryz.func53, Tryz.ntmps53
  go_wp2
  go_ret
  exact ⟨rfl, HB.out⟩
/-- A state of the document of n pages, whatever it says. -/
def DSt (F : Nat → Prop) (w : World) (n : Nat) (v : Value) : Prop := ∃ (ua : Option Addr) (uc : Nat) (da : Option Addr) (dc : Nat) (us : List Bool) (ds : List ByteArray) (r0 r1 r2 r3 ser : Int), v = .agg #[.slice ua n uc, .slice da n dc, .int .i64 r0, .int .i64 r1, .int .i64 r2, .int .i64 r3, .int .u64 ser] ∧ Rw F w 4 1 ua n uc (boolsV us) ∧ Rw F w 9 1 da n dc (strsV ds)
theorem DSt.fr {F F' : Nat → Prop} {w w' : World} {n : Nat} {v : Value} (h : DSt F w n v) (f : Fr F w F' w') : DSt F' w' n v := by
  obtain ⟨ua, uc, da, dc, us, ds, r0, r1, r2, r3, ser, rfl, h1, h2⟩ := h
  exact ⟨ua, uc, da, dc, us, ds, r0, r1, r2, r3, ser, rfl, h1.fr f, h2.fr f⟩
theorem bools_row {F : Nat → Prop} {w : World} {a : Option Addr} {n c : Nat} {us : List Bool} (h : Rw F w 4 1 a n c (boolsV us)) (hn : 0 < n) : us.length = n ∧ ∃ b o, a = some ⟨b, o, none⟩ ∧ b < w.heap.size ∧ F b ∧ ∀ i, i < n → w.cell? ⟨b, o + i, none⟩ = some (.bool (us.getD i false)) := by
  obtain ⟨h1, h2, h3, h4⟩ := h
  have hl : us.length = n := by simpa [boolsV] using h1
  obtain ⟨b, o, e, hb, hF, hc⟩ := h4 hn
  refine ⟨hl, b, o, e, hb, hF, fun i hi => hc i _ ?_⟩
  rw [boolsV_at, List.getElem?_eq_getElem (by omega), List.getD_eq_getElem?_getD, List.getElem?_eq_getElem (by omega)]
  rfl
theorem strs_row {F : Nat → Prop} {w : World} {a : Option Addr} {n c : Nat} {ds : List ByteArray} (h : Rw F w 9 1 a n c (strsV ds)) (hn : 0 < n) : ds.length = n ∧ ∃ b o, a = some ⟨b, o, none⟩ ∧ b < w.heap.size ∧ F b ∧ ∀ i, i < n → w.cell? ⟨b, o + i, none⟩ = some (.string (ds.getD i ByteArray.empty)) := by
  obtain ⟨h1, h2, h3, h4⟩ := h
  have hl : ds.length = n := by simpa [strsV] using h1
  obtain ⟨b, o, e, hb, hF, hc⟩ := h4 hn
  refine ⟨hl, b, o, e, hb, hF, fun i hi => hc i _ ?_⟩
  rw [strsV_at, List.getElem?_eq_getElem (by omega), List.getD_eq_getElem?_getD, List.getElem?_eq_getElem (by omega)]
  rfl
theorem rw_cap {F : Nat → Prop} {w : World} {et sz : Nat} {a : Option Addr} {n c : Nat} {xs : List Value} (h : Rw F w et sz a n c xs) : n ≤ c ∧ c ≤ 9223372036854775807 := by
  have h1 := h.2.1
  have h2 := h.2.2.1
  unfold maxLen at h2
  omega
def WyTo (n : Nat) (id : Int) (w : World) (e : Ending) (w' : World) : Prop := ∃ c : Nat, e = .returned (.int .i64 (c : Int)) ∧ (c = 0 → 1 ≤ id ∧ id < (n : Int)) ∧ Below w.heap.size w w'
section
variable {F : Nat → Prop} {w : World} {n : Nat} {v : Value}
set_option maxRecDepth 100000 in
set_option maxHeartbeats 2000000 in
theorem rwhy_any (h : DSt F w n v) (hn : 1 ≤ n) (id : Int) : Calls Tryz.prog 102 #[v, .int .i64 id] w fun e w' => WyTo n id w e w' := by
  obtain ⟨ua, uc, da, dc, us, ds, r0, r1, r2, r3, ser, rfl, hu, hd⟩ := h
  obtain ⟨hul, ub, uo, rfl, hubl, huF, huc⟩ := bools_row hu hn
  have hcap := rw_cap hu
  obtain ⟨B, hB⟩ : ∃ B, w.heap.size = B := ⟨_, rfl⟩
  obtain ⟨W1, hW1⟩ : ∃ W1, w.alloc (.cells #[.slice (some ⟨ub, uo, none⟩) n uc, .slice da n dc, .int .i64 r0, .int .i64 r1, .int .i64 r2, .int .i64 r3, .int .u64 ser] 42) = W1 := ⟨_, rfl⟩
  have hr1 : W1.heap[B]? = some (.cells #[.slice (some ⟨ub, uo, none⟩) n uc, .slice da n dc, .int .i64 r0, .int .i64 r1, .int .i64 r2, .int .i64 r3, .int .u64 ser] 42 (0, 0)) := by rw [← hW1, ← hB]; exact heap_alloc_new w _
  have HB : Hid (Below w.heap.size w W1) := by show Below _ _ _; rw [← hW1]; exact (Below.refl _ w).alloc (Nat.le_refl _) _
  have c0 : W1.cell? ⟨B, 0, none⟩ = some (.slice (some ⟨ub, uo, none⟩) n uc) := by rw [cell_of_row _ B _ _ _ _ hr1]; rfl
  by_cases h1 : id < 1
  · clear hu hd hr1 huc
    go_enter Tryz.func102, Tryz.ntmps102
    go_wp2
    go_ret
    exact ⟨9, rfl, fun e => (by omega), HB.out⟩
  by_cases h2 : (n : Int) ≤ id
  · clear hu hd hr1 huc
    go_enter Tryz.func102, Tryz.ntmps102
    go_wp2
    go_ret
    exact ⟨9, rfl, fun e => (by omega), HB.out⟩
  obtain ⟨i, rfl⟩ := Int.eq_ofNat_of_zero_le (show 0 ≤ id by omega)
  have cu : W1.cell? ⟨ub, uo + i, none⟩ = some (.bool (us.getD i false)) := by rw [HB.out.cell hubl]; exact huc i (by omega)
  have hi1 : 1 ≤ i := by omega
  have hin : i < n := by omega
  obtain ⟨bb, hbb⟩ : ∃ bb, us.getD i false = bb := ⟨_, rfl⟩
  rw [hbb] at cu
  clear hu hd hr1 huc hbb
  cases bb with
  | false =>
    go_enter Tryz.func102, Tryz.ntmps102
    go_wp2
    go_ret
    exact ⟨6, rfl, fun e => (by omega), HB.out⟩
  | true =>
    go_enter Tryz.func102, Tryz.ntmps102
    go_wp2
    go_ret
    exact ⟨0, rfl, fun _ => ⟨by omega, by omega⟩, HB.out⟩
theorem app_bools (w : World) {a : Option Addr} {c : Nat} {us : List Bool} (h : Rw F w 4 1 a n c (boolsV us)) (hn : n ≤ 1000) : ∃ a' c' w', (∀ ty, (Builtin.append_ #[37, 37] ty #[.slice none 0 0, .slice a n c]).run Tryz.prog w = .ok (.slice a' n c') w') ∧ w'.ownsRow w.heap.size 4 1 (.slice a' n c') n (boolsV us) ∧ w.grownBy w' none := by
  obtain ⟨i, hi, hz, hs, hbb⟩ := info_of infoB
  obtain ⟨a', c', w', k1, k2, k3, _⟩ := app_own w 37 4 i _ 1 1 Tryz.underlying37 hi hz hs hbb rfl (by omega) (World.ownsRow_nil w w.heap.size 4 1) h (fun u hu => by simp [boolsV] at hu; rcases hu with ⟨_, rfl⟩ | ⟨_, rfl⟩ <;> rfl) (by omega) (by omega) (Nat.le_refl _)
  rw [Nat.zero_add] at k1 k2
  exact ⟨a', c', w', k1, k2, k3⟩
theorem app_strs (w : World) {a : Option Addr} {c : Nat} {ds : List ByteArray} (h : Rw F w 9 1 a n c (strsV ds)) (hn : n ≤ 1000) : ∃ a' c' w', (∀ ty, (Builtin.append_ #[38, 38] ty #[.slice none 0 0, .slice a n c]).run Tryz.prog w = .ok (.slice a' n c') w') ∧ w'.ownsRow w.heap.size 9 1 (.slice a' n c') n (strsV ds) ∧ w.grownBy w' none := by
  obtain ⟨i, hi, hz, hs, hbb⟩ := info_of infoT
  obtain ⟨a', c', w', k1, k2, k3, _⟩ := app_own w 38 9 i _ 1 16 Tryz.underlying38 hi hz hs hbb rfl (by omega) (World.ownsRow_nil w w.heap.size 9 1) h (strsV_one ds) (by omega) (by omega) (Nat.le_refl _)
  rw [Nat.zero_add] at k1 k2
  exact ⟨a', c', w', k1, k2, k3⟩
end
end Go.Proofs.YtdgffocmdkadpaaGreat
namespace Go.Proofs.YtdgffocmdkadpaaGreat
open Go.RowKit Go.Shelf Pg
theorem boolsV_set (l : List Bool) (i : Nat) (b : Bool) : (boolsV l).set i (.bool b) = boolsV (l.set i b) := by simp [boolsV, List.map_set]
def WiTo (F : Nat → Prop) (n : Nat) (w : World) (e : Ending) (w' : World) : Prop := ∃ v', e = .returned v' ∧ DSt (mor F w w') w' n v' ∧ Below w.heap.size w w'
section
variable {F : Nat → Prop} {w : World} {n : Nat} {v : Value}
set_option maxRecDepth 100000 in
set_option maxHeartbeats 8000000 in
theorem rwith_any (h : DSt F w n v) (hn : 1 ≤ n) (hn2 : n ≤ 128) (i : Nat) (hi : i < n) (b : Bool) (s : ByteArray) : Calls Tryz.prog 101 #[v, .int .i64 (i : Int), .bool b, .string s] w fun e w' => WiTo F n w e w' := by
  obtain ⟨ua, uc, da, dc, us, ds, r0, r1, r2, r3, ser, rfl, hu, hd⟩ := h
  obtain ⟨B, hB⟩ : ∃ B, w.heap.size = B := ⟨_, rfl⟩
  obtain ⟨rS, hrS⟩ : ∃ rS : Array Value, #[.slice ua n uc, .slice da n dc, .int .i64 r0, .int .i64 r1, .int .i64 r2, .int .i64 r3, .int .u64 ser] = rS := ⟨_, rfl⟩
  have hrz : rS.size = 7 := by rw [← hrS]; rfl
  obtain ⟨W0, hW0⟩ : ∃ W0, w.alloc (.cells rS 42) = W0 := ⟨_, rfl⟩
  obtain ⟨W1, hW1⟩ : ∃ W1, W0.alloc (.cells #[.slice none 0 0, .slice none 0 0, .int .i64 0, .int .i64 0, .int .i64 0, .int .i64 0, .int .u64 0] 42) = W1 := ⟨_, rfl⟩
  obtain ⟨W2, hW2⟩ : ∃ W2, W1.alloc (.cells #[.slice none 0 0, .slice none 0 0, .int .i64 r0, .int .i64 r1, .int .i64 r2, .int .i64 r3, .int .u64 ser] 42) = W2 := ⟨_, rfl⟩
  have s0 : W0.heap.size = B + 1 := by rw [← hW0, ← hB]; simp
  have s1 : W1.heap.size = B + 2 := by rw [← hW1]; simp [s0]
  have s2 : W2.heap.size = B + 3 := by rw [← hW2]; simp [s1]
  have b0 : Below B w W0 := by rw [← hW0, ← hB]; exact (Below.refl _ w).alloc (Nat.le_refl _) _
  have b1 : Below B w W1 := by rw [← hW1]; exact b0.alloc (by omega) _
  have b2 : Below B w W2 := by rw [← hW2]; exact b1.alloc (by omega) _
  have q00 : W0.heap[B]? = some (.cells rS 42 (0, 0)) := by rw [← hW0, ← hB]; exact heap_alloc_new w _
  have q10 : W1.heap[B]? = some (.cells rS 42 (0, 0)) := by rw [← hW1, Below.heap_alloc _ _ _ (by omega)]; exact q00
  have q11 : W1.heap[B + 1]? = some (.cells #[.slice none 0 0, .slice none 0 0, .int .i64 0, .int .i64 0, .int .i64 0, .int .i64 0, .int .u64 0] 42 (0, 0)) := by rw [← hW1, ← s0]; exact heap_alloc_new W0 _
  have q20 : W2.heap[B]? = some (.cells rS 42 (0, 0)) := by rw [← hW2, Below.heap_alloc _ _ _ (by omega)]; exact q10
  have q21 : W2.heap[B + 1]? = some (.cells #[.slice none 0 0, .slice none 0 0, .int .i64 0, .int .i64 0, .int .i64 0, .int .i64 0, .int .u64 0] 42 (0, 0)) := by rw [← hW2, Below.heap_alloc _ _ _ (by omega)]; exact q11
  have q22 : W2.heap[B + 2]? = some (.cells #[.slice none 0 0, .slice none 0 0, .int .i64 r0, .int .i64 r1, .int .i64 r2, .int .i64 r3, .int .u64 ser] 42 (0, 0)) := by rw [← hW2, ← s1]; exact heap_alloc_new W1 _
  have hl4 := load_part (P := Tryz.prog) W1 B 2 39 _ _ _ _ [.int .i64 r0, .int .i64 r1, .int .i64 r2, .int .i64 r3] q10 Tryz.underlying39 rfl info_a4 (fun j v hv => by
    rw [← hrS]
    have hj : j < 4 := (List.getElem?_eq_some_iff.1 hv).1
    match j, hj with
    | 0, _ => exact hv
    | 1, _ => exact hv
    | 2, _ => exact hv
    | 3, _ => exact hv)
  have d16 : W1.cell? ⟨B, 6, none⟩ = some (.int .u64 ser) := by rw [cell_of_row _ B _ _ _ _ q10, ← hrS]; rfl
  have d20 : W2.cell? ⟨B, 0, none⟩ = some (.slice ua n uc) := by rw [cell_of_row _ B _ _ _ _ q20, ← hrS]; rfl
  have d220 : W2.cell? ⟨B + 2, 0, none⟩ = some (.slice none 0 0) := by rw [cell_of_row _ (B + 2) _ _ _ _ q22]; rfl
  have b2w : Below w.heap.size w W2 := by rw [hB]; exact b2
  obtain ⟨a1, c1, V3, k1, k2, k3⟩ := app_bools W2 (hu.below b2w) (by omega)
  have s3 : W2.heap.size ≤ V3.heap.size := k3.size
  have g3 : ∀ x, x < W2.heap.size → V3.heap[x]? = W2.heap[x]? := fun x hx => k3.block x hx (fun e => by cases e)
  have b3 : Below B w V3 := b2.grown k3 (by omega) (fun k hk => by cases hk)
  have d320 : V3.cell? ⟨B + 2, 0, none⟩ = some (.slice none 0 0) := by rw [cell_of_row _ (B + 2) _ _ _ _ ((g3 _ (by omega)).trans q22)]; rfl
  have f320 := frozen_of_row V3 (B + 2) 0 _ _ ((g3 _ (by omega)).trans q22)
  obtain ⟨V4, hV4⟩ : ∃ V4, V3.setCell ⟨B + 2, 0, none⟩ (.slice a1 n c1) = V4 := ⟨_, rfl⟩
  have s4 : V4.heap.size = V3.heap.size := by rw [← hV4, World.size_setCell]
  have o4 : ∀ x, x ≠ B + 2 → V4.heap[x]? = V3.heap[x]? := fun x hx => by rw [← hV4]; exact heap_setCell_other _ _ _ _ hx
  have b4 : Below B w V4 := by rw [← hV4]; exact b3.setCell (by show B ≤ B + 2; omega) _
  have q42 : V4.heap[B + 2]? = some (.cells #[.slice a1 n c1, .slice none 0 0, .int .i64 r0, .int .i64 r1, .int .i64 r2, .int .i64 r3, .int .u64 ser] 42 (0, 0)) := by rw [← hV4, heap_setCell_same V3 (B + 2) 0 _ _ _ ((g3 _ (by omega)).trans q22)]; rfl
  have q40 : V4.heap[B]? = some (.cells rS 42 (0, 0)) := (o4 _ (by omega)).trans ((g3 _ (by omega)).trans q20)
  have q41 := (o4 (B + 1) (by omega)).trans ((g3 _ (by omega)).trans q21)
  have u4 : V4.ownsRow W2.heap.size 4 1 (.slice a1 n c1) n (boolsV us) := own_keep k2 (fun k hk => o4 k (by have := (k2.lt k hk).1; omega))
  have d41 : V4.cell? ⟨B, 1, none⟩ = some (.slice da n dc) := by rw [cell_of_row _ B _ _ _ _ q40, ← hrS]; rfl
  have d421 : V4.cell? ⟨B + 2, 1, none⟩ = some (.slice none 0 0) := by rw [cell_of_row _ (B + 2) _ _ _ _ q42]; rfl
  obtain ⟨a2, c2, V5, m1, m2, m3⟩ := app_strs V4 (hd.below (by rw [hB]; exact b4)) (by omega)
  have s5 : V4.heap.size ≤ V5.heap.size := m3.size
  have g5 : ∀ x, x < V4.heap.size → V5.heap[x]? = V4.heap[x]? := fun x hx => m3.block x hx (fun e => by cases e)
  have b5 : Below B w V5 := b4.grown m3 (by omega) (fun k hk => by cases hk)
  have q52 := (g5 _ (by omega)).trans q42
  have d521 : V5.cell? ⟨B + 2, 1, none⟩ = some (.slice none 0 0) := by rw [cell_of_row _ (B + 2) _ _ _ _ q52]; rfl
  have f521 := frozen_of_row V5 (B + 2) 1 _ _ q52
  obtain ⟨V6, hV6⟩ : ∃ V6, V5.setCell ⟨B + 2, 1, none⟩ (.slice a2 n c2) = V6 := ⟨_, rfl⟩
  have s6 : V6.heap.size = V5.heap.size := by rw [← hV6, World.size_setCell]
  have o6 : ∀ x, x ≠ B + 2 → V6.heap[x]? = V5.heap[x]? := fun x hx => by rw [← hV6]; exact heap_setCell_other _ _ _ _ hx
  have b6 : Below B w V6 := by rw [← hV6]; exact b5.setCell (by show B ≤ B + 2; omega) _
  have q62 : V6.heap[B + 2]? = some (.cells #[.slice a1 n c1, .slice a2 n c2, .int .i64 r0, .int .i64 r1, .int .i64 r2, .int .i64 r3, .int .u64 ser] 42 (0, 0)) := by rw [← hV6, heap_setCell_same V5 (B + 2) 1 _ _ _ q52]; rfl
  have q61 := (o6 (B + 1) (by omega)).trans ((g5 _ (by omega)).trans q41)
  have u6 : V6.ownsRow W2.heap.size 4 1 (.slice a1 n c1) n (boolsV us) := own_keep u4 (fun k hk => (o6 k (by have := (u4.lt k hk).1; omega)).trans (g5 k (u4.lt k hk).2))
  have t6 : V6.ownsRow V4.heap.size 9 1 (.slice a2 n c2) n (strsV ds) := own_keep m2 (fun k hk => o6 k (by have := (m2.lt k hk).1; omega))
  obtain ⟨ub, hub, rfl⟩ : ∃ ub, W2.heap.size ≤ ub ∧ a1 = some ⟨ub, 0, none⟩ := by
    rcases u6.2 with ⟨h1, h2⟩ | ⟨g', cap', cur, e1, hb0, _⟩
    · omega
    · cases e1
      exact ⟨g', hb0, rfl⟩
  obtain ⟨db, hdb, rfl⟩ : ∃ db, V4.heap.size ≤ db ∧ a2 = some ⟨db, 0, none⟩ := by
    rcases t6.2 with ⟨h1, h2⟩ | ⟨g', cap', cur, e1, hb0, _⟩
    · omega
    · cases e1
      exact ⟨g', hb0, rfl⟩
  have hubl : ub < V4.heap.size := (u4.lt ub rfl).2
  have hul : us.length = n := by have := hu.1; simpa [boolsV] using this
  have hdl : ds.length = n := by have := hd.1; simpa [strsV] using this
  have hc1 : n ≤ c1 ∧ c1 ≤ 9223372036854775807 := by
    rcases u6.2 with ⟨h1, h2⟩ | ⟨g', cap', cur, e1, hb0, hr, h3, h4, _⟩
    · omega
    · cases e1
      unfold maxLen at h4
      omega
  have hc2 : n ≤ c2 ∧ c2 ≤ 9223372036854775807 := by
    rcases t6.2 with ⟨h1, h2⟩ | ⟨g', cap', cur, e1, hb0, hr, h3, h4, _⟩
    · omega
    · cases e1
      unfold maxLen at h4
      omega
  have e60 : V6.cell? ⟨B + 2, 0, none⟩ = some (.slice (some ⟨ub, 0, none⟩) n c1) := by rw [cell_of_row _ (B + 2) _ _ _ _ q62]; rfl
  have eu : V6.cell? ⟨ub, i, none⟩ = some (.bool us[i]) := own_at u6 (by rw [boolsV_at, List.getElem?_eq_getElem (by omega)]; rfl)
  have fu := u6.frozenAt i
  obtain ⟨V7, hV7⟩ : ∃ V7, V6.setCell ⟨ub, i, none⟩ (.bool b) = V7 := ⟨_, rfl⟩
  have s7 : V7.heap.size = V6.heap.size := by rw [← hV7, World.size_setCell]
  have o7 : ∀ x, x ≠ ub → V7.heap[x]? = V6.heap[x]? := fun x hx => by rw [← hV7]; exact heap_setCell_other _ _ _ _ hx
  have b7 : Below B w V7 := by rw [← hV7]; exact b6.setCell (by show B ≤ ub; omega) _
  have q72 := (o7 (B + 2) (by omega)).trans q62
  have q71 := (o7 (B + 1) (by omega)).trans q61
  have u7 : V7.ownsRow W2.heap.size 4 1 (.slice (some ⟨ub, 0, none⟩) n c1) n (boolsV (us.set i b)) := by rw [← hV7, ← boolsV_set]; exact own_put2 u6 i (.bool b)
  have t7 : V7.ownsRow V4.heap.size 9 1 (.slice (some ⟨db, 0, none⟩) n c2) n (strsV ds) := own_keep t6 (fun k hk => o7 k (by cases hk; show db ≠ ub; omega))
  have e71 : V7.cell? ⟨B + 2, 1, none⟩ = some (.slice (some ⟨db, 0, none⟩) n c2) := by rw [cell_of_row _ (B + 2) _ _ _ _ q72]; rfl
  have ed : V7.cell? ⟨db, i, none⟩ = some (.string ds[i]) := own_at t7 (by rw [strsV_at, List.getElem?_eq_getElem (by omega)]; rfl)
  have fd := t7.frozenAt i
  obtain ⟨V8, hV8⟩ : ∃ V8, V7.setCell ⟨db, i, none⟩ (.string s) = V8 := ⟨_, rfl⟩
  have s8 : V8.heap.size = V7.heap.size := by rw [← hV8, World.size_setCell]
  have o8 : ∀ x, x ≠ db → V8.heap[x]? = V7.heap[x]? := fun x hx => by rw [← hV8]; exact heap_setCell_other _ _ _ _ hx
  have b8 : Below B w V8 := by rw [← hV8]; exact b7.setCell (by show B ≤ db; omega) _
  have q82 := (o8 (B + 2) (by omega)).trans q72
  have q81 := (o8 (B + 1) (by omega)).trans q71
  have u8 : V8.ownsRow W2.heap.size 4 1 (.slice (some ⟨ub, 0, none⟩) n c1) n (boolsV (us.set i b)) := own_keep u7 (fun k hk => o8 k (by cases hk; show ub ≠ db; omega))
  have t8 : V8.ownsRow V4.heap.size 9 1 (.slice (some ⟨db, 0, none⟩) n c2) n (strsV (ds.set i s)) := by rw [← hV8, ← strsV_set]; exact own_put2 t7 i (.string s)
  have hl8 := load_rs V8 (B + 2) _ _ _ q82
  obtain ⟨rT, hrT⟩ : ∃ rT : Array Value, #[.slice (some ⟨ub, 0, none⟩) n c1, .slice (some ⟨db, 0, none⟩) n c2, .int .i64 r0, .int .i64 r1, .int .i64 r2, .int .i64 r3, .int .u64 ser] = rT := ⟨_, rfl⟩
  have hrTz : rT.size = 7 := by rw [← hrT]; rfl
  have hst : (storeCells ⟨B + 1, 0, none⟩ rT.toList).run Tryz.prog V8 = .ok () (V8.setRow (B + 1) rT) := by
    rw [run_storeCells_at Tryz.prog (B + 1) 0 42 rT.toList 0 _ V8 q81 (by rw [Array.length_toList, hrTz]; simp) (fun v hv => by
      rw [← hrT] at hv
      simp at hv
      rcases hv with rfl | rfl | rfl | rfl | rfl | rfl | rfl <;> rfl), Array.length_toList, hrTz]
    simp
  rw [hrT] at hl8
  have hin : (Tryz.prog.info? 42).map (·.size) = some rT.size := by rw [hrTz]; kernel_rfl
  have HE : Hid ((V8.setRow (B + 1) rT).heap[B + 1]? = some (.cells rT 42 (0, 0)) ∧ DSt (mor F w (V8.setRow (B + 1) rT)) (V8.setRow (B + 1) rT) n (.agg rT) ∧ Below B w (V8.setRow (B + 1) rT)) := by
    have b9 : Below B w (V8.setRow (B + 1) rT) := setRow_below b8 (by omega) _
    refine ⟨setRow_heap V8 _ _ _ _ _ q81, ⟨some ⟨ub, 0, none⟩, c1, some ⟨db, 0, none⟩, c2, us.set i b, ds.set i s, r0, r1, r2, r3, ser, by rw [hrT], ?_, ?_⟩, b9⟩
    · have h9 : (V8.setRow (B + 1) rT).ownsRow W2.heap.size 4 1 (.slice (some ⟨ub, 0, none⟩) n c1) n (boolsV (us.set i b)) := own_keep u8 (fun k hk => setRow_other _ _ _ _ (by cases hk; show ub ≠ B + 1; omega))
      exact (Rw.own (G := fun x => W2.heap.size ≤ x) h9 (fun x hx => hx)).mono (fun x hx hl => .inr ⟨by omega, hl⟩)
    · have h9 : (V8.setRow (B + 1) rT).ownsRow V4.heap.size 9 1 (.slice (some ⟨db, 0, none⟩) n c2) n (strsV (ds.set i s)) := own_keep t8 (fun k hk => setRow_other _ _ _ _ (by cases hk; show db ≠ B + 1; omega))
      exact (Rw.own (G := fun x => V4.heap.size ≤ x) h9 (fun x hx => hx)).mono (fun x hx hl => .inr ⟨by omega, hl⟩)
  have hbi : i < n := hi
  rw [hrS]
  clear hu hd q00 q10 q11 q20 q21 q22 q40 q41 q42 q52 q61 q62 q71 q72 q81 q82 k2 k3 m2 m3 u4 u6 u7 u8 t6 t7 t8 g3 g5 o4 o6 o7 o8 b0 b1 b2 b3 b4 b5 b6 b7 b8 b2w hrS hrT
  go_enter Tryz.func101, Tryz.ntmps101
  go_wp2_with (first | (refine wpList_load_w (by kernel_rfl) _ _ rfl rfl hl4 ?_) | (refine wpList_load_w (by kernel_rfl) _ _ rfl rfl hl8 ?_) | (at_builtin; refine wpList_app W2 rfl _ _ _ _ rfl rfl rfl (k1 _) ?_) | (at_builtin; refine wpList_app V4 rfl _ _ _ _ rfl rfl rfl (m1 _) ?_))
  exact bodyPost_ret (v := .agg rT) (results_cell_row rfl _ _ (B + 1) _ _ _ _ rfl HE.out.1 Tryz.underlying42 rfl hin) rfl ⟨.agg rT, rfl, HE.out.2.1, by rw [hB]; exact HE.out.2.2⟩
end
end Go.Proofs.YtdgffocmdkadpaaGreat
