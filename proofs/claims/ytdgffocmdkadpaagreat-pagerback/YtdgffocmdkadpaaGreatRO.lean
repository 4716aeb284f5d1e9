/- A walk over the document's Same. -/
import Derived.Test.YtdgffocmdkadpaaGreatRL
import Derived.BigQuiet
namespace Go.Proofs.YtdgffocmdkadpaaGreat
open Go.RowKit Go.Shelf Pg
def rsV (ua : Option Addr) (uc : Nat) (da : Option Addr) (dc n : Nat) (r : Nat → Int) (ser : Int) : Value := .agg #[.slice ua n uc, .slice da n dc, .int .i64 (r 0), .int .i64 (r 1), .int .i64 (r 2), .int .i64 (r 3), .int .u64 ser]
def AlikeS (n : Nat) (us us' : List Bool) (ds ds' : List ByteArray) (r r' : Nat → Int) (ser ser' : Int) : Prop := (∀ k, k < 4 → r k = r' k) ∧ ser = ser' ∧ ∀ i, i < n → us.getD i false = us'.getD i false ∧ (us.getD i false = true → 1 ≤ i → ds.getD i ByteArray.empty = ds'.getD i ByteArray.empty)
def SmTo (n : Nat) (us us' : List Bool) (ds ds' : List ByteArray) (r r' : Nat → Int) (ser ser' : Int) (w : World) (e : Ending) (w' : World) : Prop := ∃ b, e = .returned (.bool b) ∧ (AlikeS n us us' ds ds' r r' ser ser' → b = true) ∧ Below w.heap.size w w'
set_option maxRecDepth 100000 in
set_option maxHeartbeats 8000000 in
theorem rsame_any {F G : Nat → Prop} {w : World} {n : Nat} {ua ua' da da' : Option Addr} {uc uc' dc dc' : Nat} {us us' : List Bool} {ds ds' : List ByteArray} (hu : Rw F w 4 1 ua n uc (boolsV us)) (hd : Rw F w 9 1 da n dc (strsV ds)) (hu' : Rw G w 4 1 ua' n uc' (boolsV us')) (hd' : Rw G w 9 1 da' n dc' (strsV ds')) (hn : 1 ≤ n) (hn2 : n ≤ 128) (r r' : Nat → Int) (ser ser' : Int) : Calls Tryz.prog 23 #[rsV ua uc da dc n r ser, rsV ua' uc' da' dc' n r' ser'] w fun e w' => SmTo n us us' ds ds' r r' ser ser' w e w' := by
  obtain ⟨_, ub, uo, rfl, hubl, _, huc⟩ := bools_row hu hn
  obtain ⟨_, db, dO, rfl, hdbl, _, hdc⟩ := strs_row hd hn
  obtain ⟨_, ub', uo', rfl, hubl', _, huc'⟩ := bools_row hu' hn
  obtain ⟨_, db', dO', rfl, hdbl', _, hdc'⟩ := strs_row hd' hn
  have k1 := rw_cap hu
  have k2 := rw_cap hd
  have k3 := rw_cap hu'
  have k4 := rw_cap hd'
  obtain ⟨B, hB⟩ : ∃ B, w.heap.size = B := ⟨_, rfl⟩
  rw [hB] at hubl hdbl hubl' hdbl'
  unfold rsV
  obtain ⟨r0, hr0⟩ : ∃ x, r 0 = x := ⟨_, rfl⟩
  obtain ⟨r1, hr1⟩ : ∃ x, r 1 = x := ⟨_, rfl⟩
  obtain ⟨r2, hr2⟩ : ∃ x, r 2 = x := ⟨_, rfl⟩
  obtain ⟨r3, hr3⟩ : ∃ x, r 3 = x := ⟨_, rfl⟩
  obtain ⟨p0, hp0⟩ : ∃ x, r' 0 = x := ⟨_, rfl⟩
  obtain ⟨p1, hp1⟩ : ∃ x, r' 1 = x := ⟨_, rfl⟩
  obtain ⟨p2, hp2⟩ : ∃ x, r' 2 = x := ⟨_, rfl⟩
  obtain ⟨p3, hp3⟩ : ∃ x, r' 3 = x := ⟨_, rfl⟩
  rw [hr0, hr1, hr2, hr3, hp0, hp1, hp2, hp3]
  obtain ⟨row, hrow⟩ : ∃ row : Array Value, #[.slice (some ⟨ub, uo, none⟩) n uc, .slice (some ⟨db, dO, none⟩) n dc, .int .i64 r0, .int .i64 r1, .int .i64 r2, .int .i64 r3, .int .u64 ser] = row := ⟨_, rfl⟩
  obtain ⟨rowp, hrowp⟩ : ∃ row : Array Value, #[.slice (some ⟨ub', uo', none⟩) n uc', .slice (some ⟨db', dO', none⟩) n dc', .int .i64 p0, .int .i64 p1, .int .i64 p2, .int .i64 p3, .int .u64 ser'] = row := ⟨_, rfl⟩
  rw [hrow, hrowp]
  obtain ⟨W1, hW1⟩ : ∃ W1, w.alloc (.cells row 42) = W1 := ⟨_, rfl⟩
  obtain ⟨W2, hW2⟩ : ∃ W2, W1.alloc (.cells rowp 42) = W2 := ⟨_, rfl⟩
  have s1 : W1.heap.size = B + 1 := by rw [← hW1, ← hB]; simp
  have q1 : W1.heap[B]? = some (.cells row 42 (0, 0)) := by rw [← hW1, ← hB]; exact heap_alloc_new w _
  have q20 : W2.heap[B]? = some (.cells row 42 (0, 0)) := by rw [← hW2, Below.heap_alloc _ _ _ (by omega)]; exact q1
  have q21 : W2.heap[B + 1]? = some (.cells rowp 42 (0, 0)) := by rw [← hW2, ← s1]; exact heap_alloc_new W1 _
  have b1 : Below B w W1 := by rw [← hW1, ← hB]; exact (Below.refl _ w).alloc (Nat.le_refl _) _
  have b2 : Below B w W2 := by rw [← hW2]; exact b1.alloc (by omega) _
  have hla := load_part (P := Tryz.prog) W2 B 2 39 _ _ _ _ [.int .i64 r0, .int .i64 r1, .int .i64 r2, .int .i64 r3] q20 Tryz.underlying39 rfl info_a4 (fun j v hv => by
    rw [← hrow]
    have hj : j < 4 := (List.getElem?_eq_some_iff.1 hv).1
    match j, hj with
    | 0, _ => exact hv
    | 1, _ => exact hv
    | 2, _ => exact hv
    | 3, _ => exact hv)
  have hlb := load_part (P := Tryz.prog) W2 (B + 1) 2 39 _ _ _ _ [.int .i64 p0, .int .i64 p1, .int .i64 p2, .int .i64 p3] q21 Tryz.underlying39 rfl info_a4 (fun j v hv => by
    rw [← hrowp]
    have hj : j < 4 := (List.getElem?_eq_some_iff.1 hv).1
    match j, hj with
    | 0, _ => exact hv
    | 1, _ => exact hv
    | 2, _ => exact hv
    | 3, _ => exact hv)
  have heq := eq_array (P := Tryz.prog) W2 9998 39 3 4 .i64 #[.int .i64 r0, .int .i64 r1, .int .i64 r2, .int .i64 r3] #[.int .i64 p0, .int .i64 p1, .int .i64 p2, .int .i64 p3] r r' Tryz.underlying39 Tryz.underlying3 (by kernel_rfl) (by kernel_rfl) (fun i hi => by match i, hi with | 0, _ => rw [hr0]; rfl | 1, _ => rw [hr1]; rfl | 2, _ => rw [hr2]; rfl | 3, _ => rw [hr3]; rfl) (fun i hi => by match i, hi with | 0, _ => rw [hp0]; rfl | 1, _ => rw [hp1]; rfl | 2, _ => rw [hp2]; rfl | 3, _ => rw [hp3]; rfl)
  obtain ⟨hd0, hhd⟩ : ∃ x, ((List.range 4).all fun i => r i == r' i) = x := ⟨_, rfl⟩
  rw [hhd] at heq
  have HAL : Hid (AlikeS n us us' ds ds' r r' ser ser' → hd0 = true ∧ ser = ser') := fun ⟨h1, h2, _⟩ => by
    refine ⟨?_, h2⟩
    rw [← hhd, List.all_eq_true]
    intro k hk
    rw [h1 k (List.mem_range.1 hk)]
    exact beq_self_eq_true _
  have d0 : W2.cell? ⟨B, 0, none⟩ = some (.slice (some ⟨ub, uo, none⟩) n uc) := by rw [cell_of_row _ B _ _ _ _ q20, ← hrow]; rfl
  have d1 : W2.cell? ⟨B + 1, 0, none⟩ = some (.slice (some ⟨ub', uo', none⟩) n uc') := by rw [cell_of_row _ (B + 1) _ _ _ _ q21, ← hrowp]; rfl
  have d2 : W2.cell? ⟨B, 6, none⟩ = some (.int .u64 ser) := by rw [cell_of_row _ B _ _ _ _ q20, ← hrow]; rfl
  have d3 : W2.cell? ⟨B + 1, 6, none⟩ = some (.int .u64 ser') := by rw [cell_of_row _ (B + 1) _ _ _ _ q21, ← hrowp]; rfl
  have HQ : Hid (∀ W : World, W.heap[B]? = some (.cells row 42 (0, 0)) → W.heap[B + 1]? = some (.cells rowp 42 (0, 0)) → W.cell? ⟨B, 0, none⟩ = some (.slice (some ⟨ub, uo, none⟩) n uc) ∧ W.cell? ⟨B, 1, none⟩ = some (.slice (some ⟨db, dO, none⟩) n dc) ∧ W.cell? ⟨B + 1, 0, none⟩ = some (.slice (some ⟨ub', uo', none⟩) n uc') ∧ W.cell? ⟨B + 1, 1, none⟩ = some (.slice (some ⟨db', dO', none⟩) n dc')) := fun W h1 h2 => by
    rw [cell_of_row _ B _ _ _ _ h1, cell_of_row _ B _ _ _ _ h1, cell_of_row _ (B + 1) _ _ _ _ h2, cell_of_row _ (B + 1) _ _ _ _ h2, ← hrow, ← hrowp]
    exact ⟨rfl, rfl, rfl, rfl⟩
  have HC : Hid ((∀ i, i < n → w.cell? ⟨ub, uo + i, none⟩ = some (.bool (us.getD i false))) ∧ (∀ i, i < n → w.cell? ⟨ub', uo' + i, none⟩ = some (.bool (us'.getD i false))) ∧ (∀ i, i < n → w.cell? ⟨db, dO + i, none⟩ = some (.string (ds.getD i ByteArray.empty))) ∧ ∀ i, i < n → w.cell? ⟨db', dO' + i, none⟩ = some (.string (ds'.getD i ByteArray.empty))) := ⟨huc, huc', hdc, hdc'⟩
  have HI : Hid (W2.heap[B]? = some (.cells row 42 (0, 0)) ∧ W2.heap[B + 1]? = some (.cells rowp 42 (0, 0)) ∧ Below B w W2) := ⟨q20, q21, b2⟩
  clear hu hd hu' hd' huc huc' hdc hdc' hrow hrowp q1 q20 q21 b1 b2 hhd hr0 hr1 hr2 hr3 hp0 hp1 hp2 hp3
  cases hd0 with
  | false =>
    go_enter Tryz.func23, Tryz.ntmps23
    go_wp2_with (first | (refine wpList_load_w (by kernel_rfl) _ _ rfl rfl hla ?_) | (refine wpList_load_w (by kernel_rfl) _ _ rfl rfl hlb ?_))
    go_ret
    exact ⟨false, rfl, fun h => absurd (HAL.out h).1 (by simp), by rw [hB]; exact HI.out.2.2⟩
  | true =>
    by_cases hse : ser = ser'
    · subst hse
      go_enter Tryz.func23, Tryz.ntmps23
      go_wp2_with (first | (refine wpList_load_w (by kernel_rfl) _ _ rfl rfl hla ?_) | (refine wpList_load_w (by kernel_rfl) _ _ rfl rfl hlb ?_))
      go_loopw [5] (fun v5 wr => ∃ i : Nat, i ≤ n ∧ v5 = .int .i64 (i : Int) ∧ wr.heap[B]? = some (.cells row 42 (0, 0)) ∧ wr.heap[B + 1]? = some (.cells rowp 42 (0, 0)) ∧ Below B w wr) (fun v _ => n - (intOf v).toNat)
      case atStart => exact ⟨0, by omega, rfl, HI.out⟩
      case round =>
        clear HI hla hlb heq hW1 hW2 s1 d0 d1 d2 d3 HAL
        obtain ⟨i, hi, rfl, hr, hrp, hbw⟩ := hrel
        obtain ⟨c0, c1, c2, c3⟩ := HQ.out wr hr hrp
        have HK : Hid (wr.heap[B]? = some (.cells row 42 (0, 0)) ∧ wr.heap[B + 1]? = some (.cells rowp 42 (0, 0)) ∧ Below B w wr) := ⟨hr, hrp, hbw⟩
        by_cases hlt : i < n
        · have kk : (i : Int) < (n : Int) := by omega
          have d1 : wr.cell? ⟨ub, uo + i, none⟩ = some (.bool (us.getD i false)) := by rw [hbw.cell hubl]; exact HC.out.1 i hlt
          have d2 : wr.cell? ⟨ub', uo' + i, none⟩ = some (.bool (us'.getD i false)) := by rw [hbw.cell hubl']; exact HC.out.2.1 i hlt
          have e1 : wr.cell? ⟨db, dO + i, none⟩ = some (.string (ds.getD i ByteArray.empty)) := by rw [hbw.cell hdbl]; exact HC.out.2.2.1 i hlt
          have e2 : wr.cell? ⟨db', dO' + i, none⟩ = some (.string (ds'.getD i ByteArray.empty)) := by rw [hbw.cell hdbl']; exact HC.out.2.2.2 i hlt
          obtain ⟨x1, hx1⟩ : ∃ x, us.getD i false = x := ⟨_, rfl⟩
          obtain ⟨x2, hx2⟩ : ∃ x, us'.getD i false = x := ⟨_, rfl⟩
          obtain ⟨s1, hs1⟩ : ∃ x, ds.getD i ByteArray.empty = x := ⟨_, rfl⟩
          obtain ⟨s2, hs2⟩ : ∃ x, ds'.getD i ByteArray.empty = x := ⟨_, rfl⟩
          rw [hx1] at d1
          rw [hx2] at d2
          rw [hs1] at e1
          rw [hs2] at e2
          have HA : Hid (AlikeS n us us' ds ds' r r' ser ser → x1 = x2 ∧ (x1 = true → 1 ≤ i → s1 = s2)) := fun ⟨_, _, h⟩ => by
            obtain ⟨h1, h2⟩ := h i hlt
            rw [hx1, hx2] at h1
            rw [hx1, hs1, hs2] at h2
            exact ⟨h1, h2⟩
          clear hx1 hx2 hs1 hs2 hr hrp hbw
          by_cases hxx : x1 = x2
          · subst hxx
            cases x1 with
            | false =>
              go_wp2
              go_quiet (fail)
              go_wp2
              exact ⟨⟨i + 1, by omega, by go_num, HK.out.1, HK.out.2.1, below_drewN HK.out.2.2 _⟩, by simp [intOf]; omega⟩
            | true =>
              by_cases hi0 : i = 0
              · subst hi0
                rw [Nat.add_zero] at d1 d2 e1 e2
                go_wp2
                go_quiet (fail)
                go_wp2
                exact ⟨⟨1, by omega, by go_num, HK.out.1, HK.out.2.1, below_drewN HK.out.2.2 _⟩, by simp [intOf]; omega⟩
              · have hi1 : 0 < i := by omega
                have ki1 : decide ((0 : Int) < (i : Int)) = true := by simp; omega
                have ki2 : decide (0 < i) = true := by simp; omega
                by_cases hse : s1 = s2
                · subst hse
                  go_wp2
                  go_quiet (fail)
                  go_wp2
                  exact ⟨⟨i + 1, by omega, by go_num, HK.out.1, HK.out.2.1, below_drewN HK.out.2.2 _⟩, by simp [intOf]; omega⟩
                · have ht := str_nb hse
                  have hne := str_ne hse
                  have HX : Hid (¬ AlikeS n us us' ds ds' r r' ser ser) := fun h => hse ((HA.out h).2 rfl (by omega))
                  clear hse HA
                  go_wp2
                  go_quiet (fail)
                  go_wp2
                  go_ret
                  exact ⟨false, rfl, fun h => absurd h HX.out, by rw [hB]; exact below_drewN HK.out.2.2 _⟩
          · have hx3 : (x1 == x2) = false := by simpa using hxx
            have hx4 : (x1 != x2) = true := by simp [bne, hx3]
            have HX : Hid (¬ AlikeS n us us' ds ds' r r' ser ser) := fun h => hxx (HA.out h).1
            clear HA
            go_wp2
            go_quiet (fail)
            go_wp2
            go_ret
            exact ⟨false, rfl, fun h => absurd h HX.out, by rw [hB]; exact below_drewN HK.out.2.2 _⟩
        · obtain rfl : i = n := by omega
          have kk : ¬ (i : Int) < (i : Int) := by omega
          clear hr hrp hbw
          go_wp2
          go_ret
          exact ⟨true, rfl, fun _ => rfl, by rw [hB]; exact HK.out.2.2⟩
    · have hsb : (ser == ser') = false := by simpa using hse
      have hs3 : (ser != ser') = true := by simp [bne, hsb]
      have HX : Hid (¬ AlikeS n us us' ds ds' r r' ser ser') := fun h => hse (HAL.out h).2
      go_enter Tryz.func23, Tryz.ntmps23
      go_wp2_with (first | (refine wpList_load_w (by kernel_rfl) _ _ rfl rfl hla ?_) | (refine wpList_load_w (by kernel_rfl) _ _ rfl rfl hlb ?_))
      go_ret
      exact ⟨false, rfl, fun h => absurd h HX.out, by rw [hB]; exact HI.out.2.2⟩
end Go.Proofs.YtdgffocmdkadpaaGreat
