/- Walks over the document's Write. Walks over the document's Read, Point. -/
import Derived.Test.YtdgffocmdkadpaaGreatRC
namespace Go.Proofs.YtdgffocmdkadpaaGreat
open Go.RowKit Go.Shelf Pg
def z7 : Array Value := #[.slice none 0 0, .slice none 0 0, .int .i64 0, .int .i64 0, .int .i64 0, .int .i64 0, .int .u64 0]
theorem res_rs {fn : Func} {p q : Tmp} (h : fn.results = #[.cell p 42, .tmp q]) (tmps : Array Value) (w : World) (g : Nat) (rs : Array Value) (hz : rs.size = 7) (hp : tmps.getD p undef = .pointer (some ⟨g, 0, none⟩)) (hg : w.heap[g]? = some (.cells rs 42 (0, 0))) :
    (results fn tmps).run Tryz.prog w = .ok (.tuple #[.agg rs, tmps.getD q undef]) w := by
  have hp' : tmps[p]?.getD undef = .pointer (some ⟨g, 0, none⟩) := by simpa using hp
  simp [results, h, hp', asAddr, load_rs w g rs _ _ hg hz]
theorem DSt.agg {F : Nat → Prop} {w : World} {n : Nat} {v : Value} (h : DSt F w n v) : ∃ rs, v = .agg rs ∧ rs.size = 7 ∧ ∀ u ∈ rs.toList, u.oneCell' = true := by
  obtain ⟨ua, uc, da, dc, us, ds, r0, r1, r2, r3, ser, rfl, h1, h2⟩ := h
  refine ⟨_, rfl, rfl, fun u hu => ?_⟩
  simp at hu
  rcases hu with rfl | rfl | rfl | rfl | rfl | rfl | rfl <;> rfl
theorem store_ds {W : World} {g : Nat} {rs cur : Array Value} {t : TypeId} (hz : rs.size = 7) (ho : ∀ u ∈ rs.toList, u.oneCell' = true) (hg : W.heap[g]? = some (.cells cur t (0, 0))) (hc : cur.size = 7) : (storeCells ⟨g, 0, none⟩ rs.toList).run Tryz.prog W = .ok () (W.setRow g rs) := by
  rw [run_storeCells_at Tryz.prog g 0 t rs.toList 0 cur W hg (by rw [Array.length_toList, hz, hc]; omega) ho, Array.length_toList, hz]
  simp only [Nat.add_zero, List.take_zero, List.nil_append]
  rw [List.drop_eq_nil_of_le (by rw [Array.length_toList, hc]; omega), List.append_nil]
def RTo (F : Nat → Prop) (n : Nat) (w : World) (e : Ending) (w' : World) : Prop := ∃ (v' : Value) (c : Nat), e = .returned (.tuple #[v', .int .i64 (c : Int)]) ∧ DSt (mor F w w') w' n v' ∧ Below w.heap.size w w'
section
variable {F : Nat → Prop} {w : World} {n : Nat} {v : Value}
/-- What stands in a result's cell behind with. -/
theorem DSt.put {V2 V4 : World} {B : Nat} {r' rs : Array Value} (hF : ∀ x, F x → x < w.heap.size) (hB : w.heap.size = B) (hs : B + 2 ≤ V2.heap.size) (h : DSt (mor F V2 V4) V4 n (.agg r')) : DSt (mor F w (V4.setRow (B + 1) rs)) (V4.setRow (B + 1) rs) n (.agg r') := by
  refine h.fr ⟨by rw [size_setRow]; exact Nat.le_refl _, fun x hx => ?_, fun x hx hl => setRow_other _ _ _ _ ?_⟩
  · rcases hx with hx | ⟨h1, h2⟩
    · exact .inl hx
    · exact .inr ⟨by omega, by rw [size_setRow]; exact h2⟩
  · rcases hx with hx | ⟨h1, h2⟩
    · have := hF x hx; omega
    · omega
set_option maxRecDepth 100000 in
set_option maxHeartbeats 4000000 in
theorem rwrite_any (h : DSt F w n v) (hF : ∀ x, F x → x < w.heap.size) (hn : 1 ≤ n) (hn2 : n ≤ 128) (id : Int) (s : ByteArray) : Calls Tryz.prog 57 #[v, .int .i64 id, .string s] w fun e w' => RTo F n w e w' := by
  obtain ⟨rS, rfl, hrz, hro⟩ := h.agg
  obtain ⟨B, hB⟩ : ∃ B, w.heap.size = B := ⟨_, rfl⟩
  obtain ⟨W0, hW0⟩ : ∃ W0, w.alloc (.cells rS 42) = W0 := ⟨_, rfl⟩
  obtain ⟨W1, hW1⟩ : ∃ W1, W0.alloc (.cells #[.slice none 0 0, .slice none 0 0, .int .i64 0, .int .i64 0, .int .i64 0, .int .i64 0, .int .u64 0] 42) = W1 := ⟨_, rfl⟩
  have s0 : W0.heap.size = B + 1 := by rw [← hW0, ← hB]; simp
  have s1 : W1.heap.size = B + 2 := by rw [← hW1]; simp [s0]
  have b0 : Below B w W0 := by rw [← hW0, ← hB]; exact (Below.refl _ w).alloc (Nat.le_refl _) _
  have b1 : Below B w W1 := by rw [← hW1]; exact b0.alloc (by omega) _
  have q00 : W0.heap[B]? = some (.cells rS 42 (0, 0)) := by rw [← hW0, ← hB]; exact heap_alloc_new w _
  have q10 : W1.heap[B]? = some (.cells rS 42 (0, 0)) := by rw [← hW1, Below.heap_alloc _ _ _ (by omega)]; exact q00
  have q11 : W1.heap[B + 1]? = some (.cells z7 42 (0, 0)) := by rw [← hW1, ← s0]; exact heap_alloc_new W0 _
  have b1w : Below w.heap.size w W1 := by rw [hB]; exact b1
  have hD1 : DSt F W1 n (.agg rS) := by
    obtain ⟨ua, uc, da, dc, us, ds, r0, r1, r2, r3, ser, e, h1, h2⟩ := h
    exact ⟨ua, uc, da, dc, us, ds, r0, r1, r2, r3, ser, e, h1.below b1w, h2.below b1w⟩
  have HWY := rwhy_any hD1 hn id
  have hl1 := load_rs W1 B _ _ _ q10 hrz
  have H1 : Hid (W1.heap[B]? = some (.cells rS 42 (0, 0)) ∧ W1.heap[B + 1]? = some (.cells z7 42 (0, 0)) ∧ Below B w W1 ∧ DSt F W1 n (.agg rS) ∧ W1.heap.size = B + 2 ∧ DSt F w n (.agg rS) ∧ ∀ x, F x → x < w.heap.size) := ⟨q10, q11, b1, hD1, s1, h, hF⟩
  have HRO : Hid (∀ u ∈ rS.toList, u.oneCell' = true) := hro
  clear q00 q10 q11 b0 b1 b1w hD1 h hF hro
  go_enter Tryz.func57, Tryz.ntmps57
  go_wp2_with (refine wpList_load_w (by kernel_rfl) _ _ rfl rfl hl1 ?_)
  refine HWY.mono ?_
  rintro e V2 ⟨c, rfl, hc, hb2⟩
  have q20 := (hb2.block B (lt_of_some H1.out.1)).trans H1.out.1
  have q21 := (hb2.block (B + 1) (lt_of_some H1.out.2.1)).trans H1.out.2.1
  have b2 : Below B w V2 := H1.out.2.2.1.trans (hb2.mono (by have := H1.out.2.2.2.2.1; omega))
  have s2 : B + 2 ≤ V2.heap.size := by have := H1.out.2.2.2.2.1; have := hb2.size; omega
  have hl2 := load_rs V2 B _ _ _ q20 hrz
  have hst := store_ds (W := V2) hrz HRO.out q21 rfl
  obtain ⟨V3, hV3⟩ : ∃ V3, V2.setRow (B + 1) rS = V3 := ⟨_, rfl⟩
  rw [hV3] at hst
  have HSAME : Hid (V3.heap[B + 1]? = some (.cells rS 42 (0, 0)) ∧ DSt (mor F w V3) V3 n (.agg rS) ∧ Below w.heap.size w V3) := by
    have b3 : Below w.heap.size w V3 := by rw [← hV3, hB]; exact setRow_below b2 (by omega) _
    exact ⟨by rw [← hV3]; exact setRow_heap V2 _ _ _ _ _ q21, H1.out.2.2.2.2.2.1.fr (Fr.below b3), b3⟩
  by_cases hc0 : c = 0
  · subst hc0
    obtain ⟨h1, h2⟩ := hc rfl
    obtain ⟨i, rfl⟩ := Int.eq_ofNat_of_zero_le (show 0 ≤ id by omega)
    by_cases hsz : s.size = 1024
    · have ksz : (s.size : Int) = 1024 := by omega
      have hD2 : DSt F V2 n (.agg rS) := by
        obtain ⟨ua, uc, da, dc, us, ds, r0, r1, r2, r3, ser, e, h1, h2⟩ := H1.out.2.2.2.1
        exact ⟨ua, uc, da, dc, us, ds, r0, r1, r2, r3, ser, e, h1.below hb2, h2.below hb2⟩
      have HWI := rwith_any hD2 hn hn2 i (by omega) true s
      have H2 : Hid (V2.heap[B + 1]? = some (.cells z7 42 (0, 0)) ∧ Below B w V2 ∧ B + 2 ≤ V2.heap.size) := ⟨q21, b2, s2⟩
      clear HWY hb2 q20 q21 b2 s2 hst hV3 HSAME hD2 hc
      go_wp2_with (refine wpList_load_w (by kernel_rfl) _ _ rfl rfl hl2 ?_)
      refine HWI.mono ?_
      rintro e V4 ⟨v', rfl, hD4, hb4⟩
      obtain ⟨r', rfl, hrz', hro'⟩ := hD4.agg
      have q41 := (hb4.block (B + 1) (lt_of_some H2.out.1)).trans H2.out.1
      have hst4 := store_ds (W := V4) hrz' hro' q41 rfl
      obtain ⟨V5, hV5⟩ : ∃ V5, V4.setRow (B + 1) r' = V5 := ⟨_, rfl⟩
      rw [hV5] at hst4
      have HE : Hid (V5.heap[B + 1]? = some (.cells r' 42 (0, 0)) ∧ DSt (mor F w V5) V5 n (.agg r') ∧ Below w.heap.size w V5) := by
        refine ⟨by rw [← hV5]; exact setRow_heap V4 _ _ _ _ _ q41, by rw [← hV5]; exact DSt.put H1.out.2.2.2.2.2.2 hB H2.out.2.2 hD4, ?_⟩
        rw [← hV5, hB]
        exact setRow_below (H2.out.2.1.trans (hb4.mono (by have := H2.out.2.2; omega))) (by omega) _
      clear HWI hD4 hb4 q41 hV5 hl2 H2 H1
      go_wp2
      exact bodyPost_ret (res_rs (p := 6) (q := 7) rfl _ _ (B + 1) _ hrz' rfl HE.out.1) rfl ⟨.agg r', 0, rfl, HE.out.2⟩
    · have ksz : ¬ (s.size : Int) = 1024 := by omega
      have kszb : ((s.size : Int) == 1024) = false := by simpa using ksz
      clear HWY hb2 q20 q21 b2 s2 hV3 hc H1
      go_wp2_with (refine wpList_load_w (by kernel_rfl) _ _ rfl rfl hl2 ?_)
      exact bodyPost_ret (res_rs (p := 6) (q := 7) rfl _ _ (B + 1) _ hrz rfl HSAME.out.1) rfl ⟨.agg rS, 1, rfl, HSAME.out.2⟩
  · have kc0 : ¬ (c : Int) = 0 := by omega
    have kc0b : ((c : Int) == 0) = false := by simpa using hc0
    clear HWY hb2 q20 q21 b2 s2 hV3 hc H1
    go_wp2_with (refine wpList_load_w (by kernel_rfl) _ _ rfl rfl hl2 ?_)
    exact bodyPost_ret (res_rs (p := 6) (q := 7) rfl _ _ (B + 1) _ hrz rfl HSAME.out.1) rfl ⟨.agg rS, c, rfl, HSAME.out.2⟩
end
end Go.Proofs.YtdgffocmdkadpaaGreat
namespace Go.Proofs.YtdgffocmdkadpaaGreat
open Go.RowKit Go.Shelf Pg
theorem DSt.below {F : Nat → Prop} {w w' : World} {n : Nat} {v : Value} (h : DSt F w n v) (hb : Below w.heap.size w w') : DSt F w' n v := by
  obtain ⟨ua, uc, da, dc, us, ds, r0, r1, r2, r3, ser, e, h1, h2⟩ := h
  exact ⟨ua, uc, da, dc, us, ds, r0, r1, r2, r3, ser, e, h1.below hb, h2.below hb⟩
theorem DSt.point {F : Nat → Prop} {w : World} {n : Nat} {r : Array Value} (h : DSt F w n (.agg r)) (k : Nat) (hk : k < 4) (x : Int) : DSt F w n (.agg (r.setIfInBounds (2 + k) (.int .i64 x))) ∧ ∃ y : Int, r[2 + k]? = some (.int .i64 y) := by
  obtain ⟨ua, uc, da, dc, us, ds, r0, r1, r2, r3, ser, e, h1, h2⟩ := h
  cases e
  match k, hk with
  | 0, _ => exact ⟨⟨ua, uc, da, dc, us, ds, x, r1, r2, r3, ser, rfl, h1, h2⟩, r0, rfl⟩
  | 1, _ => exact ⟨⟨ua, uc, da, dc, us, ds, r0, x, r2, r3, ser, rfl, h1, h2⟩, r1, rfl⟩
  | 2, _ => exact ⟨⟨ua, uc, da, dc, us, ds, r0, r1, x, r3, ser, rfl, h1, h2⟩, r2, rfl⟩
  | 3, _ => exact ⟨⟨ua, uc, da, dc, us, ds, r0, r1, r2, x, ser, rfl, h1, h2⟩, r3, rfl⟩
theorem DSt.data {F : Nat → Prop} {w : World} {n : Nat} {r : Array Value} (h : DSt F w n (.agg r)) (hn : 1 ≤ n) : ∃ db o dc, r[1]? = some (.slice (some ⟨db, o, none⟩) n dc) ∧ db < w.heap.size ∧ n ≤ dc ∧ dc ≤ 9223372036854775807 ∧ ∀ i, i < n → ∃ s, w.cell? ⟨db, o + i, none⟩ = some (.string s) := by
  obtain ⟨ua, uc, da, dc, us, ds, r0, r1, r2, r3, ser, e, h1, h2⟩ := h
  cases e
  obtain ⟨hl, b, o, rfl, hb, _, hc⟩ := strs_row h2 hn
  have := rw_cap h2
  exact ⟨b, o, dc, rfl, hb, this.1, this.2, fun i hi => ⟨_, hc i hi⟩⟩
theorem DSt.use {F : Nat → Prop} {w : World} {n : Nat} {r : Array Value} (h : DSt F w n (.agg r)) (hn : 1 ≤ n) : ∃ ub o uc, r[0]? = some (.slice (some ⟨ub, o, none⟩) n uc) ∧ ub < w.heap.size ∧ n ≤ uc ∧ uc ≤ 9223372036854775807 ∧ ∀ i, i < n → ∃ b, w.cell? ⟨ub, o + i, none⟩ = some (.bool b) := by
  obtain ⟨ua, uc, da, dc, us, ds, r0, r1, r2, r3, ser, e, h1, h2⟩ := h
  cases e
  obtain ⟨hl, b, o, rfl, hb, _, hc⟩ := bools_row h1 hn
  have := rw_cap h1
  exact ⟨b, o, uc, rfl, hb, this.1, this.2, fun i hi => ⟨_, hc i hi⟩⟩
def RdTo (w : World) (e : Ending) (w' : World) : Prop := ∃ (s : ByteArray) (c : Nat), e = .returned (.tuple #[.string s, .int .i64 (c : Int)]) ∧ Below w.heap.size w w'
section
variable {F : Nat → Prop} {w : World} {n : Nat} {v : Value}
set_option maxRecDepth 100000 in
set_option maxHeartbeats 4000000 in
theorem rread_any (h : DSt F w n v) (hn : 1 ≤ n) (id : Int) : Calls Tryz.prog 60 #[v, .int .i64 id] w fun e w' => RdTo w e w' := by
  obtain ⟨rS, rfl, hrz, hro⟩ := h.agg
  obtain ⟨B, hB⟩ : ∃ B, w.heap.size = B := ⟨_, rfl⟩
  obtain ⟨W0, hW0⟩ : ∃ W0, w.alloc (.cells rS 42) = W0 := ⟨_, rfl⟩
  have b0 : Below B w W0 := by rw [← hW0, ← hB]; exact (Below.refl _ w).alloc (Nat.le_refl _) _
  have q00 : W0.heap[B]? = some (.cells rS 42 (0, 0)) := by rw [← hW0, ← hB]; exact heap_alloc_new w _
  have hD0 : DSt F W0 n (.agg rS) := h.below (by rw [hB]; exact b0)
  have HWY := rwhy_any hD0 hn id
  have hl0 := load_rs W0 B _ _ _ q00 hrz
  have H0 : Hid (W0.heap[B]? = some (.cells rS 42 (0, 0)) ∧ Below B w W0 ∧ DSt F W0 n (.agg rS)) := ⟨q00, b0, hD0⟩
  clear q00 b0 hD0 h hro
  go_enter Tryz.func60, Tryz.ntmps60
  go_wp2_with (refine wpList_load_w (by kernel_rfl) _ _ rfl rfl hl0 ?_)
  refine HWY.mono ?_
  rintro e V2 ⟨c, rfl, hc, hb2⟩
  have q20 := (hb2.block B (lt_of_some H0.out.1)).trans H0.out.1
  have HB2 : Hid (Below w.heap.size w V2) := by show Below _ _ _; rw [hB]; exact H0.out.2.1.trans (hb2.mono (by have := lt_of_some H0.out.1; omega))
  have hD2 : DSt F V2 n (.agg rS) := H0.out.2.2.below hb2
  obtain ⟨db, o, dc, e1, _, hd1, hd2, hdc⟩ := hD2.data hn
  have c1 : V2.cell? ⟨B, 1, none⟩ = some (.slice (some ⟨db, o, none⟩) n dc) := by rw [cell_of_row V2 B _ _ _ _ q20]; exact e1
  by_cases hc0 : c = 0
  · subst hc0
    obtain ⟨h1, h2⟩ := hc rfl
    obtain ⟨i, rfl⟩ := Int.eq_ofNat_of_zero_le (show 0 ≤ id by omega)
    have hin : i < n := by omega
    obtain ⟨s, cs⟩ := hdc i hin
    clear HWY hb2 q20 hD2 e1 hdc hc H0
    go_wp2
    go_ret2
    exact ⟨s, 0, rfl, HB2.out⟩
  · have kc0 : ¬ (c : Int) = 0 := by omega
    have kc0b : ((c : Int) == 0) = false := by simpa using hc0
    clear HWY hb2 q20 hD2 e1 hdc hc H0
    go_wp2
    go_ret2
    exact ⟨⟨#[]⟩, c, rfl, HB2.out⟩
set_option maxRecDepth 100000 in
set_option maxHeartbeats 4000000 in
theorem rpoint_any (h : DSt F w n v) (hn : 1 ≤ n) (k id : Int) : Calls Tryz.prog 58 #[v, .int .i64 k, .int .i64 id] w fun e w' => RTo F n w e w' := by
  obtain ⟨rS, rfl, hrz, hro⟩ := h.agg
  obtain ⟨B, hB⟩ : ∃ B, w.heap.size = B := ⟨_, rfl⟩
  obtain ⟨W0, hW0⟩ : ∃ W0, w.alloc (.cells rS 42) = W0 := ⟨_, rfl⟩
  obtain ⟨W1, hW1⟩ : ∃ W1, W0.alloc (.cells #[.slice none 0 0, .slice none 0 0, .int .i64 0, .int .i64 0, .int .i64 0, .int .i64 0, .int .u64 0] 42) = W1 := ⟨_, rfl⟩
  have s0 : W0.heap.size = B + 1 := by rw [← hW0, ← hB]; simp
  have s1 : W1.heap.size = B + 2 := by rw [← hW1]; simp [s0]
  have b0 : Below B w W0 := by rw [← hW0, ← hB]; exact (Below.refl _ w).alloc (Nat.le_refl _) _
  have b1 : Below B w W1 := by rw [← hW1]; exact b0.alloc (by omega) _
  have q00 : W0.heap[B]? = some (.cells rS 42 (0, 0)) := by rw [← hW0, ← hB]; exact heap_alloc_new w _
  have q10 : W1.heap[B]? = some (.cells rS 42 (0, 0)) := by rw [← hW1, Below.heap_alloc _ _ _ (by omega)]; exact q00
  have q11 : W1.heap[B + 1]? = some (.cells z7 42 (0, 0)) := by rw [← hW1, ← s0]; exact heap_alloc_new W0 _
  have b1w : Below w.heap.size w W1 := by rw [hB]; exact b1
  have hD1 : DSt F W1 n (.agg rS) := h.below b1w
  have hl1 := load_rs W1 B _ _ _ q10 hrz
  have hst1 := store_ds (W := W1) hrz hro q11 rfl
  obtain ⟨V1, hV1⟩ : ∃ V1, W1.setRow (B + 1) rS = V1 := ⟨_, rfl⟩
  rw [hV1] at hst1
  have HSAME1 : Hid (V1.heap[B + 1]? = some (.cells rS 42 (0, 0)) ∧ DSt (mor F w V1) V1 n (.agg rS) ∧ Below w.heap.size w V1) := by
    have b3 : Below w.heap.size w V1 := by rw [← hV1, hB]; exact setRow_below b1 (by omega) _
    exact ⟨by rw [← hV1]; exact setRow_heap W1 _ _ _ _ _ q11, h.fr (Fr.below b3), b3⟩
  by_cases hk1 : k < 0
  · clear q00 q10 q11 b0 b1 b1w hD1 h hro hV1
    go_enter Tryz.func58, Tryz.ntmps58
    go_wp2_with (refine wpList_load_w (by kernel_rfl) _ _ rfl rfl hl1 ?_)
    exact bodyPost_ret (res_rs (p := 6) (q := 7) rfl _ _ (B + 1) _ hrz rfl HSAME1.out.1) rfl ⟨.agg rS, 9, rfl, HSAME1.out.2⟩
  by_cases hk2 : 3 < k
  · clear q00 q10 q11 b0 b1 b1w hD1 h hro hV1
    go_enter Tryz.func58, Tryz.ntmps58
    go_wp2_with (refine wpList_load_w (by kernel_rfl) _ _ rfl rfl hl1 ?_)
    exact bodyPost_ret (res_rs (p := 6) (q := 7) rfl _ _ (B + 1) _ hrz rfl HSAME1.out.1) rfl ⟨.agg rS, 9, rfl, HSAME1.out.2⟩
  obtain ⟨kn, rfl⟩ := Int.eq_ofNat_of_zero_le (show 0 ≤ k by omega)
  have hkn : kn < 4 := by omega
  have HFIN : Hid (∀ V : World, V.heap[B]? = some (.cells rS 42 (0, 0)) → V.heap[B + 1]? = some (.cells z7 42 (0, 0)) → Below B w V → (∃ y : Int, V.cell? ⟨B, 2 + kn, none⟩ = some (.int .i64 y)) ∧ V.frozen? ⟨B, 2 + kn, none⟩ = false ∧ (loadVar 42 ⟨B, 0, none⟩).run Tryz.prog (V.setCell ⟨B, 2 + kn, none⟩ (.int .i64 id)) = .ok (.agg (rS.setIfInBounds (2 + kn) (.int .i64 id))) (V.setCell ⟨B, 2 + kn, none⟩ (.int .i64 id)) ∧ (storeCells ⟨B + 1, 0, none⟩ (rS.setIfInBounds (2 + kn) (.int .i64 id)).toList).run Tryz.prog (V.setCell ⟨B, 2 + kn, none⟩ (.int .i64 id)) = .ok () ((V.setCell ⟨B, 2 + kn, none⟩ (.int .i64 id)).setRow (B + 1) (rS.setIfInBounds (2 + kn) (.int .i64 id))) ∧ ((V.setCell ⟨B, 2 + kn, none⟩ (.int .i64 id)).setRow (B + 1) (rS.setIfInBounds (2 + kn) (.int .i64 id))).heap[B + 1]? = some (.cells (rS.setIfInBounds (2 + kn) (.int .i64 id)) 42 (0, 0)) ∧ DSt (mor F w ((V.setCell ⟨B, 2 + kn, none⟩ (.int .i64 id)).setRow (B + 1) (rS.setIfInBounds (2 + kn) (.int .i64 id)))) ((V.setCell ⟨B, 2 + kn, none⟩ (.int .i64 id)).setRow (B + 1) (rS.setIfInBounds (2 + kn) (.int .i64 id))) n (.agg (rS.setIfInBounds (2 + kn) (.int .i64 id))) ∧ Below w.heap.size w ((V.setCell ⟨B, 2 + kn, none⟩ (.int .i64 id)).setRow (B + 1) (rS.setIfInBounds (2 + kn) (.int .i64 id)))) := by
    intro V q1 q2 bV
    obtain ⟨hp, y, hy⟩ := h.point kn hkn id
    have q3 := heap_setCell_same V B (2 + kn) _ _ (.int .i64 id) q1
    have q4 : (V.setCell ⟨B, 2 + kn, none⟩ (.int .i64 id)).heap[B + 1]? = some (.cells z7 42 (0, 0)) := (heap_setCell_other _ _ _ _ (by show B + 1 ≠ B; omega)).trans q2
    have hz : (rS.setIfInBounds (2 + kn) (.int .i64 id)).size = 7 := by simpa using hrz
    obtain ⟨r2, e2, _, ho2⟩ := hp.agg
    cases e2
    have b9 : Below w.heap.size w ((V.setCell ⟨B, 2 + kn, none⟩ (.int .i64 id)).setRow (B + 1) (rS.setIfInBounds (2 + kn) (.int .i64 id))) := by rw [hB]; exact setRow_below (bV.setCell (by show B ≤ B; omega) _) (by omega) _
    exact ⟨⟨y, by rw [cell_of_row V B _ _ _ _ q1]; exact hy⟩, frozen_of_row V B _ _ _ q1, load_rs _ B _ _ _ q3 hz, store_ds hz ho2 q4 rfl, setRow_heap _ _ _ _ _ _ q4, hp.fr (Fr.below b9), b9⟩
  obtain ⟨rP, hrP⟩ : ∃ rP, rS.setIfInBounds (2 + kn) (.int .i64 id) = rP := ⟨_, rfl⟩
  have hrPz : rP.size = 7 := by rw [← hrP]; simpa using hrz
  rw [hrP] at HFIN
  have HWY := rwhy_any hD1 hn id
  have H1 : Hid (W1.heap[B]? = some (.cells rS 42 (0, 0)) ∧ W1.heap[B + 1]? = some (.cells z7 42 (0, 0)) ∧ Below B w W1 ∧ DSt F w n (.agg rS) ∧ W1.heap.size = B + 2) := ⟨q10, q11, b1, h, s1⟩
  have HRO : Hid (∀ u ∈ rS.toList, u.oneCell' = true) := hro
  clear q00 q10 q11 b0 b1 b1w hD1 h hro hV1 HSAME1 hst1 hrP
  by_cases hid0 : id = 0
  · subst hid0
    obtain ⟨⟨y, f1⟩, f2, f3, f4, f5, f6, f7⟩ := HFIN.out W1 H1.out.1 H1.out.2.1 H1.out.2.2.1
    have HE : Hid (((W1.setCell ⟨B, 2 + kn, none⟩ (.int .i64 0)).setRow (B + 1) rP).heap[B + 1]? = some (.cells rP 42 (0, 0)) ∧ DSt (mor F w ((W1.setCell ⟨B, 2 + kn, none⟩ (.int .i64 0)).setRow (B + 1) rP)) ((W1.setCell ⟨B, 2 + kn, none⟩ (.int .i64 0)).setRow (B + 1) rP) n (.agg rP) ∧ Below w.heap.size w ((W1.setCell ⟨B, 2 + kn, none⟩ (.int .i64 0)).setRow (B + 1) rP)) := ⟨f5, f6, f7⟩
    clear HFIN H1 HWY f5 f6 f7
    go_enter Tryz.func58, Tryz.ntmps58
    go_wp2_with (refine wpList_load_w (by kernel_rfl) _ _ rfl rfl f3 ?_)
    exact bodyPost_ret (res_rs (p := 6) (q := 7) rfl _ _ (B + 1) _ hrPz rfl HE.out.1) rfl ⟨.agg rP, 0, rfl, HE.out.2⟩
  have kid : ((id : Int) == 0) = false := by simpa using hid0
  go_enter Tryz.func58, Tryz.ntmps58
  go_wp2_with (refine wpList_load_w (by kernel_rfl) _ _ rfl rfl hl1 ?_)
  refine HWY.mono ?_
  rintro e V2 ⟨c, rfl, hc, hb2⟩
  have q20 := (hb2.block B (lt_of_some H1.out.1)).trans H1.out.1
  have q21 := (hb2.block (B + 1) (lt_of_some H1.out.2.1)).trans H1.out.2.1
  have b2 : Below B w V2 := H1.out.2.2.1.trans (hb2.mono (by have := H1.out.2.2.2.2; omega))
  by_cases hc0 : c = 0
  · subst hc0
    obtain ⟨⟨y, f1⟩, f2, f3, f4, f5, f6, f7⟩ := HFIN.out V2 q20 q21 b2
    have HE : Hid (((V2.setCell ⟨B, 2 + kn, none⟩ (.int .i64 id)).setRow (B + 1) rP).heap[B + 1]? = some (.cells rP 42 (0, 0)) ∧ DSt (mor F w ((V2.setCell ⟨B, 2 + kn, none⟩ (.int .i64 id)).setRow (B + 1) rP)) ((V2.setCell ⟨B, 2 + kn, none⟩ (.int .i64 id)).setRow (B + 1) rP) n (.agg rP) ∧ Below w.heap.size w ((V2.setCell ⟨B, 2 + kn, none⟩ (.int .i64 id)).setRow (B + 1) rP)) := ⟨f5, f6, f7⟩
    clear HFIN H1 HWY f5 f6 f7 hb2 q20 q21 b2 hc hl1
    go_wp2_with (refine wpList_load_w (by kernel_rfl) _ _ rfl rfl f3 ?_)
    exact bodyPost_ret (res_rs (p := 6) (q := 7) rfl _ _ (B + 1) _ hrPz rfl HE.out.1) rfl ⟨.agg rP, 0, rfl, HE.out.2⟩
  · have kc0 : ¬ (c : Int) = 0 := by omega
    have kc0b : ((c : Int) == 0) = false := by simpa using hc0
    have hl2 := load_rs V2 B _ _ _ q20 hrz
    have hst := store_ds (W := V2) hrz HRO.out q21 rfl
    obtain ⟨V3, hV3⟩ : ∃ V3, V2.setRow (B + 1) rS = V3 := ⟨_, rfl⟩
    rw [hV3] at hst
    have HSAME : Hid (V3.heap[B + 1]? = some (.cells rS 42 (0, 0)) ∧ DSt (mor F w V3) V3 n (.agg rS) ∧ Below w.heap.size w V3) := by
      have b3 : Below w.heap.size w V3 := by rw [← hV3, hB]; exact setRow_below b2 (by omega) _
      exact ⟨by rw [← hV3]; exact setRow_heap V2 _ _ _ _ _ q21, H1.out.2.2.2.1.fr (Fr.below b3), b3⟩
    clear HFIN H1 HWY hb2 q20 q21 b2 hc hl1 hV3
    go_wp2_with (refine wpList_load_w (by kernel_rfl) _ _ rfl rfl hl2 ?_)
    exact bodyPost_ret (res_rs (p := 6) (q := 7) rfl _ _ (B + 1) _ hrz rfl HSAME.out.1) rfl ⟨.agg rS, c, rfl, HSAME.out.2⟩
end
end Go.Proofs.YtdgffocmdkadpaaGreat
