/- Walks over the document's Mark and laid. -/
import Derived.Test.YtaacedaehbaodaaGreatYA
namespace Go.Proofs.YtaacedaehbaodaaGreat
open Go.RowKit Go.Shelf
/-- Steps as the document has them. -/
def stC : Stp → Chi
  | some q => ((q.1 : Int), q.2)
  | none => (-1, ByteArray.empty)
theorem take_pages (l : List Chi) (k : Nat) (hk : k < l.length) : pagesL (l.take (k + 1)) = pagesL (l.take k) ++ [l[k].1.toNat] := by
  unfold pagesL
  rw [List.take_succ_eq_append_getElem hk, List.map_append]
  rfl
set_option maxRecDepth 100000 in
set_option maxHeartbeats 4000000 in
theorem rmark_any {w : World} (a : Option Addr) (len cap : Nat) (l : List Chi) (hl : Ci w a len cap l) (n : Nat) (hn : n ≤ 128) (hr : ∀ c ∈ l, 0 ≤ c.1 ∧ c.1 < (n : Int)) (hd : (l.map Prod.fst).Nodup) (hlen : len ≤ 1000) :
    Calls Tryz.prog 36 #[.slice a len cap] w fun e w' => e = .returned (.string (markOf (pagesL l))) ∧ Below w.heap.size w w' := by
  have hll := hl.1
  have hcap := hl.2.1
  have hcap2 := hl.2.2.1
  have HL : Hid (Ci w a len cap l) := hl
  have HR : Hid (∀ c ∈ l, 0 ≤ c.1 ∧ c.1 < (n : Int)) := hr
  have hpl : ∀ p ∈ pagesL l, p < 128 := fun p hp => by
    unfold pagesL at hp
    obtain ⟨c, hc, rfl⟩ := List.mem_map.1 hp
    have := hr c hc
    omega
  have HPL : Hid (∀ p ∈ pagesL l, p < 128) := hpl
  have HND : Hid (pagesL l).Nodup := by
    have h1 := nodup_nat hr hd
    unfold pagesL
    show List.Nodup _
    have h2 := List.pairwise_map.1 h1
    exact List.pairwise_map.2 h2
  have hmk : (Instr.makeSlice 76 (.int .i64 256) (.int .i64 256)).run Tryz.prog w = .ok (.slice (some ⟨w.heap.size, 0, none⟩) 256 256) (w.alloc (.cells (u8s (markBs (belowL (pagesL l) 0))) 5)) := by
    have := run_make (P := Tryz.prog) w 76 5 _ (.int .u8 0) Tryz.underlying76 rfl rfl .i64 .i64 256 256 (by omega) (by omega) (by show (1 : Int) * _ ≤ _; omega) (by omega)
    rw [this, show (256 : Int).toNat = 256 by omega, show u8s (markBs (belowL (pagesL l) 0)) = _ from (u8s_made 256).symm, show Tryz.prog.types[5].size = 1 from rfl, Nat.mul_one]
    rfl
  obtain ⟨mb, hmb⟩ : ∃ mb, w.heap.size = mb := ⟨_, rfl⟩
  obtain ⟨W1, hW1⟩ : ∃ W1, w.alloc (.cells (u8s (markBs (belowL (pagesL l) 0))) 5) = W1 := ⟨_, rfl⟩
  have HI : Hid (W1.heap[mb]? = some (.cells (u8s (markBs (belowL (pagesL l) 0))) 5 (0, 0)) ∧ Below mb w W1) := by
    rw [← hW1, ← hmb]
    exact ⟨heap_alloc_new w _, (Below.refl _ w).alloc (Nat.le_refl _) _⟩
  rw [hW1, hmb] at hmk
  rw [hmb]
  clear hl hr hd hpl
  go_enter Tryz.func36, Tryz.ntmps36
  go_wp2
  go_loopw [4] (fun v wr => ∃ i : Nat, i ≤ 128 ∧ v = .int .i64 i ∧ wr.heap[mb]? = some (.cells (u8s (markBs (belowL (pagesL l) i))) 5 (0, 0)) ∧ Below mb w wr) (fun v _ => 128 - (intOf v).toNat)
  case atStart => exact ⟨0, by omega, rfl, HI.out⟩
  case round =>
    clear HI hmk
    obtain ⟨i, hi, rfl, hrow, hbel⟩ := hrel
    by_cases hlt : i < 128
    · have kk : (i : Int) < 128 := by omega
      have HI2 : Hid (wr.heap[mb]? = some (.cells (u8s (markBs (belowL (pagesL l) i ++ (if i ∈ pagesL (l.take 0) then [i] else [])))) 5 (0, 0)) ∧ Below mb w wr) := by
        rw [if_neg (by simp [pagesL]), List.append_nil]
        exact ⟨hrow, hbel⟩
      clear hrow hbel
      go_wp2
      go_loopw [5] (fun v wr => ∃ k : Nat, k ≤ len ∧ v = .int .i64 k ∧ wr.heap[mb]? = some (.cells (u8s (markBs (belowL (pagesL l) i ++ (if i ∈ pagesL (l.take k) then [i] else [])))) 5 (0, 0)) ∧ Below mb w wr) (fun v _ => len - (intOf v).toNat)
      case atStart => exact ⟨0, by omega, rfl, HI2.out⟩
      case round =>
        clear HI2
        obtain ⟨k, hk, rfl, hrow, hbel⟩ := hrel
        by_cases hlt2 : k < len
        · have kk2 : (k : Int) < (len : Int) := by omega
          have hil : k < l.length := by omega
          obtain ⟨b, o, rfl, hb, hcell⟩ := HL.out.2.2.2 (by omega)
          obtain ⟨c1, _⟩ := hcell k hil
          have hmem : l[k] ∈ l := List.getElem_mem hil
          have hpr := HR.out _ hmem
          obtain ⟨P, hP⟩ := Int.eq_ofNat_of_zero_le hpr.1
          have hbm : b < mb := by rw [← hmb]; exact hb
          rw [hP, ← hbel.cell (p := ⟨b, o + k * 2, none⟩) hbm] at c1
          have HTP : Hid (pagesL (l.take (k + 1)) = pagesL (l.take k) ++ [P]) := by
            show _ = _
            rw [take_pages l k hil, hP]
            simp
          by_cases hpi : P = i
          · subst hpi
            have hnot : ¬ P ∈ pagesL (l.take k) := by
              intro hm
              have h1 := HND.out
              have h2 : (pagesL (l.take (k + 1))).Nodup := by
                unfold pagesL at h1 ⊢
                rw [List.map_take]
                exact h1.sublist (List.take_sublist _ _)
              rw [HTP.out, List.nodup_append] at h2
              exact h2.2.2 P hm P (by simp) rfl
            rw [if_neg hnot, List.append_nil] at hrow
            have hlow := mark_low (pagesL l) HPL.out P
            have hlenL := markBs_len (belowL (pagesL l) P)
            have HFN : Hid (markBs (belowL (pagesL l) P ++ (if P ∈ pagesL (l.take (k + 1)) then [P] else [])) = markB (markBs (belowL (pagesL l) P)) P) := by
              show _ = _
              rw [HTP.out, if_pos (by simp), markBs_snoc]
            obtain ⟨L, hL⟩ : ∃ L, markBs (belowL (pagesL l) P) = L := ⟨_, rfl⟩
            rw [hL] at hrow hlow hlenL HFN
            obtain ⟨y, hy⟩ : ∃ y, (L.getD (P / 8) 0).toNat = y := ⟨_, rfl⟩
            rw [hy] at hlow
            obtain ⟨r, hr⟩ : ∃ r, P % 8 = r := ⟨_, rfl⟩
            have hr8 : r < 8 := by omega
            have kr : (P : Int) % 8 = (r : Int) := by omega
            rw [hr] at hlow
            have hu8 : 2 ^ r < 256 := by
              have : 2 ^ r < 2 ^ 8 := Nat.pow_lt_pow_right (by omega) hr8
              omega
            obtain ⟨z, hz⟩ : ∃ z, y + 2 ^ r = z := ⟨_, rfl⟩
            have hz8 : z < 256 := by
              have h1 : 2 ^ r ≤ 2 ^ 7 := Nat.pow_le_pow_right (by omega) (by omega)
              omega
            obtain ⟨hmB, hzn⟩ := markB_nat L P y z hy (by rw [hr, ← hz, mark_add y r hlow])
            have HI3 : Hid (wr.heap[mb]? = some (.cells (u8s L) 5 (0, 0)) ∧ Below mb w wr) := ⟨hrow, hbel⟩
            clear hrow hbel hcell hr hlow
            obtain ⟨Wk, hWk⟩ : ∃ Wk, Wk = wr := ⟨_, rfl⟩
            subst hWk
            go_wp2
            go_loopw [6, 7] (fun vu vn V => ∃ q : Nat, q ≤ r ∧ vn = .int .i64 q ∧ vu = .int .u8 ((2 ^ q : Nat) : Int) ∧ V = Wk) (fun _ vn _ => r - (intOf vn).toNat)
            case atStart => exact ⟨0, by omega, rfl, rfl, rfl⟩
            case round =>
              obtain ⟨q, hq, rfl, rfl, hV⟩ := hrel
              subst wr
              by_cases hlt3 : q < r
              · have kk3 : (q : Int) < (r : Int) := by omega
                obtain ⟨u, hu⟩ : ∃ u, 2 ^ q = u := ⟨_, rfl⟩
                have hu2 : u * 2 < 256 := by
                  have h1 : 2 ^ (q + 1) ≤ 2 ^ 7 := Nat.pow_le_pow_right (by omega) (by omega)
                  rw [Nat.pow_succ, hu] at h1
                  omega
                have HU : Hid (2 ^ (q + 1) = u * 2) := by show _ = _; rw [Nat.pow_succ, hu]
                rw [hu]
                clear hu
                go_wp2
                exact ⟨⟨q + 1, by omega, by go_num, by rw [HU.out]; simp, trivial⟩, by simp [intOf]; omega⟩
              · obtain rfl : q = r := by omega
                have kk3 : ¬ (q : Int) < (q : Int) := by omega
                obtain ⟨u, hu⟩ : ∃ u, 2 ^ q = u := ⟨_, rfl⟩
                rw [hu] at hz hu8
                rw [hu]
                obtain ⟨hrow, hbel⟩ := HI3.out
                have cm : Wk.cell? ⟨mb, P / 8, none⟩ = some (.int .u8 (y : Int)) := by rw [cell_of_row Wk mb _ _ _ _ hrow, u8s_get L _ (by omega), hy]
                have fm := frozen_of_row Wk mb (P / 8) _ _ hrow
                have kz : (y : Int) + (u : Int) = (z : Int) := by omega
                have kz8 : (z : Int) < 256 := by omega
                have HN : Hid ((Wk.setCell ⟨mb, P / 8, none⟩ (.int .u8 (z : Int))).heap[mb]? = some (.cells (u8s (markBs (belowL (pagesL l) P ++ (if P ∈ pagesL (l.take (k + 1)) then [P] else [])))) 5 (0, 0)) ∧ Below mb w (Wk.setCell ⟨mb, P / 8, none⟩ (.int .u8 (z : Int)))) := by
                  refine ⟨?_, hbel.setCell (Nat.le_refl _) _⟩
                  rw [HFN.out, hmB, heap_setCell_same Wk mb (P / 8) _ _ _ hrow, ← u8s_set, hzn]
                clear hrow hbel HI3 hu hz hmB hzn HFN
                go_wp2
                exact ⟨⟨k + 1, by omega, by go_num, HN.out⟩, by simp [intOf]; omega⟩
          · have HN : Hid (wr.heap[mb]? = some (.cells (u8s (markBs (belowL (pagesL l) i ++ (if i ∈ pagesL (l.take (k + 1)) then [i] else [])))) 5 (0, 0)) ∧ Below mb w wr) := by
              refine ⟨?_, hbel⟩
              rw [hrow, HTP.out]
              have : (i ∈ pagesL (l.take k) ++ [P]) ↔ i ∈ pagesL (l.take k) := by
                rw [List.mem_append, List.mem_singleton]
                exact ⟨fun h => h.elim id (fun e => absurd e.symm hpi), .inl⟩
              simp only [this]
            have kpi : ¬ (P : Int) = (i : Int) := by omega
            clear hrow hbel hcell hpi
            go_wp2
            exact ⟨⟨k + 1, by omega, by go_num, HN.out⟩, by simp [intOf]; omega⟩
        · obtain rfl : k = len := by omega
          have kk2 : ¬ (k : Int) < (k : Int) := by omega
          have HN : Hid (wr.heap[mb]? = some (.cells (u8s (markBs (belowL (pagesL l) (i + 1)))) 5 (0, 0)) ∧ Below mb w wr) := by
            rw [belowL_succ]
            rw [List.take_of_length_le (by omega)] at hrow
            exact ⟨hrow, hbel⟩
          clear hrow hbel
          go_wp2
          exact ⟨⟨i + 1, by omega, by go_num, HN.out⟩, by simp [intOf]; omega⟩
    · obtain rfl : i = 128 := by omega
      have kk : ¬ (128 : Int) < 128 := by omega
      have hcv := conv_row wr mb 256 (markBs (belowL (pagesL l) 128)) (markBs_len _) (fun j hj => by
        rw [cell_of_row wr mb _ _ _ _ hrow, Nat.zero_add]
        exact u8s_get _ j (by rw [markBs_len]; exact hj))
      have HS : Hid (strOf (markBs (belowL (pagesL l) 128)) = markOf (pagesL l)) := by
        show _ = _
        rw [mark_unique (belowL (pagesL l) 128) (pagesL l) (fun p hp => ((belowL_mem _ _ _).1 hp).1) HPL.out (fun p => by rw [belowL_mem]; exact ⟨fun h => h.2, fun h => ⟨HPL.out p h, h⟩⟩)]
        rfl
      obtain ⟨T, hT⟩ : ∃ T, strOf (markBs (belowL (pagesL l) 128)) = T := ⟨_, rfl⟩
      rw [hT] at hcv HS
      have HB : Hid (Below mb w wr) := hbel
      clear hT hrow hbel
      go_wp2
      go_ret
      exact ⟨by rw [← HS.out]; rfl, HB.out⟩
theorem info81 : (Tryz.prog.info? 81).map (fun i => (i.zero, i.size, i.bytes)) = some (some (.agg #[.int .i64 0, .string ByteArray.empty]), 2, 24) := by kernel_rfl
set_option maxRecDepth 100000 in
set_option maxHeartbeats 2000000 in
theorem rlaid_any {w : World} (base : Nat) (a : Option Addr) (k cap : Nat) (xs : List Stp) (h : w.ownsRow base 81 2 (.slice a k cap) k (chiV (xs.map stC))) (hk : k ≤ 100000) (hb : base ≤ w.heap.size) (p : Nat) (hp : p ≤ 100000) (s : ByteArray) (hs : s.size = 1024) :
    Calls Tryz.prog 35 #[.slice a k cap, .int .i64 (p : Int), .string s] w fun e w' => ∃ a' cap', e = .returned (.slice a' (k + 4) cap') ∧ w'.ownsRow base 81 2 (.slice a' (k + 4) cap') (k + 4) (chiV (xs.map stC ++ (laidL p s).map stC)) ∧ Below base w w' := by
  obtain ⟨i0, hi, hz0, hz1, hz2⟩ := info_parts info81
  have HI : Hid (w.ownsRow base 81 2 (.slice a k cap) (k + 0) (chiV (xs.map stC ++ ((laidL p s).map stC).take 0)) ∧ Below base w w) := ⟨by rw [List.take_zero, List.append_nil]; exact h, Below.refl _ _⟩
  clear h
  go_enter Tryz.func35, Tryz.ntmps35
  go_wp2
  go_loopw [0, 7] (fun vl vi wr => ∃ (i : Nat) (a1 : Option Addr) (c1 : Nat), i ≤ 4 ∧ vi = .int .i64 i ∧ vl = .slice a1 (k + i) c1 ∧ wr.ownsRow base 81 2 vl (k + i) (chiV (xs.map stC ++ ((laidL p s).map stC).take i)) ∧ Below base w wr) (fun _ vi _ => 4 - (intOf vi).toNat)
  case atStart => exact ⟨0, a, cap, by omega, rfl, rfl, HI.out⟩
  case round =>
    clear HI
    obtain ⟨i, a1, c1, hi4, rfl, rfl, hown, hbel⟩ := hrel
    have HO : Hid (wr.ownsRow base 81 2 (.slice a1 (k + i) c1) (k + i) (chiV (xs.map stC ++ ((laidL p s).map stC).take i))) := hown
    have HB : Hid (Below base w wr) := hbel
    have hbs := hbel.size
    clear hown hbel
    by_cases hlt : i < 4
    · have kk : (i : Int) < 4 := by omega
      have hsl : ∀ W, (Instr.sliceAt 9 (.string s) (some (.int .i64 (256 * (i : Int)))) (some (.int .i64 (256 * (i : Int) + 256))) none).run Tryz.prog W = .ok (.string (sec s i)) W := fun W => by
        have := sslice_mid s (256 * i) (256 * i + 256) (by omega) (by omega) W
        rw [show ((256 * i : Nat) : Int) = 256 * (i : Int) by omega, show ((256 * i + 256 : Nat) : Int) = 256 * (i : Int) + 256 by omega] at this
        exact this
      have HT : Hid (((laidL p s).map stC).take (i + 1) = ((laidL p s).map stC).take i ++ [((p : Int) + (i : Int), sec s i)]) := by
        show _ = _
        rcases (by omega : i = 0 ∨ i = 1 ∨ i = 2 ∨ i = 3) with rfl | rfl | rfl | rfl <;> simp [laidL, laidW, stC]
      obtain ⟨T, hT⟩ : ∃ T, sec s i = T := ⟨_, rfl⟩
      rw [hT] at HT
      simp only [hT] at hsl
      clear hT
      go_wp2_with (at_builtin; refine wpList_append_lies _ rfl _ _ 50 rfl base 81 i0 (.agg #[.int .i64 0, .string ByteArray.empty]) 2 24 Tryz.underlying50 hi hz0 hz1 hz2 rfl (by decide) _ (k + i) (chiV (xs.map stC ++ ((laidL p s).map stC).take i)) rfl (HO.out.alloc _) ⟨wr.heap.size, 0, none⟩ 1 1 [.int .i64 ((p : Int) + (i : Int)), .string T] rfl rfl (World.news_of_block (heap_alloc_new wr _)) (by simp [Value.oneCell']) (by omega) (by unfold maxLen; omega) (by omega) (by simp; omega) _ rfl ?_)
      intro g3 c3 w3 hown' hgrow3 hg3 hlt3
      have HO3 : Hid (w3.ownsRow base 81 2 (.slice (some ⟨g3, 0, none⟩) (k + (i + 1)) c3) (k + (i + 1)) (chiV (xs.map stC ++ ((laidL p s).map stC).take (i + 1)))) := by
        rw [HT.out, ← List.append_assoc, chiV_snoc]
        exact hown'
      have HB3 : Hid (Below base w w3) := Below.grown (HB.out.alloc (by omega) _) hgrow3 (by simp; omega) (fun j hj => (HO.out.lt _ hj).1)
      clear hown' hgrow3 hg3 hlt3 HO HB
      go_wp2
      exact ⟨⟨i + 1, _, _, by omega, by go_num, rfl, HO3.out, HB3.out⟩, by simp [intOf]; omega⟩
    · obtain rfl : i = 4 := by omega
      have kk : ¬ (4 : Int) < 4 := by omega
      have HE : Hid (wr.ownsRow base 81 2 (.slice a1 (k + 4) c1) (k + 4) (chiV (xs.map stC ++ (laidL p s).map stC))) := by
        have := HO.out
        rwa [List.take_of_length_le (by simp [laidL, laidW])] at this
      go_wp2
      go_ret
      exact ⟨a1, c1, rfl, HE.out, HB.out⟩
end Go.Proofs.YtaacedaehbaodaaGreat
