/- A walk over right. What a page 0 tells: its bytes; a walk over parse. -/
import Derived.Test.YtdgffocmdkadpaaGreatPLW
import Derived.BigFrame
namespace Go.Proofs.YtdgffocmdkadpaaGreat
open Go.RowKit Go.Shelf Pg
theorem wpList_load_w {P : Program} {ops : Array Oper} {rest : List Oper} {o : Oper} {a : Act} {w : World} {Q : Exit → Act → World → Prop} (hw : Region.wanted o (yielded ops a.tmps) = true) (ty : TypeId) (x : Operand) (ho : o.op = .load ty x) {ad : Addr} {v : Value} (hx : a.eval x = .pointer (some ad)) (hl : (loadVar ty ad).run P w = .ok v w) (h : wpList P ops Q rest (a.put o.dst v) w) : wpList P ops Q (o :: rest) a w :=
  BigFrame.wpList_want hw fun _ hK => wp_load_at ty x ho hx hl (hK _ _ h)
/-- A head's set, out of its block. -/
theorem load_used (W : World) (g o : Nat) (h : Hd) (cs : Array Value) (t : TypeId) (fr : Nat × Nat) (hg : W.heap[g]? = some (.cells cs t fr)) (hc : ∀ j, j < 16 → cs[o + j]? = (setL h.u)[j]?) : (loadVar 98 ⟨g, o, none⟩).run Tryz.prog W = .ok (.agg (setA h.u)) W :=
  load_part W g o 98 _ cs t fr (setL h.u) hg Tryz.underlying98 rfl (by rw [setL_len]; kernel_rfl) (fun j v hv => by
    have hj : j < 16 := by have := (List.getElem?_eq_some_iff.1 hv).1; rwa [setL_len] at this
    rw [hc j hj]; exact hv)
theorem hdA_used (h : Hd) (j : Nat) (hj : j < 16) : (hdA h)[5 + j]? = (setL h.u)[j]? := by rw [hdA, List.getElem?_toArray, hdL_set h j hj, setL_at _ _ hj]
set_option maxRecDepth 100000 in
set_option maxHeartbeats 2000000 in
theorem right_any (h : Hd) (n : Nat) (w : World) (hn1 : 1 ≤ n) (hn : n ≤ 128) : Calls Tryz.prog 100 #[.agg (hdA h), .int .i64 (n : Int)] w fun e w' => e = .returned (.bool (rightB n h)) ∧ Below w.heap.size w w' := by
  obtain ⟨B, hB⟩ : ∃ B, w.heap.size = B := ⟨_, rfl⟩
  obtain ⟨W1, hW1⟩ : ∃ W1, w.alloc (.cells (hdA h) 100) = W1 := ⟨_, rfl⟩
  have hr1 : W1.heap[B]? = some (.cells (hdA h) 100 (0, 0)) := by rw [← hW1, ← hB]; exact heap_alloc_new w _
  have hb1 : Below B w W1 := by rw [← hW1, ← hB]; exact (Below.refl _ w).alloc (Nat.le_refl _) _
  have HU : Hid (∀ V : World, V.heap[B]? = some (.cells (hdA h) 100 (0, 0)) → (loadVar 98 ⟨B, 5, none⟩).run Tryz.prog V = .ok (.agg (setA h.u)) V) := fun V hV => load_used V B 5 h _ _ _ hV (hdA_used h)
  have cser : W1.cell? ⟨B, 0, none⟩ = some (.int .u64 (h.ser : Int)) := by rw [cell_of_row W1 B _ _ _ _ hr1]; rfl
  by_cases hser : h.ser ≤ 9223372036854775807
  · have kser : ¬ (9223372036854775807 : Int) < (h.ser : Int) := by omega
    have hu1 := HU.out W1 hr1
    have HH := phas_any h.u 0 (by omega) W1
    have hq : h.u.getD 0 false = h.has 0 := rfl
    rw [hq] at HH
    cases hu0 : h.has 0
    · rw [hu0] at HH
      have HE : Hid (rightB n h = false) := by
        show _ = _
        unfold rightB
        rw [hu0]
        simp
      have HB1 : Hid (Below B w W1) := hb1
      clear hr1 hb1 HU hu0 hq
      go_enter Tryz.func100, Tryz.ntmps100
      go_wp2_with (refine wpList_load_w (by kernel_rfl) _ _ rfl rfl hu1 ?_)
      refine HH.mono ?_
      rintro e V ⟨rfl, hV⟩
      have HBV : Hid (Below B w V) := HB1.out.trans (hV.mono HB1.out.size |> fun x => by rw [hB] at x; exact x)
      clear HH hV HB1
      go_wp2
      go_ret
      exact ⟨by rw [HE.out]; rfl, by first | exact HBV.out | (rw [hB]; exact HBV.out)⟩
    · rw [hu0] at HH
      have HU0 : Hid (h.has 0 = true ∧ h.ser ≤ 9223372036854775807) := ⟨hu0, hser⟩
      have H1 : Hid (W1.heap[B]? = some (.cells (hdA h) 100 (0, 0)) ∧ Below B w W1) := ⟨hr1, hb1⟩
      clear hr1 hb1 hu0 hq hser
      go_enter Tryz.func100, Tryz.ntmps100
      go_wp2_with (refine wpList_load_w (by kernel_rfl) _ _ rfl rfl hu1 ?_)
      refine HH.mono ?_
      rintro e V ⟨rfl, hV⟩
      have HV : Hid (V.heap[B]? = some (.cells (hdA h) 100 (0, 0)) ∧ Below B w V) := ⟨(hV.block B (lt_of_some H1.out.1)).trans H1.out.1, H1.out.2.trans (hV.mono (by have := lt_of_some H1.out.1; omega))⟩
      clear HH hV H1 cser hu1 kser hW1
      go_wp2
      go_loopw [5] (fun v wr => ∃ i : Nat, n ≤ i ∧ i ≤ 128 ∧ v = .int .i64 (i : Int) ∧ (∀ j, j < i → n ≤ j → h.has j = false) ∧ wr.heap[B]? = some (.cells (hdA h) 100 (0, 0)) ∧ Below B w wr) (fun v _ => 128 - (intOf v).toNat)
      case atStart => exact ⟨n, Nat.le_refl _, hn, rfl, fun j h1 h2 => by omega, HV.out⟩
      case round =>
        clear HV
        obtain ⟨i, hni, hi, rfl, hfree, hr, hbw⟩ := hrel
        have HF : Hid (∀ j, j < i → n ≤ j → h.has j = false) := hfree
        clear hfree
        by_cases hlt : i < 128
        · have kk : (i : Int) < 128 := by omega
          have hu2 := HU.out wr hr
          have HH := phas_any h.u i hlt wr
          have hq : h.u.getD i false = h.has i := rfl
          rw [hq] at HH
          have HW : Hid (wr.heap[B]? = some (.cells (hdA h) 100 (0, 0)) ∧ Below B w wr) := ⟨hr, hbw⟩
          clear hr hbw hq
          cases hi1 : h.has i
          · rw [hi1] at HH
            have HF2 : Hid (∀ j, j < i + 1 → n ≤ j → h.has j = false) := fun j h1 h2 => by
              by_cases e : j = i
              · rw [e]; exact hi1
              · exact HF.out j (by omega) h2
            clear hi1 HF HU
            go_wp2_with (refine wpList_load_w (by kernel_rfl) _ _ rfl rfl hu2 ?_)
            refine HH.mono ?_
            rintro e V2 ⟨rfl, hV⟩
            have HN : Hid (V2.heap[B]? = some (.cells (hdA h) 100 (0, 0)) ∧ Below B w V2) := ⟨(hV.block B (lt_of_some HW.out.1)).trans HW.out.1, HW.out.2.trans (hV.mono (by have := lt_of_some HW.out.1; omega))⟩
            clear HH hV HW hu2
            go_wp2
            exact ⟨⟨i + 1, by omega, by omega, by go_num, HF2.out, HN.out⟩, by simp [intOf]; omega⟩
          · rw [hi1] at HH
            have HE : Hid (rightB n h = false) := by
              show _ = _
              cases hh : rightB n h
              · exact rfl
              · have := ((rightB_iff n h).1 hh).2.2.1 i hlt hni
                rw [hi1] at this
                cases this
            clear hi1 HF HU
            go_wp2_with (refine wpList_load_w (by kernel_rfl) _ _ rfl rfl hu2 ?_)
            refine HH.mono ?_
            rintro e V2 ⟨rfl, hV⟩
            have HBV : Hid (Below B w V2) := HW.out.2.trans (hV.mono (by have := lt_of_some HW.out.1; omega))
            clear HH hV HW hu2
            go_wp2
            go_ret
            exact ⟨by rw [HE.out]; rfl, by first | exact HBV.out | (rw [hB]; exact HBV.out)⟩
        · obtain rfl : i = 128 := by omega
          have kk : ¬ (128 : Int) < 128 := by omega
          have hl4 := load_part (P := Tryz.prog) wr B 1 39 _ _ _ _ (rootsV h) hr Tryz.underlying39 rfl info_a4 (fun j v hv => by
            rw [hdA, List.getElem?_toArray]
            have hj : j < 4 := (List.getElem?_eq_some_iff.1 hv).1
            match j, hj with
            | 0, _ => exact hv
            | 1, _ => exact hv
            | 2, _ => exact hv
            | 3, _ => exact hv)
          have HW : Hid (wr.heap[B]? = some (.cells (hdA h) 100 (0, 0)) ∧ Below B w wr) := ⟨hr, hbw⟩
          clear hr hbw
          go_wp2_with (refine wpList_load_w (by kernel_rfl) _ _ rfl rfl hl4 ?_)
          obtain ⟨w1, hw1⟩ : ∃ x, x = wr := ⟨_, rfl⟩
          subst hw1
          go_loopw [7, 28] (fun _ v wr => ∃ k : Nat, k ≤ 4 ∧ v = .int .i64 (k : Int) ∧ (∀ j, j < k → h.root j < n ∧ h.has (h.root j) = true) ∧ wr.heap[B]? = some (.cells (hdA h) 100 (0, 0)) ∧ Below B w wr) (fun _ v _ => 4 - (intOf v).toNat)
          case atStart => exact ⟨0, by omega, rfl, fun j hj => absurd hj (by omega), HW.out⟩
          case round =>
            clear HW hl4
            obtain ⟨k, hk, rfl, hroots, hr, hbw⟩ := hrel
            have HK : Hid (∀ j, j < k → h.root j < n ∧ h.has (h.root j) = true) := hroots
            clear hroots
            by_cases hlt : k < 4
            · have kk4 : (k : Int) < 4 := by omega
              have hix := index_a4 wr h k hlt
              have hu2 := HU.out wr hr
              have HW : Hid (wr.heap[B]? = some (.cells (hdA h) 100 (0, 0)) ∧ Below B w wr) := ⟨hr, hbw⟩
              have HK1 : Hid (h.root k < n → h.has (h.root k) = true → ∀ j, j < k + 1 → h.root j < n ∧ h.has (h.root j) = true) := fun h1 h2 j hj => by
                by_cases e : j = k
                · rw [e]; exact ⟨h1, h2⟩
                · exact HK.out j (by omega)
              have HK2 : Hid (¬ (h.root k < n ∧ h.has (h.root k) = true) → rightB n h = false) := fun hh => by
                cases e : rightB n h
                · exact rfl
                · exact absurd (((rightB_iff n h).1 e).2.2.2 k hlt) hh
              obtain ⟨rk, hrk⟩ : ∃ rk, h.root k = rk := ⟨_, rfl⟩
              rw [hrk] at hix HK1 HK2
              clear hr hbw hrk HK HU HF
              by_cases hrn : rk < n
              · have krn : ¬ (n : Int) ≤ (rk : Int) := by omega
                have HH := phas_any h.u rk (by omega) wr
                have hq : h.u.getD rk false = h.has rk := rfl
                rw [hq] at HH
                cases hi1 : h.has rk
                · rw [hi1] at HH
                  have HE : Hid (rightB n h = false) := HK2.out (fun e => by rw [hi1] at e; exact absurd e.2 (by decide))
                  clear hi1 hq HK1 HK2 HU0
                  go_wp2_with (refine wpList_load_w (by kernel_rfl) _ _ rfl rfl hu2 ?_)
                  refine HH.mono ?_
                  rintro e V2 ⟨rfl, hV⟩
                  have HBV : Hid (Below B w V2) := HW.out.2.trans (hV.mono (by have := lt_of_some HW.out.1; omega))
                  clear HH hV HW hu2
                  go_wp2
                  go_ret
                  exact ⟨by rw [HE.out]; rfl, by first | exact HBV.out | (rw [hB]; exact HBV.out)⟩
                · rw [hi1] at HH
                  have HN1 := HK1.out hrn hi1
                  have HN1 : Hid (∀ j, j < k + 1 → h.root j < n ∧ h.has (h.root j) = true) := HN1
                  clear hi1 hq HK1 HK2 HU0
                  go_wp2_with (refine wpList_load_w (by kernel_rfl) _ _ rfl rfl hu2 ?_)
                  refine HH.mono ?_
                  rintro e V2 ⟨rfl, hV⟩
                  have HN : Hid (V2.heap[B]? = some (.cells (hdA h) 100 (0, 0)) ∧ Below B w V2) := ⟨(hV.block B (lt_of_some HW.out.1)).trans HW.out.1, HW.out.2.trans (hV.mono (by have := lt_of_some HW.out.1; omega))⟩
                  clear HH hV HW hu2
                  go_wp2
                  exact ⟨⟨k + 1, by omega, by go_num, HN1.out, HN.out⟩, by simp [intOf]; omega⟩
              · have krn : (n : Int) ≤ (rk : Int) := by omega
                have HE : Hid (rightB n h = false) := HK2.out (fun e => hrn e.1)
                clear HK1 HK2 HU0 hu2
                go_wp2
                go_ret
                exact ⟨by rw [HE.out]; rfl, by first | exact HW.out.2 | (rw [hB]; exact HW.out.2)⟩
            · obtain rfl : k = 4 := by omega
              have kk4 : ¬ (4 : Int) < 4 := by omega
              have HE : Hid (rightB n h = true) := (rightB_iff n h).2 ⟨HU0.out.2, HU0.out.1, fun i h1 h2 => HF.out i h1 h2, HK.out⟩
              have HBV : Hid (Below B w wr) := hbw
              clear hr hbw HK HF HU HU0
              go_wp2
              go_ret
              exact ⟨by rw [HE.out]; rfl, by first | exact HBV.out | (rw [hB]; exact HBV.out)⟩
  · have kser : (9223372036854775807 : Int) < (h.ser : Int) := by omega
    have HE : Hid (rightB n h = false) := by
      show _ = _
      unfold rightB
      rw [decide_eq_false hser]
      rfl
    have HB1 : Hid (Below B w W1) := hb1
    clear hr1 hb1 HU hser
    go_enter Tryz.func100, Tryz.ntmps100
    go_wp2
    go_ret
    exact ⟨by rw [HE.out]; rfl, by rw [hB]; exact HB1.out⟩
end Go.Proofs.YtdgffocmdkadpaaGreat
namespace Go.Proofs.YtdgffocmdkadpaaGreat
open Go.RowKit Go.Shelf Pg
theorem bits_of : ∀ x : Fin 256, ((if x.val / 2 ^ 0 % 2 = 1 then 1 else 0) + (if x.val / 2 ^ 1 % 2 = 1 then 2 else 0) + (if x.val / 2 ^ 2 % 2 = 1 then 4 else 0) + (if x.val / 2 ^ 3 % 2 = 1 then 8 else 0) + (if x.val / 2 ^ 4 % 2 = 1 then 16 else 0) + (if x.val / 2 ^ 5 % 2 = 1 then 32 else 0) + (if x.val / 2 ^ 6 % 2 = 1 then 64 else 0) + (if x.val / 2 ^ 7 % 2 = 1 then 128 else 0)) = x.val := by decide +kernel
theorem bitN_used (b : List UInt8) (j : Nat) (hj : j < 16) : bitN ((List.range 128).map (usedOf b)) j = byteN b (26 + j) := by
  have hx : byteN b (26 + j) < 256 := UInt8.toNat_lt _
  have hb := bits_of ⟨byteN b (26 + j), hx⟩
  simp only at hb
  have e : ∀ k v, k < 8 → bitW ((List.range 128).map (usedOf b)) (8 * j + k) v = (if byteN b (26 + j) / 2 ^ k % 2 = 1 then v else 0) := fun k v hk => by
    unfold bitW
    rw [range_used b _ (by omega)]
    unfold usedOf
    rw [show (8 * j + k) / 8 = j by omega, show (8 * j + k) % 8 = k by omega]
    by_cases h : byteN b (26 + j) / 2 ^ k % 2 = 1
    · rw [if_pos h, if_pos (decide_eq_true h)]
    · rw [if_neg h, if_neg (by rw [decide_eq_false h]; decide)]
  have e0 := e 0 1 (by omega)
  rw [Nat.add_zero] at e0
  unfold bitN
  rw [e0, e 1 2 (by omega), e 2 4 (by omega), e 3 8 (by omega), e 4 16 (by omega), e 5 32 (by omega), e 6 64 (by omega), e 7 128 (by omega)]
  exact hb
theorem seg_get (b : List UInt8) (o m : Nat) (h : o + m ≤ b.length) : (b.drop o).take m = (List.range m).map fun j => b.getD (o + j) 0 := by
  apply List.ext_getElem?
  intro i
  by_cases hi : i < m
  · rw [List.getElem?_take_of_lt hi, List.getElem?_drop, List.getElem?_map, List.getElem?_range hi, List.getElem?_eq_getElem (by omega)]
    simp only [Option.map_some]
    rw [List.getD_eq_getElem?_getD, List.getElem?_eq_getElem (by omega)]
    rfl
  · rw [List.getElem?_eq_none (by simp; omega), List.getElem?_eq_none (by simp; omega)]
theorem mapL_used (b : List UInt8) (h : b.length = 1024) : mapL (hdOf b).u = (b.drop 26).take 16 := by
  rw [seg_get b 26 16 (by omega)]
  unfold mapL
  apply List.map_congr_left
  intro j hj
  have hj : j < 16 := by simpa using hj
  show UInt8.ofNat (bitN ((List.range 128).map (usedOf b)) j) = _
  rw [bitN_used b j hj]
  unfold byteN
  exact UInt8.ofNat_toNat
theorem ext_list (s : ByteArray) (o m : Nat) : (s.extract o (o + m)).data.toList = (s.data.toList.drop o).take m := by
  rw [ByteArray.data_extract, Array.toList_extract, List.extract_eq_take_drop]
  congr 1
  omega
theorem num_ser (s : ByteArray) (h : s.size = 1024) : numN (s.extract 10 18).data.toList = serOf s.data.toList := by
  have := ext_list s 10 8
  rw [show (10 : Nat) + 8 = 18 from rfl] at this
  rw [this, seg_get _ 10 8 (by have : s.data.toList.length = s.size := rfl; omega)]
  show ((((((((0 * 256 + byteN _ (10 + 0)) * 256 + byteN _ (10 + 1)) * 256 + byteN _ (10 + 2)) * 256 + byteN _ (10 + 3)) * 256 + byteN _ (10 + 4)) * 256 + byteN _ (10 + 5)) * 256 + byteN _ (10 + 6)) * 256 + byteN _ (10 + 7)) = _
  rw [Nat.zero_mul, Nat.zero_add]
  rfl
theorem num_root (s : ByteArray) (h : s.size = 1024) (k : Nat) (hk : k < 4) : numN (s.extract (18 + 2 * k) (18 + 2 * k + 2)).data.toList = rootOf s.data.toList k := by
  rw [ext_list, seg_get _ (18 + 2 * k) 2 (by have : s.data.toList.length = s.size := rfl; omega)]
  show (0 * 256 + byteN _ (18 + 2 * k + 0)) * 256 + byteN _ (18 + 2 * k + 1) = _
  rw [Nat.zero_mul, Nat.zero_add]
  unfold rootOf
  rw [Nat.add_zero, show 18 + 2 * k + 1 = 19 + 2 * k by omega]
theorem rootOf_lt (b : List UInt8) (k : Nat) : rootOf b k < 65536 := by
  have h1 : byteN b (18 + 2 * k) < 256 := UInt8.toNat_lt _
  have h2 : byteN b (19 + 2 * k) < 256 := UInt8.toNat_lt _
  unfold rootOf
  omega
theorem hdOf_root (b : List UInt8) (k : Nat) (hk : k < 4) : (hdOf b).root k = rootOf b k := by
  match k, hk with
  | 0, _ => rfl
  | 1, _ => rfl
  | 2, _ => rfl
  | 3, _ => rfl
/-- A head half way read. -/
def halfH (b : List UInt8) (n k : Nat) : Hd := ⟨serOf b, if 0 < k then rootOf b 0 else 0, if 1 < k then rootOf b 1 else 0, if 2 < k then rootOf b 2 else 0, if 3 < k then rootOf b 3 else 0, (hd0 n).u⟩
theorem half_set (b : List UInt8) (n k : Nat) (hk : k < 4) : (hdA (halfH b n k)).setIfInBounds (1 + k) (.int .i64 ((rootOf b k : Nat) : Int)) = hdA (halfH b n (k + 1)) := by
  match k, hk with
  | 0, _ => rfl
  | 1, _ => rfl
  | 2, _ => rfl
  | 3, _ => rfl
theorem half_ser (b : List UInt8) (n : Nat) : (hdA (hd0 n)).setIfInBounds 0 (.int .u64 ((serOf b : Nat) : Int)) = hdA (halfH b n 0) := rfl
theorem half_fin (b : List UInt8) (n : Nat) (h : b.length = 1024) : ((hdA (halfH b n 4)).toList.take 5 ++ u8L ((b.drop 26).take 16) ++ (hdA (halfH b n 4)).toList.drop (5 + 16)).toArray = hdA (hdOf b) := by
  rw [← mapL_used b h, List.drop_eq_nil_of_le (by rw [Array.length_toList, hdA_size]; omega), List.append_nil]
  rfl
theorem cut_cells {n : Nat} {h : Hd} (hr : rightB n h = true) : hdA (h.cut n) = hdA h := by
  have k3 := ((rightB_iff n h).1 hr).2.2.1
  unfold hdA hdL
  rw [setL_eq (u := (h.cut n).u) (v := h.u) (fun i hi => ?_)]
  · rfl
  · show (h.cut n).has i = h.has i
    rw [Hd.cut_has]
    split
    · rfl
    · rename_i hh; exact (k3 i hi (by omega)).symm
theorem res_hd {fn : Func} {p q : Tmp} (h : fn.results = #[.cell p 100, .tmp q]) (tmps : Array Value) (w : World) (g : Nat) (hd : Hd) (hp : tmps.getD p undef = .pointer (some ⟨g, 0, none⟩)) (hg : w.heap[g]? = some (.cells (hdA hd) 100 (0, 0))) :
    (results fn tmps).run Tryz.prog w = .ok (.tuple #[.agg (hdA hd), tmps.getD q undef]) w := by
  have hp' : tmps[p]?.getD undef = .pointer (some ⟨g, 0, none⟩) := by simpa using hp
  simp [results, h, hp', asAddr, load_head w g hd _ _ hg]
theorem build_head (n : Nat) (W : World) : (Instr.build 100 #[]).run Tryz.prog W = .ok (.agg (hdA (hd0 n))) W := by
  refine run_build W 100 #[] _ ?_
  rw [hd0_cells]
  kernel_rfl
theorem store_hd (W : World) (g : Nat) (h : Hd) (cur : Array Value) (t : TypeId) (hg : W.heap[g]? = some (.cells cur t (0, 0))) (ho : cur.size = 21) : (storeCells ⟨g, 0, none⟩ (hdA h).toList).run Tryz.prog W = .ok () (W.setRow g (hdA h)) := by
  rw [store_head W g 0 h cur t hg (by omega), List.take_zero, List.nil_append, List.drop_eq_nil_of_le (by rw [Array.length_toList, ho]; omega), List.append_nil]
  rfl
theorem setRow_below {B g : Nat} {w V : World} (h : Below B w V) (hg : B ≤ g) (cs : Array Value) : Below B w (V.setRow g cs) :=
  ⟨h.os, h.tape, h.output, by rw [size_setRow]; exact h.size, fun k hk => by rw [setRow_other V g k _ (by omega)]; exact h.block k hk⟩
/-- What parse answers. -/
def parV (n : Nat) (r : Option Hd) : Value := match r with
  | some h => .tuple #[.agg (hdA h), .bool true]
  | none => .tuple #[.agg (hdA (hd0 n)), .bool false]
theorem text_eq (s : ByteArray) (l : List UInt8) : strOf l = s ↔ l = s.data.toList := by
  constructor
  · intro e; rw [← e]; rfl
  · intro e; rw [e]; rfl
end Go.Proofs.YtdgffocmdkadpaaGreat
