/- A walk over the document's Bytes. A walk over the document's Right. -/
import Derived.Test.YtdgffocmdkadpaaGreatOH
namespace Go.Proofs.YtdgffocmdkadpaaGreat
open Go.RowKit Go.Shelf Pg
/-- The bytes with a part of the set. -/
def mpL (h : Hd) (i : Nat) : List UInt8 := (txL h 4).take 26 ++ mapL (h.u.take i) ++ (txL h 4).drop 42
theorem tx4 (h : Hd) : txL h 4 = magic ++ be8 h.ser ++ rootsL h.r0 h.r1 h.r2 h.r3 ++ List.replicate 16 0 ++ tail0 := by
  unfold txL txL txL txL txL
  rw [tx_start]
  simp only [putB, Nat.reducePow, Nat.pow_zero, Nat.div_one, Nat.reduceSub, Nat.reduceAdd, Nat.reduceMul, Hd.root]
  kernel_rfl
theorem mpL_zero (h : Hd) : mpL h 0 = txL h 4 := by
  unfold mpL
  rw [tx4]
  have l1 : (magic ++ be8 h.ser ++ rootsL h.r0 h.r1 h.r2 h.r3).length = 26 := rfl
  have l2 : (magic ++ be8 h.ser ++ rootsL h.r0 h.r1 h.r2 h.r3 ++ List.replicate 16 (0 : UInt8)).length = 42 := rfl
  have e1 : (magic ++ be8 h.ser ++ rootsL h.r0 h.r1 h.r2 h.r3 ++ List.replicate 16 0 ++ tail0).take 26 = magic ++ be8 h.ser ++ rootsL h.r0 h.r1 h.r2 h.r3 := by
    rw [List.append_assoc, ← l1, List.take_left]
  have e2 : (magic ++ be8 h.ser ++ rootsL h.r0 h.r1 h.r2 h.r3 ++ List.replicate 16 0 ++ tail0).drop 42 = tail0 := by
    rw [← l2, List.drop_left]
  rw [e1, e2, List.take_zero]
  rfl
theorem mpL_all (h : Hd) (n : Nat) (hn : h.u.length = n) : mpL h n = h.text := by
  unfold mpL
  rw [← hn, List.take_length, txL_fin]
theorem mpL_len (h : Hd) (i : Nat) : (mpL h i).length = 1024 := by
  unfold mpL
  rw [List.length_append, List.length_append, List.length_take, List.length_drop, mapL_len, txL_len]
  rfl
theorem tk_bit (u : List Bool) (i : Nat) (hi : i < u.length) (j : Nat) : bitN (u.take (i + 1)) j = bitN (u.take i) j + (if j = i / 8 then (if u.getD i false then 2 ^ (i % 8) else 0) else 0) := by
  have hv : (u.take (i + 1)).length = i + 1 := by rw [List.length_take]; omega
  have e : ∀ j, bitN ((u.take (i + 1)).set i false) j = bitN (u.take i) j := fun j => bitN_eq j (fun k _ => by
    rw [Pg.getD_set _ _ _ _ (by omega), take_getD, take_getD]
    by_cases h1 : 8 * j + k = i
    · rw [if_pos h1, if_neg (by omega)]
    · rw [if_neg h1]
      by_cases h2 : 8 * j + k < i
      · rw [if_pos (by omega), if_pos h2]
      · rw [if_neg (by omega), if_neg h2])
  by_cases hj : j = i / 8
  · subst hj
    have := bitN_same (u.take (i + 1)) i false (by omega)
    rw [e, take_getD, if_pos (show i < i + 1 by omega)] at this
    rw [if_pos rfl]
    simp only [Bool.false_eq_true, if_false, Nat.add_zero] at this
    exact this.symm
  · rw [if_neg hj, ← e, bitN_other _ i j false (by omega) hj]
    rfl
theorem mpL_step (h : Hd) (i : Nat) (hi : i < h.u.length) (h8 : i < 128) (hb : h.u.getD i false = true) : mpL h (i + 1) = (mpL h i).set (26 + i / 8) (UInt8.ofNat (bitN (h.u.take i) (i / 8) + 2 ^ (i % 8))) := by
  have e : mapL (h.u.take (i + 1)) = (mapL (h.u.take i)).set (i / 8) (UInt8.ofNat (bitN (h.u.take i) (i / 8) + 2 ^ (i % 8))) := by
    apply List.ext_getElem?
    intro j
    rw [List.getElem?_set]
    unfold mapL
    by_cases hj : j < 16
    · rw [List.getElem?_map, List.getElem?_map, List.getElem?_range hj]
      by_cases e : i / 8 = j
      · rw [if_pos e, if_pos (by rw [List.length_map, List.length_range]; omega)]
        simp only [Option.map_some]
        rw [tk_bit _ _ hi, if_pos e.symm, if_pos hb, ← e]
      · rw [if_neg e]
        simp only [Option.map_some]
        rw [tk_bit _ _ hi, if_neg (fun x => e x.symm)]
        rfl
    · rw [if_neg (by omega), List.getElem?_eq_none (by simp; omega), List.getElem?_eq_none (by simp; omega)]
  unfold mpL
  rw [e, List.append_assoc, List.append_assoc]
  have l1 : ((txL h 4).take 26).length = 26 := by rw [List.length_take, txL_len]; rfl
  rw [List.set_append, if_neg (by omega), l1, show 26 + i / 8 - 26 = i / 8 by omega, List.set_append, if_pos (by rw [mapL_len]; omega)]
theorem mpL_skip (h : Hd) (i : Nat) (hi : i < h.u.length) (hb : h.u.getD i false = false) : mpL h (i + 1) = mpL h i := by
  unfold mpL
  congr 2
  refine mapL_eq (fun j _ => ?_)
  rw [take_getD, take_getD]
  by_cases e : j = i
  · subst e
    rw [if_pos (by omega), if_neg (by omega), hb]
  · by_cases h2 : j < i
    · rw [if_pos (by omega), if_pos h2]
    · rw [if_neg (by omega), if_neg h2]
theorem mpL_at (h : Hd) (i : Nat) (h8 : i < 128) : (u8L (mpL h i)).toArray[26 + i / 8]? = some (.int .u8 ((bitN (h.u.take i) (i / 8) : Nat) : Int)) := by
  have l1 : ((txL h 4).take 26).length = 26 := by rw [List.length_take, txL_len]; rfl
  unfold mpL u8L
  rw [List.getElem?_toArray, List.getElem?_map, List.append_assoc, List.getElem?_append_right (by omega), l1, show 26 + i / 8 - 26 = i / 8 by omega, List.getElem?_append_left (by rw [mapL_len]; omega)]
  unfold mapL
  rw [List.getElem?_map, List.getElem?_range (by omega)]
  simp only [Option.map_some]
  rw [toNat_ofNat (bitN_lt _ _)]
theorem tk_lt (u : List Bool) (i : Nat) (hi : i < u.length) (hb : u.getD i false = true) : bitN (u.take i) (i / 8) + 2 ^ (i % 8) < 256 := by
  have := tk_bit u i hi (i / 8)
  rw [if_pos rfl, if_pos hb] at this
  have h2 := bitN_lt (u.take (i + 1)) (i / 8)
  omega
theorem two_sets (L : List UInt8) (k r : Nat) (hr : r < 65536) : (L.set (18 + 2 * k) (UInt8.ofNat (r / 256))).set (19 + 2 * k) (UInt8.ofNat (r % 256)) = putB L (18 + 2 * k) 2 r 2 := by
  show _ = ((L.set (18 + 2 * k + (2 - 1 - 0)) (UInt8.ofNat (r / 256 ^ 0 % 256))).set (18 + 2 * k + (2 - 1 - 1)) (UInt8.ofNat (r / 256 ^ 1 % 256)))
  rw [show 18 + 2 * k + (2 - 1 - 0) = 19 + 2 * k by omega, show 18 + 2 * k + (2 - 1 - 1) = 18 + 2 * k by omega, Nat.pow_zero, Nat.div_one, Nat.pow_one, List.set_comm _ _ (by omega), Nat.mod_eq_of_lt (show r / 256 < 256 by omega)]
/-- A state's row. -/
def rsH (uv dv : Value) (h : Hd) : Array Value := rsA uv dv h.root h.ser
theorem rsH_root (uv dv : Value) (h : Hd) (k : Nat) (hk : k < 4) : (rsH uv dv h)[2 + k]? = some (.int .i64 ((h.root k : Nat) : Int)) := by
  match k, hk with
  | 0, _ => rfl
  | 1, _ => rfl
  | 2, _ => rfl
  | 3, _ => rfl
set_option maxRecDepth 100000 in
set_option maxHeartbeats 8000000 in
theorem rbytes_any (h : Hd) (n ub uc base : Nat) (dv : Value) (w : World) (hu : h.u.length = n) (hn1 : 1 ≤ n) (hn : n ≤ 128) (hr : ∀ k, k < 4 → h.root k < 65536) (hs : h.ser < 18446744073709551616) (hrow : w.ownsRow base 4 1 (.slice (some ⟨ub, 0, none⟩) n uc) n (boolsV h.u)) :
    Calls Tryz.prog 14 #[.agg (rsH (.slice (some ⟨ub, 0, none⟩) n uc) dv h)] w fun e w' => e = .returned (.string (strOf h.text)) ∧ Below w.heap.size w w' := by
  obtain ⟨B, hB⟩ : ∃ B, w.heap.size = B := ⟨_, rfl⟩
  obtain ⟨rs, hrs⟩ : ∃ rs, rsH (.slice (some ⟨ub, 0, none⟩) n uc) dv h = rs := ⟨_, rfl⟩
  have HRS : Hid (rs.size = 7 ∧ rs[0]? = some (.slice (some ⟨ub, 0, none⟩) n uc) ∧ rs[6]? = some (.int .u64 (h.ser : Int)) ∧ ∀ k, k < 4 → rs[2 + k]? = some (.int .i64 ((h.root k : Nat) : Int))) := by
    rw [← hrs]
    exact ⟨rfl, rfl, rfl, fun k hk => rsH_root _ _ _ k hk⟩
  have hrsz := HRS.out.1
  rw [hrs]
  clear hrs
  have hcap : n ≤ uc ∧ uc ≤ 9223372036854775807 := by
    rcases hrow.2 with ⟨h1, h2⟩ | ⟨g', cap', cur, e1, hb0, hr, h3, h4, _⟩
    · omega
    · cases e1
      unfold maxLen at h4
      omega
  have hubl : ub < B := by rw [← hB]; exact (hrow.lt ub rfl).2
  have HU : Hid (∀ W, Below B w W → ∀ i, i < n → W.cell? ⟨ub, i, none⟩ = some (.bool (h.u.getD i false))) := fun W hW i hi => by
    rw [hW.cell hubl]
    refine own_at hrow ?_
    rw [boolsV_at, List.getElem?_eq_getElem (by omega), List.getD_eq_getElem?_getD, List.getElem?_eq_getElem (by omega)]
    rfl
  obtain ⟨W1, hW1⟩ : ∃ W1, w.alloc (.cells rs 42) = W1 := ⟨_, rfl⟩
  have hr1 : W1.heap[B]? = some (.cells rs 42 (0, 0)) := by rw [← hW1, ← hB]; exact heap_alloc_new w _
  have hs1 : W1.heap.size = B + 1 := by rw [← hW1, ← hB]; simp
  have hmk : (Instr.makeSlice 22 (.int .i64 1024) (.int .i64 1024)).run Tryz.prog W1 = .ok (.slice (some ⟨W1.heap.size, 0, none⟩) 1024 1024) (W1.alloc (.cells (u8L (List.replicate 1024 0)).toArray 5)) := make_zero 1024 (by omega) W1
  rw [hs1] at hmk
  obtain ⟨W2, hW2⟩ : ∃ W2, W1.alloc (.cells (u8L (List.replicate 1024 0)).toArray 5) = W2 := ⟨_, rfl⟩
  rw [hW2] at hmk
  have hr2 : W2.heap[B + 1]? = some (.cells (u8L (List.replicate 1024 0)).toArray 5 (0, 0)) := by rw [← hW2, ← hs1]; exact heap_alloc_new W1 _
  have hr2b : W2.heap[B]? = some (.cells rs 42 (0, 0)) := by rw [← hW2, Below.heap_alloc _ _ _ (by omega)]; exact hr1
  have hb2 : Below B w W2 := by rw [← hW2, ← hW1, ← hB]; exact ((Below.refl _ w).alloc (Nat.le_refl _) _).alloc (by simp) _
  have hcp := fun ty => copy_str (P := Tryz.prog) W2 22 9 ty 5 (B + 1) 0 1024 1024 10 ⟨#[115, 116, 114, 111, 110, 103, 114, 111, 111, 109]⟩ _ _ Tryz.underlying22 (by kernel_rfl) hr2 rfl (by rw [List.size_toArray, u8L_len, List.length_replicate]; omega)
  obtain ⟨W3, hW3⟩ : ∃ W3, W2.setRow (B + 1) (u8L (magic ++ List.replicate 1014 0)).toArray = W3 := ⟨_, rfl⟩
  have e3 : ((u8L (List.replicate 1024 0)).toArray.toList.take 0 ++ u8L ((⟨#[115, 116, 114, 111, 110, 103, 114, 111, 111, 109]⟩ : ByteArray).data.toList.take 10) ++ (u8L (List.replicate 1024 0)).toArray.toList.drop (0 + 10)).toArray = (u8L (magic ++ List.replicate 1014 0)).toArray := by
    kernel_rfl
  rw [e3, hW3] at hcp
  have hr3 : W3.heap[B + 1]? = some (.cells (u8L (magic ++ List.replicate 1014 0)).toArray 5 (0, 0)) := by rw [← hW3]; exact setRow_heap W2 _ _ _ _ _ hr2
  have hr3b : W3.heap[B]? = some (.cells rs 42 (0, 0)) := by rw [← hW3, setRow_other _ _ _ _ (by omega)]; exact hr2b
  have hb3 : Below B w W3 := by
    rw [← hW3]
    exact setRow_below hb2 (by omega) _
  have cser : W3.cell? ⟨B, 6, none⟩ = some (.int .u64 (h.ser : Int)) := by rw [cell_of_row W3 B _ _ _ _ hr3b]; exact HRS.out.2.2.1
  have H3 : Hid (W3.heap[B + 1]? = some (.cells (u8L (magic ++ List.replicate 1014 0)).toArray 5 (0, 0)) ∧ W3.heap[B]? = some (.cells rs 42 (0, 0)) ∧ Below B w W3) := ⟨hr3, hr3b, hb3⟩
  have HR : Hid (∀ k, k < 4 → h.root k < 65536) := hr
  have HN : Hid (h.u.length = n) := hu
  clear hr1 hr2 hr2b hb2 hr3 hr3b hb3 e3 hs1 hr hrow hu
  obtain ⟨sr, hsr⟩ : ∃ sr, h.ser = sr := ⟨_, rfl⟩
  rw [hsr] at cser hs
  have HSR : Hid (h.ser = sr) := hsr
  clear hsr
  go_enter Tryz.func14, Tryz.ntmps14
  go_wp2
  go_loopw [4, 5] (fun v4 v5 wr => ∃ j : Nat, j ≤ 8 ∧ v5 = .int .i64 (7 - (j : Int)) ∧ v4 = .int .u64 ((sr / 256 ^ j : Nat) : Int) ∧ wr.heap[B + 1]? = some (.cells (u8L (putB (magic ++ List.replicate 1014 0) 10 8 sr j)).toArray 5 (0, 0)) ∧ wr.heap[B]? = some (.cells rs 42 (0, 0)) ∧ Below B w wr) (fun _ v _ => (intOf v + 1).toNat)
  case atStart => exact ⟨0, by omega, rfl, by rw [Nat.pow_zero, Nat.div_one], H3.out⟩
  case round =>
    clear H3 hmk hcp cser hW1 hW2 hW3
    obtain ⟨j, hj, rfl, rfl, hr1, hr0, hbw⟩ := hrel
    have HQ : Hid (sr / 256 ^ j / 256 = sr / 256 ^ (j + 1)) := by show _ = _; rw [Nat.div_div_eq_div_mul, Nat.pow_succ]
    obtain ⟨q, hq⟩ : ∃ q, sr / 256 ^ j = q := ⟨_, rfl⟩
    have hql : q < 18446744073709551616 := by rw [← hq]; exact Nat.lt_of_le_of_lt (Nat.div_le_self _ _) hs
    by_cases hlt : j < 8
    · have kk : (0 : Int) ≤ 7 - (j : Int) := by omega
      obtain ⟨i, hi⟩ : ∃ i : Nat, 7 - j = i := ⟨_, rfl⟩
      have ki : 7 - (j : Int) = (i : Int) := by omega
      have hi7 : i ≤ 7 := by omega
      obtain ⟨v, hv⟩ : ∃ v : Nat, q % 256 = v := ⟨_, rfl⟩
      obtain ⟨d, hd⟩ : ∃ d : Nat, q / 256 = d := ⟨_, rfl⟩
      have hv8 : v < 256 := by omega
      have HST : Hid ((u8L (putB (magic ++ List.replicate 1014 0) 10 8 sr j)).toArray.setIfInBounds (10 + i) (.int .u8 (v : Int)) = (u8L (putB (magic ++ List.replicate 1014 0) 10 8 sr (j + 1))).toArray) := by
        show _ = _
        rw [u8L_set _ _ _ hv8, ← hv, ← hq, ← hi]
        rfl
      obtain ⟨cc, hcc⟩ := u8L_at (putB (magic ++ List.replicate 1014 0) 10 8 sr j) (10 + i) (by rw [putB_len, List.length_append, List.length_replicate]; show _ < 10 + 1014; omega)
      have ck : wr.cell? ⟨B + 1, 10 + i, none⟩ = some (.int .u8 cc) := by rw [cell_of_row wr (B + 1) _ _ _ _ hr1]; exact hcc
      have fk := frozen_of_row wr (B + 1) (10 + i) _ _ hr1
      have kq : (q : Int) % 256 = (v : Int) := by omega
      have kd : (q : Int) / 256 = (d : Int) := by omega
      have HNX : Hid ((wr.setCell ⟨B + 1, 10 + i, none⟩ (.int .u8 (v : Int))).heap[B + 1]? = some (.cells (u8L (putB (magic ++ List.replicate 1014 0) 10 8 sr (j + 1))).toArray 5 (0, 0)) ∧ (wr.setCell ⟨B + 1, 10 + i, none⟩ (.int .u8 (v : Int))).heap[B]? = some (.cells rs 42 (0, 0)) ∧ Below B w (wr.setCell ⟨B + 1, 10 + i, none⟩ (.int .u8 (v : Int)))) := by
        refine ⟨?_, ?_, hbw.setCell (by show B ≤ B + 1; omega) _⟩
        · rw [heap_setCell_same wr (B + 1) (10 + i) _ _ _ hr1, HST.out]
        · rw [heap_setCell_other _ _ _ _ (by show B ≠ B + 1; omega)]; exact hr0
      have HQD : Hid (sr / 256 ^ (j + 1) = d) := by show _ = _; rw [← HQ.out, hq, hd]
      rw [hq]
      clear hr0 hr1 hbw HST hq hcc HQ hv hd
      rw [ki]
      go_wp2
      exact ⟨⟨j + 1, by omega, by rw [show ((j + 1 : Nat) : Int) = (j : Int) + 1 by omega]; congr 1 <;> omega, by rw [HQD.out], HNX.out⟩, by simp [intOf] <;> omega⟩
    · obtain rfl : j = 8 := by omega
      have kk : ¬ (0 : Int) ≤ 7 - ((8 : Nat) : Int) := by omega
      have kz : (7 : Int) - ((8 : Nat) : Int) = -1 := by omega
      have HI : Hid (wr.heap[B + 1]? = some (.cells (u8L (txL h 0)).toArray 5 (0, 0)) ∧ wr.heap[B]? = some (.cells rs 42 (0, 0)) ∧ Below B w wr) := by
        refine ⟨?_, hr0, hbw⟩
        show _ = some (Obj.cells (u8L (putB (magic ++ List.replicate 1014 0) 10 8 h.ser 8)).toArray 5 (0, 0))
        rw [HSR.out]; exact hr1
      rw [hq, kz]
      clear hr0 hr1 hbw hq HQ kz kk
      go_wp2
      go_loopw [6] (fun v wr => ∃ k : Nat, k ≤ 4 ∧ v = .int .i64 (k : Int) ∧ wr.heap[B + 1]? = some (.cells (u8L (txL h k)).toArray 5 (0, 0)) ∧ wr.heap[B]? = some (.cells rs 42 (0, 0)) ∧ Below B w wr) (fun v _ => 4 - (intOf v).toNat)
      case atStart => exact ⟨0, by omega, rfl, HI.out⟩
      case round =>
        clear HI
        obtain ⟨k, hk, rfl, hr1, hr0, hbw⟩ := hrel
        by_cases hlt : k < 4
        · have kk : (k : Int) < 4 := by omega
          have hrk := HR.out k hlt
          have HTS := two_sets (txL h k) k (h.root k) hrk
          have crk : wr.cell? ⟨B, 2 + k, none⟩ = some (.int .i64 ((h.root k : Nat) : Int)) := by rw [cell_of_row wr B _ _ _ _ hr0]; exact HRS.out.2.2.2 k hlt
          obtain ⟨r, hr⟩ : ∃ r, h.root k = r := ⟨_, rfl⟩
          have HLT : Hid (putB (txL h k) (18 + 2 * k) 2 r 2 = txL h (k + 1)) := by show _ = putB (txL h k) (18 + 2 * k) 2 (h.root k) 2; rw [hr]
          rw [hr] at HTS crk hrk
          obtain ⟨at_, hat⟩ : ∃ x : Nat, 18 + 2 * k = x := ⟨_, rfl⟩
          have kat : 18 + 2 * (k : Int) = (at_ : Int) := by omega
          have kat2 : 19 + 2 * (k : Int) = (at_ : Int) + 1 := by omega
          have hat2 : at_ ≤ 24 := by omega
          obtain ⟨v1, hv1⟩ : ∃ v : Nat, r / 256 = v := ⟨_, rfl⟩
          obtain ⟨v2, hv2⟩ : ∃ v : Nat, r % 256 = v := ⟨_, rfl⟩
          have hv18 : v1 < 256 := by omega
          have hv28 : v2 < 256 := by omega
          have kq1 : (r : Int) / 256 = (v1 : Int) := by omega
          have kq2 : (r : Int) % 256 = (v2 : Int) := by omega
          rw [hat, show 19 + 2 * k = at_ + 1 by omega, hv1, hv2] at HTS
          rw [hat] at HLT
          obtain ⟨cc, hcc⟩ := u8L_at (txL h k) at_ (by rw [txL_len]; omega)
          have ck : wr.cell? ⟨B + 1, at_, none⟩ = some (.int .u8 cc) := by rw [cell_of_row wr (B + 1) _ _ _ _ hr1]; exact hcc
          have fk := frozen_of_row wr (B + 1) at_ _ _ hr1
          obtain ⟨U, hU⟩ : ∃ U, wr.setCell ⟨B + 1, at_, none⟩ (.int .u8 (v1 : Int)) = U := ⟨_, rfl⟩
          have hrU : U.heap[B + 1]? = some (.cells (u8L ((txL h k).set at_ (UInt8.ofNat v1))).toArray 5 (0, 0)) := by rw [← hU, heap_setCell_same wr (B + 1) at_ _ _ _ hr1, u8L_set _ _ _ hv18]
          have hrU0 : U.heap[B]? = some (.cells rs 42 (0, 0)) := by rw [← hU, heap_setCell_other _ _ _ _ (by show B ≠ B + 1; omega)]; exact hr0
          obtain ⟨c2, hc2⟩ := u8L_at ((txL h k).set at_ (UInt8.ofNat v1)) (at_ + 1) (by rw [List.length_set, txL_len]; omega)
          have ck2 : U.cell? ⟨B + 1, at_ + 1, none⟩ = some (.int .u8 c2) := by rw [cell_of_row U (B + 1) _ _ _ _ hrU]; exact hc2
          have fk2 := frozen_of_row U (B + 1) (at_ + 1) _ _ hrU
          have crk2 : U.cell? ⟨B, 2 + k, none⟩ = some (.int .i64 (r : Int)) := by rw [cell_of_row U B _ _ _ _ hrU0, ← hr]; exact HRS.out.2.2.2 k hlt
          have HNX : Hid ((U.setCell ⟨B + 1, at_ + 1, none⟩ (.int .u8 (v2 : Int))).heap[B + 1]? = some (.cells (u8L (txL h (k + 1))).toArray 5 (0, 0)) ∧ (U.setCell ⟨B + 1, at_ + 1, none⟩ (.int .u8 (v2 : Int))).heap[B]? = some (.cells rs 42 (0, 0)) ∧ Below B w (U.setCell ⟨B + 1, at_ + 1, none⟩ (.int .u8 (v2 : Int)))) := by
            refine ⟨?_, ?_, Below.setCell (by rw [← hU]; exact hbw.setCell (by show B ≤ B + 1; omega) _) (by show B ≤ B + 1; omega) _⟩
            · rw [heap_setCell_same U (B + 1) (at_ + 1) _ _ _ hrU, u8L_set _ _ _ hv28, HTS, HLT.out]
            · rw [heap_setCell_other _ _ _ _ (by show B ≠ B + 1; omega)]; exact hrU0
          clear hr0 hr1 hbw HTS HLT hr hcc hc2 hrU hrU0 hv1 hv2 hat
          go_wp2
          exact ⟨⟨k + 1, by omega, by go_num, HNX.out⟩, by simp [intOf]; omega⟩
        · obtain rfl : k = 4 := by omega
          have kk : ¬ (4 : Int) < 4 := by omega
          have HI : Hid (wr.heap[B + 1]? = some (.cells (u8L (mpL h 0)).toArray 5 (0, 0)) ∧ wr.heap[B]? = some (.cells rs 42 (0, 0)) ∧ Below B w wr) := by
            refine ⟨?_, hr0, hbw⟩
            rw [mpL_zero]; exact hr1
          clear hr0 hr1 hbw
          go_wp2
          go_loopw [7, 8, 9] (fun v _ _ wr => ∃ i : Nat, i ≤ n ∧ v = .int .i64 (i : Int) ∧ wr.heap[B + 1]? = some (.cells (u8L (mpL h i)).toArray 5 (0, 0)) ∧ wr.heap[B]? = some (.cells rs 42 (0, 0)) ∧ Below B w wr) (fun v _ _ _ => n - (intOf v).toNat)
          case atStart => exact ⟨0, by omega, rfl, HI.out⟩
          case round =>
            clear HI
            obtain ⟨i, hi, rfl, hr1, hr0, hbw⟩ := hrel
            have c0 : wr.cell? ⟨B, 0, none⟩ = some (.slice (some ⟨ub, 0, none⟩) n uc) := by rw [cell_of_row wr B _ _ _ _ hr0]; exact HRS.out.2.1
            by_cases hlt : i < n
            · have kk : (i : Int) < (n : Int) := by omega
              obtain ⟨md, hmd⟩ : ∃ md : Nat, i % 8 = md := ⟨_, rfl⟩
              obtain ⟨dv8, hdv⟩ : ∃ d : Nat, i / 8 = d := ⟨_, rfl⟩
              have kmd : (i : Int) % 8 = (md : Int) := by omega
              have kdv : (i : Int) / 8 = (dv8 : Int) := by omega
              have hmd8 : md < 8 := by omega
              have hdv16 : dv8 < 16 := by omega
              have cu : wr.cell? ⟨ub, i, none⟩ = some (.bool (h.u.getD i false)) := HU.out wr hbw i hlt
              have HK : Hid (wr.heap[B + 1]? = some (.cells (u8L (mpL h i)).toArray 5 (0, 0)) ∧ wr.heap[B]? = some (.cells rs 42 (0, 0)) ∧ Below B w wr) := ⟨hr1, hr0, hbw⟩
              have HAT := mpL_at h i (by omega)
              have HSTEP : h.u.getD i false = true → mpL h (i + 1) = (mpL h i).set (26 + i / 8) (UInt8.ofNat (bitN (h.u.take i) (i / 8) + 2 ^ (i % 8))) := mpL_step h i (by rw [HN.out]; exact hlt) (by omega)
              have HSKIP : h.u.getD i false = false → mpL h (i + 1) = mpL h i := mpL_skip h i (by rw [HN.out]; exact hlt)
              have HLT : h.u.getD i false = true → bitN (h.u.take i) (i / 8) + 2 ^ (i % 8) < 256 := tk_lt h.u i (by rw [HN.out]; exact hlt)
              rw [hmd, hdv] at HSTEP HLT
              rw [hdv] at HAT
              obtain ⟨bN, hbN⟩ : ∃ bN, bitN (h.u.take i) dv8 = bN := ⟨_, rfl⟩
              rw [hbN] at HSTEP HLT HAT
              obtain ⟨un, hun⟩ : ∃ un, 2 ^ md = un := ⟨_, rfl⟩
              rw [hun] at HSTEP HLT
              have HUN : Hid (2 ^ md = un) := hun
              obtain ⟨bb, hbb⟩ : ∃ bb, h.u.getD i false = bb := ⟨_, rfl⟩
              rw [hbb] at cu HSTEP HSKIP HLT
              have HFA : Hid (((u8L (mpL h i)).toArray[26 + dv8]? = some (.int .u8 (bN : Int))) ∧ (bb = true → mpL h (i + 1) = (mpL h i).set (26 + dv8) (UInt8.ofNat (bN + un))) ∧ (bb = false → mpL h (i + 1) = mpL h i) ∧ (bb = true → bN + un < 256)) := ⟨HAT, HSTEP, HSKIP, HLT⟩
              clear hr0 hr1 hbw HAT HSTEP HSKIP HLT hmd hdv hbN hun hbb
              go_wp2
              go_loopw [8, 9] (fun v8 v9 wq => ∃ k : Nat, k ≤ md ∧ v9 = .int .i64 (k : Int) ∧ v8 = .int .u8 ((2 ^ k : Nat) : Int) ∧ wq = wr) (fun _ v _ => md - (intOf v).toNat)
              case atStart => exact ⟨0, by omega, rfl, rfl, rfl⟩
              case round =>
                obtain ⟨k, hk, rfl, rfl, rfl⟩ := hrel
                by_cases hlt2 : k < md
                · have kk2 : (k : Int) < (md : Int) := by omega
                  have HPW : Hid (2 ^ (k + 1) = 2 ^ k * 2) := Nat.pow_succ 2 k
                  have hp : 2 ^ k ≤ 64 := Nat.le_trans (Nat.pow_le_pow_right (by omega) (show k ≤ 6 by omega)) (by decide)
                  obtain ⟨pw, hpw⟩ : ∃ pw, 2 ^ k = pw := ⟨_, rfl⟩
                  rw [hpw] at HPW hp ⊢
                  have kp : (pw : Int) * 2 ≤ 255 := by omega
                  have kp0 : 0 ≤ (pw : Int) * 2 := by omega
                  clear hpw
                  go_wp2
                  exact ⟨⟨k + 1, by omega, by go_num, by rw [HPW.out]; go_num, trivial⟩, by simp [intOf]; omega⟩
                · obtain rfl : k = md := by omega
                  have kk2 : ¬ (k : Int) < (k : Int) := by omega
                  rw [HUN.out]
                  cases bb with
                  | false =>
                    have HNX : Hid (wr.heap[B + 1]? = some (.cells (u8L (mpL h (i + 1))).toArray 5 (0, 0)) ∧ wr.heap[B]? = some (.cells rs 42 (0, 0)) ∧ Below B w wr) := by
                      rw [HFA.out.2.2.1 rfl]; exact HK.out
                    clear HFA HK
                    go_wp2
                    exact ⟨⟨i + 1, by omega, by go_num, HNX.out⟩, by simp [intOf]; omega⟩
                  | true =>
                    have hsum := HFA.out.2.2.2 rfl
                    have c26 : wr.cell? ⟨B + 1, 26 + dv8, none⟩ = some (.int .u8 (bN : Int)) := by rw [cell_of_row wr (B + 1) _ _ _ _ HK.out.1]; exact HFA.out.1
                    have f26 := frozen_of_row wr (B + 1) (26 + dv8) _ _ HK.out.1
                    obtain ⟨sm, hsm⟩ : ∃ sm, bN + un = sm := ⟨_, rfl⟩
                    have ksm : (bN : Int) + (un : Int) = (sm : Int) := by omega
                    have HNX : Hid ((wr.setCell ⟨B + 1, 26 + dv8, none⟩ (.int .u8 (sm : Int))).heap[B + 1]? = some (.cells (u8L (mpL h (i + 1))).toArray 5 (0, 0)) ∧ (wr.setCell ⟨B + 1, 26 + dv8, none⟩ (.int .u8 (sm : Int))).heap[B]? = some (.cells rs 42 (0, 0)) ∧ Below B w (wr.setCell ⟨B + 1, 26 + dv8, none⟩ (.int .u8 (sm : Int)))) := by
                      refine ⟨?_, ?_, HK.out.2.2.setCell (by show B ≤ B + 1; omega) _⟩
                      · rw [heap_setCell_same wr (B + 1) (26 + dv8) _ _ _ HK.out.1, u8L_set _ _ _ (by omega), HFA.out.2.1 rfl, hsm]
                      · rw [heap_setCell_other _ _ _ _ (by show B ≠ B + 1; omega)]; exact HK.out.2.1
                    have hsm8 : sm < 256 := by omega
                    clear HFA HK hsm hsum
                    go_wp2
                    exact ⟨⟨i + 1, by omega, by go_num, HNX.out⟩, by simp [intOf]; omega⟩
            · obtain rfl : i = n := by omega
              have kk : ¬ (i : Int) < (i : Int) := by omega
              rw [mpL_all h i HN.out] at hr1
              have hcv := conv_u8 wr (B + 1) _ _ _ hr1 1024 (Hd.text_len h)
              have HE : Hid (Below B w wr) := hbw
              clear hr0 hr1 hbw
              go_wp2
              go_ret
              exact ⟨rfl, HE.out⟩
end Go.Proofs.YtdgffocmdkadpaaGreat
namespace Go.Proofs.YtdgffocmdkadpaaGreat
open Go.RowKit Go.Shelf Pg
set_option maxRecDepth 100000 in
theorem rblank_any (w : World) : Calls Tryz.prog 53 #[] w fun e w' => e = .returned (.string zeroS) ∧ Below w.heap.size w w' := by
  obtain ⟨W1, hW1⟩ : ∃ W1, w.alloc (.cells (u8L (List.replicate 1024 0)).toArray 5) = W1 := ⟨_, rfl⟩
  have hmk : (Instr.makeSlice 22 (.int .i64 1024) (.int .i64 1024)).run Tryz.prog w = .ok (.slice (some ⟨w.heap.size, 0, none⟩) 1024 1024) W1 := by rw [← hW1]; exact make_zero 1024 (by omega) w
  have hr1 : W1.heap[w.heap.size]? = some (.cells (u8L (List.replicate 1024 0)).toArray 5 (0, 0)) := by rw [← hW1]; exact heap_alloc_new w _
  have hcv : (convert 22 9 (.slice (some ⟨w.heap.size, 0, none⟩) 1024 1024)).run Tryz.prog W1 = .ok (.string zeroS) W1 := conv_u8 W1 _ _ _ _ hr1 1024 (by rw [List.length_replicate])
  have HB : Hid (Below w.heap.size w W1) := by show Below _ _ _; rw [← hW1]; exact (Below.refl _ w).alloc (Nat.le_refl _) _
  clear hr1 hW1
  go_enter Tryz.func53, Tryz.ntmps53
  go_wp2
  go_ret
  exact ⟨rfl, HB.out⟩
theorem str_at (s : ByteArray) (k x : Nat) (hk : k < s.size) (hx : byteN s.data.toList k = x) (W : World) : (Instr.index 9 (.string s) (.int .i64 (k : Int))).run Tryz.prog W = .ok (.int .u8 (x : Int)) W := by
  have hk' : k < s.data.size := hk
  rw [run_index_string W 9 s .i64 (k : Int) Tryz.underlying9, dif_pos ⟨by omega, by omega⟩]
  congr 2
  rw [← hx, byteN, List.getD_eq_getElem?_getD, Array.getElem?_toList, Array.getElem?_eq_getElem hk']
  rfl
theorem byteN_lt (b : List UInt8) (i : Nat) : byteN b i < 256 := by unfold byteN; exact UInt8.toNat_lt _
/-- The head that the document reads. -/
def hdN (n : Nat) (b : List UInt8) : Hd := ⟨serOf b, rootOf b 0, rootOf b 1, rootOf b 2, rootOf b 3, (List.range n).map (usedOf b)⟩
def serK (b : List UInt8) : Nat → Nat
  | 0 => 0
  | i + 1 => serK b i * 256 + byteN b (10 + i)
theorem serK_8 (b : List UInt8) : serK b 8 = serOf b := by simp [serK, serOf]
theorem serK_lt (b : List UInt8) (i : Nat) : serK b i < 256 ^ i := by
  induction i with
  | zero => exact Nat.zero_lt_one
  | succ i ih =>
    have := byteN_lt b (10 + i)
    show serK b i * 256 + _ < _
    rw [Nat.pow_succ]
    omega
theorem hdN_root (n : Nat) (b : List UInt8) (k : Nat) (hk : k < 4) : (hdN n b).root k = rootOf b k := by
  match k, hk with
  | 0, _ => rfl
  | 1, _ => rfl
  | 2, _ => rfl
  | 3, _ => rfl
theorem hdN_len (n : Nat) (b : List UInt8) : (hdN n b).u.length = n := by simp [hdN]
theorem hdN_has (n : Nat) (b : List UInt8) (i : Nat) : (hdN n b).has i = if i < n then usedOf b i else false := by
  unfold Hd.has hdN
  simp only
  rw [List.getD_eq_getElem?_getD, List.getElem?_map]
  by_cases h : i < n
  · rw [List.getElem?_range h, if_pos h]; rfl
  · rw [List.getElem?_eq_none (by simpa using h), if_neg h]; rfl
theorem rootOf_lt2 (b : List UInt8) (k : Nat) : rootOf b k < 65536 := by
  unfold rootOf
  have h1 := byteN_lt b (18 + 2 * k)
  have h2 := byteN_lt b (19 + 2 * k)
  omega
theorem serOf_lt2 (b : List UInt8) : serOf b < 18446744073709551616 := by rw [← serK_8]; exact serK_lt b 8
/-- What the document asks of a head. -/
def DocR (n : Nat) (b : List UInt8) : Prop := serOf b ≤ 9223372036854775807 ∧ (hdN n b).has 0 = true ∧ (hdN n b).text = b ∧ ∀ k, k < 4 → rootOf b k = 0 ∨ (rootOf b k < n ∧ (hdN n b).has (rootOf b k) = true)
theorem hdOf_has (b : List UInt8) (i : Nat) (hi : i < 128) : (hdOf b).has i = usedOf b i := range_used b i hi
theorem hdOf_rt (b : List UInt8) (k : Nat) (hk : k < 4) : (hdOf b).root k = rootOf b k := by
  match k, hk with
  | 0, _ => rfl
  | 1, _ => rfl
  | 2, _ => rfl
  | 3, _ => rfl
theorem doc_parse (n : Nat) (b : List UInt8) (hn1 : 1 ≤ n) (hn : n ≤ 128) (hz : b ≠ zeroL) : (parseH n b).isSome = true ↔ DocR n b := by
  unfold parseH
  rw [if_neg hz]
  have key : (∀ i, i < 128 → n ≤ i → (hdOf b).has i = false) → (hdN n b).text = (hdOf b).text := fun h => Hd.text_eq ⟨rfl, rfl, rfl, rfl, rfl⟩ (fun i hi => by
    rw [hdN_has]
    by_cases hin : i < n
    · rw [if_pos hin, hdOf_has b i hi]
    · rw [if_neg hin, h i hi (by omega)])
  constructor
  · intro h
    split at h
    · rename_i hc
      obtain ⟨ht, hr⟩ := hc
      obtain ⟨h1, h2, h3, h4⟩ := (rightB_iff n _).1 hr
      refine ⟨h1, ?_, (key h3).trans ht, fun k hk => .inr ?_⟩
      · rw [hdN_has, if_pos (by omega), ← hdOf_has b 0 (by omega)]; exact h2
      · have := h4 k hk
        rw [hdOf_rt b k hk] at this
        refine ⟨this.1, ?_⟩
        rw [hdN_has, if_pos this.1, ← hdOf_has b _ (by omega)]; exact this.2
    · cases h
  · rintro ⟨h1, h2, h3, h4⟩
    have h5 : ∀ i, i < 128 → n ≤ i → (hdOf b).has i = false := fun i hi hni => by
      rw [hdOf_has b i hi, ← h3]
      show usedOf (headL _ _ _ _ _ _) i = false
      rw [used_head _ _ _ _ _ _ i hi]
      have := hdN_has n b i
      rw [if_neg (by omega)] at this
      exact this
    rw [if_pos]
    · rfl
    · refine ⟨(key h5).symm.trans h3, (rightB_iff n _).2 ⟨h1, ?_, h5, fun k hk => ?_⟩⟩
      · rw [hdN_has, if_pos (by omega)] at h2
        rw [hdOf_has b 0 (by omega)]; exact h2
      · rw [hdOf_rt b k hk]
        rcases h4 k hk with e | ⟨e1, e2⟩
        · rw [e]
          refine ⟨by omega, ?_⟩
          rw [hdN_has, if_pos (by omega)] at h2
          rw [hdOf_has b 0 (by omega)]; exact h2
        · refine ⟨e1, ?_⟩
          rw [hdN_has, if_pos e1] at e2
          rw [hdOf_has b _ (by omega)]; exact e2
end Go.Proofs.YtdgffocmdkadpaaGreat
