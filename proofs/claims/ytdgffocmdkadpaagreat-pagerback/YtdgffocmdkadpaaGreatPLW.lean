/- Walks: how many pages a set has; a new head; numbers in bytes. A walk over a head's text. A walk over a head's text. -/
import Derived.Test.YtdgffocmdkadpaaGreatPJ
import Derived.Laws.CopyRow
namespace Go.Proofs.YtdgffocmdkadpaaGreat
open Go.RowKit Go.Shelf Pg
/-- Cells of a head. -/
def hdL (h : Hd) : List Value := [.int .u64 (h.ser : Int), .int .i64 (h.r0 : Int), .int .i64 (h.r1 : Int), .int .i64 (h.r2 : Int), .int .i64 (h.r3 : Int)] ++ setL h.u
def hdA (h : Hd) : Array Value := (hdL h).toArray
theorem hdL_len (h : Hd) : (hdL h).length = 21 := by simp [hdL, setL_len]
theorem hdA_size (h : Hd) : (hdA h).size = 21 := by rw [hdA, List.size_toArray, hdL_len]
theorem hdL_one (h : Hd) : ∀ v ∈ hdL h, v.oneCell' = true := by
  intro v hv
  unfold hdL at hv
  rcases List.mem_append.1 hv with hv | hv
  · simp only [List.mem_cons, List.not_mem_nil, or_false] at hv
    rcases hv with rfl | rfl | rfl | rfl | rfl <;> rfl
  · exact u8L_one _ v hv
theorem hdA_one (h : Hd) : (hdA h).all (·.oneCell') = true := by
  rw [Array.all_eq_true']
  intro v hv
  exact hdL_one h v (by simpa [hdA] using hv)
theorem hdL_set (h : Hd) (j : Nat) (hj : j < 16) : (hdL h)[5 + j]? = some (.int .u8 ((bitN h.u j : Nat) : Int)) := by
  unfold hdL
  rw [List.getElem?_append_right (by simp)]
  show (setL h.u)[5 + j - 5]? = _
  rw [show 5 + j - 5 = j by omega, setL_at _ _ hj]
theorem info_head (h : Hd) : (Tryz.prog.info? 100).map (·.size) = some (hdA h).size := by rw [hdA_size]; kernel_rfl
theorem load_head (W : World) (g : Nat) (h : Hd) (t : TypeId) (fr : Nat × Nat) (hg : W.heap[g]? = some (.cells (hdA h) t fr)) : (loadVar 100 ⟨g, 0, none⟩).run Tryz.prog W = .ok (.agg (hdA h)) W := run_loadVar_row (P := Tryz.prog) W g t 100 (hdA h) fr _ hg Tryz.underlying100 rfl (info_head h)
theorem load_set (W : World) (g : Nat) (u : List Bool) (t : TypeId) (fr : Nat × Nat) (hg : W.heap[g]? = some (.cells (setA u) t fr)) : (loadVar 98 ⟨g, 0, none⟩).run Tryz.prog W = .ok (.agg (setA u)) W := run_loadVar_row (P := Tryz.prog) W g t 98 (setA u) fr _ hg Tryz.underlying98 rfl (info_set u)
/-- A load whose run is known. -/
theorem wp_load_at {P : Program} {o : Oper} {a : Act} {w : World} {K : Act → World → Prop} {Q : Exit → Act → World → Prop} (ty : TypeId) (x : Operand) (ho : o.op = .load ty x) {ad : Addr} {v : Value} (hx : a.eval x = .pointer (some ad)) (hl : (loadVar ty ad).run P w = .ok v w) (h : K (a.put o.dst v) w) : o.wp P a w K Q := by
  unfold Oper.wp execOp
  simp only [ho, hx, Instr.loadAt, Instr.sureAddr, Sem.run_bind, Sem.run_pure, Result.andThen_ok, hl]
  exact h
theorem wpList_load_at {P : Program} {ops : Array Oper} {rest : List Oper} {o : Oper} {a : Act} {w : World} {Q : Exit → Act → World → Prop} (hgd : o.guard = none) (ty : TypeId) (x : Operand) (ho : o.op = .load ty x) {ad : Addr} {v : Value} (hx : a.eval x = .pointer (some ad)) (hl : (loadVar ty ad).run P w = .ok v w) (h : wpList P ops Q rest (a.put o.dst v) w) : wpList P ops Q (o :: rest) a w :=
  wpList_plain hgd fun _ hK => wp_load_at ty x ho hx hl (hK _ _ h)
theorem index_agg {P : Program} (W : World) (t e : TypeId) (n : Nat) (cs : Array Value) (j : Nat) (v : Value) (ht : P.underlying t = some (.array n e)) (hs : (sizeOf e).run P W = .ok 1 W) (ha : (isAgg e).run P W = .ok false W) (hj : j < n) (hv : cs[j]? = some v) : (Instr.index t (.agg cs) (.int .i64 (j : Int))).run P W = .ok v W := by
  have h0 : (0 : Int) ≤ (j : Int) ∧ (j : Int) < (n : Int) := by omega
  simp [Instr.index, asIntOf, run_underlying ht, Sem.run_bind, hs, part, ha, hv, hj]
theorem index_set (W : World) (u : List Bool) (j : Nat) (hj : j < 16) : (Instr.index 98 (.agg (setA u)) (.int .i64 (j : Int))).run Tryz.prog W = .ok (.int .u8 ((bitN u j : Nat) : Int)) W :=
  index_agg W 98 5 16 _ j _ Tryz.underlying98 (by kernel_rfl) (by kernel_rfl) hj (setA_at u j hj)
theorem onesCount_le (y : Nat) (hy : y < 256) : Lib.onesCount y ≤ 8 := Lib.onesCount_le8 ⟨y, hy⟩
theorem cntTo_le (u : List Bool) (k : Nat) : cntTo u k ≤ k := by
  induction k with
  | zero => exact Nat.le_refl _
  | succ k ih => show cntTo u k + _ ≤ _; split <;> omega
set_option maxRecDepth 100000 in
set_option maxHeartbeats 1000000 in
theorem pcount_any (u : List Bool) (hu : u.length ≤ 128) (w : World) : Calls Tryz.prog 75 #[.agg (setA u)] w fun e w' => e = .returned (.int .i64 ((u.count true : Nat) : Int)) ∧ Below w.heap.size w w' := by
  obtain ⟨W1, hW1⟩ : ∃ W1, w.alloc (.cells (setA u) 98) = W1 := ⟨_, rfl⟩
  have hr1 : W1.heap[w.heap.size]? = some (.cells (setA u) 98 (0, 0)) := by rw [← hW1]; exact heap_alloc_new w _
  have hl1 := load_set W1 _ u _ _ hr1
  have HB : Hid (Below w.heap.size w W1) := by rw [← hW1]; exact (Below.refl _ w).alloc (Nat.le_refl _) _
  have HC : Hid (cntTo u 128 = u.count true) := cntTo_all u 128 hu
  have hsz := setA_size u
  clear hr1 hu
  go_enter Tryz.func75, Tryz.ntmps75
  go_wp2_with (refine wpList_load_at rfl _ _ rfl rfl hl1 ?_)
  go_loopw [3, 5, 7] (fun v5 v1 v wr => ∃ j : Nat, j ≤ 16 ∧ v5 = .int .i64 ((cntTo u (8 * j) : Nat) : Int) ∧ v = .int .i64 (j : Int) ∧ wr = W1) (fun _ _ v _ => 16 - (intOf v).toNat)
  case atStart => exact ⟨0, by omega, rfl, rfl, rfl⟩
  case round =>
    obtain ⟨j, hj, rfl, rfl, hwr⟩ := hrel
    subst wr
    by_cases hlt : j < 16
    · have kk : (j : Int) < 16 := by omega
      have hj1 := index_set W1 u j hlt
      obtain ⟨y, hy⟩ : ∃ y, bitN u j = y := ⟨_, rfl⟩
      have hy8 : y < 256 := by rw [← hy]; exact bitN_lt u _
      have HN := cnt_eight u j
      rw [hy] at hj1 HN
      clear hy
      have hc1 := cntTo_le u (8 * j)
      have ho := onesCount_le y hy8
      have HO := Tryz.bits_OnesCount8 (y : Int) W1 (by omega) (by omega)
      rw [show ((y : Int)).toNat = y by omega] at HO
      have HN : Hid (cntTo u (8 * (j + 1)) = cntTo u (8 * j) + Lib.onesCount y) := HN
      obtain ⟨oc, hoc⟩ : ∃ oc, Lib.onesCount y = oc := ⟨_, rfl⟩
      obtain ⟨cc, hcc⟩ : ∃ cc, cntTo u (8 * j) = cc := ⟨_, rfl⟩
      rw [hoc] at HO HN ho
      rw [hcc] at HN hc1 ⊢
      clear hoc hcc
      go_wp2_with fail
      refine HO.mono ?_
      rintro e V ⟨rfl, hV⟩
      subst V
      go_wp2
      refine ⟨⟨j + 1, by omega, ?_, by go_num, trivial⟩, by simp [intOf]; omega⟩
      rw [HN.out]
      go_num
    · obtain rfl : j = 16 := by omega
      have kk : ¬ (16 : Int) < 16 := by omega
      have HE : Hid (cntTo u (8 * 16) = u.count true) := HC.out
      clear HC
      go_wp2
      go_ret
      exact ⟨by first | rfl | (rw [HE.out]; rfl), HB.out⟩
/-- Heads whose set changes. -/
theorem hdA_set (h : Hd) (i : Nat) (b : Bool) (hi : i < h.u.length) (h8 : i < 128) : (hdA h).setIfInBounds (5 + i / 8) (.int .u8 ((bitN (h.u.set i b) (i / 8) : Nat) : Int)) = hdA { h with u := h.u.set i b } := by
  unfold hdA hdL
  simp only [List.setIfInBounds_toArray]
  rw [List.set_append_right _ _ (by simp), setL_set h.u i b hi h8]
  congr 3
  simp
theorem setL_eq {u v : List Bool} (h : ∀ i, i < 128 → u.getD i false = v.getD i false) : setL u = setL v := by unfold setL; rw [mapL_eq h]
def hd0 (n : Nat) : Hd := ⟨0, 0, 0, 0, 0, false :: List.replicate (n - 1) false⟩
theorem false_getD (m i : Nat) : (List.replicate m false).getD i false = false := by
  rw [List.getD_eq_getElem?_getD, List.getElem?_replicate]
  split <;> rfl
theorem setL_none (m : Nat) : setL (List.replicate m false) = setL [] := setL_eq fun i _ => by rw [false_getD]; rfl
theorem hd0_cells (n : Nat) : hdA (hd0 n) = #[.int .u64 0, .int .i64 0, .int .i64 0, .int .i64 0, .int .i64 0, .int .u8 0, .int .u8 0, .int .u8 0, .int .u8 0, .int .u8 0, .int .u8 0, .int .u8 0, .int .u8 0, .int .u8 0, .int .u8 0, .int .u8 0, .int .u8 0, .int .u8 0, .int .u8 0, .int .u8 0, .int .u8 0] := by
  unfold hdA hdL hd0
  rw [← List.replicate_succ, setL_none]
  kernel_rfl
theorem zero_head (n : Nat) (W : World) : (zeroValue 100).run Tryz.prog W = .ok (.agg (hdA (hd0 n))) W := by
  rw [hd0_cells]
  kernel_rfl
theorem newHd_set (n : Nat) : ({ hd0 n with u := (hd0 n).u.set 0 true } : Hd) = newHd n := rfl
theorem store_head (W : World) (g o : Nat) (h : Hd) (cur : Array Value) (t : TypeId) (hg : W.heap[g]? = some (.cells cur t (0, 0))) (ho : o + 21 ≤ cur.size) : (storeCells ⟨g, o, none⟩ (hdA h).toList).run Tryz.prog W = .ok () (W.setRow g (cur.toList.take o ++ hdL h ++ cur.toList.drop (o + 21)).toArray) := by
  have e : (hdA h).toList = hdL h := rfl
  rw [e, run_storeCells_at Tryz.prog g o t (hdL h) 0 cur W hg (by rw [hdL_len]; omega) (hdL_one h), hdL_len]
  rfl
set_option maxRecDepth 100000 in
set_option maxHeartbeats 1000000 in
theorem newHead_any (n : Nat) (w : World) : Calls Tryz.prog 97 #[] w fun e w' => e = .returned (.agg (hdA (newHd n))) ∧ Below w.heap.size w w' := by
  obtain ⟨B, hB⟩ : ∃ B, w.heap.size = B := ⟨_, rfl⟩
  obtain ⟨W1, hW1⟩ : ∃ W1, w.alloc (.cells (hdA (hd0 n)) 100) = W1 := ⟨_, rfl⟩
  have hr1 : W1.heap[B]? = some (.cells (hdA (hd0 n)) 100 (0, 0)) := by rw [← hW1, ← hB]; exact heap_alloc_new w _
  have hs1 : W1.heap.size = B + 1 := by rw [← hW1, ← hB]; simp
  obtain ⟨W2, hW2⟩ : ∃ W2, W1.alloc (.cells (hdA (hd0 n)) 100) = W2 := ⟨_, rfl⟩
  have hr2 : W2.heap[B + 1]? = some (.cells (hdA (hd0 n)) 100 (0, 0)) := by rw [← hW2, ← hs1]; exact heap_alloc_new W1 _
  have hr2b : W2.heap[B]? = some (.cells (hdA (hd0 n)) 100 (0, 0)) := by rw [← hW2, Below.heap_alloc _ _ _ (by omega)]; exact hr1
  have hb2 : Below B w W2 := by rw [← hW2, ← hW1, ← hB]; exact ((Below.refl _ w).alloc (Nat.le_refl _) _).alloc (by simp) _
  have HA := padd_any (hd0 n).u (B + 1) 5 0 _ _ W2 (by simp [hd0]) (by omega) hr2 (fun j hj => by rw [hdA, List.getElem?_toArray]; exact hdL_set _ j hj)
  have hz := zero_head n
  have HH : Hid (W2.heap[B]? = some (.cells (hdA (hd0 n)) 100 (0, 0)) ∧ Below B w W2) := ⟨hr2b, hb2⟩
  have hsz := hdA_size (newHd n)
  clear hr1 hr2 hr2b hb2
  go_enter Tryz.func97, Tryz.ntmps97
  go_wp2_with fail
  refine HA.mono ?_
  rintro e V ⟨rfl, hp, hu, hvs⟩
  have hp : V.heap[B + 1]? = some (.cells (hdA (newHd n)) 100 (0, 0)) := by
    rw [hp, hdA_set (hd0 n) 0 true (by simp [hd0]) (by omega), newHd_set]
  have hl := load_head V _ _ _ _ hp
  have hVB : V.heap[B]? = some (.cells (hdA (hd0 n)) 100 (0, 0)) := (hu.block B (lt_of_some HH.out.1) (by show ¬ B = B + 1; omega)).trans HH.out.1
  have hst := store_head V B 0 (newHd n) _ _ hVB (by rw [hdA_size]; omega)
  have e2 : ((hdA (hd0 n)).toList.take 0 ++ hdL (newHd n) ++ (hdA (hd0 n)).toList.drop (0 + 21)).toArray = hdA (newHd n) := by
    rw [List.take_zero, List.nil_append, List.drop_eq_nil_of_le (by rw [Array.length_toList, hdA_size]; omega), List.append_nil]
    rfl
  rw [e2] at hst
  have HE : Hid ((V.setRow B (hdA (newHd n))).heap[B]? = some (.cells (hdA (newHd n)) 100 (0, 0)) ∧ Below B w (V.setRow B (hdA (newHd n)))) := by
    refine ⟨setRow_heap V B _ _ _ _ hVB, ?_⟩
    have hbV : Below B w V := HH.out.2.trans (hu.below (by have := lt_of_some HH.out.1; omega) (fun k hk => by have hk : k = B + 1 := hk; omega))
    exact ⟨hbV.os, hbV.tape, hbV.output, by rw [size_setRow]; exact hbV.size, fun k hk => by rw [setRow_other V B k _ (by omega)]; exact hbV.block k hk⟩
  clear HA hp hu hvs hVB e2
  go_wp2_with (refine wpList_load_at rfl _ _ rfl rfl hl ?_)
  exact bodyPost_ret (v := .agg (hdA (newHd n))) (results_cell_row rfl _ _ B _ _ _ _ rfl HE.out.1 Tryz.underlying100 rfl (info_head _)) rfl ⟨rfl, by rw [hB]; exact HE.out.2⟩
/-- The number that bytes are, the highest first. -/
def numN (l : List UInt8) : Nat := l.foldl (fun n b => n * 256 + b.toNat) 0
theorem numN_snoc (l : List UInt8) (b : UInt8) : numN (l ++ [b]) = numN l * 256 + b.toNat := by simp [numN]
theorem numN_lt (l : List UInt8) : numN l < 256 ^ l.length := by
  induction h : l.length generalizing l with
  | zero => rw [List.eq_nil_of_length_eq_zero h]; exact Nat.lt_of_sub_eq_succ rfl
  | succ k ih =>
    have hne : l ≠ [] := by intro e; rw [e] at h; cases h
    obtain ⟨m, b, rfl⟩ : ∃ m b, l = m ++ [b] := ⟨l.dropLast, l.getLast hne, (List.dropLast_concat_getLast hne).symm⟩
    have hm : m.length = k := by simpa using h
    have := ih m hm
    have hb := b.toNat_lt
    rw [numN_snoc, Nat.pow_succ]
    omega
theorem pow_le8 {i : Nat} (h : i < 8) : 256 ^ i * 256 ≤ 18446744073709551616 := by
  have : 256 ^ (i + 1) ≤ 256 ^ 8 := Nat.pow_le_pow_right (by omega) (by omega)
  rw [Nat.pow_succ] at this
  omega
set_option maxRecDepth 100000 in
set_option maxHeartbeats 1000000 in
theorem number_any (s : ByteArray) (hs : s.size ≤ 8) (w : World) : Calls Tryz.prog 98 #[.string s] w fun e w' => e = .returned (.int .u64 ((numN s.data.toList : Nat) : Int)) ∧ w' = w := by
  obtain ⟨m, hm⟩ : ∃ m, s.size = m := ⟨_, rfl⟩
  have hl : s.data.toList.length = m := hm
  go_enter Tryz.func98, Tryz.ntmps98
  go_wp2
  go_loopw [3, 4, 7] (fun v3 _ v wr => ∃ j : Nat, j ≤ m ∧ v3 = .int .u64 ((numN (s.data.toList.take j) : Nat) : Int) ∧ v = .int .i64 (j : Int) ∧ wr = w) (fun _ _ v _ => m - (intOf v).toNat)
  case atStart => exact ⟨0, by omega, rfl, rfl, rfl⟩
  case round =>
    obtain ⟨j, hj, rfl, rfl, hwr⟩ := hrel
    subst wr
    by_cases hlt : j < m
    · have kk : (j : Int) < (m : Int) := by omega
      have hjs : j < s.size := by omega
      obtain ⟨b, hb⟩ : ∃ b, s[j].toNat = b := ⟨_, rfl⟩
      have hb8 : b < 256 := by rw [← hb]; exact UInt8.toNat_lt _
      have HN : Hid (numN (s.data.toList.take (j + 1)) = numN (s.data.toList.take j) * 256 + b) := by
        show _ = _
        rw [List.take_succ_eq_append_getElem (by omega), numN_snoc]
        congr 1
      have h1 := numN_lt (s.data.toList.take j)
      rw [List.length_take, Nat.min_eq_left (by omega)] at h1
      have h2 := pow_le8 (i := j) (by omega)
      obtain ⟨nn, hnn⟩ : ∃ nn, numN (s.data.toList.take j) = nn := ⟨_, rfl⟩
      rw [hnn] at HN h1 ⊢
      have h3 : nn * 256 < 18446744073709551616 := by
        have : nn * 256 < 256 ^ j * 256 := Nat.mul_lt_mul_of_pos_right h1 (by omega)
        omega
      have hor : bits BinOp.or IntKind.u64 ((nn * 256 : Nat) : Int) (b : Int) = ((nn * 256 + b : Nat) : Int) := by
        rw [u64_or_nat _ _ h3 (by omega)]
        have := Nat.two_pow_add_eq_or_of_lt (b := b) (i := 8) hb8 nn
        rw [show 2 ^ 8 * nn = nn * 256 by omega] at this
        rw [this]
      clear h1 h2 hnn
      rw [show ((nn * 256 : Nat) : Int) = (nn : Int) * 256 by omega] at hor
      go_wp2
      refine ⟨⟨j + 1, by omega, ?_, by go_num, trivial⟩, by simp [intOf]; omega⟩
      rw [HN.out]
      go_num
    · obtain rfl : j = m := by omega
      have kk : ¬ (j : Int) < (j : Int) := by omega
      have HE : Hid (s.data.toList.take j = s.data.toList) := List.take_of_length_le (by omega)
      go_wp2
      go_ret
      exact ⟨by rw [HE.out]; rfl, rfl⟩
/-- Bytes of a number, laid one by one from the last place on. -/
def putB (L : List UInt8) (o m n : Nat) : Nat → List UInt8
  | 0 => L
  | i + 1 => (putB L o m n i).set (o + (m - 1 - i)) (UInt8.ofNat (n / 256 ^ i % 256))
theorem putB_len (L : List UInt8) (o m n i : Nat) : (putB L o m n i).length = L.length := by
  induction i with
  | zero => rfl
  | succ i ih => show (List.set _ _ _).length = _; rw [List.length_set, ih]
theorem u8L_set (L : List UInt8) (i v : Nat) (hv : v < 256) : (u8L L).toArray.setIfInBounds i (.int .u8 (v : Int)) = (u8L (L.set i (UInt8.ofNat v))).toArray := by
  simp only [List.setIfInBounds_toArray]
  unfold u8L
  rw [List.map_set, toNat_ofNat hv]
theorem u8L_at (L : List UInt8) (i : Nat) (hi : i < L.length) : ∃ c : Int, (u8L L).toArray[i]? = some (.int .u8 c) := by
  rw [List.getElem?_toArray]
  unfold u8L
  rw [List.getElem?_map, List.getElem?_eq_getElem hi]
  exact ⟨_, rfl⟩
set_option maxRecDepth 100000 in
set_option maxHeartbeats 1000000 in
theorem putNum_any (g o m c n : Nat) (L : List UInt8) (w : World) (hm : m ≤ 8) (hmc : m ≤ c) (ho : o + m ≤ L.length) (hr : w.heap[g]? = some (.cells (u8L L).toArray 5 (0, 0))) :
    Calls Tryz.prog 124 #[.slice (some ⟨g, o, none⟩) m c, .int .u64 (n : Int)] w fun e w' => e = .returned (.tuple #[]) ∧ w'.heap[g]? = some (.cells (u8L (putB L o m n m)).toArray 5 (0, 0)) ∧ Upd (fun x => x = g) w w' ∧ w'.heap.size = w.heap.size := by
  have HI : Hid (w.heap[g]? = some (.cells (u8L (putB L o m n 0)).toArray 5 (0, 0)) ∧ Upd (fun x => x = g) w w) := ⟨hr, Upd.refl _ _⟩
  clear hr
  go_enter Tryz.func124, Tryz.ntmps124
  go_wp2
  go_loopw [4, 7] (fun _ v wr => ∃ j : Nat, j ≤ m ∧ v = .int .i64 (j : Int) ∧ wr.heap[g]? = some (.cells (u8L (putB L o m n j)).toArray 5 (0, 0)) ∧ Upd (fun x => x = g) w wr ∧ wr.heap.size = w.heap.size) (fun _ v _ => m - (intOf v).toNat)
  case atStart => exact ⟨0, by omega, rfl, HI.out.1, HI.out.2, rfl⟩
  case round =>
    clear HI
    obtain ⟨j, hj, rfl, hr, hu, hsz⟩ := hrel
    by_cases hlt : j < m
    · have kk : (j : Int) < (m : Int) := by omega
      obtain ⟨q, hq⟩ : ∃ q, m - 1 - j = q := ⟨_, rfl⟩
      have kq : (m : Int) - 1 - (j : Int) = (q : Int) := by omega
      obtain ⟨v, hv⟩ : ∃ v, n / 256 ^ j % 256 = v := ⟨_, rfl⟩
      have hv8 : v < 256 := by omega
      have hp : (256 : Nat) ^ j = 2 ^ (8 * j) := by rw [Nat.pow_mul]
      have kv : (n : Int) / 2 ^ (8 * j) % 256 = (v : Int) := by
        rw [← hv, hp]
        simp
      obtain ⟨z, hz⟩ := u8L_at (putB L o m n j) (o + q) (by rw [putB_len]; omega)
      have cm : wr.cell? ⟨g, o + q, none⟩ = some (.int .u8 z) := by rw [cell_of_row wr g _ _ _ _ hr]; exact hz
      have fm := frozen_of_row wr g (o + q) _ _ hr
      have HN : Hid ((wr.setCell ⟨g, o + q, none⟩ (.int .u8 (v : Int))).heap[g]? = some (.cells (u8L (putB L o m n (j + 1))).toArray 5 (0, 0)) ∧ Upd (fun x => x = g) w (wr.setCell ⟨g, o + q, none⟩ (.int .u8 (v : Int))) ∧ (wr.setCell ⟨g, o + q, none⟩ (.int .u8 (v : Int))).heap.size = w.heap.size) := by
        refine ⟨?_, Upd.setCell (p := ⟨g, o + q, none⟩) hu (fun _ => rfl) _, by simp [hsz]⟩
        rw [heap_setCell_same wr g (o + q) _ _ _ hr, u8L_set _ _ _ hv8]
        show _ = some (Obj.cells (u8L ((putB L o m n j).set (o + (m - 1 - j)) (UInt8.ofNat (n / 256 ^ j % 256)))).toArray 5 (0, 0))
        rw [hq, hv]
      clear hr hu hsz hz hp hv hq
      go_wp2
      exact ⟨⟨j + 1, by omega, by go_num, HN.out⟩, by simp [intOf]; omega⟩
    · obtain rfl : j = m := by omega
      have kk : ¬ (j : Int) < (j : Int) := by omega
      have HE : Hid (wr.heap[g]? = some (.cells (u8L (putB L o j n j)).toArray 5 (0, 0)) ∧ Upd (fun x => x = g) w wr ∧ wr.heap.size = w.heap.size) := ⟨hr, hu, hsz⟩
      clear hr hu hsz
      go_wp2
      refine bodyPost_end (v := .tuple #[]) ?_ rfl ⟨rfl, HE.out⟩
      simp [results, go_sem]
end Go.Proofs.YtdgffocmdkadpaaGreat
namespace Go.Proofs.YtdgffocmdkadpaaGreat
open Go.RowKit Go.Shelf Pg
theorem load_part {P : Program} (W : World) (g o : Nat) (ty : TypeId) (d : TypeDesc) (cs : Array Value) (t : TypeId) (fr : Nat × Nat) (part : List Value) (hg : W.heap[g]? = some (.cells cs t fr)) (hu : P.underlying ty = some d) (hd : (match d with | .struct _ | .array _ _ => true | _ => false) = true) (hi : (P.info? ty).map (·.size) = some part.length) (hp : ∀ j v, part[j]? = some v → cs[o + j]? = some v) :
    (loadVar ty ⟨g, o, none⟩).run P W = .ok (.agg part.toArray) W := by
  have hl : (loadCells ⟨g, o, none⟩ part.length).run P W = .ok part.toArray W :=
    run_loadCells_list (P := P) W ⟨g, o, none⟩ part (fun j v hv => by
      rw [add_at, cell_of_row W g (o + j) cs t fr hg]
      exact hp j v hv)
  cases hq : P.info? ty with
  | none => simp [hq] at hi
  | some i =>
    have hs : i.size = part.length := by simpa [hq] using hi
    have hagg : (isAgg ty).run P W = .ok true W := by
      unfold isAgg
      rw [Sem.run_bind, run_underlying hu W]
      cases d <;> simp_all
    simp [loadVar, Sem.run_bind, hagg, sizeOf, typeInfo, hq, hs, hl]
theorem copy_str {P : Program} (w : World) (dT sT ty elem : TypeId) (g o dLen dCap k : Nat) (s : ByteArray) (cur : Array Value) (t : TypeId)
    (hu : P.underlying dT = some (.slice elem)) (hs : (P.info? elem).map (·.size) = some 1) (hg : w.heap[g]? = some (.cells cur t (0, 0))) (hk : Nat.min s.size dLen = k) (hfit : o + k ≤ cur.size) :
    (Builtin.copy_ #[dT, sT] ty #[.slice (some ⟨g, o, none⟩) dLen dCap, .string s]).run P w =
      .ok (goInt k) (w.setRow g (cur.toList.take o ++ u8L (s.data.toList.take k) ++ cur.toList.drop (o + k)).toArray) := by
  have hks : k ≤ s.size := by rw [← hk]; exact Nat.min_le_left _ _
  have hlen : (u8L (s.data.toList.take k)).length = k := by
    rw [u8L_len, List.length_take]
    have : s.data.toList.length = s.size := rfl
    omega
  have hst := run_storeCells_at P g o t (u8L (s.data.toList.take k)) 0 cur w hg (by rw [hlen]; simpa using hfit) (u8L_one _)
  rw [hlen] at hst
  simp only [Nat.add_zero] at hst
  have e : ((s.extract 0 k).data.map fun b => Value.int .u8 ((b.toNat : Nat) : Int)).toList = u8L (s.data.toList.take k) := by
    unfold u8L
    rw [Array.toList_map, ByteArray.data_extract, Array.toList_extract, List.extract_eq_take_drop]
    simp
  cases hq : P.info? elem with
  | none => simp [hq] at hs
  | some i =>
    simp only [Builtin.copy_, Sem.run_bind, run_underlying hu, Builtin.lenOf, Builtin.firstCells, sizeOf, typeInfo, hk, Result.andThen_ok, Sem.run_pure, List.getElem?_toArray, List.getElem?_cons_zero, List.getElem?_cons_succ, e]
    simp [hq, hst]
/-- The bytes half way. -/
def txL (h : Hd) : Nat → List UInt8
  | 0 => putB (magic ++ List.replicate 1014 0) 10 8 h.ser 8
  | k + 1 => putB (txL h k) (18 + 2 * k) 2 (h.root k) 2
theorem txL_len (h : Hd) (k : Nat) : (txL h k).length = 1024 := by
  induction k with
  | zero => show (putB _ _ _ _ _).length = _; rw [putB_len, List.length_append, List.length_replicate]; rfl
  | succ k ih => show (putB _ _ _ _ _).length = _; rw [putB_len, ih]
theorem tx_start : magic ++ List.replicate 1014 (0 : UInt8) = [115, 116, 114, 111, 110, 103, 114, 111, 111, 109, 0, 0, 0, 0, 0, 0, 0, 0, 0, 0, 0, 0, 0, 0, 0, 0, 0, 0, 0, 0, 0, 0, 0, 0, 0, 0, 0, 0, 0, 0, 0, 0] ++ tail0 := by
  have e : List.replicate 1014 (0 : UInt8) = List.replicate 32 0 ++ tail0 := by unfold tail0; rw [List.replicate_append_replicate]
  rw [e, ← List.append_assoc]
  rfl
set_option maxRecDepth 100000 in
theorem txL_fin (h : Hd) : (txL h 4).take 26 ++ mapL h.u ++ (txL h 4).drop 42 = h.text := by
  have e : txL h 4 = magic ++ be8 h.ser ++ rootsL h.r0 h.r1 h.r2 h.r3 ++ List.replicate 16 0 ++ tail0 := by
    unfold txL txL txL txL txL
    rw [tx_start]
    simp only [putB, Nat.reducePow, Nat.pow_zero, Nat.div_one, Nat.reduceSub, Nat.reduceAdd, Nat.reduceMul, Hd.root]
    kernel_rfl
  rw [e]
  unfold Hd.text headL
  have l1 : (magic ++ be8 h.ser ++ rootsL h.r0 h.r1 h.r2 h.r3).length = 26 := rfl
  have l2 : (magic ++ be8 h.ser ++ rootsL h.r0 h.r1 h.r2 h.r3 ++ List.replicate 16 (0 : UInt8)).length = 42 := rfl
  have e1 : (magic ++ be8 h.ser ++ rootsL h.r0 h.r1 h.r2 h.r3 ++ List.replicate 16 0 ++ tail0).take 26 = magic ++ be8 h.ser ++ rootsL h.r0 h.r1 h.r2 h.r3 := by
    rw [List.append_assoc, ← l1, List.take_left]
  have e2 : (magic ++ be8 h.ser ++ rootsL h.r0 h.r1 h.r2 h.r3 ++ List.replicate 16 0 ++ tail0).drop 42 = tail0 := by
    rw [← l2, List.drop_left]
  rw [e1, e2]
end Go.Proofs.YtdgffocmdkadpaaGreat
namespace Go.Proofs.YtdgffocmdkadpaaGreat
open Go.RowKit Go.Shelf Pg
theorem info_a4 : (Tryz.prog.info? 39).map (·.size) = some 4 := by kernel_rfl
def rootsV (h : Hd) : List Value := [.int .i64 (h.r0 : Int), .int .i64 (h.r1 : Int), .int .i64 (h.r2 : Int), .int .i64 (h.r3 : Int)]
theorem rootsV_at (h : Hd) (k : Nat) (hk : k < 4) : (rootsV h)[k]? = some (.int .i64 ((h.root k : Nat) : Int)) := by
  match k, hk with
  | 0, _ => rfl
  | 1, _ => rfl
  | 2, _ => rfl
  | 3, _ => rfl
theorem index_a4 (W : World) (h : Hd) (k : Nat) (hk : k < 4) : (Instr.index 39 (.agg (rootsV h).toArray) (.int .i64 (k : Int))).run Tryz.prog W = .ok (.int .i64 ((h.root k : Nat) : Int)) W :=
  index_agg W 39 3 4 _ k _ Tryz.underlying39 (by kernel_rfl) (by kernel_rfl) hk (by rw [List.getElem?_toArray]; exact rootsV_at h k hk)
theorem Upd.only_below {g B : Nat} {w w1 w2 : World} (hb : Below B w w1) (hu : Upd (fun x => x = g) w1 w2) (hg : B ≤ g) (hB : B ≤ w1.heap.size) : Below B w w2 := hb.trans (hu.below hB (fun k hk => by rw [show k = g from hk]; exact hg))
set_option maxRecDepth 100000 in
set_option maxHeartbeats 2000000 in
theorem text_any (h : Hd) (w : World) (hr : ∀ k, k < 4 → h.root k < 9223372036854775808) : Calls Tryz.prog 99 #[.agg (hdA h)] w fun e w' => e = .returned (.string (strOf h.text)) ∧ Below w.heap.size w w' := by
  obtain ⟨B, hB⟩ : ∃ B, w.heap.size = B := ⟨_, rfl⟩
  obtain ⟨W1, hW1⟩ : ∃ W1, w.alloc (.cells (hdA h) 100) = W1 := ⟨_, rfl⟩
  have hr1 : W1.heap[B]? = some (.cells (hdA h) 100 (0, 0)) := by rw [← hW1, ← hB]; exact heap_alloc_new w _
  have hs1 : W1.heap.size = B + 1 := by rw [← hW1, ← hB]; simp
  have hmk : (Instr.makeSlice 22 (.int .i64 1024) (.int .i64 1024)).run Tryz.prog W1 = .ok (.slice (some ⟨W1.heap.size, 0, none⟩) 1024 1024) (W1.alloc (.cells (u8L (List.replicate 1024 0)).toArray 5)) := make_zero 1024 (by omega) W1
  rw [hs1] at hmk
  obtain ⟨W2, hW2⟩ : ∃ W2, W1.alloc (.cells (u8L (List.replicate 1024 0)).toArray 5) = W2 := ⟨_, rfl⟩
  rw [hW2] at hmk
  have hr2 : W2.heap[B + 1]? = some (.cells (u8L (List.replicate 1024 0)).toArray 5 (0, 0)) := by rw [← hW2, ← hs1]; exact heap_alloc_new W1 _
  have hr2b : W2.heap[B]? = some (.cells (hdA h) 100 (0, 0)) := by rw [← hW2, Below.heap_alloc _ _ _ (by omega)]; exact hr1
  have hb2 : Below B w W2 := by rw [← hW2, ← hW1, ← hB]; exact ((Below.refl _ w).alloc (Nat.le_refl _) _).alloc (by simp) _
  have hcp := fun ty => copy_str (P := Tryz.prog) W2 22 9 ty 5 (B + 1) 0 1024 1024 10 ⟨#[115, 116, 114, 111, 110, 103, 114, 111, 111, 109]⟩ _ _ Tryz.underlying22 (by kernel_rfl) hr2 rfl (by rw [List.size_toArray, u8L_len, List.length_replicate]; omega)
  obtain ⟨W3, hW3⟩ : ∃ W3, W2.setRow (B + 1) (u8L (magic ++ List.replicate 1014 0)).toArray = W3 := ⟨_, rfl⟩
  have e3 : ((u8L (List.replicate 1024 0)).toArray.toList.take 0 ++ u8L ((⟨#[115, 116, 114, 111, 110, 103, 114, 111, 111, 109]⟩ : ByteArray).data.toList.take 10) ++ (u8L (List.replicate 1024 0)).toArray.toList.drop (0 + 10)).toArray = (u8L (magic ++ List.replicate 1014 0)).toArray := by
    kernel_rfl
  rw [e3, hW3] at hcp
  have hr3 : W3.heap[B + 1]? = some (.cells (u8L (magic ++ List.replicate 1014 0)).toArray 5 (0, 0)) := by rw [← hW3]; exact setRow_heap W2 _ _ _ _ _ hr2
  have hr3b : W3.heap[B]? = some (.cells (hdA h) 100 (0, 0)) := by rw [← hW3, setRow_other _ _ _ _ (by omega)]; exact hr2b
  have hs3 : W3.heap.size = W2.heap.size := by rw [← hW3, size_setRow]
  have hb3 : Below B w W3 := by
    rw [← hW3]
    exact ⟨hb2.os, hb2.tape, hb2.output, by rw [size_setRow]; exact hb2.size, fun k hk => by rw [setRow_other _ _ _ _ (by omega)]; exact hb2.block k hk⟩
  have cser : W3.cell? ⟨B, 0, none⟩ = some (.int .u64 (h.ser : Int)) := by rw [cell_of_row W3 B _ _ _ _ hr3b]; rfl
  have HP : Hid (∀ V : World, V.heap[B + 1]? = some (.cells (u8L (magic ++ List.replicate 1014 0)).toArray 5 (0, 0)) → Calls Tryz.prog 124 #[.slice (some ⟨B + 1, 10, none⟩) 8 1014, .int .u64 (h.ser : Int)] V fun e w' => e = .returned (.tuple #[]) ∧ w'.heap[B + 1]? = some (.cells (u8L (txL h 0)).toArray 5 (0, 0)) ∧ Upd (fun x => x = B + 1) V w' ∧ w'.heap.size = V.heap.size) := fun V hV => putNum_any (B + 1) 10 8 1014 h.ser _ V (by omega) (by omega) (by rw [List.length_append, List.length_replicate]; show 10 + 8 ≤ 10 + 1014; omega) hV
  have H3 : Hid (W3.heap[B + 1]? = some (.cells (u8L (magic ++ List.replicate 1014 0)).toArray 5 (0, 0)) ∧ W3.heap[B]? = some (.cells (hdA h) 100 (0, 0)) ∧ Below B w W3) := ⟨hr3, hr3b, hb3⟩
  clear hr1 hr2 hr2b hb2 hr3 hr3b hb3 e3 hs1 hs3
  go_enter Tryz.func99, Tryz.ntmps99
  go_wp2
  go_region_with (go_at_call 124; refine (HP.out W3.drew H3.out.1).mono ?_; rintro e V ⟨rfl, hp1, hp2, hp3⟩)
  have hV1 : V.heap[B]? = some (.cells (hdA h) 100 (0, 0)) := (hp2.block B (lt_of_some H3.out.2.1) (by show ¬ B = B + 1; omega)).trans H3.out.2.1
  have hbV : Below B w V := Upd.only_below (H3.out.2.2.drew) hp2 (by omega) (by have := lt_of_some H3.out.2.1; show B ≤ W3.heap.size; omega)
  have hl4 := load_part (P := Tryz.prog) V B 1 39 _ _ _ _ (rootsV h) hV1 Tryz.underlying39 rfl info_a4 (fun j v hv => by
    rw [hdA, List.getElem?_toArray]
    have hj : j < 4 := (List.getElem?_eq_some_iff.1 hv).1
    match j, hj with
    | 0, _ => exact hv
    | 1, _ => exact hv
    | 2, _ => exact hv
    | 3, _ => exact hv)
  have HV : Hid (V.heap[B + 1]? = some (.cells (u8L (txL h 0)).toArray 5 (0, 0)) ∧ V.heap[B]? = some (.cells (hdA h) 100 (0, 0)) ∧ Below B w V) := ⟨hp1, hV1, hbV⟩
  clear HP H3 hp1 hp2 hp3 hV1 hbV hmk hcp cser hW1 hW2 hW3
  go_wp2_with (refine wpList_load_at rfl _ _ rfl rfl hl4 ?_)
  go_loopw [4, 5, 6, 17] (fun _ _ _ v wr => ∃ k : Nat, k ≤ 4 ∧ v = .int .i64 (k : Int) ∧ wr.heap[B + 1]? = some (.cells (u8L (txL h k)).toArray 5 (0, 0)) ∧ wr.heap[B]? = some (.cells (hdA h) 100 (0, 0)) ∧ Below B w wr) (fun _ _ _ v _ => 4 - (intOf v).toNat)
  case atStart => exact ⟨0, by omega, rfl, HV.out⟩
  case round =>
    clear HV hl4
    obtain ⟨k, hk, rfl, hr1, hr0, hbw⟩ := hrel
    by_cases hlt : k < 4
    · have kk : (k : Int) < 4 := by omega
      have hix := index_a4 wr h k hlt
      have hrk := hr k hlt
      obtain ⟨at_, hat⟩ : ∃ x : Nat, 18 + 2 * k = x := ⟨_, rfl⟩
      have kat : 18 + 2 * (k : Int) = (at_ : Int) := by omega
      have hat2 : at_ ≤ 24 := by omega
      have HP := putNum_any (B + 1) at_ 2 (1024 - at_) (h.root k) (txL h k) wr (by omega) (by omega) (by rw [txL_len]; omega) hr1
      have HL : Hid (putB (txL h k) at_ 2 (h.root k) 2 = txL h (k + 1)) := by
        show _ = putB (txL h k) (18 + 2 * k) 2 (h.root k) 2
        rw [hat]
      rw [HL.out] at HP
      obtain ⟨rk, hrk2⟩ : ∃ rk, h.root k = rk := ⟨_, rfl⟩
      rw [hrk2] at hix hrk HP
      have HR : Hid (wr.heap[B]? = some (.cells (hdA h) 100 (0, 0)) ∧ Below B w wr ∧ B ≤ wr.heap.size) := ⟨hr0, hbw, by have := lt_of_some hr0; omega⟩
      clear hr0 hr1 hbw hr hat HL hrk2
      go_wp2_with fail
      refine HP.mono ?_
      rintro e V2 ⟨rfl, p1, p2, p3⟩
      have HN : Hid (V2.heap[B + 1]? = some (.cells (u8L (txL h (k + 1))).toArray 5 (0, 0)) ∧ V2.heap[B]? = some (.cells (hdA h) 100 (0, 0)) ∧ Below B w V2) := ⟨p1, (p2.block B (lt_of_some HR.out.1) (by show ¬ B = B + 1; omega)).trans HR.out.1, Upd.only_below HR.out.2.1 p2 (by omega) HR.out.2.2⟩
      clear HP p1 p2 p3 HR
      go_wp2
      exact ⟨⟨k + 1, by omega, by go_num, HN.out⟩, by simp [intOf]; omega⟩
    · obtain rfl : k = 4 := by omega
      have kk : ¬ (4 : Int) < 4 := by omega
      have hcp := fun ty => run_copy_row (P := Tryz.prog) wr.drew 22 22 ty 5 (B + 1) 26 998 998 ⟨B, 5, none⟩ 16 16 (u8L (txL h 4)).toArray 5 (setL h.u) Tryz.underlying22 (by kernel_rfl) hr1 (by rw [setL_len]; rfl) (fun j v hv => by
        rw [add_at]
        show wr.cell? ⟨B, 5 + j, none⟩ = some v
        rw [cell_of_row wr B _ _ _ _ hr0, hdA, List.getElem?_toArray]
        have hj : j < 16 := by have := (List.getElem?_eq_some_iff.1 hv).1; rwa [setL_len] at this
        rw [hdL_set h j hj, ← setL_at _ _ hj]
        exact hv) (by rw [setL_len, List.size_toArray, u8L_len, txL_len]; omega) (u8L_one _)
      have e5 : ((u8L (txL h 4)).toArray.toList.take 26 ++ setL h.u ++ (u8L (txL h 4)).toArray.toList.drop (26 + (setL h.u).length)).toArray = (u8L h.text).toArray := by
        rw [setL_len, ← txL_fin h]
        unfold setL u8L
        simp only [List.map_append, List.map_take, List.map_drop]
      rw [e5, setL_len] at hcp
      obtain ⟨W5, hW5⟩ : ∃ W5, wr.drew.setRow (B + 1) (u8L h.text).toArray = W5 := ⟨_, rfl⟩
      have hr5 : W5.heap[B + 1]? = some (.cells (u8L h.text).toArray 5 (0, 0)) := by rw [← hW5]; exact setRow_heap wr.drew _ _ _ _ _ hr1
      have hcv := conv_u8 W5 (B + 1) _ _ _ hr5 1024 (Hd.text_len h)
      have HB5 : Hid (Below B w W5) := by
        rw [← hW5]
        exact ⟨hbw.os, hbw.tape, hbw.output, by rw [size_setRow]; exact hbw.size, fun k hk => by rw [setRow_other _ _ _ _ (by omega)]; exact hbw.block k hk⟩
      rw [hW5] at hcp
      have HCP : ∀ ty, (Builtin.copy_ #[22, 22] ty #[.slice (some ⟨B + 1, 26, none⟩) 998 998, .slice (some ⟨B, 5, none⟩) 16 16]).run Tryz.prog wr.drew = .ok (.int .i64 16) W5 := hcp
      clear hr0 hr1 hbw hr e5 hr5 hcp
      go_wp2
      go_region
      go_wp2
      go_ret
      exact ⟨rfl, by rw [hB]; exact HB5.out⟩
end Go.Proofs.YtdgffocmdkadpaaGreat
