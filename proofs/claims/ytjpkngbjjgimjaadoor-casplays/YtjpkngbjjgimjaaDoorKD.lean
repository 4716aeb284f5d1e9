/- Walks over Digest, between, alike. -/
import Derived.Test.YtjpkngbjjgimjaaDoorKC
import Derived.Laws.IdiomStrings
namespace Go.Proofs.YtjpkngbjjgimjaaDoor
open Go.RowKit
/-- '[]byte(s)': the bytes lie in a new row. -/
theorem bytes_of (w : World) (s : ByteArray) (hs : s.size ≤ 9223372036854775807) :
    ∃ cap W, (convert 9 89 (.string s)).run Tryd.prog w = .ok (.slice (some ⟨w.heap.size, 0, none⟩) s.size cap) W ∧ s.size ≤ cap ∧ cap ≤ 9223372036854775807 ∧ Below w.heap.size w W ∧ w.heap.size < W.heap.size ∧
      ∀ i, i < s.size → W.cell? ⟨w.heap.size, i, none⟩ = some (.int .u8 (((s.data.toList.getD i 0).toNat : Nat) : Int)) := by
  refine ⟨_, _, run_bytes_of_string w 9 89 5 s Tryd.underlying9 Tryd.underlying89 Tryd.underlying5, grownCap_ge _ _ _ _, grownCap_le_maxLen _ _ _ _ (by simpa [maxLen] using hs), ?_, ?_, ?_⟩
  · exact (Below.refl _ w).drew.alloc (Nat.le_refl _) _
  · simp [World.alloc, World.drew, -World.alloc_eq, -World.drew_eq]
  · intro i hi
    have hi' : i < s.data.size := hi
    rw [cell_of_row _ w.heap.size i _ _ _ (heap_alloc_new w.drew _)]
    unfold bytesRow
    rw [Array.getElem?_append_left (by simpa using hi'), Array.getElem?_map, Array.getElem?_eq_getElem hi', List.getD_eq_getElem?_getD, Array.getElem?_toList, Array.getElem?_eq_getElem hi']
    rfl
/-- A digest of a width. -/
def digW (W : Nat) (data : ByteArray) : ByteArray := (strOf (digest data.data.toList)).extract 0 W
theorem digW_size (W : Nat) (hW : W ≤ 32) (data : ByteArray) : (digW W data).size = W := by
  unfold digW
  rw [ByteArray.size_extract, strOf_size, digest_len]
  omega
set_option maxRecDepth 100000 in
set_option maxHeartbeats 2000000 in
theorem digest_any {w : World} {st W : Nat} (c1 : w.cell? ⟨st, 1, none⟩ = some (.int .i64 (W : Int))) (hW : W ≤ 32) (hL : Laid w) (data : ByteArray) (hd : data.size ≤ 1000000) :
    Calls Tryd.prog 19 #[.pointer (some ⟨st, 0, none⟩), .string data] w fun e w' => e = .returned (.string (digW W data)) ∧ Below w.heap.size w w' := by
  have hst : st < w.heap.size := World.block_lt_of_cell? w _ c1
  have HC : Hid (∀ V, Below w.heap.size w V → V.cell? ⟨st, 1, none⟩ = some (.int .i64 (W : Int))) := fun V hV => by rw [hV.cell hst]; exact c1
  obtain ⟨cap, W1, hcv, hc1, hc2, hb1, hlt1, hcell⟩ := bytes_of w.drew data (by omega)
  have hb1' : Below w.heap.size w W1 := (Below.refl _ w).drew.trans hb1
  have HB1 : Hid (Below w.heap.size w W1) := hb1'
  have HSU : Hid (Calls Tryd.prog 37 #[.slice (some ⟨w.drew.heap.size, 0, none⟩) data.size cap] W1 fun e w' => e = .returned (.string (strOf (digest data.data.toList))) ∧ Below W1.heap.size W1 w') := sum_is _ _ _ _ W1 ⟨rfl, hc1, hc2, fun _ => ⟨w.drew.heap.size, 0, rfl, hlt1, fun i hi => by rw [Nat.zero_add]; exact hcell i hi⟩⟩ (by omega) (hL.below hb1')
  have HE : Hid (digW W data = (strOf (digest data.data.toList)).extract 0 W) := rfl
  obtain ⟨sm, hsm⟩ : ∃ sm, strOf (digest data.data.toList) = sm := ⟨_, rfl⟩
  have hss : sm.size = 32 := by rw [← hsm, strOf_size, digest_len]
  rw [hsm] at HSU HE
  have i1 : (W : Int) ≤ (sm.size : Int) := by omega
  clear c1 hL hc1 hc2 hb1 hlt1 hcell hb1' hsm hss
  go_enter Tryd.func19, Tryd.ntmps19
  go_wp2
  refine wp_region_held_drew (S := fun V => V.cell? ⟨st, 1, none⟩ = some (.int .i64 (W : Int))) (by kernel_rfl) (HC.out _ (Below.refl _ w).drew) (fun hHeld => ?_)
  refine wpAnyH_take (i := 0) (v := ?vd0) rfl (by kernel_rfl) (by kernel_rfl) (by kernel_rfl) (fun _ _ _ h => h) (Or.inl ⟨by first | kernel_rfl | rfl, ?yd0⟩) hHeld ?rd0
  case yd0 => (intro W hSW; (try dsimp only at hSW); go_simp; (try with_reducible rfl))
  change wpAnyH _ _ _ _ _ _ _ (Act.put _ (some 7) _) _
  simp only [Act.put, List.setIfInBounds_toArray, List.set_cons_zero, List.set_cons_succ]
  refine wpAnyH_take (i := 3) (v := ?vd3) rfl (by kernel_rfl) (by kernel_rfl) (by kernel_rfl) (fun _ _ _ h => h) (Or.inl ⟨by first | kernel_rfl | rfl, ?yd3⟩) hHeld ?rd3
  case yd3 => (intro W hSW; (try dsimp only at hSW); go_simp; (try with_reducible rfl))
  change wpAnyH _ _ _ _ _ _ _ (Act.put _ (some 10) _) _
  simp only [Act.put, List.setIfInBounds_toArray, List.set_cons_zero, List.set_cons_succ]
  refine wpAnyH_take (i := 4) (v := ?vd4) rfl (by kernel_rfl) (by kernel_rfl) (by kernel_rfl) (fun _ _ _ h => h) (Or.inl ⟨by first | kernel_rfl | rfl, ?yd4⟩) hHeld ?rd4
  case yd4 => (intro W hSW; (try dsimp only at hSW); go_simp; (try with_reducible rfl))
  change wpAnyH _ _ _ _ _ _ _ (Act.put _ (some 11) _) _
  simp only [Act.put, List.setIfInBounds_toArray, List.set_cons_zero, List.set_cons_succ]
  refine wpAnyH_take (i := 5) (v := ?vd5) rfl (by kernel_rfl) (by kernel_rfl) (by kernel_rfl) (fun _ _ _ h => h) (Or.inl ⟨by first | kernel_rfl | rfl, ?yd5⟩) hHeld ?rd5
  case yd5 => (intro W hSW; (try dsimp only at hSW); go_simp; (try with_reducible rfl))
  change wpAnyH _ _ _ _ _ _ _ (Act.put _ (some 12) _) _
  simp only [Act.put, List.setIfInBounds_toArray, List.set_cons_zero, List.set_cons_succ]
  refine wpAnyH_take (i := 6) (v := ?vd6) rfl (by kernel_rfl) (by kernel_rfl) (by kernel_rfl) (fun _ _ _ h => h) (Or.inl ⟨by first | kernel_rfl | rfl, ?yd6⟩) hHeld ?rd6
  case yd6 => (intro W hSW; (try dsimp only at hSW); go_simp; (try with_reducible rfl))
  change wpAnyH _ _ _ _ _ _ _ (Act.put _ (some 13) _) _
  simp only [Act.put, List.setIfInBounds_toArray, List.set_cons_zero, List.set_cons_succ]
  refine wpAnyH_ready (rs := [1]) (by kernel_rfl) (by simp) ?_
  refine AllReadyH.cons rfl (fun K hK => ?_) AllReadyH.nil
  rw [if_pos (by rfl)]
  go_simp
  refine hK.out _ _ (HC.out _ HB1.out) (fun hHeld => ?_)
  clear hK K
  try simp only [Act.put, List.setIfInBounds_toArray, List.set_cons_zero, List.set_cons_succ]
  refine wpAnyH_ready (rs := [2]) (by kernel_rfl) (by simp) ?_
  refine AllReadyH.cons rfl (fun K hK => ?_) AllReadyH.nil
  go_simp
  refine (HSU.out).mono ?_
  rintro e V2 ⟨rfl, hb2⟩; have HB2 : Hid (Below w.heap.size w V2) := HB1.out.trans (hb2.mono HB1.out.size); clear hb2
  refine hK.out _ _ (HC.out _ HB2.out) (fun hHeld => ?_)
  clear hK K
  try simp only [Act.put, List.setIfInBounds_toArray, List.set_cons_zero, List.set_cons_succ]
  refine wpAnyH_take (i := 7) (v := ?vd7) rfl (by kernel_rfl) (by kernel_rfl) (by kernel_rfl) (fun _ _ _ h => h) (Or.inl ⟨by first | kernel_rfl | rfl, ?yd7⟩) hHeld ?rd7
  case yd7 => (intro W hSW; (try dsimp only at hSW); go_simp; (try with_reducible rfl))
  change wpAnyH _ _ _ _ _ _ _ (Act.put _ (some 14) _) _
  simp only [Act.put, List.setIfInBounds_toArray, List.set_cons_zero, List.set_cons_succ]
  refine wpAnyH_take (i := 8) (v := ?vd8) rfl (by kernel_rfl) (by kernel_rfl) (by kernel_rfl) (fun _ _ _ h => h) (Or.inl ⟨by first | kernel_rfl | rfl, ?yd8⟩) hHeld ?rd8
  case yd8 => (intro W hSW; (try dsimp only at hSW); go_simp; (try with_reducible rfl))
  change wpAnyH _ _ _ _ _ _ _ (Act.put _ (some 4) _) _
  simp only [Act.put, List.setIfInBounds_toArray, List.set_cons_zero, List.set_cons_succ]
  refine wpAnyH_done (by kernel_rfl) ?_ _
  go_wp2
  go_ret
  exact ⟨by rw [HE.out]; rfl, HB2.out⟩
/-- Contents in memory. -/
def cnR (l : List Cn) : List Value := l.flatMap fun c => c.cells.toList
theorem cnR_len1 (c : Cn) : (c.cells.toList).length = 4 := rfl
theorem cnR_app (a b : List Cn) : cnR (a ++ b) = cnR a ++ cnR b := by simp [cnR]
theorem cnR_one (l : List Cn) : ∀ u ∈ cnR l, u.oneCell' = true := by
  intro u hu
  obtain ⟨c, _, hc⟩ := List.mem_flatMap.1 hu
  simp only [Cn.cells, List.mem_cons, List.not_mem_nil, or_false] at hc
  rcases hc with rfl | rfl | rfl | rfl <;> rfl
def Cw (G : Nat → Prop) (w : World) (a : Option Addr) (len cap : Nat) (l : List Cn) : Prop := Rw G w 78 4 a len cap (cnR l)
theorem Cw.len {G : Nat → Prop} {w : World} {a : Option Addr} {len cap : Nat} {l : List Cn} (h : Cw G w a len cap l) : l.length = len := by
  have := h.1
  unfold cnR at this
  rw [fm_len cnR_len1] at this
  omega
theorem Cw.below {G : Nat → Prop} {w w' : World} {a : Option Addr} {len cap : Nat} {l : List Cn} (h : Cw G w a len cap l) (hb : Below w.heap.size w w') : Cw G w' a len cap l := Rw.below h hb
theorem Cw.at {G : Nat → Prop} {w : World} {a : Option Addr} {len cap : Nat} {l : List Cn} (h : Cw G w a len cap l) (h0 : 0 < len) : ∃ b o, a = some ⟨b, o, none⟩ ∧ b < w.heap.size ∧ ∀ i c, l[i]? = some c → w.cell? ⟨b, o + i * 4, none⟩ = some (.string c.sum) ∧ w.cell? ⟨b, o + i * 4 + 1, none⟩ = some (.int .i64 (c.n : Int)) ∧ w.cell? ⟨b, o + i * 4 + 2, none⟩ = some (.int .u32 (c.refs : Int)) ∧ w.cell? ⟨b, o + i * 4 + 3, none⟩ = some (.string c.data) := by
  obtain ⟨b, o, rfl, ⟨cur, fr, hb⟩, hg, hc⟩ := h.2.2.2 h0
  have key : ∀ i c, l[i]? = some c → ∀ j, j < 4 → (cnR l)[i * 4 + j]? = c.cells.toList[j]? := fun i c hi j hj => fm_at cnR_len1 hi j hj
  refine ⟨b, o, rfl, lt_of_some hb, fun i c hi => ⟨?_, ?_, ?_, ?_⟩⟩
  · exact hc (i * 4) _ (key i c hi 0 (by omega))
  · rw [Nat.add_assoc]; exact hc (i * 4 + 1) _ (key i c hi 1 (by omega))
  · rw [Nat.add_assoc]; exact hc (i * 4 + 2) _ (key i c hi 2 (by omega))
  · rw [Nat.add_assoc]; exact hc (i * 4 + 3) _ (key i c hi 3 (by omega))
theorem infoCn : (Tryd.prog.info? 78).map (fun i => (i.zero, i.size, i.bytes)) = some (some (.agg #[.string ByteArray.empty, .int .i64 0, .int .u32 0, .string ByteArray.empty]), 4, 48) := by kernel_rfl
theorem addN_own {G2 : Nat → Prop} (w : World) {base : Nat} {a : Option Addr} {n c : Nat} {l : List Cn} (h : w.ownsRow base 78 4 (.slice a n c) n (cnR l)) {a2 : Option Addr} {m c2 : Nat} {k : List Cn} (h2 : Cw G2 w a2 m c2 k) (hN : n + m ≤ 1000000) (hb : base ≤ w.heap.size) :
    ∃ a' c' w', (∀ ty, (Builtin.append_ #[90, 90] ty #[.slice a n c, .slice a2 m c2]).run Tryd.prog w = .ok (.slice a' (n + m) c') w') ∧ w'.ownsRow base 78 4 (.slice a' (n + m) c') (n + m) (cnR (l ++ k)) ∧ w.grownBy w' (ob a) ∧ (ob a' = ob a ∨ ob a' = some w.heap.size) := by
  obtain ⟨i, hi, hz, hs, hbb⟩ := info_of infoCn
  rw [cnR_app]
  exact app_own w 90 78 i _ 4 48 Tryd.underlying90 hi hz hs hbb rfl (by omega) h h2 (cnR_one k) hN (by omega) hb
theorem cnRow {w : World} {b : Nat} {c : Cn} (h : w.heap[b]? = some (.cells c.cells 78 (0, 0))) : Cw (fun _ => True) w (some ⟨b, 0, none⟩) 1 1 [c] := by
  refine ⟨rfl, Nat.le_refl _, by unfold maxLen; omega, fun _ => ⟨b, 0, rfl, ⟨_, _, h⟩, trivial, fun j u hu => ?_⟩⟩
  rw [Nat.zero_add, cell_of_row _ b _ _ _ _ h]
  simpa [cnR] using hu
/-- The contents whose digests are from one up to another one. -/
def betw (W : Nat) (T : List Pr) (fm to : ByteArray) : List Cn := (rangeT T (keyB fm 0) (keyB to 255) 2147483647).filterMap (parseF W)
def BtTo (w : World) (l : List Cn) (e : Ending) (w' : World) : Prop := ∃ (ra : Option Addr) (rn rc : Nat), e = .returned (.slice ra rn rc) ∧ w'.ownsRow w.heap.size 78 4 (.slice ra rn rc) rn (cnR l) ∧ Below w.heap.size w w'
set_option maxRecDepth 100000 in
set_option maxHeartbeats 4000000 in
theorem between_any {h0 : Nat} {F : Nat → Prop} {w : World} {st tb W : Nat} {full : Int} {T : List Pr} (h : Cs h0 F w st tb W full T) (hW : W ≤ 32) (fm to : ByteArray) (hfm : fm.size ≤ 1000) (hto : to.size ≤ 1000000) :
    Calls Tryd.prog 39 #[.pointer (some ⟨st, 0, none⟩), .string fm, .string to] w fun e w' => BtTo w (betw W T fm to) e w' := by
  have c0 : w.cell? ⟨st, 0, none⟩ = some (.iface 27 (.pointer (some ⟨tb, 0, none⟩))) := by rw [cell_of_row _ _ _ _ _ _ h.stat]; rfl
  have c1 : w.cell? ⟨st, 1, none⟩ = some (.int .i64 (W : Int)) := by rw [cell_of_row _ _ _ _ _ _ h.stat]; rfl
  have hst : st < w.heap.size := lt_of_some h.stat
  have HC : Hid (∀ V, Below w.heap.size w V → V.cell? ⟨st, 0, none⟩ = some (.iface 27 (.pointer (some ⟨tb, 0, none⟩)))) := fun V hV => by rw [hV.cell hst]; exact c0
  have HC1 : Hid (∀ V, Below w.heap.size w V → V.cell? ⟨st, 1, none⟩ = some (.int .i64 (W : Int))) := fun V hV => by rw [hV.cell hst]; exact c1
  have HK1 : Hid (Calls Tryd.prog 33 #[.agg #[.string fm, .int .i64 0]] w.drew fun e w' => e = .returned (.string (keyB fm 0)) ∧ Below w.drew.heap.size w.drew w') := keyof_any fm 0 (by omega) (by omega) w.drew
  obtain ⟨R, hR⟩ : ∃ R, rangeT T (keyB fm 0) (keyB to 255) 2147483647 = R := ⟨_, rfl⟩
  have HRG : Hid (∀ V, Below w.heap.size w V → Calls Tryd.prog 94 #[.pointer (some ⟨tb, 0, none⟩), .string (keyB fm 0), .string (keyB to 255), .int .i64 2147483647] V fun e w' => ∃ (ra : Option Addr) (rn rc : Nat), e = .returned (.slice ra rn rc) ∧ Pw (fun _ => True) w' ra rn rc R ∧ rn ≤ 90000 ∧ Below V.heap.size V w') := fun V hV => by rw [← hR]; exact trange_any (h.below hV) _ _ _
  have HBE : Hid (betw W T fm to = R.filterMap (parseF W)) := by show _ = _; unfold betw; rw [hR]
  obtain ⟨B, hB⟩ : ∃ B, w.heap.size = B := ⟨_, rfl⟩
  clear c0 c1 h hR
  go_enter Tryd.func39, Tryd.ntmps39
  go_wp2
  refine wp_region_held_drew (S := fun V => V.cell? ⟨st, 0, none⟩ = some (.iface 27 (.pointer (some ⟨tb, 0, none⟩)))) (by kernel_rfl) (HC.out _ (Below.refl _ w).drew) (fun hHeld => ?_)
  refine wpAnyH_take (i := 0) (v := ?vb0) rfl (by kernel_rfl) (by kernel_rfl) (by kernel_rfl) (fun _ _ _ h => h) (Or.inl ⟨by first | kernel_rfl | rfl, ?yb0⟩) hHeld ?rb0
  case yb0 => (intro W hSW; (try dsimp only at hSW); go_simp; (try with_reducible rfl))
  change wpAnyH _ _ _ _ _ _ _ (Act.put _ (some 12) _) _
  simp only [Act.put, List.setIfInBounds_toArray, List.set_cons_zero, List.set_cons_succ]
  refine wpAnyH_take (i := 1) (v := ?vb1) rfl (by kernel_rfl) (by kernel_rfl) (by kernel_rfl) (fun _ _ _ h => h) (Or.inl ⟨by first | kernel_rfl | rfl, ?yb1⟩) hHeld ?rb1
  case yb1 => (intro W hSW; (try dsimp only at hSW); go_simp; (try with_reducible rfl))
  change wpAnyH _ _ _ _ _ _ _ (Act.put _ (some 13) _) _
  simp only [Act.put, List.setIfInBounds_toArray, List.set_cons_zero, List.set_cons_succ]
  refine wpAnyH_take (i := 2) (v := ?vb2) rfl (by kernel_rfl) (by kernel_rfl) (by kernel_rfl) (fun _ _ _ h => h) (Or.inl ⟨by first | kernel_rfl | rfl, ?yb2⟩) hHeld ?rb2
  case yb2 => (intro W hSW; (try dsimp only at hSW); go_simp; (try with_reducible rfl))
  change wpAnyH _ _ _ _ _ _ _ (Act.put _ (some 14) _) _
  simp only [Act.put, List.setIfInBounds_toArray, List.set_cons_zero, List.set_cons_succ]
  refine wpAnyH_take (i := 3) (v := ?vb3) rfl (by kernel_rfl) (by kernel_rfl) (by kernel_rfl) (fun _ _ _ h => h) (Or.inl ⟨by first | kernel_rfl | rfl, ?yb3⟩) hHeld ?rb3
  case yb3 => (intro W hSW; (try dsimp only at hSW); go_simp; (try with_reducible rfl))
  change wpAnyH _ _ _ _ _ _ _ (Act.put _ (some 15) _) _
  simp only [Act.put, List.setIfInBounds_toArray, List.set_cons_zero, List.set_cons_succ]
  refine wpAnyH_take (i := 4) (v := ?vb4) rfl (by kernel_rfl) (by kernel_rfl) (by kernel_rfl) (fun _ _ _ h => h) (Or.inl ⟨by first | kernel_rfl | rfl, ?yb4⟩) hHeld ?rb4
  case yb4 => (intro W hSW; (try dsimp only at hSW); go_simp; (try with_reducible rfl))
  change wpAnyH _ _ _ _ _ _ _ (Act.put _ (some 16) _) _
  simp only [Act.put, List.setIfInBounds_toArray, List.set_cons_zero, List.set_cons_succ]
  refine wpAnyH_take (i := 5) (v := ?vb5) rfl (by kernel_rfl) (by kernel_rfl) (by kernel_rfl) (fun _ _ _ h => h) (Or.inl ⟨by first | kernel_rfl | rfl, ?yb5⟩) hHeld ?rb5
  case yb5 => (intro W hSW; (try dsimp only at hSW); go_simp; (try with_reducible rfl))
  change wpAnyH _ _ _ _ _ _ _ (Act.put _ (some 17) _) _
  simp only [Act.put, List.setIfInBounds_toArray, List.set_cons_zero, List.set_cons_succ]
  refine wpAnyH_take (i := 7) (v := ?vb7) rfl (by kernel_rfl) (by kernel_rfl) (by kernel_rfl) (fun _ _ _ h => h) (Or.inl ⟨by first | kernel_rfl | rfl, ?yb7⟩) hHeld ?rb7
  case yb7 => (intro W hSW; (try dsimp only at hSW); go_simp; (try with_reducible rfl))
  change wpAnyH _ _ _ _ _ _ _ (Act.put _ (some 19) _) _
  simp only [Act.put, List.setIfInBounds_toArray, List.set_cons_zero, List.set_cons_succ]
  refine wpAnyH_take (i := 8) (v := ?vb8) rfl (by kernel_rfl) (by kernel_rfl) (by kernel_rfl) (fun _ _ _ h => h) (Or.inl ⟨by first | kernel_rfl | rfl, ?yb8⟩) hHeld ?rb8
  case yb8 => (intro W hSW; (try dsimp only at hSW); go_simp; (try with_reducible rfl))
  change wpAnyH _ _ _ _ _ _ _ (Act.put _ (some 20) _) _
  simp only [Act.put, List.setIfInBounds_toArray, List.set_cons_zero, List.set_cons_succ]
  refine wpAnyH_take (i := 10) (v := ?vb10) rfl (by kernel_rfl) (by kernel_rfl) (by kernel_rfl) (fun _ _ _ h => h) (Or.inl ⟨by first | kernel_rfl | rfl, ?yb10⟩) hHeld ?rb10
  case yb10 => (intro W hSW; (try dsimp only at hSW); go_simp; (try with_reducible rfl))
  change wpAnyH _ _ _ _ _ _ _ (Act.put _ (some 22) _) _
  simp only [Act.put, List.setIfInBounds_toArray, List.set_cons_zero, List.set_cons_succ]
  refine wpAnyH_take (i := 11) (v := ?vb11) rfl (by kernel_rfl) (by kernel_rfl) (by kernel_rfl) (fun _ _ _ h => h) (Or.inl ⟨by first | kernel_rfl | rfl, ?yb11⟩) hHeld ?rb11
  case yb11 => (intro W hSW; (try dsimp only at hSW); go_simp; (try with_reducible rfl))
  change wpAnyH _ _ _ _ _ _ _ (Act.put _ (some 23) _) _
  simp only [Act.put, List.setIfInBounds_toArray, List.set_cons_zero, List.set_cons_succ]
  refine wpAnyH_take (i := 14) (v := ?vb14) rfl (by kernel_rfl) (by kernel_rfl) (by kernel_rfl) (fun _ _ _ h => h) (Or.inl ⟨by first | kernel_rfl | rfl, ?yb14⟩) hHeld ?rb14
  case yb14 => (intro W hSW; (try dsimp only at hSW); go_simp; (try with_reducible rfl))
  change wpAnyH _ _ _ _ _ _ _ (Act.put _ (some 26) _) _
  simp only [Act.put, List.setIfInBounds_toArray, List.set_cons_zero, List.set_cons_succ]
  refine wpAnyH_ready (rs := [6]) (by kernel_rfl) (by simp) ?_
  refine AllReadyH.cons rfl (fun K hK => ?_) AllReadyH.nil
  go_simp
  refine (HK1.out).mono ?_
  rintro e V1 ⟨rfl, hb1⟩; have HB1 : Hid (Below w.heap.size w V1) := (Below.refl _ w).drew.trans hb1; clear hb1
  refine hK.out _ _ (HC.out _ HB1.out) (fun hHeld => ?_)
  clear hK K
  try simp only [Act.put, List.setIfInBounds_toArray, List.set_cons_zero, List.set_cons_succ]
  refine wpAnyH_ready (rs := [9]) (by kernel_rfl) (by simp) ?_
  refine AllReadyH.cons rfl (fun K hK => ?_) AllReadyH.nil
  go_simp
  refine (keyof_any to 255 (by omega) hto V1).mono ?_
  rintro e V2 ⟨rfl, hb2⟩; have HB2 : Hid (Below w.heap.size w V2) := HB1.out.trans (hb2.mono HB1.out.size); clear hb2
  refine hK.out _ _ (HC.out _ HB2.out) (fun hHeld => ?_)
  clear hK K
  try simp only [Act.put, List.setIfInBounds_toArray, List.set_cons_zero, List.set_cons_succ]
  refine wpAnyH_ready (rs := [12]) (by kernel_rfl) (by simp) ?_
  refine AllReadyH.cons rfl (fun K hK => ?_) AllReadyH.nil
  go_simp
  refine (HRG.out V2 HB2.out).mono ?_
  rintro e V3 ⟨pa, pn, pc, rfl, hpp, hpn, hb3⟩; have HB3 : Hid (Below w.heap.size w V3 ∧ Pw (fun _ => True) V3 pa pn pc R) := ⟨HB2.out.trans (hb3.mono HB2.out.size), hpp⟩; clear hb3 hpp
  refine hK.out _ _ (HC.out _ HB3.out.1) (fun hHeld => ?_)
  clear hK K
  try simp only [Act.put, List.setIfInBounds_toArray, List.set_cons_zero, List.set_cons_succ]
  refine wpAnyH_take (i := 13) (v := ?vb13) rfl (by kernel_rfl) (by kernel_rfl) (by kernel_rfl) (fun _ _ _ h => h) (Or.inl ⟨by first | kernel_rfl | rfl, ?yb13⟩) hHeld ?rb13
  case yb13 => (intro W hSW; (try dsimp only at hSW); go_simp; (try with_reducible rfl))
  change wpAnyH _ _ _ _ _ _ _ (Act.put _ (some 25) _) _
  simp only [Act.put, List.setIfInBounds_toArray, List.set_cons_zero, List.set_cons_succ]
  refine wpAnyH_done (by kernel_rfl) ?_ _
  have hpl := HB3.out.2.len
  obtain ⟨B3, hB3⟩ : ∃ B3, V3.heap.size = B3 := ⟨_, rfl⟩
  go_wp2
  go_loopw [7, 26] (fun vl vi wr => ∃ (i ln lc : Nat) (la : Option Addr), i ≤ pn ∧ ln ≤ i ∧ vi = .int .i64 i ∧ vl = .slice la ln lc ∧ wr.ownsRow B3 78 4 (.slice la ln lc) ln (cnR ((R.take i).filterMap (parseF W))) ∧ Below V3.heap.size V3 wr) (fun _ vi _ => pn - (intOf vi).toNat)
  case atStart => exact ⟨0, 0, 0, none, by omega, by omega, rfl, rfl, World.ownsRow_nil _ _ _ _, Below.refl _ _⟩
  case round =>
    obtain ⟨i, ln, lc, la, hi, hln, rfl, rfl, hown, hbw⟩ := hrel
    have hw3 : Below w.heap.size w wr := HB3.out.1.trans (hbw.mono HB3.out.1.size)
    by_cases hlt : i < pn
    · have kk : (i : Int) < (pn : Int) := by omega
      have hPW := HB3.out.2.below hbw
      obtain ⟨pb, po, rfl, _, _, hc⟩ := hPW.at (by omega)
      obtain ⟨⟨p1, p2⟩, hp⟩ : ∃ p, R[i]? = some p := ⟨_, List.getElem?_eq_getElem (by omega)⟩
      obtain ⟨g1, g2⟩ := hc i _ hp
      simp only at g1 g2
      obtain ⟨V4, hV4⟩ : ∃ V4, wr.alloc (.cells #[.string p1, .string p2] 63) = V4 := ⟨_, rfl⟩
      obtain ⟨xb, hxb⟩ : ∃ xb, wr.heap.size = xb := ⟨_, rfl⟩
      have r4 : V4.heap[xb]? = some (.cells #[.string p1, .string p2] 63 (0, 0)) := by rw [← hV4, ← hxb]; exact heap_alloc_new wr _
      have hB4 : Below wr.heap.size wr V4 := by rw [← hV4]; exact (Below.refl _ wr).alloc (Nat.le_refl _) _
      have x0 : V4.cell? ⟨xb, 0, none⟩ = some (.string p1) := by rw [cell_of_row _ _ _ _ _ _ r4]; rfl
      have x1 : V4.cell? ⟨xb, 1, none⟩ = some (.string p2) := by rw [cell_of_row _ _ _ _ _ _ r4]; rfl
      have hw4 : Below w.heap.size w V4 := hw3.trans (hB4.mono hw3.size)
      have HPA := parse_any (HC1.out V4 hw4) hW p1 p2
      unfold ParTo at HPA
      have hBw : B3 ≤ wr.heap.size := by rw [← hB3]; exact hbw.size
      have HOW : Hid (V4.ownsRow B3 78 4 (.slice la ln lc) ln (cnR ((R.take i).filterMap (parseF W))) ∧ B3 ≤ V4.heap.size ∧ Below V3.heap.size V3 V4) := ⟨own_keep hown (fun z hz => hB4.block z (hown.lt z hz).2), Nat.le_trans hBw hB4.size, hbw.trans (hB4.mono hbw.size)⟩
      have HST : Hid ((R.take (i + 1)).filterMap (parseF W) = (R.take i).filterMap (parseF W) ++ (match parseF W (p1, p2) with | none => [] | some c => [c])) := by
        show _ = _
        rw [take_snoc hp, List.filterMap_append]
        congr 1
        cases hq : parseF W (p1, p2) with
        | none => simp [hq]
        | some c => simp [hq]
      obtain ⟨q, hq⟩ : ∃ q, parseF W (p1, p2) = q := ⟨_, rfl⟩
      rw [hq] at HPA HST
      clear hown hbw hw3 hPW hc hp r4 hB4 hw4 hq hBw
      go_wp2_with fail
      refine HPA.mono ?_
      rintro e V5 ⟨rfl, hb5⟩
      cases q with
      | none =>
        have HN : Hid (V5.ownsRow B3 78 4 (.slice la ln lc) ln (cnR ((R.take i).filterMap (parseF W))) ∧ Below V3.heap.size V3 V5 ∧ B3 ≤ V5.heap.size) := ⟨own_keep HOW.out.1 (fun z hz => hb5.block z (HOW.out.1.lt z hz).2), HOW.out.2.2.trans (hb5.mono HOW.out.2.2.size), Nat.le_trans HOW.out.2.1 hb5.size⟩
        have hB6 : Below V5.heap.size V5 (V5.alloc (.cells #[.string ⟨#[]⟩, .int .i64 0, .int .u32 0, .string ⟨#[]⟩] 78)) := (Below.refl _ V5).alloc (Nat.le_refl _) _
        have HN6 : Hid ((V5.alloc (.cells #[.string ⟨#[]⟩, .int .i64 0, .int .u32 0, .string ⟨#[]⟩] 78)).ownsRow B3 78 4 (.slice la ln lc) ln (cnR ((R.take i).filterMap (parseF W))) ∧ Below V3.heap.size V3 (V5.alloc (.cells #[.string ⟨#[]⟩, .int .i64 0, .int .u32 0, .string ⟨#[]⟩] 78))) := ⟨own_keep HN.out.1 (fun z hz => hB6.block z (HN.out.1.lt z hz).2), HN.out.2.1.trans (hB6.mono HN.out.2.1.size)⟩
        clear HPA hb5 hB6 HOW HN
        unfold cnV
        go_wp2
        refine ⟨⟨i + 1, ln, lc, la, by omega, by omega, by go_num, rfl, ?_, HN6.out.2⟩, by simp [intOf]; omega⟩
        rw [HST.out, List.append_nil]
        exact HN6.out.1
      | some c =>
        have HN : Hid (V5.ownsRow B3 78 4 (.slice la ln lc) ln (cnR ((R.take i).filterMap (parseF W))) ∧ Below V3.heap.size V3 V5 ∧ B3 ≤ V5.heap.size) := ⟨own_keep HOW.out.1 (fun z hz => hb5.block z (HOW.out.1.lt z hz).2), HOW.out.2.2.trans (hb5.mono HOW.out.2.2.size), Nat.le_trans HOW.out.2.1 hb5.size⟩
        obtain ⟨s1, n1, f1, t1⟩ := c
        obtain ⟨V6, hV6⟩ : ∃ V6, V5.alloc (.cells #[.string s1, .int .i64 (n1 : Int), .int .u32 (f1 : Int), .string t1] 78) = V6 := ⟨_, rfl⟩
        obtain ⟨cb, hcb⟩ : ∃ cb, V5.heap.size = cb := ⟨_, rfl⟩
        have hB6 : Below V5.heap.size V5 V6 := by rw [← hV6]; exact (Below.refl _ V5).alloc (Nat.le_refl _) _
        have r6 : V6.heap[cb]? = some (.cells #[.string s1, .int .i64 (n1 : Int), .int .u32 (f1 : Int), .string t1] 78 (0, 0)) := by rw [← hV6, ← hcb]; exact heap_alloc_new V5 _
        have y0 : V6.cell? ⟨cb, 0, none⟩ = some (.string s1) := by rw [cell_of_row _ _ _ _ _ _ r6]; rfl
        have y1 : V6.cell? ⟨cb, 1, none⟩ = some (.int .i64 (n1 : Int)) := by rw [cell_of_row _ _ _ _ _ _ r6]; rfl
        have y2 : V6.cell? ⟨cb, 2, none⟩ = some (.int .u32 (f1 : Int)) := by rw [cell_of_row _ _ _ _ _ _ r6]; rfl
        have y3 : V6.cell? ⟨cb, 3, none⟩ = some (.string t1) := by rw [cell_of_row _ _ _ _ _ _ r6]; rfl
        obtain ⟨V7, hV7⟩ : ∃ V7, V6.alloc (.cells #[.string s1, .int .i64 (n1 : Int), .int .u32 (f1 : Int), .string t1] 78) = V7 := ⟨_, rfl⟩
        have hB7 : Below V6.heap.size V6 V7 := by rw [← hV7]; exact (Below.refl _ V6).alloc (Nat.le_refl _) _
        have r7 : V7.heap[V6.heap.size]? = some (.cells #[.string s1, .int .i64 (n1 : Int), .int .u32 (f1 : Int), .string t1] 78 (0, 0)) := by rw [← hV7]; exact heap_alloc_new V6 _
        have hB57 : Below V5.heap.size V5 V7 := hB6.trans (hB7.mono hB6.size)
        have ho7 := own_keep HN.out.1 (W' := V7) (fun z hz => hB57.block z (HN.out.1.lt z hz).2)
        obtain ⟨aA, cA, VA, hrA, hoA, hgA, _⟩ := addN_own V7 ho7 (cnRow (c := ⟨s1, n1, f1, t1⟩) r7) (by omega) (Nat.le_trans HN.out.2.2 hB57.size)
        have HE : Hid (VA.ownsRow B3 78 4 (.slice aA (ln + 1) cA) (ln + 1) (cnR ((R.take i).filterMap (parseF W) ++ [⟨s1, n1, f1, t1⟩])) ∧ Below V3.heap.size V3 VA) := by
          have hsz := HN.out.2.1.size
          refine ⟨hoA, (HN.out.2.1.trans (hB57.mono hsz)).grown hgA (Nat.le_trans hsz hB57.size) (fun z hz => ?_)⟩
          have := (ho7.lt z (by rw [ob_slice]; exact hz)).1
          omega
        clear HPA hb5 hB6 HOW HN hB7 r6 r7 hB57 ho7 hoA hgA
        unfold cnV Cn.cells
        simp only
        go_wp2_with ((at_builtin; refine wpList_app V7 rfl _ _ _ _ rfl rfl rfl (hrA _) ?_))
        refine ⟨⟨i + 1, ln + 1, cA, aA, by omega, by omega, by go_num, rfl, ?_, HE.out.2⟩, by simp [intOf]; omega⟩
        rw [HST.out]
        exact HE.out.1
    · have kk : ¬ (i : Int) < (pn : Int) := by omega
      have HE : Hid (wr.ownsRow B 78 4 (.slice la ln lc) ln (cnR (betw W T fm to)) ∧ Below w.heap.size w wr) := ⟨by rw [HBE.out]; rw [List.take_of_length_le (by omega)] at hown; exact own_base hown (by rw [← hB, ← hB3]; exact HB3.out.1.size), hw3⟩
      clear hown hbw hw3
      go_wp2
      go_ret
      exact ⟨la, ln, lc, rfl, by rw [hB]; exact HE.out.1, HE.out.2⟩
end Go.Proofs.YtjpkngbjjgimjaaDoor
