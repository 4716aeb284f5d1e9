/- Walks over Refs, Get and Count; stores that are nil. -/
import Derived.Test.YtjpkngbjjgimjaaDoorKI
import Derived.Test.YtjpkngbjjgimjaaDoorShelf
namespace Go.Proofs.YtjpkngbjjgimjaaDoor
open Go.RowKit
def refsOf (r : Option Cn) : Nat := match r with
  | none => 0
  | some c => c.refs
def dataOf (r : Option Cn) : ByteArray := match r with
  | none => ⟨#[]⟩
  | some c => c.data
set_option maxRecDepth 100000 in
set_option maxHeartbeats 2000000 in
theorem refs_of (p : Option Addr) (sum : ByteArray) (n : Int) (r : Option Cn) (w : World) (hr : refsOf r < 4294967296) (HL : ∀ V, Below w.heap.size w V → Calls Tryd.prog 31 #[.pointer p, .agg #[.string sum, .int .i64 n]] V fun e w' => ParTo V r e w') : Calls Tryd.prog 22 #[.pointer p, .agg #[.string sum, .int .i64 n]] w fun e w' => e = .returned (.int .i64 (refsOf r : Int)) ∧ Below w.heap.size w w' := by
  obtain ⟨W1, hW1⟩ : ∃ W1, w.alloc (.cells #[.string sum, .int .i64 n] 35) = W1 := ⟨_, rfl⟩
  obtain ⟨ib, hib⟩ : ∃ ib, w.heap.size = ib := ⟨_, rfl⟩
  have r1 : W1.heap[ib]? = some (.cells #[.string sum, .int .i64 n] 35 (0, 0)) := by rw [← hW1, ← hib]; exact heap_alloc_new w _
  have hb1 : Below w.heap.size w W1 := by rw [← hW1]; exact (Below.refl _ w).alloc (Nat.le_refl _) _
  have c0 : W1.cell? ⟨ib, 0, none⟩ = some (.string sum) := by rw [cell_of_row _ _ _ _ _ _ r1]; rfl
  have c1 : W1.cell? ⟨ib, 1, none⟩ = some (.int .i64 n) := by rw [cell_of_row _ _ _ _ _ _ r1]; rfl
  have HLK := HL W1 hb1
  unfold ParTo at HLK
  have HB1 : Hid (Below w.heap.size w W1) := hb1
  clear HL r1 hb1
  go_enter Tryd.func22, Tryd.ntmps22
  go_wp2_with fail
  refine HLK.mono ?_
  rintro e V ⟨rfl, hb⟩
  have HB2 : Hid (Below w.heap.size w V) := HB1.out.trans (hb.mono HB1.out.size)
  clear HLK hb c0 c1
  cases r with
  | none =>
    unfold cnV
    go_wp2
    go_ret
    exact ⟨rfl, HB2.out.alloc HB2.out.size _⟩
  | some c =>
    obtain ⟨s1, n1, f1, t1⟩ := c
    have hf : f1 < 4294967296 := hr
    unfold cnV Cn.cells
    simp only
    go_wp2
    go_ret
    exact ⟨rfl, HB2.out.alloc HB2.out.size _⟩
set_option maxRecDepth 100000 in
set_option maxHeartbeats 2000000 in
theorem get_of (p : Option Addr) (sum : ByteArray) (n : Int) (r : Option Cn) (w : World) (HL : ∀ V, Below w.heap.size w V → Calls Tryd.prog 31 #[.pointer p, .agg #[.string sum, .int .i64 n]] V fun e w' => ParTo V r e w') : Calls Tryd.prog 21 #[.pointer p, .agg #[.string sum, .int .i64 n]] w fun e w' => e = .returned (.tuple #[.string (dataOf r), .bool r.isSome]) ∧ Below w.heap.size w w' := by
  obtain ⟨W1, hW1⟩ : ∃ W1, w.alloc (.cells #[.string sum, .int .i64 n] 35) = W1 := ⟨_, rfl⟩
  obtain ⟨ib, hib⟩ : ∃ ib, w.heap.size = ib := ⟨_, rfl⟩
  have r1 : W1.heap[ib]? = some (.cells #[.string sum, .int .i64 n] 35 (0, 0)) := by rw [← hW1, ← hib]; exact heap_alloc_new w _
  have hb1 : Below w.heap.size w W1 := by rw [← hW1]; exact (Below.refl _ w).alloc (Nat.le_refl _) _
  have c0 : W1.cell? ⟨ib, 0, none⟩ = some (.string sum) := by rw [cell_of_row _ _ _ _ _ _ r1]; rfl
  have c1 : W1.cell? ⟨ib, 1, none⟩ = some (.int .i64 n) := by rw [cell_of_row _ _ _ _ _ _ r1]; rfl
  have HLK := HL W1 hb1
  unfold ParTo at HLK
  have HB1 : Hid (Below w.heap.size w W1) := hb1
  clear HL r1 hb1
  go_enter Tryd.func21, Tryd.ntmps21
  go_wp2_with fail
  refine HLK.mono ?_
  rintro e V ⟨rfl, hb⟩
  have HB2 : Hid (Below w.heap.size w V) := HB1.out.trans (hb.mono HB1.out.size)
  clear HLK hb c0 c1
  cases r with
  | none =>
    unfold cnV
    go_wp2
    refine bodyPost_ret (v := .tuple #[.string ⟨#[]⟩, .bool false]) ?_ rfl ⟨rfl, HB2.out.alloc HB2.out.size _⟩
    simp [results, go_sem]
  | some c =>
    obtain ⟨s1, n1, f1, t1⟩ := c
    unfold cnV Cn.cells
    simp only
    go_wp2
    refine bodyPost_ret (v := .tuple #[.string t1, .bool true]) ?_ rfl ⟨rfl, HB2.out.alloc HB2.out.size _⟩
    simp [results, go_sem]
theorem count_nil (w : World) : Calls Tryd.prog 23 #[.pointer none] w fun e w' => e = .returned (.tuple #[.int .i64 0, .int .i64 0]) ∧ w' = w := by
  go_enter Tryd.func23, Tryd.ntmps23
  go_wp2
  refine bodyPost_ret (v := .tuple #[.int .i64 0, .int .i64 0]) ?_ rfl ⟨rfl, rfl⟩
  simp [results, go_sem]
theorem find_nil (s : ByteArray) (w : World) : Calls Tryd.prog 24 #[.pointer none, .string s] w fun e w' => e = .returned (.slice none 0 0) ∧ w' = w := by
  go_enter Tryd.func24, Tryd.ntmps24
  go_wp2
  go_ret
  exact ⟨rfl, rfl⟩
theorem digest_none (s : ByteArray) (w : World) : Calls Tryd.prog 19 #[.pointer none, .string s] w fun e w' => e = .returned (.string ⟨#[]⟩) ∧ w' = w := by
  go_enter Tryd.func19, Tryd.ntmps19
  go_wp2
  go_ret
  exact ⟨rfl, rfl⟩
theorem again_nil (sum : ByteArray) (n : Int) (w : World) : Calls Tryd.prog 16 #[.pointer none, .agg #[.string sum, .int .i64 n]] w fun e w' => e = .returned (.int .i64 1) ∧ Below w.heap.size w w' := by
  go_enter Tryd.func16, Tryd.ntmps16
  go_wp2
  go_ret
  exact ⟨rfl, (Below.refl _ w).alloc (Nat.le_refl _) _⟩
theorem take_nil (sum : ByteArray) (n : Int) (w : World) : Calls Tryd.prog 17 #[.pointer none, .agg #[.string sum, .int .i64 n]] w fun e w' => e = .returned (.int .i64 1) ∧ Below w.heap.size w w' := by
  go_enter Tryd.func17, Tryd.ntmps17
  go_wp2
  go_ret
  exact ⟨rfl, (Below.refl _ w).alloc (Nat.le_refl _) _⟩
theorem take_sn {l : List Cn} {i : Nat} {c : Cn} (h : l[i]? = some c) : l.take (i + 1) = l.take i ++ [c] := by rw [List.take_add_one, h]; rfl
def dataSum (l : List Cn) : Nat := (l.map fun c => c.data.size).sum
theorem dataSum_app (a b : List Cn) : dataSum (a ++ b) = dataSum a + dataSum b := by simp [dataSum]
theorem dataSum_le (l : List Cn) (k : Nat) (h : ∀ c ∈ l, c.data.size ≤ k) : dataSum l ≤ k * l.length := by
  induction l with
  | nil => simp [dataSum]
  | cons c l ih =>
    have h1 := h c (List.mem_cons_self ..)
    have h2 := ih (fun d hd => h d (List.mem_cons_of_mem _ hd))
    simp only [dataSum, List.map_cons, List.sum_cons, List.length_cons] at *
    rw [Nat.mul_succ]
    omega
/-- All contents. -/
def allC (W : Nat) (T : List Pr) : List Cn := betw W T ⟨(Lib.repeatL [0] W).toArray⟩ ⟨(Lib.repeatL [255] W).toArray⟩
section
variable {h0 : Nat} {F : Nat → Prop} {w : World} {st tb W : Nat} {full : Int} {T : List Pr}
theorem betw_ok {fm tt : ByteArray} {c : Cn} (h : c ∈ betw W T fm tt) : c.data.size ≤ 128 := by
  unfold betw at h
  obtain ⟨p, _, hc⟩ := List.mem_filterMap.1 h
  exact (parse_ok hc).2.2.1
set_option maxRecDepth 100000 in
set_option maxHeartbeats 2000000 in
theorem count_any (h : Cs h0 F w st tb W full T) (hW : W ≤ 32) : Calls Tryd.prog 23 #[.pointer (some ⟨st, 0, none⟩)] w fun e w' => e = .returned (.tuple #[.int .i64 ((allC W T).length : Int), .int .i64 (dataSum (allC W T) : Int)]) ∧ Below w.heap.size w w' := by
  have c1 : w.cell? ⟨st, 1, none⟩ = some (.int .i64 (W : Int)) := by rw [cell_of_row _ _ _ _ _ _ h.stat]; rfl
  have hst : st < w.heap.size := lt_of_some h.stat
  have HC : Hid (∀ V, Below w.heap.size w V → V.cell? ⟨st, 1, none⟩ = some (.int .i64 (W : Int))) := fun V hV => by rw [hV.cell hst]; exact c1
  obtain ⟨fz, hfz⟩ : ∃ fz : ByteArray, (⟨(Lib.repeatL [0] W).toArray⟩ : ByteArray) = fz := ⟨_, rfl⟩
  obtain ⟨ff, hff⟩ : ∃ ff : ByteArray, (⟨(Lib.repeatL [255] W).toArray⟩ : ByteArray) = ff := ⟨_, rfl⟩
  have HR0 : Hid (Calls Tryd.prog 40 #[.string ⟨#[0]⟩, .int .i64 (W : Int)] w.drew fun e w' => e = .returned (.string fz) ∧ Below w.drew.heap.size w.drew w') := by rw [← hfz]; exact Tryd.strings_Repeat ⟨#[0]⟩ W w.drew (by omega) (by show 1 * W ≤ _; omega)
  have HR1 : Hid (∀ V, Calls Tryd.prog 40 #[.string ⟨#[255]⟩, .int .i64 (W : Int)] V fun e w' => e = .returned (.string ff) ∧ Below V.heap.size V w') := fun V => by rw [← hff]; exact Tryd.strings_Repeat ⟨#[255]⟩ W V (by omega) (by show 1 * W ≤ _; omega)
  have hsz : ∀ b : UInt8, (⟨(Lib.repeatL [b] W).toArray⟩ : ByteArray).size ≤ 32 := fun b => by
    show (Lib.repeatL [b] W).toArray.size ≤ 32
    rw [List.size_toArray, Lib.repeatL_length]
    simp only [List.length_singleton]
    omega
  obtain ⟨AL, hAL⟩ : ∃ AL, allC W T = AL := ⟨_, rfl⟩
  have HBT : Hid (∀ V, Below w.heap.size w V → Calls Tryd.prog 39 #[.pointer (some ⟨st, 0, none⟩), .string fz, .string ff] V fun e w' => BtTo V AL e w') := fun V hV => by
    rw [← hAL]
    unfold allC
    rw [hfz, hff]
    have hz1 := hsz 0
    have hz2 := hsz 255
    rw [hfz] at hz1
    rw [hff] at hz2
    exact between_any (h.below hV) hW fz ff (by omega) (by omega)
  have HDB : Hid (∀ i, dataSum (AL.take i) ≤ 128 * i) := fun i => by
    have h5 := dataSum_le (AL.take i) 128 (fun c hc => by
      have := List.mem_of_mem_take hc
      rw [← hAL] at this
      exact betw_ok this)
    rw [List.length_take] at h5
    have : 128 * min i AL.length ≤ 128 * i := Nat.mul_le_mul_left _ (Nat.min_le_left ..)
    omega
  have HFE : Hid (∀ k, AL.length = k → k ≤ 1000000) := fun k hk => by
    have h5 := h.few
    rw [← hk, ← hAL]
    unfold allC betw
    have h6 := List.length_filterMap_le (parseF W) (rangeT T (keyB ⟨(Lib.repeatL [0] W).toArray⟩ 0) (keyB ⟨(Lib.repeatL [255] W).toArray⟩ 255) 2147483647)
    have h7 : (rangeT T (keyB ⟨(Lib.repeatL [0] W).toArray⟩ 0) (keyB ⟨(Lib.repeatL [255] W).toArray⟩ 255) 2147483647).length ≤ T.length := by
      rw [range_mid, List.length_take]
      exact Nat.le_trans (Nat.min_le_right ..) (mid_len ..)
    omega
  rw [hAL]
  clear c1 h hfz hff hsz hAL
  go_enter Tryd.func23, Tryd.ntmps23
  go_wp2
  refine wp_region_held_drew (S := fun V => V.cell? ⟨st, 1, none⟩ = some (.int .i64 (W : Int))) (by kernel_rfl) (HC.out _ (Below.refl _ w).drew) (fun hHeld => ?_)
  refine wpAnyH_take (i := 0) (v := ?vc0) rfl (by kernel_rfl) (by kernel_rfl) (by kernel_rfl) (fun _ _ _ h => h) (Or.inl ⟨by first | kernel_rfl | rfl, ?yc0⟩) hHeld ?rc0
  case yc0 => (intro W hSW; (try dsimp only at hSW); go_simp; (try with_reducible rfl))
  change wpAnyH _ _ _ _ _ _ _ (Act.put _ (some 9) _) _
  simp only [Act.put, List.setIfInBounds_toArray, List.set_cons_zero, List.set_cons_succ]
  refine wpAnyH_take (i := 1) (v := ?vc1) rfl (by kernel_rfl) (by kernel_rfl) (by kernel_rfl) (fun _ _ _ h => h) (Or.inl ⟨by first | kernel_rfl | rfl, ?yc1⟩) hHeld ?rc1
  case yc1 => (intro W hSW; (try dsimp only at hSW); go_simp; (try with_reducible rfl))
  change wpAnyH _ _ _ _ _ _ _ (Act.put _ (some 10) _) _
  simp only [Act.put, List.setIfInBounds_toArray, List.set_cons_zero, List.set_cons_succ]
  refine wpAnyH_take (i := 2) (v := ?vc2) rfl (by kernel_rfl) (by kernel_rfl) (by kernel_rfl) (fun _ _ _ h => h) (Or.inl ⟨by first | kernel_rfl | rfl, ?yc2⟩) hHeld ?rc2
  case yc2 => (intro W hSW; (try dsimp only at hSW); go_simp; (try with_reducible rfl))
  change wpAnyH _ _ _ _ _ _ _ (Act.put _ (some 11) _) _
  simp only [Act.put, List.setIfInBounds_toArray, List.set_cons_zero, List.set_cons_succ]
  refine wpAnyH_take (i := 3) (v := ?vc3) rfl (by kernel_rfl) (by kernel_rfl) (by kernel_rfl) (fun _ _ _ h => h) (Or.inl ⟨by first | kernel_rfl | rfl, ?yc3⟩) hHeld ?rc3
  case yc3 => (intro W hSW; (try dsimp only at hSW); go_simp; (try with_reducible rfl))
  change wpAnyH _ _ _ _ _ _ _ (Act.put _ (some 12) _) _
  simp only [Act.put, List.setIfInBounds_toArray, List.set_cons_zero, List.set_cons_succ]
  refine wpAnyH_take (i := 4) (v := ?vc4) rfl (by kernel_rfl) (by kernel_rfl) (by kernel_rfl) (fun _ _ _ h => h) (Or.inl ⟨by first | kernel_rfl | rfl, ?yc4⟩) hHeld ?rc4
  case yc4 => (intro W hSW; (try dsimp only at hSW); go_simp; (try with_reducible rfl))
  change wpAnyH _ _ _ _ _ _ _ (Act.put _ (some 13) _) _
  simp only [Act.put, List.setIfInBounds_toArray, List.set_cons_zero, List.set_cons_succ]
  refine wpAnyH_take (i := 6) (v := ?vc6) rfl (by kernel_rfl) (by kernel_rfl) (by kernel_rfl) (fun _ _ _ h => h) (Or.inl ⟨by first | kernel_rfl | rfl, ?yc6⟩) hHeld ?rc6
  case yc6 => (intro W hSW; (try dsimp only at hSW); go_simp; (try with_reducible rfl))
  change wpAnyH _ _ _ _ _ _ _ (Act.put _ (some 15) _) _
  simp only [Act.put, List.setIfInBounds_toArray, List.set_cons_zero, List.set_cons_succ]
  refine wpAnyH_take (i := 7) (v := ?vc7) rfl (by kernel_rfl) (by kernel_rfl) (by kernel_rfl) (fun _ _ _ h => h) (Or.inl ⟨by first | kernel_rfl | rfl, ?yc7⟩) hHeld ?rc7
  case yc7 => (intro W hSW; (try dsimp only at hSW); go_simp; (try with_reducible rfl))
  change wpAnyH _ _ _ _ _ _ _ (Act.put _ (some 16) _) _
  simp only [Act.put, List.setIfInBounds_toArray, List.set_cons_zero, List.set_cons_succ]
  refine wpAnyH_take (i := 8) (v := ?vc8) rfl (by kernel_rfl) (by kernel_rfl) (by kernel_rfl) (fun _ _ _ h => h) (Or.inl ⟨by first | kernel_rfl | rfl, ?yc8⟩) hHeld ?rc8
  case yc8 => (intro W hSW; (try dsimp only at hSW); go_simp; (try with_reducible rfl))
  change wpAnyH _ _ _ _ _ _ _ (Act.put _ (some 17) _) _
  simp only [Act.put, List.setIfInBounds_toArray, List.set_cons_zero, List.set_cons_succ]
  refine wpAnyH_take (i := 9) (v := ?vc9) rfl (by kernel_rfl) (by kernel_rfl) (by kernel_rfl) (fun _ _ _ h => h) (Or.inl ⟨by first | kernel_rfl | rfl, ?yc9⟩) hHeld ?rc9
  case yc9 => (intro W hSW; (try dsimp only at hSW); go_simp; (try with_reducible rfl))
  change wpAnyH _ _ _ _ _ _ _ (Act.put _ (some 18) _) _
  simp only [Act.put, List.setIfInBounds_toArray, List.set_cons_zero, List.set_cons_succ]
  refine wpAnyH_ready (rs := [5]) (by kernel_rfl) (by simp) ?_
  refine AllReadyH.cons rfl (fun K hK => ?_) AllReadyH.nil
  go_simp
  refine (HR0.out).mono ?_
  rintro e V1 ⟨rfl, hb1⟩; have HB1 : Hid (Below w.heap.size w V1) := (Below.refl _ w).drew.trans hb1; clear hb1
  refine hK.out _ _ (HC.out _ HB1.out) (fun hHeld => ?_)
  clear hK K
  try simp only [Act.put, List.setIfInBounds_toArray, List.set_cons_zero, List.set_cons_succ]
  refine wpAnyH_ready (rs := [10]) (by kernel_rfl) (by simp) ?_
  refine AllReadyH.cons rfl (fun K hK => ?_) AllReadyH.nil
  go_simp
  refine (HR1.out V1).mono ?_
  rintro e V2 ⟨rfl, hb2⟩; have HB2 : Hid (Below w.heap.size w V2) := HB1.out.trans (hb2.mono HB1.out.size); clear hb2
  refine hK.out _ _ (HC.out _ HB2.out) (fun hHeld => ?_)
  clear hK K
  try simp only [Act.put, List.setIfInBounds_toArray, List.set_cons_zero, List.set_cons_succ]
  refine wpAnyH_ready (rs := [11]) (by kernel_rfl) (by simp) ?_
  refine AllReadyH.cons rfl (fun K hK => ?_) AllReadyH.nil
  go_simp
  refine (HBT.out V2 HB2.out).mono ?_
  rintro e V3 ⟨ra, rn, rc, rfl, ho3, hb3⟩; have HB3 : Hid (Below w.heap.size w V3 ∧ Cw (fun _ => True) V3 ra rn rc AL) := ⟨HB2.out.trans (hb3.mono HB2.out.size), Rw.own ho3 (fun _ _ => trivial)⟩; clear hb3 ho3
  refine hK.out _ _ (HC.out _ HB3.out.1) (fun hHeld => ?_)
  clear hK K
  refine wpAnyH_take (i := 12) (v := ?vc12) rfl (by kernel_rfl) (by kernel_rfl) (by kernel_rfl) (fun _ _ _ h => h) (Or.inl ⟨by first | kernel_rfl | rfl, ?yc12⟩) hHeld ?rc12
  case yc12 => (intro W hSW; (try dsimp only at hSW); go_simp; (try with_reducible rfl))
  change wpAnyH _ _ _ _ _ _ _ (Act.put _ (some 4) _) _
  simp only [Act.put, List.setIfInBounds_toArray, List.set_cons_zero, List.set_cons_succ]
  refine wpAnyH_done (by kernel_rfl) ?_ _
  have hal := HB3.out.2.len
  have hrm : rn ≤ 9223372036854775807 := by have h5 := HB3.out.2.2.1; have h6 := HB3.out.2.2.2.1; unfold maxLen at h6; omega
  go_wp2
  go_loopw [3, 23] (fun vs vi wr => ∃ i : Nat, i ≤ rn ∧ vi = .int .i64 i ∧ vs = .int .i64 (dataSum (AL.take i) : Int) ∧ Below V3.heap.size V3 wr) (fun _ vi _ => rn - (intOf vi).toNat)
  case atStart => exact ⟨0, by omega, rfl, by simp [dataSum], Below.refl _ _⟩
  case round =>
    obtain ⟨i, hi, rfl, rfl, hbw⟩ := hrel
    by_cases hlt : i < rn
    · have kk : (i : Int) < (rn : Int) := by omega
      obtain ⟨lb, lo, rfl, _, hc⟩ := (HB3.out.2.below hbw).at (by omega)
      obtain ⟨⟨c1, c2, c3, c4⟩, hci⟩ : ∃ c, AL[i]? = some c := ⟨_, List.getElem?_eq_getElem (by omega)⟩
      obtain ⟨g0, g1, g2, g3⟩ := hc i _ hci
      simp only at g0 g1 g2 g3
      have hnx : dataSum (AL.take (i + 1)) = dataSum (AL.take i) + c4.size := by rw [take_sn hci, dataSum_app]; simp [dataSum]
      have hz1 := HDB.out (i + 1)
      have hrs : rn ≤ 1000000 := HFE.out rn hal
      obtain ⟨z, hz⟩ : ∃ z, dataSum (AL.take i) = z := ⟨_, rfl⟩
      rw [hz] at hnx ⊢
      rw [hnx] at hz1
      have HNX : Hid (dataSum (AL.take (i + 1)) = z + c4.size) := hnx
      have HB : Hid (Below V3.heap.size V3 (wr.alloc (.cells #[.string c1, .int .i64 (c2 : Int), .int .u32 (c3 : Int), .string c4] 78))) := hbw.alloc hbw.size _
      have hzb : z + c4.size ≤ 128000000 := by omega
      clear hc hci hbw hnx hz hz1
      go_wp2
      refine ⟨⟨i + 1, by omega, by go_num, ?_, HB.out⟩, by simp [intOf]; omega⟩
      rw [HNX.out]
      congr 1
    · have kk : ¬ (i : Int) < (rn : Int) := by omega
      have hfull : AL.take i = AL := List.take_of_length_le (by omega)
      rw [hfull]
      have HB : Hid (Below w.heap.size w wr) := HB3.out.1.trans (hbw.mono HB3.out.1.size)
      have hzz := HDB.out rn
      clear hbw
      go_wp2
      refine bodyPost_ret (v := .tuple #[.int .i64 (rn : Int), .int .i64 (dataSum AL : Int)]) ?_ rfl ⟨rfl, HB.out⟩
      simp [results, go_sem]
end
end Go.Proofs.YtjpkngbjjgimjaaDoor
