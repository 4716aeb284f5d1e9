/- Walk over the program's digestOf. A Hash in memory; the program's Write. -/
import Derived.Test.YtkhidkilkbmpoaaDoorL
import Derived.Laws.CopyRow
import Derived.Laws.IdiomCopy
namespace Go.Proofs.YtkhidkilkbmpoaaDoor
open Go.RowKit
theorem conv_row (W : World) (g o n c : Nat) (l : List UInt8) (hl : l.length = n) (h : ∀ i, i < n → W.cell? ⟨g, o + i, none⟩ = some (.int .u8 (((l.getD i 0).toNat : Nat) : Int))) :
    (convert 45 9 (.slice (some ⟨g, o, none⟩) n c)).run Tryd.prog W = .ok (.string (strOf l)) W := by
  rw [run_convert_bytes_arg (P := Tryd.prog) W 45 5 Tryd.underlying45 Tryd.underlying5 g o n c (l.map fun u => (u.toNat : Int)) (by simpa using hl) (fun i hi => by
    rw [h i hi]
    simp [List.getD, show i < l.length by omega]) 9 Tryd.underlying9]
  congr 3
  simp [strOfNums, List.map_map, Function.comp_def]
  rfl
structure DigW (g : Nat) (w0 : World) (l : List UInt8) (wr : World) : Prop where
  oc : wr.heap[g + 1]? = some (.cells (u8v l) 134 (0, 0))
  bl : Below g w0 wr
theorem DigW.start (w : World) (ss : List Nat) (l : List UInt8) : DigW w.heap.size w l ((w.alloc (.cells (u32v ss) 111)).alloc (.cells (u8v l) 134)) := by
  have sz : ∀ (w : World) (o : Obj), (w.alloc o).heap.size = w.heap.size + 1 := fun w o => by simp
  refine ⟨?_, ?_⟩
  · exact sz w _ ▸ heap_alloc_new _ _
  · exact ((Below.refl _ w).alloc (by omega) _).alloc (by simp only [sz]; omega) _
section
variable {g : Nat} {w0 wr : World} {l : List UInt8}
theorem DigW.cell (h : DigW g w0 l wr) (i : Nat) (hi : i < l.length) : wr.cell? ⟨g + 1, i, none⟩ = some (.int .u8 (((l.getD i 0).toNat : Nat) : Int)) := by
  rw [cell_of_row wr (g + 1) i _ _ _ h.oc, u8v_get l i hi]
theorem DigW.fro (h : DigW g w0 l wr) (i : Nat) : wr.frozen? ⟨g + 1, i, none⟩ = false := frozen_of_row wr (g + 1) i _ _ h.oc
theorem DigW.put (h : DigW g w0 l wr) (i : Nat) (x : UInt8) : DigW g w0 (l.set i x) (wr.setCell ⟨g + 1, i, none⟩ (.int .u8 (x.toNat : Int))) := by
  refine ⟨?_, ?_⟩
  · rw [heap_setCell_same wr (g + 1) i _ _ _ h.oc, u8v_set]
  · exact h.bl.setCell (by show g ≤ g + 1; omega) _
end
theorem set_mid8 (l : List UInt8) (n : Nat) (x : UInt8) : (l ++ List.replicate (n + 1) 0).set l.length x = (l ++ [x]) ++ List.replicate n 0 := by
  rw [List.set_append_right _ _ (Nat.le_refl _), Nat.sub_self, List.replicate_succ, List.set_cons_zero]
  simp
theorem take_set8 (D : List UInt8) (n t : Nat) (hD : D.length = n) (ht : t < n) : (D.take t ++ List.replicate (n - t) 0).set t (D.getD t 0) = D.take (t + 1) ++ List.replicate (n - (t + 1)) 0 := by
  have el : (D.take t).length = t := by simp; omega
  have es := set_mid8 (D.take t) (n - (t + 1)) (D.getD t 0)
  rw [el, show n - (t + 1) + 1 = n - t by omega] at es
  rw [es, List.take_add_one, List.getElem?_eq_getElem (by omega)]
  simp [hD, ht]
theorem bytes_len (Z : List Nat) : (Z.flatMap (beN 4)).length = 4 * Z.length := by
  induction Z with
  | nil => rfl
  | cons z Z ih => rw [List.flatMap_cons, List.length_append, ih, beN_len, List.length_cons]; omega
theorem bytes_at (Z : List Nat) : ∀ (i k : Nat), i < Z.length → k < 4 → (Z.flatMap (beN 4)).getD (4 * i + k) 0 = UInt8.ofNat (Z.getD i 0 / 256 ^ (3 - k) % 256) := by
  induction Z with
  | nil => intro i k h; simp at h
  | cons z Z ih =>
    intro i k hi hk
    rw [List.flatMap_cons, List.getD_eq_getElem?_getD]
    cases i with
    | zero =>
      rw [List.getElem?_append_left (by rw [beN_len]; omega), beN_four]
      match k, hk with
      | 0, _ => rfl
      | 1, _ => rfl
      | 2, _ => rfl
      | 3, _ => simp
    | succ i =>
      rw [List.getElem?_append_right (by rw [beN_len]; omega), beN_len, show 4 * (i + 1) + k - 4 = 4 * i + k by omega, ← List.getD_eq_getElem?_getD, ih i k (by simpa using hi) hk]
      rfl

set_option maxRecDepth 100000 in
set_option maxHeartbeats 1000000 in
theorem digestof_any (Z : List Nat) (w : World) (hZ : Z.length = 8) :
    Calls Tryd.prog 88 #[.agg (u32v Z)] w fun e w' => e = .returned (.string (strOf (Z.flatMap (beN 4)))) ∧ Below w.heap.size w w' := by
  obtain ⟨D, hD⟩ : ∃ D, Z.flatMap (beN 4) = D := ⟨_, rfl⟩
  have HD : Hid (∀ i k, i < 8 → k < 4 → D.getD (4 * i + k) 0 = UInt8.ofNat (Z.getD i 0 / 256 ^ (3 - k) % 256)) := by
    intro i k hi hk; rw [← hD]; exact bytes_at Z i k (by omega) hk
  have HDL : Hid (D.length = 32) := by show D.length = 32; rw [← hD, bytes_len, hZ]
  have HZ : Hid (Z.length = 8) := hZ
  rw [hD]
  have HIX : Hid (∀ (t : Nat) (W : World), t < 8 → (Instr.index 111 (.agg (u32v Z)) (.int .i64 (t : Int))).run Tryd.prog W = .ok (.int .u32 ((Z.getD t 0 : Nat) : Int)) W) := fun t W ht => run_index8 Z hZ t ht W
  have HST : Hid (DigW w.heap.size w (List.replicate 32 0) ((w.alloc (.cells (u32v Z) 111)).alloc (.cells (u8v (List.replicate 32 0)) 134))) := DigW.start w _ _
  have HROW : Hid (∀ X : Array Value, ((w.alloc (.cells (u32v Z) 111)).alloc (.cells X 134)).heap[w.heap.size]? = some (.cells (u32v Z) 111 (0, 0))) := by
    intro X
    rw [Go.heap_alloc_old _ _ (by simp)]; exact heap_alloc_new _ _
  have HI : Hid ((Tryd.prog.info? 111).map (·.size) = some (u32v Z).size) := by show _ = _; rw [u32v_size, hZ]; kernel_rfl
  clear hD hZ
  go_enter Tryd.func88, Tryd.ntmps88
  go_wp2_with (refine wpList_load_row rfl 111 _ rfl w.heap.size rfl 111 (u32v Z) (0, 0) _ (HROW.out _) Tryd.underlying111 rfl HI.out ?_)
  go_loopw [8] (fun i wr => ∃ t : Nat, t ≤ 8 ∧ i = .int .i64 t ∧ DigW w.heap.size w (D.take (4 * t) ++ List.replicate (32 - 4 * t) 0) wr) (fun i _ => 8 - (intOf i).toNat)
  case atStart => exact ⟨0, by omega, rfl, HST.out⟩
  case round =>
    clear HST
    obtain ⟨t, ht, rfl, hrel⟩ := hrel
    by_cases hlt : t < 8
    · obtain ⟨y, hy⟩ : ∃ y, Z.getD t 0 = y := ⟨_, rfl⟩
      have HIX' := HIX.out t
      rw [hy] at HIX'
      have HIX2 : Hid (∀ W : World, (Instr.index 111 (.agg (u32v Z)) (.int .i64 (t : Int))).run Tryd.prog W = .ok (.int .u32 (y : Int)) W) := fun W => HIX' W hlt
      have kt : (t : Int) < 8 := by omega
      obtain ⟨p, hp⟩ : ∃ p, p = 4 * t := ⟨_, rfl⟩
      have hpi : (4 : Int) * (t : Int) = (p : Int) := by omega
      rw [← hp] at hrel
      have HDY : Hid (∀ k, k < 4 → D.getD (p + k) 0 = UInt8.ofNat (y / 256 ^ (3 - k) % 256)) := by
        intro k hk; rw [hp, HD.out t k hlt hk, hy]
      have HP : Hid (p = 4 * t) := hp
      have hp28 : p ≤ 28 := by omega
      have HR : Hid (DigW w.heap.size w (D.take p ++ List.replicate (32 - p) 0) wr) := hrel
      clear hrel HIX' hy hp
      go_wp2_with (simp only [HIX2.out])
      go_loopw [12] (fun i wr => ∃ k : Nat, k ≤ 4 ∧ i = .int .i64 k ∧ DigW w.heap.size w (D.take (p + k) ++ List.replicate (32 - (p + k)) 0) wr) (fun i _ => 4 - (intOf i).toNat)
      case atStart => exact ⟨0, by omega, rfl, HR.out⟩
      case round =>
        clear HR
        obtain ⟨k, hk, rfl, hrel⟩ := hrel
        by_cases hlt4 : k < 4
        · obtain ⟨j, hj⟩ : ∃ j, j = p + k := ⟨_, rfl⟩
          have hji : (p : Int) + (k : Int) = (j : Int) := by omega
          obtain ⟨m, hm⟩ : ∃ m, m = 8 * (k + 1) := ⟨_, rfl⟩
          have hmi : (8 : Int) * ((k : Int) + 1) = (m : Int) := by omega
          obtain ⟨c, hc⟩ : ∃ c, c = 32 - m := ⟨_, rfl⟩
          have hci : (32 : Int) - (m : Int) = (c : Int) := by omega
          obtain ⟨q, hq⟩ : ∃ q, q = y / 2 ^ c := ⟨_, rfl⟩
          have hqi : (y : Int) / 2 ^ c = (q : Int) := by rw [hq]; simp
          have HB : Hid (D.getD j 0 = UInt8.ofNat (q % 256)) := by
            rw [hj, HDY.out k hlt4, hq, show (256 : Nat) ^ (3 - k) = 2 ^ c by rw [show (256 : Nat) = 2 ^ 8 from rfl, ← Nat.pow_mul, show 8 * (3 - k) = c by omega]]
            rfl
          rw [← hj] at hrel
          obtain ⟨v, hv⟩ : ∃ v : Nat, ((D.take j ++ List.replicate (32 - j) 0).getD j 0).toNat = v := ⟨_, rfl⟩
          have cj : wr.cell? ⟨w.heap.size + 1, j, none⟩ = some (.int .u8 (v : Int)) := hv ▸ hrel.cell j (by simp [HDL.out]; omega)
          have fj := hrel.fro j
          have kj : (j : Int) < 32 := by omega
          have hc24 : c ≤ 24 := by omega
          have hm32 : m ≤ 32 := by omega
          have HJ : Hid (j = p + k) := hj
          have HR : Hid (DigW w.heap.size w (D.take j ++ List.replicate (32 - j) 0) wr) := hrel
          clear hrel hv hq hj hm hc
          go_wp2
          refine ⟨⟨k + 1, by omega, by go_num, ?_⟩, by simp [intOf]; omega⟩
          have h := HR.out.put j (UInt8.ofNat (q % 256))
          rw [← HB.out, take_set8 D 32 j HDL.out (by omega), HB.out, show (((UInt8.ofNat (q % 256)).toNat : Nat) : Int) = (q : Int) % 256 by rw [UInt8.toNat_ofNat']; omega] at h
          rw [show p + (k + 1) = j + 1 by have := HJ.out; omega]
          exact h
        · obtain rfl : k = 4 := by omega
          have HR : Hid (DigW w.heap.size w (D.take (p + 4) ++ List.replicate (32 - (p + 4)) 0) wr) := hrel
          clear hrel
          go_wp2
          refine ⟨⟨t + 1, by omega, by go_num, ?_⟩, by simp [intOf]; omega⟩
          rw [show 4 * (t + 1) = p + 4 by have := HP.out; omega]
          exact HR.out
    · obtain rfl : t = 8 := by omega
      have e : D.take (4 * 8) ++ List.replicate (32 - 4 * 8) 0 = D := by rw [List.take_of_length_le (by rw [HDL.out]; omega)]; simp
      rw [e] at hrel
      have hcv : (convert 45 9 (.slice (some ⟨w.heap.size + 1, 0, none⟩) 32 32)).run Tryd.prog wr = .ok (.string (strOf D)) wr :=
        conv_row wr (w.heap.size + 1) 0 32 32 D HDL.out (fun i hi => by rw [Nat.zero_add]; exact hrel.cell i (by rw [HDL.out]; exact hi))
      have HB : Hid (Below w.heap.size w wr) := hrel.bl
      clear hrel e
      go_wp2
      go_ret
      exact ⟨rfl, HB.out⟩
end Go.Proofs.YtkhidkilkbmpoaaDoor
namespace Go.Proofs.YtkhidkilkbmpoaaDoor
open Go.RowKit
/-- The cells of a Hash: the state, the rest, the count. -/
def hlist (st : List Nat) (rest : List UInt8) (n : Nat) : List Value := (st.map fun (x : Nat) => Value.int .u32 (x : Int)) ++ ((rest.map fun (x : UInt8) => Value.int .u8 (x.toNat : Int)) ++ [Value.int .i64 (n : Int)])
def hcells (st : List Nat) (rest : List UInt8) (n : Nat) : Array Value := (hlist st rest n).toArray
section
variable {st : List Nat} {rest : List UInt8} {n : Nat}
theorem hcells_size (hs : st.length = 8) (hr : rest.length = 64) : (hcells st rest n).size = 73 := by simp [hcells, hlist, hs, hr]
theorem hcells_s (i : Nat) (hi : i < st.length) : (hcells st rest n)[i]? = some (.int .u32 ((st.getD i 0 : Nat) : Int)) := by
  simp [hcells, hlist, List.getElem?_append_left, hi]
theorem hcells_r (hs : st.length = 8) (i : Nat) (hi : i < rest.length) : (hcells st rest n)[8 + i]? = some (.int .u8 (((rest.getD i 0).toNat : Nat) : Int)) := by
  simp only [hcells, hlist, List.getElem?_toArray]
  rw [List.getElem?_append_right (by simp [hs]), List.getElem?_append_left (by simp [hs]; omega)]
  simp [hs, hi]
theorem hcells_c (hs : st.length = 8) (hr : rest.length = 64) : (hcells st rest n)[72]? = some (.int .i64 (n : Int)) := by
  simp only [hcells, hlist, List.getElem?_toArray]
  rw [List.getElem?_append_right (by simp [hs]), List.getElem?_append_right (by simp [hs, hr])]
  simp [hs, hr]
theorem hcells_sset (i x : Nat) (hi : i < st.length) : (hcells st rest n).setIfInBounds i (.int .u32 (x : Int)) = hcells (st.set i x) rest n := by
  simp only [hcells, hlist, List.setIfInBounds_toArray, List.map_set]
  rw [List.set_append_left _ _ (by simpa using hi)]
theorem hcells_cset (hs : st.length = 8) (hr : rest.length = 64) (m : Nat) : (hcells st rest n).setIfInBounds 72 (.int .i64 (m : Int)) = hcells st rest m := by
  simp only [hcells, hlist, List.setIfInBounds_toArray]
  rw [List.set_append_right _ _ (by simp [hs]), List.set_append_right _ _ (by simp [hs, hr])]
  simp [hs, hr]
/-- A copy into the rest. -/
def over (rest : List UInt8) (k : Nat) (m : List UInt8) : List UInt8 := rest.take k ++ (m ++ rest.drop (k + m.length))
theorem over_len (k : Nat) (m : List UInt8) (h : k + m.length ≤ rest.length) : (over rest k m).length = rest.length := by simp [over]; omega
theorem hcells_over (hs : st.length = 8) (k : Nat) (m : List UInt8) (h : k + m.length ≤ rest.length) :
    ((hcells st rest n).toList.take (8 + k) ++ (u8v m).toList ++ (hcells st rest n).toList.drop (8 + k + (u8v m).toList.length)).toArray = hcells st (over rest k m) n := by
  have e1 : (u8v m).toList = m.map fun (x : UInt8) => Value.int .u8 (x.toNat : Int) := rfl
  have e2 : (hcells st rest n).toList = hlist st rest n := rfl
  rw [e1, e2]
  simp only [hcells, hlist, over, List.length_map, List.map_append, List.map_take, List.map_drop]
  congr 1
  rw [List.take_append, List.take_of_length_le (by simp [hs]), List.length_map, hs, show 8 + k - 8 = k by omega, List.take_append_of_le_length (by simp; omega),
    List.drop_append, List.drop_eq_nil_of_le (by simp [hs]; omega), List.length_map, hs, show 8 + k + m.length - 8 = k + m.length by omega, List.nil_append, List.drop_append_of_le_length (by simp; omega)]
  simp [List.append_assoc]
end
/-- What a state and a rest say of the bytes that came. -/
structure HashOf (st : List Nat) (rest : List UInt8) (l : List UInt8) : Prop where
  s : st = mixTo l (l.length / 64)
  n : rest.length = 64
  r : rest.take (l.length % 64) = l.drop (64 * (l.length / 64))
theorem mixTo_app (l m : List UInt8) : ∀ j, 64 * j ≤ l.length → mixTo (l ++ m) j = mixTo l j
  | 0, _ => rfl
  | j + 1, h => by
    show mixL kL (mixTo (l ++ m) j) (((l ++ m).drop (64 * j)).take 64) = mixL kL (mixTo l j) ((l.drop (64 * j)).take 64)
    rw [mixTo_app l m j (by omega), List.drop_append_of_le_length (by omega), List.take_append_of_le_length (by simp; omega)]
theorem mixL_take (ks s : List Nat) (b : List UInt8) : mixL ks s (b.take 64) = mixL ks s b := by
  have : wordsOf (b.take 64) = wordsOf b := by
    unfold wordsOf
    apply List.map_congr_left
    intro t ht
    have ht' : t < 16 := by simpa using ht
    have g : ∀ j, j < 64 → (b.take 64).getD j 0 = b.getD j 0 := fun j hj => by
      rw [List.getD_eq_getElem?_getD, List.getD_eq_getElem?_getD, List.getElem?_take_of_lt hj]
    rw [g _ (by omega), g _ (by omega), g _ (by omega), g _ (by omega)]
  unfold mixL
  rw [this]
theorem HashOf.less {st : List Nat} {rest l m : List UInt8} (h : HashOf st rest l) (hm : l.length % 64 + m.length < 64) : HashOf st (over rest (l.length % 64) m) (l ++ m) := by
  have hl := h.n
  have hq : (l.length + m.length) / 64 = l.length / 64 := by omega
  have hr : (l.length + m.length) % 64 = l.length % 64 + m.length := by omega
  refine ⟨?_, ?_, ?_⟩
  · rw [List.length_append, hq, mixTo_app l m _ (by omega)]; exact h.s
  · rw [over_len _ _ (by omega)]; exact hl
  · rw [List.length_append, hq, hr, List.drop_append_of_le_length (by omega), ← h.r]
    unfold over
    rw [List.take_append, List.take_of_length_le (by simp; omega), List.length_take, Nat.min_eq_left (by omega), show l.length % 64 + m.length - l.length % 64 = m.length by omega, List.take_append_of_le_length (by omega), List.take_length]
theorem HashOf.full {st : List Nat} {rest l m : List UInt8} (h : HashOf st rest l) (hm : l.length % 64 + m.length = 64) : HashOf (mixL kL st (over rest (l.length % 64) m)) (over rest (l.length % 64) m) (l ++ m) := by
  have hl := h.n
  have hq : (l.length + m.length) / 64 = l.length / 64 + 1 := by omega
  have hr : (l.length + m.length) % 64 = 0 := by omega
  have ho : over rest (l.length % 64) m = (l ++ m).drop (64 * (l.length / 64)) := by
    unfold over
    rw [List.drop_append_of_le_length (by omega), ← h.r, List.drop_eq_nil_of_le (by omega), List.append_nil]
  refine ⟨?_, ?_, ?_⟩
  · rw [List.length_append, hq]
    show _ = mixL kL (mixTo (l ++ m) (l.length / 64)) (((l ++ m).drop (64 * (l.length / 64))).take 64)
    rw [mixTo_app l m _ (by omega), ← h.s, ← ho, mixL_take]
  · rw [over_len _ _ (by omega)]; exact hl
  · rw [List.length_append, hr, hq, List.drop_eq_nil_of_le (by simp; omega)]; rfl
/-- Nothing has changed but block g, and what is new. -/
structure Only (g : Nat) (w0 wr : World) : Prop where
  os : wr.os = w0.os
  tape : wr.tape = w0.tape
  output : wr.output = w0.output
  size : w0.heap.size ≤ wr.heap.size
  block : ∀ k, k < w0.heap.size → k ≠ g → wr.heap[k]? = w0.heap[k]?
section
variable {g : Nat} {w0 wr w1 : World}
theorem Only.refl (g : Nat) (w : World) : Only g w w := ⟨rfl, rfl, rfl, Nat.le_refl _, fun _ _ _ => rfl⟩
theorem Only.drew (h : Only g w0 wr) : Only g w0 wr.drew := ⟨h.os, h.tape, h.output, h.size, h.block⟩
theorem Only.setRow (h : Only g w0 wr) (cs : Array Value) : Only g w0 (wr.setRow g cs) :=
  ⟨h.os, h.tape, h.output, by rw [size_setRow]; exact h.size, fun k hk hg => by rw [setRow_other wr g k cs hg]; exact h.block k hk hg⟩
theorem Only.setCell (h : Only g w0 wr) (i : Nat) (v : Value) : Only g w0 (wr.setCell ⟨g, i, none⟩ v) :=
  ⟨h.os, h.tape, h.output, by rw [World.size_setCell]; exact h.size, fun k hk hg => by rw [heap_setCell_other wr _ k v hg]; exact h.block k hk hg⟩
theorem Only.below (h : Only g w0 wr) (hb : Below wr.heap.size wr w1) : Only g w0 w1 :=
  ⟨hb.os.trans h.os, hb.tape.trans h.tape, hb.output.trans h.output, Nat.le_trans h.size hb.size, fun k hk hg => (hb.block k (Nat.lt_of_lt_of_le hk h.size)).trans (h.block k hk hg)⟩
theorem Only.cell (h : Only g w0 wr) {p : Addr} (hp : p.block < w0.heap.size) (hg : p.block ≠ g) : wr.cell? p = w0.cell? p := World.cell?_of_block (h.block _ hp hg)
theorem Only.trans (h : Only g w0 wr) (h' : Only g wr w1) : Only g w0 w1 :=
  ⟨h'.os.trans h.os, h'.tape.trans h.tape, h'.output.trans h.output, Nat.le_trans h.size h'.size, fun k hk hg => (h'.block k (Nat.lt_of_lt_of_le hk h.size) hg).trans (h.block k hk hg)⟩
theorem Only.toBelow (h : Only g w0 wr) (hg : w0.heap.size ≤ g) : Below w0.heap.size w0 wr := ⟨h.os, h.tape, h.output, h.size, fun k hk => h.block k hk (by omega)⟩
end
/-- The package's two tables, as they are laid. -/
structure Laid (w : World) : Prop where
  f : ∀ i, i < 8 → w.cell? ⟨0, i, none⟩ = some (.int .u32 ((ivL.getD i 0 : Nat) : Int))
  k : ∀ i, i < 64 → w.cell? ⟨2, i, none⟩ = some (.int .u32 ((kL.getD i 0 : Nat) : Int))
theorem Laid.lt {w : World} (h : Laid w) : 2 < w.heap.size := block_lt_of_cell (h.k 0 (by omega))
theorem Laid.below {w w' : World} (h : Laid w) (hb : Below w.heap.size w w') : Laid w' :=
  ⟨fun i hi => by rw [hb.cell (by show 0 < w.heap.size; have := h.lt; omega)]; exact h.f i hi, fun i hi => by rw [hb.cell (by show 2 < w.heap.size; exact h.lt)]; exact h.k i hi⟩
theorem Laid.only {g : Nat} {w w' : World} (h : Laid w) (hg : 3 ≤ g) (hb : Only g w w') : Laid w' :=
  ⟨fun i hi => by rw [hb.cell (by show 0 < w.heap.size; have := h.lt; omega) (by show 0 ≠ g; omega)]; exact h.f i hi, fun i hi => by rw [hb.cell (by show 2 < w.heap.size; exact h.lt) (by show 2 ≠ g; omega)]; exact h.k i hi⟩
/-- A Hash at block g that has the bytes l. -/
def HashIs (w : World) (g : Nat) (l : List UInt8) : Prop := ∃ st rest, HashOf st rest l ∧ w.heap[g]? = some (.cells (hcells st rest l.length) 113 (0, 0))
/-- Bytes that aren't in block g. -/
def BsA (w : World) (g : Nat) (a : Option Addr) (len cap : Nat) (bs : List UInt8) : Prop :=
  bs.length = len ∧ len ≤ cap ∧ cap ≤ 9223372036854775807 ∧ (0 < len → ∃ bb bo, a = some ⟨bb, bo, none⟩ ∧ bb ≠ g ∧ bb < w.heap.size ∧ ∀ i, i < len → w.cell? ⟨bb, bo + i, none⟩ = some (.int .u8 (((bs.getD i 0).toNat : Nat) : Int)))
theorem mixTo_len (l : List UInt8) (j : Nat) : (mixTo l j).length = 8 := by
  obtain ⟨_, _, _, _, _, _, _, _, e, _⟩ := mixTo_eight l j
  rw [e]; rfl
theorem HashOf.sl {st : List Nat} {rest l : List UInt8} (h : HashOf st rest l) : st.length = 8 := by rw [h.s]; exact mixTo_len _ _
end Go.Proofs.YtkhidkilkbmpoaaDoor
