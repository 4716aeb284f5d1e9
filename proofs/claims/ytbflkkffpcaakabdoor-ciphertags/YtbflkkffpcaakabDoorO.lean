/- Walk over the program's digestOf. -/
import Derived.Test.YtbflkkffpcaakabDoorL
namespace Go.Proofs.YtbflkkffpcaakabDoor
open Go.RowKit
theorem conv_row (W : World) (g o n c : Nat) (l : List UInt8) (hl : l.length = n) (h : ∀ i, i < n → W.cell? ⟨g, o + i, none⟩ = some (.int .u8 (((l.getD i 0).toNat : Nat) : Int))) :
    (convert 29 9 (.slice (some ⟨g, o, none⟩) n c)).run Tryd.prog W = .ok (.string (strOf l)) W := by
  rw [run_convert_bytes_arg (P := Tryd.prog) W 29 5 Tryd.underlying29 Tryd.underlying5 g o n c (l.map fun u => (u.toNat : Int)) (by simpa using hl) (fun i hi => by
    rw [h i hi]
    simp [List.getD, show i < l.length by omega]) 9 Tryd.underlying9]
  congr 3
  simp [strOfNums, List.map_map, Function.comp_def]
  rfl
structure DigW (g : Nat) (w0 : World) (l : List UInt8) (wr : World) : Prop where
  oc : wr.heap[g + 1]? = some (.cells (u8v l) 76 (0, 0))
  bl : Below g w0 wr
theorem DigW.start (w : World) (ss : List Nat) (l : List UInt8) : DigW w.heap.size w l ((w.alloc (.cells (u32v ss) 63)).alloc (.cells (u8v l) 76)) := by
  have sz : ∀ (w : World) (o : Obj), (w.alloc o).heap.size = w.heap.size + 1 := fun w o => by simp
  refine ⟨?_, ?_⟩
  · exact sz w _ ▸ heap_alloc_new _ _
  · exact ((Below.refl _ w).alloc (by omega) _).alloc (by simp only [sz]; omega) _
section
variable {g : Nat} {w0 wr : World} {l : List UInt8}
theorem DigW.cell (h : DigW g w0 l wr) (i : Nat) (hi : i < l.length) : wr.cell? ⟨g + 1, i, none⟩ = some (.int .u8 (((l.getD i 0).toNat : Nat) : Int)) := by
  rw [cell_of_row wr (g + 1) i _ _ _ h.oc, u8v_get l i hi]
theorem DigW.fro (h : DigW g w0 l wr) (i : Nat) : wr.frozen? ⟨g + 1, i, none⟩ = false := frozen_of_row wr (g + 1) i _ _ h.oc
theorem DigW.put (h : DigW g w0 l wr) (i : Nat) (x : UInt8) : DigW g w0 (l.set i x) (wr.setCell ⟨g + 1, i, none⟩ (.int .u8 (x.toNat : Int))) := by
  refine ⟨?_, ?_⟩
  · rw [heap_setCell_same wr (g + 1) i _ _ _ h.oc, u8v_set]
  · exact h.bl.setCell (by show g ≤ g + 1; omega) _
end
theorem set_mid8 (l : List UInt8) (n : Nat) (x : UInt8) : (l ++ List.replicate (n + 1) 0).set l.length x = (l ++ [x]) ++ List.replicate n 0 := by
  rw [List.set_append_right _ _ (Nat.le_refl _), Nat.sub_self, List.replicate_succ, List.set_cons_zero]
  simp
theorem take_set8 (D : List UInt8) (n t : Nat) (hD : D.length = n) (ht : t < n) : (D.take t ++ List.replicate (n - t) 0).set t (D.getD t 0) = D.take (t + 1) ++ List.replicate (n - (t + 1)) 0 := by
  have el : (D.take t).length = t := by simp; omega
  have es := set_mid8 (D.take t) (n - (t + 1)) (D.getD t 0)
  rw [el, show n - (t + 1) + 1 = n - t by omega] at es
  rw [es, List.take_add_one, List.getElem?_eq_getElem (by omega)]
  simp [hD, ht]
theorem bytes_len (Z : List Nat) : (Z.flatMap (beN 4)).length = 4 * Z.length := by
  induction Z with
  | nil => rfl
  | cons z Z ih => rw [List.flatMap_cons, List.length_append, ih, beN_len, List.length_cons]; omega
theorem bytes_at (Z : List Nat) : ∀ (i k : Nat), i < Z.length → k < 4 → (Z.flatMap (beN 4)).getD (4 * i + k) 0 = UInt8.ofNat (Z.getD i 0 / 256 ^ (3 - k) % 256) := by
  induction Z with
  | nil => intro i k h; simp at h
  | cons z Z ih =>
    intro i k hi hk
    rw [List.flatMap_cons, List.getD_eq_getElem?_getD]
    cases i with
    | zero =>
      rw [List.getElem?_append_left (by rw [beN_len]; omega), beN_four]
      match k, hk with
      | 0, _ => rfl
      | 1, _ => rfl
      | 2, _ => rfl
      | 3, _ => simp
    | succ i =>
      rw [List.getElem?_append_right (by rw [beN_len]; omega), beN_len, show 4 * (i + 1) + k - 4 = 4 * i + k by omega, ← List.getD_eq_getElem?_getD, ih i k (by simpa using hi) hk]
      rfl

set_option maxRecDepth 100000 in
set_option maxHeartbeats 1000000 in
theorem digestof_any (Z : List Nat) (w : World) (hZ : Z.length = 8) :
    Calls Tryd.prog 34 #[.agg (u32v Z)] w fun e w' => e = .returned (.string (strOf (Z.flatMap (beN 4)))) ∧ Below w.heap.size w w' := by
  obtain ⟨D, hD⟩ : ∃ D, Z.flatMap (beN 4) = D := ⟨_, rfl⟩
  have HD : Hid (∀ i k, i < 8 → k < 4 → D.getD (4 * i + k) 0 = UInt8.ofNat (Z.getD i 0 / 256 ^ (3 - k) % 256)) := by
    intro i k hi hk; rw [← hD]; exact bytes_at Z i k (by omega) hk
  have HDL : Hid (D.length = 32) := by show D.length = 32; rw [← hD, bytes_len, hZ]
  have HZ : Hid (Z.length = 8) := hZ
  rw [hD]
  have HIX : Hid (∀ (t : Nat) (W : World), t < 8 → (Instr.index 63 (.agg (u32v Z)) (.int .i64 (t : Int))).run Tryd.prog W = .ok (.int .u32 ((Z.getD t 0 : Nat) : Int)) W) := fun t W ht => run_index8 Z hZ t ht W
  have HST : Hid (DigW w.heap.size w (List.replicate 32 0) ((w.alloc (.cells (u32v Z) 63)).alloc (.cells (u8v (List.replicate 32 0)) 76))) := DigW.start w _ _
  have HROW : Hid (∀ X : Array Value, ((w.alloc (.cells (u32v Z) 63)).alloc (.cells X 76)).heap[w.heap.size]? = some (.cells (u32v Z) 63 (0, 0))) := by
    intro X
    rw [Go.heap_alloc_old _ _ (by simp)]; exact heap_alloc_new _ _
  have HI : Hid ((Tryd.prog.info? 63).map (·.size) = some (u32v Z).size) := by show _ = _; rw [u32v_size, hZ]; kernel_rfl
  clear hD hZ
  go_enter Tryd.func34, Tryd.ntmps34
  go_wp2_with (refine wpList_load_row rfl 63 _ rfl w.heap.size rfl 63 (u32v Z) (0, 0) _ (HROW.out _) Tryd.underlying63 rfl HI.out ?_)
  go_loopw [8] (fun i wr => ∃ t : Nat, t ≤ 8 ∧ i = .int .i64 t ∧ DigW w.heap.size w (D.take (4 * t) ++ List.replicate (32 - 4 * t) 0) wr) (fun i _ => 8 - (intOf i).toNat)
  case atStart => exact ⟨0, by omega, rfl, HST.out⟩
  case round =>
    clear HST
    obtain ⟨t, ht, rfl, hrel⟩ := hrel
    by_cases hlt : t < 8
    · obtain ⟨y, hy⟩ : ∃ y, Z.getD t 0 = y := ⟨_, rfl⟩
      have HIX' := HIX.out t
      rw [hy] at HIX'
      have HIX2 : Hid (∀ W : World, (Instr.index 63 (.agg (u32v Z)) (.int .i64 (t : Int))).run Tryd.prog W = .ok (.int .u32 (y : Int)) W) := fun W => HIX' W hlt
      have kt : (t : Int) < 8 := by omega
      obtain ⟨p, hp⟩ : ∃ p, p = 4 * t := ⟨_, rfl⟩
      have hpi : (4 : Int) * (t : Int) = (p : Int) := by omega
      rw [← hp] at hrel
      have HDY : Hid (∀ k, k < 4 → D.getD (p + k) 0 = UInt8.ofNat (y / 256 ^ (3 - k) % 256)) := by
        intro k hk; rw [hp, HD.out t k hlt hk, hy]
      have HP : Hid (p = 4 * t) := hp
      have hp28 : p ≤ 28 := by omega
      have HR : Hid (DigW w.heap.size w (D.take p ++ List.replicate (32 - p) 0) wr) := hrel
      clear hrel HIX' hy hp
      go_wp2_with (simp only [HIX2.out])
      go_loopw [12] (fun i wr => ∃ k : Nat, k ≤ 4 ∧ i = .int .i64 k ∧ DigW w.heap.size w (D.take (p + k) ++ List.replicate (32 - (p + k)) 0) wr) (fun i _ => 4 - (intOf i).toNat)
      case atStart => exact ⟨0, by omega, rfl, HR.out⟩
      case round =>
        clear HR
        obtain ⟨k, hk, rfl, hrel⟩ := hrel
        by_cases hlt4 : k < 4
        · obtain ⟨j, hj⟩ : ∃ j, j = p + k := ⟨_, rfl⟩
          have hji : (p : Int) + (k : Int) = (j : Int) := by omega
          obtain ⟨m, hm⟩ : ∃ m, m = 8 * (k + 1) := ⟨_, rfl⟩
          have hmi : (8 : Int) * ((k : Int) + 1) = (m : Int) := by omega
          obtain ⟨c, hc⟩ : ∃ c, c = 32 - m := ⟨_, rfl⟩
          have hci : (32 : Int) - (m : Int) = (c : Int) := by omega
          obtain ⟨q, hq⟩ : ∃ q, q = y / 2 ^ c := ⟨_, rfl⟩
          have hqi : (y : Int) / 2 ^ c = (q : Int) := by rw [hq]; simp
          have HB : Hid (D.getD j 0 = UInt8.ofNat (q % 256)) := by
            rw [hj, HDY.out k hlt4, hq, show (256 : Nat) ^ (3 - k) = 2 ^ c by rw [show (256 : Nat) = 2 ^ 8 from rfl, ← Nat.pow_mul, show 8 * (3 - k) = c by omega]]
            rfl
          rw [← hj] at hrel
          obtain ⟨v, hv⟩ : ∃ v : Nat, ((D.take j ++ List.replicate (32 - j) 0).getD j 0).toNat = v := ⟨_, rfl⟩
          have cj : wr.cell? ⟨w.heap.size + 1, j, none⟩ = some (.int .u8 (v : Int)) := hv ▸ hrel.cell j (by simp [HDL.out]; omega)
          have fj := hrel.fro j
          have kj : (j : Int) < 32 := by omega
          have hc24 : c ≤ 24 := by omega
          have hm32 : m ≤ 32 := by omega
          have HJ : Hid (j = p + k) := hj
          have HR : Hid (DigW w.heap.size w (D.take j ++ List.replicate (32 - j) 0) wr) := hrel
          clear hrel hv hq hj hm hc
          go_wp2
          refine ⟨⟨k + 1, by omega, by go_num, ?_⟩, by simp [intOf]; omega⟩
          have h := HR.out.put j (UInt8.ofNat (q % 256))
          rw [← HB.out, take_set8 D 32 j HDL.out (by omega), HB.out, show (((UInt8.ofNat (q % 256)).toNat : Nat) : Int) = (q : Int) % 256 by rw [UInt8.toNat_ofNat']; omega] at h
          rw [show p + (k + 1) = j + 1 by have := HJ.out; omega]
          exact h
        · obtain rfl : k = 4 := by omega
          have HR : Hid (DigW w.heap.size w (D.take (p + 4) ++ List.replicate (32 - (p + 4)) 0) wr) := hrel
          clear hrel
          go_wp2
          refine ⟨⟨t + 1, by omega, by go_num, ?_⟩, by simp [intOf]; omega⟩
          rw [show 4 * (t + 1) = p + 4 by have := HP.out; omega]
          exact HR.out
    · obtain rfl : t = 8 := by omega
      have e : D.take (4 * 8) ++ List.replicate (32 - 4 * 8) 0 = D := by rw [List.take_of_length_le (by rw [HDL.out]; omega)]; simp
      rw [e] at hrel
      have hcv : (convert 29 9 (.slice (some ⟨w.heap.size + 1, 0, none⟩) 32 32)).run Tryd.prog wr = .ok (.string (strOf D)) wr :=
        conv_row wr (w.heap.size + 1) 0 32 32 D HDL.out (fun i hi => by rw [Nat.zero_add]; exact hrel.cell i (by rw [HDL.out]; exact hi))
      have HB : Hid (Below w.heap.size w wr) := hrel.bl
      clear hrel e
      go_wp2
      go_ret
      exact ⟨rfl, HB.out⟩
end Go.Proofs.YtbflkkffpcaakabDoor
