/- Rows of bytes; the program's Pad. -/
import Derived.Test.YtbflkkffpcaakabDoorQ
import Derived.Test.YtbflkkffpcaakabDoorH
import Derived.Laws.MakeOwn
namespace Go.Proofs.YtbflkkffpcaakabDoor
open Go.RowKit
/-- Bytes as cells. -/
def u8v (l : List UInt8) : Array Value := (l.map fun (x : UInt8) => Value.int .u8 (x.toNat : Int)).toArray
theorem u8v_size (l : List UInt8) : (u8v l).size = l.length := by simp [u8v]
theorem u8v_get (l : List UInt8) (i : Nat) (h : i < l.length) : (u8v l)[i]? = some (.int .u8 (((l.getD i 0).toNat : Nat) : Int)) := by
  simp [u8v, List.getElem?_eq_getElem h]
theorem u8v_set (l : List UInt8) (i : Nat) (x : UInt8) : (u8v l).setIfInBounds i (.int .u8 (x.toNat : Int)) = u8v (l.set i x) := by
  simp [u8v, List.map_set]
theorem u8v_all (l : List UInt8) : ∀ v ∈ (u8v l).toList, v.oneCell' = true := by
  intro v hv
  simp only [u8v, List.mem_map] at hv
  obtain ⟨x, _, rfl⟩ := hv
  rfl
theorem u8v_made (n : Nat) : madeCells #[Value.int .u8 0] n = u8v (List.replicate n 0) := by
  apply Array.ext
  · simp [madeCells, u8v]
  · intro i h1 h2
    simp [madeCells, u8v, Nat.mod_one]
structure PadW (g : Nat) (w0 : World) (l : List UInt8) (wr : World) : Prop where
  c : wr.heap[g]? = some (.cells (u8v l) 5 (0, 0))
  bl : Below g w0 wr
theorem PadW.start (w : World) (l : List UInt8) : PadW w.heap.size w l (w.alloc (.cells (u8v l) 5)) := ⟨heap_alloc_new _ _, (Below.refl _ _).alloc (Nat.le_refl _) _⟩
section
variable {g : Nat} {w0 wr : World} {l : List UInt8}
theorem PadW.cell (h : PadW g w0 l wr) (i : Nat) (hi : i < l.length) : wr.cell? ⟨g, i, none⟩ = some (.int .u8 (((l.getD i 0).toNat : Nat) : Int)) := by
  rw [cell_of_row wr g i _ _ _ h.c, u8v_get l i hi]
theorem PadW.fro (h : PadW g w0 l wr) (i : Nat) : wr.frozen? ⟨g, i, none⟩ = false := frozen_of_row wr g i _ _ h.c
theorem PadW.put (h : PadW g w0 l wr) (i : Nat) (x : UInt8) : PadW g w0 (l.set i x) (wr.setCell ⟨g, i, none⟩ (.int .u8 (x.toNat : Int))) := by
  refine ⟨?_, ?_⟩
  · rw [heap_setCell_same wr g i _ _ _ h.c, u8v_set]
  · exact h.bl.setCell (Nat.le_refl _) _
theorem PadW.drew (h : PadW g w0 l wr) : PadW g w0 l wr.drew := ⟨h.c, h.bl.drew⟩
end
/-- A padding with i bytes of its count. -/
def padTo (z m i : Nat) : List UInt8 := 128 :: List.replicate z 0 ++ (List.replicate (8 - i) 0 ++ beN i m)
theorem padTo_len (z m i : Nat) (hi : i ≤ 8) : (padTo z m i).length = z + 9 := by simp [padTo, beN_len]; omega
theorem padTo_step (z m i : Nat) (hi : i < 8) : (padTo z m i).set (z + 8 - i) (UInt8.ofNat (m / 256 ^ i % 256)) = padTo z m (i + 1) := by
  unfold padTo
  have e : List.replicate (8 - i) (0 : UInt8) = List.replicate (8 - (i + 1)) 0 ++ [0] := by
    rw [show 8 - i = (8 - (i + 1)) + 1 by omega, List.replicate_succ']
  rw [e, beN_front, List.append_assoc (List.replicate (8 - (i + 1)) 0), ← List.append_assoc, List.singleton_append]
  rw [List.set_append_right _ _ (by simp; omega)]
  have : z + 8 - i - (128 :: List.replicate z (0 : UInt8) ++ List.replicate (8 - (i + 1)) 0).length = 0 := by simp; omega
  rw [this, List.set_cons_zero, List.append_assoc]
theorem padTo_8 (n : Nat) : padTo (padZ n) (n * 8 % 18446744073709551616) 8 = padL n := by simp [padTo, padL]
theorem padTo_0 (z m : Nat) : padTo z m 0 = (List.replicate (z + 9) 0).set 0 128 := by
  unfold padTo
  rw [show z + 9 = (z + 8) + 1 by omega, List.replicate_succ (n := z + 8), List.set_cons_zero]
  have e : List.replicate z (0 : UInt8) ++ List.replicate 8 0 = List.replicate (z + 8) 0 := List.replicate_append_replicate
  rw [← e]
  simp [beN]

set_option maxRecDepth 100000 in
set_option maxHeartbeats 800000 in
theorem pad_is (n : Nat) (w : World) (hn : n ≤ 9223372036854775807) :
    Calls Tryd.prog 33 #[.int .i64 (n : Int)] w fun e w' => e = .returned (.slice (some ⟨w.heap.size, 0, none⟩) (padL n).length (padL n).length) ∧ PadW w.heap.size w (padL n) w' := by
  obtain ⟨z, hz⟩ : ∃ z, z = padZ n := ⟨_, rfl⟩
  obtain ⟨m, hm⟩ : ∃ m, m = n * 8 % 18446744073709551616 := ⟨_, rfl⟩
  have HL : Hid (padL n = padTo z m 8) := by rw [hz, hm]; exact (padTo_8 n).symm
  have hz' : z = (119 - n % 64) % 64 := hz
  have hzi : (119 - (n : Int) % 64) % 64 = (z : Int) := by omega
  have hmi : IntKind.u64.wrap ((n : Int) * 8) = (m : Int) := by rw [IntKind.wrap_u64]; omega
  have hz63 : z ≤ 63 := by omega
  have hll : (padL n).length = z + 9 := by rw [HL.out, padTo_len z m 8 (by omega)]
  have hmk : (Instr.makeSlice 29 (.int .i64 (1 + (z : Int) + 8)) (.int .i64 (1 + (z : Int) + 8))).run Tryd.prog w = .ok (.slice (some ⟨w.heap.size, 0, none⟩) (z + 9) (z + 9)) (w.alloc (.cells (u8v (List.replicate (z + 9) 0)) 5)) := by
    have := run_make (P := Tryd.prog) w 29 5 _ (.int .u8 0) Tryd.underlying29 rfl rfl .i64 .i64 (1 + (z : Int) + 8) (1 + (z : Int) + 8) (by omega) (by omega) (by show (1 : Int) * _ ≤ _; omega) (by omega)
    rw [this, show (1 + (z : Int) + 8).toNat = z + 9 by omega, ← u8v_made, show Tryd.prog.types[5].size = 1 from rfl, Nat.mul_one]
    rfl
  rw [hll, HL.out]
  clear hz hm hz' hll
  have hneg : ¬ (n : Int) < 0 := by omega
  have c0 := (PadW.start w (List.replicate (z + 9) 0)).cell 0 (by simp)
  have f0 := (PadW.start w (List.replicate (z + 9) 0)).fro 0
  have HS : Hid (PadW w.heap.size w (padTo z m 0) (w.alloc (.cells ((u8v (List.replicate (z + 9) 0)).setIfInBounds 0 (.int .u8 128)) 5))) := by
    have e := u8v_set (List.replicate (z + 9) 0) 0 128
    rw [← padTo_0 z m] at e
    have := PadW.start w (padTo z m 0)
    rw [← e] at this
    exact this
  go_enter Tryd.func33, Tryd.ntmps33
  go_wp2_with (simp only [hmk])
  go_loopw [22] (fun i wr => ∃ t : Nat, t ≤ 8 ∧ i = .int .i64 t ∧ PadW w.heap.size w (padTo z m t) wr) (fun i _ => 8 - (intOf i).toNat)
  case atStart => exact ⟨0, by omega, rfl, HS.out⟩
  case round =>
    obtain ⟨t, ht, rfl, hrel⟩ := hrel
    clear HS c0 f0 hmk
    by_cases hlt : t < 8
    · obtain ⟨k, hk⟩ : ∃ k, k = z + 8 - t := ⟨_, rfl⟩
      obtain ⟨v, hv⟩ : ∃ v : Nat, ((padTo z m t).getD k 0).toNat = v := ⟨_, rfl⟩
      have ck : wr.cell? ⟨w.heap.size, k, none⟩ = some (.int .u8 (v : Int)) := hv ▸ hrel.cell k (by rw [padTo_len z m t (by omega)]; omega)
      have fk := hrel.fro k
      obtain ⟨c, hc⟩ : ∃ c, c = 8 * t := ⟨_, rfl⟩
      have hci : (8 : Int) * (t : Int) = (c : Int) := by omega
      obtain ⟨q, hq⟩ : ∃ q, q = m / 2 ^ c := ⟨_, rfl⟩
      have hqi : (m : Int) / 2 ^ c = (q : Int) := by rw [hq]; simp
      have hki : (z : Int) + 9 - 1 - (t : Int) = (k : Int) := by omega
      have hk9 : k < z + 9 := by omega
      have hc56 : c ≤ 56 := by omega
      have HST : Hid ((padTo z m t).set k (UInt8.ofNat (q % 256)) = padTo z m (t + 1)) := by
        have := padTo_step z m t hlt
        rw [← hk, show 256 ^ t = 2 ^ c by rw [hc, Nat.pow_mul], ← hq] at this
        exact this
      have HR : Hid (PadW w.heap.size w (padTo z m t) wr) := hrel
      clear hrel hq hv hk hc
      go_wp2
      refine ⟨⟨t + 1, by omega, by go_num, ?_⟩, by simp [intOf]; omega⟩
      have h := HR.out.put k (UInt8.ofNat (q % 256))
      rw [HST.out, show (((UInt8.ofNat (q % 256)).toNat : Nat) : Int) = (q : Int) % 256 by rw [UInt8.toNat_ofNat']; omega] at h
      exact h
    · obtain rfl : t = 8 := by omega
      have HR : Hid (PadW w.heap.size w (padTo z m 8) wr) := hrel
      clear hrel
      go_wp2
      go_ret
      exact ⟨rfl, HR.out⟩

set_option maxRecDepth 100000 in
theorem pad_none (n : Int) (w : World) (hn : n < 0) :
    Calls Tryd.prog 33 #[.int .i64 n] w fun e w' => e = .returned (.slice none 0 0) ∧ w' = w := by
  go_enter Tryd.func33, Tryd.ntmps33
  go_wp2
  go_ret
  exact ⟨rfl, rfl⟩
end Go.Proofs.YtbflkkffpcaakabDoor
