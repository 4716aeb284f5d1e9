/- Walk over the program's digestBehind. -/
import Derived.Test.YtbflkkffpcaakabDoorCA
import Derived.Laws.IdiomStrings
namespace Go.Proofs.YtbflkkffpcaakabDoor
open Go.RowKit
/-- '[]byte(s)': the bytes lie in a new row. -/
theorem bytes_of (w : World) (s : ByteArray) (hs : s.size ≤ 9223372036854775807) :
    ∃ cap W, (convert 9 29 (.string s)).run Tryd.prog w = .ok (.slice (some ⟨w.heap.size, 0, none⟩) s.size cap) W ∧ s.size ≤ cap ∧ cap ≤ 9223372036854775807 ∧ Below w.heap.size w W ∧ w.heap.size < W.heap.size ∧
      ∀ i, i < s.size → W.cell? ⟨w.heap.size, i, none⟩ = some (.int .u8 (((s.data.toList.getD i 0).toNat : Nat) : Int)) := by
  refine ⟨_, _, run_bytes_of_string w 9 29 5 s Tryd.underlying9 Tryd.underlying29 Tryd.underlying5, grownCap_ge _ _ _ _, grownCap_le_maxLen _ _ _ _ (by simpa [maxLen] using hs), ?_, ?_, ?_⟩
  · exact (Below.refl _ w).drew.alloc (Nat.le_refl _) _
  · simp [World.alloc, World.drew, -World.alloc_eq, -World.drew_eq]
  · intro i hi
    have hi' : i < s.data.size := hi
    rw [cell_of_row _ w.heap.size i _ _ _ (heap_alloc_new w.drew _)]
    unfold bytesRow
    rw [Array.getElem?_append_left (by simpa using hi'), Array.getElem?_map, Array.getElem?_eq_getElem hi', List.getD_eq_getElem?_getD, Array.getElem?_toList, Array.getElem?_eq_getElem hi']
    rfl

set_option maxRecDepth 100000 in
set_option maxHeartbeats 1000000 in
theorem behind_any (b : List UInt8) (m : Nat) (t : ByteArray) (w : World) (hb : b.length = 64) (hm : m < 256) (ht : t.size ≤ 1000000000) (hL : Laid w) :
    Calls Tryd.prog 27 #[.agg (u8v b), .int .u8 (m : Int), .string t] w fun e w' => e = .returned (.string (strOf (behind b (UInt8.ofNat m) t.data.toList))) ∧ Below w.heap.size w w' := by
  have HST : Hid (RowW 43 w.heap.size w (xorTo b (UInt8.ofNat m) 0) (w.alloc (.cells (u8v b) 43))) := by rw [xorTo_0]; exact RowW.start 43 w b
  have HN : Hid (∀ wr, Laid wr → Calls Tryd.prog 31 #[] wr fun e w' => e = .returned (.pointer (some ⟨wr.heap.size, 0, none⟩)) ∧ HashIs w' wr.heap.size [] ∧ Below wr.heap.size wr w') := fun wr h => new_any wr h
  have HL : Hid (Laid w) := hL
  have h2 : 3 ≤ w.heap.size := hL.lt
  have HLB : Hid (b.length = 64) := hb
  clear hL hb
  go_enter Tryd.func27, Tryd.ntmps27
  go_wp2
  go_loopw [9] (fun i wr => ∃ k : Nat, k ≤ 64 ∧ i = .int .i64 k ∧ RowW 43 w.heap.size w (xorTo b (UInt8.ofNat m) k) wr) (fun i _ => 64 - (intOf i).toNat)
  case atStart => exact ⟨0, by omega, rfl, HST.out⟩
  case round =>
    clear HST
    obtain ⟨k, hk, rfl, hrel⟩ := hrel
    by_cases hlt : k < 64
    · obtain ⟨x, hx⟩ : ∃ x : Nat, (b.getD k 0).toNat = x := ⟨_, rfl⟩
      have hx256 : x < 256 := by rw [← hx]; exact (b.getD k 0).toNat_lt
      have ck : wr.cell? ⟨w.heap.size, k, none⟩ = some (.int .u8 (x : Int)) := by rw [hrel.cell k (by rw [xorTo_len, HLB.out]; exact hlt), xorTo_at _ _ _ (by rw [HLB.out]; exact hlt), hx]
      have fk := hrel.fro k
      have kk : (k : Int) < 64 := by omega
      obtain ⟨y, hy⟩ : ∃ y : Nat, x ^^^ m = y := ⟨_, rfl⟩
      have hxy : bits BinOp.xor IntKind.u8 (x : Int) (m : Int) = (y : Int) := by rw [u8_xor_nat x m hx256 hm, hy]
      have HY : Hid ((b.getD k 0 ^^^ UInt8.ofNat m).toNat = y) := by
        show _ = _
        rw [UInt8.toNat_xor, hx, UInt8.toNat_ofNat', Nat.mod_eq_of_lt (by omega), hy]
      have HR : Hid (RowW 43 w.heap.size w (xorTo b (UInt8.ofNat m) k) wr) := hrel
      clear hrel hx hy
      go_wp2
      refine ⟨⟨k + 1, by omega, by go_num, ?_⟩, by simp [intOf]; omega⟩
      have h := HR.out.put k (b.getD k 0 ^^^ UInt8.ofNat m)
      rw [xorTo_step _ _ _ (by rw [HLB.out]; exact hlt), HY.out] at h
      exact h
    · obtain rfl : k = 64 := by omega
      have hX : RowW 43 w.heap.size w (xorB b (UInt8.ofNat m)) wr := by rw [← xorTo_end b _ 64 HLB.out]; exact hrel
      have HR : Hid (RowW 43 w.heap.size w (xorB b (UInt8.ofNat m)) wr) := hX
      have hwr : w.heap.size < wr.heap.size := lt_of_some hX.c
      have HLW : Hid (Laid wr) := HL.out.below hX.bl
      have HC := (HN.out wr HLW.out)
      clear hrel hX
      go_wp2_with fail
      refine HC.mono ?_
      rintro e w2 ⟨rfl, hH2, hB2⟩
      have hs2 := hB2.size
      have HW1 : Hid (Calls Tryd.prog 29 #[.pointer (some ⟨wr.heap.size, 0, none⟩), .slice (some ⟨w.heap.size, 0, none⟩) 64 64] w2 fun e w3 => e = .returned (.tuple #[]) ∧ HashIs w3 wr.heap.size (xorB b (UInt8.ofNat m)) ∧ Below w.heap.size w w3 ∧ wr.heap.size < w3.heap.size) := by
        refine (write_any wr.heap.size [] (some ⟨w.heap.size, 0, none⟩) 64 64 (xorB b (UInt8.ofNat m)) w2 (by omega) hH2 ⟨by rw [xorB_len, HLB.out], by omega, by omega, fun _ => ⟨w.heap.size, 0, rfl, by omega, by omega, fun i hi => ?_⟩⟩ (by simp [xorB_len, HLB.out]) (HLW.out.below hB2)).mono ?_
        · rw [Nat.zero_add, hB2.cell hwr]; exact HR.out.cell i (by rw [xorB_len, HLB.out]; exact hi)
        · rintro e w3 ⟨rfl, hH3, hO3⟩
          exact ⟨rfl, hH3, Below.only (HR.out.bl.trans (hB2.mono (by omega))) (by omega) (by omega) hO3, hH3.lt⟩
      clear hH2 hB2 HN HC
      go_wp2_with fail
      refine HW1.out.mono ?_
      rintro e w3 ⟨rfl, hH3, hB3, hlt3⟩
      obtain ⟨cap, W4, hcv, hc1, hc2, hB4, hs4, hcl⟩ := bytes_of w3 t (by omega)
      have HW2 : Hid (Calls Tryd.prog 29 #[.pointer (some ⟨wr.heap.size, 0, none⟩), .slice (some ⟨w3.heap.size, 0, none⟩) t.size cap] W4 fun e w5 => e = .returned (.tuple #[]) ∧ HashIs w5 wr.heap.size (xorB b (UInt8.ofNat m) ++ t.data.toList) ∧ Below w.heap.size w w5) := by
        refine (write_any wr.heap.size (xorB b (UInt8.ofNat m)) (some ⟨w3.heap.size, 0, none⟩) t.size cap t.data.toList W4 (by omega) (hH3.keep (hB4.block _ hlt3)) ⟨by rw [Array.length_toList]; rfl, hc1, hc2, fun _ => ⟨w3.heap.size, 0, rfl, by omega, hs4, fun i hi => by rw [Nat.zero_add]; exact hcl i hi⟩⟩ ?_ (HL.out.below (hB3.trans (hB4.mono hB3.size)))).mono ?_
        · rw [xorB_len, HLB.out, Array.length_toList]; have : t.data.size = t.size := rfl; omega
        · rintro e w5 ⟨rfl, hH5, hO5⟩
          exact ⟨rfl, hH5, Below.only (hB3.trans (hB4.mono hB3.size)) (by omega) (by omega) hO5⟩
      have HS : Hid (∀ w5, HashIs w5 wr.heap.size (xorB b (UInt8.ofNat m) ++ t.data.toList) → Below w.heap.size w w5 → Calls Tryd.prog 30 #[.pointer (some ⟨wr.heap.size, 0, none⟩)] w5 fun e w6 => e = .returned (.string (strOf (behind b (UInt8.ofNat m) t.data.toList))) ∧ Below w.heap.size w w6) := by
        intro w5 hH5 hB5
        refine (hsum_any wr.heap.size _ w5 hH5 ?_ (HL.out.below hB5)).mono ?_
        · rw [List.length_append, xorB_len, HLB.out, Array.length_toList]; have : t.data.size = t.size := rfl; omega
        · rintro e w6 ⟨rfl, hB6⟩
          exact ⟨rfl, hB5.trans (hB6.mono hB5.size)⟩
      clear hH3 hB3 hc1 hc2 hB4 hs4 hcl hlt3 HW1
      go_wp2_with fail
      refine HW2.out.mono ?_
      rintro e w5 ⟨rfl, hH5, hB5⟩
      have HS5 := HS.out w5 hH5 hB5
      clear hH5 hB5 HS HW2 hcv
      go_wp2_with fail
      refine HS5.mono ?_
      rintro e w6 ⟨rfl, hB6⟩
      go_wp2
      go_ret
      exact ⟨rfl, hB6⟩
end Go.Proofs.YtbflkkffpcaakabDoor
