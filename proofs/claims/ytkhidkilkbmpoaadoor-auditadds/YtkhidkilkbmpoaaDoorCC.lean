/- Walk over the program's digestBehind. Walk over the program's keyBlock. -/
import Derived.Test.YtkhidkilkbmpoaaDoorCA
import Derived.Laws.IdiomStrings
import Derived.Lib.BufferWrite
namespace Go.Proofs.YtkhidkilkbmpoaaDoor
open Go.RowKit
/-- '[]byte(s)': the bytes lie in a new row. -/
theorem bytes_of (w : World) (s : ByteArray) (hs : s.size ≤ 9223372036854775807) :
    ∃ cap W, (convert 9 45 (.string s)).run Tryd.prog w = .ok (.slice (some ⟨w.heap.size, 0, none⟩) s.size cap) W ∧ s.size ≤ cap ∧ cap ≤ 9223372036854775807 ∧ Below w.heap.size w W ∧ w.heap.size < W.heap.size ∧
      ∀ i, i < s.size → W.cell? ⟨w.heap.size, i, none⟩ = some (.int .u8 (((s.data.toList.getD i 0).toNat : Nat) : Int)) := by
  refine ⟨_, _, run_bytes_of_string w 9 45 5 s Tryd.underlying9 Tryd.underlying45 Tryd.underlying5, grownCap_ge _ _ _ _, grownCap_le_maxLen _ _ _ _ (by simpa [maxLen] using hs), ?_, ?_, ?_⟩
  · exact (Below.refl _ w).drew.alloc (Nat.le_refl _) _
  · simp [World.alloc, World.drew, -World.alloc_eq, -World.drew_eq]
  · intro i hi
    have hi' : i < s.data.size := hi
    rw [cell_of_row _ w.heap.size i _ _ _ (heap_alloc_new w.drew _)]
    unfold bytesRow
    rw [Array.getElem?_append_left (by simpa using hi'), Array.getElem?_map, Array.getElem?_eq_getElem hi', List.getD_eq_getElem?_getD, Array.getElem?_toList, Array.getElem?_eq_getElem hi']
    rfl

set_option maxRecDepth 100000 in
set_option maxHeartbeats 1000000 in
theorem behind_any (b : List UInt8) (m : Nat) (t : ByteArray) (w : World) (hb : b.length = 64) (hm : m < 256) (ht : t.size ≤ 1000000000) (hL : Laid w) :
    Calls Tryd.prog 55 #[.agg (u8v b), .int .u8 (m : Int), .string t] w fun e w' => e = .returned (.string (strOf (behind b (UInt8.ofNat m) t.data.toList))) ∧ Below w.heap.size w w' := by
  have HST : Hid (RowW 60 w.heap.size w (xorTo b (UInt8.ofNat m) 0) (w.alloc (.cells (u8v b) 60))) := by rw [xorTo_0]; exact RowW.start 60 w b
  have HN : Hid (∀ wr, Laid wr → Calls Tryd.prog 73 #[] wr fun e w' => e = .returned (.pointer (some ⟨wr.heap.size, 0, none⟩)) ∧ HashIs w' wr.heap.size [] ∧ Below wr.heap.size wr w') := fun wr h => new_any wr h
  have HL : Hid (Laid w) := hL
  have h2 : 3 ≤ w.heap.size := hL.lt
  have HLB : Hid (b.length = 64) := hb
  clear hL hb
  go_enter Tryd.func55, Tryd.ntmps55
  go_wp2
  go_loopw [9] (fun i wr => ∃ k : Nat, k ≤ 64 ∧ i = .int .i64 k ∧ RowW 60 w.heap.size w (xorTo b (UInt8.ofNat m) k) wr) (fun i _ => 64 - (intOf i).toNat)
  case atStart => exact ⟨0, by omega, rfl, HST.out⟩
  case round =>
    clear HST
    obtain ⟨k, hk, rfl, hrel⟩ := hrel
    by_cases hlt : k < 64
    · obtain ⟨x, hx⟩ : ∃ x : Nat, (b.getD k 0).toNat = x := ⟨_, rfl⟩
      have hx256 : x < 256 := by rw [← hx]; exact (b.getD k 0).toNat_lt
      have ck : wr.cell? ⟨w.heap.size, k, none⟩ = some (.int .u8 (x : Int)) := by rw [hrel.cell k (by rw [xorTo_len, HLB.out]; exact hlt), xorTo_at _ _ _ (by rw [HLB.out]; exact hlt), hx]
      have fk := hrel.fro k
      have kk : (k : Int) < 64 := by omega
      obtain ⟨y, hy⟩ : ∃ y : Nat, x ^^^ m = y := ⟨_, rfl⟩
      have hxy : bits BinOp.xor IntKind.u8 (x : Int) (m : Int) = (y : Int) := by rw [u8_xor_nat x m hx256 hm, hy]
      have HY : Hid ((b.getD k 0 ^^^ UInt8.ofNat m).toNat = y) := by
        show _ = _
        rw [UInt8.toNat_xor, hx, UInt8.toNat_ofNat', Nat.mod_eq_of_lt (by omega), hy]
      have HR : Hid (RowW 60 w.heap.size w (xorTo b (UInt8.ofNat m) k) wr) := hrel
      clear hrel hx hy
      go_wp2
      refine ⟨⟨k + 1, by omega, by go_num, ?_⟩, by simp [intOf]; omega⟩
      have h := HR.out.put k (b.getD k 0 ^^^ UInt8.ofNat m)
      rw [xorTo_step _ _ _ (by rw [HLB.out]; exact hlt), HY.out] at h
      exact h
    · obtain rfl : k = 64 := by omega
      have hX : RowW 60 w.heap.size w (xorB b (UInt8.ofNat m)) wr := by rw [← xorTo_end b _ 64 HLB.out]; exact hrel
      have HR : Hid (RowW 60 w.heap.size w (xorB b (UInt8.ofNat m)) wr) := hX
      have hwr : w.heap.size < wr.heap.size := lt_of_some hX.c
      have HLW : Hid (Laid wr) := HL.out.below hX.bl
      have HC := (HN.out wr HLW.out)
      clear hrel hX
      go_wp2_with fail
      refine HC.mono ?_
      rintro e w2 ⟨rfl, hH2, hB2⟩
      have hs2 := hB2.size
      have HW1 : Hid (Calls Tryd.prog 74 #[.pointer (some ⟨wr.heap.size, 0, none⟩), .slice (some ⟨w.heap.size, 0, none⟩) 64 64] w2 fun e w3 => e = .returned (.tuple #[]) ∧ HashIs w3 wr.heap.size (xorB b (UInt8.ofNat m)) ∧ Below w.heap.size w w3 ∧ wr.heap.size < w3.heap.size) := by
        refine (write_any wr.heap.size [] (some ⟨w.heap.size, 0, none⟩) 64 64 (xorB b (UInt8.ofNat m)) w2 (by omega) hH2 ⟨by rw [xorB_len, HLB.out], by omega, by omega, fun _ => ⟨w.heap.size, 0, rfl, by omega, by omega, fun i hi => ?_⟩⟩ (by simp [xorB_len, HLB.out]) (HLW.out.below hB2)).mono ?_
        · rw [Nat.zero_add, hB2.cell hwr]; exact HR.out.cell i (by rw [xorB_len, HLB.out]; exact hi)
        · rintro e w3 ⟨rfl, hH3, hO3⟩
          exact ⟨rfl, hH3, Below.only (HR.out.bl.trans (hB2.mono (by omega))) (by omega) (by omega) hO3, hH3.lt⟩
      clear hH2 hB2 HN HC
      go_wp2_with fail
      refine HW1.out.mono ?_
      rintro e w3 ⟨rfl, hH3, hB3, hlt3⟩
      obtain ⟨cap, W4, hcv, hc1, hc2, hB4, hs4, hcl⟩ := bytes_of w3 t (by omega)
      have HW2 : Hid (Calls Tryd.prog 74 #[.pointer (some ⟨wr.heap.size, 0, none⟩), .slice (some ⟨w3.heap.size, 0, none⟩) t.size cap] W4 fun e w5 => e = .returned (.tuple #[]) ∧ HashIs w5 wr.heap.size (xorB b (UInt8.ofNat m) ++ t.data.toList) ∧ Below w.heap.size w w5) := by
        refine (write_any wr.heap.size (xorB b (UInt8.ofNat m)) (some ⟨w3.heap.size, 0, none⟩) t.size cap t.data.toList W4 (by omega) (hH3.keep (hB4.block _ hlt3)) ⟨by rw [Array.length_toList]; rfl, hc1, hc2, fun _ => ⟨w3.heap.size, 0, rfl, by omega, hs4, fun i hi => by rw [Nat.zero_add]; exact hcl i hi⟩⟩ ?_ (HL.out.below (hB3.trans (hB4.mono hB3.size)))).mono ?_
        · rw [xorB_len, HLB.out, Array.length_toList]; have : t.data.size = t.size := rfl; omega
        · rintro e w5 ⟨rfl, hH5, hO5⟩
          exact ⟨rfl, hH5, Below.only (hB3.trans (hB4.mono hB3.size)) (by omega) (by omega) hO5⟩
      have HS : Hid (∀ w5, HashIs w5 wr.heap.size (xorB b (UInt8.ofNat m) ++ t.data.toList) → Below w.heap.size w w5 → Calls Tryd.prog 75 #[.pointer (some ⟨wr.heap.size, 0, none⟩)] w5 fun e w6 => e = .returned (.string (strOf (behind b (UInt8.ofNat m) t.data.toList))) ∧ Below w.heap.size w w6) := by
        intro w5 hH5 hB5
        refine (hsum_any wr.heap.size _ w5 hH5 ?_ (HL.out.below hB5)).mono ?_
        · rw [List.length_append, xorB_len, HLB.out, Array.length_toList]; have : t.data.size = t.size := rfl; omega
        · rintro e w6 ⟨rfl, hB6⟩
          exact ⟨rfl, hB5.trans (hB6.mono hB5.size)⟩
      clear hH3 hB3 hc1 hc2 hB4 hs4 hcl hlt3 HW1
      go_wp2_with fail
      refine HW2.out.mono ?_
      rintro e w5 ⟨rfl, hH5, hB5⟩
      have HS5 := HS.out w5 hH5 hB5
      clear hH5 hB5 HS HW2 hcv
      go_wp2_with fail
      refine HS5.mono ?_
      rintro e w6 ⟨rfl, hB6⟩
      go_wp2
      go_ret
      exact ⟨rfl, hB6⟩
end Go.Proofs.YtkhidkilkbmpoaaDoor
namespace Go.Proofs.YtkhidkilkbmpoaaDoor
open Go.RowKit
theorem zeroB (W : World) : (zeroValue 60).run Tryd.prog W = .ok (.agg (u8v zeros64)) W := by kernel_rfl
theorem litB : u8v zeros64 = #[Value.int IntKind.u8 0, Value.int IntKind.u8 0, Value.int IntKind.u8 0, Value.int IntKind.u8 0, Value.int IntKind.u8 0, Value.int IntKind.u8 0, Value.int IntKind.u8 0, Value.int IntKind.u8 0, Value.int IntKind.u8 0, Value.int IntKind.u8 0, Value.int IntKind.u8 0, Value.int IntKind.u8 0, Value.int IntKind.u8 0, Value.int IntKind.u8 0, Value.int IntKind.u8 0, Value.int IntKind.u8 0, Value.int IntKind.u8 0, Value.int IntKind.u8 0, Value.int IntKind.u8 0, Value.int IntKind.u8 0, Value.int IntKind.u8 0, Value.int IntKind.u8 0, Value.int IntKind.u8 0, Value.int IntKind.u8 0, Value.int IntKind.u8 0, Value.int IntKind.u8 0, Value.int IntKind.u8 0, Value.int IntKind.u8 0, Value.int IntKind.u8 0, Value.int IntKind.u8 0, Value.int IntKind.u8 0, Value.int IntKind.u8 0, Value.int IntKind.u8 0, Value.int IntKind.u8 0, Value.int IntKind.u8 0, Value.int IntKind.u8 0, Value.int IntKind.u8 0, Value.int IntKind.u8 0, Value.int IntKind.u8 0, Value.int IntKind.u8 0, Value.int IntKind.u8 0, Value.int IntKind.u8 0, Value.int IntKind.u8 0, Value.int IntKind.u8 0, Value.int IntKind.u8 0, Value.int IntKind.u8 0, Value.int IntKind.u8 0, Value.int IntKind.u8 0, Value.int IntKind.u8 0, Value.int IntKind.u8 0, Value.int IntKind.u8 0, Value.int IntKind.u8 0, Value.int IntKind.u8 0, Value.int IntKind.u8 0, Value.int IntKind.u8 0, Value.int IntKind.u8 0, Value.int IntKind.u8 0, Value.int IntKind.u8 0, Value.int IntKind.u8 0, Value.int IntKind.u8 0, Value.int IntKind.u8 0, Value.int IntKind.u8 0, Value.int IntKind.u8 0, Value.int IntKind.u8 0] := by rfl
theorem infoB (l : List UInt8) (h : l.length = 64) : (Tryd.prog.info? 60).map (·.size) = some (u8v l).size := by rw [u8v_size, h]; kernel_rfl
/-- A short key with noughts behind it. -/
def fill (k : List UInt8) : List UInt8 := k ++ List.replicate (64 - k.length) 0
theorem fill_len (k : List UInt8) (h : k.length ≤ 64) : (fill k).length = 64 := by simp [fill]; omega
theorem put_key (W : World) (g : Nat) (k : ByteArray) (hk : k.size ≤ 64) (h : W.heap[g]? = some (.cells (u8v zeros64) 60 (0, 0))) :
    (Builtin.copy_ #[45, 9] 3 #[.slice (some ⟨g, 0, none⟩) 64 64, .string k]).run Tryd.prog W = .ok (.int .i64 (k.size : Int)) (W.setRow g (u8v (fill k.data.toList))) := by
  rw [Lib.run_copy_row_string W 45 9 3 5 g 0 64 64 k (u8v zeros64) 60 Tryd.underlying45 (by kernel_rfl) h hk (by rw [u8v_size]; show 0 + k.size ≤ 64; omega)]
  congr 2
  have hl : k.data.toList.length = k.size := by rw [Array.length_toList]; rfl
  have e0 : (u8v zeros64).toList = List.replicate 64 (Value.int .u8 0) := by rfl
  rw [e0, List.take_zero, List.nil_append, Nat.zero_add, List.drop_replicate]
  unfold fill u8v
  rw [List.map_append, List.map_replicate, hl]
  rfl
theorem storeB (W : World) (g : Nat) (l l0 : List UInt8) (hl : l.length = 64) (hl0 : l0.length = 64) (hg : W.heap[g]? = some (.cells (u8v l0) 60 (0, 0))) :
    (storeCells ⟨g, 0, none⟩ (u8v l).toList).run Tryd.prog W = .ok () (W.setRow g (u8v l)) := by
  have hz : (u8v l).toList.length = 64 := by rw [Array.length_toList, u8v_size, hl]
  rw [run_storeCells_at Tryd.prog g 0 60 _ 0 _ W hg (by rw [hz, u8v_size, hl0]; omega) (u8v_all l)]
  congr 2
  rw [hz, List.drop_eq_nil_of_le (by rw [Array.length_toList, u8v_size, hl0]; omega)]
  simp
/-- The end of keyBlock: what is laid and copied. -/
theorem key_end (w V : World) (k : ByteArray) (hk : k.size ≤ 64) (hz : V.heap[w.heap.size]? = some (.cells (u8v zeros64) 60 (0, 0))) (hB : Below w.heap.size w V) :
    ∃ A Z, (Builtin.copy_ #[45, 9] 3 #[.slice (some ⟨V.heap.size, 0, none⟩) 64 64, .string k]).run Tryd.prog (V.alloc (.cells (u8v zeros64) 60)) = .ok (.int .i64 (k.size : Int)) A ∧
      A.heap[V.heap.size]? = some (.cells (u8v (fill k.data.toList)) 60 (0, 0)) ∧
      (storeCells ⟨w.heap.size, 0, none⟩ (u8v (fill k.data.toList)).toList).run Tryd.prog A = .ok () Z ∧
      Z.heap[w.heap.size]? = some (.cells (u8v (fill k.data.toList)) 60 (0, 0)) ∧ Below w.heap.size w Z := by
  have hs := hB.size
  have hlt : w.heap.size < V.heap.size := lt_of_some hz
  have hf : (fill k.data.toList).length = 64 := fill_len _ (by rw [Array.length_toList]; exact hk)
  generalize hZ : u8v zeros64 = z0 at hz
  generalize hF : fill k.data.toList = f at hf
  have h1 := put_key (V.alloc (.cells z0 60)) V.heap.size k hk (by rw [hZ]; exact heap_alloc_new V _)
  rw [hF] at h1
  have h2 : ((V.alloc (.cells z0 60)).setRow V.heap.size (u8v f)).heap[w.heap.size]? = some (.cells z0 60 (0, 0)) := by
    rw [setRow_other _ _ _ _ (by omega), Go.heap_alloc_old _ _ hlt]; exact hz
  refine ⟨_, _, h1, setRow_heap _ _ _ _ _ _ (heap_alloc_new V (.cells z0 60)), storeB _ w.heap.size f zeros64 hf rfl (by rw [hZ]; exact h2), setRow_heap _ _ _ _ _ _ h2, ?_⟩
  exact Go.Proofs.YtkhidkilkbmpoaaDoor.below_setRow (Go.Proofs.YtkhidkilkbmpoaaDoor.below_setRow (hB.alloc hs _) _ hs _) _ (Nat.le_refl _) _

set_option maxRecDepth 100000 in
set_option maxHeartbeats 1000000 in
theorem key_any (k : ByteArray) (w : World) (hk : k.size ≤ 1000000000) (hL : Laid w) :
    Calls Tryd.prog 37 #[.string k] w fun e w' => e = .returned (.agg (u8v (blockOf k.data.toList))) ∧ Below w.heap.size w w' := by
  have hkl : k.data.toList.length = k.size := by rw [Array.length_toList]; rfl
  by_cases hs : 64 < k.size
  · have HE : Hid (blockOf k.data.toList = fill (digest k.data.toList)) := by
      show _ = _
      unfold blockOf keyOf fill
      rw [if_pos (by omega)]
    obtain ⟨W1, hW1⟩ : ∃ W, W = w.alloc (.cells (u8v zeros64) 60) := ⟨_, rfl⟩
    have hz1 : W1.heap[w.heap.size]? = some (.cells (u8v zeros64) 60 (0, 0)) := by rw [hW1]; exact heap_alloc_new _ _
    have hb1 : Below w.heap.size w W1 := by rw [hW1]; exact (Below.refl _ w).alloc (Nat.le_refl _) _
    have hlt1 : w.heap.size < W1.heap.size := lt_of_some hz1
    obtain ⟨cap, W2, hcv, hc1, hc2, hB2, hs2, hcl⟩ := bytes_of W1 k (by omega)
    have HS : Hid (Calls Tryd.prog 56 #[.slice (some ⟨W1.heap.size, 0, none⟩) k.size cap] W2 fun e w3 => e = .returned (.string (strOf (digest k.data.toList))) ∧ Below w.heap.size w w3 ∧ w3.heap[w.heap.size]? = some (.cells (u8v zeros64) 60 (0, 0))) := by
      refine (sum_is (some ⟨W1.heap.size, 0, none⟩) k.size cap k.data.toList W2 ⟨hkl, hc1, hc2, fun _ => ⟨W1.heap.size, 0, rfl, hs2, fun i hi => by rw [Nat.zero_add]; exact hcl i hi⟩⟩ (by omega) (hL.below (hb1.trans (hB2.mono (by omega))))).mono ?_
      rintro e w3 ⟨rfl, hB3⟩
      exact ⟨rfl, (hb1.trans (hB2.mono (by omega))).trans (hB3.mono (by omega)), (hB3.block _ (by omega)).trans ((hB2.block _ (by omega)).trans hz1)⟩
    have hki : decide ((k.size : Int) > 64) = true := by simp; omega
    have hkj : (64 : Int) < (k.size : Int) := by omega
    have hsz1 : W1.heap.size = w.heap.size + 1 := by rw [hW1]; simp
    rw [hsz1] at hcv HS
    rw [hW1, litB] at hcv
    clear hW1 hz1 hb1 hlt1 hsz1 hc1 hc2 hB2 hs2 hcl hL
    go_enter Tryd.func37, Tryd.ntmps37
    go_wp2_with fail
    refine HS.out.mono ?_
    rintro e w3 ⟨rfl, hB3, hz3⟩
    have hs32 : (strOf (digest k.data.toList)).size ≤ 64 := by rw [strOf_size, digest_len]; omega
    obtain ⟨A, Z, hcp, hra, hst, hrz, hbz⟩ := key_end w w3 (strOf (digest k.data.toList)) hs32 hz3 hB3
    rw [strOf_list, ← HE.out] at hra hst hrz
    rw [litB] at hcp
    have hsz : (u8v (blockOf k.data.toList)).size = 64 := by rw [u8v_size, blockOf_len]
    have HI := infoB _ (blockOf_len k.data.toList)
    have HR : Hid (A.heap[w3.heap.size]? = some (.cells (u8v (blockOf k.data.toList)) 60 (0, 0))) := hra
    clear hcv hB3 hz3 hra hki hkj HS HE
    go_wp2_with (first | (refine wpList_load_row rfl 60 _ rfl w3.heap.size rfl 60 (u8v (blockOf k.data.toList)) (0, 0) _ HR.out Tryd.underlying60 rfl HI ?_))
    refine bodyPost_ret (v := .agg (u8v (blockOf k.data.toList))) ?_ rfl ⟨rfl, hbz⟩
    exact results_cell_row rfl _ _ w.heap.size 60 _ (0, 0) _ rfl hrz Tryd.underlying60 rfl HI
  · have HE : blockOf k.data.toList = fill k.data.toList := by
      unfold blockOf keyOf fill
      rw [if_neg (by omega)]
    obtain ⟨W1, hW1⟩ : ∃ W, W = w.alloc (.cells (u8v zeros64) 60) := ⟨_, rfl⟩
    have hz1 : W1.heap[w.heap.size]? = some (.cells (u8v zeros64) 60 (0, 0)) := by rw [hW1]; exact heap_alloc_new _ _
    have hb1 : Below w.heap.size w W1 := by rw [hW1]; exact (Below.refl _ w).alloc (Nat.le_refl _) _
    have hsz1 : W1.heap.size = w.heap.size + 1 := by rw [hW1]; simp
    obtain ⟨A, Z, hcp, hra, hst, hrz, hbz⟩ := key_end w W1 k (by omega) hz1 hb1
    rw [← HE] at hra hst hrz
    rw [hsz1] at hcp hra
    rw [hW1, litB] at hcp
    have hsz : (u8v (blockOf k.data.toList)).size = 64 := by rw [u8v_size, blockOf_len]
    have HI := infoB _ (blockOf_len k.data.toList)
    have HR : Hid (A.heap[w.heap.size + 1]? = some (.cells (u8v (blockOf k.data.toList)) 60 (0, 0))) := hra
    have hkj : ¬ (64 : Int) < (k.size : Int) := by omega
    clear hW1 hz1 hb1 hra HE hL hsz1
    go_enter Tryd.func37, Tryd.ntmps37
    go_wp2_with (first | (refine wpList_load_row rfl 60 _ rfl (w.heap.size + 1) rfl 60 (u8v (blockOf k.data.toList)) (0, 0) _ HR.out Tryd.underlying60 rfl HI ?_))
    refine bodyPost_ret (v := .agg (u8v (blockOf k.data.toList))) ?_ rfl ⟨rfl, hbz⟩
    exact results_cell_row rfl _ _ w.heap.size 60 _ (0, 0) _ rfl hrz Tryd.underlying60 rfl HI
end Go.Proofs.YtkhidkilkbmpoaaDoor
