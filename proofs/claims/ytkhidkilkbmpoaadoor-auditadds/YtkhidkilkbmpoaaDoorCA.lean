/- Walks over the program's New, Sum of a Hash, Sum. The digest of the empty text. Walks over the program's Sum, a nil Hash, and what the statements' lives asks. Seals, derived bytes and chains as mathematics. -/
import Derived.Test.YtkhidkilkbmpoaaDoorU
import Derived.Test.YtkhidkilkbmpoaaDoorJ
import Derived.Laws.BitsAllLaws
namespace Go.Proofs.YtkhidkilkbmpoaaDoor
open Go.RowKit
theorem Below.only {B g : Nat} {w0 wr w1 : World} (h : Below B w0 wr) (hB : B ≤ wr.heap.size) (hg : B ≤ g) (ho : Only g wr w1) : Below B w0 w1 :=
  ⟨ho.os.trans h.os, ho.tape.trans h.tape, ho.output.trans h.output, Nat.le_trans h.size ho.size, fun k hk => (ho.block k (by omega) (by omega)).trans (h.block k hk)⟩
def zeros64 : List UInt8 := List.replicate 64 0
theorem hash_none : HashOf ivL zeros64 [] := ⟨rfl, rfl, rfl⟩
theorem built58 (v0 v1 v2 v3 v4 v5 v6 v7 : Nat) : Tryd.prog.built 113 [(0, .agg #[.int .u32 (v0 : Int), .int .u32 (v1 : Int), .int .u32 (v2 : Int), .int .u32 (v3 : Int), .int .u32 (v4 : Int), .int .u32 (v5 : Int), .int .u32 (v6 : Int), .int .u32 (v7 : Int)])] = some (hcells [v0, v1, v2, v3, v4, v5, v6, v7] zeros64 0) := by kernel_rfl
theorem wpList_build58 {ops : Array Oper} {rs : List Oper} {o : Oper} {a : Act} {w : World} {Q : Exit → Act → World → Prop} (v0 v1 v2 v3 v4 v5 v6 v7 : Nat) (hg : o.guard = none) (x : Operand) (ho : o.op = .build 113 #[(0, x)]) (hx : a.eval x = .agg #[.int .u32 (v0 : Int), .int .u32 (v1 : Int), .int .u32 (v2 : Int), .int .u32 (v3 : Int), .int .u32 (v4 : Int), .int .u32 (v5 : Int), .int .u32 (v6 : Int), .int .u32 (v7 : Int)])
    (h : wpList Tryd.prog ops Q rs (a.put o.dst (.agg (hcells [v0, v1, v2, v3, v4, v5, v6, v7] zeros64 0))) w) : wpList Tryd.prog ops Q (o :: rs) a w := by
  have e : Tryd.prog.built 113 ((#[(0, x)] : Array (Nat × Operand)).map fun (i, x) => (i, a.eval x)).toList = some (hcells [v0, v1, v2, v3, v4, v5, v6, v7] zeros64 0) := by
    simp only [List.map_toArray, List.map_cons, List.map_nil, hx]
    exact built58 v0 v1 v2 v3 v4 v5 v6 v7
  refine wpList_build hg 113 _ ho (by rw [e]; rfl) ?_
  rw [e]
  exact h
theorem info58 {st : List Nat} {rest : List UInt8} {n : Nat} (hs : st.length = 8) (hr : rest.length = 64) : (Tryd.prog.info? 113).map (·.size) = some (hcells st rest n).size := by rw [hcells_size hs hr]; kernel_rfl
theorem hcells_one (st : List Nat) (rest : List UInt8) (n : Nat) : (hcells st rest n).all (·.oneCell') = true := by
  rw [Array.all_eq_true']
  intro v hv
  simp only [hcells, hlist, List.mem_toArray, List.mem_append, List.mem_map, List.mem_singleton] at hv
  rcases hv with ⟨x, _, rfl⟩ | ⟨x, _, rfl⟩ | rfl <;> rfl
theorem zero73_size : Tryd.zeroCells113.size = 73 := by kernel_rfl
theorem store73 (W : World) (g : Nat) (st : List Nat) (rest : List UInt8) (n : Nat) (hs : st.length = 8) (hr : rest.length = 64) (hg : W.heap[g]? = some (.cells Tryd.zeroCells113 113 (0, 0))) :
    (storeCells ⟨g, 0, none⟩ (hcells st rest n).toList).run Tryd.prog W = .ok () (W.setRow g (hcells st rest n)) := by
  have hz : (hcells st rest n).toList.length = 73 := by rw [Array.length_toList, hcells_size hs hr]
  rw [run_storeCells_at Tryd.prog g 0 113 _ 0 _ W hg (by rw [hz, zero73_size]; omega) (fun v hv => by
    have := hcells_one st rest n
    rw [Array.all_eq_true'] at this
    exact this v (by simpa using hv)), hz]
  rw [List.drop_eq_nil_of_le (by rw [Array.length_toList, zero73_size]; omega)]
  simp
theorem ivL_lit : ∃ v0 v1 v2 v3 v4 v5 v6 v7 : Nat, ivL = [v0, v1, v2, v3, v4, v5, v6, v7] := ⟨_, _, _, _, _, _, _, _, rfl⟩

set_option maxRecDepth 100000 in
set_option maxHeartbeats 1000000 in
theorem new_any (w : World) (hL : Laid w) :
    Calls Tryd.prog 73 #[] w fun e w' => e = .returned (.pointer (some ⟨w.heap.size, 0, none⟩)) ∧ HashIs w' w.heap.size [] ∧ Below w.heap.size w w' := by
  obtain ⟨v0, v1, v2, v3, v4, v5, v6, v7, hv⟩ := ivL_lit
  have c0 : w.cell? ⟨0, 0, none⟩ = some (.int .u32 (v0 : Int)) := by have := hL.f 0 (by omega); rw [hv] at this; exact this
  have c1 : w.cell? ⟨0, 1, none⟩ = some (.int .u32 (v1 : Int)) := by have := hL.f 1 (by omega); rw [hv] at this; exact this
  have c2 : w.cell? ⟨0, 2, none⟩ = some (.int .u32 (v2 : Int)) := by have := hL.f 2 (by omega); rw [hv] at this; exact this
  have c3 : w.cell? ⟨0, 3, none⟩ = some (.int .u32 (v3 : Int)) := by have := hL.f 3 (by omega); rw [hv] at this; exact this
  have c4 : w.cell? ⟨0, 4, none⟩ = some (.int .u32 (v4 : Int)) := by have := hL.f 4 (by omega); rw [hv] at this; exact this
  have c5 : w.cell? ⟨0, 5, none⟩ = some (.int .u32 (v5 : Int)) := by have := hL.f 5 (by omega); rw [hv] at this; exact this
  have c6 : w.cell? ⟨0, 6, none⟩ = some (.int .u32 (v6 : Int)) := by have := hL.f 6 (by omega); rw [hv] at this; exact this
  have c7 : w.cell? ⟨0, 7, none⟩ = some (.int .u32 (v7 : Int)) := by have := hL.f 7 (by omega); rw [hv] at this; exact this
  have HV : Hid (ivL = [v0, v1, v2, v3, v4, v5, v6, v7]) := hv
  clear hv hL
  go_enter Tryd.func73, Tryd.ntmps73
  go_wp2_with (refine wpList_build58 v0 v1 v2 v3 v4 v5 v6 v7 rfl _ rfl rfl ?_)
  go_ret
  refine ⟨rfl, ⟨[v0, v1, v2, v3, v4, v5, v6, v7], zeros64, HV.out ▸ hash_none, heap_alloc_new _ _⟩, (Below.refl _ w).alloc (Nat.le_refl _) _⟩

set_option maxRecDepth 100000 in
set_option maxHeartbeats 2000000 in
theorem hsum_any (g : Nat) (l : List UInt8) (w : World) (hH : HashIs w g l) (hl : l.length ≤ 2305843009213693952) (hL : Laid w) :
    Calls Tryd.prog 75 #[.pointer (some ⟨g, 0, none⟩)] w fun e w' => e = .returned (.string (strOf (digest l))) ∧ Below w.heap.size w w' := by
  obtain ⟨st, rest, ho, hrow⟩ := hH
  obtain ⟨N, hN⟩ : ∃ N, N = l.length := ⟨_, rfl⟩
  rw [← hN] at hrow hl
  have h2 : 3 ≤ w.heap.size := hL.lt
  have HI : Hid ((Tryd.prog.info? 113).map (·.size) = some (hcells st rest N).size) := info58 ho.sl ho.n
  have hgl : g < w.heap.size := lt_of_some hrow
  have HROW : Hid (w.heap[g]? = some (.cells (hcells st rest N) 113 (0, 0))) := hrow
  obtain ⟨W1, hW1⟩ : ∃ W, W = (w.alloc (.cells Tryd.zeroCells113 113)).setRow w.heap.size (hcells st rest N) := ⟨_, rfl⟩
  have sz1 : W1.heap.size = w.heap.size + 1 := by rw [hW1, size_setRow]; simp
  have HB1 : Hid (Below w.heap.size w W1) := by rw [hW1]; exact Go.Proofs.YtkhidkilkbmpoaaDoor.below_setRow ((Below.refl _ w).alloc (Nat.le_refl _) _) _ (Nat.le_refl _) _
  have HH1 : Hid (HashIs W1 w.heap.size l) := by
    refine ⟨st, rest, ho, ?_⟩
    rw [hW1, ← hN]
    exact setRow_heap _ _ _ _ _ _ (heap_alloc_new _ _)
  have c72 : W1.cell? ⟨g, 72, none⟩ = some (.int .i64 (N : Int)) := by
    rw [HB1.out.cell hgl, cell_of_row w g 72 _ _ _ hrow]; exact hcells_c ho.sl ho.n
  have HL1 : Hid (Laid W1) := hL.below HB1.out
  have HN : Hid (N = l.length) := hN
  have HW1 : Hid (W1 = (w.alloc (.cells Tryd.zeroCells113 113)).setRow w.heap.size (hcells st rest N)) := hW1
  have HSZ1 : Hid (W1.heap.size = w.heap.size + 1) := sz1
  have HP : Hid (∀ W, Calls Tryd.prog 87 #[.int .i64 (N : Int)] W fun e w' => e = .returned (.slice (some ⟨W.heap.size, 0, none⟩) (padL N).length (padL N).length) ∧ PadW W.heap.size W (padL N) w') := fun W => pad_is N W (by omega)
  have hpl : (padL N).length ≤ 72 := by rw [padL_len]; unfold padZ; omega
  have HWR : Hid (∀ w2, PadW W1.heap.size W1 (padL N) w2 → Calls Tryd.prog 74 #[.pointer (some ⟨w.heap.size, 0, none⟩), .slice (some ⟨W1.heap.size, 0, none⟩) (padL N).length (padL N).length] w2 fun e w3 => e = .returned (.tuple #[]) ∧ HashIs w3 w.heap.size (l ++ padL N) ∧ Below w.heap.size w w3) := by
    intro w2 hp2
    have hs2 := hp2.bl.size
    have hlt2 : W1.heap.size < w2.heap.size := lt_of_some hp2.c
    refine (write_any w.heap.size l (some ⟨W1.heap.size, 0, none⟩) (padL N).length (padL N).length (padL N) w2 h2 ?_ ⟨rfl, Nat.le_refl _, by omega, fun _ => ⟨W1.heap.size, 0, rfl, by omega, hlt2, fun i hi => by rw [Nat.zero_add]; exact hp2.cell i hi⟩⟩ (by omega) (HL1.out.below hp2.bl)).mono ?_
    · obtain ⟨st, rest, ho, hr⟩ := HH1.out
      exact ⟨st, rest, ho, (hp2.bl.block _ (by omega)).trans hr⟩
    · rintro e w3 ⟨rfl, hH3, hO3⟩
      exact ⟨rfl, hH3, Below.only (HB1.out.trans (hp2.bl.mono (by omega))) (by omega) (Nat.le_refl _) hO3⟩
  have HS73 : Hid ((hcells st rest N).size = 73) := hcells_size ho.sl ho.n
  have HSTO : Hid ((storeCells ⟨w.heap.size, 0, none⟩ (hcells st rest N).toList).run Tryd.prog (w.alloc (.cells Tryd.zeroCells113 113)) = .ok () W1) := by rw [hW1]; exact store73 _ _ st rest N ho.sl ho.n (heap_alloc_new _ _)
  clear hN hW1 ho hrow sz1 hL
  go_enter Tryd.func75, Tryd.ntmps75
  have hsz := HS73.out
  have hsto := HSTO.out
  go_wp2_with ((refine wpList_load_row rfl 113 _ rfl g rfl 113 (hcells st rest N) (0, 0) _ HROW.out Tryd.underlying113 rfl HI.out ?_))
  refine (HP.out _).mono ?_
  rintro e w2 ⟨rfl, hp2⟩
  clear hsz hsto c72
  go_wp2_with fail
  refine (HWR.out w2 hp2).mono ?_
  rintro e w3 ⟨rfl, ⟨st3, rest3, ho3, hr3⟩, hb3⟩
  have hst3 := ho3.s
  have he := mixTo_eight (l ++ padL N) ((l ++ padL N).length / 64)
  rw [← hst3] at he
  obtain ⟨n0, n1, n2, n3, n4, n5, n6, n7, hn, _⟩ := he
  rw [hn] at hr3 hst3
  have c0 : w3.cell? ⟨w.heap.size, 0, none⟩ = some (.int .u32 (n0 : Int)) := by rw [cell_of_row w3 w.heap.size 0 _ _ _ hr3]; exact hcells_s 0 (by simp)
  have c1 : w3.cell? ⟨w.heap.size, 1, none⟩ = some (.int .u32 (n1 : Int)) := by rw [cell_of_row w3 w.heap.size 1 _ _ _ hr3]; exact hcells_s 1 (by simp)
  have c2 : w3.cell? ⟨w.heap.size, 2, none⟩ = some (.int .u32 (n2 : Int)) := by rw [cell_of_row w3 w.heap.size 2 _ _ _ hr3]; exact hcells_s 2 (by simp)
  have c3 : w3.cell? ⟨w.heap.size, 3, none⟩ = some (.int .u32 (n3 : Int)) := by rw [cell_of_row w3 w.heap.size 3 _ _ _ hr3]; exact hcells_s 3 (by simp)
  have c4 : w3.cell? ⟨w.heap.size, 4, none⟩ = some (.int .u32 (n4 : Int)) := by rw [cell_of_row w3 w.heap.size 4 _ _ _ hr3]; exact hcells_s 4 (by simp)
  have c5 : w3.cell? ⟨w.heap.size, 5, none⟩ = some (.int .u32 (n5 : Int)) := by rw [cell_of_row w3 w.heap.size 5 _ _ _ hr3]; exact hcells_s 5 (by simp)
  have c6 : w3.cell? ⟨w.heap.size, 6, none⟩ = some (.int .u32 (n6 : Int)) := by rw [cell_of_row w3 w.heap.size 6 _ _ _ hr3]; exact hcells_s 6 (by simp)
  have c7 : w3.cell? ⟨w.heap.size, 7, none⟩ = some (.int .u32 (n7 : Int)) := by rw [cell_of_row w3 w.heap.size 7 _ _ _ hr3]; exact hcells_s 7 (by simp)
  have HD : Hid (∀ W, Calls Tryd.prog 88 #[.agg #[.int .u32 (n0 : Int), .int .u32 (n1 : Int), .int .u32 (n2 : Int), .int .u32 (n3 : Int), .int .u32 (n4 : Int), .int .u32 (n5 : Int), .int .u32 (n6 : Int), .int .u32 (n7 : Int)]] W fun e w' => e = .returned (.string (strOf (digest l))) ∧ Below W.heap.size W w') := by
    intro W
    have := digestof_any [n0, n1, n2, n3, n4, n5, n6, n7] W rfl
    have e : [n0, n1, n2, n3, n4, n5, n6, n7].flatMap (beN 4) = digest l := by
      rw [hst3, HN.out]; rfl
    rw [e] at this
    exact this
  have HB3 : Hid (Below w.heap.size w w3) := hb3
  clear hr3 hb3 ho3 hst3 hn hp2
  go_wp2_with (go_at_call 88; refine (HD.out _).mono ?_; rintro e w4 ⟨rfl, hb4⟩)
  go_ret
  exact ⟨rfl, HB3.out.trans (hb4.mono HB3.out.size)⟩
end Go.Proofs.YtkhidkilkbmpoaaDoor
namespace Go.Proofs.YtkhidkilkbmpoaaDoor
set_option maxRecDepth 100000 in
theorem digest_nil : (digest []).take 4 = [227, 176, 196, 66] := by decide +kernel
end Go.Proofs.YtkhidkilkbmpoaaDoor
namespace Go.Proofs.YtkhidkilkbmpoaaDoor
open Go.RowKit
/-- Bytes as they lie in memory. -/
def BsI (w : World) (a : Option Addr) (len cap : Nat) (bs : List UInt8) : Prop :=
  bs.length = len ∧ len ≤ cap ∧ cap ≤ 9223372036854775807 ∧ (0 < len → ∃ bb bo, a = some ⟨bb, bo, none⟩ ∧ bb < w.heap.size ∧ ∀ i, i < len → w.cell? ⟨bb, bo + i, none⟩ = some (.int .u8 (((bs.getD i 0).toNat : Nat) : Int)))
theorem BsI.below {w w' : World} {a : Option Addr} {len cap : Nat} {bs : List UInt8} (h : BsI w a len cap bs) (hb : Below w.heap.size w w') : BsI w' a len cap bs := by
  obtain ⟨h1, h2, h3, h4⟩ := h
  refine ⟨h1, h2, h3, fun h0 => ?_⟩
  obtain ⟨bb, bo, e, hlt, hc⟩ := h4 h0
  exact ⟨bb, bo, e, Nat.lt_of_lt_of_le hlt hb.size, fun i hi => by rw [hb.cell hlt]; exact hc i hi⟩
theorem BsI.at {w w' : World} {a : Option Addr} {len cap : Nat} {bs : List UInt8} (h : BsI w a len cap bs) (hb : Below w.heap.size w w') (g : Nat) (hg : w.heap.size ≤ g) : BsA w' g a len cap bs := by
  obtain ⟨h1, h2, h3, h4⟩ := h
  refine ⟨h1, h2, h3, fun h0 => ?_⟩
  obtain ⟨bb, bo, e, hlt, hc⟩ := h4 h0
  exact ⟨bb, bo, e, by omega, Nat.lt_of_lt_of_le hlt hb.size, fun i hi => by rw [hb.cell hlt]; exact hc i hi⟩
theorem BsI.nil (w : World) : BsI w none 0 0 [] := ⟨rfl, Nat.le_refl _, by omega, by omega⟩

set_option maxRecDepth 100000 in
set_option maxHeartbeats 1000000 in
theorem sum_is (a : Option Addr) (len cap : Nat) (bs : List UInt8) (w : World) (hb : BsI w a len cap bs) (hlen : len ≤ 2305843009213693952) (hL : Laid w) :
    Calls Tryd.prog 56 #[.slice a len cap] w fun e w' => e = .returned (.string (strOf (digest bs))) ∧ Below w.heap.size w w' := by
  obtain ⟨v0, v1, v2, v3, v4, v5, v6, v7, hv⟩ := ivL_lit
  have c0 : w.cell? ⟨0, 0, none⟩ = some (.int .u32 (v0 : Int)) := by have := hL.f 0 (by omega); rw [hv] at this; exact this
  have c1 : w.cell? ⟨0, 1, none⟩ = some (.int .u32 (v1 : Int)) := by have := hL.f 1 (by omega); rw [hv] at this; exact this
  have c2 : w.cell? ⟨0, 2, none⟩ = some (.int .u32 (v2 : Int)) := by have := hL.f 2 (by omega); rw [hv] at this; exact this
  have c3 : w.cell? ⟨0, 3, none⟩ = some (.int .u32 (v3 : Int)) := by have := hL.f 3 (by omega); rw [hv] at this; exact this
  have c4 : w.cell? ⟨0, 4, none⟩ = some (.int .u32 (v4 : Int)) := by have := hL.f 4 (by omega); rw [hv] at this; exact this
  have c5 : w.cell? ⟨0, 5, none⟩ = some (.int .u32 (v5 : Int)) := by have := hL.f 5 (by omega); rw [hv] at this; exact this
  have c6 : w.cell? ⟨0, 6, none⟩ = some (.int .u32 (v6 : Int)) := by have := hL.f 6 (by omega); rw [hv] at this; exact this
  have c7 : w.cell? ⟨0, 7, none⟩ = some (.int .u32 (v7 : Int)) := by have := hL.f 7 (by omega); rw [hv] at this; exact this
  have h2 : 3 ≤ w.heap.size := hL.lt
  obtain ⟨W1, hW1⟩ : ∃ W, W = (w.alloc (.cells Tryd.zeroCells113 113)).setRow w.heap.size (hcells [v0, v1, v2, v3, v4, v5, v6, v7] zeros64 0) := ⟨_, rfl⟩
  have hs : [v0, v1, v2, v3, v4, v5, v6, v7].length = 8 := rfl
  have hz : zeros64.length = 64 := rfl
  have hsz : (hcells [v0, v1, v2, v3, v4, v5, v6, v7] zeros64 0).size = 73 := hcells_size hs hz
  have hsto : (storeCells ⟨w.heap.size, 0, none⟩ (hcells [v0, v1, v2, v3, v4, v5, v6, v7] zeros64 0).toList).run Tryd.prog (w.alloc (.cells Tryd.zeroCells113 113)) = .ok () W1 := by rw [hW1]; exact store73 _ _ [v0, v1, v2, v3, v4, v5, v6, v7] zeros64 0 hs hz (heap_alloc_new _ _)
  have sz1 : W1.heap.size = w.heap.size + 1 := by rw [hW1, size_setRow]; simp
  have HB1 : Hid (Below w.heap.size w W1) := by rw [hW1]; exact Go.Proofs.YtkhidkilkbmpoaaDoor.below_setRow ((Below.refl _ w).alloc (Nat.le_refl _) _) _ (Nat.le_refl _) _
  have HWR : Hid (Calls Tryd.prog 74 #[.pointer (some ⟨w.heap.size, 0, none⟩), .slice a len cap] W1 fun e w2 => e = .returned (.tuple #[]) ∧ HashIs w2 w.heap.size bs ∧ Below w.heap.size w w2) := by
    refine (write_any w.heap.size [] a len cap bs W1 h2 ⟨[v0, v1, v2, v3, v4, v5, v6, v7], zeros64, hv ▸ hash_none, ?_⟩ (hb.at HB1.out _ (Nat.le_refl _)) (by rw [hb.1]; simp; omega) (hL.below HB1.out)).mono ?_
    · rw [hW1]; exact setRow_heap _ _ _ _ _ _ (heap_alloc_new _ _)
    · rintro e w2 ⟨rfl, hH2, hO2⟩
      exact ⟨rfl, hH2, Below.only HB1.out (by omega) (Nat.le_refl _) hO2⟩
  have HS : Hid (∀ w2, HashIs w2 w.heap.size bs → Below w.heap.size w w2 → Calls Tryd.prog 75 #[.pointer (some ⟨w.heap.size, 0, none⟩)] w2 fun e w3 => e = .returned (.string (strOf (digest bs))) ∧ Below w.heap.size w w3) := by
    intro w2 hH hB
    refine (hsum_any w.heap.size bs w2 hH (by rw [hb.1]; omega) (hL.below hB)).mono ?_
    rintro e w3 ⟨rfl, hb3⟩
    exact ⟨rfl, hB.trans (hb3.mono hB.size)⟩
  clear hv hW1 hs hz hL hb sz1 HB1
  go_enter Tryd.func56, Tryd.ntmps56
  go_wp2_with (first | (refine wpList_build58 v0 v1 v2 v3 v4 v5 v6 v7 rfl _ rfl rfl ?_) | (go_at_call 74; refine HWR.out.mono ?_; rintro e w2 ⟨rfl, hH2, hB2⟩; have HH2 : Hid (HashIs w2 w.heap.size bs) := hH2; have HB2 : Hid (Below w.heap.size w w2) := hB2; clear hH2 hB2) | (go_at_call 75; refine (HS.out _ HH2.out HB2.out).mono ?_; rintro e w3 ⟨rfl, hB3⟩))
  go_ret
  exact ⟨rfl, hB3⟩

theorem digest_len (l : List UInt8) : (digest l).length = 32 := by unfold digest; rw [bytes_len, mixTo_len]
theorem nil_head : (strOf (digest [])).extract 0 4 = { data := #[227, 176, 196, 66] } := by
  have e : (strOf (digest [])).extract 0 4 = strOf ((digest []).take 4) := by
    apply ByteArray.ext
    simp [strOf, ByteArray.extract, ByteArray.copySlice, List.extract]
  rw [e, digest_nil]
  rfl

set_option maxRecDepth 100000 in
theorem write_nil (v : Value) (w : World) : Calls Tryd.prog 74 #[.pointer none, v] w fun e w' => e = .returned (.tuple #[]) ∧ w' = w := by
  go_enter Tryd.func74, Tryd.ntmps74
  go_wp2
  refine bodyPost_ret (v := .tuple #[]) ?_ rfl ⟨rfl, rfl⟩
  simp [results, go_sem]
set_option maxRecDepth 100000 in
theorem hsum_nil (w : World) : Calls Tryd.prog 75 #[.pointer none] w fun e w' => e = .returned (.string ⟨#[]⟩) ∧ w' = w := by
  go_enter Tryd.func75, Tryd.ntmps75
  go_wp2
  go_ret
  exact ⟨rfl, rfl⟩
end Go.Proofs.YtkhidkilkbmpoaaDoor
namespace Go.Proofs.YtkhidkilkbmpoaaDoor
open Go.RowKit
/-- The key, or its digest if it is long. -/
def keyOf (k : List UInt8) : List UInt8 := if 64 < k.length then digest k else k
theorem keyOf_len (k : List UInt8) : (keyOf k).length ≤ 64 := by
  unfold keyOf; split
  · rw [digest_len]; omega
  · omega
/-- A key's block. -/
def blockOf (k : List UInt8) : List UInt8 := keyOf k ++ List.replicate (64 - (keyOf k).length) 0
theorem blockOf_len (k : List UInt8) : (blockOf k).length = 64 := by
  have := keyOf_len k
  simp [blockOf]; omega
def xorB (b : List UInt8) (m : UInt8) : List UInt8 := b.map (· ^^^ m)
theorem xorB_len (b : List UInt8) (m : UInt8) : (xorB b m).length = b.length := by simp [xorB]
def behind (b : List UInt8) (m : UInt8) (t : List UInt8) : List UInt8 := digest (xorB b m ++ t)
theorem behind_len (b : List UInt8) (m : UInt8) (t : List UInt8) : (behind b m t).length = 32 := digest_len _
def sealB (b m : List UInt8) : List UInt8 := behind b 92 (behind b 54 m)
theorem sealB_len (b m : List UInt8) : (sealB b m).length = 32 := behind_len _ _ _
def sealL (k m : List UInt8) : List UInt8 := sealB (blockOf k) m
theorem sealL_len (k m : List UInt8) : (sealL k m).length = 32 := behind_len _ _ _
/-- The i-th seal of derived bytes. -/
def deriveT (b l : List UInt8) : Nat → List UInt8
  | 0 => []
  | i + 1 => sealB b (deriveT b l i ++ l ++ [UInt8.ofNat (i + 1)])
theorem deriveT_len (b l : List UInt8) (i : Nat) : (deriveT b l i).length ≤ 32 := by
  cases i with
  | zero => simp [deriveT]
  | succ i => rw [deriveT, sealB_len]; exact Nat.le_refl _
def deriveA (b l : List UInt8) : Nat → List UInt8
  | 0 => []
  | i + 1 => deriveA b l i ++ deriveT b l (i + 1)
theorem deriveA_len (b l : List UInt8) : ∀ i, (deriveA b l i).length = 32 * i
  | 0 => rfl
  | i + 1 => by rw [deriveA, List.length_append, deriveA_len b l i, deriveT, sealB_len]; omega
theorem deriveA_take (b l : List UInt8) (i : Nat) : ∀ j, i ≤ j → ∀ n, n ≤ 32 * i → (deriveA b l j).take n = (deriveA b l i).take n
  | 0, h, n, hn => by obtain rfl : i = 0 := by omega
                      rfl
  | j + 1, h, n, hn => by
    rcases Nat.eq_or_lt_of_le h with rfl | h'
    · rfl
    · rw [deriveA, List.take_append_of_le_length (by rw [deriveA_len]; omega)]
      exact deriveA_take b l i j (by omega) n hn
/-- The first n derived bytes. -/
def derived (k l : List UInt8) (n : Nat) : List UInt8 := (deriveA (blockOf k) l 255).take n
theorem derived_len (k l : List UInt8) (n : Nat) (hn : n ≤ 8160) : (derived k l n).length = n := by
  unfold derived; rw [List.length_take, deriveA_len]; omega
theorem derived_of (k l : List UInt8) (n i : Nat) (hi : i ≤ 255) (hn : n ≤ 32 * i) : (deriveA (blockOf k) l i).take n = derived k l n :=
  (deriveA_take (blockOf k) l i 255 hi n hn).symm
theorem derived_take (k l : List UInt8) (n m : Nat) (h : n ≤ m) : (derived k l m).take n = derived k l n := by
  unfold derived; rw [List.take_take, Nat.min_eq_left h]
def chainL (k : List UInt8) (ps : List (List UInt8)) : List UInt8 := ps.foldl sealL k
/-- A row of bytes of a given type, above all that was. -/
structure RowW (t g : Nat) (w0 : World) (l : List UInt8) (wr : World) : Prop where
  c : wr.heap[g]? = some (.cells (u8v l) t (0, 0))
  bl : Below g w0 wr
theorem RowW.start (t : Nat) (w : World) (l : List UInt8) : RowW t w.heap.size w l (w.alloc (.cells (u8v l) t)) := ⟨heap_alloc_new _ _, (Below.refl _ _).alloc (Nat.le_refl _) _⟩
section
variable {t g : Nat} {w0 wr : World} {l : List UInt8}
theorem RowW.cell (h : RowW t g w0 l wr) (i : Nat) (hi : i < l.length) : wr.cell? ⟨g, i, none⟩ = some (.int .u8 (((l.getD i 0).toNat : Nat) : Int)) := by
  rw [cell_of_row wr g i _ _ _ h.c, u8v_get l i hi]
theorem RowW.fro (h : RowW t g w0 l wr) (i : Nat) : wr.frozen? ⟨g, i, none⟩ = false := frozen_of_row wr g i _ _ h.c
theorem RowW.put (h : RowW t g w0 l wr) (i : Nat) (x : UInt8) : RowW t g w0 (l.set i x) (wr.setCell ⟨g, i, none⟩ (.int .u8 (x.toNat : Int))) := by
  refine ⟨?_, ?_⟩
  · rw [heap_setCell_same wr g i _ _ _ h.c, u8v_set]
  · exact h.bl.setCell (Nat.le_refl _) _
theorem RowW.drew (h : RowW t g w0 l wr) : RowW t g w0 l wr.drew := ⟨h.c, h.bl.drew⟩
end
theorem HashIs.keep {w w' : World} {g : Nat} {l : List UInt8} (h : HashIs w g l) (e : w'.heap[g]? = w.heap[g]?) : HashIs w' g l := by
  obtain ⟨st, rest, ho, hr⟩ := h
  exact ⟨st, rest, ho, e.trans hr⟩
theorem HashIs.lt {w : World} {g : Nat} {l : List UInt8} (h : HashIs w g l) : g < w.heap.size := by
  obtain ⟨_, _, _, hr⟩ := h
  exact lt_of_some hr
/-- A block of which i bytes are turned. -/
def xorTo (b : List UInt8) (m : UInt8) (i : Nat) : List UInt8 := xorB (b.take i) m ++ b.drop i
theorem xorTo_0 (b : List UInt8) (m : UInt8) : xorTo b m 0 = b := by simp [xorTo, xorB]
theorem xorTo_len (b : List UInt8) (m : UInt8) (i : Nat) : (xorTo b m i).length = b.length := by simp [xorTo, xorB_len]; omega
theorem xorTo_at (b : List UInt8) (m : UInt8) (i : Nat) (hi : i < b.length) : (xorTo b m i).getD i 0 = b.getD i 0 := by
  unfold xorTo
  rw [List.getD_eq_getElem?_getD, List.getElem?_append_right (by simp [xorB_len]; omega), xorB_len, List.length_take, Nat.min_eq_left (by omega), Nat.sub_self, List.getElem?_drop, Nat.add_zero, List.getD_eq_getElem?_getD]
theorem xorTo_step (b : List UInt8) (m : UInt8) (i : Nat) (hi : i < b.length) : (xorTo b m i).set i (b.getD i 0 ^^^ m) = xorTo b m (i + 1) := by
  unfold xorTo
  have hl : (xorB (b.take i) m).length = i := by rw [xorB_len, List.length_take]; omega
  rw [List.set_append_right _ _ (by omega), hl, Nat.sub_self, List.drop_eq_getElem_cons hi, List.set_cons_zero, List.take_add_one, List.getElem?_eq_getElem hi]
  have e : b.getD i 0 = b[i] := by simp [hi]
  rw [e]
  simp only [xorB, List.map_append, Option.toList, List.map_cons, List.map_nil, List.append_assoc, List.singleton_append]
theorem xorTo_end (b : List UInt8) (m : UInt8) (n : Nat) (hn : b.length = n) : xorTo b m n = xorB b m := by
  subst hn; simp [xorTo]
end Go.Proofs.YtkhidkilkbmpoaaDoor
