/- Walks over the program's New, Sum of a Hash, Sum. -/
import Derived.Test.YtbflkkffpcaakabDoorU
namespace Go.Proofs.YtbflkkffpcaakabDoor
open Go.RowKit
theorem Below.only {B g : Nat} {w0 wr w1 : World} (h : Below B w0 wr) (hB : B ≤ wr.heap.size) (hg : B ≤ g) (ho : Only g wr w1) : Below B w0 w1 :=
  ⟨ho.os.trans h.os, ho.tape.trans h.tape, ho.output.trans h.output, Nat.le_trans h.size ho.size, fun k hk => (ho.block k (by omega) (by omega)).trans (h.block k hk)⟩
def zeros64 : List UInt8 := List.replicate 64 0
theorem hash_none : HashOf ivL zeros64 [] := ⟨rfl, rfl, rfl⟩
theorem built58 (v0 v1 v2 v3 v4 v5 v6 v7 : Nat) : Tryd.prog.built 65 [(0, .agg #[.int .u32 (v0 : Int), .int .u32 (v1 : Int), .int .u32 (v2 : Int), .int .u32 (v3 : Int), .int .u32 (v4 : Int), .int .u32 (v5 : Int), .int .u32 (v6 : Int), .int .u32 (v7 : Int)])] = some (hcells [v0, v1, v2, v3, v4, v5, v6, v7] zeros64 0) := by kernel_rfl
theorem wpList_build58 {ops : Array Oper} {rs : List Oper} {o : Oper} {a : Act} {w : World} {Q : Exit → Act → World → Prop} (v0 v1 v2 v3 v4 v5 v6 v7 : Nat) (hg : o.guard = none) (x : Operand) (ho : o.op = .build 65 #[(0, x)]) (hx : a.eval x = .agg #[.int .u32 (v0 : Int), .int .u32 (v1 : Int), .int .u32 (v2 : Int), .int .u32 (v3 : Int), .int .u32 (v4 : Int), .int .u32 (v5 : Int), .int .u32 (v6 : Int), .int .u32 (v7 : Int)])
    (h : wpList Tryd.prog ops Q rs (a.put o.dst (.agg (hcells [v0, v1, v2, v3, v4, v5, v6, v7] zeros64 0))) w) : wpList Tryd.prog ops Q (o :: rs) a w := by
  have e : Tryd.prog.built 65 ((#[(0, x)] : Array (Nat × Operand)).map fun (i, x) => (i, a.eval x)).toList = some (hcells [v0, v1, v2, v3, v4, v5, v6, v7] zeros64 0) := by
    simp only [List.map_toArray, List.map_cons, List.map_nil, hx]
    exact built58 v0 v1 v2 v3 v4 v5 v6 v7
  refine wpList_build hg 65 _ ho (by rw [e]; rfl) ?_
  rw [e]
  exact h
theorem info58 {st : List Nat} {rest : List UInt8} {n : Nat} (hs : st.length = 8) (hr : rest.length = 64) : (Tryd.prog.info? 65).map (·.size) = some (hcells st rest n).size := by rw [hcells_size hs hr]; kernel_rfl
theorem hcells_one (st : List Nat) (rest : List UInt8) (n : Nat) : (hcells st rest n).all (·.oneCell') = true := by
  rw [Array.all_eq_true']
  intro v hv
  simp only [hcells, hlist, List.mem_toArray, List.mem_append, List.mem_map, List.mem_singleton] at hv
  rcases hv with ⟨x, _, rfl⟩ | ⟨x, _, rfl⟩ | rfl <;> rfl
def zero73 : Array Value := hcells (List.replicate 8 0) (List.replicate 64 0) 0
theorem zero73_size : zero73.size = 73 := rfl
theorem zero58 (W : World) : (zeroValue 65).run Tryd.prog W = .ok (.agg zero73) W := by kernel_rfl
theorem store73 (W : World) (g : Nat) (st : List Nat) (rest : List UInt8) (n : Nat) (hs : st.length = 8) (hr : rest.length = 64) (hg : W.heap[g]? = some (.cells zero73 65 (0, 0))) :
    (storeCells ⟨g, 0, none⟩ (hcells st rest n).toList).run Tryd.prog W = .ok () (W.setRow g (hcells st rest n)) := by
  have hz : (hcells st rest n).toList.length = 73 := by rw [Array.length_toList, hcells_size hs hr]
  rw [run_storeCells_at Tryd.prog g 0 65 _ 0 _ W hg (by rw [hz, zero73_size]; omega) (fun v hv => by
    have := hcells_one st rest n
    rw [Array.all_eq_true'] at this
    exact this v (by simpa using hv)), hz]
  rw [List.drop_eq_nil_of_le (by rw [Array.length_toList, zero73_size]; omega)]
  simp
theorem ivL_lit : ∃ v0 v1 v2 v3 v4 v5 v6 v7 : Nat, ivL = [v0, v1, v2, v3, v4, v5, v6, v7] := ⟨_, _, _, _, _, _, _, _, rfl⟩

set_option maxRecDepth 100000 in
set_option maxHeartbeats 1000000 in
theorem new_any (w : World) (hL : Laid w) :
    Calls Tryd.prog 31 #[] w fun e w' => e = .returned (.pointer (some ⟨w.heap.size, 0, none⟩)) ∧ HashIs w' w.heap.size [] ∧ Below w.heap.size w w' := by
  obtain ⟨v0, v1, v2, v3, v4, v5, v6, v7, hv⟩ := ivL_lit
  have c0 : w.cell? ⟨1, 0, none⟩ = some (.int .u32 (v0 : Int)) := by have := hL.f 0 (by omega); rw [hv] at this; exact this
  have c1 : w.cell? ⟨1, 1, none⟩ = some (.int .u32 (v1 : Int)) := by have := hL.f 1 (by omega); rw [hv] at this; exact this
  have c2 : w.cell? ⟨1, 2, none⟩ = some (.int .u32 (v2 : Int)) := by have := hL.f 2 (by omega); rw [hv] at this; exact this
  have c3 : w.cell? ⟨1, 3, none⟩ = some (.int .u32 (v3 : Int)) := by have := hL.f 3 (by omega); rw [hv] at this; exact this
  have c4 : w.cell? ⟨1, 4, none⟩ = some (.int .u32 (v4 : Int)) := by have := hL.f 4 (by omega); rw [hv] at this; exact this
  have c5 : w.cell? ⟨1, 5, none⟩ = some (.int .u32 (v5 : Int)) := by have := hL.f 5 (by omega); rw [hv] at this; exact this
  have c6 : w.cell? ⟨1, 6, none⟩ = some (.int .u32 (v6 : Int)) := by have := hL.f 6 (by omega); rw [hv] at this; exact this
  have c7 : w.cell? ⟨1, 7, none⟩ = some (.int .u32 (v7 : Int)) := by have := hL.f 7 (by omega); rw [hv] at this; exact this
  have HV : Hid (ivL = [v0, v1, v2, v3, v4, v5, v6, v7]) := hv
  clear hv hL
  go_enter Tryd.func31, Tryd.ntmps31
  go_wp2_with (refine wpList_build58 v0 v1 v2 v3 v4 v5 v6 v7 rfl _ rfl rfl ?_)
  go_ret
  refine ⟨rfl, ⟨[v0, v1, v2, v3, v4, v5, v6, v7], zeros64, HV.out ▸ hash_none, heap_alloc_new _ _⟩, (Below.refl _ w).alloc (Nat.le_refl _) _⟩

set_option maxRecDepth 100000 in
set_option maxHeartbeats 2000000 in
theorem hsum_any (g : Nat) (l : List UInt8) (w : World) (hH : HashIs w g l) (hl : l.length ≤ 2305843009213693952) (hL : Laid w) :
    Calls Tryd.prog 30 #[.pointer (some ⟨g, 0, none⟩)] w fun e w' => e = .returned (.string (strOf (digest l))) ∧ Below w.heap.size w w' := by
  obtain ⟨st, rest, ho, hrow⟩ := hH
  obtain ⟨N, hN⟩ : ∃ N, N = l.length := ⟨_, rfl⟩
  rw [← hN] at hrow hl
  have h2 : 3 ≤ w.heap.size := hL.lt
  have HI : Hid ((Tryd.prog.info? 65).map (·.size) = some (hcells st rest N).size) := info58 ho.sl ho.n
  have hgl : g < w.heap.size := lt_of_some hrow
  have HROW : Hid (w.heap[g]? = some (.cells (hcells st rest N) 65 (0, 0))) := hrow
  obtain ⟨W1, hW1⟩ : ∃ W, W = (w.alloc (.cells zero73 65)).setRow w.heap.size (hcells st rest N) := ⟨_, rfl⟩
  have sz1 : W1.heap.size = w.heap.size + 1 := by rw [hW1, size_setRow]; simp
  have HB1 : Hid (Below w.heap.size w W1) := by rw [hW1]; exact Go.Proofs.YtbflkkffpcaakabDoor.below_setRow ((Below.refl _ w).alloc (Nat.le_refl _) _) _ (Nat.le_refl _) _
  have HH1 : Hid (HashIs W1 w.heap.size l) := by
    refine ⟨st, rest, ho, ?_⟩
    rw [hW1, ← hN]
    exact setRow_heap _ _ _ _ _ _ (heap_alloc_new _ _)
  have c72 : W1.cell? ⟨g, 72, none⟩ = some (.int .i64 (N : Int)) := by
    rw [HB1.out.cell hgl, cell_of_row w g 72 _ _ _ hrow]; exact hcells_c ho.sl ho.n
  have HL1 : Hid (Laid W1) := hL.below HB1.out
  have HN : Hid (N = l.length) := hN
  have HW1 : Hid (W1 = (w.alloc (.cells zero73 65)).setRow w.heap.size (hcells st rest N)) := hW1
  have HSZ1 : Hid (W1.heap.size = w.heap.size + 1) := sz1
  have HP : Hid (∀ W, Calls Tryd.prog 33 #[.int .i64 (N : Int)] W fun e w' => e = .returned (.slice (some ⟨W.heap.size, 0, none⟩) (padL N).length (padL N).length) ∧ PadW W.heap.size W (padL N) w') := fun W => pad_is N W (by omega)
  have hpl : (padL N).length ≤ 72 := by rw [padL_len]; unfold padZ; omega
  have HWR : Hid (∀ w2, PadW W1.heap.size W1 (padL N) w2 → Calls Tryd.prog 29 #[.pointer (some ⟨w.heap.size, 0, none⟩), .slice (some ⟨W1.heap.size, 0, none⟩) (padL N).length (padL N).length] w2 fun e w3 => e = .returned (.tuple #[]) ∧ HashIs w3 w.heap.size (l ++ padL N) ∧ Below w.heap.size w w3) := by
    intro w2 hp2
    have hs2 := hp2.bl.size
    have hlt2 : W1.heap.size < w2.heap.size := lt_of_some hp2.c
    refine (write_any w.heap.size l (some ⟨W1.heap.size, 0, none⟩) (padL N).length (padL N).length (padL N) w2 h2 ?_ ⟨rfl, Nat.le_refl _, by omega, fun _ => ⟨W1.heap.size, 0, rfl, by omega, hlt2, fun i hi => by rw [Nat.zero_add]; exact hp2.cell i hi⟩⟩ (by omega) (HL1.out.below hp2.bl)).mono ?_
    · obtain ⟨st, rest, ho, hr⟩ := HH1.out
      exact ⟨st, rest, ho, (hp2.bl.block _ (by omega)).trans hr⟩
    · rintro e w3 ⟨rfl, hH3, hO3⟩
      exact ⟨rfl, hH3, Below.only (HB1.out.trans (hp2.bl.mono (by omega))) (by omega) (Nat.le_refl _) hO3⟩
  have HS73 : Hid ((hcells st rest N).size = 73) := hcells_size ho.sl ho.n
  have HSTO : Hid ((storeCells ⟨w.heap.size, 0, none⟩ (hcells st rest N).toList).run Tryd.prog (w.alloc (.cells zero73 65)) = .ok () W1) := by rw [hW1]; exact store73 _ _ st rest N ho.sl ho.n (heap_alloc_new _ _)
  clear hN hW1 ho hrow sz1 hL
  go_enter Tryd.func30, Tryd.ntmps30
  have hsz := HS73.out
  have hsto := HSTO.out
  go_wp2_with (first | simp only [zero58] | (refine wpList_load_row rfl 65 _ rfl g rfl 65 (hcells st rest N) (0, 0) _ HROW.out Tryd.underlying65 rfl HI.out ?_))
  refine (HP.out _).mono ?_
  rintro e w2 ⟨rfl, hp2⟩
  clear hsz hsto c72
  go_wp2_with fail
  refine (HWR.out w2 hp2).mono ?_
  rintro e w3 ⟨rfl, ⟨st3, rest3, ho3, hr3⟩, hb3⟩
  have hst3 := ho3.s
  have he := mixTo_eight (l ++ padL N) ((l ++ padL N).length / 64)
  rw [← hst3] at he
  obtain ⟨n0, n1, n2, n3, n4, n5, n6, n7, hn, _⟩ := he
  rw [hn] at hr3 hst3
  have c0 : w3.cell? ⟨w.heap.size, 0, none⟩ = some (.int .u32 (n0 : Int)) := by rw [cell_of_row w3 w.heap.size 0 _ _ _ hr3]; exact hcells_s 0 (by simp)
  have c1 : w3.cell? ⟨w.heap.size, 1, none⟩ = some (.int .u32 (n1 : Int)) := by rw [cell_of_row w3 w.heap.size 1 _ _ _ hr3]; exact hcells_s 1 (by simp)
  have c2 : w3.cell? ⟨w.heap.size, 2, none⟩ = some (.int .u32 (n2 : Int)) := by rw [cell_of_row w3 w.heap.size 2 _ _ _ hr3]; exact hcells_s 2 (by simp)
  have c3 : w3.cell? ⟨w.heap.size, 3, none⟩ = some (.int .u32 (n3 : Int)) := by rw [cell_of_row w3 w.heap.size 3 _ _ _ hr3]; exact hcells_s 3 (by simp)
  have c4 : w3.cell? ⟨w.heap.size, 4, none⟩ = some (.int .u32 (n4 : Int)) := by rw [cell_of_row w3 w.heap.size 4 _ _ _ hr3]; exact hcells_s 4 (by simp)
  have c5 : w3.cell? ⟨w.heap.size, 5, none⟩ = some (.int .u32 (n5 : Int)) := by rw [cell_of_row w3 w.heap.size 5 _ _ _ hr3]; exact hcells_s 5 (by simp)
  have c6 : w3.cell? ⟨w.heap.size, 6, none⟩ = some (.int .u32 (n6 : Int)) := by rw [cell_of_row w3 w.heap.size 6 _ _ _ hr3]; exact hcells_s 6 (by simp)
  have c7 : w3.cell? ⟨w.heap.size, 7, none⟩ = some (.int .u32 (n7 : Int)) := by rw [cell_of_row w3 w.heap.size 7 _ _ _ hr3]; exact hcells_s 7 (by simp)
  have HD : Hid (∀ W, Calls Tryd.prog 34 #[.agg #[.int .u32 (n0 : Int), .int .u32 (n1 : Int), .int .u32 (n2 : Int), .int .u32 (n3 : Int), .int .u32 (n4 : Int), .int .u32 (n5 : Int), .int .u32 (n6 : Int), .int .u32 (n7 : Int)]] W fun e w' => e = .returned (.string (strOf (digest l))) ∧ Below W.heap.size W w') := by
    intro W
    have := digestof_any [n0, n1, n2, n3, n4, n5, n6, n7] W rfl
    have e : [n0, n1, n2, n3, n4, n5, n6, n7].flatMap (beN 4) = digest l := by
      rw [hst3, HN.out]; rfl
    rw [e] at this
    exact this
  have HB3 : Hid (Below w.heap.size w w3) := hb3
  clear hr3 hb3 ho3 hst3 hn hp2
  go_wp2_with (go_at_call 34; refine (HD.out _).mono ?_; rintro e w4 ⟨rfl, hb4⟩)
  go_ret
  exact ⟨rfl, HB3.out.trans (hb4.mono HB3.out.size)⟩
end Go.Proofs.YtbflkkffpcaakabDoor
