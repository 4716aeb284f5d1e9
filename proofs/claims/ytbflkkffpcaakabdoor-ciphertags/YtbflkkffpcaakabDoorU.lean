/- Walk over the program's Write. -/
import Derived.Test.YtbflkkffpcaakabDoorR
namespace Go.Proofs.YtbflkkffpcaakabDoor
open Go.RowKit
theorem hcells_state {st st' : List Nat} {rest : List UInt8} {n : Nat} (h : st.length = 8) (h' : st'.length = 8) :
    ((hcells st rest n).toList.take (0 + 0) ++ (u32v st').toList ++ (hcells st rest n).toList.drop (0 + 0 + (u32v st').toList.length)).toArray = hcells st' rest n := by
  have e1 : (u32v st').toList = st'.map fun (x : Nat) => Value.int .u32 (x : Int) := rfl
  have e2 : (hcells st rest n).toList = hlist st rest n := rfl
  rw [e1, e2]
  simp only [hcells, hlist, List.length_map, h']
  congr 1
  rw [List.drop_append_of_le_length (by simp [h]), List.drop_eq_nil_of_le (by simp [h])]
  simp
theorem u32v_one (l : List Nat) : ∀ v ∈ (u32v l).toList, v.oneCell' = true := by
  intro v hv
  simp only [u32v, List.mem_map] at hv
  obtain ⟨x, _, rfl⟩ := hv
  rfl
theorem add_at (b o i : Nat) : (⟨b, o, none⟩ : Addr).add i = ⟨b, o + i, none⟩ := by unfold Addr.add; split <;> simp_all
theorem slice56 (g q : Nat) (hq : q < 64) (W : World) : (Instr.sliceAt 43 (.pointer (some ⟨g, 8, none⟩)) (some (.int .i64 (q : Int))) none none).run Tryd.prog W = .ok (.slice (some ⟨g, 8 + q, none⟩) (64 - q) (64 - q)) W := by
  have h1 : (sizeOf 5).run Tryd.prog W = .ok 1 W := by kernel_rfl
  have e : (⟨g, 8, none⟩ : Addr).add q = ⟨g, 8 + q, none⟩ := by unfold Addr.add; split <;> simp_all
  have n1 : ¬ 64 = q := by omega
  have n2 : q ≤ 64 := by omega
  simp [Instr.sliceAt, run_underlying Tryd.underlying43, Instr.sliceBounds, Instr.sliceBound, asIntOf, Instr.sureAddr, h1, e, n1, n2]
theorem slice28 (bb bo n cp m : Nat) (hm : m ≤ n) (W : World) : (Instr.sliceAt 29 (.slice (some ⟨bb, bo, none⟩) n cp) (some (.int .i64 (m : Int))) none none).run Tryd.prog W = .ok (.slice (if cp = m then some ⟨bb, bo, none⟩ else some ⟨bb, bo + m, none⟩) (n - m) (cp - m)) W := by
  have h1 : (sizeOf 5).run Tryd.prog W = .ok 1 W := by kernel_rfl
  have e : (⟨bb, bo, none⟩ : Addr).add m = ⟨bb, bo + m, none⟩ := by unfold Addr.add; split <;> simp_all
  simp [Instr.sliceAt, Instr.slice, run_underlying Tryd.underlying29, Instr.sliceBounds, Instr.sliceBound, asIntOf, h1, e, hm]
/-- How long a slice is. -/
def sliceN : Value → Nat
  | .slice _ n _ => n
  | _ => 0
set_option maxRecDepth 100000 in
set_option maxHeartbeats 1000000 in
theorem write_any (g : Nat) (l : List UInt8) (a : Option Addr) (len cap : Nat) (bs : List UInt8) (w : World) (hg : 3 ≤ g) (hH : HashIs w g l) (hb : BsA w g a len cap bs) (hsum : l.length + bs.length ≤ 4611686018427387904) (hL : Laid w) :
    Calls Tryd.prog 29 #[.pointer (some ⟨g, 0, none⟩), .slice a len cap] w fun e w' => e = .returned (.tuple #[]) ∧ HashIs w' g (l ++ bs) ∧ Only g w w' := by
  obtain ⟨st, rest, ho, hrow⟩ := hH
  obtain ⟨N, hN⟩ : ∃ N, N = l.length := ⟨_, rfl⟩
  obtain ⟨M, hM⟩ : ∃ M, M = l.length + bs.length := ⟨_, rfl⟩
  rw [← hN] at hrow
  have c72 : w.cell? ⟨g, 72, none⟩ = some (.int .i64 (N : Int)) := by rw [cell_of_row w g 72 _ _ _ hrow]; exact hcells_c ho.sl ho.n
  have f72 : w.frozen? ⟨g, 72, none⟩ = false := frozen_of_row w g 72 _ _ hrow
  have hlen := hb.1
  have hmi : (N : Int) + (len : Int) = (M : Int) := by omega
  have hM62 : M ≤ 4611686018427387904 := by omega
  obtain ⟨at0, hat⟩ : ∃ x, x = N % 64 := ⟨_, rfl⟩
  have hati : (N : Int) % 64 = (at0 : Int) := by omega
  have hN62 : N ≤ 4611686018427387904 := by omega
  have hl63 : len ≤ 4611686018427387904 := by omega
  have HB : Hid (BsA w g a len cap bs) := hb
  have HL : Hid (Laid w) := hL
  have HO : Hid (HashOf st rest l) := ho
  have HROW : Hid ((w.setCell ⟨g, 72, none⟩ (.int .i64 (M : Int))).heap[g]? = some (.cells (hcells st rest M) 65 (0, 0))) := by
    show _ = _
    rw [heap_setCell_same w g 72 _ _ _ hrow, hcells_cset ho.sl ho.n]
  have HON : Hid (Only g w (w.setCell ⟨g, 72, none⟩ (.int .i64 (M : Int)))) := (Only.refl g w).setCell _ _
  have HN : Hid (N = l.length) := hN
  have HM : Hid (M = l.length + bs.length) := hM
  have HAT : Hid (at0 = N % 64) := hat
  have HLEN : Hid (bs.length = len) := hlen
  clear hb hL ho hrow hN hM hat hsum hlen
  go_enter Tryd.func29, Tryd.ntmps29
  go_wp2
  go_loopw [1, 4] (fun b p wr => ∃ (c : Nat) (st : List Nat) (rest : List UInt8) (a' : Option Addr) (n cp q : Nat), c + n = len ∧ b = .slice a' n cp ∧ q = (l ++ bs.take c).length % 64 ∧ p = .int .i64 (q : Int) ∧ HashOf st rest (l ++ bs.take c) ∧ wr.heap[g]? = some (.cells (hcells st rest M) 65 (0, 0)) ∧ Only g w wr ∧ n ≤ cp ∧ cp ≤ 9223372036854775807 ∧ (0 < n → ∃ bb bo, a' = some ⟨bb, bo, none⟩ ∧ bb ≠ g ∧ bb < w.heap.size ∧ ∀ i, i < n → w.cell? ⟨bb, bo + i, none⟩ = some (.int .u8 (((bs.getD (c + i) 0).toNat : Nat) : Int)))) (fun b _ _ => sliceN b)
  case atStart => exact ⟨0, st, rest, a, len, cap, at0, by omega, rfl, by simp [HAT.out, HN.out], by rw [← hati], by simpa using HO.out, HROW.out, HON.out, HB.out.2.1, HB.out.2.2.1, by simpa using HB.out.2.2.2⟩
  case round =>
    clear HROW HON HO c72 f72 hati
    obtain ⟨c, st, rest, a', n, cp, q, hcn, rfl, hq, rfl, ho, hrow, hon, hncp, hcp63, hsrc⟩ := hrel
    have hq64 : q < 64 := by omega
    obtain ⟨d, hd⟩ : ∃ d, d = 64 - q := ⟨_, rfl⟩
    have HSL : Hid (∀ W : World, (Instr.sliceAt 43 (.pointer (some ⟨g, 8, none⟩)) (some (.int .i64 (q : Int))) none none).run Tryd.prog W = .ok (.slice (some ⟨g, 8 + q, none⟩) d d) W) := by rw [hd]; exact fun W => slice56 g q hq64 W
    have HQ : Hid (q = (l ++ bs.take c).length % 64) := hq
    have HLE : Hid (HashOf st rest (l ++ bs.take c)) := ho
    have HON : Hid (Only g w wr) := hon
    have HROW : Hid (wr.heap[g]? = some (.cells (hcells st rest M) 65 (0, 0))) := hrow
    have HSRC : Hid (0 < n → ∃ bb bo, a' = some ⟨bb, bo, none⟩ ∧ bb ≠ g ∧ bb < w.heap.size ∧ ∀ i, i < n → w.cell? ⟨bb, bo + i, none⟩ = some (.int .u8 (((bs.getD (c + i) 0).toNat : Nat) : Int))) := hsrc
    clear hq ho hon hrow hsrc
    by_cases h0 : n = 0
    · subst h0
      have HCP : Hid (∀ W : World, (Builtin.copy_ #[29, 29] 3 #[.slice (some ⟨g, 8 + q, none⟩) d d, .slice a' 0 cp]).run Tryd.prog W = .ok (.int .i64 0) W) := fun W => run_copy_none W 29 29 3 5 _ _ d d 0 cp Tryd.underlying29 (by kernel_rfl) (by simp)
      have kq : (q : Int) < 64 := by omega
      have HE : Hid (l ++ bs.take c = l ++ bs) := by show _ = _; rw [List.take_of_length_le (by have := HLEN.out; omega)]
      clear HSRC hd
      go_wp2_with (first | simp only [HSL.out] | simp only [HCP.out])
      refine bodyPost_ret (v := .tuple #[]) ?_ rfl ⟨rfl, ⟨st, rest, HE.out ▸ HLE.out, ?_⟩, HON.out⟩
      · simp [results, go_sem]
      · rw [List.length_append, ← HM.out]; exact HROW.out
    · obtain ⟨bb, bo, rfl, hbg, hbs, hcl⟩ := HSRC.out (by omega)
      obtain ⟨mm, hmm⟩ : ∃ mm, mm = (bs.drop c).take d := ⟨_, rfl⟩
      obtain ⟨m, hm⟩ : ∃ m, m = mm.length := ⟨_, rfl⟩
      have hml : m ≤ d ∧ m ≤ n ∧ (m = d ∨ m = n) := by rw [hm, hmm]; simp [HLEN.out]; omega
      obtain ⟨rest', hr'⟩ : ∃ rest', rest' = over rest q mm := ⟨_, rfl⟩
      have hfit : q + mm.length ≤ rest.length := by rw [HLE.out.n, ← hm]; omega
      have HCP : Hid ((Builtin.copy_ #[29, 29] 3 #[.slice (some ⟨g, 8 + q, none⟩) d d, .slice (some ⟨bb, bo, none⟩) n cp]).run Tryd.prog wr = .ok (.int .i64 (m : Int)) (wr.setRow g (hcells st rest' M))) := by
        have := run_copy_row (P := Tryd.prog) wr 29 29 3 5 g (8 + q) d d ⟨bb, bo, none⟩ n cp (hcells st rest M) 65 (u8v mm).toList Tryd.underlying29 (by kernel_rfl) HROW.out (by simp only [u8v, List.length_map]; rw [← hm]; show m = min n d; omega) (fun j v hv => by
          have hj : j < mm.length := by
            rcases Nat.lt_or_ge j mm.length with h | h
            · exact h
            · rw [List.getElem?_eq_none (by simpa [u8v] using h)] at hv; cases hv
          have e : (⟨bb, bo, none⟩ : Addr).add j = ⟨bb, bo + j, none⟩ := add_at bb bo j
          rw [e, HON.out.cell hbs hbg, hcl j (by omega)]
          have hg' := u8v_get mm j hj
          rw [Array.getElem?_toList] at hv
          rw [hg'] at hv
          rw [← hv, hmm]
          congr 3
          rw [List.getD_eq_getElem?_getD, List.getD_eq_getElem?_getD, List.getElem?_take_of_lt (by omega), List.getElem?_drop]) (by rw [hcells_size HLE.out.sl HLE.out.n]; simp only [u8v, List.length_map]; rw [HLE.out.n] at hfit; omega) (u8v_all mm)
        rw [hcells_over HLE.out.sl q mm hfit, ← hr'] at this
        show _ = _
        rw [this]
        simp [u8v, goInt, hm]
      have HR2 : Hid ((wr.setRow g (hcells st rest' M)).heap[g]? = some (.cells (hcells st rest' M) 65 (0, 0))) := setRow_heap _ _ _ _ _ _ HROW.out
      have HO2 : Hid (Only g w (wr.setRow g (hcells st rest' M))) := HON.out.setRow _
      by_cases hful : q + n < 64
      · have HNX : Hid (HashOf st rest' (l ++ bs)) := by
          show HashOf st rest' (l ++ bs)
          have := HLE.out.less (m := mm) (by rw [← HQ.out, ← hm]; omega)
          have e : (bs.drop c).take d = bs.drop c := List.take_of_length_le (by simp [HLEN.out]; omega)
          rw [← HQ.out, ← hr', List.append_assoc, hmm, e, List.take_append_drop] at this
          exact this
        have kq : (q : Int) + (m : Int) < 64 := by omega
        have km : m ≤ 64 := by omega
        clear hcl hm hmm hml hr' hfit hd HROW HON HLE HSRC
        go_wp2_with (first | simp only [HSL.out] | simp only [HCP.out])
        refine bodyPost_ret (v := .tuple #[]) ?_ rfl ⟨rfl, ⟨st, rest', HNX.out, ?_⟩, HO2.out⟩
        · simp [results, go_sem]
        · rw [List.length_append, ← HM.out]; exact HR2.out
      · have hmd : m = d := by omega
        have HNX : Hid (HashOf (mixL kL st rest') rest' (l ++ bs.take (c + m))) := by
          have := HLE.out.full (m := mm) (by rw [← HQ.out, ← hm]; omega)
          rw [← HQ.out, ← hr', List.append_assoc, hmm, ← List.take_add] at this
          rw [← hmd] at this
          exact this
        subst hmd
        have hr64 : rest'.length = 64 := by rw [hr', over_len _ _ hfit, HLE.out.n]
        have HR64 : Hid (rest'.length = 64) := hr64
        have he := mixTo_eight (l ++ bs.take c) ((l ++ bs.take c).length / 64)
        rw [← HLE.out.s] at he
        obtain ⟨s0, s1, s2, s3, s4, s5, s6, s7, hst, hsw⟩ := he
        rw [hst] at HR2 HCP HO2 HNX
        obtain ⟨n0, n1, n2, n3, n4, n5, n6, n7, hnx, hnw⟩ := mixL_eight kL [s0, s1, s2, s3, s4, s5, s6, s7] rest' ⟨_, _, _, _, _, _, _, _, rfl, hsw⟩
        rw [hnx] at HNX
        have HMX : Hid (∀ W : World, W.heap[g]? = some (.cells (hcells [s0, s1, s2, s3, s4, s5, s6, s7] rest' M) 65 (0, 0)) → Laid W → Calls Tryd.prog 32 #[.agg #[.int .u32 (s0 : Int), .int .u32 (s1 : Int), .int .u32 (s2 : Int), .int .u32 (s3 : Int), .int .u32 (s4 : Int), .int .u32 (s5 : Int), .int .u32 (s6 : Int), .int .u32 (s7 : Int)], .slice (some ⟨g, 8, none⟩) 64 64] W fun e w' => e = .returned (.agg (u32v [n0, n1, n2, n3, n4, n5, n6, n7])) ∧ Below W.heap.size W w') := by
          intro W hW hLW
          have := mixed_any ⟨g, 8, none⟩ 64 rest' s0 s1 s2 s3 s4 s5 s6 s7 W hsw (lt_of_some hW) (fun i hi => by
            have e : (⟨g, 8, none⟩ : Addr).add i = ⟨g, 8 + i, none⟩ := add_at g 8 i
            rw [e, cell_of_row W g (8 + i) _ _ _ hW]
            exact hcells_r (by rfl) i (by omega)) hLW.k
          rw [hnx] at this
          exact this
        have HL2 : Hid (Laid (wr.setRow g (hcells [s0, s1, s2, s3, s4, s5, s6, s7] rest' M))) := HL.out.only hg HO2.out
        have HSN : Hid (∀ W : World, (Instr.sliceAt 29 (.slice (some ⟨bb, bo, none⟩) n cp) (some (.int .i64 (m : Int))) none none).run Tryd.prog W = .ok (.slice (if cp = m then some ⟨bb, bo, none⟩ else some ⟨bb, bo + m, none⟩) (n - m) (cp - m)) W) := fun W => slice28 bb bo n cp m (by omega) W
        have kq : ¬ (q : Int) + (m : Int) < 64 := by omega
        have HCL : Hid (∀ i, i < n → w.cell? ⟨bb, bo + i, none⟩ = some (.int .u8 (((bs.getD (c + i) 0).toNat : Nat) : Int))) := hcl
        have h1m : 1 ≤ m := by omega
        have HM64 : Hid (q + m = 64) := by show q + m = 64; omega
        have hmn : m ≤ n := by omega
        have km : m ≤ 64 := by omega
        clear hcl hm hmm hml hr' hfit hd HROW HON HLE HSRC hst hsw hnx hnw hr64
        have hsl := HSL.out wr
        have hcp := HCP.out
        go_wp2
        clear HCP hsl hcp
        obtain ⟨wr2, hwr2⟩ : ∃ W, W = wr.setRow g (hcells [s0, s1, s2, s3, s4, s5, s6, s7] rest' M) := ⟨_, rfl⟩
        rw [← hwr2] at HR2 HO2 HL2 ⊢
        clear hwr2
        have HR2 : Hid (wr2.drew.heap[g]? = some (.cells (hcells [s0, s1, s2, s3, s4, s5, s6, s7] rest' M) 65 (0, 0))) := HR2
        have HO2 : Hid (Only g w wr2.drew) := HO2.out.drew
        have HL2 : Hid (Laid wr2.drew) := ⟨HL2.out.f, HL2.out.k, HL2.out.q⟩
        have z0 : wr2.drew.cell? ⟨g, 0, none⟩ = some (.int .u32 (s0 : Int)) := by rw [cell_of_row wr2.drew g 0 _ _ _ HR2.out]; exact hcells_s 0 (by simp)
        have z0 : wr2.cell? ⟨g, 0, none⟩ = some (.int .u32 (s0 : Int)) := z0
        have z1 : wr2.drew.cell? ⟨g, 1, none⟩ = some (.int .u32 (s1 : Int)) := by rw [cell_of_row wr2.drew g 1 _ _ _ HR2.out]; exact hcells_s 1 (by simp)
        have z1 : wr2.cell? ⟨g, 1, none⟩ = some (.int .u32 (s1 : Int)) := z1
        have z2 : wr2.drew.cell? ⟨g, 2, none⟩ = some (.int .u32 (s2 : Int)) := by rw [cell_of_row wr2.drew g 2 _ _ _ HR2.out]; exact hcells_s 2 (by simp)
        have z2 : wr2.cell? ⟨g, 2, none⟩ = some (.int .u32 (s2 : Int)) := z2
        have z3 : wr2.drew.cell? ⟨g, 3, none⟩ = some (.int .u32 (s3 : Int)) := by rw [cell_of_row wr2.drew g 3 _ _ _ HR2.out]; exact hcells_s 3 (by simp)
        have z3 : wr2.cell? ⟨g, 3, none⟩ = some (.int .u32 (s3 : Int)) := z3
        have z4 : wr2.drew.cell? ⟨g, 4, none⟩ = some (.int .u32 (s4 : Int)) := by rw [cell_of_row wr2.drew g 4 _ _ _ HR2.out]; exact hcells_s 4 (by simp)
        have z4 : wr2.cell? ⟨g, 4, none⟩ = some (.int .u32 (s4 : Int)) := z4
        have z5 : wr2.drew.cell? ⟨g, 5, none⟩ = some (.int .u32 (s5 : Int)) := by rw [cell_of_row wr2.drew g 5 _ _ _ HR2.out]; exact hcells_s 5 (by simp)
        have z5 : wr2.cell? ⟨g, 5, none⟩ = some (.int .u32 (s5 : Int)) := z5
        have z6 : wr2.drew.cell? ⟨g, 6, none⟩ = some (.int .u32 (s6 : Int)) := by rw [cell_of_row wr2.drew g 6 _ _ _ HR2.out]; exact hcells_s 6 (by simp)
        have z6 : wr2.cell? ⟨g, 6, none⟩ = some (.int .u32 (s6 : Int)) := z6
        have z7 : wr2.drew.cell? ⟨g, 7, none⟩ = some (.int .u32 (s7 : Int)) := by rw [cell_of_row wr2.drew g 7 _ _ _ HR2.out]; exact hcells_s 7 (by simp)
        have z7 : wr2.cell? ⟨g, 7, none⟩ = some (.int .u32 (s7 : Int)) := z7
        refine wp_region_held_drew (S := fun _ => True) (by kernel_rfl) (trivial) (fun hHeld => ?_)
        refine wpAnyH_take (i := 0) (v := ?vg5_0) rfl (by kernel_rfl) (by kernel_rfl) (by kernel_rfl) (fun _ _ _ h => h) (Or.inl ⟨by kernel_rfl, ?yg5_0⟩) hHeld ?rg5_0
        case yg5_0 => (intro W hSW; (try dsimp only at hSW); go_simp; (try with_reducible rfl))
        change wpAnyH _ _ _ _ _ _ _ (Act.put _ (some 33) _) _
        simp only [Act.put, List.setIfInBounds_toArray, List.set_cons_zero, List.set_cons_succ]
        refine wpAnyH_take (i := 1) (v := ?vg5_1) rfl (by kernel_rfl) (by kernel_rfl) (by kernel_rfl) (fun _ _ _ h => h) (Or.inl ⟨by kernel_rfl, ?yg5_1⟩) hHeld ?rg5_1
        case yg5_1 => (intro W hSW; (try dsimp only at hSW); go_simp; (try with_reducible rfl))
        change wpAnyH _ _ _ _ _ _ _ (Act.put _ (some 34) _) _
        simp only [Act.put, List.setIfInBounds_toArray, List.set_cons_zero, List.set_cons_succ]
        refine wpAnyH_take (i := 2) (v := ?vg5_2) rfl (by kernel_rfl) (by kernel_rfl) (by kernel_rfl) (fun _ _ _ h => h) (Or.inl ⟨by kernel_rfl, ?yg5_2⟩) hHeld ?rg5_2
        case yg5_2 => (intro W hSW; (try dsimp only at hSW); go_simp; (try with_reducible rfl))
        change wpAnyH _ _ _ _ _ _ _ (Act.put _ (some 35) _) _
        simp only [Act.put, List.setIfInBounds_toArray, List.set_cons_zero, List.set_cons_succ]
        refine wpAnyH_take (i := 3) (v := ?vg5_3) rfl (by kernel_rfl) (by kernel_rfl) (by kernel_rfl) (fun _ _ _ h => h) (Or.inl ⟨by kernel_rfl, ?yg5_3⟩) hHeld ?rg5_3
        case yg5_3 => (intro W hSW; (try dsimp only at hSW); go_simp; (try with_reducible rfl))
        change wpAnyH _ _ _ _ _ _ _ (Act.put _ (some 36) _) _
        simp only [Act.put, List.setIfInBounds_toArray, List.set_cons_zero, List.set_cons_succ]
        refine wpAnyH_take (i := 5) (v := ?vg5_5) rfl (by kernel_rfl) (by kernel_rfl) (by kernel_rfl) (fun _ _ _ h => h) (Or.inl ⟨by kernel_rfl, ?yg5_5⟩) hHeld ?rg5_5
        case yg5_5 => (intro W hSW; (try dsimp only at hSW); go_simp; (try with_reducible rfl))
        change wpAnyH _ _ _ _ _ _ _ (Act.put _ (some 38) _) _
        simp only [Act.put, List.setIfInBounds_toArray, List.set_cons_zero, List.set_cons_succ]
        refine wpAnyH_take (i := 6) (v := ?vg5_6) rfl (by kernel_rfl) (by kernel_rfl) (by kernel_rfl) (fun _ _ _ h => h) (Or.inl ⟨by kernel_rfl, ?yg5_6⟩) hHeld ?rg5_6
        case yg5_6 => (intro W hSW; (try dsimp only at hSW); go_simp; (try with_reducible rfl))
        change wpAnyH _ _ _ _ _ _ _ (Act.put _ (some 39) _) _
        simp only [Act.put, List.setIfInBounds_toArray, List.set_cons_zero, List.set_cons_succ]
        refine wpAnyH_take (i := 7) (v := ?vg5_7) rfl (by kernel_rfl) (by kernel_rfl) (by kernel_rfl) (fun _ _ _ h => h) (Or.inl ⟨by kernel_rfl, ?yg5_7⟩) hHeld ?rg5_7
        case yg5_7 => (intro W hSW; (try dsimp only at hSW); go_simp; (try with_reducible rfl))
        change wpAnyH _ _ _ _ _ _ _ (Act.put _ (some 40) _) _
        simp only [Act.put, List.setIfInBounds_toArray, List.set_cons_zero, List.set_cons_succ]
        refine wpAnyH_take (i := 8) (v := ?vg5_8) rfl (by kernel_rfl) (by kernel_rfl) (by kernel_rfl) (fun _ _ _ h => h) (Or.inl ⟨by kernel_rfl, ?yg5_8⟩) hHeld ?rg5_8
        case yg5_8 => (intro W hSW; (try dsimp only at hSW); go_simp; (try with_reducible rfl))
        change wpAnyH _ _ _ _ _ _ _ (Act.put _ (some 41) _) _
        simp only [Act.put, List.setIfInBounds_toArray, List.set_cons_zero, List.set_cons_succ]
        refine wpAnyH_ready (rs := [4]) (by kernel_rfl) (by simp) ?_
        refine AllReadyH.cons rfl (fun K hK => ?_) AllReadyH.nil
        go_simp
        refine hK.out _ _ (trivial) (fun hHeld => ?_)
        clear hK K
        refine wpAnyH_ready (rs := [9]) (by kernel_rfl) (by simp) ?_
        refine AllReadyH.cons rfl (fun K hK => ?_) AllReadyH.nil
        go_simp
        refine (HMX.out _ HR2.out HL2.out).mono ?_
        rintro e w3 ⟨rfl, hw3⟩
        refine hK.out _ _ (trivial) (fun hHeld => ?_)
        clear hK K
        try simp only [Act.put, List.setIfInBounds_toArray, List.set_cons_zero, List.set_cons_succ]
        have HR3 : Hid (w3.heap[g]? = some (.cells (hcells [s0, s1, s2, s3, s4, s5, s6, s7] rest' M) 65 (0, 0))) := (hw3.block g (lt_of_some HR2.out)).trans HR2.out
        have HO3 : Hid (Only g w w3) := HO2.out.below hw3
        have hsz : (u32v [n0, n1, n2, n3, n4, n5, n6, n7]).size = 8 := rfl
        have hsto : (storeCells ⟨g, 0, none⟩ (u32v [n0, n1, n2, n3, n4, n5, n6, n7]).toList).run Tryd.prog w3 = .ok () (w3.setRow g (hcells [n0, n1, n2, n3, n4, n5, n6, n7] rest' M)) := by
          rw [run_storeCells_at Tryd.prog g 0 65 (u32v [n0, n1, n2, n3, n4, n5, n6, n7]).toList 0 _ w3 HR3.out (by rw [hcells_size (by rfl) HR64.out]; exact (by omega : 0 + 0 + 8 ≤ 73)) (fun v hv => u32v_one _ v hv), hcells_state (by rfl) (by rfl)]
        have HR4 : Hid ((w3.setRow g (hcells [n0, n1, n2, n3, n4, n5, n6, n7] rest' M)).heap[g]? = some (.cells (hcells [n0, n1, n2, n3, n4, n5, n6, n7] rest' M) 65 (0, 0))) := setRow_heap _ _ _ _ _ _ HR3.out
        have HO4 : Hid (Only g w (w3.setRow g (hcells [n0, n1, n2, n3, n4, n5, n6, n7] rest' M))) := HO3.out.setRow _
        clear hw3 z0 z1 z2 z3 z4 z5 z6 z7
        refine wpAnyH_take (i := 10) (v := ?vg5_10) rfl (by kernel_rfl) (by kernel_rfl) (by kernel_rfl) (fun _ _ _ h => h) (Or.inl ⟨by kernel_rfl, ?yg5_10⟩) hHeld ?rg5_10
        case yg5_10 => (intro W hSW; (try dsimp only at hSW); go_simp; (try with_reducible rfl))
        change wpAnyH _ _ _ _ _ _ _ (Act.put _ (some 43) _) _
        simp only [Act.put, List.setIfInBounds_toArray, List.set_cons_zero, List.set_cons_succ]
        refine wpAnyH_take (i := 11) (v := ?vg5_11) rfl (by kernel_rfl) (by kernel_rfl) (by kernel_rfl) (fun _ _ _ h => h) (Or.inl ⟨by kernel_rfl, ?yg5_11⟩) hHeld ?rg5_11
        case yg5_11 => (intro W hSW; (try dsimp only at hSW); go_simp; (try with_reducible rfl))
        change wpAnyH _ _ _ _ _ _ _ (Act.put _ (some 44) _) _
        simp only [Act.put, List.setIfInBounds_toArray, List.set_cons_zero, List.set_cons_succ]
        refine wpAnyH_ready (rs := [12]) (by kernel_rfl) (by simp) ?_
        refine AllReadyH.cons rfl (fun K hK => ?_) AllReadyH.nil
        go_simp
        refine hK.out _ _ (trivial) (fun hHeld => ?_)
        clear hK K
        refine wpAnyH_done (by kernel_rfl) ?_ _
        have hsn := HSN.out
        go_wp2
        refine ⟨⟨c + m, [n0, n1, n2, n3, n4, n5, n6, n7], rest', _, n - m, cp - m, 0, by omega, rfl, ?_, rfl, HNX.out, HR4.out, HO4.out, by omega, by omega, ?_⟩, ?_⟩
        · have h1 := HQ.out
          have h2 := HM64.out
          simp only [List.length_append, List.length_take, HLEN.out] at h1 ⊢
          rw [Nat.min_eq_left (by omega)] at h1 ⊢
          omega
        · intro hpos
          refine ⟨bb, bo + m, by rw [if_neg (by omega)], hbg, hbs, fun i hi => ?_⟩
          have := HCL.out (m + i) (by omega)
          rw [← Nat.add_assoc, ← Nat.add_assoc] at this
          exact this
        · show n - m < n
          omega
end Go.Proofs.YtbflkkffpcaakabDoor
