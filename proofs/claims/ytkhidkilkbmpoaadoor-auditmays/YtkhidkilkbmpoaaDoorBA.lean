/- Walks over the program's sealBy and Seal. Walk over the program's Check. What the laid tables say to the walks. How a slice of bytes that came in is told to the walks. -/
import Derived.Test.YtkhidkilkbmpoaaDoorCC
import Derived.Deep.RegionHeld
import Derived.Test.YtkhidkilkbmpoaaDoorRows
import Derived.Test.YtkhidkilkbmpoaaDoorCA
import Derived.ProofKit
import Derived.LaidMore
import Derived.OpenShut
import Derived.Stop.Joined
import Derived.Laws.BytesArg
namespace Go.Proofs.YtkhidkilkbmpoaaDoor
open Go.RowKit
set_option maxRecDepth 100000 in
set_option maxHeartbeats 1000000 in
theorem sealby_any (b : List UInt8) (t : ByteArray) (w : World) (hb : b.length = 64) (ht : t.size ≤ 1000000000) (hL : Laid w) :
    Calls Tryd.prog 36 #[.agg (u8v b), .string t] w fun e w' => e = .returned (.string (strOf (sealB b t.data.toList))) ∧ Below w.heap.size w w' := by
  have HI : Hid ((Tryd.prog.info? 60).map (·.size) = some (u8v b).size) := infoB b hb
  obtain ⟨D, hD⟩ : ∃ D, strOf (behind b 54 t.data.toList) = D := ⟨_, rfl⟩
  obtain ⟨E, hE⟩ : ∃ E, strOf (sealB b t.data.toList) = E := ⟨_, rfl⟩
  have H54 : Hid (∀ W, Laid W → Calls Tryd.prog 55 #[.agg (u8v b), .int .u8 54, .string t] W fun e w' => e = .returned (.string D) ∧ Below W.heap.size W w') := by
    rw [← hD]; exact fun W h => behind_any b 54 t W hb (by omega) ht h
  have H92 : Hid (∀ W, Laid W → Calls Tryd.prog 55 #[.agg (u8v b), .int .u8 92, .string D] W fun e w' => e = .returned (.string E) ∧ Below W.heap.size W w') := by
    rw [← hD, ← hE]; exact fun W h => behind_any b 92 (strOf (behind b 54 t.data.toList)) W hb (by omega) (by rw [strOf_size, behind_len]; omega) h
  rw [hE]
  have HROW : Hid ((w.alloc (.cells (u8v b) 60)).heap[w.heap.size]? = some (.cells (u8v b) 60 (0, 0))) := heap_alloc_new _ _
  have HB1 : Hid (Below w.heap.size w (w.alloc (.cells (u8v b) 60))) := (Below.refl _ w).alloc (Nat.le_refl _) _
  have HLT : Hid (w.heap.size < (w.alloc (.cells (u8v b) 60)).heap.size) := lt_of_some HROW.out
  have HL1 : Hid (Laid (w.alloc (.cells (u8v b) 60)).drew) := (hL.below HB1.out).below (Below.refl _ _).drew
  have HL : Hid (Laid w) := hL
  clear hb ht hL hD hE
  go_enter Tryd.func36, Tryd.ntmps36
  go_wp2
  refine wp_region_held_drew (S := fun W => W.heap[w.heap.size]? = some (.cells (u8v b) 60 (0, 0))) (by kernel_rfl) (HROW.out) (fun hHeld => ?_)
  refine wpAnyH_take (i := 0) (v := ?v0) rfl (by kernel_rfl) (by kernel_rfl) (by kernel_rfl) (fun _ _ _ h => h) (Or.inl ⟨by kernel_rfl, ?y0⟩) hHeld ?r0
  case y0 => (intro W hSW; refine yields_row 60 (.tmp 2) ?_ w.heap.size ?_ 60 (u8v b) (0, 0) _ hSW Tryd.underlying60 rfl HI.out <;> rfl)
  change wpAnyH _ _ _ _ _ _ _ (Act.put _ (some 5) _) _
  simp only [Act.put, List.setIfInBounds_toArray, List.set_cons_zero, List.set_cons_succ]
  refine wpAnyH_take (i := 1) (v := ?v1) rfl (by kernel_rfl) (by kernel_rfl) (by kernel_rfl) (fun _ _ _ h => h) (Or.inl ⟨by kernel_rfl, ?y1⟩) hHeld ?r1
  case y1 => (intro W hSW; refine yields_row 60 (.tmp 2) ?_ w.heap.size ?_ 60 (u8v b) (0, 0) _ hSW Tryd.underlying60 rfl HI.out <;> rfl)
  change wpAnyH _ _ _ _ _ _ _ (Act.put _ (some 6) _) _
  simp only [Act.put, List.setIfInBounds_toArray, List.set_cons_zero, List.set_cons_succ]
  refine wpAnyH_take (i := 2) (v := ?v2) rfl (by kernel_rfl) (by kernel_rfl) (by kernel_rfl) (fun _ _ _ h => h) (Or.inl ⟨by kernel_rfl, ?y2⟩) hHeld ?r2
  case y2 => (intro W hSW; (try dsimp only at hSW); go_simp; (try with_reducible rfl))
  change wpAnyH _ _ _ _ _ _ _ (Act.put _ (some 7) _) _
  simp only [Act.put, List.setIfInBounds_toArray, List.set_cons_zero, List.set_cons_succ]
  refine wpAnyH_ready (rs := [3]) (by kernel_rfl) (by simp) ?_
  refine AllReadyH.cons rfl (fun K hK => ?_) AllReadyH.nil
  go_simp
  refine (H54.out _ (HL1.out)).mono ?_
  rintro e w2 ⟨rfl, hB2⟩
  refine hK.out _ _ ((hB2.block w.heap.size HLT.out).trans HROW.out) (fun hHeld => ?_)
  clear hK K
  try simp only [Act.put, List.setIfInBounds_toArray, List.set_cons_zero, List.set_cons_succ]
  have hB2' : Below w.heap.size w w2 := HB1.out.trans (undrew (hB2.mono (Nat.le_of_lt HLT.out)))
  refine wpAnyH_ready (rs := [4]) (by kernel_rfl) (by simp) ?_
  refine AllReadyH.cons rfl (fun K hK => ?_) AllReadyH.nil
  go_simp
  refine (H92.out _ (HL.out.below hB2')).mono ?_
  rintro e w3 ⟨rfl, hB3⟩
  refine hK.out _ _ ((hB3.block w.heap.size (Nat.lt_of_lt_of_le HLT.out hB2.size)).trans ((hB2.block w.heap.size HLT.out).trans HROW.out)) (fun hHeld => ?_)
  clear hK K
  try simp only [Act.put, List.setIfInBounds_toArray, List.set_cons_zero, List.set_cons_succ]
  refine wpAnyH_take (i := 5) (v := ?v5) rfl (by kernel_rfl) (by kernel_rfl) (by kernel_rfl) (fun _ _ _ h => h) (Or.inl ⟨by kernel_rfl, ?y5⟩) hHeld ?r5
  case y5 => (intro W hSW; (try dsimp only at hSW); go_simp; (try with_reducible rfl))
  change wpAnyH _ _ _ _ _ _ _ (Act.put _ (some 4) _) _
  simp only [Act.put, List.setIfInBounds_toArray, List.set_cons_zero, List.set_cons_succ]
  refine wpAnyH_done (by kernel_rfl) ?_ _
  go_wp2
  go_ret
  exact ⟨rfl, hB2'.trans (hB3.mono hB2'.size)⟩

set_option maxRecDepth 100000 in
set_option maxHeartbeats 1000000 in
theorem seal_any (k t : ByteArray) (w : World) (hk : k.size ≤ 1000000000) (ht : t.size ≤ 1000000000) (hL : Laid w) :
    Calls Tryd.prog 23 #[.string k, .string t] w fun e w' => e = .returned (.string (strOf (sealL k.data.toList t.data.toList))) ∧ Below w.heap.size w w' := by
  have HK : Hid (Calls Tryd.prog 37 #[.string k] w fun e w' => e = .returned (.agg (u8v (blockOf k.data.toList))) ∧ Below w.heap.size w w') := key_any k w hk hL
  have HS : Hid (∀ W, Below w.heap.size w W → Calls Tryd.prog 36 #[.agg (u8v (blockOf k.data.toList)), .string t] W fun e w' => e = .returned (.string (strOf (sealL k.data.toList t.data.toList))) ∧ Below w.heap.size w w') := by
    intro W hB
    refine (sealby_any (blockOf k.data.toList) t W (blockOf_len _) ht (hL.below hB)).mono ?_
    rintro e w' ⟨rfl, hB'⟩
    exact ⟨rfl, hB.trans (hB'.mono hB.size)⟩
  clear hL
  go_enter Tryd.func23, Tryd.ntmps23
  go_wp2_with fail
  refine HK.out.mono ?_
  rintro e w2 ⟨rfl, hB2⟩
  have HS2 := HS.out w2 hB2
  go_wp2_with fail
  refine HS2.mono ?_
  rintro e w3 ⟨rfl, hB3⟩
  go_wp2
  go_ret
  exact ⟨rfl, hB3⟩
end Go.Proofs.YtkhidkilkbmpoaaDoor
namespace Go.Proofs.YtkhidkilkbmpoaaDoor
open Go.RowKit
theorem str_at (s : ByteArray) (k x : Nat) (hk : k < s.size) (hx : (s.data.toList.getD k 0).toNat = x) (W : World) : (Instr.index 9 (.string s) (.int .i64 (k : Int))).run Tryd.prog W = .ok (.int .u8 (x : Int)) W := by
  have hk' : k < s.data.size := hk
  rw [run_index_string W 9 s .i64 (k : Int) Tryd.underlying9, dif_pos ⟨by omega, by omega⟩]
  congr 2
  rw [← hx, List.getD_eq_getElem?_getD, Array.getElem?_toList, Array.getElem?_eq_getElem hk']
  rfl
theorem or_xor_zero (d x y : Nat) : (d ||| (x ^^^ y)) = 0 ↔ d = 0 ∧ x = y := by
  rw [Nat.or_eq_zero_iff]
  refine and_congr_right fun _ => ⟨fun h => ?_, fun h => by rw [h, Nat.xor_self]⟩
  have e : (x ^^^ y) ^^^ y = x := by rw [Nat.xor_assoc, Nat.xor_self, Nat.xor_zero]
  rw [← e, h, Nat.zero_xor]
theorem take_next (s t : List UInt8) (i : Nat) (hs : i < s.length) (ht : i < t.length) : s.take (i + 1) = t.take (i + 1) ↔ s.take i = t.take i ∧ (s.getD i 0).toNat = (t.getD i 0).toNat := by
  rw [List.take_add_one, List.take_add_one, List.getElem?_eq_getElem hs, List.getElem?_eq_getElem ht]
  simp only [Option.toList]
  constructor
  · intro h
    have := List.append_inj h (by simp; omega)
    refine ⟨this.1, ?_⟩
    have e := this.2
    simp at e
    simp [hs, ht, e]
  · rintro ⟨h1, h2⟩
    rw [h1]
    congr 1
    simp [hs, ht] at h2
    have := UInt8.toNat_inj.1 h2
    rw [this]
end Go.Proofs.YtkhidkilkbmpoaaDoor
namespace Go.Proofs.YtkhidkilkbmpoaaDoor
open Go.ChangeShapes Go.WideShapes Go.ChangeAt Go.WideMaps Go.WideElems Go.RowKit
theorem own : ownKnob Tryd.prog.godebug = none := by kernel_rfl
def laid2 : List (String × DataW Unit) := [("strongroom/sha.firstState", Rows.laid_strongroom_sha_firstState), ("strongroom/sha.cubeWords", Rows.laid_strongroom_sha_cubeWords)]
theorem gFirst : Tryd.prog.globalNamed "strongroom/sha.firstState" = some 0 := by kernel_rfl
theorem gCube : Tryd.prog.globalNamed "strongroom/sha.cubeWords" = some 2 := by kernel_rfl
theorem tFirst : (Tryd.prog.globals[0]?).map (·.type) = some 111 := by kernel_rfl
theorem tCube : (Tryd.prog.globals[2]?).map (·.type) = some 119 := by kernel_rfl
theorem first_is : (Rows.laid_strongroom_sha_firstState : DataW Unit) = .agg (ivL.map fun (x : Nat) => .lit (.int .u32 (x : Int))) := by kernel_rfl
theorem cube_is : (Rows.laid_strongroom_sha_cubeWords : DataW Unit) = .agg (kL.map fun (x : Nat) => .lit (.int .u32 (x : Int))) := by kernel_rfl
theorem row_cells {H : Type} {enc : TypeId × Value → H} {W : World} {base fuel n g : Nat} {spare : Nat → Bool} {held : Bool} {t : TypeId} {cs : Array Value} {name : String} {x : DataW H × List MemPlace} (nums : List Nat)
    (hg : Tryd.prog.globalNamed name = some g) (hv : W.var? Tryd.prog name = some cs) (ht : Tryd.prog.underlying t = some (.array n 101))
    (hd : DataW.trod enc Tryd.prog W base spare held fuel t cs.toList = some x) (hx : x.1 = .agg (nums.map fun (x : Nat) => .lit (.int .u32 (x : Int)))) (i : Nat) (hi : i < n) :
    W.cell? ⟨g, i, none⟩ = some (.int .u32 ((nums.getD i 0 : Nat) : Int)) := by
  obtain ⟨xs, m, rfl, rfl, hlen, hn, hel⟩ := DataW.trod_array ht hd
  have h0 := hel i hi
  rw [show Tryd.prog.cellsOf 101 = 1 by kernel_rfl, Nat.mul_one, List.getElem?_eq_getElem (by omega)] at h0
  obtain ⟨k, e1, e2, _⟩ := DataW.trod_int Tryd.underlying101 h0
  have hc : cs[i]? = some (.int .u32 k) := by
    have : ((cs.toList.drop i).take 1)[0]? = some (.int .u32 k) := by rw [e1]; rfl
    rw [List.getElem?_take_of_lt (by omega), List.getElem?_drop] at this
    simpa using this
  rw [World.var?_cell hg hv i, hc]
  have hx' : xs.map (·.1) = nums.map fun (x : Nat) => .lit (.int .u32 (x : Int)) := by simpa using hx
  have h1 : (xs.map (·.1))[i]? = some (.lit (.int .u32 k)) := by
    rw [List.getElem?_map, List.getElem?_eq_getElem (by omega), e2]; rfl
  rw [hx', List.getElem?_map] at h1
  cases hq : nums[i]? with
  | none => rw [hq] at h1; cases h1
  | some y =>
    rw [hq] at h1
    rw [List.getD_eq_getElem?_getD, hq]
    simp at h1
    simp [h1]
theorem of_laid {W : World} (h : laidMetH Tryd.prog laid2 W) : Laid W := by
  rw [MakeChecks.laidMetH_plain _ _ _ (by kernel_rfl)] at h
  obtain ⟨ps, ⟨g0, t0, cs0, f0, p0, q0, hg0, ht0, hv0, hd0, ⟨g1, t1, cs1, f1, p1, q1, hg1, ht1, hv1, hd1, _, _⟩, _⟩, _, _⟩ := h
  obtain rfl := Option.some.inj (gFirst.symm.trans hg0)
  obtain rfl := Option.some.inj (gCube.symm.trans hg1)
  obtain rfl := Option.some.inj (tFirst.symm.trans ht0)
  obtain rfl := Option.some.inj (tCube.symm.trans ht1)
  exact ⟨fun i hi => row_cells ivL gFirst hv0 Tryd.underlying111 hd0 first_is i hi, fun i hi => row_cells kL gCube hv1 Tryd.underlying119 hd1 cube_is i hi⟩
/-- The heap that the program's start leaves meets the condition. -/
theorem door_met (os : Os) (args : Array Value) : laidMetH Tryd.prog laid2 ((World.doorLaid Tryd.prog 19 os).forCall (fun _ _ => 0) ⟨#[], args, []⟩).memory :=
  laidMetH_of_parts3 (fuel := 8) (laidMet_of_run' 8 (by kernel_rfl) (by kernel_rfl)) (by kernel_rfl) (by kernel_rfl)
end Go.Proofs.YtkhidkilkbmpoaaDoor
namespace Go.Proofs.YtkhidkilkbmpoaaDoor
open Go.RowKit
/-- A slice of integers that came in: nil; or a row of 'cap' numbers. -/
def IsRow (k : IntKind) (w : World) (a : Option Addr) (len cap : Nat) (zs : List Int) : Prop :=
  (a = none ∧ len = 0 ∧ cap = 0 ∧ zs = []) ∨
  ∃ x, a = some x ∧ len ≤ cap ∧ cap ≤ maxLen ∧ zs.length = cap ∧ (∀ i, i < zs.length → w.cell? (x.add i) = some (.int k (zs.getD i 0))) ∧ ∀ n ∈ zs, (Lit.int k n).wf = true
theorem wf_u8 {n : Int} (h : (Lit.int .u8 n).wf = true) : 0 ≤ n ∧ n ≤ 255 := by
  simp [Lit.wf, IntKind.min, IntKind.max, IntKind.signed, IntKind.bits] at h
  omega
theorem wf_u32 {n : Int} (h : (Lit.int .u32 n).wf = true) : 0 ≤ n ∧ n < 4294967296 := by
  simp [Lit.wf, IntKind.min, IntKind.max, IntKind.signed, IntKind.bits] at h
  omega
theorem spot_none {w : World} {x : Addr} {v : Value} (h : w.cell? (x.add 0) = some v) : ∃ b o, x = ⟨b, o, none⟩ := by
  obtain ⟨b, o, s⟩ := x
  have hs : s = none := by simpa [Addr.add] using World.cell?_spot h
  subst hs
  exact ⟨b, o, rfl⟩
theorem IsRow.bsI {w : World} {a : Option Addr} {len cap : Nat} {zs : List Int} (h : IsRow .u8 w a len cap zs) : ∃ bs, BsI w a len cap bs := by
  rcases h with ⟨rfl, rfl, rfl, rfl⟩ | ⟨x, rfl, h1, h2, h3, h4, h5⟩
  · exact ⟨[], BsI.nil w⟩
  · refine ⟨(zs.take len).map fun z => UInt8.ofNat z.toNat, by simp; omega, h1, by simpa [maxLen] using h2, fun h0 => ?_⟩
    obtain ⟨b, o, rfl⟩ := spot_none (h4 0 (by omega))
    have h40 := h4 0 (by omega)
    refine ⟨b, o, rfl, ?_, fun i hi => ?_⟩
    · have := block_lt_of_cell h40
      rwa [add_block] at this
    · have := h4 i (by omega)
      rw [add_at] at this
      rw [this]
      have hz := wf_u8 (h5 (zs[i]'(by omega)) (List.getElem_mem _))
      congr 2
      simp only [List.getD_eq_getElem?_getD, List.getElem?_map, List.getElem?_take_of_lt hi, List.getElem?_eq_getElem (show i < zs.length by omega), Option.map_some, Option.getD_some, UInt8.toNat_ofNat']
      omega
theorem BsI.conv {w W : World} {a : Option Addr} {len cap : Nat} {bs : List UInt8} (h : BsI w a len cap bs) (hb : Below w.heap.size w W) : (convert 45 9 (.slice a len cap)).run Tryd.prog W = .ok (.string (strOf bs)) W := by
  obtain ⟨h1, h2, h3, h4⟩ := h.below hb
  by_cases h0 : 0 < len
  · obtain ⟨bb, bo, rfl, _, hc⟩ := h4 h0
    exact conv_row W bb bo len cap bs h1 hc
  · have hb : bs = [] := List.eq_nil_of_length_eq_zero (by omega)
    subst hb
    obtain rfl : len = 0 := by omega
    cases a with
    | none => exact run_convert_bytes_nil W 45 5 Tryd.underlying45 Tryd.underlying5 0 cap 9 Tryd.underlying9
    | some ad =>
      rw [run_convert_bytes_string W 45 9 5 _ 0 cap Tryd.underlying45 Tryd.underlying5 Tryd.underlying9, run_bytesToString W ad 0 cap [] (by simp [loadCells, loadCellsFrom])]
      rfl
end Go.Proofs.YtkhidkilkbmpoaaDoor
