/- What the laid tables say to the walks. How a slice of bytes that came in is told to the walks. Rows of the call's own; strings. -/
import Derived.Test.YtjpkngbjjgimjaaDoorRows
import Derived.Test.YtjpkngbjjgimjaaDoorY
import Derived.ProofKit
import Derived.LaidMore
import Derived.OpenShut
import Derived.Stop.Joined
import Derived.Laws.BytesArg
import Derived.Deep.AppendSrc
import Derived.Deep.RegionHeld
import Derived.Deep.AppendLies
namespace Go.Proofs.YtjpkngbjjgimjaaDoor
open Go.ChangeShapes Go.WideShapes Go.ChangeAt Go.WideMaps Go.WideElems Go.RowKit
theorem own : ownKnob Tryd.prog.godebug = none := by kernel_rfl
def laid2 : List (String × DataW Unit) := [("strongroom/sha.firstState", Rows.laid_strongroom_sha_firstState), ("strongroom/sha.cubeWords", Rows.laid_strongroom_sha_cubeWords)]
theorem gFirst : Tryd.prog.globalNamed "strongroom/sha.firstState" = some 0 := by kernel_rfl
theorem gCube : Tryd.prog.globalNamed "strongroom/sha.cubeWords" = some 1 := by kernel_rfl
theorem tFirst : (Tryd.prog.globals[0]?).map (·.type) = some 97 := by kernel_rfl
theorem tCube : (Tryd.prog.globals[1]?).map (·.type) = some 103 := by kernel_rfl
theorem first_is : (Rows.laid_strongroom_sha_firstState : DataW Unit) = .agg (ivL.map fun (x : Nat) => .lit (.int .u32 (x : Int))) := by kernel_rfl
theorem cube_is : (Rows.laid_strongroom_sha_cubeWords : DataW Unit) = .agg (kL.map fun (x : Nat) => .lit (.int .u32 (x : Int))) := by kernel_rfl
theorem row_cells {H : Type} {enc : TypeId × Value → H} {W : World} {base fuel n g : Nat} {spare : Nat → Bool} {held : Bool} {t : TypeId} {cs : Array Value} {name : String} {x : DataW H × List MemPlace} (nums : List Nat)
    (hg : Tryd.prog.globalNamed name = some g) (hv : W.var? Tryd.prog name = some cs) (ht : Tryd.prog.underlying t = some (.array n 76))
    (hd : DataW.trod enc Tryd.prog W base spare held fuel t cs.toList = some x) (hx : x.1 = .agg (nums.map fun (x : Nat) => .lit (.int .u32 (x : Int)))) (i : Nat) (hi : i < n) :
    W.cell? ⟨g, i, none⟩ = some (.int .u32 ((nums.getD i 0 : Nat) : Int)) := by
  obtain ⟨xs, m, rfl, rfl, hlen, hn, hel⟩ := DataW.trod_array ht hd
  have h0 := hel i hi
  rw [show Tryd.prog.cellsOf 76 = 1 by kernel_rfl, Nat.mul_one, List.getElem?_eq_getElem (by omega)] at h0
  obtain ⟨k, e1, e2, _⟩ := DataW.trod_int Tryd.underlying76 h0
  have hc : cs[i]? = some (.int .u32 k) := by
    have : ((cs.toList.drop i).take 1)[0]? = some (.int .u32 k) := by rw [e1]; rfl
    rw [List.getElem?_take_of_lt (by omega), List.getElem?_drop] at this
    simpa using this
  rw [World.var?_cell hg hv i, hc]
  have hx' : xs.map (·.1) = nums.map fun (x : Nat) => .lit (.int .u32 (x : Int)) := by simpa using hx
  have h1 : (xs.map (·.1))[i]? = some (.lit (.int .u32 k)) := by
    rw [List.getElem?_map, List.getElem?_eq_getElem (by omega), e2]; rfl
  rw [hx', List.getElem?_map] at h1
  cases hq : nums[i]? with
  | none => rw [hq] at h1; cases h1
  | some y =>
    rw [hq] at h1
    rw [List.getD_eq_getElem?_getD, hq]
    simp at h1
    simp [h1]
theorem of_laid {W : World} (h : laidMetH Tryd.prog laid2 W) : Laid W := by
  rw [MakeChecks.laidMetH_plain _ _ _ (by kernel_rfl)] at h
  obtain ⟨ps, ⟨g0, t0, cs0, f0, p0, q0, hg0, ht0, hv0, hd0, ⟨g1, t1, cs1, f1, p1, q1, hg1, ht1, hv1, hd1, _, _⟩, _⟩, _, _⟩ := h
  obtain rfl := Option.some.inj (gFirst.symm.trans hg0)
  obtain rfl := Option.some.inj (gCube.symm.trans hg1)
  obtain rfl := Option.some.inj (tFirst.symm.trans ht0)
  obtain rfl := Option.some.inj (tCube.symm.trans ht1)
  exact ⟨fun i hi => row_cells ivL gFirst hv0 Tryd.underlying97 hd0 first_is i hi, fun i hi => row_cells kL gCube hv1 Tryd.underlying103 hd1 cube_is i hi⟩
/-- The heap that the program's start leaves meets the condition. -/
theorem door_met (os : Os) (args : Array Value) : laidMetH Tryd.prog laid2 ((World.doorLaid Tryd.prog 19 os).forCall (fun _ _ => 0) ⟨#[], args, []⟩).memory :=
  laidMetH_of_parts3 (fuel := 8) (laidMet_of_run' 8 (by kernel_rfl) (by kernel_rfl)) (by kernel_rfl) (by kernel_rfl)
end Go.Proofs.YtjpkngbjjgimjaaDoor
namespace Go.Proofs.YtjpkngbjjgimjaaDoor
open Go.RowKit
/-- A slice of integers that came in: nil; or a row of 'cap' numbers. -/
def IsRow (k : IntKind) (w : World) (a : Option Addr) (len cap : Nat) (zs : List Int) : Prop :=
  (a = none ∧ len = 0 ∧ cap = 0 ∧ zs = []) ∨
  ∃ x, a = some x ∧ len ≤ cap ∧ cap ≤ maxLen ∧ zs.length = cap ∧ (∀ i, i < zs.length → w.cell? (x.add i) = some (.int k (zs.getD i 0))) ∧ ∀ n ∈ zs, (Lit.int k n).wf = true
theorem wf_u8 {n : Int} (h : (Lit.int .u8 n).wf = true) : 0 ≤ n ∧ n ≤ 255 := by
  simp [Lit.wf, IntKind.min, IntKind.max, IntKind.signed, IntKind.bits] at h
  omega
theorem wf_u32 {n : Int} (h : (Lit.int .u32 n).wf = true) : 0 ≤ n ∧ n < 4294967296 := by
  simp [Lit.wf, IntKind.min, IntKind.max, IntKind.signed, IntKind.bits] at h
  omega
theorem spot_none {w : World} {x : Addr} {v : Value} (h : w.cell? (x.add 0) = some v) : ∃ b o, x = ⟨b, o, none⟩ := by
  obtain ⟨b, o, s⟩ := x
  have hs : s = none := by simpa [Addr.add] using World.cell?_spot h
  subst hs
  exact ⟨b, o, rfl⟩
theorem IsRow.bsI {w : World} {a : Option Addr} {len cap : Nat} {zs : List Int} (h : IsRow .u8 w a len cap zs) : ∃ bs, BsI w a len cap bs := by
  rcases h with ⟨rfl, rfl, rfl, rfl⟩ | ⟨x, rfl, h1, h2, h3, h4, h5⟩
  · exact ⟨[], BsI.nil w⟩
  · refine ⟨(zs.take len).map fun z => UInt8.ofNat z.toNat, by simp; omega, h1, by simpa [maxLen] using h2, fun h0 => ?_⟩
    obtain ⟨b, o, rfl⟩ := spot_none (h4 0 (by omega))
    have h40 := h4 0 (by omega)
    refine ⟨b, o, rfl, ?_, fun i hi => ?_⟩
    · have := block_lt_of_cell h40
      rwa [add_block] at this
    · have := h4 i (by omega)
      rw [add_at] at this
      rw [this]
      have hz := wf_u8 (h5 (zs[i]'(by omega)) (List.getElem_mem _))
      congr 2
      simp only [List.getD_eq_getElem?_getD, List.getElem?_map, List.getElem?_take_of_lt hi, List.getElem?_eq_getElem (show i < zs.length by omega), Option.map_some, Option.getD_some, UInt8.toNat_ofNat']
      omega
theorem BsI.conv {w W : World} {a : Option Addr} {len cap : Nat} {bs : List UInt8} (h : BsI w a len cap bs) (hb : Below w.heap.size w W) : (convert 89 9 (.slice a len cap)).run Tryd.prog W = .ok (.string (strOf bs)) W := by
  obtain ⟨h1, h2, h3, h4⟩ := h.below hb
  by_cases h0 : 0 < len
  · obtain ⟨bb, bo, rfl, _, hc⟩ := h4 h0
    exact conv_row W bb bo len cap bs h1 hc
  · have hb : bs = [] := List.eq_nil_of_length_eq_zero (by omega)
    subst hb
    obtain rfl : len = 0 := by omega
    cases a with
    | none => exact run_convert_bytes_nil W 89 5 Tryd.underlying89 Tryd.underlying5 0 cap 9 Tryd.underlying9
    | some ad =>
      rw [run_convert_bytes_string W 89 9 5 _ 0 cap Tryd.underlying89 Tryd.underlying5 Tryd.underlying9, run_bytesToString W ad 0 cap [] (by simp [loadCells, loadCellsFrom])]
      rfl
end Go.Proofs.YtjpkngbjjgimjaaDoor
namespace Go.Proofs.YtjpkngbjjgimjaaDoor
open Go.RowKit
theorem str_ne {a b : ByteArray} (h : ¬ a = b) : ¬ a.toList = b.toList := fun e => h (by
  rw [ByteArray.toList_eq a, ByteArray.toList_eq b] at e
  exact ByteArray.ext (Array.toList_inj.1 e))
theorem str_nb {a b : ByteArray} (h : ¬ a = b) : (a.toList == b.toList) = false := by
  have := str_ne h
  simpa using this
/-- A row that is owned, written at one place. -/
theorem own_put {W : World} {base g cp n e : Nat} {xs : List Value} (h : W.ownsRow base e 1 (.slice (some ⟨g, 0, none⟩) n cp) n xs) (t : Nat) (x : Value) : (W.setCell ⟨g, t, none⟩ x).ownsRow base e 1 (.slice (some ⟨g, 0, none⟩) n cp) n (xs.set t x) := by
  obtain ⟨h1, h2⟩ := h
  refine ⟨by simpa using h1, ?_⟩
  rcases h2 with ⟨h2, _⟩ | ⟨g', cap', cur, e, hb, hr, h3, h4, h5, h6⟩
  · cases h2
  · cases e
    refine .inr ⟨g, cp, cur.setIfInBounds t x, rfl, hb, heap_setCell_same W g t _ _ _ hr, h3, h4, by simpa using h5, ?_⟩
    rw [Array.toList_setIfInBounds, List.take_set, h6]
theorem own_keep {W W' : World} {base e sz n : Nat} {v : Value} {xs : List Value} (h : W.ownsRow base e sz v n xs) (hk : ∀ k, v.ownBlock = some k → W'.heap[k]? = W.heap[k]?) : W'.ownsRow base e sz v n xs := by
  obtain ⟨h1, h2⟩ := h
  refine ⟨h1, ?_⟩
  rcases h2 with h2 | ⟨g', cap', cur, rfl, hb, hr, h3⟩
  · exact .inl h2
  · exact .inr ⟨g', cap', cur, rfl, hb, (hk g' rfl).trans hr, h3⟩
theorem own_base {W : World} {base base' e sz n : Nat} {v : Value} {xs : List Value} (h : W.ownsRow base e sz v n xs) (hb : base' ≤ base) : W.ownsRow base' e sz v n xs := by
  obtain ⟨h1, h2⟩ := h
  refine ⟨h1, ?_⟩
  rcases h2 with h2 | ⟨g', cap', cur, rfl, hb', hr, h3⟩
  · exact .inl h2
  · exact .inr ⟨g', cap', cur, rfl, Nat.le_trans hb hb', hr, h3⟩
theorem own_fro {W : World} {base g cp n e sz : Nat} {xs : List Value} (h : W.ownsRow base e sz (.slice (some ⟨g, 0, none⟩) n cp) n xs) (t : Nat) : W.frozen? ⟨g, t, none⟩ = false := by
  rcases h.2 with ⟨h2, _⟩ | ⟨g', cap', cur, e, hb, hr, _⟩
  · cases h2
  · cases e
    exact frozen_of_row W g t _ _ hr
theorem own_at {W : World} {base g cp n e sz : Nat} {xs : List Value} (h : W.ownsRow base e sz (.slice (some ⟨g, 0, none⟩) n cp) n xs) {j : Nat} {u : Value} (hu : xs[j]? = some u) : W.cell? ⟨g, j, none⟩ = some u := by
  have := h.cells (g := g) rfl j u hu
  rwa [add_at, Nat.zero_add] at this
theorem own_cap {W : World} {base g cp n e sz : Nat} {xs : List Value} (h : W.ownsRow base e sz (.slice (some ⟨g, 0, none⟩) n cp) n xs) : n ≤ cp ∧ cp ≤ maxLen := by
  rcases h.2 with ⟨h2, _⟩ | ⟨g', cap', cur, e, hb, hr, h3, h4, _⟩
  · cases h2
  · cases e
    exact ⟨h3, h4⟩
def ob (a : Option Addr) : Option Nat := a.map Addr.block
theorem ob_slice (a : Option Addr) (n c : Nat) : (Value.slice a n c).ownBlock = ob a := by cases a <;> rfl
end Go.Proofs.YtjpkngbjjgimjaaDoor
