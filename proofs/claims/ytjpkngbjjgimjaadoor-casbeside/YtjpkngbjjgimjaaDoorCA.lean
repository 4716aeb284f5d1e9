/- How a slice of bytes that came in is told to the walks. Rows of the call's own; strings. -/
import Derived.Test.YtjpkngbjjgimjaaDoorZ
import Derived.Laws.BytesArg
import Derived.Deep.AppendSrc
import Derived.Deep.RegionHeld
import Derived.Deep.AppendLies
namespace Go.Proofs.YtjpkngbjjgimjaaDoor
open Go.RowKit
/-- A slice of integers that came in: nil; or a row of 'cap' numbers. -/
def IsRow (k : IntKind) (w : World) (a : Option Addr) (len cap : Nat) (zs : List Int) : Prop :=
  (a = none ∧ len = 0 ∧ cap = 0 ∧ zs = []) ∨
  ∃ x, a = some x ∧ len ≤ cap ∧ cap ≤ maxLen ∧ zs.length = cap ∧ (∀ i, i < zs.length → w.cell? (x.add i) = some (.int k (zs.getD i 0))) ∧ ∀ n ∈ zs, (Lit.int k n).wf = true
theorem wf_u8 {n : Int} (h : (Lit.int .u8 n).wf = true) : 0 ≤ n ∧ n ≤ 255 := by
  simp [Lit.wf, IntKind.min, IntKind.max, IntKind.signed, IntKind.bits] at h
  omega
theorem wf_u32 {n : Int} (h : (Lit.int .u32 n).wf = true) : 0 ≤ n ∧ n < 4294967296 := by
  simp [Lit.wf, IntKind.min, IntKind.max, IntKind.signed, IntKind.bits] at h
  omega
theorem spot_none {w : World} {x : Addr} {v : Value} (h : w.cell? (x.add 0) = some v) : ∃ b o, x = ⟨b, o, none⟩ := by
  obtain ⟨b, o, s⟩ := x
  have hs : s = none := by simpa [Addr.add] using World.cell?_spot h
  subst hs
  exact ⟨b, o, rfl⟩
theorem IsRow.bsI {w : World} {a : Option Addr} {len cap : Nat} {zs : List Int} (h : IsRow .u8 w a len cap zs) : ∃ bs, BsI w a len cap bs := by
  rcases h with ⟨rfl, rfl, rfl, rfl⟩ | ⟨x, rfl, h1, h2, h3, h4, h5⟩
  · exact ⟨[], BsI.nil w⟩
  · refine ⟨(zs.take len).map fun z => UInt8.ofNat z.toNat, by simp; omega, h1, by simpa [maxLen] using h2, fun h0 => ?_⟩
    obtain ⟨b, o, rfl⟩ := spot_none (h4 0 (by omega))
    have h40 := h4 0 (by omega)
    refine ⟨b, o, rfl, ?_, fun i hi => ?_⟩
    · have := block_lt_of_cell h40
      rwa [add_block] at this
    · have := h4 i (by omega)
      rw [add_at] at this
      rw [this]
      have hz := wf_u8 (h5 (zs[i]'(by omega)) (List.getElem_mem _))
      congr 2
      simp only [List.getD_eq_getElem?_getD, List.getElem?_map, List.getElem?_take_of_lt hi, List.getElem?_eq_getElem (show i < zs.length by omega), Option.map_some, Option.getD_some, UInt8.toNat_ofNat']
      omega
theorem BsI.conv {w W : World} {a : Option Addr} {len cap : Nat} {bs : List UInt8} (h : BsI w a len cap bs) (hb : Below w.heap.size w W) : (convert 89 9 (.slice a len cap)).run Tryd.prog W = .ok (.string (strOf bs)) W := by
  obtain ⟨h1, h2, h3, h4⟩ := h.below hb
  by_cases h0 : 0 < len
  · obtain ⟨bb, bo, rfl, _, hc⟩ := h4 h0
    exact conv_row W bb bo len cap bs h1 hc
  · have hb : bs = [] := List.eq_nil_of_length_eq_zero (by omega)
    subst hb
    obtain rfl : len = 0 := by omega
    cases a with
    | none => exact run_convert_bytes_nil W 89 5 Tryd.underlying89 Tryd.underlying5 0 cap 9 Tryd.underlying9
    | some ad =>
      rw [run_convert_bytes_string W 89 9 5 _ 0 cap Tryd.underlying89 Tryd.underlying5 Tryd.underlying9, run_bytesToString W ad 0 cap [] (by simp [loadCells, loadCellsFrom])]
      rfl
end Go.Proofs.YtjpkngbjjgimjaaDoor
namespace Go.Proofs.YtjpkngbjjgimjaaDoor
open Go.RowKit
theorem str_ne {a b : ByteArray} (h : ¬ a = b) : ¬ a.toList = b.toList := fun e => h (by
  rw [ByteArray.toList_eq a, ByteArray.toList_eq b] at e
  exact ByteArray.ext (Array.toList_inj.1 e))
theorem str_nb {a b : ByteArray} (h : ¬ a = b) : (a.toList == b.toList) = false := by
  have := str_ne h
  simpa using this
/-- A row that is owned, written at one place. -/
theorem own_put {W : World} {base g cp n e : Nat} {xs : List Value} (h : W.ownsRow base e 1 (.slice (some ⟨g, 0, none⟩) n cp) n xs) (t : Nat) (x : Value) : (W.setCell ⟨g, t, none⟩ x).ownsRow base e 1 (.slice (some ⟨g, 0, none⟩) n cp) n (xs.set t x) := by
  obtain ⟨h1, h2⟩ := h
  refine ⟨by simpa using h1, ?_⟩
  rcases h2 with ⟨h2, _⟩ | ⟨g', cap', cur, e, hb, hr, h3, h4, h5, h6⟩
  · cases h2
  · cases e
    refine .inr ⟨g, cp, cur.setIfInBounds t x, rfl, hb, heap_setCell_same W g t _ _ _ hr, h3, h4, by simpa using h5, ?_⟩
    rw [Array.toList_setIfInBounds, List.take_set, h6]
theorem own_keep {W W' : World} {base e sz n : Nat} {v : Value} {xs : List Value} (h : W.ownsRow base e sz v n xs) (hk : ∀ k, v.ownBlock = some k → W'.heap[k]? = W.heap[k]?) : W'.ownsRow base e sz v n xs := by
  obtain ⟨h1, h2⟩ := h
  refine ⟨h1, ?_⟩
  rcases h2 with h2 | ⟨g', cap', cur, rfl, hb, hr, h3⟩
  · exact .inl h2
  · exact .inr ⟨g', cap', cur, rfl, hb, (hk g' rfl).trans hr, h3⟩
theorem own_base {W : World} {base base' e sz n : Nat} {v : Value} {xs : List Value} (h : W.ownsRow base e sz v n xs) (hb : base' ≤ base) : W.ownsRow base' e sz v n xs := by
  obtain ⟨h1, h2⟩ := h
  refine ⟨h1, ?_⟩
  rcases h2 with h2 | ⟨g', cap', cur, rfl, hb', hr, h3⟩
  · exact .inl h2
  · exact .inr ⟨g', cap', cur, rfl, Nat.le_trans hb hb', hr, h3⟩
theorem own_fro {W : World} {base g cp n e sz : Nat} {xs : List Value} (h : W.ownsRow base e sz (.slice (some ⟨g, 0, none⟩) n cp) n xs) (t : Nat) : W.frozen? ⟨g, t, none⟩ = false := by
  rcases h.2 with ⟨h2, _⟩ | ⟨g', cap', cur, e, hb, hr, _⟩
  · cases h2
  · cases e
    exact frozen_of_row W g t _ _ hr
theorem own_at {W : World} {base g cp n e sz : Nat} {xs : List Value} (h : W.ownsRow base e sz (.slice (some ⟨g, 0, none⟩) n cp) n xs) {j : Nat} {u : Value} (hu : xs[j]? = some u) : W.cell? ⟨g, j, none⟩ = some u := by
  have := h.cells (g := g) rfl j u hu
  rwa [add_at, Nat.zero_add] at this
theorem own_cap {W : World} {base g cp n e sz : Nat} {xs : List Value} (h : W.ownsRow base e sz (.slice (some ⟨g, 0, none⟩) n cp) n xs) : n ≤ cp ∧ cp ≤ maxLen := by
  rcases h.2 with ⟨h2, _⟩ | ⟨g', cap', cur, e, hb, hr, h3, h4, _⟩
  · cases h2
  · cases e
    exact ⟨h3, h4⟩
def ob (a : Option Addr) : Option Nat := a.map Addr.block
theorem ob_slice (a : Option Addr) (n c : Nat) : (Value.slice a n c).ownBlock = ob a := by cases a <;> rfl
end Go.Proofs.YtjpkngbjjgimjaaDoor
