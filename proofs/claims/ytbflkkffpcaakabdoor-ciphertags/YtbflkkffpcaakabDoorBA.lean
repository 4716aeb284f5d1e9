/- How a slice of bytes that came in is told to the walks. -/
import Derived.Test.YtbflkkffpcaakabDoorZ
import Derived.Laws.BytesArg
namespace Go.Proofs.YtbflkkffpcaakabDoor
open Go.RowKit
/-- A slice of integers that came in: nil; or a row of 'cap' numbers. -/
def IsRow (k : IntKind) (w : World) (a : Option Addr) (len cap : Nat) (zs : List Int) : Prop :=
  (a = none ∧ len = 0 ∧ cap = 0 ∧ zs = []) ∨
  ∃ x, a = some x ∧ len ≤ cap ∧ cap ≤ maxLen ∧ zs.length = cap ∧ (∀ i, i < zs.length → w.cell? (x.add i) = some (.int k (zs.getD i 0))) ∧ ∀ n ∈ zs, (Lit.int k n).wf = true
theorem wf_u8 {n : Int} (h : (Lit.int .u8 n).wf = true) : 0 ≤ n ∧ n ≤ 255 := by
  simp [Lit.wf, IntKind.min, IntKind.max, IntKind.signed, IntKind.bits] at h
  omega
theorem wf_u32 {n : Int} (h : (Lit.int .u32 n).wf = true) : 0 ≤ n ∧ n < 4294967296 := by
  simp [Lit.wf, IntKind.min, IntKind.max, IntKind.signed, IntKind.bits] at h
  omega
theorem spot_none {w : World} {x : Addr} {v : Value} (h : w.cell? (x.add 0) = some v) : ∃ b o, x = ⟨b, o, none⟩ := by
  obtain ⟨b, o, s⟩ := x
  have hs : s = none := by simpa [Addr.add] using World.cell?_spot h
  subst hs
  exact ⟨b, o, rfl⟩
theorem IsRow.bsI {w : World} {a : Option Addr} {len cap : Nat} {zs : List Int} (h : IsRow .u8 w a len cap zs) : ∃ bs, BsI w a len cap bs := by
  rcases h with ⟨rfl, rfl, rfl, rfl⟩ | ⟨x, rfl, h1, h2, h3, h4, h5⟩
  · exact ⟨[], BsI.nil w⟩
  · refine ⟨(zs.take len).map fun z => UInt8.ofNat z.toNat, by simp; omega, h1, by simpa [maxLen] using h2, fun h0 => ?_⟩
    obtain ⟨b, o, rfl⟩ := spot_none (h4 0 (by omega))
    have h40 := h4 0 (by omega)
    refine ⟨b, o, rfl, ?_, fun i hi => ?_⟩
    · have := block_lt_of_cell h40
      rwa [add_block] at this
    · have := h4 i (by omega)
      rw [add_at] at this
      rw [this]
      have hz := wf_u8 (h5 (zs[i]'(by omega)) (List.getElem_mem _))
      congr 2
      simp only [List.getD_eq_getElem?_getD, List.getElem?_map, List.getElem?_take_of_lt hi, List.getElem?_eq_getElem (show i < zs.length by omega), Option.map_some, Option.getD_some, UInt8.toNat_ofNat']
      omega
theorem BsI.conv {w W : World} {a : Option Addr} {len cap : Nat} {bs : List UInt8} (h : BsI w a len cap bs) (hb : Below w.heap.size w W) : (convert 29 9 (.slice a len cap)).run Tryd.prog W = .ok (.string (strOf bs)) W := by
  obtain ⟨h1, h2, h3, h4⟩ := h.below hb
  by_cases h0 : 0 < len
  · obtain ⟨bb, bo, rfl, _, hc⟩ := h4 h0
    exact conv_row W bb bo len cap bs h1 hc
  · have hb : bs = [] := List.eq_nil_of_length_eq_zero (by omega)
    subst hb
    obtain rfl : len = 0 := by omega
    cases a with
    | none => exact run_convert_bytes_nil W 29 5 Tryd.underlying29 Tryd.underlying5 0 cap 9 Tryd.underlying9
    | some ad =>
      rw [run_convert_bytes_string W 29 9 5 _ 0 cap Tryd.underlying29 Tryd.underlying5 Tryd.underlying9, run_bytesToString W ad 0 cap [] (by simp [loadCells, loadCellsFrom])]
      rfl
end Go.Proofs.YtbflkkffpcaakabDoor
