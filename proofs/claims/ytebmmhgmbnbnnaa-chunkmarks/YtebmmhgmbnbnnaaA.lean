/- Bytes in memory, and how they are told to the walks. -/
import Derived.Test.YtebmmhgmbnbnnaaProg
import Derived.Test.YtebmmhgmbnbnnaaM
import Derived.WalkKit
import Derived.WalkSpells
import Derived.WalkLawsBesides
import Derived.OpenShut
import Derived.ProofKit
import Derived.Laws.BitsAllLaws
import Derived.Laws.Rows
import Derived.Laws.Tables
import Derived.Laws.BytesArg
import Derived.Laws.MakeOwn
import Derived.Laws.CopyRow
import Derived.Laws.IdiomCopy
import Derived.Lib.SlBytesRow
import Derived.Deep.RegionHeld
import Derived.Below
namespace Go.Proofs.Ytebmmhgmbnbnnaa
open Go.RowKit
theorem ret_int {k : IntKind} {a b : Int} (h : a = b) : Ending.returned (.int k a) = .returned (.int k b) := by rw [h]
theorem ret_val {a b : Value} (h : a = b) : Ending.returned a = .returned b := by rw [h]
theorem lt_of_some {α : Type} {l : Array α} {i : Nat} {x : α} (h : l[i]? = some x) : i < l.size := by
  rcases Nat.lt_or_ge i l.size with h' | h'
  · exact h'
  · rw [Array.getElem?_eq_none h'] at h; cases h
def strOf (bs : List UInt8) : ByteArray := ⟨bs.toArray⟩
theorem strOf_append (a b : List UInt8) : strOf (a ++ b) = strOf a ++ strOf b := by
  apply ByteArray.ext; simp [strOf]
theorem strOf_size (a : List UInt8) : (strOf a).size = a.length := by simp [strOf, ByteArray.size]
theorem strOf_list (a : List UInt8) : (strOf a).data.toList = a := rfl
theorem strOf_of (b : ByteArray) : strOf b.data.toList = b := rfl
theorem add_block (x : Addr) (i : Nat) : (x.add i).block = x.block := by unfold Addr.add; split <;> rfl
theorem add_at (b o i : Nat) : (⟨b, o, none⟩ : Addr).add i = ⟨b, o + i, none⟩ := by unfold Addr.add; split <;> simp_all
theorem wf_u8 {n : Int} (h : (Lit.int .u8 n).wf = true) : 0 ≤ n ∧ n ≤ 255 := by
  simp [Lit.wf, IntKind.min, IntKind.max, IntKind.signed, IntKind.bits] at h
  omega
theorem wf_i64 {n : Int} (h : (Lit.int .i64 n).wf = true) : -9223372036854775808 ≤ n ∧ n ≤ 9223372036854775807 := by
  simp [Lit.wf, IntKind.min, IntKind.max, IntKind.signed, IntKind.bits] at h
  omega
theorem wf_u32 {n : Int} (h : (Lit.int .u32 n).wf = true) : 0 ≤ n ∧ n < 4294967296 := by
  simp [Lit.wf, IntKind.min, IntKind.max, IntKind.signed, IntKind.bits] at h
  omega
/-- Bytes as they lie in memory. -/
def BsI (w : World) (a : Option Addr) (len cap : Nat) (bs : List UInt8) : Prop :=
  bs.length = len ∧ len ≤ cap ∧ cap ≤ 9223372036854775807 ∧ (0 < len → ∃ bb bo, a = some ⟨bb, bo, none⟩ ∧ bb < w.heap.size ∧ ∀ i, i < len → w.cell? ⟨bb, bo + i, none⟩ = some (.int .u8 (((bs.getD i 0).toNat : Nat) : Int)))
theorem BsI.below {w w' : World} {a : Option Addr} {len cap : Nat} {bs : List UInt8} (h : BsI w a len cap bs) (hb : Below w.heap.size w w') : BsI w' a len cap bs := by
  obtain ⟨h1, h2, h3, h4⟩ := h
  refine ⟨h1, h2, h3, fun h0 => ?_⟩
  obtain ⟨bb, bo, e, hlt, hc⟩ := h4 h0
  exact ⟨bb, bo, e, Nat.lt_of_lt_of_le hlt hb.size, fun i hi => by rw [hb.cell hlt]; exact hc i hi⟩
theorem BsI.nil (w : World) : BsI w none 0 0 [] := ⟨rfl, Nat.le_refl _, by omega, by omega⟩
/-- A piece of bytes. -/
theorem BsI.piece {w : World} {bb bo len cap : Nat} {bs : List UInt8} (h : BsI w (some ⟨bb, bo, none⟩) len cap bs) (i n c : Nat) (hin : i + n ≤ len) (hn : n ≤ c) (hc : c ≤ 9223372036854775807) : BsI w (some ⟨bb, bo + i, none⟩) n c ((bs.drop i).take n) := by
  obtain ⟨h1, h2, h3, h4⟩ := h
  refine ⟨by simp; omega, hn, hc, fun h0 => ?_⟩
  obtain ⟨b, o, e, hlt, hcl⟩ := h4 (by omega)
  cases e
  refine ⟨bb, bo + i, rfl, hlt, fun j hj => ?_⟩
  rw [Nat.add_assoc, hcl (i + j) (by omega)]
  congr 3
  simp only [List.getD_eq_getElem?_getD, List.getElem?_take_of_lt hj, List.getElem?_drop]
/-- A slice of integers that came in: nil; or a row of 'cap' numbers. -/
def IsRow (k : IntKind) (w : World) (a : Option Addr) (len cap : Nat) (zs : List Int) : Prop :=
  (a = none ∧ len = 0 ∧ cap = 0 ∧ zs = []) ∨
  ∃ x, a = some x ∧ len ≤ cap ∧ cap ≤ maxLen ∧ zs.length = cap ∧ (∀ i, i < zs.length → w.cell? (x.add i) = some (.int k (zs.getD i 0))) ∧ ∀ n ∈ zs, (Lit.int k n).wf = true
theorem spot_none {w : World} {x : Addr} {v : Value} (h : w.cell? (x.add 0) = some v) : ∃ b o, x = ⟨b, o, none⟩ := by
  obtain ⟨b, o, s⟩ := x
  have hs : s = none := by simpa [Addr.add] using World.cell?_spot h
  subst hs
  exact ⟨b, o, rfl⟩
theorem IsRow.bsI {w : World} {a : Option Addr} {len cap : Nat} {zs : List Int} (h : IsRow .u8 w a len cap zs) : ∃ bs, BsI w a len cap bs := by
  rcases h with ⟨rfl, rfl, rfl, rfl⟩ | ⟨x, rfl, h1, h2, h3, h4, h5⟩
  · exact ⟨[], BsI.nil w⟩
  · refine ⟨(zs.take len).map fun z => UInt8.ofNat z.toNat, by simp; omega, h1, by simpa [maxLen] using h2, fun h0 => ?_⟩
    obtain ⟨b, o, rfl⟩ := spot_none (h4 0 (by omega))
    have h40 := h4 0 (by omega)
    refine ⟨b, o, rfl, ?_, fun i hi => ?_⟩
    · have := block_lt_of_cell h40
      rwa [add_block] at this
    · have := h4 i (by omega)
      rw [add_at] at this
      rw [this]
      have hz := wf_u8 (h5 (zs[i]'(by omega)) (List.getElem_mem _))
      congr 2
      simp only [List.getD_eq_getElem?_getD, List.getElem?_map, List.getElem?_take_of_lt hi, List.getElem?_eq_getElem (show i < zs.length by omega), Option.map_some, Option.getD_some, UInt8.toNat_ofNat']
      omega
theorem IsRow.nocap {k : IntKind} {w : World} {a : Option Addr} {len cap : Nat} {zs : List Int} (h : IsRow k w a len cap zs) (e : a = none) : cap = 0 := by
  rcases h with ⟨_, _, h, _⟩ | ⟨x, h, _⟩
  · exact h
  · rw [h] at e; cases e
theorem conv_row (W : World) (g o n c : Nat) (l : List UInt8) (hl : l.length = n) (h : ∀ i, i < n → W.cell? ⟨g, o + i, none⟩ = some (.int .u8 (((l.getD i 0).toNat : Nat) : Int))) :
    (convert 36 9 (.slice (some ⟨g, o, none⟩) n c)).run Try.prog W = .ok (.string (strOf l)) W := by
  rw [run_convert_bytes_arg (P := Try.prog) W 36 5 Try.underlying36 Try.underlying5 g o n c (l.map fun u => (u.toNat : Int)) (by simpa using hl) (fun i hi => by
    rw [h i hi]
    simp [List.getD, show i < l.length by omega]) 9 Try.underlying9]
  congr 3
  simp [strOfNums, List.map_map, Function.comp_def]
  rfl
theorem BsI.conv {w W : World} {a : Option Addr} {len cap : Nat} {bs : List UInt8} (h : BsI w a len cap bs) (hb : Below w.heap.size w W) : (convert 36 9 (.slice a len cap)).run Try.prog W = .ok (.string (strOf bs)) W := by
  obtain ⟨h1, h2, h3, h4⟩ := h.below hb
  by_cases h0 : 0 < len
  · obtain ⟨bb, bo, rfl, _, hc⟩ := h4 h0
    exact conv_row W bb bo len cap bs h1 hc
  · have hb : bs = [] := List.eq_nil_of_length_eq_zero (by omega)
    subst hb
    obtain rfl : len = 0 := by omega
    cases a with
    | none => exact run_convert_bytes_nil W 36 5 Try.underlying36 Try.underlying5 0 cap 9 Try.underlying9
    | some ad =>
      rw [run_convert_bytes_string W 36 9 5 _ 0 cap Try.underlying36 Try.underlying5 Try.underlying9, run_bytesToString W ad 0 cap [] (by simp [loadCells, loadCellsFrom])]
      rfl
theorem wrapI (x : Int) (h0 : -9223372036854775808 ≤ x) (h1 : x ≤ 9223372036854775807) : IntKind.i64.wrap x = x := by
  simp only [IntKind.wrap, IntKind.signed, IntKind.bits]
  simp
  omega
end Go.Proofs.Ytebmmhgmbnbnnaa
