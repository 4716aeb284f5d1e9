/- How a slice of bytes that came in is told to the walks; the walks over NumGets, NumLeast. -/
import Derived.Test.YtbomopjngpnghabL
namespace Go.Proofs.Ytbomopjngpnghab
open Go.RowKit

/-- A slice of integers that came in: nil; or a row of 'cap' numbers. -/
def IsRow (k : IntKind) (w : World) (a : Option Addr) (len cap : Nat) (zs : List Int) : Prop :=
  (a = none ∧ len = 0 ∧ cap = 0 ∧ zs = []) ∨
  ∃ x, a = some x ∧ len ≤ cap ∧ cap ≤ maxLen ∧ zs.length = cap ∧ (∀ i, i < zs.length → w.cell? (x.add i) = some (.int k (zs.getD i 0))) ∧ ∀ n ∈ zs, (Lit.int k n).wf = true

theorem wf_u8 {n : Int} (h : (Lit.int .u8 n).wf = true) : 0 ≤ n ∧ n ≤ 255 := by
  simp [Lit.wf, IntKind.min, IntKind.max, IntKind.signed, IntKind.bits] at h
  omega
theorem wf_i64 {n : Int} (h : (Lit.int .i64 n).wf = true) : -9223372036854775808 ≤ n ∧ n ≤ 9223372036854775807 := by
  simp [Lit.wf, IntKind.min, IntKind.max, IntKind.signed, IntKind.bits] at h
  omega
theorem wf_u64 {n : Int} (h : (Lit.int .u64 n).wf = true) : 0 ≤ n ∧ n ≤ 18446744073709551615 := by
  simp [Lit.wf, IntKind.min, IntKind.max, IntKind.signed, IntKind.bits] at h
  omega

theorem IsRow.bs {w : World} {a : Option Addr} {len cap : Nat} {zs : List Int} (h : IsRow .u8 w a len cap zs) : ∃ bs, Bs w a len cap bs := by
  rcases h with ⟨rfl, rfl, rfl, rfl⟩ | ⟨x, rfl, h1, h2, h3, h4, h5⟩
  · exact ⟨[], Bs.nil w⟩
  · refine ⟨(zs.take len).map fun z => UInt8.ofNat z.toNat, by simp; omega, h1, by simpa [maxLen] using h2, (by intro e; cases e), ?_⟩
    intro ad had i hi
    cases had
    simp only [List.length_map, List.length_take] at hi
    rw [h4 i (by omega)]
    have hz := wf_u8 (h5 (zs[i]'(by omega)) (List.getElem_mem _))
    simp only [List.getElem_map, List.getElem_take]
    congr 2
    rw [List.getD_eq_getElem?_getD, List.getElem?_eq_getElem (by omega)]
    simp only [Option.getD_some, UInt8.toNat_ofNat']
    omega

theorem get3 (a : Option Addr) (len cap : Nat) (bs : List UInt8) (p : Int) (n : Nat) (q : Int) (er : Nat) (hr : getAt bs p = (n, q, er)) (w : World) (h : Bs w a len cap bs) (hp : -9223372036854775808 ≤ p ∧ p ≤ 9223372036854775807) :
    Calls Try.prog 11 #[.slice a len cap, .int .i64 p] w fun e w' => e = .returned (.tuple #[.int .u64 (n : Int), .int .i64 q, .int .i64 (er : Int)]) ∧ w' = w := by
  have := get_any a len cap bs p w h hp.1 hp.2
  rw [hr] at this
  exact this
end Go.Proofs.Ytbomopjngpnghab
