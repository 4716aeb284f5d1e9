/- How a slice of bytes that came in is told to the walks; the walks over NumGets, NumLeast. -/
import Derived.Test.YtbomopjngpnghaaL
namespace Go.Proofs.Ytbomopjngpnghaa
open Go.RowKit

/-- A slice of integers that came in: nil; or a row of 'cap' numbers. -/
def IsRow (k : IntKind) (w : World) (a : Option Addr) (len cap : Nat) (zs : List Int) : Prop :=
  (a = none ∧ len = 0 ∧ cap = 0 ∧ zs = []) ∨
  ∃ x, a = some x ∧ len ≤ cap ∧ cap ≤ maxLen ∧ zs.length = cap ∧ (∀ i, i < zs.length → w.cell? (x.add i) = some (.int k (zs.getD i 0))) ∧ ∀ n ∈ zs, (Lit.int k n).wf = true

theorem wf_u8 {n : Int} (h : (Lit.int .u8 n).wf = true) : 0 ≤ n ∧ n ≤ 255 := by
  simp [Lit.wf, IntKind.min, IntKind.max, IntKind.signed, IntKind.bits] at h
  omega
theorem wf_i64 {n : Int} (h : (Lit.int .i64 n).wf = true) : -9223372036854775808 ≤ n ∧ n ≤ 9223372036854775807 := by
  simp [Lit.wf, IntKind.min, IntKind.max, IntKind.signed, IntKind.bits] at h
  omega
theorem wf_u64 {n : Int} (h : (Lit.int .u64 n).wf = true) : 0 ≤ n ∧ n ≤ 18446744073709551615 := by
  simp [Lit.wf, IntKind.min, IntKind.max, IntKind.signed, IntKind.bits] at h
  omega

theorem IsRow.bs {w : World} {a : Option Addr} {len cap : Nat} {zs : List Int} (h : IsRow .u8 w a len cap zs) : ∃ bs, Bs w a len cap bs := by
  rcases h with ⟨rfl, rfl, rfl, rfl⟩ | ⟨x, rfl, h1, h2, h3, h4, h5⟩
  · exact ⟨[], Bs.nil w⟩
  · refine ⟨(zs.take len).map fun z => UInt8.ofNat z.toNat, by simp; omega, h1, by simpa [maxLen] using h2, (by intro e; cases e), ?_⟩
    intro ad had i hi
    cases had
    simp only [List.length_map, List.length_take] at hi
    rw [h4 i (by omega)]
    have hz := wf_u8 (h5 (zs[i]'(by omega)) (List.getElem_mem _))
    simp only [List.getElem_map, List.getElem_take]
    congr 2
    rw [List.getD_eq_getElem?_getD, List.getElem?_eq_getElem (by omega)]
    simp only [Option.getD_some, UInt8.toNat_ofNat']
    omega

theorem get3 (a : Option Addr) (len cap : Nat) (bs : List UInt8) (p : Int) (n : Nat) (q : Int) (er : Nat) (hr : getAt bs p = (n, q, er)) (w : World) (h : Bs w a len cap bs) (hp : -9223372036854775808 ≤ p ∧ p ≤ 9223372036854775807) :
    Calls Try.prog 14 #[.slice a len cap, .int .i64 p] w fun e w' => e = .returned (.tuple #[.int .u64 (n : Int), .int .i64 q, .int .i64 (er : Int)]) ∧ w' = w := by
  have := get_any a len cap bs p w h hp.1 hp.2
  rw [hr] at this
  exact this
theorem rget3 (bs : List UInt8) (p : Int) (n : Nat) (q : Int) (er : Nat) (hr : getAt bs p = (n, q, er)) (w : World) (h : bs.length ≤ 9223372036854775807) (hp : -9223372036854775808 ≤ p ∧ p ≤ 9223372036854775807) :
    Calls Try.prog 15 #[.string ⟨bs.toArray⟩, .int .i64 p] w fun e w' => e = .returned (.tuple #[.int .u64 (n : Int), .int .i64 q, .int .i64 (er : Int)]) ∧ w' = w := by
  have := rget_any ⟨bs.toArray⟩ p w (by simpa [ByteArray.size] using h) hp.1 hp.2
  simp only [] at this
  rw [hr] at this
  exact this

set_option maxHeartbeats 400000 in
theorem numGets_walk (a : Option Addr) (len cap : Nat) (bs : List UInt8) (p : Int) (w : World) (h : Bs w a len cap bs) (hp : -9223372036854775808 ≤ p ∧ p ≤ 9223372036854775807) :
    Calls Try.prog 4 #[.slice a len cap, .int .i64 p] w fun e w' => e = .returned (.bool true) ∧ Below w.heap.size w w' := by
  have hm : len ≤ 9223372036854775807 := Nat.le_trans h.2.1 h.2.2.1
  by_cases h20 : len ≤ 20000
  · obtain ⟨n, q, er, hr⟩ : ∃ n q er, getAt bs p = (n, q, er) := ⟨_, _, _, rfl⟩
    have HR : Hid (getAt bs p = (n, q, er)) := hr
    have hcv := h.conv
    have hl : bs.length ≤ 9223372036854775807 := by have := h.1; omega
    clear hr
    go_enter Try.func4, Try.ntmps4
    go_wp2_with (first | (go_at_call 9; refine (small_yes _ _ _ _ h20).mono ?_; rintro e w' ⟨rfl, rfl⟩) | (go_at_call 14; refine (get3 _ _ _ bs _ n q er HR.out _ h hp).mono ?_; rintro e w' ⟨rfl, rfl⟩) | (go_at_call 15; refine (rget3 bs _ n q er HR.out _ hl hp).mono ?_; rintro e w' ⟨rfl, rfl⟩) | (go_at_call 10; refine (lives_any _).mono ?_; rintro e w' ⟨rfl, hbel⟩))
    go_ret
    exact ⟨rfl, hbel⟩
  · go_enter Try.func4, Try.ntmps4
    go_wp2_with (first | (go_at_call 9; refine (small_no _ _ _ _ _ hm h20).mono ?_; rintro e w' ⟨rfl, rfl⟩) | (go_at_call 10; refine (lives_any _).mono ?_; rintro e w' ⟨rfl, hbel⟩))
    go_ret
    exact ⟨rfl, hbel⟩
end Go.Proofs.Ytbomopjngpnghaa
