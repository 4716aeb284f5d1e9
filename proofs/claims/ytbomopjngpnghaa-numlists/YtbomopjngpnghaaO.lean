/- How slices of bytes and arrays are opened out of a reading. -/
import Derived.Test.YtbomopjngpnghaaF
import Derived.ProofKit
import Derived.OpenShut
import Derived.ShutString
import Derived.ChangeOld
namespace Go.Proofs.Ytbomopjngpnghaa
open Go.ChangeShapes Go.WideShapes Go.ChangeAt Go.RowKit

theorem row_of_trod {H : Type} {enc : TypeId × Value → H} {W : World} {base : Nat} {held : Bool} {fuel : Nat} {c : Value} {y : DataW H × List MemPlace} (hf : DataW.trod enc Try.prog W base (fun _ => true) held fuel 22 [c] = some y) :
    ∃ a len cap bs, c = .slice a len cap ∧ Bs W a len cap bs := by
  rcases open_ints Try.underlying22 Try.underlying5 (by kernel_rfl) hf with ⟨hcs, _⟩ | ⟨x, l, cc, zs, hcs, _, hl, hm, hz, _, hcell, hwz⟩
  · simp only [List.cons.injEq, and_true] at hcs
    exact ⟨_, _, _, [], hcs, Bs.nil W⟩
  · simp only [List.cons.injEq, and_true] at hcs
    obtain ⟨bs, hb⟩ := IsRow.bs (w := W) (a := some x) (len := l) (cap := cc) (zs := zs) (.inr ⟨x, rfl, hl, hm, by simpa using hz, hcell, hwz⟩)
    exact ⟨_, _, _, bs, hcs, hb⟩

theorem cells22 : Try.prog.cellsOf 22 = 1 := by kernel_rfl
theorem cells35 : Try.prog.cellsOf 35 = 2 := by kernel_rfl

theorem two_of {H : Type} {enc : TypeId × Value → H} {W : World} {b0 base : Nat} {held : Bool} {v : Value} {d : DataW H} {p : List MemPlace} (hv : Value.okWide Try.prog W .any b0 35 v) (h : DataW.Trod enc Try.prog W base (fun _ => true) held 35 v d p) :
    ∃ a la ca xs b lb cb bs, v = .agg #[.slice a la ca, .slice b lb cb] ∧ Bs W a la ca xs ∧ Bs W b lb cb bs := by
  unfold Value.okWide at hv
  rw [Try.underlying35] at hv
  obtain ⟨cs, rfl, hsz, _⟩ := hv
  rw [cells35] at hsz
  obtain ⟨c0, c1, rfl⟩ : ∃ c0 c1, cs = #[c0, c1] := by
    obtain ⟨l⟩ := cs
    match l, hsz with
    | [c0, c1], _ => exact ⟨c0, c1, rfl⟩
  obtain ⟨fuel, hf⟩ := h
  obtain ⟨ys, m, _, _, _, hl, hy⟩ := DataW.trod_array Try.underlying35 hf
  have h0 := hy 0 (by omega)
  have h1 := hy 1 (by omega)
  rw [cells22] at h0 h1
  rw [List.getElem?_eq_getElem (by omega)] at h0 h1
  obtain ⟨a, la, ca, xs, rfl, ha⟩ := row_of_trod (c := c0) (by simpa [Value.cells] using h0)
  obtain ⟨b, lb, cb, bs, rfl, hb⟩ := row_of_trod (c := c1) (by simpa [Value.cells] using h1)
  exact ⟨a, la, ca, xs, b, lb, cb, bs, rfl, ha, hb⟩
end Go.Proofs.Ytbomopjngpnghaa
