/- How arrays of ints are opened out of a reading. -/
import Derived.Test.YtbomopjngpnghaaO
namespace Go.Proofs.Ytbomopjngpnghaa
open Go.ChangeShapes Go.WideShapes Go.ChangeAt Go.RowKit

theorem cells3 : Try.prog.cellsOf 3 = 1 := by kernel_rfl
theorem cells37 : Try.prog.cellsOf 37 = 2 := by kernel_rfl
theorem cells45 : Try.prog.cellsOf 45 = 3 := by kernel_rfl

theorem ints2_of {H : Type} {enc : TypeId × Value → H} {W : World} {b0 base : Nat} {spare : Nat → Bool} {held : Bool} {v : Value} {d : DataW H} {p : List MemPlace} (hv : Value.okWide Try.prog W .any b0 37 v) (h : DataW.Trod enc Try.prog W base spare held 37 v d p) :
    ∃ x y, v = .agg #[.int .i64 x, .int .i64 y] ∧ (Lit.int .i64 x).wf = true ∧ (Lit.int .i64 y).wf = true := by
  unfold Value.okWide at hv
  rw [Try.underlying37] at hv
  obtain ⟨cs, rfl, hsz, _⟩ := hv
  rw [cells37] at hsz
  obtain ⟨c0, c1, rfl⟩ : ∃ c0 c1, cs = #[c0, c1] := by
    obtain ⟨l⟩ := cs
    match l, hsz with
    | [c0, c1], _ => exact ⟨c0, c1, rfl⟩
  obtain ⟨fuel, hf⟩ := h
  obtain ⟨ys, m, _, _, _, hl, hy⟩ := DataW.trod_array Try.underlying37 hf
  have h0 := hy 0 (by omega)
  have h1 := hy 1 (by omega)
  rw [cells3] at h0 h1
  rw [List.getElem?_eq_getElem (by omega)] at h0 h1
  obtain ⟨x, e0, _, w0⟩ := DataW.trod_int Try.underlying3 (cs := [c0]) (by simpa [Value.cells] using h0)
  obtain ⟨y, e1, _, w1⟩ := DataW.trod_int Try.underlying3 (cs := [c1]) (by simpa [Value.cells] using h1)
  simp only [List.cons.injEq, and_true] at e0 e1
  exact ⟨x, y, by rw [e0, e1], w0, w1⟩

theorem ints3_of {H : Type} {enc : TypeId × Value → H} {W : World} {b0 base : Nat} {spare : Nat → Bool} {held : Bool} {v : Value} {d : DataW H} {p : List MemPlace} (hv : Value.okWide Try.prog W .any b0 45 v) (h : DataW.Trod enc Try.prog W base spare held 45 v d p) :
    ∃ x y z, v = .agg #[.int .i64 x, .int .i64 y, .int .i64 z] ∧ (Lit.int .i64 x).wf = true ∧ (Lit.int .i64 y).wf = true ∧ (Lit.int .i64 z).wf = true := by
  unfold Value.okWide at hv
  rw [Try.underlying45] at hv
  obtain ⟨cs, rfl, hsz, _⟩ := hv
  rw [cells45] at hsz
  obtain ⟨c0, c1, c2, rfl⟩ : ∃ c0 c1 c2, cs = #[c0, c1, c2] := by
    obtain ⟨l⟩ := cs
    match l, hsz with
    | [c0, c1, c2], _ => exact ⟨c0, c1, c2, rfl⟩
  obtain ⟨fuel, hf⟩ := h
  obtain ⟨ys, m, _, _, _, hl, hy⟩ := DataW.trod_array Try.underlying45 hf
  have h0 := hy 0 (by omega)
  have h1 := hy 1 (by omega)
  have h2 := hy 2 (by omega)
  rw [cells3] at h0 h1 h2
  rw [List.getElem?_eq_getElem (by omega)] at h0 h1 h2
  obtain ⟨x, e0, _, w0⟩ := DataW.trod_int Try.underlying3 (cs := [c0]) (by simpa [Value.cells] using h0)
  obtain ⟨y, e1, _, w1⟩ := DataW.trod_int Try.underlying3 (cs := [c1]) (by simpa [Value.cells] using h1)
  obtain ⟨z, e2, _, w2⟩ := DataW.trod_int Try.underlying3 (cs := [c2]) (by simpa [Value.cells] using h2)
  simp only [List.cons.injEq, and_true] at e0 e1 e2
  exact ⟨x, y, z, by rw [e0, e1, e2], w0, w1, w2⟩
end Go.Proofs.Ytbomopjngpnghaa
