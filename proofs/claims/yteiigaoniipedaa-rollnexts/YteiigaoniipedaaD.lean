/- How arrays of two numbers are opened out of a reading. -/
import Derived.Test.YteiigaoniipedaaC
namespace Go.Proofs.Yteiigaoniipedaa
open Go.ChangeShapes Go.WideShapes Go.ChangeAt Go.RowKit
theorem cells24 : Try.prog.cellsOf 24 = 1 := by kernel_rfl
theorem cells5 : Try.prog.cellsOf 5 = 1 := by kernel_rfl
theorem u32x2_of {H : Type} {enc : TypeId × Value → H} {W : World} {b0 base : Nat} {spare : Nat → Bool} {held : Bool} {v : Value} {d : DataW H} {p : List MemPlace} (hv : Value.okWide Try.prog W .any b0 28 v) (h : DataW.Trod enc Try.prog W base spare held 28 v d p) :
    ∃ x y : Nat, v = .agg #[.int .u32 (x : Int), .int .u32 (y : Int)] ∧ x < 4294967296 ∧ y < 4294967296 := by
  unfold Value.okWide at hv
  rw [Try.underlying28] at hv
  obtain ⟨cs, rfl, hsz, _⟩ := hv
  rw [show Try.prog.cellsOf 28 = 2 by kernel_rfl] at hsz
  obtain ⟨c0, c1, rfl⟩ : ∃ c0 c1, cs = #[c0, c1] := by
    obtain ⟨l⟩ := cs
    match l, hsz with
    | [c0, c1], _ => exact ⟨c0, c1, rfl⟩
  obtain ⟨fuel, hf⟩ := h
  obtain ⟨ys, m, _, _, _, hl, hy⟩ := DataW.trod_array Try.underlying28 hf
  have h0 := hy 0 (by omega)
  have h1 := hy 1 (by omega)
  rw [cells24] at h0 h1
  rw [List.getElem?_eq_getElem (by omega)] at h0 h1
  obtain ⟨x, e0, _, w0⟩ := DataW.trod_int Try.underlying24 (cs := [c0]) (by simpa [Value.cells] using h0)
  obtain ⟨y, e1, _, w1⟩ := DataW.trod_int Try.underlying24 (cs := [c1]) (by simpa [Value.cells] using h1)
  simp only [List.cons.injEq, and_true] at e0 e1
  have r0 := wf_u32 w0
  have r1 := wf_u32 w1
  obtain ⟨a, rfl⟩ := Int.eq_ofNat_of_zero_le r0.1
  obtain ⟨b, rfl⟩ := Int.eq_ofNat_of_zero_le r1.1
  exact ⟨a, b, by rw [e0, e1], by omega, by omega⟩
theorem u8x2_of {H : Type} {enc : TypeId × Value → H} {W : World} {b0 base : Nat} {spare : Nat → Bool} {held : Bool} {v : Value} {d : DataW H} {p : List MemPlace} (hv : Value.okWide Try.prog W .any b0 29 v) (h : DataW.Trod enc Try.prog W base spare held 29 v d p) :
    ∃ x y : Nat, v = .agg #[.int .u8 (x : Int), .int .u8 (y : Int)] ∧ x < 256 ∧ y < 256 := by
  unfold Value.okWide at hv
  rw [Try.underlying29] at hv
  obtain ⟨cs, rfl, hsz, _⟩ := hv
  rw [show Try.prog.cellsOf 29 = 2 by kernel_rfl] at hsz
  obtain ⟨c0, c1, rfl⟩ : ∃ c0 c1, cs = #[c0, c1] := by
    obtain ⟨l⟩ := cs
    match l, hsz with
    | [c0, c1], _ => exact ⟨c0, c1, rfl⟩
  obtain ⟨fuel, hf⟩ := h
  obtain ⟨ys, m, _, _, _, hl, hy⟩ := DataW.trod_array Try.underlying29 hf
  have h0 := hy 0 (by omega)
  have h1 := hy 1 (by omega)
  rw [cells5] at h0 h1
  rw [List.getElem?_eq_getElem (by omega)] at h0 h1
  obtain ⟨x, e0, _, w0⟩ := DataW.trod_int Try.underlying5 (cs := [c0]) (by simpa [Value.cells] using h0)
  obtain ⟨y, e1, _, w1⟩ := DataW.trod_int Try.underlying5 (cs := [c1]) (by simpa [Value.cells] using h1)
  simp only [List.cons.injEq, and_true] at e0 e1
  have r0 := wf_u8 w0
  have r1 := wf_u8 w1
  obtain ⟨a, rfl⟩ := Int.eq_ofNat_of_zero_le r0.1
  obtain ⟨b, rfl⟩ := Int.eq_ofNat_of_zero_le r1.1
  exact ⟨a, b, by rw [e0, e1], by omega, by omega⟩
end Go.Proofs.Yteiigaoniipedaa
