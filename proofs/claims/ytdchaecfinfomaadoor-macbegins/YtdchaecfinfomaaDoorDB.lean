/- How arrays of two strings and of two ints are opened out of a reading. -/
import Derived.Test.YtdchaecfinfomaaDoorDA
namespace Go.Proofs.YtdchaecfinfomaaDoor
open Go.ChangeShapes Go.WideShapes Go.ChangeAt Go.RowKit
theorem cells3 : Tryd.prog.cellsOf 3 = 1 := by kernel_rfl
theorem cells9 : Tryd.prog.cellsOf 9 = 1 := by kernel_rfl
theorem ints2_of {H : Type} {enc : TypeId × Value → H} {W : World} {b0 base : Nat} {spare : Nat → Bool} {held : Bool} {v : Value} {d : DataW H} {p : List MemPlace} (hv : Value.okWide Tryd.prog W .any b0 35 v) (h : DataW.Trod enc Tryd.prog W base spare held 35 v d p) :
    ∃ x y, v = .agg #[.int .i64 x, .int .i64 y] ∧ (Lit.int .i64 x).wf = true ∧ (Lit.int .i64 y).wf = true := by
  unfold Value.okWide at hv
  rw [Tryd.underlying35] at hv
  obtain ⟨cs, rfl, hsz, _⟩ := hv
  rw [show Tryd.prog.cellsOf 35 = 2 by kernel_rfl] at hsz
  obtain ⟨c0, c1, rfl⟩ : ∃ c0 c1, cs = #[c0, c1] := by
    obtain ⟨l⟩ := cs
    match l, hsz with
    | [c0, c1], _ => exact ⟨c0, c1, rfl⟩
  obtain ⟨fuel, hf⟩ := h
  obtain ⟨ys, m, _, _, _, hl, hy⟩ := DataW.trod_array Tryd.underlying35 hf
  have h0 := hy 0 (by omega)
  have h1 := hy 1 (by omega)
  rw [cells3] at h0 h1
  rw [List.getElem?_eq_getElem (by omega)] at h0 h1
  obtain ⟨x, e0, _, w0⟩ := DataW.trod_int Tryd.underlying3 (cs := [c0]) (by simpa [Value.cells] using h0)
  obtain ⟨y, e1, _, w1⟩ := DataW.trod_int Tryd.underlying3 (cs := [c1]) (by simpa [Value.cells] using h1)
  simp only [List.cons.injEq, and_true] at e0 e1
  exact ⟨x, y, by rw [e0, e1], w0, w1⟩
theorem strs2_of {H : Type} {enc : TypeId × Value → H} {W : World} {b0 base : Nat} {spare : Nat → Bool} {held : Bool} {v : Value} {d : DataW H} {p : List MemPlace} {ts : List TypeId} {ds : List (DataW H)} {j : Nat} (hv : Value.okWide Tryd.prog W .any b0 28 v) (h : DataW.Trod enc Tryd.prog W base spare held 28 v d p)
    (hsz : (DataW.weightsEach Tryd.prog ts ds).all (· ≤ reachBytes) = true) (ht : ts[j]? = some 28) (hd : ds[j]? = some d) :
    ∃ x y : ByteArray, v = .agg #[.string x, .string y] ∧ x.size ≤ 140737488351232 ∧ y.size ≤ 140737488351232 := by
  unfold Value.okWide at hv
  rw [Tryd.underlying28] at hv
  obtain ⟨cs, rfl, hz, _⟩ := hv
  rw [show Tryd.prog.cellsOf 28 = 2 by kernel_rfl] at hz
  obtain ⟨c0, c1, rfl⟩ : ∃ c0 c1, cs = #[c0, c1] := by
    obtain ⟨l⟩ := cs
    match l, hz with
    | [c0, c1], _ => exact ⟨c0, c1, rfl⟩
  obtain ⟨fuel, hf⟩ := h
  obtain ⟨ys, m, _, hx, _, hl, hy⟩ := DataW.trod_array Tryd.underlying28 hf
  have h0 := hy 0 (by omega)
  have h1 := hy 1 (by omega)
  rw [cells9] at h0 h1
  rw [List.getElem?_eq_getElem (by omega)] at h0 h1
  obtain ⟨x, e0, f0, w0⟩ := DataW.trod_string Tryd.underlying9 (cs := [c0]) (by simpa [Value.cells] using h0)
  obtain ⟨y, e1, f1, w1⟩ := DataW.trod_string Tryd.underlying9 (cs := [c1]) (by simpa [Value.cells] using h1)
  simp only [List.cons.injEq, and_true] at e0 e1
  simp only [Prod.mk.injEq] at hx
  obtain ⟨rfl, _⟩ := hx
  have key : ∀ (i : Nat) (hi : i < ys.length) (s : ByteArray), ys[i] = (.lit (.string s.data.toList), []) → s.size ≤ 140737488351232 := by
    intro i hi s hs
    have hmem : (DataW.lit (.string s.data.toList) : DataW H) ∈ ys.map (·.1) := List.mem_map.2 ⟨ys[i], List.getElem_mem hi, by rw [hs]⟩
    have hw := List.all_eq_true.1 hsz s.data.toList.length (DataW.weights_mem_each ht hd _ (by
      simp only [DataW.weights, Tryd.underlying28]
      exact mem_weightsAll hmem _ (by simp [DataW.weights])))
    have := of_decide_eq_true hw
    simpa [reachBytes] using this
  exact ⟨x, y, by rw [e0, e1], key 0 (by omega) x f0, key 1 (by omega) y f1⟩
end Go.Proofs.YtdchaecfinfomaaDoor
