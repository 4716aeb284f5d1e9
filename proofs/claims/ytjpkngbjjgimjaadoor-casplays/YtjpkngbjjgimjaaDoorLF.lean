/- Slices of steps that came in. -/
import Derived.Test.YtjpkngbjjgimjaaDoorLE
import Derived.Test.YtjpkngbjjgimjaaDoorKR
import Derived.Deep.Slices
namespace Go.Proofs.YtjpkngbjjgimjaaDoor
open Go.ChangeShapes Go.WideShapes Go.ChangeAt Go.RowKit Go.Deep Go.Shelf
set_option maxRecDepth 100000
instance : Inhabited OV := ⟨⟨0, 0, ByteArray.empty, ByteArray.empty, 0⟩⟩
/-- Steps that lie in memory. -/
def OpsIn (w : World) (a : Option Addr) (len cap : Nat) (l : List OV) : Prop :=
  l.length = len ∧ len ≤ cap ∧ cap ≤ 9223372036854775807 ∧ (0 < len → ∃ b o, a = some ⟨b, o, none⟩ ∧ b < w.heap.size ∧ ∀ i (h : i < l.length),
    w.cell? ⟨b, o + i * 5, none⟩ = some (.int .i64 l[i].kind) ∧ w.cell? ⟨b, o + i * 5 + 1, none⟩ = some (.int .i64 l[i].at_) ∧ w.cell? ⟨b, o + i * 5 + 2, none⟩ = some (.string l[i].data) ∧
      w.cell? ⟨b, o + i * 5 + 3, none⟩ = some (.string l[i].sum) ∧ w.cell? ⟨b, o + i * 5 + 4, none⟩ = some (.int .i64 l[i].n) ∧ l[i].In)
theorem cellsOp : Tryd.prog.cellsOf 37 = 5 := by kernel_rfl
/-- A step read out of five cells. -/
theorem op_of {H : Type} {enc : TypeId × Value → H} {W : World} {base : Nat} {spare : Nat → Bool} {held : Bool} {fuel : Nat} {cs : List Value} {x : DataW H × List MemPlace} (hf : DataW.trod enc Tryd.prog W base spare held fuel 37 cs = some x)
    (hw : ∀ n ∈ x.1.weights Tryd.prog 37, n ≤ reachBytes) : ∃ o : OV, cs = o.cells.toList ∧ o.In := by
  obtain ⟨xs, n, _, hx0, hl, hx, hi⟩ := DataW.trod_struct Tryd.underlying37 hf
  rw [cellsOp] at hl
  match cs, hl with
  | [c0, c1, c2, c3, c4], _ =>
    match xs, hx with
    | [x0, x1, x2, x3], _ =>
      have h0 : DataW.trod enc Tryd.prog W base spare held n 3 (([c0, c1, c2, c3, c4].drop 0).take (Tryd.prog.cellsOf 3)) = some x0 := hi 0 _ rfl
      rw [show Tryd.prog.cellsOf 3 = 1 by kernel_rfl, show ([c0, c1, c2, c3, c4].drop 0).take 1 = [c0] from rfl] at h0
      have h1 : DataW.trod enc Tryd.prog W base spare held n 3 (([c0, c1, c2, c3, c4].drop 1).take (Tryd.prog.cellsOf 3)) = some x1 := hi 1 _ rfl
      rw [show Tryd.prog.cellsOf 3 = 1 by kernel_rfl, show ([c0, c1, c2, c3, c4].drop 1).take 1 = [c1] from rfl] at h1
      have h2 : DataW.trod enc Tryd.prog W base spare held n 9 (([c0, c1, c2, c3, c4].drop 2).take (Tryd.prog.cellsOf 9)) = some x2 := hi 2 _ rfl
      rw [show Tryd.prog.cellsOf 9 = 1 by kernel_rfl, show ([c0, c1, c2, c3, c4].drop 2).take 1 = [c2] from rfl] at h2
      have h3 : DataW.trod enc Tryd.prog W base spare held n 35 (([c0, c1, c2, c3, c4].drop 3).take (Tryd.prog.cellsOf 35)) = some x3 := hi 3 _ rfl
      rw [cellsID, show ([c0, c1, c2, c3, c4].drop 3).take 2 = [c3, c4] from rfl] at h3
      obtain ⟨y0, e0, f0, w0⟩ := DataW.trod_int Tryd.underlying3 h0
      obtain ⟨y1, e1, f1, w1⟩ := DataW.trod_int Tryd.underlying3 h1
      obtain ⟨y2, e2, f2, w2⟩ := DataW.trod_string Tryd.underlying9 h2
      simp only [List.cons.injEq, and_true] at e0 e1 e2
      subst e0 e1 e2
      subst hx0
      have key : y2.size ≤ 140737488351232 := by
        have := hw y2.data.toList.length (by
          simp only [DataW.weights, Tryd.underlying37]
          exact DataW.weights_mem_each (ts := [3, 3, 9, 35]) (j := 2) rfl (d := .lit (.string y2.data.toList)) (by simp [f2]) _ (by simp [DataW.weights]))
        simpa [reachBytes] using this
      obtain ⟨s, m, e3, h5, h6⟩ := id_of h3 (fun z hz => hw z (by
        simp only [DataW.weights, Tryd.underlying37]
        exact DataW.weights_mem_each (ts := [3, 3, 9, 35]) (j := 3) rfl (d := x3.1) (by simp) _ hz))
      simp only [List.cons.injEq, and_true] at e3
      obtain ⟨rfl, rfl⟩ := e3
      exact ⟨⟨y0, y1, y2, s, m⟩, rfl, wf_i64 w0, wf_i64 w1, key, h5, h6⟩
theorem ops_of {H : Type} {enc : TypeId × Value → H} {W : World} {base : Nat} {spare : Nat → Bool} {held : Bool} {fuel : Nat} {a : Option Addr} {len cap : Nat} {x : DataW H × List MemPlace}
    (hf : DataW.trod enc Tryd.prog W base spare held fuel 22 [.slice a len cap] = some x) (hw : ∀ n ∈ x.1.weights Tryd.prog 22, n ≤ reachBytes) : ∃ l, OpsIn W a len cap l := by
  rcases open_slice Tryd.underlying22 hf with ⟨hcs, _⟩ | ⟨ad, l, c, m, n, D, Pl, hcs, _, hl, hm, hmm, hx, hV⟩
  · simp only [List.cons.injEq, Value.slice.injEq, and_true] at hcs
    obtain ⟨rfl, rfl, rfl⟩ := hcs
    exact ⟨[], rfl, by omega, by omega, by omega⟩
  · simp only [List.cons.injEq, Value.slice.injEq, and_true] at hcs
    obtain ⟨rfl, rfl, rfl⟩ := hcs
    subst hx
    have hlm : len ≤ m := by rw [hmm]; split <;> omega
    rw [cellsOp] at hV
    have hb : ∀ i, i < len → ∃ o : OV, (W.cell? (ad.add (i * 5)) = some (.int .i64 o.kind) ∧ W.cell? ((ad.add (i * 5)).add 1) = some (.int .i64 o.at_) ∧ W.cell? ((ad.add (i * 5)).add 2) = some (.string o.data) ∧ W.cell? ((ad.add (i * 5)).add 3) = some (.string o.sum) ∧ W.cell? ((ad.add (i * 5)).add 4) = some (.int .i64 o.n)) ∧ o.In := by
      intro i hi
      obtain ⟨cs', h1, h2⟩ := hV i (by omega)
      obtain ⟨o, rfl, hr⟩ := op_of h2 (fun n hn => hw n (by
        simp only [DataW.weights, Tryd.underlying22, List.mem_cons, List.mem_append]
        exact .inr (.inl (mem_weightsAll (d := D i) (List.mem_map.2 ⟨i, List.mem_range.2 hi, rfl⟩) n hn))))
      obtain ⟨_, _, hc⟩ := World.cells?_some h1
      refine ⟨o, ⟨?_, hc 1 (by omega), hc 2 (by omega), hc 3 (by omega), hc 4 (by omega)⟩, hr⟩
      have := hc 0 (by omega)
      rwa [show (ad.add (i * 5)).add 0 = ad.add (i * 5) by rw [add_add, Nat.add_zero]] at this
    obtain ⟨f, hf⟩ := choose_lt (α := OV) hb
    refine ⟨(List.range len).map f, by simp, hl, by simpa [maxLen] using hm, fun h0 => ?_⟩
    obtain ⟨bb, oo, spot⟩ := ad
    have hspot : spot = none := by simpa [Addr.add] using World.cell?_spot (hf 0 h0).1.1
    subst hspot
    refine ⟨bb, oo, rfl, ?_, fun i hi => ?_⟩
    · have := World.block_lt_of_cell? W _ (hf 0 h0).1.1
      rwa [add_at] at this
    · simp only [List.length_map, List.length_range] at hi
      have := hf i hi
      simp only [add_at] at this
      simp only [List.getElem_map, List.getElem_range]
      exact ⟨this.1.1, this.1.2.1, this.1.2.2.1, this.1.2.2.2.1, this.1.2.2.2.2, this.2⟩
/-- What is told of steps that came in. -/
theorem OpsIn.at {w : World} {a : Option Addr} {len cap : Nat} {l : List OV} (h : OpsIn w a len cap l) (h0 : 0 < len) : ∃ b o, a = some ⟨b, o, none⟩ ∧ ∀ V, Below w.heap.size w V → ∀ i x, l[i]? = some x →
    V.cell? ⟨b, o + i * 5, none⟩ = some (.int .i64 x.kind) ∧ V.cell? ⟨b, o + i * 5 + 1, none⟩ = some (.int .i64 x.at_) ∧ V.cell? ⟨b, o + i * 5 + 2, none⟩ = some (.string x.data) ∧ V.cell? ⟨b, o + i * 5 + 3, none⟩ = some (.string x.sum) ∧ V.cell? ⟨b, o + i * 5 + 4, none⟩ = some (.int .i64 x.n) ∧ x.In := by
  obtain ⟨b, o, e, hlt, hc⟩ := h.2.2.2 h0
  refine ⟨b, o, e, fun V hb i x hx => ?_⟩
  obtain ⟨h1, rfl⟩ := List.getElem?_eq_some_iff.1 hx
  obtain ⟨d0, d1, d2, d3, d4, d5⟩ := hc i h1
  exact ⟨by rw [hb.cell hlt]; exact d0, by rw [hb.cell hlt]; exact d1, by rw [hb.cell hlt]; exact d2, by rw [hb.cell hlt]; exact d3, by rw [hb.cell hlt]; exact d4, d5⟩
end Go.Proofs.YtjpkngbjjgimjaaDoor
