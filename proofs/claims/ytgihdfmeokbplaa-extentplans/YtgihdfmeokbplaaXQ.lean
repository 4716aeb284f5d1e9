/- Steps, spans, bytes that came in. -/
import Derived.Test.YtgihdfmeokbplaaXA
import Derived.WalkKit
import Derived.ProofKit
import Derived.OpenShut
import Derived.SizedLaws
import Derived.Deep.Slices
namespace Go.Proofs.Ytgihdfmeokbplaa
open Go.ChangeShapes Go.WideShapes Go.ChangeAt Go.RowKit Go.Deep Ex
theorem wf_i64 {n : Int} (h : (Lit.int .i64 n).wf = true) : -9223372036854775808 ≤ n ∧ n ≤ 9223372036854775807 := by
  simp [Lit.wf, IntKind.min, IntKind.max, IntKind.signed, IntKind.bits] at h
  omega
def InI (x : Int) : Prop := -9223372036854775808 ≤ x ∧ x ≤ 9223372036854775807
/-- What an Op says. -/
structure OV where
  kind : Int
  n : Int
  rule : Int
  at_ : Sp
def OV.agg (o : OV) : Value := .agg #[.int .i64 o.kind, .int .i64 o.n, .int .i64 o.rule, .int .i64 o.at_.1, .int .i64 o.at_.2]
def OV.cells (o : OV) : List Value := [.int .i64 o.kind, .int .i64 o.n, .int .i64 o.rule, .int .i64 o.at_.1, .int .i64 o.at_.2]
def InS (s : Sp) : Prop := InI s.1 ∧ InI s.2
def OV.In (o : OV) : Prop := InI o.kind ∧ InI o.n ∧ InI o.rule ∧ InS o.at_
instance : Inhabited OV := ⟨⟨0, 0, 0, (0, 0)⟩⟩
set_option maxRecDepth 100000
theorem cellsOp : Try.prog.cellsOf 39 = 5 := by kernel_rfl
theorem cellsSp : Try.prog.cellsOf 37 = 2 := by kernel_rfl
theorem sp_of {H : Type} {enc : TypeId × Value → H} {W : World} {base : Nat} {spare : Nat → Bool} {held : Bool} {fuel : Nat} {cs : List Value} {x : DataW H × List MemPlace} (hf : DataW.trod enc Try.prog W base spare held fuel 37 cs = some x) : ∃ s : Sp, cs = [.int .i64 s.1, .int .i64 s.2] ∧ InS s := by
  obtain ⟨xs, n, _, _, hl, hx, hi⟩ := DataW.trod_struct Try.underlying37 hf
  rw [cellsSp] at hl
  match cs, hl with
  | [c0, c1], _ =>
    match xs, hx with
    | [x0, x1], _ =>
      have h0 : DataW.trod enc Try.prog W base spare held n 3 (([c0, c1].drop 0).take (Try.prog.cellsOf 3)) = some x0 := hi 0 _ rfl
      rw [show Try.prog.cellsOf 3 = 1 by kernel_rfl, show ([c0, c1].drop 0).take 1 = [c0] from rfl] at h0
      have h1 : DataW.trod enc Try.prog W base spare held n 3 (([c0, c1].drop 1).take (Try.prog.cellsOf 3)) = some x1 := hi 1 _ rfl
      rw [show Try.prog.cellsOf 3 = 1 by kernel_rfl, show ([c0, c1].drop 1).take 1 = [c1] from rfl] at h1
      obtain ⟨y0, e0, _, w0⟩ := DataW.trod_int Try.underlying3 h0
      obtain ⟨y1, e1, _, w1⟩ := DataW.trod_int Try.underlying3 h1
      simp only [List.cons.injEq, and_true] at e0 e1
      subst e0 e1
      exact ⟨(y0, y1), rfl, wf_i64 w0, wf_i64 w1⟩
theorem op_of {H : Type} {enc : TypeId × Value → H} {W : World} {base : Nat} {spare : Nat → Bool} {held : Bool} {fuel : Nat} {cs : List Value} {x : DataW H × List MemPlace} (hf : DataW.trod enc Try.prog W base spare held fuel 39 cs = some x) : ∃ o : OV, cs = o.cells ∧ o.In := by
  obtain ⟨xs, n, _, _, hl, hx, hi⟩ := DataW.trod_struct Try.underlying39 hf
  rw [cellsOp] at hl
  match cs, hl with
  | [c0, c1, c2, c3, c4], _ =>
    match xs, hx with
    | [x0, x1, x2, x3], _ =>
      have h0 : DataW.trod enc Try.prog W base spare held n 3 (([c0, c1, c2, c3, c4].drop 0).take (Try.prog.cellsOf 3)) = some x0 := hi 0 _ rfl
      rw [show Try.prog.cellsOf 3 = 1 by kernel_rfl, show ([c0, c1, c2, c3, c4].drop 0).take 1 = [c0] from rfl] at h0
      have h1 : DataW.trod enc Try.prog W base spare held n 3 (([c0, c1, c2, c3, c4].drop 1).take (Try.prog.cellsOf 3)) = some x1 := hi 1 _ rfl
      rw [show Try.prog.cellsOf 3 = 1 by kernel_rfl, show ([c0, c1, c2, c3, c4].drop 1).take 1 = [c1] from rfl] at h1
      have h2 : DataW.trod enc Try.prog W base spare held n 3 (([c0, c1, c2, c3, c4].drop 2).take (Try.prog.cellsOf 3)) = some x2 := hi 2 _ rfl
      rw [show Try.prog.cellsOf 3 = 1 by kernel_rfl, show ([c0, c1, c2, c3, c4].drop 2).take 1 = [c2] from rfl] at h2
      have h3 : DataW.trod enc Try.prog W base spare held n 37 (([c0, c1, c2, c3, c4].drop 3).take (Try.prog.cellsOf 37)) = some x3 := hi 3 _ rfl
      rw [cellsSp, show ([c0, c1, c2, c3, c4].drop 3).take 2 = [c3, c4] from rfl] at h3
      obtain ⟨y0, e0, _, w0⟩ := DataW.trod_int Try.underlying3 h0
      obtain ⟨y1, e1, _, w1⟩ := DataW.trod_int Try.underlying3 h1
      obtain ⟨y2, e2, _, w2⟩ := DataW.trod_int Try.underlying3 h2
      obtain ⟨y3, e3, w3⟩ := sp_of h3
      simp only [List.cons.injEq, and_true] at e0 e1 e2 e3
      obtain ⟨e3, e4⟩ := e3
      subst e0 e1 e2 e3 e4
      exact ⟨⟨y0, y1, y2, y3⟩, rfl, wf_i64 w0, wf_i64 w1, wf_i64 w2, w3⟩
theorem op_arg {H : Type} {enc : TypeId × Value → H} {W : World} {b0 base : Nat} {spare : Nat → Bool} {held : Bool} {v : Value} {d : DataW H} {p : List MemPlace} (hv : Value.okWide Try.prog W .any b0 39 v) (h : DataW.Trod enc Try.prog W base spare held 39 v d p) : ∃ o : OV, v = o.agg ∧ o.In := by
  unfold Value.okWide at hv
  rw [Try.underlying39] at hv
  obtain ⟨cs, rfl, hz, _⟩ := hv
  obtain ⟨fuel, hf⟩ := h
  have hf : DataW.trod enc Try.prog W base spare held fuel 39 cs.toList = some (d, p) := by simpa [Value.cells] using hf
  obtain ⟨o, ho, hi⟩ := op_of hf
  refine ⟨o, ?_, hi⟩
  unfold OV.agg
  congr 1
  rw [← Array.toArray_toList (xs := cs), ho]
  rfl
/-- Steps that lie in memory. -/
def Os (w : World) (a : Option Addr) (len cap : Nat) (l : List OV) : Prop :=
  l.length = len ∧ len ≤ cap ∧ cap ≤ 9223372036854775807 ∧ (0 < len → ∃ b o, a = some ⟨b, o, none⟩ ∧ b < w.heap.size ∧ ∀ i (h : i < l.length),
    w.cell? ⟨b, o + i * 5, none⟩ = some (.int .i64 l[i].kind) ∧ w.cell? ⟨b, o + i * 5 + 1, none⟩ = some (.int .i64 l[i].n) ∧ w.cell? ⟨b, o + i * 5 + 2, none⟩ = some (.int .i64 l[i].rule) ∧
      w.cell? ⟨b, o + i * 5 + 3, none⟩ = some (.int .i64 l[i].at_.1) ∧ w.cell? ⟨b, o + i * 5 + 4, none⟩ = some (.int .i64 l[i].at_.2) ∧ l[i].In)
theorem ops_of {H : Type} {enc : TypeId × Value → H} {W : World} {base : Nat} {spare : Nat → Bool} {held : Bool} {fuel : Nat} {a : Option Addr} {len cap : Nat} {x : DataW H × List MemPlace}
    (hf : DataW.trod enc Try.prog W base spare held fuel 22 [.slice a len cap] = some x) : ∃ l, Os W a len cap l := by
  rcases open_slice Try.underlying22 hf with ⟨hcs, _⟩ | ⟨ad, l, c, m, n, D, Pl, hcs, _, hl, hm, hmm, hx, hV⟩
  · simp only [List.cons.injEq, Value.slice.injEq, and_true] at hcs
    obtain ⟨rfl, rfl, rfl⟩ := hcs
    exact ⟨[], rfl, by omega, by omega, by omega⟩
  · simp only [List.cons.injEq, Value.slice.injEq, and_true] at hcs
    obtain ⟨rfl, rfl, rfl⟩ := hcs
    subst hx
    have hlm : len ≤ m := by rw [hmm]; split <;> omega
    rw [cellsOp] at hV
    have hb : ∀ i, i < len → ∃ o : OV, (W.cell? (ad.add (i * 5)) = some (.int .i64 o.kind) ∧ W.cell? ((ad.add (i * 5)).add 1) = some (.int .i64 o.n) ∧ W.cell? ((ad.add (i * 5)).add 2) = some (.int .i64 o.rule) ∧ W.cell? ((ad.add (i * 5)).add 3) = some (.int .i64 o.at_.1) ∧ W.cell? ((ad.add (i * 5)).add 4) = some (.int .i64 o.at_.2)) ∧ o.In := by
      intro i hi
      obtain ⟨cs', h1, h2⟩ := hV i (by omega)
      obtain ⟨o, rfl, hr⟩ := op_of h2
      obtain ⟨_, _, hc⟩ := World.cells?_some h1
      refine ⟨o, ⟨?_, hc 1 (by omega), hc 2 (by omega), hc 3 (by omega), hc 4 (by omega)⟩, hr⟩
      have := hc 0 (by omega)
      rwa [show (ad.add (i * 5)).add 0 = ad.add (i * 5) by rw [add_add, Nat.add_zero]] at this
    obtain ⟨f, hf⟩ := choose_lt (α := OV) hb
    refine ⟨(List.range len).map f, by simp, hl, by simpa [maxLen] using hm, fun h0 => ?_⟩
    obtain ⟨bb, oo, spot⟩ := ad
    have hspot : spot = none := by simpa [Addr.add] using World.cell?_spot (hf 0 h0).1.1
    subst hspot
    refine ⟨bb, oo, rfl, ?_, fun i hi => ?_⟩
    · have := World.block_lt_of_cell? W _ (hf 0 h0).1.1
      rwa [add_at] at this
    · simp only [List.length_map, List.length_range] at hi
      have := hf i hi
      simp only [add_at] at this
      simp only [List.getElem_map, List.getElem_range]
      exact ⟨this.1.1, this.1.2.1, this.1.2.2.1, this.1.2.2.2.1, this.1.2.2.2.2, this.2⟩
theorem Os.on {w w' : World} {a : Option Addr} {len cap : Nat} {l : List OV} (h : Os w a len cap l) (hb : Below w.heap.size w w') : Os w' a len cap l := by
  obtain ⟨h1, h2, h3, h4⟩ := h
  refine ⟨h1, h2, h3, fun h0 => ?_⟩
  obtain ⟨b, o, rfl, hlt, hc⟩ := h4 h0
  refine ⟨b, o, rfl, Nat.lt_of_lt_of_le hlt hb.size, fun i hi => ?_⟩
  obtain ⟨d0, d1, d2, d3, d4, d5⟩ := hc i hi
  exact ⟨by rw [hb.cell hlt]; exact d0, by rw [hb.cell hlt]; exact d1, by rw [hb.cell hlt]; exact d2, by rw [hb.cell hlt]; exact d3, by rw [hb.cell hlt]; exact d4, d5⟩
/-- Spans that came in: each in range. -/
def Ss (w : World) (a : Option Addr) (len cap : Nat) (l : List Sp) : Prop := SpW w a len cap l ∧ ∀ s ∈ l, InS s
theorem sps_of {H : Type} {enc : TypeId × Value → H} {W : World} {base : Nat} {spare : Nat → Bool} {held : Bool} {fuel : Nat} {a : Option Addr} {len cap : Nat} {x : DataW H × List MemPlace}
    (hf : DataW.trod enc Try.prog W base spare held fuel 33 [.slice a len cap] = some x) : ∃ l, Ss W a len cap l := by
  rcases open_slice Try.underlying33 hf with ⟨hcs, _⟩ | ⟨ad, l, c, m, n, D, Pl, hcs, _, hl, hm, hmm, hx, hV⟩
  · simp only [List.cons.injEq, Value.slice.injEq, and_true] at hcs
    obtain ⟨rfl, rfl, rfl⟩ := hcs
    exact ⟨[], ⟨rfl, Nat.le_refl _, by omega, fun _ => rfl, fun h => absurd h (by omega)⟩, fun s hs => by cases hs⟩
  · simp only [List.cons.injEq, Value.slice.injEq, and_true] at hcs
    obtain ⟨rfl, rfl, rfl⟩ := hcs
    subst hx
    have hlm : len ≤ m := by rw [hmm]; split <;> omega
    rw [cellsSp] at hV
    have hb : ∀ i, i < len → ∃ s : Sp, (W.cell? (ad.add (i * 2)) = some (.int .i64 s.1) ∧ W.cell? ((ad.add (i * 2)).add 1) = some (.int .i64 s.2)) ∧ InS s := by
      intro i hi
      obtain ⟨cs', h1, h2⟩ := hV i (by omega)
      obtain ⟨s, rfl, hr⟩ := sp_of h2
      obtain ⟨_, _, hc⟩ := World.cells?_some h1
      refine ⟨s, ⟨?_, hc 1 (by omega)⟩, hr⟩
      have := hc 0 (by omega)
      rwa [show (ad.add (i * 2)).add 0 = ad.add (i * 2) by rw [add_add, Nat.add_zero]] at this
    obtain ⟨f, hf⟩ := choose_lt (α := Sp) hb
    refine ⟨(List.range len).map f, ⟨by simp, hl, by simpa [maxLen] using hm, fun h => (by cases h), fun h0 => ?_⟩, fun s hs => ?_⟩
    · obtain ⟨bb, oo, spot⟩ := ad
      have hspot : spot = none := by simpa [Addr.add] using World.cell?_spot (hf 0 h0).1.1
      subst hspot
      refine ⟨bb, oo, rfl, ?_, fun i q hq => ?_⟩
      · have := World.block_lt_of_cell? W _ (hf 0 h0).1.1
        rwa [add_at] at this
      · have hi := (List.getElem?_eq_some_iff.1 hq).1
        simp only [List.length_map, List.length_range] at hi
        have := hf i hi
        simp only [add_at] at this
        rw [List.getElem?_map, List.getElem?_range hi] at hq
        cases hq
        exact ⟨this.1.1, this.1.2⟩
    · simp only [List.mem_map, List.mem_range] at hs
      obtain ⟨i, hi, rfl⟩ := hs
      exact (hf i hi).2
end Go.Proofs.Ytgihdfmeokbplaa
