/- Arguments that came in. -/
import Derived.Test.YtebmmhgmbnbnnaaCL
import Derived.Lib.SlBytesConst
import Derived.WalkKit
import Derived.ProofKit
import Derived.OpenShut
import Derived.SizedLaws
import Derived.Deep.Slices
namespace Go.Proofs.Ytebmmhgmbnbnnaa
open Go.ChangeShapes Go.WideShapes Go.ChangeAt Go.RowKit Go.Deep Ck
set_option maxRecDepth 100000
theorem cells9 : Try.prog.cellsOf 9 = 1 := by kernel_rfl
theorem cellsMs : Try.prog.cellsOf 23 = 3 := by kernel_rfl
/-- A measure that came in. -/
theorem ms_arg {H : Type} {enc : TypeId × Value → H} {W : World} {b0 base : Nat} {spare : Nat → Bool} {held : Bool} {v : Value} {d : DataW H} {p : List MemPlace} (hv : Value.okWide Try.prog W .any b0 23 v) (h : DataW.Trod enc Try.prog W base spare held 23 v d p) :
    ∃ a b c : Int, v = .agg #[.int .i64 a, .int .i64 b, .int .i64 c] ∧ (-9223372036854775808 ≤ a ∧ a ≤ 9223372036854775807) ∧ (-9223372036854775808 ≤ b ∧ b ≤ 9223372036854775807) ∧ (-9223372036854775808 ≤ c ∧ c ≤ 9223372036854775807) := by
  unfold Value.okWide at hv
  rw [Try.underlying23] at hv
  obtain ⟨cs, rfl, hz, _⟩ := hv
  obtain ⟨fuel, hf⟩ := h
  have hf : DataW.trod enc Try.prog W base spare held fuel 23 cs.toList = some (d, p) := by simpa [Value.cells] using hf
  obtain ⟨xs, n, _, _, hl, hx, hi⟩ := DataW.trod_struct Try.underlying23 hf
  rw [cellsMs] at hl
  have key : ∀ c0 c1 c2 : Value, cs.toList = [c0, c1, c2] → ∃ a b c : Int, Value.agg cs = .agg #[.int .i64 a, .int .i64 b, .int .i64 c] ∧ (-9223372036854775808 ≤ a ∧ a ≤ 9223372036854775807) ∧ (-9223372036854775808 ≤ b ∧ b ≤ 9223372036854775807) ∧ (-9223372036854775808 ≤ c ∧ c ≤ 9223372036854775807) := by
    intro c0 c1 c2 hc
    rw [hc] at hi
    match xs, hx with
    | [x0, x1, x2], _ =>
      have h0 : DataW.trod enc Try.prog W base spare held n 3 (([c0, c1, c2].drop 0).take (Try.prog.cellsOf 3)) = some x0 := hi 0 _ rfl
      rw [show Try.prog.cellsOf 3 = 1 by kernel_rfl, show ([c0, c1, c2].drop 0).take 1 = [c0] from rfl] at h0
      have h1 : DataW.trod enc Try.prog W base spare held n 3 (([c0, c1, c2].drop 1).take (Try.prog.cellsOf 3)) = some x1 := hi 1 _ rfl
      rw [show Try.prog.cellsOf 3 = 1 by kernel_rfl, show ([c0, c1, c2].drop 1).take 1 = [c1] from rfl] at h1
      have h2 : DataW.trod enc Try.prog W base spare held n 3 (([c0, c1, c2].drop 2).take (Try.prog.cellsOf 3)) = some x2 := hi 2 _ rfl
      rw [show Try.prog.cellsOf 3 = 1 by kernel_rfl, show ([c0, c1, c2].drop 2).take 1 = [c2] from rfl] at h2
      obtain ⟨y0, e0, _, w0⟩ := DataW.trod_int Try.underlying3 h0
      obtain ⟨y1, e1, _, w1⟩ := DataW.trod_int Try.underlying3 h1
      obtain ⟨y2, e2, _, w2⟩ := DataW.trod_int Try.underlying3 h2
      simp only [List.cons.injEq, and_true] at e0 e1 e2
      refine ⟨y0, y1, y2, ?_, wf_i64 w0, wf_i64 w1, wf_i64 w2⟩
      congr 1
      rw [← Array.toArray_toList (xs := cs), hc, e0, e1, e2]
  match hcs : cs.toList, hl with
  | [c0, c1, c2], _ => exact key c0 c1 c2 hcs
/-- Strings that came in. -/
theorem strs_of {H : Type} {enc : TypeId × Value → H} {W : World} {base : Nat} {held : Bool} {fuel : Nat} {a : Option Addr} {len cap : Nat} {x : DataW H × List MemPlace}
    (hf : DataW.trod enc Try.prog W base (fun _ => true) held fuel 25 [.slice a len cap] = some x) : ∃ ss, Tw (fun _ => True) W a len cap ss := by
  rcases open_strings Try.underlying25 Try.underlying9 (by kernel_rfl) hf with ⟨hcs, hx⟩ | ⟨x, l, c, all, hcs, _, hl, hm, hz, hx, hcell, _⟩
  · simp only [List.cons.injEq, Value.slice.injEq, and_true] at hcs
    obtain ⟨rfl, rfl, rfl⟩ := hcs
    exact ⟨[], rfl, Nat.le_refl _, Nat.zero_le _, fun h => absurd h (by omega)⟩
  · simp only [List.cons.injEq, Value.slice.injEq, and_true] at hcs
    obtain ⟨rfl, rfl, rfl⟩ := hcs
    simp only [if_true] at hz
    refine ⟨all.take len, by rw [stR_len, List.length_take]; omega, hl, hm, fun h0 => ?_⟩
    obtain ⟨bb, oo, spot⟩ := x
    have hspot : spot = none := by simpa [Addr.add] using World.cell?_spot (hcell 0 (by omega))
    subst hspot
    have hb := World.block_lt_of_cell? W _ (hcell 0 (by omega))
    rw [add_at] at hb
    refine ⟨bb, oo, rfl, hb, trivial, fun j u hu => ?_⟩
    have hj : j < len := by
      have := (List.getElem?_eq_some_iff.1 hu).1
      rw [stR_len, List.length_take] at this
      omega
    have h1 := fm_at stC_len (l := all.take len) (i := j) (x := all[j]'(by omega)) (by rw [List.getElem?_take_of_lt hj, List.getElem?_eq_getElem (by omega)]) 0 (by omega)
    have h2 := hcell j (by omega)
    rw [add_at] at h2
    rw [h2]
    have h3 : (stR (all.take len))[j]? = (stC (all[j]'(by omega)))[0]? := by
      have e : j * 1 + 0 = j := by omega
      rw [e] at h1
      exact h1
    rw [h3] at hu
    simp only [stC, List.getElem?_cons_zero, Option.some.injEq] at hu
    rw [← hu]
    congr 2
    rw [List.getD_eq_getElem?_getD, List.getElem?_eq_getElem (by omega)]
    rfl
theorem mem_weightsAll {H : Type} {P : Program} {e : TypeId} {d : DataW H} : ∀ {l : List (DataW H)}, d ∈ l → ∀ n ∈ d.weights P e, n ∈ DataW.weightsAll P e l
  | x :: l, h, n, hn => by
    simp only [DataW.weightsAll, List.mem_append]
    rcases List.mem_cons.1 h with rfl | h
    · exact .inl hn
    · exact .inr (mem_weightsAll h n hn)
theorem strs2_of {H : Type} {enc : TypeId × Value → H} {W : World} {b0 base : Nat} {spare : Nat → Bool} {held : Bool} {v : Value} {d : DataW H} {p : List MemPlace} {ts : List TypeId} {ds : List (DataW H)} {j : Nat} (hv : Value.okWide Try.prog W .any b0 45 v) (h : DataW.Trod enc Try.prog W base spare held 45 v d p)
    (hsz : (DataW.weightsEach Try.prog ts ds).all (· ≤ reachBytes) = true) (ht : ts[j]? = some 45) (hd : ds[j]? = some d) :
    ∃ x y : ByteArray, v = .agg #[.string x, .string y] ∧ x.size ≤ 140737488351232 ∧ y.size ≤ 140737488351232 := by
  unfold Value.okWide at hv
  rw [Try.underlying45] at hv
  obtain ⟨cs, rfl, hz, _⟩ := hv
  rw [show Try.prog.cellsOf 45 = 2 by kernel_rfl] at hz
  obtain ⟨c0, c1, rfl⟩ : ∃ c0 c1, cs = #[c0, c1] := by
    obtain ⟨l⟩ := cs
    match l, hz with
    | [c0, c1], _ => exact ⟨c0, c1, rfl⟩
  obtain ⟨fuel, hf⟩ := h
  obtain ⟨ys, m, _, hx, _, hl, hy⟩ := DataW.trod_array Try.underlying45 hf
  have h0 := hy 0 (by omega)
  have h1 := hy 1 (by omega)
  rw [cells9] at h0 h1
  rw [List.getElem?_eq_getElem (by omega)] at h0 h1
  obtain ⟨x, e0, f0, w0⟩ := DataW.trod_string Try.underlying9 (cs := [c0]) (by simpa [Value.cells] using h0)
  obtain ⟨y, e1, f1, w1⟩ := DataW.trod_string Try.underlying9 (cs := [c1]) (by simpa [Value.cells] using h1)
  simp only [List.cons.injEq, and_true] at e0 e1
  simp only [Prod.mk.injEq] at hx
  obtain ⟨rfl, _⟩ := hx
  have key : ∀ (i : Nat) (hi : i < ys.length) (s : ByteArray), ys[i] = (.lit (.string s.data.toList), []) → s.size ≤ 140737488351232 := by
    intro i hi s hs
    have hmem : (DataW.lit (.string s.data.toList) : DataW H) ∈ ys.map (·.1) := List.mem_map.2 ⟨ys[i], List.getElem_mem hi, by rw [hs]⟩
    have hw := List.all_eq_true.1 hsz s.data.toList.length (DataW.weights_mem_each ht hd _ (by
      simp only [DataW.weights, Try.underlying45]
      exact mem_weightsAll hmem _ (by simp [DataW.weights])))
    have := of_decide_eq_true hw
    simpa [reachBytes] using this
  exact ⟨x, y, by rw [e0, e1], key 0 (by omega) x f0, key 1 (by omega) y f1⟩
theorem sl_of {H : Type} {enc : TypeId × Value → H} {W : World} {base : Nat} {spare : Nat → Bool} {held : Bool} {fuel : Nat} {t e : TypeId} {c : Value} {x : DataW H × List MemPlace} (ht : Try.prog.underlying t = some (.slice e))
    (hf : DataW.trod enc Try.prog W base spare held fuel t [c] = some x) : ∃ a len cap, c = .slice a len cap := by
  rcases open_slice ht hf with ⟨hcs, _⟩ | ⟨ad, l, c, m, n, D, Pl, hcs, _⟩
  · simp only [List.cons.injEq, and_true] at hcs
    exact ⟨_, _, _, hcs⟩
  · simp only [List.cons.injEq, and_true] at hcs
    exact ⟨_, _, _, hcs⟩
/-- Slices of bytes that came in. -/
def Bss (w : World) (a : Option Addr) (len cap : Nat) : Prop :=
  len ≤ cap ∧ cap ≤ 9223372036854775807 ∧ (0 < len → ∃ b o, a = some ⟨b, o, none⟩ ∧ b < w.heap.size ∧ ∀ i, i < len → ∃ (a' : Option Addr) (l' c' : Nat) (bs : List UInt8), w.cell? ⟨b, o + i, none⟩ = some (.slice a' l' c') ∧ BsI w a' l' c' bs)
theorem bys_of {H : Type} {enc : TypeId × Value → H} {W : World} {base : Nat} {spare : Nat → Bool} {held : Bool} {fuel : Nat} {a : Option Addr} {len cap : Nat} {x : DataW H × List MemPlace}
    (hf : DataW.trod enc Try.prog W base spare held fuel 36 [.slice a len cap] = some x) : ∃ bs, BsI W a len cap bs := by
  rcases open_slice1 Try.underlying36 (by kernel_rfl) hf with ⟨hcs, _⟩ | ⟨ad, l, c, m, n, V, D, Pl, hcs, _, hl, hm, hmm, _, hV⟩
  · simp only [List.cons.injEq, Value.slice.injEq, and_true] at hcs
    obtain ⟨rfl, rfl, rfl⟩ := hcs
    exact ⟨[], rfl, Nat.le_refl _, by omega, fun h => absurd h (by omega)⟩
  · simp only [List.cons.injEq, Value.slice.injEq, and_true] at hcs
    obtain ⟨rfl, rfl, rfl⟩ := hcs
    have hlm : len ≤ m := by rw [hmm]; split <;> omega
    have hb : ∀ i, i < len → ∃ b : UInt8, W.cell? (ad.add i) = some (.int .u8 ((b.toNat : Nat) : Int)) := by
      intro i hi
      obtain ⟨h1, h2⟩ := hV i (by omega)
      obtain ⟨y, hy, _, hw⟩ := DataW.trod_int Try.underlying5 h2
      simp only [List.cons.injEq, and_true] at hy
      have hr := wf_u8 hw
      refine ⟨UInt8.ofNat y.toNat, ?_⟩
      rw [h1, hy]
      have : (UInt8.ofNat y.toNat).toNat = y.toNat := by rw [UInt8.toNat_ofNat']; omega
      rw [this, show ((y.toNat : Nat) : Int) = y by omega]
    obtain ⟨f, hf⟩ := choose_lt hb
    refine ⟨(List.range len).map f, by simp, hl, by simpa [maxLen] using hm, fun h0 => ?_⟩
    obtain ⟨bb, oo, spot⟩ := ad
    have hspot : spot = none := by simpa [Addr.add] using World.cell?_spot (hf 0 h0)
    subst hspot
    refine ⟨bb, oo, rfl, ?_, fun i hi => ?_⟩
    · have := World.block_lt_of_cell? W _ (hf 0 h0)
      rwa [add_at] at this
    · have := hf i hi
      rw [add_at] at this
      rw [this, List.getD_eq_getElem?_getD, List.getElem?_map, List.getElem?_range hi]
      rfl
theorem bss_of {H : Type} {enc : TypeId × Value → H} {W : World} {base : Nat} {spare : Nat → Bool} {held : Bool} {fuel : Nat} {a : Option Addr} {len cap : Nat} {x : DataW H × List MemPlace}
    (hf : DataW.trod enc Try.prog W base spare held fuel 39 [.slice a len cap] = some x) : Bss W a len cap := by
  rcases open_slice1 Try.underlying39 (by kernel_rfl) hf with ⟨hcs, _⟩ | ⟨ad, l, c, m, n, V, D, Pl, hcs, _, hl, hm, hmm, _, hV⟩
  · simp only [List.cons.injEq, Value.slice.injEq, and_true] at hcs
    obtain ⟨rfl, rfl, rfl⟩ := hcs
    exact ⟨Nat.le_refl _, by omega, fun h => absurd h (by omega)⟩
  · simp only [List.cons.injEq, Value.slice.injEq, and_true] at hcs
    obtain ⟨rfl, rfl, rfl⟩ := hcs
    have hlm : len ≤ m := by rw [hmm]; split <;> omega
    have hb : ∀ i, i < len → ∃ (a' : Option Addr) (l' c' : Nat) (bs : List UInt8), W.cell? (ad.add i) = some (.slice a' l' c') ∧ BsI W a' l' c' bs := by
      intro i hi
      obtain ⟨h1, h2⟩ := hV i (by omega)
      obtain ⟨a', l', c', hs⟩ := sl_of Try.underlying36 h2
      rw [hs] at h1 h2
      obtain ⟨bs, hbs⟩ := bys_of h2
      exact ⟨a', l', c', bs, h1, hbs⟩
    refine ⟨hl, by simpa [maxLen] using hm, fun h0 => ?_⟩
    obtain ⟨a0, l0, c0, bs0, h00, _⟩ := hb 0 h0
    obtain ⟨bb, oo, spot⟩ := ad
    have hspot : spot = none := by simpa [Addr.add] using World.cell?_spot h00
    subst hspot
    refine ⟨bb, oo, rfl, ?_, fun i hi => ?_⟩
    · have := World.block_lt_of_cell? W _ h00
      rwa [add_at] at this
    · obtain ⟨a', l', c', bs, h1, h2⟩ := hb i hi
      rw [add_at] at h1
      exact ⟨a', l', c', bs, h1, h2⟩
end Go.Proofs.Ytebmmhgmbnbnnaa
