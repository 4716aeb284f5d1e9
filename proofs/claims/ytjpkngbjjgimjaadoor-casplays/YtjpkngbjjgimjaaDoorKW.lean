/- A list of IDs of the law's own, beside a store: several more, one gone. -/
import Derived.Test.YtjpkngbjjgimjaaDoorKV
namespace Go.Proofs.YtjpkngbjjgimjaaDoor
open Go.RowKit
theorem idRow2 {w : World} {b : Nat} {c d : Ix} (h : w.heap[b]? = some (.cells #[.string c.1, .int .i64 (c.2 : Int), .string d.1, .int .i64 (d.2 : Int)] 35 (0, 0))) : Iw (fun _ => True) w (some ⟨b, 0, none⟩) 2 2 [c, d] := by
  refine ⟨rfl, Nat.le_refl _, by unfold maxLen; omega, fun _ => ⟨b, 0, rfl, ⟨_, _, h⟩, trivial, fun j u hu => ?_⟩⟩
  rw [Nat.zero_add, cell_of_row _ b _ _ _ _ h]
  simpa [idR, Ix.cells] using hu
section
variable {h0 : Nat} {F : Nat → Prop} {w w' : World} {st tb W : Nat} {full : Int} {T : List Pr}
theorem Ids.adds {G2 : Nat → Prop} {B : Nat} {a a2 : Option Addr} {n c m c2 : Nat} {l k : List Ix} (h : Ids B F w a n c l) (hcs : Cs h0 F w st tb W full T) (hB : B ≤ w.heap.size) (hn : n + m ≤ 1000000) (hr : Iw G2 w a2 m c2 k) :
    ∃ a' c' w', (∀ ty, (Builtin.append_ #[33, 33] ty #[.slice a n c, .slice a2 m c2]).run Tryd.prog w = .ok (.slice a' (n + m) c') w') ∧ Ids B (mor F w w') w' a' (n + m) c' (l ++ k) ∧ Cs h0 (mor F w w') w' st tb W full T ∧ w.grownBy w' (ob a) := by
  obtain ⟨a', c', w', h1, h2, h3, h4⟩ := addI_own w h.1 hr hn hB
  refine ⟨a', c', w', h1, ⟨h2, fun z hz => ?_⟩, hcs.grow h3 (fun z hz => (h.2 z hz).2), h3⟩
  rcases h2.2 with ⟨e, _⟩ | ⟨g, cc, cur, e, _, hrow, _⟩
  · simp only [Value.slice.injEq] at e
    obtain ⟨rfl, _⟩ := e
    cases hz
  · cases e
    cases hz
    refine ⟨?_, cur, _, hrow⟩
    rcases h4 with h4 | h4
    · exact .inl (h.2 _ h4.symm).1
    · refine .inr ⟨?_, lt_of_some hrow⟩
      have := Option.some.inj h4
      show w.heap.size ≤ g
      exact Nat.le_of_eq this.symm
theorem Ids.len {B : Nat} {a : Option Addr} {n c : Nat} {l : List Ix} (h : Ids B F w a n c l) : l.length = n := by
  have := h.1.1
  unfold idR at this
  rw [fm_len idR_len1] at this
  omega
/-- A list that isn't empty: its address, and its beginning and its end. -/
theorem Ids.cut {B : Nat} {a : Option Addr} {n c : Nat} {l : List Ix} (h : Ids B F w a n c l) (j : Nat) (hj : j < n) :
    ∃ g, a = some ⟨g, 0, none⟩ ∧ n ≤ c ∧ Ids B F w (some ⟨g, 0, none⟩) j c (l.take j) ∧ Iw (fun _ => True) w (cutA (some ⟨g, 0, none⟩) c (j + 1) 2) (n - (j + 1)) (c - (j + 1)) (l.drop (j + 1)) ∧ cutA (some ⟨g, 0, none⟩) c 0 2 = some ⟨g, 0, none⟩ := by
  have hrw : Iw (fun _ => True) w a n c l := Rw.own h.1 (fun _ _ => trivial)
  rcases h.1.2 with ⟨e, h0⟩ | ⟨g, cap, cur, e, hg, hrow, hnc, hm, hsz, htk⟩
  · omega
  · cases e
    refine ⟨g, rfl, hnc, ⟨⟨?_, .inr ⟨g, c, cur, rfl, hg, hrow, by omega, hm, hsz, ?_⟩⟩, fun z hz => h.2 z hz⟩, ?_, ?_⟩
    · unfold idR
      rw [fm_len idR_len1, List.length_take, h.len, Nat.min_eq_left (by omega)]
    · have : idR (l.take j) = (idR l).take (j * 2) := by unfold idR; rw [fm_take idR_len1]
      rw [this, ← htk, List.take_take, Nat.min_eq_left (by omega)]
    · have := Rw.drop hrw (j + 1) (by omega)
      unfold idR at this
      rw [fm_drop idR_len1] at this
      exact this
    · unfold cutA
      split <;> simp [Addr.add]
end
theorem pre_ids (a : Option Addr) (len cap i : Nat) (hi : i ≤ cap) (W : World) : (Instr.sliceAt 33 (.slice a len cap) none (some (.int .i64 (i : Int))) none).run Tryd.prog W = .ok (.slice (cutA a cap 0 2) i cap) W := by
  have h1 : (sizeOf 35).run Tryd.prog W = .ok 2 W := by kernel_rfl
  simp [Instr.sliceAt, Instr.slice, run_underlying Tryd.underlying33, Instr.sliceBounds, Instr.sliceBound, asIntOf, h1, hi, cutA]
theorem off_ids (a : Option Addr) (len cap i : Nat) (hi : i ≤ len) (W : World) : (Instr.sliceAt 33 (.slice a len cap) (some (.int .i64 (i : Int))) none none).run Tryd.prog W = .ok (.slice (cutA a cap i 2) (len - i) (cap - i)) W := by
  have h1 : (sizeOf 35).run Tryd.prog W = .ok 2 W := by kernel_rfl
  simp [Instr.sliceAt, Instr.slice, run_underlying Tryd.underlying33, Instr.sliceBounds, Instr.sliceBound, asIntOf, h1, hi, cutA]
theorem all_nil (W : Nat) : allC W [] = [] := by
  unfold allC betw rangeT
  simp
/-- What is told of a slice of numbers that came in. -/
theorem ints_at {w : World} {a : Option Addr} {len cap : Nat} {zs : List Int} (h : IsRow .i64 w a len cap zs) (h0 : 0 < len) : ∃ b o, a = some ⟨b, o, none⟩ ∧ len ≤ zs.length ∧ ∀ V, Below w.heap.size w V → ∀ i, i < len → V.cell? ⟨b, o + i, none⟩ = some (.int .i64 (zs.getD i 0)) ∧ -9223372036854775808 ≤ zs.getD i 0 ∧ zs.getD i 0 ≤ 9223372036854775807 := by
  rcases h with ⟨_, h1, _⟩ | ⟨x, rfl, h1, h2, h3, h4, h5⟩
  · omega
  · obtain ⟨b, o, rfl⟩ := spot_none (h4 0 (by omega))
    refine ⟨b, o, rfl, by omega, fun V hV i hi => ?_⟩
    have h6 := h4 i (by omega)
    rw [add_at] at h6
    refine ⟨by rw [hV.cell (World.block_lt_of_cell? w _ h6)]; exact h6, ?_⟩
    have h7 : zs.getD i 0 ∈ zs := by
      rw [List.getD_eq_getElem?_getD, List.getElem?_eq_getElem (by omega)]
      exact List.getElem_mem _
    exact wf_i64 (h5 _ h7)
end Go.Proofs.YtjpkngbjjgimjaaDoor
