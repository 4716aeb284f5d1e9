/- Rows of texts and of signatures. -/
import Derived.Test.YthmikfkdjnidmaaDoorGB
namespace Go.Proofs.YthmikfkdjnidmaaDoor
open Go.RowKit
theorem take_snoc {α : Type} {L : List α} {k : Nat} {x : α} (h : L[k]? = some x) : L.take (k + 1) = L.take k ++ [x] := by rw [List.take_add_one, h]; rfl
/-- Texts as cells. -/
def stC (s : ByteArray) : List Value := [.string s]
def stR (l : List ByteArray) : List Value := l.flatMap stC
theorem stC_len (s : ByteArray) : (stC s).length = 1 := rfl
theorem stR_app (a b : List ByteArray) : stR (a ++ b) = stR a ++ stR b := by simp [stR]
theorem stR_one (l : List ByteArray) : ∀ u ∈ stR l, u.oneCell' = true := by
  intro u hu
  obtain ⟨c, _, hc⟩ := List.mem_flatMap.1 hu
  simp only [stC, List.mem_cons, List.not_mem_nil, or_false] at hc
  subst hc
  rfl
def Tw (G : Nat → Prop) (w : World) (a : Option Addr) (len cap : Nat) (l : List ByteArray) : Prop := Rw G w 9 1 a len cap (stR l)
theorem Tw.len {G : Nat → Prop} {w : World} {a : Option Addr} {len cap : Nat} {l : List ByteArray} (h : Tw G w a len cap l) : l.length = len := by
  have := h.1
  unfold stR at this
  rw [fm_len stC_len] at this
  omega
theorem Tw.max {G : Nat → Prop} {w : World} {a : Option Addr} {len cap : Nat} {l : List ByteArray} (h : Tw G w a len cap l) : len ≤ 9223372036854775807 := by
  have := h.2.1
  have := h.2.2.1
  unfold maxLen at this
  omega
theorem Tw.below {G : Nat → Prop} {w w' : World} {a : Option Addr} {len cap : Nat} {l : List ByteArray} (h : Tw G w a len cap l) (hb : Below w.heap.size w w') : Tw G w' a len cap l := Rw.below h hb
theorem Tw.at {G : Nat → Prop} {w : World} {a : Option Addr} {len cap : Nat} {l : List ByteArray} (h : Tw G w a len cap l) (h0 : 0 < len) : ∃ b o, a = some ⟨b, o, none⟩ ∧ b < w.heap.size ∧ ∀ i s, l[i]? = some s → w.cell? ⟨b, o + i, none⟩ = some (.string s) := by
  obtain ⟨b, o, rfl, hb, _, hc⟩ := h.2.2.2 h0
  refine ⟨b, o, rfl, hb, fun i s hi => ?_⟩
  have := fm_at stC_len hi 0 (by omega)
  exact hc i _ (by simpa [stR, stC] using this)
theorem infoSt : (Tryd.prog.info? 9).map (fun i => (i.zero, i.size, i.bytes)) = some (some (.string ByteArray.empty), 1, 16) := by kernel_rfl
theorem addT_own {G2 : Nat → Prop} (w : World) {base : Nat} {a : Option Addr} {n c : Nat} {l : List ByteArray} (h : w.ownsRow base 9 1 (.slice a n c) n (stR l)) {a2 : Option Addr} {m c2 : Nat} {k : List ByteArray} (h2 : Tw G2 w a2 m c2 k) (hN : n + m ≤ 1000000) (hb : base ≤ w.heap.size) :
    ∃ a' c' w', (∀ ty, (Builtin.append_ #[28, 28] ty #[.slice a n c, .slice a2 m c2]).run Tryd.prog w = .ok (.slice a' (n + m) c') w') ∧ w'.ownsRow base 9 1 (.slice a' (n + m) c') (n + m) (stR (l ++ k)) ∧ w.grownBy w' (ob a) ∧ (ob a' = ob a ∨ ob a' = some w.heap.size) := by
  obtain ⟨i, hi, hz, hs, hbb⟩ := info_of infoSt
  rw [stR_app]
  exact app_own w 28 9 i _ 1 16 Tryd.underlying28 hi hz hs hbb rfl (by omega) h h2 (stR_one k) hN (by omega) hb
theorem txtRow {w : World} {b : Nat} {s : ByteArray} (h : w.heap[b]? = some (.cells #[.string s] 9 (0, 0))) : Tw (fun _ => True) w (some ⟨b, 0, none⟩) 1 1 [s] := by
  refine ⟨rfl, Nat.le_refl _, by unfold maxLen; omega, fun _ => ⟨b, 0, rfl, lt_of_some h, trivial, fun j u hu => ?_⟩⟩
  rw [Nat.zero_add, cell_of_row _ b _ _ _ _ h]
  simpa [stR, stC] using hu
/-- Signatures as cells. -/
abbrev Sg := Nat × ByteArray
def sgC (s : Sg) : List Value := [.int .u32 (s.1 : Int), .string s.2]
def sgR (l : List Sg) : List Value := l.flatMap sgC
theorem sgC_len (s : Sg) : (sgC s).length = 2 := rfl
theorem sgR_app (a b : List Sg) : sgR (a ++ b) = sgR a ++ sgR b := by simp [sgR]
theorem sgR_one (l : List Sg) : ∀ u ∈ sgR l, u.oneCell' = true := by
  intro u hu
  obtain ⟨c, _, hc⟩ := List.mem_flatMap.1 hu
  simp only [sgC, List.mem_cons, List.not_mem_nil, or_false] at hc
  rcases hc with rfl | rfl <;> rfl
def Gw (G : Nat → Prop) (w : World) (a : Option Addr) (len cap : Nat) (l : List Sg) : Prop := Rw G w 25 2 a len cap (sgR l)
theorem Gw.len {G : Nat → Prop} {w : World} {a : Option Addr} {len cap : Nat} {l : List Sg} (h : Gw G w a len cap l) : l.length = len := by
  have := h.1
  unfold sgR at this
  rw [fm_len sgC_len] at this
  omega
theorem Gw.max {G : Nat → Prop} {w : World} {a : Option Addr} {len cap : Nat} {l : List Sg} (h : Gw G w a len cap l) : len ≤ 9223372036854775807 := by
  have := h.2.1
  have := h.2.2.1
  unfold maxLen at this
  omega
theorem Gw.below {G : Nat → Prop} {w w' : World} {a : Option Addr} {len cap : Nat} {l : List Sg} (h : Gw G w a len cap l) (hb : Below w.heap.size w w') : Gw G w' a len cap l := Rw.below h hb
theorem Gw.at {G : Nat → Prop} {w : World} {a : Option Addr} {len cap : Nat} {l : List Sg} (h : Gw G w a len cap l) (h0 : 0 < len) : ∃ b o, a = some ⟨b, o, none⟩ ∧ b < w.heap.size ∧ ∀ i s, l[i]? = some s → w.cell? ⟨b, o + i * 2, none⟩ = some (.int .u32 (s.1 : Int)) ∧ w.cell? ⟨b, o + i * 2 + 1, none⟩ = some (.string s.2) := by
  obtain ⟨b, o, rfl, hb, _, hc⟩ := h.2.2.2 h0
  have key : ∀ i s, l[i]? = some s → ∀ j, j < 2 → (sgR l)[i * 2 + j]? = (sgC s)[j]? := fun i s hi j hj => fm_at sgC_len hi j hj
  refine ⟨b, o, rfl, hb, fun i s hi => ⟨?_, ?_⟩⟩
  · exact hc (i * 2) _ (key i s hi 0 (by omega))
  · rw [Nat.add_assoc]; exact hc (i * 2 + 1) _ (key i s hi 1 (by omega))
theorem infoSg : (Tryd.prog.info? 25).map (fun i => (i.zero, i.size, i.bytes)) = some (some (.agg #[.int .u32 0, .string ByteArray.empty]), 2, 24) := by kernel_rfl
theorem addG_own {G2 : Nat → Prop} (w : World) {base : Nat} {a : Option Addr} {n c : Nat} {l : List Sg} (h : w.ownsRow base 25 2 (.slice a n c) n (sgR l)) {a2 : Option Addr} {m c2 : Nat} {k : List Sg} (h2 : Gw G2 w a2 m c2 k) (hN : n + m ≤ 1000000) (hb : base ≤ w.heap.size) :
    ∃ a' c' w', (∀ ty, (Builtin.append_ #[34, 34] ty #[.slice a n c, .slice a2 m c2]).run Tryd.prog w = .ok (.slice a' (n + m) c') w') ∧ w'.ownsRow base 25 2 (.slice a' (n + m) c') (n + m) (sgR (l ++ k)) ∧ w.grownBy w' (ob a) ∧ (ob a' = ob a ∨ ob a' = some w.heap.size) := by
  obtain ⟨i, hi, hz, hs, hbb⟩ := info_of infoSg
  rw [sgR_app]
  exact app_own w 34 25 i _ 2 24 Tryd.underlying34 hi hz hs hbb rfl (by omega) h h2 (sgR_one k) hN (by omega) hb
theorem sgRow {w : World} {b : Nat} {s : Sg} (h : w.heap[b]? = some (.cells #[.int .u32 (s.1 : Int), .string s.2] 25 (0, 0))) : Gw (fun _ => True) w (some ⟨b, 0, none⟩) 1 1 [s] := by
  refine ⟨rfl, Nat.le_refl _, by unfold maxLen; omega, fun _ => ⟨b, 0, rfl, lt_of_some h, trivial, fun j u hu => ?_⟩⟩
  rw [Nat.zero_add, cell_of_row _ b _ _ _ _ h]
  simpa [sgR, sgC] using hu
theorem Gw.pre {G : Nat → Prop} {w : World} {a : Option Addr} {len cap : Nat} {l : List Sg} (h : Gw G w a len cap l) (i : Nat) (hi : i ≤ len) : Gw G w (cutA a cap 0 2) i cap (l.take i) := by
  have := Rw.pre h i hi
  unfold sgR at this
  rw [fm_take sgC_len] at this
  exact this
theorem pre_sgs (a : Option Addr) (len cap i : Nat) (hi : i ≤ cap) (W : World) : (Instr.sliceAt 34 (.slice a len cap) none (some (.int .i64 (i : Int))) none).run Tryd.prog W = .ok (.slice (cutA a cap 0 2) i cap) W := by
  have h1 : (sizeOf 25).run Tryd.prog W = .ok 2 W := by kernel_rfl
  simp [Instr.sliceAt, Instr.slice, run_underlying Tryd.underlying34, Instr.sliceBounds, Instr.sliceBound, asIntOf, h1, hi, cutA]
/-- Two signatures are held against each other. -/
theorem eqin_sg (a c : Int) (b d : ByteArray) (w : World) : (Op.equalIn 10000 25 (.agg #[.int .u32 a, .string b]) (.agg #[.int .u32 c, .string d])).run Tryd.prog w = .ok (decide (a = c ∧ b = d)) w := by
  have u9 := Tryd.underlying9
  have a9 := Tryd.isAgg9
  have z9 := Tryd.sizeOf9
  have u3 := Tryd.underlying23
  have a3 := Tryd.isAgg23
  have z3 := Tryd.sizeOf23
  have hS : Tryd.prog.underlying 25 = some (.struct (Tryd.prog.fieldsOf 25)) := by kernel_rfl
  have hp : Tryd.prog.stoodInHeld 25 = false := by kernel_rfl
  rw [show (10000 : Nat) = 9999 + 1 from rfl, run_equalIn_agg w 9999 25 _ _ hS hp]
  simp only [Program.fieldsOf, Tryd.underlying25]
  go_simp
  by_cases h1 : a = c
  · subst h1
    by_cases h2 : b = d
    · subst h2; simp
    · have := str_ne h2
      simp [h2, this]
  · simp [h1]
theorem res_sg {fn : Func} {p : Tmp} (h : fn.results = #[.cell p 25]) (tmps : Array Value) (w : World) (g : Nat) (cs : Array Value) (hp : tmps.getD p undef = .pointer (some ⟨g, 0, none⟩)) (hg : w.heap[g]? = some (.cells cs 25 (0, 0))) (hi : (Tryd.prog.info? 25).map (·.size) = some cs.size) :
    (results fn tmps).run Tryd.prog w = .ok (.agg cs) w := by
  have hp' : tmps[p]?.getD undef = .pointer (some ⟨g, 0, none⟩) := by simpa using hp
  have hl := run_loadVar_row (P := Tryd.prog) w g 25 25 cs (0, 0) _ hg Tryd.underlying25 rfl hi
  simp [results, h, hp', asAddr, hl]
theorem infoS2 : (Tryd.prog.info? 25).map (·.size) = some 2 := by kernel_rfl
theorem set2 {U : World} {g : Nat} {a b : Value} {t : TypeId} (h : U.heap[g]? = some (.cells #[a, b] t (0, 0))) (x0 x1 : Value) : ((U.setCell ⟨g, 0, none⟩ x0).setCell ⟨g, 1, none⟩ x1).heap[g]? = some (.cells #[x0, x1] t (0, 0)) := by
  have h1 : (U.setCell ⟨g, 0, none⟩ x0).heap[g]? = some (.cells #[x0, b] t (0, 0)) := by rw [heap_setCell_same _ _ _ _ _ _ h]; rfl
  rw [heap_setCell_same _ _ _ _ _ _ h1]
  rfl
end Go.Proofs.YthmikfkdjnidmaaDoor
