/- Rows of entries, and audits, in memory. A region's held fact made stronger; strings cut and put together. -/
import Derived.Test.YtkhidkilkbmpoaaDoorGB
import Derived.Test.YtkhidkilkbmpoaaDoorQN
import Derived.Test.YtkhidkilkbmpoaaDoorNT
import Derived.Test.YtkhidkilkbmpoaaDoorBA
import Derived.Deep.RegionHeld
namespace Go.Proofs.YtkhidkilkbmpoaaDoor
open Go.RowKit
theorem take_snocK {α : Type} {l : List α} {i : Nat} {x : α} (h : l[i]? = some x) : l.take (i + 1) = l.take i ++ [x] := by
  rw [List.take_add_one, h]
  rfl
/-- What is told by a word of yes or no. -/
def YeTo (w : World) (b : Bool) (e : Ending) (w' : World) : Prop := e = .returned (.bool b) ∧ Below w.heap.size w w'
/-- A string is told. -/
def StTo (w : World) (bs : List UInt8) (e : Ending) (w' : World) : Prop := e = .returned (.string (strOf bs)) ∧ Below w.heap.size w w'
/-- Entries as cells. -/
def enC (c : En) : List Value := [.int .i64 c.seq, .int .i64 c.time, .int .i64 c.kind, .string c.path, .int .i64 c.errno]
def enR (l : List En) : List Value := l.flatMap enC
theorem enC_len (c : En) : (enC c).length = 5 := rfl
theorem enR_app (a b : List En) : enR (a ++ b) = enR a ++ enR b := by simp [enR]
theorem enR_one (l : List En) : ∀ u ∈ enR l, u.oneCell' = true := by
  intro u hu
  obtain ⟨c, _, hc⟩ := List.mem_flatMap.1 hu
  simp only [enC, List.mem_cons, List.not_mem_nil, or_false] at hc
  rcases hc with rfl | rfl | rfl | rfl | rfl <;> rfl
/-- A row of entries that can be read. -/
def Ew (w : World) (a : Option Addr) (len cap : Nat) (l : List En) : Prop := Rw (fun _ => True) w 36 5 a len cap (enR l)
theorem Ew.len {w : World} {a : Option Addr} {len cap : Nat} {l : List En} (h : Ew w a len cap l) : l.length = len := by
  have := h.1
  unfold enR at this
  rw [fm_len enC_len] at this
  omega
theorem Ew.max {w : World} {a : Option Addr} {len cap : Nat} {l : List En} (h : Ew w a len cap l) : len ≤ 9223372036854775807 := by
  have := h.2.1
  have := h.2.2.1
  unfold maxLen at this
  omega
theorem Ew.cap {w : World} {a : Option Addr} {len cap : Nat} {l : List En} (h : Ew w a len cap l) : len ≤ cap := h.2.1
theorem Ew.below {w w' : World} {a : Option Addr} {len cap : Nat} {l : List En} (h : Ew w a len cap l) (hb : Below w.heap.size w w') : Ew w' a len cap l := Rw.below h hb
theorem Ew.nil (w : World) : Ew w none 0 0 [] := Rw.zero _ w 36 5 none 0 (Nat.zero_le _)
theorem Ew.at {w : World} {a : Option Addr} {len cap : Nat} {l : List En} (h : Ew w a len cap l) (h0 : 0 < len) : ∃ b o, a = some ⟨b, o, none⟩ ∧ b < w.heap.size ∧ ∀ i p, l[i]? = some p → w.cell? ⟨b, o + i * 5, none⟩ = some (.int .i64 p.seq) ∧ w.cell? ⟨b, o + i * 5 + 1, none⟩ = some (.int .i64 p.time) ∧ w.cell? ⟨b, o + i * 5 + 2, none⟩ = some (.int .i64 p.kind) ∧ w.cell? ⟨b, o + i * 5 + 3, none⟩ = some (.string p.path) ∧ w.cell? ⟨b, o + i * 5 + 4, none⟩ = some (.int .i64 p.errno) := by
  obtain ⟨b, o, rfl, hb, _, hc⟩ := h.2.2.2 h0
  have key : ∀ i p, l[i]? = some p → ∀ j, j < 5 → (enR l)[i * 5 + j]? = (enC p)[j]? := fun i p hi j hj => fm_at enC_len hi j hj
  refine ⟨b, o, rfl, hb, fun i p hi => ⟨?_, ?_, ?_, ?_, ?_⟩⟩
  · exact hc (i * 5) _ (key i p hi 0 (by omega))
  · rw [Nat.add_assoc]; exact hc (i * 5 + 1) _ (key i p hi 1 (by omega))
  · rw [Nat.add_assoc]; exact hc (i * 5 + 2) _ (key i p hi 2 (by omega))
  · rw [Nat.add_assoc]; exact hc (i * 5 + 3) _ (key i p hi 3 (by omega))
  · rw [Nat.add_assoc]; exact hc (i * 5 + 4) _ (key i p hi 4 (by omega))
theorem infoEn : (Tryd.prog.info? 36).map (fun i => (i.zero, i.size, i.bytes)) = some (some (.agg #[.int .i64 0, .int .i64 0, .int .i64 0, .string ByteArray.empty, .int .i64 0]), 5, 48) := by kernel_rfl
theorem addE_own (w : World) {base : Nat} {a : Option Addr} {n c : Nat} {l : List En} (h : w.ownsRow base 36 5 (.slice a n c) n (enR l)) {a2 : Option Addr} {m c2 : Nat} {k : List En} (h2 : Ew w a2 m c2 k) (hN : n + m ≤ 1000000) (hb : base ≤ w.heap.size) :
    ∃ a' c' w', (∀ ty, (Builtin.append_ #[22, 22] ty #[.slice a n c, .slice a2 m c2]).run Tryd.prog w = .ok (.slice a' (n + m) c') w') ∧ w'.ownsRow base 36 5 (.slice a' (n + m) c') (n + m) (enR (l ++ k)) ∧ w.grownBy w' (ob a) ∧ (ob a' = ob a ∨ ob a' = some w.heap.size) := by
  obtain ⟨i, hi, hz, hs, hbb⟩ := info_of infoEn
  rw [enR_app]
  exact app_own w 22 36 i _ 5 48 Tryd.underlying22 hi hz hs hbb rfl (by omega) h h2 (enR_one k) hN (by omega) hb
theorem Ew.own {w : World} {base : Nat} {a : Option Addr} {n c : Nat} {l : List En} (h : w.ownsRow base 36 5 (.slice a n c) n (enR l)) : Ew w a n c l := Rw.own h (fun _ _ => trivial)
theorem enRow {w : World} {b : Nat} {p : En} (h : w.heap[b]? = some (.cells #[.int .i64 p.seq, .int .i64 p.time, .int .i64 p.kind, .string p.path, .int .i64 p.errno] 36 (0, 0))) : Ew w (some ⟨b, 0, none⟩) 1 1 [p] := by
  refine ⟨rfl, Nat.le_refl _, by unfold maxLen; omega, fun _ => ⟨b, 0, rfl, lt_of_some h, trivial, fun j u hu => ?_⟩⟩
  rw [Nat.zero_add, cell_of_row _ b _ _ _ _ h]
  simpa [enR, enC] using hu
theorem box_en {w : World} (q u k : Int) (p : ByteArray) (r : Int) : ∃ W1, w.alloc (.cells #[.int .i64 q, .int .i64 u, .int .i64 k, .string p, .int .i64 r] 36) = W1 ∧ W1.heap[w.heap.size]? = some (.cells #[.int .i64 q, .int .i64 u, .int .i64 k, .string p, .int .i64 r] 36 (0, 0)) ∧ Below w.heap.size w W1 := ⟨_, rfl, heap_alloc_new w _, (Below.refl _ w).alloc (Nat.le_refl _) _⟩
/-- An audit boxed, as the type t has it. -/
theorem box_au (t : TypeId) {w : World} (k : ByteArray) (n : Int) (a : Option Addr) (ln cp : Nat) : ∃ W1, w.alloc (.cells #[.string k, .int .i64 n, .slice a ln cp] t) = W1 ∧ W1.heap[w.heap.size]? = some (.cells #[.string k, .int .i64 n, .slice a ln cp] t (0, 0)) ∧ Below w.heap.size w W1 := ⟨_, rfl, heap_alloc_new w _, (Below.refl _ w).alloc (Nat.le_refl _) _⟩
theorem row5 {W : World} {g : Nat} {a b c d e : Value} {t : TypeId} (h : W.heap[g]? = some (.cells #[a, b, c, d, e] t (0, 0))) : W.cell? ⟨g, 0, none⟩ = some a ∧ W.cell? ⟨g, 1, none⟩ = some b ∧ W.cell? ⟨g, 2, none⟩ = some c ∧ W.cell? ⟨g, 3, none⟩ = some d ∧ W.cell? ⟨g, 4, none⟩ = some e ∧ ∀ i, W.frozen? ⟨g, i, none⟩ = false :=
  ⟨by rw [cell_of_row _ _ _ _ _ _ h]; rfl, by rw [cell_of_row _ _ _ _ _ _ h]; rfl, by rw [cell_of_row _ _ _ _ _ _ h]; rfl, by rw [cell_of_row _ _ _ _ _ _ h]; rfl, by rw [cell_of_row _ _ _ _ _ _ h]; rfl, fun i => frozen_of_row W g i _ _ h⟩
theorem row3 {W : World} {g : Nat} {a b c : Value} {t : TypeId} (h : W.heap[g]? = some (.cells #[a, b, c] t (0, 0))) : W.cell? ⟨g, 0, none⟩ = some a ∧ W.cell? ⟨g, 1, none⟩ = some b ∧ W.cell? ⟨g, 2, none⟩ = some c ∧ ∀ i, W.frozen? ⟨g, i, none⟩ = false :=
  ⟨by rw [cell_of_row _ _ _ _ _ _ h]; rfl, by rw [cell_of_row _ _ _ _ _ _ h]; rfl, by rw [cell_of_row _ _ _ _ _ _ h]; rfl, fun i => frozen_of_row W g i _ _ h⟩
theorem eqin_en (a b : En) (w : World) : (Op.equalIn 10000 36 (.agg #[.int .i64 a.seq, .int .i64 a.time, .int .i64 a.kind, .string a.path, .int .i64 a.errno]) (.agg #[.int .i64 b.seq, .int .i64 b.time, .int .i64 b.kind, .string b.path, .int .i64 b.errno])).run Tryd.prog w = .ok (decide (a = b)) w := by
  obtain ⟨a1, a2, a3, a4, a5⟩ := a
  obtain ⟨b1, b2, b3, b4, b5⟩ := b
  have u9 := Tryd.underlying9
  have g9 := Tryd.isAgg9
  have z9 := Tryd.sizeOf9
  have u3 := Tryd.underlying3
  have g3 := Tryd.isAgg3
  have z3 := Tryd.sizeOf3
  have u4 := Tryd.underlying34
  have g4 := Tryd.isAgg34
  have z4 := Tryd.sizeOf34
  have hS : Tryd.prog.underlying 36 = some (.struct (Tryd.prog.fieldsOf 36)) := by kernel_rfl
  have hp : Tryd.prog.stoodInHeld 36 = false := by kernel_rfl
  rw [show (10000 : Nat) = 9999 + 1 from rfl, run_equalIn_agg w 9999 36 _ _ hS hp]
  simp only [Program.fieldsOf, Tryd.underlying36]
  go_simp
  by_cases h1 : a1 = b1
  · subst h1
    by_cases h2 : a2 = b2
    · subst h2
      by_cases h3 : a3 = b3
      · subst h3
        by_cases h4 : a4 = b4
        · subst h4
          by_cases h5 : a5 = b5
          · subst h5; simp
          · simp [h5]
        · have := str_ne h4
          simp [h4, this]
      · simp [h3]
    · simp [h2]
  · simp [h1]
theorem putS_str (n : Nat) : putS n = strOf (putN n) := rfl
theorem rput_st (n : Nat) (w : World) (hn : n < 18446744073709551616) : Calls Tryd.prog 38 #[.int .u64 (n : Int)] w fun e w' => StTo w (putN n) e w' := (rput_ex n w hn).mono fun _ _ h => h
theorem rtext_st (s : ByteArray) (w : World) (hs : s.size ≤ 100000) : Calls Tryd.prog 39 #[.string s] w fun e w' => StTo w (textN s.data.toList) e w' := rtext_any s w hs
theorem textN_len {l : List UInt8} (h : l.length ≤ 100000) : (textN l).length ≤ l.length + 10 := by
  have := putN_le10 l.length (by omega)
  unfold textN
  rw [List.length_append]
  omega
end Go.Proofs.YtkhidkilkbmpoaaDoor
namespace Go.Proofs.YtkhidkilkbmpoaaDoor
open Go.RowKit
theorem wpAnyH_strengthen {P : Program} {ops : Array Oper} {Q : Exit → Act → World → Prop} {md : Region.Mode} {S S' : World → Prop} (h : ∀ w, S' w → S w) :
    ∀ {fuel : Nat} {listed : Array Bool} {a : Act} {w : World}, wpAnyH P md ops Q S' fuel listed a w → wpAnyH P md ops Q S fuel listed a w
  | 0, _, _, _, hw => hw
  | _ + 1, _, _, _, hw => ⟨hw.1, fun i hi => wpOp_mono (fun _ _ h' => ⟨h _ h'.1, wpAnyH_strengthen h h'.2⟩) (hw.2 i hi)⟩
theorem sslice_to (O : ByteArray) (p : Nat) (h : p ≤ O.size) (W : World) : (Instr.sliceAt 9 (.string O) none (some (.int .i64 (p : Int))) none).run Tryd.prog W = .ok (.string (O.extract 0 p)) W := by
  simp [Instr.sliceAt, Instr.slice, run_underlying Tryd.underlying9, Instr.sliceBounds, Instr.sliceBound, asIntOf, h]
theorem sslice_from (O : ByteArray) (p : Nat) (h : p ≤ O.size) (W : World) : (Instr.sliceAt 9 (.string O) (some (.int .i64 (p : Int))) none none).run Tryd.prog W = .ok (.string (O.extract p O.size)) W := by
  simp [Instr.sliceAt, Instr.slice, run_underlying Tryd.underlying9, Instr.sliceBounds, Instr.sliceBound, asIntOf, h]
theorem strOf_from (l : List UInt8) (n : Nat) : (strOf l).extract n (strOf l).size = strOf (l.drop n) := by
  apply ByteArray.ext
  simp [strOf, ByteArray.extract, ByteArray.copySlice, List.extract, ByteArray.size]
  exact List.take_of_length_le (by simp)
end Go.Proofs.YtkhidkilkbmpoaaDoor
