/- Slices of strings cut in two; chains over both. -/
import Derived.Test.YtdchaecfinfomaaDoorEC
import Derived.Test.YtdchaecfinfomaaDoorDA
namespace Go.Proofs.YtdchaecfinfomaaDoor
open Go.RowKit
theorem add_none (p : Addr) : p.add 0 = p := by
  obtain ⟨b, o, s⟩ := p
  unfold Addr.add
  split <;> simp_all
theorem ss_to {w : World} {a : Option Addr} {len cap : Nat} {ss : List ByteArray} (h : Ss w a len cap ss) (n : Nat) (hn : n ≤ len) (W : World) :
    (Instr.sliceAt 23 (.slice a len cap) none (some (.int .i64 (n : Int))) none).run Tryd.prog W = .ok (.slice a n cap) W := by
  have h1 : (sizeOf 9).run Tryd.prog W = .ok 1 W := by kernel_rfl
  have hc : n ≤ cap := Nat.le_trans hn h.2.1
  cases a with
  | none =>
    have hcap : cap = 0 := h.2.2.2.1 rfl
    subst hcap
    obtain rfl : n = 0 := by omega
    simp [Instr.sliceAt, Instr.slice, run_underlying Tryd.underlying23, Instr.sliceBounds, Instr.sliceBound, asIntOf, h1]
  | some p => simp [Instr.sliceAt, Instr.slice, run_underlying Tryd.underlying23, Instr.sliceBounds, Instr.sliceBound, asIntOf, h1, hc, add_none]
theorem ss_from {w : World} {a : Option Addr} {len cap : Nat} {ss : List ByteArray} (h : Ss w a len cap ss) (n : Nat) (hn : n ≤ len) :
    ∃ a2, (∀ W : World, (Instr.sliceAt 23 (.slice a len cap) (some (.int .i64 (n : Int))) none none).run Tryd.prog W = .ok (.slice a2 (len - n) (cap - n)) W) ∧ Ss w a2 (len - n) (cap - n) (ss.drop n) := by
  obtain ⟨g1, g2, g3, g4, g5⟩ := h
  cases a with
  | none =>
    have hcap : cap = 0 := g4 rfl
    subst hcap
    obtain rfl : len = 0 := by omega
    obtain rfl : n = 0 := by omega
    refine ⟨none, fun W => ?_, by simpa using g1, by omega, by omega, fun _ => rfl, by intro ad e; cases e⟩
    have h1 : (sizeOf 9).run Tryd.prog W = .ok 1 W := by kernel_rfl
    simp [Instr.sliceAt, Instr.slice, run_underlying Tryd.underlying23, Instr.sliceBounds, Instr.sliceBound, asIntOf, h1]
  | some p =>
    refine ⟨if cap = n then some p else some (p.add n), fun W => ?_, by rw [List.length_drop]; omega, by omega, by omega, fun e => (by split at e <;> cases e), fun ad had i hi => ?_⟩
    · have h1 : (sizeOf 9).run Tryd.prog W = .ok 1 W := by kernel_rfl
      simp [Instr.sliceAt, Instr.slice, run_underlying Tryd.underlying23, Instr.sliceBounds, Instr.sliceBound, asIntOf, h1, hn]
    · rw [List.length_drop] at hi
      have hne : ¬ cap = n := by omega
      rw [if_neg hne] at had
      cases had
      have := g5 p rfl (n + i) (by omega)
      rw [List.getElem_drop, ← this]
      congr 1
      obtain ⟨b, o, s⟩ := p
      have hs : s = none := by
        have h0 := g5 _ rfl 0 (by omega)
        simpa [Addr.add] using World.cell?_spot h0
      subst hs
      rw [add_at, add_at, add_at, Nat.add_assoc]
theorem chainS_cut (k : List UInt8) (ps : List ByteArray) (n : Nat) : chainS (chainS k (ps.take n)) (ps.drop n) = chainS k ps := by
  unfold chainS
  rw [← List.foldl_append, List.take_append_drop]
end Go.Proofs.YtdchaecfinfomaaDoor
