/- The document's Sum: what it is, and its memory. -/
import Derived.Test.YtbflkkffpcaakabDoorP
namespace Go.Proofs.YtbflkkffpcaakabDoor
open Go.RowKit
/-- The square roots' words of the first eight primes. -/
def ivL : List Nat := (List.range 8).map fun i => rootW (primeN i) false
theorem ivL_len : ivL.length = 8 := by simp [ivL]
theorem ivL_snoc (n : Nat) (h : n < 8) : ivL.take (n + 1) = ivL.take n ++ [rootW (primeN n) false] := by
  rw [List.take_add_one]
  simp [ivL, List.getElem?_range h]
theorem ivL_wd : Wd ivL := by
  intro x hx
  obtain ⟨i, _, rfl⟩ := List.mem_map.1 hx
  exact rootW_lt _ _
/-- Of 64 bytes each the state, one behind the other. -/
def mixTo (l : List UInt8) : Nat → List Nat
  | 0 => ivL
  | j + 1 => mixL kL (mixTo l j) ((l.drop (64 * j)).take 64)
theorem mixL_eight (ks s : List Nat) (b : List UInt8) (hs : Eight s) : Eight (mixL ks s b) := by
  obtain ⟨a, b', c, d, e, f, g, h, rfl, hw⟩ := hs
  obtain ⟨a1, b1, c1, d1, e1, f1, g1, h1, he, hw1⟩ := rnds_eight ks (schedL (wordsOf b) 48) 64 _ ⟨a, b', c, d, e, f, g, h, rfl, hw⟩
  refine ⟨_, _, _, _, _, _, _, _, by unfold mixL; rw [he]; rfl, ?_⟩
  intro x hx
  simp only [List.mem_cons, List.not_mem_nil, or_false] at hx
  rcases hx with rfl | rfl | rfl | rfl | rfl | rfl | rfl | rfl <;> exact Nat.mod_lt _ (by omega)
theorem ivL_eight : Eight ivL := ⟨_, _, _, _, _, _, _, _, rfl, ivL_wd⟩
theorem mixTo_eight (l : List UInt8) (j : Nat) : Eight (mixTo l j) := by
  induction j with
  | zero => exact ivL_eight
  | succ j ih => exact mixL_eight _ _ _ ih
/-- The bytes with their padding; the digest. -/
def allL (l : List UInt8) : List UInt8 := l ++ padL l.length
def digest (l : List UInt8) : List UInt8 := (mixTo (allL l) ((allL l).length / 64)).flatMap (beN 4)
theorem padL_len (n : Nat) : (padL n).length = 1 + padZ n + 8 := by simp [padL, beN_len]; omega
theorem allL_len (l : List UInt8) : (allL l).length % 64 = 0 := by
  rw [allL, List.length_append, padL_len, padZ]; omega

/-- The memory of Sum: the roots' words and the state. -/
structure SumW (G : Nat) (w0 : World) (ss : List Nat) (wr : World) : Prop where
  kc : wr.heap[G]? = some (.cells (u32v kL) 74 (0, 0))
  sc : wr.heap[G + 1]? = some (.cells (u32v ss) 63 (0, 0))
  lo : w0.heap.size ≤ G
  bl : Below w0.heap.size w0 wr
section
variable {G : Nat} {w0 : World} {ss : List Nat} {wr w1 : World}
theorem lt_of_some {w : World} {g : Nat} {o : Obj} (h : w.heap[g]? = some o) : g < w.heap.size := by
  rcases Nat.lt_or_ge g w.heap.size with h1 | h1
  · exact h1
  · rw [Array.getElem?_eq_none h1] at h; cases h
theorem SumW.sz (h : SumW G w0 ss wr) : G + 2 ≤ wr.heap.size := lt_of_some h.sc
theorem SumW.drew (h : SumW G w0 ss wr) : SumW G w0 ss wr.drew := ⟨h.kc, h.sc, h.lo, h.bl.drew⟩
theorem SumW.on (h : SumW G w0 ss wr) (hb : Below wr.heap.size wr w1) : SumW G w0 ss w1 := by
  have := h.sz; have := h.lo
  exact ⟨by rw [hb.block G (by omega)]; exact h.kc, by rw [hb.block (G + 1) (by omega)]; exact h.sc, h.lo, h.bl.trans (hb.mono (by omega))⟩
theorem SumW.scell (h : SumW G w0 ss wr) (i : Nat) (hi : i < ss.length) : wr.cell? ⟨G + 1, i, none⟩ = some (.int .u32 ((ss.getD i 0 : Nat) : Int)) := by
  rw [cell_of_row wr (G + 1) i _ _ _ h.sc, u32v_get ss i hi]
theorem SumW.sfro (h : SumW G w0 ss wr) (i : Nat) : wr.frozen? ⟨G + 1, i, none⟩ = false := frozen_of_row wr (G + 1) i _ _ h.sc
theorem SumW.sput (h : SumW G w0 ss wr) (i x : Nat) : SumW G w0 (ss.set i x) (wr.setCell ⟨G + 1, i, none⟩ (.int .u32 (x : Int))) := by
  have := h.lo
  refine ⟨?_, ?_, h.lo, ?_⟩
  · rw [heap_setCell_other _ _ _ _ (by show G ≠ G + 1; omega)]; exact h.kc
  · rw [heap_setCell_same wr (G + 1) i _ _ _ h.sc, u32v_set]
  · exact h.bl.setCell (by show w0.heap.size ≤ G + 1; omega) _
end
theorem undrew {B : Nat} {w w' : World} (hb : Below B w.drew w') : Below B w w' := ⟨hb.os, hb.tape, hb.output, hb.size, hb.block⟩
/-- A whole row is loaded. -/
theorem yields_row {P : Program} {o : Oper} {a : Act} {w : World} (ty : TypeId) (x : Operand) (ho : o.op = .load ty x)
    (g : Nat) (hx : a.eval x = .pointer (some ⟨g, 0, none⟩)) (t : TypeId) (cs : Array Value) (fr : Nat × Nat) (d : TypeDesc) (hg : w.heap[g]? = some (.cells cs t fr))
    (hu : P.underlying ty = some d) (hd : (match d with | .struct _ | .array _ _ => true | _ => false) = true) (hi : (P.info? ty).map (·.size) = some cs.size) :
    (execOp a.eval o).run P w = .ok (.value (.agg cs)) w := by
  unfold execOp
  simp only [ho, hx, Instr.loadAt, Instr.sureAddr, Sem.run_bind, Sem.run_pure, Result.andThen_ok, run_loadVar_row w g t ty cs fr d hg hu hd hi]
theorem conv_four (W : World) (g c x0 x1 x2 x3 : Nat) (h0 : W.cell? ⟨g, 0, none⟩ = some (.int .u8 (x0 : Int))) (h1 : W.cell? ⟨g, 1, none⟩ = some (.int .u8 (x1 : Int))) (h2 : W.cell? ⟨g, 2, none⟩ = some (.int .u8 (x2 : Int))) (h3 : W.cell? ⟨g, 3, none⟩ = some (.int .u8 (x3 : Int))) :
    (convert 29 9 (.slice (some ⟨g, 0, none⟩) 4 c)).run Tryd.prog W = .ok (.string (strOf [UInt8.ofNat x0, UInt8.ofNat x1, UInt8.ofNat x2, UInt8.ofNat x3])) W := by
  have := run_convert_bytes_arg (P := Tryd.prog) W 29 5 Tryd.underlying29 Tryd.underlying5 g 0 4 c [(x0 : Int), x1, x2, x3] rfl (fun i hi => by
    match i, hi with
    | 0, _ => simpa using h0
    | 1, _ => simpa using h1
    | 2, _ => simpa using h2
    | 3, _ => simpa using h3) 9 Tryd.underlying9
  rw [this]; rfl
theorem beN_four (x : Nat) : beN 4 x = [UInt8.ofNat (x / 16777216 % 256), UInt8.ofNat (x / 65536 % 256), UInt8.ofNat (x / 256 % 256), UInt8.ofNat (x % 256)] := by
  simp [beN, Nat.div_div_eq_div_mul]
end Go.Proofs.YtbflkkffpcaakabDoor
