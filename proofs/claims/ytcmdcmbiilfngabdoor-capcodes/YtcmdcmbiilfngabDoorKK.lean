/- Walks over Meet. -/
import Derived.Test.YtcmdcmbiilfngabDoorKJ
namespace Go.Proofs.YtcmdcmbiilfngabDoor
open Go.RowKit
open Pt (placeL coversL meetL)
theorem and_both_fin : ∀ a b : Fin 8, bits BinOp.and IntKind.i64 (a.val : Int) (b.val : Int) = bothR (a.val : Int) (b.val : Int) := by decide +kernel
theorem and_both {a b : Int} (ha : 0 ≤ a ∧ a ≤ 7) (hb : 0 ≤ b ∧ b ≤ 7) : bits BinOp.and IntKind.i64 a b = bothR a b := by
  obtain ⟨n, rfl⟩ : ∃ n : Nat, a = (n : Int) := ⟨a.toNat, by omega⟩
  obtain ⟨m, rfl⟩ : ∃ m : Nat, b = (m : Int) := ⟨b.toNat, by omega⟩
  exact and_both_fin ⟨n, by omega⟩ ⟨m, by omega⟩
/-- A caveat and a word of yes or no that are handed on. -/
def MtTo (w : World) (r : Cv × Bool) (e : Ending) (w' : World) : Prop := e = .returned (.tuple #[.agg #[.string r.1.path, .int .i64 r.1.rights, .int .i64 r.1.til], .bool r.2]) ∧ Below w.heap.size w w'
theorem res_cv {fn : Func} {p q : Tmp} (h : fn.results = #[.cell p 39, .tmp q]) (tmps : Array Value) (w : World) (g : Nat) (cs : Array Value) (hp : tmps.getD p undef = .pointer (some ⟨g, 0, none⟩)) (hg : w.heap[g]? = some (.cells cs 39 (0, 0))) (hi : (Tryd.prog.info? 39).map (·.size) = some cs.size) :
    (results fn tmps).run Tryd.prog w = .ok (.tuple #[.agg cs, tmps.getD q undef]) w := by
  have hp' : tmps[p]?.getD undef = .pointer (some ⟨g, 0, none⟩) := by simpa using hp
  have hl := run_loadVar_row (P := Tryd.prog) w g 39 39 cs (0, 0) _ hg Tryd.underlying39 rfl hi
  simp [results, h, hp', asAddr, hl]
theorem set3 {U : World} {g : Nat} {a b c : Value} {t : TypeId} (h : U.heap[g]? = some (.cells #[a, b, c] t (0, 0))) (x0 x1 x2 : Value) : (((U.setCell ⟨g, 0, none⟩ x0).setCell ⟨g, 1, none⟩ x1).setCell ⟨g, 2, none⟩ x2).heap[g]? = some (.cells #[x0, x1, x2] t (0, 0)) := by
  have h1 : (U.setCell ⟨g, 0, none⟩ x0).heap[g]? = some (.cells #[x0, b, c] t (0, 0)) := by rw [heap_setCell_same _ _ _ _ _ _ h]; rfl
  have h2 : ((U.setCell ⟨g, 0, none⟩ x0).setCell ⟨g, 1, none⟩ x1).heap[g]? = some (.cells #[x0, x1, c] t (0, 0)) := by rw [heap_setCell_same _ _ _ _ _ _ h1]; rfl
  rw [heap_setCell_same _ _ _ _ _ _ h2]
  rfl
theorem below3s {B rb : Nat} {w V : World} (h : Below B w V) (hr : B ≤ rb) (x0 x1 x2 : Value) : Below B w (((V.setCell ⟨rb, 0, none⟩ x0).setCell ⟨rb, 1, none⟩ x1).setCell ⟨rb, 2, none⟩ x2) := ((h.setCell hr _).setCell hr _).setCell hr _
theorem other3s {rb j : Nat} {V : World} (h : j ≠ rb) (x0 x1 x2 : Value) : (((V.setCell ⟨rb, 0, none⟩ x0).setCell ⟨rb, 1, none⟩ x1).setCell ⟨rb, 2, none⟩ x2).heap[j]? = V.heap[j]? := by
  rw [heap_setCell_other _ _ _ _ h, heap_setCell_other _ _ _ _ h, heap_setCell_other _ _ _ _ h]
theorem meetT_none {t : Tk} (h : mayT t = false) : meetT t = (zeroC, false) := by unfold meetT; rw [if_neg (by rw [h]; decide)]
theorem meetT_no {t : Tk} (h : mayT t = true) (h2 : meetF t.cavs = none) : meetT t = (zeroC, false) := by unfold meetT; rw [if_pos h, h2]
theorem meetT_yes {t : Tk} {m : Cv} (h : mayT t = true) (h2 : meetF t.cavs = some m) : meetT t = (m, true) := by unfold meetT; rw [if_pos h, h2]
theorem meetF_take {l : List Cv} {i : Nat} {m c : Cv} (hi : l[i]? = some c) (h : meetF (l.take i) = some m) : meetF (l.take (i + 1)) = meetC m c := by rw [take_snocK hi, meetF_snoc, h]; rfl
theorem meetF_stop {l : List Cv} (i : Nat) (h : meetF (l.take i) = none) : meetF l = none := by
  have := meetF_none (l.drop i) (l.take i) h
  rwa [List.take_append_drop] at this
end Go.Proofs.YtcmdcmbiilfngabDoor
