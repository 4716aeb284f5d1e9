/- Walks over a Disk's stands, and over what picks the writes. -/
import Derived.Test.YtnafalkcgghjgaaGreatDoorC
namespace Go.Proofs.YtnafalkcgghjgaaGreatDoor
open Go.RowKit
/-- What a walk is told of a slice of bools. -/
def Bls (w : World) (a : Option Addr) (len cap : Nat) (bs : List Bool) : Prop :=
  bs.length = len ∧ len ≤ cap ∧ cap ≤ 9223372036854775807 ∧ (0 < len → ∃ b o, a = some ⟨b, o, none⟩ ∧ ∀ i (h : i < bs.length), w.cell? ⟨b, o + i, none⟩ = some (.bool bs[i]))
theorem Bls.nil (w : World) : Bls w none 0 0 [] := ⟨rfl, by omega, by omega, by omega⟩
/-- Who is picked. -/
def pickOf (bs : List Bool) : Nat → Bool := fun i => bs.getD i false
theorem Bls.keep {w w' : World} {a : Option Addr} {len cap : Nat} {bs : List Bool} (h : Bls w a len cap bs) (hk : ∀ x, ob a = some x → x < w.heap.size → w'.heap[x]? = w.heap[x]?) : Bls w' a len cap bs := by
  obtain ⟨h1, h2, h3, h4⟩ := h
  refine ⟨h1, h2, h3, fun h0 => ?_⟩
  obtain ⟨b, o, rfl, hc⟩ := h4 h0
  refine ⟨b, o, rfl, fun i hi => ?_⟩
  have := hc i hi
  rw [World.cell?_of_block (w := w) (hk b rfl (World.block_lt_of_cell? w _ this))]
  exact this
theorem Bls.below {w w' : World} {a : Option Addr} {len cap : Nat} {bs : List Bool} (h : Bls w a len cap bs) (hb : Below w.heap.size w w') : Bls w' a len cap bs := h.keep fun x _ hx => hb.block x hx
theorem Bls.lt {w : World} {a : Option Addr} {len cap : Nat} {bs : List Bool} (h : Bls w a len cap bs) (h0 : 0 < len) : ∀ x, ob a = some x → x < w.heap.size := by
  obtain ⟨h1, h2, h3, h4⟩ := h
  obtain ⟨b, o, rfl, hc⟩ := h4 h0
  rintro x hx
  cases hx
  exact World.block_lt_of_cell? w _ (hc 0 (by omega))
set_option maxHeartbeats 400000 in
theorem all_any (i : Int) (w : World) : Calls Tryz.prog 106 #[.int .i64 i] w fun e w' => e = .returned (.bool true) ∧ w' = w := by
  go_enter Tryz.func106, Tryz.ntmps106
  go_wp2
  go_ret
  exact ⟨rfl, rfl⟩
set_option maxHeartbeats 400000 in
theorem pick_any (i : Nat) (B : Nat) (a : Option Addr) (len cap : Nat) (bs : List Bool) (w : World) (hB : w.cell? ⟨B, 0, none⟩ = some (.slice a len cap)) (h : Bls w a len cap bs) :
    Calls Tryz.prog 47 #[.int .i64 (i : Int), .pointer (some ⟨B, 0, none⟩)] w fun e w' => e = .returned (.bool (pickOf bs i)) ∧ w' = w := by
  obtain ⟨h1, h2, h3, h4⟩ := h
  unfold pickOf
  by_cases hi : i < len
  · obtain ⟨b, o, rfl, hc⟩ := h4 (by omega)
    have c1 := hc i (by omega)
    have e : bs.getD i false = bs[i] := by rw [List.getD_eq_getElem?_getD, List.getElem?_eq_getElem (by omega)]; rfl
    rw [e]
    generalize bs[i] = x at *
    have k1 : (i : Int) < (len : Int) := by omega
    clear hc h4 e
    go_enter Tryz.func47, Tryz.ntmps47
    go_wp2
    go_ret
    exact ⟨rfl, rfl⟩
  · have e : bs.getD i false = false := by rw [List.getD_eq_getElem?_getD, List.getElem?_eq_none (by omega)]; rfl
    rw [e]
    have k1 : ¬ (i : Int) < (len : Int) := by omega
    clear h4 e
    go_enter Tryz.func47, Tryz.ntmps47
    go_wp2
    go_ret
    exact ⟨rfl, rfl⟩
set_option maxHeartbeats 400000 in
theorem stands_any (g kb kc n i : Nat) (t : ByteArray) (w : World) (c0 : w.cell? ⟨g, 0, none⟩ = some (.slice (some ⟨kb, 0, none⟩) n kc)) (ci : w.cell? ⟨kb, i, none⟩ = some (.string t)) (hi : i < n) :
    Calls Tryz.prog 76 #[.pointer (some ⟨g, 0, none⟩), .int .i64 (i : Int)] w fun e w' => e = .returned (.agg #[.int .i64 (i : Int), .string t]) ∧ Below w.heap.size w w' := by
  have k1 : (i : Int) < (n : Int) := by omega
  have b1 : g < w.heap.size := World.block_lt_of_cell? w _ c0
  have b2 : kb < w.heap.size := World.block_lt_of_cell? w _ ci
  have n1 : g ≠ w.heap.size := by omega
  have n2 : kb ≠ w.heap.size := by omega
  go_enter Tryz.func76, Tryz.ntmps76
  go_wp2
  refine bodyPost_ret (v := .agg #[.int .i64 (i : Int), .string t]) ?_ rfl ⟨rfl, ?_⟩
  · simp [results, go_sem]
  · first | exact (Below.refl _ w).alloc (Nat.le_refl _) _ | trace_state
end Go.Proofs.YtnafalkcgghjgaaGreatDoor
