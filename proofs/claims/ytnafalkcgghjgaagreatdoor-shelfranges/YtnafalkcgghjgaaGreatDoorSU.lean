/- Steps that came in are in the reach. -/
import Derived.Test.YtnafalkcgghjgaaGreatDoorSS
namespace Go.Proofs.YtnafalkcgghjgaaGreatDoor
open Go.ChangeShapes Go.WideShapes Go.ChangeAt Go.RowKit Go.Deep Go.Shelf
set_option maxRecDepth 100000 in
theorem ops_len {H : Type} {enc : TypeId × Value → H} {W : World} {base : Nat} {spare : Nat → Bool} {held : Bool} {fuel : Nat} {a : Option Addr} {len cap : Nat} {x : DataW H × List MemPlace}
    (hf : DataW.trod enc Tryz.prog W base spare held fuel 22 [.slice a len cap] = some x) (hw : ∀ n ∈ x.1.weights Tryz.prog 22, n ≤ reachBytes) : len ≤ 140737488351232 := by
  rcases open_slice Tryz.underlying22 hf with ⟨hcs, _⟩ | ⟨ad, l, c, m, n, D, Pl, hcs, _, hl, hm, hmm, hx, hV⟩
  · simp only [List.cons.injEq, Value.slice.injEq, and_true] at hcs
    obtain ⟨rfl, rfl, rfl⟩ := hcs
    omega
  · simp only [List.cons.injEq, Value.slice.injEq, and_true] at hcs
    obtain ⟨rfl, rfl, rfl⟩ := hcs
    subst hx
    have h := hw ((((List.range len).map D).length + ((List.range (m - len)).map fun j => D (len + j)).length) * Tryz.prog.bytesOf 31) (by
      simp only [DataW.weights, Tryz.underlying22, List.mem_cons, List.mem_append, true_or])
    rw [show Tryz.prog.bytesOf 31 = 72 by kernel_rfl] at h
    simp [reachBytes] at h
    omega
theorem ops_in {H : Type} {enc : TypeId × Value → H} {W : World} {base : Nat} {spare : Nat → Bool} {held : Bool} {fuel : Nat} {a : Option Addr} {len cap : Nat} {d : DataW H} {p : List MemPlace} {ts : List TypeId} {ds : List (DataW H)} {j : Nat}
    (hf : DataW.trod enc Tryz.prog W base spare held fuel 22 [.slice a len cap] = some (d, p)) (hsz : (DataW.weightsEach Tryz.prog ts ds).all (· ≤ reachBytes) = true) (ht : ts[j]? = some 22) (hd : ds[j]? = some d) : ∃ l, Os W a len cap l ∧ len ≤ 140737488351232 := by
  have hw : ∀ n ∈ d.weights Tryz.prog 22, n ≤ reachBytes := fun n hn => by
    have := List.all_eq_true.1 hsz n (DataW.weights_mem_each ht hd n hn)
    simpa using this
  obtain ⟨l, hl⟩ := ops_of hf hw
  exact ⟨l, hl, ops_len hf hw⟩
theorem Os.cells {w : World} {a : Option Addr} {len cap : Nat} {l : List OV} (h : Os w a len cap l) {i : Nat} (hi : i < len) : ∃ b o, ∃ x : OV, a = some ⟨b, o, none⟩ ∧ b < w.heap.size ∧ x.In ∧ ∀ V, Below w.heap.size w V →
    V.cell? ⟨b, o + i * 6, none⟩ = some (.int .i64 x.kind) ∧ V.cell? ⟨b, o + i * 6 + 1, none⟩ = some (.int .i64 x.n) ∧ V.cell? ⟨b, o + i * 6 + 2, none⟩ = some (.int .i64 x.long) ∧
      V.cell? ⟨b, o + i * 6 + 3, none⟩ = some (.string x.key) ∧ V.cell? ⟨b, o + i * 6 + 4, none⟩ = some (.string x.til) ∧ V.cell? ⟨b, o + i * 6 + 5, none⟩ = some (.string x.value) := by
  obtain ⟨h1, _, _, h4⟩ := h
  obtain ⟨b, o, rfl, hbl, hc⟩ := h4 (by omega)
  obtain ⟨d0, d1, d2, d3, d4, d5, d6⟩ := hc i (by omega)
  refine ⟨b, o, l[i], rfl, hbl, d6, fun V hV => ?_⟩
  exact ⟨by rw [hV.cell hbl]; exact d0, by rw [hV.cell hbl]; exact d1, by rw [hV.cell hbl]; exact d2, by rw [hV.cell hbl]; exact d3, by rw [hV.cell hbl]; exact d4, by rw [hV.cell hbl]; exact d5⟩
theorem room_eq (T : List Pr) (k v : ByteArray) : (if isT T k then (szL T : Int) + 3 + (k.size : Int) + (v.size : Int) - 3 - (k.size : Int) - ((((getT T k).getD ByteArray.empty).size : Nat) : Int) else (szL T : Int) + 3 + (k.size : Int) + (v.size : Int)) = (szL (putT T k v) : Int) := by
  have h := sz_put T k v
  cases hi : isT T k
  · have hg : getT T k = none := by unfold getT; rw [hi]; rfl
    rw [hg] at h
    rw [if_neg (by simp)]
    simp only [eSz] at h
    omega
  · obtain ⟨u, hg⟩ : ∃ u, getT T k = some u := by
      unfold getT
      rw [hi, if_pos rfl]
      unfold isT hasK at hi
      cases hh : highT T k with
      | nil => rw [hh] at hi; cases hi
      | cons p r => exact ⟨_, rfl⟩
    rw [hg] at h ⊢
    rw [if_pos rfl]
    simp only [eSz, Option.getD_some] at h ⊢
    omega
theorem val_le (o : OV) (h : o.In) : o.val.size ≤ 140737488351232 := by
  unfold OV.val
  split
  · exact h.2.2.2.2.2
  · rename_i hl
    rw [strOf_size]
    simp
    omega
theorem get_le (T : List Pr) (k v : ByteArray) : ((getT T k).getD ByteArray.empty).size ≤ szL T + eSz (k, v) := by
  have h := sz_put T k v
  cases hg : getT T k with
  | none => simp
  | some u =>
    rw [hg] at h
    simp only [eSz, Option.getD_some] at h ⊢
    omega
end Go.Proofs.YtnafalkcgghjgaaGreatDoor
