/- A table that stays as it is, as the statements ask it. -/
import Derived.Test.YtnafalkcgghjgaaGreatDoorTA
import Derived.Test.YtnafalkcgghjgaaGreatDoorTE
namespace Go.Proofs.YtnafalkcgghjgaaGreatDoor
open Go.ChangeShapes Go.WideShapes Go.ChangeAt Go.RowKit Go.Shelf
/-- A table with these leaves, beside what was there ahead. -/
def Kp (w0 V : World) (S : Nat → Prop) (g : Nat) (D : Dk) (sb jb n : Nat) (L KK : List Mf) : Prop := (∃ F, Tab w0.heap.size F V S g D sb jb n L KK) ∧ Below w0.heap.size w0 V
theorem Kp.below {w0 V V' : World} {S : Nat → Prop} {g : Nat} {D : Dk} {sb jb n : Nat} {L KK : List Mf} (h : Kp w0 V S g D sb jb n L KK) (hb : Below V.heap.size V V') : Kp w0 V' S g D sb jb n L KK := by
  obtain ⟨⟨F, ht⟩, h0⟩ := h
  exact ⟨⟨_, ht.below hb⟩, h0.trans (hb.mono h0.size)⟩
theorem Kp.drewN {w0 V : World} {S : Nat → Prop} {g : Nat} {D : Dk} {sb jb n : Nat} {L KK : List Mf} (h : Kp w0 V S g D sb jb n L KK) (m : Nat) : Kp w0 (V.drewN m) S g D sb jb n L KK := h.below (below_drewN (Below.refl _ _) m)
theorem Kp.drew {w0 V : World} {S : Nat → Prop} {g : Nat} {D : Dk} {sb jb n : Nat} {L KK : List Mf} (h : Kp w0 V S g D sb jb n L KK) : Kp w0 V.drew S g D sb jb n L KK := h.below (Below.refl _ _).drew
theorem Kp.shape {w0 V : World} {S : Nat → Prop} {g : Nat} {D : Dk} {sb jb n : Nat} {L KK : List Mf} (h : Kp w0 V S g D sb jb n L KK) : Shape n (lfs L) := by
  obtain ⟨⟨F, ht⟩, _⟩ := h
  exact ht.shL
theorem Kp.total {w0 V : World} {S : Nat → Prop} {g : Nat} {D : Dk} {sb jb n : Nat} {L KK : List Mf} (h : Kp w0 V S g D sb jb n L KK) : szL (flat (lfs L)) ≤ 20000 ∧ (flat (lfs L)).length ≤ 20000 := by
  obtain ⟨⟨F, ht⟩, _⟩ := h
  exact ht.total
theorem own_pw {w : World} {base : Nat} {a : Option Addr} {n c : Nat} {l : List Pr} (h : w.ownsRow base 63 2 (.slice a n c) n (prV l)) : Pw (fun _ => True) w a n c l := Rw.own h (fun _ _ => trivial)
theorem kp_range {w0 V : World} {S : Nat → Prop} {g : Nat} {D : Dk} {sb jb n : Nat} {L KK : List Mf} (h : Kp w0 V S g D sb jb n L KK) {T : List Pr} (hT : flat (lfs L) = T) (f t : ByteArray) (mo : Int) :
    Calls Tryz.prog 18 #[.pointer (some ⟨sb, 0, none⟩), .string f, .string t, .int .i64 mo] V fun e w' => ∃ (ra : Option Addr) (rn rc : Nat), e = .returned (.slice ra rn rc) ∧ Pw (fun _ => True) w' ra rn rc (rangeT T f t mo) ∧ rn ≤ 20000 ∧ Kp w0 w' S g D sb jb n L KK ∧ Below V.heap.size V w' := by
  obtain ⟨⟨F, ht⟩, h0⟩ := id h
  refine (range_any ht f t mo).mono ?_
  rintro e w' ⟨ra, rn, rc, rfl, ho, hb⟩
  rw [hT] at ho
  refine ⟨ra, rn, rc, rfl, own_pw ho, ?_, h.below hb, hb⟩
  have h1 := (own_pw ho).len
  have h2 := ht.total.2
  rw [hT] at h2
  rw [← h1, range_mid, List.length_take]
  have := mid_len T f t
  omega
theorem kp_get {w0 V : World} {S : Nat → Prop} {g : Nat} {D : Dk} {sb jb n : Nat} {L KK : List Mf} (h : Kp w0 V S g D sb jb n L KK) {T : List Pr} (hT : flat (lfs L) = T) (k : ByteArray) :
    Calls Tryz.prog 15 #[.pointer (some ⟨sb, 0, none⟩), .string k] V fun e w' => e = .returned (.tuple #[.string ((getT T k).getD ByteArray.empty), .bool (isT T k)]) ∧ Kp w0 w' S g D sb jb n L KK ∧ Below V.heap.size V w' := by
  obtain ⟨⟨F, ht⟩, h0⟩ := id h
  refine (get_any ht k).mono ?_
  rintro e w' ⟨rfl, hb⟩
  rw [hT]
  exact ⟨rfl, h.below hb, hb⟩
theorem cells9 : Tryz.prog.cellsOf 9 = 1 := by kernel_rfl
set_option maxRecDepth 100000 in
theorem strs3_of {H : Type} {enc : TypeId × Value → H} {W : World} {b0 base : Nat} {spare : Nat → Bool} {held : Bool} {v : Value} {d : DataW H} {p : List MemPlace} {ts : List TypeId} {ds : List (DataW H)} {j : Nat} (hv : Value.okWide Tryz.prog W .any b0 61 v) (h : DataW.Trod enc Tryz.prog W base spare held 61 v d p)
    (hsz : (DataW.weightsEach Tryz.prog ts ds).all (· ≤ reachBytes) = true) (ht : ts[j]? = some 61) (hd : ds[j]? = some d) :
    ∃ x y z : ByteArray, v = .agg #[.string x, .string y, .string z] ∧ x.size ≤ 140737488351232 ∧ y.size ≤ 140737488351232 ∧ z.size ≤ 140737488351232 := by
  unfold Value.okWide at hv
  rw [Tryz.underlying61] at hv
  obtain ⟨cs, rfl, hz, _⟩ := hv
  rw [show Tryz.prog.cellsOf 61 = 3 by kernel_rfl] at hz
  obtain ⟨c0, c1, c2, rfl⟩ : ∃ c0 c1 c2, cs = #[c0, c1, c2] := by
    obtain ⟨l⟩ := cs
    match l, hz with
    | [c0, c1, c2], _ => exact ⟨c0, c1, c2, rfl⟩
  obtain ⟨fuel, hf⟩ := h
  obtain ⟨ys, m, _, hx, _, hl, hy⟩ := DataW.trod_array Tryz.underlying61 hf
  have h0 := hy 0 (by omega)
  have h1 := hy 1 (by omega)
  have h2 := hy 2 (by omega)
  rw [cells9] at h0 h1 h2
  rw [List.getElem?_eq_getElem (by omega)] at h0 h1 h2
  obtain ⟨x, e0, f0, w0⟩ := DataW.trod_string Tryz.underlying9 (cs := [c0]) (by simpa [Value.cells] using h0)
  obtain ⟨y, e1, f1, w1⟩ := DataW.trod_string Tryz.underlying9 (cs := [c1]) (by simpa [Value.cells] using h1)
  obtain ⟨z, e2, f2, w2⟩ := DataW.trod_string Tryz.underlying9 (cs := [c2]) (by simpa [Value.cells] using h2)
  simp only [List.cons.injEq, and_true] at e0 e1 e2
  simp only [Prod.mk.injEq] at hx
  obtain ⟨rfl, _⟩ := hx
  have key : ∀ (i : Nat) (hi : i < ys.length) (s : ByteArray), ys[i] = (.lit (.string s.data.toList), []) → s.size ≤ 140737488351232 := by
    intro i hi s hs
    have hmem : (DataW.lit (.string s.data.toList) : DataW H) ∈ ys.map (·.1) := List.mem_map.2 ⟨ys[i], List.getElem_mem hi, by rw [hs]⟩
    have hw := List.all_eq_true.1 hsz s.data.toList.length (DataW.weights_mem_each ht hd _ (by
      simp only [DataW.weights, Tryz.underlying61]
      exact mem_weightsAll hmem _ (by simp [DataW.weights])))
    have := of_decide_eq_true hw
    simpa [reachBytes] using this
  exact ⟨x, y, z, by rw [e0, e1, e2], key 0 (by omega) x f0, key 1 (by omega) y f1, key 2 (by omega) z f2⟩
end Go.Proofs.YtnafalkcgghjgaaGreatDoor
