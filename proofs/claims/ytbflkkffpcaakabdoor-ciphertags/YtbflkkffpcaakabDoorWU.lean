/- The statements' right and short; arguments that came in. -/
import Derived.Test.YtbflkkffpcaakabDoorWT
namespace Go.Proofs.YtbflkkffpcaakabDoor
open Go.ChangeShapes Go.WideShapes Go.ChangeAt Go.RowKit
set_option maxRecDepth 100000 in
set_option maxHeartbeats 2000000 in
theorem short_any (ss : List ByteArray) (w : World) (h4 : ss.length = 4) :
    Calls Tryd.prog 4 #[.agg (ss.map Value.string).toArray] w fun e w' => e = .returned (.bool (decide (∀ s ∈ ss, s.size ≤ 1000))) ∧ Below w.heap.size w w' := by
  obtain ⟨B, hB⟩ : ∃ B, w.heap.size = B := ⟨_, rfl⟩
  obtain ⟨W1, hW1⟩ : ∃ W, w.alloc (.cells (ss.map Value.string).toArray 22) = W := ⟨_, rfl⟩
  have hr : W1.heap[B]? = some (.cells (ss.map Value.string).toArray 22 (0, 0)) := by rw [← hW1, ← hB]; exact heap_alloc_new _ _
  have HR : Hid (∀ V : World, V.heap[B]? = W1.heap[B]? → ∀ i (h : i < ss.length), V.cell? ⟨B, i, none⟩ = some (.string ss[i])) := fun V hV i hi => by
    rw [cell_of_row _ _ _ _ _ _ (hV.trans hr)]
    simp [hi]
  have HB : Hid (Below w.heap.size w W1) := by rw [← hW1]; exact (Below.refl _ w).alloc (Nat.le_refl _) _
  have H4 : Hid (ss.length = 4) := h4
  obtain ⟨D, hD⟩ : ∃ D, decide (∀ s ∈ ss, s.size ≤ 1000) = D := ⟨_, rfl⟩
  have HD : Hid ((∀ s ∈ ss, s.size ≤ 1000) ↔ D = true) := by rw [← hD]; exact decide_eq_true_iff.symm
  rw [hD]
  clear hD hr h4
  go_enter Tryd.func4, Tryd.ntmps4
  go_wp2
  go_loopw [3] (fun v3 wr => ∃ i : Nat, i ≤ 4 ∧ v3 = .int .i64 (i : Int) ∧ wr = W1 ∧ ∀ j (h : j < ss.length), j < i → (ss[j]).size ≤ 1000) (fun v _ => 4 - (intOf v).toNat)
  case atStart => exact ⟨0, by omega, rfl, rfl, fun j _ h => absurd h (by omega)⟩
  case round =>
    obtain ⟨i, hi, rfl, hwr, hall⟩ := hrel
    subst wr
    by_cases hlt : i < 4
    · have kk : (i : Int) < 4 := by omega
      have hil : i < ss.length := by rw [H4.out]; exact hlt
      obtain ⟨s, hs⟩ : ∃ s, ss[i] = s := ⟨_, rfl⟩
      have hc := HR.out W1 rfl i hil
      rw [hs] at hc
      by_cases hb : s.size ≤ 1000
      · have kb : ¬ (1000 : Int) < (s.size : Int) := by omega
        have HN : Hid (∀ j (h : j < ss.length), j < i + 1 → (ss[j]).size ≤ 1000) := fun j h hj => by
          by_cases e : j = i
          · subst e; rw [hs]; exact hb
          · exact hall j h (by omega)
        clear hall hs hb
        go_wp2
        exact ⟨⟨i + 1, by omega, by go_num, trivial, HN.out⟩, by simp [intOf]; omega⟩
      · have kb : (1000 : Int) < (s.size : Int) := by omega
        have hDf : D = false := by
          cases D with
          | false => rfl
          | true => exact absurd (HD.out.2 rfl s (hs ▸ List.getElem_mem hil)) hb
        subst hDf
        clear hall hs hb
        go_wp2
        go_ret
        exact ⟨rfl, HB.out⟩
    · obtain rfl : i = 4 := by omega
      have kk : ¬ (4 : Int) < 4 := by omega
      have hDt : D = true := HD.out.1 (fun s hs => by
        obtain ⟨j, hj, rfl⟩ := List.getElem_of_mem hs
        exact hall j hj (by rw [H4.out] at hj; exact hj))
      subst hDt
      clear hall
      go_wp2
      go_ret
      exact ⟨rfl, by first | exact HB.out | exact hB ▸ HB.out⟩
theorem laidOut : laidOutB Tryd.prog = true := by kernel_rfl
theorem cells22 : Tryd.prog.cellsOf 32 = 1 := by kernel_rfl
theorem cells9 : Tryd.prog.cellsOf 9 = 1 := by kernel_rfl
theorem u32x4_of {H : Type} {enc : TypeId × Value → H} {W : World} {b0 base : Nat} {spare : Nat → Bool} {held : Bool} {v : Value} {d : DataW H} {p : List MemPlace} (hv : Value.okWide Tryd.prog W .any b0 58 v) (h : DataW.Trod enc Tryd.prog W base spare held 58 v d p) :
    ∃ a b c d : Nat, v = .agg (u32v [a, b, c, d]) ∧ a < 4294967296 ∧ b < 4294967296 ∧ c < 4294967296 ∧ d < 4294967296 := by
  unfold Value.okWide at hv
  rw [Tryd.underlying58] at hv
  obtain ⟨cs, rfl, hsz, _⟩ := hv
  rw [show Tryd.prog.cellsOf 58 = 4 by kernel_rfl] at hsz
  obtain ⟨c0, c1, c2, c3, rfl⟩ : ∃ c0 c1 c2 c3, cs = #[c0, c1, c2, c3] := by
    obtain ⟨l⟩ := cs
    match l, hsz with
    | [c0, c1, c2, c3], _ => exact ⟨c0, c1, c2, c3, rfl⟩
  obtain ⟨fuel, hf⟩ := h
  obtain ⟨ys, m, _, _, _, hl, hy⟩ := DataW.trod_array Tryd.underlying58 hf
  have h0 := hy 0 (by omega)
  have h1 := hy 1 (by omega)
  have h2 := hy 2 (by omega)
  have h3 := hy 3 (by omega)
  rw [cells22] at h0 h1 h2 h3
  rw [List.getElem?_eq_getElem (by omega)] at h0 h1 h2 h3
  obtain ⟨x0, e0, _, w0⟩ := DataW.trod_int Tryd.underlying32 (cs := [c0]) (by simpa [Value.cells] using h0)
  obtain ⟨x1, e1, _, w1⟩ := DataW.trod_int Tryd.underlying32 (cs := [c1]) (by simpa [Value.cells] using h1)
  obtain ⟨x2, e2, _, w2⟩ := DataW.trod_int Tryd.underlying32 (cs := [c2]) (by simpa [Value.cells] using h2)
  obtain ⟨x3, e3, _, w3⟩ := DataW.trod_int Tryd.underlying32 (cs := [c3]) (by simpa [Value.cells] using h3)
  simp only [List.cons.injEq, and_true] at e0 e1 e2 e3
  have r0 := wf_u32 w0
  have r1 := wf_u32 w1
  have r2 := wf_u32 w2
  have r3 := wf_u32 w3
  obtain ⟨a0, rfl⟩ := Int.eq_ofNat_of_zero_le r0.1
  obtain ⟨a1, rfl⟩ := Int.eq_ofNat_of_zero_le r1.1
  obtain ⟨a2, rfl⟩ := Int.eq_ofNat_of_zero_le r2.1
  obtain ⟨a3, rfl⟩ := Int.eq_ofNat_of_zero_le r3.1
  exact ⟨a0, a1, a2, a3, by rw [e0, e1, e2, e3]; rfl, by omega, by omega, by omega, by omega⟩
theorem mem_weightsAll {H : Type} {P : Program} {e : TypeId} {d : DataW H} : ∀ {l : List (DataW H)}, d ∈ l → ∀ n ∈ d.weights P e, n ∈ DataW.weightsAll P e l
  | x :: l, h, n, hn => by
    simp only [DataW.weightsAll, List.mem_append]
    rcases List.mem_cons.1 h with rfl | h
    · exact .inl hn
    · exact .inr (mem_weightsAll h n hn)
theorem strs4_of {H : Type} {enc : TypeId × Value → H} {W : World} {b0 base : Nat} {spare : Nat → Bool} {held : Bool} {v : Value} {d : DataW H} {p : List MemPlace} {ts : List TypeId} {ds : List (DataW H)} {j : Nat} (hv : Value.okWide Tryd.prog W .any b0 22 v) (h : DataW.Trod enc Tryd.prog W base spare held 22 v d p)
    (hsz : (DataW.weightsEach Tryd.prog ts ds).all (· ≤ reachBytes) = true) (ht : ts[j]? = some 22) (hd : ds[j]? = some d) :
    ∃ s0 s1 s2 s3 : ByteArray, v = .agg #[.string s0, .string s1, .string s2, .string s3] ∧ s0.size ≤ 140737488351232 ∧ s1.size ≤ 140737488351232 ∧ s2.size ≤ 140737488351232 ∧ s3.size ≤ 140737488351232 := by
  unfold Value.okWide at hv
  rw [Tryd.underlying22] at hv
  obtain ⟨cs, rfl, hz, _⟩ := hv
  rw [show Tryd.prog.cellsOf 22 = 4 by kernel_rfl] at hz
  obtain ⟨c0, c1, c2, c3, rfl⟩ : ∃ c0 c1 c2 c3, cs = #[c0, c1, c2, c3] := by
    obtain ⟨l⟩ := cs
    match l, hz with
    | [c0, c1, c2, c3], _ => exact ⟨c0, c1, c2, c3, rfl⟩
  obtain ⟨fuel, hf⟩ := h
  obtain ⟨ys, m, _, hx, _, hl, hy⟩ := DataW.trod_array Tryd.underlying22 hf
  have h0 := hy 0 (by omega)
  have h1 := hy 1 (by omega)
  have h2 := hy 2 (by omega)
  have h3 := hy 3 (by omega)
  rw [cells9] at h0 h1 h2 h3
  rw [List.getElem?_eq_getElem (by omega)] at h0 h1 h2 h3
  obtain ⟨x0, e0, f0, w0⟩ := DataW.trod_string Tryd.underlying9 (cs := [c0]) (by simpa [Value.cells] using h0)
  obtain ⟨x1, e1, f1, w1⟩ := DataW.trod_string Tryd.underlying9 (cs := [c1]) (by simpa [Value.cells] using h1)
  obtain ⟨x2, e2, f2, w2⟩ := DataW.trod_string Tryd.underlying9 (cs := [c2]) (by simpa [Value.cells] using h2)
  obtain ⟨x3, e3, f3, w3⟩ := DataW.trod_string Tryd.underlying9 (cs := [c3]) (by simpa [Value.cells] using h3)
  simp only [List.cons.injEq, and_true] at e0 e1 e2 e3
  simp only [Prod.mk.injEq] at hx
  obtain ⟨rfl, _⟩ := hx
  have key : ∀ (i : Nat) (hi : i < ys.length) (s : ByteArray), ys[i] = (.lit (.string s.data.toList), []) → s.size ≤ 140737488351232 := by
    intro i hi s hs
    have hmem : (DataW.lit (.string s.data.toList) : DataW H) ∈ ys.map (·.1) := List.mem_map.2 ⟨ys[i], List.getElem_mem hi, by rw [hs]⟩
    have hw := List.all_eq_true.1 hsz s.data.toList.length (DataW.weights_mem_each ht hd _ (by
      simp only [DataW.weights, Tryd.underlying22]
      exact mem_weightsAll hmem _ (by simp [DataW.weights])))
    have := of_decide_eq_true hw
    simpa [reachBytes] using this
  exact ⟨x0, x1, x2, x3, by rw [e0, e1, e2, e3], key 0 (by omega) x0 f0, key 1 (by omega) x1 f1, key 2 (by omega) x2 f2, key 3 (by omega) x3 f3⟩
end Go.Proofs.YtbflkkffpcaakabDoor
