/- Walk over the document's Chain. -/
import Derived.Test.YtcmdcmbiilfngaaDoorEA
import Derived.Test.YtcmdcmbiilfngaaDoorCG
namespace Go.Proofs.YtcmdcmbiilfngaaDoor
open Go.RowKit
theorem sstr_to (b off N n cap : Nat) (hn : n ≤ N) (hN : N ≤ cap) (W : World) :
    (Instr.sliceAt 54 (.slice (some ⟨b, off, none⟩) N cap) none (some (.int .i64 (n : Int))) none).run Tryd.prog W = .ok (.slice (some ⟨b, off, none⟩) n cap) W := by
  have h1 : (sizeOf 9).run Tryd.prog W = .ok 1 W := by kernel_rfl
  have hc : n ≤ cap := by omega
  have e : (⟨b, off, none⟩ : Addr).add 0 = ⟨b, off, none⟩ := add_at b off 0
  simp [Instr.sliceAt, Instr.slice, run_underlying Tryd.underlying54, Instr.sliceBounds, Instr.sliceBound, asIntOf, h1, hc, e]
theorem Ss.upto {w : World} {a : Option Addr} {len cap : Nat} {ss : List ByteArray} (h : Ss w a len cap ss) (n : Nat) (hn : n ≤ len) : Ss w a n cap (ss.take n) := by
  obtain ⟨h1, h2, h3, h4, h5⟩ := h
  refine ⟨by rw [List.length_take]; omega, by omega, h3, h4, fun ad had i hi => ?_⟩
  rw [List.length_take] at hi
  rw [List.getElem_take]
  exact h5 ad had i (by omega)
set_option maxRecDepth 100000 in
set_option maxHeartbeats 1000000 in
theorem refchain_any (len : Nat) : ∀ (k : ByteArray) (a : Option Addr) (cap : Nat) (ps : List ByteArray) (w : World), k.size ≤ 1000000 → Ss w a len cap ps → (∀ i (h : i < ps.length), (ps[i]).size ≤ 900000) →
    Calls Tryd.prog 29 #[.string k, .slice a len cap] w fun e w' => e = .returned (.string (strOf (chainS k.data.toList ps))) ∧ Below w.heap.size w w' := by
  induction len with
  | zero =>
    intro k a cap ps w hk h hp
    have e : ps = [] := List.eq_nil_of_length_eq_zero h.1
    subst e
    clear h hp
    go_enter Tryd.func29, Tryd.ntmps29
    go_wp2
    go_ret
    exact ⟨rfl, Below.refl _ _⟩
  | succ m ih =>
    intro k a cap ps w hk h hp
    obtain ⟨b, off, rfl, hc⟩ := h.at (by omega)
    have hlen : m < ps.length := by rw [h.1]; omega
    have hcell := hc m hlen
    have hps := hp m hlen
    have hcap := h.2.1
    have hcap2 := h.2.2.1
    have hsn := chainS_snoc k.data.toList ps m hlen
    rw [show ps.take (m + 1) = ps from List.take_of_length_le (by rw [h.1]; omega)] at hsn
    obtain ⟨K, hK⟩ : ∃ K, strOf (chainS k.data.toList (ps.take m)) = K := ⟨_, rfl⟩
    obtain ⟨E, hE⟩ : ∃ E, strOf (chainS k.data.toList ps) = E := ⟨_, rfl⟩
    obtain ⟨p, hpe⟩ : ∃ p, p = ps[m] := ⟨_, rfl⟩
    rw [← hpe] at hcell hps hsn
    have hKs : K.size ≤ 1000000 := by rw [← hK, strOf_size]; exact chainS_len _ _ _ (by rw [Array.length_toList]; exact hk) (by omega)
    have HIH : Hid (Calls Tryd.prog 29 #[.string k, .slice (some ⟨b, off, none⟩) m cap] w.drew fun e w' => e = .returned (.string K) ∧ Below w.heap.size w w') := by
      rw [← hK]
      refine (ih k (some ⟨b, off, none⟩) cap (ps.take m) w.drew hk ((h.upto m (by omega)).on (Below.refl _ _).drew) (fun i hi => ?_)).mono ?_
      · rw [List.length_take] at hi; rw [List.getElem_take]; exact hp i (by omega)
      · rintro e w' ⟨rfl, hb⟩; exact ⟨rfl, undrew hb⟩
    have HSE : Hid (∀ W, Below w.heap.size w W → Calls Tryd.prog 35 #[.string K, .string p] W fun e w' => e = .returned (.string E) ∧ Below w.heap.size w w') := by
      intro W hW
      rw [← hE, hsn, show chainS k.data.toList (ps.take m) = K.data.toList by rw [← hK]; rfl]
      refine (refseal_any K p W hKs hps).mono ?_
      rintro e w' ⟨rfl, hb⟩
      exact ⟨rfl, hW.trans (hb.mono hW.size)⟩
    rw [hE]
    obtain ⟨n, hn⟩ : ∃ n, n = m + 1 := ⟨_, rfl⟩
    rw [← hn]
    have hsl := sstr_to b off n m cap (by omega) (by omega)
    have kw : IntKind.i64.wrap ((n : Int) - 1) = (m : Int) := by rw [IntKind.wrap_i64]; omega
    have kz : ¬ (n : Int) = 0 := by omega
    have km : (m : Int) < (n : Int) := by omega
    have HP : Hid (w.cell? ⟨b, off + m, none⟩ = some (.string p)) := hcell
    clear h hp hc hcell hps hsn hK hE hpe ih hlen hn
    go_enter Tryd.func29, Tryd.ntmps29
    go_wp2
    refine wp_region_held_drew (S := fun W => W.cell? ⟨b, off + m, none⟩ = some (.string p)) (by kernel_rfl) (HP.out) (fun hHeld => ?_)
    refine wpAnyH_take (i := 0) (v := ?v0) rfl (by kernel_rfl) (by kernel_rfl) (by kernel_rfl) (fun _ _ _ h => h) (Or.inl ⟨by kernel_rfl, ?y0⟩) hHeld ?r0
    case y0 => (intro W hSW; (try dsimp only at hSW); go_simp; (try with_reducible rfl))
    change wpAnyH _ _ _ _ _ _ _ (Act.put _ (some 11) _) _
    simp only [Act.put, List.setIfInBounds_toArray, List.set_cons_zero, List.set_cons_succ]
    refine wpAnyH_take (i := 1) (v := ?v1) rfl (by kernel_rfl) (by kernel_rfl) (by kernel_rfl) (fun _ _ _ h => h) (Or.inl ⟨by kernel_rfl, ?y1⟩) hHeld ?r1
    case y1 => (intro W hSW; (try dsimp only at hSW); go_simp; (try with_reducible rfl))
    change wpAnyH _ _ _ _ _ _ _ (Act.put _ (some 12) _) _
    simp only [Act.put, List.setIfInBounds_toArray, List.set_cons_zero, List.set_cons_succ]
    refine wpAnyH_take (i := 2) (v := ?v2) rfl (by kernel_rfl) (by kernel_rfl) (by kernel_rfl) (fun _ _ _ h => h) (Or.inl ⟨by kernel_rfl, ?y2⟩) hHeld ?r2
    case y2 => (intro W hSW; (try dsimp only at hSW); go_simp; (try with_reducible rfl))
    change wpAnyH _ _ _ _ _ _ _ (Act.put _ (some 13) _) _
    simp only [Act.put, List.setIfInBounds_toArray, List.set_cons_zero, List.set_cons_succ]
    refine wpAnyH_take (i := 3) (v := ?v3) rfl (by kernel_rfl) (by kernel_rfl) (by kernel_rfl) (fun _ _ _ h => h) (Or.inl ⟨by kernel_rfl, ?y3⟩) hHeld ?r3
    case y3 => (intro W hSW; (try dsimp only at hSW); go_simp; (try with_reducible rfl))
    change wpAnyH _ _ _ _ _ _ _ (Act.put _ (some 14) _) _
    simp only [Act.put, List.setIfInBounds_toArray, List.set_cons_zero, List.set_cons_succ]
    refine wpAnyH_take (i := 4) (v := ?v4) rfl (by kernel_rfl) (by kernel_rfl) (by kernel_rfl) (fun _ _ _ h => h) (Or.inl ⟨by kernel_rfl, ?y4⟩) hHeld ?r4
    case y4 => (intro W hSW; (try dsimp only at hSW); go_simp; (try with_reducible rfl))
    change wpAnyH _ _ _ _ _ _ _ (Act.put _ (some 15) _) _
    simp only [Act.put, List.setIfInBounds_toArray, List.set_cons_zero, List.set_cons_succ]
    refine wpAnyH_take (i := 6) (v := ?v6) rfl (by kernel_rfl) (by kernel_rfl) (by kernel_rfl) (fun _ _ _ h => h) (Or.inl ⟨by kernel_rfl, ?y6⟩) hHeld ?r6
    case y6 => (intro W hSW; (try dsimp only at hSW); go_simp; (try with_reducible rfl))
    change wpAnyH _ _ _ _ _ _ _ (Act.put _ (some 17) _) _
    simp only [Act.put, List.setIfInBounds_toArray, List.set_cons_zero, List.set_cons_succ]
    refine wpAnyH_take (i := 7) (v := ?v7) rfl (by kernel_rfl) (by kernel_rfl) (by kernel_rfl) (fun _ _ _ h => h) (Or.inl ⟨by kernel_rfl, ?y7⟩) hHeld ?r7
    case y7 => (intro W hSW; (try dsimp only at hSW); go_simp; (try with_reducible rfl))
    change wpAnyH _ _ _ _ _ _ _ (Act.put _ (some 18) _) _
    simp only [Act.put, List.setIfInBounds_toArray, List.set_cons_zero, List.set_cons_succ]
    refine wpAnyH_take (i := 8) (v := ?v8) rfl (by kernel_rfl) (by kernel_rfl) (by kernel_rfl) (fun _ _ _ h => h) (Or.inl ⟨by kernel_rfl, ?y8⟩) hHeld ?r8
    case y8 => (intro W hSW; (try dsimp only at hSW); go_simp; (try with_reducible rfl))
    change wpAnyH _ _ _ _ _ _ _ (Act.put _ (some 19) _) _
    simp only [Act.put, List.setIfInBounds_toArray, List.set_cons_zero, List.set_cons_succ]
    refine wpAnyH_take (i := 9) (v := ?v9) rfl (by kernel_rfl) (by kernel_rfl) (by kernel_rfl) (fun _ _ _ h => h) (Or.inl ⟨by kernel_rfl, ?y9⟩) hHeld ?r9
    case y9 => (intro W hSW; (try dsimp only at hSW); go_simp; (try with_reducible rfl))
    change wpAnyH _ _ _ _ _ _ _ (Act.put _ (some 20) _) _
    simp only [Act.put, List.setIfInBounds_toArray, List.set_cons_zero, List.set_cons_succ]
    refine wpAnyH_take (i := 10) (v := ?v10) rfl (by kernel_rfl) (by kernel_rfl) (by kernel_rfl) (fun _ _ _ h => h) (Or.inl ⟨by kernel_rfl, ?y10⟩) hHeld ?r10
    case y10 => (intro W hSW; (try dsimp only at hSW); go_simp; (try with_reducible rfl))
    change wpAnyH _ _ _ _ _ _ _ (Act.put _ (some 21) _) _
    simp only [Act.put, List.setIfInBounds_toArray, List.set_cons_zero, List.set_cons_succ]
    refine wpAnyH_ready (rs := [5]) (by kernel_rfl) (by simp) ?_
    refine AllReadyH.cons rfl (fun K hK => ?_) AllReadyH.nil
    go_simp
    refine (HIH.out).mono ?_
    rintro e w2 ⟨rfl, hB2⟩
    refine hK.out _ _ (by rw [hB2.cell (World.block_lt_of_cell? w _ HP.out)]; exact HP.out) (fun hHeld => ?_)
    clear hK K
    try simp only [Act.put, List.setIfInBounds_toArray, List.set_cons_zero, List.set_cons_succ]
    have HS2 := HSE.out w2 hB2
    refine wpAnyH_ready (rs := [11]) (by kernel_rfl) (by simp) ?_
    refine AllReadyH.cons rfl (fun K hK => ?_) AllReadyH.nil
    go_simp
    refine (HS2).mono ?_
    rintro e w3 ⟨rfl, hB3⟩
    refine hK.out _ _ (by rw [hB3.cell (World.block_lt_of_cell? w _ HP.out)]; exact HP.out) (fun hHeld => ?_)
    clear hK K
    try simp only [Act.put, List.setIfInBounds_toArray, List.set_cons_zero, List.set_cons_succ]
    refine wpAnyH_take (i := 12) (v := ?v12) rfl (by kernel_rfl) (by kernel_rfl) (by kernel_rfl) (fun _ _ _ h => h) (Or.inl ⟨by kernel_rfl, ?y12⟩) hHeld ?r12
    case y12 => (intro W hSW; (try dsimp only at hSW); go_simp; (try with_reducible rfl))
    change wpAnyH _ _ _ _ _ _ _ (Act.put _ (some 4) _) _
    simp only [Act.put, List.setIfInBounds_toArray, List.set_cons_zero, List.set_cons_succ]
    refine wpAnyH_done (by kernel_rfl) ?_ _
    go_wp2
    go_ret
    exact ⟨rfl, hB3⟩
end Go.Proofs.YtcmdcmbiilfngaaDoor
