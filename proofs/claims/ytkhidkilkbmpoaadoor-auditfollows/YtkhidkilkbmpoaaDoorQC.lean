/- Walk over the document's Chain. Rows of strings that are added to; a walk over the document's Chain. -/
import Derived.Test.YtkhidkilkbmpoaaDoorEA
import Derived.Test.YtkhidkilkbmpoaaDoorCG
import Derived.Test.YtkhidkilkbmpoaaDoorQB
namespace Go.Proofs.YtkhidkilkbmpoaaDoor
open Go.RowKit
theorem sstr_to (b off N n cap : Nat) (hn : n ≤ N) (hN : N ≤ cap) (W : World) :
    (Instr.sliceAt 57 (.slice (some ⟨b, off, none⟩) N cap) none (some (.int .i64 (n : Int))) none).run Tryd.prog W = .ok (.slice (some ⟨b, off, none⟩) n cap) W := by
  have h1 : (sizeOf 9).run Tryd.prog W = .ok 1 W := by kernel_rfl
  have hc : n ≤ cap := by omega
  have e : (⟨b, off, none⟩ : Addr).add 0 = ⟨b, off, none⟩ := add_at b off 0
  simp [Instr.sliceAt, Instr.slice, run_underlying Tryd.underlying57, Instr.sliceBounds, Instr.sliceBound, asIntOf, h1, hc, e]
theorem Ss.upto {w : World} {a : Option Addr} {len cap : Nat} {ss : List ByteArray} (h : Ss w a len cap ss) (n : Nat) (hn : n ≤ len) : Ss w a n cap (ss.take n) := by
  obtain ⟨h1, h2, h3, h4, h5⟩ := h
  refine ⟨by rw [List.length_take]; omega, by omega, h3, h4, fun ad had i hi => ?_⟩
  rw [List.length_take] at hi
  rw [List.getElem_take]
  exact h5 ad had i (by omega)
set_option maxRecDepth 100000 in
set_option maxHeartbeats 1000000 in
theorem refchain_any (len : Nat) : ∀ (k : ByteArray) (a : Option Addr) (cap : Nat) (ps : List ByteArray) (w : World), k.size ≤ 1000000 → Ss w a len cap ps → (∀ i (h : i < ps.length), (ps[i]).size ≤ 900000) →
    Calls Tryd.prog 35 #[.string k, .slice a len cap] w fun e w' => e = .returned (.string (strOf (chainS k.data.toList ps))) ∧ Below w.heap.size w w' := by
  induction len with
  | zero =>
    intro k a cap ps w hk h hp
    have e : ps = [] := List.eq_nil_of_length_eq_zero h.1
    subst e
    clear h hp
    go_enter Tryd.func35, Tryd.ntmps35
    go_wp2
    go_ret
    exact ⟨rfl, Below.refl _ _⟩
  | succ m ih =>
    intro k a cap ps w hk h hp
    obtain ⟨b, off, rfl, hc⟩ := h.at (by omega)
    have hlen : m < ps.length := by rw [h.1]; omega
    have hcell := hc m hlen
    have hps := hp m hlen
    have hcap := h.2.1
    have hcap2 := h.2.2.1
    have hsn := chainS_snoc k.data.toList ps m hlen
    rw [show ps.take (m + 1) = ps from List.take_of_length_le (by rw [h.1]; omega)] at hsn
    obtain ⟨K, hK⟩ : ∃ K, strOf (chainS k.data.toList (ps.take m)) = K := ⟨_, rfl⟩
    obtain ⟨E, hE⟩ : ∃ E, strOf (chainS k.data.toList ps) = E := ⟨_, rfl⟩
    obtain ⟨p, hpe⟩ : ∃ p, p = ps[m] := ⟨_, rfl⟩
    rw [← hpe] at hcell hps hsn
    have hKs : K.size ≤ 1000000 := by rw [← hK, strOf_size]; exact chainS_len _ _ _ (by rw [Array.length_toList]; exact hk) (by omega)
    have HIH : Hid (Calls Tryd.prog 35 #[.string k, .slice (some ⟨b, off, none⟩) m cap] w.drew fun e w' => e = .returned (.string K) ∧ Below w.heap.size w w') := by
      rw [← hK]
      refine (ih k (some ⟨b, off, none⟩) cap (ps.take m) w.drew hk ((h.upto m (by omega)).on (Below.refl _ _).drew) (fun i hi => ?_)).mono ?_
      · rw [List.length_take] at hi; rw [List.getElem_take]; exact hp i (by omega)
      · rintro e w' ⟨rfl, hb⟩; exact ⟨rfl, undrew hb⟩
    have HSE : Hid (∀ W, Below w.heap.size w W → Calls Tryd.prog 54 #[.string K, .string p] W fun e w' => e = .returned (.string E) ∧ Below w.heap.size w w') := by
      intro W hW
      rw [← hE, hsn, show chainS k.data.toList (ps.take m) = K.data.toList by rw [← hK]; rfl]
      refine (refseal_any K p W hKs hps).mono ?_
      rintro e w' ⟨rfl, hb⟩
      exact ⟨rfl, hW.trans (hb.mono hW.size)⟩
    rw [hE]
    obtain ⟨n, hn⟩ : ∃ n, n = m + 1 := ⟨_, rfl⟩
    rw [← hn]
    have hsl := sstr_to b off n m cap (by omega) (by omega)
    have kw : IntKind.i64.wrap ((n : Int) - 1) = (m : Int) := by rw [IntKind.wrap_i64]; omega
    have kz : ¬ (n : Int) = 0 := by omega
    have km : (m : Int) < (n : Int) := by omega
    have HP : Hid (w.cell? ⟨b, off + m, none⟩ = some (.string p)) := hcell
    clear h hp hc hcell hps hsn hK hE hpe ih hlen hn
    go_enter Tryd.func35, Tryd.ntmps35
    go_wp2
    refine wp_region_held_drew (S := fun W => W.cell? ⟨b, off + m, none⟩ = some (.string p)) (by kernel_rfl) (HP.out) (fun hHeld => ?_)
    refine wpAnyH_take (i := 0) (v := ?v0) rfl (by kernel_rfl) (by kernel_rfl) (by kernel_rfl) (fun _ _ _ h => h) (Or.inl ⟨by kernel_rfl, ?y0⟩) hHeld ?r0
    case y0 => (intro W hSW; (try dsimp only at hSW); go_simp; (try with_reducible rfl))
    change wpAnyH _ _ _ _ _ _ _ (Act.put _ (some 11) _) _
    simp only [Act.put, List.setIfInBounds_toArray, List.set_cons_zero, List.set_cons_succ]
    refine wpAnyH_take (i := 1) (v := ?v1) rfl (by kernel_rfl) (by kernel_rfl) (by kernel_rfl) (fun _ _ _ h => h) (Or.inl ⟨by kernel_rfl, ?y1⟩) hHeld ?r1
    case y1 => (intro W hSW; (try dsimp only at hSW); go_simp; (try with_reducible rfl))
    change wpAnyH _ _ _ _ _ _ _ (Act.put _ (some 12) _) _
    simp only [Act.put, List.setIfInBounds_toArray, List.set_cons_zero, List.set_cons_succ]
    refine wpAnyH_take (i := 2) (v := ?v2) rfl (by kernel_rfl) (by kernel_rfl) (by kernel_rfl) (fun _ _ _ h => h) (Or.inl ⟨by kernel_rfl, ?y2⟩) hHeld ?r2
    case y2 => (intro W hSW; (try dsimp only at hSW); go_simp; (try with_reducible rfl))
    change wpAnyH _ _ _ _ _ _ _ (Act.put _ (some 13) _) _
    simp only [Act.put, List.setIfInBounds_toArray, List.set_cons_zero, List.set_cons_succ]
    refine wpAnyH_take (i := 3) (v := ?v3) rfl (by kernel_rfl) (by kernel_rfl) (by kernel_rfl) (fun _ _ _ h => h) (Or.inl ⟨by kernel_rfl, ?y3⟩) hHeld ?r3
    case y3 => (intro W hSW; (try dsimp only at hSW); go_simp; (try with_reducible rfl))
    change wpAnyH _ _ _ _ _ _ _ (Act.put _ (some 14) _) _
    simp only [Act.put, List.setIfInBounds_toArray, List.set_cons_zero, List.set_cons_succ]
    refine wpAnyH_take (i := 4) (v := ?v4) rfl (by kernel_rfl) (by kernel_rfl) (by kernel_rfl) (fun _ _ _ h => h) (Or.inl ⟨by kernel_rfl, ?y4⟩) hHeld ?r4
    case y4 => (intro W hSW; (try dsimp only at hSW); go_simp; (try with_reducible rfl))
    change wpAnyH _ _ _ _ _ _ _ (Act.put _ (some 15) _) _
    simp only [Act.put, List.setIfInBounds_toArray, List.set_cons_zero, List.set_cons_succ]
    refine wpAnyH_take (i := 6) (v := ?v6) rfl (by kernel_rfl) (by kernel_rfl) (by kernel_rfl) (fun _ _ _ h => h) (Or.inl ⟨by kernel_rfl, ?y6⟩) hHeld ?r6
    case y6 => (intro W hSW; (try dsimp only at hSW); go_simp; (try with_reducible rfl))
    change wpAnyH _ _ _ _ _ _ _ (Act.put _ (some 17) _) _
    simp only [Act.put, List.setIfInBounds_toArray, List.set_cons_zero, List.set_cons_succ]
    refine wpAnyH_take (i := 7) (v := ?v7) rfl (by kernel_rfl) (by kernel_rfl) (by kernel_rfl) (fun _ _ _ h => h) (Or.inl ⟨by kernel_rfl, ?y7⟩) hHeld ?r7
    case y7 => (intro W hSW; (try dsimp only at hSW); go_simp; (try with_reducible rfl))
    change wpAnyH _ _ _ _ _ _ _ (Act.put _ (some 18) _) _
    simp only [Act.put, List.setIfInBounds_toArray, List.set_cons_zero, List.set_cons_succ]
    refine wpAnyH_take (i := 8) (v := ?v8) rfl (by kernel_rfl) (by kernel_rfl) (by kernel_rfl) (fun _ _ _ h => h) (Or.inl ⟨by kernel_rfl, ?y8⟩) hHeld ?r8
    case y8 => (intro W hSW; (try dsimp only at hSW); go_simp; (try with_reducible rfl))
    change wpAnyH _ _ _ _ _ _ _ (Act.put _ (some 19) _) _
    simp only [Act.put, List.setIfInBounds_toArray, List.set_cons_zero, List.set_cons_succ]
    refine wpAnyH_take (i := 9) (v := ?v9) rfl (by kernel_rfl) (by kernel_rfl) (by kernel_rfl) (fun _ _ _ h => h) (Or.inl ⟨by kernel_rfl, ?y9⟩) hHeld ?r9
    case y9 => (intro W hSW; (try dsimp only at hSW); go_simp; (try with_reducible rfl))
    change wpAnyH _ _ _ _ _ _ _ (Act.put _ (some 20) _) _
    simp only [Act.put, List.setIfInBounds_toArray, List.set_cons_zero, List.set_cons_succ]
    refine wpAnyH_take (i := 10) (v := ?v10) rfl (by kernel_rfl) (by kernel_rfl) (by kernel_rfl) (fun _ _ _ h => h) (Or.inl ⟨by kernel_rfl, ?y10⟩) hHeld ?r10
    case y10 => (intro W hSW; (try dsimp only at hSW); go_simp; (try with_reducible rfl))
    change wpAnyH _ _ _ _ _ _ _ (Act.put _ (some 21) _) _
    simp only [Act.put, List.setIfInBounds_toArray, List.set_cons_zero, List.set_cons_succ]
    refine wpAnyH_ready (rs := [5]) (by kernel_rfl) (by simp) ?_
    refine AllReadyH.cons rfl (fun K hK => ?_) AllReadyH.nil
    go_simp
    refine (HIH.out).mono ?_
    rintro e w2 ⟨rfl, hB2⟩
    refine hK.out _ _ (by rw [hB2.cell (World.block_lt_of_cell? w _ HP.out)]; exact HP.out) (fun hHeld => ?_)
    clear hK K
    try simp only [Act.put, List.setIfInBounds_toArray, List.set_cons_zero, List.set_cons_succ]
    have HS2 := HSE.out w2 hB2
    refine wpAnyH_ready (rs := [11]) (by kernel_rfl) (by simp) ?_
    refine AllReadyH.cons rfl (fun K hK => ?_) AllReadyH.nil
    go_simp
    refine (HS2).mono ?_
    rintro e w3 ⟨rfl, hB3⟩
    refine hK.out _ _ (by rw [hB3.cell (World.block_lt_of_cell? w _ HP.out)]; exact HP.out) (fun hHeld => ?_)
    clear hK K
    try simp only [Act.put, List.setIfInBounds_toArray, List.set_cons_zero, List.set_cons_succ]
    refine wpAnyH_take (i := 12) (v := ?v12) rfl (by kernel_rfl) (by kernel_rfl) (by kernel_rfl) (fun _ _ _ h => h) (Or.inl ⟨by kernel_rfl, ?y12⟩) hHeld ?r12
    case y12 => (intro W hSW; (try dsimp only at hSW); go_simp; (try with_reducible rfl))
    change wpAnyH _ _ _ _ _ _ _ (Act.put _ (some 4) _) _
    simp only [Act.put, List.setIfInBounds_toArray, List.set_cons_zero, List.set_cons_succ]
    refine wpAnyH_done (by kernel_rfl) ?_ _
    go_wp2
    go_ret
    exact ⟨rfl, hB3⟩
end Go.Proofs.YtkhidkilkbmpoaaDoor
namespace Go.Proofs.YtkhidkilkbmpoaaDoor
open Go.RowKit
/-- Strings as cells. -/
def srR (l : List ByteArray) : List Value := l.map Value.string
theorem srR_len (l : List ByteArray) : (srR l).length = l.length := by simp [srR]
theorem info9K : (Tryd.prog.info? 9).map (fun i => (i.zero, i.size, i.bytes)) = some (some (.string ByteArray.empty), 1, 16) := by kernel_rfl
theorem one_sr {w : World} {g : Nat} {s : ByteArray} (hg : w.heap[g]? = some (.cells #[.string s] 9 (0, 0))) : Rw (fun _ => True) w 9 1 (some ⟨g, 0, none⟩) 1 1 (srR [s]) := by
  refine ⟨rfl, Nat.le_refl _, by unfold maxLen; omega, fun _ => ⟨g, 0, rfl, lt_of_some hg, trivial, fun j u hu => ?_⟩⟩
  rw [Nat.zero_add, cell_of_row _ g _ _ _ _ hg]
  simpa [srR] using hu
theorem own_sr {w : World} {base g : Nat} {s : ByteArray} (hb : base ≤ g) (hg : w.heap[g]? = some (.cells #[.string s] 9 (0, 0))) : w.ownsRow base 9 1 (.slice (some ⟨g, 0, none⟩) 1 1) 1 (srR [s]) := ⟨rfl, .inr ⟨g, 1, _, rfl, hb, hg, by omega, by unfold maxLen; omega, rfl, rfl⟩⟩
theorem addT_own (w : World) {base : Nat} {a : Option Addr} {n c : Nat} {l : List ByteArray} (h : w.ownsRow base 9 1 (.slice a n c) n (srR l)) {g : Nat} {s : ByteArray} (hg : w.heap[g]? = some (.cells #[.string s] 9 (0, 0))) (hN : n + 1 ≤ 1000000) (hb : base ≤ w.heap.size) :
    ∃ a' c' w', (∀ ty, (Builtin.append_ #[57, 57] ty #[.slice a n c, .slice (some ⟨g, 0, none⟩) 1 1]).run Tryd.prog w = .ok (.slice a' (n + 1) c') w') ∧ w'.ownsRow base 9 1 (.slice a' (n + 1) c') (n + 1) (srR (l ++ [s])) ∧ w.grownBy w' (ob a) := by
  obtain ⟨i, hi, hz, hs, hbb⟩ := info_of info9K
  have e : srR (l ++ [s]) = srR l ++ srR [s] := by simp [srR]
  rw [e]
  obtain ⟨a', c', w', h1, h2, h3, _⟩ := app_own w 57 9 i _ 1 16 Tryd.underlying57 hi hz hs hbb rfl (by omega) h (one_sr hg) (by simp [srR, Value.oneCell']) hN (by omega) hb
  exact ⟨a', c', w', h1, h2, h3⟩
theorem Ss.own {w : World} {base : Nat} {a : Option Addr} {n c : Nat} {l : List ByteArray} (h : w.ownsRow base 9 1 (.slice a n c) n (srR l)) : Ss w a n c l := by
  have hl : l.length = n := by have := h.1; rw [srR_len] at this; omega
  rcases h.2 with ⟨e, h0⟩ | ⟨g, cap, cur, e, hb, hg, h1, h2, h3, h4⟩
  · cases e
    exact ⟨hl, by omega, by omega, fun _ => rfl, fun ad h => by cases h⟩
  · cases e
    refine ⟨hl, h1, by simpa [maxLen] using h2, (by intro e; cases e), fun ad had i hi => ?_⟩
    cases had
    rw [h.cells (g := g) rfl i (.string l[i]) (by simp [srR, hi])]
/-- The bytes of entries, one by one. -/
def partsE (l : List En) : List ByteArray := l.map fun e => strOf e.bytes
theorem partsE_snoc {l : List En} {i : Nat} {e : En} (h : l[i]? = some e) : partsE (l.take (i + 1)) = partsE (l.take i) ++ [strOf e.bytes] := by
  unfold partsE
  rw [take_snocK h, List.map_append]
  rfl
theorem chainS_parts (k : List UInt8) (l : List En) : chainS k (partsE l) = chA k l := by
  unfold chainS partsE chA
  rw [List.foldl_map]
  rfl
theorem partsE_size {l : List En} (hok : ∀ e ∈ l, e.ok = true) : ∀ i (h : i < (partsE l).length), ((partsE l)[i]).size ≤ 100 := by
  intro i h
  unfold partsE at h ⊢
  rw [List.length_map] at h
  rw [List.getElem_map, strOf_size]
  exact ent_len (hok _ (List.getElem_mem h))
set_option maxRecDepth 100000 in
set_option maxHeartbeats 2000000 in
theorem rch_any (k : ByteArray) {a : Option Addr} {ln cp : Nat} {l : List En} (w : World) (h : Ew w a ln cp l) (hl9 : ln ≤ 1000) (hk : k.size ≤ 1000000) (hok : ∀ c ∈ l, c.ok = true) : Calls Tryd.prog 21 #[.string k, .slice a ln cp] w fun e w' => StTo w (chA k.data.toList l) e w' := by
  have hl := h.len
  have HR : Hid ((∀ W, Below w.heap.size w W → Ew W a ln cp l) ∧ l.length = ln ∧ (∀ c ∈ l, c.ok = true)) := ⟨fun W hW => h.below hW, hl, hok⟩
  obtain ⟨B, hBs⟩ : ∃ B, w.heap.size = B := ⟨_, rfl⟩
  have HB0 : Hid (w.heap.size = B) := hBs
  clear h hl hok hBs
  go_enter Tryd.func21, Tryd.ntmps21
  go_wp2
  go_loopw [5, 6] (fun vp vi wr => ∃ (i c' : Nat) (a' : Option Addr), i ≤ ln ∧ vi = .int .i64 i ∧ vp = .slice a' i c' ∧ wr.ownsRow B 9 1 (.slice a' i c') i (srR (partsE (l.take i))) ∧ Below w.heap.size w wr) (fun _ vi _ => ln - (intOf vi).toNat)
  case atStart => exact ⟨0, 0, none, by omega, rfl, rfl, World.ownsRow_nil w B 9 1, Below.refl _ _⟩
  case round =>
    obtain ⟨i, c', a', hi, rfl, rfl, hown, hbw⟩ := hrel
    by_cases hlt : i < ln
    · have kk : (i : Int) < (ln : Int) := by omega
      obtain ⟨ab, ao, rfl, _, hc⟩ := (HR.out.1 wr hbw).at (by omega)
      obtain ⟨⟨c0, c1, c2, c3, c4⟩, hci⟩ : ∃ c, l[i]? = some c := ⟨_, List.getElem?_eq_getElem (by have := HR.out.2.1; omega)⟩
      obtain ⟨d0, d1, d2, d3, d4⟩ := hc i _ hci
      have hcok := HR.out.2.2 _ (List.mem_of_getElem? hci)
      simp only at d0 d1 d2 d3 d4
      have HC := rbytes_any ⟨c0, c1, c2, c3, c4⟩ wr hcok
      simp only at HC
      obtain ⟨S5, hS5⟩ : ∃ S5, strOf (⟨c0, c1, c2, c3, c4⟩ : En).bytes = S5 := ⟨_, rfl⟩
      unfold StTo at HC
      rw [hS5] at HC
      have H4 : Hid (wr.ownsRow B 9 1 (.slice a' i c') i (srR (partsE (l.take i))) ∧ Below w.heap.size w wr ∧ l[i]? = some ⟨c0, c1, c2, c3, c4⟩ ∧ strOf (⟨c0, c1, c2, c3, c4⟩ : En).bytes = S5) := ⟨hown, hbw, hci, hS5⟩
      clear hown hbw hc hci hcok hS5
      go_wp2_with fail
      refine HC.mono ?_
      rintro e V5 ⟨rfl, hb5⟩
      obtain ⟨V6, hV6⟩ : ∃ V6, V5.alloc (.cells #[.string S5] 9) = V6 := ⟨_, rfl⟩
      obtain ⟨g6, hg6⟩ : ∃ g6, V5.heap.size = g6 := ⟨_, rfl⟩
      have r6 : V6.heap[g6]? = some (.cells #[.string S5] 9 (0, 0)) := by rw [← hV6, ← hg6]; exact heap_alloc_new V5 _
      have hB6 : Below wr.heap.size wr V6 := hb5.trans (by rw [← hV6]; exact ((Below.refl _ V5).alloc (Nat.le_refl _) _).mono hb5.size)
      have ho6 := own_keep H4.out.1 (W' := V6) (fun j hj => hB6.block j (H4.out.1.lt j hj).2)
      have hB1 : Below w.heap.size w V6 := H4.out.2.1.trans (hB6.mono H4.out.2.1.size)
      obtain ⟨aA, cA, VA, hrA, hoA, hgA⟩ := addT_own V6 ho6 r6 (by omega) (by rw [← HB0.out]; exact hB1.size)
      have HE : Hid (VA.ownsRow B 9 1 (.slice aA (i + 1) cA) (i + 1) (srR (partsE (l.take (i + 1)))) ∧ Below w.heap.size w VA) := by
        refine ⟨?_, hB1.grown hgA hB1.size (fun j hj => by have := (ho6.lt j (by rw [ob_slice]; exact hj)).1; have := HB0.out; omega)⟩
        rw [partsE_snoc H4.out.2.2.1, H4.out.2.2.2]
        exact hoA
      clear HC hb5 r6 hB6 ho6 hB1 hoA hgA d0 d1 d2 d3 d4
      go_wp2_with (at_builtin; refine wpList_app V6 rfl _ _ _ _ rfl rfl rfl (hrA _) ?_)
      exact ⟨⟨i + 1, cA, aA, by omega, by go_num, by first | rfl | go_num, HE.out⟩, by simp [intOf]; omega⟩
    · obtain rfl : i = ln := by omega
      have kk : ¬ (i : Int) < (i : Int) := by omega
      have hss := Ss.own hown
      rw [List.take_of_length_le (by have := HR.out.2.1; omega)] at hss
      have HC := refchain_any i k a' c' _ wr (by omega) hss (fun j hj => by have := partsE_size HR.out.2.2 j hj; omega)
      rw [chainS_parts] at HC
      obtain ⟨Z, hZ⟩ : ∃ Z, strOf (chA k.data.toList l) = Z := ⟨_, rfl⟩
      rw [hZ] at HC
      have H5 : Hid (Below w.heap.size w wr ∧ strOf (chA k.data.toList l) = Z) := ⟨hbw, hZ⟩
      clear hss hown hbw hZ
      go_wp2_with fail
      refine HC.mono ?_
      rintro e V7 ⟨rfl, hb7⟩
      have HE : Hid (StTo w (chA k.data.toList l) (.returned (.string Z)) V7) := ⟨by rw [H5.out.2], H5.out.1.trans (hb7.mono H5.out.1.size)⟩
      clear HC hb7
      go_wp2
      go_ret
      exact HE.out
end Go.Proofs.YtkhidkilkbmpoaaDoor
