/- The document's side: its glue and Above. -/
import Derived.Test.YtdcjnoknnfcogaaR
namespace Go.Proofs.Ytdcjnoknnfcogaa
open Go.RowKit
theorem add_none (p : Addr) : p.add 0 = p := by
  obtain ⟨b, o, s⟩ := p
  unfold Addr.add
  split <;> simp_all
theorem add_at (b o i : Nat) : (⟨b, o, none⟩ : Addr).add i = ⟨b, o + i, none⟩ := by unfold Addr.add; split <;> simp_all
theorem ss_to {w : World} {a : Option Addr} {len cap : Nat} {ss : List ByteArray} (h : Ss w a len cap ss) (n : Nat) (hn : n ≤ len) (W : World) :
    (Instr.sliceAt 26 (.slice a len cap) none (some (.int .i64 (n : Int))) none).run Try.prog W = .ok (.slice a n cap) W := by
  have h1 : (sizeOf 9).run Try.prog W = .ok 1 W := by kernel_rfl
  have hc : n ≤ cap := Nat.le_trans hn h.2.1
  cases a with
  | none =>
    have hcap : cap = 0 := h.2.2.2.1 rfl
    subst hcap
    obtain rfl : n = 0 := by omega
    simp [Instr.sliceAt, Instr.slice, run_underlying Try.underlying26, Instr.sliceBounds, Instr.sliceBound, asIntOf, h1]
  | some p => simp [Instr.sliceAt, Instr.slice, run_underlying Try.underlying26, Instr.sliceBounds, Instr.sliceBound, asIntOf, h1, hc, add_none]
theorem Ss.upto {w : World} {a : Option Addr} {len cap : Nat} {ss : List ByteArray} (h : Ss w a len cap ss) (n : Nat) (hn : n ≤ len) : Ss w a n cap (ss.take n) := by
  obtain ⟨h1, h2, h3, h4, h5⟩ := h
  refine ⟨by rw [List.length_take]; omega, by omega, h3, h4, fun ad had i hi => ?_⟩
  rw [List.length_take] at hi
  rw [List.getElem_take]
  exact h5 ad had i (by omega)
theorem ss_from {w : World} {p : Addr} {len cap : Nat} {ss : List ByteArray} (h : Ss w (some p) len cap ss) (n : Nat) (hn : n ≤ len) :
    ∃ ad, (∀ W : World, (Instr.sliceAt 26 (.slice (some p) len cap) (some (.int .i64 (n : Int))) none none).run Try.prog W = .ok (.slice (some ad) (len - n) (cap - n)) W) ∧ Ss w (some ad) (len - n) (cap - n) (ss.drop n) := by
  obtain ⟨g1, g2, g3, g4, g5⟩ := h
  refine ⟨if cap = n then p else p.add n, fun W => ?_, by rw [List.length_drop]; omega, by omega, by omega, (fun e => by cases e), fun ad had i hi => ?_⟩
  · have h1 : (sizeOf 9).run Try.prog W = .ok 1 W := by kernel_rfl
    simp [Instr.sliceAt, Instr.slice, run_underlying Try.underlying26, Instr.sliceBounds, Instr.sliceBound, asIntOf, h1, hn]
    split <;> rfl
  · rw [List.length_drop] at hi
    have hne : ¬ cap = n := by omega
    rw [if_neg hne] at had
    cases had
    have := g5 p rfl (n + i) (by omega)
    rw [List.getElem_drop, ← this]
    congr 1
    obtain ⟨b, o, s⟩ := p
    have hs : s = none := by
      have h0 := g5 _ rfl 0 (by omega)
      simpa [Addr.add] using World.cell?_spot h0
    subst hs
    rw [add_at, add_at, add_at, Nat.add_assoc]
theorem nil_str (X : ByteArray) : (⟨#[]⟩ : ByteArray) ++ X = X := by apply ByteArray.ext; simp
theorem glue_snoc (ts : List (List UInt8)) (k : Nat) (h0 : 0 < k) (hk : k < ts.length) : glueL (ts.take (k + 1)) = glueL (ts.take k) ++ 47 :: ts[k] := by
  rw [List.take_succ_eq_append_getElem hk, glue_append _ _ (fun e => by have := congrArg List.length e; rw [List.length_take, List.length_nil] at this; omega) (by simp)]
  rfl
theorem glue_take_le (ts : List (List UInt8)) (k : Nat) : (glueL (ts.take k)).length ≤ (glueL ts).length := by
  by_cases h1 : ts.take k = []
  · rw [h1]; simp [glueL]
  · by_cases h2 : ts.drop k = []
    · have := List.take_append_drop k ts
      rw [h2, List.append_nil] at this
      rw [this]; exact Nat.le_refl _
    · have e := glue_append _ _ h1 h2
      rw [List.take_append_drop] at e
      rw [e, List.length_append]; omega
set_option maxRecDepth 100000 in
set_option maxHeartbeats 1000000 in
theorem glue_in (b off len cap : Nat) (ts : List (List UInt8)) (w : World) (hl : ts.length = len) (hlm : len ≤ 9223372036854775807)
    (hcell : ∀ i (h : i < ts.length), w.cell? ⟨b, off + i, none⟩ = some (.string (strOf ts[i]))) (hs : ∀ x ∈ ts, x.length ≤ 2000) :
    Calls Try.prog 33 #[.slice (some ⟨b, off, none⟩) len cap] w fun e w' => (∃ R, e = .returned (.string (strOf R)) ∧ (R = glueL ts ∨ (100 < R.length ∧ R.length ≤ 3000 ∧ R.length ≤ (glueL ts).length))) ∧ w' = w := by
  have HL : Hid (ts.length = len) := hl
  have HS : Hid (∀ x ∈ ts, x.length ≤ 2000) := hs
  have HC : Hid (∀ i (h : i < ts.length), w.cell? ⟨b, off + i, none⟩ = some (.string (strOf ts[i]))) := hcell
  clear hl hs hcell
  go_enter Try.func33, Try.ntmps33
  go_wp2
  go_loop [3, 4] (fun s i => ∃ (k : Nat) (R : List UInt8), s = .string (strOf R) ∧ i = .int .i64 (k : Int) ∧ k ≤ len ∧ R.length ≤ 3000 ∧ R = glueL (ts.take k)) (fun _ i => len - (intOf i).toNat)
  case atStart => exact ⟨0, [], rfl, rfl, by omega, by simp, rfl⟩
  case round =>
    obtain ⟨k, R, rfl, rfl, hk, hR, hRe⟩ := hrel
    have HR : Hid (R = glueL (ts.take k)) := hRe
    have hRS : (strOf R).size = R.length := strOf_size R
    obtain ⟨S, hS⟩ : ∃ S, strOf R = S := ⟨_, rfl⟩
    rw [hS] at hRS ⊢
    obtain ⟨rn, hrn⟩ : ∃ rn, R.length = rn := ⟨_, rfl⟩
    rw [hrn] at hRS hR
    have HSR : Hid (strOf R = S) := hS
    have HRN : Hid (R.length = rn) := hrn
    clear hRe hS hrn
    by_cases hlt : k < len
    · have hlt' : k < ts.length := by have := HL.out; omega
      have hki : (k : Int) < (len : Int) := by omega
      by_cases h100 : rn ≤ 100
      · have hr1 : (rn : Int) ≤ 100 := by omega
        have hc := HC.out k hlt'
        have hsz := HS.out _ (List.getElem_mem hlt')
        have HTX : Hid (ts[k] = ts[k]) := rfl
        have hX : (strOf ts[k]).size = (ts[k]).length := strOf_size _
        have HSN : Hid (0 < k → glueL (ts.take (k + 1)) = glueL (ts.take k) ++ 47 :: ts[k]) := fun h0 => glue_snoc ts k h0 hlt'
        have HS1 : Hid (k = 0 → glueL (ts.take (k + 1)) = ts[k]) := by
          rintro rfl
          rw [List.take_succ_eq_append_getElem hlt']
          rfl
        generalize ts[k] = x at hc hsz hX HSN HS1 HTX
        obtain ⟨X, hXe⟩ : ∃ X, strOf x = X := ⟨_, rfl⟩
        rw [hXe] at hc hX
        have HX : Hid (strOf x = X) := hXe
        clear hXe HTX
        have hXs : X.size ≤ 2000 := by omega
        by_cases h0 : k = 0
        · subst h0
          have HE : Hid (glueL (ts.take 1) = x) := HS1.out rfl
          have hR0 : R = [] := HR.out
          have hS0 : S = ⟨#[]⟩ := by rw [← HSR.out, hR0]; rfl
          have hn1 : ¬ (9223372036854775807 < S.size + X.size) := by omega
          clear HSN HS1
          subst hS0
          rw [Nat.add_zero] at hc
          go_wp2
          go_round
          case rel => exact ⟨1, x, by rw [HX.out, nil_str], by go_num, by omega, by omega, HE.out.symm⟩
          case measure => simp [intOf]; omega
        · have HE : Hid (glueL (ts.take (k + 1)) = R ++ 47 :: x) := by show _ = _; rw [HSN.out (by omega), ← HR.out]
          have hk0 : (0 : Int) < (k : Int) := by omega
          have hn1 : ¬ (9223372036854775807 < S.size + 1) := by omega
          have hn2 : ¬ (9223372036854775807 < S.size + (⟨#[47]⟩ : ByteArray).size) := by show ¬ (9223372036854775807 < S.size + 1); omega
          have hn3 : ¬ (9223372036854775807 < S.size + 1 + X.size) := by omega
          have hn4 : ¬ (9223372036854775807 < (S ++ (⟨#[47]⟩ : ByteArray)).size + X.size) := by rw [ByteArray.size_append]; show ¬ (9223372036854775807 < S.size + 1 + X.size); omega
          have HCAT : Hid (S ++ (⟨#[47]⟩ : ByteArray) ++ X = strOf (R ++ 47 :: x)) := by
            show _ = _
            rw [← HSR.out, ← HX.out, show (R ++ 47 :: x) = (R ++ [47]) ++ x by simp, strOf_append, strOf_append]
            rfl
          clear HSN HS1
          go_wp2
          go_round
          case rel => exact ⟨k + 1, R ++ 47 :: x, by rw [HCAT.out], by go_num, by omega, by rw [List.length_append, List.length_cons, HRN.out]; omega, HE.out.symm⟩
          case measure => simp [intOf]; omega
      · have hr1 : ¬ (rn : Int) ≤ 100 := by omega
        have HLE : Hid (R.length ≤ (glueL ts).length) := by show _ ≤ _; rw [HR.out]; exact glue_take_le ts k
        go_wp2
        go_ret
        exact ⟨⟨R, by rw [HSR.out]; rfl, .inr ⟨by rw [HRN.out]; omega, by rw [HRN.out]; omega, HLE.out⟩⟩, rfl⟩
    · have hki : ¬ (k : Int) < (len : Int) := by omega
      have HE : Hid (R = glueL ts) := by
        show _ = _
        rw [HR.out, List.take_of_length_le (by have := HL.out; omega)]
      go_wp2
      go_ret
      exact ⟨⟨R, by rw [HSR.out]; rfl, .inl HE.out⟩, rfl⟩
set_option maxHeartbeats 400000 in
theorem glue_zero (cap : Nat) (a : Option Addr) (w : World) :
    Calls Try.prog 33 #[.slice a 0 cap] w fun e w' => e = .returned (.string ⟨#[]⟩) ∧ w' = w := by
  go_enter Try.func33, Try.ntmps33
  go_wp2
  refine wp_loop_rounds 1 ?_
  rw [rounds_succ]
  go_wp2
  go_ret
  exact ⟨rfl, rfl⟩
theorem glue_any (a : Option Addr) (len cap : Nat) (ts : List (List UInt8)) (w : World) (h : Ss w a len cap (ts.map strOf)) (hs : ∀ x ∈ ts, x.length ≤ 2000) :
    Calls Try.prog 33 #[.slice a len cap] w fun e w' => (∃ R, e = .returned (.string (strOf R)) ∧ (R = glueL ts ∨ (100 < R.length ∧ R.length ≤ 3000 ∧ R.length ≤ (glueL ts).length))) ∧ w' = w := by
  by_cases h0 : 0 < len
  · obtain ⟨b, off, rfl, hc⟩ := h.at h0
    exact glue_in b off len cap ts w (by have := h.1; simpa using this) (Nat.le_trans h.2.1 h.2.2.1) (fun i hi => by have := hc i (by simpa using hi); simpa using this) hs
  · obtain rfl : len = 0 := by omega
    have e : ts = [] := List.eq_nil_of_length_eq_zero (by have := h.1; simpa using this)
    subst e
    refine (glue_zero cap a w).mono ?_
    rintro e w' ⟨rfl, rfl⟩
    exact ⟨⟨[], rfl, .inl rfl⟩, rfl⟩
theorem glue_full (a : Option Addr) (len cap : Nat) (ts : List (List UInt8)) (w : World) (h : Ss w a len cap (ts.map strOf)) (hs : ∀ x ∈ ts, x.length ≤ 2000) (h32 : (glueL ts).length ≤ 100) :
    Calls Try.prog 33 #[.slice a len cap] w fun e w' => e = .returned (.string (strOf (glueL ts))) ∧ w' = w := by
  refine (glue_any a len cap ts w h hs).mono ?_
  rintro e w' ⟨⟨R, rfl, hR⟩, rfl⟩
  rcases hR with rfl | ⟨h1, _, h2⟩
  · exact ⟨rfl, rfl⟩
  · omega
theorem glue_long (a : Option Addr) (len cap : Nat) (ts : List (List UInt8)) (w : World) (h : Ss w a len cap (ts.map strOf)) (hs : ∀ x ∈ ts, x.length ≤ 2000) (h32 : 32 < (glueL ts).length) (hM : (glueL ts).length ≤ 300000) :
    Calls Try.prog 33 #[.slice a len cap] w fun e w' => (∃ S : ByteArray, e = .returned (.string S) ∧ 32 < S.size ∧ S.size ≤ 300000) ∧ w' = w := by
  refine (glue_any a len cap ts w h hs).mono ?_
  rintro e w' ⟨⟨R, rfl, hR⟩, rfl⟩
  rcases hR with rfl | ⟨h1, h2, _⟩
  · exact ⟨⟨_, rfl, by rw [strOf_size]; exact h32, by rw [strOf_size]; exact hM⟩, rfl⟩
  · exact ⟨⟨_, rfl, by rw [strOf_size]; omega, by rw [strOf_size]; omega⟩, rfl⟩
theorem above_good {l : List UInt8} (h : goodL l = true) : aboveL l = glueL ((cutL l).take ((cutL l).length - 1)) := by
  rw [aboveL, if_pos h, List.dropLast_eq_take]
set_option maxRecDepth 100000 in
set_option maxHeartbeats 1000000 in
theorem rabove_any (s : ByteArray) (w : World) (hs : s.size ≤ 9223372036854775807) :
    Calls Try.prog 21 #[.string s] w fun e w' => e = .returned (.string (strOf (aboveL s.data.toList))) ∧ Below w.heap.size w w' := by
  have HP := rparts_any s w hs
  cases h : goodL s.data.toList with
  | false =>
    rw [show aboveL s.data.toList = [] by rw [aboveL, if_neg (by simp [h])]]
    rw [parts_bad h] at HP
    clear h
    go_enter Try.func21, Try.ntmps21
    go_wp2_with fail
    refine HP.mono ?_
    rintro e w2 ⟨a, cap, rfl, hss, hb2⟩
    simp only [List.length_nil] at *
    go_wp2
    go_ret
    exact ⟨rfl, hb2⟩
  | true =>
    rw [parts_good h] at HP
    have h32 := good_size h
    have hN0 : 0 < (cutL s.data.toList).length := List.length_pos_iff.2 (cutL_ne _)
    have hN1 : (cutL s.data.toList).length ≤ 33 := by have := cut_count s.data.toList; rw [len_size] at this; omega
    have HSZ : Hid (∀ x ∈ cutL s.data.toList, x.length ≤ 2000) := fun x hx => by have := cut_sizes _ _ hx; rw [len_size] at this; omega
    have HLE : Hid (∀ k, (glueL ((cutL s.data.toList).take k)).length ≤ 100) := fun k => by
      have := glue_take_le (cutL s.data.toList) k
      rw [glue_cut, len_size] at this
      omega
    have HAB : Hid (aboveL s.data.toList = glueL ((cutL s.data.toList).take ((cutL s.data.toList).length - 1))) := above_good h
    generalize cutL s.data.toList = L at *
    generalize aboveL s.data.toList = A at *
    obtain ⟨N, hN⟩ : ∃ N, L.length = N := ⟨_, rfl⟩
    rw [hN] at HP hN0 hN1 HAB
    obtain ⟨M, hM⟩ : ∃ M, N - 1 = M := ⟨_, rfl⟩
    rw [hM] at HAB
    have hMi : (N : Int) - 1 = (M : Int) := by omega
    have hMN : M ≤ N := by omega
    have hNe : ((N : Int) == 0) = false := by simp; omega
    have hNe' : ¬ (N : Int) = 0 := by omega
    clear h hM hN
    go_enter Try.func21, Try.ntmps21
    go_wp2_with fail
    refine HP.mono ?_
    rintro e w2 ⟨a, cap, rfl, hss, hb2⟩
    have hto := ss_to hss M hMN
    have hup := hss.upto M hMN
    rw [← List.map_take] at hup
    have HGL := glue_full a M cap (L.take M) w2 hup (fun x hx => HSZ.out x (List.mem_of_mem_take hx)) (HLE.out M)
    rw [← HAB.out] at HGL
    clear hss hup HP
    go_wp2_with fail
    refine HGL.mono ?_
    rintro e w3 ⟨rfl, hw3⟩
    subst w3
    go_wp2
    go_ret
    exact ⟨rfl, hb2⟩
end Go.Proofs.Ytdcjnoknnfcogaa
