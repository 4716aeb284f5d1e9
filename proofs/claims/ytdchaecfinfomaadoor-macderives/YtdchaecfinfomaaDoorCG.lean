/- Slices of strings; walks over the program's Chain, over small and lives. -/
import Derived.Test.YtdchaecfinfomaaDoorCF
namespace Go.Proofs.YtdchaecfinfomaaDoor
open Go.RowKit
/-- What a walk is told of a slice of strings: its strings, by the cells from its address on. -/
def Ss (w : World) (a : Option Addr) (len cap : Nat) (ss : List ByteArray) : Prop :=
  ss.length = len ∧ len ≤ cap ∧ cap ≤ 9223372036854775807 ∧ (a = none → cap = 0) ∧ ∀ ad, a = some ad → ∀ i (h : i < ss.length), w.cell? (ad.add i) = some (.string ss[i])
theorem Ss.at {w : World} {a : Option Addr} {len cap : Nat} {ss : List ByteArray} (h : Ss w a len cap ss) (h0 : 0 < len) :
    ∃ b off, a = some ⟨b, off, none⟩ ∧ ∀ i (h : i < ss.length), w.cell? ⟨b, off + i, none⟩ = some (.string ss[i]) := by
  obtain ⟨h1, h2, h3, h4, h5⟩ := h
  cases a with
  | none => have := h4 rfl; omega
  | some ad =>
    obtain ⟨b, off, spot⟩ := ad
    have hc := h5 _ rfl 0 (by omega)
    have hspot : spot = none := by simpa [Addr.add] using World.cell?_spot hc
    subst hspot
    refine ⟨b, off, rfl, fun i hi => ?_⟩
    have := h5 _ rfl i hi
    rwa [Addr.add_lit] at this
theorem Ss.on {w w' : World} {a : Option Addr} {len cap : Nat} {ss : List ByteArray} (h : Ss w a len cap ss) (hb : Below w.heap.size w w') : Ss w' a len cap ss := by
  refine ⟨h.1, h.2.1, h.2.2.1, h.2.2.2.1, fun ad had i hi => ?_⟩
  have := h.2.2.2.2 ad had i hi
  rw [hb.cell (World.block_lt_of_cell? w _ this)]
  exact this
theorem Ss.two (w : World) (s t : ByteArray) : Ss (w.alloc (.cells #[.string s, .string t] 9)) (some ⟨w.heap.size, 0, none⟩) 2 2 [s, t] := by
  refine ⟨rfl, by omega, by omega, (by intro e; cases e), ?_⟩
  intro ad had i hi
  cases had
  match i, hi with
  | 0, _ => simp [Addr.add]
  | 1, _ => simp [Addr.add]
theorem Ss.three (w : World) (s t u : ByteArray) : Ss (w.alloc (.cells #[.string s, .string t, .string u] 9)) (some ⟨w.heap.size, 0, none⟩) 3 3 [s, t, u] := by
  refine ⟨rfl, by omega, by omega, (by intro e; cases e), ?_⟩
  intro ad had i hi
  cases had
  match i, hi with
  | 0, _ => simp [Addr.add]
  | 1, _ => simp [Addr.add]
  | 2, _ => simp [Addr.add]
/-- How many bytes strings have together. -/
def tot (ss : List ByteArray) : Nat := (ss.map ByteArray.size).sum
theorem tot_snoc (ss : List ByteArray) (k : Nat) (h : k < ss.length) : tot (ss.take (k + 1)) = tot (ss.take k) + (ss[k]).size := by
  unfold tot
  rw [List.take_succ_eq_append_getElem h, List.map_append, List.sum_append]
  simp
theorem tot_le (ss : List ByteArray) (k : Nat) : tot (ss.take k) ≤ tot ss := by
  have : tot ss = tot (ss.take k) + tot (ss.drop k) := by
    unfold tot
    rw [← List.sum_append, ← List.map_append, List.take_append_drop]
  omega
theorem size_le_tot (ss : List ByteArray) (k : Nat) (h : k < ss.length) : (ss[k]).size ≤ tot ss := by
  have := tot_snoc ss k h
  have := tot_le ss (k + 1)
  omega

set_option maxHeartbeats 400000 in
theorem small_in (b off ln lc : Nat) (ss : List ByteArray) (w : World) (h3 : ln ≤ 20) (hl : ss.length = ln)
    (hcell : ∀ i (h : i < ss.length), w.cell? ⟨b, off + i, none⟩ = some (.string ss[i])) (hs : ∀ i (h : i < ss.length), (ss[i]).size ≤ 140737488351232) :
    Calls Tryd.prog 9 #[.slice (some ⟨b, off, none⟩) ln lc] w fun e w' => e = .returned (.bool (decide (tot ss ≤ 3000))) ∧ w' = w := by
  have HL : Hid (ss.length = ln) := hl
  have HS : Hid (∀ i (h : i < ss.length), (ss[i]).size ≤ 140737488351232) := hs
  clear hl hs
  go_enter Tryd.func9, Tryd.ntmps9
  go_wp2
  go_loop [3, 4] (fun n i => ∃ k T : Nat, k ≤ ln ∧ i = .int .i64 k ∧ n = .int .i64 T ∧ T ≤ 140737488371232 ∧ T = tot (ss.take k)) (fun _ i => ln - (intOf i).toNat)
  case atStart => exact ⟨0, 0, by omega, rfl, rfl, by omega, by simp [tot]⟩
  case round =>
    obtain ⟨k, T, hk, rfl, rfl, hT, hTe⟩ := hrel
    have HT : Hid (T = tot (ss.take k)) := hTe
    clear hTe
    by_cases hlt : k < ln
    · have hlt' : k < ss.length := by have := HL.out; omega
      by_cases hT2 : T ≤ 3000
      · have hc := hcell k hlt'
        have hsz := HS.out k hlt'
        have hsn := tot_snoc ss k hlt'
        obtain ⟨s, hs⟩ : ∃ s, s = ss[k] := ⟨_, rfl⟩
        rw [← hs] at hc hsz hsn
        have HN : Hid (tot (ss.take (k + 1)) = tot (ss.take k) + s.size) := hsn
        clear hcell hsn hs
        go_wp2
        go_round
        case rel => exact ⟨k + 1, T + s.size, by omega, by go_num, by go_num, by omega, by rw [HN.out, ← HT.out]⟩
        case measure => simp [intOf]; omega
      · have hd : Hid (decide (tot ss ≤ 3000) = false) := by
          have := tot_le ss k; have := HT.out; simp [Hid]; omega
        go_wp2
        go_ret
        exact ⟨ret_bool (by rw [hd.out]; simp; omega), rfl⟩
    · have hd : Hid (T = tot ss) := by
        rw [HT.out, List.take_of_length_le (by have := HL.out; omega)]; rfl
      go_wp2
      go_ret
      exact ⟨ret_bool (by rw [← hd.out, decide_eq_decide]; omega), rfl⟩
set_option maxHeartbeats 400000 in
theorem small_zero (lc : Nat) (la : Option Addr) (w : World) :
    Calls Tryd.prog 9 #[.slice la 0 lc] w fun e w' => e = .returned (.bool true) ∧ w' = w := by
  go_enter Tryd.func9, Tryd.ntmps9
  go_wp2
  refine wp_loop_rounds 1 ?_
  rw [rounds_succ]
  go_wp2
  go_ret
  exact ⟨rfl, rfl⟩
set_option maxHeartbeats 400000 in
theorem small_many (ln lc : Nat) (la : Option Addr) (w : World) (hm : ln ≤ 9223372036854775807) (h3 : ¬ ln ≤ 20) :
    Calls Tryd.prog 9 #[.slice la ln lc] w fun e w' => e = .returned (.bool false) ∧ w' = w := by
  go_enter Tryd.func9, Tryd.ntmps9
  go_wp2
  go_ret
  exact ⟨rfl, rfl⟩
theorem small_any (ln lc : Nat) (la : Option Addr) (ss : List ByteArray) (w : World) (h : Ss w la ln lc ss) (hs : ∀ i (h : i < ss.length), (ss[i]).size ≤ 140737488351232) :
    Calls Tryd.prog 9 #[.slice la ln lc] w fun e w' => e = .returned (.bool (decide (ln ≤ 20 ∧ tot ss ≤ 3000))) ∧ w' = w := by
  have hm : ln ≤ 9223372036854775807 := Nat.le_trans h.2.1 h.2.2.1
  by_cases h2 : ln ≤ 20
  · by_cases h0 : 0 < ln
    · obtain ⟨b, off, rfl, hc⟩ := h.at h0
      have := small_in b off ln lc ss w h2 h.1 hc hs
      simpa [h2] using this
    · obtain rfl : ln = 0 := by omega
      have e : ss = [] := List.eq_nil_of_length_eq_zero h.1
      subst e
      have := small_zero lc la w
      simpa [tot] using this
  · have := small_many ln lc la w hm h2
    simpa [h2] using this

/-- A chain over strings. -/
def chainS (k : List UInt8) (ps : List ByteArray) : List UInt8 := ps.foldl (fun k p => sealL k p.data.toList) k
theorem chainS_snoc (k : List UInt8) (ps : List ByteArray) (i : Nat) (h : i < ps.length) : chainS k (ps.take (i + 1)) = sealL (chainS k (ps.take i)) (ps[i]).data.toList := by
  unfold chainS
  rw [List.take_succ_eq_append_getElem h, List.foldl_append]
  rfl
theorem chainS_len (k : List UInt8) (ps : List ByteArray) (n : Nat) (hk : k.length ≤ n) (hn : 32 ≤ n) : (chainS k ps).length ≤ n := by
  induction ps generalizing k with
  | nil => exact hk
  | cons p ps ih => exact ih (sealL k p.data.toList) (by rw [sealL_len]; exact hn)
set_option maxRecDepth 100000 in
theorem chain_zero (k : ByteArray) (cap : Nat) (a : Option Addr) (w : World) :
    Calls Tryd.prog 16 #[.string k, .slice a 0 cap] w fun e w' => e = .returned (.string k) ∧ w' = w := by
  go_enter Tryd.func16, Tryd.ntmps16
  go_wp2
  refine wp_loop_rounds 1 ?_
  rw [rounds_succ]
  go_wp2
  go_ret
  exact ⟨rfl, rfl⟩
set_option maxRecDepth 100000 in
set_option maxHeartbeats 1000000 in
theorem chain_in (k : ByteArray) (b off len cap : Nat) (ps : List ByteArray) (w : World) (hk : k.size ≤ 1000000000) (hlen : len ≤ 9223372036854775807) (hl : ps.length = len) (hcell : ∀ i (h : i < ps.length), w.cell? ⟨b, off + i, none⟩ = some (.string ps[i]))
    (hp : ∀ i (h : i < ps.length), (ps[i]).size ≤ 1000000000) (hL : Laid w) :
    Calls Tryd.prog 16 #[.string k, .slice (some ⟨b, off, none⟩) len cap] w fun e w' => e = .returned (.string (strOf (chainS k.data.toList ps))) ∧ Below w.heap.size w w' := by
  have HL : Hid (Laid w) := hL
  have HPL : Hid (ps.length = len) := hl
  have HC : Hid (∀ i (h : i < ps.length), w.cell? ⟨b, off + i, none⟩ = some (.string ps[i])) := hcell
  have HP : Hid (∀ i (h : i < ps.length), (ps[i]).size ≤ 1000000000) := hp
  have HKS : Hid (k.data.toList.length ≤ 1000000000) := by show _ ≤ _; rw [Array.length_toList]; exact hk
  clear hL hl hcell hp
  go_enter Tryd.func16, Tryd.ntmps16
  go_wp2
  go_loopw [0, 9] (fun ky i wr => ∃ n : Nat, n ≤ len ∧ i = .int .i64 (n : Int) ∧ ky = .string (strOf (chainS k.data.toList (ps.take n))) ∧ Below w.heap.size w wr) (fun _ i _ => len - (intOf i).toNat)
  case atStart => exact ⟨0, by omega, rfl, rfl, Below.refl _ _⟩
  case round =>
    obtain ⟨n, hn, rfl, rfl, hB⟩ := hrel
    by_cases hlt : n < len
    · have hlt' : n < ps.length := by rw [HPL.out]; exact hlt
      have hc := HC.out n hlt'
      have hsz := HP.out n hlt'
      have HS := chainS_snoc k.data.toList ps n hlt'
      obtain ⟨p, hpe⟩ : ∃ p, p = ps[n] := ⟨_, rfl⟩
      rw [← hpe] at hc hsz HS
      have hcw : wr.cell? ⟨b, off + n, none⟩ = some (.string p) := by rw [hB.cell (World.block_lt_of_cell? w _ hc)]; exact hc
      obtain ⟨K, hK⟩ : ∃ K, strOf (chainS k.data.toList (ps.take n)) = K := ⟨_, rfl⟩
      have hKs : K.size ≤ 1000000000 := by rw [← hK, strOf_size]; exact chainS_len _ _ _ HKS.out (by omega)
      have HSE : Hid (Calls Tryd.prog 11 #[.string K, .string p] wr fun e w' => e = .returned (.string (strOf (chainS k.data.toList (ps.take (n + 1))))) ∧ Below w.heap.size w w') := by
        rw [HS, show chainS k.data.toList (ps.take n) = K.data.toList by rw [← hK]; rfl]
        refine (seal_any K p wr hKs hsz (HL.out.below hB)).mono ?_
        rintro e w' ⟨rfl, hB'⟩
        exact ⟨rfl, hB.trans (hB'.mono hB.size)⟩
      rw [hK]
      have kn : (n : Int) < (len : Int) := by omega
      clear hc HS hpe hK hB
      go_wp2_with fail
      refine HSE.out.mono ?_
      rintro e w2 ⟨rfl, hB2⟩
      go_wp2
      exact ⟨⟨n + 1, by omega, by go_num, rfl, hB2⟩, by simp [intOf]; omega⟩
    · obtain rfl : n = len := by omega
      have e : ps.take n = ps := List.take_of_length_le (by rw [HPL.out]; omega)
      rw [e]
      clear e
      go_wp2
      go_ret
      exact ⟨rfl, hB⟩
theorem chain_any (k : ByteArray) (a : Option Addr) (len cap : Nat) (ps : List ByteArray) (w : World) (hk : k.size ≤ 1000000000) (h : Ss w a len cap ps) (hp : ∀ i (h : i < ps.length), (ps[i]).size ≤ 1000000000) (hL : Laid w) :
    Calls Tryd.prog 16 #[.string k, .slice a len cap] w fun e w' => e = .returned (.string (strOf (chainS k.data.toList ps))) ∧ Below w.heap.size w w' := by
  by_cases h0 : 0 < len
  · obtain ⟨b, off, rfl, hc⟩ := h.at h0
    exact chain_in k b off len cap ps w hk (Nat.le_trans h.2.1 h.2.2.1) h.1 hc hp hL
  · obtain rfl : len = 0 := by omega
    have e : ps = [] := List.eq_nil_of_length_eq_zero h.1
    subst e
    refine (chain_zero k cap a w).mono ?_
    rintro e w' ⟨rfl, rfl⟩
    exact ⟨rfl, Below.refl _ _⟩

set_option maxRecDepth 100000 in
set_option maxHeartbeats 1000000 in
theorem lives_any (w : World) (hL : Laid w) :
    Calls Tryd.prog 10 #[] w fun e w' => e = .returned (.bool true) ∧ Below w.heap.size w w' := by
  obtain ⟨D, hD⟩ : ∃ D, strOf (derived [107] [108] 9) = D := ⟨_, rfl⟩
  have hDs : D.size = 9 := by rw [← hD, strOf_size, derived_len _ _ _ (by omega)]
  obtain ⟨E, hE⟩ : ∃ E, strOf (sealL [] []) = E := ⟨_, rfl⟩
  have hEs : E.size = 32 := by rw [← hE, strOf_size, sealL_len]
  have HD : Hid (Calls Tryd.prog 14 #[.string { data := #[107] }, .string { data := #[108] }, .int .i64 9] w fun e w' => e = .returned (.tuple #[.string D, .int .i64 0]) ∧ Below w.heap.size w w') := by
    rw [← hD]; exact derive_any { data := #[107] } { data := #[108] } 9 w (by decide) (by decide) (by omega) hL
  have HC : Hid (∀ W, Calls Tryd.prog 16 #[.string { data := #[107] }, .slice none 0 0] W fun e w' => e = .returned (.string { data := #[107] }) ∧ w' = W) := fun W => chain_zero _ 0 none W
  have HS : Hid (∀ W, Below w.heap.size w W → Calls Tryd.prog 11 #[.string { data := #[] }, .string { data := #[] }] W fun e w' => e = .returned (.string E) ∧ Below w.heap.size w w') := by
    intro W hB
    rw [← hE]
    refine (seal_any { data := #[] } { data := #[] } W (by decide) (by decide) (hL.below hB)).mono ?_
    rintro e w' ⟨rfl, hB'⟩
    exact ⟨rfl, hB.trans (hB'.mono hB.size)⟩
  clear hD hE hL
  go_enter Tryd.func10, Tryd.ntmps10
  go_wp2_with fail
  refine HD.out.mono ?_
  rintro e w2 ⟨rfl, hB2⟩
  have HS2 := HS.out w2 hB2
  go_wp2_with fail
  refine (HC.out _).mono ?_
  rintro e w3 ⟨rfl, hw3⟩
  subst w3
  go_wp2_with fail
  refine HS2.mono ?_
  rintro e w4 ⟨rfl, hB4⟩
  go_wp2
  go_ret
  exact ⟨rfl, hB4⟩
end Go.Proofs.YtdchaecfinfomaaDoor
