/- Slices of strings; the walk over small. -/
import Derived.Test.YtbomopjngpnghabS
namespace Go.Proofs.Ytbomopjngpnghab
open Go.RowKit

/-- WHAT A WALK IS TOLD OF A SLICE OF STRINGS: its strings, by the cells from its address on. -/
def Ss (w : World) (a : Option Addr) (len cap : Nat) (ss : List ByteArray) : Prop :=
  ss.length = len ∧ len ≤ cap ∧ cap ≤ 9223372036854775807 ∧ (a = none → cap = 0) ∧ ∀ ad, a = some ad → ∀ i (h : i < ss.length), w.cell? (ad.add i) = some (.string ss[i])

theorem Ss.at {w : World} {a : Option Addr} {len cap : Nat} {ss : List ByteArray} (h : Ss w a len cap ss) (h0 : 0 < len) :
    ∃ b off, a = some ⟨b, off, none⟩ ∧ ∀ i (h : i < ss.length), w.cell? ⟨b, off + i, none⟩ = some (.string ss[i]) := by
  obtain ⟨h1, h2, h3, h4, h5⟩ := h
  cases a with
  | none => have := h4 rfl; omega
  | some ad =>
    obtain ⟨b, off, spot⟩ := ad
    have hc := h5 _ rfl 0 (by omega)
    have hspot : spot = none := by simpa [Addr.add] using World.cell?_spot hc
    subst hspot
    refine ⟨b, off, rfl, fun i hi => ?_⟩
    have := h5 _ rfl i hi
    rwa [Addr.add_lit] at this
theorem Ss.on {w w' : World} {a : Option Addr} {len cap : Nat} {ss : List ByteArray} (hb : Below w.heap.size w w') (h : Ss w a len cap ss) : Ss w' a len cap ss := by
  refine ⟨h.1, h.2.1, h.2.2.1, h.2.2.2.1, fun ad had i hi => ?_⟩
  have := h.2.2.2.2 ad had i hi
  rw [hb.cell (World.block_lt_of_cell? w _ this)]
  exact this
theorem Ss.on' {w w' : World} {a : Option Addr} {len cap : Nat} {ss : List ByteArray} (h : Ss w a len cap ss) (hb : Below w.heap.size w w') : Ss w' a len cap ss := Ss.on hb h
theorem Bs.laid {w : World} {a : Option Addr} {len cap : Nat} {bs : List UInt8} (h : Bs w a len cap bs) (o : Obj) : Bs (w.alloc o) a len cap bs := h.grown (World.grownBy_alloc w o none) (fun k hk => by cases hk)
theorem Ss.laid {w : World} {a : Option Addr} {len cap : Nat} {ss : List ByteArray} (h : Ss w a len cap ss) (o : Obj) : Ss (w.alloc o) a len cap ss := h.on' ((Below.refl _ _).alloc (Nat.le_refl _) o)
theorem Ss.one (w : World) (s : ByteArray) : Ss (w.alloc (.cells #[.string s] 9)) (some ⟨w.heap.size, 0, none⟩) 1 1 [s] := by
  refine ⟨rfl, by omega, by omega, (by intro e; cases e), ?_⟩
  intro ad had i hi
  cases had
  match i, hi with
  | 0, _ => simp [Addr.add]

/-- How many bytes strings have together. -/
def tot (ss : List ByteArray) : Nat := (ss.map ByteArray.size).sum
theorem tot_snoc (ss : List ByteArray) (k : Nat) (h : k < ss.length) : tot (ss.take (k + 1)) = tot (ss.take k) + (ss[k]).size := by
  unfold tot
  rw [List.take_succ_eq_append_getElem h, List.map_append, List.sum_append]
  simp
theorem tot_le (ss : List ByteArray) (k : Nat) : tot (ss.take k) ≤ tot ss := by
  have : tot ss = tot (ss.take k) + tot (ss.drop k) := by
    unfold tot
    rw [← List.sum_append, ← List.map_append, List.take_append_drop]
  omega
theorem size_le_tot (ss : List ByteArray) (k : Nat) (h : k < ss.length) : (ss[k]).size ≤ tot ss := by
  have := tot_snoc ss k h
  have := tot_le ss (k + 1)
  omega

set_option maxHeartbeats 400000 in
theorem small_in (a : Option Addr) (len cap b off ln lc : Nat) (ss : List ByteArray) (w : World) (h20 : len ≤ 20000) (h3 : ln ≤ 300) (hl : ss.length = ln)
    (hcell : ∀ i (h : i < ss.length), w.cell? ⟨b, off + i, none⟩ = some (.string ss[i])) (hs : ∀ i (h : i < ss.length), (ss[i]).size ≤ 140737488351232) :
    Calls Try.prog 4 #[.slice a len cap, .slice (some ⟨b, off, none⟩) ln lc] w fun e w' => e = .returned (.bool (decide (tot ss ≤ 20000))) ∧ w' = w := by
  have HL : Hid (ss.length = ln) := hl
  have HS : Hid (∀ i (h : i < ss.length), (ss[i]).size ≤ 140737488351232) := hs
  clear hl hs
  go_enter Try.func4, Try.ntmps4
  go_wp2
  go_loop [5, 6] (fun n i => ∃ k T : Nat, k ≤ ln ∧ i = .int .i64 k ∧ n = .int .i64 T ∧ T ≤ 140737488371232 ∧ T = tot (ss.take k)) (fun _ i => ln - (intOf i).toNat)
  case atStart => exact ⟨0, 0, by omega, rfl, rfl, by omega, by simp [tot]⟩
  case round =>
    obtain ⟨k, T, hk, rfl, rfl, hT, hTe⟩ := hrel
    have HT : Hid (T = tot (ss.take k)) := hTe
    clear hTe
    by_cases hlt : k < ln
    · have hlt' : k < ss.length := by have := HL.out; omega
      by_cases hT2 : T ≤ 20000
      · have hc := hcell k hlt'
        have hsz := HS.out k hlt'
        have hsn := tot_snoc ss k hlt'
        obtain ⟨s, hs⟩ : ∃ s, s = ss[k] := ⟨_, rfl⟩
        rw [← hs] at hc hsz hsn
        have HN : Hid (tot (ss.take (k + 1)) = tot (ss.take k) + s.size) := hsn
        clear hcell hsn hs
        go_wp2
        go_round
        case rel => exact ⟨k + 1, T + s.size, by omega, by go_num, by go_num, by omega, by rw [HN.out, ← HT.out]⟩
        case measure => simp [intOf]; omega
      · have hd : Hid (decide (tot ss ≤ 20000) = false) := by
          have := tot_le ss k; have := HT.out; simp [Hid]; omega
        go_wp2
        go_ret
        exact ⟨ret_bool (by rw [hd.out]; simp; omega), rfl⟩
    · have hd : Hid (T = tot ss) := by
        rw [HT.out, List.take_of_length_le (by have := HL.out; omega)]; rfl
      go_wp2
      go_ret
      exact ⟨ret_bool (by rw [← hd.out, decide_eq_decide]; omega), rfl⟩

set_option maxHeartbeats 400000 in
theorem small_zero (a : Option Addr) (len cap lc : Nat) (la : Option Addr) (w : World) (h20 : len ≤ 20000) :
    Calls Try.prog 4 #[.slice a len cap, .slice la 0 lc] w fun e w' => e = .returned (.bool true) ∧ w' = w := by
  go_enter Try.func4, Try.ntmps4
  go_wp2
  refine wp_loop_rounds 1 ?_
  rw [rounds_succ]
  go_wp2
  go_ret
  exact ⟨rfl, rfl⟩
set_option maxHeartbeats 400000 in
theorem small_many (a : Option Addr) (len cap ln lc : Nat) (la : Option Addr) (w : World) (h20 : len ≤ 20000) (hm : ln ≤ 9223372036854775807) (h3 : ¬ ln ≤ 300) :
    Calls Try.prog 4 #[.slice a len cap, .slice la ln lc] w fun e w' => e = .returned (.bool false) ∧ w' = w := by
  go_enter Try.func4, Try.ntmps4
  go_wp2
  go_ret
  exact ⟨rfl, rfl⟩

theorem small_gen (a : Option Addr) (len cap ln lc : Nat) (la : Option Addr) (ss : List ByteArray) (w : World) (hm : len ≤ 9223372036854775807) (h : Ss w la ln lc ss) (hs : ∀ i (h : i < ss.length), (ss[i]).size ≤ 140737488351232) :
    Calls Try.prog 4 #[.slice a len cap, .slice la ln lc] w fun e w' => e = .returned (.bool (decide (len ≤ 20000 ∧ ln ≤ 300 ∧ tot ss ≤ 20000))) ∧ w' = w := by
  by_cases h1 : len ≤ 20000
  · by_cases h2 : ln ≤ 300
    · by_cases h0 : 0 < ln
      · obtain ⟨b, off, rfl, hc⟩ := h.at h0
        have := small_in a len cap b off ln lc ss w h1 h2 h.1 hc hs
        simpa [h1, h2] using this
      · obtain rfl : ln = 0 := by omega
        have hss : ss = [] := List.eq_nil_of_length_eq_zero h.1
        subst hss
        simpa [h1, tot] using small_zero a len cap lc la w h1
    · simpa [h1, h2] using small_many a len cap ln lc la w h1 (Nat.le_trans h.2.1 h.2.2.1) h2
  · simpa [h1] using small_no a len cap (.slice la ln lc) w hm h1
theorem small_gen_yes (a : Option Addr) (len cap ln lc : Nat) (la : Option Addr) (ss : List ByteArray) (w : World) (h : Ss w la ln lc ss) (hy : len ≤ 20000 ∧ ln ≤ 300 ∧ tot ss ≤ 20000) :
    Calls Try.prog 4 #[.slice a len cap, .slice la ln lc] w fun e w' => e = .returned (.bool true) ∧ w' = w := by
  have := small_gen a len cap ln lc la ss w (by omega) h (fun i hi => by have := size_le_tot ss i hi; omega)
  rwa [decide_eq_true hy] at this
theorem small_gen_no (a : Option Addr) (len cap ln lc : Nat) (la : Option Addr) (ss : List ByteArray) (w : World) (hm : len ≤ 9223372036854775807) (h : Ss w la ln lc ss) (hs : ∀ i (h : i < ss.length), (ss[i]).size ≤ 140737488351232) (hy : ¬ (len ≤ 20000 ∧ ln ≤ 300 ∧ tot ss ≤ 20000)) :
    Calls Try.prog 4 #[.slice a len cap, .slice la ln lc] w fun e w' => e = .returned (.bool false) ∧ w' = w := by
  have := small_gen a len cap ln lc la ss w hm h hs
  rwa [decide_eq_false hy] at this
end Go.Proofs.Ytbomopjngpnghab
