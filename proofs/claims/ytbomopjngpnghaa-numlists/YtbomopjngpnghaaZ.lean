/- The walks over the document's GetList and Same. -/
import Derived.Test.YtbomopjngpnghaaJ
import Derived.Deep.RegionWith
namespace Go.Proofs.Ytbomopjngpnghaa
open Go.RowKit

set_option maxHeartbeats 800000 in
theorem rglist_run (bs : List UInt8) (p many most : Int) (n0 : Nat) (Q : Nat) (ts : List (List UInt8)) (q : Int) (er : Nat) (w : World) (hl : bs.length ≤ 1000000) (hmany : 0 ≤ many ∧ many ≤ 9223372036854775807) (hn : (n0 : Int) ≤ many)
    (HR : Hid (getAt bs p = (n0, (Q : Int), 0))) (hp : -9223372036854775808 ≤ p ∧ p ≤ 9223372036854775807) (hm : -9223372036854775808 ≤ most ∧ most ≤ 9223372036854775807) (hst : LRel bs most (ts, q, er) n0 0 (Q : Int) []) :
    Calls Try.prog 21 #[.string (strOf bs), .int .i64 p, .int .i64 many, .int .i64 most] w fun e w' => ∃ la ln lc, e = .returned (.tuple #[.slice la ln lc, .int .i64 q, .int .i64 (er : Int)]) ∧ Ss w' la ln lc (ts.map strOf) ∧ Below w.heap.size w w' := by
  have HM : Hid _ := hm
  obtain ⟨i0, hi, hz0, hz1, hz2⟩ := info_parts info9
  clear hm
  go_enter Try.func21, Try.ntmps21
  go_wp2_with (go_at_call 15; refine (rgetS bs _ n0 Q 0 HR.out _ (by omega) hp).mono ?_; rintro e w' ⟨rfl, hw⟩; subst w')
  go_loopw [12, 14, 15] (fun pl v i wr => ∃ (k : Nat) (x : Int) (acc : List (List UInt8)), i = .int .u64 k ∧ pl = .int .i64 x ∧ LRel bs most (ts, q, er) n0 k x acc ∧ wr.ownsRow w.heap.size 9 1 v k (strsV acc) ∧ Below w.heap.size w wr) (fun _ _ i _ => n0 - (intOf i).toNat)
  case atStart => exact ⟨0, Q, [], rfl, rfl, hst, World.ownsRow_nil _ _ _ _, Below.refl _ _⟩
  case round =>
    clear hst
    obtain ⟨k, x, acc, rfl, rfl, hrel, hown, hbel⟩ := hrel
    have hk := hrel.1
    have hx1 := hrel.2.2.2.1
    have hx2 : x ≤ 1000000 := by have := hrel.2.2.2.2; omega
    by_cases hkn : k < n0
    · obtain ⟨t, x', er', ht⟩ : ∃ t x' er', textAt bs x most = (t, x', er') := ⟨_, _, _, rfl⟩
      have HT : Hid (textAt bs x most = (t, x', er')) := ht
      by_cases he' : er' = 0
      · subst he'
        have hnx := hrel.next hkn ht
        have hk2 : k ≤ 1000000 := by omega
        clear ht
        go_wp2_with (first
          | (go_at_call 17; refine (rgtext_any bs _ _ t x' 0 HT.out _ (by omega) (by omega) HM.out).mono ?_; rintro e w' ⟨rfl, hw⟩; subst w')
          | (at_builtin; refine wpList_append_own _ rfl (.tmp 51) (.tmp 53) 38 rfl w.heap.size 9 i0 (.string ByteArray.empty) 1 16 Try.underlying38 hi hz0 hz1 hz2 rfl (by decide) _ k (strsV acc) rfl (hown.alloc _) ⟨wr.heap.size, 0, none⟩ 1 1 [.string (strOf t)] rfl rfl (one_new _ _ _) (by simp [Value.oneCell']) (by unfold maxLen; omega) (by omega) (by have := hbel.size; simp; omega) ?_))
        intro v' w1 hown1 hgrow1 _
        have hown1' : w1.ownsRow w.heap.size 9 1 v' (k + 1) (strsV (acc ++ [t])) := by simpa [strsV] using hown1
        have hbel1 : Below w.heap.size w w1 := (hbel.alloc hbel.size _).grown hgrow1 (by have := hbel.size; simp; omega) (fun j hj => (hown.lt j hj).1)
        clear hown1 hgrow1 hown hrel
        go_wp2
        go_roundw
        case rel => exact ⟨k + 1, x', acc ++ [t], by go_num, rfl, hnx, hown1', hbel1⟩
        case measure => simp [intOf]; omega
      · have HF : Hid ((ts, q, er) = ([], 0, er')) := hrel.fail hkn ht he'
        have her' : ((er' : Int) == 0) = false := by simp [he']
        clear ht hrel
        go_wp2_with (go_at_call 17; refine (rgtext_any bs _ _ t x' er' HT.out _ (by omega) (by omega) HM.out).mono ?_; rintro e w' ⟨rfl, hw⟩; subst w')
        go_ret3
        have hf := HF.out
        simp only [Prod.mk.injEq] at hf
        obtain ⟨rfl, rfl, rfl⟩ := hf
        exact ⟨none, 0, 0, rfl, ⟨rfl, by omega, by omega, fun _ => rfl, by intro ad h; cases h⟩, hbel⟩
    · have HF : Hid ((ts, q, er) = (acc, x, 0)) := hrel.fin hkn
      clear hrel
      obtain ⟨la, lc, hv, hss⟩ := Ss.owned hown
      rw [hv]
      go_wp2
      go_ret3
      have hf := HF.out
      simp only [Prod.mk.injEq] at hf
      obtain ⟨rfl, rfl, rfl⟩ := hf
      exact ⟨la, k, lc, rfl, hss, hbel⟩

set_option maxHeartbeats 800000 in
theorem same_yes (b1 o1 c1 b2 o2 c2 n : Nat) (ss : List ByteArray) (w : World) (hl : ss.length = n) (hn : n ≤ 9223372036854775807) (h1 : ∀ i (h : i < ss.length), w.cell? ⟨b1, o1 + i, none⟩ = some (.string ss[i])) (h2 : ∀ i (h : i < ss.length), w.cell? ⟨b2, o2 + i, none⟩ = some (.string ss[i])) :
    Calls Try.prog 24 #[.slice (some ⟨b1, o1, none⟩) n c1, .slice (some ⟨b2, o2, none⟩) n c2] w fun e w' => e = .returned (.bool true) ∧ Below w.heap.size w w' := by
  have HL : Hid (ss.length = n) := hl
  have H1 : Hid (∀ i (h : i < ss.length), w.cell? ⟨b1, o1 + i, none⟩ = some (.string ss[i])) := h1
  have H2 : Hid (∀ i (h : i < ss.length), w.cell? ⟨b2, o2 + i, none⟩ = some (.string ss[i])) := h2
  clear hl h1 h2
  go_enter Try.func24, Try.ntmps24
  go_wp2
  go_loopw [5] (fun i wr => ∃ k : Nat, k ≤ n ∧ i = .int .i64 k ∧ Below w.heap.size w wr) (fun i _ => n - (intOf i).toNat)
  case atStart => exact ⟨0, by omega, rfl, Below.refl _ _⟩
  case round =>
    obtain ⟨k, hk, rfl, hbel⟩ := hrel
    by_cases hlt : k < n
    · have hlt' : k < ss.length := by have := HL.out; omega
      have hc1 : wr.cell? ⟨b1, o1 + k, none⟩ = some (.string ss[k]) := by
        have := H1.out k hlt'
        rw [hbel.cell (World.block_lt_of_cell? w _ this)]; exact this
      have hc2 : wr.cell? ⟨b2, o2 + k, none⟩ = some (.string ss[k]) := by
        have := H2.out k hlt'
        rw [hbel.cell (World.block_lt_of_cell? w _ this)]; exact this
      generalize ss[k] = s at hc1 hc2
      have hi1 : (k : Int) < (n : Int) := by omega
      go_wp2
      go_region
      all_goals
        go_wp2
        go_roundw
        case rel => exact ⟨k + 1, by omega, by go_num, hbel.drew⟩
        case measure => simp [intOf]; omega
    · go_wp2
      go_ret
      exact ⟨rfl, hbel⟩

theorem Ss.none (w : World) : Ss w none 0 0 [] := ⟨rfl, by omega, by omega, fun _ => rfl, by intro ad h; cases h⟩

set_option maxHeartbeats 800000 in
theorem rglist_any (bs : List UInt8) (p many most : Int) (ts : List (List UInt8)) (q : Int) (er : Nat) (hr : listAt bs p many most = (ts, q, er)) (w : World) (hl : bs.length ≤ 1000000)
    (hp : -9223372036854775808 ≤ p ∧ p ≤ 9223372036854775807) (hmy : -9223372036854775808 ≤ many ∧ many ≤ 9223372036854775807) (hm : -9223372036854775808 ≤ most ∧ most ≤ 9223372036854775807) :
    Calls Try.prog 21 #[.string (strOf bs), .int .i64 p, .int .i64 many, .int .i64 most] w fun e w' => ∃ la ln lc, e = .returned (.tuple #[.slice la ln lc, .int .i64 q, .int .i64 (er : Int)]) ∧ Ss w' la ln lc (ts.map strOf) ∧ Below w.heap.size w w' := by
  obtain ⟨n0, q0, er0, hr0⟩ : ∃ n q er, getAt bs p = (n, q, er) := ⟨_, _, _, rfl⟩
  have HR : Hid (getAt bs p = (n0, q0, er0)) := hr0
  by_cases he : er0 = 0
  · subst he
    obtain ⟨P, Q, hPp, rfl, hPQ, hQ, _, hn⟩ := getAt_ok hr0
    by_cases hx : max many 0 < (n0 : Int)
    · have hc : cntAt bs p many = (0, 0, 2) := by unfold cntAt; rw [hr0]; simp only; rw [if_neg (by simp), if_pos hx]
      unfold listAt at hr
      rw [hc] at hr
      simp only at hr
      rw [if_pos (by decide)] at hr
      simp only [Prod.mk.injEq] at hr
      obtain ⟨rfl, rfl, rfl⟩ := hr
      clear hr0 hc hPp
      by_cases h0 : many < 0
      all_goals
        go_enter Try.func21, Try.ntmps21
        go_wp2_with (go_at_call 15; refine (rgetS bs _ n0 Q 0 HR.out _ (by omega) hp).mono ?_; rintro e w' ⟨rfl, hw⟩; subst w')
        go_ret3
        exact ⟨none, 0, 0, rfl, Ss.none _, Below.refl _ _⟩
    · have hc : cntAt bs p many = (n0, (Q : Int), 0) := by unfold cntAt; rw [hr0]; simp only; rw [if_neg (by simp), if_neg hx]
      unfold listAt at hr
      rw [hc] at hr
      simp only at hr
      rw [if_neg (by simp)] at hr
      clear hr0 hc hPp
      by_cases h0 : many < 0
      · obtain rfl : n0 = 0 := by omega
        simp only [textsAt, Prod.mk.injEq] at hr
        obtain ⟨rfl, rfl, rfl⟩ := hr
        clear hx
        go_enter Try.func21, Try.ntmps21
        go_wp2_with (go_at_call 15; refine (rgetS bs _ 0 Q 0 HR.out _ (by omega) hp).mono ?_; rintro e w' ⟨rfl, hw⟩; subst w')
        refine wp_loop_rounds 1 ?_
        rw [rounds_succ]
        go_wp2
        go_ret3
        exact ⟨none, 0, 0, rfl, Ss.none _, Below.refl _ _⟩
      · exact rglist_run bs p many most n0 Q ts q er w hl (by omega) (by omega) HR hp hm ⟨by omega, by rw [← hr, Nat.sub_zero]; exact glue_nil bs most n0 Q, rfl, by omega, by omega⟩
  · have hc : cntAt bs p many = (0, 0, er0) := by unfold cntAt; rw [hr0]; simp only; rw [if_pos he]
    unfold listAt at hr
    rw [hc] at hr
    simp only at hr
    rw [if_pos he] at hr
    simp only [Prod.mk.injEq] at hr
    obtain ⟨rfl, rfl, rfl⟩ := hr
    have her' : ((er0 : Int) == 0) = false := by simp [he]
    clear hr0 hc
    go_enter Try.func21, Try.ntmps21
    go_wp2_with (go_at_call 15; refine (rgetS bs _ n0 q0 er0 HR.out _ (by omega) hp).mono ?_; rintro e w' ⟨rfl, hw⟩; subst w')
    go_ret3
    exact ⟨none, 0, 0, rfl, Ss.none _, Below.refl _ _⟩

set_option maxHeartbeats 400000 in
theorem same_zero (a b : Option Addr) (c1 c2 : Nat) (w : World) :
    Calls Try.prog 24 #[.slice a 0 c1, .slice b 0 c2] w fun e w' => e = .returned (.bool true) ∧ w' = w := by
  go_enter Try.func24, Try.ntmps24
  go_wp2
  refine wp_loop_rounds 1 ?_
  rw [rounds_succ]
  go_wp2
  go_ret
  exact ⟨rfl, rfl⟩

theorem same_any (a b : Option Addr) (n m c1 c2 : Nat) (ss : List ByteArray) (w : World) (h1 : Ss w a n c1 ss) (h2 : Ss w b m c2 ss) :
    Calls Try.prog 24 #[.slice a n c1, .slice b m c2] w fun e w' => e = .returned (.bool true) ∧ Below w.heap.size w w' := by
  obtain rfl : n = m := h1.1.symm.trans h2.1
  by_cases h0 : 0 < n
  · obtain ⟨b1, o1, rfl, hc1⟩ := h1.at h0
    obtain ⟨b2, o2, rfl, hc2⟩ := h2.at h0
    exact same_yes b1 o1 c1 b2 o2 c2 n ss w h1.1 (Nat.le_trans h1.2.1 h1.2.2.1) hc1 hc2
  · obtain rfl : n = 0 := by omega
    exact (same_zero a b c1 c2 w).mono fun e w' ⟨he, hw⟩ => ⟨he, hw ▸ Below.refl _ _⟩
end Go.Proofs.Ytbomopjngpnghaa
