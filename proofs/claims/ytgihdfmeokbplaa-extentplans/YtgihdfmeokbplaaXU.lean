/- A reader in memory; walk over its number. -/
import Derived.Test.YtgihdfmeokbplaaHF
import Derived.Test.YtgihdfmeokbplaaXR
import Derived.Test.YtgihdfmeokbplaaEC
import Derived.BigQuiet
namespace Go.Proofs.Ytgihdfmeokbplaa
open Go.RowKit Ex
theorem getL_no : ∀ (l : List UInt8) (i acc : Nat), (getL l i acc).2.2 ≠ 0 → (getL l i acc).1 = 0
  | [], i, acc, h => by unfold getL; split <;> rfl
  | c :: t, i, acc, h => by
    unfold getL at h ⊢
    split
    · rfl
    · next h1 =>
      rw [if_neg h1] at h
      split
      · next h2 => rw [if_pos h2] at h; exact getL_no t _ _ h
      · next h2 =>
        rw [if_neg h2] at h
        split
        · rfl
        · next h3 => rw [if_neg h3] at h; exact absurd rfl h
theorem getAt_pl (bs : List UInt8) (p : Int) : 0 ≤ (getAt bs p).2.1 ∧ (getAt bs p).2.1 ≤ bs.length ∧ (getAt bs p).1 < 18446744073709551616 := by
  unfold getAt
  split
  · exact ⟨by simp, by simp, by simp⟩
  · next hb =>
    simp only
    obtain ⟨m, k, c, hg⟩ : ∃ m k c, getL (bs.drop p.toNat) 0 0 = (m, k, c) := ⟨_, _, _, rfl⟩
    rw [hg]
    simp only
    by_cases hc : c = 0
    · subst hc
      obtain ⟨n, h1, h2, h3, h4, _, h6⟩ := getL_least _ _ _ _ _ hg (by omega)
      rw [List.length_drop] at h4
      rw [Nat.pow_zero, Nat.mul_one] at h1 h6
      rw [if_pos rfl]
      exact ⟨by omega, by omega, by omega⟩
    · have := getL_no (bs.drop p.toNat) 0 0 (by rw [hg]; exact hc)
      rw [hg] at this
      simp only at this
      rw [if_neg hc]
      exact ⟨by omega, by omega, by omega⟩
/-- A reader's row. -/
def rdR (a : Option Addr) (len cap : Nat) (p : Int) (e : Nat) : Obj := .cells #[.slice a len cap, .int .i64 p, .int .i64 (e : Int)] 92 (0, 0)
/-- The next number, cut to one above all sizes; behind an error nought. -/
def rdN (bs : List UInt8) (p : Int) (e : Nat) : Nat × Int × Nat := if e ≠ 0 then (0, p, e) else (min (getAt bs p).1 1048577, (getAt bs p).2.1, (getAt bs p).2.2)
def inP (bs : List UInt8) (p : Int) : Prop := -9223372036854775808 ≤ p ∧ p ≤ 9223372036854775807 ∧ bs.length ≤ 9223372036854775807
theorem rdN_in {bs : List UInt8} {p : Int} {e : Nat} (h : inP bs p) : inP bs (rdN bs p e).2.1 := by
  unfold rdN
  split
  · exact h
  · have := getAt_pl bs p
    exact ⟨by simp only; omega, by simp only; have := h.2.2; omega, h.2.2⟩
theorem rdN_le (bs : List UInt8) (p : Int) (e : Nat) : (rdN bs p e).1 ≤ 1048577 := by
  unfold rdN
  split
  · simp
  · simp only; omega
theorem rd3 {w : World} {rb : Nat} {a : Option Addr} {len cap : Nat} {p : Int} {e : Nat} (h : w.heap[rb]? = some (rdR a len cap p e)) : w.cell? ⟨rb, 0, none⟩ = some (.slice a len cap) ∧ w.cell? ⟨rb, 1, none⟩ = some (.int .i64 p) ∧ w.cell? ⟨rb, 2, none⟩ = some (.int .i64 (e : Int)) ∧ w.frozen? ⟨rb, 0, none⟩ = false ∧ w.frozen? ⟨rb, 1, none⟩ = false ∧ w.frozen? ⟨rb, 2, none⟩ = false := by
  unfold rdR at h
  exact ⟨by rw [cell_of_row _ _ _ _ _ _ h]; rfl, by rw [cell_of_row _ _ _ _ _ _ h]; rfl, by rw [cell_of_row _ _ _ _ _ _ h]; rfl, frozen_of_row w rb 0 _ _ h, frozen_of_row w rb 1 _ _ h, frozen_of_row w rb 2 _ _ h⟩
set_option maxRecDepth 100000 in
set_option maxHeartbeats 2000000 in
theorem rdnum_any {w : World} {rb : Nat} {a : Option Addr} {len cap : Nat} {bs : List UInt8} {p : Int} {e : Nat} (h : w.heap[rb]? = some (rdR a len cap p e)) (hb : Bs w a len cap bs) (hp : inP bs p) : Calls Try.prog 69 #[.pointer (some ⟨rb, 0, none⟩)] w fun e' w' => e' = .returned (.int .i64 ((rdN bs p e).1 : Int)) ∧ w'.heap[rb]? = some (rdR a len cap (rdN bs p e).2.1 (rdN bs p e).2.2) ∧ Upd (fun x => x = rb) w w' := by
  obtain ⟨y0, y1, y2, f0, f1, f2⟩ := rd3 h
  unfold rdR at h
  by_cases he : e = 0
  · subst he
    have hr : rdN bs p 0 = (min (getAt bs p).1 1048577, (getAt bs p).2.1, (getAt bs p).2.2) := by unfold rdN; rw [if_neg (by simp)]
    rw [hr]
    obtain ⟨n, q, er, hg⟩ : ∃ n q er, getAt bs p = (n, q, er) := ⟨_, _, _, rfl⟩
    have hn : n < 18446744073709551616 := by have := (getAt_pl bs p).2.2; rw [hg] at this; exact this
    have HG : Hid (Calls Try.prog 84 #[.slice a len cap, .int .i64 p] w.drew fun e w' => e = .returned (.tuple #[.int .u64 (n : Int), .int .i64 q, .int .i64 (er : Int)]) ∧ w' = w.drew) := by
      have h9 := get_any a len cap bs p w.drew (hb.below (Below.refl _ _).drew) hp.1 hp.2.1
      rw [hg] at h9
      exact h9
    rw [hg]
    simp only
    obtain ⟨m, hm⟩ : ∃ m, min n 1048577 = m := ⟨_, rfl⟩
    have hmi : min (n : Int) 1048577 = (m : Int) := by omega
    have hmb : m ≤ 1048577 := by omega
    rw [hm]
    have wm : IntKind.i64.wrap (m : Int) = (m : Int) := by rw [IntKind.wrap_i64]; omega
    obtain ⟨V3, hV3⟩ : ∃ V3, w.drew.setCell ⟨rb, 1, none⟩ (.int .i64 q) = V3 := ⟨_, rfl⟩
    have h3 : V3.heap[rb]? = some (.cells #[.slice a len cap, .int .i64 q, .int .i64 ((0 : Nat) : Int)] 92 (0, 0)) := by rw [← hV3, heap_setCell_same w.drew _ _ _ _ _ h]; rfl
    obtain ⟨V4, hV4⟩ : ∃ V4, V3.setCell ⟨rb, 2, none⟩ (.int .i64 (er : Int)) = V4 := ⟨_, rfl⟩
    have h4 : V4.heap[rb]? = some (.cells #[.slice a len cap, .int .i64 q, .int .i64 (er : Int)] 92 (0, 0)) := by rw [← hV4, heap_setCell_same V3 _ _ _ _ _ h3]; rfl
    have s1 : V3.cell? ⟨rb, 0, none⟩ = some (.slice a len cap) := by rw [cell_of_row _ _ _ _ _ _ h3]; rfl
    have k2 := frozen_of_row V3 rb 2 _ _ h3
    have s2 : V4.cell? ⟨rb, 0, none⟩ = some (.slice a len cap) := by rw [cell_of_row _ _ _ _ _ _ h4]; rfl
    have HE : Hid (V4.heap[rb]? = some (rdR a len cap q er) ∧ Upd (fun x => x = rb) w V4) := ⟨h4, by rw [← hV4, ← hV3]; exact (((Upd.refl (fun x => x = rb) w).drew.setCell (p := ⟨rb, 1, none⟩) (fun _ => rfl) _).setCell (p := ⟨rb, 2, none⟩) (fun _ => rfl) _)⟩
    have z2 : V3.cell? ⟨rb, 2, none⟩ = some (.int .i64 ((0 : Nat) : Int)) := by rw [cell_of_row _ _ _ _ _ _ h3]; rfl
    clear hr hg hn hm h3 h4 h hb
    go_enter Try.func69, Try.ntmps69
    go_wp2
    refine wp_region_held_drew (S := fun W => W.cell? ⟨rb, 0, none⟩ = some (.slice a len cap)) (by kernel_rfl) (y0) (fun hHeld => ?_)
    refine wpAnyH_take (i := 0) (v := ?vz0) rfl (by kernel_rfl) (by kernel_rfl) (by kernel_rfl) (fun _ _ _ h => h) (Or.inl ⟨by first | kernel_rfl | rfl, ?yz0⟩) hHeld ?rz0
    case yz0 => (intro W hSW; (try dsimp only at hSW); go_simp; (try with_reducible rfl))
    change wpAnyH _ _ _ _ _ _ _ (Act.put _ (some 10) _) _
    simp only [Act.put, List.setIfInBounds_toArray, List.set_cons_zero, List.set_cons_succ]
    refine wpAnyH_take (i := 1) (v := ?vz1) rfl (by kernel_rfl) (by kernel_rfl) (by kernel_rfl) (fun _ _ _ h => h) (Or.inl ⟨by first | kernel_rfl | rfl, ?yz1⟩) hHeld ?rz1
    case yz1 => (intro W hSW; (try dsimp only at hSW); go_simp; (try with_reducible rfl))
    change wpAnyH _ _ _ _ _ _ _ (Act.put _ (some 11) _) _
    simp only [Act.put, List.setIfInBounds_toArray, List.set_cons_zero, List.set_cons_succ]
    refine wpAnyH_take (i := 2) (v := ?vz2) rfl (by kernel_rfl) (by kernel_rfl) (by kernel_rfl) (fun _ _ _ h => h) (Or.inl ⟨by first | kernel_rfl | rfl, ?yz2⟩) hHeld ?rz2
    case yz2 => (intro W hSW; (try dsimp only at hSW); go_simp; (try with_reducible rfl))
    change wpAnyH _ _ _ _ _ _ _ (Act.put _ (some 12) _) _
    simp only [Act.put, List.setIfInBounds_toArray, List.set_cons_zero, List.set_cons_succ]
    refine wpAnyH_take (i := 3) (v := ?vz3) rfl (by kernel_rfl) (by kernel_rfl) (by kernel_rfl) (fun _ _ _ h => h) (Or.inl ⟨by first | kernel_rfl | rfl, ?yz3⟩) hHeld ?rz3
    case yz3 => (intro W hSW; (try dsimp only at hSW); go_simp; (try with_reducible rfl))
    change wpAnyH _ _ _ _ _ _ _ (Act.put _ (some 13) _) _
    simp only [Act.put, List.setIfInBounds_toArray, List.set_cons_zero, List.set_cons_succ]
    refine wpAnyH_take (i := 4) (v := ?vz4) rfl (by kernel_rfl) (by kernel_rfl) (by kernel_rfl) (fun _ _ _ h => h) (Or.inl ⟨by first | kernel_rfl | rfl, ?yz4⟩) hHeld ?rz4
    case yz4 => (intro W hSW; (try dsimp only at hSW); go_simp; (try with_reducible rfl))
    change wpAnyH _ _ _ _ _ _ _ (Act.put _ (some 14) _) _
    simp only [Act.put, List.setIfInBounds_toArray, List.set_cons_zero, List.set_cons_succ]
    refine wpAnyH_take (i := 5) (v := ?vz5) rfl (by kernel_rfl) (by kernel_rfl) (by kernel_rfl) (fun _ _ _ h => h) (Or.inl ⟨by first | kernel_rfl | rfl, ?yz5⟩) hHeld ?rz5
    case yz5 => (intro W hSW; (try dsimp only at hSW); go_simp; (try with_reducible rfl))
    change wpAnyH _ _ _ _ _ _ _ (Act.put _ (some 15) _) _
    simp only [Act.put, List.setIfInBounds_toArray, List.set_cons_zero, List.set_cons_succ]
    refine wpAnyH_take (i := 6) (v := ?vz6) rfl (by kernel_rfl) (by kernel_rfl) (by kernel_rfl) (fun _ _ _ h => h) (Or.inl ⟨by first | kernel_rfl | rfl, ?yz6⟩) hHeld ?rz6
    case yz6 => (intro W hSW; (try dsimp only at hSW); go_simp; (try with_reducible rfl))
    change wpAnyH _ _ _ _ _ _ _ (Act.put _ (some 16) _) _
    simp only [Act.put, List.setIfInBounds_toArray, List.set_cons_zero, List.set_cons_succ]
    refine wpAnyH_take (i := 7) (v := ?vz7) rfl (by kernel_rfl) (by kernel_rfl) (by kernel_rfl) (fun _ _ _ h => h) (Or.inl ⟨by first | kernel_rfl | rfl, ?yz7⟩) hHeld ?rz7
    case yz7 => (intro W hSW; (try dsimp only at hSW); go_simp; (try with_reducible rfl))
    change wpAnyH _ _ _ _ _ _ _ (Act.put _ (some 17) _) _
    simp only [Act.put, List.setIfInBounds_toArray, List.set_cons_zero, List.set_cons_succ]
    refine wpAnyH_take (i := 8) (v := ?vz8) rfl (by kernel_rfl) (by kernel_rfl) (by kernel_rfl) (fun _ _ _ h => h) (Or.inl ⟨by first | kernel_rfl | rfl, ?yz8⟩) hHeld ?rz8
    case yz8 => (intro W hSW; (try dsimp only at hSW); go_simp; (try with_reducible rfl))
    change wpAnyH _ _ _ _ _ _ _ (Act.put _ (some 18) _) _
    simp only [Act.put, List.setIfInBounds_toArray, List.set_cons_zero, List.set_cons_succ]
    refine wpAnyH_ready (rs := [9]) (by kernel_rfl) (by simp) ?_
    refine AllReadyH.cons rfl (fun K hK => ?_) AllReadyH.nil
    go_simp
    refine hK.out _ _ (y0) (fun hHeld => ?_)
    clear hK K
    try simp only [Act.put, List.setIfInBounds_toArray, List.set_cons_zero, List.set_cons_succ]
    refine wpAnyH_ready (rs := [10]) (by kernel_rfl) (by simp) ?_
    refine AllReadyH.cons rfl (fun K hK => ?_) AllReadyH.nil
    go_simp
    refine (HG.out).mono ?_
    rintro e V2 ⟨rfl, hV2⟩
    refine hK.out _ _ (by rw [hV2]; exact y0) (fun hHeld => ?_)
    clear hK K
    try simp only [Act.put, List.setIfInBounds_toArray, List.set_cons_zero, List.set_cons_succ]
    subst V2
    refine wpAnyH_take (i := 11) (v := ?vz11) rfl (by kernel_rfl) (by kernel_rfl) (by kernel_rfl) (fun _ _ _ h => h) (Or.inl ⟨by first | kernel_rfl | rfl, ?yz11⟩) hHeld ?rz11
    case yz11 => (intro W hSW; (try dsimp only at hSW); go_simp; (try with_reducible rfl))
    change wpAnyH _ _ _ _ _ _ _ (Act.put _ (some 9) _) _
    simp only [Act.put, List.setIfInBounds_toArray, List.set_cons_zero, List.set_cons_succ]
    refine wpAnyH_take (i := 12) (v := ?vz12) rfl (by kernel_rfl) (by kernel_rfl) (by kernel_rfl) (fun _ _ _ h => h) (Or.inl ⟨by first | kernel_rfl | rfl, ?yz12⟩) hHeld ?rz12
    case yz12 => (intro W hSW; (try dsimp only at hSW); go_simp; (try with_reducible rfl))
    change wpAnyH _ _ _ _ _ _ _ (Act.put _ (some 21) _) _
    simp only [Act.put, List.setIfInBounds_toArray, List.set_cons_zero, List.set_cons_succ]
    refine wpAnyH_take (i := 13) (v := ?vz13) rfl (by kernel_rfl) (by kernel_rfl) (by kernel_rfl) (fun _ _ _ h => h) (Or.inl ⟨by first | kernel_rfl | rfl, ?yz13⟩) hHeld ?rz13
    case yz13 => (intro W hSW; (try dsimp only at hSW); go_simp; (try with_reducible rfl))
    change wpAnyH _ _ _ _ _ _ _ (Act.put _ (some 22) _) _
    simp only [Act.put, List.setIfInBounds_toArray, List.set_cons_zero, List.set_cons_succ]
    refine wpAnyH_take (i := 14) (v := ?vz14) rfl (by kernel_rfl) (by kernel_rfl) (by kernel_rfl) (fun _ _ _ h => h) (Or.inl ⟨by first | kernel_rfl | rfl, ?yz14⟩) hHeld ?rz14
    case yz14 => (intro W hSW; (try dsimp only at hSW); go_simp; (try with_reducible rfl))
    change wpAnyH _ _ _ _ _ _ _ (Act.put _ (some 23) _) _
    simp only [Act.put, List.setIfInBounds_toArray, List.set_cons_zero, List.set_cons_succ]
    refine wpAnyH_take (i := 15) (v := ?vz15) rfl (by kernel_rfl) (by kernel_rfl) (by kernel_rfl) (fun _ _ _ h => h) (Or.inl ⟨by first | kernel_rfl | rfl, ?yz15⟩) hHeld ?rz15
    case yz15 => (intro W hSW; (try dsimp only at hSW); go_simp; (try with_reducible rfl))
    change wpAnyH _ _ _ _ _ _ _ (Act.put _ (some 3) _) _
    simp only [Act.put, List.setIfInBounds_toArray, List.set_cons_zero, List.set_cons_succ]
    refine wpAnyH_take (i := 16) (v := ?vz16) rfl (by kernel_rfl) (by kernel_rfl) (by kernel_rfl) (fun _ _ _ h => h) (Or.inl ⟨by first | kernel_rfl | rfl, ?yz16⟩) hHeld ?rz16
    case yz16 => (intro W hSW; (try dsimp only at hSW); go_simp; (try with_reducible rfl))
    change wpAnyH _ _ _ _ _ _ _ (Act.put _ (some 24) _) _
    simp only [Act.put, List.setIfInBounds_toArray, List.set_cons_zero, List.set_cons_succ]
    refine wpAnyH_take (i := 17) (v := ?vz17) rfl (by kernel_rfl) (by kernel_rfl) (by kernel_rfl) (fun _ _ _ h => h) (Or.inl ⟨by first | kernel_rfl | rfl, ?yz17⟩) hHeld ?rz17
    case yz17 => (intro W hSW; (try dsimp only at hSW); go_simp; (try with_reducible rfl))
    change wpAnyH _ _ _ _ _ _ _ (Act.put _ (some 25) _) _
    simp only [Act.put, List.setIfInBounds_toArray, List.set_cons_zero, List.set_cons_succ]
    refine wpAnyH_ready (rs := [18]) (by kernel_rfl) (by simp) ?_
    refine AllReadyH.cons rfl (fun K hK => ?_) AllReadyH.nil
    go_simp
    refine hK.out _ _ (s1) (fun hHeld => ?_)
    clear hK K
    refine wpAnyH_take (i := 19) (v := ?vz19) rfl (by kernel_rfl) (by kernel_rfl) (by kernel_rfl) (fun _ _ _ h => h) (Or.inl ⟨by first | kernel_rfl | rfl, ?yz19⟩) hHeld ?rz19
    case yz19 => (intro W hSW; (try dsimp only at hSW); go_simp; (try with_reducible rfl))
    change wpAnyH _ _ _ _ _ _ _ (Act.put _ (some 26) _) _
    simp only [Act.put, List.setIfInBounds_toArray, List.set_cons_zero, List.set_cons_succ]
    refine wpAnyH_take (i := 20) (v := ?vz20) rfl (by kernel_rfl) (by kernel_rfl) (by kernel_rfl) (fun _ _ _ h => h) (Or.inl ⟨by first | kernel_rfl | rfl, ?yz20⟩) hHeld ?rz20
    case yz20 => (intro W hSW; (try dsimp only at hSW); go_simp; (try with_reducible rfl))
    change wpAnyH _ _ _ _ _ _ _ (Act.put _ (some 27) _) _
    simp only [Act.put, List.setIfInBounds_toArray, List.set_cons_zero, List.set_cons_succ]
    refine wpAnyH_ready (rs := [21]) (by kernel_rfl) (by simp) ?_
    refine AllReadyH.cons rfl (fun K hK => ?_) AllReadyH.nil
    go_simp
    refine hK.out _ _ (s2) (fun hHeld => ?_)
    clear hK K
    refine wpAnyH_done (by kernel_rfl) ?_ _
    go_wp2
    go_ret
    exact ⟨rfl, HE.out⟩
  · have hr : rdN bs p e = (0, p, e) := by unfold rdN; rw [if_pos he]
    rw [hr]
    have HE : Hid (w.heap[rb]? = some (rdR a len cap p e)) := h
    have ke : ¬ (e : Int) = 0 := by omega
    have kb : ((e : Int) == 0) = false := by simpa using ke
    have kn : ((e : Int) != 0) = true := by simpa using ke
    clear hr h hb
    go_enter Try.func69, Try.ntmps69
    go_wp2
    go_ret
    exact ⟨rfl, HE.out, Upd.refl _ _⟩
end Go.Proofs.Ytgihdfmeokbplaa
