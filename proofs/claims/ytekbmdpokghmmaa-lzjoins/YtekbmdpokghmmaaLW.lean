/- The same tokens. -/
import Derived.Test.YtekbmdpokghmmaaLV
namespace Go.Proofs.Ytekbmdpokghmmaa
open Go.RowKit Lz
theorem tok_cells {G : Nat → Prop} {w : World} {et : Nat} {a : Option Addr} {n c : Nat} {ts : List Tk} (h : Rw G w et 3 a n c (tksV ts)) {i : Nat} {t : Tk} (ht : ts[i]? = some t) (hi : i < n) : ∃ b o, a = some ⟨b, o, none⟩ ∧ w.cell? ⟨b, o + i * 3, none⟩ = some (.int .i64 (t.b : Int)) ∧ w.cell? ⟨b, o + i * 3 + 1, none⟩ = some (.int .i64 (t.s : Int)) ∧ w.cell? ⟨b, o + i * 3 + 2, none⟩ = some (.string (strOf t.d)) := by
  obtain ⟨b, o, rfl, _, _, hc⟩ := h.2.2.2 (by omega)
  have hat := fun j hj => fm_at (f := tkC) (k := 3) (fun _ => rfl) ht j hj
  refine ⟨b, o, rfl, ?_, ?_, ?_⟩
  · have := hc (i * 3 + 0) _ (by show (ts.flatMap tkC)[i * 3 + 0]? = _; rw [hat 0 (by omega)]; rfl)
    simpa using this
  · have := hc (i * 3 + 1) _ (by show (ts.flatMap tkC)[i * 3 + 1]? = _; rw [hat 1 (by omega)]; rfl)
    rwa [← Nat.add_assoc] at this
  · have := hc (i * 3 + 2) _ (by show (ts.flatMap tkC)[i * 3 + 2]? = _; rw [hat 2 (by omega)]; rfl)
    rwa [← Nat.add_assoc] at this
set_option maxRecDepth 100000 in
set_option maxHeartbeats 4000000 in
theorem same_true {w : World} {G1 G2 : Nat → Prop} {a a2 : Option Addr} {n c c2 : Nat} {ts : List Tk} (h1 : Rw G1 w 51 3 a n c (tksV ts)) (h2 : Rw G2 w 56 3 a2 n c2 (tksV ts)) (hN : n ≤ 1000000) : Calls Try.prog 14 #[.slice a n c, .slice a2 n c2] w fun e w' => e = .returned (.bool true) ∧ Below w.heap.size w w' := by
  have hl : ts.length = n := by have := h1.1; rw [tksV_len] at this; omega
  have H1 : Hid (Rw G1 w 51 3 a n c (tksV ts) ∧ Rw G2 w 56 3 a2 n c2 (tksV ts) ∧ ts.length = n) := ⟨h1, h2, hl⟩
  clear h1 h2 hl
  go_enter Try.func14, Try.ntmps14
  go_wp2
  go_loopw [5] (fun v5 wr => ∃ i : Nat, i ≤ n ∧ v5 = .int .i64 (i : Int) ∧ Below w.heap.size w wr) (fun v5 _ => n - (intOf v5).toNat)
  case atStart => exact ⟨0, Nat.zero_le _, rfl, Below.refl _ _⟩
  case round =>
    obtain ⟨i, hi, rfl, hb⟩ := hrel
    have HB : Hid (Below w.heap.size w wr) := hb
    by_cases hlt : i < n
    · have kk : (i : Int) < (n : Int) := by omega
      obtain ⟨t, ht⟩ : ∃ t, ts[i]? = some t := ⟨_, List.getElem?_eq_getElem (by rw [H1.out.2.2]; exact hlt)⟩
      obtain ⟨b, o, rfl, d0, d1, d2⟩ := tok_cells (H1.out.1.below hb) ht hlt
      obtain ⟨b2, o2, rfl, e0, e1, e2⟩ := tok_cells (H1.out.2.1.below hb) ht hlt
      obtain ⟨S, hS⟩ : ∃ S, strOf t.d = S := ⟨_, rfl⟩
      rw [hS] at d2 e2
      obtain ⟨x, hx⟩ : ∃ x, (t.b : Int) = x := ⟨_, rfl⟩
      obtain ⟨y, hy⟩ : ∃ y, (t.s : Int) = y := ⟨_, rfl⟩
      rw [hx] at d0 e0
      rw [hy] at d1 e1
      have kS : (S.toList == S.toList) = true := by simp
      clear hb ht hS hx hy
      go_wp2
      go_quiet (fail)
      go_wp2
      exact ⟨⟨i + 1, by omega, by go_num, below_drewK HB.out _⟩, by simp [intOf]; omega⟩
    · have hin : i = n := by omega
      have kk : ¬ (i : Int) < (n : Int) := by omega
      clear hb
      go_wp2
      go_ret
      exact ⟨rfl, HB.out⟩
end Go.Proofs.Ytekbmdpokghmmaa
