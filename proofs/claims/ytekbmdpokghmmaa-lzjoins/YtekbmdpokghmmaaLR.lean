/- Bytes that came in; lives. -/
import Derived.Test.YtekbmdpokghmmaaLQ
import Derived.Deep.Slices
import Derived.OpenShut
import Derived.ChangeOld
import Derived.SizedLaws
namespace Go.Proofs.Ytekbmdpokghmmaa
open Go.ChangeShapes Go.WideShapes Go.ChangeAt Go.RowKit Go.Deep Lz
set_option maxRecDepth 100000 in
theorem bs_of {H : Type} {enc : TypeId × Value → H} {W : World} {base : Nat} {spare : Nat → Bool} {held : Bool} {fuel : Nat} {a : Option Addr} {len cap : Nat} {x : DataW H × List MemPlace}
    (hf : DataW.trod enc Try.prog W base spare held fuel 22 [.slice a len cap] = some x) : ∃ l, Bs W a len cap l := by
  rcases open_slice1 Try.underlying22 (by kernel_rfl) hf with ⟨hcs, _⟩ | ⟨ad, l, c, m, n, V, D, Pl, hcs, _, hl, hm, hmm, _, hV⟩
  · simp only [List.cons.injEq, Value.slice.injEq, and_true] at hcs
    obtain ⟨rfl, rfl, rfl⟩ := hcs
    exact ⟨[], Bs.nil _⟩
  · simp only [List.cons.injEq, Value.slice.injEq, and_true] at hcs
    obtain ⟨rfl, rfl, rfl⟩ := hcs
    have hlm : len ≤ m := by rw [hmm]; split <;> omega
    have hb : ∀ i, i < len → ∃ b : UInt8, W.cell? (ad.add i) = some (.int .u8 ((b.toNat : Nat) : Int)) := by
      intro i hi
      obtain ⟨h1, h2⟩ := hV i (by omega)
      obtain ⟨y, e, _, wy⟩ := DataW.trod_int Try.underlying5 h2
      simp only [List.cons.injEq, and_true] at e
      have r := wf_u8 wy
      obtain ⟨f, rfl⟩ := Int.eq_ofNat_of_zero_le r.1
      exact ⟨UInt8.ofNat f, by rw [h1, e, toNat_ofNat_ (by omega)]⟩
    obtain ⟨f, hf⟩ := choose_lt (α := UInt8) hb
    refine ⟨(List.range len).map f, by simp, hl, by simpa [maxLen] using hm, (by intro e; cases e), fun ad' e i hi => ?_⟩
    cases e
    simp only [List.length_map, List.length_range] at hi
    rw [hf i hi]
    simp
def exB : List UInt8 := [6, 1, 97, 98, 129, 0, 1]
def exT : List Tk := [⟨0, 0, [97, 98]⟩, ⟨2, 4, []⟩]
theorem ex_beg : begL exB = some (6, 1) := by rfl
theorem ex_right : Right 6 (exB.drop 1) exT := by
  refine ⟨by rfl, ⟨.inl ⟨by simp, by simp, rfl, rfl⟩, by simp, by simp [Tk.told], .inr ⟨rfl, by simp, by simp, by simp, by simp⟩, by simp [Tk.told], by simp [Tk.told], trivial⟩, by rfl⟩
theorem ex_out : outL exT = [97, 98, 97, 98, 97, 98] := by rfl
set_option maxRecDepth 100000 in
set_option maxHeartbeats 1000000 in
theorem lives_any (w : World) : Calls Try.prog 9 #[] w fun e w' => e = .returned (.bool true) ∧ Below w.heap.size w w' := by
  obtain ⟨C, hC⟩ : ∃ C, w.heap.size = C := ⟨_, rfl⟩
  obtain ⟨W1, hW1⟩ : ∃ W, w.alloc (.cells #[.int .u8 6, .int .u8 1, .int .u8 97, .int .u8 98, .int .u8 129, .int .u8 0, .int .u8 1] 5) = W := ⟨_, rfl⟩
  have hb1 : Below w.heap.size w W1 := by rw [← hW1]; exact (Below.refl _ w).alloc (Nat.le_refl _) _
  have hbs : Bs W1 (some ⟨C, 0, none⟩) 7 7 exB := by
    refine Bs.owned (base := 0) (w := W1) ⟨rfl, .inr ⟨C, 7, _, rfl, Nat.zero_le _, by rw [← hW1, ← hC]; exact heap_alloc_new w _, Nat.le_refl _, by unfold maxLen; omega, rfl, rfl⟩⟩
  have HU := unpack_any hbs 6
  have HU : Hid (Calls Try.prog 10 #[.slice (some ⟨C, 0, none⟩) 7 7, .int .i64 6] W1 fun e w' => ∃ a c, e = .returned (.tuple #[.slice a 6 c, .int .i64 0]) ∧ (convert 22 9 (.slice a 6 c)).run Try.prog w' = .ok (.string ⟨#[97, 98, 97, 98, 97, 98]⟩) w' ∧ Below w.heap.size w w') := by
    refine HU.mono ?_
    rintro e w' ⟨hb, h⟩
    have hB := hb1.trans (hb.mono hb1.size)
    rcases h with ⟨h, _⟩ | ⟨n, k, h, h2, _⟩ | ⟨n, k, h, _, h3, _⟩ | ⟨n, k, ts, a, c, h, _, h3, rfl, h5⟩
    · rw [ex_beg] at h; cases h
    · rw [ex_beg] at h; cases h; omega
    · rw [ex_beg] at h; cases h; exact absurd ex_right (h3 _)
    · rw [ex_beg] at h
      cases h
      have := h3.unique ex_right
      subst this
      rw [ex_out] at h5
      exact ⟨a, c, rfl, (own_bs h5).convS, hB⟩
  clear hb1 hbs
  go_enter Try.func9, Try.ntmps9
  go_wp2_with fail
  refine HU.out.mono ?_
  rintro e w2 ⟨a, c, rfl, hcv, hb⟩
  have HB : Hid (Below w.heap.size w w2) := hb
  clear hb
  go_wp2
  go_ret
  exact ⟨rfl, HB.out⟩
end Go.Proofs.Ytekbmdpokghmmaa
