/- Walks over slices.Clone, Holes, lives. -/
import Derived.Test.YtgihdfmeokbplaaXO
namespace Go.Proofs.Ytgihdfmeokbplaa
open Go.RowKit Ex
set_option maxRecDepth 100000 in
set_option maxHeartbeats 1000000 in
theorem clone_any {w : World} {a : Option Addr} {n c : Nat} {l : List Sp} (h : SpW w a n c l) (hn : n ≤ 1000000) :
    Calls Try.prog 42 #[.slice a n c] w fun e w' => ∃ a' cap, e = .returned (.slice a' n cap) ∧ (∀ x, ob a' = some x → w.heap.size ≤ x) ∧ w'.ownsRow 0 37 2 (.slice a' n cap) n (spsV l) ∧ Below w.heap.size w w' := by
  obtain ⟨i0, hi, hz0, hz1, hz2⟩ := info_parts info37
  have q22 : ∀ (w : World) (a : Option Addr) (n c n' c' : Nat), (binOp .eql 33 (.slice a n c) (.slice none n' c')).run Try.prog w = .ok (.bool a.isNone) w := fun w a n c n' c' => Lib.run_eql_slice_nil w _ _ a n c n' c' Try.underlying33
  cases a with
  | none =>
    have h0 := h.hnil rfl
    have h1 := h.hcp
    have hl : l = [] := List.eq_nil_of_length_eq_zero (by rw [h.hl]; omega)
    obtain rfl : n = 0 := by omega
    subst hl
    clear h
    go_enter Try.func42, Try.ntmps42
    go_wp2
    go_ret
    exact ⟨none, 0, rfl, (by intro x hx; cases hx), World.ownsRow_nil _ _ _ _, Below.refl _ _⟩
  | some ad =>
    have HC : Hid ((spsV l).length = n * 2 ∧ ∀ j u, (spsV l)[j]? = some u → (w.alloc (.cells #[] 37)).cell? (ad.add j) = some u) := by
      refine ⟨by rw [spsV_len, h.hl], fun j u hj => ?_⟩
      have hjl := (List.getElem?_eq_some_iff.1 hj).1
      rw [spsV_len, h.hl] at hjl
      obtain ⟨b, o, e, hb, hc⟩ := h.hat (by omega)
      cases e
      obtain ⟨q, hq⟩ : ∃ q, l[j / 2]? = some q := ⟨_, List.getElem?_eq_getElem (by rw [h.hl]; omega)⟩
      obtain ⟨e1, e2⟩ := hc (j / 2) q hq
      obtain ⟨e3, e4⟩ := spsV_at l (j / 2) q hq
      rw [add_at]
      rcases Nat.mod_two_eq_zero_or_one j with hm | hm
      · have hj2 : j / 2 * 2 = j := by omega
        rw [hj2] at e1 e3
        rw [e3] at hj
        cases hj
        exact Lib.cell?_alloc_some _ e1
      · have hj2 : j / 2 * 2 + 1 = j := by omega
        rw [hj2] at e4
        rw [Nat.add_assoc, hj2] at e2
        rw [e4] at hj
        cases hj
        exact Lib.cell?_alloc_some _ e2
    clear h
    go_enter Try.func42, Try.ntmps42
    go_wp2_with (at_builtin; refine wpList_append_own _ rfl _ _ 33 rfl w.heap.size 37 i0 (.agg #[.int .i64 0, .int .i64 0]) 2 16 Try.underlying33 hi hz0 hz1 hz2 rfl (by decide) _ _ _ rfl (World.ownsRow_made w #[] 0 (Nat.le_refl _) (Nat.zero_le _) (by simp)) ad n c (spsV l) rfl ?qc1 ?qc2 ?qc3 ?qc4 ?qc5 ?qc6 ?_)
    case qc1 => exact HC.out.1
    case qc2 => exact HC.out.2
    case qc3 => exact spsV_one l
    case qc4 => unfold maxLen; omega
    case qc5 => omega
    case qc6 => simp
    intro v' w1 hown hgrow hnil
    have hne : v' ≠ .slice none 0 0 := hnil
    have hb1 : Below w.heap.size w w1 := ((Below.refl _ w).alloc (Nat.le_refl _) _).grown hgrow (by simp) (by intro k hk; simp [Value.ownBlock] at hk; omega)
    try simp only [Nat.zero_add, List.nil_append] at hown
    obtain ⟨g, cap, rfl, hg, _⟩ := own_some hown hne
    have HO : Hid (w1.ownsRow w.heap.size 37 2 (.slice (some ⟨g, 0, none⟩) n cap) n (spsV l)) := hown
    clear hown hgrow hnil hne
    go_wp2
    go_ret
    exact ⟨some ⟨g, 0, none⟩, cap, rfl, (by intro x hx; cases hx; exact hg), own_base HO.out (Nat.zero_le _), hb1⟩
set_option maxHeartbeats 400000 in
theorem holes_nil (w : World) : Calls Try.prog 18 #[.pointer none] w fun e w' => e = .returned (.slice none 0 0) ∧ w' = w := by
  go_enter Try.func18, Try.ntmps18
  go_wp2
  go_ret
  exact ⟨rfl, rfl⟩
set_option maxHeartbeats 1000000 in
theorem holes_any {w : World} {S : Nat → Prop} {ab : Nat} {X : Ar} (h : AIs w S ab X) : Calls Try.prog 18 #[.pointer (some ⟨ab, 0, none⟩)] w fun e w' => ∃ a' cap, e = .returned (.slice a' X.hs.length cap) ∧ (∀ x, ob a' = some x → w.heap.size ≤ x) ∧ w'.ownsRow 0 37 2 (.slice a' X.hs.length cap) X.hs.length (spsV X.hs) ∧ Below w.heap.size w w' := by
  obtain ⟨ha, hc, h⟩ := h
  have c1 := h.cells.2.1
  have HC := clone_any h.sp (by have := h.ok.len; omega)
  obtain ⟨N, hN⟩ : ∃ N, X.hs.length = N := ⟨_, rfl⟩
  rw [hN] at c1 HC ⊢
  clear h hN
  go_enter Try.func18, Try.ntmps18
  go_wp2_with fail
  refine HC.mono ?_
  rintro e V ⟨a', cap, rfl, h1, h2, h3⟩
  have H : Hid ((∀ x, ob a' = some x → w.heap.size ≤ x) ∧ V.ownsRow 0 37 2 (.slice a' N cap) N (spsV X.hs) ∧ Below w.heap.size w V) := ⟨h1, h2, h3⟩
  clear h1 h2 h3
  go_wp2
  go_ret
  exact ⟨a', cap, rfl, H.out⟩
theorem ATo.b {w w' : World} {S : Nat → Prop} {ab : Nat} {X : Ar} {v : Value} {e : Ending} (h : ATo w S ab X v e w') {B : Nat} (hB : B ≤ w.heap.size) (hS : ∀ x, S x → B ≤ x) : Below B w w' ∧ ∀ x, more S w w' x → B ≤ x :=
  ⟨h.2.2.below hB hS, fun x hx => by
    rcases hx with hx | hx
    · exact hS x hx
    · exact Nat.le_trans hB hx.1⟩
def X1 : Ar := ⟨10, [(4, 6)], 0⟩
def X2 : Ar := ⟨10, [(7, 3)], 0⟩
def X3 : Ar := ⟨10, [(0, 4), (7, 3)], 0⟩
def X4 : Ar := ⟨10, [(0, 4)], 0⟩
theorem x1_is : (Ar.new 10).alloc 4 0 = (X1, 0, 0) := by rfl
theorem x2_is : X1.alloc 3 0 = (X2, 4, 0) := by rfl
theorem x3_is : X2.give (0, 4) = (X3, 0) := by rfl
theorem x4_is : X3.alloc 3 1 = (X4, 7, 0) := by rfl
set_option maxRecDepth 100000 in
set_option maxHeartbeats 4000000 in
theorem lives_any (w : World) : Calls Try.prog 10 #[] w fun e w' => e = .returned (.bool true) ∧ Below w.heap.size w w' := by
  have HN := new_any 10 w (by omega) (by omega)
  go_enter Try.func10, Try.ntmps10
  go_wp2_with fail
  refine HN.mono ?_
  rintro e w1 ⟨ab, rfl, h1, hb1⟩
  have HA := alloc_any h1 4 0
  rw [x1_is] at HA
  have H1 : Hid (Below w.heap.size w w1 ∧ ∀ x, fresh w w1 x → w.heap.size ≤ x) := ⟨hb1, fun x hx => hx.1⟩
  clear HN h1 hb1
  go_wp2_with fail
  refine HA.mono ?_
  rintro e w2 hto
  have hk := hto.b H1.out.1.size H1.out.2
  obtain ⟨rfl, h2, _⟩ := hto
  have HB := alloc_any h2 3 0
  rw [x2_is] at HB
  have H2 : Hid (Below w.heap.size w w2 ∧ ∀ x, more (fresh w w1) w1 w2 x → w.heap.size ≤ x) := ⟨H1.out.1.trans hk.1, hk.2⟩
  clear HA h2 hk H1
  go_wp2_with fail
  refine HB.mono ?_
  rintro e w3 hto
  have hk := hto.b H2.out.1.size H2.out.2
  obtain ⟨rfl, h3, _⟩ := hto
  have HG := give_any h3 (0, 4)
  rw [x3_is] at HG
  have H3 : Hid (Below w.heap.size w w3 ∧ ∀ x, more (more (fresh w w1) w1 w2) w2 w3 x → w.heap.size ≤ x) := ⟨H2.out.1.trans hk.1, hk.2⟩
  clear HB h3 hk H2
  go_wp2_with fail
  refine HG.mono ?_
  rintro e w4 hto
  have hk := hto.b H3.out.1.size H3.out.2
  obtain ⟨rfl, h4, _⟩ := hto
  have HZ := alloc_any h4 3 1
  rw [x4_is] at HZ
  have H4 : Hid (Below w.heap.size w w4 ∧ ∀ x, more (more (more (fresh w w1) w1 w2) w2 w3) w3 w4 x → w.heap.size ≤ x) := ⟨H3.out.1.trans hk.1, hk.2⟩
  clear HG h4 hk H3
  go_wp2_with fail
  refine HZ.mono ?_
  rintro e w5 hto
  have hk := hto.b H4.out.1.size H4.out.2
  obtain ⟨rfl, _, _⟩ := hto
  have H5 : Hid (Below w.heap.size w w5) := H4.out.1.trans hk.1
  clear HZ hk H4
  go_wp2
  go_ret
  exact ⟨rfl, H5.out⟩
theorem lives_h {w W : World} (hb : Below w.heap.size w W) : Calls Try.prog 10 #[] W fun e w' => e = .returned (.bool true) ∧ Below w.heap.size w w' := (lives_any W).mono fun _ _ h => ⟨h.1, hb.trans (h.2.mono hb.size)⟩
end Go.Proofs.Ytgihdfmeokbplaa
