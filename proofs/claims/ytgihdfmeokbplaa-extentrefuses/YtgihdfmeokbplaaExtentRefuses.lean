/- Proved: for every size and all spans, the law ExtentRefuses returns true, the spans as they were. No condition: every input that can be read as data. -/
import Derived.Test.YtgihdfmeokbplaaRows
import Derived.Test.YtgihdfmeokbplaaXQ
import Derived.Test.YtgihdfmeokbplaaQF
import Derived.BigQuiet
import Derived.WalkKit
import Derived.ProofKit
import Derived.OpenShut
import Derived.ShutString
import Derived.ChangeOld
import Derived.Below
namespace Go.Proofs.Ytgihdfmeokbplaa.extentRefuses
open Go.ChangeShapes Go.WideShapes Go.ChangeAt Go.RowKit Ex
theorem own : ownKnob Try.prog.godebug = none := by kernel_rfl
theorem laidOut : laidOutB Try.prog = true := by kernel_rfl
theorem box2 {wr U Z : World} {S : Nat → Prop} {ub n : Nat} {a' : Option Addr} {c' : Nat} {F' : List Bool} (hK : Below wr.heap.size wr U) (hru : U.heap[ub]? = some (.cells #[.slice none 0 0, .int .i64 0] 31 (0, 0))) (hub : wr.heap.size ≤ ub) (hfw : Rw (fun x => ¬ S x) U 4 1 a' n c' (blR F')) (h1 : 1 ≤ n) (hZ : Z = (U.setCell ⟨ub, 0, none⟩ (.slice a' n c')).setCell ⟨ub, 1, none⟩ (.int .i64 0)) : Z.heap[ub]? = some (.cells #[.slice a' n c', .int .i64 0] 31 (0, 0)) ∧ Below wr.heap.size wr Z ∧ Rw (fun x => ¬ S x) Z 4 1 a' n c' (blR F') := by
  have hne := bool_ne hru (fun x => by simp) (fun x => by simp) hfw h1
  have e1 : (U.setCell ⟨ub, 0, none⟩ (.slice a' n c')).heap[ub]? = some (.cells #[.slice a' n c', .int .i64 0] 31 (0, 0)) := by rw [heap_setCell_same _ _ _ _ _ _ hru]; rfl
  refine ⟨by rw [hZ, heap_setCell_same _ _ _ _ _ _ e1]; rfl, by rw [hZ]; exact (hK.setCell hub _).setCell hub _, ?_⟩
  have hf2 : Rw (fun x => x ≠ ub ∧ ¬ S x) U 4 1 a' n c' (blR F') := by
    obtain ⟨g1, g2, g3, g4⟩ := hfw
    refine ⟨g1, g2, g3, fun h0 => ?_⟩
    obtain ⟨b, o, e, hb, hg, hc⟩ := g4 h0
    exact ⟨b, o, e, hb, ⟨hne b (by rw [e]; rfl), hg⟩, hc⟩
  exact (hf2.keep (w' := Z) (by rw [hZ]; simp) (fun b hb _ => by rw [hZ, heap_setCell_other _ _ _ _ hb.1, heap_setCell_other _ _ _ _ hb.1])).mono (fun _ hx _ => hx.2)
theorem below_drewK {B : Nat} {w V : World} (h : Below B w V) : ∀ n, Below B w (V.drewN n)
  | 0 => h
  | n + 1 => (below_drewK h n).drew
def Y2 (X : Ar) (l : List Sp) (j : Nat) (wy : Int) : Prop := (wy = 9 ∧ ∃ i s, i < j ∧ l[i]? = some s ∧ X.has s = false) ∨ (wy = 0 ∧ ∀ i s, i < j → l[i]? = some s → X.has s = true)
theorem Y2.no {X : Ar} {l : List Sp} {j : Nat} {wy : Int} {s : Sp} (_ : Y2 X l j wy) (hs : l[j]? = some s) (hh : X.has s = false) : Y2 X l (j + 1) 9 := .inl ⟨rfl, j, s, by omega, hs, hh⟩
theorem Y2.yes {X : Ar} {l : List Sp} {j : Nat} {wy : Int} {s : Sp} (h : Y2 X l j wy) (hs : l[j]? = some s) (hh : X.has s = true) : Y2 X l (j + 1) wy := by
  rcases h with ⟨h1, i, t, h2, h3, h4⟩ | ⟨h1, h2⟩
  · exact .inl ⟨h1, i, t, by omega, h3, h4⟩
  · refine .inr ⟨h1, fun i t hi ht => ?_⟩
    rcases Nat.lt_or_ge i j with h9 | h9
    · exact h2 i t h9 ht
    · obtain rfl : i = j := by omega
      rw [hs] at ht
      cases ht
      exact hh
def Y3 (X : Ar) (l : List Sp) (j : Nat) (wy : Int) : Prop := (wy = 9 ∧ nowhere X l) ∨ (¬ nowhere X l ∧ ((wy = 0 ∧ ∀ i, i < j → ¬ badAt X l i) ∨ (wy = 8 ∧ ∃ i, i < j ∧ badAt X l i)))
theorem Y2.end_ {X : Ar} {l : List Sp} {j : Nat} {wy : Int} (h : Y2 X l j wy) (hj : l.length ≤ j) : Y3 X l 0 wy := by
  rcases h with ⟨h1, i, s, _, h3, h4⟩ | ⟨h1, h2⟩
  · exact .inl ⟨h1, s, List.mem_of_getElem? h3, h4⟩
  · refine .inr ⟨fun ⟨s, hs, hh⟩ => ?_, .inl ⟨h1, fun i hi => absurd hi (by omega)⟩⟩
    obtain ⟨i, hi, e⟩ := List.getElem_of_mem hs
    have := h2 i s (by omega) (by rw [List.getElem?_eq_getElem hi, e])
    rw [hh] at this
    cases this
def Y4 (X : Ar) (l : List Sp) (j : Nat) (q : Sp) (k : Nat) (wz : Int) : Prop := (wz = 0 ∧ (∀ i, i < j → ¬ badAt X l i) ∧ takD X.hs q = true ∧ ∀ i t, i < k → l[i]? = some t → ¬ ovl q t) ∨ (wz = 8 ∧ ((∃ i, i < j ∧ badAt X l i) ∨ takD X.hs q = false ∨ ∃ i t, i < k ∧ l[i]? = some t ∧ ovl q t))
theorem Y3.yes {X : Ar} {l : List Sp} {j : Nat} {q : Sp} {wy : Int} (h : Y3 X l j wy) (h9 : wy ≠ 9) (ht : takD X.hs q = true) : Y4 X l j q 0 wy := by
  rcases h with ⟨h1, _⟩ | ⟨_, ⟨h1, h2⟩ | ⟨h1, h2⟩⟩
  · exact absurd h1 h9
  · exact .inl ⟨h1, h2, ht, fun i _ hi => absurd hi (by omega)⟩
  · exact .inr ⟨h1, .inl h2⟩
theorem Y3.no {X : Ar} {l : List Sp} {j : Nat} {q : Sp} (ht : takD X.hs q = false) : Y4 X l j q 0 8 := .inr ⟨rfl, .inr (.inl ht)⟩
theorem Y4.hit {X : Ar} {l : List Sp} {j k : Nat} {q t : Sp} (ht : l[k]? = some t) (ho : ovl q t) : Y4 X l j q (k + 1) 8 := .inr ⟨rfl, .inr (.inr ⟨k, t, by omega, ht, ho⟩)⟩
theorem Y4.miss {X : Ar} {l : List Sp} {j k : Nat} {q t : Sp} {wz : Int} (h : Y4 X l j q k wz) (ht : l[k]? = some t) (ho : ¬ ovl q t) : Y4 X l j q (k + 1) wz := by
  rcases h with ⟨h1, h2, h3, h4⟩ | ⟨h1, h2⟩
  · refine .inl ⟨h1, h2, h3, fun i u hi hu => ?_⟩
    rcases Nat.lt_or_ge i k with h9 | h9
    · exact h4 i u h9 hu
    · obtain rfl : i = k := by omega
      rw [ht] at hu
      cases hu
      exact ho
  · refine .inr ⟨h1, ?_⟩
    rcases h2 with h2 | h2 | ⟨i, u, hi, hu, h3⟩
    · exact .inl h2
    · exact .inr (.inl h2)
    · exact .inr (.inr ⟨i, u, by omega, hu, h3⟩)
theorem Y4.end_ {X : Ar} {l : List Sp} {j k : Nat} {q : Sp} {wz : Int} (h : Y4 X l j q k wz) (hk : k = j) (hq : l[j]? = some q) (hn : ¬ nowhere X l) : Y3 X l (j + 1) wz := by
  subst hk
  refine .inr ⟨hn, ?_⟩
  rcases h with ⟨h1, h2, h3, h4⟩ | ⟨h1, h2⟩
  · refine .inl ⟨h1, fun i hi hb => ?_⟩
    rcases Nat.lt_or_ge i k with h9 | h9
    · exact h2 i h9 hb
    · obtain rfl : i = k := by omega
      obtain ⟨s, hs, hb⟩ := hb
      rw [hq] at hs
      cases hs
      rcases hb with hb | ⟨i2, t, hi2, ht, ho⟩
      · rw [h3] at hb
        cases hb
      · exact h4 i2 t hi2 ht ho
  · refine .inr ⟨h1, ?_⟩
    rcases h2 with ⟨i, hi, hb⟩ | h2 | ⟨i, u, hi, hu, h3⟩
    · exact ⟨i, by omega, hb⟩
    · exact ⟨k, by omega, q, hq, .inl h2⟩
    · exact ⟨k, by omega, q, hq, .inr ⟨i, u, hi, hu, h3⟩⟩
theorem Y3.plan {X : Ar} {l : List Sp} {j : Nat} {wy : Int} {W W' : World} {e : Ending} (h : Y3 X l j wy) (hj : l.length ≤ j ∨ wy = 9) (hp : PlanTo W W' X l e) : ∃ m k c, e = .returned (.tuple #[.slice m k c, .int .i64 wy]) ∧ (wy ≠ 0 → k = 0) ∧ Below W.heap.size W W' := by
  obtain ⟨hb, hp⟩ := plan_why hp
  rcases h with ⟨h1, h2⟩ | ⟨h0, ⟨h1, h2⟩ | ⟨h1, i, hi, h2⟩⟩
  · subst h1
    rcases hp with ⟨_, rfl⟩ | ⟨h3, _⟩ | ⟨h3, _⟩
    · exact ⟨none, 0, 0, rfl, fun _ => rfl, hb⟩
    · exact absurd h2 h3
    · exact absurd h2 h3
  · subst h1
    have hj : l.length ≤ j := by rcases hj with h9 | h9; exact h9; cases h9
    rcases hp with ⟨h3, _⟩ | ⟨_, h3, _⟩ | ⟨_, _, a, k, c, _, rfl⟩
    · exact absurd h3 h0
    · refine absurd (fun i hbad => ?_) h3
      have hbad2 := hbad
      obtain ⟨s, hs, _⟩ := hbad2
      exact h2 i (by have := (List.getElem?_eq_some_iff.1 hs).1; omega) hbad
    · exact ⟨a, k, c, rfl, fun h9 => absurd rfl h9, hb⟩
  · subst h1
    rcases hp with ⟨h3, _⟩ | ⟨_, _, rfl⟩ | ⟨_, h3, _⟩
    · exact absurd h3 h0
    · exact ⟨none, 0, 0, rfl, fun _ => rfl, hb⟩
    · exact absurd h2 (h3 i)
theorem plan_nil {X : Ar} {W W' : World} {e : Ending} (hp : PlanTo W W' X [] e) : ∃ m c, e = .returned (.tuple #[.slice m 0 c, .int .i64 0]) ∧ Below W.heap.size W W' := by
  obtain ⟨hb, hp⟩ := plan_why hp
  rcases hp with ⟨⟨_, h, _⟩, _⟩ | ⟨_, h3, _⟩ | ⟨_, _, a, k, c, h4, rfl⟩
  · cases h
  · exact absurd (fun i ⟨s, hs, _⟩ => by simp at hs) h3
  · obtain rfl := h4 rfl
    exact ⟨a, c, rfl, hb⟩

set_option maxRecDepth 100000 in
set_option maxHeartbeats 8000000 in
theorem walk (x0 : Int) (z0 : -9223372036854775808 ≤ x0 ∧ x0 ≤ 9223372036854775807) (a1 : Option Addr) (len1 cap1 : Nat) (l1 : List Sp) (a2 : Option Addr) (len2 cap2 : Nat) (l2 : List Sp) (w : World) (w1 : Ss w a1 len1 cap1 l1) (w2 : Ss w a2 len2 cap2 l2) :
    Calls Try.prog 6 #[.int .i64 x0, .slice a1 len1 cap1, .slice a2 len2 cap2] w fun e w' => e = .returned (.bool true) ∧ Below w.heap.size w w' := by
  have HS1 : Hid ((∀ V, Below w.heap.size w V → SpW V a1 len1 cap1 l1) ∧ l1.length = len1 ∧ ∀ s ∈ l1, InS s) := ⟨fun V hV => w1.1.below hV, w1.1.hl, w1.2⟩
  have HS2 : Hid ((∀ V, Below w.heap.size w V → SpW V a2 len2 cap2 l2) ∧ l2.length = len2 ∧ ∀ s ∈ l2, InS s) := ⟨fun V hV => w2.1.below hV, w2.1.hl, w2.2⟩
  by_cases hx : 1 ≤ x0 ∧ x0 ≤ 1048576
  rotate_left
  · have HNB := new_bad x0 w hx
    have HLV := lives_any w
    clear hx z0 w1 w2 HS1 HS2
    go_enter Try.func6, Try.ntmps6
    go_wp2_with fail
    refine HNB.mono ?_
    rintro e V ⟨rfl, hV⟩
    subst V
    clear HNB
    go_wp2_with fail
    refine HLV.mono ?_
    rintro e w9 ⟨rfl, hb9⟩
    have HB9 : Hid (Below w.heap.size w w9) := hb9
    clear HLV hb9
    go_wp2
    go_ret
    exact ⟨rfl, HB9.out⟩
  obtain ⟨sz, rfl⟩ := Int.eq_ofNat_of_zero_le (show 0 ≤ x0 by omega)
  have hs1 : 1 ≤ sz := by omega
  have hs2 : sz ≤ 1048576 := by omega
  have HNW := new_any sz w hs1 hs2
  clear hx z0 w1 w2
  by_cases h3 : 300 < sz
  · have k3 : (300 : Int) < (sz : Int) := by omega
    clear HS1 HS2
    go_enter Try.func6, Try.ntmps6
    go_wp2_with fail
    refine HNW.mono ?_
    rintro e V0 ⟨ab, rfl, _, hb0⟩
    clear HNW
    have HLV := lives_h hb0
    go_wp2_with fail
    refine HLV.mono ?_
    rintro e w9 ⟨rfl, hb9⟩
    have HB9 : Hid (Below w.heap.size w w9) := hb9
    clear HLV hb9
    go_wp2
    go_ret
    exact ⟨rfl, HB9.out⟩
  have k3 : ¬ (300 : Int) < (sz : Int) := by omega
  by_cases h4 : 40 < len2
  · have k4 : (40 : Int) < (len2 : Int) := by omega
    clear HS1 HS2
    go_enter Try.func6, Try.ntmps6
    go_wp2_with fail
    refine HNW.mono ?_
    rintro e V0 ⟨ab, rfl, _, hb0⟩
    clear HNW
    have HLV := lives_h hb0
    go_wp2_with fail
    refine HLV.mono ?_
    rintro e w9 ⟨rfl, hb9⟩
    have HB9 : Hid (Below w.heap.size w w9) := hb9
    clear HLV hb9
    go_wp2
    go_ret
    exact ⟨rfl, HB9.out⟩
  have k4 : ¬ (40 : Int) < (len2 : Int) := by omega
  have HSZ : Hid (1 ≤ sz ∧ sz ≤ 300 ∧ len2 ≤ 40) := ⟨hs1, by omega, by omega⟩
  go_enter Try.func6, Try.ntmps6
  go_wp2_with fail
  refine HNW.mono ?_
  rintro e V0 ⟨ab, rfl, h0, hb0⟩
  have HRN : Calls Try.prog 12 #[.int .i64 (sz : Int)] V0 fun e w' => ∃ a c, e = .returned (.agg #[.slice a sz c, .int .i64 0]) ∧ Rw (fun x => V0.heap.size ≤ x) w' 4 1 a sz c (blR (List.replicate sz true)) ∧ Below V0.heap.size V0 w' := refnew_any sz (by omega) V0
  have HA0 : Hid (AIs V0 (fresh w V0) ab (Ar.new sz) ∧ Below w.heap.size w V0) := ⟨h0, hb0⟩
  clear HNW h0 hb0
  go_wp2_with fail
  refine HRN.mono ?_
  rintro e V1 ⟨fa, fc, rfl, hfw, hb1⟩
  obtain ⟨XB, hXB⟩ : ∃ x, V1.heap.size = x := ⟨_, rfl⟩
  obtain ⟨U1, hU1⟩ : ∃ x, V1.alloc (.cells #[.slice none 0 0, .int .i64 0] 31) = x := ⟨_, rfl⟩
  have rU1 : U1.heap[XB]? = some (.cells #[.slice none 0 0, .int .i64 0] 31 (0, 0)) := by rw [← hU1, ← hXB]; exact heap_alloc_new _ _
  have bU1 : Below V1.heap.size V1 U1 := by rw [← hU1]; exact (Below.refl _ _).alloc (Nat.le_refl _) _
  have q0 : U1.cell? ⟨XB, 0, none⟩ = some (.slice none 0 0) := by rw [cell_of_row _ _ _ _ _ _ rU1]; rfl
  have q1 : U1.cell? ⟨XB, 1, none⟩ = some (.int .i64 0) := by rw [cell_of_row _ _ _ _ _ _ rU1]; rfl
  have qf0 := frozen_of_row U1 XB 0 _ _ rU1
  have qf1 := frozen_of_row U1 XB 1 _ _ rU1
  obtain ⟨V2, hV2⟩ : ∃ x, (U1.setCell ⟨XB, 0, none⟩ (.slice fa sz fc)).setCell ⟨XB, 1, none⟩ (.int .i64 0) = x := ⟨_, rfl⟩
  have H0 : Hid (RfS w V2 (fresh w V0) ab XB (Ar.new sz) sz fa fc (List.replicate sz true) ∧ FitsA (Ar.new sz) (List.replicate sz true)) := by
    have hS : ∀ x, V0.heap.size ≤ x → ¬ fresh w V0 x := fun x hx hf => by have := hf.2; omega
    obtain ⟨g1, g2, g3⟩ := box2 (S := fresh w V0) (n := sz) bU1 rU1 (Nat.le_of_eq hXB) ((hfw.mono (fun x hx _ => hS x hx)).below bU1) hs1 hV2.symm
    have hx0 : V0.heap.size ≤ XB := by rw [← hXB]; exact hb1.size
    exact ⟨{ ar := (HA0.out.1.below hb1).below g2, sz := rfl, row := g1, fre := g3, xs := hS _ hx0, bel := (HA0.out.2.trans (hb1.mono HA0.out.2.size)).trans (g2.mono (Nat.le_trans HA0.out.2.size hb1.size)), old := fun x hx => hx.1, xo := Nat.le_trans HA0.out.2.size hx0 }, fits_new sz⟩
  clear HRN hfw hb1 rU1 bU1
  go_wp2
  clear q0 q1 qf0 qf1 hU1 hXB
  go_loopw [10] (fun v10 wr => ∃ (i : Nat) (X : Ar) (S : Nat → Prop) (fa : Option Addr) (fc : Nat) (F : List Bool), i ≤ len1 ∧ i ≤ 20 ∧ v10 = .int .i64 (i : Int) ∧ RfS w wr S ab XB X sz fa fc F ∧ FitsA X F) (fun v _ => len1 - (intOf v).toNat)
  case atStart => exact ⟨0, Ar.new sz, fresh w V0, fa, fc, List.replicate sz true, by omega, by omega, rfl, H0.out⟩
  case round =>
    clear H0
    obtain ⟨i, X, S, fa, fc, F, hi1, hi20, rfl, hR, hF⟩ := hrel
    have HRR : Hid (RfS w wr S ab XB X sz fa fc F ∧ FitsA X F) := ⟨hR, hF⟩
    by_cases hgo : i < len1 ∧ i < 20
    · have kk : (i : Int) < (len1 : Int) := by omega
      have kk2 : (i : Int) < 20 := by omega
      obtain ⟨q, hq⟩ : ∃ q, l1[i]? = some q := ⟨_, List.getElem?_eq_getElem (by have := HS1.out.2.1; omega)⟩
      obtain ⟨b, o, e0, _, hcs⟩ := (HS1.out.1 wr hR.bel).hat (by omega)
      obtain ⟨X', hX'⟩ : ∃ x, (X.take q).1 = x := ⟨_, rfl⟩
      obtain ⟨t2, ht2⟩ : ∃ x, (X.take q).2 = x := ⟨_, rfl⟩
      have HQ : Hid (l1[i]? = some q) := hq
      have HTQ : Hid ((X.take q).1 = X' ∧ (X.take q).2 = t2) := ⟨hX', ht2⟩
      have hXok : X.Ok := by obtain ⟨_, _, h9⟩ := hR.ar; exact h9.ok
      have HTS : Hid (X'.sz = X.sz) := by show _ = _; rw [← hX']; exact (Ar.take_ok hXok q).2.1
      have HCH : Hid (∀ V, Below wr.heap.size wr V → Calls Try.prog 21 #[.agg #[.slice fa sz fc, .int .i64 0], .agg #[.int .i64 q.1, .int .i64 q.2], .bool false] V fun e w' => ∃ a' c' F', e = .returned (.tuple #[.agg #[.slice a' sz c', .int .i64 0], .int .i64 t2]) ∧ Rw (fun x => ¬ S x) w' 4 1 a' sz c' (blR F') ∧ FitsA X' F' ∧ Below V.heap.size V w') := fun V hV => by
        have h8 := hR.below hV
        have h9 := change_any (G := fun x => ¬ S x) h8.fre (fun x hx hs => by have := h8.ar.bd x hs; omega) 0 q (HS1.out.2.2 q (List.mem_of_getElem? hq)) (by omega) hs1 hXok hF
        unfold ChTo at h9
        rw [hX', ht2] at h9
        exact h9
      have HK : Hid (∀ V, Below wr.heap.size wr V → V.cell? ⟨XB, 0, none⟩ = some (.slice fa sz fc) ∧ V.cell? ⟨XB, 1, none⟩ = some (.int .i64 0) ∧ V.cell? ⟨b, o + i * 2, none⟩ = some (.int .i64 q.1) ∧ V.cell? ⟨b, o + i * 2 + 1, none⟩ = some (.int .i64 q.2)) := fun V hV => by
        obtain ⟨g0, g1, _, _⟩ := hR.cells
        obtain ⟨g2, g3⟩ := hcs i q hq
        exact ⟨keepc hV g0, keepc hV g1, keepc hV g2, keepc hV g3⟩
      cases e0
      clear hR hF hcs hq hX' ht2 hXok
      go_wp2
      refine wp_region_held_drew (S := fun W => W.cell? ⟨XB, 0, none⟩ = some (.slice fa sz fc) ∧ W.cell? ⟨XB, 1, none⟩ = some (.int .i64 0) ∧ W.cell? ⟨b, o + i * 2, none⟩ = some (.int .i64 q.1) ∧ W.cell? ⟨b, o + i * 2 + 1, none⟩ = some (.int .i64 q.2)) (by kernel_rfl) (HK.out wr.drew (Below.refl _ wr).drew) (fun hHeld => ?_)
      have H0 : Hid (Below wr.heap.size wr wr.drew) := (Below.refl _ wr).drew
      refine wpAnyH_take (i := 0) (v := ?va_0) rfl (by kernel_rfl) (by kernel_rfl) (by kernel_rfl) (fun _ _ _ h => h) (Or.inl ⟨by first | kernel_rfl | rfl, ?ya_0⟩) hHeld ?ra_0
      case ya_0 => (intro W hSW; (try dsimp only at hSW); go_simp; (try with_reducible rfl))
      change wpAnyH _ _ _ _ _ _ _ (Act.put _ (some 59) _) _
      simp only [Act.put, List.setIfInBounds_toArray, List.set_cons_zero, List.set_cons_succ]
      refine wpAnyH_take (i := 1) (v := ?va_1) rfl (by kernel_rfl) (by kernel_rfl) (by kernel_rfl) (fun _ _ _ h => h) (Or.inl ⟨by first | kernel_rfl | rfl, ?ya_1⟩) hHeld ?ra_1
      case ya_1 => (intro W hSW; (try dsimp only at hSW); go_simp; (try with_reducible rfl))
      change wpAnyH _ _ _ _ _ _ _ (Act.put _ (some 60) _) _
      simp only [Act.put, List.setIfInBounds_toArray, List.set_cons_zero, List.set_cons_succ]
      refine wpAnyH_take (i := 2) (v := ?va_2) rfl (by kernel_rfl) (by kernel_rfl) (by kernel_rfl) (fun _ _ _ h => h) (Or.inl ⟨by first | kernel_rfl | rfl, ?ya_2⟩) hHeld ?ra_2
      case ya_2 => (intro W hSW; (try dsimp only at hSW); go_simp; (try with_reducible rfl))
      change wpAnyH _ _ _ _ _ _ _ (Act.put _ (some 61) _) _
      simp only [Act.put, List.setIfInBounds_toArray, List.set_cons_zero, List.set_cons_succ]
      refine wpAnyH_take (i := 3) (v := ?va_3) rfl (by kernel_rfl) (by kernel_rfl) (by kernel_rfl) (fun _ _ _ h => h) (Or.inl ⟨by first | kernel_rfl | rfl, ?ya_3⟩) hHeld ?ra_3
      case ya_3 => (intro W hSW; (try dsimp only at hSW); go_simp; (try with_reducible rfl))
      change wpAnyH _ _ _ _ _ _ _ (Act.put _ (some 62) _) _
      simp only [Act.put, List.setIfInBounds_toArray, List.set_cons_zero, List.set_cons_succ]
      refine wpAnyH_take (i := 4) (v := ?va_4) rfl (by kernel_rfl) (by kernel_rfl) (by kernel_rfl) (fun _ _ _ h => h) (Or.inl ⟨by first | kernel_rfl | rfl, ?ya_4⟩) hHeld ?ra_4
      case ya_4 => (intro W hSW; (try dsimp only at hSW); go_simp; (try with_reducible rfl))
      change wpAnyH _ _ _ _ _ _ _ (Act.put _ (some 63) _) _
      simp only [Act.put, List.setIfInBounds_toArray, List.set_cons_zero, List.set_cons_succ]
      obtain ⟨ub, hub⟩ : ∃ ub, wr.drew.heap.size = ub := ⟨_, rfl⟩
      obtain ⟨U0, hU0⟩ : ∃ U0, wr.drew.alloc (.cells #[.slice none 0 0, .int .i64 0] 31) = U0 := ⟨_, rfl⟩
      have ru : U0.heap[ub]? = some (.cells #[.slice none 0 0, .int .i64 0] 31 (0, 0)) := by rw [← hU0, ← hub]; exact heap_alloc_new _ _
      have HU : Hid (Below wr.heap.size wr U0 ∧ wr.heap.size ≤ ub ∧ U0.heap[ub]? = some (.cells #[.slice none 0 0, .int .i64 0] 31 (0, 0)) ∧ wr.drew.heap.size = ub ∧ Below wr.drew.heap.size wr.drew U0) := ⟨by rw [← hU0]; exact (H0.out).alloc (H0.out).size _, by rw [← hub]; exact (H0.out).size, ru, hub, by rw [← hU0]; exact (Below.refl _ _).alloc (Nat.le_refl _) _⟩
      clear ru
      refine wpAnyH_ready (rs := [5, 9]) (by kernel_rfl) (by simp) ?_
      refine AllReadyH.cons rfl (fun K hK => ?_) (AllReadyH.cons rfl (fun K hK => ?_) AllReadyH.nil)
      · clear HU hU0 hub U0 ub
        go_simp
        refine (HCH.out wr.drew (H0.out)).mono ?_
        rintro e V6 ⟨fa2, fc2, F2, rfl, hfw, hfit, hb6⟩
        refine hK.out _ _ (HK.out V6 ((H0.out).trans (hb6.mono (H0.out).size))) (fun hHeld => ?_)
        clear hK K
        try simp only [Act.put, List.setIfInBounds_toArray, List.set_cons_zero, List.set_cons_succ]
        have H6 : Hid (Below wr.heap.size wr V6 ∧ Rw (fun x => ¬ S x) V6 4 1 fa2 sz fc2 (blR F2) ∧ Below wr.drew.heap.size wr.drew V6) := ⟨(H0.out).trans (hb6.mono (H0.out).size), hfw, hb6⟩
        have HFIT : Hid (FitsA X' F2) := hfit
        clear hfw hb6 hfit
        refine wpAnyH_take (i := 6) (v := ?vb_6) rfl (by kernel_rfl) (by kernel_rfl) (by kernel_rfl) (fun _ _ _ h => h) (Or.inl ⟨by first | kernel_rfl | rfl, ?yb_6⟩) hHeld ?rb_6
        case yb_6 => (intro W hSW; (try dsimp only at hSW); go_simp; (try with_reducible rfl))
        change wpAnyH _ _ _ _ _ _ _ (Act.put _ (some 58) _) _
        simp only [Act.put, List.setIfInBounds_toArray, List.set_cons_zero, List.set_cons_succ]
        refine wpAnyH_take (i := 7) (v := ?vb_7) rfl (by kernel_rfl) (by kernel_rfl) (by kernel_rfl) (fun _ _ _ h => h) (Or.inl ⟨by first | kernel_rfl | rfl, ?yb_7⟩) hHeld ?rb_7
        case yb_7 => (intro W hSW; (try dsimp only at hSW); go_simp; (try with_reducible rfl))
        change wpAnyH _ _ _ _ _ _ _ (Act.put _ (some 65) _) _
        simp only [Act.put, List.setIfInBounds_toArray, List.set_cons_zero, List.set_cons_succ]
        refine wpAnyH_take (i := 8) (v := ?vb_8) rfl (by kernel_rfl) (by kernel_rfl) (by kernel_rfl) (fun _ _ _ h => h) (Or.inl ⟨by first | kernel_rfl | rfl, ?yb_8⟩) hHeld ?rb_8
        case yb_8 => (intro W hSW; (try dsimp only at hSW); go_simp; (try with_reducible rfl))
        change wpAnyH _ _ _ _ _ _ _ (Act.put _ (some 66) _) _
        simp only [Act.put, List.setIfInBounds_toArray, List.set_cons_zero, List.set_cons_succ]
        obtain ⟨ub, hub⟩ : ∃ ub, V6.heap.size = ub := ⟨_, rfl⟩
        obtain ⟨U0, hU0⟩ : ∃ U0, V6.alloc (.cells #[.slice none 0 0, .int .i64 0] 31) = U0 := ⟨_, rfl⟩
        have ru : U0.heap[ub]? = some (.cells #[.slice none 0 0, .int .i64 0] 31 (0, 0)) := by rw [← hU0, ← hub]; exact heap_alloc_new _ _
        have HU : Hid (Below wr.heap.size wr U0 ∧ wr.heap.size ≤ ub ∧ U0.heap[ub]? = some (.cells #[.slice none 0 0, .int .i64 0] 31 (0, 0)) ∧ V6.heap.size = ub ∧ Below V6.heap.size V6 U0) := ⟨by rw [← hU0]; exact (H6.out.1).alloc (H6.out.1).size _, by rw [← hub]; exact (H6.out.1).size, ru, hub, by rw [← hU0]; exact (Below.refl _ _).alloc (Nat.le_refl _) _⟩
        clear ru
        refine wpAnyH_ready (rs := [9]) (by kernel_rfl) (by simp) ?_
        refine AllReadyH.cons rfl (fun K hK => ?_) AllReadyH.nil
        go_simp
        refine hK.out _ _ (HK.out U0 HU.out.1) (fun hHeld => ?_)
        clear hK K
        try simp only [Act.put, List.setIfInBounds_toArray, List.set_cons_zero, List.set_cons_succ]
        have rub := HU.out.2.2.1
        have v0 : U0.cell? ⟨ub, 0, none⟩ = some (.slice none 0 0) := by rw [cell_of_row _ _ _ _ _ _ rub]; rfl
        have v1 : U0.cell? ⟨ub, 1, none⟩ = some (.int .i64 0) := by rw [cell_of_row _ _ _ _ _ _ rub]; rfl
        have vf0 := frozen_of_row U0 ub 0 _ _ rub
        have vf1 := frozen_of_row U0 ub 1 _ _ rub
        obtain ⟨W7, hW7⟩ : ∃ W7, (U0.setCell ⟨ub, 0, none⟩ (.slice fa2 sz fc2)).setCell ⟨ub, 1, none⟩ (.int .i64 0) = W7 := ⟨_, rfl⟩
        have HE : Hid (W7.heap[ub]? = some (.cells #[.slice fa2 sz fc2, .int .i64 0] 31 (0, 0)) ∧ Below wr.heap.size wr W7 ∧ Rw (fun x => ¬ S x) W7 4 1 fa2 sz fc2 (blR F2)) := box2 (HU.out.1) rub HU.out.2.1 (H6.out.2.1.below HU.out.2.2.2.2) HSZ.out.1 hW7.symm
        have HK7 := HK.out W7 HE.out.2.1
        clear rub
        refine wpAnyH_ready (rs := [10]) (by kernel_rfl) (by simp) ?_
        refine AllReadyH.cons rfl (fun K hK => ?_) AllReadyH.nil
        go_simp
        refine hK.out _ _ (HK7) (fun hHeld => ?_)
        clear hK K
        refine wpAnyH_take (i := 11) (v := ?vb_11) rfl (by kernel_rfl) (by kernel_rfl) (by kernel_rfl) (fun _ _ _ h => h) (Or.inl ⟨by first | kernel_rfl | rfl, ?yb_11⟩) hHeld ?rb_11
        case yb_11 => (intro W hSW; (try dsimp only at hSW); go_simp; (try with_reducible rfl))
        change wpAnyH _ _ _ _ _ _ _ (Act.put _ (some 12) _) _
        simp only [Act.put, List.setIfInBounds_toArray, List.set_cons_zero, List.set_cons_succ]
        refine wpAnyH_done (by kernel_rfl) ?_ _
        clear v0 v1 vf0 vf1 hW7 HK7 hHeld
        have HR7 : Hid (RfS w W7 S ab XB X sz fa fc F) := HRR.out.1.below HE.out.2.1
        obtain ⟨_, _, xf0, xf1⟩ := HR7.out.cells
        have u0 : W7.cell? ⟨ub, 0, none⟩ = some (.slice fa2 sz fc2) := by rw [cell_of_row _ _ _ _ _ _ HE.out.1]; rfl
        have u1 : W7.cell? ⟨ub, 1, none⟩ = some (.int .i64 0) := by rw [cell_of_row _ _ _ _ _ _ HE.out.1]; rfl
        have y0 := HR7.out.cells.1
        have y1 := HR7.out.cells.2.1
        obtain ⟨W8, hW8⟩ : ∃ W8, (W7.setCell ⟨XB, 0, none⟩ (.slice fa2 sz fc2)).setCell ⟨XB, 1, none⟩ (.int .i64 0) = W8 := ⟨_, rfl⟩
        have HR8 : Hid (RfS w W8 S ab XB X sz fa2 fc2 F2) := HR7.out.set HSZ.out.1 HE.out.2.2 hW8.symm
        obtain ⟨b8, o8, e8, _, hc8⟩ := (HS1.out.1 W8 HR8.out.bel).hat (by omega)
        cases e8
        obtain ⟨p1, p2⟩ := hc8 i q HQ.out
        have HTK := take_any HR8.out.ar q
        rw [HTQ.out.1, HTQ.out.2] at HTK
        have hxx : (t2 != t2) = false := by simp
        clear hc8
        go_wp2_with fail
        refine HTK.mono ?_
        rintro e W9 hto
        have hk := hto
        obtain ⟨rfl, _, _⟩ := hk
        have HR9 : Hid (RfS w W9 (more S W8 W9) ab XB X' sz fa2 fc2 F2) := HR8.out.taken HTS.out hto
        clear hto HTK u0 u1 y0 y1 xf0 xf1 p1 p2 hW8
        go_wp2
        exact ⟨⟨i + 1, X', more S W8 W9, fa2, fc2, F2, by omega, by omega, by go_num, HR9.out, HFIT.out⟩, by simp [intOf]; omega⟩
      · go_simp
        refine hK.out _ _ (HK.out U0 HU.out.1) (fun hHeld => ?_)
        clear hK K
        try simp only [Act.put, List.setIfInBounds_toArray, List.set_cons_zero, List.set_cons_succ]
        refine wpAnyH_ready (rs := [5]) (by kernel_rfl) (by simp) ?_
        refine AllReadyH.cons rfl (fun K hK => ?_) AllReadyH.nil
        go_simp
        refine (HCH.out U0 (HU.out.1)).mono ?_
        rintro e V6 ⟨fa2, fc2, F2, rfl, hfw, hfit, hb6⟩
        refine hK.out _ _ (HK.out V6 ((HU.out.1).trans (hb6.mono (HU.out.1).size))) (fun hHeld => ?_)
        clear hK K
        try simp only [Act.put, List.setIfInBounds_toArray, List.set_cons_zero, List.set_cons_succ]
        have H6 : Hid (Below wr.heap.size wr V6 ∧ Rw (fun x => ¬ S x) V6 4 1 fa2 sz fc2 (blR F2) ∧ Below U0.heap.size U0 V6) := ⟨(HU.out.1).trans (hb6.mono (HU.out.1).size), hfw, hb6⟩
        have HFIT : Hid (FitsA X' F2) := hfit
        clear hfw hb6 hfit
        refine wpAnyH_take (i := 6) (v := ?ve_6) rfl (by kernel_rfl) (by kernel_rfl) (by kernel_rfl) (fun _ _ _ h => h) (Or.inl ⟨by first | kernel_rfl | rfl, ?ye_6⟩) hHeld ?re_6
        case ye_6 => (intro W hSW; (try dsimp only at hSW); go_simp; (try with_reducible rfl))
        change wpAnyH _ _ _ _ _ _ _ (Act.put _ (some 58) _) _
        simp only [Act.put, List.setIfInBounds_toArray, List.set_cons_zero, List.set_cons_succ]
        refine wpAnyH_take (i := 7) (v := ?ve_7) rfl (by kernel_rfl) (by kernel_rfl) (by kernel_rfl) (fun _ _ _ h => h) (Or.inl ⟨by first | kernel_rfl | rfl, ?ye_7⟩) hHeld ?re_7
        case ye_7 => (intro W hSW; (try dsimp only at hSW); go_simp; (try with_reducible rfl))
        change wpAnyH _ _ _ _ _ _ _ (Act.put _ (some 65) _) _
        simp only [Act.put, List.setIfInBounds_toArray, List.set_cons_zero, List.set_cons_succ]
        refine wpAnyH_take (i := 8) (v := ?ve_8) rfl (by kernel_rfl) (by kernel_rfl) (by kernel_rfl) (fun _ _ _ h => h) (Or.inl ⟨by first | kernel_rfl | rfl, ?ye_8⟩) hHeld ?re_8
        case ye_8 => (intro W hSW; (try dsimp only at hSW); go_simp; (try with_reducible rfl))
        change wpAnyH _ _ _ _ _ _ _ (Act.put _ (some 66) _) _
        simp only [Act.put, List.setIfInBounds_toArray, List.set_cons_zero, List.set_cons_succ]
        have rub := (H6.out.2.2.block ub (lt_of_some HU.out.2.2.1)).trans HU.out.2.2.1
        have v0 : V6.cell? ⟨ub, 0, none⟩ = some (.slice none 0 0) := by rw [cell_of_row _ _ _ _ _ _ rub]; rfl
        have v1 : V6.cell? ⟨ub, 1, none⟩ = some (.int .i64 0) := by rw [cell_of_row _ _ _ _ _ _ rub]; rfl
        have vf0 := frozen_of_row V6 ub 0 _ _ rub
        have vf1 := frozen_of_row V6 ub 1 _ _ rub
        obtain ⟨W7, hW7⟩ : ∃ W7, (V6.setCell ⟨ub, 0, none⟩ (.slice fa2 sz fc2)).setCell ⟨ub, 1, none⟩ (.int .i64 0) = W7 := ⟨_, rfl⟩
        have HE : Hid (W7.heap[ub]? = some (.cells #[.slice fa2 sz fc2, .int .i64 0] 31 (0, 0)) ∧ Below wr.heap.size wr W7 ∧ Rw (fun x => ¬ S x) W7 4 1 fa2 sz fc2 (blR F2)) := box2 (H6.out.1) rub HU.out.2.1 (H6.out.2.1) HSZ.out.1 hW7.symm
        have HK7 := HK.out W7 HE.out.2.1
        clear rub
        refine wpAnyH_ready (rs := [10]) (by kernel_rfl) (by simp) ?_
        refine AllReadyH.cons rfl (fun K hK => ?_) AllReadyH.nil
        go_simp
        refine hK.out _ _ (HK7) (fun hHeld => ?_)
        clear hK K
        refine wpAnyH_take (i := 11) (v := ?ve_11) rfl (by kernel_rfl) (by kernel_rfl) (by kernel_rfl) (fun _ _ _ h => h) (Or.inl ⟨by first | kernel_rfl | rfl, ?ye_11⟩) hHeld ?re_11
        case ye_11 => (intro W hSW; (try dsimp only at hSW); go_simp; (try with_reducible rfl))
        change wpAnyH _ _ _ _ _ _ _ (Act.put _ (some 12) _) _
        simp only [Act.put, List.setIfInBounds_toArray, List.set_cons_zero, List.set_cons_succ]
        refine wpAnyH_done (by kernel_rfl) ?_ _
        clear v0 v1 vf0 vf1 hW7 HK7 hHeld
        have HR7 : Hid (RfS w W7 S ab XB X sz fa fc F) := HRR.out.1.below HE.out.2.1
        obtain ⟨_, _, xf0, xf1⟩ := HR7.out.cells
        have u0 : W7.cell? ⟨ub, 0, none⟩ = some (.slice fa2 sz fc2) := by rw [cell_of_row _ _ _ _ _ _ HE.out.1]; rfl
        have u1 : W7.cell? ⟨ub, 1, none⟩ = some (.int .i64 0) := by rw [cell_of_row _ _ _ _ _ _ HE.out.1]; rfl
        have y0 := HR7.out.cells.1
        have y1 := HR7.out.cells.2.1
        obtain ⟨W8, hW8⟩ : ∃ W8, (W7.setCell ⟨XB, 0, none⟩ (.slice fa2 sz fc2)).setCell ⟨XB, 1, none⟩ (.int .i64 0) = W8 := ⟨_, rfl⟩
        have HR8 : Hid (RfS w W8 S ab XB X sz fa2 fc2 F2) := HR7.out.set HSZ.out.1 HE.out.2.2 hW8.symm
        obtain ⟨b8, o8, e8, _, hc8⟩ := (HS1.out.1 W8 HR8.out.bel).hat (by omega)
        cases e8
        obtain ⟨p1, p2⟩ := hc8 i q HQ.out
        have HTK := take_any HR8.out.ar q
        rw [HTQ.out.1, HTQ.out.2] at HTK
        have hxx : (t2 != t2) = false := by simp
        clear hc8
        go_wp2_with fail
        refine HTK.mono ?_
        rintro e W9 hto
        have hk := hto
        obtain ⟨rfl, _, _⟩ := hk
        have HR9 : Hid (RfS w W9 (more S W8 W9) ab XB X' sz fa2 fc2 F2) := HR8.out.taken HTS.out hto
        clear hto HTK u0 u1 y0 y1 xf0 xf1 p1 p2 hW8
        go_wp2
        exact ⟨⟨i + 1, X', more S W8 W9, fa2, fc2, F2, by omega, by omega, by go_num, HR9.out, HFIT.out⟩, by simp [intOf]; omega⟩
    · have HP : Hid (1 ≤ sz ∧ sz ≤ 300 ∧ len2 ≤ 40) := HSZ.out
      clear hR hF
      by_cases hl : i < len1
      · have kk : (i : Int) < (len1 : Int) := by omega
        have kk2 : ¬ (i : Int) < 20 := by omega
        clear HS1
        as_aux_lemma =>
        go_wp2
        go_loopw [13, 14] (fun v13 v14 wr => ∃ (j : Nat) (wy : Int), j ≤ len2 ∧ v14 = .int .i64 (j : Int) ∧ v13 = .int .i64 wy ∧ Y2 X l2 j wy ∧ RfS w wr S ab XB X sz fa fc F ∧ FitsA X F) (fun _ v _ => len2 - (intOf v).toNat)
        case atStart => exact ⟨0, 0, by omega, rfl, rfl, .inr ⟨rfl, fun i _ hi => absurd hi (by omega)⟩, HRR.out⟩
        case round =>
          clear HRR
          obtain ⟨j, wy, hj, rfl, rfl, hy, hR, hF⟩ := hrel
          have HRR : Hid (RfS w wr S ab XB X sz fa fc F ∧ FitsA X F) := ⟨hR, hF⟩
          have HY : Hid (Y2 X l2 j wy) := hy
          by_cases hlt : j < len2
          · have kkj : (j : Int) < (len2 : Int) := by omega
            obtain ⟨q, hq⟩ : ∃ q, l2[j]? = some q := ⟨_, List.getElem?_eq_getElem (by have := HS2.out.2.1; omega)⟩
            obtain ⟨b, o, e0, _, hcs⟩ := (HS2.out.1 wr hR.bel).hat (by omega)
            have HQ : Hid (l2[j]? = some q) := hq
            obtain ⟨Rb, hRb⟩ : ∃ x, X.has q = x := ⟨_, rfl⟩
            have HRB : Hid (X.has q = Rb) := hRb
            have HWI : Hid (∀ V, Below wr.heap.size wr V → Calls Try.prog 23 #[.agg #[.slice fa sz fc, .int .i64 0], .agg #[.int .i64 q.1, .int .i64 q.2]] V fun e w' => e = .returned (.bool Rb) ∧ Below V.heap.size V w') := fun V _ => by
              have h9 := rwithin_any fa sz fc 0 q V (by have := HP; omega) (HS2.out.2.2 q (List.mem_of_getElem? hq)) X hR.sz
              rw [hRb] at h9
              exact h9
            have HK : Hid (∀ V, Below wr.heap.size wr V → V.cell? ⟨XB, 0, none⟩ = some (.slice fa sz fc) ∧ V.cell? ⟨XB, 1, none⟩ = some (.int .i64 0) ∧ V.cell? ⟨b, o + j * 2, none⟩ = some (.int .i64 q.1) ∧ V.cell? ⟨b, o + j * 2 + 1, none⟩ = some (.int .i64 q.2)) := fun V hV => by
              obtain ⟨g0, g1, _, _⟩ := hR.cells
              obtain ⟨g2, g3⟩ := hcs j q hq
              exact ⟨keepc hV g0, keepc hV g1, keepc hV g2, keepc hV g3⟩
            cases e0
            clear hR hF hcs hq hRb hy
            go_wp2
            refine wp_region_held_drew (S := fun W => W.cell? ⟨XB, 0, none⟩ = some (.slice fa sz fc) ∧ W.cell? ⟨XB, 1, none⟩ = some (.int .i64 0) ∧ W.cell? ⟨b, o + j * 2, none⟩ = some (.int .i64 q.1) ∧ W.cell? ⟨b, o + j * 2 + 1, none⟩ = some (.int .i64 q.2)) (by kernel_rfl) (HK.out wr.drew (Below.refl _ wr).drew) (fun hHeld => ?_)
            have H0 : Hid (Below wr.heap.size wr wr.drew) := (Below.refl _ wr).drew
            refine wpAnyH_take (i := 0) (v := ?vp0g0) rfl (by kernel_rfl) (by kernel_rfl) (by kernel_rfl) (fun _ _ _ h => h) (Or.inl ⟨by first | kernel_rfl | rfl, ?yp0g0⟩) hHeld ?rp0g0
            case yp0g0 => (intro W hSW; (try dsimp only at hSW); go_simp; (try with_reducible rfl))
            change wpAnyH _ _ _ _ _ _ _ (Act.put _ (some 82) _) _
            simp only [Act.put, List.setIfInBounds_toArray, List.set_cons_zero, List.set_cons_succ]
            refine wpAnyH_take (i := 1) (v := ?vp0g1) rfl (by kernel_rfl) (by kernel_rfl) (by kernel_rfl) (fun _ _ _ h => h) (Or.inl ⟨by first | kernel_rfl | rfl, ?yp0g1⟩) hHeld ?rp0g1
            case yp0g1 => (intro W hSW; (try dsimp only at hSW); go_simp; (try with_reducible rfl))
            change wpAnyH _ _ _ _ _ _ _ (Act.put _ (some 83) _) _
            simp only [Act.put, List.setIfInBounds_toArray, List.set_cons_zero, List.set_cons_succ]
            refine wpAnyH_take (i := 2) (v := ?vp0g2) rfl (by kernel_rfl) (by kernel_rfl) (by kernel_rfl) (fun _ _ _ h => h) (Or.inl ⟨by first | kernel_rfl | rfl, ?yp0g2⟩) hHeld ?rp0g2
            case yp0g2 => (intro W hSW; (try dsimp only at hSW); go_simp; (try with_reducible rfl))
            change wpAnyH _ _ _ _ _ _ _ (Act.put _ (some 84) _) _
            simp only [Act.put, List.setIfInBounds_toArray, List.set_cons_zero, List.set_cons_succ]
            refine wpAnyH_take (i := 3) (v := ?vp0g3) rfl (by kernel_rfl) (by kernel_rfl) (by kernel_rfl) (fun _ _ _ h => h) (Or.inl ⟨by first | kernel_rfl | rfl, ?yp0g3⟩) hHeld ?rp0g3
            case yp0g3 => (intro W hSW; (try dsimp only at hSW); go_simp; (try with_reducible rfl))
            change wpAnyH _ _ _ _ _ _ _ (Act.put _ (some 85) _) _
            simp only [Act.put, List.setIfInBounds_toArray, List.set_cons_zero, List.set_cons_succ]
            refine wpAnyH_take (i := 4) (v := ?vp0g4) rfl (by kernel_rfl) (by kernel_rfl) (by kernel_rfl) (fun _ _ _ h => h) (Or.inl ⟨by first | kernel_rfl | rfl, ?yp0g4⟩) hHeld ?rp0g4
            case yp0g4 => (intro W hSW; (try dsimp only at hSW); go_simp; (try with_reducible rfl))
            change wpAnyH _ _ _ _ _ _ _ (Act.put _ (some 86) _) _
            simp only [Act.put, List.setIfInBounds_toArray, List.set_cons_zero, List.set_cons_succ]
            refine wpAnyH_ready (rs := [5]) (by kernel_rfl) (by simp) ?_
            refine AllReadyH.cons rfl (fun K hK => ?_) AllReadyH.nil
            go_simp
            refine (HWI.out wr.drew H0.out).mono ?_
            rintro e V6 ⟨rfl, hb6⟩
            refine hK.out _ _ (HK.out V6 (H0.out.trans (hb6.mono H0.out.size))) (fun hHeld => ?_)
            clear hK K
            try simp only [Act.put, List.setIfInBounds_toArray, List.set_cons_zero, List.set_cons_succ]
            have HR6 : Hid (RfS w V6 S ab XB X sz fa fc F) := HRR.out.1.below (H0.out.trans (hb6.mono H0.out.size))
            clear hb6
            refine wpAnyH_take (i := 6) (v := ?vp0g6) rfl (by kernel_rfl) (by kernel_rfl) (by kernel_rfl) (fun _ _ _ h => h) (Or.inl ⟨by first | kernel_rfl | rfl, ?yp0g6⟩) hHeld ?rp0g6
            case yp0g6 => (intro W hSW; (try dsimp only at hSW); go_simp; (try with_reducible rfl))
            change wpAnyH _ _ _ _ _ _ _ (Act.put _ (some 88) _) _
            simp only [Act.put, List.setIfInBounds_toArray, List.set_cons_zero, List.set_cons_succ]
            refine wpAnyH_done (by kernel_rfl) ?_ _
            clear hHeld
            cases Rb with
            | false =>
              go_wp2
              exact ⟨⟨j + 1, 9, by omega, by go_num, rfl, HY.out.no HQ.out HRB.out, HR6.out, HRR.out.2⟩, by simp [intOf]; omega⟩
            | true =>
              go_wp2
              exact ⟨⟨j + 1, wy, by omega, by go_num, rfl, HY.out.yes HQ.out HRB.out, HR6.out, HRR.out.2⟩, by simp [intOf]; omega⟩
          · have kkj : ¬ (j : Int) < (len2 : Int) := by omega
            have HY3 : Hid (Y3 X l2 0 wy) := hy.end_ (by have := HS2.out.2.1; omega)
            clear hy hR hF HY
            go_wp2
            go_loopw [13, 15] (fun v13 v15 wr => ∃ (j : Nat) (wy : Int), j ≤ len2 ∧ v15 = .int .i64 (j : Int) ∧ v13 = .int .i64 wy ∧ Y3 X l2 j wy ∧ RfS w wr S ab XB X sz fa fc F) (fun _ v _ => len2 - (intOf v).toNat)
            case atStart => exact ⟨0, wy, by omega, rfl, rfl, HY3.out, HRR.out.1⟩
            case round =>
              have HFF : Hid (FitsA X F) := HRR.out.2
              clear HRR HY3 kkj hlt hj
              obtain ⟨j, wy, hj, rfl, rfl, hy, hR⟩ := hrel
              have HRR : Hid (RfS w wr S ab XB X sz fa fc F ∧ FitsA X F) := ⟨hR, HFF.out⟩
              have HR3 : Hid (RfS w wr S ab XB X sz fa fc F ∧ FitsA X F) := HRR
              have HY : Hid (Y3 X l2 j wy) := hy
              by_cases hlt : j < len2
              · have kkj : (j : Int) < (len2 : Int) := by omega
                by_cases h9 : wy = 9
                · have HJ : Hid (l2.length ≤ j ∨ wy = 9) := .inr h9
                  have kw : (wy != 9) = false := by simp [h9]
                  clear hy hR
                  have HPL := plan_any HR3.out.1.ar (HS2.out.1 wr HR3.out.1.bel) (by have := HP; omega)
                  go_wp2_with fail
                  refine HPL.mono ?_
                  rintro e V7 hto
                  obtain ⟨m, km, cm, rfl, hk0, hb7⟩ := HY.out.plan HJ.out hto
                  have HR7 : Hid (RfS w V7 S ab XB X sz fa fc F) := HR3.out.1.below hb7
                  have HPN := plan_any HR7.out.ar (SpW.nil_ V7) (by omega)
                  have hxx : (wy != wy) = false := by simp
                  clear HPL hto hb7
                  by_cases hz : wy = 0
                  · subst hz
                    go_wp2_with fail
                    refine HPN.mono ?_
                    rintro e V8 hto
                    obtain ⟨m8, c8, rfl, hb8⟩ := plan_nil hto
                    have hb9 : Below w.heap.size w V8 := HR7.out.bel.trans (hb8.mono HR7.out.bel.size)
                    clear HPN hto hb8
                    have HLV := lives_h hb9
                    go_wp2_with fail
                    refine HLV.mono ?_
                    rintro e w9 ⟨rfl, hb9⟩
                    have HB9 : Hid (Below w.heap.size w w9) := hb9
                    clear HLV hb9
                    go_wp2
                    go_ret
                    exact ⟨rfl, HB9.out⟩
                  · obtain rfl := hk0 hz
                    have hwz : (wy != 0) = true := by simpa using hz
                    go_wp2_with fail
                    refine HPN.mono ?_
                    rintro e V8 hto
                    obtain ⟨m8, c8, rfl, hb8⟩ := plan_nil hto
                    have hb9 : Below w.heap.size w V8 := HR7.out.bel.trans (hb8.mono HR7.out.bel.size)
                    clear HPN hto hb8
                    have HLV := lives_h hb9
                    go_wp2_with fail
                    refine HLV.mono ?_
                    rintro e w9 ⟨rfl, hb9⟩
                    have HB9 : Hid (Below w.heap.size w w9) := hb9
                    clear HLV hb9
                    go_wp2
                    go_ret
                    exact ⟨rfl, HB9.out⟩
                have kw : (wy != 9) = true := by simpa using h9
                have HNW : Hid (¬ nowhere X l2) := hy.elim (fun h => absurd h.1 h9) (fun h => h.1)
                have HN : Hid (∀ s ∈ l2, 0 ≤ s.1 ∧ 1 ≤ s.2 ∧ s.1 + s.2 ≤ (sz : Int)) := fun s hs => by
                  rw [← hR.sz]
                  refine (X.has_iff s).1 ?_
                  cases hh : X.has s with
                  | true => rfl
                  | false => exact absurd ⟨s, hs, hh⟩ HNW.out
                obtain ⟨q, hq⟩ : ∃ q, l2[j]? = some q := ⟨_, List.getElem?_eq_getElem (by have := HS2.out.2.1; omega)⟩
                obtain ⟨b, o, e0, _, hcs⟩ := (HS2.out.1 wr hR.bel).hat (by omega)
                have HQ : Hid (l2[j]? = some q) := hq
                have HJL : Hid (j < len2) := hlt
                obtain ⟨Tb, hTb⟩ : ∃ x, takD X.hs q = x := ⟨_, rfl⟩
                have HTB : Hid (takD X.hs q = Tb) := hTb
                have HW9 : Hid (wy ≠ 9) := h9
                have HAL : Hid (∀ V, Below wr.heap.size wr V → Calls Try.prog 24 #[.agg #[.slice fa sz fc, .int .i64 0], .agg #[.int .i64 q.1, .int .i64 q.2], .bool false] V fun e w' => e = .returned (.bool Tb) ∧ Below V.heap.size V w') := fun V hV => by
                  obtain ⟨s0, s1, s2⟩ := HN.out q (List.mem_of_getElem? hq)
                  have hh : X.has q = true := (X.has_iff q).2 ⟨s0, s1, by rw [hR.sz]; exact s2⟩
                  have h9 := all_any (((hR.below hV).fre).mono (fun _ _ _ => trivial)) 0 q false s0 s1 s2 (by have := HP; omega)
                  have he : decide (allB F q false) = Tb := by rw [← hTb, Bool.eq_iff_iff, decide_eq_true_iff]; exact fits_tak hR.ar.ok HFF.out hh
                  rw [he] at h9
                  exact h9
                have HK : Hid (∀ V, Below wr.heap.size wr V → V.cell? ⟨XB, 0, none⟩ = some (.slice fa sz fc) ∧ V.cell? ⟨XB, 1, none⟩ = some (.int .i64 0) ∧ V.cell? ⟨b, o + j * 2, none⟩ = some (.int .i64 q.1) ∧ V.cell? ⟨b, o + j * 2 + 1, none⟩ = some (.int .i64 q.2)) := fun V hV => by
                  obtain ⟨g0, g1, _, _⟩ := hR.cells
                  obtain ⟨g2, g3⟩ := hcs j q hq
                  exact ⟨keepc hV g0, keepc hV g1, keepc hV g2, keepc hV g3⟩
                cases e0
                clear hR hcs hq hTb hy h9 hlt
                go_wp2
                refine wp_region_held_drew (S := fun W => W.cell? ⟨XB, 0, none⟩ = some (.slice fa sz fc) ∧ W.cell? ⟨XB, 1, none⟩ = some (.int .i64 0) ∧ W.cell? ⟨b, o + j * 2, none⟩ = some (.int .i64 q.1) ∧ W.cell? ⟨b, o + j * 2 + 1, none⟩ = some (.int .i64 q.2)) (by kernel_rfl) (HK.out wr.drew (Below.refl _ wr).drew) (fun hHeld => ?_)
                have H0 : Hid (Below wr.heap.size wr wr.drew) := (Below.refl _ wr).drew
                refine wpAnyH_take (i := 0) (v := ?vp0h0) rfl (by kernel_rfl) (by kernel_rfl) (by kernel_rfl) (fun _ _ _ h => h) (Or.inl ⟨by first | kernel_rfl | rfl, ?yp0h0⟩) hHeld ?rp0h0
                case yp0h0 => (intro W hSW; (try dsimp only at hSW); go_simp; (try with_reducible rfl))
                change wpAnyH _ _ _ _ _ _ _ (Act.put _ (some 99) _) _
                simp only [Act.put, List.setIfInBounds_toArray, List.set_cons_zero, List.set_cons_succ]
                refine wpAnyH_take (i := 1) (v := ?vp0h1) rfl (by kernel_rfl) (by kernel_rfl) (by kernel_rfl) (fun _ _ _ h => h) (Or.inl ⟨by first | kernel_rfl | rfl, ?yp0h1⟩) hHeld ?rp0h1
                case yp0h1 => (intro W hSW; (try dsimp only at hSW); go_simp; (try with_reducible rfl))
                change wpAnyH _ _ _ _ _ _ _ (Act.put _ (some 100) _) _
                simp only [Act.put, List.setIfInBounds_toArray, List.set_cons_zero, List.set_cons_succ]
                refine wpAnyH_take (i := 2) (v := ?vp0h2) rfl (by kernel_rfl) (by kernel_rfl) (by kernel_rfl) (fun _ _ _ h => h) (Or.inl ⟨by first | kernel_rfl | rfl, ?yp0h2⟩) hHeld ?rp0h2
                case yp0h2 => (intro W hSW; (try dsimp only at hSW); go_simp; (try with_reducible rfl))
                change wpAnyH _ _ _ _ _ _ _ (Act.put _ (some 101) _) _
                simp only [Act.put, List.setIfInBounds_toArray, List.set_cons_zero, List.set_cons_succ]
                refine wpAnyH_take (i := 3) (v := ?vp0h3) rfl (by kernel_rfl) (by kernel_rfl) (by kernel_rfl) (fun _ _ _ h => h) (Or.inl ⟨by first | kernel_rfl | rfl, ?yp0h3⟩) hHeld ?rp0h3
                case yp0h3 => (intro W hSW; (try dsimp only at hSW); go_simp; (try with_reducible rfl))
                change wpAnyH _ _ _ _ _ _ _ (Act.put _ (some 102) _) _
                simp only [Act.put, List.setIfInBounds_toArray, List.set_cons_zero, List.set_cons_succ]
                refine wpAnyH_take (i := 4) (v := ?vp0h4) rfl (by kernel_rfl) (by kernel_rfl) (by kernel_rfl) (fun _ _ _ h => h) (Or.inl ⟨by first | kernel_rfl | rfl, ?yp0h4⟩) hHeld ?rp0h4
                case yp0h4 => (intro W hSW; (try dsimp only at hSW); go_simp; (try with_reducible rfl))
                change wpAnyH _ _ _ _ _ _ _ (Act.put _ (some 103) _) _
                simp only [Act.put, List.setIfInBounds_toArray, List.set_cons_zero, List.set_cons_succ]
                refine wpAnyH_ready (rs := [5]) (by kernel_rfl) (by simp) ?_
                refine AllReadyH.cons rfl (fun K hK => ?_) AllReadyH.nil
                go_simp
                refine (HAL.out wr.drew H0.out).mono ?_
                rintro e V6 ⟨rfl, hb6⟩
                refine hK.out _ _ (HK.out V6 (H0.out.trans (hb6.mono H0.out.size))) (fun hHeld => ?_)
                clear hK K
                try simp only [Act.put, List.setIfInBounds_toArray, List.set_cons_zero, List.set_cons_succ]
                have HR6 : Hid (RfS w V6 S ab XB X sz fa fc F) := HRR.out.1.below (H0.out.trans (hb6.mono H0.out.size))
                clear hb6
                refine wpAnyH_take (i := 6) (v := ?vp0h6) rfl (by kernel_rfl) (by kernel_rfl) (by kernel_rfl) (fun _ _ _ h => h) (Or.inl ⟨by first | kernel_rfl | rfl, ?yp0h6⟩) hHeld ?rp0h6
                case yp0h6 => (intro W hSW; (try dsimp only at hSW); go_simp; (try with_reducible rfl))
                change wpAnyH _ _ _ _ _ _ _ (Act.put _ (some 105) _) _
                simp only [Act.put, List.setIfInBounds_toArray, List.set_cons_zero, List.set_cons_succ]
                refine wpAnyH_done (by kernel_rfl) ?_ _
                clear hHeld
                cases Tb with
                | false =>
                  clear HK HAL HY HR3 kw
                  first | simp only [Bool.not_false] | simp only [Bool.not_true] | skip
                  go_wp2
                  go_loopw [13, 16] (fun v13 v16 wr => ∃ (k : Nat) (wz : Int), k ≤ j ∧ v16 = .int .i64 (k : Int) ∧ v13 = .int .i64 wz ∧ Y4 X l2 j q k wz ∧ RfS w wr S ab XB X sz fa fc F) (fun _ v _ => j - (intOf v).toNat)
                  case atStart => exact ⟨0, _, by omega, rfl, rfl, Y3.no HTB.out, HR6.out⟩
                  case round =>
                    clear HR6
                    obtain ⟨k, wz, hk, rfl, rfl, hy4, hR4⟩ := hrel
                    have HY4 : Hid (Y4 X l2 j q k wz ∧ RfS w wr S ab XB X sz fa fc F) := ⟨hy4, hR4⟩
                    by_cases hlt : k < j
                    · have kkj : (k : Int) < (j : Int) := by omega
                      have kk2 : (k : Int) < (len2 : Int) := by have := HJL.out; omega
                      obtain ⟨t, ht⟩ : ∃ t, l2[k]? = some t := ⟨_, List.getElem?_eq_getElem (by have := HS2.out.2.1; have := HJL.out; omega)⟩
                      obtain ⟨b4, o4, e4, _, hc4⟩ := (HS2.out.1 wr hR4.bel).hat (by have := HJL.out; omega)
                      cases e4
                      obtain ⟨f0, f1⟩ := hc4 j q HQ.out
                      obtain ⟨f2, f3⟩ := hc4 k t ht
                      have f0 : wr.drew.cell? ⟨b, o + j * 2, none⟩ = some (.int .i64 q.1) := f0
                      have f1 : wr.drew.cell? ⟨b, o + j * 2 + 1, none⟩ = some (.int .i64 q.2) := f1
                      have f2 : wr.drew.cell? ⟨b, o + k * 2, none⟩ = some (.int .i64 t.1) := f2
                      have f3 : wr.drew.cell? ⟨b, o + k * 2 + 1, none⟩ = some (.int .i64 t.2) := f3
                      have HT : Hid (l2[k]? = some t) := ht
                      obtain ⟨t0, t1, t2⟩ := HN.out t (List.mem_of_getElem? ht)
                      obtain ⟨s0, s1, s2⟩ := HN.out q (List.mem_of_getElem? HQ.out)
                      have hs300 := HSZ.out.2.1
                      have hw1 : IntKind.i64.wrap (t.1 + t.2) = t.1 + t.2 := wr64_in ⟨by omega, by omega⟩
                      have hw2 : IntKind.i64.wrap (q.1 + q.2) = q.1 + q.2 := wr64_in ⟨by omega, by omega⟩
                      clear hc4 ht hy4 hR4 t0 t1 t2 s0 s1 s2 hs300
                      by_cases hA : q.1 < t.1 + t.2
                      · by_cases hB : t.1 < q.1 + q.2
                        · have HO : Hid (ovl q t) := ⟨hA, hB⟩
                          have hdA : decide (q.1 < t.1 + t.2) = true := by simpa using hA
                          have hdB : decide (t.1 < q.1 + q.2) = true := by simpa using hB
                          go_wp2
                          go_quiet (fail)
                          clear hdA hdB f0 f1 f2 f3 hw1 hw2 kk2
                          go_wp2
                          exact ⟨⟨k + 1, 8, by omega, by go_num, rfl, Y4.hit HT.out HO.out, HY4.out.2.below (by first | exact below_drewK (Below.refl _ _) _ | exact (Below.refl _ _).drew | exact Below.refl _ _)⟩, by simp [intOf]; omega⟩
                        · have HO : Hid (¬ ovl q t) := fun h => hB h.2
                          have hdA : decide (q.1 < t.1 + t.2) = true := by simpa using hA
                          have hdB : decide (t.1 < q.1 + q.2) = false := by simpa using hB
                          go_wp2
                          go_quiet (fail)
                          clear hdA hdB f0 f1 f2 f3 hw1 hw2 kk2
                          go_wp2
                          exact ⟨⟨k + 1, wz, by omega, by go_num, rfl, HY4.out.1.miss HT.out HO.out, HY4.out.2.below (by first | exact below_drewK (Below.refl _ _) _ | exact (Below.refl _ _).drew | exact Below.refl _ _)⟩, by simp [intOf]; omega⟩
                      · have HO : Hid (¬ ovl q t) := fun h => hA h.1
                        have hdA : decide (q.1 < t.1 + t.2) = false := by simpa using hA
                        go_wp2
                        go_quiet (fail)
                        clear hdA f0 f1 f2 f3 hw1 hw2 kk2
                        go_wp2
                        exact ⟨⟨k + 1, wz, by omega, by go_num, rfl, HY4.out.1.miss HT.out HO.out, HY4.out.2.below (by first | exact below_drewK (Below.refl _ _) _ | exact (Below.refl _ _).drew | exact Below.refl _ _)⟩, by simp [intOf]; omega⟩
                    · have kkj : ¬ (k : Int) < (j : Int) := by omega
                      have HY5 : Hid (Y3 X l2 (j + 1) wz) := hy4.end_ (by omega) HQ.out HNW.out
                      clear hy4 hR4
                      go_wp2
                      exact ⟨⟨j + 1, wz, by have := HJL.out; omega, by go_num, rfl, HY5.out, HY4.out.2⟩, by simp [intOf]; omega⟩
                | true =>
                  clear HK HAL HR3 kw
                  first | simp only [Bool.not_false] | simp only [Bool.not_true] | skip
                  go_wp2
                  go_loopw [13, 16] (fun v13 v16 wr => ∃ (k : Nat) (wz : Int), k ≤ j ∧ v16 = .int .i64 (k : Int) ∧ v13 = .int .i64 wz ∧ Y4 X l2 j q k wz ∧ RfS w wr S ab XB X sz fa fc F) (fun _ v _ => j - (intOf v).toNat)
                  case atStart => exact ⟨0, _, by omega, rfl, rfl, HY.out.yes HW9.out HTB.out, HR6.out⟩
                  case round =>
                    clear HR6
                    obtain ⟨k, wz, hk, rfl, rfl, hy4, hR4⟩ := hrel
                    have HY4 : Hid (Y4 X l2 j q k wz ∧ RfS w wr S ab XB X sz fa fc F) := ⟨hy4, hR4⟩
                    by_cases hlt : k < j
                    · have kkj : (k : Int) < (j : Int) := by omega
                      have kk2 : (k : Int) < (len2 : Int) := by have := HJL.out; omega
                      obtain ⟨t, ht⟩ : ∃ t, l2[k]? = some t := ⟨_, List.getElem?_eq_getElem (by have := HS2.out.2.1; have := HJL.out; omega)⟩
                      obtain ⟨b4, o4, e4, _, hc4⟩ := (HS2.out.1 wr hR4.bel).hat (by have := HJL.out; omega)
                      cases e4
                      obtain ⟨f0, f1⟩ := hc4 j q HQ.out
                      obtain ⟨f2, f3⟩ := hc4 k t ht
                      have f0 : wr.drew.cell? ⟨b, o + j * 2, none⟩ = some (.int .i64 q.1) := f0
                      have f1 : wr.drew.cell? ⟨b, o + j * 2 + 1, none⟩ = some (.int .i64 q.2) := f1
                      have f2 : wr.drew.cell? ⟨b, o + k * 2, none⟩ = some (.int .i64 t.1) := f2
                      have f3 : wr.drew.cell? ⟨b, o + k * 2 + 1, none⟩ = some (.int .i64 t.2) := f3
                      have HT : Hid (l2[k]? = some t) := ht
                      obtain ⟨t0, t1, t2⟩ := HN.out t (List.mem_of_getElem? ht)
                      obtain ⟨s0, s1, s2⟩ := HN.out q (List.mem_of_getElem? HQ.out)
                      have hs300 := HSZ.out.2.1
                      have hw1 : IntKind.i64.wrap (t.1 + t.2) = t.1 + t.2 := wr64_in ⟨by omega, by omega⟩
                      have hw2 : IntKind.i64.wrap (q.1 + q.2) = q.1 + q.2 := wr64_in ⟨by omega, by omega⟩
                      clear hc4 ht hy4 hR4 t0 t1 t2 s0 s1 s2 hs300
                      by_cases hA : q.1 < t.1 + t.2
                      · by_cases hB : t.1 < q.1 + q.2
                        · have HO : Hid (ovl q t) := ⟨hA, hB⟩
                          have hdA : decide (q.1 < t.1 + t.2) = true := by simpa using hA
                          have hdB : decide (t.1 < q.1 + q.2) = true := by simpa using hB
                          go_wp2
                          go_quiet (fail)
                          clear hdA hdB f0 f1 f2 f3 hw1 hw2 kk2
                          go_wp2
                          exact ⟨⟨k + 1, 8, by omega, by go_num, rfl, Y4.hit HT.out HO.out, HY4.out.2.below (by first | exact below_drewK (Below.refl _ _) _ | exact (Below.refl _ _).drew | exact Below.refl _ _)⟩, by simp [intOf]; omega⟩
                        · have HO : Hid (¬ ovl q t) := fun h => hB h.2
                          have hdA : decide (q.1 < t.1 + t.2) = true := by simpa using hA
                          have hdB : decide (t.1 < q.1 + q.2) = false := by simpa using hB
                          go_wp2
                          go_quiet (fail)
                          clear hdA hdB f0 f1 f2 f3 hw1 hw2 kk2
                          go_wp2
                          exact ⟨⟨k + 1, wz, by omega, by go_num, rfl, HY4.out.1.miss HT.out HO.out, HY4.out.2.below (by first | exact below_drewK (Below.refl _ _) _ | exact (Below.refl _ _).drew | exact Below.refl _ _)⟩, by simp [intOf]; omega⟩
                      · have HO : Hid (¬ ovl q t) := fun h => hA h.1
                        have hdA : decide (q.1 < t.1 + t.2) = false := by simpa using hA
                        go_wp2
                        go_quiet (fail)
                        clear hdA f0 f1 f2 f3 hw1 hw2 kk2
                        go_wp2
                        exact ⟨⟨k + 1, wz, by omega, by go_num, rfl, HY4.out.1.miss HT.out HO.out, HY4.out.2.below (by first | exact below_drewK (Below.refl _ _) _ | exact (Below.refl _ _).drew | exact Below.refl _ _)⟩, by simp [intOf]; omega⟩
                    · have kkj : ¬ (k : Int) < (j : Int) := by omega
                      have HY5 : Hid (Y3 X l2 (j + 1) wz) := hy4.end_ (by omega) HQ.out HNW.out
                      clear hy4 hR4
                      go_wp2
                      exact ⟨⟨j + 1, wz, by have := HJL.out; omega, by go_num, rfl, HY5.out, HY4.out.2⟩, by simp [intOf]; omega⟩
              · have kkj : ¬ (j : Int) < (len2 : Int) := by omega
                have HJ : Hid (l2.length ≤ j ∨ wy = 9) := .inl (by have := HS2.out.2.1; omega)
                clear hy hR
                have HPL := plan_any HR3.out.1.ar (HS2.out.1 wr HR3.out.1.bel) (by have := HP; omega)
                go_wp2_with fail
                refine HPL.mono ?_
                rintro e V7 hto
                obtain ⟨m, km, cm, rfl, hk0, hb7⟩ := HY.out.plan HJ.out hto
                have HR7 : Hid (RfS w V7 S ab XB X sz fa fc F) := HR3.out.1.below hb7
                have HPN := plan_any HR7.out.ar (SpW.nil_ V7) (by omega)
                have hxx : (wy != wy) = false := by simp
                clear HPL hto hb7
                by_cases hz : wy = 0
                · subst hz
                  go_wp2_with fail
                  refine HPN.mono ?_
                  rintro e V8 hto
                  obtain ⟨m8, c8, rfl, hb8⟩ := plan_nil hto
                  have hb9 : Below w.heap.size w V8 := HR7.out.bel.trans (hb8.mono HR7.out.bel.size)
                  clear HPN hto hb8
                  have HLV := lives_h hb9
                  go_wp2_with fail
                  refine HLV.mono ?_
                  rintro e w9 ⟨rfl, hb9⟩
                  have HB9 : Hid (Below w.heap.size w w9) := hb9
                  clear HLV hb9
                  go_wp2
                  go_ret
                  exact ⟨rfl, HB9.out⟩
                · obtain rfl := hk0 hz
                  have hwz : (wy != 0) = true := by simpa using hz
                  go_wp2_with fail
                  refine HPN.mono ?_
                  rintro e V8 hto
                  obtain ⟨m8, c8, rfl, hb8⟩ := plan_nil hto
                  have hb9 : Below w.heap.size w V8 := HR7.out.bel.trans (hb8.mono HR7.out.bel.size)
                  clear HPN hto hb8
                  have HLV := lives_h hb9
                  go_wp2_with fail
                  refine HLV.mono ?_
                  rintro e w9 ⟨rfl, hb9⟩
                  have HB9 : Hid (Below w.heap.size w w9) := hb9
                  clear HLV hb9
                  go_wp2
                  go_ret
                  exact ⟨rfl, HB9.out⟩
      · have kk : ¬ (i : Int) < (len1 : Int) := by omega
        clear HS1
        as_aux_lemma =>
        go_wp2
        go_loopw [13, 14] (fun v13 v14 wr => ∃ (j : Nat) (wy : Int), j ≤ len2 ∧ v14 = .int .i64 (j : Int) ∧ v13 = .int .i64 wy ∧ Y2 X l2 j wy ∧ RfS w wr S ab XB X sz fa fc F ∧ FitsA X F) (fun _ v _ => len2 - (intOf v).toNat)
        case atStart => exact ⟨0, 0, by omega, rfl, rfl, .inr ⟨rfl, fun i _ hi => absurd hi (by omega)⟩, HRR.out⟩
        case round =>
          clear HRR
          obtain ⟨j, wy, hj, rfl, rfl, hy, hR, hF⟩ := hrel
          have HRR : Hid (RfS w wr S ab XB X sz fa fc F ∧ FitsA X F) := ⟨hR, hF⟩
          have HY : Hid (Y2 X l2 j wy) := hy
          by_cases hlt : j < len2
          · have kkj : (j : Int) < (len2 : Int) := by omega
            obtain ⟨q, hq⟩ : ∃ q, l2[j]? = some q := ⟨_, List.getElem?_eq_getElem (by have := HS2.out.2.1; omega)⟩
            obtain ⟨b, o, e0, _, hcs⟩ := (HS2.out.1 wr hR.bel).hat (by omega)
            have HQ : Hid (l2[j]? = some q) := hq
            obtain ⟨Rb, hRb⟩ : ∃ x, X.has q = x := ⟨_, rfl⟩
            have HRB : Hid (X.has q = Rb) := hRb
            have HWI : Hid (∀ V, Below wr.heap.size wr V → Calls Try.prog 23 #[.agg #[.slice fa sz fc, .int .i64 0], .agg #[.int .i64 q.1, .int .i64 q.2]] V fun e w' => e = .returned (.bool Rb) ∧ Below V.heap.size V w') := fun V _ => by
              have h9 := rwithin_any fa sz fc 0 q V (by have := HP; omega) (HS2.out.2.2 q (List.mem_of_getElem? hq)) X hR.sz
              rw [hRb] at h9
              exact h9
            have HK : Hid (∀ V, Below wr.heap.size wr V → V.cell? ⟨XB, 0, none⟩ = some (.slice fa sz fc) ∧ V.cell? ⟨XB, 1, none⟩ = some (.int .i64 0) ∧ V.cell? ⟨b, o + j * 2, none⟩ = some (.int .i64 q.1) ∧ V.cell? ⟨b, o + j * 2 + 1, none⟩ = some (.int .i64 q.2)) := fun V hV => by
              obtain ⟨g0, g1, _, _⟩ := hR.cells
              obtain ⟨g2, g3⟩ := hcs j q hq
              exact ⟨keepc hV g0, keepc hV g1, keepc hV g2, keepc hV g3⟩
            cases e0
            clear hR hF hcs hq hRb hy
            go_wp2
            refine wp_region_held_drew (S := fun W => W.cell? ⟨XB, 0, none⟩ = some (.slice fa sz fc) ∧ W.cell? ⟨XB, 1, none⟩ = some (.int .i64 0) ∧ W.cell? ⟨b, o + j * 2, none⟩ = some (.int .i64 q.1) ∧ W.cell? ⟨b, o + j * 2 + 1, none⟩ = some (.int .i64 q.2)) (by kernel_rfl) (HK.out wr.drew (Below.refl _ wr).drew) (fun hHeld => ?_)
            have H0 : Hid (Below wr.heap.size wr wr.drew) := (Below.refl _ wr).drew
            refine wpAnyH_take (i := 0) (v := ?vp1g0) rfl (by kernel_rfl) (by kernel_rfl) (by kernel_rfl) (fun _ _ _ h => h) (Or.inl ⟨by first | kernel_rfl | rfl, ?yp1g0⟩) hHeld ?rp1g0
            case yp1g0 => (intro W hSW; (try dsimp only at hSW); go_simp; (try with_reducible rfl))
            change wpAnyH _ _ _ _ _ _ _ (Act.put _ (some 82) _) _
            simp only [Act.put, List.setIfInBounds_toArray, List.set_cons_zero, List.set_cons_succ]
            refine wpAnyH_take (i := 1) (v := ?vp1g1) rfl (by kernel_rfl) (by kernel_rfl) (by kernel_rfl) (fun _ _ _ h => h) (Or.inl ⟨by first | kernel_rfl | rfl, ?yp1g1⟩) hHeld ?rp1g1
            case yp1g1 => (intro W hSW; (try dsimp only at hSW); go_simp; (try with_reducible rfl))
            change wpAnyH _ _ _ _ _ _ _ (Act.put _ (some 83) _) _
            simp only [Act.put, List.setIfInBounds_toArray, List.set_cons_zero, List.set_cons_succ]
            refine wpAnyH_take (i := 2) (v := ?vp1g2) rfl (by kernel_rfl) (by kernel_rfl) (by kernel_rfl) (fun _ _ _ h => h) (Or.inl ⟨by first | kernel_rfl | rfl, ?yp1g2⟩) hHeld ?rp1g2
            case yp1g2 => (intro W hSW; (try dsimp only at hSW); go_simp; (try with_reducible rfl))
            change wpAnyH _ _ _ _ _ _ _ (Act.put _ (some 84) _) _
            simp only [Act.put, List.setIfInBounds_toArray, List.set_cons_zero, List.set_cons_succ]
            refine wpAnyH_take (i := 3) (v := ?vp1g3) rfl (by kernel_rfl) (by kernel_rfl) (by kernel_rfl) (fun _ _ _ h => h) (Or.inl ⟨by first | kernel_rfl | rfl, ?yp1g3⟩) hHeld ?rp1g3
            case yp1g3 => (intro W hSW; (try dsimp only at hSW); go_simp; (try with_reducible rfl))
            change wpAnyH _ _ _ _ _ _ _ (Act.put _ (some 85) _) _
            simp only [Act.put, List.setIfInBounds_toArray, List.set_cons_zero, List.set_cons_succ]
            refine wpAnyH_take (i := 4) (v := ?vp1g4) rfl (by kernel_rfl) (by kernel_rfl) (by kernel_rfl) (fun _ _ _ h => h) (Or.inl ⟨by first | kernel_rfl | rfl, ?yp1g4⟩) hHeld ?rp1g4
            case yp1g4 => (intro W hSW; (try dsimp only at hSW); go_simp; (try with_reducible rfl))
            change wpAnyH _ _ _ _ _ _ _ (Act.put _ (some 86) _) _
            simp only [Act.put, List.setIfInBounds_toArray, List.set_cons_zero, List.set_cons_succ]
            refine wpAnyH_ready (rs := [5]) (by kernel_rfl) (by simp) ?_
            refine AllReadyH.cons rfl (fun K hK => ?_) AllReadyH.nil
            go_simp
            refine (HWI.out wr.drew H0.out).mono ?_
            rintro e V6 ⟨rfl, hb6⟩
            refine hK.out _ _ (HK.out V6 (H0.out.trans (hb6.mono H0.out.size))) (fun hHeld => ?_)
            clear hK K
            try simp only [Act.put, List.setIfInBounds_toArray, List.set_cons_zero, List.set_cons_succ]
            have HR6 : Hid (RfS w V6 S ab XB X sz fa fc F) := HRR.out.1.below (H0.out.trans (hb6.mono H0.out.size))
            clear hb6
            refine wpAnyH_take (i := 6) (v := ?vp1g6) rfl (by kernel_rfl) (by kernel_rfl) (by kernel_rfl) (fun _ _ _ h => h) (Or.inl ⟨by first | kernel_rfl | rfl, ?yp1g6⟩) hHeld ?rp1g6
            case yp1g6 => (intro W hSW; (try dsimp only at hSW); go_simp; (try with_reducible rfl))
            change wpAnyH _ _ _ _ _ _ _ (Act.put _ (some 88) _) _
            simp only [Act.put, List.setIfInBounds_toArray, List.set_cons_zero, List.set_cons_succ]
            refine wpAnyH_done (by kernel_rfl) ?_ _
            clear hHeld
            cases Rb with
            | false =>
              go_wp2
              exact ⟨⟨j + 1, 9, by omega, by go_num, rfl, HY.out.no HQ.out HRB.out, HR6.out, HRR.out.2⟩, by simp [intOf]; omega⟩
            | true =>
              go_wp2
              exact ⟨⟨j + 1, wy, by omega, by go_num, rfl, HY.out.yes HQ.out HRB.out, HR6.out, HRR.out.2⟩, by simp [intOf]; omega⟩
          · have kkj : ¬ (j : Int) < (len2 : Int) := by omega
            have HY3 : Hid (Y3 X l2 0 wy) := hy.end_ (by have := HS2.out.2.1; omega)
            clear hy hR hF HY
            go_wp2
            go_loopw [13, 15] (fun v13 v15 wr => ∃ (j : Nat) (wy : Int), j ≤ len2 ∧ v15 = .int .i64 (j : Int) ∧ v13 = .int .i64 wy ∧ Y3 X l2 j wy ∧ RfS w wr S ab XB X sz fa fc F) (fun _ v _ => len2 - (intOf v).toNat)
            case atStart => exact ⟨0, wy, by omega, rfl, rfl, HY3.out, HRR.out.1⟩
            case round =>
              have HFF : Hid (FitsA X F) := HRR.out.2
              clear HRR HY3 kkj hlt hj
              obtain ⟨j, wy, hj, rfl, rfl, hy, hR⟩ := hrel
              have HRR : Hid (RfS w wr S ab XB X sz fa fc F ∧ FitsA X F) := ⟨hR, HFF.out⟩
              have HR3 : Hid (RfS w wr S ab XB X sz fa fc F ∧ FitsA X F) := HRR
              have HY : Hid (Y3 X l2 j wy) := hy
              by_cases hlt : j < len2
              · have kkj : (j : Int) < (len2 : Int) := by omega
                by_cases h9 : wy = 9
                · have HJ : Hid (l2.length ≤ j ∨ wy = 9) := .inr h9
                  have kw : (wy != 9) = false := by simp [h9]
                  clear hy hR
                  have HPL := plan_any HR3.out.1.ar (HS2.out.1 wr HR3.out.1.bel) (by have := HP; omega)
                  go_wp2_with fail
                  refine HPL.mono ?_
                  rintro e V7 hto
                  obtain ⟨m, km, cm, rfl, hk0, hb7⟩ := HY.out.plan HJ.out hto
                  have HR7 : Hid (RfS w V7 S ab XB X sz fa fc F) := HR3.out.1.below hb7
                  have HPN := plan_any HR7.out.ar (SpW.nil_ V7) (by omega)
                  have hxx : (wy != wy) = false := by simp
                  clear HPL hto hb7
                  by_cases hz : wy = 0
                  · subst hz
                    go_wp2_with fail
                    refine HPN.mono ?_
                    rintro e V8 hto
                    obtain ⟨m8, c8, rfl, hb8⟩ := plan_nil hto
                    have hb9 : Below w.heap.size w V8 := HR7.out.bel.trans (hb8.mono HR7.out.bel.size)
                    clear HPN hto hb8
                    have HLV := lives_h hb9
                    go_wp2_with fail
                    refine HLV.mono ?_
                    rintro e w9 ⟨rfl, hb9⟩
                    have HB9 : Hid (Below w.heap.size w w9) := hb9
                    clear HLV hb9
                    go_wp2
                    go_ret
                    exact ⟨rfl, HB9.out⟩
                  · obtain rfl := hk0 hz
                    have hwz : (wy != 0) = true := by simpa using hz
                    go_wp2_with fail
                    refine HPN.mono ?_
                    rintro e V8 hto
                    obtain ⟨m8, c8, rfl, hb8⟩ := plan_nil hto
                    have hb9 : Below w.heap.size w V8 := HR7.out.bel.trans (hb8.mono HR7.out.bel.size)
                    clear HPN hto hb8
                    have HLV := lives_h hb9
                    go_wp2_with fail
                    refine HLV.mono ?_
                    rintro e w9 ⟨rfl, hb9⟩
                    have HB9 : Hid (Below w.heap.size w w9) := hb9
                    clear HLV hb9
                    go_wp2
                    go_ret
                    exact ⟨rfl, HB9.out⟩
                have kw : (wy != 9) = true := by simpa using h9
                have HNW : Hid (¬ nowhere X l2) := hy.elim (fun h => absurd h.1 h9) (fun h => h.1)
                have HN : Hid (∀ s ∈ l2, 0 ≤ s.1 ∧ 1 ≤ s.2 ∧ s.1 + s.2 ≤ (sz : Int)) := fun s hs => by
                  rw [← hR.sz]
                  refine (X.has_iff s).1 ?_
                  cases hh : X.has s with
                  | true => rfl
                  | false => exact absurd ⟨s, hs, hh⟩ HNW.out
                obtain ⟨q, hq⟩ : ∃ q, l2[j]? = some q := ⟨_, List.getElem?_eq_getElem (by have := HS2.out.2.1; omega)⟩
                obtain ⟨b, o, e0, _, hcs⟩ := (HS2.out.1 wr hR.bel).hat (by omega)
                have HQ : Hid (l2[j]? = some q) := hq
                have HJL : Hid (j < len2) := hlt
                obtain ⟨Tb, hTb⟩ : ∃ x, takD X.hs q = x := ⟨_, rfl⟩
                have HTB : Hid (takD X.hs q = Tb) := hTb
                have HW9 : Hid (wy ≠ 9) := h9
                have HAL : Hid (∀ V, Below wr.heap.size wr V → Calls Try.prog 24 #[.agg #[.slice fa sz fc, .int .i64 0], .agg #[.int .i64 q.1, .int .i64 q.2], .bool false] V fun e w' => e = .returned (.bool Tb) ∧ Below V.heap.size V w') := fun V hV => by
                  obtain ⟨s0, s1, s2⟩ := HN.out q (List.mem_of_getElem? hq)
                  have hh : X.has q = true := (X.has_iff q).2 ⟨s0, s1, by rw [hR.sz]; exact s2⟩
                  have h9 := all_any (((hR.below hV).fre).mono (fun _ _ _ => trivial)) 0 q false s0 s1 s2 (by have := HP; omega)
                  have he : decide (allB F q false) = Tb := by rw [← hTb, Bool.eq_iff_iff, decide_eq_true_iff]; exact fits_tak hR.ar.ok HFF.out hh
                  rw [he] at h9
                  exact h9
                have HK : Hid (∀ V, Below wr.heap.size wr V → V.cell? ⟨XB, 0, none⟩ = some (.slice fa sz fc) ∧ V.cell? ⟨XB, 1, none⟩ = some (.int .i64 0) ∧ V.cell? ⟨b, o + j * 2, none⟩ = some (.int .i64 q.1) ∧ V.cell? ⟨b, o + j * 2 + 1, none⟩ = some (.int .i64 q.2)) := fun V hV => by
                  obtain ⟨g0, g1, _, _⟩ := hR.cells
                  obtain ⟨g2, g3⟩ := hcs j q hq
                  exact ⟨keepc hV g0, keepc hV g1, keepc hV g2, keepc hV g3⟩
                cases e0
                clear hR hcs hq hTb hy h9 hlt
                go_wp2
                refine wp_region_held_drew (S := fun W => W.cell? ⟨XB, 0, none⟩ = some (.slice fa sz fc) ∧ W.cell? ⟨XB, 1, none⟩ = some (.int .i64 0) ∧ W.cell? ⟨b, o + j * 2, none⟩ = some (.int .i64 q.1) ∧ W.cell? ⟨b, o + j * 2 + 1, none⟩ = some (.int .i64 q.2)) (by kernel_rfl) (HK.out wr.drew (Below.refl _ wr).drew) (fun hHeld => ?_)
                have H0 : Hid (Below wr.heap.size wr wr.drew) := (Below.refl _ wr).drew
                refine wpAnyH_take (i := 0) (v := ?vp1h0) rfl (by kernel_rfl) (by kernel_rfl) (by kernel_rfl) (fun _ _ _ h => h) (Or.inl ⟨by first | kernel_rfl | rfl, ?yp1h0⟩) hHeld ?rp1h0
                case yp1h0 => (intro W hSW; (try dsimp only at hSW); go_simp; (try with_reducible rfl))
                change wpAnyH _ _ _ _ _ _ _ (Act.put _ (some 99) _) _
                simp only [Act.put, List.setIfInBounds_toArray, List.set_cons_zero, List.set_cons_succ]
                refine wpAnyH_take (i := 1) (v := ?vp1h1) rfl (by kernel_rfl) (by kernel_rfl) (by kernel_rfl) (fun _ _ _ h => h) (Or.inl ⟨by first | kernel_rfl | rfl, ?yp1h1⟩) hHeld ?rp1h1
                case yp1h1 => (intro W hSW; (try dsimp only at hSW); go_simp; (try with_reducible rfl))
                change wpAnyH _ _ _ _ _ _ _ (Act.put _ (some 100) _) _
                simp only [Act.put, List.setIfInBounds_toArray, List.set_cons_zero, List.set_cons_succ]
                refine wpAnyH_take (i := 2) (v := ?vp1h2) rfl (by kernel_rfl) (by kernel_rfl) (by kernel_rfl) (fun _ _ _ h => h) (Or.inl ⟨by first | kernel_rfl | rfl, ?yp1h2⟩) hHeld ?rp1h2
                case yp1h2 => (intro W hSW; (try dsimp only at hSW); go_simp; (try with_reducible rfl))
                change wpAnyH _ _ _ _ _ _ _ (Act.put _ (some 101) _) _
                simp only [Act.put, List.setIfInBounds_toArray, List.set_cons_zero, List.set_cons_succ]
                refine wpAnyH_take (i := 3) (v := ?vp1h3) rfl (by kernel_rfl) (by kernel_rfl) (by kernel_rfl) (fun _ _ _ h => h) (Or.inl ⟨by first | kernel_rfl | rfl, ?yp1h3⟩) hHeld ?rp1h3
                case yp1h3 => (intro W hSW; (try dsimp only at hSW); go_simp; (try with_reducible rfl))
                change wpAnyH _ _ _ _ _ _ _ (Act.put _ (some 102) _) _
                simp only [Act.put, List.setIfInBounds_toArray, List.set_cons_zero, List.set_cons_succ]
                refine wpAnyH_take (i := 4) (v := ?vp1h4) rfl (by kernel_rfl) (by kernel_rfl) (by kernel_rfl) (fun _ _ _ h => h) (Or.inl ⟨by first | kernel_rfl | rfl, ?yp1h4⟩) hHeld ?rp1h4
                case yp1h4 => (intro W hSW; (try dsimp only at hSW); go_simp; (try with_reducible rfl))
                change wpAnyH _ _ _ _ _ _ _ (Act.put _ (some 103) _) _
                simp only [Act.put, List.setIfInBounds_toArray, List.set_cons_zero, List.set_cons_succ]
                refine wpAnyH_ready (rs := [5]) (by kernel_rfl) (by simp) ?_
                refine AllReadyH.cons rfl (fun K hK => ?_) AllReadyH.nil
                go_simp
                refine (HAL.out wr.drew H0.out).mono ?_
                rintro e V6 ⟨rfl, hb6⟩
                refine hK.out _ _ (HK.out V6 (H0.out.trans (hb6.mono H0.out.size))) (fun hHeld => ?_)
                clear hK K
                try simp only [Act.put, List.setIfInBounds_toArray, List.set_cons_zero, List.set_cons_succ]
                have HR6 : Hid (RfS w V6 S ab XB X sz fa fc F) := HRR.out.1.below (H0.out.trans (hb6.mono H0.out.size))
                clear hb6
                refine wpAnyH_take (i := 6) (v := ?vp1h6) rfl (by kernel_rfl) (by kernel_rfl) (by kernel_rfl) (fun _ _ _ h => h) (Or.inl ⟨by first | kernel_rfl | rfl, ?yp1h6⟩) hHeld ?rp1h6
                case yp1h6 => (intro W hSW; (try dsimp only at hSW); go_simp; (try with_reducible rfl))
                change wpAnyH _ _ _ _ _ _ _ (Act.put _ (some 105) _) _
                simp only [Act.put, List.setIfInBounds_toArray, List.set_cons_zero, List.set_cons_succ]
                refine wpAnyH_done (by kernel_rfl) ?_ _
                clear hHeld
                cases Tb with
                | false =>
                  clear HK HAL HY HR3 kw
                  first | simp only [Bool.not_false] | simp only [Bool.not_true] | skip
                  go_wp2
                  go_loopw [13, 16] (fun v13 v16 wr => ∃ (k : Nat) (wz : Int), k ≤ j ∧ v16 = .int .i64 (k : Int) ∧ v13 = .int .i64 wz ∧ Y4 X l2 j q k wz ∧ RfS w wr S ab XB X sz fa fc F) (fun _ v _ => j - (intOf v).toNat)
                  case atStart => exact ⟨0, _, by omega, rfl, rfl, Y3.no HTB.out, HR6.out⟩
                  case round =>
                    clear HR6
                    obtain ⟨k, wz, hk, rfl, rfl, hy4, hR4⟩ := hrel
                    have HY4 : Hid (Y4 X l2 j q k wz ∧ RfS w wr S ab XB X sz fa fc F) := ⟨hy4, hR4⟩
                    by_cases hlt : k < j
                    · have kkj : (k : Int) < (j : Int) := by omega
                      have kk2 : (k : Int) < (len2 : Int) := by have := HJL.out; omega
                      obtain ⟨t, ht⟩ : ∃ t, l2[k]? = some t := ⟨_, List.getElem?_eq_getElem (by have := HS2.out.2.1; have := HJL.out; omega)⟩
                      obtain ⟨b4, o4, e4, _, hc4⟩ := (HS2.out.1 wr hR4.bel).hat (by have := HJL.out; omega)
                      cases e4
                      obtain ⟨f0, f1⟩ := hc4 j q HQ.out
                      obtain ⟨f2, f3⟩ := hc4 k t ht
                      have f0 : wr.drew.cell? ⟨b, o + j * 2, none⟩ = some (.int .i64 q.1) := f0
                      have f1 : wr.drew.cell? ⟨b, o + j * 2 + 1, none⟩ = some (.int .i64 q.2) := f1
                      have f2 : wr.drew.cell? ⟨b, o + k * 2, none⟩ = some (.int .i64 t.1) := f2
                      have f3 : wr.drew.cell? ⟨b, o + k * 2 + 1, none⟩ = some (.int .i64 t.2) := f3
                      have HT : Hid (l2[k]? = some t) := ht
                      obtain ⟨t0, t1, t2⟩ := HN.out t (List.mem_of_getElem? ht)
                      obtain ⟨s0, s1, s2⟩ := HN.out q (List.mem_of_getElem? HQ.out)
                      have hs300 := HSZ.out.2.1
                      have hw1 : IntKind.i64.wrap (t.1 + t.2) = t.1 + t.2 := wr64_in ⟨by omega, by omega⟩
                      have hw2 : IntKind.i64.wrap (q.1 + q.2) = q.1 + q.2 := wr64_in ⟨by omega, by omega⟩
                      clear hc4 ht hy4 hR4 t0 t1 t2 s0 s1 s2 hs300
                      by_cases hA : q.1 < t.1 + t.2
                      · by_cases hB : t.1 < q.1 + q.2
                        · have HO : Hid (ovl q t) := ⟨hA, hB⟩
                          have hdA : decide (q.1 < t.1 + t.2) = true := by simpa using hA
                          have hdB : decide (t.1 < q.1 + q.2) = true := by simpa using hB
                          go_wp2
                          go_quiet (fail)
                          clear hdA hdB f0 f1 f2 f3 hw1 hw2 kk2
                          go_wp2
                          exact ⟨⟨k + 1, 8, by omega, by go_num, rfl, Y4.hit HT.out HO.out, HY4.out.2.below (by first | exact below_drewK (Below.refl _ _) _ | exact (Below.refl _ _).drew | exact Below.refl _ _)⟩, by simp [intOf]; omega⟩
                        · have HO : Hid (¬ ovl q t) := fun h => hB h.2
                          have hdA : decide (q.1 < t.1 + t.2) = true := by simpa using hA
                          have hdB : decide (t.1 < q.1 + q.2) = false := by simpa using hB
                          go_wp2
                          go_quiet (fail)
                          clear hdA hdB f0 f1 f2 f3 hw1 hw2 kk2
                          go_wp2
                          exact ⟨⟨k + 1, wz, by omega, by go_num, rfl, HY4.out.1.miss HT.out HO.out, HY4.out.2.below (by first | exact below_drewK (Below.refl _ _) _ | exact (Below.refl _ _).drew | exact Below.refl _ _)⟩, by simp [intOf]; omega⟩
                      · have HO : Hid (¬ ovl q t) := fun h => hA h.1
                        have hdA : decide (q.1 < t.1 + t.2) = false := by simpa using hA
                        go_wp2
                        go_quiet (fail)
                        clear hdA f0 f1 f2 f3 hw1 hw2 kk2
                        go_wp2
                        exact ⟨⟨k + 1, wz, by omega, by go_num, rfl, HY4.out.1.miss HT.out HO.out, HY4.out.2.below (by first | exact below_drewK (Below.refl _ _) _ | exact (Below.refl _ _).drew | exact Below.refl _ _)⟩, by simp [intOf]; omega⟩
                    · have kkj : ¬ (k : Int) < (j : Int) := by omega
                      have HY5 : Hid (Y3 X l2 (j + 1) wz) := hy4.end_ (by omega) HQ.out HNW.out
                      clear hy4 hR4
                      go_wp2
                      exact ⟨⟨j + 1, wz, by have := HJL.out; omega, by go_num, rfl, HY5.out, HY4.out.2⟩, by simp [intOf]; omega⟩
                | true =>
                  clear HK HAL HR3 kw
                  first | simp only [Bool.not_false] | simp only [Bool.not_true] | skip
                  go_wp2
                  go_loopw [13, 16] (fun v13 v16 wr => ∃ (k : Nat) (wz : Int), k ≤ j ∧ v16 = .int .i64 (k : Int) ∧ v13 = .int .i64 wz ∧ Y4 X l2 j q k wz ∧ RfS w wr S ab XB X sz fa fc F) (fun _ v _ => j - (intOf v).toNat)
                  case atStart => exact ⟨0, _, by omega, rfl, rfl, HY.out.yes HW9.out HTB.out, HR6.out⟩
                  case round =>
                    clear HR6
                    obtain ⟨k, wz, hk, rfl, rfl, hy4, hR4⟩ := hrel
                    have HY4 : Hid (Y4 X l2 j q k wz ∧ RfS w wr S ab XB X sz fa fc F) := ⟨hy4, hR4⟩
                    by_cases hlt : k < j
                    · have kkj : (k : Int) < (j : Int) := by omega
                      have kk2 : (k : Int) < (len2 : Int) := by have := HJL.out; omega
                      obtain ⟨t, ht⟩ : ∃ t, l2[k]? = some t := ⟨_, List.getElem?_eq_getElem (by have := HS2.out.2.1; have := HJL.out; omega)⟩
                      obtain ⟨b4, o4, e4, _, hc4⟩ := (HS2.out.1 wr hR4.bel).hat (by have := HJL.out; omega)
                      cases e4
                      obtain ⟨f0, f1⟩ := hc4 j q HQ.out
                      obtain ⟨f2, f3⟩ := hc4 k t ht
                      have f0 : wr.drew.cell? ⟨b, o + j * 2, none⟩ = some (.int .i64 q.1) := f0
                      have f1 : wr.drew.cell? ⟨b, o + j * 2 + 1, none⟩ = some (.int .i64 q.2) := f1
                      have f2 : wr.drew.cell? ⟨b, o + k * 2, none⟩ = some (.int .i64 t.1) := f2
                      have f3 : wr.drew.cell? ⟨b, o + k * 2 + 1, none⟩ = some (.int .i64 t.2) := f3
                      have HT : Hid (l2[k]? = some t) := ht
                      obtain ⟨t0, t1, t2⟩ := HN.out t (List.mem_of_getElem? ht)
                      obtain ⟨s0, s1, s2⟩ := HN.out q (List.mem_of_getElem? HQ.out)
                      have hs300 := HSZ.out.2.1
                      have hw1 : IntKind.i64.wrap (t.1 + t.2) = t.1 + t.2 := wr64_in ⟨by omega, by omega⟩
                      have hw2 : IntKind.i64.wrap (q.1 + q.2) = q.1 + q.2 := wr64_in ⟨by omega, by omega⟩
                      clear hc4 ht hy4 hR4 t0 t1 t2 s0 s1 s2 hs300
                      by_cases hA : q.1 < t.1 + t.2
                      · by_cases hB : t.1 < q.1 + q.2
                        · have HO : Hid (ovl q t) := ⟨hA, hB⟩
                          have hdA : decide (q.1 < t.1 + t.2) = true := by simpa using hA
                          have hdB : decide (t.1 < q.1 + q.2) = true := by simpa using hB
                          go_wp2
                          go_quiet (fail)
                          clear hdA hdB f0 f1 f2 f3 hw1 hw2 kk2
                          go_wp2
                          exact ⟨⟨k + 1, 8, by omega, by go_num, rfl, Y4.hit HT.out HO.out, HY4.out.2.below (by first | exact below_drewK (Below.refl _ _) _ | exact (Below.refl _ _).drew | exact Below.refl _ _)⟩, by simp [intOf]; omega⟩
                        · have HO : Hid (¬ ovl q t) := fun h => hB h.2
                          have hdA : decide (q.1 < t.1 + t.2) = true := by simpa using hA
                          have hdB : decide (t.1 < q.1 + q.2) = false := by simpa using hB
                          go_wp2
                          go_quiet (fail)
                          clear hdA hdB f0 f1 f2 f3 hw1 hw2 kk2
                          go_wp2
                          exact ⟨⟨k + 1, wz, by omega, by go_num, rfl, HY4.out.1.miss HT.out HO.out, HY4.out.2.below (by first | exact below_drewK (Below.refl _ _) _ | exact (Below.refl _ _).drew | exact Below.refl _ _)⟩, by simp [intOf]; omega⟩
                      · have HO : Hid (¬ ovl q t) := fun h => hA h.1
                        have hdA : decide (q.1 < t.1 + t.2) = false := by simpa using hA
                        go_wp2
                        go_quiet (fail)
                        clear hdA f0 f1 f2 f3 hw1 hw2 kk2
                        go_wp2
                        exact ⟨⟨k + 1, wz, by omega, by go_num, rfl, HY4.out.1.miss HT.out HO.out, HY4.out.2.below (by first | exact below_drewK (Below.refl _ _) _ | exact (Below.refl _ _).drew | exact Below.refl _ _)⟩, by simp [intOf]; omega⟩
                    · have kkj : ¬ (k : Int) < (j : Int) := by omega
                      have HY5 : Hid (Y3 X l2 (j + 1) wz) := hy4.end_ (by omega) HQ.out HNW.out
                      clear hy4 hR4
                      go_wp2
                      exact ⟨⟨j + 1, wz, by have := HJL.out; omega, by go_num, rfl, HY5.out, HY4.out.2⟩, by simp [intOf]; omega⟩
              · have kkj : ¬ (j : Int) < (len2 : Int) := by omega
                have HJ : Hid (l2.length ≤ j ∨ wy = 9) := .inl (by have := HS2.out.2.1; omega)
                clear hy hR
                have HPL := plan_any HR3.out.1.ar (HS2.out.1 wr HR3.out.1.bel) (by have := HP; omega)
                go_wp2_with fail
                refine HPL.mono ?_
                rintro e V7 hto
                obtain ⟨m, km, cm, rfl, hk0, hb7⟩ := HY.out.plan HJ.out hto
                have HR7 : Hid (RfS w V7 S ab XB X sz fa fc F) := HR3.out.1.below hb7
                have HPN := plan_any HR7.out.ar (SpW.nil_ V7) (by omega)
                have hxx : (wy != wy) = false := by simp
                clear HPL hto hb7
                by_cases hz : wy = 0
                · subst hz
                  go_wp2_with fail
                  refine HPN.mono ?_
                  rintro e V8 hto
                  obtain ⟨m8, c8, rfl, hb8⟩ := plan_nil hto
                  have hb9 : Below w.heap.size w V8 := HR7.out.bel.trans (hb8.mono HR7.out.bel.size)
                  clear HPN hto hb8
                  have HLV := lives_h hb9
                  go_wp2_with fail
                  refine HLV.mono ?_
                  rintro e w9 ⟨rfl, hb9⟩
                  have HB9 : Hid (Below w.heap.size w w9) := hb9
                  clear HLV hb9
                  go_wp2
                  go_ret
                  exact ⟨rfl, HB9.out⟩
                · obtain rfl := hk0 hz
                  have hwz : (wy != 0) = true := by simpa using hz
                  go_wp2_with fail
                  refine HPN.mono ?_
                  rintro e V8 hto
                  obtain ⟨m8, c8, rfl, hb8⟩ := plan_nil hto
                  have hb9 : Below w.heap.size w V8 := HR7.out.bel.trans (hb8.mono HR7.out.bel.size)
                  clear HPN hto hb8
                  have HLV := lives_h hb9
                  go_wp2_with fail
                  refine HLV.mono ?_
                  rintro e w9 ⟨rfl, hb9⟩
                  have HB9 : Hid (Below w.heap.size w w9) := hb9
                  clear HLV hb9
                  go_wp2
                  go_ret
                  exact ⟨rfl, HB9.out⟩

set_option linter.unusedVariables false in
set_option maxRecDepth 100000 in
theorem lifted (os : _root_.Go.Os) (started : os.Started) (H : Type) (enc : TypeId × Value → H) :
    ReturnsInHanded {} Try.checked os 6 .any (Rows.extentRefusesSpec.pre6 enc Try.prog Try.f6 Rows.extentRefusesRow.domain false) (Rows.extentRefusesSpec.post enc Try.prog Try.f6 false true false false) := by
  refine returnsInHanded_of_change (C := Try.checked) own started (by kernel_rfl) Try.func6
    (ChangeSpec.witness6 (enc := enc) (C := Try.checked) false ⟨#[], #[.int .i64 0, .slice none 0 0, .slice none 0 0], []⟩ 8 (by kernel_rfl) (by kernel_rfl) (by kernel_rfl) (by kernel_rfl)) ?_
  intro W base args ds gs before hval0 hW hcnd _
  have hval : ∀ (j : Nat) t v, Try.f6.params[j]? = some t → args[j]? = some v → Value.okWide Try.prog W .any base t v := hval0
  have hW' := hW
  obtain ⟨p, q, hA0, hV, rfl, hfz, hnd⟩ := hW
  have hA : DataW.TrodAll enc Try.prog W 0 (fun _ => true) true Try.f6.params.toList args.toList ds p := hA0
  rw [Try.params6] at hA hval
  obtain ⟨v0, vs0, d0, ds0, p0, q0, hargs, rfl, rfl, h0, r0⟩ := trodAll_cons hA
  obtain ⟨v1, vs1, d1, ds1, p1, q1, rfl, rfl, rfl, h1, r1⟩ := trodAll_cons r0
  obtain ⟨v2, vs2, d2, ds2, p2, q2, rfl, rfl, rfl, h2, r2⟩ := trodAll_cons r1
  obtain ⟨rfl, rfl, rfl⟩ := trodAll_nil r2
  obtain rfl : args = #[v0, v1, v2] := by cases args; simp_all
  obtain ⟨rfl, rfl⟩ := trodVars_none hV
  obtain ⟨x0, rfl, rfl, rfl, w0⟩ := open_int Try.underlying3 (hval 0 3 v0 rfl rfl) h0
  have k1 := h1
  have lt1 : ∀ x ∈ p1, x.block < W.heap.size := by obtain ⟨m, hm⟩ := k1; exact DataW.trod_lt m _ _ _ hm
  obtain ⟨a1, len1, cap1, rfl⟩ := okWide_slice Try.underlying33 (hval 1 33 v1 rfl rfl)
  obtain ⟨l1, w1⟩ : ∃ l, Ss W a1 len1 cap1 l := by
    obtain ⟨fuel, hf⟩ := h1
    exact sps_of (by simpa [Value.cells] using hf)
  have k2 := h2
  have lt2 : ∀ x ∈ p2, x.block < W.heap.size := by obtain ⟨m, hm⟩ := k2; exact DataW.trod_lt m _ _ _ hm
  obtain ⟨a2, len2, cap2, rfl⟩ := okWide_slice Try.underlying33 (hval 2 33 v2 rfl rfl)
  obtain ⟨l2, w2⟩ : ∃ l, Ss W a2 len2 cap2 l := by
    obtain ⟨fuel, hf⟩ := h2
    exact sps_of (by simpa [Value.cells] using hf)
  clear hA0 hval0
  refine (walk x0 (wf_i64 w0) a1 len1 cap1 l1 a2 len2 cap2 l2 W w1 w2).mono fun e W' ⟨he, bel⟩ => ?_
  subst he
  exact ⟨_, rfl, _, _, _, [], _, [], hW', trodAll_mk1 (shut_bool Try.underlying4 _), (trodAll_cons_mk (shut_int Try.underlying3 w0) (trodAll_cons_mk (Below.trod laidOut (by kernel_rfl) (of_decide_eq_true (by kernel_rfl)) k1 bel lt1) (trodAll_cons_mk (Below.trod laidOut (by kernel_rfl) (of_decide_eq_true (by kernel_rfl)) k2 bel lt2) trodAll_mk0))), rfl, bel.frame _, fun h => by cases h⟩

theorem over : Rows.extentRefusesRow.holds Try.pinned (OpenSpec.ofChange Rows.extentRefusesSpec) :=
  OpenClaim.holds_of_wide 6 Try.f6 rfl rfl rfl rfl rfl rfl rfl ⟨rfl, rfl, rfl, rfl, rfl⟩ rfl rfl rfl rfl rfl (by kernel_rfl) Try.func6 (by kernel_rfl)
    (of_decide_eq_true (by kernel_rfl)) (by unfold Func.isWrapper; first | (rw [if_pos (by decide +kernel)]; kernel_rfl) | (rw [if_neg (by decide +kernel)]; exact ⟨rfl, rfl⟩))
    (fun os started H enc _ => lifted os started H enc)

end Go.Proofs.Ytgihdfmeokbplaa.extentRefuses
namespace Go.Proofs.Ytgihdfmeokbplaa
/-- The given statement. -/
theorem extentRefuses_holds : Rows.ExtentRefusesSaid := extentRefuses.over
#print axioms extentRefuses_holds
end Go.Proofs.Ytgihdfmeokbplaa
