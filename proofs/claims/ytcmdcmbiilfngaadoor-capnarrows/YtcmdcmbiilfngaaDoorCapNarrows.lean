/- Proved: for every token and caveat the law CapNarrows returns true, what was handed in as it was (any token narrowed by any caveat, or why it can't be, and whether it may be, are the document's); where the package's two tables begin as the program's text lays them. -/
import Derived.Test.YtcmdcmbiilfngaaDoorKR
import Derived.Test.YtcmdcmbiilfngaaDoorKI
import Derived.Test.YtcmdcmbiilfngaaDoorCards
import Derived.Test.YtcmdcmbiilfngaaDoorTie
import Derived.WalkKit
import Derived.ProofKit
import Derived.OpenShut
import Derived.ShutString
import Derived.ChangeOld
import Derived.Below
import Derived.LaidMore
import Derived.Stop.Joined
import Derived.SevenTiedAt
namespace Go.Proofs.YtcmdcmbiilfngaaDoor.capNarrows
open Go.ChangeShapes Go.WideShapes Go.ChangeAt Go.WideMaps Go.WideElems Go.RowKit
open Go.ChangeMaps (open_string shut_string)

theorem set_back {α : Type} (cs : Array α) (o : Nat) (a b : α) (hb : cs[o]? = some b) : (cs.setIfInBounds o a).setIfInBounds o b = cs := by
  obtain ⟨l⟩ := cs
  have hb' : l[o]? = some b := by simpa using hb
  have hlt := (List.getElem?_eq_some_iff.1 hb').1
  have hv := (List.getElem?_eq_some_iff.1 hb').2
  simp only [List.setIfInBounds_toArray, List.set_set]
  congr 1
  rw [← hv]
  exact List.set_getElem_self hlt
theorem below_back {wr : World} {g o : Nat} {cs : Array Value} {t : TypeId} {a b : Value} (hc : wr.heap[g]? = some (.cells cs t (0, 0))) (hb : cs[o]? = some b) (B n : Nat) : Below B wr (((wr.setCell ⟨g, o, none⟩ a).drewN n).setCell ⟨g, o, none⟩ b) := by
  have h0 : Below 0 wr (wr.setCell ⟨g, o, none⟩ a) := (Below.refl 0 wr).setCell (Nat.zero_le _) a
  have h1 := below_drewK h0 n
  have h2 := h1.setCell (p := ⟨g, o, none⟩) (Nat.zero_le _) b
  have hu : ((wr.setCell ⟨g, o, none⟩ a).drewN n).heap = (wr.setCell ⟨g, o, none⟩ a).heap := by
    induction n with
    | zero => rfl
    | succ n ih => exact ih (below_drewK h0 n) ((below_drewK h0 n).setCell (p := ⟨g, o, none⟩) (Nat.zero_le _) b)
  refine ⟨h2.os, h2.tape, h2.output, h2.size, fun k _ => ?_⟩
  by_cases hk : k = g
  · subst hk
    have h3 : ((wr.setCell ⟨k, o, none⟩ a).drewN n).heap[k]? = some (.cells (cs.setIfInBounds o a) t (0, 0)) := by rw [hu, heap_setCell_same _ _ _ _ _ _ hc]
    rw [heap_setCell_same _ _ _ _ _ _ h3, hc]
    rw [set_back _ _ _ _ hb]
  · rw [heap_setCell_other _ _ _ _ hk, hu, heap_setCell_other _ _ _ _ hk]
theorem own_form {W : World} {base n : Nat} {a : Option Addr} {c : Nat} {l : List Cv} (h : W.ownsRow base 35 3 (.slice a n c) n (cvR l)) (h0 : 0 < n) : ∃ (g : Nat) (cs : Array Value), a = some ⟨g, 0, none⟩ ∧ base ≤ g ∧ W.heap[g]? = some (.cells cs 35 (0, 0)) ∧ ∀ (j : Nat) (u : Value), (cvR l)[j]? = some u → cs[j]? = some u := by
  rcases h.2 with ⟨_, h1⟩ | ⟨g, cap, cur, e, hb, hg, _, _, _, h4⟩
  · omega
  · cases e
    refine ⟨g, cur, rfl, hb, hg, fun j u hu => ?_⟩
    rw [← h4] at hu
    have hlt := (List.getElem?_eq_some_iff.1 hu).1
    rw [List.length_take] at hlt
    rw [List.getElem?_take, if_pos (by omega)] at hu
    rw [← Array.getElem?_toList]
    exact hu
theorem narrow_ok {t : Tk} {c : Cv} : ∀ d ∈ (narrowT t c).1.cavs, d.ok = true := by
  unfold narrowT
  split
  · next h =>
    split
    · intro d hd; cases hd
    · intro d hd
      rcases List.mem_append.1 hd with hd | hd
      · exact (may_iff.1 h.1).2.2.2 d hd
      · rw [List.mem_singleton.1 hd]; exact h.2
  · intro d hd; cases hd

set_option maxRecDepth 100000 in
set_option maxHeartbeats 2000000 in
theorem walk (t0 n0 : Int) (a0 : Option Addr) (len0 cap0 : Nat) (s0 : ByteArray) (l0 : List Cv) (c0 : ∀ c ∈ l0, c.In) (z0 : s0.size ≤ 140737488351232) (_y0 : -9223372036854775808 ≤ t0 ∧ t0 ≤ 9223372036854775807) (_x0 : -9223372036854775808 ≤ n0 ∧ n0 ≤ 9223372036854775807) (c1 : Cv) (z1 : c1.In) (w : World) (w0 : Kw w a0 len0 cap0 l0) (hL : Laid w) :
    Calls Tryd.prog 4 #[.agg #[.int .i64 t0, .int .i64 n0, .slice a0 len0 cap0, .string s0], .agg #[.string c1.path, .int .i64 c1.rights, .int .i64 c1.til]] w fun e w' => e = .returned (.bool true) ∧ Below w.heap.size w w' := by
  have HLV : Hid (∀ V, Below w.heap.size w V → Calls Tryd.prog 9 #[] V fun e w' => e = .returned (.bool true) ∧ Below w.heap.size w w') := fun V hV => (lives_any V (hL.below hV)).mono fun e w' h => ⟨h.1, hV.trans (h.2.mono hV.size)⟩
  have HLV2 : Hid (∀ V, Below w.heap.size w V → Calls Tryd.prog 9 #[] V fun e w' => e = .returned (.bool true) ∧ Below V.heap.size V w') := fun V hV => lives_any V (hL.below hV)
  obtain ⟨c1, c2, c3⟩ := c1
  simp only at z1 ⊢
  have z1p := z1.2.2
  simp only at z1p
  obtain ⟨pb, hpb⟩ : ∃ pb, w.heap.size = pb := ⟨_, rfl⟩
  obtain ⟨V1, hV1, r1', hb1⟩ := box_tk (w := w) t0 n0 a0 len0 cap0 s0
  obtain ⟨qb, hqb⟩ : ∃ qb, V1.heap.size = qb := ⟨_, rfl⟩
  obtain ⟨V2, hV2, r2', hb2⟩ := box_cv (w := V1) c1 c2 c3
  have hq1 : pb + 1 = qb := by rw [← hqb, ← hV1, ← hpb]; simp
  rw [hpb] at r1'
  rw [hqb] at r2'
  have rp2 : V2.heap[pb]? = some (.cells #[.int .i64 t0, .int .i64 n0, .slice a0 len0 cap0, .string s0] 25 (0, 0)) := by rw [hb2.block pb (by omega)]; exact r1'
  have hB2 : Below w.heap.size w V2 := hb1.trans (hb2.mono hb1.size)
  have HK : Hid (∀ W, Below V2.heap.size V2 W → (W.cell? ⟨pb, 0, none⟩ = some (.int .i64 t0) ∧ W.cell? ⟨pb, 1, none⟩ = some (.int .i64 n0) ∧ W.cell? ⟨pb, 2, none⟩ = some (.slice a0 len0 cap0) ∧ W.cell? ⟨pb, 3, none⟩ = some (.string s0)) ∧ (W.cell? ⟨qb, 0, none⟩ = some (.string c1) ∧ W.cell? ⟨qb, 1, none⟩ = some (.int .i64 c2) ∧ W.cell? ⟨qb, 2, none⟩ = some (.int .i64 c3)) ∧ Below w.heap.size w W) := fun W hW => by
    obtain ⟨e0, e1, e2, e3, _⟩ := row4 ((hW.block pb (lt_of_some rp2)).trans rp2)
    obtain ⟨f0, f1, f2, _⟩ := row3 ((hW.block qb (lt_of_some r2')).trans r2')
    exact ⟨⟨e0, e1, e2, e3⟩, ⟨f0, f1, f2⟩, hB2.trans (hW.mono hB2.size)⟩
  have hln := w0.len
  have hlm := w0.max
  have hcp : ∀ c ∈ l0, c.path.size ≤ 140737488351232 := fun c hc => (c0 c hc).2.2
  have hcq : ∀ c ∈ l0, c.path.size ≤ 9223372036854775807 := fun c hc => by have := hcp c hc; omega
  have HSM := small_tk t0 n0 s0 (w0.below hB2) z0 hcp
  have HR : Hid ((∀ W, Below w.heap.size w W → Kw W a0 len0 cap0 l0) ∧ l0.length = len0) := ⟨fun W hW => w0.below hW, hln⟩
  obtain ⟨⟨y0, y1', y2, y3⟩, ⟨d0, d1, d2⟩, _⟩ := HK.out V2 (Below.refl _ _)
  unfold YeTo at HSM
  cases hsm : smallT l0 s0 with
  | false =>
    rw [hsm] at HSM
    clear hsm hL w0 c0 hln hcp hcq r1' r2' rp2 hb1 hb2 hB2
    go_enter Tryd.func4, Tryd.ntmps4
    go_wp2_with fail
    refine HSM.mono ?_
    rintro e V3 ⟨rfl, hb3⟩
    have H3 : Hid (Below V2.heap.size V2 V3) := hb3
    clear HSM hb3 y0 y1' y2 y3 d0 d1 d2
    obtain ⟨⟨y0, y1', y2, y3⟩, ⟨d0, d1, d2⟩, hw3⟩ := HK.out V3 H3.out
    have HB : Hid (Below w.heap.size w V3) := hw3
    clear hw3
    go_wp2_with fail
    refine (HLV.out _ (HB.out)).mono ?_
    rintro e VZ ⟨rfl, hbZ⟩
    go_wp2
    go_ret
    exact ⟨rfl, hbZ⟩
  | true =>
    rw [hsm] at HSM
    by_cases h1 : 1000 < c1.size
    · have k1 : (1000 : Int) < (c1.size : Int) := by omega
      clear hsm hL w0 c0 hln hcp hcq r1' r2' rp2 hb1 hb2 hB2
      go_enter Tryd.func4, Tryd.ntmps4
      go_wp2_with fail
      refine HSM.mono ?_
      rintro e V3 ⟨rfl, hb3⟩
      have H3 : Hid (Below V2.heap.size V2 V3) := hb3
      clear HSM hb3 y0 y1' y2 y3 d0 d1 d2
      obtain ⟨⟨y0, y1', y2, y3⟩, ⟨d0, d1, d2⟩, hw3⟩ := HK.out V3 H3.out
      have HB : Hid (Below w.heap.size w V3) := hw3
      clear hw3
      go_wp2_with fail
      refine (HLV.out _ (HB.out)).mono ?_
      rintro e VZ ⟨rfl, hbZ⟩
      go_wp2
      go_ret
      exact ⟨rfl, hbZ⟩
    · have k1 : ¬ (1000 : Int) < (c1.size : Int) := by omega
      have hl40 : len0 ≤ 40 := by rw [← hln]; exact (small_iff.1 hsm).1
      have hnok := narrow_ok (t := ⟨t0, n0, l0, s0⟩) (c := ⟨c1, c2, c3⟩)
      have HNA : Hid (∀ W, Below w.heap.size w W → Calls Tryd.prog 15 #[.agg #[.int .i64 t0, .int .i64 n0, .slice a0 len0 cap0, .string s0], .agg #[.string c1, .int .i64 c2, .int .i64 c3]] W fun e w' => TkTo W (narrowT ⟨t0, n0, l0, s0⟩ ⟨c1, c2, c3⟩) e w') := fun W hW => narrow_any t0 n0 s0 ⟨c1, c2, c3⟩ W (w0.below hW) hcq (by simp only; omega) (hL.below hW)
      have HNR : Hid (∀ W, Below w.heap.size w W → Calls Tryd.prog 16 #[.agg #[.int .i64 t0, .int .i64 n0, .slice a0 len0 cap0, .string s0], .agg #[.string c1, .int .i64 c2, .int .i64 c3]] W fun e w' => TkTo W (narrowT ⟨t0, n0, l0, s0⟩ ⟨c1, c2, c3⟩) e w') := fun W hW => rnarrow_any t0 n0 s0 ⟨c1, c2, c3⟩ W (w0.below hW) hcq (by simp only; omega)
      obtain ⟨my, hmy⟩ : ∃ my, mayT ⟨t0, n0, l0, s0⟩ = my := ⟨_, rfl⟩
      have HMC : Hid (∀ W, Below w.heap.size w W → Calls Tryd.prog 17 #[.agg #[.int .i64 t0, .int .i64 n0, .slice a0 len0 cap0, .string s0]] W fun e w' => e = .returned (.bool my) ∧ Below W.heap.size W w') := fun W hW => by rw [← hmy]; exact cmay_any t0 n0 s0 (w0.below hW) hcq
      have HMR : Hid (∀ W, Below w.heap.size w W → Calls Tryd.prog 18 #[.agg #[.int .i64 t0, .int .i64 n0, .slice a0 len0 cap0, .string s0]] W fun e w' => e = .returned (.bool my) ∧ Below W.heap.size W w') := fun W hW => by rw [← hmy]; exact rmay_any t0 n0 s0 (w0.below hW) hcq
      obtain ⟨⟨⟨r1, r2, r3, r4⟩, re⟩, hrr⟩ : ∃ r, narrowT ⟨t0, n0, l0, s0⟩ ⟨c1, c2, c3⟩ = r := ⟨_, rfl⟩
      rw [hrr] at HNA HNR hnok
      have HOK : Hid (∀ d ∈ r3, d.ok = true) := hnok
      clear hsm hL w0 c0 hln hcp hcq r1' r2' rp2 hb1 hb2 hB2 hnok hrr hmy
      go_enter Tryd.func4, Tryd.ntmps4
      go_wp2_with fail
      refine HSM.mono ?_
      rintro e V3 ⟨rfl, hb3⟩
      have H3 : Hid (Below V2.heap.size V2 V3) := hb3
      clear HSM hb3 y0 y1' y2 y3 d0 d1 d2
      obtain ⟨⟨y0, y1', y2, y3⟩, ⟨d0, d1, d2⟩, hw3⟩ := HK.out V3 H3.out
      obtain ⟨wa, wc, V4, hr4, ho4, hg4, _⟩ := addK_own V3 (base := w.heap.size) (l := []) (World.ownsRow_nil V3 w.heap.size 35 3) (HR.out.1 V3 hw3) (by omega) hw3.size
      rw [Nat.zero_add] at hr4 ho4
      rw [List.nil_append] at ho4
      have hb34 : Below V2.heap.size V2 V4 := H3.out.grown hg4 H3.out.size (fun j hj => by cases hj)
      have hw4 := (HK.out V4 hb34).2.2
      have H4 : Hid (Below V2.heap.size V2 V4 ∧ V4.ownsRow w.heap.size 35 3 (.slice wa len0 wc) len0 (cvR l0)) := ⟨hb34, ho4⟩
      obtain ⟨⟨j0, j1, j2, j3⟩, ⟨k0', k1', k2'⟩, _⟩ := HK.out V4 hb34
      have HN4 := HNA.out V4 hw4
      clear hw3 hg4 ho4 hw4 hb34
      go_wp2_with (at_builtin; refine wpList_app V3 rfl _ _ _ _ rfl rfl rfl (hr4 _) ?_)
      refine HN4.mono ?_
      rintro e V5 ⟨xa, xn, xc, rfl, ho5, hb5⟩
      simp only at ho5 ⊢
      obtain ⟨V6, hV6, r6, hb6⟩ := box_tk (w := V5) r1 r2 xa xn xc r4
      obtain ⟨xb, hxb⟩ : ∃ xb, V5.heap.size = xb := ⟨_, rfl⟩
      rw [hxb] at r6
      have hb46 : Below V4.heap.size V4 V6 := hb5.trans (hb6.mono hb5.size)
      have hb26 : Below V2.heap.size V2 V6 := H4.out.1.trans (hb46.mono H4.out.1.size)
      have ho6 : V6.ownsRow V4.heap.size 35 3 (.slice xa xn xc) xn (cvR r3) := own_keep ho5 (fun j hj => hb6.block j (ho5.lt j hj).2)
      have hwx : ∀ g, ob xa = some g → g < xb := fun g hg => by have := (ho5.lt g (by rw [ob_slice]; exact hg)).2; omega
      clear HN4 hr4 y0 y1' y2 y3 d0 d1 d2 j0 j1 j2 j3 k0' k1' k2'
      obtain ⟨⟨y0, y1', y2, y3⟩, ⟨d0, d1, d2⟩, hw6⟩ := HK.out V6 hb26
      have HN6 := HNR.out V6 hw6
      have H6 : Hid (Below V4.heap.size V4 V6 ∧ Below V2.heap.size V2 V6 ∧ V6.ownsRow V4.heap.size 35 3 (.slice xa xn xc) xn (cvR r3) ∧ V6.heap[xb]? = some (.cells #[.int .i64 r1, .int .i64 r2, .slice xa xn xc, .string r4] 25 (0, 0)) ∧ ∀ g, ob xa = some g → g < xb) := ⟨hb46, hb26, ho6, r6, hwx⟩
      clear ho5 hb5 r6 hb6 hb46 hb26 ho6 hwx hw6
      go_wp2_with fail
      refine HN6.mono ?_
      rintro e V7 ⟨ya, yn, yc, rfl, ho7, hb7⟩
      simp only at ho7 ⊢
      obtain ⟨V8, hV8, r8, hb8⟩ := box_tk (w := V7) r1 r2 ya yn yc r4
      obtain ⟨yb, hyb⟩ : ∃ yb, V7.heap.size = yb := ⟨_, rfl⟩
      rw [hyb] at r8
      have hb68 : Below V6.heap.size V6 V8 := hb7.trans (hb8.mono hb7.size)
      have hb28 : Below V2.heap.size V2 V8 := H6.out.2.1.trans (hb68.mono H6.out.2.1.size)
      have hb48 : Below V4.heap.size V4 V8 := H6.out.1.trans (hb68.mono H6.out.1.size)
      have hky : Kw V8 ya yn yc r3 := (Kw.own ho7).below hb8
      have hox : V8.ownsRow V4.heap.size 35 3 (.slice xa xn xc) xn (cvR r3) := own_keep H6.out.2.2.1 (fun j hj => hb68.block j (H6.out.2.2.1.lt j hj).2)
      have hkw : Kw V8 wa len0 wc l0 := (Kw.own H4.out.2).below hb48
      have rx8 := (hb68.block xb (lt_of_some H6.out.2.2.2.1)).trans H6.out.2.2.2.1
      have HS : Hid (∀ W, Below V8.heap.size V8 W → ((W.cell? ⟨pb, 0, none⟩ = some (.int .i64 t0) ∧ W.cell? ⟨pb, 1, none⟩ = some (.int .i64 n0) ∧ W.cell? ⟨pb, 2, none⟩ = some (.slice a0 len0 cap0) ∧ W.cell? ⟨pb, 3, none⟩ = some (.string s0)) ∧ (W.cell? ⟨xb, 0, none⟩ = some (.int .i64 r1) ∧ W.cell? ⟨xb, 1, none⟩ = some (.int .i64 r2) ∧ W.cell? ⟨xb, 2, none⟩ = some (.slice xa xn xc) ∧ W.cell? ⟨xb, 3, none⟩ = some (.string r4)) ∧ (W.cell? ⟨yb, 0, none⟩ = some (.int .i64 r1) ∧ W.cell? ⟨yb, 1, none⟩ = some (.int .i64 r2) ∧ W.cell? ⟨yb, 2, none⟩ = some (.slice ya yn yc) ∧ W.cell? ⟨yb, 3, none⟩ = some (.string r4))) ∧ Below w.heap.size w W ∧ Kw W wa len0 wc l0 ∧ Calls Tryd.prog 12 #[.agg #[.int .i64 r1, .int .i64 r2, .slice xa xn xc, .string r4], .agg #[.int .i64 r1, .int .i64 r2, .slice ya yn yc, .string r4]] W fun e w' => e = .returned (.bool true) ∧ Below W.heap.size W w') := fun W hW => by
        have h5 := HK.out W (hb28.trans (hW.mono hb28.size))
        obtain ⟨e0, e1, e2, e3, _⟩ := row4 ((hW.block xb (lt_of_some rx8)).trans rx8)
        obtain ⟨f0, f1, f2, f3, _⟩ := row4 ((hW.block yb (lt_of_some r8)).trans r8)
        have h6 := same_tk r1 r2 r4 r1 r2 r4 ((Kw.own hox).below hW) (hky.below hW)
        rw [sameT_self] at h6
        exact ⟨⟨h5.1, ⟨e0, e1, e2, e3⟩, ⟨f0, f1, f2, f3⟩⟩, h5.2.2, hkw.below hW, h6⟩
      have hpv : pb < V4.heap.size := by
        have h9 := H4.out.1.size
        have h10 : V2.heap.size = qb + 1 := by rw [← hV2, ← hqb]; simp
        omega
      have H8 : Hid (V8.ownsRow V4.heap.size 35 3 (.slice xa xn xc) xn (cvR r3) ∧ r3.length = xn ∧ (∀ g, ob wa = some g → g < V4.heap.size) ∧ w.heap.size ≤ V4.heap.size ∧ pb < V4.heap.size ∧ ∀ g, ob xa = some g → g < xb) := ⟨hox, (Kw.own hox).len, fun g hg => (H4.out.2.lt g (by rw [ob_slice]; exact hg)).2, (HK.out V4 H4.out.1).2.2.size, hpv, H6.out.2.2.2.2⟩
      have hxm : xn ≤ 9223372036854775807 := (Kw.own hox).max
      have hee : ((re : Int) == (re : Int)) = true := by simp
      have hmm : (my == my) = true := by simp
      clear HN6 ho7 hb7 r8 hb8 hb68 hb28 hb48 hky hox hkw rx8 y0 y1' y2 y3 d0 d1 d2
      go_wp2
      go_loopw [10] (fun v wr => ∃ i : Nat, i ≤ xn ∧ i ≤ len0 ∧ v = .int .i64 i ∧ Below V8.heap.size V8 wr) (fun v _ => xn - (intOf v).toNat)
      case atStart => exact ⟨0, by omega, by omega, rfl, Below.refl _ _⟩
      case round =>
      obtain ⟨i, hi, hi2, rfl, hbw⟩ := hrel
      have HWR : Hid (Below V8.heap.size V8 wr) := hbw
      obtain ⟨⟨⟨y0, y1', y2, y3⟩, ⟨x0, x1, x2, x3⟩, ⟨v0, v1, v2, v3⟩⟩, hww, hkw, _⟩ := HS.out wr hbw
      by_cases hgo : i < xn ∧ i < len0
      · obtain ⟨hlt, hlt2⟩ := hgo
        have kk : (i : Int) < (xn : Int) := by omega
        have kk2 : (i : Int) < (len0 : Int) := by omega
        obtain ⟨xg, xs, rfl, hxg, hrx, hxc⟩ := own_form H8.out.1 (by omega)
        have hxgb : xg < xb := H8.out.2.2.2.2.2 xg rfl
        have hrxw := (hbw.block xg (lt_of_some hrx)).trans hrx
        obtain ⟨ab, ao, rfl, hab, hc⟩ := (HR.out.1 wr hww).at (by omega)
        obtain ⟨wb, wo, rfl, hwb, hd⟩ := hkw.at (by omega)
        obtain ⟨⟨p1, p2, p3⟩, hp⟩ : ∃ p, l0[i]? = some p := ⟨_, List.getElem?_eq_getElem (by have := HR.out.2; omega)⟩
        obtain ⟨⟨g1, g2, g3⟩, hgx⟩ : ∃ p, r3[i]? = some p := ⟨_, List.getElem?_eq_getElem (by have := H8.out.2.1; omega)⟩
        have hgo := Cv.ok_iff.1 (HOK.out _ (List.mem_of_getElem? hgx))
        obtain ⟨e0, e1, e2⟩ := hc i _ hp
        obtain ⟨f0, f1, f2⟩ := hd i _ hp
        simp only at e0 e1 e2 f0 f1 f2 hgo
        have hx2 : xs[i * 3 + 2]? = some (.int .i64 g3) := hxc _ _ (fm_at cvC_len hgx 2 (by omega))
        have xc2 : wr.cell? ⟨xg, i * 3 + 2, none⟩ = some (.int .i64 g3) := by rw [cell_of_row _ _ _ _ _ _ hrxw]; exact hx2
        have xf2 := frozen_of_row wr xg (i * 3 + 2) _ _ hrxw
        have habx : ab < w.heap.size := by
          obtain ⟨ab2, ao2, e, h9, _⟩ := (HR.out.1 w (Below.refl _ _)).at (by omega)
          cases e
          exact h9
        have hne1 : xg ≠ ab := by have := H8.out.2.2.2.1; omega
        have hne2 : xg ≠ wb := by have := H8.out.2.2.1 wb rfl; omega
        have hne3 : xg ≠ pb := by have := H8.out.2.2.2.2.1; omega
        have hne4 : xg ≠ xb := by omega
        obtain ⟨VX, hVX⟩ : ∃ VX, wr.setCell ⟨xg, i * 3 + 2, none⟩ (.int .i64 (g3 + 1)) = VX := ⟨_, rfl⟩
        have far : ∀ (b o : Nat), xg ≠ b → VX.cell? ⟨b, o, none⟩ = wr.cell? ⟨b, o, none⟩ := fun b o hb => by rw [← hVX]; exact World.cell?_setCell_far wr _ _ _ hb
        have rX : VX.heap[xg]? = some (.cells (xs.setIfInBounds (i * 3 + 2) (.int .i64 (g3 + 1))) 35 (0, 0)) := by rw [← hVX, heap_setCell_same _ _ _ _ _ _ hrxw]
        have E0 := (far ab (ao + i * 3) hne1).trans e0
        have E1 := (far ab (ao + i * 3 + 1) hne1).trans e1
        have E2 := (far ab (ao + i * 3 + 2) hne1).trans e2
        have F0 := (far wb (wo + i * 3) hne2).trans f0
        have F1 := (far wb (wo + i * 3 + 1) hne2).trans f1
        have F2 := (far wb (wo + i * 3 + 2) hne2).trans f2
        have Y2 := (far pb 2 hne3).trans y2
        have X2 := (far xb 2 hne4).trans x2
        have XC : VX.cell? ⟨xg, i * 3 + 2, none⟩ = some (.int .i64 (g3 + 1)) := by
          rw [cell_of_row _ _ _ _ _ _ rX]
          have hlx : i * 3 + 2 < xs.size := (Array.getElem?_eq_some_iff.1 hx2).1
          rw [Array.getElem?_setIfInBounds_self_of_lt hlx]
        have XF := frozen_of_row VX xg (i * 3 + 2) _ _ rX
        have he := fun W => eqin_cv ⟨p1, p2, p3⟩ ⟨p1, p2, p3⟩ W
        rw [decide_eq_true rfl] at he
        simp only at he
        have wg : IntKind.i64.wrap (g3 + 1) = g3 + 1 := by rw [IntKind.wrap_i64]; omega
        have wg2 : g3 + 1 - 1 = g3 := by omega
        have HZ : Hid (∀ n, Below V8.heap.size V8 ((VX.drewN n).setCell ⟨xg, i * 3 + 2, none⟩ (.int .i64 g3))) := fun n => by
          rw [← hVX]
          exact HWR.out.trans (below_back hrxw hx2 V8.heap.size n)
        have hg3 : 0 ≤ g3 ∧ g3 ≤ 1099511627776 := ⟨hgo.2.2.2.1, hgo.2.2.2.2⟩
        clear hbw hww hkw hc hd hp hgx hgo hxc hrx hrxw hx2 habx far rX e0 e1 e2 f0 f1 f2 y0 y1' y3 x0 x1 x3 v0 v1 v2 v3
        go_wp2
        go_quiet (fail)
        go_wp2
        refine ⟨⟨i + 1, by omega, by omega, by go_num, ?_⟩, by simp [intOf]; omega⟩
        exact HZ.out _
      · clear x0 x1 x3 y0 y1' y2 y3 v0 v1 v2 v3 hww hkw hbw
        by_cases hlt : i < xn
        · have kk : (i : Int) < (xn : Int) := by omega
          have kk2 : ¬ (i : Int) < (len0 : Int) := by omega
          have kd2 : decide ((i : Int) < (len0 : Int)) = false := decide_eq_false kk2
          clear hgo
          · go_wp2
            clear x2
            refine wp_region_held_drew (S := fun W => (W.cell? ⟨pb, 0, none⟩ = some (.int .i64 t0) ∧ W.cell? ⟨pb, 1, none⟩ = some (.int .i64 n0) ∧ W.cell? ⟨pb, 2, none⟩ = some (.slice a0 len0 cap0) ∧ W.cell? ⟨pb, 3, none⟩ = some (.string s0)) ∧ (W.cell? ⟨xb, 0, none⟩ = some (.int .i64 r1) ∧ W.cell? ⟨xb, 1, none⟩ = some (.int .i64 r2) ∧ W.cell? ⟨xb, 2, none⟩ = some (.slice xa xn xc) ∧ W.cell? ⟨xb, 3, none⟩ = some (.string r4)) ∧ (W.cell? ⟨yb, 0, none⟩ = some (.int .i64 r1) ∧ W.cell? ⟨yb, 1, none⟩ = some (.int .i64 r2) ∧ W.cell? ⟨yb, 2, none⟩ = some (.slice ya yn yc) ∧ W.cell? ⟨yb, 3, none⟩ = some (.string r4))) (by kernel_rfl) ((HS.out wr.drew HWR.out.drew).1) (fun hHeld => ?_)
            refine wpAnyH_take (i := 0) (v := ?vm_0) rfl (by kernel_rfl) (by kernel_rfl) (by kernel_rfl) (fun _ _ _ h => h) (Or.inl ⟨by first | kernel_rfl | rfl, ?ym_0⟩) hHeld ?rm_0
            case ym_0 => (intro W hSW; (try dsimp only at hSW); go_simp; (try with_reducible rfl))
            change wpAnyH _ _ _ _ _ _ _ (Act.put _ (some 78) _) _
            simp only [Act.put, List.setIfInBounds_toArray, List.set_cons_zero, List.set_cons_succ]
            refine wpAnyH_take (i := 1) (v := ?vm_1) rfl (by kernel_rfl) (by kernel_rfl) (by kernel_rfl) (fun _ _ _ h => h) (Or.inl ⟨by first | kernel_rfl | rfl, ?ym_1⟩) hHeld ?rm_1
            case ym_1 => (intro W hSW; (try dsimp only at hSW); go_simp; (try with_reducible rfl))
            change wpAnyH _ _ _ _ _ _ _ (Act.put _ (some 79) _) _
            simp only [Act.put, List.setIfInBounds_toArray, List.set_cons_zero, List.set_cons_succ]
            refine wpAnyH_ready (rs := [2]) (by kernel_rfl) (by simp) ?_
            refine AllReadyH.cons rfl (fun K hK => ?_) AllReadyH.nil
            go_simp
            refine ((HS.out wr.drew HWR.out.drew).2.2.2).mono ?_
            rintro e VA ⟨rfl, hbA⟩
            refine hK.out _ _ ((HS.out VA (HWR.out.drew.trans (hbA.mono HWR.out.drew.size))).1) (fun hHeld => ?_)
            clear hK K
            try simp only [Act.put, List.setIfInBounds_toArray, List.set_cons_zero, List.set_cons_succ]
            have HA : Hid (Below V8.heap.size V8 VA) := HWR.out.drew.trans (hbA.mono HWR.out.drew.size)
            clear hbA
            refine wpAnyH_take (i := 3) (v := ?vm_3) rfl (by kernel_rfl) (by kernel_rfl) (by kernel_rfl) (fun _ _ _ h => h) (Or.inl ⟨by first | kernel_rfl | rfl, ?ym_3⟩) hHeld ?rm_3
            case ym_3 => (intro W hSW; (try dsimp only at hSW); go_simp; (try with_reducible rfl))
            change wpAnyH _ _ _ _ _ _ _ (Act.put _ (some 81) _) _
            simp only [Act.put, List.setIfInBounds_toArray, List.set_cons_zero, List.set_cons_succ]
            refine wpAnyH_take (i := 4) (v := ?vm_4) rfl (by kernel_rfl) (by kernel_rfl) (by kernel_rfl) (fun _ _ _ h => h) (Or.inl ⟨by first | kernel_rfl | rfl, ?ym_4⟩) hHeld ?rm_4
            case ym_4 => (intro W hSW; (try dsimp only at hSW); go_simp; (try with_reducible rfl))
            change wpAnyH _ _ _ _ _ _ _ (Act.put _ (some 82) _) _
            simp only [Act.put, List.setIfInBounds_toArray, List.set_cons_zero, List.set_cons_succ]
            refine wpAnyH_take (i := 5) (v := ?vm_5) rfl (by kernel_rfl) (by kernel_rfl) (by kernel_rfl) (fun _ _ _ h => h) (Or.inl ⟨by first | kernel_rfl | rfl, ?ym_5⟩) hHeld ?rm_5
            case ym_5 => (intro W hSW; (try dsimp only at hSW); go_simp; (try with_reducible rfl))
            change wpAnyH _ _ _ _ _ _ _ (Act.put _ (some 83) _) _
            simp only [Act.put, List.setIfInBounds_toArray, List.set_cons_zero, List.set_cons_succ]
            refine wpAnyH_take (i := 6) (v := ?vm_6) rfl (by kernel_rfl) (by kernel_rfl) (by kernel_rfl) (fun _ _ _ h => h) (Or.inl ⟨by first | kernel_rfl | rfl, ?ym_6⟩) hHeld ?rm_6
            case ym_6 => (intro W hSW; (try dsimp only at hSW); go_simp; (try with_reducible rfl))
            change wpAnyH _ _ _ _ _ _ _ (Act.put _ (some 84) _) _
            simp only [Act.put, List.setIfInBounds_toArray, List.set_cons_zero, List.set_cons_succ]
            refine wpAnyH_take (i := 7) (v := ?vm_7) rfl (by kernel_rfl) (by kernel_rfl) (by kernel_rfl) (fun _ _ _ h => h) (Or.inl ⟨by first | kernel_rfl | rfl, ?ym_7⟩) hHeld ?rm_7
            case ym_7 => (intro W hSW; (try dsimp only at hSW); go_simp; (try with_reducible rfl))
            change wpAnyH _ _ _ _ _ _ _ (Act.put _ (some 85) _) _
            simp only [Act.put, List.setIfInBounds_toArray, List.set_cons_zero, List.set_cons_succ]
            refine wpAnyH_take (i := 8) (v := ?vm_8) rfl (by kernel_rfl) (by kernel_rfl) (by kernel_rfl) (fun _ _ _ h => h) (Or.inl ⟨by first | kernel_rfl | rfl, ?ym_8⟩) hHeld ?rm_8
            case ym_8 => (intro W hSW; (try dsimp only at hSW); go_simp; (try with_reducible rfl))
            change wpAnyH _ _ _ _ _ _ _ (Act.put _ (some 86) _) _
            simp only [Act.put, List.setIfInBounds_toArray, List.set_cons_zero, List.set_cons_succ]
            refine wpAnyH_take (i := 9) (v := ?vm_9) rfl (by kernel_rfl) (by kernel_rfl) (by kernel_rfl) (fun _ _ _ h => h) (Or.inl ⟨by first | kernel_rfl | rfl, ?ym_9⟩) hHeld ?rm_9
            case ym_9 => (intro W hSW; (try dsimp only at hSW); go_simp; (try with_reducible rfl))
            change wpAnyH _ _ _ _ _ _ _ (Act.put _ (some 87) _) _
            simp only [Act.put, List.setIfInBounds_toArray, List.set_cons_zero, List.set_cons_succ]
            refine wpAnyH_take (i := 11) (v := ?vm_11) rfl (by kernel_rfl) (by kernel_rfl) (by kernel_rfl) (fun _ _ _ h => h) (Or.inl ⟨by first | kernel_rfl | rfl, ?ym_11⟩) hHeld ?rm_11
            case ym_11 => (intro W hSW; (try dsimp only at hSW); go_simp; (try with_reducible rfl))
            change wpAnyH _ _ _ _ _ _ _ (Act.put _ (some 89) _) _
            simp only [Act.put, List.setIfInBounds_toArray, List.set_cons_zero, List.set_cons_succ]
            refine wpAnyH_ready (rs := [10]) (by kernel_rfl) (by simp) ?_
            refine AllReadyH.cons rfl (fun K hK => ?_) AllReadyH.nil
            go_simp
            refine (HMC.out VA (HS.out VA HA.out).2.1).mono ?_
            rintro e VB ⟨rfl, hbB⟩
            refine hK.out _ _ ((HS.out VB (HA.out.trans (hbB.mono HA.out.size))).1) (fun hHeld => ?_)
            clear hK K
            try simp only [Act.put, List.setIfInBounds_toArray, List.set_cons_zero, List.set_cons_succ]
            have HBB : Hid (Below V8.heap.size V8 VB) := HA.out.trans (hbB.mono HA.out.size)
            clear hbB
            refine wpAnyH_ready (rs := [12]) (by kernel_rfl) (by simp) ?_
            refine AllReadyH.cons rfl (fun K hK => ?_) AllReadyH.nil
            go_simp
            refine (HMR.out VB (HS.out VB HBB.out).2.1).mono ?_
            rintro e VC ⟨rfl, hbC⟩
            refine hK.out _ _ ((HS.out VC (HBB.out.trans (hbC.mono HBB.out.size))).1) (fun hHeld => ?_)
            clear hK K
            try simp only [Act.put, List.setIfInBounds_toArray, List.set_cons_zero, List.set_cons_succ]
            have HC : Hid (Below V8.heap.size V8 VC) := HBB.out.trans (hbC.mono HBB.out.size)
            clear hbC
            refine wpAnyH_take (i := 13) (v := ?vm_13) rfl (by kernel_rfl) (by kernel_rfl) (by kernel_rfl) (fun _ _ _ h => h) (Or.inl ⟨by first | kernel_rfl | rfl, ?ym_13⟩) hHeld ?rm_13
            case ym_13 => (intro W hSW; (try dsimp only at hSW); go_simp; (try with_reducible rfl))
            change wpAnyH _ _ _ _ _ _ _ (Act.put _ (some 91) _) _
            simp only [Act.put, List.setIfInBounds_toArray, List.set_cons_zero, List.set_cons_succ]
            refine wpAnyH_take (i := 14) (v := ?vm_14) rfl (by kernel_rfl) (by kernel_rfl) (by kernel_rfl) (fun _ _ _ h => h) (Or.inl ⟨by first | kernel_rfl | rfl, ?ym_14⟩) hHeld ?rm_14
            case ym_14 => (intro W hSW; (try dsimp only at hSW); go_simp; (try with_reducible rfl))
            change wpAnyH _ _ _ _ _ _ _ (Act.put _ (some 92) _) _
            simp only [Act.put, List.setIfInBounds_toArray, List.set_cons_zero, List.set_cons_succ]
            refine wpAnyH_take (i := 15) (v := ?vm_15) rfl (by kernel_rfl) (by kernel_rfl) (by kernel_rfl) (fun _ _ _ h => h) (Or.inl ⟨by first | kernel_rfl | rfl, ?ym_15⟩) hHeld ?rm_15
            case ym_15 => (intro W hSW; (try dsimp only at hSW); go_simp; (try with_reducible rfl))
            change wpAnyH _ _ _ _ _ _ _ (Act.put _ (some 93) _) _
            simp only [Act.put, List.setIfInBounds_toArray, List.set_cons_zero, List.set_cons_succ]
            refine wpAnyH_ready (rs := [16]) (by kernel_rfl) (by simp) ?_
            refine AllReadyH.cons rfl (fun K hK => ?_) AllReadyH.nil
            go_simp
            refine (HLV2.out VC (HS.out VC HC.out).2.1).mono ?_
            rintro e VD ⟨rfl, hbD⟩
            refine hK.out _ _ ((HS.out VD (HC.out.trans (hbD.mono HC.out.size))).1) (fun hHeld => ?_)
            clear hK K
            try simp only [Act.put, List.setIfInBounds_toArray, List.set_cons_zero, List.set_cons_succ]
            have HD : Hid (Below w.heap.size w VD) := (HS.out VD (HC.out.trans (hbD.mono HC.out.size))).2.1
            clear hbD
            refine wpAnyH_take (i := 17) (v := ?vm_17) rfl (by kernel_rfl) (by kernel_rfl) (by kernel_rfl) (fun _ _ _ h => h) (Or.inl ⟨by first | kernel_rfl | rfl, ?ym_17⟩) hHeld ?rm_17
            case ym_17 => (intro W hSW; (try dsimp only at hSW); go_simp; (try with_reducible rfl))
            change wpAnyH _ _ _ _ _ _ _ (Act.put _ (some 95) _) _
            simp only [Act.put, List.setIfInBounds_toArray, List.set_cons_zero, List.set_cons_succ]
            refine wpAnyH_take (i := 18) (v := ?vm_18) rfl (by kernel_rfl) (by kernel_rfl) (by kernel_rfl) (fun _ _ _ h => h) (Or.inl ⟨by first | kernel_rfl | rfl, ?ym_18⟩) hHeld ?rm_18
            case ym_18 => (intro W hSW; (try dsimp only at hSW); go_simp; (try with_reducible rfl))
            change wpAnyH _ _ _ _ _ _ _ (Act.put _ (some 4) _) _
            simp only [Act.put, List.setIfInBounds_toArray, List.set_cons_zero, List.set_cons_succ]
            refine wpAnyH_done (by kernel_rfl) ?_ _
            go_wp2
            go_ret
            exact ⟨rfl, HD.out⟩
        · have kk : ¬ (i : Int) < (xn : Int) := by omega
          have kd : decide ((i : Int) < (xn : Int)) = false := decide_eq_false kk
          clear hgo
          · go_wp2
            clear x2
            refine wp_region_held_drew (S := fun W => (W.cell? ⟨pb, 0, none⟩ = some (.int .i64 t0) ∧ W.cell? ⟨pb, 1, none⟩ = some (.int .i64 n0) ∧ W.cell? ⟨pb, 2, none⟩ = some (.slice a0 len0 cap0) ∧ W.cell? ⟨pb, 3, none⟩ = some (.string s0)) ∧ (W.cell? ⟨xb, 0, none⟩ = some (.int .i64 r1) ∧ W.cell? ⟨xb, 1, none⟩ = some (.int .i64 r2) ∧ W.cell? ⟨xb, 2, none⟩ = some (.slice xa xn xc) ∧ W.cell? ⟨xb, 3, none⟩ = some (.string r4)) ∧ (W.cell? ⟨yb, 0, none⟩ = some (.int .i64 r1) ∧ W.cell? ⟨yb, 1, none⟩ = some (.int .i64 r2) ∧ W.cell? ⟨yb, 2, none⟩ = some (.slice ya yn yc) ∧ W.cell? ⟨yb, 3, none⟩ = some (.string r4))) (by kernel_rfl) ((HS.out wr.drew HWR.out.drew).1) (fun hHeld => ?_)
            refine wpAnyH_take (i := 0) (v := ?vk_0) rfl (by kernel_rfl) (by kernel_rfl) (by kernel_rfl) (fun _ _ _ h => h) (Or.inl ⟨by first | kernel_rfl | rfl, ?yk_0⟩) hHeld ?rk_0
            case yk_0 => (intro W hSW; (try dsimp only at hSW); go_simp; (try with_reducible rfl))
            change wpAnyH _ _ _ _ _ _ _ (Act.put _ (some 78) _) _
            simp only [Act.put, List.setIfInBounds_toArray, List.set_cons_zero, List.set_cons_succ]
            refine wpAnyH_take (i := 1) (v := ?vk_1) rfl (by kernel_rfl) (by kernel_rfl) (by kernel_rfl) (fun _ _ _ h => h) (Or.inl ⟨by first | kernel_rfl | rfl, ?yk_1⟩) hHeld ?rk_1
            case yk_1 => (intro W hSW; (try dsimp only at hSW); go_simp; (try with_reducible rfl))
            change wpAnyH _ _ _ _ _ _ _ (Act.put _ (some 79) _) _
            simp only [Act.put, List.setIfInBounds_toArray, List.set_cons_zero, List.set_cons_succ]
            refine wpAnyH_ready (rs := [2]) (by kernel_rfl) (by simp) ?_
            refine AllReadyH.cons rfl (fun K hK => ?_) AllReadyH.nil
            go_simp
            refine ((HS.out wr.drew HWR.out.drew).2.2.2).mono ?_
            rintro e VA ⟨rfl, hbA⟩
            refine hK.out _ _ ((HS.out VA (HWR.out.drew.trans (hbA.mono HWR.out.drew.size))).1) (fun hHeld => ?_)
            clear hK K
            try simp only [Act.put, List.setIfInBounds_toArray, List.set_cons_zero, List.set_cons_succ]
            have HA : Hid (Below V8.heap.size V8 VA) := HWR.out.drew.trans (hbA.mono HWR.out.drew.size)
            clear hbA
            refine wpAnyH_take (i := 3) (v := ?vk_3) rfl (by kernel_rfl) (by kernel_rfl) (by kernel_rfl) (fun _ _ _ h => h) (Or.inl ⟨by first | kernel_rfl | rfl, ?yk_3⟩) hHeld ?rk_3
            case yk_3 => (intro W hSW; (try dsimp only at hSW); go_simp; (try with_reducible rfl))
            change wpAnyH _ _ _ _ _ _ _ (Act.put _ (some 81) _) _
            simp only [Act.put, List.setIfInBounds_toArray, List.set_cons_zero, List.set_cons_succ]
            refine wpAnyH_take (i := 4) (v := ?vk_4) rfl (by kernel_rfl) (by kernel_rfl) (by kernel_rfl) (fun _ _ _ h => h) (Or.inl ⟨by first | kernel_rfl | rfl, ?yk_4⟩) hHeld ?rk_4
            case yk_4 => (intro W hSW; (try dsimp only at hSW); go_simp; (try with_reducible rfl))
            change wpAnyH _ _ _ _ _ _ _ (Act.put _ (some 82) _) _
            simp only [Act.put, List.setIfInBounds_toArray, List.set_cons_zero, List.set_cons_succ]
            refine wpAnyH_take (i := 5) (v := ?vk_5) rfl (by kernel_rfl) (by kernel_rfl) (by kernel_rfl) (fun _ _ _ h => h) (Or.inl ⟨by first | kernel_rfl | rfl, ?yk_5⟩) hHeld ?rk_5
            case yk_5 => (intro W hSW; (try dsimp only at hSW); go_simp; (try with_reducible rfl))
            change wpAnyH _ _ _ _ _ _ _ (Act.put _ (some 83) _) _
            simp only [Act.put, List.setIfInBounds_toArray, List.set_cons_zero, List.set_cons_succ]
            refine wpAnyH_take (i := 6) (v := ?vk_6) rfl (by kernel_rfl) (by kernel_rfl) (by kernel_rfl) (fun _ _ _ h => h) (Or.inl ⟨by first | kernel_rfl | rfl, ?yk_6⟩) hHeld ?rk_6
            case yk_6 => (intro W hSW; (try dsimp only at hSW); go_simp; (try with_reducible rfl))
            change wpAnyH _ _ _ _ _ _ _ (Act.put _ (some 84) _) _
            simp only [Act.put, List.setIfInBounds_toArray, List.set_cons_zero, List.set_cons_succ]
            refine wpAnyH_take (i := 7) (v := ?vk_7) rfl (by kernel_rfl) (by kernel_rfl) (by kernel_rfl) (fun _ _ _ h => h) (Or.inl ⟨by first | kernel_rfl | rfl, ?yk_7⟩) hHeld ?rk_7
            case yk_7 => (intro W hSW; (try dsimp only at hSW); go_simp; (try with_reducible rfl))
            change wpAnyH _ _ _ _ _ _ _ (Act.put _ (some 85) _) _
            simp only [Act.put, List.setIfInBounds_toArray, List.set_cons_zero, List.set_cons_succ]
            refine wpAnyH_take (i := 8) (v := ?vk_8) rfl (by kernel_rfl) (by kernel_rfl) (by kernel_rfl) (fun _ _ _ h => h) (Or.inl ⟨by first | kernel_rfl | rfl, ?yk_8⟩) hHeld ?rk_8
            case yk_8 => (intro W hSW; (try dsimp only at hSW); go_simp; (try with_reducible rfl))
            change wpAnyH _ _ _ _ _ _ _ (Act.put _ (some 86) _) _
            simp only [Act.put, List.setIfInBounds_toArray, List.set_cons_zero, List.set_cons_succ]
            refine wpAnyH_take (i := 9) (v := ?vk_9) rfl (by kernel_rfl) (by kernel_rfl) (by kernel_rfl) (fun _ _ _ h => h) (Or.inl ⟨by first | kernel_rfl | rfl, ?yk_9⟩) hHeld ?rk_9
            case yk_9 => (intro W hSW; (try dsimp only at hSW); go_simp; (try with_reducible rfl))
            change wpAnyH _ _ _ _ _ _ _ (Act.put _ (some 87) _) _
            simp only [Act.put, List.setIfInBounds_toArray, List.set_cons_zero, List.set_cons_succ]
            refine wpAnyH_take (i := 11) (v := ?vk_11) rfl (by kernel_rfl) (by kernel_rfl) (by kernel_rfl) (fun _ _ _ h => h) (Or.inl ⟨by first | kernel_rfl | rfl, ?yk_11⟩) hHeld ?rk_11
            case yk_11 => (intro W hSW; (try dsimp only at hSW); go_simp; (try with_reducible rfl))
            change wpAnyH _ _ _ _ _ _ _ (Act.put _ (some 89) _) _
            simp only [Act.put, List.setIfInBounds_toArray, List.set_cons_zero, List.set_cons_succ]
            refine wpAnyH_ready (rs := [10]) (by kernel_rfl) (by simp) ?_
            refine AllReadyH.cons rfl (fun K hK => ?_) AllReadyH.nil
            go_simp
            refine (HMC.out VA (HS.out VA HA.out).2.1).mono ?_
            rintro e VB ⟨rfl, hbB⟩
            refine hK.out _ _ ((HS.out VB (HA.out.trans (hbB.mono HA.out.size))).1) (fun hHeld => ?_)
            clear hK K
            try simp only [Act.put, List.setIfInBounds_toArray, List.set_cons_zero, List.set_cons_succ]
            have HBB : Hid (Below V8.heap.size V8 VB) := HA.out.trans (hbB.mono HA.out.size)
            clear hbB
            refine wpAnyH_ready (rs := [12]) (by kernel_rfl) (by simp) ?_
            refine AllReadyH.cons rfl (fun K hK => ?_) AllReadyH.nil
            go_simp
            refine (HMR.out VB (HS.out VB HBB.out).2.1).mono ?_
            rintro e VC ⟨rfl, hbC⟩
            refine hK.out _ _ ((HS.out VC (HBB.out.trans (hbC.mono HBB.out.size))).1) (fun hHeld => ?_)
            clear hK K
            try simp only [Act.put, List.setIfInBounds_toArray, List.set_cons_zero, List.set_cons_succ]
            have HC : Hid (Below V8.heap.size V8 VC) := HBB.out.trans (hbC.mono HBB.out.size)
            clear hbC
            refine wpAnyH_take (i := 13) (v := ?vk_13) rfl (by kernel_rfl) (by kernel_rfl) (by kernel_rfl) (fun _ _ _ h => h) (Or.inl ⟨by first | kernel_rfl | rfl, ?yk_13⟩) hHeld ?rk_13
            case yk_13 => (intro W hSW; (try dsimp only at hSW); go_simp; (try with_reducible rfl))
            change wpAnyH _ _ _ _ _ _ _ (Act.put _ (some 91) _) _
            simp only [Act.put, List.setIfInBounds_toArray, List.set_cons_zero, List.set_cons_succ]
            refine wpAnyH_take (i := 14) (v := ?vk_14) rfl (by kernel_rfl) (by kernel_rfl) (by kernel_rfl) (fun _ _ _ h => h) (Or.inl ⟨by first | kernel_rfl | rfl, ?yk_14⟩) hHeld ?rk_14
            case yk_14 => (intro W hSW; (try dsimp only at hSW); go_simp; (try with_reducible rfl))
            change wpAnyH _ _ _ _ _ _ _ (Act.put _ (some 92) _) _
            simp only [Act.put, List.setIfInBounds_toArray, List.set_cons_zero, List.set_cons_succ]
            refine wpAnyH_take (i := 15) (v := ?vk_15) rfl (by kernel_rfl) (by kernel_rfl) (by kernel_rfl) (fun _ _ _ h => h) (Or.inl ⟨by first | kernel_rfl | rfl, ?yk_15⟩) hHeld ?rk_15
            case yk_15 => (intro W hSW; (try dsimp only at hSW); go_simp; (try with_reducible rfl))
            change wpAnyH _ _ _ _ _ _ _ (Act.put _ (some 93) _) _
            simp only [Act.put, List.setIfInBounds_toArray, List.set_cons_zero, List.set_cons_succ]
            refine wpAnyH_ready (rs := [16]) (by kernel_rfl) (by simp) ?_
            refine AllReadyH.cons rfl (fun K hK => ?_) AllReadyH.nil
            go_simp
            refine (HLV2.out VC (HS.out VC HC.out).2.1).mono ?_
            rintro e VD ⟨rfl, hbD⟩
            refine hK.out _ _ ((HS.out VD (HC.out.trans (hbD.mono HC.out.size))).1) (fun hHeld => ?_)
            clear hK K
            try simp only [Act.put, List.setIfInBounds_toArray, List.set_cons_zero, List.set_cons_succ]
            have HD : Hid (Below w.heap.size w VD) := (HS.out VD (HC.out.trans (hbD.mono HC.out.size))).2.1
            clear hbD
            refine wpAnyH_take (i := 17) (v := ?vk_17) rfl (by kernel_rfl) (by kernel_rfl) (by kernel_rfl) (fun _ _ _ h => h) (Or.inl ⟨by first | kernel_rfl | rfl, ?yk_17⟩) hHeld ?rk_17
            case yk_17 => (intro W hSW; (try dsimp only at hSW); go_simp; (try with_reducible rfl))
            change wpAnyH _ _ _ _ _ _ _ (Act.put _ (some 95) _) _
            simp only [Act.put, List.setIfInBounds_toArray, List.set_cons_zero, List.set_cons_succ]
            refine wpAnyH_take (i := 18) (v := ?vk_18) rfl (by kernel_rfl) (by kernel_rfl) (by kernel_rfl) (fun _ _ _ h => h) (Or.inl ⟨by first | kernel_rfl | rfl, ?yk_18⟩) hHeld ?rk_18
            case yk_18 => (intro W hSW; (try dsimp only at hSW); go_simp; (try with_reducible rfl))
            change wpAnyH _ _ _ _ _ _ _ (Act.put _ (some 4) _) _
            simp only [Act.put, List.setIfInBounds_toArray, List.set_cons_zero, List.set_cons_succ]
            refine wpAnyH_done (by kernel_rfl) ?_ _
            go_wp2
            go_ret
            exact ⟨rfl, HD.out⟩

set_option linter.unusedVariables false in
set_option maxRecDepth 100000 in
theorem lifted (os : Os) (started : os.Started) (H : Type) (enc : TypeId × Value → H) :
    ReturnsInHanded {} Tryd.checked os 4 .any (fun w args => (Rows.capNarrowsSpec.pre enc Tryd.prog Tryd.f4 [] false w args ∧ laidMetH Tryd.prog laid2 w) ∧ sizedMet enc Tryd.prog Tryd.f4 (OpenSpec.ofChange Rows.capNarrowsSpec) false w args) (Rows.capNarrowsSpec.post enc Tryd.prog Tryd.f4 false true false false) := by
  refine returnsInHanded_of_change_and (C := Tryd.checked) (X := fun w _ => laidMetH Tryd.prog laid2 w) (fun _ _ _ hh h => h.of_heap hh) own started (by kernel_rfl) Tryd.func4
    (ChangeSpec.witness_shaped (enc := enc) (C := Tryd.checked) (os := os) (X := fun w _ => laidMetH Tryd.prog laid2 w) false (World.doorLaid Tryd.prog 19 os) #[.agg #[.int .i64 0, .int .i64 0, .slice none 0 0, .string ByteArray.empty], .agg #[.string ByteArray.empty, .int .i64 0, .int .i64 0]] 8 rfl (World.shaped_of_RefB (by kernel_rfl) (by kernel_rfl)) (by kernel_rfl) (by kernel_rfl) (by kernel_rfl) (door_met os _)) ?_
  intro W base args ds gs before hval0 hW _ hsz0 hL _
  have hval : ∀ (j : Nat) t v, Tryd.f4.params[j]? = some t → args[j]? = some v → Value.okWide Tryd.prog W .any base t v := hval0
  have hsz : (DataW.weightsEach Tryd.prog (Tryd.f4.params.toList ++ Rows.capNarrowsSpec.plain.varTypes Tryd.prog) (ds ++ gs)).all (· ≤ reachBytes) = true := hsz0
  have hW' := hW
  obtain ⟨p, q, hA0, hV, rfl, hfz, hnd⟩ := hW
  have hA : DataW.TrodAll enc Tryd.prog W 0 (fun _ => true) true Tryd.f4.params.toList args.toList ds p := hA0
  rw [Tryd.params4] at hA hval hsz
  obtain ⟨v0, vs0, d0, ds0, p0, q0, hargs, rfl, rfl, h0, r0⟩ := trodAll_cons hA
  obtain ⟨v1, vs1, d1, ds1, p1, q1, rfl, rfl, rfl, h1, r1⟩ := trodAll_cons r0
  obtain ⟨rfl, rfl, rfl⟩ := trodAll_nil r1
  obtain rfl : args = #[v0, v1] := by cases args; simp_all
  obtain ⟨rfl, rfl⟩ := trodVars_none hV
  have k0 := h0
  have lt0 : ∀ x ∈ p0, x.block < W.heap.size := by obtain ⟨m, hm⟩ := k0; exact DataW.trod_lt m _ _ _ hm
  obtain ⟨t0, n0, a0, len0, cap0, s0, l0, rfl, w0, c0, z0, y0, x0⟩ := tok_arg (j := 0) (hval 0 25 v0 rfl rfl) h0 hsz rfl rfl
  have k1 := h1
  have lt1 : ∀ x ∈ p1, x.block < W.heap.size := by obtain ⟨m, hm⟩ := k1; exact DataW.trod_lt m _ _ _ hm
  obtain ⟨c1, rfl, z1⟩ := cav_arg (j := 1) (hval 1 35 v1 rfl rfl) h1 hsz rfl rfl
  clear hA0 hval0 hsz hsz0
  refine (walk t0 n0 a0 len0 cap0 s0 l0 c0 z0 y0 x0 c1 z1 W w0 (of_laid hL)).mono fun e W' ⟨he, bel⟩ => ?_
  subst he
  exact ⟨_, rfl, _, _, _, [], _, [], hW', trodAll_mk1 (shut_bool Tryd.underlying4 _), (trodAll_cons_mk (Below.trod laidOut (by kernel_rfl) (of_decide_eq_true (by kernel_rfl)) k0 bel lt0) (trodAll_cons_mk (Below.trod laidOut (by kernel_rfl) (of_decide_eq_true (by kernel_rfl)) k1 bel lt1) trodAll_mk0)), rfl, bel.frame _, fun h => by cases h⟩

theorem over : Rows.capNarrowsRow.holds Tryd.pinned (OpenSpec.ofChange Rows.capNarrowsSpec) :=
  OpenClaim.holds_of_wide 4 Tryd.f4 rfl rfl rfl rfl rfl rfl rfl ⟨rfl, rfl, rfl, rfl, rfl⟩ rfl rfl rfl rfl rfl (by kernel_rfl) Tryd.func4 (by kernel_rfl)
    (of_decide_eq_true (by kernel_rfl)) (by unfold Func.isWrapper; first | (rw [if_pos (by decide +kernel)]; kernel_rfl) | (rw [if_neg (by decide +kernel)]; exact ⟨rfl, rfl⟩))
    (fun os started H enc _ => lifted os started H enc)

end Go.Proofs.YtcmdcmbiilfngaaDoor.capNarrows
namespace Go.Proofs.YtcmdcmbiilfngaaDoor
/-- The given statement. -/
theorem capNarrows_holds : Rows.CapNarrowsCardSaid :=
  Claim7.holds_tied_plain_at .later [] [.data, .data] true (true, "b19a03ae824dc2f6810aeb81173081118005215afdce10c70f77b3db14f8911f") false
    capNarrows.over (fun _ h => by cases h) (by kernel_rfl) (fun _ h => by cases h) capNarrows_row_tie rfl ⟨rfl, rfl⟩ (by kernel_rfl) rfl
    (fun f fn hf hfn => by
      obtain rfl : f = 4 := Option.some.inj ((show Tryd.prog.funcNamed "strongroom/strongroomlaw12.CapNarrows" = some 4 by kernel_rfl).symm.trans hf) |>.symm
      obtain rfl : fn = Tryd.f4 := (Option.some.inj (Tryd.func4.symm.trans hfn)).symm
      exact ⟨by kernel_rfl, fun j t ht => by
        rw [Tryd.params4] at ht
        rcases j with _ | _ | j
        · obtain rfl : t = 25 := by simpa using ht.symm
          exact (show Tryd.prog.wantsStandIn 25 = false by kernel_rfl)
        · obtain rfl : t = 35 := by simpa using ht.symm
          exact (show Tryd.prog.wantsStandIn 35 = false by kernel_rfl)
        · simp at ht
      ⟩)
    (by kernel_rfl)
#print axioms capNarrows_holds
end Go.Proofs.YtcmdcmbiilfngaaDoor
