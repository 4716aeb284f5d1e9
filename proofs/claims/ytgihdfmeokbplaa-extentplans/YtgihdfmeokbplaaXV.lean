/- Walk over the reader's area. -/
import Derived.Test.YtgihdfmeokbplaaXN
import Derived.Test.YtgihdfmeokbplaaXT
import Derived.Test.YtgihdfmeokbplaaED
namespace Go.Proofs.Ytgihdfmeokbplaa
open Go.RowKit Ex
/-- An area that is being read: its cells, its holes' row. -/
def ArM (w : World) (ab z : Nat) (acc : List Sp) : Prop := ∃ ha hc, w.heap[ab]? = some (.cells (arC ⟨z, acc, 0⟩ ha hc) 66 (0, 0)) ∧ w.ownsRow (ab + 1) 37 2 (.slice ha acc.length hc) acc.length (spsV acc)
theorem ArM.upd {w w' : World} {ab z : Nat} {acc : List Sp} {S : Nat → Prop} (h : ArM w ab z acc) (hu : Upd S w w') (hS : ∀ x, S x → x < ab) : ArM w' ab z acc := by
  obtain ⟨ha, hc, h1, h2⟩ := h
  exact ⟨ha, hc, (hu.block ab (lt_of_some h1) (fun s => by have := hS _ s; omega)).trans h1, own_keep h2 (fun x hx => hu.block x (h2.lt x hx).2 (fun s => by have := hS _ s; have := (h2.lt x hx).1; omega))⟩
structure RdI (w wr : World) (rb ab z N : Nat) (a : Option Addr) (len cap : Nat) (bs : List UInt8) (R : Option (List Sp) × Int × Nat) (i : Nat) (bh p : Int) (e : Nat) (acc : List Sp) : Prop where
  ok : RdOk z i bh acc
  r : wr.heap[rb]? = some (rdR a len cap p e)
  pin : inP bs p
  res : rdL bs z (N - i) i bh p e acc = R
  u : Upd (fun x => x = rb) w wr
  ar : ArM wr ab z acc
def RdTo (w w' : World) (rb : Nat) (a : Option Addr) (len cap : Nat) (bs : List UInt8) (e : Ending) : Prop :=
  ∃ r q c, rdA bs = (r, q, c) ∧ w'.heap[rb]? = some (rdR a len cap q c) ∧ Upd (fun x => x = rb) w w' ∧
    match r with
    | none => e = .returned (.tuple #[.pointer none, .bool false])
    | some (z, hs) => ∃ ab, e = .returned (.tuple #[.pointer (some ⟨ab, 0, none⟩), .bool true]) ∧ AIs w' (fresh w w') ab ⟨z, hs, 0⟩
theorem RdI.below {w wr w' : World} {rb ab z N : Nat} {a : Option Addr} {len cap : Nat} {bs : List UInt8} {R : Option (List Sp) × Int × Nat} {i : Nat} {bh p : Int} {e : Nat} {acc : List Sp} (h : RdI w wr rb ab z N a len cap bs R i bh p e acc) (hb : Below wr.heap.size wr w') : RdI w w' rb ab z N a len cap bs R i bh p e acc :=
  ⟨h.ok, (hb.block rb (lt_of_some h.r)).trans h.r, h.pin, h.res, h.u.trans (Upd.of_below (S := fun _ => False) hb) (fun _ f _ => f.elim), h.ar.upd (Upd.of_below (S := fun _ => False) hb) (fun _ f => f.elim)⟩
set_option maxRecDepth 100000 in
set_option maxHeartbeats 8000000 in
theorem rdarea_any {w : World} {rb : Nat} {a : Option Addr} {len cap : Nat} {bs : List UInt8} (h : w.heap[rb]? = some (rdR a len cap 0 0)) (hk : ∀ V, Upd (fun x => x = rb) w V → Bs V a len cap bs) (hl : bs.length ≤ 9223372036854775807) : Calls Try.prog 51 #[.pointer (some ⟨rb, 0, none⟩)] w fun e w' => RdTo w w' rb a len cap bs e := by
  have HRN : Hid (∀ V p e n q c, rdN bs p e = (n, q, c) → V.heap[rb]? = some (rdR a len cap p e) → Upd (fun x => x = rb) w V → inP bs p → Calls Try.prog 69 #[.pointer (some ⟨rb, 0, none⟩)] V fun e' w' => e' = .returned (.int .i64 (n : Int)) ∧ w'.heap[rb]? = some (rdR a len cap q c) ∧ Upd (fun x => x = rb) V w' ∧ Upd (fun x => x = rb) w w' ∧ inP bs q) := fun V p e n q c he hr hu hi => by
    have h9 := rdnum_any hr (hk V hu) hi
    have h10 := rdN_in (e := e) hi
    rw [he] at h9 h10
    exact h9.mono fun e' w' ⟨k1, k2, k3⟩ => ⟨k1, k2, k3, hu.trans k3 (fun x hx _ => hx), h10⟩
  obtain ⟨z, p1, e1, h0⟩ : ∃ z p1 e1, rdN bs 0 0 = (z, p1, e1) := ⟨_, _, _, rfl⟩
  obtain ⟨N, p2, e2, h1⟩ : ∃ z q c, rdN bs p1 e1 = (z, q, c) := ⟨_, _, _, rfl⟩
  have hzl : z ≤ 1048577 := by have := rdN_le bs 0 0; rw [h0] at this; exact this
  have hNl : N ≤ 1048577 := by have := rdN_le bs p1 e1; rw [h1] at this; exact this
  have HRW : Hid (rb < w.heap.size) := lt_of_some h
  have HZ : Hid (rdN bs 0 0 = (z, p1, e1) ∧ rdN bs p1 e1 = (N, p2, e2)) := ⟨h0, h1⟩
  have HN1 := HRN.out w 0 0 z p1 e1 h0 h (Upd.refl _ _) ⟨by omega, by omega, hl⟩
  clear h0 h1 h hk
  go_enter Try.func51, Try.ntmps51
  go_wp2_with fail
  refine HN1.mono ?_
  rintro e V1 ⟨rfl, hr1, _, hu1, hi1⟩
  obtain ⟨ab, hab⟩ : ∃ ab, V1.heap.size = ab := ⟨_, rfl⟩
  obtain ⟨W1, hW1⟩ : ∃ W1, V1.alloc (.cells #[.int .i64 (z : Int), .slice none 0 0, .int .i64 0] 66) = W1 := ⟨_, rfl⟩
  have hb1 : Below V1.heap.size V1 W1 := by rw [← hW1]; exact (Below.refl _ _).alloc (Nat.le_refl _) _
  have hA1 : W1.heap[ab]? = some (.cells #[.int .i64 (z : Int), .slice none 0 0, .int .i64 0] 66 (0, 0)) := by rw [← hW1, ← hab]; exact heap_alloc_new _ _
  have c1 : W1.cell? ⟨ab, 0, none⟩ = some (.int .i64 (z : Int)) := by rw [cell_of_row _ _ _ _ _ _ hA1]; rfl
  have hrW : W1.heap[rb]? = some (rdR a len cap p1 e1) := (hb1.block rb (lt_of_some hr1)).trans hr1
  have huW : Upd (fun x => x = rb) w W1 := hu1.trans (Upd.of_below (S := fun _ => False) hb1) (fun _ f _ => f.elim)
  have HRB : Hid (rb < ab ∧ w.heap.size ≤ ab ∧ rb < w.heap.size) := ⟨by have := lt_of_some hr1; omega, by have := hu1.size; omega, HRW.out⟩
  have HIS := isSize_any (z : Int) W1
  by_cases hz : 1 ≤ z ∧ z ≤ 1048576
  rotate_left
  · have hbb : (decide (1 ≤ (z : Int)) && decide ((z : Int) ≤ 1048576)) = false := by
      rw [← Bool.not_eq_true, Bool.and_eq_true, decide_eq_true_eq, decide_eq_true_eq]; omega
    rw [hbb] at HIS
    have HX : Hid (RdTo w W1 rb a len cap bs (.returned (.tuple #[.pointer none, .bool false]))) := ⟨none, p1, e1, rdA_bad HZ.out.1 hz, hrW, huW, rfl⟩
    clear hbb hz hb1 hA1 hrW huW hr1 hu1 hi1
    go_wp2_with fail
    refine HIS.mono ?_
    rintro e V ⟨rfl, hV⟩
    subst V
    go_wp2
    go_ret2
    exact HX.out
  have hbb : (decide (1 ≤ (z : Int)) && decide ((z : Int) ≤ 1048576)) = true := by
    rw [Bool.and_eq_true, decide_eq_true_eq, decide_eq_true_eq]; omega
  rw [hbb] at HIS
  have HZZ : Hid (1 ≤ z ∧ z ≤ 1048576) := hz
  have HN2 := HRN.out W1 p1 e1 N p2 e2 HZ.out.2 hrW huW hi1
  have HA0 : Hid (ArM W1 ab z []) := ⟨none, 0, hA1, World.ownsRow_nil _ _ _ _⟩
  clear hbb hz hb1 hA1 hrW huW hr1 hu1 hi1
  go_wp2_with fail
  refine HIS.mono ?_
  rintro e V ⟨rfl, hV⟩
  subst V
  clear HIS
  go_wp2_with fail
  refine HN2.mono ?_
  rintro e V2 ⟨rfl, hr2, hu2, hu3, hi2⟩
  obtain ⟨R, hR⟩ : ∃ R, rdL bs z N 0 0 p2 e2 [] = R := ⟨_, rfl⟩
  have HRR : Hid (rdL bs z N 0 0 p2 e2 [] = R) := hR
  have HI2 : Hid (RdI w V2 rb ab z N a len cap bs R 0 0 p2 e2 []) := ⟨RdOk.start z, hr2, hi2, hR, hu3, HA0.out.upd hu2 (fun x hx => by have := HRB.out; omega)⟩
  clear HN1 HN2 hr2 hu2 hu3 hi2 hR HA0 c1 hab hW1
  go_wp2
  go_loopw [5, 21] (fun v5 v21 wr => ∃ (i : Nat) (bh p : Int) (e : Nat) (acc : List Sp), i ≤ N ∧ v21 = .int .i64 (i : Int) ∧ v5 = .int .i64 bh ∧ RdI w wr rb ab z N a len cap bs R i bh p e acc) (fun _ v _ => N - (intOf v).toNat)
  case atStart => exact ⟨0, 0, p2, e2, [], by omega, rfl, rfl, HI2.out⟩
  case round =>
    clear HI2
    obtain ⟨i, bh, p, e, acc, hi, rfl, rfl, hI⟩ := hrel
    by_cases hlt : i < N
    · have kk : (i : Int) < (N : Int) := by omega
      obtain ⟨d, p3, e3, h3⟩ : ∃ z q c, rdN bs p e = (z, q, c) := ⟨_, _, _, rfl⟩
      obtain ⟨s, p4, e4, h4⟩ : ∃ z q c, rdN bs p3 e3 = (z, q, c) := ⟨_, _, _, rfl⟩
      have hdl : d ≤ 1048577 := by have := rdN_le bs p e; rw [h3] at this; exact this
      have hsl : s ≤ 1048577 := by have := rdN_le bs p3 e3; rw [h4] at this; exact this
      have hst := rdL_step (z := z) (k := N - (i + 1)) (i := i) (bh := bh) (acc := acc) h3 h4
      rw [show N - (i + 1) + 1 = N - i by omega, hI.res] at hst
      have HST : Hid (¬ (0 < i ∧ d = 0) → Ar.has ⟨z, [], 0⟩ (bh + (d : Int), (s : Int)) = true → rdL bs z (N - (i + 1)) (i + 1) (bh + (d : Int) + (s : Int)) p4 e4 (acc ++ [(bh + (d : Int), (s : Int))]) = R) := fun n1 n2 => by
        rw [hst, if_neg]; exact fun h => h.elim n1 (fun h => by rw [n2] at h; cases h)
      have HNO : Hid ((0 < i ∧ d = 0) ∨ Ar.has ⟨z, [], 0⟩ (bh + (d : Int), (s : Int)) = false → rdA bs = (none, p4, e4)) := fun n1 => by
        rw [if_pos n1] at hst
        exact rdA_none HZ.out.1 HZZ.out HZ.out.2 (HRR.out.trans hst)
      have HK : Hid (RdOk z i bh acc) := hI.ok
      have hb0 := hI.ok.b0
      have hb1 := hI.ok.b1
      have hzz := HZZ.out
      have hww : IntKind.i64.wrap (bh + (d : Int)) = bh + (d : Int) := wr64_in ⟨by omega, by omega⟩
      have hil : i ≤ 524289 := by have := (hI.ok.ok hzz.1 hzz.2).len; rw [← hI.ok.len]; exact this
      have HC3 := HRN.out wr p e d p3 e3 h3 hI.r hI.u hI.pin
      have HI : Hid (RdI w wr rb ab z N a len cap bs R i bh p e acc) := hI
      clear hst h3 hI
      go_wp2_with fail
      refine HC3.mono ?_
      rintro e' V3 ⟨rfl, hr3, hv3, hu3, hi3⟩
      have HC4 := HRN.out V3 p3 e3 s p4 e4 h4 hr3 hu3 hi3
      have HM3 : Hid (ArM V3 ab z acc) := HI.out.ar.upd hv3 (fun x hx => by have := HRB.out; omega)
      clear HC3 hr3 hv3 hu3 hi3 h4
      go_wp2_with fail
      refine HC4.mono ?_
      rintro e' V4 ⟨rfl, hr4, hv4, hu4, hi4⟩
      have HM4 : Hid (ArM V4 ab z acc ∧ V4.heap[rb]? = some (rdR a len cap p4 e4) ∧ Upd (fun x => x = rb) w V4 ∧ inP bs p4) := ⟨HM3.out.upd hv4 (fun x hx => by have := HRB.out; omega), hr4, hu4, hi4⟩
      obtain ⟨C, hC⟩ : ∃ C, V4.heap.size = C := ⟨_, rfl⟩
      obtain ⟨W5, hW5⟩ : ∃ W5, V4.alloc (.cells #[.int .i64 (bh + (d : Int)), .int .i64 (s : Int)] 37) = W5 := ⟨_, rfl⟩
      have hb5 : Below V4.heap.size V4 W5 := by rw [← hW5]; exact (Below.refl _ _).alloc (Nat.le_refl _) _
      have hC5 : W5.heap[C]? = some (.cells #[.int .i64 (bh + (d : Int)), .int .i64 (s : Int)] 37 (0, 0)) := by rw [← hW5, ← hC]; exact heap_alloc_new _ _
      have t0 : W5.cell? ⟨C, 0, none⟩ = some (.int .i64 (bh + (d : Int))) := by rw [cell_of_row _ _ _ _ _ _ hC5]; rfl
      have t1 : W5.cell? ⟨C, 1, none⟩ = some (.int .i64 (s : Int)) := by rw [cell_of_row _ _ _ _ _ _ hC5]; rfl
      have c5 : W5.cell? ⟨ab, 0, none⟩ = some (.int .i64 (z : Int)) := by
        obtain ⟨ha, hc, h9, _⟩ := HM4.out.1
        rw [cell_of_row W5 ab 0 _ _ _ ((hb5.block ab (lt_of_some h9)).trans h9)]; rfl
      have HNR : Hid ((0 < i ∧ d = 0) ∨ Ar.has ⟨z, [], 0⟩ (bh + (d : Int), (s : Int)) = false → ∀ V, Below V4.heap.size V4 V → RdTo w V rb a len cap bs (.returned (.tuple #[.pointer none, .bool false]))) := fun n1 V hV =>
        ⟨none, p4, e4, HNO.out n1, (hV.block rb (lt_of_some HM4.out.2.1)).trans HM4.out.2.1, HM4.out.2.2.1.trans (Upd.of_below (S := fun _ => False) hV) (fun _ f _ => f.elim), rfl⟩
      clear HC4 hr4 hv4 hu4 hi4 HM3 HI HNO
      by_cases hA : 0 < i ∧ d = 0
      · have HX : Hid (∀ V, Below V4.heap.size V4 V → RdTo w V rb a len cap bs (.returned (.tuple #[.pointer none, .bool false]))) := HNR.out (.inl hA)
        obtain ⟨hi0, rfl⟩ := hA
        have ki0 : (0 : Int) < (i : Int) := by omega
        clear hb5 hC5 HST
        go_wp2
        go_ret2
        exact HX.out _ ((Below.refl _ _).alloc (Nat.le_refl _) _)
      have HNA : Hid (¬ (0 < i ∧ d = 0)) := hA
      by_cases hi0 : i = 0
      · have ki0 : ¬ (0 : Int) < (i : Int) := by omega
        clear hA hi0
        cases hhb : Ar.has ⟨z, [], 0⟩ (bh + (d : Int), (s : Int)) with
        | false =>
          have HHS := hasq_any (bh + (d : Int)) (s : Int) (z : Int) ab W5 ⟨by omega, by omega⟩ c5
          have hh2 : (decide (0 ≤ bh + (d : Int)) && decide (1 ≤ (s : Int)) && decide (bh + (d : Int) ≤ (z : Int)) && decide ((s : Int) ≤ (z : Int) - (bh + (d : Int)))) = false := hhb
          rw [hh2] at HHS
          have HNO := HNR.out (.inr hhb)
          clear hh2 hhb
          go_wp2_with fail
          refine HHS.mono ?_
          rintro e V6 ⟨rfl, hV6⟩
          have HX := HNO V6 (hb5.trans (hV6.mono hb5.size))
          have HXX : Hid (RdTo w V6 rb a len cap bs (.returned (.tuple #[.pointer none, .bool false]))) := HX
          clear HHS HNO HX hV6 hb5 hC5
          go_wp2
          go_ret2
          exact HXX.out
        | true =>
          have HHS := hasq_any (bh + (d : Int)) (s : Int) (z : Int) ab W5 ⟨by omega, by omega⟩ c5
          have hh2 : (decide (0 ≤ bh + (d : Int)) && decide (1 ≤ (s : Int)) && decide (bh + (d : Int) ≤ (z : Int)) && decide ((s : Int) ≤ (z : Int) - (bh + (d : Int)))) = true := hhb
          rw [hh2] at HHS
          have HHT : Hid (Ar.has ⟨z, [], 0⟩ (bh + (d : Int), (s : Int)) = true) := hhb
          have hbz := (Ar.has_iff ⟨z, [], 0⟩ (bh + (d : Int), (s : Int))).1 hhb
          simp only at hbz
          have HEN : Hid (∀ V, Calls Try.prog 37 #[.agg #[.int .i64 (bh + (d : Int)), .int .i64 (s : Int)]] V fun e w' => e = .returned (.int .i64 (bh + (d : Int) + (s : Int))) ∧ Below V.heap.size V w') := fun V => end_any _ _ V ⟨by omega, by omega⟩
          have HRS : Hid (rdL bs z (N - (i + 1)) (i + 1) (bh + (d : Int) + (s : Int)) p4 e4 (acc ++ [(bh + (d : Int), (s : Int))]) = R) := HST.out HNA.out hhb
          clear hh2 hhb hbz
          go_wp2_with fail
          refine HHS.mono ?_
          rintro e V6 ⟨rfl, hV6⟩
          clear HHS
          obtain ⟨ha, hc, hA, hO⟩ := (HM4.out.1.upd (Upd.of_below (S := fun _ => False) hb5) (fun _ f => f.elim)).upd (Upd.of_below (S := fun _ => False) hV6) (fun _ f => f.elim)
          rw [HK.out.len] at hO
          have hC6 : V6.heap[C]? = some (.cells #[.int .i64 (bh + (d : Int)), .int .i64 (s : Int)] 37 (0, 0)) := (hV6.block C (lt_of_some hC5)).trans hC5
          have hCr : ab < C := by rw [← hC]; obtain ⟨_, _, h9, _⟩ := HM4.out.1; exact lt_of_some h9
          have hOC : ∀ x, ob ha = some x → ab + 1 ≤ x ∧ x < C := fun x hx => by
            obtain ⟨ha', hc', h9, h10⟩ := HM4.out.1
            have e9 : V6.heap[ab]? = V4.heap[ab]? := (hV6.block ab (by have := hb5.size; have := lt_of_some h9; omega)).trans (hb5.block ab (lt_of_some h9))
            rw [h9, hA] at e9
            simp only [arC, Option.some.injEq, Obj.cells.injEq, Array.mk.injEq, List.cons.injEq, Value.slice.injEq] at e9
            obtain ⟨⟨_, ⟨e10, _⟩, _⟩, _⟩ := e9
            subst e10
            have h11 := h10.lt x (by rw [ob_slice]; exact hx)
            rw [hC] at h11
            exact h11
          have hu6 : Upd (fun x => x = rb) w V6 := (HM4.out.2.2.1.trans (Upd.of_below (S := fun _ => False) hb5) (fun _ f _ => f.elim)).trans (Upd.of_below (S := fun _ => False) hV6) (fun _ f _ => f.elim)
          have hr6 : V6.heap[rb]? = some (rdR a len cap p4 e4) := (hV6.block rb (by have := hb5.size; have := lt_of_some HM4.out.2.1; omega)).trans ((hb5.block rb (lt_of_some HM4.out.2.1)).trans HM4.out.2.1)
          obtain ⟨D, hD⟩ : ∃ D, V6.drew.heap.size = D := ⟨_, rfl⟩
          obtain ⟨W7, hW7⟩ : ∃ W7, V6.drew.alloc (.cells #[.int .i64 (bh + (d : Int)), .int .i64 (s : Int)] 37) = W7 := ⟨_, rfl⟩
          have hb7 : Below V6.drew.heap.size V6.drew W7 := by rw [← hW7]; exact (Below.refl _ _).alloc (Nat.le_refl _) _
          have h7 : Blk W7 D (spsV [(bh + (d : Int), (s : Int))]) := by rw [spsV_one1]; unfold Blk; rw [← hW7, ← hD]; exact heap_alloc_new _ _
          have hA6 : V6.drew.heap[ab]? = some (.cells (arC ⟨z, acc, 0⟩ ha hc) 66 (0, 0)) := hA
          have hA7 : W7.heap[ab]? = some (.cells (arC ⟨z, acc, 0⟩ ha hc) 66 (0, 0)) := (hb7.block ab (lt_of_some hA6)).trans hA6
          have x1 : V6.drew.cell? ⟨ab, 1, none⟩ = some (.slice ha i hc) := by rw [cell_of_row _ _ _ _ _ _ hA6, ← HK.out.len]; rfl
          have x7 : W7.cell? ⟨ab, 1, none⟩ = some (.slice ha i hc) := by rw [cell_of_row _ _ _ _ _ _ hA7, ← HK.out.len]; rfl
          have g0 : V6.drew.cell? ⟨C, 0, none⟩ = some (.int .i64 (bh + (d : Int))) := by rw [cell_of_row V6.drew C 0 _ _ _ hC6]; rfl
          have g1 : V6.drew.cell? ⟨C, 1, none⟩ = some (.int .i64 (s : Int)) := by rw [cell_of_row V6.drew C 1 _ _ _ hC6]; rfl
          have hC7 : W7.heap[C]? = some (.cells #[.int .i64 (bh + (d : Int)), .int .i64 (s : Int)] 37 (0, 0)) := (hb7.block C (lt_of_some hC6)).trans hC6
          have hr7 : W7.heap[rb]? = some (rdR a len cap p4 e4) := (hb7.block rb (lt_of_some hr6)).trans hr6
          have hu7 : Upd (fun x => x = rb) w W7 := hu6.drew.trans (Upd.of_below (S := fun _ => False) hb7) (fun _ f _ => f.elim)
          have hO7 : W7.ownsRow (ab + 1) 37 2 (.slice ha i hc) i (spsV acc) := own_keep hO (fun x hx => hb7.block x (hO.lt x hx).2)
          have H7 : Hid (W7.ownsRow (ab + 1) 37 2 (.slice ha i hc) i (spsV acc) ∧ (∀ j u, (spsV [(bh + (d : Int), (s : Int))])[j]? = some u → W7.cell? ((⟨D, 0, none⟩ : Addr).add j) = some u) ∧ ab + 1 ≤ W7.heap.size) := ⟨hO7, cells_two h7, by have := lt_of_some hA7; omega⟩
          have HKG : Hid (∀ V, W7.grownBy V (ob ha) → V.cell? ⟨C, 0, none⟩ = some (.int .i64 (bh + (d : Int))) ∧ V.cell? ⟨C, 1, none⟩ = some (.int .i64 (s : Int))) := fun V hV => by
            have h9 : V.heap[C]? = _ := (hV.block C (lt_of_some hC7) (fun e => by have := (hOC C e.symm).2; omega)).trans hC7
            exact ⟨by rw [cell_of_row V C 0 _ _ _ h9]; rfl, by rw [cell_of_row V C 1 _ _ _ h9]; rfl⟩
          have HAB : Hid (∀ V, W7.grownBy V (ob ha) → V.heap[ab]? = some (.cells #[.int .i64 (z : Int), .slice ha i hc, .int .i64 0] 66 (0, 0))) := fun V hV => by
            rw [hV.block ab (lt_of_some hA7) (fun e => by have := (hOC ab e.symm).1; omega), hA7, ← HK.out.len]; rfl
          have HFI : Hid (∀ g cp V, W7.grownBy V (ob ha) → (ob ha = some g ∨ g = W7.heap.size) → V.ownsRow (ab + 1) 37 2 (.slice (some ⟨g, 0, none⟩) (i + 1) cp) (i + 1) (spsV acc ++ spsV [(bh + (d : Int), (s : Int))]) →
              (((V.setCell ⟨ab, 1, none⟩ (.slice (some ⟨g, 0, none⟩) (i + 1) cp)).cell? ⟨C, 0, none⟩ = some (.int .i64 (bh + (d : Int))) ∧ (V.setCell ⟨ab, 1, none⟩ (.slice (some ⟨g, 0, none⟩) (i + 1) cp)).cell? ⟨C, 1, none⟩ = some (.int .i64 (s : Int))) ∧ RdI w (V.setCell ⟨ab, 1, none⟩ (.slice (some ⟨g, 0, none⟩) (i + 1) cp)) rb ab z N a len cap bs R (i + 1) (bh + (d : Int) + (s : Int)) p4 e4 (acc ++ [(bh + (d : Int), (s : Int))]))) := fun g cp V hV hat hown => by
            have hA9 := HAB.out V hV
            have hCV : V.heap[C]? = _ := (hV.block C (lt_of_some hC7) (fun e => by have := (hOC C e.symm).2; omega)).trans hC7
            have hrV : V.heap[rb]? = _ := (hV.block rb (lt_of_some hr7) (fun e => by have := (hOC rb e.symm).1; have := HRB.out; omega)).trans hr7
            have hC9 : (V.setCell ⟨ab, 1, none⟩ (.slice (some ⟨g, 0, none⟩) (i + 1) cp)).heap[C]? = _ := (heap_setCell_other V _ _ _ (by show C ≠ ab; omega)).trans hCV
            have hg1 : ab + 1 ≤ g := by
              rcases hat with hat | hat
              · exact (hOC g hat).1
              · have := lt_of_some hA7; omega
            have hl9 : (acc ++ [(bh + (d : Int), (s : Int))]).length = i + 1 := by simp [HK.out.len]
            refine ⟨⟨by rw [cell_of_row _ C 0 _ _ _ hC9]; rfl, by rw [cell_of_row _ C 1 _ _ _ hC9]; rfl⟩, HK.out.step HNA.out HHT.out, ?_, HM4.out.2.2.2, HRS.out, ?_, some ⟨g, 0, none⟩, cp, ?_, ?_⟩
            · exact (heap_setCell_other V _ _ _ (by show rb ≠ ab; have := HRB.out; omega)).trans hrV
            · refine Upd.setCell (p := ⟨ab, 1, none⟩) ?_ (fun h9 => absurd h9 (by show ¬ ab < w.heap.size; have := HRB.out; omega)) _
              exact hu7.grown hV (fun k hk h9 => absurd h9 (by have := (hOC k hk).1; have := HRB.out; omega))
            · rw [heap_setCell_same V _ _ _ _ _ hA9]
              simp only [arC, hl9]
              rfl
            · rw [hl9, spsV_app]
              refine own_keep hown (fun x hx => ?_)
              cases hx
              exact heap_setCell_other V _ _ _ (by show g ≠ ab; omega)
          clear hA hO hC6 hOC hu6 hr6 hb5 hV6 h7 hA6 hA7 hC7 hr7 hu7 hO7 hC5
          obtain ⟨i0, hi0, hz0, hzs, hzb⟩ := info_parts info37
          go_wp2
          refine wp_region_held_drew (S := fun V => V.cell? ⟨C, 0, none⟩ = some (.int .i64 (bh + (d : Int))) ∧ V.cell? ⟨C, 1, none⟩ = some (.int .i64 (s : Int))) (by kernel_rfl) (⟨g0, g1⟩) (fun hHeld => ?_)
          refine wpAnyH_take (i := 0) (v := ?vg0) rfl (by kernel_rfl) (by kernel_rfl) (by kernel_rfl) (fun _ _ _ h => h) (Or.inl ⟨by first | kernel_rfl | rfl, ?yg0⟩) hHeld ?rg0
          case yg0 => (intro W hSW; (try dsimp only at hSW); go_simp; (try with_reducible rfl))
          change wpAnyH _ _ _ _ _ _ _ (Act.put _ (some 44) _) _
          simp only [Act.put, List.setIfInBounds_toArray, List.set_cons_zero, List.set_cons_succ]
          refine wpAnyH_take (i := 1) (v := ?vg1) rfl (by kernel_rfl) (by kernel_rfl) (by kernel_rfl) (fun _ _ _ h => h) (Or.inl ⟨by first | kernel_rfl | rfl, ?yg1⟩) hHeld ?rg1
          case yg1 => (intro W hSW; (try dsimp only at hSW); go_simp; (try with_reducible rfl))
          change wpAnyH _ _ _ _ _ _ _ (Act.put _ (some 45) _) _
          simp only [Act.put, List.setIfInBounds_toArray, List.set_cons_zero, List.set_cons_succ]
          refine wpAnyH_take (i := 2) (v := ?vg2) rfl (by kernel_rfl) (by kernel_rfl) (by kernel_rfl) (fun _ _ _ h => h) (Or.inl ⟨by first | kernel_rfl | rfl, ?yg2⟩) hHeld ?rg2
          case yg2 => (intro W hSW; (try dsimp only at hSW); go_simp; (try with_reducible rfl))
          change wpAnyH _ _ _ _ _ _ _ (Act.put _ (some 46) _) _
          simp only [Act.put, List.setIfInBounds_toArray, List.set_cons_zero, List.set_cons_succ]
          refine wpAnyH_take (i := 3) (v := ?vg3) rfl (by kernel_rfl) (by kernel_rfl) (by kernel_rfl) (fun _ _ _ h => h) (Or.inl ⟨by first | kernel_rfl | rfl, ?yg3⟩) hHeld ?rg3
          case yg3 => (intro W hSW; (try dsimp only at hSW); go_simp; (try with_reducible rfl))
          change wpAnyH _ _ _ _ _ _ _ (Act.put _ (some 47) _) _
          simp only [Act.put, List.setIfInBounds_toArray, List.set_cons_zero, List.set_cons_succ]
          refine wpAnyH_take (i := 5) (v := ?vg5) rfl (by kernel_rfl) (by kernel_rfl) (by kernel_rfl) (fun _ _ _ h => h) (Or.inl ⟨by first | kernel_rfl | rfl, ?yg5⟩) hHeld ?rg5
          case yg5 => (intro W hSW; (try dsimp only at hSW); go_simp; (try with_reducible rfl))
          change wpAnyH _ _ _ _ _ _ _ (Act.put _ (some 49) _) _
          simp only [Act.put, List.setIfInBounds_toArray, List.set_cons_zero, List.set_cons_succ]
          refine wpAnyH_ready (rs := [4, 6]) (by kernel_rfl) (by simp) ?_
          refine AllReadyH.cons rfl (fun K hK => ?_) (AllReadyH.cons rfl (fun K hK => ?_) AllReadyH.nil)
          · go_simp
            refine hK.out _ _ (hHeld) (fun hHeld => ?_)
            clear hK K
            try simp only [Act.put, List.setIfInBounds_toArray, List.set_cons_zero, List.set_cons_succ]
            refine wpAnyH_ready (rs := [6]) (by kernel_rfl) (by simp) ?_
            refine AllReadyH.cons rfl (fun K hK => ?_) AllReadyH.nil
            go_simp
            refine hK.out _ _ (⟨keepc hb7 hHeld.1, keepc hb7 hHeld.2⟩) (fun hHeld => ?_)
            clear hK K
            try simp only [Act.put, List.setIfInBounds_toArray, List.set_cons_zero, List.set_cons_succ]
            refine wpAnyH_ready (rs := [7]) (by kernel_rfl) (by simp) ?_
            refine AllReadyH.cons rfl (fun K hK => ?_) AllReadyH.nil
            rw [if_pos (by rfl)]
            refine wp_append_lies W7 _ _ 33 rfl (ab + 1) 37 i0 (.agg #[.int .i64 0, .int .i64 0]) 2 16 Try.underlying33 hi0 hz0 hzs hzb rfl (by decide) _ i (spsV acc) rfl H7.out.1 ⟨D, 0, none⟩ 1 1 (spsV [(bh + (d : Int), (s : Int))]) rfl rfl H7.out.2.1 (spsV_one _) (by omega) (by unfold maxLen; omega) (by omega) H7.out.2.2 _ rfl ?_
            intro g cp w7 hown hgrow hat hlt; have HGR : Hid (W7.grownBy w7 (ob ha) ∧ (ob ha = some g ∨ g = W7.heap.size) ∧ w7.ownsRow (ab + 1) 37 2 (.slice (some ⟨g, 0, none⟩) (i + 1) cp) (i + 1) (spsV acc ++ spsV [(bh + (d : Int), (s : Int))])) := ⟨by rw [← ob_slice ha i hc]; exact hgrow, by rw [← ob_slice ha i hc]; exact hat, hown⟩; clear hown hgrow hat hlt
            refine hK.out _ _ (HKG.out w7 HGR.out.1) (fun hHeld => ?_)
            clear hK K
            change wpAnyH _ _ _ _ _ _ _ (Act.put _ (some 51) _) _
            simp only [Act.put, List.setIfInBounds_toArray, List.set_cons_zero, List.set_cons_succ]
            have hA7 := HAB.out w7 HGR.out.1
            have f7 := frozen_of_row w7 ab 1 _ _ hA7
            have c7 : w7.cell? ⟨ab, 1, none⟩ = some (.slice ha i hc) := by rw [cell_of_row _ _ _ _ _ _ hA7]; rfl
            have HF := HFI.out g cp w7 HGR.out.1 HGR.out.2.1 HGR.out.2.2
            clear hA7 HGR
            obtain ⟨W9, hW9⟩ : ∃ W9, w7.setCell ⟨ab, 1, none⟩ (.slice (some ⟨g, 0, none⟩) (i + 1) cp) = W9 := ⟨_, rfl⟩
            rw [hW9] at HF
            have hg9 := HF.1
            have HF9 : Hid (RdI w W9 rb ab z N a len cap bs R (i + 1) (bh + (d : Int) + (s : Int)) p4 e4 (acc ++ [(bh + (d : Int), (s : Int))])) := HF.2
            clear HF
            refine wpAnyH_take (i := 8) (v := ?vga8) rfl (by kernel_rfl) (by kernel_rfl) (by kernel_rfl) (fun _ _ _ h => h) (Or.inl ⟨by first | kernel_rfl | rfl, ?yga8⟩) hHeld ?rga8
            case yga8 => (intro W hSW; (try dsimp only at hSW); go_simp; (try with_reducible rfl))
            change wpAnyH _ _ _ _ _ _ _ (Act.put _ (some 52) _) _
            simp only [Act.put, List.setIfInBounds_toArray, List.set_cons_zero, List.set_cons_succ]
            refine wpAnyH_take (i := 9) (v := ?vga9) rfl (by kernel_rfl) (by kernel_rfl) (by kernel_rfl) (fun _ _ _ h => h) (Or.inl ⟨by first | kernel_rfl | rfl, ?yga9⟩) hHeld ?rga9
            case yga9 => (intro W hSW; (try dsimp only at hSW); go_simp; (try with_reducible rfl))
            change wpAnyH _ _ _ _ _ _ _ (Act.put _ (some 53) _) _
            simp only [Act.put, List.setIfInBounds_toArray, List.set_cons_zero, List.set_cons_succ]
            refine wpAnyH_ready (rs := [10]) (by kernel_rfl) (by simp) ?_
            refine AllReadyH.cons rfl (fun K hK => ?_) AllReadyH.nil
            go_simp
            refine hK.out _ _ (hg9) (fun hHeld => ?_)
            clear hK K
            refine wpAnyH_done (by kernel_rfl) ?_ _
            clear f7 c7
            have y1 := hHeld.1
            have y2 := hHeld.2
            clear hHeld hg9
            go_wp2_with fail
            refine (HEN.out _).mono ?_
            rintro e V10 ⟨rfl, hV10⟩
            have HF10 : Hid (RdI w V10 rb ab z N a len cap bs R (i + 1) (bh + (d : Int) + (s : Int)) p4 e4 (acc ++ [(bh + (d : Int), (s : Int))])) := HF9.out.below hV10
            clear hV10 y1 y2
            go_wp2
            exact ⟨⟨i + 1, bh + (d : Int) + (s : Int), p4, e4, _, by omega, by go_num, rfl, HF10.out⟩, by simp [intOf]; omega⟩
          · go_simp
            refine hK.out _ _ (⟨keepc hb7 hHeld.1, keepc hb7 hHeld.2⟩) (fun hHeld => ?_)
            clear hK K
            try simp only [Act.put, List.setIfInBounds_toArray, List.set_cons_zero, List.set_cons_succ]
            refine wpAnyH_ready (rs := [4]) (by kernel_rfl) (by simp) ?_
            refine AllReadyH.cons rfl (fun K hK => ?_) AllReadyH.nil
            go_simp
            refine hK.out _ _ (hHeld) (fun hHeld => ?_)
            clear hK K
            try simp only [Act.put, List.setIfInBounds_toArray, List.set_cons_zero, List.set_cons_succ]
            refine wpAnyH_ready (rs := [7]) (by kernel_rfl) (by simp) ?_
            refine AllReadyH.cons rfl (fun K hK => ?_) AllReadyH.nil
            rw [if_pos (by rfl)]
            refine wp_append_lies W7 _ _ 33 rfl (ab + 1) 37 i0 (.agg #[.int .i64 0, .int .i64 0]) 2 16 Try.underlying33 hi0 hz0 hzs hzb rfl (by decide) _ i (spsV acc) rfl H7.out.1 ⟨D, 0, none⟩ 1 1 (spsV [(bh + (d : Int), (s : Int))]) rfl rfl H7.out.2.1 (spsV_one _) (by omega) (by unfold maxLen; omega) (by omega) H7.out.2.2 _ rfl ?_
            intro g cp w7 hown hgrow hat hlt; have HGR : Hid (W7.grownBy w7 (ob ha) ∧ (ob ha = some g ∨ g = W7.heap.size) ∧ w7.ownsRow (ab + 1) 37 2 (.slice (some ⟨g, 0, none⟩) (i + 1) cp) (i + 1) (spsV acc ++ spsV [(bh + (d : Int), (s : Int))])) := ⟨by rw [← ob_slice ha i hc]; exact hgrow, by rw [← ob_slice ha i hc]; exact hat, hown⟩; clear hown hgrow hat hlt
            refine hK.out _ _ (HKG.out w7 HGR.out.1) (fun hHeld => ?_)
            clear hK K
            change wpAnyH _ _ _ _ _ _ _ (Act.put _ (some 51) _) _
            simp only [Act.put, List.setIfInBounds_toArray, List.set_cons_zero, List.set_cons_succ]
            have hA7 := HAB.out w7 HGR.out.1
            have f7 := frozen_of_row w7 ab 1 _ _ hA7
            have c7 : w7.cell? ⟨ab, 1, none⟩ = some (.slice ha i hc) := by rw [cell_of_row _ _ _ _ _ _ hA7]; rfl
            have HF := HFI.out g cp w7 HGR.out.1 HGR.out.2.1 HGR.out.2.2
            clear hA7 HGR
            obtain ⟨W9, hW9⟩ : ∃ W9, w7.setCell ⟨ab, 1, none⟩ (.slice (some ⟨g, 0, none⟩) (i + 1) cp) = W9 := ⟨_, rfl⟩
            rw [hW9] at HF
            have hg9 := HF.1
            have HF9 : Hid (RdI w W9 rb ab z N a len cap bs R (i + 1) (bh + (d : Int) + (s : Int)) p4 e4 (acc ++ [(bh + (d : Int), (s : Int))])) := HF.2
            clear HF
            refine wpAnyH_take (i := 8) (v := ?vgb8) rfl (by kernel_rfl) (by kernel_rfl) (by kernel_rfl) (fun _ _ _ h => h) (Or.inl ⟨by first | kernel_rfl | rfl, ?ygb8⟩) hHeld ?rgb8
            case ygb8 => (intro W hSW; (try dsimp only at hSW); go_simp; (try with_reducible rfl))
            change wpAnyH _ _ _ _ _ _ _ (Act.put _ (some 52) _) _
            simp only [Act.put, List.setIfInBounds_toArray, List.set_cons_zero, List.set_cons_succ]
            refine wpAnyH_take (i := 9) (v := ?vgb9) rfl (by kernel_rfl) (by kernel_rfl) (by kernel_rfl) (fun _ _ _ h => h) (Or.inl ⟨by first | kernel_rfl | rfl, ?ygb9⟩) hHeld ?rgb9
            case ygb9 => (intro W hSW; (try dsimp only at hSW); go_simp; (try with_reducible rfl))
            change wpAnyH _ _ _ _ _ _ _ (Act.put _ (some 53) _) _
            simp only [Act.put, List.setIfInBounds_toArray, List.set_cons_zero, List.set_cons_succ]
            refine wpAnyH_ready (rs := [10]) (by kernel_rfl) (by simp) ?_
            refine AllReadyH.cons rfl (fun K hK => ?_) AllReadyH.nil
            go_simp
            refine hK.out _ _ (hg9) (fun hHeld => ?_)
            clear hK K
            refine wpAnyH_done (by kernel_rfl) ?_ _
            clear f7 c7
            have y1 := hHeld.1
            have y2 := hHeld.2
            clear hHeld hg9
            go_wp2_with fail
            refine (HEN.out _).mono ?_
            rintro e V10 ⟨rfl, hV10⟩
            have HF10 : Hid (RdI w V10 rb ab z N a len cap bs R (i + 1) (bh + (d : Int) + (s : Int)) p4 e4 (acc ++ [(bh + (d : Int), (s : Int))])) := HF9.out.below hV10
            clear hV10 y1 y2
            go_wp2
            exact ⟨⟨i + 1, bh + (d : Int) + (s : Int), p4, e4, _, by omega, by go_num, rfl, HF10.out⟩, by simp [intOf]; omega⟩
      · have ki0 : (0 : Int) < (i : Int) := by omega
        have kd0 : ¬ (d : Int) = 0 := by omega
        have kdb : ((d : Int) == 0) = false := by simpa using kd0
        clear hA
        cases hhb : Ar.has ⟨z, [], 0⟩ (bh + (d : Int), (s : Int)) with
        | false =>
          have HHS := hasq_any (bh + (d : Int)) (s : Int) (z : Int) ab W5 ⟨by omega, by omega⟩ c5
          have hh2 : (decide (0 ≤ bh + (d : Int)) && decide (1 ≤ (s : Int)) && decide (bh + (d : Int) ≤ (z : Int)) && decide ((s : Int) ≤ (z : Int) - (bh + (d : Int)))) = false := hhb
          rw [hh2] at HHS
          have HNO := HNR.out (.inr hhb)
          clear hh2 hhb
          go_wp2_with fail
          refine HHS.mono ?_
          rintro e V6 ⟨rfl, hV6⟩
          have HX := HNO V6 (hb5.trans (hV6.mono hb5.size))
          have HXX : Hid (RdTo w V6 rb a len cap bs (.returned (.tuple #[.pointer none, .bool false]))) := HX
          clear HHS HNO HX hV6 hb5 hC5
          go_wp2
          go_ret2
          exact HXX.out
        | true =>
          have HHS := hasq_any (bh + (d : Int)) (s : Int) (z : Int) ab W5 ⟨by omega, by omega⟩ c5
          have hh2 : (decide (0 ≤ bh + (d : Int)) && decide (1 ≤ (s : Int)) && decide (bh + (d : Int) ≤ (z : Int)) && decide ((s : Int) ≤ (z : Int) - (bh + (d : Int)))) = true := hhb
          rw [hh2] at HHS
          have HHT : Hid (Ar.has ⟨z, [], 0⟩ (bh + (d : Int), (s : Int)) = true) := hhb
          have hbz := (Ar.has_iff ⟨z, [], 0⟩ (bh + (d : Int), (s : Int))).1 hhb
          simp only at hbz
          have HEN : Hid (∀ V, Calls Try.prog 37 #[.agg #[.int .i64 (bh + (d : Int)), .int .i64 (s : Int)]] V fun e w' => e = .returned (.int .i64 (bh + (d : Int) + (s : Int))) ∧ Below V.heap.size V w') := fun V => end_any _ _ V ⟨by omega, by omega⟩
          have HRS : Hid (rdL bs z (N - (i + 1)) (i + 1) (bh + (d : Int) + (s : Int)) p4 e4 (acc ++ [(bh + (d : Int), (s : Int))]) = R) := HST.out HNA.out hhb
          clear hh2 hhb hbz
          go_wp2_with fail
          refine HHS.mono ?_
          rintro e V6 ⟨rfl, hV6⟩
          clear HHS
          obtain ⟨ha, hc, hA, hO⟩ := (HM4.out.1.upd (Upd.of_below (S := fun _ => False) hb5) (fun _ f => f.elim)).upd (Upd.of_below (S := fun _ => False) hV6) (fun _ f => f.elim)
          rw [HK.out.len] at hO
          have hC6 : V6.heap[C]? = some (.cells #[.int .i64 (bh + (d : Int)), .int .i64 (s : Int)] 37 (0, 0)) := (hV6.block C (lt_of_some hC5)).trans hC5
          have hCr : ab < C := by rw [← hC]; obtain ⟨_, _, h9, _⟩ := HM4.out.1; exact lt_of_some h9
          have hOC : ∀ x, ob ha = some x → ab + 1 ≤ x ∧ x < C := fun x hx => by
            obtain ⟨ha', hc', h9, h10⟩ := HM4.out.1
            have e9 : V6.heap[ab]? = V4.heap[ab]? := (hV6.block ab (by have := hb5.size; have := lt_of_some h9; omega)).trans (hb5.block ab (lt_of_some h9))
            rw [h9, hA] at e9
            simp only [arC, Option.some.injEq, Obj.cells.injEq, Array.mk.injEq, List.cons.injEq, Value.slice.injEq] at e9
            obtain ⟨⟨_, ⟨e10, _⟩, _⟩, _⟩ := e9
            subst e10
            have h11 := h10.lt x (by rw [ob_slice]; exact hx)
            rw [hC] at h11
            exact h11
          have hu6 : Upd (fun x => x = rb) w V6 := (HM4.out.2.2.1.trans (Upd.of_below (S := fun _ => False) hb5) (fun _ f _ => f.elim)).trans (Upd.of_below (S := fun _ => False) hV6) (fun _ f _ => f.elim)
          have hr6 : V6.heap[rb]? = some (rdR a len cap p4 e4) := (hV6.block rb (by have := hb5.size; have := lt_of_some HM4.out.2.1; omega)).trans ((hb5.block rb (lt_of_some HM4.out.2.1)).trans HM4.out.2.1)
          obtain ⟨D, hD⟩ : ∃ D, V6.drew.heap.size = D := ⟨_, rfl⟩
          obtain ⟨W7, hW7⟩ : ∃ W7, V6.drew.alloc (.cells #[.int .i64 (bh + (d : Int)), .int .i64 (s : Int)] 37) = W7 := ⟨_, rfl⟩
          have hb7 : Below V6.drew.heap.size V6.drew W7 := by rw [← hW7]; exact (Below.refl _ _).alloc (Nat.le_refl _) _
          have h7 : Blk W7 D (spsV [(bh + (d : Int), (s : Int))]) := by rw [spsV_one1]; unfold Blk; rw [← hW7, ← hD]; exact heap_alloc_new _ _
          have hA6 : V6.drew.heap[ab]? = some (.cells (arC ⟨z, acc, 0⟩ ha hc) 66 (0, 0)) := hA
          have hA7 : W7.heap[ab]? = some (.cells (arC ⟨z, acc, 0⟩ ha hc) 66 (0, 0)) := (hb7.block ab (lt_of_some hA6)).trans hA6
          have x1 : V6.drew.cell? ⟨ab, 1, none⟩ = some (.slice ha i hc) := by rw [cell_of_row _ _ _ _ _ _ hA6, ← HK.out.len]; rfl
          have x7 : W7.cell? ⟨ab, 1, none⟩ = some (.slice ha i hc) := by rw [cell_of_row _ _ _ _ _ _ hA7, ← HK.out.len]; rfl
          have g0 : V6.drew.cell? ⟨C, 0, none⟩ = some (.int .i64 (bh + (d : Int))) := by rw [cell_of_row V6.drew C 0 _ _ _ hC6]; rfl
          have g1 : V6.drew.cell? ⟨C, 1, none⟩ = some (.int .i64 (s : Int)) := by rw [cell_of_row V6.drew C 1 _ _ _ hC6]; rfl
          have hC7 : W7.heap[C]? = some (.cells #[.int .i64 (bh + (d : Int)), .int .i64 (s : Int)] 37 (0, 0)) := (hb7.block C (lt_of_some hC6)).trans hC6
          have hr7 : W7.heap[rb]? = some (rdR a len cap p4 e4) := (hb7.block rb (lt_of_some hr6)).trans hr6
          have hu7 : Upd (fun x => x = rb) w W7 := hu6.drew.trans (Upd.of_below (S := fun _ => False) hb7) (fun _ f _ => f.elim)
          have hO7 : W7.ownsRow (ab + 1) 37 2 (.slice ha i hc) i (spsV acc) := own_keep hO (fun x hx => hb7.block x (hO.lt x hx).2)
          have H7 : Hid (W7.ownsRow (ab + 1) 37 2 (.slice ha i hc) i (spsV acc) ∧ (∀ j u, (spsV [(bh + (d : Int), (s : Int))])[j]? = some u → W7.cell? ((⟨D, 0, none⟩ : Addr).add j) = some u) ∧ ab + 1 ≤ W7.heap.size) := ⟨hO7, cells_two h7, by have := lt_of_some hA7; omega⟩
          have HKG : Hid (∀ V, W7.grownBy V (ob ha) → V.cell? ⟨C, 0, none⟩ = some (.int .i64 (bh + (d : Int))) ∧ V.cell? ⟨C, 1, none⟩ = some (.int .i64 (s : Int))) := fun V hV => by
            have h9 : V.heap[C]? = _ := (hV.block C (lt_of_some hC7) (fun e => by have := (hOC C e.symm).2; omega)).trans hC7
            exact ⟨by rw [cell_of_row V C 0 _ _ _ h9]; rfl, by rw [cell_of_row V C 1 _ _ _ h9]; rfl⟩
          have HAB : Hid (∀ V, W7.grownBy V (ob ha) → V.heap[ab]? = some (.cells #[.int .i64 (z : Int), .slice ha i hc, .int .i64 0] 66 (0, 0))) := fun V hV => by
            rw [hV.block ab (lt_of_some hA7) (fun e => by have := (hOC ab e.symm).1; omega), hA7, ← HK.out.len]; rfl
          have HFI : Hid (∀ g cp V, W7.grownBy V (ob ha) → (ob ha = some g ∨ g = W7.heap.size) → V.ownsRow (ab + 1) 37 2 (.slice (some ⟨g, 0, none⟩) (i + 1) cp) (i + 1) (spsV acc ++ spsV [(bh + (d : Int), (s : Int))]) →
              (((V.setCell ⟨ab, 1, none⟩ (.slice (some ⟨g, 0, none⟩) (i + 1) cp)).cell? ⟨C, 0, none⟩ = some (.int .i64 (bh + (d : Int))) ∧ (V.setCell ⟨ab, 1, none⟩ (.slice (some ⟨g, 0, none⟩) (i + 1) cp)).cell? ⟨C, 1, none⟩ = some (.int .i64 (s : Int))) ∧ RdI w (V.setCell ⟨ab, 1, none⟩ (.slice (some ⟨g, 0, none⟩) (i + 1) cp)) rb ab z N a len cap bs R (i + 1) (bh + (d : Int) + (s : Int)) p4 e4 (acc ++ [(bh + (d : Int), (s : Int))]))) := fun g cp V hV hat hown => by
            have hA9 := HAB.out V hV
            have hCV : V.heap[C]? = _ := (hV.block C (lt_of_some hC7) (fun e => by have := (hOC C e.symm).2; omega)).trans hC7
            have hrV : V.heap[rb]? = _ := (hV.block rb (lt_of_some hr7) (fun e => by have := (hOC rb e.symm).1; have := HRB.out; omega)).trans hr7
            have hC9 : (V.setCell ⟨ab, 1, none⟩ (.slice (some ⟨g, 0, none⟩) (i + 1) cp)).heap[C]? = _ := (heap_setCell_other V _ _ _ (by show C ≠ ab; omega)).trans hCV
            have hg1 : ab + 1 ≤ g := by
              rcases hat with hat | hat
              · exact (hOC g hat).1
              · have := lt_of_some hA7; omega
            have hl9 : (acc ++ [(bh + (d : Int), (s : Int))]).length = i + 1 := by simp [HK.out.len]
            refine ⟨⟨by rw [cell_of_row _ C 0 _ _ _ hC9]; rfl, by rw [cell_of_row _ C 1 _ _ _ hC9]; rfl⟩, HK.out.step HNA.out HHT.out, ?_, HM4.out.2.2.2, HRS.out, ?_, some ⟨g, 0, none⟩, cp, ?_, ?_⟩
            · exact (heap_setCell_other V _ _ _ (by show rb ≠ ab; have := HRB.out; omega)).trans hrV
            · refine Upd.setCell (p := ⟨ab, 1, none⟩) ?_ (fun h9 => absurd h9 (by show ¬ ab < w.heap.size; have := HRB.out; omega)) _
              exact hu7.grown hV (fun k hk h9 => absurd h9 (by have := (hOC k hk).1; have := HRB.out; omega))
            · rw [heap_setCell_same V _ _ _ _ _ hA9]
              simp only [arC, hl9]
              rfl
            · rw [hl9, spsV_app]
              refine own_keep hown (fun x hx => ?_)
              cases hx
              exact heap_setCell_other V _ _ _ (by show g ≠ ab; omega)
          clear hA hO hC6 hOC hu6 hr6 hb5 hV6 h7 hA6 hA7 hC7 hr7 hu7 hO7 hC5
          obtain ⟨i0, hi0, hz0, hzs, hzb⟩ := info_parts info37
          go_wp2
          refine wp_region_held_drew (S := fun V => V.cell? ⟨C, 0, none⟩ = some (.int .i64 (bh + (d : Int))) ∧ V.cell? ⟨C, 1, none⟩ = some (.int .i64 (s : Int))) (by kernel_rfl) (⟨g0, g1⟩) (fun hHeld => ?_)
          refine wpAnyH_take (i := 0) (v := ?vq0) rfl (by kernel_rfl) (by kernel_rfl) (by kernel_rfl) (fun _ _ _ h => h) (Or.inl ⟨by first | kernel_rfl | rfl, ?yq0⟩) hHeld ?rq0
          case yq0 => (intro W hSW; (try dsimp only at hSW); go_simp; (try with_reducible rfl))
          change wpAnyH _ _ _ _ _ _ _ (Act.put _ (some 44) _) _
          simp only [Act.put, List.setIfInBounds_toArray, List.set_cons_zero, List.set_cons_succ]
          refine wpAnyH_take (i := 1) (v := ?vq1) rfl (by kernel_rfl) (by kernel_rfl) (by kernel_rfl) (fun _ _ _ h => h) (Or.inl ⟨by first | kernel_rfl | rfl, ?yq1⟩) hHeld ?rq1
          case yq1 => (intro W hSW; (try dsimp only at hSW); go_simp; (try with_reducible rfl))
          change wpAnyH _ _ _ _ _ _ _ (Act.put _ (some 45) _) _
          simp only [Act.put, List.setIfInBounds_toArray, List.set_cons_zero, List.set_cons_succ]
          refine wpAnyH_take (i := 2) (v := ?vq2) rfl (by kernel_rfl) (by kernel_rfl) (by kernel_rfl) (fun _ _ _ h => h) (Or.inl ⟨by first | kernel_rfl | rfl, ?yq2⟩) hHeld ?rq2
          case yq2 => (intro W hSW; (try dsimp only at hSW); go_simp; (try with_reducible rfl))
          change wpAnyH _ _ _ _ _ _ _ (Act.put _ (some 46) _) _
          simp only [Act.put, List.setIfInBounds_toArray, List.set_cons_zero, List.set_cons_succ]
          refine wpAnyH_take (i := 3) (v := ?vq3) rfl (by kernel_rfl) (by kernel_rfl) (by kernel_rfl) (fun _ _ _ h => h) (Or.inl ⟨by first | kernel_rfl | rfl, ?yq3⟩) hHeld ?rq3
          case yq3 => (intro W hSW; (try dsimp only at hSW); go_simp; (try with_reducible rfl))
          change wpAnyH _ _ _ _ _ _ _ (Act.put _ (some 47) _) _
          simp only [Act.put, List.setIfInBounds_toArray, List.set_cons_zero, List.set_cons_succ]
          refine wpAnyH_take (i := 5) (v := ?vq5) rfl (by kernel_rfl) (by kernel_rfl) (by kernel_rfl) (fun _ _ _ h => h) (Or.inl ⟨by first | kernel_rfl | rfl, ?yq5⟩) hHeld ?rq5
          case yq5 => (intro W hSW; (try dsimp only at hSW); go_simp; (try with_reducible rfl))
          change wpAnyH _ _ _ _ _ _ _ (Act.put _ (some 49) _) _
          simp only [Act.put, List.setIfInBounds_toArray, List.set_cons_zero, List.set_cons_succ]
          refine wpAnyH_ready (rs := [4, 6]) (by kernel_rfl) (by simp) ?_
          refine AllReadyH.cons rfl (fun K hK => ?_) (AllReadyH.cons rfl (fun K hK => ?_) AllReadyH.nil)
          · go_simp
            refine hK.out _ _ (hHeld) (fun hHeld => ?_)
            clear hK K
            try simp only [Act.put, List.setIfInBounds_toArray, List.set_cons_zero, List.set_cons_succ]
            refine wpAnyH_ready (rs := [6]) (by kernel_rfl) (by simp) ?_
            refine AllReadyH.cons rfl (fun K hK => ?_) AllReadyH.nil
            go_simp
            refine hK.out _ _ (⟨keepc hb7 hHeld.1, keepc hb7 hHeld.2⟩) (fun hHeld => ?_)
            clear hK K
            try simp only [Act.put, List.setIfInBounds_toArray, List.set_cons_zero, List.set_cons_succ]
            refine wpAnyH_ready (rs := [7]) (by kernel_rfl) (by simp) ?_
            refine AllReadyH.cons rfl (fun K hK => ?_) AllReadyH.nil
            rw [if_pos (by rfl)]
            refine wp_append_lies W7 _ _ 33 rfl (ab + 1) 37 i0 (.agg #[.int .i64 0, .int .i64 0]) 2 16 Try.underlying33 hi0 hz0 hzs hzb rfl (by decide) _ i (spsV acc) rfl H7.out.1 ⟨D, 0, none⟩ 1 1 (spsV [(bh + (d : Int), (s : Int))]) rfl rfl H7.out.2.1 (spsV_one _) (by omega) (by unfold maxLen; omega) (by omega) H7.out.2.2 _ rfl ?_
            intro g cp w7 hown hgrow hat hlt; have HGR : Hid (W7.grownBy w7 (ob ha) ∧ (ob ha = some g ∨ g = W7.heap.size) ∧ w7.ownsRow (ab + 1) 37 2 (.slice (some ⟨g, 0, none⟩) (i + 1) cp) (i + 1) (spsV acc ++ spsV [(bh + (d : Int), (s : Int))])) := ⟨by rw [← ob_slice ha i hc]; exact hgrow, by rw [← ob_slice ha i hc]; exact hat, hown⟩; clear hown hgrow hat hlt
            refine hK.out _ _ (HKG.out w7 HGR.out.1) (fun hHeld => ?_)
            clear hK K
            change wpAnyH _ _ _ _ _ _ _ (Act.put _ (some 51) _) _
            simp only [Act.put, List.setIfInBounds_toArray, List.set_cons_zero, List.set_cons_succ]
            have hA7 := HAB.out w7 HGR.out.1
            have f7 := frozen_of_row w7 ab 1 _ _ hA7
            have c7 : w7.cell? ⟨ab, 1, none⟩ = some (.slice ha i hc) := by rw [cell_of_row _ _ _ _ _ _ hA7]; rfl
            have HF := HFI.out g cp w7 HGR.out.1 HGR.out.2.1 HGR.out.2.2
            clear hA7 HGR
            obtain ⟨W9, hW9⟩ : ∃ W9, w7.setCell ⟨ab, 1, none⟩ (.slice (some ⟨g, 0, none⟩) (i + 1) cp) = W9 := ⟨_, rfl⟩
            rw [hW9] at HF
            have hg9 := HF.1
            have HF9 : Hid (RdI w W9 rb ab z N a len cap bs R (i + 1) (bh + (d : Int) + (s : Int)) p4 e4 (acc ++ [(bh + (d : Int), (s : Int))])) := HF.2
            clear HF
            refine wpAnyH_take (i := 8) (v := ?vqa8) rfl (by kernel_rfl) (by kernel_rfl) (by kernel_rfl) (fun _ _ _ h => h) (Or.inl ⟨by first | kernel_rfl | rfl, ?yqa8⟩) hHeld ?rqa8
            case yqa8 => (intro W hSW; (try dsimp only at hSW); go_simp; (try with_reducible rfl))
            change wpAnyH _ _ _ _ _ _ _ (Act.put _ (some 52) _) _
            simp only [Act.put, List.setIfInBounds_toArray, List.set_cons_zero, List.set_cons_succ]
            refine wpAnyH_take (i := 9) (v := ?vqa9) rfl (by kernel_rfl) (by kernel_rfl) (by kernel_rfl) (fun _ _ _ h => h) (Or.inl ⟨by first | kernel_rfl | rfl, ?yqa9⟩) hHeld ?rqa9
            case yqa9 => (intro W hSW; (try dsimp only at hSW); go_simp; (try with_reducible rfl))
            change wpAnyH _ _ _ _ _ _ _ (Act.put _ (some 53) _) _
            simp only [Act.put, List.setIfInBounds_toArray, List.set_cons_zero, List.set_cons_succ]
            refine wpAnyH_ready (rs := [10]) (by kernel_rfl) (by simp) ?_
            refine AllReadyH.cons rfl (fun K hK => ?_) AllReadyH.nil
            go_simp
            refine hK.out _ _ (hg9) (fun hHeld => ?_)
            clear hK K
            refine wpAnyH_done (by kernel_rfl) ?_ _
            clear f7 c7
            have y1 := hHeld.1
            have y2 := hHeld.2
            clear hHeld hg9
            go_wp2_with fail
            refine (HEN.out _).mono ?_
            rintro e V10 ⟨rfl, hV10⟩
            have HF10 : Hid (RdI w V10 rb ab z N a len cap bs R (i + 1) (bh + (d : Int) + (s : Int)) p4 e4 (acc ++ [(bh + (d : Int), (s : Int))])) := HF9.out.below hV10
            clear hV10 y1 y2
            go_wp2
            exact ⟨⟨i + 1, bh + (d : Int) + (s : Int), p4, e4, _, by omega, by go_num, rfl, HF10.out⟩, by simp [intOf]; omega⟩
          · go_simp
            refine hK.out _ _ (⟨keepc hb7 hHeld.1, keepc hb7 hHeld.2⟩) (fun hHeld => ?_)
            clear hK K
            try simp only [Act.put, List.setIfInBounds_toArray, List.set_cons_zero, List.set_cons_succ]
            refine wpAnyH_ready (rs := [4]) (by kernel_rfl) (by simp) ?_
            refine AllReadyH.cons rfl (fun K hK => ?_) AllReadyH.nil
            go_simp
            refine hK.out _ _ (hHeld) (fun hHeld => ?_)
            clear hK K
            try simp only [Act.put, List.setIfInBounds_toArray, List.set_cons_zero, List.set_cons_succ]
            refine wpAnyH_ready (rs := [7]) (by kernel_rfl) (by simp) ?_
            refine AllReadyH.cons rfl (fun K hK => ?_) AllReadyH.nil
            rw [if_pos (by rfl)]
            refine wp_append_lies W7 _ _ 33 rfl (ab + 1) 37 i0 (.agg #[.int .i64 0, .int .i64 0]) 2 16 Try.underlying33 hi0 hz0 hzs hzb rfl (by decide) _ i (spsV acc) rfl H7.out.1 ⟨D, 0, none⟩ 1 1 (spsV [(bh + (d : Int), (s : Int))]) rfl rfl H7.out.2.1 (spsV_one _) (by omega) (by unfold maxLen; omega) (by omega) H7.out.2.2 _ rfl ?_
            intro g cp w7 hown hgrow hat hlt; have HGR : Hid (W7.grownBy w7 (ob ha) ∧ (ob ha = some g ∨ g = W7.heap.size) ∧ w7.ownsRow (ab + 1) 37 2 (.slice (some ⟨g, 0, none⟩) (i + 1) cp) (i + 1) (spsV acc ++ spsV [(bh + (d : Int), (s : Int))])) := ⟨by rw [← ob_slice ha i hc]; exact hgrow, by rw [← ob_slice ha i hc]; exact hat, hown⟩; clear hown hgrow hat hlt
            refine hK.out _ _ (HKG.out w7 HGR.out.1) (fun hHeld => ?_)
            clear hK K
            change wpAnyH _ _ _ _ _ _ _ (Act.put _ (some 51) _) _
            simp only [Act.put, List.setIfInBounds_toArray, List.set_cons_zero, List.set_cons_succ]
            have hA7 := HAB.out w7 HGR.out.1
            have f7 := frozen_of_row w7 ab 1 _ _ hA7
            have c7 : w7.cell? ⟨ab, 1, none⟩ = some (.slice ha i hc) := by rw [cell_of_row _ _ _ _ _ _ hA7]; rfl
            have HF := HFI.out g cp w7 HGR.out.1 HGR.out.2.1 HGR.out.2.2
            clear hA7 HGR
            obtain ⟨W9, hW9⟩ : ∃ W9, w7.setCell ⟨ab, 1, none⟩ (.slice (some ⟨g, 0, none⟩) (i + 1) cp) = W9 := ⟨_, rfl⟩
            rw [hW9] at HF
            have hg9 := HF.1
            have HF9 : Hid (RdI w W9 rb ab z N a len cap bs R (i + 1) (bh + (d : Int) + (s : Int)) p4 e4 (acc ++ [(bh + (d : Int), (s : Int))])) := HF.2
            clear HF
            refine wpAnyH_take (i := 8) (v := ?vqb8) rfl (by kernel_rfl) (by kernel_rfl) (by kernel_rfl) (fun _ _ _ h => h) (Or.inl ⟨by first | kernel_rfl | rfl, ?yqb8⟩) hHeld ?rqb8
            case yqb8 => (intro W hSW; (try dsimp only at hSW); go_simp; (try with_reducible rfl))
            change wpAnyH _ _ _ _ _ _ _ (Act.put _ (some 52) _) _
            simp only [Act.put, List.setIfInBounds_toArray, List.set_cons_zero, List.set_cons_succ]
            refine wpAnyH_take (i := 9) (v := ?vqb9) rfl (by kernel_rfl) (by kernel_rfl) (by kernel_rfl) (fun _ _ _ h => h) (Or.inl ⟨by first | kernel_rfl | rfl, ?yqb9⟩) hHeld ?rqb9
            case yqb9 => (intro W hSW; (try dsimp only at hSW); go_simp; (try with_reducible rfl))
            change wpAnyH _ _ _ _ _ _ _ (Act.put _ (some 53) _) _
            simp only [Act.put, List.setIfInBounds_toArray, List.set_cons_zero, List.set_cons_succ]
            refine wpAnyH_ready (rs := [10]) (by kernel_rfl) (by simp) ?_
            refine AllReadyH.cons rfl (fun K hK => ?_) AllReadyH.nil
            go_simp
            refine hK.out _ _ (hg9) (fun hHeld => ?_)
            clear hK K
            refine wpAnyH_done (by kernel_rfl) ?_ _
            clear f7 c7
            have y1 := hHeld.1
            have y2 := hHeld.2
            clear hHeld hg9
            go_wp2_with fail
            refine (HEN.out _).mono ?_
            rintro e V10 ⟨rfl, hV10⟩
            have HF10 : Hid (RdI w V10 rb ab z N a len cap bs R (i + 1) (bh + (d : Int) + (s : Int)) p4 e4 (acc ++ [(bh + (d : Int), (s : Int))])) := HF9.out.below hV10
            clear hV10 y1 y2
            go_wp2
            exact ⟨⟨i + 1, bh + (d : Int) + (s : Int), p4, e4, _, by omega, by go_num, rfl, HF10.out⟩, by simp [intOf]; omega⟩
    · obtain rfl : i = N := by omega
      have kk : ¬ (i : Int) < (i : Int) := by omega
      have hres := hI.res
      rw [Nat.sub_self, rdL] at hres
      obtain ⟨ha, hc, hA, hO⟩ := hI.ar
      have HX : Hid (RdTo w wr rb a len cap bs (.returned (.tuple #[.pointer (some ⟨ab, 0, none⟩), .bool true]))) :=
        ⟨some (z, acc), p, e, rdA_some HZ.out.1 HZZ.out HZ.out.2 (HRR.out.trans hres.symm), hI.r, hI.u, ab, rfl, ha, hc, hI.ok.ok HZZ.out.1 HZZ.out.2, hA, own_base hO (Nat.zero_le _), fun x hx e => by
          have := (hO.lt x (by rw [ob_slice]; exact hx)).1; omega, ⟨HRB.out.2.1, lt_of_some hA⟩, fun x hx => by
          have := hO.lt x (by rw [ob_slice]; exact hx); have := HRB.out.2.1; exact ⟨by omega, by omega⟩, fun x hx => hx.2⟩
      clear hres hI hA hO
      go_wp2
      go_ret2
      exact HX.out
end Go.Proofs.Ytgihdfmeokbplaa
