/- Walk over Plan. -/
import Derived.Test.YtgihdfmeokbplaaPM
namespace Go.Proofs.Ytgihdfmeokbplaa
open Go.RowKit Ex
set_option maxRecDepth 100000 in
set_option maxHeartbeats 4000000 in
theorem plan_has {w : World} {S : Nat → Prop} {ab : Nat} {X : Ar} (h : AIs w S ab X) {a : Option Addr} {n c : Nat} {l : List Sp} (hl : SpW w a n c l) (hn : n ≤ 1000000)
    (HNIL : Hid (∀ (V : World), Calls Try.prog 45 #[.slice none 0 0, .func (.func 46) #[] #[]] V fun e w' => e = .returned (.tuple #[]) ∧ w' = V)) :
    Calls Try.prog 20 #[.pointer (some ⟨ab, 0, none⟩), .slice a n c] w fun e w' => PlanTo w w' X l e := by
  have HA : Hid (AIs w S ab X) := h
  have HL : Hid (SpW w a n c l) := hl
  have hcp := hl.hcp
  have hmx := hl.hmx
  clear h hl
  go_enter Try.func20, Try.ntmps20
  go_wp2
  go_loopw [15] (fun v15 wr => ∃ k : Nat, k ≤ n ∧ v15 = .int .i64 (k : Int) ∧ (∀ j q, j < k → l[j]? = some q → X.has q = true) ∧ Below w.heap.size w wr) (fun v _ => n - (intOf v).toNat)
  case atStart => exact ⟨0, by omega, rfl, fun j q hj => absurd hj (by omega), Below.refl _ _⟩
  case round =>
    obtain ⟨k, hk, rfl, hall, hbel⟩ := hrel
    by_cases hlt : k < n
    · have kk : (k : Int) < (n : Int) := by omega
      have hsp := HL.out.below hbel
      obtain ⟨b, o, rfl, hb, hcs⟩ := hsp.hat (by omega)
      obtain ⟨q, hq⟩ : ∃ q, l[k]? = some q := ⟨_, List.getElem?_eq_getElem (by rw [hsp.hl]; exact hlt)⟩
      obtain ⟨c1, c2⟩ := hcs k q hq
      obtain ⟨B, hB⟩ : ∃ B, wr.heap.size = B := ⟨_, rfl⟩
      obtain ⟨W1, hW1⟩ : ∃ W1, wr.alloc (.cells #[.int .i64 q.1, .int .i64 q.2] 37) = W1 := ⟨_, rfl⟩
      have hb1 : Below w.heap.size w W1 := by rw [← hW1]; exact hbel.alloc hbel.size _
      have f1 : W1.cell? ⟨B, 0, none⟩ = some (.int .i64 q.1) := by rw [← hW1, ← hB, cell_of_row _ wr.heap.size _ _ _ _ (heap_alloc_new wr _)]; rfl
      have f2 : W1.cell? ⟨B, 1, none⟩ = some (.int .i64 q.2) := by rw [← hW1, ← hB, cell_of_row _ wr.heap.size _ _ _ _ (heap_alloc_new wr _)]; rfl
      have HH := has_any (HA.out.below hb1) q
      unfold spA at HH
      have HQ : Hid (l[k]? = some q ∧ (∀ j q, j < k → l[j]? = some q → X.has q = true) ∧ Below w.heap.size w W1) := ⟨hq, hall, hb1⟩
      cases hx : X.has q with
      | false =>
        rw [hx] at HH
        have HX : Hid (X.has q = false) := hx
        clear hcs hsp hq hall hbel hb1 hx
        go_wp2_with fail
        refine HH.mono ?_
        rintro e V ⟨rfl, hV⟩
        have HY : Hid (PlanTo w V X l (.returned (.tuple #[.slice none 0 0, .int .i64 9]))) := ⟨HQ.out.2.2.trans (hV.mono HQ.out.2.2.size), .inl ⟨⟨q, List.mem_of_getElem? HQ.out.1, HX.out⟩, rfl⟩⟩
        clear HH hV
        go_wp2
        go_ret2
        exact HY.out
      | true =>
        rw [hx] at HH
        have HX : Hid (X.has q = true) := hx
        clear hcs hsp hq hall hbel hb1 hx
        go_wp2_with fail
        refine HH.mono ?_
        rintro e V ⟨rfl, hV⟩
        have HBV : Hid (Below w.heap.size w V) := HQ.out.2.2.trans (hV.mono HQ.out.2.2.size)
        clear HH hV
        go_wp2
        refine ⟨⟨k + 1, by omega, by go_num, fun j q' hj hq' => ?_, HBV.out⟩, by simp [intOf]; omega⟩
        by_cases hjk : j < k
        · exact HQ.out.2.1 j q' hjk hq'
        · obtain rfl : j = k := by omega
          have := HQ.out.1
          rw [this] at hq'
          cases hq'
          exact HX.out
    · obtain rfl : n = k := by omega
      have kk : ¬ (n : Int) < (n : Int) := by omega
      have HAL : Hid (∀ s ∈ l, X.has s = true) := fun s hs => by
        obtain ⟨j, hj, e⟩ := List.getElem_of_mem hs
        exact hall j s (by rw [← HL.out.hl]; exact hj) (by rw [List.getElem?_eq_getElem hj, e])
      have HB : Hid (Below w.heap.size w wr) := hbel
      have HC := clone_any (HL.out.below hbel) hn
      have HNL : Hid (n ≤ 1000000) := hn
      clear hall hbel
      go_wp2_with fail
      refine HC.mono ?_
      rintro e V ⟨a2, c2, rfl, hfr, hrow, hbV⟩
      have HBV : Hid (Below w.heap.size w V ∧ (∀ x, ob a2 = some x → w.heap.size ≤ x)) := ⟨HB.out.trans (hbV.mono HB.out.size), fun x hx => Nat.le_trans HB.out.size (hfr x hx)⟩
      have HS : Calls Try.prog 45 #[.slice a2 n c2, .func (.func 46) #[] #[]] V fun e w' => e = .returned (.tuple #[]) ∧ ∃ l' : List Sp, l'.Perm l ∧ (∀ (i j : Nat) (p q : Sp), i < j → l'[i]? = some p → l'[j]? = some q → p.1 ≤ q.1) ∧ SpW w' a2 n c2 l' ∧ Upd (fun x => ob a2 = some x) V w' := by
        have hsw := SpW.own hrow
        rcases hrow.2 with ⟨h5, h6⟩ | ⟨g, cp, cur, e, _⟩
        · cases h5
          refine (HNIL.out V).mono fun e w' ⟨he, hw⟩ => ⟨he, l, List.Perm.refl _, fun i j p q _ hp _ => ?_, by rw [hw]; exact hsw, by rw [hw]; exact Upd.refl _ _⟩
          have h7 := hsw.hl
          have h8 := (List.getElem?_eq_some_iff.1 hp).1
          omega
        · cases e
          exact (sortO hrow hn).mono fun e w' ⟨he, l', p1, p2, p3, p4⟩ => ⟨he, l', p1, p2, p3, p4.mono (fun x hx _ => by subst hx; rfl)⟩
      clear HC hfr hrow hbV
      go_wp2_with fail
      refine HS.mono ?_
      rintro e V2 ⟨rfl, l', hp, hso, hsp2, hu2⟩
      have HP : Hid (l'.Perm l ∧ (∀ (i j : Nat) (p q : Sp), i < j → l'[i]? = some p → l'[j]? = some q → p.1 ≤ q.1) ∧ (∀ s ∈ l', X.has s = true)) := ⟨hp, hso, fun s hs => HAL.out s (hp.mem_iff.1 hs)⟩
      have HB2 : Hid (Below w.heap.size w V2) := HBV.out.1.trans (hu2.below HBV.out.1.size (fun x hx => HBV.out.2 x hx))
      have HS2 : Hid (SpW V2 a2 n c2 l') := hsp2
      have hcp2 := hsp2.hcp
      have hmx2 := hsp2.hmx
      clear HS hp hso hsp2 hu2
      go_wp2
      go_loopw [8, 30] (fun v8 v30 wr => ∃ k : Nat, k ≤ n ∧ v30 = .int .i64 (k : Int) ∧ v8 = .int .i64 (endL 0 (l'.take k)) ∧ chkL X 0 (l'.take k) = true ∧ Below V2.heap.size V2 wr) (fun _ v _ => n - (intOf v).toNat)
      case atStart => exact ⟨0, by omega, rfl, rfl, rfl, Below.refl _ _⟩
      case round =>
        obtain ⟨k, hk, rfl, rfl, hch, hb⟩ := hrel
        have hbw : Below w.heap.size w wr := HB2.out.trans (hb.mono HB2.out.size)
        by_cases hlt : k < n
        · have kk : (k : Int) < (n : Int) := by omega
          have hsp := HS2.out.below hb
          obtain ⟨b, o, rfl, hbl, hcs⟩ := hsp.hat (by omega)
          obtain ⟨q, hq⟩ : ∃ q, l'[k]? = some q := ⟨_, List.getElem?_eq_getElem (by rw [hsp.hl]; exact hlt)⟩
          obtain ⟨c1, c2⟩ := hcs k q hq
          have hqh := (Ar.has_iff X q).1 (HP.out.2.2 q (List.mem_of_getElem? hq))
          have hxz := HA.out.ok.s2
          have hsn := chkL_snoc X 0 (l'.take k) q
          have hen := endL_snoc 0 (l'.take k) q
          rw [show l'.take k ++ [q] = l'.take (k + 1) by rw [List.take_add_one, hq]; rfl] at hsn hen
          have HEN : Hid (endL 0 (l'.take (k + 1)) = q.1 + q.2) := hen
          obtain ⟨E, hE⟩ : ∃ E, endL 0 (l'.take k) = E := ⟨_, rfl⟩
          rw [hch, hE] at hsn
          rw [hE]
          have HNO : Hid (chkL X 0 (l'.take (k + 1)) = false → ∀ V, Below w.heap.size w V → PlanTo w V X l (.returned (.tuple #[.slice none 0 0, .int .i64 8]))) := fun h1 V hV =>
            ⟨hV, .inr ⟨HAL.out, l', HP.out.1, HP.out.2.1, .inl ⟨by have := chkL_app X 0 _ (l'.drop (k + 1)) h1; rwa [List.take_append_drop] at this, rfl⟩⟩⟩
          obtain ⟨B, hB⟩ : ∃ B, wr.heap.size = B := ⟨_, rfl⟩
          obtain ⟨W1, hW1⟩ : ∃ W1, wr.alloc (.cells #[.int .i64 q.1, .int .i64 q.2] 37) = W1 := ⟨_, rfl⟩
          have hb1 : Below wr.heap.size wr W1 := by rw [← hW1]; exact (Below.refl _ _).alloc (Nat.le_refl _) _
          have hbx : W1.heap[B]? = some (.cells #[.int .i64 q.1, .int .i64 q.2] 37 (0, 0)) := by rw [← hW1, ← hB]; exact heap_alloc_new _ _
          have f1 : W1.cell? ⟨B, 0, none⟩ = some (.int .i64 q.1) := by rw [cell_of_row _ _ _ _ _ _ hbx]; rfl
          have f2 : W1.cell? ⟨B, 1, none⟩ = some (.int .i64 q.2) := by rw [cell_of_row _ _ _ _ _ _ hbx]; rfl
          have hbw1 : Below w.heap.size w W1 := hbw.trans (hb1.mono hbw.size)
          have H1 : Hid (Below w.heap.size w W1 ∧ Below V2.heap.size V2 W1) := ⟨hbw1, hb.trans (hb1.mono hb.size)⟩
          have HTK := isTaken_any (HA.out.below hbw1) q ⟨by omega, by omega⟩
          unfold spA at HTK
          by_cases hlo : q.1 < E
          · have HX : Hid (PlanTo w W1 X l (.returned (.tuple #[.slice none 0 0, .int .i64 8]))) := HNO.out (by rw [hsn, decide_eq_false (show ¬ E ≤ q.1 by omega)]; rfl) W1 hbw1
            clear hcs hq hsn hen hE HTK hb1 hbx hbw1 hb hbw hqh hch hsp
            go_wp2
            go_ret2
            exact HX.out
          · have HLO : Hid (decide (E ≤ q.1) = true) := decide_eq_true (by omega)
            cases ht : takD X.hs q with
            | false =>
              rw [ht] at HTK
              have HNN : Hid (chkL X 0 (l'.take (k + 1)) = false) := by show _ = _; rw [hsn, ht]; simp
              clear hcs hq hsn hen hE hb1 hbx hbw1 hb hbw hqh hch hsp ht
              go_wp2_with fail
              refine HTK.mono ?_
              rintro e V3 ⟨rfl, hV3⟩
              have HX : Hid (PlanTo w V3 X l (.returned (.tuple #[.slice none 0 0, .int .i64 8]))) := HNO.out HNN.out V3 (H1.out.1.trans (hV3.mono H1.out.1.size))
              clear HTK hV3
              go_wp2
              go_ret2
              exact HX.out
            | true =>
              rw [ht] at HTK
              have HYY : Hid (chkL X 0 (l'.take (k + 1)) = true) := by show _ = _; rw [hsn, ht, HLO.out]; rfl
              have HEE : Hid (∀ V, Calls Try.prog 37 #[.agg #[.int .i64 q.1, .int .i64 q.2]] V fun e w' => e = .returned (.int .i64 (q.1 + q.2)) ∧ Below V.heap.size V w') := fun V => end_any q.1 q.2 V ⟨by omega, by omega⟩
              clear hcs hq hsn hen hE hb1 hbw1 hb hbw hqh hch hsp ht
              go_wp2_with fail
              refine HTK.mono ?_
              rintro e V3 ⟨rfl, hV3⟩
              have d1 := keepc hV3 f1
              have d2 := keepc hV3 f2
              have H3 : Hid (Below V2.heap.size V2 V3) := H1.out.2.trans (hV3.mono H1.out.2.size)
              clear HTK hV3 f1 f2
              go_wp2_with fail
              refine (HEE.out _).mono ?_
              rintro e V4 ⟨rfl, hV4⟩
              have H4 : Hid (Below V2.heap.size V2 V4) := H3.out.trans (hV4.mono H3.out.size)
              clear hV4 d1 d2
              go_wp2
              exact ⟨⟨k + 1, by omega, by go_num, by rw [HEN.out], HYY.out, H4.out⟩, by simp [intOf]; omega⟩
        · obtain rfl : n = k := by omega
          have kk : ¬ (n : Int) < (n : Int) := by omega
          have e1 : l'.take n = l' := List.take_of_length_le (by rw [HS2.out.hl]; exact Nat.le_refl _)
          rw [e1] at hch
          have HM := moves_any (HS2.out.below hb) (by have := HNL.out; omega) (fun j => by
            have hz := HA.out.ok.s2
            have := sum_chk X (l'.take j) 0 (chk_take X l' 0 hch j) (fun s hs => HP.out.2.2 s (List.mem_of_mem_take hs)) (by omega) (by omega)
            omega)
          have HBW : Hid (Below w.heap.size w wr ∧ chkL X 0 l' = true) := ⟨hbw, hch⟩
          clear hb hbw hch e1
          go_wp2_with fail
          refine HM.mono ?_
          rintro e V5 ⟨a5, c5, rfl, hrow5, hb5⟩
          have HX : Hid (PlanTo w V5 X l (.returned (.tuple #[.slice a5 (movL 0 l').length c5, .int .i64 0]))) := ⟨HBW.out.1.trans (hb5.mono HBW.out.1.size), .inr ⟨HAL.out, l', HP.out.1, HP.out.2.1, .inr ⟨HBW.out.2, a5, c5, rfl, own_base hrow5 HBW.out.1.size⟩⟩⟩
          clear HM hrow5 hb5
          go_wp2
          go_ret2
          exact HX.out
end Go.Proofs.Ytgihdfmeokbplaa
