/- A walk over Range. -/
import Derived.Test.YtnafalkcgghjgaaGreatDoorSK
namespace Go.Proofs.YtnafalkcgghjgaaGreatDoor
open Go.RowKit Go.Shelf
theorem high_all {T : List Pr} (h : Rise T) (f : ByteArray) : T.filter (fun p => !sl p.1 f) = highT T f := by
  conv => lhs; rw [← low_high T f]
  rw [List.filter_append]
  have e1 : (lowT T f).filter (fun p => !sl p.1 f) = [] := by
    rw [List.filter_eq_nil_iff]
    intro p hp
    rw [low_lt p hp]
    simp
  have e2 : (highT T f).filter (fun p => !sl p.1 f) = highT T f := by
    rw [List.filter_eq_self]
    intro p hp
    obtain ⟨_, h2, _⟩ := h.parts f
    cases hY : highT T f with
    | nil => rw [hY] at hp; simp at hp
    | cons y Y =>
      have hy := high_hd (T := T) (k := f) (p := y) (by rw [hY]; rfl)
      rw [hY] at hp h2
      unfold Rise at h2
      rw [List.pairwise_cons] at h2
      rcases List.mem_cons.1 hp with rfl | hp
      · rw [hy]; rfl
      · cases hpf : sl p.1 f with
        | false => rfl
        | true => have := sl_trans (h2.1 p hp) hpf; rw [hy] at this; cases this
  rw [e1, e2, List.nil_append]
theorem upto_while : ∀ {H : List Pr}, Rise H → ∀ t : ByteArray, H.filter (fun p => !sl t p.1) = H.takeWhile (fun p => !sl t p.1)
  | [], _, _ => rfl
  | x :: H, h, t => by
    unfold Rise at h
    rw [List.pairwise_cons] at h
    cases hx : sl t x.1 with
    | false => simp only [List.filter_cons, List.takeWhile_cons, hx, Bool.not_false, if_true]; rw [upto_while h.2 t]
    | true =>
      simp only [List.takeWhile_cons, hx, Bool.not_true, Bool.false_eq_true, if_false]
      rw [List.filter_eq_nil_iff]
      intro p hp
      rcases List.mem_cons.1 hp with rfl | hp
      · simp [hx]
      · have := sl_trans hx (h.1 p hp)
        simp [this]
theorem range_eq {T : List Pr} (h : Rise T) (f t : ByteArray) (m : Int) : rangeT T f t m = ((highT T f).takeWhile fun p => !sl t p.1).take m.toNat := by
  unfold rangeT
  have e : T.filter (fun p => !sl p.1 f && !sl t p.1) = (T.filter fun p => !sl p.1 f).filter fun p => !sl t p.1 := by rw [List.filter_filter]; congr 1; funext p; rw [Bool.and_comm]
  rw [e, high_all h f, upto_while (h.parts f).2.1 t]
/-- What was told so far. -/
structure Tell (H : List Pr) (t : ByteArray) (m : Int) (l R : List Pr) : Prop where
  eq : l ++ R = H
  le : ∀ p ∈ l, sl t p.1 = false
  mo : l.length ≤ m.toNat
theorem Tell.start (H : List Pr) (t : ByteArray) (m : Int) : Tell H t m [] H := ⟨rfl, fun p hp => by simp at hp, by simp⟩
theorem Tell.done {T : List Pr} (h : Rise T) {f t : ByteArray} {m : Int} {l R : List Pr} (k : Tell (highT T f) t m l R) (hR : R = [] ∨ (∃ p, R.head? = some p ∧ sl t p.1 = true) ∨ m ≤ (l.length : Int)) : rangeT T f t m = l := by
  rw [range_eq h, ← k.eq, List.takeWhile_append_of_pos (fun p hp => by rw [k.le p hp]; rfl)]
  have hm := k.mo
  rcases hR with hR | ⟨p, hp, hs⟩ | hR
  · rw [hR]
    simp only [List.takeWhile_nil, List.append_nil]
    exact List.take_of_length_le hm
  · cases R with
    | nil => simp at hp
    | cons q R =>
      simp only [List.head?_cons, Option.some.injEq] at hp
      subst hp
      simp only [List.takeWhile_cons, hs, Bool.not_true, Bool.false_eq_true, if_false, List.append_nil]
      exact List.take_of_length_le hm
  · rw [List.take_append_of_le_length (by omega)]
    exact List.take_of_length_le hm
theorem Tell.add {H : List Pr} {t : ByteArray} {m : Int} {l R : List Pr} {p : Pr} (k : Tell H t m l (p :: R)) (hp : sl t p.1 = false) (hm : ¬ m ≤ (l.length : Int)) : Tell H t m (l ++ [p]) R :=
  ⟨by rw [← k.eq]; simp, fun q hq => by
    rcases List.mem_append.1 hq with hq | hq
    · exact k.le q hq
    · simp only [List.mem_singleton] at hq; rw [hq]; exact hp, by simp; omega⟩
theorem range_nil (f t : ByteArray) (m : Int) (w : World) : Calls Tryz.prog 18 #[.pointer none, .string f, .string t, .int .i64 m] w fun e w' => e = .returned (.slice none 0 0) ∧ w' = w := by
  go_enter Tryz.func18, Tryz.ntmps18
  go_wp2
  go_ret
  exact ⟨rfl, rfl⟩
theorem drop_at {α : Type} {l : List α} {i : Nat} {x : α} (h : l[i]? = some x) : l.drop i = x :: l.drop (i + 1) := by
  obtain ⟨hi, e⟩ := List.getElem?_eq_some_iff.1 h
  rw [List.drop_eq_getElem_cons hi, e]
theorem flat_drop {L : List Mf} {i : Nat} {m : Mf} (h : L[i]? = some m) : flat (lfs (L.drop i)) = m.es ++ flat (lfs (L.drop (i + 1))) := by
  rw [drop_at h]
  show flat (m.lf :: lfs (L.drop (i + 1))) = _
  rw [flat_cons]
  rfl
set_option maxRecDepth 100000 in
set_option maxHeartbeats 4000000 in
theorem range_any {h0 : Nat} {F : Nat → Prop} {w : World} {S : Nat → Prop} {g : Nat} {D : Dk} {sb jb n : Nat} {L K : List Mf} (h : Tab h0 F w S g D sb jb n L K) (f t : ByteArray) (mo : Int) :
    Calls Tryz.prog 18 #[.pointer (some ⟨sb, 0, none⟩), .string f, .string t, .int .i64 mo] w fun e w' => ∃ (ra : Option Addr) (rn rc : Nat), e = .returned (.slice ra rn rc) ∧ w'.ownsRow w.heap.size 63 2 (.slice ra rn rc) rn (prV (rangeT (flat (lfs L)) f t mo)) ∧ Below w.heap.size w w' := by
  obtain ⟨al, cl, ag, cg, hs, hL, hK⟩ := h.sat
  have hlen := h.len
  have hn12 := h.n12
  have HF := find_any hs hL h.shL.toPre (by omega) f
  obtain ⟨T, hT⟩ : ∃ T, flat (lfs L) = T := ⟨_, rfl⟩
  have htl := h.total.2
  have HR : Hid (Rise T) := by show Rise T; rw [← hT]; exact h.shL.srt
  have HTT : Hid (flat (lfs L) = T) := hT
  have HPR : Hid (Pre n (lfs L)) := h.shL.toPre
  obtain ⟨nl, hnl⟩ : ∃ nl, L.length = nl := ⟨_, rfl⟩
  rw [hT] at htl ⊢
  rw [hnl] at hlen hL hs
  have HNL : Hid (L.length = nl) := hnl
  have HL : Hid (∀ W, Below w.heap.size w W → Lw F W al nl cl L ∧ Sat W sb jb al nl cl ag K.length cg) := fun W hW => ⟨hL.below hW, hs.below hW⟩
  have hcl : nl ≤ cl := hL.1.2.1
  obtain ⟨B, hB⟩ : ∃ B, w.heap.size = B := ⟨_, rfl⟩
  rw [hB] at HL ⊢
  clear h hs hL hK hT hnl
  go_enter Tryz.func18, Tryz.ntmps18
  go_wp2_with fail
  refine HF.mono ?_
  rintro e V ⟨i, m, a, rfl, hm, hat, hV⟩
  rw [hB] at hV
  obtain ⟨_, hhi, _⟩ := hat.find HPR.out
  rw [HTT.out, ← lfs_drop] at hhi
  have hme : m.lf.es = m.es := rfl
  rw [hme] at hhi
  have hil : i < nl := by have := (List.getElem?_eq_some_iff.1 hm).1; have := HNL.out; omega
  obtain ⟨s0, s1, s2⟩ := (HL.out V hV).2.cells
  have hoff := off_lfs al nl cl i (by omega)
  obtain ⟨oa, hoa⟩ : ∃ oa, cutA al cl i 3 = oa := ⟨_, rfl⟩
  have HO : Hid (∀ W, Below B w W → Lw F W oa (nl - i) (cl - i) (L.drop i)) := fun W hW => by rw [← hoa]; exact (HL.out W hW).1.drop i (by omega)
  rw [hoa] at hoff
  obtain ⟨r, hr⟩ : ∃ r, nl - i = r := ⟨_, rfl⟩
  rw [hr] at hoff HO
  have HH : Hid (highT T f = m.es.drop a ++ flat (lfs (L.drop (i + 1)))) := hhi
  have HMA : Hid (L[i]? = some m ∧ a ≤ m.es.length) := ⟨hm, hat.al⟩
  have HV : Hid (Below B w V) := hV
  have hHl : (highT T f).length ≤ 20000 := by
    have e := congrArg List.length (low_high T f)
    rw [List.length_append] at e
    omega
  clear HF hm hat hV hhi hme s0 s2 hoa
  go_wp2
  go_loopw [9, 11, 33] (fun vl va vj wr => ∃ (j at_ ln lc : Nat) (la : Option Addr) (l : List Pr), j ≤ r ∧ vj = .int .i64 j ∧ va = .int .i64 at_ ∧ vl = .slice la ln lc ∧ wr.ownsRow B 63 2 (.slice la ln lc) ln (prV l) ∧ (∀ m', L[i + j]? = some m' → at_ ≤ m'.es.length ∧ Tell (highT T f) t mo l (m'.es.drop at_ ++ flat (lfs (L.drop (i + j + 1))))) ∧ (j = r → Tell (highT T f) t mo l []) ∧ Below B w wr) (fun _ _ vj _ => r - (intOf vj).toNat)
  case atStart =>
    refine ⟨0, a, 0, 0, none, [], by omega, rfl, rfl, rfl, World.ownsRow_nil _ _ _ _, fun m' hm' => ?_, fun e => absurd e (by omega), HV.out⟩
    rw [Nat.add_zero, HMA.out.1] at hm'
    cases hm'
    refine ⟨HMA.out.2, ?_⟩
    have := Tell.start (highT T f) t mo
    rw [HH.out] at this ⊢
    exact this
  case round =>
    obtain ⟨w1, hw1⟩ : ∃ x : World, x = wr := ⟨wr, rfl⟩
    subst hw1
    obtain ⟨j, at_, ln, lc, la, l, hj, rfl, rfl, rfl, hown, htell, hend, hbel⟩ := hrel
    by_cases hlt : j < r
    · have kk : (j : Int) < (r : Int) := by omega
      have hijl : i + j < L.length := by have := HNL.out; omega
      have hm' : L[i + j]? = some L[i + j] := List.getElem?_eq_getElem hijl
      obtain ⟨m', hmm⟩ : ∃ m', L[i + j] = m' := ⟨_, rfl⟩
      rw [hmm] at hm'
      obtain ⟨hatl, htl2⟩ := htell m' hm'
      have hdj : (L.drop i)[j]? = some m' := by rw [List.getElem?_drop]; exact hm'
      have hOw := HO.out w1 hbel
      obtain ⟨b, o, rfl, hb, _, hc⟩ := hOw.at (by omega)
      obtain ⟨d1, d2, d3⟩ := hc j m' hdj
      obtain ⟨k, hk⟩ : ∃ k, m'.es.length = k := ⟨_, rfl⟩
      rw [hk] at d2 hatl
      obtain ⟨V1, hV1⟩ : ∃ V1, w1.alloc (.cells #[.int .i64 m'.page, .slice m'.a k k, .int .i64 (szL m'.es : Int)] 85) = V1 := ⟨_, rfl⟩
      have hB1 : Below w1.heap.size w1 V1 := by rw [← hV1]; exact (Below.refl _ w1).alloc (Nat.le_refl _) _
      have r1 : V1.heap[w1.heap.size]? = some (.cells #[.int .i64 m'.page, .slice m'.a k k, .int .i64 (szL m'.es : Int)] 85 (0, 0)) := by rw [← hV1]; exact heap_alloc_new w1 _
      have y2 : V1.cell? ⟨w1.heap.size, 1, none⟩ = some (.slice m'.a k k) := by rw [cell_of_row _ _ _ _ _ _ r1]; rfl
      have hof2 := off_prs m'.a k k at_ hatl
      obtain ⟨xa, hxa⟩ : ∃ xa, cutA m'.a k at_ 2 = xa := ⟨_, rfl⟩
      obtain ⟨x, hx⟩ : ∃ x, k - at_ = x := ⟨_, rfl⟩
      have HX : Hid (∀ W, Below B w W → Pw F W xa x x (m'.es.drop at_)) := fun W hW => by
        have h5 := (HO.out W hW).2 m' (List.mem_of_getElem? hdj)
        rw [hk] at h5
        have h6 := h5.drop at_ hatl
        rw [hxa, hx] at h6
        exact h6
      rw [hxa] at hof2
      rw [hx] at hof2
      have hkb : x ≤ 1023 := by
        have h5 := HPR.out.sz m'.lf (List.mem_of_getElem? (lfs_at hm'))
        have h6 := es_len m'.es
        have h7 : m'.lf.sz = szL m'.es := rfl
        omega
      have hBw1 : B ≤ w1.heap.size := by have := hbel.size; omega
      have HB1 : Hid (Below B w V1 ∧ B ≤ V1.heap.size) := ⟨hbel.trans (hB1.mono hBw1), Nat.le_trans hBw1 hB1.size⟩
      have HOW : Hid (V1.ownsRow B 63 2 (.slice la ln lc) ln (prV l)) := own_keep hown (fun z hz => hB1.block z (hown.lt z hz).2)
      have HTL : Hid (Tell (highT T f) t mo l (m'.es.drop at_ ++ flat (lfs (L.drop (i + j + 1))))) := htl2
      have HM' : Hid (L[i + j]? = some m' ∧ m'.es.length = k) := ⟨hm', hk⟩
      clear hown htell hend hbel hm' hmm htl2 hdj hOw hc hk hB1 r1 hxa
      go_wp2
      go_loopw [9, 42] (fun vl vs wr2 => ∃ (s ln lc : Nat) (la : Option Addr) (l : List Pr), s ≤ x ∧ vs = .int .i64 s ∧ vl = .slice la ln lc ∧ wr2.ownsRow B 63 2 (.slice la ln lc) ln (prV l) ∧ Tell (highT T f) t mo l ((m'.es.drop at_).drop s ++ flat (lfs (L.drop (i + j + 1)))) ∧ Below B w wr2) (fun _ vs _ => x - (intOf vs).toNat)
      case atStart => exact ⟨0, ln, lc, la, l, by omega, rfl, rfl, HOW.out, by rw [List.drop_zero]; exact HTL.out, HB1.out.1⟩
      case round =>
        clear HOW HTL
        obtain ⟨s, ln, lc, la, l, hs, rfl, rfl, hown, htl3, hbw⟩ := hrel
        have hll : l.length = ln := by
          have := hown.1
          unfold prV at this
          rw [fm_len prC_len] at this
          omega
        have hlnb : ln ≤ 20000 := by
          have := congrArg List.length htl3.eq
          rw [List.length_append] at this
          omega
        by_cases hlt2 : s < x
        · have kk2 : (s : Int) < (x : Int) := by omega
          have hXW := HX.out wr hbw
          have hxl := hXW.len
          have hsl2 : s < (m'.es.drop at_).length := by omega
          have hp : (m'.es.drop at_)[s]? = some (m'.es.drop at_)[s] := List.getElem?_eq_getElem hsl2
          obtain ⟨p, hpp⟩ : ∃ p, (m'.es.drop at_)[s] = p := ⟨_, rfl⟩
          rw [hpp] at hp
          obtain ⟨b2, o2, rfl, hb2, _, hc2⟩ := hXW.at (by omega)
          obtain ⟨f1, f2⟩ := hc2 s p hp
          have hdp := drop_at hp
          rw [hdp] at htl3
          have hg := gtr_sl p.1 t
          obtain ⟨V2, hV2⟩ : ∃ V2, wr.alloc (.cells #[.string p.1, .string p.2] 63) = V2 := ⟨_, rfl⟩
          have hB2 : Below wr.heap.size wr V2 := by rw [← hV2]; exact (Below.refl _ wr).alloc (Nat.le_refl _) _
          have r2 : V2.heap[wr.heap.size]? = some (.cells #[.string p.1, .string p.2] 63 (0, 0)) := by rw [← hV2]; exact heap_alloc_new wr _
          have z1 : V2.cell? ⟨wr.heap.size, 0, none⟩ = some (.string p.1) := by rw [cell_of_row _ _ _ _ _ _ r2]; rfl
          have z2 : V2.cell? ⟨wr.heap.size, 1, none⟩ = some (.string p.2) := by rw [cell_of_row _ _ _ _ _ _ r2]; rfl
          have hBwr : B ≤ wr.heap.size := by have := hbw.size; omega
          have HW2 : Hid (V2.ownsRow B 63 2 (.slice la ln lc) ln (prV l) ∧ Below B w V2 ∧ B ≤ V2.heap.size) := ⟨own_keep hown (fun z hz => hB2.block z (hown.lt z hz).2), hbw.trans (hB2.mono hBwr), Nat.le_trans hBwr hB2.size⟩
          have htl4 : Tell (highT T f) t mo l (p :: ((m'.es.drop at_).drop (s + 1) ++ flat (lfs (L.drop (i + j + 1))))) := htl3
          have HTL3 : Hid (Tell (highT T f) t mo l (p :: ((m'.es.drop at_).drop (s + 1) ++ flat (lfs (L.drop (i + j + 1)))))) := htl4
          have HLL : Hid (l.length = ln) := hll
          clear hown htl3 htl4 hbw hXW hc2 hp hpp hdp hB2 r2 hll
          cases hto : sl t p.1 with
          | true =>
            rw [hto] at hg
            go_wp2
            go_ret
            refine ⟨la, ln, lc, rfl, ?_, HW2.out.2.1⟩
            rw [HTL3.out.done HR.out (.inr (.inl ⟨p, rfl, hto⟩))]
            exact HW2.out.1
          | false =>
            rw [hto] at hg
            by_cases hmo : mo ≤ (ln : Int)
            · go_wp2
              go_ret
              refine ⟨la, ln, lc, rfl, ?_, HW2.out.2.1⟩
              rw [HTL3.out.done HR.out (.inr (.inr (by rw [HLL.out]; exact hmo)))]
              exact HW2.out.1
            · obtain ⟨V3, hV3⟩ : ∃ V3, V2.alloc (.cells #[.string p.1, .string p.2] 63) = V3 := ⟨_, rfl⟩
              have hB3 : Below V2.heap.size V2 V3 := by rw [← hV3]; exact (Below.refl _ V2).alloc (Nat.le_refl _) _
              have r3 : V3.heap[V2.heap.size]? = some (.cells #[.string p.1, .string p.2] 63 (0, 0)) := by rw [← hV3]; exact heap_alloc_new V2 _
              have ho3 := own_keep HW2.out.1 (W' := V3) (fun z hz => hB3.block z (HW2.out.1.lt z hz).2)
              obtain ⟨aA, cA, VA, hrA, hoA, hgA, _⟩ := addP_own V3 ho3 (pair_news r3) (by omega) (Nat.le_trans HW2.out.2.2 hB3.size)
              have HE : Hid (VA.ownsRow B 63 2 (.slice aA (ln + 1) cA) (ln + 1) (prV (l ++ [p])) ∧ Below B w VA) :=
                ⟨hoA, (HW2.out.2.1.trans (hB3.mono HW2.out.2.2)).grown hgA (Nat.le_trans HW2.out.2.2 hB3.size) (fun z hz => (ho3.lt z (by rw [ob_slice]; exact hz)).1)⟩
              clear hB3 r3 ho3 hoA hgA
              go_wp2_with (at_builtin; refine wpList_app V3 rfl _ _ _ _ rfl rfl rfl (hrA _) ?_)
              exact ⟨⟨s + 1, ln + 1, cA, aA, l ++ [p], by omega, by go_num, rfl, HE.out.1, HTL3.out.add hto (by rw [HLL.out]; exact hmo), HE.out.2⟩, by simp [intOf]; omega⟩
        · obtain rfl : s = x := by omega
          have kk2 : ¬ (s : Int) < (s : Int) := by omega
          have hxl := (HX.out wr hbw).len
          have hnil : (m'.es.drop at_).drop s = [] := List.drop_eq_nil_of_le (by omega)
          rw [hnil, List.nil_append] at htl3
          have HE : Hid (wr.ownsRow B 63 2 (.slice la ln lc) ln (prV l) ∧ Tell (highT T f) t mo l (flat (lfs (L.drop (i + j + 1)))) ∧ Below B w wr) := ⟨hown, htl3, hbw⟩
          clear hown htl3 hbw hnil hxl
          go_wp2
          refine ⟨⟨j + 1, 0, ln, lc, la, l, by omega, by go_num, rfl, rfl, HE.out.1, fun m2 hm2 => ⟨by omega, ?_⟩, fun e => ?_, HE.out.2.2⟩, by simp [intOf]; omega⟩
          · have := HE.out.2.1
            rw [show i + (j + 1) = i + j + 1 by omega] at hm2 ⊢
            rw [flat_drop hm2] at this
            rw [List.drop_zero]
            exact this
          · have := HE.out.2.1
            rw [List.drop_eq_nil_of_le (by have := HNL.out; omega)] at this
            exact this
    · obtain rfl : j = r := by omega
      have kk : ¬ (j : Int) < (j : Int) := by omega
      have HE : Hid (w1.ownsRow B 63 2 (.slice la ln lc) ln (prV l) ∧ Tell (highT T f) t mo l [] ∧ Below B w w1) := ⟨hown, hend rfl, hbel⟩
      clear hown htell hend hbel
      go_wp2
      go_ret
      refine ⟨la, ln, lc, rfl, ?_, HE.out.2.2⟩
      rw [HE.out.2.1.done HR.out (.inl rfl)]
      exact HE.out.1
end Go.Proofs.YtnafalkcgghjgaaGreatDoor
