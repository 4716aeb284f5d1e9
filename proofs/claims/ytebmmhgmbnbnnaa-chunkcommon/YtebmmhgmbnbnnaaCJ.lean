/- Same, the document's Cut, and lives. -/
import Derived.Test.YtebmmhgmbnbnnaaCI
import Derived.BigQuiet
namespace Go.Proofs.Ytebmmhgmbnbnnaa
open Go.RowKit Ck
theorem below_drewN {B : Nat} {a w : World} (h : Below B a w) : ∀ n : Nat, Below B a (w.drewN n)
  | 0 => h
  | n + 1 => (below_drewN h n).drew
set_option maxRecDepth 100000 in
set_option maxHeartbeats 1000000 in
theorem same_any {G H : Nat → Prop} {w : World} {a : Option Addr} {n c : Nat} {la : List ByteArray} {b : Option Addr} {m d : Nat} {lb : List ByteArray} (ha : Tw G w a n c la) (hb : Tw H w b m d lb) :
    Calls Try.prog 13 #[.slice a n c, .slice b m d] w fun e w' => e = .returned (.bool (decide (la = lb))) ∧ Below w.heap.size w w' := by
  have hla := ha.len
  have hlb := hb.len
  have hmx : n ≤ 9223372036854775807 := ha.max
  by_cases hnm : n = m
  · subst hnm
    have HA : Hid (∀ W, Below w.heap.size w W → Tw G W a n c la ∧ Tw H W b n d lb) := fun W hW => ⟨ha.below hW, hb.below hW⟩
    clear ha hb
    go_enter Try.func13, Try.ntmps13
    go_wp2
    go_loopw [5] (fun v wr => ∃ i : Nat, i ≤ n ∧ v = .int .i64 i ∧ la.take i = lb.take i ∧ Below w.heap.size w wr) (fun v _ => n - (intOf v).toNat)
    case atStart => exact ⟨0, by omega, rfl, rfl, Below.refl _ _⟩
    case round =>
      obtain ⟨i, hi, rfl, htk, hbw⟩ := hrel
      by_cases hlt : i < n
      · have kk : (i : Int) < (n : Int) := by omega
        obtain ⟨h1, h2⟩ := HA.out wr hbw
        obtain ⟨ab, ao, rfl, _, hc⟩ := h1.at (by omega)
        obtain ⟨bb, bo, rfl, _, hd⟩ := h2.at (by omega)
        obtain ⟨p, hp⟩ : ∃ p, la[i]? = some p := ⟨_, List.getElem?_eq_getElem (by omega)⟩
        obtain ⟨q, hq⟩ : ∃ q, lb[i]? = some q := ⟨_, List.getElem?_eq_getElem (by omega)⟩
        have c1 := hc i _ hp
        have d1 := hd i _ hq
        have HE : Hid (la[i]? = some p ∧ lb[i]? = some q ∧ la.take i = lb.take i ∧ Below w.heap.size w wr) := ⟨hp, hq, htk, hbw⟩
        clear hc hd hp hq htk hbw h1 h2
        by_cases hpq : p = q
        · have hbe : (p.toList == q.toList) = true := by rw [hpq]; simp
          have HPQ : Hid (p = q) := hpq
          clear hpq
          go_wp2
          go_quiet (fail)
          go_wp2
          refine ⟨⟨i + 1, by omega, by go_num, ?_, below_drewN HE.out.2.2.2 _⟩, by simp [intOf]; omega⟩
          rw [take_snoc HE.out.1, take_snoc HE.out.2.1, HE.out.2.2.1, HPQ.out]
        · have hbe : (p.toList == q.toList) = false := str_nb hpq
          have HPQ : Hid (¬ p = q) := hpq
          clear hpq
          go_wp2
          go_quiet (fail)
          go_wp2
          go_ret
          have hd : decide (la = lb) = false := decide_eq_false fun e => by
            have h5 := HE.out.1
            rw [e, HE.out.2.1] at h5
            exact HPQ.out (Option.some.inj h5).symm
          rw [hd]
          exact ⟨rfl, below_drewN HE.out.2.2.2 _⟩
      · obtain rfl : i = n := by omega
        have kk : ¬ (i : Int) < (i : Int) := by omega
        have HE : Hid (la.take i = lb.take i ∧ Below w.heap.size w wr) := ⟨htk, hbw⟩
        clear htk hbw
        go_wp2
        go_ret
        have hd : decide (la = lb) = true := decide_eq_true (by
          have h5 := HE.out.1
          rw [List.take_of_length_le (by omega), List.take_of_length_le (by omega)] at h5
          exact h5)
        rw [hd]
        exact ⟨rfl, HE.out.2⟩
  · have hne : ¬ (n : Int) = (m : Int) := by omega
    have hnb : ((n : Int) == (m : Int)) = false := by simpa using hne
    clear ha hb
    go_enter Try.func13, Try.ntmps13
    go_wp2
    go_ret
    have hd : decide (la = lb) = false := decide_eq_false fun e => by rw [e] at hla; omega
    rw [hd]
    exact ⟨rfl, Below.refl _ _⟩
theorem strOf_mid (l : List UInt8) (p q : Nat) : (strOf l).extract p q = strOf ((l.take q).drop p) := by
  apply ByteArray.ext
  simp [strOf, ByteArray.extract, ByteArray.copySlice, List.extract]
  rw [List.drop_take]
theorem ends_doc {m : Ms} (hm : m.Ok) {P wt : List UInt8} (c : UInt8) (hl : wt.length < m.most) : endsP m (P ++ [c]) (wt ++ [c]) = (decide (wt.length + 1 = m.most) || (decide (m.least ≤ wt.length + 1) && markP (lstN 16 (P ++ [c])) m.bits)) := by
  unfold endsP
  rw [List.length_append, List.length_singleton]
  have h1 := hm.le
  by_cases hm1 : wt.length + 1 = m.most
  · have e1 : m.least ≤ wt.length + 1 := by omega
    have e2 : m.most ≤ wt.length + 1 := by omega
    simp [hm1]
    omega
  · have e2 : ¬ m.most ≤ wt.length + 1 := by omega
    simp [hm1, e2]
/-- Chunks in a row of their own. -/
def RcTo (w : World) (m : Ms) (bs : List UInt8) (e : Ending) (w' : World) : Prop := ∃ a n c, e = .returned (.slice a n c) ∧ w'.ownsRow w.heap.size 9 1 (.slice a n c) n (stR ((cutL m bs).map strOf)) ∧ Below w.heap.size w w'
/-- Where the document's Cut stands. -/
structure RcS (w V : World) (m : Ms) (bs : List UInt8) (at_ fr : Nat) (la : Option Addr) (n lc : Nat) (Ls : List (List UInt8)) (wt : List UInt8) : Prop where
  one : 1 ≤ at_
  le : at_ ≤ bs.length + 1
  go : goC m [] [] (bs.take (at_ - 1)) = (Ls, wt)
  less : wt.length < m.most
  sum : fr + wt.length + 1 = at_
  wt : wt = (bs.take (at_ - 1)).drop fr
  out : V.ownsRow w.heap.size 9 1 (.slice la n lc) n (stR (Ls.map strOf))
  bel : Below w.heap.size w V
  few : n ≤ at_
theorem go_wt {m : Ms} {t : List UInt8} {Ls : List (List UInt8)} {wt : List UInt8} (h : goC m [] [] t = (Ls, wt)) : wt = t.drop (t.length - wt.length) ∧ wt.length ≤ t.length := by
  have hj := goC_join m t [] []
  rw [h, List.nil_append] at hj
  simp only at hj
  rw [← hj, List.length_append]
  refine ⟨?_, by omega⟩
  rw [show Ls.flatten.length + wt.length - wt.length = Ls.flatten.length by omega, List.drop_left]
theorem go_few {m : Ms} (hm : m.Ok) {t : List UInt8} {Ls : List (List UInt8)} {wt : List UInt8} (h : goC m [] [] t = (Ls, wt)) : Ls.length ≤ t.length ∧ wt.length < m.most := by
  have hz := goC_sizes hm t [] [] (by have := hm.one; have := hm.le; simp; omega)
  have hj := congrArg List.length (goC_join m t [] [])
  rw [h] at hz hj
  have h1 := flat_len Ls (fun x hx => by have := (hz.1 x hx).1; have := hm.one; omega)
  simp only [List.length_append, List.nil_append] at hj
  exact ⟨by omega, hz.2⟩
/-- One place on. -/
theorem RcS.next {w V V' : World} {m : Ms} (hm : m.Ok) {bs : List UInt8} {at_ fr fr' : Nat} {la la' : Option Addr} {n lc n' lc' : Nat} {Ls Ls' : List (List UInt8)} {wt wt' : List UInt8} (h : RcS w V m bs at_ fr la n lc Ls wt) (hle : at_ ≤ bs.length) (hg : goC m [] [] (bs.take at_) = (Ls', wt')) (hf : fr' + wt'.length = at_)
    (ho : V'.ownsRow w.heap.size 9 1 (.slice la' n' lc') n' (stR (Ls'.map strOf))) (hb : Below w.heap.size w V') : RcS w V' m bs (at_ + 1) fr' la' n' lc' Ls' wt' := by
  have e : at_ + 1 - 1 = at_ := by omega
  have h1 := go_few hm hg
  have h2 := go_wt hg
  have h3 : (bs.take at_).length = at_ := by rw [List.length_take]; omega
  refine ⟨by omega, by omega, by rw [e]; exact hg, h1.2, by omega, ?_, ho, hb, ?_⟩
  · rw [e]
    have h4 := h2.1
    rw [h3, show at_ - wt'.length = fr' by omega] at h4
    exact h4
  · have := ho.1
    rw [stR_len, List.length_map] at this
    have := h.one
    omega
set_option maxRecDepth 100000 in
set_option maxHeartbeats 8000000 in
theorem refcut_any (m : Ms) (hm : m.Ok) (bs : List UInt8) (hl : bs.length ≤ 20000) (w : World) : Calls Try.prog 14 #[.string (strOf bs), .int .i64 (m.least : Int), .int .i64 (m.most : Int), .int .i64 (m.bits : Int)] w (RcTo w m bs) := by
  obtain ⟨L, hL⟩ : ∃ L, bs.length = L := ⟨_, rfl⟩
  have hsz : (strOf bs).size = L := by rw [strOf_size, hL]
  have HL : Hid (bs.length = L) := hL
  have HEX : Hid (∀ p q, (strOf bs).extract p q = strOf ((bs.take q).drop p)) := strOf_mid bs
  obtain ⟨T, hT⟩ : ∃ T, strOf bs = T := ⟨_, rfl⟩
  rw [hT] at hsz HEX ⊢
  rw [hL] at hl
  obtain ⟨le, hle⟩ : ∃ x, m.least = x := ⟨_, rfl⟩
  obtain ⟨mo, hmo⟩ : ∃ x, m.most = x := ⟨_, rfl⟩
  obtain ⟨bi, hbi⟩ : ∃ x, m.bits = x := ⟨_, rfl⟩
  have HM : Hid (m.Ok ∧ m.least = le ∧ m.most = mo ∧ m.bits = bi) := ⟨hm, hle, hmo, hbi⟩
  rw [hle, hmo, hbi]
  have hmo1 : mo ≤ 1024 := by rw [← hmo]; exact hm.top
  have HST : Hid (RcS w w m bs 1 0 none 0 0 [] []) := ⟨by omega, by omega, by simp [goC], by have := hm.one; have := hm.le; simp; omega, by simp, by simp, World.ownsRow_nil _ _ _ _, Below.refl _ _, by omega⟩
  clear hm hle hmo hbi hT hL
  go_enter Try.func14, Try.ntmps14
  go_wp2
  go_loopw [9, 10, 11] (fun vl vf va wr => ∃ (at_ fr : Nat) (la : Option Addr) (n lc : Nat) (Ls : List (List UInt8)) (wt : List UInt8), vl = .slice la n lc ∧ vf = .int .i64 fr ∧ va = .int .i64 at_ ∧ RcS w wr m bs at_ fr la n lc Ls wt) (fun _ _ va _ => L + 2 - (intOf va).toNat)
  case atStart => exact ⟨1, 0, none, 0, 0, [], [], rfl, rfl, rfl, HST.out⟩
  case round =>
    clear HST
    obtain ⟨at_, fr, la, n, lc, Ls, wt, rfl, rfl, rfl, hS⟩ := hrel
    have HS : Hid (RcS w wr m bs at_ fr la n lc Ls wt) := hS
    have hfr := hS.sum
    have hone := hS.one
    have hfew := hS.few
    by_cases hlt : at_ ≤ L
    · have kk : (at_ : Int) ≤ (L : Int) := by omega
      obtain ⟨N, hN⟩ : ∃ N, wt.length + 1 = N := ⟨_, rfl⟩
      have kN : (at_ : Int) - (fr : Int) = (N : Int) := by omega
      obtain ⟨c, hc⟩ : ∃ c, bs.getD (at_ - 1) 0 = c := ⟨_, rfl⟩
      have hbl : at_ - 1 < bs.length := by rw [HL.out]; omega
      have htk : bs.take at_ = bs.take (at_ - 1) ++ [c] := by
        have : at_ = at_ - 1 + 1 := by omega
        rw [this, List.take_add_one, List.getElem?_eq_getElem hbl, ← hc, List.getD_eq_getElem?_getD, List.getElem?_eq_getElem hbl]
        rfl
      have hgo := goC_snoc m [] [] (bs.take (at_ - 1)) c
      rw [List.nil_append, hS.go, ← htk] at hgo
      obtain ⟨R, hR⟩ : ∃ R, markP (lstN 16 (bs.take at_)) m.bits = R := ⟨_, rfl⟩
      have HE : Hid (endsP m (bs.take at_) (wt ++ [c]) = (decide (N = mo) || (decide (le ≤ N) && R))) := by
        have := ends_doc HM.out.1 (P := bs.take (at_ - 1)) c hS.less
        rw [← htk, hR, hN, HM.out.2.1, HM.out.2.2.1] at this
        exact this
      obtain ⟨X1, hX1⟩ : ∃ X, strOf (lstN 16 (bs.take at_)) = X := ⟨_, rfl⟩
      have HMK : Hid (∀ V, Calls Try.prog 16 #[.string X1, .int .i64 (bi : Int)] V fun e w' => e = .returned (.bool R) ∧ w' = V) := fun V => by
        have := refmark_any (lstN 16 (bs.take at_)) (bi : Int) V (by rw [lstN_len]; omega)
        rw [clampB_nat bi (by have := HM.out.1.bits; have := HM.out.2.2.2; omega), lstN_lstN, ← HM.out.2.2.2, hR, hX1, HM.out.2.2.2] at this
        exact this
      obtain ⟨X2, hX2⟩ : ∃ X, strOf (wt ++ [c]) = X := ⟨_, rfl⟩
      have hx2 : T.extract fr at_ = X2 := by
        rw [HEX.out, ← hX2, htk, List.drop_append, hS.wt, List.length_take]
        congr 2
        rw [show fr - min (at_ - 1) bs.length = 0 by omega]
        rfl
      obtain ⟨V4, hV4⟩ : ∃ V4, wr.alloc (.cells #[.string X2] 9) = V4 := ⟨_, rfl⟩
      have hB4 : Below wr.heap.size wr V4 := by rw [← hV4]; exact (Below.refl _ wr).alloc (Nat.le_refl _) _
      have r4 : V4.heap[wr.heap.size]? = some (.cells #[.string X2] 9 (0, 0)) := by rw [← hV4]; exact heap_alloc_new wr _
      have ho4 := own_keep hS.out (W' := V4) (fun k hk => hB4.block k (hS.out.lt k hk).2)
      have hw4 : Below w.heap.size w V4 := hS.bel.trans (hB4.mono hS.bel.size)
      obtain ⟨aA, cA, VA, hrA, hoA, hgA, _⟩ := addT_own V4 ho4 (txtRow r4) (by omega) hw4.size
      have HYES : Hid (endsP m (bs.take at_) (wt ++ [c]) = true → Hid (RcS w VA m bs (at_ + 1) at_ aA (n + 1) cA (Ls ++ [wt ++ [c]]) [])) := by
        intro he
        rw [he, if_pos rfl] at hgo
        refine hS.next HM.out.1 (by rw [HL.out]; exact hlt) hgo (by simp) ?_ (hw4.grown hgA hw4.size (fun k hk => (ho4.lt k (by rw [ob_slice]; exact hk)).1))
        rw [List.map_append, List.map_singleton, hX2]
        exact hoA
      have HNO : Hid (endsP m (bs.take at_) (wt ++ [c]) = false → Hid (RcS w wr m bs (at_ + 1) fr la n lc Ls (wt ++ [c]))) := by
        intro he
        rw [he, if_neg (by simp)] at hgo
        exact hS.next HM.out.1 (by rw [HL.out]; exact hlt) hgo (by simp; omega) hS.out hS.bel
      have hex : ∀ p, p + 16 = at_ ∨ (p = 0 ∧ at_ < 16) → T.extract p at_ = X1 := by
        intro p hp
        rw [HEX.out, ← hX1]
        unfold lstN
        rw [List.length_take, Nat.min_eq_left (by omega)]
        congr 2
        omega
      have hfa : (fr : Int) ≤ (at_ : Int) := by omega
      clear hS hc hbl htk hgo hR hX1 hX2 hB4 r4 ho4 hw4 hoA hgA hfr hN
      by_cases h16 : at_ < 16
      · have ka : (at_ : Int) - 16 < 0 := by omega
        have hx1 := hex 0 (.inr ⟨rfl, h16⟩)
        have hz0 : (0 : Int) ≤ (at_ : Int) := by omega
        clear hex
        by_cases k1 : N = mo
        · have d1 : (N : Int) = (mo : Int) := by omega
          have d1b : ((N : Int) == (mo : Int)) = true := by simp; omega
          have HY := HYES.out (by rw [HE.out, decide_eq_true k1, Bool.true_or])
          clear HYES HNO HE
          go_wp2_with (first | (go_at_call 16; refine (HMK.out _).mono ?_; rintro e w' ⟨rfl, h⟩; subst w') | (at_builtin; refine wpList_app V4 rfl _ _ _ _ rfl rfl rfl (hrA _) ?_))
          exact ⟨⟨at_ + 1, at_, aA, n + 1, cA, _, _, rfl, by go_num, by go_num, HY.out⟩, by simp [intOf]; omega⟩
        · have d1 : ¬ (N : Int) = (mo : Int) := by omega
          have d1b : ((N : Int) == (mo : Int)) = false := by simp; omega
          by_cases k2 : le ≤ N
          · have d2 : (le : Int) ≤ (N : Int) := by omega
            cases R with
            | true =>
              have HY := HYES.out (by rw [HE.out, decide_eq_true k2, Bool.true_and, Bool.or_true])
              clear HYES HNO HE
              go_wp2_with (first | (go_at_call 16; refine (HMK.out _).mono ?_; rintro e w' ⟨rfl, h⟩; subst w') | (at_builtin; refine wpList_app V4 rfl _ _ _ _ rfl rfl rfl (hrA _) ?_))
              exact ⟨⟨at_ + 1, at_, aA, n + 1, cA, _, _, rfl, by go_num, by go_num, HY.out⟩, by simp [intOf]; omega⟩
            | false =>
              have HX := HNO.out (by rw [HE.out, decide_eq_false k1, Bool.and_false, Bool.false_or])
              clear HYES HNO HE
              go_wp2_with (go_at_call 16; refine (HMK.out _).mono ?_; rintro e w' ⟨rfl, h⟩; subst w')
              exact ⟨⟨at_ + 1, fr, la, n, lc, _, _, rfl, by go_num, by go_num, HX.out⟩, by simp [intOf]; omega⟩
          · have d2 : ¬ (le : Int) ≤ (N : Int) := by omega
            have HX := HNO.out (by rw [HE.out, decide_eq_false k1, decide_eq_false k2, Bool.false_and, Bool.false_or])
            clear HYES HNO HE
            go_wp2_with (go_at_call 16; refine (HMK.out _).mono ?_; rintro e w' ⟨rfl, h⟩; subst w')
            exact ⟨⟨at_ + 1, fr, la, n, lc, _, _, rfl, by go_num, by go_num, HX.out⟩, by simp [intOf]; omega⟩
      · obtain ⟨p, hp⟩ : ∃ p, at_ - 16 = p := ⟨_, rfl⟩
        have ka : (at_ : Int) - 16 = (p : Int) := by omega
        have hx1 := hex p (.inl (by omega))
        have hz0 : (p : Int) ≤ (at_ : Int) := by omega
        clear hex hp
        by_cases k1 : N = mo
        · have d1 : (N : Int) = (mo : Int) := by omega
          have d1b : ((N : Int) == (mo : Int)) = true := by simp; omega
          have HY := HYES.out (by rw [HE.out, decide_eq_true k1, Bool.true_or])
          clear HYES HNO HE
          go_wp2_with (first | (go_at_call 16; refine (HMK.out _).mono ?_; rintro e w' ⟨rfl, h⟩; subst w') | (at_builtin; refine wpList_app V4 rfl _ _ _ _ rfl rfl rfl (hrA _) ?_))
          exact ⟨⟨at_ + 1, at_, aA, n + 1, cA, _, _, rfl, by go_num, by go_num, HY.out⟩, by simp [intOf]; omega⟩
        · have d1 : ¬ (N : Int) = (mo : Int) := by omega
          have d1b : ((N : Int) == (mo : Int)) = false := by simp; omega
          by_cases k2 : le ≤ N
          · have d2 : (le : Int) ≤ (N : Int) := by omega
            cases R with
            | true =>
              have HY := HYES.out (by rw [HE.out, decide_eq_true k2, Bool.true_and, Bool.or_true])
              clear HYES HNO HE
              go_wp2_with (first | (go_at_call 16; refine (HMK.out _).mono ?_; rintro e w' ⟨rfl, h⟩; subst w') | (at_builtin; refine wpList_app V4 rfl _ _ _ _ rfl rfl rfl (hrA _) ?_))
              exact ⟨⟨at_ + 1, at_, aA, n + 1, cA, _, _, rfl, by go_num, by go_num, HY.out⟩, by simp [intOf]; omega⟩
            | false =>
              have HX := HNO.out (by rw [HE.out, decide_eq_false k1, Bool.and_false, Bool.false_or])
              clear HYES HNO HE
              go_wp2_with (go_at_call 16; refine (HMK.out _).mono ?_; rintro e w' ⟨rfl, h⟩; subst w')
              exact ⟨⟨at_ + 1, fr, la, n, lc, _, _, rfl, by go_num, by go_num, HX.out⟩, by simp [intOf]; omega⟩
          · have d2 : ¬ (le : Int) ≤ (N : Int) := by omega
            have HX := HNO.out (by rw [HE.out, decide_eq_false k1, decide_eq_false k2, Bool.false_and, Bool.false_or])
            clear HYES HNO HE
            go_wp2_with (go_at_call 16; refine (HMK.out _).mono ?_; rintro e w' ⟨rfl, h⟩; subst w')
            exact ⟨⟨at_ + 1, fr, la, n, lc, _, _, rfl, by go_num, by go_num, HX.out⟩, by simp [intOf]; omega⟩
    · have kk : ¬ (at_ : Int) ≤ (L : Int) := by omega
      have hle := hS.le
      rw [HL.out] at hle
      have hatl : at_ - 1 = L := by omega
      have htk : bs.take (at_ - 1) = bs := List.take_of_length_le (by rw [HL.out]; omega)
      have hgo := hS.go
      rw [htk] at hgo
      have HCU : Hid (cutL m bs = Ls ++ lastC wt) := by
        show _ = _
        unfold cutL
        rw [hgo]
      by_cases h0 : wt = []
      · subst h0
        have hfL : ¬ (fr : Int) < (L : Int) := by simp at hfr; omega
        have HF : Hid (RcTo w m bs (.returned (.slice la n lc)) wr) := by
          refine ⟨la, n, lc, rfl, ?_, hS.bel⟩
          rw [HCU.out, show lastC [] = [] from rfl, List.append_nil]
          exact hS.out
        clear hS hgo htk hle hfr
        go_wp2
        go_ret
        exact HF.out
      · have hn := List.length_pos_iff.2 h0
        have hfL : (fr : Int) < (L : Int) := by omega
        have hfL2 : (fr : Int) ≤ (L : Int) := by omega
        obtain ⟨X2, hX2⟩ : ∃ X, strOf wt = X := ⟨_, rfl⟩
        have hx2 : T.extract fr L = X2 := by
          have hw := hS.wt
          rw [htk] at hw
          rw [HEX.out, ← hX2, List.take_of_length_le (by rw [HL.out]; omega), ← hw]
        obtain ⟨V4, hV4⟩ : ∃ V4, wr.alloc (.cells #[.string X2] 9) = V4 := ⟨_, rfl⟩
        have hB4 : Below wr.heap.size wr V4 := by rw [← hV4]; exact (Below.refl _ wr).alloc (Nat.le_refl _) _
        have r4 : V4.heap[wr.heap.size]? = some (.cells #[.string X2] 9 (0, 0)) := by rw [← hV4]; exact heap_alloc_new wr _
        have ho4 := own_keep hS.out (W' := V4) (fun k hk => hB4.block k (hS.out.lt k hk).2)
        have hw4 : Below w.heap.size w V4 := hS.bel.trans (hB4.mono hS.bel.size)
        obtain ⟨aA, cA, VA, hrA, hoA, hgA, _⟩ := addT_own V4 ho4 (txtRow r4) (by omega) hw4.size
        have HF : Hid (RcTo w m bs (.returned (.slice aA (n + 1) cA)) VA) := by
          refine ⟨aA, n + 1, cA, rfl, ?_, hw4.grown hgA hw4.size (fun k hk => (ho4.lt k (by rw [ob_slice]; exact hk)).1)⟩
          rw [HCU.out, show lastC wt = [wt] from if_neg h0, List.map_append, List.map_singleton, hX2]
          exact hoA
        clear hS hgo htk hle hfr hX2 hB4 r4 ho4 hw4 hoA hgA hn
        go_wp2_with (at_builtin; refine wpList_app V4 rfl _ _ _ _ rfl rfl rfl (hrA _) ?_)
        go_ret
        exact HF.out
end Go.Proofs.Ytebmmhgmbnbnnaa
