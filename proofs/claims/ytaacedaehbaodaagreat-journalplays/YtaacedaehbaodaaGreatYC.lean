/- A walk over the document's Commit. -/
import Derived.Test.YtaacedaehbaodaaGreatYB
namespace Go.Proofs.YtaacedaehbaodaaGreat
open Go.RowKit Go.Shelf
theorem filter_lt_succ (s : List Chg) (hs : s.Pairwise (fun a b => a.1 ≤ b.1)) (i : Nat) : s.filter (fun c => decide (c.1 < i + 1)) = s.filter (fun c => decide (c.1 < i)) ++ s.filter (fun c => decide (c.1 = i)) := by
  induction s with
  | nil => rfl
  | cons x s ih =>
    rw [List.pairwise_cons] at hs
    have ih := ih hs.2
    rcases Nat.lt_trichotomy x.1 i with h | h | h
    · rw [List.filter_cons_of_pos (by simp; omega), List.filter_cons_of_pos (by simp; omega), List.filter_cons_of_neg (by simp; omega), ih]
      rfl
    · rw [List.filter_cons_of_pos (by simp; omega), List.filter_cons_of_neg (by simp; omega), List.filter_cons_of_pos (by simp; omega), ih]
      have : s.filter (fun c => decide (c.1 < i)) = [] := by
        rw [List.filter_eq_nil_iff]
        intro c hc
        have := hs.1 c hc
        simp; omega
      rw [this]
      rfl
    · have e : ∀ (q : Chg → Bool), (∀ c ∈ s, q c = false) → s.filter q = [] := fun q hq => by
        rw [List.filter_eq_nil_iff]
        intro c hc
        rw [hq c hc]
        simp
      rw [List.filter_cons_of_neg (by simp; omega), List.filter_cons_of_neg (by simp; omega), List.filter_cons_of_neg (by simp; omega), e _ (fun c hc => by have := hs.1 c hc; simp; omega), e _ (fun c hc => by have := hs.1 c hc; simp; omega), e _ (fun c hc => by have := hs.1 c hc; simp; omega)]
      rfl
/-- The changes of the pages below i, in order. -/
def outN (l : List Chi) (i : Nat) : List Chg := (srtC l).filter fun c => decide (c.1 < i)
def eqN (l : List Chi) (i : Nat) : List Chg := (l.map natC).filter fun c => decide (c.1 = i)
theorem perm_short {a b : List Chg} (h : a.Perm b) (hl : b.length ≤ 1) : a = b := by
  match b, hl with
  | [], _ => exact List.Perm.eq_nil h
  | [x], _ => exact List.perm_singleton.1 h
theorem eqN_short {n : Nat} {l : List Chi} (hr : ∀ c ∈ l, 0 ≤ c.1 ∧ c.1 < (n : Int)) (hd : (l.map Prod.fst).Nodup) (i : Nat) : (eqN l i).length ≤ 1 := by
  have h1 := nodup_nat hr hd
  have h2 : (eqN l i).Pairwise (fun a b => a.1 ≠ b.1) := h1.sublist List.filter_sublist
  match h : eqN l i with
  | [] => simp
  | [x] => simp
  | x :: y :: t =>
    rw [h, List.pairwise_cons] at h2
    have hx : x ∈ eqN l i := by rw [h]; simp
    have hy : y ∈ eqN l i := by rw [h]; simp
    have e1 := of_decide_eq_true (List.mem_filter.1 hx).2
    have e2 := of_decide_eq_true (List.mem_filter.1 hy).2
    exact absurd (by rw [e1, e2]) (h2.1 y (by simp))
theorem outN_succ {n : Nat} {l : List Chi} (hr : ∀ c ∈ l, 0 ≤ c.1 ∧ c.1 < (n : Int)) (hd : (l.map Prod.fst).Nodup) (i : Nat) : outN l (i + 1) = outN l i ++ eqN l i := by
  unfold outN
  rw [filter_lt_succ _ (srtC_sorted l)]
  congr 1
  exact perm_short ((srtC_perm l).filter _) (eqN_short hr hd i)
theorem outN_zero (l : List Chi) : outN l 0 = [] := by
  unfold outN
  rw [List.filter_eq_nil_iff]
  intro c _
  simp
theorem outN_all {n : Nat} {l : List Chi} (hr : ∀ c ∈ l, 0 ≤ c.1 ∧ c.1 < (n : Int)) : outN l n = srtC l := by
  unfold outN
  rw [List.filter_eq_self]
  intro c hc
  obtain ⟨d, hd, rfl⟩ := List.mem_map.1 ((srtC_perm l).subset hc)
  have := hr d hd
  exact decide_eq_true (by simp only [natC]; omega)
theorem eqN_hit (l : List Chi) (k i : Nat) (hk : k < l.length) (h : l[k].1.toNat = i) : eqN (l.take (k + 1)) i = eqN (l.take k) i ++ [(i, l[k].2)] := by
  unfold eqN
  rw [List.take_succ_eq_append_getElem hk, List.map_append, List.filter_append]
  congr 1
  simp [natC, h]
theorem eqN_miss (l : List Chi) (k i : Nat) (hk : k < l.length) (h : ¬ l[k].1.toNat = i) : eqN (l.take (k + 1)) i = eqN (l.take k) i := by
  unfold eqN
  rw [List.take_succ_eq_append_getElem hk, List.map_append, List.filter_append]
  simp [natC, h]
theorem eqN_nil (l : List Chi) (i : Nat) : eqN (l.take 0) i = [] := by simp [eqN]
/-- How many steps there are. -/
theorem outN_len (l : List Chi) (i : Nat) : (outN l i).length ≤ l.length := by
  unfold outN
  exact Nat.le_trans (List.length_filter_le _ _) (by rw [srtC_len]; exact Nat.le_refl _)
theorem eqN_len (l : List Chi) (k i : Nat) : (eqN (l.take k) i).length ≤ l.length := by
  unfold eqN
  refine Nat.le_trans (List.length_filter_le _ _) ?_
  rw [List.length_map, List.length_take]
  omega
theorem own_any {W : World} {base e sz k : Nat} {v : Value} {xs : List Value} (h : W.ownsRow base e sz v k xs) : ∃ a cap, v = .slice a k cap := by
  obtain ⟨a, cap, rfl, _⟩ := own_slice h
  exact ⟨a, cap, rfl⟩
/-- A slice that owns steps. -/
def StR (base : Nat) (W : World) (v : Value) (xs : List Stp) : Prop := ∃ a c, v = .slice a xs.length c ∧ W.ownsRow base 81 2 (.slice a xs.length c) xs.length (chiV (xs.map stC))
theorem StR.keep {base : Nat} {W W' : World} {v : Value} {xs : List Stp} (h : StR base W v xs) (hb : Below W.heap.size W W') : StR base W' v xs := by
  obtain ⟨a, c, rfl, ho⟩ := h
  exact ⟨a, c, rfl, own_keep ho (fun x hx => hb.block x (ho.lt x hx).2)⟩
theorem StR.nil (base : Nat) (W : World) : StR base W (.slice none 0 0) [] := ⟨none, 0, rfl, World.ownsRow_nil _ _ _ _⟩
theorem rlaid_s {w : World} {base : Nat} {v : Value} {xs : List Stp} (h : StR base w v xs) (hk : xs.length ≤ 100000) (hb : base ≤ w.heap.size) (p : Nat) (hp : p ≤ 100000) (s : ByteArray) (hs : s.size = 1024) :
    Calls Tryz.prog 35 #[v, .int .i64 (p : Int), .string s] w fun e w' => ∃ v', e = .returned v' ∧ StR base w' v' (xs ++ laidL p s) ∧ Below base w w' := by
  obtain ⟨a, c, rfl, ho⟩ := h
  refine (rlaid_any base a xs.length c xs ho hk hb p hp s hs).mono ?_
  rintro e w' ⟨a', c', rfl, ho', hb'⟩
  refine ⟨_, rfl, ⟨a', c', ?_, ?_⟩, hb'⟩
  · rw [List.length_append]; rfl
  · rw [List.length_append, List.map_append]
    exact ho'
theorem three_row (m : ByteArray) : chiV ([none, some (0, m), none].map stC) = [.int .i64 (-1), .string ⟨#[]⟩, .int .i64 0, .string m, .int .i64 (-1), .string ⟨#[]⟩] := rfl
theorem chiV_app (a b : List Chi) : chiV (a ++ b) = chiV a ++ chiV b := by simp [chiV]
theorem commitS_is (n : Nat) (l : List Chg) (m : ByteArray) : commitS n l m = (laysL 1 l ++ [none, some (0, m), none]) ++ laysL (1 + 4 * n) l ++ [none, some (0, nought0), none] := by
  unfold commitS finS markL
  rw [layL_is, layL_is]
  simp
set_option maxRecDepth 100000 in
set_option maxHeartbeats 4000000 in
theorem rcommit_any {w : World} (a : Option Addr) (len cap : Nat) (l : List Chi) (hl : Ci w a len cap l) (n : Nat) (hn : n ≤ 128) (hck : chk n l = 0) (hlen : len ≤ 12) :
    Calls Tryz.prog 13 #[.int .i64 (n : Int), .slice a len cap] w fun e w' => ∃ a' k' cap', e = .returned (.slice a' k' cap') ∧ k' = (commitS n (srtC l) (markOf (pagesL l))).length ∧ w'.ownsRow w.heap.size 81 2 (.slice a' k' cap') k' (chiV ((commitS n (srtC l) (markOf (pagesL l))).map stC)) ∧ Below w.heap.size w w' := by
  obtain ⟨hr, hd, hs⟩ := chk_zero hck
  obtain ⟨i0, hi, hz0, hz1, hz2⟩ := info_parts info81
  have hll := hl.1
  have hcap := hl.2.1
  have hcap2 := hl.2.2.1
  have HL : Hid (Ci w a len cap l) := hl
  have HR : Hid (∀ c ∈ l, 0 ≤ c.1 ∧ c.1 < (n : Int)) := hr
  have HS : Hid (∀ c ∈ l, c.2.size = 1024) := hs
  have HD : Hid (l.map Prod.fst).Nodup := hd
  have HM : Hid (∀ W, Below w.heap.size w W → Calls Tryz.prog 36 #[.slice a len cap] W fun e w' => e = .returned (.string (markOf (pagesL l))) ∧ Below W.heap.size W w') := fun W hW => rmark_any a len cap l (hl.below hW) n hn hr hd (by omega)
  have HM0 : Hid (∀ W, Calls Tryz.prog 36 #[.slice none 0 0] W fun e w' => e = .returned (.string nought) ∧ Below W.heap.size W w') := fun W => rmark_any none 0 0 [] ⟨rfl, Nat.le_refl _, by omega, by omega⟩ n hn (fun c hc => by simp at hc) (by simp) (by omega)
  obtain ⟨mk, hmk⟩ : ∃ mk, markOf (pagesL l) = mk := ⟨_, rfl⟩
  rw [hmk] at HM
  rw [hmk]
  clear hl hr hd hs hmk
  go_enter Tryz.func13, Tryz.ntmps13
  have HI : Hid (StR w.heap.size w (.slice none 0 0) (([] : List Stp) ++ laysL 1 (outN l 0)) ∧ Below w.heap.size w w) := by
    rw [outN_zero]
    exact ⟨StR.nil _ _, Below.refl _ _⟩
  go_wp2
  go_loopw [5, 6] (fun vo vi wr => ∃ i : Nat, i ≤ n ∧ vi = .int .i64 i ∧ StR w.heap.size wr vo (([] : List Stp) ++ laysL 1 (outN l i)) ∧ Below w.heap.size w wr) (fun _ vi _ => n - (intOf vi).toNat)
  case atStart => exact ⟨0, by omega, rfl, HI.out⟩
  case round =>
    clear HI
    obtain ⟨i, hin, rfl, hst, hbel⟩ := hrel
    by_cases hlt : i < n
    · have kk : (i : Int) < (n : Int) := by omega
      rw [← List.append_nil (outN l i), ← eqN_nil l i] at hst
      have HI2 : Hid (_ ∧ _) := And.intro hst hbel
      clear hst hbel
      go_wp2
      go_loopw [5, 7] (fun vo vk wr => ∃ k : Nat, k ≤ len ∧ vk = .int .i64 k ∧ StR w.heap.size wr vo (([] : List Stp) ++ laysL 1 (outN l i ++ eqN (l.take k) i)) ∧ Below w.heap.size w wr) (fun _ vk _ => len - (intOf vk).toNat)
      case atStart => exact ⟨0, by omega, rfl, HI2.out⟩
      case round =>
        clear HI2
        obtain ⟨k, hkl, rfl, hst, hbel⟩ := hrel
        by_cases hlt2 : k < len
        · have kk2 : (k : Int) < (len : Int) := by omega
          have hil : k < l.length := by omega
          obtain ⟨b, o, rfl, hb, hcell⟩ := HL.out.2.2.2 (by omega)
          obtain ⟨c1, c2⟩ := hcell k hil
          have hmem : l[k] ∈ l := List.getElem_mem hil
          have hpr := HR.out _ hmem
          have hss := HS.out _ hmem
          obtain ⟨P, hP⟩ := Int.eq_ofNat_of_zero_le hpr.1
          obtain ⟨s, hse⟩ : ∃ s, l[k].2 = s := ⟨_, rfl⟩
          have hPn : l[k].1.toNat = P := by rw [hP]; simp
          rw [hP, ← hbel.cell (p := ⟨b, o + k * 2, none⟩) hb] at c1
          rw [hse, ← hbel.cell (p := ⟨b, o + k * 2 + 1, none⟩) hb] at c2
          rw [hse] at hss
          by_cases hpi : P = i
          · subst hpi
            have HT : Hid (eqN (l.take (k + 1)) P = eqN (l.take k) P ++ [(P, s)]) := by
              show _ = _
              rw [eqN_hit l k P hil hPn, hse]
            have hlx : (([] : List Stp) ++ laysL 1 (outN l P ++ eqN (l.take k) P)).length ≤ 100000 := by
              have h1 := outN_len l P
              have h2 := eqN_len l k P
              simp only [List.length_append, laysL_len, List.length_nil]
              omega
            have HLA := rlaid_s hst hlx hbel.size (1 + 4 * P) (by omega) s hss
            rw [show ((1 + 4 * P : Nat) : Int) = 1 + 4 * (P : Int) by omega] at HLA
            have HB : Hid (Below w.heap.size w wr) := hbel
            clear hst hbel hcell hse hlx hPn
            go_wp2_with fail
            refine HLA.mono ?_
            rintro e w3 ⟨v3, rfl, hst3, hb3⟩
            have HN : Hid (StR w.heap.size w3 v3 (([] : List Stp) ++ laysL 1 (outN l P ++ eqN (l.take (k + 1)) P)) ∧ Below w.heap.size w w3) := by
              rw [HT.out, ← List.append_assoc, laysL_snoc, ← List.append_assoc]
              exact ⟨hst3, HB.out.trans hb3⟩
            clear HLA hst3 hb3 HB
            go_wp2
            exact ⟨⟨k + 1, by omega, by go_num, HN.out⟩, by simp [intOf]; omega⟩
          · rw [← eqN_miss l k i hil (by rw [hPn]; exact hpi)] at hst
            have HN : Hid (_ ∧ _) := And.intro hst hbel
            have kpi : ¬ (P : Int) = (i : Int) := by omega
            clear hst hbel hcell hpi hPn
            go_wp2
            exact ⟨⟨k + 1, by omega, by go_num, HN.out⟩, by simp [intOf]; omega⟩
        · obtain rfl : k = len := by omega
          have kk2 : ¬ (k : Int) < (k : Int) := by omega
          rw [List.take_of_length_le (by omega), ← outN_succ HR.out HD.out] at hst
          have HN : Hid (_ ∧ _) := And.intro hst hbel
          clear hst hbel
          go_wp2
          exact ⟨⟨i + 1, by omega, by go_num, HN.out⟩, by simp [intOf]; omega⟩
    · obtain rfl : i = n := by omega
      have kk : ¬ (i : Int) < (i : Int) := by omega
      rw [outN_all HR.out] at hst
      obtain ⟨ax, cx, hvx, hox⟩ := hst
      subst hvx
      have hlx : ((([] : List Stp) ++ laysL 1 (srtC l))).length ≤ 100000 := by
        simp only [List.length_append, laysL_len, List.length_nil, srtC_len]
        omega
      obtain ⟨kx, hkx⟩ : ∃ kx, ((([] : List Stp) ++ laysL 1 (srtC l))).length = kx := ⟨_, rfl⟩
      rw [hkx] at hox hlx
      rw [hkx]
      have HOX : Hid (wr.ownsRow w.heap.size 81 2 (.slice ax kx cx) kx (chiV (((([] : List Stp) ++ laysL 1 (srtC l))).map stC))) := hox
      have HBX : Hid (Below w.heap.size w wr) := hbel
      have HMM := HM.out wr HBX.out
      have HKX : Hid (((([] : List Stp) ++ laysL 1 (srtC l))).length = kx) := hkx
      obtain ⟨XS, hXS⟩ : ∃ XS, (([] : List Stp) ++ laysL 1 (srtC l)) = XS := ⟨_, rfl⟩
      rw [hXS] at HOX HKX
      have HXS : Hid ((([] : List Stp) ++ laysL 1 (srtC l)) = XS) := hXS
      clear hox hbel hkx hXS
      go_wp2_with fail
      refine HMM.mono ?_
      rintro e w5 ⟨rfl, hb5⟩
      have HO5 : Hid (w5.ownsRow w.heap.size 81 2 (.slice ax kx cx) kx (chiV (XS.map stC))) := own_keep HOX.out (fun x hx => hb5.block x (HOX.out.lt x hx).2)
      have HB5 : Hid (Below w.heap.size w w5) := HBX.out.trans (hb5.mono HBX.out.size)
      have hbs5 := HB5.out.size
      clear HMM hb5 HOX HBX
      go_wp2_with (at_builtin; refine wpList_append_lies _ rfl _ _ 50 rfl w.heap.size 81 i0 (.agg #[.int .i64 0, .string ByteArray.empty]) 2 24 Tryz.underlying50 hi hz0 hz1 hz2 rfl (by decide) _ kx (chiV (XS.map stC)) rfl (HO5.out.alloc _) ⟨w5.heap.size, 0, none⟩ 3 3 [.int .i64 (-1), .string ⟨#[]⟩, .int .i64 0, .string mk, .int .i64 (-1), .string ⟨#[]⟩] rfl rfl (World.news_of_block (heap_alloc_new w5 _)) (by simp [Value.oneCell']) (by omega) (by unfold maxLen; omega) (by omega) (by simp; omega) _ rfl ?_)
      intro g6 c6 w6 hown6 hgrow6 hg6 hlt6
      have HB6 : Hid (Below w.heap.size w w6) := Below.grown (HB5.out.alloc HB5.out.size _) hgrow6 (by simp; omega) (fun j hj => (HO5.out.lt _ hj).1)
      have hlen6 : (XS ++ [none, some (0, mk), none]).length = kx + 3 := by rw [List.length_append, HKX.out]; rfl
      have HN6 : Hid (w6.ownsRow w.heap.size 81 2 (.slice (some ⟨g6, 0, none⟩) (kx + 3) c6) (kx + 3) (chiV ((XS ++ [none, some (0, mk), none]).map stC))) := by
        rw [List.map_append, chiV_app, three_row]
        exact hown6
      clear hown6 hgrow6 hg6 hlt6 HO5 HB5
      have HI : Hid (StR w.heap.size w6 (.slice (some ⟨g6, 0, none⟩) (kx + 3) c6) (((([] : List Stp) ++ laysL 1 (srtC l)) ++ [none, some (0, mk), none]) ++ laysL (1 + 4 * i) (outN l 0)) ∧ Below w.heap.size w w6) := by
        refine ⟨?_, HB6.out⟩
        rw [outN_zero, show laysL (1 + 4 * i) [] = [] from rfl, List.append_nil, HXS.out]
        refine ⟨some ⟨g6, 0, none⟩, c6, by rw [hlen6], ?_⟩
        rw [hlen6]
        exact HN6.out
      clear HB6 HN6 hlen6 HKX HXS hlx
      obtain ⟨n, hni⟩ : ∃ n, n = i := ⟨_, rfl⟩
      subst hni
      go_wp2
      go_loopw [5, 8] (fun vo vi wr => ∃ i : Nat, i ≤ n ∧ vi = .int .i64 i ∧ StR w.heap.size wr vo (((([] : List Stp) ++ laysL 1 (srtC l)) ++ [none, some (0, mk), none]) ++ laysL (1 + 4 * n) (outN l i)) ∧ Below w.heap.size w wr) (fun _ vi _ => n - (intOf vi).toNat)
      case atStart => exact ⟨0, by omega, rfl, HI.out⟩
      case round =>
        clear HI
        obtain ⟨i, hin, rfl, hst, hbel⟩ := hrel
        by_cases hlt : i < n
        · have kk : (i : Int) < (n : Int) := by omega
          rw [← List.append_nil (outN l i), ← eqN_nil l i] at hst
          have HI2 : Hid (_ ∧ _) := And.intro hst hbel
          clear hst hbel
          go_wp2
          go_loopw [5, 9] (fun vo vk wr => ∃ k : Nat, k ≤ len ∧ vk = .int .i64 k ∧ StR w.heap.size wr vo (((([] : List Stp) ++ laysL 1 (srtC l)) ++ [none, some (0, mk), none]) ++ laysL (1 + 4 * n) (outN l i ++ eqN (l.take k) i)) ∧ Below w.heap.size w wr) (fun _ vk _ => len - (intOf vk).toNat)
          case atStart => exact ⟨0, by omega, rfl, HI2.out⟩
          case round =>
            clear HI2
            obtain ⟨k, hkl, rfl, hst, hbel⟩ := hrel
            by_cases hlt2 : k < len
            · have kk2 : (k : Int) < (len : Int) := by omega
              have hil : k < l.length := by omega
              obtain ⟨b, o, rfl, hb, hcell⟩ := HL.out.2.2.2 (by omega)
              obtain ⟨c1, c2⟩ := hcell k hil
              have hmem : l[k] ∈ l := List.getElem_mem hil
              have hpr := HR.out _ hmem
              have hss := HS.out _ hmem
              obtain ⟨P, hP⟩ := Int.eq_ofNat_of_zero_le hpr.1
              obtain ⟨s, hse⟩ : ∃ s, l[k].2 = s := ⟨_, rfl⟩
              have hPn : l[k].1.toNat = P := by rw [hP]; simp
              rw [hP, ← hbel.cell (p := ⟨b, o + k * 2, none⟩) hb] at c1
              rw [hse, ← hbel.cell (p := ⟨b, o + k * 2 + 1, none⟩) hb] at c2
              rw [hse] at hss
              by_cases hpi : P = i
              · subst hpi
                have HT : Hid (eqN (l.take (k + 1)) P = eqN (l.take k) P ++ [(P, s)]) := by
                  show _ = _
                  rw [eqN_hit l k P hil hPn, hse]
                have hlx : (((([] : List Stp) ++ laysL 1 (srtC l)) ++ [none, some (0, mk), none]) ++ laysL (1 + 4 * n) (outN l P ++ eqN (l.take k) P)).length ≤ 100000 := by
                  have h1 := outN_len l P
                  have h2 := eqN_len l k P
                  simp only [List.length_append, laysL_len, List.length_cons, List.length_nil, srtC_len]
                  omega
                have HLA := rlaid_s hst hlx hbel.size ((1 + 4 * n) + 4 * P) (by omega) s hss
                rw [show (((1 + 4 * n) + 4 * P : Nat) : Int) = 1 + 4 * ((n : Int) + (P : Int)) by omega] at HLA
                have HB : Hid (Below w.heap.size w wr) := hbel
                clear hst hbel hcell hse hlx hPn
                go_wp2_with fail
                refine HLA.mono ?_
                rintro e w3 ⟨v3, rfl, hst3, hb3⟩
                have HN : Hid (StR w.heap.size w3 v3 (((([] : List Stp) ++ laysL 1 (srtC l)) ++ [none, some (0, mk), none]) ++ laysL (1 + 4 * n) (outN l P ++ eqN (l.take (k + 1)) P)) ∧ Below w.heap.size w w3) := by
                  rw [HT.out, ← List.append_assoc, laysL_snoc, ← List.append_assoc]
                  exact ⟨hst3, HB.out.trans hb3⟩
                clear HLA hst3 hb3 HB
                go_wp2
                exact ⟨⟨k + 1, by omega, by go_num, HN.out⟩, by simp [intOf]; omega⟩
              · rw [← eqN_miss l k i hil (by rw [hPn]; exact hpi)] at hst
                have HN : Hid (_ ∧ _) := And.intro hst hbel
                have kpi : ¬ (P : Int) = (i : Int) := by omega
                clear hst hbel hcell hpi hPn
                go_wp2
                exact ⟨⟨k + 1, by omega, by go_num, HN.out⟩, by simp [intOf]; omega⟩
            · obtain rfl : k = len := by omega
              have kk2 : ¬ (k : Int) < (k : Int) := by omega
              rw [List.take_of_length_le (by omega), ← outN_succ HR.out HD.out] at hst
              have HN : Hid (_ ∧ _) := And.intro hst hbel
              clear hst hbel
              go_wp2
              exact ⟨⟨i + 1, by omega, by go_num, HN.out⟩, by simp [intOf]; omega⟩
        · obtain rfl : i = n := by omega
          have kk : ¬ (i : Int) < (i : Int) := by omega
          rw [outN_all HR.out] at hst
          obtain ⟨ax, cx, hvx, hox⟩ := hst
          subst hvx
          have hlx : ((((([] : List Stp) ++ laysL 1 (srtC l)) ++ [none, some (0, mk), none]) ++ laysL (1 + 4 * i) (srtC l))).length ≤ 100000 := by
            simp only [List.length_append, laysL_len, List.length_cons, List.length_nil, srtC_len]
            omega
          obtain ⟨kx, hkx⟩ : ∃ kx, ((((([] : List Stp) ++ laysL 1 (srtC l)) ++ [none, some (0, mk), none]) ++ laysL (1 + 4 * i) (srtC l))).length = kx := ⟨_, rfl⟩
          rw [hkx] at hox hlx
          rw [hkx]
          have HOX : Hid (wr.ownsRow w.heap.size 81 2 (.slice ax kx cx) kx (chiV (((((([] : List Stp) ++ laysL 1 (srtC l)) ++ [none, some (0, mk), none]) ++ laysL (1 + 4 * i) (srtC l))).map stC))) := hox
          have HBX : Hid (Below w.heap.size w wr) := hbel
          have HMM := HM0.out wr
          have HKX : Hid (((((([] : List Stp) ++ laysL 1 (srtC l)) ++ [none, some (0, mk), none]) ++ laysL (1 + 4 * i) (srtC l))).length = kx) := hkx
          obtain ⟨XS, hXS⟩ : ∃ XS, (((([] : List Stp) ++ laysL 1 (srtC l)) ++ [none, some (0, mk), none]) ++ laysL (1 + 4 * i) (srtC l)) = XS := ⟨_, rfl⟩
          rw [hXS] at HOX HKX
          have HXS : Hid ((((([] : List Stp) ++ laysL 1 (srtC l)) ++ [none, some (0, mk), none]) ++ laysL (1 + 4 * i) (srtC l)) = XS) := hXS
          clear hox hbel hkx hXS
          go_wp2_with fail
          refine HMM.mono ?_
          rintro e w5 ⟨rfl, hb5⟩
          have HO5 : Hid (w5.ownsRow w.heap.size 81 2 (.slice ax kx cx) kx (chiV (XS.map stC))) := own_keep HOX.out (fun x hx => hb5.block x (HOX.out.lt x hx).2)
          have HB5 : Hid (Below w.heap.size w w5) := HBX.out.trans (hb5.mono HBX.out.size)
          have hbs5 := HB5.out.size
          clear HMM hb5 HOX HBX
          go_wp2_with (at_builtin; refine wpList_append_lies _ rfl _ _ 50 rfl w.heap.size 81 i0 (.agg #[.int .i64 0, .string ByteArray.empty]) 2 24 Tryz.underlying50 hi hz0 hz1 hz2 rfl (by decide) _ kx (chiV (XS.map stC)) rfl (HO5.out.alloc _) ⟨w5.heap.size, 0, none⟩ 3 3 [.int .i64 (-1), .string ⟨#[]⟩, .int .i64 0, .string nought, .int .i64 (-1), .string ⟨#[]⟩] rfl rfl (World.news_of_block (heap_alloc_new w5 _)) (by simp [Value.oneCell']) (by omega) (by unfold maxLen; omega) (by omega) (by simp; omega) _ rfl ?_)
          intro g6 c6 w6 hown6 hgrow6 hg6 hlt6
          have HB6 : Hid (Below w.heap.size w w6) := Below.grown (HB5.out.alloc HB5.out.size _) hgrow6 (by simp; omega) (fun j hj => (HO5.out.lt _ hj).1)
          have hlen6 : (XS ++ [none, some (0, nought), none]).length = kx + 3 := by rw [List.length_append, HKX.out]; rfl
          have HN6 : Hid (w6.ownsRow w.heap.size 81 2 (.slice (some ⟨g6, 0, none⟩) (kx + 3) c6) (kx + 3) (chiV ((XS ++ [none, some (0, nought), none]).map stC))) := by
            rw [List.map_append, chiV_app, three_row]
            exact hown6
          clear hown6 hgrow6 hg6 hlt6 HO5 HB5
          have HEQ : Hid (commitS i (srtC l) mk = XS ++ [none, some (0, nought), none]) := by
            show _ = _
            rw [commitS_is, ← HXS.out, List.nil_append]
            rfl
          go_wp2
          go_ret
          refine ⟨some ⟨g6, 0, none⟩, kx + 3, c6, rfl, ?_, ?_, HB6.out⟩
          · rw [HEQ.out, hlen6]
          · rw [HEQ.out]
            exact HN6.out
end Go.Proofs.YtaacedaehbaodaaGreat
