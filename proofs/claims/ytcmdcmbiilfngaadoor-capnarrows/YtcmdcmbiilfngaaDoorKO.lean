/- Tokens that are minted and narrowed again and again: mathematics, and a walk over the statements' made. -/
import Derived.Test.YtcmdcmbiilfngaaDoorKN
namespace Go.Proofs.YtcmdcmbiilfngaaDoor
open Go.RowKit
/-- Minted, and narrowed by the first i, as far as it goes. -/
def madeF (k : List UInt8) (t n : Int) (l : List Cv) : Nat → Tk × Nat
  | 0 => mintT k t n
  | i + 1 => if (madeF k t n l i).2 = 0 then (match l[i]? with | none => madeF k t n l i | some c => narrowT (madeF k t n l i).1 c) else madeF k t n l i
theorem madeF_step {k : List UInt8} {t n : Int} {l : List Cv} {i : Nat} {c : Cv} (hc : l[i]? = some c) (h : (madeF k t n l i).2 = 0) : madeF k t n l (i + 1) = narrowT (madeF k t n l i).1 c := by
  conv => lhs; unfold madeF
  rw [if_pos h, hc]
theorem madeF_stop {k : List UInt8} {t n : Int} {l : List Cv} {i : Nat} (h : (madeF k t n l i).2 ≠ 0) : ∀ j, madeF k t n l (i + j) = madeF k t n l i
  | 0 => rfl
  | j + 1 => by
    have ih := madeF_stop h j
    rw [← Nat.add_assoc]
    conv => lhs; unfold madeF
    rw [ih, if_neg h]
def madeB (t n : Int) (l : List Cv) : Bool := knownT t n && decide (l.length ≤ 8) && l.all Cv.ok
theorem madeB_iff {t n : Int} {l : List Cv} : madeB t n l = true ↔ knownT t n = true ∧ l.length ≤ 8 ∧ ∀ c ∈ l, c.ok = true := by simp [madeB, and_assoc]
def madeR (k : List UInt8) (t n : Int) (l : List Cv) : Tk := ⟨t, n, l, strOf (sealT k t n l)⟩
theorem madeR_may {k : List UInt8} {t n : Int} {l : List Cv} (h : madeB t n l = true) : mayT (madeR k t n l) = true := by
  obtain ⟨h1, h2, h3⟩ := madeB_iff.1 h
  exact may_iff.2 ⟨h1, h2, by show (strOf (sealT k t n l)).size = 32; rw [strOf_size, seal_len], h3⟩
theorem madeF_good {k : List UInt8} {t n : Int} {l : List Cv} (hk : knownT t n = true) : ∀ i, i ≤ l.length → i ≤ 8 → (∀ c ∈ l.take i, c.ok = true) → madeF k t n l i = (madeR k t n (l.take i), 0)
  | 0, _, _, _ => by
    unfold madeF mintT
    rw [if_pos hk]
    rfl
  | i + 1, hi, h8, hok => by
    obtain ⟨c, hc⟩ : ∃ c, l[i]? = some c := ⟨_, List.getElem?_eq_getElem (by omega)⟩
    have hts := take_snocK hc
    have hok0 : ∀ c ∈ l.take i, c.ok = true := fun d hd => hok d (by rw [hts]; exact List.mem_append_left _ hd)
    have hcok : c.ok = true := hok c (by rw [hts]; simp)
    have ih := madeF_good (k := k) hk i (by omega) (by omega) hok0
    have hm : mayT (madeR k t n (l.take i)) = true := madeR_may (madeB_iff.2 ⟨hk, by rw [List.length_take]; omega, hok0⟩)
    rw [madeF_step hc (by rw [ih]), ih]
    unfold narrowT
    rw [if_pos ⟨hm, hcok⟩, if_neg (by show (l.take i).length ≠ 8; rw [List.length_take]; omega)]
    rw [hts]
    unfold madeR
    simp only
    rw [seal_snoc]
    rfl
theorem narrow_bad {t : Tk} {c : Cv} (h : (narrowT t c).2 ≠ 0) : (narrowT t c).1 = zeroT := by
  unfold narrowT at h ⊢
  split
  · split
    · rfl
    · next h1 h2 => rw [if_pos h1, if_neg h2] at h; exact absurd rfl h
  · rfl
theorem madeF_bad {k : List UInt8} {t n : Int} {l : List Cv} : ∀ i, (madeF k t n l i).2 ≠ 0 → (madeF k t n l i).1 = zeroT
  | 0, h => by
    unfold madeF mintT at h ⊢
    split
    · next h1 => rw [if_pos h1] at h; exact absurd rfl h
    · rfl
  | i + 1, h => by
    by_cases h0 : (madeF k t n l i).2 = 0
    · cases hc : l[i]? with
      | none =>
        have e : madeF k t n l (i + 1) = madeF k t n l i := by conv => lhs; unfold madeF; rw [if_pos h0, hc]
        rw [e] at h
        exact absurd h0 h
      | some c =>
        rw [madeF_step hc h0] at h ⊢
        exact narrow_bad h
    · have e := madeF_stop h0 1
      rw [e] at h ⊢
      exact madeF_bad i h
theorem madeF_fail {k : List UInt8} {t n : Int} {l : List Cv} (h : madeB t n l = false) : (madeF k t n l l.length).2 ≠ 0 := by
  cases hk : knownT t n with
  | false =>
    have h0 : (madeF k t n l 0).2 ≠ 0 := by unfold madeF mintT; rw [if_neg (by rw [hk]; decide)]; decide
    have e := madeF_stop h0 l.length
    rw [Nat.zero_add] at e
    rw [e]
    exact h0
  | true =>
    by_cases hall : ∀ c ∈ l.take 8, c.ok = true
    · by_cases hl : l.length ≤ 8
      · exfalso
        have : madeB t n l = true := madeB_iff.2 ⟨hk, hl, by rw [List.take_of_length_le hl] at hall; exact hall⟩
        rw [h] at this
        cases this
      · have h8 := madeF_good (k := k) hk 8 (by omega) (by omega) hall
        obtain ⟨c, hc⟩ : ∃ c, l[8]? = some c := ⟨_, List.getElem?_eq_getElem (by omega)⟩
        have h9 := madeF_step (k := k) (t := t) (n := n) hc (by rw [h8])
        have hne : (madeF k t n l 9).2 ≠ 0 := by
          rw [h9, h8]
          unfold narrowT
          split
          · rw [if_pos (by show (l.take 8).length = 8; rw [List.length_take]; omega)]; decide
          · decide
        have e := madeF_stop hne (l.length - 9)
        rw [show 9 + (l.length - 9) = l.length by omega] at e
        rw [e]
        exact hne
    · -- the first that isn't good
      have key : ∀ i, i ≤ 8 → i ≤ l.length → (∀ c ∈ l.take i, c.ok = true) ∨ (madeF k t n l i).2 ≠ 0 := by
        intro i
        induction i with
        | zero => intro _ _; exact .inl (by simp)
        | succ i ih =>
          intro h8 hl
          rcases ih (by omega) (by omega) with hg | hb
          · obtain ⟨c, hc⟩ : ∃ c, l[i]? = some c := ⟨_, List.getElem?_eq_getElem (by omega)⟩
            cases hcok : c.ok with
            | true => exact .inl (all_take hc hg hcok)
            | false =>
              refine .inr ?_
              have hgi := madeF_good (k := k) hk i (by omega) (by omega) hg
              rw [madeF_step hc (by rw [hgi])]
              unfold narrowT
              rw [if_neg (fun h => by rw [hcok] at h; exact absurd h.2 (by decide))]
              decide
          · exact .inr (by rw [madeF_stop hb 1]; exact hb)
      rcases key (min 8 l.length) (by omega) (by omega) with hg | hb
      · exfalso
        apply hall
        have e : l.take (min 8 l.length) = l.take 8 := by
          by_cases h8 : 8 ≤ l.length
          · rw [Nat.min_eq_left h8]
          · rw [Nat.min_eq_right (by omega), List.take_of_length_le (Nat.le_refl _), List.take_of_length_le (by omega)]
        rw [e] at hg
        exact hg
      · have e := madeF_stop hb (l.length - min 8 l.length)
        rw [show min 8 l.length + (l.length - min 8 l.length) = l.length by omega] at e
        rw [e]
        exact hb
/-- What made tells. -/
def madeT (k : List UInt8) (t n : Int) (l : List Cv) : Tk × Bool := if madeB t n l = true then (madeR k t n l, true) else (zeroT, false)
theorem madeT_of {k : List UInt8} {t n : Int} {l : List Cv} : madeT k t n l = ((madeF k t n l l.length).1, decide ((madeF k t n l l.length).2 = 0)) := by
  unfold madeT
  cases h : madeB t n l with
  | true =>
    obtain ⟨h1, h2, h3⟩ := madeB_iff.1 h
    have e := madeF_good (k := k) h1 l.length (Nat.le_refl _) h2 (by rw [List.take_of_length_le (Nat.le_refl _)]; exact h3)
    rw [List.take_of_length_le (Nat.le_refl _)] at e
    rw [e]
    rfl
  | false =>
    have h1 := madeF_fail (k := k) h
    rw [madeF_bad _ h1, decide_eq_false h1]
    rfl
/-- A token and a word of yes or no that are handed on; its caveats are new. -/
def MdOw (w : World) (r : Tk × Bool) (e : Ending) (w' : World) : Prop := ∃ (a : Option Addr) (n c : Nat), e = .returned (.tuple #[.agg #[.int .i64 r.1.tenant, .int .i64 r.1.number, .slice a n c, .string r.1.sig], .bool r.2]) ∧ Rw (fun x => w.heap.size ≤ x) w' 35 3 a n c (cvR r.1.cavs) ∧ Below w.heap.size w w'
/-- A token and a word of yes or no that are handed on. -/
def MdTo (w : World) (r : Tk × Bool) (e : Ending) (w' : World) : Prop := ∃ (a : Option Addr) (n c : Nat), e = .returned (.tuple #[.agg #[.int .i64 r.1.tenant, .int .i64 r.1.number, .slice a n c, .string r.1.sig], .bool r.2]) ∧ Kw w' a n c r.1.cavs ∧ Below w.heap.size w w'
theorem narrow_paths {t : Tk} {c : Cv} {M : Nat} (h : ∀ d ∈ t.cavs, d.path.size ≤ M) (hc : c.path.size ≤ M) : ∀ d ∈ (narrowT t c).1.cavs, d.path.size ≤ M := by
  unfold narrowT
  split
  · split
    · intro d hd; cases hd
    · intro d hd
      rcases List.mem_append.1 hd with hd | hd
      · exact h d hd
      · rw [List.mem_singleton.1 hd]; exact hc
  · intro d hd; cases hd
theorem madeF_paths {k : List UInt8} {t n : Int} {l : List Cv} {M : Nat} (h : ∀ d ∈ l, d.path.size ≤ M) : ∀ i, ∀ d ∈ (madeF k t n l i).1.cavs, d.path.size ≤ M
  | 0 => by
    unfold madeF mintT
    split <;> intro d hd <;> cases hd
  | i + 1 => by
    by_cases h0 : (madeF k t n l i).2 = 0
    · cases hc : l[i]? with
      | none =>
        have e : madeF k t n l (i + 1) = madeF k t n l i := by conv => lhs; unfold madeF; rw [if_pos h0, hc]
        rw [e]
        exact madeF_paths h i
      | some c =>
        rw [madeF_step hc h0]
        exact narrow_paths (madeF_paths h i) (h c (List.mem_of_getElem? hc))
    · rw [madeF_stop h0 1]
      exact madeF_paths h i
set_option maxRecDepth 100000 in
set_option maxHeartbeats 4000000 in
theorem made_own (k : ByteArray) (t n : Int) {w : World} {a : Option Addr} {ln cp : Nat} {l : List Cv} (h : Kw w a ln cp l) (hp : ∀ c ∈ l, c.path.size ≤ 9223372036854775807) (hk : k.size ≤ 1000000) (hL : Laid w) : Calls Tryd.prog 23 #[.string k, .int .i64 t, .int .i64 n, .slice a ln cp] w fun e w' => MdOw w (madeT k.data.toList t n l) e w' := by
  have hl := h.len
  have hmx := h.max
  obtain ⟨pb, hpb⟩ : ∃ pb, w.heap.size = pb := ⟨_, rfl⟩
  obtain ⟨V1, hV1, r1, hb1⟩ := box_tk (w := w) 0 0 none 0 0 ⟨#[]⟩
  rw [hpb] at r1
  have HM := mint_any k t n V1 hk (hL.below hb1)
  have HB : Hid (Below w.heap.size w V1 ∧ w.heap.size = pb ∧ V1.heap.size = pb + 1) := ⟨hb1, hpb, by rw [← hV1, ← hpb]; simp⟩
  have HK : Hid (∀ W, Below V1.heap.size V1 W → W.heap[pb]? = some (.cells #[.int .i64 0, .int .i64 0, .slice none 0 0, .string ⟨#[]⟩] 25 (0, 0))) := fun W hW => (hW.block pb (lt_of_some r1)).trans r1
  have HR : Hid ((∀ W, Below w.heap.size w W → Kw W a ln cp l ∧ Laid W) ∧ l.length = ln ∧ ∀ c ∈ l, c.path.size ≤ 9223372036854775807) := ⟨fun W hW => ⟨h.below hW, hL.below hW⟩, hl, hp⟩
  obtain ⟨⟨⟨t1, t2, t3, t4⟩, te⟩, hr⟩ : ∃ r, madeF k.data.toList t n l 0 = r := ⟨_, rfl⟩
  have hr0 : mintT k.data.toList t n = (⟨t1, t2, t3, t4⟩, te) := hr
  rw [hr0] at HM
  have H0 : Hid (madeF k.data.toList t n l 0 = (⟨t1, t2, t3, t4⟩, te)) := hr
  clear r1 hb1 h hl hp hL hr hr0
  go_enter Tryd.func23, Tryd.ntmps23
  go_wp2_with fail
  refine HM.mono ?_
  rintro e V2 ⟨a2, n2, c2, rfl, ho2, hb2⟩
  simp only
  obtain ⟨tb, htb⟩ : ∃ tb, V2.heap.size = tb := ⟨_, rfl⟩
  obtain ⟨V3, hV3, r3, hb3⟩ := box_tk (w := V2) t1 t2 a2 n2 c2 t4
  rw [htb] at r3
  have H3 : Hid (V3.heap[tb]? = some (.cells #[.int .i64 t1, .int .i64 t2, .slice a2 n2 c2, .string t4] 25 (0, 0)) ∧ Below V1.heap.size V1 V3 ∧ Rw (fun x => pb < x) V3 35 3 a2 n2 c2 (cvR t3) ∧ pb < tb) := ⟨r3, hb2.trans (hb3.mono hb2.size), (Rw.own ho2 (fun x hx => by have := HB.out; omega)).below hb3, by have := hb2.size; have := HB.out; omega⟩
  clear HM ho2 hb2 hb3 r3
  go_wp2
  go_loopw [11, 12] (fun ve vi wr => ∃ (i : Nat) (tk : Tk) (te : Nat) (a' : Option Addr) (n' c' : Nat), i ≤ ln ∧ vi = .int .i64 i ∧ ve = .int .i64 (te : Int) ∧ madeF k.data.toList t n l i = (tk, te) ∧ wr.heap[tb]? = some (.cells #[.int .i64 tk.tenant, .int .i64 tk.number, .slice a' n' c', .string tk.sig] 25 (0, 0)) ∧ Rw (fun x => pb < x) wr 35 3 a' n' c' (cvR tk.cavs) ∧ Below V1.heap.size V1 wr) (fun _ vi _ => ln - (intOf vi).toNat)
  case atStart => exact ⟨0, ⟨t1, t2, t3, t4⟩, te, a2, n2, c2, by omega, rfl, rfl, H0.out, H3.out.1, H3.out.2.2.1, H3.out.2.1⟩
  case round =>
  obtain ⟨i, tk, te, a', n', c', hi, rfl, rfl, hmf, hrow, hkw, hbw⟩ := hrel
  obtain ⟨u1, u2, u3, u4⟩ := tk
  simp only at hrow hkw
  obtain ⟨y0, y1, y2, y3, _⟩ := row4 hrow
  have hbw0 : Below w.heap.size w wr := HB.out.1.trans (hbw.mono HB.out.1.size)
  by_cases hgo : i < ln ∧ te = 0
  · obtain ⟨hlt, hte⟩ := hgo
    subst hte
    have kk : (i : Int) < (ln : Int) := by omega
    obtain ⟨ab, ao, rfl, _, hc⟩ := (HR.out.1 wr hbw0).1.at (by omega)
    obtain ⟨⟨c1, c2, c3⟩, hci⟩ : ∃ c, l[i]? = some c := ⟨_, List.getElem?_eq_getElem (by have := HR.out.2.1; omega)⟩
    have hcp := HR.out.2.2 _ (List.mem_of_getElem? hci)
    have hms : madeF k.data.toList t n l (i + 1) = narrowT ⟨u1, u2, u3, u4⟩ ⟨c1, c2, c3⟩ := by rw [madeF_step hci (by rw [hmf]), hmf]
    have hup : ∀ d ∈ u3, d.path.size ≤ 9223372036854775807 := by
      have h5 := madeF_paths (k := k.data.toList) (t := t) (n := n) HR.out.2.2 i
      rw [hmf] at h5
      exact h5
    obtain ⟨⟨⟨r1, r2, r3, r4⟩, re⟩, hrr⟩ : ∃ r, narrowT ⟨u1, u2, u3, u4⟩ ⟨c1, c2, c3⟩ = r := ⟨_, rfl⟩
    have HNA : Hid (Calls Tryd.prog 15 #[.agg #[.int .i64 u1, .int .i64 u2, .slice a' n' c', .string u4], .agg #[.string c1, .int .i64 c2, .int .i64 c3]] wr.drew fun e w' => TkTo wr.drew (⟨r1, r2, r3, r4⟩, re) e w') := by
      have h5 := narrow_any u1 u2 u4 ⟨c1, c2, c3⟩ wr.drew (Kw.below (Rw.mono hkw (fun _ _ _ => trivial)) (Below.refl _ wr).drew) hup hcp ((HR.out.1 wr hbw0).2.below (Below.refl _ wr).drew)
      rw [hrr] at h5
      exact h5
    have HC6 : Hid (∀ W, Below w.heap.size w W → W.cell? ⟨ab, ao + i * 3, none⟩ = some (.string c1) ∧ W.cell? ⟨ab, ao + i * 3 + 1, none⟩ = some (.int .i64 c2) ∧ W.cell? ⟨ab, ao + i * 3 + 2, none⟩ = some (.int .i64 c3)) := fun W hW => by
      obtain ⟨ab', ao', e, _, hc'⟩ := (HR.out.1 W hW).1.at (by omega)
      cases e
      exact hc' i _ hci
    have HQ : Hid (∀ W, Below wr.heap.size wr W → W.cell? ⟨ab, ao + i * 3, none⟩ = some (.string c1) ∧ W.cell? ⟨ab, ao + i * 3 + 1, none⟩ = some (.int .i64 c2) ∧ W.cell? ⟨ab, ao + i * 3 + 2, none⟩ = some (.int .i64 c3)) := fun W hW => HC6.out W (hbw0.trans (hW.mono hbw0.size))
    have H4 : Hid (wr.heap[tb]? = some (.cells #[.int .i64 u1, .int .i64 u2, .slice a' n' c', .string u4] 25 (0, 0)) ∧ Below V1.heap.size V1 wr ∧ madeF k.data.toList t n l (i + 1) = (⟨r1, r2, r3, r4⟩, re)) := ⟨hrow, hbw, by rw [hms, hrr]⟩
    have hpt : pb < tb := H3.out.2.2.2
    have HB2 : Hid (Below w.heap.size w V1 ∧ w.heap.size = pb ∧ V1.heap.size = pb + 1 ∧ pb < tb) := ⟨HB.out.1, HB.out.2.1, HB.out.2.2, hpt⟩
    clear HB
    have HB : Hid (Below w.heap.size w V1 ∧ w.heap.size = pb ∧ V1.heap.size = pb + 1 ∧ pb < tb) := HB2.out
    clear hc hci hms hup hrr hmf hrow hkw hbw hbw0 hpt HB2 hcp
    go_wp2
    refine wp_region_held_drew (S := fun W => W.cell? ⟨ab, ao + i * 3, none⟩ = some (.string c1) ∧ W.cell? ⟨ab, ao + i * 3 + 1, none⟩ = some (.int .i64 c2) ∧ W.cell? ⟨ab, ao + i * 3 + 2, none⟩ = some (.int .i64 c3)) (by kernel_rfl) (HQ.out wr.drew ((Below.refl _ wr).drew)) (fun hHeld => ?_)
    refine wpAnyH_take (i := 1) (v := ?va_1) rfl (by kernel_rfl) (by kernel_rfl) (by kernel_rfl) (fun _ _ _ h => h) (Or.inl ⟨by first | kernel_rfl | rfl, ?ya_1⟩) hHeld ?ra_1
    case ya_1 => (intro W hSW; (try dsimp only at hSW); go_simp; (try with_reducible rfl))
    change wpAnyH _ _ _ _ _ _ _ (Act.put _ (some 32) _) _
    simp only [Act.put, List.setIfInBounds_toArray, List.set_cons_zero, List.set_cons_succ]
    refine wpAnyH_take (i := 2) (v := ?va_2) rfl (by kernel_rfl) (by kernel_rfl) (by kernel_rfl) (fun _ _ _ h => h) (Or.inl ⟨by first | kernel_rfl | rfl, ?ya_2⟩) hHeld ?ra_2
    case ya_2 => (intro W hSW; (try dsimp only at hSW); go_simp; (try with_reducible rfl))
    change wpAnyH _ _ _ _ _ _ _ (Act.put _ (some 33) _) _
    simp only [Act.put, List.setIfInBounds_toArray, List.set_cons_zero, List.set_cons_succ]
    refine wpAnyH_take (i := 3) (v := ?va_3) rfl (by kernel_rfl) (by kernel_rfl) (by kernel_rfl) (fun _ _ _ h => h) (Or.inl ⟨by first | kernel_rfl | rfl, ?ya_3⟩) hHeld ?ra_3
    case ya_3 => (intro W hSW; (try dsimp only at hSW); go_simp; (try with_reducible rfl))
    change wpAnyH _ _ _ _ _ _ _ (Act.put _ (some 34) _) _
    simp only [Act.put, List.setIfInBounds_toArray, List.set_cons_zero, List.set_cons_succ]
    refine wpAnyH_take (i := 4) (v := ?va_4) rfl (by kernel_rfl) (by kernel_rfl) (by kernel_rfl) (fun _ _ _ h => h) (Or.inl ⟨by first | kernel_rfl | rfl, ?ya_4⟩) hHeld ?ra_4
    case ya_4 => (intro W hSW; (try dsimp only at hSW); go_simp; (try with_reducible rfl))
    change wpAnyH _ _ _ _ _ _ _ (Act.put _ (some 35) _) _
    simp only [Act.put, List.setIfInBounds_toArray, List.set_cons_zero, List.set_cons_succ]
    refine wpAnyH_ready (rs := [0]) (by kernel_rfl) (by simp) ?_
    refine AllReadyH.cons rfl (fun K hK => ?_) AllReadyH.nil
    go_simp
    refine hK.out _ _ (HQ.out wr.drew ((Below.refl _ wr).drew)) (fun hHeld => ?_)
    clear hK K
    try simp only [Act.put, List.setIfInBounds_toArray, List.set_cons_zero, List.set_cons_succ]
    refine wpAnyH_ready (rs := [5]) (by kernel_rfl) (by simp) ?_
    refine AllReadyH.cons rfl (fun K hK => ?_) AllReadyH.nil
    go_simp
    refine (HNA.out).mono ?_
    rintro e V5 ⟨a5, n5, c5, rfl, ho5, hb5⟩
    refine hK.out _ _ (HQ.out V5 ((Below.refl _ wr).drew.trans hb5)) (fun hHeld => ?_)
    clear hK K
    simp only
    have hB5 : Below wr.heap.size wr V5 := (Below.refl _ wr).drew.trans hb5
    have q5 := (hB5.block tb (lt_of_some H4.out.1)).trans H4.out.1
    obtain ⟨_, _, _, _, f0, f1, f2, f3⟩ := row4 q5
    obtain ⟨x0, x1, x2, x3, _⟩ := row4 q5
    obtain ⟨W6, hW6⟩ : ∃ W6, (((V5.setCell ⟨tb, 0, none⟩ (.int .i64 r1)).setCell ⟨tb, 1, none⟩ (.int .i64 r2)).setCell ⟨tb, 2, none⟩ (.slice a5 n5 c5)).setCell ⟨tb, 3, none⟩ (.string r4) = W6 := ⟨_, rfl⟩
    have H6 : Hid (W6.heap[tb]? = some (.cells #[.int .i64 r1, .int .i64 r2, .slice a5 n5 c5, .string r4] 25 (0, 0)) ∧ Below V1.heap.size V1 W6 ∧ Rw (fun x => pb < x) W6 35 3 a5 n5 c5 (cvR r3)) := by
      refine ⟨by rw [← hW6]; exact set4 q5 _ _ _ _, ?_, ?_⟩
      · rw [← hW6]
        exact below4s (H4.out.2.1.trans (hB5.mono H4.out.2.1.size)) (by have := HB.out; omega) _ _ _ _
      · refine Rw.own (own_keep ho5 (fun j hj => ?_)) (fun x hx => by change wr.heap.size ≤ x at hx; have := lt_of_some H4.out.1; have := HB.out; omega)
        have := (ho5.lt j hj).1
        have h7 := lt_of_some H4.out.1
        rw [← hW6]
        exact other4s (by show j ≠ tb; change wr.heap.size ≤ j at this; omega) _ _ _ _
    have HQ6 : Hid (W6.cell? ⟨ab, ao + i * 3, none⟩ = some (.string c1) ∧ W6.cell? ⟨ab, ao + i * 3 + 1, none⟩ = some (.int .i64 c2) ∧ W6.cell? ⟨ab, ao + i * 3 + 2, none⟩ = some (.int .i64 c3)) := by
      have h8 := HC6.out W6 (HB.out.1.trans (H6.out.2.1.mono HB.out.1.size))
      exact h8
    clear hb5 hB5 q5 ho5
    refine wpAnyH_take (i := 6) (v := ?va_6) rfl (by kernel_rfl) (by kernel_rfl) (by kernel_rfl) (fun _ _ _ h => h) (Or.inl ⟨by first | kernel_rfl | rfl, ?ya_6⟩) hHeld ?ra_6
    case ya_6 => (intro W hSW; (try dsimp only at hSW); go_simp; (try with_reducible rfl))
    change wpAnyH _ _ _ _ _ _ _ (Act.put _ (some 30) _) _
    simp only [Act.put, List.setIfInBounds_toArray, List.set_cons_zero, List.set_cons_succ]
    refine wpAnyH_take (i := 7) (v := ?va_7) rfl (by kernel_rfl) (by kernel_rfl) (by kernel_rfl) (fun _ _ _ h => h) (Or.inl ⟨by first | kernel_rfl | rfl, ?ya_7⟩) hHeld ?ra_7
    case ya_7 => (intro W hSW; (try dsimp only at hSW); go_simp; (try with_reducible rfl))
    change wpAnyH _ _ _ _ _ _ _ (Act.put _ (some 37) _) _
    simp only [Act.put, List.setIfInBounds_toArray, List.set_cons_zero, List.set_cons_succ]
    refine wpAnyH_take (i := 8) (v := ?va_8) rfl (by kernel_rfl) (by kernel_rfl) (by kernel_rfl) (fun _ _ _ h => h) (Or.inl ⟨by first | kernel_rfl | rfl, ?ya_8⟩) hHeld ?ra_8
    case ya_8 => (intro W hSW; (try dsimp only at hSW); go_simp; (try with_reducible rfl))
    change wpAnyH _ _ _ _ _ _ _ (Act.put _ (some 38) _) _
    simp only [Act.put, List.setIfInBounds_toArray, List.set_cons_zero, List.set_cons_succ]
    refine wpAnyH_ready (rs := [9]) (by kernel_rfl) (by simp) ?_
    refine AllReadyH.cons rfl (fun K hK => ?_) AllReadyH.nil
    go_simp
    refine hK.out _ _ (HQ6.out) (fun hHeld => ?_)
    clear hK K
    refine wpAnyH_take (i := 10) (v := ?va_10) rfl (by kernel_rfl) (by kernel_rfl) (by kernel_rfl) (fun _ _ _ h => h) (Or.inl ⟨by first | kernel_rfl | rfl, ?ya_10⟩) hHeld ?ra_10
    case ya_10 => (intro W hSW; (try dsimp only at hSW); go_simp; (try with_reducible rfl))
    change wpAnyH _ _ _ _ _ _ _ (Act.put _ (some 11) _) _
    simp only [Act.put, List.setIfInBounds_toArray, List.set_cons_zero, List.set_cons_succ]
    refine wpAnyH_done (by kernel_rfl) ?_ _
    clear x0 x1 x2 x3 f0 f1 f2 f3 y0 y1 y2 y3
    go_wp2
    exact ⟨⟨i + 1, ⟨r1, r2, r3, r4⟩, re, a5, n5, c5, by omega, by go_num, rfl, H4.out.2.2, H6.out.1, H6.out.2.2, H6.out.2.1⟩, by simp [intOf]; omega⟩
  · have hfin : madeT k.data.toList t n l = (⟨u1, u2, u3, u4⟩, decide (te = 0)) := by
      have e : madeF k.data.toList t n l l.length = (⟨u1, u2, u3, u4⟩, te) := by
        by_cases h0 : te = 0
        · have : i = l.length := by have := HR.out.2.1; omega
          rw [← this]
          exact hmf
        · have h5 := madeF_stop (k := k.data.toList) (t := t) (n := n) (l := l) (i := i) (by rw [hmf]; exact h0) (l.length - i)
          rw [show i + (l.length - i) = l.length by have := HR.out.2.1; omega] at h5
          rw [h5]
          exact hmf
      rw [madeT_of, e]
    have hz := HK.out wr hbw
    obtain ⟨x0, x1, x2, x3, f0, f1, f2, f3⟩ := row4 hz
    obtain ⟨W5, hW5⟩ : ∃ W5, (((wr.setCell ⟨pb, 0, none⟩ (.int .i64 u1)).setCell ⟨pb, 1, none⟩ (.int .i64 u2)).setCell ⟨pb, 2, none⟩ (.slice a' n' c')).setCell ⟨pb, 3, none⟩ (.string u4) = W5 := ⟨_, rfl⟩
    obtain ⟨q, hq⟩ : ∃ q, decide (te = 0) = q := ⟨_, rfl⟩
    have hq2 : ((te : Int) == 0) = q := by rw [← hq, Bool.eq_iff_iff]; simp
    have HE : Hid (MdOw w (madeT k.data.toList t n l) (.returned (.tuple #[.agg #[.int .i64 u1, .int .i64 u2, .slice a' n' c', .string u4], .bool q])) W5 ∧ W5.heap[pb]? = some (.cells #[.int .i64 u1, .int .i64 u2, .slice a' n' c', .string u4] 25 (0, 0))) := by
      refine ⟨⟨a', n', c', by rw [hfin, hq], ?_, ?_⟩, by rw [← hW5]; exact set4 hz _ _ _ _⟩
      · rw [hfin]
        rw [← hW5]
        refine Rw.mono (Rw.keep hkw (below4s (Below.refl wr.heap.size wr |>.mono (Nat.zero_le _)) (Nat.zero_le pb) _ _ _ _).size (fun b hb _ => other4s (by omega) _ _ _ _)) (fun x hx _ => by have := HB.out; omega)
      · rw [← hW5]
        exact below4s hbw0 (Nat.le_of_eq HB.out.2.1) _ _ _ _
    clear hmf hrow hkw hbw hbw0 hz hfin
    by_cases hlt : i < ln
    · have kk : (i : Int) < (ln : Int) := by omega
      have hte : ¬ te = 0 := fun e => hgo ⟨hlt, e⟩
      have kt : ¬ (te : Int) = 0 := by omega
      have ktb : ((te : Int) == 0) = false := by simpa using kt
      have hqf : q = false := by rw [← hq]; exact decide_eq_false hte
      rw [hqf] at HE hq2
      clear hgo hq hqf
      go_wp2
      refine bodyPost_ret (v := .tuple #[.agg #[.int .i64 u1, .int .i64 u2, .slice a' n' c', .string u4], .bool false]) ?_ rfl HE.out.1
      exact res_tk (fn := Tryd.f23) (p := 8) (q := 9) (by rfl) _ _ pb _ (by rfl) HE.out.2 infoT4
    · have kk : ¬ (i : Int) < (ln : Int) := by omega
      clear hgo hq
      go_wp2
      refine bodyPost_ret (v := .tuple #[.agg #[.int .i64 u1, .int .i64 u2, .slice a' n' c', .string u4], .bool q]) ?_ rfl HE.out.1
      exact res_tk (fn := Tryd.f23) (p := 8) (q := 9) (by rfl) _ _ pb _ (by rfl) HE.out.2 infoT4
theorem made_any (k : ByteArray) (t n : Int) {w : World} {a : Option Addr} {ln cp : Nat} {l : List Cv} (h : Kw w a ln cp l) (hp : ∀ c ∈ l, c.path.size ≤ 9223372036854775807) (hk : k.size ≤ 1000000) (hL : Laid w) : Calls Tryd.prog 23 #[.string k, .int .i64 t, .int .i64 n, .slice a ln cp] w fun e w' => MdTo w (madeT k.data.toList t n l) e w' := (made_own k t n h hp hk hL).mono fun e w' h => by
  obtain ⟨a, n, c, h1, h2, h3⟩ := h
  exact ⟨a, n, c, h1, Rw.mono h2 (fun _ _ _ => trivial), h3⟩
end Go.Proofs.YtcmdcmbiilfngaaDoor
