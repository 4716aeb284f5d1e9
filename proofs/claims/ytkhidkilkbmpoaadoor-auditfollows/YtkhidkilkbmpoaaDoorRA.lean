/- Plain mathematics of layer 13: what follows, as the program looks for it. No program is named here. Walks over isEntry and entryText. -/
import Derived.Test.YtkhidkilkbmpoaaDoorQN
import Derived.Test.YtkhidkilkbmpoaaDoorQE
import Derived.Test.YtkhidkilkbmpoaaDoorCG
namespace Go.Proofs.YtkhidkilkbmpoaaDoor
theorem may_seq {a : Au} (h : mayA a = true) {i : Nat} {e : En} (hi : a.ents[i]? = some e) : e.seq = a.last - (a.ents.length : Int) + 1 + (i : Int) := ((run_iff _ _).1 (mayA_iff.1 h).2.2.2.2 i e hi).2
theorem lt_of_get {α : Type} {l : List α} {i : Nat} {x : α} (h : l[i]? = some x) : i < l.length := by
  rcases Nat.lt_or_ge i l.length with h2 | h2
  · exact h2
  · rw [List.getElem?_eq_none h2] at h; cases h
theorem fol_no {a b : Au} (h : ¬ (mayA a = true ∧ mayA b = true ∧ a.last ≤ b.last)) : folA a b = false := by
  cases hf : folA a b with
  | false => rfl
  | true => have := folA_iff.1 hf; exact absurd ⟨this.1, this.2.1, this.2.2.1⟩ h
/-- Some between are gone. -/
theorem fol_far {a b : Au} (ha : mayA a = true) (hb : mayA b = true) (hl : a.last ≤ b.last) (h : a.last < b.last - (b.ents.length : Int)) : folA a b = true := by
  rw [folA_iff]
  refine ⟨ha, hb, hl, pairs_iff.2 fun x hx y hy he => ?_, by unfold tailB; rw [if_neg (by omega)]⟩
  obtain ⟨i, hi⟩ := List.getElem?_of_mem hx
  obtain ⟨j, hj⟩ := List.getElem?_of_mem hy
  have h1 := may_seq ha hi
  have h2 := may_seq hb hj
  have h3 := lt_of_get hi
  omega
/-- None is gone between. -/
theorem fol_near {a b : Au} (ha : mayA a = true) (hb : mayA b = true) (hl : a.last ≤ b.last) {c : Nat} (hc : (c : Int) = a.last - (b.last - (b.ents.length : Int))) : c ≤ a.ents.length ∧ c ≤ b.ents.length ∧ folA a b = (decide (a.ents.drop (a.ents.length - c) = b.ents.take c) && decide (chA a.anchor.data.toList a.ents = chA b.anchor.data.toList (b.ents.take c))) := by
  have ma := mayA_iff.1 ha
  have mb := mayA_iff.1 hb
  have hca : c ≤ a.ents.length := by omega
  have hcb : c ≤ b.ents.length := by omega
  refine ⟨hca, hcb, ?_⟩
  have ht : tailB a b = decide (chA a.anchor.data.toList a.ents = chA b.anchor.data.toList (b.ents.take c)) := by
    unfold tailB
    rw [if_pos (by omega), show (a.last - (b.last - (b.ents.length : Int))).toNat = c by omega]
  have hp : pairsB a.ents b.ents = decide (a.ents.drop (a.ents.length - c) = b.ents.take c) := by
    rw [Bool.eq_iff_iff, pairs_iff, decide_eq_true_eq]
    constructor
    · intro h
      apply List.ext_getElem?
      intro j
      by_cases hj : j < c
      · obtain ⟨x, hx⟩ : ∃ x, a.ents[a.ents.length - c + j]? = some x := ⟨_, List.getElem?_eq_getElem (by omega)⟩
        obtain ⟨y, hy⟩ : ∃ y, b.ents[j]? = some y := ⟨_, List.getElem?_eq_getElem (by omega)⟩
        have h1 := may_seq ha hx
        have h2 := may_seq hb hy
        have h3 := h x (List.mem_of_getElem? hx) y (List.mem_of_getElem? hy) (by omega)
        rw [List.getElem?_drop, List.getElem?_take_of_lt hj, hx, hy, h3]
      · rw [List.getElem?_eq_none (by rw [List.length_drop]; omega), List.getElem?_eq_none (by rw [List.length_take]; omega)]
    · intro h x hx y hy he
      obtain ⟨i, hi⟩ := List.getElem?_of_mem hx
      obtain ⟨j, hj⟩ := List.getElem?_of_mem hy
      have h1 := may_seq ha hi
      have h2 := may_seq hb hj
      have h3 := lt_of_get hi
      have hjc : j < c := by omega
      have e : i = a.ents.length - c + j := by omega
      have h4 : (a.ents.drop (a.ents.length - c))[j]? = some x := by rw [List.getElem?_drop, ← e]; exact hi
      rw [h, List.getElem?_take_of_lt hjc, hj] at h4
      exact (Option.some.inj h4).symm
  unfold folA
  rw [ha, hb, decide_eq_true hl, hp, ht]
  rfl
/-- The entries that stay, and what goes. -/
theorem cut_snoc {l : List En} {k : ByteArray} {last : Int} {e : En} (h : l.length ≤ 8) : cutAu k last (l ++ [e]) = if l.length = 8 then ⟨baOf (chA k.data.toList (l.take 1)), last, l.drop 1 ++ [e]⟩ else ⟨k, last, l ++ [e]⟩ := by
  unfold cutAu
  by_cases h8 : l.length = 8
  · rw [if_pos (by simp; omega), if_pos h8, List.take_append_of_le_length (by omega), List.drop_append_of_le_length (by omega)]
  · rw [if_neg (by simp; omega), if_neg h8]
theorem take_one {l : List En} {x : En} (h : l[0]? = some x) : l.take 1 = [x] := by
  cases l with
  | nil => cases h
  | cons y l => simp at h; subst h; rfl
end Go.Proofs.YtkhidkilkbmpoaaDoor
namespace Go.Proofs.YtkhidkilkbmpoaaDoor
open Go.RowKit
/-- Bytes that are handed on. -/
def ByTo (w : World) (bs : List UInt8) (e : Ending) (w' : World) : Prop := ∃ (a : Option Addr) (n c : Nat), e = .returned (.slice a n c) ∧ Bs w' a n c bs ∧ Below w.heap.size w w'
theorem put_by (a : Option Addr) (len cap : Nat) (bs : List UInt8) (n : Nat) (w : World) (h : Bs w a len cap bs) (hb : len ≤ 900000) (hn : n < 18446744073709551616) : Calls Tryd.prog 46 #[.slice a len cap, .int .u64 (n : Int)] w fun e w' => ByTo w (bs ++ putN n) e w' := by
  refine (put_any a len cap bs n w h hb hn).mono ?_
  rintro e w' ⟨rfl, h1, h2⟩
  exact ⟨_, _, _, rfl, Bs.owned h1, h2⟩
theorem ptext_by (a : Option Addr) (len cap : Nat) (bs : List UInt8) (s : ByteArray) (w : World) (h : Bs w a len cap bs) (hb : len ≤ 100000) (hs : s.size ≤ 100000) : Calls Tryd.prog 45 #[.slice a len cap, .string s] w fun e w' => ByTo w (bs ++ textN s.data.toList) e w' := by
  refine (ptext_any a len cap bs s w h hb hs _ rfl).mono ?_
  rintro e w' ⟨g, rfl, h1, h2⟩
  exact ⟨_, _, _, rfl, h1, h2⟩
set_option maxRecDepth 100000 in
set_option maxHeartbeats 2000000 in
theorem isent_any (c : En) (w : World) : Calls Tryd.prog 32 #[.agg #[.int .i64 c.seq, .int .i64 c.time, .int .i64 c.kind, .string c.path, .int .i64 c.errno]] w fun e w' => YeTo w c.ok e w' := by
  obtain ⟨q, u, k, p, r⟩ := c
  simp only
  obtain ⟨pb, hpb⟩ : ∃ pb, w.heap.size = pb := ⟨_, rfl⟩
  obtain ⟨V1, hV1, r1, hb1⟩ := box_en (w := w) q u k p r
  rw [hpb] at r1
  obtain ⟨x0, x1, x2, x3, x4, _⟩ := row5 r1
  have HD : Hid (∀ W b, Below V1.heap.size V1 W → (⟨q, u, k, p, r⟩ : En).ok = b → Hid (YeTo w (⟨q, u, k, p, r⟩ : En).ok (.returned (.bool b)) W)) := fun W b hW hb => ⟨by rw [hb], hb1.trans (hW.mono hb1.size)⟩
  clear r1 hb1
  by_cases c0 : 1 ≤ q
  · by_cases c1 : q ≤ 2147483648
    · by_cases c2 : 0 ≤ u
      · by_cases c3 : u ≤ 1099511627776
        · by_cases c4 : 0 ≤ k
          · by_cases c5 : k ≤ 100
            · by_cases c6 : (p.size : Int) ≤ 32
              · by_cases c7 : 0 ≤ r
                · by_cases c8 : r ≤ 100
                  · have hk : (⟨q, u, k, p, r⟩ : En).ok = true := En.ok_iff.2 (by simp only; omega)
                    have HE := HD.out V1 true (Below.refl _ _) hk
                    clear hk
                    go_enter Tryd.func32, Tryd.ntmps32
                    go_wp2
                    go_ret
                    exact HE.out
                  · have hk : (⟨q, u, k, p, r⟩ : En).ok = false := by unfold En.ok; rw [decide_eq_false_iff_not]; simp only; omega
                    have dq : decide (r ≤ 100) = false := decide_eq_false c8
                    have HE := HD.out V1 false (Below.refl _ _) hk
                    clear hk
                    go_enter Tryd.func32, Tryd.ntmps32
                    go_wp2
                    go_ret
                    exact HE.out
                · have hk : (⟨q, u, k, p, r⟩ : En).ok = false := by unfold En.ok; rw [decide_eq_false_iff_not]; simp only; omega
                  have dq : decide (0 ≤ r) = false := decide_eq_false c7
                  have HE := HD.out V1 false (Below.refl _ _) hk
                  clear hk
                  go_enter Tryd.func32, Tryd.ntmps32
                  go_wp2
                  go_ret
                  exact HE.out
              · have hk : (⟨q, u, k, p, r⟩ : En).ok = false := by unfold En.ok; rw [decide_eq_false_iff_not]; simp only; omega
                have dq : decide ((p.size : Int) ≤ 32) = false := decide_eq_false c6
                have HE := HD.out V1 false (Below.refl _ _) hk
                clear hk
                go_enter Tryd.func32, Tryd.ntmps32
                go_wp2
                go_ret
                exact HE.out
            · have hk : (⟨q, u, k, p, r⟩ : En).ok = false := by unfold En.ok; rw [decide_eq_false_iff_not]; simp only; omega
              have dq : decide (k ≤ 100) = false := decide_eq_false c5
              have HE := HD.out V1 false (Below.refl _ _) hk
              clear hk
              go_enter Tryd.func32, Tryd.ntmps32
              go_wp2
              go_ret
              exact HE.out
          · have hk : (⟨q, u, k, p, r⟩ : En).ok = false := by unfold En.ok; rw [decide_eq_false_iff_not]; simp only; omega
            have dq : decide (0 ≤ k) = false := decide_eq_false c4
            have HE := HD.out V1 false (Below.refl _ _) hk
            clear hk
            go_enter Tryd.func32, Tryd.ntmps32
            go_wp2
            go_ret
            exact HE.out
        · have hk : (⟨q, u, k, p, r⟩ : En).ok = false := by unfold En.ok; rw [decide_eq_false_iff_not]; simp only; omega
          have dq : decide (u ≤ 1099511627776) = false := decide_eq_false c3
          have HE := HD.out V1 false (Below.refl _ _) hk
          clear hk
          go_enter Tryd.func32, Tryd.ntmps32
          go_wp2
          go_ret
          exact HE.out
      · have hk : (⟨q, u, k, p, r⟩ : En).ok = false := by unfold En.ok; rw [decide_eq_false_iff_not]; simp only; omega
        have dq : decide (0 ≤ u) = false := decide_eq_false c2
        have HE := HD.out V1 false (Below.refl _ _) hk
        clear hk
        go_enter Tryd.func32, Tryd.ntmps32
        go_wp2
        go_ret
        exact HE.out
    · have hk : (⟨q, u, k, p, r⟩ : En).ok = false := by unfold En.ok; rw [decide_eq_false_iff_not]; simp only; omega
      have dq : decide (q ≤ 2147483648) = false := decide_eq_false c1
      have HE := HD.out V1 false (Below.refl _ _) hk
      clear hk
      go_enter Tryd.func32, Tryd.ntmps32
      go_wp2
      go_ret
      exact HE.out
  · have hk : (⟨q, u, k, p, r⟩ : En).ok = false := by unfold En.ok; rw [decide_eq_false_iff_not]; simp only; omega
    have dq : decide (1 ≤ q) = false := decide_eq_false c0
    have HE := HD.out V1 false (Below.refl _ _) hk
    clear hk
    go_enter Tryd.func32, Tryd.ntmps32
    go_wp2
    go_ret
    exact HE.out
set_option maxRecDepth 100000 in
set_option maxHeartbeats 1000000 in
theorem etext_any (c : En) (w : World) (hok : c.ok = true) : Calls Tryd.prog 33 #[.agg #[.int .i64 c.seq, .int .i64 c.time, .int .i64 c.kind, .string c.path, .int .i64 c.errno]] w fun e w' => StTo w c.bytes e w' := by
  have hle := ent_len hok
  obtain ⟨q, u, k, p, r⟩ := c
  rw [En.ok_iff] at hok
  simp only at hok ⊢
  obtain ⟨qn, rfl⟩ : ∃ n : Nat, q = (n : Int) := ⟨q.toNat, by omega⟩
  obtain ⟨un, rfl⟩ : ∃ n : Nat, u = (n : Int) := ⟨u.toNat, by omega⟩
  obtain ⟨kn, rfl⟩ : ∃ n : Nat, k = (n : Int) := ⟨k.toNat, by omega⟩
  obtain ⟨rn, rfl⟩ : ∃ n : Nat, r = (n : Int) := ⟨r.toNat, by omega⟩
  have wq : IntKind.u64.wrap (qn : Int) = (qn : Int) := by rw [IntKind.wrap_u64]; omega
  have wu : IntKind.u64.wrap (un : Int) = (un : Int) := by rw [IntKind.wrap_u64]; omega
  have wk : IntKind.u64.wrap (kn : Int) = (kn : Int) := by rw [IntKind.wrap_u64]; omega
  have wr : IntKind.u64.wrap (rn : Int) = (rn : Int) := by rw [IntKind.wrap_u64]; omega
  obtain ⟨pb, hpb⟩ : ∃ pb, w.heap.size = pb := ⟨_, rfl⟩
  obtain ⟨V1, hV1, r1, hb1⟩ := box_en (w := w) (qn : Int) (un : Int) (kn : Int) p (rn : Int)
  rw [hpb] at r1
  have HK : Hid (∀ W, Below V1.heap.size V1 W → W.cell? ⟨pb, 0, none⟩ = some (.int .i64 (qn : Int)) ∧ W.cell? ⟨pb, 1, none⟩ = some (.int .i64 (un : Int)) ∧ W.cell? ⟨pb, 2, none⟩ = some (.int .i64 (kn : Int)) ∧ W.cell? ⟨pb, 3, none⟩ = some (.string p) ∧ W.cell? ⟨pb, 4, none⟩ = some (.int .i64 (rn : Int))) := fun W hW => by
    obtain ⟨x0, x1, x2, x3, x4, _⟩ := row5 ((hW.block pb (lt_of_some r1)).trans r1)
    exact ⟨x0, x1, x2, x3, x4⟩
  obtain ⟨x0, _⟩ := HK.out V1 (Below.refl _ _)
  have hbe : (⟨(qn : Int), (un : Int), (kn : Int), p, (rn : Int)⟩ : En).bytes = [] ++ putN qn ++ putN un ++ putN kn ++ textN p.data.toList ++ putN rn := by simp [En.bytes, En.pl]
  rw [hbe] at hle ⊢
  simp only [List.length_append] at hle
  have HL : Hid ((putN qn).length ≤ 100 ∧ (putN un).length ≤ 100 ∧ (putN kn).length ≤ 100 ∧ (textN p.data.toList).length ≤ 100 ∧ (putN rn).length ≤ 100) := ⟨by omega, by omega, by omega, by omega, by omega⟩
  have HB : Hid (Below w.heap.size w V1) := hb1
  have HC1 := put_by none 0 0 [] qn V1 (Bs.nil V1) (by omega) (by omega)
  have hN : qn < 18446744073709551616 ∧ un < 18446744073709551616 ∧ kn < 18446744073709551616 ∧ rn < 18446744073709551616 ∧ p.size ≤ 32 := ⟨by omega, by omega, by omega, by omega, by omega⟩
  have HN : Hid (qn < 18446744073709551616 ∧ un < 18446744073709551616 ∧ kn < 18446744073709551616 ∧ rn < 18446744073709551616 ∧ p.size ≤ 32) := hN
  clear r1 hb1 hbe hle hok hN
  go_enter Tryd.func33, Tryd.ntmps33
  go_wp2_with fail
  refine HC1.mono ?_
  rintro e V2 ⟨a2, n2, c2, rfl, hbs2, hb2⟩
  have H2 : Hid (Below V1.heap.size V1 V2 ∧ n2 = ([] ++ putN qn).length ∧ n2 ≤ 200) := ⟨hb2, hbs2.1.symm, by have := hbs2.1; rw [List.nil_append] at this; have := HL.out; omega⟩
  have HC2 := put_by a2 n2 c2 _ un V2 hbs2 (by have := H2.out; omega) HN.out.2.1
  obtain ⟨_, y1, _⟩ := HK.out V2 hb2
  clear HC1 hbs2 hb2 x0
  go_wp2_with fail
  refine HC2.mono ?_
  rintro e V3 ⟨a3, n3, c3, rfl, hbs3, hb3⟩
  have H3 : Hid (Below V1.heap.size V1 V3 ∧ n3 = ([] ++ putN qn ++ putN un).length ∧ n3 ≤ 300) := ⟨H2.out.1.trans (hb3.mono H2.out.1.size), hbs3.1.symm, by have := hbs3.1; rw [List.length_append, ← H2.out.2.1] at this; have := H2.out; have := HL.out; omega⟩
  have HC3 := put_by a3 n3 c3 _ kn V3 hbs3 (by have := H3.out; omega) HN.out.2.2.1
  obtain ⟨_, _, y2, _⟩ := HK.out V3 H3.out.1
  clear HC2 hbs3 hb3 y1
  go_wp2_with fail
  refine HC3.mono ?_
  rintro e V4 ⟨a4, n4, c4, rfl, hbs4, hb4⟩
  have H4 : Hid (Below V1.heap.size V1 V4 ∧ n4 = ([] ++ putN qn ++ putN un ++ putN kn).length ∧ n4 ≤ 400) := ⟨H3.out.1.trans (hb4.mono H3.out.1.size), hbs4.1.symm, by have := hbs4.1; rw [List.length_append, ← H3.out.2.1] at this; have := H3.out; have := HL.out; omega⟩
  have HC4 := ptext_by a4 n4 c4 _ p V4 hbs4 (by have := H4.out; omega) (by have := HN.out; omega)
  obtain ⟨_, _, _, y3, _⟩ := HK.out V4 H4.out.1
  clear HC3 hbs4 hb4 y2
  go_wp2_with fail
  refine HC4.mono ?_
  rintro e V5 ⟨a5, n5, c5, rfl, hbs5, hb5⟩
  have H5 : Hid (Below V1.heap.size V1 V5 ∧ n5 ≤ 500) := ⟨H4.out.1.trans (hb5.mono H4.out.1.size), by have := hbs5.1; rw [List.length_append, ← H4.out.2.1] at this; have := H4.out; have := HL.out; omega⟩
  have HC5 := put_by a5 n5 c5 _ rn V5 hbs5 (by have := H5.out; omega) HN.out.2.2.2.1
  obtain ⟨_, _, _, _, y4⟩ := HK.out V5 H5.out.1
  clear HC4 hbs5 hb5 y3
  go_wp2_with fail
  refine HC5.mono ?_
  rintro e V6 ⟨a6, n6, c6, rfl, hbs6, hb6⟩
  obtain ⟨S, hS⟩ : ∃ S, strOf ([] ++ putN qn ++ putN un ++ putN kn ++ textN p.data.toList ++ putN rn) = S := ⟨_, rfl⟩
  have hcv : (convert 45 9 (.slice a6 n6 c6)).run Tryd.prog V6 = .ok (.string S) V6 := by rw [← hS]; exact hbs6.conv
  have HE : Hid (StTo w ([] ++ putN qn ++ putN un ++ putN kn ++ textN p.data.toList ++ putN rn) (.returned (.string S)) V6) := ⟨by rw [hS], HB.out.trans ((H5.out.1.trans (hb6.mono H5.out.1.size)).mono HB.out.size)⟩
  clear HC5 hbs6 hb6 y4 hS
  go_wp2
  go_ret
  exact HE.out
end Go.Proofs.YtkhidkilkbmpoaaDoor
