/- The document's Tokens. -/
import Derived.Test.YtekbmdpokghmmaaLS
import Derived.BigQuiet
namespace Go.Proofs.Ytekbmdpokghmmaa
open Go.RowKit Lz
theorem infoRT : (Try.prog.info? 56).map (fun i => (i.zero, i.size, i.bytes)) = some (some (.agg #[.int .i64 0, .int .i64 0, .string ⟨#[]⟩]), 3, 32) := by kernel_rfl
theorem app_rts {G2 : Nat → Prop} (w : World) {base : Nat} {a : Option Addr} {n c : Nat} {ts : List Tk} (h : w.ownsRow base 56 3 (.slice a n c) n (tksV ts)) {a2 : Option Addr} {m c2 : Nat} {k : List Tk} (h2 : Rw G2 w 56 3 a2 m c2 (tksV k)) (hN : n + m ≤ 1000000) (hb : base ≤ w.heap.size) :
    ∃ a' c' w', (∀ ty, (Builtin.append_ #[32, 32] ty #[.slice a n c, .slice a2 m c2]).run Try.prog w = .ok (.slice a' (n + m) c') w') ∧ w'.ownsRow base 56 3 (.slice a' (n + m) c') (n + m) (tksV (ts ++ k)) ∧ w.grownBy w' (ob a) ∧ (ob a' = ob a ∨ ob a' = some w.heap.size) := by
  obtain ⟨i, hi, hz, hs, hbb⟩ := info_of infoRT
  rw [tksV_app]
  exact app_own w 32 56 i _ 3 32 Try.underlying32 hi hz hs hbb rfl (by omega) h h2 (tksV_one k) hN (by omega) hb
theorem newRT (w : World) (t : Tk) : Rw (fun _ => True) (w.alloc (.cells #[.int .i64 (t.b : Int), .int .i64 (t.s : Int), .string (strOf t.d)] 56)) 56 3 (some ⟨w.heap.size, 0, none⟩) 1 1 (tksV [t]) := by
  refine ⟨by rw [tksV_len]; rfl, Nat.le_refl _, by unfold maxLen; omega, fun _ => ⟨_, 0, rfl, by simp, trivial, fun j u hu => ?_⟩⟩
  rw [Nat.zero_add, cell_of_row _ _ _ _ _ _ (heap_alloc_new w _)]
  simpa [tksV, tkC] using hu
/-- Two rows of one's own. -/
structure Two (w0 w : World) (a1 : Option Addr) (c1 : Nat) (ts : List Tk) (a2 : Option Addr) (n2 c2 : Nat) (o : List UInt8) : Prop where
  l : w.ownsRow w0.heap.size 56 3 (.slice a1 ts.length c1) ts.length (tksV ts)
  o : w.ownsRow w0.heap.size 5 1 (.slice a2 n2 c2) n2 (bytesV o)
  b : Below w0.heap.size w0 w
theorem rows_apart {w : World} {base n1 c1 n2 c2 s1 s2 e1 e2 : Nat} {a1 a2 : Option Addr} {xs ys : List Value} (he : e1 ≠ e2) (h1 : w.ownsRow base e1 s1 (.slice a1 n1 c1) n1 xs) (h2 : w.ownsRow base e2 s2 (.slice a2 n2 c2) n2 ys) : ∀ x, ob a1 = some x → ob a2 ≠ some x := by
  intro x k1 k2
  rcases h1.2 with ⟨e, _⟩ | ⟨g, _, _, e, _, hr, _⟩
  · cases e; cases k1
  · rcases h2.2 with ⟨e', _⟩ | ⟨g', _, _, e', _, hr', _⟩
    · cases e'; cases k2
    · cases e; cases e'
      cases k1; cases k2
      rw [hr] at hr'
      injection hr' with hr'
      injection hr' with _ hr' _
      exact he hr'
theorem Two.below {w0 w w' : World} {a1 a2 : Option Addr} {c1 n2 c2 : Nat} {ts : List Tk} {o : List UInt8} (h : Two w0 w a1 c1 ts a2 n2 c2 o) (hb : Below w.heap.size w w') : Two w0 w' a1 c1 ts a2 n2 c2 o :=
  ⟨own_keep h.l (fun k hk => hb.block k (h.l.lt k hk).2), own_keep h.o (fun k hk => hb.block k (h.o.lt k hk).2), h.b.trans (hb.mono h.b.size)⟩
theorem grown_b {w0 W W' : World} {a : Option Addr} {e sz n c : Nat} {xs : List Value} (hb : Below w0.heap.size w0 W) (ho : W.ownsRow w0.heap.size e sz (.slice a n c) n xs) (hg : W.grownBy W' (ob a)) : Below w0.heap.size w0 W' :=
  hb.trans ⟨hg.os, hg.tape, hg.output, hg.size, fun k hk => hg.block k (Nat.lt_of_lt_of_le hk hb.size) (fun e => by have := (ho.lt k (by rw [ob_slice]; exact e.symm)).1; omega)⟩
/-- A token more. -/
theorem Two.tok {w0 w : World} {a1 a2 : Option Addr} {c1 n2 c2 : Nat} {ts : List Tk} {o : List UInt8} (h : Two w0 w a1 c1 ts a2 n2 c2 o) (t : Tk) (hl : ts.length ≤ 200000) :
    ∃ V a' c' w', w.alloc (.cells #[.int .i64 (t.b : Int), .int .i64 (t.s : Int), .string (strOf t.d)] 56) = V ∧ (∀ ty, (Builtin.append_ #[32, 32] ty #[.slice a1 ts.length c1, .slice (some ⟨w.heap.size, 0, none⟩) 1 1]).run Try.prog V = .ok (.slice a' (ts.length + 1) c') w') ∧ Two w0 w' a' c' (ts ++ [t]) a2 n2 c2 o := by
  have hb : Below w.heap.size w (w.alloc (.cells #[.int .i64 (t.b : Int), .int .i64 (t.s : Int), .string (strOf t.d)] 56)) := (Below.refl _ w).alloc (Nat.le_refl _) _
  have h2 := h.below hb
  obtain ⟨a', c', w', hr, ho, hg, ha⟩ := app_rts _ h2.l (newRT w t) (by omega) h2.b.size
  refine ⟨_, a', c', w', rfl, hr, ?_, ?_, grown_b h2.b h2.l hg⟩
  · rw [List.length_append]; exact ho
  · refine own_keep h2.o (fun k hk => hg.block k (h2.o.lt k hk).2 (fun e => ?_))
    exact rows_apart (by decide) h2.l h2.o k e.symm (by rw [← ob_slice a2 n2 c2]; exact hk)
/-- A text's bytes more. -/
theorem Two.str {w0 w : World} {a1 a2 : Option Addr} {c1 n2 c2 : Nat} {ts : List Tk} {o : List UInt8} (h : Two w0 w a1 c1 ts a2 n2 c2 o) (d : List UInt8) (hl : n2 + d.length ≤ 1000000) :
    ∃ a' c' w', (∀ ty, (Builtin.append_ #[22, 9] ty #[.slice a2 n2 c2, .string (strOf d)]).run Try.prog w = .ok (.slice a' (n2 + d.length) c') w') ∧ Two w0 w' a1 c1 ts a' (n2 + d.length) c' (o ++ d) := by
  obtain ⟨a', c', w', hr, ho, hg, ha⟩ := app_str w h.o d hl h.b.size
  refine ⟨a', c', w', hr, ?_, ho, grown_b h.b h.o hg⟩
  refine own_keep h.l (fun k hk => hg.block k (h.l.lt k hk).2 (fun e => ?_))
  exact rows_apart (by decide) h.l h.o k (by rw [← ob_slice a1 ts.length c1]; exact hk) e.symm
/-- A byte more. -/
theorem Two.byte {w0 w : World} {a1 a2 : Option Addr} {c1 n2 c2 : Nat} {ts : List Tk} {o : List UInt8} (h : Two w0 w a1 c1 ts a2 n2 c2 o) (x : UInt8) (hl : n2 + 1 ≤ 1000000) :
    ∃ V a' c' w', w.alloc (.cells #[.int .u8 (x.toNat : Int)] 5) = V ∧ (∀ ty, (Builtin.append_ #[22, 22] ty #[.slice a2 n2 c2, .slice (some ⟨w.heap.size, 0, none⟩) 1 1]).run Try.prog V = .ok (.slice a' (n2 + 1) c') w') ∧ Two w0 w' a1 c1 ts a' (n2 + 1) c' (o ++ [x]) := by
  have hb : Below w.heap.size w (w.alloc (.cells #[.int .u8 (x.toNat : Int)] 5)) := (Below.refl _ w).alloc (Nat.le_refl _) _
  have h2 := h.below hb
  obtain ⟨a', c', w', hr, ho, hg, ha⟩ := app_bytes _ h2.o (newRow w [x] (by simp)) (by simp; omega) h2.b.size
  refine ⟨_, a', c', w', rfl, hr, ?_, ho, grown_b h2.b h2.o hg⟩
  refine own_keep h2.l (fun k hk => hg.block k (h2.l.lt k hk).2 (fun e => ?_))
  exact rows_apart (by decide) h2.l h2.o k (by rw [← ob_slice a1 ts.length c1]; exact hk) e.symm
theorem first_own {x : List UInt8} {j n : Nat} (hj : j < x.length) (hn : (x.getD j 0).toNat = n) (h : n < 128) (hl : j + n + 2 ≤ x.length) : firstT (x.drop j) = some (⟨0, 0, (x.drop (j + 1)).take (n + 1)⟩, n + 2) := by
  rw [List.getD_eq_getElem?_getD, List.getElem?_eq_getElem hj, Option.getD_some] at hn
  rw [List.drop_eq_getElem_cons hj]
  simp only [firstT, hn]
  rw [if_pos h, if_neg (by rw [List.length_drop]; omega)]
theorem first_own_no {x : List UInt8} {j n : Nat} (hj : j < x.length) (hn : (x.getD j 0).toNat = n) (h : n < 128) (hl : ¬ j + n + 2 ≤ x.length) : firstT (x.drop j) = none := by
  rw [List.getD_eq_getElem?_getD, List.getElem?_eq_getElem hj, Option.getD_some] at hn
  rw [List.drop_eq_getElem_cons hj]
  simp only [firstT, hn]
  rw [if_pos h, if_pos (by rw [List.length_drop]; omega)]
theorem first_ear {x : List UInt8} {j n p q : Nat} (hj : j + 3 ≤ x.length) (hn : (x.getD j 0).toNat = n) (hp : (x.getD (j + 1) 0).toNat = p) (hq : (x.getD (j + 2) 0).toNat = q) (h : ¬ n < 128) : firstT (x.drop j) = some (⟨256 * p + q + 1, n - 125, []⟩, 3) := by
  rw [List.getD_eq_getElem?_getD, List.getElem?_eq_getElem (by omega), Option.getD_some] at hn hp hq
  rw [List.drop_eq_getElem_cons (show j < x.length by omega), List.drop_eq_getElem_cons (show j + 1 < x.length by omega), List.drop_eq_getElem_cons (show j + 1 + 1 < x.length by omega)]
  simp only [firstT, hn]
  rw [if_neg h]
  simp only [hp, hq]
theorem first_ear_no {x : List UInt8} {j n : Nat} (hj : j < x.length) (hl : ¬ j + 3 ≤ x.length) (hn : (x.getD j 0).toNat = n) (h : ¬ n < 128) : firstT (x.drop j) = none := by
  rw [List.getD_eq_getElem?_getD, List.getElem?_eq_getElem hj, Option.getD_some] at hn
  rw [List.drop_eq_getElem_cons hj]
  simp only [firstT, hn]
  rw [if_neg h]
  split
  · next h' l r e =>
    have := congrArg List.length e
    rw [List.length_drop] at this
    simp only [List.length_cons] at this
    omega
  · rfl
/-- What the document's Tokens answers. -/
def RtTo (w : World) (bs : List UInt8) (e : Ending) (w' : World) : Prop := Below w.heap.size w w' ∧ ((∃ n ts a c, Whole bs n ts ∧ e = .returned (.tuple #[.slice a ts.length c, .string (strOf (outL ts)), .bool true]) ∧ w'.ownsRow w.heap.size 56 3 (.slice a ts.length c) ts.length (tksV ts)) ∨ ((∀ n ts, ¬ Whole bs n ts) ∧ ∃ v1 v2, e = .returned (.tuple #[v1, v2, .bool false])))
/-- Where the reading stands. -/
structure At (size k : Nat) (bs : List UInt8) (j : Nat) (ts : List Tk) : Prop where
  e : bs.drop k = encL ts ++ bs.drop j
  g : Goes size 0 ts
  j : j ≤ bs.length
theorem At.no {size k j : Nat} {bs : List UInt8} {ts : List Tk} (h : At size k bs j ts) (hb : begL bs = some (size, k)) (hj : j < bs.length) (hf : ∀ t n, firstT (bs.drop j) = some (t, n) → ¬ (t.b ≤ toldL ts ∧ toldL ts + t.told ≤ size)) : ∀ n ts, ¬ Whole bs n ts := by
  intro n us hw
  obtain ⟨_, hr⟩ := whole_some hb hw
  refine right_no h.e h.g (fun e => ?_) hf us hr
  have := congrArg List.length e
  rw [List.length_drop, List.length_nil] at this
  omega
theorem At.on {size k j n : Nat} {bs : List UInt8} {ts : List Tk} {t : Tk} (h : At size k bs j ts) (hf : firstT (bs.drop j) = some (t, n)) (h1 : t.b ≤ toldL ts) (h2 : toldL ts + t.told ≤ size) (hj : j + n ≤ bs.length) : At size k bs (j + n) (ts ++ [t]) := by
  obtain ⟨ho, he, _⟩ := first_some hf
  refine ⟨?_, ?_, hj⟩
  · rw [h.e, encL_app, encL_one, List.append_assoc, ← List.drop_drop, he]
  · rw [Goes.app]
    exact ⟨h.g, ho, by omega, by omega, trivial⟩
theorem At.fin {size k : Nat} {bs : List UInt8} {ts : List Tk} (h : At size k bs bs.length ts) (hb : begL bs = some (size, k)) : (toldL ts = size → Whole bs size ts) ∧ (toldL ts ≠ size → ∀ n us, ¬ Whole bs n us) := by
  have e : bs.drop k = encL ts := by rw [h.e, List.drop_length, List.append_nil]
  refine ⟨fun ht => ⟨k, hb, e, h.g, ht⟩, fun ht n us hw => ?_⟩
  exact right_end e h.g ht us (whole_some hb hw).2
end Go.Proofs.Ytekbmdpokghmmaa
