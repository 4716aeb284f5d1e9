/- A walk over the reader's caveat; Decode as the program does it: mathematics. -/
import Derived.Test.YtcmdcmbiilfngabDoorLA
import Derived.Test.YtcmdcmbiilfngabDoorKK
namespace Go.Proofs.YtcmdcmbiilfngabDoor
open Go.RowKit
theorem Ex.setHi {g c : Nat} {a b : World} (h : Ex g a b) (hc : a.heap.size ≤ c) (o : Nat) (v : Value) : Ex g a (b.setCell ⟨c, o, none⟩ v) := ⟨h.1.setCell (Nat.zero_le _) _, fun k hk hg => by rw [heap_setCell_other _ _ _ _ (by show k ≠ c; omega)]; exact h.2 k hk hg⟩
theorem Ex.hi {g : Nat} {a b c : World} (h : Ex g a b) (h2 : Ex g b c) : Ex g a c := h.trans h2
theorem Bs.ex {w w' : World} {a : Option Addr} {len cap rb : Nat} {bs : List UInt8} (h : Bs w a len cap bs) (hx : Ex rb w w') (hne : (∀ ad, a = some ad → ad.block ≠ rb) ∨ bs = []) : Bs w' a len cap bs := by
  obtain ⟨h1, h2, h3, h4, h5⟩ := h
  refine ⟨h1, h2, h3, h4, fun ad had i hi => ?_⟩
  rcases hne with hne | hne
  rotate_left
  · rw [hne] at hi; simp at hi
  have hc := h5 ad had i hi
  have hlt := World.block_lt_of_cell? w _ hc
  have hb : (ad.add i).block = ad.block := by unfold Addr.add; split <;> rfl
  have e := hx.2 (ad.add i).block hlt (by rw [hb]; exact hne ad had)
  rw [World.cell?_of_block (w := w) e]
  exact hc
theorem res_cv1 {fn : Func} {p : Tmp} (h : fn.results = #[.cell p 39]) (tmps : Array Value) (w : World) (g : Nat) (cs : Array Value) (hp : tmps.getD p undef = .pointer (some ⟨g, 0, none⟩)) (hg : w.heap[g]? = some (.cells cs 39 (0, 0))) (hi : (Tryd.prog.info? 39).map (·.size) = some cs.size) :
    (results fn tmps).run Tryd.prog w = .ok (.agg cs) w := by
  have hp' : tmps[p]?.getD undef = .pointer (some ⟨g, 0, none⟩) := by simpa using hp
  have hl := run_loadVar_row (P := Tryd.prog) w g 39 39 cs (0, 0) _ hg Tryd.underlying39 rfl hi
  simp [results, h, hp', asAddr, hl]
set_option maxRecDepth 100000 in
set_option maxHeartbeats 2000000 in
theorem rdcav_any {w : World} {rb : Nat} {a : Option Addr} {len cap : Nat} {bs : List UInt8} {p : Int} {e : Nat} (h : w.heap[rb]? = some (rdR a len cap p e)) (hb : Bs w a len cap bs) (hne : (∀ ad, a = some ad → ad.block ≠ rb) ∨ bs = []) (hp : inP bs p) : Calls Tryd.prog 17 #[.pointer (some ⟨rb, 0, none⟩)] w fun e' w' => e' = .returned (.agg #[.string (rdC bs p e).1.path, .int .i64 (rdC bs p e).1.rights, .int .i64 (rdC bs p e).1.til]) ∧ w'.heap[rb]? = some (rdR a len cap (rdC bs p e).2.1 (rdC bs p e).2.2) ∧ Ex rb w w' := by
  have hrl := lt_of_some h
  have ip1 := rdT_in (m := 32) (e := e) hp
  have ip2 := rdN_in (e := (rdT bs p e 32).2.2) ip1
  unfold rdC
  obtain ⟨t, p1, e1, hT⟩ : ∃ t p1 e1, rdT bs p e 32 = (t, p1, e1) := ⟨_, _, _, rfl⟩
  rw [hT] at ip1 ip2 ⊢
  simp only at ip1 ip2 ⊢
  obtain ⟨n1, p2, e2, hN1⟩ : ∃ n p2 e2, rdN bs p1 e1 = (n, p2, e2) := ⟨_, _, _, rfl⟩
  rw [hN1] at ip2 ⊢
  simp only at ip2 ⊢
  obtain ⟨n2, p3, e3, hN2⟩ : ∃ n p3 e3, rdN bs p2 e2 = (n, p3, e3) := ⟨_, _, _, rfl⟩
  rw [hN2]
  simp only
  obtain ⟨X, hX⟩ : ∃ X, baOf t = X := ⟨_, rfl⟩
  rw [hX]
  obtain ⟨ab, hab⟩ : ∃ ab, w.heap.size = ab := ⟨_, rfl⟩
  obtain ⟨V1, hV1, r1, hb1⟩ := box_cv (w := w) ⟨#[]⟩ 0 0
  obtain ⟨cb, hcb⟩ : ∃ cb, V1.heap.size = cb := ⟨_, rfl⟩
  obtain ⟨V2, hV2, r2, hb2⟩ := box_cv (w := V1) ⟨#[]⟩ 0 0
  have hq1 : ab + 1 = cb := by rw [← hcb, ← hV1, ← hab]; simp
  rw [hab] at r1
  rw [hcb] at r2
  have ra2 : V2.heap[ab]? = some (.cells #[.string ⟨#[]⟩, .int .i64 0, .int .i64 0] 39 (0, 0)) := by rw [hb2.block ab (by omega)]; exact r1
  have hB2 : Below w.heap.size w V2 := hb1.trans (hb2.mono hb1.size)
  have x2 : Ex rb w V2 := Ex.of hB2
  have HT := rdtext_any (w := V2) (bs := bs) (p := p) (e := e) 32 (by omega) ((hB2.block rb hrl).trans h) (hb.below hB2) hp
  rw [show ((32 : Nat) : Int) = 32 from rfl, hT, hX] at HT
  simp only at HT
  have HX : Hid (∀ W, Ex rb w W → Bs W a len cap bs) := fun W hW => hb.ex hW hne
  have HI : Hid (inP bs p1 ∧ inP bs p2 ∧ rdN bs p1 e1 = (n1, p2, e2) ∧ rdN bs p2 e2 = (n2, p3, e3) ∧ rb < ab ∧ w.heap.size = ab ∧ ab + 1 = cb) := ⟨ip1, ip2, hN1, hN2, by omega, hab, hq1⟩
  have H2 : Hid (Ex rb w V2 ∧ V2.heap[ab]? = some (.cells #[.string ⟨#[]⟩, .int .i64 0, .int .i64 0] 39 (0, 0)) ∧ V2.heap[cb]? = some (.cells #[.string ⟨#[]⟩, .int .i64 0, .int .i64 0] 39 (0, 0))) := ⟨x2, ra2, r2⟩
  clear h hb hne hT hN1 hN2 hX r1 r2 ra2 hb1 hb2 hB2 x2 ip1 ip2 hrl hp
  go_enter Tryd.func17, Tryd.ntmps17
  go_wp2_with fail
  refine HT.mono ?_
  rintro e' V3 ⟨rfl, h3, hx3⟩
  have a3 := (hx3.2 ab (lt_of_some H2.out.2.1) (by have := HI.out; omega)).trans H2.out.2.1
  have c3 := (hx3.2 cb (lt_of_some H2.out.2.2) (by have := HI.out; omega)).trans H2.out.2.2
  obtain ⟨_, _, _, f0, _, _⟩ := row3 c3
  obtain ⟨k0, _⟩ := row3 c3
  obtain ⟨V4, hV4⟩ : ∃ V4, V3.setCell ⟨cb, 0, none⟩ (.string X) = V4 := ⟨_, rfl⟩
  have c4 : V4.heap[cb]? = some (.cells #[.string X, .int .i64 0, .int .i64 0] 39 (0, 0)) := by rw [← hV4, heap_setCell_same _ _ _ _ _ _ c3]; rfl
  have o4 : ∀ k, k ≠ cb → V4.heap[k]? = V3.heap[k]? := fun k hk => by rw [← hV4, heap_setCell_other _ _ _ _ hk]
  have x4 : Ex rb w V4 := by rw [← hV4]; exact (H2.out.1.trans hx3).setHi (by have := HI.out; omega) _ _
  have a4 := (o4 ab (by have := HI.out; omega)).trans a3
  have h4 := (o4 rb (by have := HI.out; omega)).trans h3
  have HN1 := rdnum_any (w := V4) h4 (HX.out V4 x4) HI.out.1
  rw [HI.out.2.2.1] at HN1
  simp only at HN1
  have H4 : Hid (V4.heap[cb]? = some (.cells #[.string X, .int .i64 0, .int .i64 0] 39 (0, 0)) ∧ Ex rb w V4 ∧ V4.heap[ab]? = some (.cells #[.string ⟨#[]⟩, .int .i64 0, .int .i64 0] 39 (0, 0))) := ⟨c4, x4, a4⟩
  clear HT h3 hx3 a3 c3 c4 o4 x4 a4 h4
  go_wp2_with fail
  refine HN1.mono ?_
  rintro e' V5 ⟨rfl, h5, hx5⟩
  have a5 := (hx5.2 ab (lt_of_some H4.out.2.2) (by have := HI.out; omega)).trans H4.out.2.2
  have c5 := (hx5.2 cb (lt_of_some H4.out.1) (by have := HI.out; omega)).trans H4.out.1
  clear k0 f0
  obtain ⟨_, _, _, _, f1, _⟩ := row3 c5
  obtain ⟨_, k1, _⟩ := row3 c5
  obtain ⟨V6, hV6⟩ : ∃ V6, V5.setCell ⟨cb, 1, none⟩ (.int .i64 (n1 : Int)) = V6 := ⟨_, rfl⟩
  have c6 : V6.heap[cb]? = some (.cells #[.string X, .int .i64 (n1 : Int), .int .i64 0] 39 (0, 0)) := by rw [← hV6, heap_setCell_same _ _ _ _ _ _ c5]; rfl
  have o6 : ∀ k, k ≠ cb → V6.heap[k]? = V5.heap[k]? := fun k hk => by rw [← hV6, heap_setCell_other _ _ _ _ hk]
  have x6 : Ex rb w V6 := by rw [← hV6]; exact (H4.out.2.1.trans hx5).setHi (by have := HI.out; omega) _ _
  have a6 := (o6 ab (by have := HI.out; omega)).trans a5
  have h6 := (o6 rb (by have := HI.out; omega)).trans h5
  have HN2 := rdnum_any (w := V6) h6 (HX.out V6 x6) HI.out.2.1
  rw [HI.out.2.2.2.1] at HN2
  simp only at HN2
  have H6 : Hid (V6.heap[cb]? = some (.cells #[.string X, .int .i64 (n1 : Int), .int .i64 0] 39 (0, 0)) ∧ Ex rb w V6 ∧ V6.heap[ab]? = some (.cells #[.string ⟨#[]⟩, .int .i64 0, .int .i64 0] 39 (0, 0))) := ⟨c6, x6, a6⟩
  clear HN1 h5 hx5 a5 c5 c6 o6 x6 a6 h6
  go_wp2_with fail
  refine HN2.mono ?_
  rintro e' V7 ⟨rfl, h7, hx7⟩
  have a7 := (hx7.2 ab (lt_of_some H6.out.2.2) (by have := HI.out; omega)).trans H6.out.2.2
  have c7 := (hx7.2 cb (lt_of_some H6.out.1) (by have := HI.out; omega)).trans H6.out.1
  clear k1 f1
  obtain ⟨_, _, k2, _, _, f2⟩ := row3 c7
  obtain ⟨V8, hV8⟩ : ∃ V8, V7.setCell ⟨cb, 2, none⟩ (.int .i64 (n2 : Int)) = V8 := ⟨_, rfl⟩
  have c8 : V8.heap[cb]? = some (.cells #[.string X, .int .i64 (n1 : Int), .int .i64 (n2 : Int)] 39 (0, 0)) := by rw [← hV8, heap_setCell_same _ _ _ _ _ _ c7]; rfl
  have o8 : ∀ k, k ≠ cb → V8.heap[k]? = V7.heap[k]? := fun k hk => by rw [← hV8, heap_setCell_other _ _ _ _ hk]
  have x8 : Ex rb w V8 := by rw [← hV8]; exact (H6.out.2.1.trans hx7).setHi (by have := HI.out; omega) _ _
  have a8 := (o8 ab (by have := HI.out; omega)).trans a7
  have h8 := (o8 rb (by have := HI.out; omega)).trans h7
  obtain ⟨m0, m1, m2, _⟩ := row3 c8
  obtain ⟨q0, q1, q2, g0, g1, g2⟩ := row3 a8
  obtain ⟨W9, hW9⟩ : ∃ W9, ((V8.setCell ⟨ab, 0, none⟩ (.string X)).setCell ⟨ab, 1, none⟩ (.int .i64 (n1 : Int))).setCell ⟨ab, 2, none⟩ (.int .i64 (n2 : Int)) = W9 := ⟨_, rfl⟩
  have HE : Hid (W9.heap[ab]? = some (.cells #[.string X, .int .i64 (n1 : Int), .int .i64 (n2 : Int)] 39 (0, 0)) ∧ W9.heap[rb]? = some (rdR a len cap p3 e3) ∧ Ex rb w W9) := by
    refine ⟨by rw [← hW9]; exact set3 a8 _ _ _, ?_, ?_⟩
    · rw [← hW9, other3s (by have := HI.out; omega)]
      exact h8
    · rw [← hW9]
      exact ((x8.setHi (by have := HI.out; omega) _ _).setHi (by have := HI.out; omega) _ _).setHi (by have := HI.out; omega) _ _
  clear HN2 h7 hx7 a7 c7 c8 o8 x8 a8 h8
  go_wp2
  refine bodyPost_ret (v := .agg #[.string X, .int .i64 (n1 : Int), .int .i64 (n2 : Int)]) ?_ rfl ⟨rfl, HE.out.2⟩
  exact res_cv1 (fn := Tryd.f17) (p := 2) (by rfl) _ _ ab _ (by rfl) HE.out.1 infoC3
/-- Caveats that are read one behind the other; behind an error they are empty. -/
def foldC (bs : List UInt8) (p : Int) (e : Nat) : Nat → List Cv × Int × Nat
  | 0 => ([], p, e)
  | i + 1 => ((foldC bs p e i).1 ++ [(rdC bs (foldC bs p e i).2.1 (foldC bs p e i).2.2).1], (rdC bs (foldC bs p e i).2.1 (foldC bs p e i).2.2).2)
theorem foldC_in {bs : List UInt8} {p : Int} {e : Nat} (h : inP bs p) : ∀ i, inP bs (foldC bs p e i).2.1
  | 0 => h
  | i + 1 => rdC_in (foldC_in h i)
theorem foldC_len (bs : List UInt8) (p : Int) (e : Nat) : ∀ i, (foldC bs p e i).1.length = i
  | 0 => rfl
  | i + 1 => by show ((foldC bs p e i).1 ++ [_]).length = i + 1; rw [List.length_append, foldC_len bs p e i]; rfl
theorem rdT_len {bs : List UInt8} {p m : Int} {e : Nat} : (rdT bs p e m).1.length ≤ bs.length := by
  unfold rdT
  split
  · simp
  · unfold textAt
    split
    · simp
    · split
      · simp
      · simp only [List.length_take, List.length_drop]; omega
theorem foldC_paths {bs : List UInt8} {p : Int} {e : Nat} (h : bs.length ≤ 9223372036854775807) : ∀ i, ∀ c ∈ (foldC bs p e i).1, c.path.size ≤ 9223372036854775807
  | 0 => fun c hc => by cases hc
  | i + 1 => fun c hc => by
    have hc' : c ∈ (foldC bs p e i).1 ++ [(rdC bs (foldC bs p e i).2.1 (foldC bs p e i).2.2).1] := hc
    rcases List.mem_append.1 hc' with hc | hc
    · exact foldC_paths h i c hc
    · rw [List.mem_singleton.1 hc]
      show (baOf (rdT bs (foldC bs p e i).2.1 (foldC bs p e i).2.2 32).1).size ≤ _
      have := rdT_len (bs := bs) (p := (foldC bs p e i).2.1) (m := 32) (e := (foldC bs p e i).2.2)
      unfold baOf ByteArray.size
      simp only [List.size_toArray]
      omega
theorem rdC_err {bs : List UInt8} {p : Int} {e : Nat} (h : e ≠ 0) : (rdC bs p e).2.2 = e := by
  have h1 : rdT bs p e 32 = ([], p, e) := by unfold rdT; rw [if_pos h]
  have h2 : rdN bs p e = (0, p, e) := by unfold rdN; rw [if_pos h]
  unfold rdC
  rw [h1]
  simp only
  rw [h2]
  simp only
  rw [h2]
theorem foldC_err {bs : List UInt8} {p : Int} {e : Nat} (h : e ≠ 0) : ∀ i, (foldC bs p e i).2.2 = e
  | 0 => rfl
  | i + 1 => by
    show (rdC bs (foldC bs p e i).2.1 (foldC bs p e i).2.2).2.2 = e
    have := foldC_err (bs := bs) (p := p) h i
    rw [this]
    exact rdC_err h
theorem rdC_ok (bs : List UInt8) (p : Int) : (∀ c q, cavAt KP63 bs p = .ok (c, q) → rdC bs p 0 = (c, q, 0)) ∧ (∀ er, cavAt KP63 bs p = .error er → (rdC bs p 0).2.2 = er ∧ er ≠ 0) := by
  have hT : rdT bs p 0 32 = textAt bs p 32 := by unfold rdT; rw [if_neg (by simp)]
  unfold cavAt rdC
  rw [hT]
  by_cases h1 : (textAt bs p 32).2.2 ≠ 0
  · rw [if_pos h1]
    refine ⟨fun c q h => (by cases h), fun er h => ?_⟩
    cases h
    have h2 : ∀ p', rdN bs p' (textAt bs p 32).2.2 = (0, p', (textAt bs p 32).2.2) := fun p' => by unfold rdN; rw [if_pos h1]
    rw [h2]
    simp only
    rw [h2]
    exact ⟨rfl, h1⟩
  · rw [if_neg h1]
    have h1' : (textAt bs p 32).2.2 = 0 := by omega
    rw [h1']
    have e1 : ∀ p', rdN bs p' 0 = (min (getAt bs p').1 KP63, (getAt bs p').2.1, (getAt bs p').2.2) := fun p' => by unfold rdN; rw [if_neg (by simp)]
    rw [e1]
    simp only
    by_cases h2 : (getAt bs (textAt bs p 32).2.1).2.2 ≠ 0
    · rw [if_pos h2]
      refine ⟨fun c q h => (by cases h), fun er h => ?_⟩
      cases h
      have h3 : ∀ p', rdN bs p' (getAt bs (textAt bs p 32).2.1).2.2 = (0, p', (getAt bs (textAt bs p 32).2.1).2.2) := fun p' => by unfold rdN; rw [if_pos h2]
      rw [h3]
      exact ⟨rfl, h2⟩
    · rw [if_neg h2]
      have h2' : (getAt bs (textAt bs p 32).2.1).2.2 = 0 := by omega
      rw [h2', e1]
      simp only
      by_cases h3 : (getAt bs (getAt bs (textAt bs p 32).2.1).2.1).2.2 ≠ 0
      · rw [if_pos h3]
        refine ⟨fun c q h => (by cases h), fun er h => ?_⟩
        cases h
        exact ⟨rfl, h3⟩
      · rw [if_neg h3]
        refine ⟨fun c q h => ?_, fun er h => by cases h⟩
        cases h
        have h3' : (getAt bs (getAt bs (textAt bs p 32).2.1).2.1).2.2 = 0 := by omega
        rw [h3']
theorem foldC_ok (bs : List UInt8) (p : Int) : ∀ n, (∀ l q, cavsAt KP63 bs p n = .ok (l, q) → foldC bs p 0 n = (l, q, 0)) ∧ (∀ er, cavsAt KP63 bs p n = .error er → (foldC bs p 0 n).2.2 = er ∧ er ≠ 0)
  | 0 => ⟨fun l q h => by cases h; rfl, fun er h => by cases h⟩
  | n + 1 => by
    obtain ⟨i1, i2⟩ := foldC_ok bs p n
    unfold cavsAt foldC
    cases hc : cavsAt KP63 bs p n with
    | error e =>
      obtain ⟨j1, j2⟩ := i2 e hc
      simp only
      refine ⟨fun l q h => (by cases h), fun er h => ?_⟩
      cases h
      rw [j1]
      exact ⟨rdC_err j2, j2⟩
    | ok r =>
      obtain ⟨l, q⟩ := r
      have j := i1 l q hc
      rw [j]
      simp only
      obtain ⟨k1, k2⟩ := rdC_ok bs q
      cases hd : cavAt KP63 bs q with
      | error e =>
        obtain ⟨m1, m2⟩ := k2 e hd
        simp only
        refine ⟨fun l q h => (by cases h), fun er h => ?_⟩
        cases h
        exact ⟨m1, m2⟩
      | ok r2 =>
        obtain ⟨c, s⟩ := r2
        have m := k1 c s hd
        simp only
        refine ⟨fun l' q' h => ?_, fun er h => (by cases h)⟩
        cases h
        rw [m]
theorem rdN_0 (bs : List UInt8) (p : Int) : rdN bs p 0 = (min (getAt bs p).1 KP63, (getAt bs p).2.1, (getAt bs p).2.2) := by unfold rdN; rw [if_neg (by simp)]
theorem rdN_e {bs : List UInt8} {p : Int} {e : Nat} (h : e ≠ 0) : rdN bs p e = (0, p, e) := by unfold rdN; rw [if_pos h]
theorem getAt_err {bs : List UInt8} {p : Int} (h : (getAt bs p).2.2 ≠ 0) : (getAt bs p).1 = 0 := by
  unfold getAt at h ⊢
  split
  · rfl
  · next hb =>
    rw [if_neg hb] at h
    exact (getL_no (bs.drop p.toNat) 0 0 h).1
/-- How the program's steps make what the document says. -/
theorem dec_steps {bs : List UInt8} {p : Int} {n1 n2 n3 : Nat} {p1 p2 p3 : Int} {e1 e2 e3 : Nat} (h1 : rdN bs p 0 = (n1, p1, e1)) (h2 : rdN bs p1 e1 = (n2, p2, e2)) (h3 : rdN bs p2 e2 = (n3, p3, e3)) :
    (8 < n3 → decAt KP63 bs p = .error 4) ∧ (n3 ≤ 8 → ∀ l q e4 t q2 e5, foldC bs p3 e3 n3 = (l, q, e4) → rdT bs q e4 32 = (t, q2, e5) →
      (e5 ≠ 0 → decAt KP63 bs p = .error e5) ∧ (e5 = 0 → decAt KP63 bs p = (if mayT ⟨(n1 : Int), (n2 : Int), l, baOf t⟩ = true then .ok (⟨(n1 : Int), (n2 : Int), l, baOf t⟩, q2) else .error 4))) := by
  rw [rdN_0] at h1
  simp only [Prod.mk.injEq] at h1
  obtain ⟨rfl, rfl, rfl⟩ := h1
  by_cases x1 : (getAt bs p).2.2 ≠ 0
  · rw [rdN_e x1] at h2
    simp only [Prod.mk.injEq] at h2
    obtain ⟨rfl, rfl, rfl⟩ := h2
    rw [rdN_e x1] at h3
    simp only [Prod.mk.injEq] at h3
    obtain ⟨rfl, rfl, rfl⟩ := h3
    have hd : decAt KP63 bs p = .error (getAt bs p).2.2 := by unfold decAt; rw [if_pos x1]
    refine ⟨fun h => by omega, fun _ l q e4 t q2 e5 hf ht => ?_⟩
    cases hf
    have ht2 : rdT bs (getAt bs p).2.1 (getAt bs p).2.2 32 = ([], (getAt bs p).2.1, (getAt bs p).2.2) := by unfold rdT; rw [if_pos x1]
    rw [ht2] at ht
    cases ht
    exact ⟨fun _ => hd, fun h => absurd h x1⟩
  · have x1' : (getAt bs p).2.2 = 0 := by omega
    rw [x1', rdN_0] at h2
    simp only [Prod.mk.injEq] at h2
    obtain ⟨rfl, rfl, rfl⟩ := h2
    by_cases x2 : (getAt bs (getAt bs p).2.1).2.2 ≠ 0
    · rw [rdN_e x2] at h3
      simp only [Prod.mk.injEq] at h3
      obtain ⟨rfl, rfl, rfl⟩ := h3
      have hd : decAt KP63 bs p = .error (getAt bs (getAt bs p).2.1).2.2 := by unfold decAt; rw [if_neg x1, if_pos x2]
      refine ⟨fun h => by omega, fun _ l q e4 t q2 e5 hf ht => ?_⟩
      cases hf
      have ht2 : rdT bs (getAt bs (getAt bs p).2.1).2.1 (getAt bs (getAt bs p).2.1).2.2 32 = ([], (getAt bs (getAt bs p).2.1).2.1, (getAt bs (getAt bs p).2.1).2.2) := by unfold rdT; rw [if_pos x2]
      rw [ht2] at ht
      cases ht
      exact ⟨fun _ => hd, fun h => absurd h x2⟩
    · have x2' : (getAt bs (getAt bs p).2.1).2.2 = 0 := by omega
      rw [x2', rdN_0] at h3
      simp only [Prod.mk.injEq] at h3
      obtain ⟨rfl, rfl, rfl⟩ := h3
      by_cases x3 : (getAt bs (getAt bs (getAt bs p).2.1).2.1).2.2 ≠ 0
      · have hz := getAt_err x3
        have hd : decAt KP63 bs p = .error (getAt bs (getAt bs (getAt bs p).2.1).2.1).2.2 := by unfold decAt; rw [if_neg x1, if_neg x2, if_pos x3]
        rw [hz]
        refine ⟨fun h => by simp at h, fun _ l q e4 t q2 e5 hf ht => ?_⟩
        rw [Nat.zero_min] at hf
        cases hf
        have ht2 : ∀ q', rdT bs q' (getAt bs (getAt bs (getAt bs p).2.1).2.1).2.2 32 = ([], q', (getAt bs (getAt bs (getAt bs p).2.1).2.1).2.2) := fun q' => by unfold rdT; rw [if_pos x3]
        rw [ht2] at ht
        cases ht
        exact ⟨fun _ => hd, fun h => absurd h x3⟩
      · have x3' : (getAt bs (getAt bs (getAt bs p).2.1).2.1).2.2 = 0 := by omega
        have hk : KP63 = 9223372036854775807 := rfl
        refine ⟨fun h => ?_, fun h l q e4 t q2 e5 hf ht => ?_⟩
        · unfold decAt
          rw [if_neg x1, if_neg x2, if_neg x3, if_pos (by omega)]
        · have hmin : min (getAt bs (getAt bs (getAt bs p).2.1).2.1).1 KP63 = (getAt bs (getAt bs (getAt bs p).2.1).2.1).1 := by omega
          rw [hmin, x3'] at hf
          rw [hmin] at h
          have hd : decAt KP63 bs p = restAt KP63 bs (getAt bs p).1 (getAt bs (getAt bs p).2.1).1 (getAt bs (getAt bs (getAt bs p).2.1).2.1).1 (getAt bs (getAt bs (getAt bs p).2.1).2.1).2.1 := by unfold decAt; rw [if_neg x1, if_neg x2, if_neg x3, if_neg (by omega)]
          rw [hd]
          unfold restAt
          obtain ⟨f1, f2⟩ := foldC_ok bs (getAt bs (getAt bs (getAt bs p).2.1).2.1).2.1 (getAt bs (getAt bs (getAt bs p).2.1).2.1).1
          cases hc : cavsAt KP63 bs (getAt bs (getAt bs (getAt bs p).2.1).2.1).2.1 (getAt bs (getAt bs (getAt bs p).2.1).2.1).1 with
          | error er =>
            obtain ⟨g1, g2⟩ := f2 er hc
            rw [hf] at g1
            simp only at g1
            subst g1
            have ht2 : rdT bs q e4 32 = ([], q, e4) := by unfold rdT; rw [if_pos g2]
            rw [ht2] at ht
            cases ht
            exact ⟨fun _ => rfl, fun h => absurd h g2⟩
          | ok r =>
            obtain ⟨l', q'⟩ := r
            have g := f1 l' q' hc
            rw [hf] at g
            cases g
            have ht2 : rdT bs q 0 32 = textAt bs q 32 := by unfold rdT; rw [if_neg (by simp)]
            rw [ht2] at ht
            simp only
            rw [ht]
            simp only
            refine ⟨fun h5 => by rw [if_pos h5], fun h5 => by rw [if_neg (by omega)]⟩
end Go.Proofs.YtcmdcmbiilfngabDoor
