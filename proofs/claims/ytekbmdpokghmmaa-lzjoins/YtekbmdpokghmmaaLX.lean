/- Tokens that came in: few, mine; is a token right. -/
import Derived.Test.YtekbmdpokghmmaaLW
namespace Go.Proofs.Ytekbmdpokghmmaa
open Go.ChangeShapes Go.WideShapes Go.ChangeAt Go.RowKit Go.Deep Lz
/-- A token as it came. -/
structure RT where
  b : Int
  s : Int
  d : List UInt8
def InI (x : Int) : Prop := -9223372036854775808 ≤ x ∧ x ≤ 9223372036854775807
def RT.In (t : RT) : Prop := InI t.b ∧ InI t.s ∧ t.d.length ≤ 9223372036854775807
def rtC (t : RT) : List Value := [.int .i64 t.b, .int .i64 t.s, .string (strOf t.d)]
def rtsV (l : List RT) : List Value := l.flatMap rtC
theorem rtsV_len (l : List RT) : (rtsV l).length = l.length * 3 := fm_len (f := rtC) (k := 3) (fun _ => rfl) l
theorem rtsV_app (a b : List RT) : rtsV (a ++ b) = rtsV a ++ rtsV b := by simp [rtsV]
theorem rtsV_one (l : List RT) : ∀ u ∈ rtsV l, u.oneCell' = true := by
  intro u hu
  obtain ⟨t, _, h⟩ := List.mem_flatMap.1 hu
  simp only [rtC, List.mem_cons, List.not_mem_nil, or_false] at h
  rcases h with rfl | rfl | rfl <;> rfl
/-- Tokens in memory. -/
def RTs (w : World) (a : Option Addr) (len cap : Nat) (l : List RT) : Prop := Rw (fun _ => True) w 56 3 a len cap (rtsV l) ∧ l.length = len ∧ ∀ t ∈ l, t.In
instance : Inhabited RT := ⟨⟨0, 0, []⟩⟩
theorem strOf_of (s : ByteArray) : strOf s.data.toList = s := by
  apply ByteArray.ext; simp [strOf]
theorem cellsRT : Try.prog.cellsOf 56 = 3 := by kernel_rfl
set_option maxRecDepth 100000 in
theorem rt_of {H : Type} {enc : TypeId × Value → H} {W : World} {base : Nat} {spare : Nat → Bool} {held : Bool} {fuel : Nat} {cs : List Value} {x : DataW H × List MemPlace} (hf : DataW.trod enc Try.prog W base spare held fuel 56 cs = some x) : ∃ t : RT, cs = rtC t ∧ t.In := by
  obtain ⟨xs, n, _, _, hl, hx, hi⟩ := DataW.trod_struct Try.underlying56 hf
  rw [cellsRT] at hl
  match cs, hl with
  | [c0, c1, c2], _ =>
    match xs, hx with
    | [x0, x1, x2], _ =>
      have h0 : DataW.trod enc Try.prog W base spare held n 3 (([c0, c1, c2].drop 0).take (Try.prog.cellsOf 3)) = some x0 := hi 0 _ rfl
      rw [show Try.prog.cellsOf 3 = 1 by kernel_rfl, show ([c0, c1, c2].drop 0).take 1 = [c0] from rfl] at h0
      have h1 : DataW.trod enc Try.prog W base spare held n 3 (([c0, c1, c2].drop 1).take (Try.prog.cellsOf 3)) = some x1 := hi 1 _ rfl
      rw [show Try.prog.cellsOf 3 = 1 by kernel_rfl, show ([c0, c1, c2].drop 1).take 1 = [c1] from rfl] at h1
      have h2 : DataW.trod enc Try.prog W base spare held n 9 (([c0, c1, c2].drop 2).take (Try.prog.cellsOf 9)) = some x2 := hi 2 _ rfl
      rw [show Try.prog.cellsOf 9 = 1 by kernel_rfl, show ([c0, c1, c2].drop 2).take 1 = [c2] from rfl] at h2
      obtain ⟨y0, e0, _, w0⟩ := DataW.trod_int Try.underlying3 h0
      obtain ⟨y1, e1, _, w1⟩ := DataW.trod_int Try.underlying3 h1
      obtain ⟨y2, e2, _, w2⟩ := DataW.trod_string Try.underlying9 h2
      simp only [List.cons.injEq, and_true] at e0 e1 e2
      subst e0 e1 e2
      refine ⟨⟨y0, y1, y2.data.toList⟩, by simp only [rtC, strOf_of], wf_i64 w0, wf_i64 w1, ?_⟩
      have : y2.size ≤ 9223372036854775807 := by simpa [maxLen] using w2
      show y2.data.toList.length ≤ _
      rw [Array.length_toList]
      exact this
set_option maxRecDepth 100000 in
theorem rtoks_of {H : Type} {enc : TypeId × Value → H} {W : World} {base : Nat} {spare : Nat → Bool} {held : Bool} {fuel : Nat} {a : Option Addr} {len cap : Nat} {x : DataW H × List MemPlace}
    (hf : DataW.trod enc Try.prog W base spare held fuel 32 [.slice a len cap] = some x) : ∃ l, RTs W a len cap l := by
  rcases open_slice Try.underlying32 hf with ⟨hcs, _⟩ | ⟨ad, l, c, m, n, D, Pl, hcs, _, hl, hm, hmm, hx, hV⟩
  · simp only [List.cons.injEq, Value.slice.injEq, and_true] at hcs
    obtain ⟨rfl, rfl, rfl⟩ := hcs
    exact ⟨[], ⟨rfl, Nat.le_refl _, by omega, fun h => absurd h (by omega)⟩, rfl, fun t ht => by cases ht⟩
  · simp only [List.cons.injEq, Value.slice.injEq, and_true] at hcs
    obtain ⟨rfl, rfl, rfl⟩ := hcs
    subst hx
    have hlm : len ≤ m := by rw [hmm]; split <;> omega
    rw [cellsRT] at hV
    have hb : ∀ i, i < len → ∃ t : RT, (W.cell? (ad.add (i * 3)) = some (.int .i64 t.b) ∧ W.cell? ((ad.add (i * 3)).add 1) = some (.int .i64 t.s) ∧ W.cell? ((ad.add (i * 3)).add 2) = some (.string (strOf t.d))) ∧ t.In := by
      intro i hi
      obtain ⟨cs', h1, h2⟩ := hV i (by omega)
      obtain ⟨t, rfl, hr⟩ := rt_of h2
      obtain ⟨_, _, hc⟩ := World.cells?_some h1
      refine ⟨t, ⟨?_, hc 1 (by omega), hc 2 (by omega)⟩, hr⟩
      have := hc 0 (by omega)
      rwa [show (ad.add (i * 3)).add 0 = ad.add (i * 3) by rw [add_add, Nat.add_zero]] at this
    obtain ⟨f, hf⟩ := choose_lt (α := RT) hb
    refine ⟨(List.range len).map f, ⟨by rw [rtsV_len]; simp, hl, hm, fun h0 => ?_⟩, by simp, fun t ht => ?_⟩
    · obtain ⟨bb, oo, spot⟩ := ad
      have hspot : spot = none := by simpa [Addr.add] using World.cell?_spot (hf 0 h0).1.1
      subst hspot
      refine ⟨bb, oo, rfl, ?_, trivial, fun j u hu => ?_⟩
      · have := World.block_lt_of_cell? W _ (hf 0 h0).1.1
        rwa [add_at] at this
      · have hj : j < len * 3 := by
          have := (List.getElem?_eq_some_iff.1 hu).1
          rw [rtsV_len] at this
          simpa using this
        have hi : j / 3 < len := by omega
        have hat := fm_at (f := rtC) (k := 3) (fun _ => rfl) (l := (List.range len).map f) (i := j / 3) (x := f (j / 3)) (by simp [hi]) (j % 3) (by omega)
        have e : (j / 3) * 3 + j % 3 = j := by omega
        rw [e] at hat
        have hu' : (rtC (f (j / 3)))[j % 3]? = some u := by rw [← hat]; exact hu
        have hc := (hf (j / 3) hi).1
        simp only [add_at] at hc
        have h3 : j % 3 = 0 ∨ j % 3 = 1 ∨ j % 3 = 2 := by omega
        rcases h3 with h3 | h3 | h3
        · rw [h3] at hu'
          cases hu'
          rw [show oo + j = oo + j / 3 * 3 by omega]; exact hc.1
        · rw [h3] at hu'
          cases hu'
          rw [show oo + j = oo + j / 3 * 3 + 1 by omega]; exact hc.2.1
        · rw [h3] at hu'
          cases hu'
          rw [show oo + j = oo + j / 3 * 3 + 2 by omega]; exact hc.2.2
    · obtain ⟨i, hi, rfl⟩ := List.mem_map.1 ht
      exact (hf i (List.mem_range.1 hi)).2
theorem rt_cells {G : Nat → Prop} {w : World} {et : Nat} {a : Option Addr} {n c : Nat} {l : List RT} (h : Rw G w et 3 a n c (rtsV l)) {i : Nat} {t : RT} (ht : l[i]? = some t) (hi : i < n) : ∃ b o, a = some ⟨b, o, none⟩ ∧ b < w.heap.size ∧ w.cell? ⟨b, o + i * 3, none⟩ = some (.int .i64 t.b) ∧ w.cell? ⟨b, o + i * 3 + 1, none⟩ = some (.int .i64 t.s) ∧ w.cell? ⟨b, o + i * 3 + 2, none⟩ = some (.string (strOf t.d)) := by
  obtain ⟨b, o, rfl, hb, _, hc⟩ := h.2.2.2 (by omega)
  have hat := fun j hj => fm_at (f := rtC) (k := 3) (fun _ => rfl) ht j hj
  refine ⟨b, o, rfl, hb, ?_, ?_, ?_⟩
  · have := hc (i * 3 + 0) _ (by show (l.flatMap rtC)[i * 3 + 0]? = _; rw [hat 0 (by omega)]; rfl)
    simpa using this
  · have := hc (i * 3 + 1) _ (by show (l.flatMap rtC)[i * 3 + 1]? = _; rw [hat 1 (by omega)]; rfl)
    rwa [← Nat.add_assoc] at this
  · have := hc (i * 3 + 2) _ (by show (l.flatMap rtC)[i * 3 + 2]? = _; rw [hat 2 (by omega)]; rfl)
    rwa [← Nat.add_assoc] at this
def Few (l : List RT) : Prop := l.length ≤ 600 ∧ ∀ t ∈ l, t.d.length ≤ 1000
def FewTo (w : World) (l : List RT) (e : Ending) (w' : World) : Prop := ∃ r, e = .returned (.bool r) ∧ (r = true → Few l) ∧ Below w.heap.size w w'
set_option maxRecDepth 100000 in
set_option maxHeartbeats 2000000 in
theorem few_any {w : World} {a : Option Addr} {n c : Nat} {l : List RT} (h : RTs w a n c l) : Calls Try.prog 17 #[.slice a n c] w (FewTo w l) := by
  have H : Hid (RTs w a n c l) := h
  have hcap : n ≤ 9223372036854775807 := by have := h.1.2.1; have := h.1.2.2.1; unfold maxLen at this; omega
  clear h
  by_cases hn : 600 < n
  · have kk : (600 : Int) < (n : Int) := by omega
    go_enter Try.func17, Try.ntmps17
    go_wp2
    go_ret
    exact ⟨false, rfl, fun h => (by cases h), Below.refl _ _⟩
  · have kk : ¬ (600 : Int) < (n : Int) := by omega
    go_enter Try.func17, Try.ntmps17
    go_wp2
    go_loopw [3] (fun v3 wr => ∃ i : Nat, i ≤ n ∧ v3 = .int .i64 (i : Int) ∧ Below w.heap.size w wr ∧ ∀ t ∈ l.take i, t.d.length ≤ 1000) (fun v3 _ => n - (intOf v3).toNat)
    case atStart => exact ⟨0, Nat.zero_le _, rfl, Below.refl _ _, fun t ht => by simp at ht⟩
    case round =>
      obtain ⟨i, hi, rfl, hb, hall⟩ := hrel
      have HB : Hid (Below w.heap.size w wr ∧ ∀ t ∈ l.take i, t.d.length ≤ 1000) := ⟨hb, hall⟩
      by_cases hlt : i < n
      · have kk : (i : Int) < (n : Int) := by omega
        obtain ⟨t, ht⟩ : ∃ t, l[i]? = some t := ⟨_, List.getElem?_eq_getElem (by rw [H.out.2.1]; exact hlt)⟩
        obtain ⟨b, o, rfl, _, _, _, d2⟩ := rt_cells (H.out.1.below hb) ht hlt
        obtain ⟨T, hT⟩ : ∃ T, strOf t.d = T := ⟨_, rfl⟩
        have hz : T.size = t.d.length := by rw [← hT]; exact strOf_size _
        rw [hT] at d2
        by_cases hs : 1000 < T.size
        · have k2 : (1000 : Int) < (T.size : Int) := by omega
          clear hb hall ht hT hz
          go_wp2
          go_ret
          exact ⟨false, rfl, fun h => (by cases h), HB.out.1⟩
        · have k2 : ¬ (1000 : Int) < (T.size : Int) := by omega
          have HN : Hid (∀ t ∈ l.take (i + 1), t.d.length ≤ 1000) := by
            show ∀ t ∈ l.take (i + 1), t.d.length ≤ 1000
            rw [take_snoc ht]
            intro u hu
            rcases List.mem_append.1 hu with hu | hu
            · exact hall u hu
            · rw [List.mem_singleton.1 hu]; omega
          clear hb hall ht hT hz
          go_wp2
          exact ⟨⟨i + 1, by omega, by go_num, HB.out.1, HN.out⟩, by simp [intOf]; omega⟩
      · have hin : n = i := by omega
        have kk : ¬ (i : Int) < (n : Int) := by omega
        have HF : Hid (Few l) := ⟨by rw [H.out.2.1]; omega, by rw [List.take_of_length_le (by rw [H.out.2.1]; omega)] at hall; exact hall⟩
        clear hb hall
        go_wp2
        go_ret
        exact ⟨true, rfl, fun _ => HF.out, HB.out.1⟩
theorem app_raw {G2 : Nat → Prop} (w : World) {base : Nat} {a : Option Addr} {n c : Nat} {ts : List RT} (h : w.ownsRow base 51 3 (.slice a n c) n (rtsV ts)) {a2 : Option Addr} {m c2 : Nat} {k : List RT} (h2 : Rw G2 w 51 3 a2 m c2 (rtsV k)) (hN : n + m ≤ 1000000) (hb : base ≤ w.heap.size) :
    ∃ a' c' w', (∀ ty, (Builtin.append_ #[29, 29] ty #[.slice a n c, .slice a2 m c2]).run Try.prog w = .ok (.slice a' (n + m) c') w') ∧ w'.ownsRow base 51 3 (.slice a' (n + m) c') (n + m) (rtsV (ts ++ k)) ∧ w.grownBy w' (ob a) ∧ (ob a' = ob a ∨ ob a' = some w.heap.size) := by
  obtain ⟨i, hi, hz, hs, hbb⟩ := info_of infoTok
  rw [rtsV_app]
  exact app_own w 29 51 i _ 3 32 Try.underlying29 hi hz hs hbb rfl (by omega) h h2 (rtsV_one k) hN (by omega) hb
theorem newRaw (w : World) (t : RT) : Rw (fun _ => True) (w.alloc (.cells #[.int .i64 t.b, .int .i64 t.s, .string (strOf t.d)] 51)) 51 3 (some ⟨w.heap.size, 0, none⟩) 1 1 (rtsV [t]) := by
  refine ⟨by rw [rtsV_len]; rfl, Nat.le_refl _, by unfold maxLen; omega, fun _ => ⟨_, 0, rfl, by simp, trivial, fun j u hu => ?_⟩⟩
  rw [Nat.zero_add, cell_of_row _ _ _ _ _ _ (heap_alloc_new w _)]
  simpa [rtsV, rtC] using hu
theorem Rw.bl {w w' : World} {et sz : Nat} {a : Option Addr} {len cap : Nat} {xs : List Value} (h : Rw (fun _ => True) w et sz a len cap xs) {B : Nat} (hB : w.heap.size = B) (hb : Below B w w') : Rw (fun _ => True) w' et sz a len cap xs := h.below (by rw [hB]; exact hb)
set_option maxRecDepth 100000 in
set_option maxHeartbeats 4000000 in
theorem mine_any {w : World} {a : Option Addr} {n c : Nat} {l : List RT} (h : RTs w a n c l) (hn : n ≤ 600) : Calls Try.prog 19 #[.slice a n c] w fun e w' => ∃ a' c', e = .returned (.slice a' n c') ∧ w'.ownsRow w.heap.size 51 3 (.slice a' n c') n (rtsV l) ∧ Below w.heap.size w w' := by
  have H : Hid (RTs w a n c l) := h
  have HN : Hid (n ≤ 600) := hn
  clear h
  obtain ⟨R, hR⟩ : ∃ R, w.heap.size = R := ⟨_, rfl⟩
  have HR : Hid (w.heap.size = R) := hR
  rw [hR]
  clear hR
  go_enter Try.func19, Try.ntmps19
  go_wp2
  go_loopw [3, 4] (fun v3 v4 wr => ∃ (i : Nat) (a' : Option Addr) (c' : Nat), i ≤ n ∧ v4 = .int .i64 (i : Int) ∧ v3 = .slice a' i c' ∧ wr.ownsRow R 51 3 (.slice a' i c') i (rtsV (l.take i)) ∧ Below R w wr) (fun _ v4 _ => n - (intOf v4).toNat)
  case atStart => exact ⟨0, none, 0, Nat.zero_le _, rfl, rfl, World.ownsRow_nil _ _ _ _, Below.refl _ _⟩
  case round =>
    obtain ⟨i, a9, c9, hi, rfl, rfl, ho, hb⟩ := hrel
    by_cases hlt : i < n
    · have kk : (i : Int) < (n : Int) := by omega
      obtain ⟨t, ht⟩ : ∃ t, l[i]? = some t := ⟨_, List.getElem?_eq_getElem (by rw [H.out.2.1]; exact hlt)⟩
      obtain ⟨b, o, rfl, hbl, d0, d1, d2⟩ := rt_cells (H.out.1.bl HR.out hb) ht hlt
      have hbR : b < R := by
        obtain ⟨b', o', e, hb', _⟩ := H.out.1.2.2.2 (by omega)
        cases e
        rw [← HR.out]; exact hb'
      have hnr := fun V => newRaw V t
      obtain ⟨S, hS⟩ : ∃ S, strOf t.d = S := ⟨_, rfl⟩
      obtain ⟨x, hx⟩ : ∃ x, t.b = x := ⟨_, rfl⟩
      obtain ⟨y, hy⟩ : ∃ y, t.s = y := ⟨_, rfl⟩
      rw [hS, hx, hy] at hnr
      rw [hS] at d2
      rw [hx] at d0
      rw [hy] at d1
      obtain ⟨K, hK⟩ : ∃ K, wr.heap.size = K := ⟨_, rfl⟩
      obtain ⟨V1, hV1⟩ : ∃ V, wr.drew.alloc (.cells #[.int .i64 x, .int .i64 y, .string S] 51) = V := ⟨_, rfl⟩
      have hb1 : Below wr.heap.size wr V1 := by rw [← hV1]; exact ((Below.refl _ wr).drew).alloc (Nat.le_refl _) _
      have hrow : Rw (fun _ => True) V1 51 3 (some ⟨K, 0, none⟩) 1 1 (rtsV [t]) := by rw [← hV1, ← hK]; exact hnr wr.drew
      have hoV := own_keep ho (fun k hk => hb1.block k (ho.lt k hk).2)
      have hbV := hb.trans (hb1.mono (by have := hb.size; rw [HR.out] at this; exact this))
      obtain ⟨a3, c3, W2, hr2, ho2, hg2, ha2⟩ := app_raw V1 hoV hrow (by omega) (by have := hbV.size; rw [HR.out] at this; exact this)
      rw [← take_snoc ht] at ho2
      have hb2 : Below R w W2 := hbV.trans ⟨hg2.os, hg2.tape, hg2.output, hg2.size, fun k hk => hg2.block k (by have := hbV.size; rw [HR.out] at this; omega) (fun e => by
        have := (hoV.lt k (by rw [ob_slice]; exact e.symm)).1; omega)⟩
      have HW2 : Hid (W2.ownsRow R 51 3 (.slice a3 (i + 1) c3) (i + 1) (rtsV (l.take (i + 1))) ∧ Below R w W2) := ⟨ho2, hb2⟩
      have hk : ∀ {p : Addr} {v : Value}, p.block = b → wr.cell? p = some v → V1.cell? p = some v ∧ W2.cell? p = some v := fun {p v} hp hc => by
        have h1 := keepc hb1 hc
        refine ⟨h1, ?_⟩
        have hW2b : W2.heap[p.block]? = V1.heap[p.block]? := hg2.block _ (by rw [hp]; have := hb1.size; omega) (fun e => by
          have := (hoV.lt p.block (by rw [ob_slice]; exact e.symm)).1
          rw [hp] at this; omega)
        rw [World.cell?_of_block (w := V1) hW2b]; exact h1
      have HC : Hid ((wr.cell? ⟨b, o + i * 3, none⟩ = some (.int .i64 x) ∧ wr.cell? ⟨b, o + i * 3 + 1, none⟩ = some (.int .i64 y) ∧ wr.cell? ⟨b, o + i * 3 + 2, none⟩ = some (.string S)) ∧ (V1.cell? ⟨b, o + i * 3, none⟩ = some (.int .i64 x) ∧ V1.cell? ⟨b, o + i * 3 + 1, none⟩ = some (.int .i64 y) ∧ V1.cell? ⟨b, o + i * 3 + 2, none⟩ = some (.string S)) ∧ (W2.cell? ⟨b, o + i * 3, none⟩ = some (.int .i64 x) ∧ W2.cell? ⟨b, o + i * 3 + 1, none⟩ = some (.int .i64 y) ∧ W2.cell? ⟨b, o + i * 3 + 2, none⟩ = some (.string S))) := ⟨⟨d0, d1, d2⟩, ⟨(hk rfl d0).1, (hk rfl d1).1, (hk rfl d2).1⟩, ⟨(hk rfl d0).2, (hk rfl d1).2, (hk rfl d2).2⟩⟩
      clear ho hb ht hnr hS hx hy d0 d1 d2 hb1 hrow hoV hbV ho2 hg2 ha2 hb2 hk
      go_wp2
      refine wp_region_held_drew (S := fun V => V.cell? ⟨b, o + i * 3, none⟩ = some (.int .i64 x) ∧ V.cell? ⟨b, o + i * 3 + 1, none⟩ = some (.int .i64 y) ∧ V.cell? ⟨b, o + i * 3 + 2, none⟩ = some (.string S)) (by kernel_rfl) (HC.out.1) (fun hHeld => ?_)
      refine wpAnyH_take (i := 0) (v := ?v0) rfl (by kernel_rfl) (by kernel_rfl) (by kernel_rfl) (fun _ _ _ h => h) (Or.inl ⟨by first | kernel_rfl | rfl, ?y0⟩) hHeld ?r0
      case y0 => (intro W hSW; (try dsimp only at hSW); go_simp; (try with_reducible rfl))
      change wpAnyH _ _ _ _ _ _ _ (Act.put _ (some 11) _) _
      simp only [Act.put, List.setIfInBounds_toArray, List.set_cons_zero, List.set_cons_succ]
      refine wpAnyH_take (i := 1) (v := ?v1) rfl (by kernel_rfl) (by kernel_rfl) (by kernel_rfl) (fun _ _ _ h => h) (Or.inl ⟨by first | kernel_rfl | rfl, ?y1⟩) hHeld ?r1
      case y1 => (intro W hSW; (try dsimp only at hSW); go_simp; (try with_reducible rfl))
      change wpAnyH _ _ _ _ _ _ _ (Act.put _ (some 12) _) _
      simp only [Act.put, List.setIfInBounds_toArray, List.set_cons_zero, List.set_cons_succ]
      refine wpAnyH_take (i := 2) (v := ?v2) rfl (by kernel_rfl) (by kernel_rfl) (by kernel_rfl) (fun _ _ _ h => h) (Or.inl ⟨by first | kernel_rfl | rfl, ?y2⟩) hHeld ?r2
      case y2 => (intro W hSW; (try dsimp only at hSW); go_simp; (try with_reducible rfl))
      change wpAnyH _ _ _ _ _ _ _ (Act.put _ (some 13) _) _
      simp only [Act.put, List.setIfInBounds_toArray, List.set_cons_zero, List.set_cons_succ]
      refine wpAnyH_take (i := 3) (v := ?v3) rfl (by kernel_rfl) (by kernel_rfl) (by kernel_rfl) (fun _ _ _ h => h) (Or.inl ⟨by first | kernel_rfl | rfl, ?y3⟩) hHeld ?r3
      case y3 => (intro W hSW; (try dsimp only at hSW); go_simp; (try with_reducible rfl))
      change wpAnyH _ _ _ _ _ _ _ (Act.put _ (some 14) _) _
      simp only [Act.put, List.setIfInBounds_toArray, List.set_cons_zero, List.set_cons_succ]
      refine wpAnyH_take (i := 4) (v := ?v4) rfl (by kernel_rfl) (by kernel_rfl) (by kernel_rfl) (fun _ _ _ h => h) (Or.inl ⟨by first | kernel_rfl | rfl, ?y4⟩) hHeld ?r4
      case y4 => (intro W hSW; (try dsimp only at hSW); go_simp; (try with_reducible rfl))
      change wpAnyH _ _ _ _ _ _ _ (Act.put _ (some 15) _) _
      simp only [Act.put, List.setIfInBounds_toArray, List.set_cons_zero, List.set_cons_succ]
      refine wpAnyH_take (i := 5) (v := ?v5) rfl (by kernel_rfl) (by kernel_rfl) (by kernel_rfl) (fun _ _ _ h => h) (Or.inl ⟨by first | kernel_rfl | rfl, ?y5⟩) hHeld ?r5
      case y5 => (intro W hSW; (try dsimp only at hSW); go_simp; (try with_reducible rfl))
      change wpAnyH _ _ _ _ _ _ _ (Act.put _ (some 16) _) _
      simp only [Act.put, List.setIfInBounds_toArray, List.set_cons_zero, List.set_cons_succ]
      refine wpAnyH_take (i := 6) (v := ?v6) rfl (by kernel_rfl) (by kernel_rfl) (by kernel_rfl) (fun _ _ _ h => h) (Or.inl ⟨by first | kernel_rfl | rfl, ?y6⟩) hHeld ?r6
      case y6 => (intro W hSW; (try dsimp only at hSW); go_simp; (try with_reducible rfl))
      change wpAnyH _ _ _ _ _ _ _ (Act.put _ (some 17) _) _
      simp only [Act.put, List.setIfInBounds_toArray, List.set_cons_zero, List.set_cons_succ]
      refine wpAnyH_take (i := 7) (v := ?v7) rfl (by kernel_rfl) (by kernel_rfl) (by kernel_rfl) (fun _ _ _ h => h) (Or.inl ⟨by first | kernel_rfl | rfl, ?y7⟩) hHeld ?r7
      case y7 => (intro W hSW; (try dsimp only at hSW); go_simp; (try with_reducible rfl))
      change wpAnyH _ _ _ _ _ _ _ (Act.put _ (some 18) _) _
      simp only [Act.put, List.setIfInBounds_toArray, List.set_cons_zero, List.set_cons_succ]
      refine wpAnyH_take (i := 8) (v := ?v8) rfl (by kernel_rfl) (by kernel_rfl) (by kernel_rfl) (fun _ _ _ h => h) (Or.inl ⟨by first | kernel_rfl | rfl, ?y8⟩) hHeld ?r8
      case y8 => (intro W hSW; (try dsimp only at hSW); go_simp; (try with_reducible rfl))
      change wpAnyH _ _ _ _ _ _ _ (Act.put _ (some 19) _) _
      simp only [Act.put, List.setIfInBounds_toArray, List.set_cons_zero, List.set_cons_succ]
      refine wpAnyH_take (i := 9) (v := ?v9) rfl (by kernel_rfl) (by kernel_rfl) (by kernel_rfl) (fun _ _ _ h => h) (Or.inl ⟨by first | kernel_rfl | rfl, ?y9⟩) hHeld ?r9
      case y9 => (intro W hSW; (try dsimp only at hSW); go_simp; (try with_reducible rfl))
      change wpAnyH _ _ _ _ _ _ _ (Act.put _ (some 20) _) _
      simp only [Act.put, List.setIfInBounds_toArray, List.set_cons_zero, List.set_cons_succ]
      refine wpAnyH_take (i := 10) (v := ?v10) rfl (by kernel_rfl) (by kernel_rfl) (by kernel_rfl) (fun _ _ _ h => h) (Or.inl ⟨by first | kernel_rfl | rfl, ?y10⟩) hHeld ?r10
      case y10 => (intro W hSW; (try dsimp only at hSW); go_simp; (try with_reducible rfl))
      change wpAnyH _ _ _ _ _ _ _ (Act.put _ (some 21) _) _
      simp only [Act.put, List.setIfInBounds_toArray, List.set_cons_zero, List.set_cons_succ]
      refine wpAnyH_take (i := 11) (v := ?v11) rfl (by kernel_rfl) (by kernel_rfl) (by kernel_rfl) (fun _ _ _ h => h) (Or.inl ⟨by first | kernel_rfl | rfl, ?y11⟩) hHeld ?r11
      case y11 => (intro W hSW; (try dsimp only at hSW); go_simp; (try with_reducible rfl))
      change wpAnyH _ _ _ _ _ _ _ (Act.put _ (some 22) _) _
      simp only [Act.put, List.setIfInBounds_toArray, List.set_cons_zero, List.set_cons_succ]
      refine wpAnyH_take (i := 12) (v := ?v12) rfl (by kernel_rfl) (by kernel_rfl) (by kernel_rfl) (fun _ _ _ h => h) (Or.inl ⟨by first | kernel_rfl | rfl, ?y12⟩) hHeld ?r12
      case y12 => (intro W hSW; (try dsimp only at hSW); go_simp; (try with_reducible rfl))
      change wpAnyH _ _ _ _ _ _ _ (Act.put _ (some 23) _) _
      simp only [Act.put, List.setIfInBounds_toArray, List.set_cons_zero, List.set_cons_succ]
      refine wpAnyH_take (i := 13) (v := ?v13) rfl (by kernel_rfl) (by kernel_rfl) (by kernel_rfl) (fun _ _ _ h => h) (Or.inl ⟨by first | kernel_rfl | rfl, ?y13⟩) hHeld ?r13
      case y13 => (intro W hSW; (try dsimp only at hSW); go_simp; (try with_reducible rfl))
      change wpAnyH _ _ _ _ _ _ _ (Act.put _ (some 24) _) _
      simp only [Act.put, List.setIfInBounds_toArray, List.set_cons_zero, List.set_cons_succ]
      refine wpAnyH_take (i := 14) (v := ?v14) rfl (by kernel_rfl) (by kernel_rfl) (by kernel_rfl) (fun _ _ _ h => h) (Or.inl ⟨by first | kernel_rfl | rfl, ?y14⟩) hHeld ?r14
      case y14 => (intro W hSW; (try dsimp only at hSW); go_simp; (try with_reducible rfl))
      change wpAnyH _ _ _ _ _ _ _ (Act.put _ (some 25) _) _
      simp only [Act.put, List.setIfInBounds_toArray, List.set_cons_zero, List.set_cons_succ]
      refine wpAnyH_take (i := 15) (v := ?v15) rfl (by kernel_rfl) (by kernel_rfl) (by kernel_rfl) (fun _ _ _ h => h) (Or.inl ⟨by first | kernel_rfl | rfl, ?y15⟩) hHeld ?r15
      case y15 => (intro W hSW; (try dsimp only at hSW); go_simp; (try with_reducible rfl))
      change wpAnyH _ _ _ _ _ _ _ (Act.put _ (some 26) _) _
      simp only [Act.put, List.setIfInBounds_toArray, List.set_cons_zero, List.set_cons_succ]
      refine wpAnyH_take (i := 16) (v := ?v16) rfl (by kernel_rfl) (by kernel_rfl) (by kernel_rfl) (fun _ _ _ h => h) (Or.inl ⟨by first | kernel_rfl | rfl, ?y16⟩) hHeld ?r16
      case y16 => (intro W hSW; (try dsimp only at hSW); go_simp; (try with_reducible rfl))
      change wpAnyH _ _ _ _ _ _ _ (Act.put _ (some 27) _) _
      simp only [Act.put, List.setIfInBounds_toArray, List.set_cons_zero, List.set_cons_succ]
      refine wpAnyH_ready (rs := [17]) (by kernel_rfl) (by simp) ?_
      refine AllReadyH.cons rfl (fun K hK => ?_) AllReadyH.nil
      go_simp
      refine hK.out _ _ (HC.out.2.1) (fun hHeld => ?_)
      clear hK K
      try simp only [Act.put, List.setIfInBounds_toArray, List.set_cons_zero, List.set_cons_succ]
      refine wpAnyH_ready (rs := [18]) (by kernel_rfl) (by simp) ?_
      refine AllReadyH.cons rfl (fun K hK => ?_) AllReadyH.nil
      rw [if_pos (by rfl)]
      refine wp_app V1 _ _ _ _ rfl rfl rfl (hr2 _) ?_
      skip
      refine hK.out _ _ (HC.out.2.2) (fun hHeld => ?_)
      clear hK K
      change wpAnyH _ _ _ _ _ _ _ (Act.put _ (some 29) _) _
      simp only [Act.put, List.setIfInBounds_toArray, List.set_cons_zero, List.set_cons_succ]
      refine wpAnyH_take (i := 19) (v := ?v19) rfl (by kernel_rfl) (by kernel_rfl) (by kernel_rfl) (fun _ _ _ h => h) (Or.inl ⟨by first | kernel_rfl | rfl, ?y19⟩) hHeld ?r19
      case y19 => (intro W hSW; (try dsimp only at hSW); go_simp; (try with_reducible rfl))
      change wpAnyH _ _ _ _ _ _ _ (Act.put _ (some 3) _) _
      simp only [Act.put, List.setIfInBounds_toArray, List.set_cons_zero, List.set_cons_succ]
      refine wpAnyH_done (by kernel_rfl) ?_ _
      clear hHeld
      go_wp2
      exact ⟨⟨i + 1, a3, c3, by omega, by go_num, rfl, HW2.out⟩, by simp [intOf]; omega⟩
    · have hin : n = i := by omega
      subst hin
      have kk : ¬ (n : Int) < (n : Int) := by omega
      have HE : Hid (wr.ownsRow R 51 3 (.slice a9 n c9) n (rtsV l) ∧ Below R w wr) := ⟨by rw [List.take_of_length_le (by rw [H.out.2.1]; exact Nat.le_refl _)] at ho; exact ho, hb⟩
      clear ho hb
      go_wp2
      go_ret
      exact ⟨a9, c9, rfl, HE.out⟩
end Go.Proofs.Ytekbmdpokghmmaa
