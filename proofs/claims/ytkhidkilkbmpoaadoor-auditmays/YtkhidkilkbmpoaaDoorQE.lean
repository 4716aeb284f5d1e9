/- Walks over the document's Same and the statements' small, theirs and mine. -/
import Derived.Test.YtkhidkilkbmpoaaDoorQD
import Derived.BigQuiet
namespace Go.Proofs.YtkhidkilkbmpoaaDoor
open Go.RowKit
theorem set3 {U : World} {g : Nat} {a b c : Value} {t : TypeId} (h : U.heap[g]? = some (.cells #[a, b, c] t (0, 0))) (x0 x1 x2 : Value) : (((U.setCell ⟨g, 0, none⟩ x0).setCell ⟨g, 1, none⟩ x1).setCell ⟨g, 2, none⟩ x2).heap[g]? = some (.cells #[x0, x1, x2] t (0, 0)) := by
  have h1 : (U.setCell ⟨g, 0, none⟩ x0).heap[g]? = some (.cells #[x0, b, c] t (0, 0)) := by rw [heap_setCell_same _ _ _ _ _ _ h]; rfl
  have h2 : ((U.setCell ⟨g, 0, none⟩ x0).setCell ⟨g, 1, none⟩ x1).heap[g]? = some (.cells #[x0, x1, c] t (0, 0)) := by rw [heap_setCell_same _ _ _ _ _ _ h1]; rfl
  rw [heap_setCell_same _ _ _ _ _ _ h2]
  rfl
theorem below3s {B rb : Nat} {w V : World} (h : Below B w V) (hr : B ≤ rb) (x0 x1 x2 : Value) : Below B w (((V.setCell ⟨rb, 0, none⟩ x0).setCell ⟨rb, 1, none⟩ x1).setCell ⟨rb, 2, none⟩ x2) := ((h.setCell hr _).setCell hr _).setCell hr _
theorem other3s {rb j : Nat} {V : World} (h : j ≠ rb) (x0 x1 x2 : Value) : (((V.setCell ⟨rb, 0, none⟩ x0).setCell ⟨rb, 1, none⟩ x1).setCell ⟨rb, 2, none⟩ x2).heap[j]? = V.heap[j]? := by
  rw [heap_setCell_other _ _ _ _ h, heap_setCell_other _ _ _ _ h, heap_setCell_other _ _ _ _ h]
theorem below_drewK {B : Nat} {w V : World} (h : Below B w V) : ∀ n, Below B w (V.drewN n)
  | 0 => h
  | n + 1 => (below_drewK h n).drew
/-- A result that is a cell, and one beside a word. -/
theorem res_1R {fn : Func} {p : Tmp} (h : fn.results = #[.cell p 24]) (tmps : Array Value) (w : World) (g : Nat) (cs : Array Value) (hp : tmps.getD p undef = .pointer (some ⟨g, 0, none⟩)) (hg : w.heap[g]? = some (.cells cs 24 (0, 0))) (hi : (Tryd.prog.info? 24).map (·.size) = some cs.size) :
    (results fn tmps).run Tryd.prog w = .ok (.agg cs) w := by
  have hp' : tmps[p]?.getD undef = .pointer (some ⟨g, 0, none⟩) := by simpa using hp
  have hl := run_loadVar_row (P := Tryd.prog) w g 24 24 cs (0, 0) _ hg Tryd.underlying24 rfl hi
  simp [results, h, hp', asAddr, hl]
theorem res_2R {fn : Func} {p q : Tmp} (h : fn.results = #[.cell p 24, .tmp q]) (tmps : Array Value) (w : World) (g : Nat) (cs : Array Value) (hp : tmps.getD p undef = .pointer (some ⟨g, 0, none⟩)) (hg : w.heap[g]? = some (.cells cs 24 (0, 0))) (hi : (Tryd.prog.info? 24).map (·.size) = some cs.size) :
    (results fn tmps).run Tryd.prog w = .ok (.tuple #[.agg cs, tmps.getD q undef]) w := by
  have hp' : tmps[p]?.getD undef = .pointer (some ⟨g, 0, none⟩) := by simpa using hp
  have hl := run_loadVar_row (P := Tryd.prog) w g 24 24 cs (0, 0) _ hg Tryd.underlying24 rfl hi
  simp [results, h, hp', asAddr, hl]
theorem res_1P {fn : Func} {p : Tmp} (h : fn.results = #[.cell p 27]) (tmps : Array Value) (w : World) (g : Nat) (cs : Array Value) (hp : tmps.getD p undef = .pointer (some ⟨g, 0, none⟩)) (hg : w.heap[g]? = some (.cells cs 27 (0, 0))) (hi : (Tryd.prog.info? 27).map (·.size) = some cs.size) :
    (results fn tmps).run Tryd.prog w = .ok (.agg cs) w := by
  have hp' : tmps[p]?.getD undef = .pointer (some ⟨g, 0, none⟩) := by simpa using hp
  have hl := run_loadVar_row (P := Tryd.prog) w g 27 27 cs (0, 0) _ hg Tryd.underlying27 rfl hi
  simp [results, h, hp', asAddr, hl]
theorem res_2P {fn : Func} {p q : Tmp} (h : fn.results = #[.cell p 27, .tmp q]) (tmps : Array Value) (w : World) (g : Nat) (cs : Array Value) (hp : tmps.getD p undef = .pointer (some ⟨g, 0, none⟩)) (hg : w.heap[g]? = some (.cells cs 27 (0, 0))) (hi : (Tryd.prog.info? 27).map (·.size) = some cs.size) :
    (results fn tmps).run Tryd.prog w = .ok (.tuple #[.agg cs, tmps.getD q undef]) w := by
  have hp' : tmps[p]?.getD undef = .pointer (some ⟨g, 0, none⟩) := by simpa using hp
  have hl := run_loadVar_row (P := Tryd.prog) w g 27 27 cs (0, 0) _ hg Tryd.underlying27 rfl hi
  simp [results, h, hp', asAddr, hl]
theorem infoRA : (Tryd.prog.info? 24).map (·.size) = some 3 := by kernel_rfl
theorem infoPA : (Tryd.prog.info? 27).map (·.size) = some 3 := by kernel_rfl
theorem infoE5 : (Tryd.prog.info? 36).map (·.size) = some 5 := by kernel_rfl
def sameA (a b : Au) : Bool := decide (a.anchor = b.anchor) && decide (a.last = b.last) && decide (a.ents = b.ents)
theorem sameA_self (a : Au) : sameA a a = true := by simp [sameA]
set_option maxRecDepth 100000 in
set_option maxHeartbeats 4000000 in
theorem same_au {w : World} {a : Option Addr} {ln cp : Nat} {l : List En} {b : Option Addr} {lm cq : Nat} {k : List En} (s : ByteArray) (n : Int) (r : ByteArray) (m : Int) (ha : Ew w a ln cp l) (hb : Ew w b lm cq k) : Calls Tryd.prog 12 #[.agg #[.string s, .int .i64 n, .slice a ln cp], .agg #[.string r, .int .i64 m, .slice b lm cq]] w fun e w' => YeTo w (sameA ⟨s, n, l⟩ ⟨r, m, k⟩) e w' := by
  have hla := ha.len
  have hlb := hb.len
  have hmx := ha.max
  obtain ⟨pb, hpb⟩ : ∃ pb, w.heap.size = pb := ⟨_, rfl⟩
  obtain ⟨V1, hV1, r1, hb1⟩ := box_au 24 (w := w) s n a ln cp
  obtain ⟨qb, hqb⟩ : ∃ qb, V1.heap.size = qb := ⟨_, rfl⟩
  obtain ⟨V2, hV2, r2, hb2⟩ := box_au 24 (w := V1) r m b lm cq
  have hq1 : pb + 1 = qb := by rw [← hqb, ← hV1, ← hpb]; simp
  rw [hpb] at r1
  rw [hqb] at r2
  have r1' : V2.heap[pb]? = some (.cells #[.string s, .int .i64 n, .slice a ln cp] 24 (0, 0)) := by
    rw [hb2.block pb (by omega)]
    exact r1
  have hB0 : Below w.heap.size w V2 := hb1.trans (hb2.mono hb1.size)
  have HK : Hid (∀ W, Below V2.heap.size V2 W → W.heap[pb]? = some (.cells #[.string s, .int .i64 n, .slice a ln cp] 24 (0, 0)) ∧ W.heap[qb]? = some (.cells #[.string r, .int .i64 m, .slice b lm cq] 24 (0, 0))) := fun W hW => ⟨(hW.block pb (lt_of_some r1')).trans r1', (hW.block qb (lt_of_some r2)).trans r2⟩
  have HB : Hid (Below w.heap.size w V2) := hB0
  have HR : Hid ((∀ W, Below V2.heap.size V2 W → Ew W a ln cp l ∧ Ew W b lm cq k) ∧ l.length = ln ∧ k.length = lm) := ⟨fun W hW => ⟨ha.below (hB0.trans (hW.mono hB0.size)), hb.below (hB0.trans (hW.mono hB0.size))⟩, hla, hlb⟩
  have KN : Hid (∀ W, Below V2.heap.size V2 W → sameA ⟨s, n, l⟩ ⟨r, m, k⟩ = false → YeTo w (sameA ⟨s, n, l⟩ ⟨r, m, k⟩) (.returned (.bool false)) W) := fun W hW hf => ⟨by rw [hf], HB.out.trans (hW.mono HB.out.size)⟩
  obtain ⟨y0, y1, y2, _⟩ := row3 (HK.out V2 (Below.refl _ _)).1
  obtain ⟨z0, z1, z2, _⟩ := row3 (HK.out V2 (Below.refl _ _)).2
  clear r1 r2 r1' hb1 hb2 hB0 ha hb
  by_cases h3 : s = r
  · subst h3
    have hse : (s.toList == s.toList) = true := by simp
    by_cases h2 : n = m
    · subst h2
      by_cases h4 : ln = lm
      · subst h4
        have HS : Hid (sameA ⟨s, n, l⟩ ⟨s, n, k⟩ = decide (l = k)) := by show _ = _; simp [sameA]
        clear hla hlb
        go_enter Tryd.func12, Tryd.ntmps12
        go_wp2
        go_loopw [5] (fun v wr => ∃ i : Nat, i ≤ ln ∧ v = .int .i64 i ∧ l.take i = k.take i ∧ Below V2.heap.size V2 wr) (fun v _ => ln - (intOf v).toNat)
        case atStart => exact ⟨0, by omega, rfl, rfl, Below.refl _ _⟩
        case round =>
        obtain ⟨i, hi, rfl, htk, hbw⟩ := hrel
        clear y0 y1 y2 z0 z1 z2
        obtain ⟨y0, y1, y2, _⟩ := row3 (HK.out wr hbw).1
        obtain ⟨z0, z1, z2, _⟩ := row3 (HK.out wr hbw).2
        by_cases hlt : i < ln
        · have kk : (i : Int) < (ln : Int) := by omega
          obtain ⟨h5, h6⟩ := HR.out.1 wr hbw
          obtain ⟨ab, ao, rfl, _, hc⟩ := h5.at (by omega)
          obtain ⟨bb, bo, rfl, _, hd⟩ := h6.at (by omega)
          obtain ⟨⟨p1, p2, p3, p4, p5⟩, hp⟩ : ∃ p, l[i]? = some p := ⟨_, List.getElem?_eq_getElem (by have := HR.out.2.1; omega)⟩
          obtain ⟨⟨q1, q2, q3, q4, q5⟩, hq⟩ : ∃ q, k[i]? = some q := ⟨_, List.getElem?_eq_getElem (by have := HR.out.2.2; omega)⟩
          obtain ⟨c1, c2, c3, c4, c5⟩ := hc i _ hp
          obtain ⟨d1, d2, d3, d4, d5⟩ := hd i _ hq
          simp only at c1 c2 c3 c4 c5 d1 d2 d3 d4 d5
          have he := fun W => eqin_en ⟨p1, p2, p3, p4, p5⟩ ⟨q1, q2, q3, q4, q5⟩ W
          simp only at he
          obtain ⟨y, hy⟩ : ∃ y, decide ((⟨p1, p2, p3, p4, p5⟩ : En) = ⟨q1, q2, q3, q4, q5⟩) = y := ⟨_, rfl⟩
          rw [hy] at he
          have HE : Hid (decide ((⟨p1, p2, p3, p4, p5⟩ : En) = ⟨q1, q2, q3, q4, q5⟩) = y ∧ l[i]? = some ⟨p1, p2, p3, p4, p5⟩ ∧ k[i]? = some ⟨q1, q2, q3, q4, q5⟩ ∧ l.take i = k.take i ∧ Below V2.heap.size V2 wr) := ⟨hy, hp, hq, htk, hbw⟩
          clear hc hd hp hq hy htk hbw h5 h6
          cases y with
          | true =>
            go_wp2
            go_quiet (fail)
            go_wp2
            refine ⟨⟨i + 1, by omega, by go_num, ?_, below_drewK HE.out.2.2.2.2 _⟩, by simp [intOf]; omega⟩
            have h7 := of_decide_eq_true HE.out.1
            rw [take_snocK HE.out.2.1, take_snocK HE.out.2.2.1, HE.out.2.2.2.1, h7]
          | false =>
            have hne : ¬ l = k := fun e => by
              have h5 := HE.out.2.1
              rw [e, HE.out.2.2.1] at h5
              exact of_decide_eq_false HE.out.1 (Option.some.inj h5).symm
            have HF : Hid (∀ j, YeTo w (sameA ⟨s, n, l⟩ ⟨s, n, k⟩) (.returned (.bool false)) (wr.drewN j)) := fun j => KN.out _ (below_drewK HE.out.2.2.2.2 _) (by rw [HS.out]; exact decide_eq_false hne)
            clear hne
            go_wp2
            go_quiet (fail)
            go_wp2
            go_ret
            exact HF.out _
        · obtain rfl : i = ln := by omega
          have kk : ¬ (i : Int) < (i : Int) := by omega
          have HE : Hid (YeTo w (sameA ⟨s, n, l⟩ ⟨s, n, k⟩) (.returned (.bool true)) wr) := by
            refine ⟨?_, HB.out.trans (hbw.mono HB.out.size)⟩
            rw [List.take_of_length_le (by have := HR.out.2.1; omega), List.take_of_length_le (by have := HR.out.2.2; omega)] at htk
            rw [HS.out, decide_eq_true htk]
          clear htk hbw
          go_wp2
          go_ret
          exact HE.out
      · have hf : sameA ⟨s, n, l⟩ ⟨s, n, k⟩ = false := by
          have : ¬ l = k := fun e => by rw [e] at hla; omega
          simp [sameA, this]
        have HE : Hid (YeTo w (sameA ⟨s, n, l⟩ ⟨s, n, k⟩) (.returned (.bool false)) V2) := KN.out V2 (Below.refl _ _) hf
        have k4 : ¬ (ln : Int) = (lm : Int) := by omega
        have k4b : ((ln : Int) == (lm : Int)) = false := by simpa using k4
        have k4m : ((ln : Int) != (lm : Int)) = true := by simpa using k4
        clear hf hla hlb
        go_enter Tryd.func12, Tryd.ntmps12
        go_wp2
        go_ret
        exact HE.out
    · have HE : Hid (YeTo w (sameA ⟨s, n, l⟩ ⟨s, m, k⟩) (.returned (.bool false)) V2) := KN.out V2 (Below.refl _ _) (by simp [sameA, h2])
      have k2b : (n == m) = false := by simpa using h2
      have k2m : (n != m) = true := by simpa using h2
      go_enter Tryd.func12, Tryd.ntmps12
      go_wp2
      go_ret
      exact HE.out
  · have HE : Hid (YeTo w (sameA ⟨s, n, l⟩ ⟨r, m, k⟩) (.returned (.bool false)) V2) := KN.out V2 (Below.refl _ _) (by simp [sameA, h3])
    have k3 := str_ne h3
    have k3b := str_nb h3
    clear h3
    go_enter Tryd.func12, Tryd.ntmps12
    go_wp2
    go_ret
    exact HE.out
def smallA (l : List En) (s : ByteArray) : Bool := decide (l.length ≤ 40) && decide (s.size ≤ 1000) && l.all fun c => decide (c.path.size ≤ 1000)
theorem small_iff {l : List En} {s : ByteArray} : smallA l s = true ↔ l.length ≤ 40 ∧ s.size ≤ 1000 ∧ ∀ c ∈ l, c.path.size ≤ 1000 := by simp [smallA, and_assoc]
set_option maxRecDepth 100000 in
set_option maxHeartbeats 2000000 in
theorem small_au {w : World} {a : Option Addr} {ln cp : Nat} {l : List En} (s : ByteArray) (n : Int) (h : Ew w a ln cp l) (hs : s.size ≤ 140737488351232) (hp : ∀ c ∈ l, c.path.size ≤ 140737488351232) : Calls Tryd.prog 9 #[.agg #[.string s, .int .i64 n, .slice a ln cp]] w fun e w' => YeTo w (smallA l s) e w' := by
  have hl := h.len
  have hmx := h.max
  obtain ⟨pb, hpb⟩ : ∃ pb, w.heap.size = pb := ⟨_, rfl⟩
  obtain ⟨V1, hV1, r1, hb1⟩ := box_au 24 (w := w) s n a ln cp
  rw [hpb] at r1
  have HK : Hid (∀ W, Below V1.heap.size V1 W → W.cell? ⟨pb, 0, none⟩ = some (.string s) ∧ W.cell? ⟨pb, 1, none⟩ = some (.int .i64 n) ∧ W.cell? ⟨pb, 2, none⟩ = some (.slice a ln cp)) := fun W hW => by
    obtain ⟨e0, e1, e2, _⟩ := row3 ((hW.block pb (lt_of_some r1)).trans r1)
    exact ⟨e0, e1, e2⟩
  obtain ⟨y0, y1, y2⟩ := HK.out V1 (Below.refl _ _)
  have HB : Hid (Below w.heap.size w V1) := hb1
  have HR : Hid ((∀ W, Below V1.heap.size V1 W → Ew W a ln cp l) ∧ l.length = ln ∧ ∀ c ∈ l, c.path.size ≤ 140737488351232) := ⟨fun W hW => h.below (hb1.trans (hW.mono hb1.size)), hl, hp⟩
  have KN : Hid (∀ W, Below V1.heap.size V1 W → smallA l s = false → YeTo w (smallA l s) (.returned (.bool false)) W) := fun W hW hf => ⟨by rw [hf], HB.out.trans (hW.mono HB.out.size)⟩
  clear r1 hb1 h
  by_cases h1 : 40 < ln
  · have k1 : (40 : Int) < (ln : Int) := by omega
    have HE : Hid (YeTo w (smallA l s) (.returned (.bool false)) V1) := KN.out V1 (Below.refl _ _) (by unfold smallA; rw [decide_eq_false (p := l.length ≤ 40) (by omega)]; simp)
    clear hl
    go_enter Tryd.func9, Tryd.ntmps9
    go_wp2
    go_ret
    exact HE.out
  · have k1 : ¬ (40 : Int) < (ln : Int) := by omega
    have k1d : decide ((40 : Int) < (ln : Int)) = false := decide_eq_false k1
    by_cases h2 : 1000 < s.size
    · have k2 : (1000 : Int) < (s.size : Int) := by omega
      have HE : Hid (YeTo w (smallA l s) (.returned (.bool false)) V1) := KN.out V1 (Below.refl _ _) (by unfold smallA; rw [decide_eq_false (p := s.size ≤ 1000) (by omega)]; simp)
      clear hl
      go_enter Tryd.func9, Tryd.ntmps9
      go_wp2
      go_ret
      exact HE.out
    · have k2 : ¬ (1000 : Int) < (s.size : Int) := by omega
      have HS : Hid (smallA l s = l.all fun c => decide (c.path.size ≤ 1000)) := by show _ = _; unfold smallA; rw [decide_eq_true (p := l.length ≤ 40) (by omega), decide_eq_true (p := s.size ≤ 1000) (by omega)]; rfl
      clear hl hp
      go_enter Tryd.func9, Tryd.ntmps9
      go_wp2
      go_loopw [3] (fun v wr => ∃ i : Nat, i ≤ ln ∧ v = .int .i64 i ∧ (∀ c ∈ l.take i, c.path.size ≤ 1000) ∧ Below V1.heap.size V1 wr) (fun v _ => ln - (intOf v).toNat)
      case atStart => exact ⟨0, by omega, rfl, by simp, Below.refl _ _⟩
      case round =>
      obtain ⟨i, hi, rfl, hal, hbw⟩ := hrel
      clear y0 y1 y2
      obtain ⟨y0, y1, y2⟩ := HK.out wr hbw
      by_cases hlt : i < ln
      · have kk : (i : Int) < (ln : Int) := by omega
        obtain ⟨ab, ao, rfl, _, hc⟩ := (HR.out.1 wr hbw).at (by omega)
        obtain ⟨⟨c0, c2, c3, c1, c4⟩, hci⟩ : ∃ c, l[i]? = some c := ⟨_, List.getElem?_eq_getElem (by have := HR.out.2.1; omega)⟩
        obtain ⟨d0, d1, d2, d3, d4⟩ := hc i _ hci
        have hcz := HR.out.2.2 _ (List.mem_of_getElem? hci)
        simp only at d0 d1 d2 d3 d4 hcz
        by_cases h3 : 1000 < c1.size
        · have k3 : (1000 : Int) < (c1.size : Int) := by omega
          have HE : Hid (YeTo w (smallA l s) (.returned (.bool false)) wr) := KN.out wr hbw (by
            rw [HS.out, List.all_eq_false]
            exact ⟨_, List.mem_of_getElem? hci, by simp; omega⟩)
          clear hc hci hal hbw
          go_wp2
          go_ret
          exact HE.out
        · have k3 : ¬ (1000 : Int) < (c1.size : Int) := by omega
          have HA : Hid ((∀ c ∈ l.take (i + 1), c.path.size ≤ 1000) ∧ Below V1.heap.size V1 wr) := ⟨by
            rw [take_snocK hci]
            intro d hd
            rcases List.mem_append.1 hd with hd | hd
            · exact hal d hd
            · rw [List.mem_singleton.1 hd]; show c1.size ≤ 1000; omega, hbw⟩
          clear hc hci hal hbw
          go_wp2
          exact ⟨⟨i + 1, by omega, by go_num, HA.out.1, HA.out.2⟩, by simp [intOf]; omega⟩
      · obtain rfl : i = ln := by omega
        have kk : ¬ (i : Int) < (i : Int) := by omega
        have HE : Hid (YeTo w (smallA l s) (.returned (.bool true)) wr) := by
          refine ⟨?_, HB.out.trans (hbw.mono HB.out.size)⟩
          rw [List.take_of_length_le (by have := HR.out.2.1; omega)] at hal
          rw [HS.out, List.all_eq_true.2 (fun c hc => decide_eq_true (hal c hc))]
        clear hal hbw
        go_wp2
        go_ret
        exact HE.out
/-- An audit of the document's, out of the program's. -/
theorem theirs_any {w : World} (s : ByteArray) (n : Int) (a : Option Addr) (ln cp : Nat) : Calls Tryd.prog 13 #[.agg #[.string s, .int .i64 n, .slice a ln cp]] w fun e w' => e = .returned (.agg #[.string s, .int .i64 n, .slice a ln cp]) ∧ Below w.heap.size w w' := by
  obtain ⟨pb, hpb⟩ : ∃ pb, w.heap.size = pb := ⟨_, rfl⟩
  obtain ⟨V1, hV1, r1, hb1⟩ := box_au 27 (w := w) s n a ln cp
  obtain ⟨qb, hqb⟩ : ∃ qb, V1.heap.size = qb := ⟨_, rfl⟩
  obtain ⟨V2, hV2, r2, hb2⟩ := box_au 24 (w := V1) ⟨#[]⟩ 0 none 0 0
  rw [hpb] at r1
  rw [hqb] at r2
  have r1' := (hb2.block pb (lt_of_some r1)).trans r1
  obtain ⟨y0, y1, y2, _⟩ := row3 r1'
  obtain ⟨z0, z1, z2, fz⟩ := row3 r2
  have f0 := fz 0
  have f1 := fz 1
  have f2 := fz 2
  obtain ⟨W5, hW5⟩ : ∃ W5, ((V2.setCell ⟨qb, 0, none⟩ (.string s)).setCell ⟨qb, 1, none⟩ (.int .i64 n)).setCell ⟨qb, 2, none⟩ (.slice a ln cp) = W5 := ⟨_, rfl⟩
  have HE : Hid (Below w.heap.size w W5 ∧ W5.heap[qb]? = some (.cells #[.string s, .int .i64 n, .slice a ln cp] 24 (0, 0))) := by
    rw [← hW5]
    exact ⟨below3s (hb1.trans (hb2.mono hb1.size)) (by rw [← hqb]; exact hb1.size) _ _ _, set3 r2 _ _ _⟩
  clear r1 r2 r1' hb1 hb2 fz
  go_enter Tryd.func13, Tryd.ntmps13
  go_wp2
  refine bodyPost_ret (v := .agg #[.string s, .int .i64 n, .slice a ln cp]) ?_ rfl ⟨rfl, HE.out.1⟩
  exact res_1R (fn := Tryd.f13) (p := 2) (by rfl) _ _ qb _ (by rfl) HE.out.2 infoRA
set_option maxRecDepth 100000 in
set_option maxHeartbeats 1000000 in
theorem mine_any {w : World} (s : ByteArray) (n : Int) {a : Option Addr} {ln cp : Nat} {l : List En} (h : Ew w a ln cp l) (hl : ln ≤ 1000) : Calls Tryd.prog 16 #[.agg #[.string s, .int .i64 n, .slice a ln cp]] w fun e w' => ∃ (a' : Option Addr) (c' : Nat), e = .returned (.agg #[.string s, .int .i64 n, .slice a' ln c']) ∧ w'.ownsRow w.heap.size 36 5 (.slice a' ln c') ln (enR l) ∧ Below w.heap.size w w' := by
  obtain ⟨pb, hpb⟩ : ∃ pb, w.heap.size = pb := ⟨_, rfl⟩
  obtain ⟨V1, hV1, r1, hb1⟩ := box_au 24 (w := w) s n a ln cp
  obtain ⟨qb, hqb⟩ : ∃ qb, V1.heap.size = qb := ⟨_, rfl⟩
  obtain ⟨V2, hV2, r2, hb2⟩ := box_au 27 (w := V1) ⟨#[]⟩ 0 none 0 0
  rw [hpb] at r1
  rw [hqb] at r2
  have hq1 : pb + 1 = qb := by rw [← hqb, ← hV1, ← hpb]; simp
  have hB2 : Below w.heap.size w V2 := hb1.trans (hb2.mono hb1.size)
  have r1' := (hb2.block pb (lt_of_some r1)).trans r1
  have HR0 : Hid (∀ W, Below V2.heap.size V2 W → W.heap[pb]? = some (.cells #[.string s, .int .i64 n, .slice a ln cp] 24 (0, 0)) ∧ W.heap[qb]? = some (.cells #[.string ⟨#[]⟩, .int .i64 0, .slice none 0 0] 27 (0, 0))) := fun W hW => ⟨(hW.block pb (lt_of_some r1')).trans r1', (hW.block qb (lt_of_some r2)).trans r2⟩
  have HK : Hid (∀ W, Below V2.heap.size V2 W → W.cell? ⟨pb, 0, none⟩ = some (.string s) ∧ W.cell? ⟨pb, 1, none⟩ = some (.int .i64 n) ∧ W.cell? ⟨pb, 2, none⟩ = some (.slice a ln cp)) := fun W hW => by
    obtain ⟨x0, x1, x2, _⟩ := row3 (HR0.out W hW).1
    exact ⟨x0, x1, x2⟩
  obtain ⟨a3, c3, V3, hr3, ho3, hg3, _⟩ := addE_own V2.drew (base := qb + 1) (l := []) (World.ownsRow_nil V2.drew (qb + 1) 36 5) (h.below hB2.drew) (by omega) (by show qb + 1 ≤ V2.heap.size; have := lt_of_some r2; omega)
  rw [Nat.zero_add] at hr3 ho3
  rw [List.nil_append] at ho3
  have hb3 : Below V2.heap.size V2 V3 := (Below.refl _ V2).drew.grown hg3 (Nat.le_refl _) (fun j hj => by cases hj)
  obtain ⟨_, _, _, fz⟩ := row3 (HR0.out V3 hb3).2
  have f0 := fz 0
  have f1 := fz 1
  have f2 := fz 2
  obtain ⟨x0, x1, x2, _⟩ := row3 (HR0.out V3 hb3).2
  have H3 : Hid (Below V2.heap.size V2 V3 ∧ V3.ownsRow (qb + 1) 36 5 (.slice a3 ln c3) ln (enR l)) := ⟨hb3, ho3⟩
  obtain ⟨W5, hW5⟩ : ∃ W5, ((V3.setCell ⟨qb, 0, none⟩ (.string s)).setCell ⟨qb, 1, none⟩ (.int .i64 n)).setCell ⟨qb, 2, none⟩ (.slice a3 ln c3) = W5 := ⟨_, rfl⟩
  have HE : Hid ((Below w.heap.size w W5 ∧ W5.ownsRow w.heap.size 36 5 (.slice a3 ln c3) ln (enR l)) ∧ W5.heap[qb]? = some (.cells #[.string s, .int .i64 n, .slice a3 ln c3] 27 (0, 0))) := by
    refine ⟨⟨?_, ?_⟩, ?_⟩
    · rw [← hW5]; exact below3s (hB2.trans (hb3.mono hB2.size)) (by omega) _ _ _
    · refine own_keep (own_base ho3 (show w.heap.size ≤ qb + 1 by omega)) (fun j hj => ?_)
      have := (ho3.lt j hj).1
      rw [← hW5]
      exact other3s (by omega) _ _ _
    · rw [← hW5]; exact set3 (HR0.out V3 hb3).2 _ _ _
  have HQ5 : Hid (W5.cell? ⟨pb, 0, none⟩ = some (.string s) ∧ W5.cell? ⟨pb, 1, none⟩ = some (.int .i64 n) ∧ W5.cell? ⟨pb, 2, none⟩ = some (.slice a ln cp)) := by
    have e : W5.heap[pb]? = V3.heap[pb]? := by rw [← hW5]; exact other3s (by omega) _ _ _
    obtain ⟨x0, x1, x2, _⟩ := row3 (e.trans (HR0.out V3 hb3).1)
    exact ⟨x0, x1, x2⟩
  clear r1 r2 r1' hb1 hb2 fz hB2 hb3 ho3 hg3 h hq1
  obtain ⟨y0, y1, y2⟩ := HK.out V2 (Below.refl _ _)
  go_enter Tryd.func16, Tryd.ntmps16
  go_wp2
  refine wp_region_held_drew (S := fun W => W.cell? ⟨pb, 0, none⟩ = some (.string s) ∧ W.cell? ⟨pb, 1, none⟩ = some (.int .i64 n) ∧ W.cell? ⟨pb, 2, none⟩ = some (.slice a ln cp)) (by kernel_rfl) (HK.out V2.drew (Below.refl _ V2).drew) (fun hHeld => ?_)
  refine wpAnyH_take (i := 0) (v := ?vm_0) rfl (by kernel_rfl) (by kernel_rfl) (by kernel_rfl) (fun _ _ _ h => h) (Or.inl ⟨by first | kernel_rfl | rfl, ?ym_0⟩) hHeld ?rm_0
  case ym_0 => (intro W hSW; (try dsimp only at hSW); go_simp; (try with_reducible rfl))
  change wpAnyH _ _ _ _ _ _ _ (Act.put _ (some 4) _) _
  simp only [Act.put, List.setIfInBounds_toArray, List.set_cons_zero, List.set_cons_succ]
  refine wpAnyH_take (i := 1) (v := ?vm_1) rfl (by kernel_rfl) (by kernel_rfl) (by kernel_rfl) (fun _ _ _ h => h) (Or.inl ⟨by first | kernel_rfl | rfl, ?ym_1⟩) hHeld ?rm_1
  case ym_1 => (intro W hSW; (try dsimp only at hSW); go_simp; (try with_reducible rfl))
  change wpAnyH _ _ _ _ _ _ _ (Act.put _ (some 5) _) _
  simp only [Act.put, List.setIfInBounds_toArray, List.set_cons_zero, List.set_cons_succ]
  refine wpAnyH_take (i := 2) (v := ?vm_2) rfl (by kernel_rfl) (by kernel_rfl) (by kernel_rfl) (fun _ _ _ h => h) (Or.inl ⟨by first | kernel_rfl | rfl, ?ym_2⟩) hHeld ?rm_2
  case ym_2 => (intro W hSW; (try dsimp only at hSW); go_simp; (try with_reducible rfl))
  change wpAnyH _ _ _ _ _ _ _ (Act.put _ (some 6) _) _
  simp only [Act.put, List.setIfInBounds_toArray, List.set_cons_zero, List.set_cons_succ]
  refine wpAnyH_take (i := 3) (v := ?vm_3) rfl (by kernel_rfl) (by kernel_rfl) (by kernel_rfl) (fun _ _ _ h => h) (Or.inl ⟨by first | kernel_rfl | rfl, ?ym_3⟩) hHeld ?rm_3
  case ym_3 => (intro W hSW; (try dsimp only at hSW); go_simp; (try with_reducible rfl))
  change wpAnyH _ _ _ _ _ _ _ (Act.put _ (some 7) _) _
  simp only [Act.put, List.setIfInBounds_toArray, List.set_cons_zero, List.set_cons_succ]
  refine wpAnyH_take (i := 4) (v := ?vm_4) rfl (by kernel_rfl) (by kernel_rfl) (by kernel_rfl) (fun _ _ _ h => h) (Or.inl ⟨by first | kernel_rfl | rfl, ?ym_4⟩) hHeld ?rm_4
  case ym_4 => (intro W hSW; (try dsimp only at hSW); go_simp; (try with_reducible rfl))
  change wpAnyH _ _ _ _ _ _ _ (Act.put _ (some 8) _) _
  simp only [Act.put, List.setIfInBounds_toArray, List.set_cons_zero, List.set_cons_succ]
  refine wpAnyH_take (i := 5) (v := ?vm_5) rfl (by kernel_rfl) (by kernel_rfl) (by kernel_rfl) (fun _ _ _ h => h) (Or.inl ⟨by first | kernel_rfl | rfl, ?ym_5⟩) hHeld ?rm_5
  case ym_5 => (intro W hSW; (try dsimp only at hSW); go_simp; (try with_reducible rfl))
  change wpAnyH _ _ _ _ _ _ _ (Act.put _ (some 9) _) _
  simp only [Act.put, List.setIfInBounds_toArray, List.set_cons_zero, List.set_cons_succ]
  refine wpAnyH_take (i := 6) (v := ?vm_6) rfl (by kernel_rfl) (by kernel_rfl) (by kernel_rfl) (fun _ _ _ h => h) (Or.inl ⟨by first | kernel_rfl | rfl, ?ym_6⟩) hHeld ?rm_6
  case ym_6 => (intro W hSW; (try dsimp only at hSW); go_simp; (try with_reducible rfl))
  change wpAnyH _ _ _ _ _ _ _ (Act.put _ (some 10) _) _
  simp only [Act.put, List.setIfInBounds_toArray, List.set_cons_zero, List.set_cons_succ]
  refine wpAnyH_ready (rs := [7]) (by kernel_rfl) (by simp) ?_
  refine AllReadyH.cons rfl (fun K hK => ?_) AllReadyH.nil
  rw [if_pos (by rfl)]
  refine wp_app V2.drew _ _ _ _ rfl rfl rfl (hr3 _) ?_
  skip
  refine hK.out _ _ (HK.out V3 H3.out.1) (fun hHeld => ?_)
  clear hK K
  change wpAnyH _ _ _ _ _ _ _ (Act.put _ (some 11) _) _
  simp only [Act.put, List.setIfInBounds_toArray, List.set_cons_zero, List.set_cons_succ]
  refine wpAnyH_take (i := 8) (v := ?vm_8) rfl (by kernel_rfl) (by kernel_rfl) (by kernel_rfl) (fun _ _ _ h => h) (Or.inl ⟨by first | kernel_rfl | rfl, ?ym_8⟩) hHeld ?rm_8
  case ym_8 => (intro W hSW; (try dsimp only at hSW); go_simp; (try with_reducible rfl))
  change wpAnyH _ _ _ _ _ _ _ (Act.put _ (some 12) _) _
  simp only [Act.put, List.setIfInBounds_toArray, List.set_cons_zero, List.set_cons_succ]
  refine wpAnyH_ready (rs := [9]) (by kernel_rfl) (by simp) ?_
  refine AllReadyH.cons rfl (fun K hK => ?_) AllReadyH.nil
  go_simp
  refine hK.out _ _ (HQ5.out) (fun hHeld => ?_)
  clear hK K
  refine wpAnyH_done (by kernel_rfl) ?_ _
  clear x0 x1 x2 f0 f1 f2
  go_wp2
  refine bodyPost_ret (v := .agg #[.string s, .int .i64 n, .slice a3 ln c3]) ?_ rfl ⟨a3, c3, rfl, HE.out.1.2, HE.out.1.1⟩
  exact res_1P (fn := Tryd.f16) (p := 2) (by rfl) _ _ qb _ (by rfl) HE.out.2 infoPA
end Go.Proofs.YtkhidkilkbmpoaaDoor
