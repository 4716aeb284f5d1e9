/- Walks over the document's Same and the statements' small. -/
import Derived.Test.YtcmdcmbiilfngabDoorKH
namespace Go.Proofs.YtcmdcmbiilfngabDoor
open Go.RowKit
def sameT (a b : Tk) : Bool := decide (a.tenant = b.tenant) && decide (a.number = b.number) && decide (a.sig = b.sig) && decide (a.cavs = b.cavs)
theorem sameT_self (a : Tk) : sameT a a = true := by simp [sameT]
set_option maxRecDepth 100000 in
set_option maxHeartbeats 4000000 in
theorem same_tk {w : World} {a : Option Addr} {ln cp : Nat} {l : List Cv} {b : Option Addr} {lm cq : Nat} {k : List Cv} (t n : Int) (s : ByteArray) (u m : Int) (r : ByteArray) (ha : Kw w a ln cp l) (hb : Kw w b lm cq k) : Calls Tryd.prog 8 #[.agg #[.int .i64 t, .int .i64 n, .slice a ln cp, .string s], .agg #[.int .i64 u, .int .i64 m, .slice b lm cq, .string r]] w fun e w' => YeTo w (sameT ⟨t, n, l, s⟩ ⟨u, m, k, r⟩) e w' := by
  have hla := ha.len
  have hlb := hb.len
  have hmx := ha.max
  obtain ⟨pb, hpb⟩ : ∃ pb, w.heap.size = pb := ⟨_, rfl⟩
  obtain ⟨V1, hV1, r1, hb1⟩ := box_tk (w := w) t n a ln cp s
  obtain ⟨qb, hqb⟩ : ∃ qb, V1.heap.size = qb := ⟨_, rfl⟩
  obtain ⟨V2, hV2, r2, hb2⟩ := box_tk (w := V1) u m b lm cq r
  have hq1 : pb + 1 = qb := by rw [← hqb, ← hV1, ← hpb]; simp
  rw [hpb] at r1
  rw [hqb] at r2
  have r1' : V2.heap[pb]? = some (.cells #[.int .i64 t, .int .i64 n, .slice a ln cp, .string s] 24 (0, 0)) := by
    rw [hb2.block pb (by omega)]
    exact r1
  have hB0 : Below w.heap.size w V2 := hb1.trans (hb2.mono hb1.size)
  have HK : Hid (∀ W, Below V2.heap.size V2 W → W.heap[pb]? = some (.cells #[.int .i64 t, .int .i64 n, .slice a ln cp, .string s] 24 (0, 0)) ∧ W.heap[qb]? = some (.cells #[.int .i64 u, .int .i64 m, .slice b lm cq, .string r] 24 (0, 0))) := fun W hW => ⟨(hW.block pb (lt_of_some r1')).trans r1', (hW.block qb (lt_of_some r2)).trans r2⟩
  have HB : Hid (Below w.heap.size w V2) := hB0
  have HR : Hid ((∀ W, Below V2.heap.size V2 W → Kw W a ln cp l ∧ Kw W b lm cq k) ∧ l.length = ln ∧ k.length = lm) := ⟨fun W hW => ⟨ha.below (hB0.trans (hW.mono hB0.size)), hb.below (hB0.trans (hW.mono hB0.size))⟩, hla, hlb⟩
  have KN : Hid (∀ W, Below V2.heap.size V2 W → sameT ⟨t, n, l, s⟩ ⟨u, m, k, r⟩ = false → YeTo w (sameT ⟨t, n, l, s⟩ ⟨u, m, k, r⟩) (.returned (.bool false)) W) := fun W hW hf => ⟨by rw [hf], HB.out.trans (hW.mono HB.out.size)⟩
  obtain ⟨y0, y1, y2, y3, _⟩ := row4 (HK.out V2 (Below.refl _ _)).1
  obtain ⟨z0, z1, z2, z3, _⟩ := row4 (HK.out V2 (Below.refl _ _)).2
  clear r1 r2 r1' hb1 hb2 hB0 ha hb
  by_cases h1 : t = u
  · subst h1
    by_cases h2 : n = m
    · subst h2
      by_cases h3 : s = r
      · subst h3
        by_cases h4 : ln = lm
        · subst h4
          have HS : Hid (sameT ⟨t, n, l, s⟩ ⟨t, n, k, s⟩ = decide (l = k)) := by show _ = _; simp [sameT]
          have hse : (s.toList == s.toList) = true := by simp
          clear hla hlb
          go_enter Tryd.func8, Tryd.ntmps8
          go_wp2
          go_loopw [5] (fun v wr => ∃ i : Nat, i ≤ ln ∧ v = .int .i64 i ∧ l.take i = k.take i ∧ Below V2.heap.size V2 wr) (fun v _ => ln - (intOf v).toNat)
          case atStart => exact ⟨0, by omega, rfl, rfl, Below.refl _ _⟩
          case round =>
          obtain ⟨i, hi, rfl, htk, hbw⟩ := hrel
          clear y0 y1 y2 y3 z0 z1 z2 z3
          obtain ⟨y0, y1, y2, y3, _⟩ := row4 (HK.out wr hbw).1
          obtain ⟨z0, z1, z2, z3, _⟩ := row4 (HK.out wr hbw).2
          by_cases hlt : i < ln
          · have kk : (i : Int) < (ln : Int) := by omega
            obtain ⟨h5, h6⟩ := HR.out.1 wr hbw
            obtain ⟨ab, ao, rfl, _, hc⟩ := h5.at (by omega)
            obtain ⟨bb, bo, rfl, _, hd⟩ := h6.at (by omega)
            obtain ⟨⟨p1, p2, p3⟩, hp⟩ : ∃ p, l[i]? = some p := ⟨_, List.getElem?_eq_getElem (by have := HR.out.2.1; omega)⟩
            obtain ⟨⟨q1, q2, q3⟩, hq⟩ : ∃ q, k[i]? = some q := ⟨_, List.getElem?_eq_getElem (by have := HR.out.2.2; omega)⟩
            obtain ⟨c1, c2, c3⟩ := hc i _ hp
            obtain ⟨d1, d2, d3⟩ := hd i _ hq
            simp only at c1 c2 c3 d1 d2 d3
            have he := fun W => eqin_cv ⟨p1, p2, p3⟩ ⟨q1, q2, q3⟩ W
            simp only at he
            obtain ⟨y, hy⟩ : ∃ y, decide ((⟨p1, p2, p3⟩ : Cv) = ⟨q1, q2, q3⟩) = y := ⟨_, rfl⟩
            rw [hy] at he
            have HE : Hid (decide ((⟨p1, p2, p3⟩ : Cv) = ⟨q1, q2, q3⟩) = y ∧ l[i]? = some ⟨p1, p2, p3⟩ ∧ k[i]? = some ⟨q1, q2, q3⟩ ∧ l.take i = k.take i ∧ Below V2.heap.size V2 wr) := ⟨hy, hp, hq, htk, hbw⟩
            clear hc hd hp hq hy htk hbw h5 h6
            cases y with
            | true =>
              go_wp2
              go_quiet (fail)
              go_wp2
              refine ⟨⟨i + 1, by omega, by go_num, ?_, below_drewK HE.out.2.2.2.2 _⟩, by simp [intOf]; omega⟩
              have h7 := of_decide_eq_true HE.out.1
              rw [take_snocK HE.out.2.1, take_snocK HE.out.2.2.1, HE.out.2.2.2.1, h7]
            | false =>
              have hne : ¬ l = k := fun e => by
                have h5 := HE.out.2.1
                rw [e, HE.out.2.2.1] at h5
                exact of_decide_eq_false HE.out.1 (Option.some.inj h5).symm
              have HF : Hid (∀ j, YeTo w (sameT ⟨t, n, l, s⟩ ⟨t, n, k, s⟩) (.returned (.bool false)) (wr.drewN j)) := fun j => KN.out _ (below_drewK HE.out.2.2.2.2 _) (by rw [HS.out]; exact decide_eq_false hne)
              clear hne
              go_wp2
              go_quiet (fail)
              go_wp2
              go_ret
              exact HF.out _
          · obtain rfl : i = ln := by omega
            have kk : ¬ (i : Int) < (i : Int) := by omega
            have HE : Hid (YeTo w (sameT ⟨t, n, l, s⟩ ⟨t, n, k, s⟩) (.returned (.bool true)) wr) := by
              refine ⟨?_, HB.out.trans (hbw.mono HB.out.size)⟩
              rw [List.take_of_length_le (by have := HR.out.2.1; omega), List.take_of_length_le (by have := HR.out.2.2; omega)] at htk
              rw [HS.out, decide_eq_true htk]
            clear htk hbw
            go_wp2
            go_ret
            exact HE.out
        · have hf : sameT ⟨t, n, l, s⟩ ⟨t, n, k, s⟩ = false := by
            have : ¬ l = k := fun e => by rw [e] at hla; omega
            simp [sameT, this]
          have HE : Hid (YeTo w (sameT ⟨t, n, l, s⟩ ⟨t, n, k, s⟩) (.returned (.bool false)) V2) := KN.out V2 (Below.refl _ _) hf
          have hse : (s.toList == s.toList) = true := by simp
          have k4 : ¬ (ln : Int) = (lm : Int) := by omega
          have k4b : ((ln : Int) == (lm : Int)) = false := by simpa using k4
          have k4m : ((ln : Int) != (lm : Int)) = true := by simpa using k4
          clear hf hla hlb
          go_enter Tryd.func8, Tryd.ntmps8
          go_wp2
          go_ret
          exact HE.out
      · have HE : Hid (YeTo w (sameT ⟨t, n, l, s⟩ ⟨t, n, k, r⟩) (.returned (.bool false)) V2) := KN.out V2 (Below.refl _ _) (by simp [sameT, h3])
        have k3 := str_ne h3
        have k3b := str_nb h3
        clear h3
        go_enter Tryd.func8, Tryd.ntmps8
        go_wp2
        go_ret
        exact HE.out
    · have HE : Hid (YeTo w (sameT ⟨t, n, l, s⟩ ⟨t, m, k, r⟩) (.returned (.bool false)) V2) := KN.out V2 (Below.refl _ _) (by simp [sameT, h2])
      have k2b : (n == m) = false := by simpa using h2
      have k2m : (n != m) = true := by simpa using h2
      go_enter Tryd.func8, Tryd.ntmps8
      go_wp2
      go_ret
      exact HE.out
  · have HE : Hid (YeTo w (sameT ⟨t, n, l, s⟩ ⟨u, m, k, r⟩) (.returned (.bool false)) V2) := KN.out V2 (Below.refl _ _) (by simp [sameT, h1])
    have k1b : (t == u) = false := by simpa using h1
    have k1m : (t != u) = true := by simpa using h1
    go_enter Tryd.func8, Tryd.ntmps8
    go_wp2
    go_ret
    exact HE.out
def smallT (l : List Cv) (s : ByteArray) : Bool := decide (l.length ≤ 40) && decide (s.size ≤ 1000) && l.all fun c => decide (c.path.size ≤ 1000)
theorem small_iff {l : List Cv} {s : ByteArray} : smallT l s = true ↔ l.length ≤ 40 ∧ s.size ≤ 1000 ∧ ∀ c ∈ l, c.path.size ≤ 1000 := by simp [smallT, and_assoc]
set_option maxRecDepth 100000 in
set_option maxHeartbeats 2000000 in
theorem small_tk {w : World} {a : Option Addr} {ln cp : Nat} {l : List Cv} (t n : Int) (s : ByteArray) (h : Kw w a ln cp l) (hs : s.size ≤ 140737488351232) (hp : ∀ c ∈ l, c.path.size ≤ 140737488351232) : Calls Tryd.prog 4 #[.agg #[.int .i64 t, .int .i64 n, .slice a ln cp, .string s]] w fun e w' => YeTo w (smallT l s) e w' := by
  have hl := h.len
  have hmx := h.max
  obtain ⟨pb, hpb⟩ : ∃ pb, w.heap.size = pb := ⟨_, rfl⟩
  obtain ⟨V1, hV1, r1, hb1⟩ := box_tk (w := w) t n a ln cp s
  rw [hpb] at r1
  have HK : Hid (∀ W, Below V1.heap.size V1 W → W.cell? ⟨pb, 0, none⟩ = some (.int .i64 t) ∧ W.cell? ⟨pb, 1, none⟩ = some (.int .i64 n) ∧ W.cell? ⟨pb, 2, none⟩ = some (.slice a ln cp) ∧ W.cell? ⟨pb, 3, none⟩ = some (.string s)) := fun W hW => by
    obtain ⟨e0, e1, e2, e3, _⟩ := row4 ((hW.block pb (lt_of_some r1)).trans r1)
    exact ⟨e0, e1, e2, e3⟩
  obtain ⟨y0, y1, y2, y3⟩ := HK.out V1 (Below.refl _ _)
  have HB : Hid (Below w.heap.size w V1) := hb1
  have HR : Hid ((∀ W, Below V1.heap.size V1 W → Kw W a ln cp l) ∧ l.length = ln ∧ ∀ c ∈ l, c.path.size ≤ 140737488351232) := ⟨fun W hW => h.below (hb1.trans (hW.mono hb1.size)), hl, hp⟩
  have KN : Hid (∀ W, Below V1.heap.size V1 W → smallT l s = false → YeTo w (smallT l s) (.returned (.bool false)) W) := fun W hW hf => ⟨by rw [hf], HB.out.trans (hW.mono HB.out.size)⟩
  clear r1 hb1 h
  by_cases h1 : 40 < ln
  · have k1 : (40 : Int) < (ln : Int) := by omega
    have HE : Hid (YeTo w (smallT l s) (.returned (.bool false)) V1) := KN.out V1 (Below.refl _ _) (by unfold smallT; rw [decide_eq_false (p := l.length ≤ 40) (by omega)]; simp)
    clear hl
    go_enter Tryd.func4, Tryd.ntmps4
    go_wp2
    go_ret
    exact HE.out
  · have k1 : ¬ (40 : Int) < (ln : Int) := by omega
    have k1d : decide ((40 : Int) < (ln : Int)) = false := decide_eq_false k1
    by_cases h2 : 1000 < s.size
    · have k2 : (1000 : Int) < (s.size : Int) := by omega
      have HE : Hid (YeTo w (smallT l s) (.returned (.bool false)) V1) := KN.out V1 (Below.refl _ _) (by unfold smallT; rw [decide_eq_false (p := s.size ≤ 1000) (by omega)]; simp)
      clear hl
      go_enter Tryd.func4, Tryd.ntmps4
      go_wp2
      go_ret
      exact HE.out
    · have k2 : ¬ (1000 : Int) < (s.size : Int) := by omega
      have HS : Hid (smallT l s = l.all fun c => decide (c.path.size ≤ 1000)) := by show _ = _; unfold smallT; rw [decide_eq_true (p := l.length ≤ 40) (by omega), decide_eq_true (p := s.size ≤ 1000) (by omega)]; rfl
      clear hl hp
      go_enter Tryd.func4, Tryd.ntmps4
      go_wp2
      go_loopw [3] (fun v wr => ∃ i : Nat, i ≤ ln ∧ v = .int .i64 i ∧ (∀ c ∈ l.take i, c.path.size ≤ 1000) ∧ Below V1.heap.size V1 wr) (fun v _ => ln - (intOf v).toNat)
      case atStart => exact ⟨0, by omega, rfl, by simp, Below.refl _ _⟩
      case round =>
      obtain ⟨i, hi, rfl, hal, hbw⟩ := hrel
      clear y0 y1 y2 y3
      obtain ⟨y0, y1, y2, y3⟩ := HK.out wr hbw
      by_cases hlt : i < ln
      · have kk : (i : Int) < (ln : Int) := by omega
        obtain ⟨ab, ao, rfl, _, hc⟩ := (HR.out.1 wr hbw).at (by omega)
        obtain ⟨⟨c1, c2, c3⟩, hci⟩ : ∃ c, l[i]? = some c := ⟨_, List.getElem?_eq_getElem (by have := HR.out.2.1; omega)⟩
        obtain ⟨d0, d1, d2⟩ := hc i _ hci
        have hcz := HR.out.2.2 _ (List.mem_of_getElem? hci)
        simp only at d0 d1 d2 hcz
        by_cases h3 : 1000 < c1.size
        · have k3 : (1000 : Int) < (c1.size : Int) := by omega
          have HE : Hid (YeTo w (smallT l s) (.returned (.bool false)) wr) := KN.out wr hbw (by
            rw [HS.out, List.all_eq_false]
            exact ⟨_, List.mem_of_getElem? hci, by simp; omega⟩)
          clear hc hci hal hbw
          go_wp2
          go_ret
          exact HE.out
        · have k3 : ¬ (1000 : Int) < (c1.size : Int) := by omega
          have HA : Hid ((∀ c ∈ l.take (i + 1), c.path.size ≤ 1000) ∧ Below V1.heap.size V1 wr) := ⟨by
            rw [take_snocK hci]
            intro d hd
            rcases List.mem_append.1 hd with hd | hd
            · exact hal d hd
            · rw [List.mem_singleton.1 hd]; show c1.size ≤ 1000; omega, hbw⟩
          clear hc hci hal hbw
          go_wp2
          exact ⟨⟨i + 1, by omega, by go_num, HA.out.1, HA.out.2⟩, by simp [intOf]; omega⟩
      · obtain rfl : i = ln := by omega
        have kk : ¬ (i : Int) < (i : Int) := by omega
        have HE : Hid (YeTo w (smallT l s) (.returned (.bool true)) wr) := by
          refine ⟨?_, HB.out.trans (hbw.mono HB.out.size)⟩
          rw [List.take_of_length_le (by have := HR.out.2.1; omega)] at hal
          rw [HS.out, List.all_eq_true.2 (fun c hc => decide_eq_true (hal c hc))]
        clear hal hbw
        go_wp2
        go_ret
        exact HE.out
end Go.Proofs.YtcmdcmbiilfngabDoor
