/- Walks over the program's May, and over the document's. -/
import Derived.Test.YtcmdcmbiilfngabDoorKB
namespace Go.Proofs.YtcmdcmbiilfngabDoor
open Go.RowKit
theorem may_take {t n : Int} {l : List Cv} {s : ByteArray} {i : Nat} {c : Cv} (h : l[i]? = some c) (hc : c.ok = false) : mayT ⟨t, n, l, s⟩ = false := by
  cases hm : mayT ⟨t, n, l, s⟩ with
  | false => rfl
  | true =>
    have := (may_iff.1 hm).2.2.2 c (List.mem_of_getElem? h)
    rw [hc] at this
    cases this
theorem all_take {l : List Cv} {i : Nat} {c : Cv} (hi : l[i]? = some c) (h : ∀ d ∈ l.take i, d.ok = true) (hc : c.ok = true) : ∀ d ∈ l.take (i + 1), d.ok = true := by
  rw [take_snocK hi]
  intro d hd
  rcases List.mem_append.1 hd with hd | hd
  · exact h d hd
  · rw [List.mem_singleton.1 hd]; exact hc
set_option maxRecDepth 100000 in
set_option maxHeartbeats 2000000 in
theorem cmay_any {w : World} {a : Option Addr} {ln cp : Nat} {l : List Cv} (t n : Int) (s : ByteArray) (h : Kw w a ln cp l) (hp : ∀ c ∈ l, c.path.size ≤ 9223372036854775807) : Calls Tryd.prog 19 #[.agg #[.int .i64 t, .int .i64 n, .slice a ln cp, .string s]] w fun e w' => YeTo w (mayT ⟨t, n, l, s⟩) e w' := by
  have hl := h.len
  have hmx := h.max
  obtain ⟨pb, hpb⟩ : ∃ pb, w.heap.size = pb := ⟨_, rfl⟩
  obtain ⟨V1, hV1, r1, hb1⟩ := box_tk (w := w) t n a ln cp s
  rw [hpb] at r1
  have HK : Hid (∀ W, Below V1.heap.size V1 W → W.cell? ⟨pb, 0, none⟩ = some (.int .i64 t) ∧ W.cell? ⟨pb, 1, none⟩ = some (.int .i64 n) ∧ W.cell? ⟨pb, 2, none⟩ = some (.slice a ln cp) ∧ W.cell? ⟨pb, 3, none⟩ = some (.string s)) := fun W hW => by
    have r2 := (hW.block pb (lt_of_some r1)).trans r1
    exact ⟨by rw [cell_of_row _ _ _ _ _ _ r2]; rfl, by rw [cell_of_row _ _ _ _ _ _ r2]; rfl, by rw [cell_of_row _ _ _ _ _ _ r2]; rfl, by rw [cell_of_row _ _ _ _ _ _ r2]; rfl⟩
  obtain ⟨y0, y1, y2, y3⟩ := HK.out V1 (Below.refl _ _)
  have HB : Hid (Below w.heap.size w V1) := hb1
  have HR : Hid (∀ W, Below V1.heap.size V1 W → Kw W a ln cp l) := fun W hW => h.below (hb1.trans (hW.mono hb1.size))
  have HN := named_any t n V1
  clear r1 hb1 h
  cases hk : knownT t n with
  | false =>
    rw [hk] at HN
    have HE : Hid (YeTo w (mayT ⟨t, n, l, s⟩) (.returned (.bool false)) V1) := by
      refine ⟨?_, HB.out⟩
      have : mayT ⟨t, n, l, s⟩ = false := by unfold mayT; simp only; rw [hk]; rfl
      rw [this]
    clear hk
    go_enter Tryd.func19, Tryd.ntmps19
    go_wp2_with fail
    refine HN.mono ?_
    rintro e V2 ⟨rfl, hV2⟩
    subst V2
    clear HN
    go_wp2
    go_ret
    exact HE.out
  | true =>
    rw [hk] at HN
    by_cases h8 : 8 < ln
    · have k8 : (8 : Int) < (ln : Int) := by omega
      have HE : Hid (YeTo w (mayT ⟨t, n, l, s⟩) (.returned (.bool false)) V1) := by
        refine ⟨?_, HB.out⟩
        have : mayT ⟨t, n, l, s⟩ = false := by
          unfold mayT
          simp only
          rw [decide_eq_false (p := l.length ≤ 8) (by omega)]
          simp
        rw [this]
      clear hk hl
      go_enter Tryd.func19, Tryd.ntmps19
      go_wp2_with fail
      refine HN.mono ?_
      rintro e V2 ⟨rfl, hV2⟩
      subst V2
      clear HN
      go_wp2
      go_ret
      exact HE.out
    · have k8 : ¬ (8 : Int) < (ln : Int) := by omega
      by_cases h32 : s.size = 32
      · have k32 : (s.size : Int) = 32 := by omega
        have hme : mayT ⟨t, n, l, s⟩ = l.all Cv.ok := by
          unfold mayT
          simp only
          rw [hk, decide_eq_true (p := l.length ≤ 8) (by omega), decide_eq_true h32]
          rfl
        have HL : Hid (l.length = ln ∧ (∀ c ∈ l, c.path.size ≤ 9223372036854775807) ∧ mayT ⟨t, n, l, s⟩ = l.all Cv.ok) := ⟨hl, hp, hme⟩
        clear hk hl hp hme h32
        go_enter Tryd.func19, Tryd.ntmps19
        go_wp2_with fail
        refine HN.mono ?_
        rintro e V2 ⟨rfl, hV2⟩
        subst V2
        clear HN
        go_wp2
        go_loopw [26] (fun v wr => ∃ i : Nat, i ≤ ln ∧ v = .int .i64 i ∧ (∀ c ∈ l.take i, c.ok = true) ∧ Below V1.heap.size V1 wr) (fun v _ => ln - (intOf v).toNat)
        case atStart => exact ⟨0, by omega, rfl, by simp, Below.refl _ _⟩
        case round =>
        obtain ⟨i, hi, rfl, hal, hbw⟩ := hrel
        clear y0 y1 y2 y3
        obtain ⟨y0, y1, y2, y3⟩ := HK.out wr hbw
        by_cases hlt : i < ln
        · have kk : (i : Int) < (ln : Int) := by omega
          obtain ⟨ab, ao, rfl, _, hc⟩ := (HR.out wr hbw).at (by omega)
          obtain ⟨⟨c1, c2, c3⟩, hci⟩ : ∃ c, l[i]? = some c := ⟨_, List.getElem?_eq_getElem (by have := HL.out.1; omega)⟩
          obtain ⟨d0, d1, d2⟩ := hc i _ hci
          have hcl := HL.out.2.1 _ (List.mem_of_getElem? hci)
          simp only at d0 d1 d2 hcl
          obtain ⟨V3, hV3, r3, hb3⟩ := box_cv (w := wr) c1 c2 c3
          obtain ⟨qb, hqb⟩ : ∃ qb, wr.heap.size = qb := ⟨_, rfl⟩
          rw [hqb] at r3
          have HI := iscav_any ⟨c1, c2, c3⟩ V3 (by simp only; omega)
          simp only at HI
          have x0 : V3.cell? ⟨qb, 0, none⟩ = some (.string c1) := by rw [cell_of_row _ _ _ _ _ _ r3]; rfl
          have x1 : V3.cell? ⟨qb, 1, none⟩ = some (.int .i64 c2) := by rw [cell_of_row _ _ _ _ _ _ r3]; rfl
          have x2 : V3.cell? ⟨qb, 2, none⟩ = some (.int .i64 c3) := by rw [cell_of_row _ _ _ _ _ _ r3]; rfl
          have HB3 : Hid (Below V1.heap.size V1 V3) := hbw.trans (hb3.mono hbw.size)
          cases hok : (⟨c1, c2, c3⟩ : Cv).ok with
          | true =>
            rw [hok] at HI
            have HA : Hid (∀ c ∈ l.take (i + 1), c.ok = true) := all_take hci hal hok
            clear hc hci hcl hal hbw r3 hb3 hok
            go_wp2_with fail
            refine HI.mono ?_
            rintro e V4 ⟨rfl, hb4⟩
            have HB4 : Hid (Below V1.heap.size V1 V4) := HB3.out.trans (hb4.mono HB3.out.size)
            clear hb4 HI
            go_wp2
            exact ⟨⟨i + 1, by omega, by go_num, HA.out, HB4.out⟩, by simp [intOf]; omega⟩
          | false =>
            rw [hok] at HI
            have HA : Hid (mayT ⟨t, n, l, s⟩ = false) := may_take hci hok
            clear hc hci hcl hal hbw r3 hb3 hok
            go_wp2_with fail
            refine HI.mono ?_
            rintro e V4 ⟨rfl, hb4⟩
            have HE : Hid (YeTo w (mayT ⟨t, n, l, s⟩) (.returned (.bool false)) V4) := ⟨by rw [HA.out], HB.out.trans ((HB3.out.trans (hb4.mono HB3.out.size)).mono HB.out.size)⟩
            clear hb4 HI
            go_wp2
            go_ret
            exact HE.out
        · obtain rfl : i = ln := by omega
          have kk : ¬ (i : Int) < (i : Int) := by omega
          have HE : Hid (YeTo w (mayT ⟨t, n, l, s⟩) (.returned (.bool true)) wr) := by
            refine ⟨?_, HB.out.trans (hbw.mono HB.out.size)⟩
            rw [List.take_of_length_le (by have := HL.out.1; omega)] at hal
            rw [HL.out.2.2, List.all_eq_true.2 hal]
          clear hal hbw
          go_wp2
          go_ret
          exact HE.out
      · have k32 : ¬ (s.size : Int) = 32 := by omega
        have b32 : ((s.size : Int) == 32) = false := by simpa using k32
        have n32 : ((s.size : Int) != 32) = true := by simpa using k32
        have q8 : decide ((8 : Int) < (ln : Int)) = false := decide_eq_false (by omega)
        have HE : Hid (YeTo w (mayT ⟨t, n, l, s⟩) (.returned (.bool false)) V1) := by
          refine ⟨?_, HB.out⟩
          have : mayT ⟨t, n, l, s⟩ = false := by
            unfold mayT
            simp only
            rw [decide_eq_false h32]
            simp
          rw [this]
        clear hk hl h32
        go_enter Tryd.func19, Tryd.ntmps19
        go_wp2_with fail
        refine HN.mono ?_
        rintro e V2 ⟨rfl, hV2⟩
        subst V2
        clear HN
        go_wp2
        go_ret
        exact HE.out
set_option maxRecDepth 100000 in
set_option maxHeartbeats 2000000 in
theorem rmay_any {w : World} {a : Option Addr} {ln cp : Nat} {l : List Cv} (t n : Int) (s : ByteArray) (h : Kw w a ln cp l) (hp : ∀ c ∈ l, c.path.size ≤ 9223372036854775807) : Calls Tryd.prog 10 #[.agg #[.int .i64 t, .int .i64 n, .slice a ln cp, .string s]] w fun e w' => YeTo w (mayT ⟨t, n, l, s⟩) e w' := by
  have hl := h.len
  have hmx := h.max
  obtain ⟨pb, hpb⟩ : ∃ pb, w.heap.size = pb := ⟨_, rfl⟩
  obtain ⟨V1, hV1, r1, hb1⟩ := box_tk (w := w) t n a ln cp s
  rw [hpb] at r1
  have HK : Hid (∀ W, Below V1.heap.size V1 W → W.cell? ⟨pb, 0, none⟩ = some (.int .i64 t) ∧ W.cell? ⟨pb, 1, none⟩ = some (.int .i64 n) ∧ W.cell? ⟨pb, 2, none⟩ = some (.slice a ln cp) ∧ W.cell? ⟨pb, 3, none⟩ = some (.string s)) := fun W hW => by
    have r2 := (hW.block pb (lt_of_some r1)).trans r1
    exact ⟨by rw [cell_of_row _ _ _ _ _ _ r2]; rfl, by rw [cell_of_row _ _ _ _ _ _ r2]; rfl, by rw [cell_of_row _ _ _ _ _ _ r2]; rfl, by rw [cell_of_row _ _ _ _ _ _ r2]; rfl⟩
  obtain ⟨y0, y1, y2, y3⟩ := HK.out V1 (Below.refl _ _)
  have HB : Hid (Below w.heap.size w V1) := hb1
  have HR : Hid (∀ W, Below V1.heap.size V1 W → Kw W a ln cp l) := fun W hW => h.below (hb1.trans (hW.mono hb1.size))
  have HN := known_any t n V1
  clear r1 hb1 h
  cases hk : knownT t n with
  | false =>
    rw [hk] at HN
    have HE : Hid (YeTo w (mayT ⟨t, n, l, s⟩) (.returned (.bool false)) V1) := by
      refine ⟨?_, HB.out⟩
      have : mayT ⟨t, n, l, s⟩ = false := by unfold mayT; simp only; rw [hk]; rfl
      rw [this]
    clear hk
    go_enter Tryd.func10, Tryd.ntmps10
    go_wp2_with fail
    refine HN.mono ?_
    rintro e V2 ⟨rfl, hV2⟩
    subst V2
    clear HN
    go_wp2
    go_ret
    exact HE.out
  | true =>
    rw [hk] at HN
    by_cases h8 : 8 < ln
    · have k8 : (8 : Int) < (ln : Int) := by omega
      have HE : Hid (YeTo w (mayT ⟨t, n, l, s⟩) (.returned (.bool false)) V1) := by
        refine ⟨?_, HB.out⟩
        have : mayT ⟨t, n, l, s⟩ = false := by
          unfold mayT
          simp only
          rw [decide_eq_false (p := l.length ≤ 8) (by omega)]
          simp
        rw [this]
      clear hk hl
      go_enter Tryd.func10, Tryd.ntmps10
      go_wp2_with fail
      refine HN.mono ?_
      rintro e V2 ⟨rfl, hV2⟩
      subst V2
      clear HN
      go_wp2
      go_ret
      exact HE.out
    · have k8 : ¬ (8 : Int) < (ln : Int) := by omega
      by_cases h32 : s.size = 32
      · have k32 : (s.size : Int) = 32 := by omega
        have hme : mayT ⟨t, n, l, s⟩ = l.all Cv.ok := by
          unfold mayT
          simp only
          rw [hk, decide_eq_true (p := l.length ≤ 8) (by omega), decide_eq_true h32]
          rfl
        have HL : Hid (l.length = ln ∧ (∀ c ∈ l, c.path.size ≤ 9223372036854775807) ∧ mayT ⟨t, n, l, s⟩ = l.all Cv.ok) := ⟨hl, hp, hme⟩
        clear hk hl hp hme h32
        go_enter Tryd.func10, Tryd.ntmps10
        go_wp2_with fail
        refine HN.mono ?_
        rintro e V2 ⟨rfl, hV2⟩
        subst V2
        clear HN
        go_wp2
        go_loopw [3] (fun v wr => ∃ i : Nat, i ≤ ln ∧ v = .int .i64 i ∧ (∀ c ∈ l.take i, c.ok = true) ∧ Below V1.heap.size V1 wr) (fun v _ => ln - (intOf v).toNat)
        case atStart => exact ⟨0, by omega, rfl, by simp, Below.refl _ _⟩
        case round =>
        obtain ⟨i, hi, rfl, hal, hbw⟩ := hrel
        clear y0 y1 y2 y3
        obtain ⟨y0, y1, y2, y3⟩ := HK.out wr hbw
        by_cases hlt : i < ln
        · have kk : (i : Int) < (ln : Int) := by omega
          obtain ⟨ab, ao, rfl, _, hc⟩ := (HR.out wr hbw).at (by omega)
          obtain ⟨⟨c1, c2, c3⟩, hci⟩ : ∃ c, l[i]? = some c := ⟨_, List.getElem?_eq_getElem (by have := HL.out.1; omega)⟩
          obtain ⟨d0, d1, d2⟩ := hc i _ hci
          have hcl := HL.out.2.1 _ (List.mem_of_getElem? hci)
          simp only at d0 d1 d2 hcl
          have HI := good12_any ⟨c1, c2, c3⟩ wr (by simp only; omega)
          simp only at HI
          have HB3 : Hid (Below V1.heap.size V1 wr) := hbw
          cases hok : (⟨c1, c2, c3⟩ : Cv).ok with
          | true =>
            rw [hok] at HI
            have HA : Hid (∀ c ∈ l.take (i + 1), c.ok = true) := all_take hci hal hok
            clear hc hci hcl hal hbw hok
            go_wp2_with fail
            refine HI.mono ?_
            rintro e V4 ⟨rfl, hb4⟩
            have HB4 : Hid (Below V1.heap.size V1 V4) := HB3.out.trans (hb4.mono HB3.out.size)
            clear hb4 HI
            go_wp2
            exact ⟨⟨i + 1, by omega, by go_num, HA.out, HB4.out⟩, by simp [intOf]; omega⟩
          | false =>
            rw [hok] at HI
            have HA : Hid (mayT ⟨t, n, l, s⟩ = false) := may_take hci hok
            clear hc hci hcl hal hbw hok
            go_wp2_with fail
            refine HI.mono ?_
            rintro e V4 ⟨rfl, hb4⟩
            have HE : Hid (YeTo w (mayT ⟨t, n, l, s⟩) (.returned (.bool false)) V4) := ⟨by rw [HA.out], HB.out.trans ((HB3.out.trans (hb4.mono HB3.out.size)).mono HB.out.size)⟩
            clear hb4 HI
            go_wp2
            go_ret
            exact HE.out
        · obtain rfl : i = ln := by omega
          have kk : ¬ (i : Int) < (i : Int) := by omega
          have HE : Hid (YeTo w (mayT ⟨t, n, l, s⟩) (.returned (.bool true)) wr) := by
            refine ⟨?_, HB.out.trans (hbw.mono HB.out.size)⟩
            rw [List.take_of_length_le (by have := HL.out.1; omega)] at hal
            rw [HL.out.2.2, List.all_eq_true.2 hal]
          clear hal hbw
          go_wp2
          go_ret
          exact HE.out
      · have k32 : ¬ (s.size : Int) = 32 := by omega
        have b32 : ((s.size : Int) == 32) = false := by simpa using k32
        have n32 : ((s.size : Int) != 32) = true := by simpa using k32
        have q8 : decide ((8 : Int) < (ln : Int)) = false := decide_eq_false (by omega)
        have HE : Hid (YeTo w (mayT ⟨t, n, l, s⟩) (.returned (.bool false)) V1) := by
          refine ⟨?_, HB.out⟩
          have : mayT ⟨t, n, l, s⟩ = false := by
            unfold mayT
            simp only
            rw [decide_eq_false h32]
            simp
          rw [this]
        clear hk hl h32
        go_enter Tryd.func10, Tryd.ntmps10
        go_wp2_with fail
        refine HN.mono ?_
        rintro e V2 ⟨rfl, hV2⟩
        subst V2
        clear HN
        go_wp2
        go_ret
        exact HE.out
end Go.Proofs.YtcmdcmbiilfngabDoor
