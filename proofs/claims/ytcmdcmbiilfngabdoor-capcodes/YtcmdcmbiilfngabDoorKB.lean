/- The document's side: its Same, Covers and Meet. Walks over isNamed, Known, isCaveat, Good, isRight. -/
import Derived.Test.YtcmdcmbiilfngabDoorPR
import Derived.BigQuiet
import Derived.Deep.QuietTactic
import Derived.Test.YtcmdcmbiilfngabDoorPA
import Derived.Test.YtcmdcmbiilfngabDoorPG
namespace Go.Proofs.YtcmdcmbiilfngabDoor.Pt
open Go.RowKit
def preT (a b : List ByteArray) (k : Nat) : Prop := a.take k = b.take k
theorem preT_step {a b : List ByteArray} {k : Nat} (h : preT a b k) (ha : k < a.length) (hb : k < b.length) (e : a[k] = b[k]) : preT a b (k + 1) := by
  unfold preT at *
  rw [List.take_succ_eq_append_getElem ha, List.take_succ_eq_append_getElem hb, h, e]
theorem prefix_take {a b : List (List UInt8)} : a.isPrefixOf b = decide (a = b.take a.length) := by
  rw [Bool.eq_iff_iff, List.isPrefixOf_iff_prefix, decide_eq_true_eq, List.prefix_iff_eq_take]
theorem prefix_long {a b : List (List UInt8)} (h : b.length < a.length) : a.isPrefixOf b = false := by
  cases e : a.isPrefixOf b with
  | false => rfl
  | true => have := (List.isPrefixOf_iff_prefix.1 e).length_le; omega
theorem prefix_differ {a b : List (List UInt8)} (k : Nat) (ha : k < a.length) (hb : k < b.length) (h : ¬ a[k] = b[k]) : a.isPrefixOf b = false := by
  cases e : a.isPrefixOf b with
  | false => rfl
  | true =>
    obtain ⟨t, rfl⟩ := List.isPrefixOf_iff_prefix.1 e
    exact absurd (List.getElem_append_left ha).symm h
end Go.Proofs.YtcmdcmbiilfngabDoor.Pt
namespace Go.Proofs.YtcmdcmbiilfngabDoor
open Go.RowKit
open Pt (placeL)
set_option maxHeartbeats 400000 in
theorem named_any (t n : Int) (w : World) : Calls Tryd.prog 32 #[.int .i64 t, .int .i64 n] w fun e w' => e = .returned (.bool (knownT t n)) ∧ w' = w := by
  by_cases h0 : 1 ≤ t
  · by_cases h1 : t ≤ 8
    · by_cases h2 : 0 ≤ n
      · by_cases h3 : n ≤ 1073741824
        · have e : knownT t n = true := by unfold knownT; simp; omega
          rw [e]
          clear e
          go_enter Tryd.func32, Tryd.ntmps32
          go_wp2
          go_ret
          exact ⟨rfl, rfl⟩
        · have e : knownT t n = false := by unfold knownT; simp; omega
          rw [e]
          clear e
          go_enter Tryd.func32, Tryd.ntmps32
          go_wp2
          go_ret
          exact ⟨rfl, rfl⟩
      · have e : knownT t n = false := by unfold knownT; simp; omega
        rw [e]
        clear e
        go_enter Tryd.func32, Tryd.ntmps32
        go_wp2
        go_ret
        exact ⟨rfl, rfl⟩
    · have e : knownT t n = false := by unfold knownT; simp; omega
      rw [e]
      clear e
      go_enter Tryd.func32, Tryd.ntmps32
      go_wp2
      go_ret
      exact ⟨rfl, rfl⟩
  · have e : knownT t n = false := by unfold knownT; simp; omega
    rw [e]
    clear e
    go_enter Tryd.func32, Tryd.ntmps32
    go_wp2
    go_ret
    exact ⟨rfl, rfl⟩
set_option maxHeartbeats 400000 in
theorem known_any (t n : Int) (w : World) : Calls Tryd.prog 26 #[.int .i64 t, .int .i64 n] w fun e w' => e = .returned (.bool (knownT t n)) ∧ w' = w := by
  by_cases h0 : 1 ≤ t
  · by_cases h1 : t ≤ 8
    · by_cases h2 : 0 ≤ n
      · by_cases h3 : n ≤ 1073741824
        · have e : knownT t n = true := by unfold knownT; simp; omega
          rw [e]
          clear e
          go_enter Tryd.func26, Tryd.ntmps26
          go_wp2
          go_ret
          exact ⟨rfl, rfl⟩
        · have e : knownT t n = false := by unfold knownT; simp; omega
          rw [e]
          clear e
          go_enter Tryd.func26, Tryd.ntmps26
          go_wp2
          go_ret
          exact ⟨rfl, rfl⟩
      · have e : knownT t n = false := by unfold knownT; simp; omega
        rw [e]
        clear e
        go_enter Tryd.func26, Tryd.ntmps26
        go_wp2
        go_ret
        exact ⟨rfl, rfl⟩
    · have e : knownT t n = false := by unfold knownT; simp; omega
      rw [e]
      clear e
      go_enter Tryd.func26, Tryd.ntmps26
      go_wp2
      go_ret
      exact ⟨rfl, rfl⟩
  · have e : knownT t n = false := by unfold knownT; simp; omega
    rw [e]
    clear e
    go_enter Tryd.func26, Tryd.ntmps26
    go_wp2
    go_ret
    exact ⟨rfl, rfl⟩
set_option maxRecDepth 100000 in
set_option maxHeartbeats 1000000 in
theorem iscav_any (c : Cv) (w : World) (hs : c.path.size ≤ 9223372036854775807) : Calls Tryd.prog 34 #[.agg #[.string c.path, .int .i64 c.rights, .int .i64 c.til]] w fun e w' => YeTo w c.ok e w' := by
  obtain ⟨p, r, u⟩ := c
  simp only at hs ⊢
  obtain ⟨pb, hpb⟩ : ∃ pb, w.heap.size = pb := ⟨_, rfl⟩
  obtain ⟨V1, hV1, r1, hb1⟩ := box_cv (w := w) p r u
  rw [hpb] at r1
  have HP := Pt.place_any p V1 hs
  have HK : Hid (∀ W, Below V1.heap.size V1 W → W.cell? ⟨pb, 0, none⟩ = some (.string p) ∧ W.cell? ⟨pb, 1, none⟩ = some (.int .i64 r) ∧ W.cell? ⟨pb, 2, none⟩ = some (.int .i64 u)) := fun W hW => by
    have r2 := (hW.block pb (lt_of_some r1)).trans r1
    exact ⟨by rw [cell_of_row _ _ _ _ _ _ r2]; rfl, by rw [cell_of_row _ _ _ _ _ _ r2]; rfl, by rw [cell_of_row _ _ _ _ _ _ r2]; rfl⟩
  obtain ⟨x0, _, _⟩ := HK.out V1 (Below.refl _ _)
  have HB : Hid (Below w.heap.size w V1) := hb1
  have HD : Hid (∀ W b, Below V1.heap.size V1 W → (⟨p, r, u⟩ : Cv).ok = b → Hid (YeTo w (⟨p, r, u⟩ : Cv).ok (.returned (.bool b)) W)) := fun W b hW hb => ⟨by rw [hb], hb1.trans (hW.mono hb1.size)⟩
  clear r1 hb1
  cases hp : placeL p.data.toList with
  | false =>
    rw [hp] at HP
    have hk : (⟨p, r, u⟩ : Cv).ok = false := by unfold Cv.ok Cv.pl; simp only; rw [hp]; rfl
    go_enter Tryd.func34, Tryd.ntmps34
    go_wp2_with fail
    refine HP.mono ?_
    rintro e V2 ⟨rfl, hb2⟩
    have HE := HD.out V2 false hb2 hk
    clear hb2 HP
    go_wp2
    go_ret
    exact HE.out
  | true =>
    rw [hp] at HP
    have hk : (⟨p, r, u⟩ : Cv).ok = decide (0 ≤ r ∧ r ≤ 7 ∧ 0 ≤ u ∧ u ≤ 1099511627776) := by unfold Cv.ok Cv.pl; simp only; rw [hp]; rfl
    by_cases h0 : 0 ≤ r
    · by_cases h1 : r ≤ 7
      · by_cases h2 : 0 ≤ u
        · by_cases h3 : u ≤ 1099511627776
          · have hk2 : (⟨p, r, u⟩ : Cv).ok = true := by rw [hk]; simp; omega
            clear hk
            go_enter Tryd.func34, Tryd.ntmps34
            go_wp2_with fail
            refine HP.mono ?_
            rintro e V2 ⟨rfl, hb2⟩
            have HE := HD.out V2 true hb2 hk2
            obtain ⟨_, y1, y2⟩ := HK.out V2 hb2
            clear hb2 HP hk2
            go_wp2
            go_ret
            exact HE.out
          · have hk2 : (⟨p, r, u⟩ : Cv).ok = false := by rw [hk]; simp; omega
            clear hk
            go_enter Tryd.func34, Tryd.ntmps34
            go_wp2_with fail
            refine HP.mono ?_
            rintro e V2 ⟨rfl, hb2⟩
            have HE := HD.out V2 false hb2 hk2
            obtain ⟨_, y1, y2⟩ := HK.out V2 hb2
            clear hb2 HP hk2
            have q : decide (u ≤ 1099511627776) = false := decide_eq_false (by omega)
            go_wp2
            go_ret
            exact HE.out
        · have hk2 : (⟨p, r, u⟩ : Cv).ok = false := by rw [hk]; simp; omega
          clear hk
          go_enter Tryd.func34, Tryd.ntmps34
          go_wp2_with fail
          refine HP.mono ?_
          rintro e V2 ⟨rfl, hb2⟩
          have HE := HD.out V2 false hb2 hk2
          obtain ⟨_, y1, y2⟩ := HK.out V2 hb2
          clear hb2 HP hk2
          have q : decide (0 ≤ u) = false := decide_eq_false (by omega)
          go_wp2
          go_ret
          exact HE.out
      · have hk2 : (⟨p, r, u⟩ : Cv).ok = false := by rw [hk]; simp; omega
        clear hk
        go_enter Tryd.func34, Tryd.ntmps34
        go_wp2_with fail
        refine HP.mono ?_
        rintro e V2 ⟨rfl, hb2⟩
        have HE := HD.out V2 false hb2 hk2
        obtain ⟨_, y1, y2⟩ := HK.out V2 hb2
        clear hb2 HP hk2
        have q : decide (r ≤ 7) = false := decide_eq_false (by omega)
        go_wp2
        go_ret
        exact HE.out
    · have hk2 : (⟨p, r, u⟩ : Cv).ok = false := by rw [hk]; simp; omega
      clear hk
      go_enter Tryd.func34, Tryd.ntmps34
      go_wp2_with fail
      refine HP.mono ?_
      rintro e V2 ⟨rfl, hb2⟩
      have HE := HD.out V2 false hb2 hk2
      obtain ⟨_, y1, y2⟩ := HK.out V2 hb2
      clear hb2 HP hk2
      have q : decide (0 ≤ r) = false := decide_eq_false (by omega)
      go_wp2
      go_ret
      exact HE.out
set_option maxRecDepth 100000 in
set_option maxHeartbeats 1000000 in
theorem good12_any (c : Cv) (w : World) (hs : c.path.size ≤ 9223372036854775807) : Calls Tryd.prog 27 #[.agg #[.string c.path, .int .i64 c.rights, .int .i64 c.til]] w fun e w' => YeTo w c.ok e w' := by
  obtain ⟨p, r, u⟩ := c
  simp only at hs ⊢
  obtain ⟨pb, hpb⟩ : ∃ pb, w.heap.size = pb := ⟨_, rfl⟩
  obtain ⟨V1, hV1, r1, hb1⟩ := box_cv (w := w) p r u
  rw [hpb] at r1
  have HP := Pt.rplace_any p V1 hs
  have HK : Hid (∀ W, Below V1.heap.size V1 W → W.cell? ⟨pb, 0, none⟩ = some (.string p) ∧ W.cell? ⟨pb, 1, none⟩ = some (.int .i64 r) ∧ W.cell? ⟨pb, 2, none⟩ = some (.int .i64 u)) := fun W hW => by
    have r2 := (hW.block pb (lt_of_some r1)).trans r1
    exact ⟨by rw [cell_of_row _ _ _ _ _ _ r2]; rfl, by rw [cell_of_row _ _ _ _ _ _ r2]; rfl, by rw [cell_of_row _ _ _ _ _ _ r2]; rfl⟩
  obtain ⟨x0, _, _⟩ := HK.out V1 (Below.refl _ _)
  have HB : Hid (Below w.heap.size w V1) := hb1
  have HD : Hid (∀ W b, Below V1.heap.size V1 W → (⟨p, r, u⟩ : Cv).ok = b → Hid (YeTo w (⟨p, r, u⟩ : Cv).ok (.returned (.bool b)) W)) := fun W b hW hb => ⟨by rw [hb], hb1.trans (hW.mono hb1.size)⟩
  clear r1 hb1
  cases hp : placeL p.data.toList with
  | false =>
    rw [hp] at HP
    have hk : (⟨p, r, u⟩ : Cv).ok = false := by unfold Cv.ok Cv.pl; simp only; rw [hp]; rfl
    go_enter Tryd.func27, Tryd.ntmps27
    go_wp2_with fail
    refine HP.mono ?_
    rintro e V2 ⟨rfl, hb2⟩
    have HE := HD.out V2 false hb2 hk
    clear hb2 HP
    go_wp2
    go_ret
    exact HE.out
  | true =>
    rw [hp] at HP
    have hk : (⟨p, r, u⟩ : Cv).ok = decide (0 ≤ r ∧ r ≤ 7 ∧ 0 ≤ u ∧ u ≤ 1099511627776) := by unfold Cv.ok Cv.pl; simp only; rw [hp]; rfl
    by_cases h0 : 0 ≤ r
    · by_cases h1 : r ≤ 7
      · by_cases h2 : 0 ≤ u
        · by_cases h3 : u ≤ 1099511627776
          · have hk2 : (⟨p, r, u⟩ : Cv).ok = true := by rw [hk]; simp; omega
            clear hk
            go_enter Tryd.func27, Tryd.ntmps27
            go_wp2_with fail
            refine HP.mono ?_
            rintro e V2 ⟨rfl, hb2⟩
            have HE := HD.out V2 true hb2 hk2
            obtain ⟨_, y1, y2⟩ := HK.out V2 hb2
            clear hb2 HP hk2
            go_wp2
            go_ret
            exact HE.out
          · have hk2 : (⟨p, r, u⟩ : Cv).ok = false := by rw [hk]; simp; omega
            clear hk
            go_enter Tryd.func27, Tryd.ntmps27
            go_wp2_with fail
            refine HP.mono ?_
            rintro e V2 ⟨rfl, hb2⟩
            have HE := HD.out V2 false hb2 hk2
            obtain ⟨_, y1, y2⟩ := HK.out V2 hb2
            clear hb2 HP hk2
            have q : decide (u ≤ 1099511627776) = false := decide_eq_false (by omega)
            go_wp2
            go_ret
            exact HE.out
        · have hk2 : (⟨p, r, u⟩ : Cv).ok = false := by rw [hk]; simp; omega
          clear hk
          go_enter Tryd.func27, Tryd.ntmps27
          go_wp2_with fail
          refine HP.mono ?_
          rintro e V2 ⟨rfl, hb2⟩
          have HE := HD.out V2 false hb2 hk2
          obtain ⟨_, y1, y2⟩ := HK.out V2 hb2
          clear hb2 HP hk2
          have q : decide (0 ≤ u) = false := decide_eq_false (by omega)
          go_wp2
          go_ret
          exact HE.out
      · have hk2 : (⟨p, r, u⟩ : Cv).ok = false := by rw [hk]; simp; omega
        clear hk
        go_enter Tryd.func27, Tryd.ntmps27
        go_wp2_with fail
        refine HP.mono ?_
        rintro e V2 ⟨rfl, hb2⟩
        have HE := HD.out V2 false hb2 hk2
        obtain ⟨_, y1, y2⟩ := HK.out V2 hb2
        clear hb2 HP hk2
        have q : decide (r ≤ 7) = false := decide_eq_false (by omega)
        go_wp2
        go_ret
        exact HE.out
    · have hk2 : (⟨p, r, u⟩ : Cv).ok = false := by rw [hk]; simp; omega
      clear hk
      go_enter Tryd.func27, Tryd.ntmps27
      go_wp2_with fail
      refine HP.mono ?_
      rintro e V2 ⟨rfl, hb2⟩
      have HE := HD.out V2 false hb2 hk2
      obtain ⟨_, y1, y2⟩ := HK.out V2 hb2
      clear hb2 HP hk2
      have q : decide (0 ≤ r) = false := decide_eq_false (by omega)
      go_wp2
      go_ret
      exact HE.out
set_option maxHeartbeats 400000 in
theorem isright_any (x : Int) (w : World) : Calls Tryd.prog 37 #[.int .i64 x] w fun e w' => e = .returned (.bool (rightB x)) ∧ w' = w := by
  by_cases h1 : x = 1
  · subst h1
    go_enter Tryd.func37, Tryd.ntmps37
    go_wp2
    go_ret
    exact ⟨rfl, rfl⟩
  · have b1 : (x == 1) = false := by simpa using h1
    by_cases h2 : x = 2
    · subst h2
      go_enter Tryd.func37, Tryd.ntmps37
      go_wp2
      go_ret
      exact ⟨rfl, rfl⟩
    · have b2 : (x == 2) = false := by simpa using h2
      by_cases h4 : x = 4
      · subst h4
        go_enter Tryd.func37, Tryd.ntmps37
        go_wp2
        go_ret
        exact ⟨rfl, rfl⟩
      · have b4 : (x == 4) = false := by simpa using h4
        have e : rightB x = false := by unfold rightB; simp [h1, h2, h4]
        rw [e]
        clear e
        go_enter Tryd.func37, Tryd.ntmps37
        go_wp2
        go_ret
        exact ⟨rfl, rfl⟩
end Go.Proofs.YtcmdcmbiilfngabDoor
