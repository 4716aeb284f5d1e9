/- A walk over the program's May. Walks over the program's chain and Digest. -/
import Derived.Test.YtkhidkilkbmpoaaDoorRA
import Derived.Test.YtkhidkilkbmpoaaDoorCG
namespace Go.Proofs.YtkhidkilkbmpoaaDoor
open Go.RowKit
set_option maxRecDepth 100000 in
set_option maxHeartbeats 4000000 in
theorem amay_any {w : World} {a : Option Addr} {ln cp : Nat} {l : List En} (s : ByteArray) (n : Int) (h : Ew w a ln cp l) : Calls Tryd.prog 15 #[.agg #[.string s, .int .i64 n, .slice a ln cp]] w fun e w' => YeTo w (mayA ⟨s, n, l⟩) e w' := by
  have hl := h.len
  have hmx := h.max
  obtain ⟨pb, hpb⟩ : ∃ pb, w.heap.size = pb := ⟨_, rfl⟩
  obtain ⟨V1, hV1, r1, hb1⟩ := box_au 27 (w := w) s n a ln cp
  rw [hpb] at r1
  have HK : Hid (∀ W, Below V1.heap.size V1 W → W.cell? ⟨pb, 0, none⟩ = some (.string s) ∧ W.cell? ⟨pb, 1, none⟩ = some (.int .i64 n) ∧ W.cell? ⟨pb, 2, none⟩ = some (.slice a ln cp)) := fun W hW => by
    obtain ⟨x0, x1, x2, _⟩ := row3 ((hW.block pb (lt_of_some r1)).trans r1)
    exact ⟨x0, x1, x2⟩
  obtain ⟨y0, y1, y2⟩ := HK.out V1 (Below.refl _ _)
  have HB : Hid (Below w.heap.size w V1) := hb1
  have HR : Hid (∀ W, Below V1.heap.size V1 W → Ew W a ln cp l) := fun W hW => h.below (hb1.trans (hW.mono hb1.size))
  have HL : Hid (l.length = ln) := hl
  have HN : Hid (¬ (s.size = 32 ∧ 0 ≤ n ∧ n ≤ 2147483648 ∧ (ln : Int) = min n 8) → Hid (YeTo w (mayA ⟨s, n, l⟩) (.returned (.bool false)) V1)) := fun h => ⟨by rw [may_no (by rw [hl]; exact h)], hb1⟩
  clear r1 hb1 h
  by_cases h32 : s.size = 32
  rotate_left
  · have k32 : ¬ (s.size : Int) = 32 := by omega
    have b32 : ((s.size : Int) == 32) = false := by simpa using k32
    have n32 : ((s.size : Int) != 32) = true := by simpa using k32
    have HE := HN.out (by omega)
    clear hl
    go_enter Tryd.func15, Tryd.ntmps15
    go_wp2
    go_ret
    exact HE.out
  have k32 : (s.size : Int) = 32 := by omega
  have b32 : ((s.size : Int) == 32) = true := by simpa using k32
  have n32 : ((s.size : Int) != 32) = false := by simpa using k32
  by_cases c1 : n < 0
  · have HE := HN.out (by omega)
    clear hl
    go_enter Tryd.func15, Tryd.ntmps15
    go_wp2
    go_ret
    exact HE.out
  by_cases c2 : 2147483648 < n
  · have HE := HN.out (by omega)
    clear hl
    go_enter Tryd.func15, Tryd.ntmps15
    go_wp2
    go_ret
    exact HE.out
  obtain ⟨m, hm⟩ : ∃ m, min n 8 = m := ⟨_, rfl⟩
  by_cases c4 : (ln : Int) = m
  rotate_left
  · have b4 : ((ln : Int) == m) = false := by simpa using c4
    have n4 : ((ln : Int) != m) = true := by simpa using c4
    have HE := HN.out (by omega)
    clear hl
    go_enter Tryd.func15, Tryd.ntmps15
    go_wp2
    go_ret
    exact HE.out
  have b4 : ((ln : Int) == m) = true := by simpa using c4
  have n4 : ((ln : Int) != m) = false := by simpa using c4
  have HM : Hid (runB (n - (l.length : Int) + 1) l = true → mayA ⟨s, n, l⟩ = true) := fun h => mayA_iff.2 ⟨h32, by simp only; omega, by simp only; omega, by simp only; omega, h⟩
  have H8 : Hid ((ln : Int) = m ∧ min n 8 = m) := ⟨c4, hm⟩
  have hln : ln ≤ 8 := by omega
  have w1 : IntKind.i64.wrap (n - (ln : Int)) = n - (ln : Int) := by rw [IntKind.wrap_i64]; omega
  clear hl c4
  go_enter Tryd.func15, Tryd.ntmps15
  go_wp2
  go_loopw [38] (fun v wr => ∃ i : Nat, i ≤ ln ∧ v = .int .i64 i ∧ runB (n - (ln : Int) + 1) (l.take i) = true ∧ Below V1.heap.size V1 wr) (fun v _ => ln - (intOf v).toNat)
  case atStart => exact ⟨0, by omega, rfl, rfl, Below.refl _ _⟩
  case round =>
  obtain ⟨i, hi, rfl, hal, hbw⟩ := hrel
  clear y0 y1 y2
  by_cases hlt : i < ln
  · have kl : (i : Int) < (ln : Int) := by omega
    obtain ⟨ab, ao, rfl, _, hc⟩ := (HR.out wr hbw).at (by omega)
    obtain ⟨⟨c0, d1, d2, d3, d4⟩, hci⟩ : ∃ c, l[i]? = some c := ⟨_, List.getElem?_eq_getElem (by have := HL.out; omega)⟩
    obtain ⟨g0, g1, g2, g3, g4⟩ := hc i _ hci
    simp only at g0 g1 g2 g3 g4
    obtain ⟨V4, hV4, r4, hb4⟩ := box_en (w := wr) c0 d1 d2 d3 d4
    obtain ⟨qb, hqb⟩ : ∃ qb, wr.heap.size = qb := ⟨_, rfl⟩
    rw [hqb] at r4
    obtain ⟨x0, x1, x2, x3, x4, _⟩ := row5 r4
    have HI := isent_any ⟨c0, d1, d2, d3, d4⟩ V4
    simp only at HI
    unfold YeTo at HI
    have HRT : Hid (runB (n - (ln : Int) + 1) (l.take i) = true ∧ l[i]? = some ⟨c0, d1, d2, d3, d4⟩ ∧ Below V1.heap.size V1 V4 ∧ V4.heap[qb]? = some (.cells #[.int .i64 c0, .int .i64 d1, .int .i64 d2, .string d3, .int .i64 d4] 36 (0, 0))) := ⟨hal, hci, hbw.trans (hb4.mono hbw.size), r4⟩
    obtain ⟨g, hg⟩ : ∃ g, (⟨c0, d1, d2, d3, d4⟩ : En).ok = g := ⟨_, rfl⟩
    rw [hg] at HI
    have HG : Hid ((⟨c0, d1, d2, d3, d4⟩ : En).ok = g) := hg
    clear hc hci hal hbw hg r4 hb4
    cases g with
    | false =>
      have HA : Hid (mayA ⟨s, n, l⟩ = false) := may_stop HL.out HRT.out.2.1 (.inl HG.out)
      go_wp2_with fail
      refine HI.mono ?_
      rintro e V5 ⟨rfl, hb5⟩
      have HE : Hid (YeTo w (mayA ⟨s, n, l⟩) (.returned (.bool false)) V5) := ⟨by rw [HA.out], HB.out.trans ((HRT.out.2.2.1.trans (hb5.mono HRT.out.2.2.1.size)).mono HB.out.size)⟩
      clear HI hb5 x0 x1 x2 x3 x4 g0 g1 g2 g3 g4
      go_wp2
      go_ret
      exact HE.out
    | true =>
      have w2 : IntKind.i64.wrap (n - (ln : Int) + (i : Int)) = n - (ln : Int) + (i : Int) := by rw [IntKind.wrap_i64]; omega
      have w3 : IntKind.i64.wrap (n - (ln : Int) + (i : Int) + 1) = n - (ln : Int) + (i : Int) + 1 := by rw [IntKind.wrap_i64]; omega
      by_cases hs : c0 = n - (ln : Int) + (i : Int) + 1
      · have hsb : (c0 != n - (ln : Int) + (i : Int) + 1) = false := by simpa using hs
        have HA : Hid (runB (n - (ln : Int) + 1) (l.take (i + 1)) = true) := run_take HRT.out.1 HRT.out.2.1 HG.out (by show c0 = _; omega) (by have := HL.out; omega)
        clear hs
        go_wp2_with fail
        refine HI.mono ?_
        rintro e V5 ⟨rfl, hb5⟩
        have HB5 : Hid (Below V1.heap.size V1 V5) := HRT.out.2.2.1.trans (hb5.mono HRT.out.2.2.1.size)
        clear x0 x1 x2 x3 x4
        obtain ⟨x0, x1, x2, x3, x4, _⟩ := row5 ((hb5.block qb (lt_of_some HRT.out.2.2.2)).trans HRT.out.2.2.2)
        clear HI hb5 g0 g1 g2 g3 g4
        go_wp2
        exact ⟨⟨i + 1, by omega, by go_num, HA.out, HB5.out⟩, by simp [intOf]; omega⟩
      · have hsb : (c0 != n - (ln : Int) + (i : Int) + 1) = true := by simpa using hs
        have HA : Hid (mayA ⟨s, n, l⟩ = false) := may_stop HL.out HRT.out.2.1 (.inr (by show c0 ≠ _; omega))
        clear hs
        go_wp2_with fail
        refine HI.mono ?_
        rintro e V5 ⟨rfl, hb5⟩
        have HE : Hid (YeTo w (mayA ⟨s, n, l⟩) (.returned (.bool false)) V5) := ⟨by rw [HA.out], HB.out.trans ((HRT.out.2.2.1.trans (hb5.mono HRT.out.2.2.1.size)).mono HB.out.size)⟩
        clear x0 x1 x2 x3 x4
        obtain ⟨x0, x1, x2, x3, x4, _⟩ := row5 ((hb5.block qb (lt_of_some HRT.out.2.2.2)).trans HRT.out.2.2.2)
        clear HI hb5 g0 g1 g2 g3 g4
        go_wp2
        go_ret
        exact HE.out
  · obtain rfl : i = ln := by omega
    have kk : ¬ (i : Int) < (i : Int) := by omega
    have HE : Hid (YeTo w (mayA ⟨s, n, l⟩) (.returned (.bool true)) wr) := by
      refine ⟨?_, HB.out.trans (hbw.mono HB.out.size)⟩
      rw [List.take_of_length_le (by have := HL.out; omega)] at hal
      rw [HM.out (by have := HL.out; rw [this]; exact hal)]
    clear hal hbw
    go_wp2
    go_ret
    exact HE.out
end Go.Proofs.YtkhidkilkbmpoaaDoor
namespace Go.Proofs.YtkhidkilkbmpoaaDoor
open Go.RowKit
/-- An empty row of strings with room. -/
def roomS (c : Nat) : Array Value := madeCells #[Value.string ByteArray.empty] c
set_option maxRecDepth 100000 in
theorem make_strs (w : World) (c : Nat) (hc : c ≤ 1000) : (Instr.makeSlice 57 (.int .i64 0) (.int .i64 (c : Int))).run Tryd.prog w = .ok (.slice (some ⟨w.heap.size, 0, none⟩) 0 c) (w.alloc (.cells (roomS c) 9)) := by
  have := run_make (P := Tryd.prog) w 57 9 _ (.string ByteArray.empty) Tryd.underlying57 rfl rfl .i64 .i64 0 (c : Int) (by omega) (by omega) (by show (16 : Int) * _ ≤ _; omega) (by omega)
  rw [this, show (c : Int).toNat = c by omega, show Tryd.prog.types[9].size = 1 from rfl, Nat.mul_one]
  rfl
theorem own_room {w : World} {base g c : Nat} (hb : base ≤ g) (hc : c ≤ 1000) (hg : w.heap[g]? = some (.cells (roomS c) 9 (0, 0))) : w.ownsRow base 9 1 (.slice (some ⟨g, 0, none⟩) 0 c) 0 (srR []) :=
  ⟨rfl, .inr ⟨g, c, _, rfl, hb, hg, by omega, by unfold maxLen; omega, by unfold roomS; rw [size_madeCells, Nat.mul_one], rfl⟩⟩
set_option maxRecDepth 100000 in
set_option maxHeartbeats 2000000 in
theorem ach_any (k : ByteArray) {a : Option Addr} {ln cp : Nat} {l : List En} (w : World) (h : Ew w a ln cp l) (hl9 : ln ≤ 1000) (hk : k.size ≤ 1000000) (hok : ∀ c ∈ l, c.ok = true) (hL : Laid w) : Calls Tryd.prog 34 #[.string k, .slice a ln cp] w fun e w' => StTo w (chA k.data.toList l) e w' := by
  have hl := h.len
  have HR : Hid ((∀ W, Below w.heap.size w W → Ew W a ln cp l) ∧ l.length = ln ∧ (∀ c ∈ l, c.ok = true) ∧ (∀ W, Below w.heap.size w W → Laid W)) := ⟨fun W hW => h.below hW, hl, hok, fun W hW => hL.below hW⟩
  obtain ⟨B, hBs⟩ : ∃ B, w.heap.size = B := ⟨_, rfl⟩
  have HB0 : Hid (w.heap.size = B) := hBs
  have hmk := make_strs w ln hl9
  obtain ⟨V1, hV1⟩ : ∃ V1, w.alloc (.cells (roomS ln) 9) = V1 := ⟨_, rfl⟩
  have r1 : V1.heap[B]? = some (.cells (roomS ln) 9 (0, 0)) := by rw [← hV1, ← hBs]; exact heap_alloc_new w _
  have hb1 : Below w.heap.size w V1 := by rw [← hV1]; exact (Below.refl _ w).alloc (Nat.le_refl _) _
  have H1 : Hid (V1.ownsRow B 9 1 (.slice (some ⟨B, 0, none⟩) 0 ln) 0 (srR (partsE (l.take 0))) ∧ Below w.heap.size w V1) := ⟨own_room (Nat.le_refl _) (by omega) r1, hb1⟩
  rw [hV1, hBs] at hmk
  clear h hl hok hL hBs r1 hb1 hV1
  go_enter Tryd.func34, Tryd.ntmps34
  go_wp2
  clear hmk
  go_loopw [5, 13] (fun vp vi wr => ∃ (i c' : Nat) (a' : Option Addr), i ≤ ln ∧ vi = .int .i64 i ∧ vp = .slice a' i c' ∧ wr.ownsRow B 9 1 (.slice a' i c') i (srR (partsE (l.take i))) ∧ Below w.heap.size w wr) (fun _ vi _ => ln - (intOf vi).toNat)
  case atStart => exact ⟨0, ln, some ⟨B, 0, none⟩, by omega, rfl, rfl, H1.out⟩
  case round =>
    clear H1
    obtain ⟨i, c', a', hi, rfl, rfl, hown, hbw⟩ := hrel
    by_cases hlt : i < ln
    · have kk : (i : Int) < (ln : Int) := by omega
      obtain ⟨ab, ao, rfl, _, hc⟩ := (HR.out.1 wr hbw).at (by omega)
      obtain ⟨⟨c0, c1, c2, c3, c4⟩, hci⟩ : ∃ c, l[i]? = some c := ⟨_, List.getElem?_eq_getElem (by have := HR.out.2.1; omega)⟩
      obtain ⟨d0, d1, d2, d3, d4⟩ := hc i _ hci
      have hcok := HR.out.2.2.1 _ (List.mem_of_getElem? hci)
      simp only at d0 d1 d2 d3 d4
      obtain ⟨V4, hV4, r4, hb4⟩ := box_en (w := wr) c0 c1 c2 c3 c4
      obtain ⟨qb, hqb⟩ : ∃ qb, wr.heap.size = qb := ⟨_, rfl⟩
      rw [hqb] at r4
      obtain ⟨x0, x1, x2, x3, x4, _⟩ := row5 r4
      have HC := etext_any ⟨c0, c1, c2, c3, c4⟩ V4 hcok
      simp only at HC
      obtain ⟨S5, hS5⟩ : ∃ S5, strOf (⟨c0, c1, c2, c3, c4⟩ : En).bytes = S5 := ⟨_, rfl⟩
      unfold StTo at HC
      rw [hS5] at HC
      have H4 : Hid (wr.ownsRow B 9 1 (.slice a' i c') i (srR (partsE (l.take i))) ∧ Below w.heap.size w wr ∧ l[i]? = some ⟨c0, c1, c2, c3, c4⟩ ∧ strOf (⟨c0, c1, c2, c3, c4⟩ : En).bytes = S5 ∧ Below wr.heap.size wr V4) := ⟨hown, hbw, hci, hS5, hb4⟩
      clear hown hbw hc hci hcok hS5 r4 hb4
      go_wp2_with fail
      refine HC.mono ?_
      rintro e V5 ⟨rfl, hb5⟩
      obtain ⟨V6, hV6⟩ : ∃ V6, V5.alloc (.cells #[.string S5] 9) = V6 := ⟨_, rfl⟩
      obtain ⟨g6, hg6⟩ : ∃ g6, V5.heap.size = g6 := ⟨_, rfl⟩
      have r6 : V6.heap[g6]? = some (.cells #[.string S5] 9 (0, 0)) := by rw [← hV6, ← hg6]; exact heap_alloc_new V5 _
      have hB6 : Below wr.heap.size wr V6 := (H4.out.2.2.2.2.trans (hb5.mono H4.out.2.2.2.2.size)).trans (by rw [← hV6]; exact ((Below.refl _ V5).alloc (Nat.le_refl _) _).mono (Nat.le_trans H4.out.2.2.2.2.size hb5.size))
      have ho6 := own_keep H4.out.1 (W' := V6) (fun j hj => hB6.block j (H4.out.1.lt j hj).2)
      have hB1 : Below w.heap.size w V6 := H4.out.2.1.trans (hB6.mono H4.out.2.1.size)
      obtain ⟨aA, cA, VA, hrA, hoA, hgA⟩ := addT_own V6 ho6 r6 (by omega) (by rw [← HB0.out]; exact hB1.size)
      have HE : Hid (VA.ownsRow B 9 1 (.slice aA (i + 1) cA) (i + 1) (srR (partsE (l.take (i + 1)))) ∧ Below w.heap.size w VA) := by
        refine ⟨?_, hB1.grown hgA hB1.size (fun j hj => by have := (ho6.lt j (by rw [ob_slice]; exact hj)).1; have := HB0.out; omega)⟩
        rw [partsE_snoc H4.out.2.2.1, H4.out.2.2.2.1]
        exact hoA
      clear HC hb5 r6 hB6 ho6 hB1 hoA hgA d0 d1 d2 d3 d4 x0 x1 x2 x3 x4
      go_wp2_with (at_builtin; refine wpList_app V6 rfl _ _ _ _ rfl rfl rfl (hrA _) ?_)
      exact ⟨⟨i + 1, cA, aA, by omega, by go_num, by first | rfl | go_num, HE.out⟩, by simp [intOf]; omega⟩
    · obtain rfl : i = ln := by omega
      have kk : ¬ (i : Int) < (i : Int) := by omega
      have hss := Ss.own hown
      rw [List.take_of_length_le (by have := HR.out.2.1; omega)] at hss
      have HC := chain_any k a' i c' _ wr (by omega) hss (fun j hj => by have := partsE_size HR.out.2.2.1 j hj; omega) (HR.out.2.2.2 wr hbw)
      rw [chainS_parts] at HC
      obtain ⟨Z, hZ⟩ : ∃ Z, strOf (chA k.data.toList l) = Z := ⟨_, rfl⟩
      rw [hZ] at HC
      have H5 : Hid (Below w.heap.size w wr ∧ strOf (chA k.data.toList l) = Z) := ⟨hbw, hZ⟩
      clear hss hown hbw hZ
      go_wp2_with fail
      refine HC.mono ?_
      rintro e V7 ⟨rfl, hb7⟩
      have HE : Hid (StTo w (chA k.data.toList l) (.returned (.string Z)) V7) := ⟨by rw [H5.out.2], H5.out.1.trans (hb7.mono H5.out.1.size)⟩
      clear HC hb7
      go_wp2
      go_ret
      exact HE.out
set_option maxRecDepth 100000 in
set_option maxHeartbeats 1000000 in
theorem adig_any {w : World} {a : Option Addr} {ln cp : Nat} {l : List En} (s : ByteArray) (n : Int) (h : Ew w a ln cp l) (hL : Laid w) : Calls Tryd.prog 20 #[.agg #[.string s, .int .i64 n, .slice a ln cp]] w fun e w' => StTo w (digA ⟨s, n, l⟩) e w' := by
  have hl := h.len
  obtain ⟨pb, hpb⟩ : ∃ pb, w.heap.size = pb := ⟨_, rfl⟩
  obtain ⟨V1, hV1, r1, hb1⟩ := box_au 27 (w := w) s n a ln cp
  rw [hpb] at r1
  have HK : Hid (∀ W, Below V1.heap.size V1 W → W.cell? ⟨pb, 0, none⟩ = some (.string s) ∧ W.cell? ⟨pb, 1, none⟩ = some (.int .i64 n) ∧ W.cell? ⟨pb, 2, none⟩ = some (.slice a ln cp)) := fun W hW => by
    obtain ⟨x0, x1, x2, _⟩ := row3 ((hW.block pb (lt_of_some r1)).trans r1)
    exact ⟨x0, x1, x2⟩
  obtain ⟨y0, y1, y2⟩ := HK.out V1 (Below.refl _ _)
  have HB : Hid (Below w.heap.size w V1) := hb1
  have HM := amay_any s n (h.below hb1)
  unfold YeTo at HM
  have HR : Hid (∀ W, Below V1.heap.size V1 W → Ew W a ln cp l ∧ Laid W) := fun W hW => ⟨h.below (hb1.trans (hW.mono hb1.size)), hL.below (hb1.trans (hW.mono hb1.size))⟩
  cases hm : mayA ⟨s, n, l⟩ with
  | false =>
    rw [hm] at HM
    have HX : Hid (digA ⟨s, n, l⟩ = []) := by show _ = _; unfold digA; rw [if_neg (by rw [hm]; decide)]
    clear hm r1 hb1 h hL
    go_enter Tryd.func20, Tryd.ntmps20
    go_wp2_with fail
    refine HM.mono ?_
    rintro e V2 ⟨rfl, hb2⟩
    have HE : Hid (StTo w (digA ⟨s, n, l⟩) (.returned (.string ⟨#[]⟩)) V2) := ⟨by rw [HX.out]; rfl, HB.out.trans (hb2.mono HB.out.size)⟩
    clear HM hb2
    go_wp2
    go_ret
    exact HE.out
  | true =>
    rw [hm] at HM
    have hmi := mayA_iff.1 hm
    simp only at hmi
    have HX : Hid (digA ⟨s, n, l⟩ = chA s.data.toList l) := by show _ = _; unfold digA; rw [if_pos hm]
    have HOK : Hid ((∀ c ∈ l, c.ok = true) ∧ ln ≤ 8 ∧ s.size = 32) := ⟨run_ok hmi.2.2.2.2, by omega, hmi.1⟩
    clear hm hmi r1 hb1 h hL
    go_enter Tryd.func20, Tryd.ntmps20
    go_wp2_with fail
    refine HM.mono ?_
    rintro e V2 ⟨rfl, hb2⟩
    obtain ⟨h2, h3⟩ := HR.out V2 hb2
    have HC := ach_any s V2 h2 (by have := HOK.out; omega) (by have := HOK.out; omega) HOK.out.1 h3
    unfold StTo at HC
    obtain ⟨Z, hZ⟩ : ∃ Z, strOf (chA s.data.toList l) = Z := ⟨_, rfl⟩
    rw [hZ] at HC
    have H2 : Hid (Below V1.heap.size V1 V2 ∧ strOf (chA s.data.toList l) = Z) := ⟨hb2, hZ⟩
    clear y0 y1 y2
    obtain ⟨y0, y1, y2⟩ := HK.out V2 hb2
    clear HM hb2 h2 h3 hZ
    go_wp2_with fail
    refine HC.mono ?_
    rintro e V3 ⟨rfl, hb3⟩
    have HE : Hid (StTo w (digA ⟨s, n, l⟩) (.returned (.string Z)) V3) := ⟨by rw [HX.out, H2.out.2], HB.out.trans ((H2.out.1.trans (hb3.mono H2.out.1.size)).mono HB.out.size)⟩
    clear HC hb3
    go_wp2
    go_ret
    exact HE.out
end Go.Proofs.YtkhidkilkbmpoaaDoor
