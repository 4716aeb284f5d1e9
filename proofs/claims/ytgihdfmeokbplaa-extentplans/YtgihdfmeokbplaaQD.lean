/- The document's Change and New. -/
import Derived.Test.YtgihdfmeokbplaaQC
namespace Go.Proofs.Ytgihdfmeokbplaa
open Go.RowKit Ex
/-- What Change leaves of an area of the document's. -/
def ChTo (G : Nat → Prop) (w : World) (X : Ar) (s : Sp) (n : Nat) (nx : Int) (e : Ending) (w' : World) : Prop :=
  ∃ a' c' F', e = .returned (.tuple #[raA a' n c' nx, .int .i64 (X.take s).2]) ∧ Rw G w' 4 1 a' n c' (blR F') ∧ FitsA (X.take s).1 F' ∧ Below w.heap.size w w'
theorem fits_fre {X : Ar} (hX : X.Ok) {F : List Bool} (h : FitsA X F) {s : Sp} (hs : X.has s = true) : allB F s true ↔ freD X.hs s = true := by
  obtain ⟨h0, h1, h2⟩ := (X.has_iff s).1 hs
  rw [freD_iff hX.g h1]
  unfold allB freB
  constructor
  · intro ha x hx1 hx2
    have h3 := ha (x.toNat - s.1.toNat) (by omega)
    rw [show s.1.toNat + (x.toNat - s.1.toNat) = x.toNat by omega] at h3
    have := h.2 x.toNat true h3
    rw [this]
    congr 1
    omega
  · intro hf i hi
    have hl : s.1.toNat + i < F.length := by have := h.1; omega
    rw [List.getElem?_eq_getElem hl]
    have h3 := h.2 (s.1.toNat + i) _ (List.getElem?_eq_getElem hl)
    rw [h3]
    have := hf ((s.1.toNat + i : Nat) : Int) (by omega) (by omega)
    rw [this]
theorem fits_tak {X : Ar} (hX : X.Ok) {F : List Bool} (h : FitsA X F) {s : Sp} (hs : X.has s = true) : allB F s false ↔ takD X.hs s = true := by
  obtain ⟨h0, h1, h2⟩ := (X.has_iff s).1 hs
  rw [takD_iff hX.g h1]
  unfold allB takB
  constructor
  · intro ha x hx1 hx2
    have h3 := ha (x.toNat - s.1.toNat) (by omega)
    rw [show s.1.toNat + (x.toNat - s.1.toNat) = x.toNat by omega] at h3
    have := h.2 x.toNat false h3
    rw [this]
    congr 1
    omega
  · intro hf i hi
    have hl : s.1.toNat + i < F.length := by have := h.1; omega
    rw [List.getElem?_eq_getElem hl]
    have h3 := h.2 (s.1.toNat + i) _ (List.getElem?_eq_getElem hl)
    rw [h3]
    have := hf ((s.1.toNat + i : Nat) : Int) (by omega) (by omega)
    rw [this]
theorem fits_take {X : Ar} (hX : X.Ok) {F F' : List Bool} (h : FitsA X F) {s : Sp} (hs : X.has s = true) (hf : freD X.hs s = true) (hset : SetL F F' s false) : FitsA (X.take s).1 F' := by
  obtain ⟨k1, k2, k3, k4, k5, k6⟩ := Ar.take_ok hX s
  have h0 : (X.take s).2 = 0 := by unfold Ar.take; rw [hs, if_neg (by simp), if_pos hf]
  refine ⟨by rw [k2, hset.1]; exact h.1, fun i b hb => ?_⟩
  have hil : i < F.length := by have := (List.getElem?_eq_some_iff.1 hb).1; rw [hset.1] at this; exact this
  rw [k4, if_pos h0]
  have h9 := hset.2 i hil
  rw [hb] at h9
  by_cases hin : inS s (i : Int) = true
  · rw [if_pos hin] at h9
    rw [hin, Option.some.inj h9]; simp
  · rw [if_neg hin] at h9
    have := h.2 i b h9.symm
    rw [this]
    simp [hin]
set_option maxRecDepth 100000 in
set_option maxHeartbeats 4000000 in
theorem change_any {G : Nat → Prop} {w : World} {a : Option Addr} {n c : Nat} {F : List Bool} (hg : Rw G w 4 1 a n c (blR F)) (hG : ∀ x, w.heap.size ≤ x → G x) (nx : Int) (s : Sp) (hs : fits s.1 ∧ fits s.2) (hn : n ≤ 900000) (hn1 : 1 ≤ n) {X : Ar} (hX : X.Ok) (hF : FitsA X F) : Calls Try.prog 21 #[raA a n c nx, spA s, .bool false] w (ChTo G w X s n nx) := by
  have h : Fw w a n c F := hg.mono (fun _ _ _ => trivial)
  have hln := h.len
  have hsz : X.sz = (n : Int) := by rw [← hF.1, hln]
  obtain ⟨B, hB⟩ : ∃ B, w.heap.size = B := ⟨_, rfl⟩
  obtain ⟨W1, hW1⟩ : ∃ W1, w.alloc (.cells #[.slice a n c, .int .i64 nx] 31) = W1 := ⟨_, rfl⟩
  obtain ⟨B1, hB1⟩ : ∃ B1, W1.heap.size = B1 := ⟨_, rfl⟩
  obtain ⟨W2, hW2⟩ : ∃ W2, W1.alloc (.cells #[.int .i64 s.1, .int .i64 s.2] 37) = W2 := ⟨_, rfl⟩
  obtain ⟨B2, hB2⟩ : ∃ B2, W2.heap.size = B2 := ⟨_, rfl⟩
  obtain ⟨W3, hW3⟩ : ∃ W3, W2.alloc (.cells #[.slice none 0 0, .int .i64 0] 31) = W3 := ⟨_, rfl⟩
  have b1 : Below w.heap.size w W1 := by rw [← hW1]; exact (Below.refl _ w).alloc (Nat.le_refl _) _
  have b2 : Below W1.heap.size W1 W2 := by rw [← hW2]; exact (Below.refl _ W1).alloc (Nat.le_refl _) _
  have b3 : Below W2.heap.size W2 W3 := by rw [← hW3]; exact (Below.refl _ W2).alloc (Nat.le_refl _) _
  have bw3 : Below w.heap.size w W3 := b1.trans ((b2.trans (b3.mono b2.size)).mono b1.size)
  have r0 : W1.heap[B]? = some (.cells #[.slice a n c, .int .i64 nx] 31 (0, 0)) := by rw [← hW1, ← hB]; exact heap_alloc_new w _
  have r1 : W2.heap[B1]? = some (.cells #[.int .i64 s.1, .int .i64 s.2] 37 (0, 0)) := by rw [← hW2, ← hB1]; exact heap_alloc_new W1 _
  have r2 : W3.heap[B2]? = some (.cells #[.slice none 0 0, .int .i64 0] 31 (0, 0)) := by rw [← hW3, ← hB2]; exact heap_alloc_new W2 _
  have r0' : W3.heap[B]? = some (.cells #[.slice a n c, .int .i64 nx] 31 (0, 0)) := by
    have l0 := lt_of_some r0
    rw [b3.block _ (by have := b2.size; omega), b2.block _ l0]; exact r0
  have r1' : W3.heap[B1]? = some (.cells #[.int .i64 s.1, .int .i64 s.2] 37 (0, 0)) := (b3.block _ (lt_of_some r1)).trans r1
  -- what is so ever after
  have HC : Hid (∀ V, Below W3.heap.size W3 V → (V.cell? ⟨B, 0, none⟩ = some (.slice a n c) ∧ V.cell? ⟨B, 1, none⟩ = some (.int .i64 nx)) ∧ (V.cell? ⟨B1, 0, none⟩ = some (.int .i64 s.1) ∧ V.cell? ⟨B1, 1, none⟩ = some (.int .i64 s.2)) ∧ V.heap[B2]? = some (.cells #[.slice none 0 0, .int .i64 0] 31 (0, 0)) ∧ Below w.heap.size w V ∧ Fw V a n c F ∧ Rw G V 4 1 a n c (blR F)) := by
    intro V hV
    have q0 := (hV.block _ (lt_of_some r0')).trans r0'
    have q1 := (hV.block _ (lt_of_some r1')).trans r1'
    have hw := bw3.trans (hV.mono bw3.size)
    refine ⟨⟨?_, ?_⟩, ⟨?_, ?_⟩, (hV.block _ (lt_of_some r2)).trans r2, hw, h.below hw, hg.below hw⟩
    · rw [cell_of_row _ _ _ _ _ _ q0]; rfl
    · rw [cell_of_row _ _ _ _ _ _ q0]; rfl
    · rw [cell_of_row _ _ _ _ _ _ q1]; rfl
    · rw [cell_of_row _ _ _ _ _ _ q1]; rfl
  have HB2 : Hid (w.heap.size ≤ B2) := by rw [← hB2]; exact (b1.trans (b2.mono b1.size)).size
  have HRES : Hid (∀ (V : World) (a' : Option Addr) (c' : Nat) (F' : List Bool), V.heap[B2]? = some (.cells #[.slice none 0 0, .int .i64 0] 31 (0, 0)) → Rw G V 4 1 a' n c' (blR F') → (∀ x, ob a' = some x → x ≠ B2) → Below w.heap.size w V → ∀ V', V' = (V.setCell ⟨B2, 0, none⟩ (.slice a' n c')).setCell ⟨B2, 1, none⟩ (.int .i64 nx) → V'.heap[B2]? = some (.cells #[.slice a' n c', .int .i64 nx] 31 (0, 0)) ∧ Rw G V' 4 1 a' n c' (blR F') ∧ Below w.heap.size w V') := by
    intro V a' c' F' q2 hf hne hw V' hV'
    subst hV'
    have e1 : (V.setCell ⟨B2, 0, none⟩ (.slice a' n c')).heap[B2]? = some (.cells #[.slice a' n c', .int .i64 0] 31 (0, 0)) := by rw [heap_setCell_same _ _ _ _ _ _ q2]; rfl
    refine ⟨by rw [heap_setCell_same _ _ _ _ _ _ e1]; rfl, ?_, (hw.setCell HB2.out _).setCell HB2.out _⟩
    refine Rw.keep (G := fun x => x ≠ B2 ∧ G x) (w := V) ?_ (by simp) (fun b hb _ => ?_) |>.mono (fun _ hx _ => hx.2)
    · obtain ⟨h1, h2, h3, h4⟩ := hf
      refine ⟨h1, h2, h3, fun h0 => ?_⟩
      obtain ⟨b, o, e, hb, hgb, hc⟩ := h4 h0
      exact ⟨b, o, e, hb, ⟨hne b (by rw [e]; rfl), hgb⟩, hc⟩
    · rw [heap_setCell_other _ _ _ _ hb.1, heap_setCell_other _ _ _ _ hb.1]
  have HGG : Hid (∀ x, w.heap.size ≤ x → G x) := hG
  have HWU : Hid (w.heap.size ≤ W3.heap.size) := bw3.size
  have HNE : Hid (∀ x, ob a = some x → x ≠ B2) := by
    intro x hx
    obtain ⟨b, o, e, hb, _⟩ := h.at (by omega)
    rw [e] at hx
    cases hx
    have := HB2.out
    show b ≠ B2
    omega
  have HWI : Hid (∀ V, Calls Try.prog 23 #[.agg #[.slice a n c, .int .i64 nx], .agg #[.int .i64 s.1, .int .i64 s.2]] V fun e w' => e = .returned (.bool (X.has s)) ∧ Below V.heap.size V w') := fun V => rwithin_any a n c nx s V (by omega) hs X hsz
  obtain ⟨R, hR⟩ : ∃ R, X.has s = R := ⟨_, rfl⟩
  have HW3 : Hid (Below W3.heap.size W3 W3) := Below.refl _ _
  obtain ⟨y0, y1⟩ := (HC.out W3 HW3.out).1
  obtain ⟨y2, y3⟩ := (HC.out W3 HW3.out).2.1
  cases R with
  | false =>
    have HT : Hid ((X.take s).2 = 9 ∧ FitsA (X.take s).1 F) := by
      unfold Ar.take
      rw [hR, if_pos rfl]
      exact ⟨rfl, hF⟩
    rw [hR] at HWI
    clear h hg hG hln hsz b1 b2 b3 bw3 r0 r1 r2 r0' r1' hX hF hR hs
    unfold raA spA
    go_enter Try.func21, Try.ntmps21
    go_wp2_with fail
    refine (HWI.out _).mono ?_
    clear y0 y1 y2 y3
    rintro e V ⟨rfl, hV⟩
    obtain ⟨⟨y0, y1⟩, _, q2, hw, _, hf⟩ := HC.out V hV
    have f20 := frozen_of_row V B2 0 _ _ q2
    have f21 := frozen_of_row V B2 1 _ _ q2
    have g20 : V.cell? ⟨B2, 0, none⟩ = some (.slice none 0 0) := by rw [cell_of_row _ _ _ _ _ _ q2]; rfl
    have g21 : V.cell? ⟨B2, 1, none⟩ = some (.int .i64 0) := by rw [cell_of_row _ _ _ _ _ _ q2]; rfl
    have HX := HRES.out V a c F q2 hf HNE.out hw
    have HX : Hid _ := HX
    clear hV q2 hw hf
    go_wp2
    obtain ⟨e1, e2, e3⟩ := HX.out _ rfl
    refine bodyPost_ret (v := .tuple #[raA a n c nx, .int .i64 9]) ?_ rfl ⟨a, c, F, by rw [HT.out.1], e2, HT.out.2, hB ▸ e3⟩
    exact res_ra2 (fn := Try.f21) (p := 6) (q := 7) (by rfl) _ _ B2 _ (by rfl) e1 infoRA
  | true =>
    obtain ⟨h0, h1, h2⟩ := (X.has_iff s).1 hR
    rw [hsz] at h2
    have HAL : Hid (∀ V, Below W3.heap.size W3 V → Calls Try.prog 24 #[.agg #[.slice a n c, .int .i64 nx], .agg #[.int .i64 s.1, .int .i64 s.2], .bool true] V fun e w' => e = .returned (.bool (decide (allB F s true))) ∧ Below V.heap.size V w') := fun V hV => all_any (HC.out V hV).2.2.2.2.1 nx s true h0 h1 h2 (by omega)
    have HSE : Hid (∀ V, Below W3.heap.size W3 V → Calls Try.prog 49 #[.agg #[.slice a n c, .int .i64 nx], .agg #[.int .i64 s.1, .int .i64 s.2], .bool false] V fun e w' => ∃ a' c' F', e = .returned (.agg #[.slice a' n c', .int .i64 nx]) ∧ Fw w' a' n c' F' ∧ SetL F F' s false ∧ Below V.heap.size V w' ∧ (∀ x, ob a' = some x → V.heap.size ≤ x)) := fun V hV => set_any (HC.out V hV).2.2.2.2.1 nx s false h0 h1 h2 hn
    have HLT : Hid (B2 < W3.heap.size) := lt_of_some r2
    rw [hR] at HWI
    by_cases hfr : freD X.hs s = true
    · have hall : decide (allB F s true) = true := decide_eq_true ((fits_fre hX hF hR).2 hfr)
      have HT : Hid ((X.take s).2 = 0 ∧ ∀ F', SetL F F' s false → FitsA (X.take s).1 F') := by
        refine ⟨?_, fun F' h9 => fits_take hX hF hR hfr h9⟩
        unfold Ar.take
        rw [hR, if_neg (by simp), if_pos hfr]
      rw [hall] at HAL
      clear h hg hG hln hsz b1 b2 b3 bw3 r0 r1 r2 r0' r1' hX hF hR hs hfr hall h0 h1 h2
      unfold raA spA
      go_enter Try.func21, Try.ntmps21
      go_wp2_with fail
      refine (HWI.out _).mono ?_
      clear y0 y1 y2 y3
      rintro e V ⟨rfl, hV⟩
      have HV : Hid (Below W3.heap.size W3 V) := hV
      obtain ⟨⟨y0, y1⟩, ⟨y2, y3⟩, _⟩ := HC.out V hV
      clear hV
      go_wp2_with fail
      refine (HAL.out _ HV.out).mono ?_
      clear y0 y1 y2 y3
      rintro e U ⟨rfl, hU⟩
      have HU : Hid (Below W3.heap.size W3 U) := HV.out.trans (hU.mono HV.out.size)
      obtain ⟨⟨y0, y1⟩, ⟨y2, y3⟩, _⟩ := HC.out U HU.out
      clear hU
      go_wp2_with fail
      refine (HSE.out _ HU.out).mono ?_
      clear y0 y1 y2 y3
      rintro e Z ⟨a', c', F', rfl, hfz, hset, hZ, hnew⟩
      have HZ : Hid (Below W3.heap.size W3 Z) := HU.out.trans (hZ.mono HU.out.size)
      obtain ⟨_, _, q2, hw, _⟩ := HC.out Z HZ.out
      have f20 := frozen_of_row Z B2 0 _ _ q2
      have f21 := frozen_of_row Z B2 1 _ _ q2
      have g20 : Z.cell? ⟨B2, 0, none⟩ = some (.slice none 0 0) := by rw [cell_of_row _ _ _ _ _ _ q2]; rfl
      have g21 : Z.cell? ⟨B2, 1, none⟩ = some (.int .i64 0) := by rw [cell_of_row _ _ _ _ _ _ q2]; rfl
      have hfg : Rw G Z 4 1 a' n c' (blR F') := by
        obtain ⟨h1, h2, h3, h4⟩ := hfz
        refine ⟨h1, h2, h3, fun h0 => ?_⟩
        obtain ⟨b, o, e, hb, _, hc⟩ := h4 h0
        exact ⟨b, o, e, hb, HGG.out b (by have := hnew b (by rw [e]; rfl); have := HWU.out; have := HU.out.size; omega), hc⟩
      have HX : Hid _ := HRES.out Z a' c' F' q2 hfg (fun x hx => by have := hnew x hx; have := HLT.out; have := HU.out.size; omega) hw
      have HF : Hid (FitsA (X.take s).1 F') := HT.out.2 F' hset
      clear hZ q2 hw hfz hfg hset hnew
      go_wp2
      obtain ⟨e1, e2, e3⟩ := HX.out _ rfl
      refine bodyPost_ret (v := .tuple #[raA a' n c' nx, .int .i64 0]) ?_ rfl ⟨a', c', F', by rw [HT.out.1], e2, HF.out, hB ▸ e3⟩
      exact res_ra2 (fn := Try.f21) (p := 6) (q := 7) (by rfl) _ _ B2 _ (by rfl) e1 infoRA
    · have hall : decide (allB F s true) = false := decide_eq_false (fun e => hfr ((fits_fre hX hF hR).1 e))
      have HT : Hid ((X.take s).2 = 8 ∧ FitsA (X.take s).1 F) := by
        unfold Ar.take
        rw [hR, if_neg (by simp), if_neg hfr]
        exact ⟨rfl, hF⟩
      rw [hall] at HAL
      clear h hg hG hln hsz b1 b2 b3 bw3 r0 r1 r2 r0' r1' hX hF hR hs hfr hall h0 h1 h2
      unfold raA spA
      go_enter Try.func21, Try.ntmps21
      go_wp2_with fail
      refine (HWI.out _).mono ?_
      clear y0 y1 y2 y3
      rintro e V ⟨rfl, hV⟩
      have HV : Hid (Below W3.heap.size W3 V) := hV
      obtain ⟨⟨y0, y1⟩, ⟨y2, y3⟩, _⟩ := HC.out V hV
      clear hV
      go_wp2_with fail
      refine (HAL.out _ HV.out).mono ?_
      clear y0 y1 y2 y3
      rintro e U ⟨rfl, hU⟩
      have HU : Hid (Below W3.heap.size W3 U) := HV.out.trans (hU.mono HV.out.size)
      obtain ⟨⟨y0, y1⟩, _, q2, hw, _, hf⟩ := HC.out U HU.out
      have f20 := frozen_of_row U B2 0 _ _ q2
      have f21 := frozen_of_row U B2 1 _ _ q2
      have g20 : U.cell? ⟨B2, 0, none⟩ = some (.slice none 0 0) := by rw [cell_of_row _ _ _ _ _ _ q2]; rfl
      have g21 : U.cell? ⟨B2, 1, none⟩ = some (.int .i64 0) := by rw [cell_of_row _ _ _ _ _ _ q2]; rfl
      have HX : Hid _ := HRES.out U a c F q2 hf HNE.out hw
      clear hU q2 hw hf
      go_wp2
      obtain ⟨e1, e2, e3⟩ := HX.out _ rfl
      refine bodyPost_ret (v := .tuple #[raA a n c nx, .int .i64 8]) ?_ rfl ⟨a, c, F, by rw [HT.out.1], e2, HT.out.2, hB ▸ e3⟩
      exact res_ra2 (fn := Try.f21) (p := 6) (q := 7) (by rfl) _ _ B2 _ (by rfl) e1 infoRA
end Go.Proofs.Ytgihdfmeokbplaa
