/- A walk over the statements' lives. -/
import Derived.Test.YtjpkngbjjgimjaaDoorKL
namespace Go.Proofs.YtjpkngbjjgimjaaDoor
open Go.RowKit
def sx : ByteArray := ⟨#[120]⟩
theorem eqin_id (a c : ByteArray) (b d : Int) (w : World) : (Op.equalIn 10000 35 (.agg #[.string a, .int .i64 b]) (.agg #[.string c, .int .i64 d])).run Tryd.prog w = .ok (decide (a = c ∧ b = d)) w := by
  have u9 := Tryd.underlying9
  have a9 := Tryd.isAgg9
  have z9 := Tryd.sizeOf9
  have u3 := Tryd.underlying3
  have a3 := Tryd.isAgg3
  have z3 := Tryd.sizeOf3
  have hS : Tryd.prog.underlying 35 = some (.struct (Tryd.prog.fieldsOf 35)) := by kernel_rfl
  have hp : Tryd.prog.stoodInHeld 35 = false := by kernel_rfl
  rw [show (10000 : Nat) = 9999 + 1 from rfl, run_equalIn_agg w 9999 35 _ _ hS hp]
  simp only [Program.fieldsOf, Tryd.underlying35]
  go_simp
  by_cases h1 : a = c
  · subst h1
    by_cases h2 : b = d
    · subst h2; simp
    · simp [h2]
  · have := str_ne h1
    simp [h1, this]
/-- A table that is new, and a store over it. -/
theorem cs_new {w : World} {W : Nat} (full : Int) : Cs w.heap.size (fun _ => False) ((w.alloc (.cells #[.slice none 0 0, .int .i64 full] 30)).alloc (.cells #[.iface 27 (.pointer (some ⟨w.heap.size, 0, none⟩)), .int .i64 (W : Int)] 71)) (w.heap.size + 1) w.heap.size W full [] ∧ Below w.heap.size w ((w.alloc (.cells #[.slice none 0 0, .int .i64 full] 30)).alloc (.cells #[.iface 27 (.pointer (some ⟨w.heap.size, 0, none⟩)), .int .i64 (W : Int)] 71)) := by
  obtain ⟨W1, hW1⟩ : ∃ W1, w.alloc (.cells #[.slice none 0 0, .int .i64 full] 30) = W1 := ⟨_, rfl⟩
  have hs1 : W1.heap.size = w.heap.size + 1 := by rw [← hW1]; simp
  have hb1 : Below w.heap.size w W1 := by rw [← hW1]; exact (Below.refl _ w).alloc (Nat.le_refl _) _
  have r1 : W1.heap[w.heap.size]? = some (.cells #[.slice none 0 0, .int .i64 full] 30 (0, 0)) := by rw [← hW1]; exact heap_alloc_new w _
  rw [hW1]
  have hb2 : Below W1.heap.size W1 (W1.alloc (.cells #[.iface 27 (.pointer (some ⟨w.heap.size, 0, none⟩)), .int .i64 (W : Int)] 71)) := (Below.refl _ W1).alloc (Nat.le_refl _) _
  have hb := hb1.trans (hb2.mono hb1.size)
  refine ⟨{ stat := ?_, tat := ⟨none, 0, 0, (hb2.block _ (by omega)).trans r1, Rw.zero _ _ _ _ _ _ (Nat.zero_le _)⟩, fF := fun x hx => hx.elim, ne := by omega, h0t := Nat.le_refl _, h0w := hb.size, few := by simp }, hb⟩
  rw [← hs1]
  exact heap_alloc_new W1 _
set_option maxRecDepth 100000 in
set_option maxHeartbeats 4000000 in
theorem lives_any (w : World) (hL : Laid w) : Calls Tryd.prog 10 #[] w fun e w' => e = .returned (.bool true) ∧ Below w.heap.size w w' := by
  obtain ⟨W1, hW1⟩ : ∃ W1, w.alloc (.cells #[.slice none 0 0, .int .i64 (-1)] 30) = W1 := ⟨_, rfl⟩
  obtain ⟨tb, htb⟩ : ∃ tb, w.heap.size = tb := ⟨_, rfl⟩
  have hs1 : W1.heap.size = tb + 1 := by rw [← hW1, ← htb]; simp
  have HN := new_yes tb 32 W1 (by omega) (by omega)
  have HN : Calls Tryd.prog 9 #[.iface 27 (.pointer (some ⟨tb, 0, none⟩)), .int .i64 32] W1 fun e w' => e = .returned (.tuple #[.pointer (some ⟨W1.heap.size, 0, none⟩), .int .i64 0]) ∧ w' = W1.alloc (.cells #[.iface 27 (.pointer (some ⟨tb, 0, none⟩)), .int .i64 ((32 : Nat) : Int)] 71) := HN
  have hcn := cs_new (w := w) (W := 32) (-1)
  rw [hW1, htb] at hcn
  rw [hs1] at HN
  obtain ⟨W2, hW2⟩ : ∃ W2, W1.alloc (.cells #[.iface 27 (.pointer (some ⟨tb, 0, none⟩)), .int .i64 ((32 : Nat) : Int)] 71) = W2 := ⟨_, rfl⟩
  rw [hW2] at HN hcn
  obtain ⟨st, hst⟩ : ∃ st, tb + 1 = st := ⟨_, rfl⟩
  rw [hst] at HN hcn
  have HCS : Hid (Cs tb (fun _ => False) W2 st tb 32 (-1) [] ∧ Below w.heap.size w W2 ∧ Laid w ∧ w.heap.size = tb) := ⟨hcn.1, by rw [htb]; exact hcn.2, hL, htb⟩
  obtain ⟨d, hd⟩ : ∃ d, digW 32 sx = d := ⟨_, rfl⟩
  have hds : d.size = 32 := by rw [← hd]; exact digW_size 32 (by omega) sx
  have HD : Hid (digW 32 sx = d ∧ d.size = 32) := ⟨hd, hds⟩
  clear hs1 hcn hW2 hst hL hd
  go_enter Tryd.func10, Tryd.ntmps10
  go_wp2_with fail
  refine HN.mono ?_
  rintro e V0 ⟨rfl, hV0⟩
  subst V0
  have HP1 := putc_any HCS.out.1 (by omega) (HCS.out.2.2.1.below HCS.out.2.1) (by simp) sx
  have HP1 : Calls Tryd.prog 14 #[.pointer (some ⟨st, 0, none⟩), .string ⟨#[120]⟩] W2 fun e w' => PuTo tb (fun _ => False) W2 st tb 32 (-1) [] sx e w' := HP1
  clear HN
  go_wp2_with fail
  refine HP1.mono ?_
  rintro e V1 ⟨F1, hf1, hb1, hif⟩
  rw [named_first, HD.out.1, if_pos ⟨by decide, by simp, by simp, by unfold roomT; simp⟩] at hif
  obtain ⟨rfl, hc1⟩ := hif
  have hc1 : Cs tb F1 V1 st tb 32 (-1) (oneT d 1 sx) := hc1
  obtain ⟨V2, hV2⟩ : ∃ V2, V1.alloc (.cells #[.string d, .int .i64 0] 35) = V2 := ⟨_, rfl⟩
  obtain ⟨ab, hab⟩ : ∃ ab, V1.heap.size = ab := ⟨_, rfl⟩
  have r2 : V2.heap[ab]? = some (.cells #[.string d, .int .i64 0] 35 (0, 0)) := by rw [← hV2, ← hab]; exact heap_alloc_new V1 _
  have hb12 : Below V1.heap.size V1 V2 := by rw [← hV2]; exact (Below.refl _ V1).alloc (Nat.le_refl _) _
  have hc2 := hc1.below hb12
  have hbw2 : Below w.heap.size w V2 := by
    have h5 : Below w.heap.size w V1 := HCS.out.2.1.trans (by rw [HCS.out.2.2.2]; exact hb1)
    exact h5.trans (hb12.mono h5.size)
  have HP2 := putc_any hc2 (by omega) (HCS.out.2.2.1.below hbw2) (by simp [oneT]) sx
  have HP2 : Calls Tryd.prog 14 #[.pointer (some ⟨st, 0, none⟩), .string ⟨#[120]⟩] V2 fun e w' => PuTo tb (mor F1 V1 V2) V2 st tb 32 (-1) (oneT d 1 sx) sx e w' := HP2
  have HC2 : Hid (V2.heap[ab]? = some (.cells #[.string d, .int .i64 0] 35 (0, 0)) ∧ mor F1 V1 V2 ab ∧ Below w.heap.size w V2) := ⟨r2, .inr ⟨by omega, lt_of_some r2⟩, hbw2⟩
  rw [← hV2] at HP2
  have HV2 : Hid (V1.alloc (.cells #[.string d, .int .i64 0] 35) = V2) := hV2
  clear HP1 hf1 hb1 hc1 hb12 hc2 hbw2 r2 hV2
  go_wp2_with fail
  refine HP2.mono ?_
  rintro e V3 ⟨F3, hf3, hb3, hif⟩
  rw [HV2.out] at hf3 hb3
  have r3 : V3.heap[ab]? = some (.cells #[.string d, .int .i64 0] 35 (0, 0)) := (hf3.blk ab HC2.out.2.1 (lt_of_some HC2.out.1)).trans HC2.out.1
  have f3 : F3 ab := hf3.sub ab HC2.out.2.1
  have hbw3 : Below w.heap.size w V3 := HC2.out.2.2.trans (by rw [HCS.out.2.2.2]; exact hb3)
  rw [named_again HD.out.1 (by omega) (by omega) (by decide), if_pos ⟨by decide, by simp, by simp, by unfold roomT; simp⟩] at hif
  obtain ⟨rfl, hc3⟩ := hif
  rw [one_put] at hc3
  have hc3 : Cs tb F3 V3 st tb 32 (-1) (oneT d 2 sx) := hc3
  obtain ⟨V4, hV4⟩ : ∃ V4, V3.alloc (.cells #[.string d, .int .i64 0] 35) = V4 := ⟨_, rfl⟩
  obtain ⟨bb, hbb⟩ : ∃ bb, V3.heap.size = bb := ⟨_, rfl⟩
  have r4 : V4.heap[bb]? = some (.cells #[.string d, .int .i64 0] 35 (0, 0)) := by rw [← hV4, ← hbb]; exact heap_alloc_new V3 _
  have hb34 : Below V3.heap.size V3 V4 := by rw [← hV4]; exact (Below.refl _ V3).alloc (Nat.le_refl _) _
  have hc4 := hc3.below hb34
  have r4a : V4.heap[ab]? = some (.cells #[.string d, .int .i64 0] 35 (0, 0)) := (hb34.block ab (lt_of_some r3)).trans r3
  have HCO := count_any hc4 (by omega)
  rw [one_all HD.out.2 (by omega) (by omega) (by decide), ← hV4] at HCO
  have HCO : Calls Tryd.prog 23 #[.pointer (some ⟨st, 0, none⟩)] (V3.alloc (.cells #[.string d, .int .i64 0] 35)) fun e w' => e = .returned (.tuple #[.int .i64 1, .int .i64 1]) ∧ Below (V3.alloc (.cells #[.string d, .int .i64 0] 35)).heap.size (V3.alloc (.cells #[.string d, .int .i64 0] 35)) w' := HCO
  have HV4 : Hid (V3.alloc (.cells #[.string d, .int .i64 0] 35) = V4 ∧ Cs tb (mor F3 V3 V4) V4 st tb 32 (-1) (oneT d 2 sx) ∧ V4.heap[bb]? = some (.cells #[.string d, .int .i64 0] 35 (0, 0)) ∧ V4.heap[ab]? = some (.cells #[.string d, .int .i64 0] 35 (0, 0)) ∧ Below w.heap.size w V4) := ⟨hV4, hc4, r4, r4a, hbw3.trans (hb34.mono hbw3.size)⟩
  clear HP2 hf3 hb3 r3 f3 hc3 hV4 r4 hb34 hc4 r4a hbw3 hab
  go_wp2_with fail
  refine HCO.mono ?_
  rintro e V5 ⟨rfl, hb5⟩
  rw [HV4.out.1] at hb5
  have r5a : V5.heap[ab]? = some (.cells #[.string d, .int .i64 0] 35 (0, 0)) := (hb5.block ab (lt_of_some HV4.out.2.2.2.1)).trans HV4.out.2.2.2.1
  have r5b : V5.heap[bb]? = some (.cells #[.string d, .int .i64 0] 35 (0, 0)) := (hb5.block bb (lt_of_some HV4.out.2.2.1)).trans HV4.out.2.2.1
  have hc5 := HV4.out.2.1.below hb5
  have k1 : V5.cell? ⟨ab, 0, none⟩ = some (.string d) := by rw [cell_of_row _ _ _ _ _ _ r5a]; rfl
  have k2 : V5.cell? ⟨ab, 1, none⟩ = some (.int .i64 0) := by rw [cell_of_row _ _ _ _ _ _ r5a]; rfl
  have k3 : V5.cell? ⟨bb, 0, none⟩ = some (.string d) := by rw [cell_of_row _ _ _ _ _ _ r5b]; rfl
  have k4 : V5.cell? ⟨bb, 1, none⟩ = some (.int .i64 0) := by rw [cell_of_row _ _ _ _ _ _ r5b]; rfl
  have HE := eqin_id d d 0 0 V5
  simp only [and_self, decide_true] at HE
  have HR := refs_of (some ⟨st, 0, none⟩) d 0 (lookF 32 (oneT d 2 sx) d 0) V5 (by rw [one_look HD.out.2 (by omega) (by omega) (by decide)]; simp [refsOf]) (fun V hV => look_any (hc5.below hV) (by omega) d 0)
  rw [one_look HD.out.2 (by omega) (by omega) (by decide)] at HR
  have HR : Calls Tryd.prog 22 #[.pointer (some ⟨st, 0, none⟩), .agg #[.string d, .int .i64 0]] V5 fun e w' => e = .returned (.int .i64 2) ∧ Below V5.heap.size V5 w' := HR
  have HB5 : Hid (Below w.heap.size w V5 ∧ ab < V5.heap.size) := ⟨HV4.out.2.2.2.2.trans (hb5.mono HV4.out.2.2.2.2.size), lt_of_some r5a⟩
  have hdz := HD.out.2
  clear HCO hb5 r5a r5b hc5 hbb
  go_wp2_with fail
  refine HR.mono ?_
  rintro e V6 ⟨rfl, hb6⟩
  have k5 : V6.cell? ⟨ab, 0, none⟩ = some (.string d) := by rw [hb6.cell HB5.out.2]; exact k1
  have hfin : Hid (Below w.heap.size w V6) := HB5.out.1.trans (hb6.mono HB5.out.1.size)
  clear hb6 HR k1 k2 k3 k4
  go_wp2_with fail
  go_ret
  exact ⟨rfl, hfin.out⟩
end Go.Proofs.YtjpkngbjjgimjaaDoor
