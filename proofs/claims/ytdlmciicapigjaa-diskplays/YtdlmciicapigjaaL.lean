/- Walk over the statements' lives. -/
import Derived.Test.YtdlmciicapigjaaK
namespace Go.Proofs.Ytdlmciicapigjaa
open Go.RowKit Go.Shelf
theorem wf_u8 {n : Int} (h : (Lit.int .u8 n).wf = true) : 0 ≤ n ∧ n ≤ 255 := by
  simp [Lit.wf, IntKind.min, IntKind.max, IntKind.signed, IntKind.bits] at h
  omega
theorem wf_i64 {n : Int} (h : (Lit.int .i64 n).wf = true) : -9223372036854775808 ≤ n ∧ n ≤ 9223372036854775807 := by
  simp [Lit.wf, IntKind.min, IntKind.max, IntKind.signed, IntKind.bits] at h
  omega
theorem apart_fresh {w3 w4 : World} {S : Nat → Prop} (hS : ∀ x, S x → x < w3.heap.size) : ∀ x, fresh w3 w4 x → ¬ S x := fun x hx hs => by
  have := hS x hs
  have := hx.1
  omega
/-- What was made by 'Fill: 7'. -/
def sevens : ByteArray := fillS 0 7
theorem sevens_size : sevens.size = 256 := by unfold sevens; rw [fillS_size]; rfl
def lifeD : Dk := (Dk.new 2 nought).wrote 0 sevens
theorem life_none : ((lifeD.failed (pickOf [])).started).seen.getD 0 ByteArray.empty = nought := rfl
theorem life_one : ((lifeD.failed (pickOf [true])).started).seen.getD 0 ByteArray.empty = sevens := rfl
set_option maxRecDepth 100000 in
set_option maxHeartbeats 2000000 in
theorem lives_any (w : World) : Calls Try.prog 20 #[] w fun e w' => e = .returned (.bool true) ∧ Below w.heap.size w w' := by
  have HN := new_any 2 w (by omega) (by omega)
  go_enter Try.func20, Try.ntmps20
  go_wp2_with fail
  refine HN.mono ?_
  rintro e w1 ⟨g, rfl, hd1, hb1⟩
  have HFI := filled_any 0 0 0 7 none 0 0 w1 (by omega)
  clear HN
  go_wp2_with fail
  refine HFI.mono ?_
  rintro e w2 ⟨rfl, hb2⟩
  have hd2 := hd1.below hb2
  have hS1 : ∀ x, fresh w w1 x → w.heap.size ≤ x := fun x hx => hx.1
  have HWR := write_any hd2 0 sevens rfl (by simp [Dk.new]) sevens_size (by simp [Dk.new])
  clear HFI
  go_wp2_with fail
  refine HWR.mono ?_
  rintro e w3 ⟨rfl, hd3, hu3⟩
  have hB3 : Below w.heap.size w w3 := (hb1.trans (hb2.mono hb1.size)).trans (hu3.below (Nat.le_trans hb1.size hb2.size) hS1)
  have hS3 : ∀ x, more (fresh w w1) w2 w3 x → w.heap.size ≤ x := fun x hx => hx.elim (fun h => h.1) (fun h => Nat.le_trans (Nat.le_trans hb1.size hb2.size) h.1)
  obtain ⟨S3, hS3e⟩ : ∃ S, more (fresh w w1) w2 w3 = S := ⟨_, rfl⟩
  rw [hS3e] at hd3 hS3
  change DiskIs w3 S3 g lifeD at hd3
  have HCL := clone_any hd3
  clear HWR hd1 hd2 hu3 hS3e
  go_wp2_with fail
  refine HCL.mono ?_
  rintro e w4 ⟨c, rfl, hc4, hb4⟩
  have hd4 := hd3.below hb4
  have hB4 : Below w.heap.size w w4 := hB3.trans (hb4.mono hB3.size)
  have hap := apart_fresh (w4 := w4) hd3.bd
  obtain ⟨S4, hS4e⟩ : ∃ S, fresh w3 w4 = S := ⟨_, rfl⟩
  have hS4 : ∀ x, S4 x → w.heap.size ≤ x ∧ x < w4.heap.size := fun x hx => by
    rw [← hS4e] at hx
    exact ⟨Nat.le_trans hB3.size hx.1, hx.2⟩
  rw [hS4e] at hc4 hap
  have HFA := fail_any hd4 none 0 0 [] (Bls.nil w4) (by intro x hx; cases hx)
  clear HCL hd3 hS4e
  go_wp2_with fail
  refine HFA.mono ?_
  rintro e w5 ⟨rfl, hd5, hu5⟩
  have hc5 := hc4.upd hu5 hap
  have hB5 : Below w.heap.size w w5 := hB4.trans (hu5.below hB4.size hS3)
  obtain ⟨t, ht⟩ : ∃ t, w5.heap.size = t := ⟨_, rfl⟩
  obtain ⟨W5, hW5⟩ : ∃ W5, w5.alloc (.cells #[.bool true] 4) = W5 := ⟨_, rfl⟩
  have hb55 : Below w5.heap.size w5 W5 := by rw [← hW5]; exact (Below.refl _ w5).alloc (Nat.le_refl _) _
  have hd55 := hd5.below hb55
  have hc55 := hc5.below hb55
  have hB55 : Below w.heap.size w W5 := hB5.trans (hb55.mono hB5.size)
  have h45 := hu5.size
  have hbl : Bls W5 (some ⟨t, 0, none⟩) 1 1 [true] := by
    refine ⟨rfl, by omega, by omega, fun _ => ⟨t, 0, rfl, fun i hi => ?_⟩⟩
    match i, hi with
    | 0, _ =>
      rw [← hW5, ← ht, cell_of_row _ w5.heap.size _ _ _ _ (heap_alloc_new w5 _)]
      rfl
  have HFB := fail_any hc55 (some ⟨t, 0, none⟩) 1 1 [true] hbl (by intro x hx hs; cases hx; have := (hS4 _ hs).2; simp at this; omega)
  clear HFA hd4 hc4 hd5 hc5
  go_wp2_with fail
  refine HFB.mono ?_
  rintro e w6 ⟨rfl, hc6, hu6⟩
  have hd6 := hd55.upd hu6 (fun x h3 h4 => hap x h4 h3)
  have hB6 : Below w.heap.size w w6 := hB55.trans (hu6.below hB55.size (fun x hx => (hS4 x hx).1))
  have HSD := start_any hd6 rfl rfl
  clear HFB hd55 hc55 hbl
  go_wp2_with fail
  refine HSD.mono ?_
  rintro e w7 ⟨rfl, hd7, hu7⟩
  have hc7 := hc6.upd hu7 hap
  have hB7 : Below w.heap.size w w7 := hB6.trans (hu7.below hB6.size hS3)
  have HSC := start_any hc7 rfl rfl
  clear HSD hd6 hc6
  go_wp2_with fail
  refine HSC.mono ?_
  rintro e w8 ⟨rfl, hc8, hu8⟩
  have hd8 := hd7.upd hu8 (fun x h3 h4 => hap x h4 h3)
  have hB8 : Below w.heap.size w w8 := hB7.trans (hu8.below hB7.size (fun x hx => (hS4 x hx).1))
  have HRD := read_any hd8 0 rfl (by decide)
  have HRC := read_any hc8 0 rfl (by decide)
  rw [life_none] at HRD
  rw [life_one] at HRC
  have HB : Hid (Below w.heap.size w w8) := hB8
  clear HSC hd7 hc7 hd8 hc8 hu8 hu7 hu6 hu5 hB8 hB7 hB6 hB5 hB4 hB3 hB55 hap hS3 hS4 hb55 hb4 hb1 hb2
  obtain ⟨X, hX⟩ : ∃ X, nought = X := ⟨_, rfl⟩
  obtain ⟨Y, hY⟩ : ∃ Y, sevens = Y := ⟨_, rfl⟩
  rw [hX] at HRD
  rw [hY] at HRC
  have x1 : X.size = 256 := by rw [← hX]; rfl
  have y1 : Y.size = 256 := by rw [← hY]; exact sevens_size
  have x0 : ∀ h : 0 < X.size, (X[0]'h).toNat = 0 := by rw [← hX]; intro h; rfl
  have y7 : ∀ h : 255 < Y.size, (Y[255]'h).toNat = 7 := by rw [← hY]; intro h; rfl
  clear hX hY
  go_wp2_with fail
  refine HRD.mono ?_
  rintro e w9 ⟨rfl, hw9⟩
  subst w9
  go_wp2_with fail
  refine HRC.mono ?_
  rintro e w9 ⟨rfl, hw9⟩
  subst w9
  go_wp2
  go_ret
  exact ⟨rfl, HB.out⟩
end Go.Proofs.Ytdlmciicapigjaa
