/- Walk over the program's Next. -/
import Derived.Test.YtbflkkffpcaakabDoorWM
import Derived.Test.YtbflkkffpcaakabDoorCF
namespace Go.Proofs.YtbflkkffpcaakabDoor
open Go.RowKit
theorem hide_at (f : List Nat) (l : List UInt8) : ∀ (o i : Nat), i < l.length → (hideL f o l).getD i 0 = l.getD i 0 ^^^ strmAt f (o + i) := by
  induction l with
  | nil => intro o i h; simp at h
  | cons b t ih =>
    intro o i h
    cases i with
    | zero => rfl
    | succ i =>
      rw [hideL]
      show (hideL f (o + 1) t).getD i 0 = t.getD i 0 ^^^ strmAt f (o + (i + 1))
      rw [ih (o + 1) i (by simpa using h), show o + 1 + i = o + (i + 1) by omega]
theorem madeB (n : Nat) (W : World) (hn : n ≤ 1000000) :
    (Instr.makeSlice 29 (.int .i64 (n : Int)) (.int .i64 (n : Int))).run Tryd.prog W = .ok (.slice (some ⟨W.heap.size, 0, none⟩) n n) (W.alloc (.cells (u8v (List.replicate n 0)) 5)) := by
  obtain ⟨i0, hi, hz0, hz1, hz2⟩ := info_parts info5
  have h := run_makeSlice W (P := Tryd.prog) 29 5 i0 _ Tryd.underlying29 hi hz0 .i64 .i64 (n : Int) (n : Int) (by omega) (by omega) (by rw [hz1]; omega) (by rw [hz2]; omega) (by omega)
  rw [h, hz1, Int.toNat_natCast, Nat.mul_one]
  congr 3
  exact u8v_made n
/-- Next's memory: the Stream, its row of what is hidden. -/
structure NxW (w0 : World) (g O : Nat) (f : List Nat) (o : Nat) (l : List UInt8) (wr : World) : Prop where
  st : StAt wr g f o
  ro : wr.heap[O]? = some (.cells (u8v l) 5 (0, 0))
  og : O ≠ g
  le : w0.heap.size ≤ O
  on : Only g w0 wr
theorem Only.setOther {g : Nat} {w0 wr : World} (h : Only g w0 wr) {O : Nat} (hO : w0.heap.size ≤ O) (i : Nat) (v : Value) : Only g w0 (wr.setCell ⟨O, i, none⟩ v) :=
  ⟨h.os, h.tape, h.output, by rw [World.size_setCell]; exact h.size, fun k hk hg => by rw [heap_setCell_other wr _ k v (by show k ≠ O; omega)]; exact h.block k hk hg⟩
theorem NxW.put {w0 wr : World} {g O : Nat} {f : List Nat} {o : Nat} {l : List UInt8} (h : NxW w0 g O f o l wr) (i : Nat) (x : UInt8) : NxW w0 g O f o (l.set i x) (wr.setCell ⟨O, i, none⟩ (.int .u8 (x.toNat : Int))) :=
  ⟨h.st.keep (heap_setCell_other _ _ _ _ (fun e => h.og e.symm)), by rw [heap_setCell_same _ _ _ _ _ _ h.ro, u8v_set], h.og, h.le, h.on.setOther h.le _ _⟩
theorem NxW.step {w0 wr w' : World} {g O : Nat} {f : List Nat} {o o' : Nat} {l : List UInt8} (h : NxW w0 g O f o l wr) (hs : StAt w' g f o') (ho : Only g wr w') : NxW w0 g O f o' l w' :=
  ⟨hs, (ho.block O (lt_of_some h.ro) h.og).trans h.ro, h.og, h.le, h.on.trans ho⟩
set_option maxRecDepth 100000 in
set_option maxHeartbeats 4000000 in
theorem snext_any (g : Nat) (f : List Nat) (o : Nat) (a : Option Addr) (len cap : Nat) (bs : List UInt8) (w : World) (hf : f.length = 16) (hw : Wd f) (hg : 3 ≤ g) (hS : StAt w g f o) (hb : BsA w g a len cap bs) (hlen : len ≤ 1000000) (hL : Laid w) :
    Calls Tryd.prog 14 #[.pointer (some ⟨g, 0, none⟩), .slice a len cap] w fun e w' => ∃ O, e = .returned (.slice (some ⟨O, 0, none⟩) len len) ∧ w.heap.size ≤ O ∧ w'.heap[O]? = some (.cells (u8v (hideL f o bs)) 5 (0, 0)) ∧ StAt w' g f (o + len) ∧ Only g w w' := by
  obtain ⟨hbl, hlc, hc63, hat⟩ := hb
  obtain ⟨D, hD⟩ : ∃ D, hideL f o bs = D := ⟨_, rfl⟩
  have hDl : D.length = len := by rw [← hD, hideL_len, hbl]
  have HD : Hid (D.length = len ∧ ∀ i, i < len → D.getD i 0 = bs.getD i 0 ^^^ strmAt f (o + i)) := ⟨hDl, fun i hi => by rw [← hD]; exact hide_at f bs o i (by omega)⟩
  have hgl := hS.lt
  obtain ⟨O, hO⟩ : ∃ O, w.heap.size = O := ⟨_, rfl⟩
  obtain ⟨W1, hW1⟩ : ∃ W, w.alloc (.cells (u8v (List.replicate len 0)) 5) = W := ⟨_, rfl⟩
  have hr1 : W1.heap[O]? = some (.cells (u8v (List.replicate len 0)) 5 (0, 0)) := by rw [← hW1, ← hO]; exact heap_alloc_new _ _
  have hb1 : Below w.heap.size w W1 := by rw [← hW1]; exact (Below.refl _ w).alloc (Nat.le_refl _) _
  have HST : Hid (NxW w g O f (o + 0) (D.take 0 ++ List.replicate (len - 0) 0) W1) := ⟨hS.keep (hb1.block g hgl), hr1, by omega, by omega, (Only.refl g w).below hb1⟩
  have hmk := madeB len w hlen
  rw [hW1, hO] at hmk
  have HF : Hid (f.length = 16 ∧ Wd f ∧ 3 ≤ g ∧ w.heap.size = O ∧ g < O) := ⟨hf, hw, hg, hO, by omega⟩
  have HL : Hid (∀ V, Only g w V → Laid V) := fun V hV => hL.only hg hV
  have HAT : Hid (0 < len → ∃ bb bo, a = some ⟨bb, bo, none⟩ ∧ bb ≠ g ∧ bb < w.heap.size ∧ ∀ i, i < len → w.cell? ⟨bb, bo + i, none⟩ = some (.int .u8 (((bs.getD i 0).toNat : Nat) : Int))) := hat
  rw [hD]
  clear hS hL hat hD hDl hr1 hb1 hf hw hg hO hgl hbl
  go_enter Tryd.func14, Tryd.ntmps14
  go_wp2
  go_loopw [14] (fun v14 wr => ∃ i : Nat, i ≤ len ∧ v14 = .int .i64 (i : Int) ∧ NxW w g O f (o + i) (D.take i ++ List.replicate (len - i) 0) wr) (fun v _ => len - (intOf v).toNat)
  case atStart => exact ⟨0, by omega, rfl, HST.out⟩
  case round =>
    clear HST
    obtain ⟨i, hi, rfl, hrel⟩ := hrel
    by_cases hlt : i < len
    · have kk : (i : Int) < (len : Int) := by omega
      obtain ⟨bb, bo, rfl, hbg, hbw, hcs⟩ := HAT.out (by omega)
      obtain ⟨x, hx⟩ : ∃ x, (bs.getD i 0).toNat = x := ⟨_, rfl⟩
      obtain ⟨y, hy⟩ : ∃ y, (strmAt f (o + i)).toNat = y := ⟨_, rfl⟩
      have hx8 : x < 256 := by rw [← hx]; exact UInt8.toNat_lt _
      have hy8 : y < 256 := by rw [← hy]; exact UInt8.toNat_lt _
      have hcx := hcs i hlt
      rw [hx] at hcx
      obtain ⟨z, hz⟩ : ∃ z, x ^^^ y = z := ⟨_, rfl⟩
      have hxy : bits BinOp.xor IntKind.u8 (x : Int) (y : Int) = (z : Int) := by rw [← hz]; exact u8_xor_nat x y hx8 hy8
      have hdz : D.getD i 0 = UInt8.ofNat z := by
        rw [HD.out.2 i hlt]
        apply UInt8.toNat_inj.1
        rw [UInt8.toNat_xor, hx, hy, hz, UInt8.toNat_ofNat', Nat.mod_eq_of_lt (by rw [← hz]; exact Nat.xor_lt_two_pow (n := 8) hx8 hy8)]
      have hz8 : z < 256 := by rw [← hz]; exact Nat.xor_lt_two_pow (n := 8) hx8 hy8
      have HCX : Hid (∀ V, Only g w V → V.cell? ⟨bb, bo + i, none⟩ = some (.int .u8 (x : Int))) := fun V hV => by
        rw [hV.cell hbw hbg]; exact hcx
      have HN := next_any g f (o + i) wr.drew HF.out.1 HF.out.2.1 HF.out.2.2.1 (hrel.st.keep rfl) (HL.out _ hrel.on.drew)
      rw [hy] at HN
      have HR : Hid (NxW w g O f (o + i) (D.take i ++ List.replicate (len - i) 0) wr) := hrel
      have HDZ : Hid (D.getD i 0 = UInt8.ofNat z ∧ z < 256) := ⟨hdz, hz8⟩
      clear hrel hx hy hz hcx hcs hdz hbg hbw
      go_wp2_with fail
      refine wp_region_held_drew (S := fun W => W.cell? ⟨bb, bo + i, none⟩ = some (.int .u8 (x : Int))) (by kernel_rfl) (HCX.out _ HR.out.on.drew) (fun hHeld => ?_)
      refine wpAnyH_take (i := 0) (v := ?va_0) rfl (by kernel_rfl) (by kernel_rfl) (by kernel_rfl) (fun _ _ _ h => h) (Or.inl ⟨by first | kernel_rfl | rfl, ?ya_0⟩) hHeld ?ra_0
      case ya_0 => (intro W hSW; (try dsimp only at hSW); go_simp; (try with_reducible rfl))
      change wpAnyH _ _ _ _ _ _ _ (Act.put _ (some 17) _) _
      simp only [Act.put, List.setIfInBounds_toArray, List.set_cons_zero, List.set_cons_succ]
      refine wpAnyH_take (i := 1) (v := ?va_1) rfl (by kernel_rfl) (by kernel_rfl) (by kernel_rfl) (fun _ _ _ h => h) (Or.inl ⟨by first | kernel_rfl | rfl, ?ya_1⟩) hHeld ?ra_1
      case ya_1 => (intro W hSW; (try dsimp only at hSW); go_simp; (try with_reducible rfl))
      change wpAnyH _ _ _ _ _ _ _ (Act.put _ (some 18) _) _
      simp only [Act.put, List.setIfInBounds_toArray, List.set_cons_zero, List.set_cons_succ]
      refine wpAnyH_take (i := 2) (v := ?va_2) rfl (by kernel_rfl) (by kernel_rfl) (by kernel_rfl) (fun _ _ _ h => h) (Or.inl ⟨by first | kernel_rfl | rfl, ?ya_2⟩) hHeld ?ra_2
      case ya_2 => (intro W hSW; (try dsimp only at hSW); go_simp; (try with_reducible rfl))
      change wpAnyH _ _ _ _ _ _ _ (Act.put _ (some 19) _) _
      simp only [Act.put, List.setIfInBounds_toArray, List.set_cons_zero, List.set_cons_succ]
      refine wpAnyH_take (i := 3) (v := ?va_3) rfl (by kernel_rfl) (by kernel_rfl) (by kernel_rfl) (fun _ _ _ h => h) (Or.inl ⟨by first | kernel_rfl | rfl, ?ya_3⟩) hHeld ?ra_3
      case ya_3 => (intro W hSW; (try dsimp only at hSW); go_simp; (try with_reducible rfl))
      change wpAnyH _ _ _ _ _ _ _ (Act.put _ (some 20) _) _
      simp only [Act.put, List.setIfInBounds_toArray, List.set_cons_zero, List.set_cons_succ]
      refine wpAnyH_take (i := 4) (v := ?va_4) rfl (by kernel_rfl) (by kernel_rfl) (by kernel_rfl) (fun _ _ _ h => h) (Or.inl ⟨by first | kernel_rfl | rfl, ?ya_4⟩) hHeld ?ra_4
      case ya_4 => (intro W hSW; (try dsimp only at hSW); go_simp; (try with_reducible rfl))
      change wpAnyH _ _ _ _ _ _ _ (Act.put _ (some 21) _) _
      simp only [Act.put, List.setIfInBounds_toArray, List.set_cons_zero, List.set_cons_succ]
      refine wpAnyH_take (i := 5) (v := ?va_5) rfl (by kernel_rfl) (by kernel_rfl) (by kernel_rfl) (fun _ _ _ h => h) (Or.inl ⟨by first | kernel_rfl | rfl, ?ya_5⟩) hHeld ?ra_5
      case ya_5 => (intro W hSW; (try dsimp only at hSW); go_simp; (try with_reducible rfl))
      change wpAnyH _ _ _ _ _ _ _ (Act.put _ (some 22) _) _
      simp only [Act.put, List.setIfInBounds_toArray, List.set_cons_zero, List.set_cons_succ]
      refine wpAnyH_take (i := 6) (v := ?va_6) rfl (by kernel_rfl) (by kernel_rfl) (by kernel_rfl) (fun _ _ _ h => h) (Or.inl ⟨by first | kernel_rfl | rfl, ?ya_6⟩) hHeld ?ra_6
      case ya_6 => (intro W hSW; (try dsimp only at hSW); go_simp; (try with_reducible rfl))
      change wpAnyH _ _ _ _ _ _ _ (Act.put _ (some 23) _) _
      simp only [Act.put, List.setIfInBounds_toArray, List.set_cons_zero, List.set_cons_succ]
      refine wpAnyH_ready (rs := [7]) (by kernel_rfl) (by simp) ?_
      refine AllReadyH.cons rfl (fun K hK => ?_) AllReadyH.nil
      go_simp
      refine (HN).mono ?_
      rintro e V ⟨rfl, hSV, hOV⟩
      refine hK.out _ _ (HCX.out _ (HR.out.on.drew.trans hOV)) (fun hHeld => ?_)
      clear hK K
      try simp only [Act.put, List.setIfInBounds_toArray, List.set_cons_zero, List.set_cons_succ]
      refine wpAnyH_take (i := 8) (v := ?va_8) rfl (by kernel_rfl) (by kernel_rfl) (by kernel_rfl) (fun _ _ _ h => h) (Or.inl ⟨by first | kernel_rfl | rfl, ?ya_8⟩) hHeld ?ra_8
      case ya_8 => (intro W hSW; (try dsimp only at hSW); go_simp; (try with_reducible rfl))
      change wpAnyH _ _ _ _ _ _ _ (Act.put _ (some 25) _) _
      simp only [Act.put, List.setIfInBounds_toArray, List.set_cons_zero, List.set_cons_succ]
      refine wpAnyH_take (i := 9) (v := ?va_9) rfl (by kernel_rfl) (by kernel_rfl) (by kernel_rfl) (fun _ _ _ h => h) (Or.inl ⟨by first | kernel_rfl | rfl, ?ya_9⟩) hHeld ?ra_9
      case ya_9 => (intro W hSW; (try dsimp only at hSW); go_simp; (try with_reducible rfl))
      change wpAnyH _ _ _ _ _ _ _ (Act.put _ (some 26) _) _
      simp only [Act.put, List.setIfInBounds_toArray, List.set_cons_zero, List.set_cons_succ]
      have HV : Hid (NxW w g O f (o + i + 1) (D.take i ++ List.replicate (len - i) 0) V) := HR.out.step hSV ((Only.refl g wr).drew.trans hOV)
      have hlen2 : (D.take i ++ List.replicate (len - i) 0).length = len := by simp [HD.out.1]; omega
      obtain ⟨q, hq⟩ : ∃ q, V.cell? ⟨O, i, none⟩ = some q := ⟨_, by rw [cell_of_row _ _ _ _ _ _ HV.out.ro, u8v_get _ _ (by omega)]⟩
      have fq := frozen_of_row V O i _ _ HV.out.ro
      obtain ⟨W9, hW9⟩ : ∃ W, V.setCell ⟨O, i, none⟩ (.int .u8 (z : Int)) = W := ⟨_, rfl⟩
      have HN9 : Hid (NxW w g O f (o + (i + 1)) (D.take (i + 1) ++ List.replicate (len - (i + 1)) 0) W9) := by
        have h := HV.out.put i (UInt8.ofNat z)
        rw [← HDZ.out.1, take_set8 D len i HD.out.1 hlt, HDZ.out.1, show (((UInt8.ofNat z).toNat : Nat) : Int) = (z : Int) by rw [UInt8.toNat_ofNat', Nat.mod_eq_of_lt HDZ.out.2], hW9] at h
        show NxW _ _ _ _ _ _ _
        rw [show o + (i + 1) = o + i + 1 by omega]; exact h
      clear hlen2 hSV hOV HN
      refine wpAnyH_ready (rs := [10]) (by kernel_rfl) (by simp) ?_
      refine AllReadyH.cons rfl (fun K hK => ?_) AllReadyH.nil
      go_simp
      refine hK.out _ _ (HCX.out _ HN9.out.on) (fun hHeld => ?_)
      clear hK K
      refine wpAnyH_done (by kernel_rfl) ?_ _
      go_wp2
      exact ⟨⟨i + 1, by omega, by go_num, HN9.out⟩, by simp [intOf]; omega⟩
    · obtain rfl : len = i := by omega
      have kk : ¬ (len : Int) < (len : Int) := by omega
      rw [List.take_of_length_le (by rw [HD.out.1]; omega), Nat.sub_self, List.replicate_zero, List.append_nil] at hrel
      have HR : Hid (NxW w g O f (o + len) D wr) := hrel
      clear hrel
      go_wp2
      go_ret
      exact ⟨O, rfl, HR.out.le, HR.out.ro, HR.out.st, HR.out.on⟩
end Go.Proofs.YtbflkkffpcaakabDoor
