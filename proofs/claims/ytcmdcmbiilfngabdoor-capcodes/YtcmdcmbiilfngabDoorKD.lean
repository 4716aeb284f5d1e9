/- Walks over caveatBytes and nameBytes, and over the document's head and Bytes. -/
import Derived.Test.YtcmdcmbiilfngabDoorKC
import Derived.Test.YtcmdcmbiilfngabDoorNT
import Derived.Test.YtcmdcmbiilfngabDoorFA
namespace Go.Proofs.YtcmdcmbiilfngabDoor
open Go.RowKit
/-- Bytes that are handed on. -/
def ByTo (w : World) (bs : List UInt8) (e : Ending) (w' : World) : Prop := ∃ (a : Option Addr) (n c : Nat), e = .returned (.slice a n c) ∧ Bs w' a n c bs ∧ Below w.heap.size w w'
/-- A text that is handed on. -/
def StTo (w : World) (bs : List UInt8) (e : Ending) (w' : World) : Prop := e = .returned (.string (strOf bs)) ∧ Below w.heap.size w w'
theorem put_by (a : Option Addr) (len cap : Nat) (bs : List UInt8) (n : Nat) (w : World) (h : Bs w a len cap bs) (hb : len ≤ 900000) (hn : n < 18446744073709551616) : Calls Tryd.prog 22 #[.slice a len cap, .int .u64 (n : Int)] w fun e w' => ByTo w (bs ++ putN n) e w' := by
  refine (put_any a len cap bs n w h hb hn).mono ?_
  rintro e w' ⟨rfl, h1, h2⟩
  exact ⟨_, _, _, rfl, Bs.owned h1, h2⟩
theorem ptext_by (a : Option Addr) (len cap : Nat) (bs : List UInt8) (s : ByteArray) (w : World) (h : Bs w a len cap bs) (hb : len ≤ 100000) (hs : s.size ≤ 100000) : Calls Tryd.prog 25 #[.slice a len cap, .string s] w fun e w' => ByTo w (bs ++ textN s.data.toList) e w' := by
  refine (ptext_any a len cap bs s w h hb hs _ rfl).mono ?_
  rintro e w' ⟨g, rfl, h1, h2⟩
  exact ⟨_, _, _, rfl, h1, h2⟩
theorem textN_len {l : List UInt8} (h : l.length ≤ 100000) : (textN l).length ≤ l.length + 10 := by
  have := putN_le10 l.length (by omega)
  unfold textN
  rw [List.length_append]
  omega
set_option maxRecDepth 100000 in
set_option maxHeartbeats 1000000 in
theorem cbytes_any (c : Cv) (w : World) (hp : c.path.size ≤ 1000) (hr : 0 ≤ c.rights ∧ c.rights ≤ 9223372036854775807) (hu : 0 ≤ c.til ∧ c.til ≤ 9223372036854775807) : Calls Tryd.prog 24 #[.agg #[.string c.path, .int .i64 c.rights, .int .i64 c.til]] w fun e w' => ByTo w c.bytes e w' := by
  obtain ⟨p, r, u⟩ := c
  simp only at hp hr hu ⊢
  obtain ⟨rn, rfl⟩ : ∃ n : Nat, r = (n : Int) := ⟨r.toNat, by omega⟩
  obtain ⟨un, rfl⟩ : ∃ n : Nat, u = (n : Int) := ⟨u.toNat, by omega⟩
  have wr : IntKind.u64.wrap (rn : Int) = (rn : Int) := by rw [IntKind.wrap_u64]; omega
  have wu : IntKind.u64.wrap (un : Int) = (un : Int) := by rw [IntKind.wrap_u64]; omega
  obtain ⟨pb, hpb⟩ : ∃ pb, w.heap.size = pb := ⟨_, rfl⟩
  obtain ⟨V1, hV1, r1, hb1⟩ := box_cv (w := w) p (rn : Int) (un : Int)
  rw [hpb] at r1
  have HK : Hid (∀ W, Below V1.heap.size V1 W → W.cell? ⟨pb, 0, none⟩ = some (.string p) ∧ W.cell? ⟨pb, 1, none⟩ = some (.int .i64 (rn : Int)) ∧ W.cell? ⟨pb, 2, none⟩ = some (.int .i64 (un : Int))) := fun W hW => by
    have r2 := (hW.block pb (lt_of_some r1)).trans r1
    exact ⟨by rw [cell_of_row _ _ _ _ _ _ r2]; rfl, by rw [cell_of_row _ _ _ _ _ _ r2]; rfl, by rw [cell_of_row _ _ _ _ _ _ r2]; rfl⟩
  obtain ⟨x0, _, _⟩ := HK.out V1 (Below.refl _ _)
  have HT := ptext_by none 0 0 [] p V1 (Bs.nil V1) (by omega) (by omega)
  have hpl : p.data.toList.length = p.size := Array.length_toList
  have ht := textN_len (l := p.data.toList) (by omega)
  have h1 := putN_le10 rn (by omega)
  have hbe : (⟨p, (rn : Int), (un : Int)⟩ : Cv).bytes = [] ++ textN p.data.toList ++ putN rn ++ putN un := by simp [Cv.bytes, Cv.pl]
  rw [hbe]
  have HB : Hid (Below w.heap.size w V1) := hb1
  clear r1 hb1 hbe
  go_enter Tryd.func24, Tryd.ntmps24
  go_wp2_with fail
  refine HT.mono ?_
  rintro e V2 ⟨a2, n2, c2, rfl, hbs2, hb2⟩
  have hn2 : n2 ≤ 2000 := by have := hbs2.1; rw [List.nil_append] at this; omega
  have HP2 := put_by a2 n2 c2 _ rn V2 hbs2 (by omega) (by omega)
  obtain ⟨_, y1, _⟩ := HK.out V2 hb2
  have H2 : Hid (Below V1.heap.size V1 V2 ∧ n2 = ([] ++ textN p.data.toList).length) := ⟨hb2, hbs2.1.symm⟩
  clear HT hb2 hbs2
  go_wp2_with fail
  refine HP2.mono ?_
  rintro e V3 ⟨a3, n3, c3, rfl, hbs3, hb3⟩
  have hn3 : n3 ≤ 3000 := by have := hbs3.1; rw [List.length_append, ← H2.out.2] at this; omega
  have HP3 := put_by a3 n3 c3 _ un V3 hbs3 (by omega) (by omega)
  have hB3 : Below V1.heap.size V1 V3 := H2.out.1.trans (hb3.mono H2.out.1.size)
  obtain ⟨_, _, z2⟩ := HK.out V3 hB3
  have H3 : Hid (Below V1.heap.size V1 V3) := hB3
  clear HP2 hb3 hbs3 hB3 y1
  go_wp2_with fail
  refine HP3.mono ?_
  rintro e V4 ⟨a4, n4, c4, rfl, hbs4, hb4⟩
  have HE : Hid (ByTo w ([] ++ textN p.data.toList ++ putN rn ++ putN un) (.returned (.slice a4 n4 c4)) V4) := ⟨a4, n4, c4, rfl, hbs4, HB.out.trans ((H3.out.trans (hb4.mono H3.out.size)).mono HB.out.size)⟩
  clear HP3 hb4 hbs4 z2
  go_wp2
  go_ret
  exact HE.out
set_option maxRecDepth 100000 in
set_option maxHeartbeats 1000000 in
theorem nbytes_any (t n : Nat) (a : Option Addr) (ln cp : Nat) (s : ByteArray) (w : World) (ht : t ≤ 9223372036854775807) (hn : n ≤ 9223372036854775807) : Calls Tryd.prog 23 #[.agg #[.int .i64 (t : Int), .int .i64 (n : Int), .slice a ln cp, .string s]] w fun e w' => ByTo w (headB t n) e w' := by
  have wr : IntKind.u64.wrap (t : Int) = (t : Int) := by rw [IntKind.wrap_u64]; omega
  have wu : IntKind.u64.wrap (n : Int) = (n : Int) := by rw [IntKind.wrap_u64]; omega
  obtain ⟨pb, hpb⟩ : ∃ pb, w.heap.size = pb := ⟨_, rfl⟩
  obtain ⟨V1, hV1, r1, hb1⟩ := box_tk (w := w) (t : Int) (n : Int) a ln cp s
  rw [hpb] at r1
  have HK : Hid (∀ W, Below V1.heap.size V1 W → W.cell? ⟨pb, 0, none⟩ = some (.int .i64 (t : Int)) ∧ W.cell? ⟨pb, 1, none⟩ = some (.int .i64 (n : Int))) := fun W hW => by
    have r2 := (hW.block pb (lt_of_some r1)).trans r1
    exact ⟨by rw [cell_of_row _ _ _ _ _ _ r2]; rfl, by rw [cell_of_row _ _ _ _ _ _ r2]; rfl⟩
  have HP : Hid (∀ W, Calls Tryd.prog 22 #[.slice none 0 0, .int .u64 (t : Int)] W fun e w' => ByTo W ([] ++ putN t) e w') := fun W => put_by none 0 0 [] t W (Bs.nil W) (by omega) (by omega)
  have h1 := putN_le10 t (by omega)
  have hbe : headB (t : Int) (n : Int) = [] ++ putN t ++ putN n := by simp [headB]
  rw [hbe]
  have HB : Hid (Below w.heap.size w V1) := hb1
  clear r1 hb1 hbe
  go_enter Tryd.func23, Tryd.ntmps23
  go_wp2
  refine wp_region_held_drew (S := fun W => W.cell? ⟨pb, 0, none⟩ = some (.int .i64 (t : Int)) ∧ W.cell? ⟨pb, 1, none⟩ = some (.int .i64 (n : Int))) (by kernel_rfl) (HK.out V1.drew (Below.refl _ V1).drew) (fun hHeld => ?_)
  refine wpAnyH_take (i := 0) (v := ?va_0) rfl (by kernel_rfl) (by kernel_rfl) (by kernel_rfl) (fun _ _ _ h => h) (Or.inl ⟨by first | kernel_rfl | rfl, ?ya_0⟩) hHeld ?ra_0
  case ya_0 => (intro W hSW; (try dsimp only at hSW); go_simp; (try with_reducible rfl))
  change wpAnyH _ _ _ _ _ _ _ (Act.put _ (some 3) _) _
  simp only [Act.put, List.setIfInBounds_toArray, List.set_cons_zero, List.set_cons_succ]
  refine wpAnyH_take (i := 1) (v := ?va_1) rfl (by kernel_rfl) (by kernel_rfl) (by kernel_rfl) (fun _ _ _ h => h) (Or.inl ⟨by first | kernel_rfl | rfl, ?ya_1⟩) hHeld ?ra_1
  case ya_1 => (intro W hSW; (try dsimp only at hSW); go_simp; (try with_reducible rfl))
  change wpAnyH _ _ _ _ _ _ _ (Act.put _ (some 4) _) _
  simp only [Act.put, List.setIfInBounds_toArray, List.set_cons_zero, List.set_cons_succ]
  refine wpAnyH_take (i := 2) (v := ?va_2) rfl (by kernel_rfl) (by kernel_rfl) (by kernel_rfl) (fun _ _ _ h => h) (Or.inl ⟨by first | kernel_rfl | rfl, ?ya_2⟩) hHeld ?ra_2
  case ya_2 => (intro W hSW; (try dsimp only at hSW); go_simp; (try with_reducible rfl))
  change wpAnyH _ _ _ _ _ _ _ (Act.put _ (some 5) _) _
  simp only [Act.put, List.setIfInBounds_toArray, List.set_cons_zero, List.set_cons_succ]
  refine wpAnyH_take (i := 4) (v := ?va_4) rfl (by kernel_rfl) (by kernel_rfl) (by kernel_rfl) (fun _ _ _ h => h) (Or.inl ⟨by first | kernel_rfl | rfl, ?ya_4⟩) hHeld ?ra_4
  case ya_4 => (intro W hSW; (try dsimp only at hSW); go_simp; (try with_reducible rfl))
  change wpAnyH _ _ _ _ _ _ _ (Act.put _ (some 7) _) _
  simp only [Act.put, List.setIfInBounds_toArray, List.set_cons_zero, List.set_cons_succ]
  refine wpAnyH_take (i := 5) (v := ?va_5) rfl (by kernel_rfl) (by kernel_rfl) (by kernel_rfl) (fun _ _ _ h => h) (Or.inl ⟨by first | kernel_rfl | rfl, ?ya_5⟩) hHeld ?ra_5
  case ya_5 => (intro W hSW; (try dsimp only at hSW); go_simp; (try with_reducible rfl))
  change wpAnyH _ _ _ _ _ _ _ (Act.put _ (some 8) _) _
  simp only [Act.put, List.setIfInBounds_toArray, List.set_cons_zero, List.set_cons_succ]
  refine wpAnyH_take (i := 6) (v := ?va_6) rfl (by kernel_rfl) (by kernel_rfl) (by kernel_rfl) (fun _ _ _ h => h) (Or.inl ⟨by first | kernel_rfl | rfl, ?ya_6⟩) hHeld ?ra_6
  case ya_6 => (intro W hSW; (try dsimp only at hSW); go_simp; (try with_reducible rfl))
  change wpAnyH _ _ _ _ _ _ _ (Act.put _ (some 9) _) _
  simp only [Act.put, List.setIfInBounds_toArray, List.set_cons_zero, List.set_cons_succ]
  refine wpAnyH_ready (rs := [3]) (by kernel_rfl) (by simp) ?_
  refine AllReadyH.cons rfl (fun K hK => ?_) AllReadyH.nil
  go_simp
  refine (HP.out V1.drew).mono ?_
  rintro e V2 ⟨a2, n2, c2, rfl, hbs2, hb2⟩
  refine hK.out _ _ (HK.out V2 ((Below.refl _ V1).drew.trans hb2)) (fun hHeld => ?_)
  clear hK K
  try simp only [Act.put, List.setIfInBounds_toArray, List.set_cons_zero, List.set_cons_succ]
  have hn2 : n2 ≤ 2000 := by have := hbs2.1; rw [List.nil_append] at this; omega
  have H2 : Hid (Below V1.heap.size V1 V2) := (Below.refl _ V1).drew.trans hb2
  have HP3 := put_by a2 n2 c2 _ n V2 hbs2 (by omega) (by omega)
  clear hb2 hbs2
  refine wpAnyH_ready (rs := [7]) (by kernel_rfl) (by simp) ?_
  refine AllReadyH.cons rfl (fun K hK => ?_) AllReadyH.nil
  go_simp
  refine (HP3).mono ?_
  rintro e V3 ⟨a3, n3, c3, rfl, hbs3, hb3⟩
  refine hK.out _ _ (HK.out V3 (H2.out.trans (hb3.mono H2.out.size))) (fun hHeld => ?_)
  clear hK K
  try simp only [Act.put, List.setIfInBounds_toArray, List.set_cons_zero, List.set_cons_succ]
  have HE : Hid (ByTo w ([] ++ putN t ++ putN n) (.returned (.slice a3 n3 c3)) V3) := ⟨a3, n3, c3, rfl, hbs3, HB.out.trans ((H2.out.trans (hb3.mono H2.out.size)).mono HB.out.size)⟩
  clear hb3 hbs3 HP3
  refine wpAnyH_take (i := 8) (v := ?va_8) rfl (by kernel_rfl) (by kernel_rfl) (by kernel_rfl) (fun _ _ _ h => h) (Or.inl ⟨by first | kernel_rfl | rfl, ?ya_8⟩) hHeld ?ra_8
  case ya_8 => (intro W hSW; (try dsimp only at hSW); go_simp; (try with_reducible rfl))
  change wpAnyH _ _ _ _ _ _ _ (Act.put _ (some 2) _) _
  simp only [Act.put, List.setIfInBounds_toArray, List.set_cons_zero, List.set_cons_succ]
  refine wpAnyH_done (by kernel_rfl) ?_ _
  go_wp2
  go_ret
  exact HE.out
theorem putS_str (n : Nat) : putS n = strOf (putN n) := rfl
theorem rput_st (n : Nat) (w : World) (hn : n < 18446744073709551616) : Calls Tryd.prog 29 #[.int .u64 (n : Int)] w fun e w' => StTo w (putN n) e w' := (rput_ex n w hn).mono fun _ _ h => h
theorem rtext_st (s : ByteArray) (w : World) (hs : s.size ≤ 100000) : Calls Tryd.prog 31 #[.string s] w fun e w' => StTo w (textN s.data.toList) e w' := rtext_any s w hs
set_option maxRecDepth 100000 in
set_option maxHeartbeats 1000000 in
theorem rhead_any (t n : Nat) (w : World) (ht : t ≤ 9223372036854775807) (hn : n ≤ 9223372036854775807) : Calls Tryd.prog 28 #[.int .i64 (t : Int), .int .i64 (n : Int)] w fun e w' => StTo w (headB t n) e w' := by
  have wr : IntKind.u64.wrap (t : Int) = (t : Int) := by rw [IntKind.wrap_u64]; omega
  have wu : IntKind.u64.wrap (n : Int) = (n : Int) := by rw [IntKind.wrap_u64]; omega
  have HP := rput_st t w (by omega)
  have h1 := putN_le10 t (by omega)
  have h2 := putN_le10 n (by omega)
  have z1 := strOf_size (putN t)
  have z2 := strOf_size (putN n)
  have hbe : headB (t : Int) (n : Int) = putN t ++ putN n := by simp [headB]
  rw [hbe]
  obtain ⟨A, hA⟩ : ∃ A, strOf (putN t) = A := ⟨_, rfl⟩
  obtain ⟨B, hB⟩ : ∃ B, strOf (putN n) = B := ⟨_, rfl⟩
  have hov : ¬ 9223372036854775807 < A.size + B.size := by rw [← hA, ← hB, z1, z2]; omega
  have HS : Hid (strOf (putN t ++ putN n) = A ++ B ∧ strOf (putN n) = B) := ⟨by rw [strOf_append, hA, hB], hB⟩
  unfold StTo at HP
  rw [hA] at HP
  clear hbe z1 z2 hA hB
  go_enter Tryd.func28, Tryd.ntmps28
  go_wp2_with fail
  refine HP.mono ?_
  rintro e V1 ⟨rfl, hb1⟩
  have HP2 := rput_st n V1 (by omega)
  unfold StTo at HP2
  rw [HS.out.2] at HP2
  have H1 : Hid (Below w.heap.size w V1) := hb1
  clear HP hb1
  go_wp2_with fail
  refine HP2.mono ?_
  rintro e V2 ⟨rfl, hb2⟩
  have HE : Hid (StTo w (putN t ++ putN n) (.returned (.string (A ++ B))) V2) := ⟨by rw [HS.out.1], H1.out.trans (hb2.mono H1.out.size)⟩
  clear HP2 hb2
  go_wp2
  go_ret
  exact HE.out
set_option maxRecDepth 100000 in
set_option maxHeartbeats 1000000 in
theorem rbytes_any (c : Cv) (w : World) (hp : c.path.size ≤ 1000) (hr : 0 ≤ c.rights ∧ c.rights ≤ 9223372036854775807) (hu : 0 ≤ c.til ∧ c.til ≤ 9223372036854775807) : Calls Tryd.prog 30 #[.agg #[.string c.path, .int .i64 c.rights, .int .i64 c.til]] w fun e w' => StTo w c.bytes e w' := by
  obtain ⟨p, r, u⟩ := c
  simp only at hp hr hu ⊢
  obtain ⟨rn, rfl⟩ : ∃ n : Nat, r = (n : Int) := ⟨r.toNat, by omega⟩
  obtain ⟨un, rfl⟩ : ∃ n : Nat, u = (n : Int) := ⟨u.toNat, by omega⟩
  have wr : IntKind.u64.wrap (rn : Int) = (rn : Int) := by rw [IntKind.wrap_u64]; omega
  have wu : IntKind.u64.wrap (un : Int) = (un : Int) := by rw [IntKind.wrap_u64]; omega
  obtain ⟨pb, hpb⟩ : ∃ pb, w.heap.size = pb := ⟨_, rfl⟩
  obtain ⟨V1, hV1, r1, hb1⟩ := box_cv (w := w) p (rn : Int) (un : Int)
  rw [hpb] at r1
  have HK : Hid (∀ W, Below V1.heap.size V1 W → W.cell? ⟨pb, 0, none⟩ = some (.string p) ∧ W.cell? ⟨pb, 1, none⟩ = some (.int .i64 (rn : Int)) ∧ W.cell? ⟨pb, 2, none⟩ = some (.int .i64 (un : Int))) := fun W hW => by
    have r2 := (hW.block pb (lt_of_some r1)).trans r1
    exact ⟨by rw [cell_of_row _ _ _ _ _ _ r2]; rfl, by rw [cell_of_row _ _ _ _ _ _ r2]; rfl, by rw [cell_of_row _ _ _ _ _ _ r2]; rfl⟩
  obtain ⟨A, hA⟩ : ∃ A, strOf (textN p.data.toList) = A := ⟨_, rfl⟩
  obtain ⟨B, hB⟩ : ∃ B, strOf (putN rn) = B := ⟨_, rfl⟩
  obtain ⟨C, hC⟩ : ∃ C, strOf (putN un) = C := ⟨_, rfl⟩
  have HT : Hid (∀ W, Calls Tryd.prog 31 #[.string p] W fun e w' => e = .returned (.string A) ∧ Below W.heap.size W w') := fun W => by rw [← hA]; exact rtext_st p W (by omega)
  have HP : Hid (∀ W, Calls Tryd.prog 29 #[.int .u64 (rn : Int)] W fun e w' => e = .returned (.string B) ∧ Below W.heap.size W w') := fun W => by rw [← hB]; exact rput_st rn W (by omega)
  have HU : Hid (∀ W, Calls Tryd.prog 29 #[.int .u64 (un : Int)] W fun e w' => e = .returned (.string C) ∧ Below W.heap.size W w') := fun W => by rw [← hC]; exact rput_st un W (by omega)
  have hpl : p.data.toList.length = p.size := Array.length_toList
  have ht := textN_len (l := p.data.toList) (by omega)
  have h1 := putN_le10 rn (by omega)
  have h2 := putN_le10 un (by omega)
  have zA : A.size ≤ 2000 := by rw [← hA, strOf_size]; omega
  have zB : B.size ≤ 10 := by rw [← hB, strOf_size]; omega
  have zC : C.size ≤ 10 := by rw [← hC, strOf_size]; omega
  have ov1 : ¬ 9223372036854775807 < A.size + B.size := by omega
  have ov2 : ¬ 9223372036854775807 < (A ++ B).size + C.size := by rw [ByteArray.size_append]; omega
  have ov3 : ¬ 9223372036854775807 < A.size + B.size + C.size := by omega
  have HS : Hid (strOf (textN p.data.toList ++ putN rn ++ putN un) = A ++ B ++ C) := by show _ = _; rw [strOf_append, strOf_append, hA, hB, hC]
  have hbe : (⟨p, (rn : Int), (un : Int)⟩ : Cv).bytes = textN p.data.toList ++ putN rn ++ putN un := by simp [Cv.bytes, Cv.pl]
  rw [hbe]
  have HB : Hid (Below w.heap.size w V1) := hb1
  clear r1 hb1 hbe hA hB hC hpl ht h1 h2
  go_enter Tryd.func30, Tryd.ntmps30
  go_wp2
  refine wp_region_held_drew (S := fun W => W.cell? ⟨pb, 0, none⟩ = some (.string p) ∧ W.cell? ⟨pb, 1, none⟩ = some (.int .i64 (rn : Int)) ∧ W.cell? ⟨pb, 2, none⟩ = some (.int .i64 (un : Int))) (by kernel_rfl) (HK.out V1.drew (Below.refl _ V1).drew) (fun hHeld => ?_)
  refine wpAnyH_take (i := 0) (v := ?vb_0) rfl (by kernel_rfl) (by kernel_rfl) (by kernel_rfl) (fun _ _ _ h => h) (Or.inl ⟨by first | kernel_rfl | rfl, ?yb_0⟩) hHeld ?rb_0
  case yb_0 => (intro W hSW; (try dsimp only at hSW); go_simp; (try with_reducible rfl))
  change wpAnyH _ _ _ _ _ _ _ (Act.put _ (some 3) _) _
  simp only [Act.put, List.setIfInBounds_toArray, List.set_cons_zero, List.set_cons_succ]
  refine wpAnyH_take (i := 1) (v := ?vb_1) rfl (by kernel_rfl) (by kernel_rfl) (by kernel_rfl) (fun _ _ _ h => h) (Or.inl ⟨by first | kernel_rfl | rfl, ?yb_1⟩) hHeld ?rb_1
  case yb_1 => (intro W hSW; (try dsimp only at hSW); go_simp; (try with_reducible rfl))
  change wpAnyH _ _ _ _ _ _ _ (Act.put _ (some 4) _) _
  simp only [Act.put, List.setIfInBounds_toArray, List.set_cons_zero, List.set_cons_succ]
  refine wpAnyH_take (i := 3) (v := ?vb_3) rfl (by kernel_rfl) (by kernel_rfl) (by kernel_rfl) (fun _ _ _ h => h) (Or.inl ⟨by first | kernel_rfl | rfl, ?yb_3⟩) hHeld ?rb_3
  case yb_3 => (intro W hSW; (try dsimp only at hSW); go_simp; (try with_reducible rfl))
  change wpAnyH _ _ _ _ _ _ _ (Act.put _ (some 6) _) _
  simp only [Act.put, List.setIfInBounds_toArray, List.set_cons_zero, List.set_cons_succ]
  refine wpAnyH_take (i := 4) (v := ?vb_4) rfl (by kernel_rfl) (by kernel_rfl) (by kernel_rfl) (fun _ _ _ h => h) (Or.inl ⟨by first | kernel_rfl | rfl, ?yb_4⟩) hHeld ?rb_4
  case yb_4 => (intro W hSW; (try dsimp only at hSW); go_simp; (try with_reducible rfl))
  change wpAnyH _ _ _ _ _ _ _ (Act.put _ (some 7) _) _
  simp only [Act.put, List.setIfInBounds_toArray, List.set_cons_zero, List.set_cons_succ]
  refine wpAnyH_take (i := 5) (v := ?vb_5) rfl (by kernel_rfl) (by kernel_rfl) (by kernel_rfl) (fun _ _ _ h => h) (Or.inl ⟨by first | kernel_rfl | rfl, ?yb_5⟩) hHeld ?rb_5
  case yb_5 => (intro W hSW; (try dsimp only at hSW); go_simp; (try with_reducible rfl))
  change wpAnyH _ _ _ _ _ _ _ (Act.put _ (some 8) _) _
  simp only [Act.put, List.setIfInBounds_toArray, List.set_cons_zero, List.set_cons_succ]
  refine wpAnyH_take (i := 8) (v := ?vb_8) rfl (by kernel_rfl) (by kernel_rfl) (by kernel_rfl) (fun _ _ _ h => h) (Or.inl ⟨by first | kernel_rfl | rfl, ?yb_8⟩) hHeld ?rb_8
  case yb_8 => (intro W hSW; (try dsimp only at hSW); go_simp; (try with_reducible rfl))
  change wpAnyH _ _ _ _ _ _ _ (Act.put _ (some 11) _) _
  simp only [Act.put, List.setIfInBounds_toArray, List.set_cons_zero, List.set_cons_succ]
  refine wpAnyH_take (i := 9) (v := ?vb_9) rfl (by kernel_rfl) (by kernel_rfl) (by kernel_rfl) (fun _ _ _ h => h) (Or.inl ⟨by first | kernel_rfl | rfl, ?yb_9⟩) hHeld ?rb_9
  case yb_9 => (intro W hSW; (try dsimp only at hSW); go_simp; (try with_reducible rfl))
  change wpAnyH _ _ _ _ _ _ _ (Act.put _ (some 12) _) _
  simp only [Act.put, List.setIfInBounds_toArray, List.set_cons_zero, List.set_cons_succ]
  refine wpAnyH_take (i := 10) (v := ?vb_10) rfl (by kernel_rfl) (by kernel_rfl) (by kernel_rfl) (fun _ _ _ h => h) (Or.inl ⟨by first | kernel_rfl | rfl, ?yb_10⟩) hHeld ?rb_10
  case yb_10 => (intro W hSW; (try dsimp only at hSW); go_simp; (try with_reducible rfl))
  change wpAnyH _ _ _ _ _ _ _ (Act.put _ (some 13) _) _
  simp only [Act.put, List.setIfInBounds_toArray, List.set_cons_zero, List.set_cons_succ]
  refine wpAnyH_ready (rs := [2]) (by kernel_rfl) (by simp) ?_
  refine AllReadyH.cons rfl (fun K hK => ?_) AllReadyH.nil
  go_simp
  refine (HT.out V1.drew).mono ?_
  rintro e V2 ⟨rfl, hb2⟩
  refine hK.out _ _ (HK.out V2 ((Below.refl _ V1).drew.trans hb2)) (fun hHeld => ?_)
  clear hK K
  try simp only [Act.put, List.setIfInBounds_toArray, List.set_cons_zero, List.set_cons_succ]
  have H2 : Hid (Below V1.heap.size V1 V2) := (Below.refl _ V1).drew.trans hb2
  clear hb2
  refine wpAnyH_ready (rs := [6]) (by kernel_rfl) (by simp) ?_
  refine AllReadyH.cons rfl (fun K hK => ?_) AllReadyH.nil
  go_simp
  refine (HP.out V2).mono ?_
  rintro e V3 ⟨rfl, hb3⟩
  refine hK.out _ _ (HK.out V3 (H2.out.trans (hb3.mono H2.out.size))) (fun hHeld => ?_)
  clear hK K
  try simp only [Act.put, List.setIfInBounds_toArray, List.set_cons_zero, List.set_cons_succ]
  have H3 : Hid (Below V1.heap.size V1 V3) := H2.out.trans (hb3.mono H2.out.size)
  clear hb3
  refine wpAnyH_take (i := 7) (v := ?vb_7) rfl (by kernel_rfl) (by kernel_rfl) (by kernel_rfl) (fun _ _ _ h => h) (Or.inl ⟨by first | kernel_rfl | rfl, ?yb_7⟩) hHeld ?rb_7
  case yb_7 => (intro W hSW; (try dsimp only at hSW); go_simp; (try with_reducible rfl))
  change wpAnyH _ _ _ _ _ _ _ (Act.put _ (some 10) _) _
  simp only [Act.put, List.setIfInBounds_toArray, List.set_cons_zero, List.set_cons_succ]
  refine wpAnyH_ready (rs := [11]) (by kernel_rfl) (by simp) ?_
  refine AllReadyH.cons rfl (fun K hK => ?_) AllReadyH.nil
  go_simp
  refine (HU.out V3).mono ?_
  rintro e V4 ⟨rfl, hb4⟩
  refine hK.out _ _ (HK.out V4 (H3.out.trans (hb4.mono H3.out.size))) (fun hHeld => ?_)
  clear hK K
  try simp only [Act.put, List.setIfInBounds_toArray, List.set_cons_zero, List.set_cons_succ]
  have HE : Hid (StTo w (textN p.data.toList ++ putN rn ++ putN un) (.returned (.string (A ++ B ++ C))) V4) := ⟨by rw [HS.out], HB.out.trans ((H3.out.trans (hb4.mono H3.out.size)).mono HB.out.size)⟩
  clear hb4
  refine wpAnyH_take (i := 12) (v := ?vb_12) rfl (by kernel_rfl) (by kernel_rfl) (by kernel_rfl) (fun _ _ _ h => h) (Or.inl ⟨by first | kernel_rfl | rfl, ?yb_12⟩) hHeld ?rb_12
  case yb_12 => (intro W hSW; (try dsimp only at hSW); go_simp; (try with_reducible rfl))
  change wpAnyH _ _ _ _ _ _ _ (Act.put _ (some 15) _) _
  simp only [Act.put, List.setIfInBounds_toArray, List.set_cons_zero, List.set_cons_succ]
  refine wpAnyH_take (i := 13) (v := ?vb_13) rfl (by kernel_rfl) (by kernel_rfl) (by kernel_rfl) (fun _ _ _ h => h) (Or.inl ⟨by first | kernel_rfl | rfl, ?yb_13⟩) hHeld ?rb_13
  case yb_13 => (intro W hSW; (try dsimp only at hSW); go_simp; (try with_reducible rfl))
  change wpAnyH _ _ _ _ _ _ _ (Act.put _ (some 2) _) _
  simp only [Act.put, List.setIfInBounds_toArray, List.set_cons_zero, List.set_cons_succ]
  refine wpAnyH_done (by kernel_rfl) ?_ _
  go_wp2
  go_ret
  exact HE.out
end Go.Proofs.YtcmdcmbiilfngabDoor
