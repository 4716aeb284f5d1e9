/- Proved: for all four texts and every other one the law CipherTags returns true, what was handed in as it was (the theorem of stage 19: of all bytes that are as long, and begin with the same hidden text, just those are opened that were sealed; and what is opened, sealed again, is what was opened); where the packages' tables begin as the program's text lays them. -/
import Derived.Test.YtbflkkffpcaakabDoorWU
import Derived.Test.YtbflkkffpcaakabDoorCards
import Derived.Test.YtbflkkffpcaakabDoorTie
import Derived.WalkKit
import Derived.ProofKit
import Derived.OpenShut
import Derived.ShutString
import Derived.ChangeOld
import Derived.Below
import Derived.LaidMore
import Derived.Lay
import Derived.Stop.Joined
import Derived.SevenTiedAt
namespace Go.Proofs.YtbflkkffpcaakabDoor.cipherTags
open Go.ChangeShapes Go.WideShapes Go.ChangeAt Go.WideMaps Go.WideElems Go.RowKit
open Go.ChangeMaps (open_string shut_string)

set_option maxRecDepth 100000 in
set_option maxHeartbeats 8000000 in
theorem walk (s0 t0 u0 x0 : ByteArray) (s1 : ByteArray) (z1 : s1.size ≤ 140737488351232) (w : World)  (hL : Laid w) :
    Calls Tryd.prog 3 #[.agg #[.string s0, .string t0, .string u0, .string x0], .string s1] w fun e w' => e = .returned (.bool true) ∧ Below w.heap.size w w' := by
  have HLV : Hid (∀ V, Below w.heap.size w V → Calls Tryd.prog 5 #[] V fun e w' => e = .returned (.bool true) ∧ Below V.heap.size V w') := fun V hV => lives_any V (hL.below hV)
  obtain ⟨B, hB⟩ : ∃ B, w.heap.size = B := ⟨_, rfl⟩
  obtain ⟨W1, hW1⟩ : ∃ W, w.alloc (.cells #[.string s0, .string t0, .string u0, .string x0] 22) = W := ⟨_, rfl⟩
  have hr1 : W1.heap[B]? = some (.cells #[.string s0, .string t0, .string u0, .string x0] 22 (0, 0)) := by rw [← hW1, ← hB]; exact heap_alloc_new _ _
  have HR : Hid (W1.heap[B]? = some (.cells #[.string s0, .string t0, .string u0, .string x0] 22 (0, 0))) := hr1
  have HB : Hid (Below w.heap.size w W1) := by rw [← hW1]; exact (Below.refl _ w).alloc (Nat.le_refl _) _
  have HBX : Hid (∀ V, Below W1.heap.size W1 V → V.cell? ⟨B, 0, none⟩ = some (.string s0) ∧ V.cell? ⟨B, 1, none⟩ = some (.string t0) ∧ V.cell? ⟨B, 2, none⟩ = some (.string u0) ∧ V.cell? ⟨B, 3, none⟩ = some (.string x0)) := fun V hV => by
    have hr : V.heap[B]? = some (.cells #[.string s0, .string t0, .string u0, .string x0] 22 (0, 0)) := (hV.block B (lt_of_some hr1)).trans hr1
    refine ⟨?_, ?_, ?_, ?_⟩ <;> (rw [cell_of_row _ _ _ _ _ _ hr]; rfl)
  have HWW : Hid (∀ V, Below W1.heap.size W1 V → Below w.heap.size w V) := fun V hV => HB.out.trans (hV.mono HB.out.size)
  have HSH : Hid (Calls Tryd.prog 4 #[.agg #[.string s0, .string t0, .string u0, .string x0]] W1 fun e w' => e = .returned (.bool (decide (∀ s ∈ [s0, t0, u0, x0], s.size ≤ 1000))) ∧ Below W1.heap.size W1 w') := short_any [s0, t0, u0, x0] W1 rfl
  have hi4 : (Tryd.prog.info? 22).map (·.size) = some (#[.string s0, .string t0, .string u0, .string x0] : Array Value).size := by kernel_rfl
  have HI4 : Hid ((Tryd.prog.info? 22).map (·.size) = some (#[.string s0, .string t0, .string u0, .string x0] : Array Value).size) := hi4
  clear hi4
  obtain ⟨N1, hN1⟩ : ∃ N, s1.size = N := ⟨_, rfl⟩
  rw [hN1] at z1
  by_cases hsh : ∀ s ∈ [s0, t0, u0, x0], s.size ≤ 1000
  rotate_left
  · rw [decide_eq_false hsh] at HSH
    clear hsh hL hr1
    go_enter Tryd.func3, Tryd.ntmps3
    go_wp2_with (refine wpList_load_row rfl 22 _ rfl B rfl 22 #[.string s0, .string t0, .string u0, .string x0] (0, 0) _ HR.out Tryd.underlying22 rfl HI4.out ?_)
    refine HSH.out.mono ?_
    rintro e V0 ⟨rfl, hb0⟩
    have HB0 : Hid (Below W1.heap.size W1 V0) := hb0
    clear HSH hb0
    obtain ⟨y0, y1, y2, y3⟩ := HBX.out V0 (HB0.out)
    go_wp2_with fail
    have HVL : Hid (Below w.heap.size w V0) := HWW.out V0 HB0.out
    have HLX := HLV.out V0 HVL.out
    go_wp2_with fail
    refine HLX.mono ?_
    rintro e VZ ⟨rfl, hbZ⟩
    have HZ : Hid (Below w.heap.size w VZ) := (HVL.out).trans (hbZ.mono (HVL.out).size)
    clear HLX hbZ
    go_wp2
    go_ret
    exact ⟨rfl, HZ.out⟩
  rw [decide_eq_true hsh] at HSH
  have z0 : s0.size ≤ 1000 := hsh s0 (by simp)
  have zt : t0.size ≤ 1000 := hsh t0 (by simp)
  have zu : u0.size ≤ 1000 := hsh u0 (by simp)
  have zx : x0.size ≤ 1000 := hsh x0 (by simp)
  clear hsh hr1
  by_cases h12 : t0.size = 12
  rotate_left
  · have k12 : ¬ (t0.size : Int) = 12 := by omega
    have k12b : ((t0.size : Int) == 12) = false := by simpa using k12
    have k12c : ((t0.size : Int) != 12) = true := by simpa using k12
    clear h12 hL
    go_enter Tryd.func3, Tryd.ntmps3
    go_wp2_with (refine wpList_load_row rfl 22 _ rfl B rfl 22 #[.string s0, .string t0, .string u0, .string x0] (0, 0) _ HR.out Tryd.underlying22 rfl HI4.out ?_)
    refine HSH.out.mono ?_
    rintro e V0 ⟨rfl, hb0⟩
    have HB0 : Hid (Below W1.heap.size W1 V0) := hb0
    clear HSH hb0
    obtain ⟨y0, y1, y2, y3⟩ := HBX.out V0 (HB0.out)
    go_wp2_with fail
    have HVL : Hid (Below w.heap.size w V0) := HWW.out V0 HB0.out
    have HLX := HLV.out V0 HVL.out
    go_wp2_with fail
    refine HLX.mono ?_
    rintro e VZ ⟨rfl, hbZ⟩
    have HZ : Hid (Below w.heap.size w VZ) := (HVL.out).trans (hbZ.mono (HVL.out).size)
    clear HLX hbZ
    go_wp2
    go_ret
    exact ⟨rfl, HZ.out⟩
  by_cases h16 : N1 ≤ 16
  rotate_left
  · have k16 : (16 : Int) < (N1 : Int) := by omega
    clear h16 hL
    go_enter Tryd.func3, Tryd.ntmps3
    go_wp2_with (refine wpList_load_row rfl 22 _ rfl B rfl 22 #[.string s0, .string t0, .string u0, .string x0] (0, 0) _ HR.out Tryd.underlying22 rfl HI4.out ?_)
    refine HSH.out.mono ?_
    rintro e V0 ⟨rfl, hb0⟩
    have HB0 : Hid (Below W1.heap.size W1 V0) := hb0
    clear HSH hb0
    obtain ⟨y0, y1, y2, y3⟩ := HBX.out V0 (HB0.out)
    go_wp2_with fail
    have HVL : Hid (Below w.heap.size w V0) := HWW.out V0 HB0.out
    have HLX := HLV.out V0 HVL.out
    go_wp2_with fail
    refine HLX.mono ?_
    rintro e VZ ⟨rfl, hbZ⟩
    have HZ : Hid (Below w.heap.size w VZ) := (HVL.out).trans (hbZ.mono (HVL.out).size)
    clear HLX hbZ
    go_wp2
    go_ret
    exact ⟨rfl, HZ.out⟩
  have k16 : ¬ (16 : Int) < (N1 : Int) := by omega
  obtain ⟨X, hX⟩ : ∃ X, x0.size = X := ⟨_, rfl⟩
  obtain ⟨H, hH⟩ : ∃ H, strOf (hidL s0.data.toList t0.data.toList x0.data.toList) = H := ⟨_, rfl⟩
  obtain ⟨G, hG⟩ : ∃ G, strOf (tagL s0.data.toList t0.data.toList u0.data.toList (hidL s0.data.toList t0.data.toList x0.data.toList)) = G := ⟨_, rfl⟩
  obtain ⟨D, hD⟩ : ∃ D, strOf (shutL s0.data.toList t0.data.toList u0.data.toList x0.data.toList) = D := ⟨_, rfl⟩
  have hHs : H.size = X := by rw [← hH, strOf_size, hidL_len, lenL, hX]
  have hGs : G.size = 16 := by rw [← hG, strOf_size, tagL_len]
  have hHl : H.data.toList = hidL s0.data.toList t0.data.toList x0.data.toList := by rw [← hH, strOf_list]
  have hGl : G.data.toList = tagL s0.data.toList t0.data.toList u0.data.toList H.data.toList := by rw [← hG, strOf_list, hHl]
  have hDD : D = strOf (H.data.toList ++ G.data.toList) := by rw [← hD, hHl, ← hG, strOf_list]; rfl
  obtain ⟨Y, hY⟩ : ∃ Y, X + 16 = Y := ⟨_, rfl⟩
  have hDs : D.size = Y := by rw [hDD, strOf_size, List.length_append, lenL, lenL, hHs, hGs, hY]
  have e1 : D.extract 0 X = H := by
    rw [hDD, strOf_upto, List.take_append_of_le_length (by rw [lenL, hHs]; omega), List.take_of_length_le (by rw [lenL, hHs]; omega)]
    apply ByteArray.ext; simp [strOf]
  have e2 : D.extract X Y = G := by
    have h := strOf_from (H.data.toList ++ G.data.toList) X
    rw [← hDD, hDs] at h
    rw [h, List.drop_append_of_le_length (by rw [lenL, hHs]; omega), List.drop_of_length_le (by rw [lenL, hHs]; omega), List.nil_append]
    apply ByteArray.ext; simp [strOf]
  have kY : (X : Int) + 16 = (Y : Int) := by omega
  have HL : Hid (∀ V, Below w.heap.size w V → Laid V) := fun V hV => hL.below hV
  have HSE0 : Hid (∀ V, Below w.heap.size w V → Calls Tryd.prog 6 #[.string s0, .string t0, .string u0, .string x0] V fun e w' => e = .returned (.tuple #[.string D, .int .i64 0]) ∧ Below V.heap.size V w') := fun V hV => by
    rw [← hD]; exact cseal_any s0 t0 u0 x0 V (by omega) h12 (by omega) (by omega) (HL.out V hV)
  obtain ⟨OT, hOT⟩ : ∃ O, openT s0.data.toList t0.data.toList u0.data.toList x0.data.toList = O := ⟨_, rfl⟩
  obtain ⟨OE, hOE⟩ : ∃ O, openE s0.data.toList t0.data.toList u0.data.toList x0.data.toList = O := ⟨_, rfl⟩
  have HOX : Hid (∀ V, Below w.heap.size w V → Calls Tryd.prog 7 #[.string s0, .string t0, .string u0, .string x0] V fun e w' => e = .returned (.tuple #[.string OT, .int .i64 (OE : Int)]) ∧ Below V.heap.size V w') := fun V hV => by
    rw [← hOT, ← hOE]; exact copen_any s0 t0 u0 x0 V (by omega) (by omega) (by omega) (by omega) (HL.out V hV)
  have h12' : t0.data.toList.length = 12 := by rw [lenL]; exact h12
  have HEE : Hid ((OE = 0 ∧ ∀ V, Below w.heap.size w V → Calls Tryd.prog 6 #[.string s0, .string t0, .string u0, .string OT] V fun e w' => e = .returned (.tuple #[.string x0, .int .i64 0]) ∧ Below V.heap.size V w') ∨ (OE ≠ 0 ∧ OT = ByteArray.empty)) := by
    by_cases hx16 : 16 ≤ x0.data.toList.length
    · by_cases hri : rightL s0.data.toList t0.data.toList u0.data.toList x0.data.toList
      · left
        unfold openT at hOT
        unfold openE at hOE
        rw [if_pos ⟨h12', hx16, hri⟩] at hOT
        rw [if_pos h12', if_pos hx16, if_pos hri] at hOE
        refine ⟨hOE.symm, fun V hV => ?_⟩
        have h9 := cseal_any s0 t0 u0 OT V (by omega) h12 (by omega) (by rw [← hOT, strOf_size, hidL_len, List.length_take, lenL]; omega) (HL.out V hV)
        rw [show OT.data.toList = hidL s0.data.toList t0.data.toList (x0.data.toList.take (x0.data.toList.length - 16)) by rw [← hOT, strOf_list], (right_iff _ _ _ _ hx16).1 hri, show strOf x0.data.toList = x0 by apply ByteArray.ext; simp [strOf]] at h9
        exact h9
      · right
        unfold openT at hOT
        unfold openE at hOE
        rw [if_neg (fun h => hri h.2.2)] at hOT
        rw [if_pos h12', if_pos hx16, if_neg hri] at hOE
        exact ⟨by omega, hOT.symm⟩
    · right
      unfold openT at hOT
      unfold openE at hOE
      rw [if_neg (fun h => hx16 h.2.1)] at hOT
      rw [if_pos h12', if_neg hx16] at hOE
      exact ⟨by omega, hOT.symm⟩
  have hxx : (x0.toList == x0.toList) = true := by simp
  by_cases hn16 : N1 = 16
  rotate_left
  · have kn : ¬ (N1 : Int) = 16 := by omega
    have knb : ((N1 : Int) == 16) = false := by simpa using kn
    clear h12' hL HL hD hDD hH hG hHl hGl hOT hOE h16 hn16
    go_enter Tryd.func3, Tryd.ntmps3
    go_wp2_with (refine wpList_load_row rfl 22 _ rfl B rfl 22 #[.string s0, .string t0, .string u0, .string x0] (0, 0) _ HR.out Tryd.underlying22 rfl HI4.out ?_)
    refine HSH.out.mono ?_
    rintro e V0 ⟨rfl, hb0⟩
    have HB0 : Hid (Below W1.heap.size W1 V0) := hb0
    clear HSH hb0
    obtain ⟨y0, y1, y2, y3⟩ := HBX.out V0 (HB0.out)
    have HSE1 := HSE0.out V0 (HWW.out V0 HB0.out)
    clear HSE0
    go_wp2_with fail
    refine HSE1.mono ?_
    rintro e V1 ⟨rfl, hb1⟩
    have HB1 : Hid (Below W1.heap.size W1 V1) := HB0.out.trans (hb1.mono HB0.out.size)
    clear HSE1 hb1 y0 y1 y2 y3
    obtain ⟨y0, y1, y2, y3⟩ := HBX.out V1 (HB1.out)
    have HOX1 := HOX.out V1 (HWW.out V1 HB1.out)
    clear HOX
    go_wp2_with fail
    refine HOX1.mono ?_
    rintro e V8 ⟨rfl, hb8⟩
    have HB8 : Hid (Below W1.heap.size W1 V8) := HB1.out.trans (hb8.mono HB1.out.size)
    clear HOX1 hb8 y0 y1 y2 y3
    rcases HEE.out with ⟨hoe, hse⟩ | ⟨hoe, hot⟩
    · subst hoe
      have HSE : Hid (∀ V, Below w.heap.size w V → Calls Tryd.prog 6 #[.string s0, .string t0, .string u0, .string OT] V fun e w' => e = .returned (.tuple #[.string x0, .int .i64 0]) ∧ Below V.heap.size V w') := hse
      clear hse HEE
      obtain ⟨y0, y1, y2, y3⟩ := HBX.out V8 (HB8.out)
      have HSE1 := HSE.out V8 (HWW.out V8 HB8.out)
      clear HSE
      go_wp2_with fail
      refine HSE1.mono ?_
      rintro e V9 ⟨rfl, hb9⟩
      have HB9 : Hid (Below W1.heap.size W1 V9) := HB8.out.trans (hb9.mono HB8.out.size)
      clear HSE1 hb9 y0 y1 y2 y3
      obtain ⟨y0, y1, y2, y3⟩ := HBX.out V9 (HB9.out)
      have HVL : Hid (Below w.heap.size w V9) := HWW.out V9 HB9.out
      have HLX := HLV.out V9 HVL.out
      go_wp2_with fail
      refine HLX.mono ?_
      rintro e VZ ⟨rfl, hbZ⟩
      have HZ : Hid (Below w.heap.size w VZ) := (HVL.out).trans (hbZ.mono (HVL.out).size)
      clear HLX hbZ
      go_wp2
      go_ret
      exact ⟨rfl, HZ.out⟩
    · subst hot
      have ko : ¬ (OE : Int) = 0 := by omega
      have kob : ((OE : Int) == 0) = false := by simpa using ko
      clear hoe HEE
      go_wp2_with fail
      have HVL : Hid (Below w.heap.size w V8) := HWW.out V8 HB8.out
      have HLX := HLV.out V8 HVL.out
      go_wp2_with fail
      refine HLX.mono ?_
      rintro e VZ ⟨rfl, hbZ⟩
      have HZ : Hid (Below w.heap.size w VZ) := (HVL.out).trans (hbZ.mono (HVL.out).size)
      clear HLX hbZ
      go_wp2
      go_ret
      exact ⟨rfl, HZ.out⟩
  subst hn16
  obtain ⟨P, hP⟩ : ∃ P, H ++ s1 = P := ⟨_, rfl⟩
  have hPl : P.data.toList = H.data.toList ++ s1.data.toList := by rw [← hP]; simp
  have hPs : P.data.toList.length = X + 16 := by rw [hPl, List.length_append, lenL, lenL, hHs, hN1]
  have hri : rightL s0.data.toList t0.data.toList u0.data.toList P.data.toList ↔ s1 = G := by
    unfold rightL
    rw [hPs, Nat.add_sub_cancel, hPl, List.drop_append_of_le_length (by rw [lenL, hHs]; omega), List.drop_of_length_le (by rw [lenL, hHs]; omega), List.nil_append, List.take_append_of_le_length (by rw [lenL, hHs]; omega), List.take_of_length_le (by rw [lenL, hHs]; omega), ← hGl]
    constructor
    · intro h; apply ByteArray.ext; exact Array.toList_inj.1 h
    · intro h; rw [h]
  obtain ⟨PT, hPT⟩ : ∃ O, openT s0.data.toList t0.data.toList u0.data.toList P.data.toList = O := ⟨_, rfl⟩
  obtain ⟨PE, hPE⟩ : ∃ O, openE s0.data.toList t0.data.toList u0.data.toList P.data.toList = O := ⟨_, rfl⟩
  have HOO : Hid (∀ V, Below w.heap.size w V → Calls Tryd.prog 7 #[.string s0, .string t0, .string u0, .string P] V fun e w' => e = .returned (.tuple #[.string PT, .int .i64 (PE : Int)]) ∧ Below V.heap.size V w') := fun V hV => by
    rw [← hPT, ← hPE]; exact copen_any s0 t0 u0 P V (by omega) (by omega) (by omega) (by rw [← lenL, hPs]; omega) (HL.out V hV)
  unfold openE at hPE
  rw [if_pos h12', if_pos (by rw [hPs]; omega)] at hPE
  have kXY : X ≤ Y := by omega
  have kYm : ¬ 9223372036854775807 < Y := by omega
  have kXY2 : (X : Int) ≤ (Y : Int) := by omega
  by_cases hoG : s1 = G
  · rw [if_pos (hri.2 hoG)] at hPE
    subst hPE
    have hbe : (s1.toList == G.toList) = true := by rw [hoG]; simp
    clear h12' hL HL hD hDD hH hG hHl hGl hOT hOE h16 hri hPT hPl hPs hoG
    go_enter Tryd.func3, Tryd.ntmps3
    go_wp2_with (refine wpList_load_row rfl 22 _ rfl B rfl 22 #[.string s0, .string t0, .string u0, .string x0] (0, 0) _ HR.out Tryd.underlying22 rfl HI4.out ?_)
    refine HSH.out.mono ?_
    rintro e V0 ⟨rfl, hb0⟩
    have HB0 : Hid (Below W1.heap.size W1 V0) := hb0
    clear HSH hb0
    obtain ⟨y0, y1, y2, y3⟩ := HBX.out V0 (HB0.out)
    have HSE1 := HSE0.out V0 (HWW.out V0 HB0.out)
    clear HSE0
    go_wp2_with fail
    refine HSE1.mono ?_
    rintro e V1 ⟨rfl, hb1⟩
    have HB1 : Hid (Below W1.heap.size W1 V1) := HB0.out.trans (hb1.mono HB0.out.size)
    clear HSE1 hb1 y0 y1 y2 y3
    obtain ⟨y0, y1, y2, y3⟩ := HBX.out V1 (HB1.out)
    go_wp2_with fail
    refine wp_region_held_drew (S := fun W => W.cell? ⟨B, 0, none⟩ = some (.string s0) ∧ W.cell? ⟨B, 1, none⟩ = some (.string t0) ∧ W.cell? ⟨B, 2, none⟩ = some (.string u0) ∧ W.cell? ⟨B, 3, none⟩ = some (.string x0)) (by kernel_rfl) (HBX.out _ HB1.out.drew) (fun hHeld => ?_)
    refine wpAnyH_take (i := 0) (v := ?va_0) rfl (by kernel_rfl) (by kernel_rfl) (by kernel_rfl) (fun _ _ _ h => h) (Or.inl ⟨by first | kernel_rfl | rfl, ?ya_0⟩) hHeld ?ra_0
    case ya_0 => (intro W hSW; (try dsimp only at hSW); go_simp; (try with_reducible rfl))
    change wpAnyH _ _ _ _ _ _ _ (Act.put _ (some 55) _) _
    simp only [Act.put, List.setIfInBounds_toArray, List.set_cons_zero, List.set_cons_succ]
    refine wpAnyH_take (i := 1) (v := ?va_1) rfl (by kernel_rfl) (by kernel_rfl) (by kernel_rfl) (fun _ _ _ h => h) (Or.inl ⟨by first | kernel_rfl | rfl, ?ya_1⟩) hHeld ?ra_1
    case ya_1 => (intro W hSW; (try dsimp only at hSW); go_simp; (try with_reducible rfl))
    change wpAnyH _ _ _ _ _ _ _ (Act.put _ (some 56) _) _
    simp only [Act.put, List.setIfInBounds_toArray, List.set_cons_zero, List.set_cons_succ]
    refine wpAnyH_take (i := 2) (v := ?va_2) rfl (by kernel_rfl) (by kernel_rfl) (by kernel_rfl) (fun _ _ _ h => h) (Or.inl ⟨by first | kernel_rfl | rfl, ?ya_2⟩) hHeld ?ra_2
    case ya_2 => (intro W hSW; (try dsimp only at hSW); go_simp; (try with_reducible rfl))
    change wpAnyH _ _ _ _ _ _ _ (Act.put _ (some 57) _) _
    simp only [Act.put, List.setIfInBounds_toArray, List.set_cons_zero, List.set_cons_succ]
    refine wpAnyH_take (i := 3) (v := ?va_3) rfl (by kernel_rfl) (by kernel_rfl) (by kernel_rfl) (fun _ _ _ h => h) (Or.inl ⟨by first | kernel_rfl | rfl, ?ya_3⟩) hHeld ?ra_3
    case ya_3 => (intro W hSW; (try dsimp only at hSW); go_simp; (try with_reducible rfl))
    change wpAnyH _ _ _ _ _ _ _ (Act.put _ (some 58) _) _
    simp only [Act.put, List.setIfInBounds_toArray, List.set_cons_zero, List.set_cons_succ]
    refine wpAnyH_take (i := 4) (v := ?va_4) rfl (by kernel_rfl) (by kernel_rfl) (by kernel_rfl) (fun _ _ _ h => h) (Or.inl ⟨by first | kernel_rfl | rfl, ?ya_4⟩) hHeld ?ra_4
    case ya_4 => (intro W hSW; (try dsimp only at hSW); go_simp; (try with_reducible rfl))
    change wpAnyH _ _ _ _ _ _ _ (Act.put _ (some 59) _) _
    simp only [Act.put, List.setIfInBounds_toArray, List.set_cons_zero, List.set_cons_succ]
    refine wpAnyH_take (i := 5) (v := ?va_5) rfl (by kernel_rfl) (by kernel_rfl) (by kernel_rfl) (fun _ _ _ h => h) (Or.inl ⟨by first | kernel_rfl | rfl, ?ya_5⟩) hHeld ?ra_5
    case ya_5 => (intro W hSW; (try dsimp only at hSW); go_simp; (try with_reducible rfl))
    change wpAnyH _ _ _ _ _ _ _ (Act.put _ (some 60) _) _
    simp only [Act.put, List.setIfInBounds_toArray, List.set_cons_zero, List.set_cons_succ]
    refine wpAnyH_take (i := 6) (v := ?va_6) rfl (by kernel_rfl) (by kernel_rfl) (by kernel_rfl) (fun _ _ _ h => h) (Or.inl ⟨by first | kernel_rfl | rfl, ?ya_6⟩) hHeld ?ra_6
    case ya_6 => (intro W hSW; (try dsimp only at hSW); go_simp; (try with_reducible rfl))
    change wpAnyH _ _ _ _ _ _ _ (Act.put _ (some 61) _) _
    simp only [Act.put, List.setIfInBounds_toArray, List.set_cons_zero, List.set_cons_succ]
    refine wpAnyH_take (i := 7) (v := ?va_7) rfl (by kernel_rfl) (by kernel_rfl) (by kernel_rfl) (fun _ _ _ h => h) (Or.inl ⟨by first | kernel_rfl | rfl, ?ya_7⟩) hHeld ?ra_7
    case ya_7 => (intro W hSW; (try dsimp only at hSW); go_simp; (try with_reducible rfl))
    change wpAnyH _ _ _ _ _ _ _ (Act.put _ (some 62) _) _
    simp only [Act.put, List.setIfInBounds_toArray, List.set_cons_zero, List.set_cons_succ]
    refine wpAnyH_take (i := 8) (v := ?va_8) rfl (by kernel_rfl) (by kernel_rfl) (by kernel_rfl) (fun _ _ _ h => h) (Or.inl ⟨by first | kernel_rfl | rfl, ?ya_8⟩) hHeld ?ra_8
    case ya_8 => (intro W hSW; (try dsimp only at hSW); go_simp; (try with_reducible rfl))
    change wpAnyH _ _ _ _ _ _ _ (Act.put _ (some 63) _) _
    simp only [Act.put, List.setIfInBounds_toArray, List.set_cons_zero, List.set_cons_succ]
    refine wpAnyH_take (i := 9) (v := ?va_9) rfl (by kernel_rfl) (by kernel_rfl) (by kernel_rfl) (fun _ _ _ h => h) (Or.inl ⟨by first | kernel_rfl | rfl, ?ya_9⟩) hHeld ?ra_9
    case ya_9 => (intro W hSW; (try dsimp only at hSW); go_simp; (try with_reducible rfl))
    change wpAnyH _ _ _ _ _ _ _ (Act.put _ (some 64) _) _
    simp only [Act.put, List.setIfInBounds_toArray, List.set_cons_zero, List.set_cons_succ]
    refine wpAnyH_take (i := 10) (v := ?va_10) rfl (by kernel_rfl) (by kernel_rfl) (by kernel_rfl) (fun _ _ _ h => h) (Or.inl ⟨by first | kernel_rfl | rfl, ?ya_10⟩) hHeld ?ra_10
    case ya_10 => (intro W hSW; (try dsimp only at hSW); go_simp; (try with_reducible rfl))
    change wpAnyH _ _ _ _ _ _ _ (Act.put _ (some 65) _) _
    simp only [Act.put, List.setIfInBounds_toArray, List.set_cons_zero, List.set_cons_succ]
    refine wpAnyH_take (i := 11) (v := ?va_11) rfl (by kernel_rfl) (by kernel_rfl) (by kernel_rfl) (fun _ _ _ h => h) (Or.inl ⟨by first | kernel_rfl | rfl, ?ya_11⟩) hHeld ?ra_11
    case ya_11 => (intro W hSW; (try dsimp only at hSW); go_simp; (try with_reducible rfl))
    change wpAnyH _ _ _ _ _ _ _ (Act.put _ (some 66) _) _
    simp only [Act.put, List.setIfInBounds_toArray, List.set_cons_zero, List.set_cons_succ]
    refine wpAnyH_take (i := 12) (v := ?va_12) rfl (by kernel_rfl) (by kernel_rfl) (by kernel_rfl) (fun _ _ _ h => h) (Or.inl ⟨by first | kernel_rfl | rfl, ?ya_12⟩) hHeld ?ra_12
    case ya_12 => (intro W hSW; (try dsimp only at hSW); go_simp; (try with_reducible rfl))
    change wpAnyH _ _ _ _ _ _ _ (Act.put _ (some 67) _) _
    simp only [Act.put, List.setIfInBounds_toArray, List.set_cons_zero, List.set_cons_succ]
    refine wpAnyH_ready (rs := [13]) (by kernel_rfl) (by simp) ?_
    refine AllReadyH.cons rfl (fun K hK => ?_) AllReadyH.nil
    go_simp
    refine (HOO.out V1.drew (HWW.out _ HB1.out.drew)).mono ?_
    rintro e V2 ⟨rfl, hb2⟩
    refine hK.out _ _ (HBX.out _ (HB1.out.drew.trans (hb2.mono HB1.out.size))) (fun hHeld => ?_)
    clear hK K
    try simp only [Act.put, List.setIfInBounds_toArray, List.set_cons_zero, List.set_cons_succ]
    refine wpAnyH_take (i := 14) (v := ?va_14) rfl (by kernel_rfl) (by kernel_rfl) (by kernel_rfl) (fun _ _ _ h => h) (Or.inl ⟨by first | kernel_rfl | rfl, ?ya_14⟩) hHeld ?ra_14
    case ya_14 => (intro W hSW; (try dsimp only at hSW); go_simp; (try with_reducible rfl))
    change wpAnyH _ _ _ _ _ _ _ (Act.put _ (some 54) _) _
    simp only [Act.put, List.setIfInBounds_toArray, List.set_cons_zero, List.set_cons_succ]
    refine wpAnyH_take (i := 15) (v := ?va_15) rfl (by kernel_rfl) (by kernel_rfl) (by kernel_rfl) (fun _ _ _ h => h) (Or.inl ⟨by first | kernel_rfl | rfl, ?ya_15⟩) hHeld ?ra_15
    case ya_15 => (intro W hSW; (try dsimp only at hSW); go_simp; (try with_reducible rfl))
    change wpAnyH _ _ _ _ _ _ _ (Act.put _ (some 69) _) _
    simp only [Act.put, List.setIfInBounds_toArray, List.set_cons_zero, List.set_cons_succ]
    refine wpAnyH_take (i := 16) (v := ?va_16) rfl (by kernel_rfl) (by kernel_rfl) (by kernel_rfl) (fun _ _ _ h => h) (Or.inl ⟨by first | kernel_rfl | rfl, ?ya_16⟩) hHeld ?ra_16
    case ya_16 => (intro W hSW; (try dsimp only at hSW); go_simp; (try with_reducible rfl))
    change wpAnyH _ _ _ _ _ _ _ (Act.put _ (some 70) _) _
    simp only [Act.put, List.setIfInBounds_toArray, List.set_cons_zero, List.set_cons_succ]
    refine wpAnyH_take (i := 17) (v := ?va_17) rfl (by kernel_rfl) (by kernel_rfl) (by kernel_rfl) (fun _ _ _ h => h) (Or.inl ⟨by first | kernel_rfl | rfl, ?ya_17⟩) hHeld ?ra_17
    case ya_17 => (intro W hSW; (try dsimp only at hSW); go_simp; (try with_reducible rfl))
    change wpAnyH _ _ _ _ _ _ _ (Act.put _ (some 7) _) _
    simp only [Act.put, List.setIfInBounds_toArray, List.set_cons_zero, List.set_cons_succ]
    refine wpAnyH_take (i := 18) (v := ?va_18) rfl (by kernel_rfl) (by kernel_rfl) (by kernel_rfl) (fun _ _ _ h => h) (Or.inl ⟨by first | kernel_rfl | rfl, ?ya_18⟩) hHeld ?ra_18
    case ya_18 => (intro W hSW; (try dsimp only at hSW); go_simp; (try with_reducible rfl))
    change wpAnyH _ _ _ _ _ _ _ (Act.put _ (some 8) _) _
    simp only [Act.put, List.setIfInBounds_toArray, List.set_cons_zero, List.set_cons_succ]
    refine wpAnyH_done (by kernel_rfl) ?_ _
    have HB2 : Hid (Below W1.heap.size W1 V2) := HB1.out.drew.trans (hb2.mono HB1.out.size)
    clear hb2 HOO y0 y1 y2 y3
    obtain ⟨y0, y1, y2, y3⟩ := HBX.out V2 (HB2.out)
    have HOX1 := HOX.out V2 (HWW.out V2 HB2.out)
    clear HOX
    go_wp2_with fail
    refine HOX1.mono ?_
    rintro e V8 ⟨rfl, hb8⟩
    have HB8 : Hid (Below W1.heap.size W1 V8) := HB2.out.trans (hb8.mono HB2.out.size)
    clear HOX1 hb8 y0 y1 y2 y3
    rcases HEE.out with ⟨hoe, hse⟩ | ⟨hoe, hot⟩
    · subst hoe
      have HSE : Hid (∀ V, Below w.heap.size w V → Calls Tryd.prog 6 #[.string s0, .string t0, .string u0, .string OT] V fun e w' => e = .returned (.tuple #[.string x0, .int .i64 0]) ∧ Below V.heap.size V w') := hse
      clear hse HEE
      obtain ⟨y0, y1, y2, y3⟩ := HBX.out V8 (HB8.out)
      have HSE1 := HSE.out V8 (HWW.out V8 HB8.out)
      clear HSE
      go_wp2_with fail
      refine HSE1.mono ?_
      rintro e V9 ⟨rfl, hb9⟩
      have HB9 : Hid (Below W1.heap.size W1 V9) := HB8.out.trans (hb9.mono HB8.out.size)
      clear HSE1 hb9 y0 y1 y2 y3
      obtain ⟨y0, y1, y2, y3⟩ := HBX.out V9 (HB9.out)
      have HVL : Hid (Below w.heap.size w V9) := HWW.out V9 HB9.out
      have HLX := HLV.out V9 HVL.out
      go_wp2_with fail
      refine HLX.mono ?_
      rintro e VZ ⟨rfl, hbZ⟩
      have HZ : Hid (Below w.heap.size w VZ) := (HVL.out).trans (hbZ.mono (HVL.out).size)
      clear HLX hbZ
      go_wp2
      go_ret
      exact ⟨rfl, HZ.out⟩
    · subst hot
      have ko : ¬ (OE : Int) = 0 := by omega
      have kob : ((OE : Int) == 0) = false := by simpa using ko
      clear hoe HEE
      go_wp2_with fail
      have HVL : Hid (Below w.heap.size w V8) := HWW.out V8 HB8.out
      have HLX := HLV.out V8 HVL.out
      go_wp2_with fail
      refine HLX.mono ?_
      rintro e VZ ⟨rfl, hbZ⟩
      have HZ : Hid (Below w.heap.size w VZ) := (HVL.out).trans (hbZ.mono (HVL.out).size)
      clear HLX hbZ
      go_wp2
      go_ret
      exact ⟨rfl, HZ.out⟩
  · rw [if_neg (fun h => hoG (hri.1 h))] at hPE
    subst hPE
    have hbe := strs_nb hoG
    clear h12' hL HL hD hDD hH hG hHl hGl hOT hOE h16 hri hPT hPl hPs hoG
    go_enter Tryd.func3, Tryd.ntmps3
    go_wp2_with (refine wpList_load_row rfl 22 _ rfl B rfl 22 #[.string s0, .string t0, .string u0, .string x0] (0, 0) _ HR.out Tryd.underlying22 rfl HI4.out ?_)
    refine HSH.out.mono ?_
    rintro e V0 ⟨rfl, hb0⟩
    have HB0 : Hid (Below W1.heap.size W1 V0) := hb0
    clear HSH hb0
    obtain ⟨y0, y1, y2, y3⟩ := HBX.out V0 (HB0.out)
    have HSE1 := HSE0.out V0 (HWW.out V0 HB0.out)
    clear HSE0
    go_wp2_with fail
    refine HSE1.mono ?_
    rintro e V1 ⟨rfl, hb1⟩
    have HB1 : Hid (Below W1.heap.size W1 V1) := HB0.out.trans (hb1.mono HB0.out.size)
    clear HSE1 hb1 y0 y1 y2 y3
    obtain ⟨y0, y1, y2, y3⟩ := HBX.out V1 (HB1.out)
    go_wp2_with fail
    refine wp_region_held_drew (S := fun W => W.cell? ⟨B, 0, none⟩ = some (.string s0) ∧ W.cell? ⟨B, 1, none⟩ = some (.string t0) ∧ W.cell? ⟨B, 2, none⟩ = some (.string u0) ∧ W.cell? ⟨B, 3, none⟩ = some (.string x0)) (by kernel_rfl) (HBX.out _ HB1.out.drew) (fun hHeld => ?_)
    refine wpAnyH_take (i := 0) (v := ?vb_0) rfl (by kernel_rfl) (by kernel_rfl) (by kernel_rfl) (fun _ _ _ h => h) (Or.inl ⟨by first | kernel_rfl | rfl, ?yb_0⟩) hHeld ?rb_0
    case yb_0 => (intro W hSW; (try dsimp only at hSW); go_simp; (try with_reducible rfl))
    change wpAnyH _ _ _ _ _ _ _ (Act.put _ (some 55) _) _
    simp only [Act.put, List.setIfInBounds_toArray, List.set_cons_zero, List.set_cons_succ]
    refine wpAnyH_take (i := 1) (v := ?vb_1) rfl (by kernel_rfl) (by kernel_rfl) (by kernel_rfl) (fun _ _ _ h => h) (Or.inl ⟨by first | kernel_rfl | rfl, ?yb_1⟩) hHeld ?rb_1
    case yb_1 => (intro W hSW; (try dsimp only at hSW); go_simp; (try with_reducible rfl))
    change wpAnyH _ _ _ _ _ _ _ (Act.put _ (some 56) _) _
    simp only [Act.put, List.setIfInBounds_toArray, List.set_cons_zero, List.set_cons_succ]
    refine wpAnyH_take (i := 2) (v := ?vb_2) rfl (by kernel_rfl) (by kernel_rfl) (by kernel_rfl) (fun _ _ _ h => h) (Or.inl ⟨by first | kernel_rfl | rfl, ?yb_2⟩) hHeld ?rb_2
    case yb_2 => (intro W hSW; (try dsimp only at hSW); go_simp; (try with_reducible rfl))
    change wpAnyH _ _ _ _ _ _ _ (Act.put _ (some 57) _) _
    simp only [Act.put, List.setIfInBounds_toArray, List.set_cons_zero, List.set_cons_succ]
    refine wpAnyH_take (i := 3) (v := ?vb_3) rfl (by kernel_rfl) (by kernel_rfl) (by kernel_rfl) (fun _ _ _ h => h) (Or.inl ⟨by first | kernel_rfl | rfl, ?yb_3⟩) hHeld ?rb_3
    case yb_3 => (intro W hSW; (try dsimp only at hSW); go_simp; (try with_reducible rfl))
    change wpAnyH _ _ _ _ _ _ _ (Act.put _ (some 58) _) _
    simp only [Act.put, List.setIfInBounds_toArray, List.set_cons_zero, List.set_cons_succ]
    refine wpAnyH_take (i := 4) (v := ?vb_4) rfl (by kernel_rfl) (by kernel_rfl) (by kernel_rfl) (fun _ _ _ h => h) (Or.inl ⟨by first | kernel_rfl | rfl, ?yb_4⟩) hHeld ?rb_4
    case yb_4 => (intro W hSW; (try dsimp only at hSW); go_simp; (try with_reducible rfl))
    change wpAnyH _ _ _ _ _ _ _ (Act.put _ (some 59) _) _
    simp only [Act.put, List.setIfInBounds_toArray, List.set_cons_zero, List.set_cons_succ]
    refine wpAnyH_take (i := 5) (v := ?vb_5) rfl (by kernel_rfl) (by kernel_rfl) (by kernel_rfl) (fun _ _ _ h => h) (Or.inl ⟨by first | kernel_rfl | rfl, ?yb_5⟩) hHeld ?rb_5
    case yb_5 => (intro W hSW; (try dsimp only at hSW); go_simp; (try with_reducible rfl))
    change wpAnyH _ _ _ _ _ _ _ (Act.put _ (some 60) _) _
    simp only [Act.put, List.setIfInBounds_toArray, List.set_cons_zero, List.set_cons_succ]
    refine wpAnyH_take (i := 6) (v := ?vb_6) rfl (by kernel_rfl) (by kernel_rfl) (by kernel_rfl) (fun _ _ _ h => h) (Or.inl ⟨by first | kernel_rfl | rfl, ?yb_6⟩) hHeld ?rb_6
    case yb_6 => (intro W hSW; (try dsimp only at hSW); go_simp; (try with_reducible rfl))
    change wpAnyH _ _ _ _ _ _ _ (Act.put _ (some 61) _) _
    simp only [Act.put, List.setIfInBounds_toArray, List.set_cons_zero, List.set_cons_succ]
    refine wpAnyH_take (i := 7) (v := ?vb_7) rfl (by kernel_rfl) (by kernel_rfl) (by kernel_rfl) (fun _ _ _ h => h) (Or.inl ⟨by first | kernel_rfl | rfl, ?yb_7⟩) hHeld ?rb_7
    case yb_7 => (intro W hSW; (try dsimp only at hSW); go_simp; (try with_reducible rfl))
    change wpAnyH _ _ _ _ _ _ _ (Act.put _ (some 62) _) _
    simp only [Act.put, List.setIfInBounds_toArray, List.set_cons_zero, List.set_cons_succ]
    refine wpAnyH_take (i := 8) (v := ?vb_8) rfl (by kernel_rfl) (by kernel_rfl) (by kernel_rfl) (fun _ _ _ h => h) (Or.inl ⟨by first | kernel_rfl | rfl, ?yb_8⟩) hHeld ?rb_8
    case yb_8 => (intro W hSW; (try dsimp only at hSW); go_simp; (try with_reducible rfl))
    change wpAnyH _ _ _ _ _ _ _ (Act.put _ (some 63) _) _
    simp only [Act.put, List.setIfInBounds_toArray, List.set_cons_zero, List.set_cons_succ]
    refine wpAnyH_take (i := 9) (v := ?vb_9) rfl (by kernel_rfl) (by kernel_rfl) (by kernel_rfl) (fun _ _ _ h => h) (Or.inl ⟨by first | kernel_rfl | rfl, ?yb_9⟩) hHeld ?rb_9
    case yb_9 => (intro W hSW; (try dsimp only at hSW); go_simp; (try with_reducible rfl))
    change wpAnyH _ _ _ _ _ _ _ (Act.put _ (some 64) _) _
    simp only [Act.put, List.setIfInBounds_toArray, List.set_cons_zero, List.set_cons_succ]
    refine wpAnyH_take (i := 10) (v := ?vb_10) rfl (by kernel_rfl) (by kernel_rfl) (by kernel_rfl) (fun _ _ _ h => h) (Or.inl ⟨by first | kernel_rfl | rfl, ?yb_10⟩) hHeld ?rb_10
    case yb_10 => (intro W hSW; (try dsimp only at hSW); go_simp; (try with_reducible rfl))
    change wpAnyH _ _ _ _ _ _ _ (Act.put _ (some 65) _) _
    simp only [Act.put, List.setIfInBounds_toArray, List.set_cons_zero, List.set_cons_succ]
    refine wpAnyH_take (i := 11) (v := ?vb_11) rfl (by kernel_rfl) (by kernel_rfl) (by kernel_rfl) (fun _ _ _ h => h) (Or.inl ⟨by first | kernel_rfl | rfl, ?yb_11⟩) hHeld ?rb_11
    case yb_11 => (intro W hSW; (try dsimp only at hSW); go_simp; (try with_reducible rfl))
    change wpAnyH _ _ _ _ _ _ _ (Act.put _ (some 66) _) _
    simp only [Act.put, List.setIfInBounds_toArray, List.set_cons_zero, List.set_cons_succ]
    refine wpAnyH_take (i := 12) (v := ?vb_12) rfl (by kernel_rfl) (by kernel_rfl) (by kernel_rfl) (fun _ _ _ h => h) (Or.inl ⟨by first | kernel_rfl | rfl, ?yb_12⟩) hHeld ?rb_12
    case yb_12 => (intro W hSW; (try dsimp only at hSW); go_simp; (try with_reducible rfl))
    change wpAnyH _ _ _ _ _ _ _ (Act.put _ (some 67) _) _
    simp only [Act.put, List.setIfInBounds_toArray, List.set_cons_zero, List.set_cons_succ]
    refine wpAnyH_ready (rs := [13]) (by kernel_rfl) (by simp) ?_
    refine AllReadyH.cons rfl (fun K hK => ?_) AllReadyH.nil
    go_simp
    refine (HOO.out V1.drew (HWW.out _ HB1.out.drew)).mono ?_
    rintro e V2 ⟨rfl, hb2⟩
    refine hK.out _ _ (HBX.out _ (HB1.out.drew.trans (hb2.mono HB1.out.size))) (fun hHeld => ?_)
    clear hK K
    try simp only [Act.put, List.setIfInBounds_toArray, List.set_cons_zero, List.set_cons_succ]
    refine wpAnyH_take (i := 14) (v := ?vb_14) rfl (by kernel_rfl) (by kernel_rfl) (by kernel_rfl) (fun _ _ _ h => h) (Or.inl ⟨by first | kernel_rfl | rfl, ?yb_14⟩) hHeld ?rb_14
    case yb_14 => (intro W hSW; (try dsimp only at hSW); go_simp; (try with_reducible rfl))
    change wpAnyH _ _ _ _ _ _ _ (Act.put _ (some 54) _) _
    simp only [Act.put, List.setIfInBounds_toArray, List.set_cons_zero, List.set_cons_succ]
    refine wpAnyH_take (i := 15) (v := ?vb_15) rfl (by kernel_rfl) (by kernel_rfl) (by kernel_rfl) (fun _ _ _ h => h) (Or.inl ⟨by first | kernel_rfl | rfl, ?yb_15⟩) hHeld ?rb_15
    case yb_15 => (intro W hSW; (try dsimp only at hSW); go_simp; (try with_reducible rfl))
    change wpAnyH _ _ _ _ _ _ _ (Act.put _ (some 69) _) _
    simp only [Act.put, List.setIfInBounds_toArray, List.set_cons_zero, List.set_cons_succ]
    refine wpAnyH_take (i := 16) (v := ?vb_16) rfl (by kernel_rfl) (by kernel_rfl) (by kernel_rfl) (fun _ _ _ h => h) (Or.inl ⟨by first | kernel_rfl | rfl, ?yb_16⟩) hHeld ?rb_16
    case yb_16 => (intro W hSW; (try dsimp only at hSW); go_simp; (try with_reducible rfl))
    change wpAnyH _ _ _ _ _ _ _ (Act.put _ (some 70) _) _
    simp only [Act.put, List.setIfInBounds_toArray, List.set_cons_zero, List.set_cons_succ]
    refine wpAnyH_take (i := 17) (v := ?vb_17) rfl (by kernel_rfl) (by kernel_rfl) (by kernel_rfl) (fun _ _ _ h => h) (Or.inl ⟨by first | kernel_rfl | rfl, ?yb_17⟩) hHeld ?rb_17
    case yb_17 => (intro W hSW; (try dsimp only at hSW); go_simp; (try with_reducible rfl))
    change wpAnyH _ _ _ _ _ _ _ (Act.put _ (some 7) _) _
    simp only [Act.put, List.setIfInBounds_toArray, List.set_cons_zero, List.set_cons_succ]
    refine wpAnyH_take (i := 18) (v := ?vb_18) rfl (by kernel_rfl) (by kernel_rfl) (by kernel_rfl) (fun _ _ _ h => h) (Or.inl ⟨by first | kernel_rfl | rfl, ?yb_18⟩) hHeld ?rb_18
    case yb_18 => (intro W hSW; (try dsimp only at hSW); go_simp; (try with_reducible rfl))
    change wpAnyH _ _ _ _ _ _ _ (Act.put _ (some 8) _) _
    simp only [Act.put, List.setIfInBounds_toArray, List.set_cons_zero, List.set_cons_succ]
    refine wpAnyH_done (by kernel_rfl) ?_ _
    have HB2 : Hid (Below W1.heap.size W1 V2) := HB1.out.drew.trans (hb2.mono HB1.out.size)
    clear hb2 HOO y0 y1 y2 y3
    obtain ⟨y0, y1, y2, y3⟩ := HBX.out V2 (HB2.out)
    have HOX1 := HOX.out V2 (HWW.out V2 HB2.out)
    clear HOX
    go_wp2_with fail
    refine HOX1.mono ?_
    rintro e V8 ⟨rfl, hb8⟩
    have HB8 : Hid (Below W1.heap.size W1 V8) := HB2.out.trans (hb8.mono HB2.out.size)
    clear HOX1 hb8 y0 y1 y2 y3
    rcases HEE.out with ⟨hoe, hse⟩ | ⟨hoe, hot⟩
    · subst hoe
      have HSE : Hid (∀ V, Below w.heap.size w V → Calls Tryd.prog 6 #[.string s0, .string t0, .string u0, .string OT] V fun e w' => e = .returned (.tuple #[.string x0, .int .i64 0]) ∧ Below V.heap.size V w') := hse
      clear hse HEE
      obtain ⟨y0, y1, y2, y3⟩ := HBX.out V8 (HB8.out)
      have HSE1 := HSE.out V8 (HWW.out V8 HB8.out)
      clear HSE
      go_wp2_with fail
      refine HSE1.mono ?_
      rintro e V9 ⟨rfl, hb9⟩
      have HB9 : Hid (Below W1.heap.size W1 V9) := HB8.out.trans (hb9.mono HB8.out.size)
      clear HSE1 hb9 y0 y1 y2 y3
      obtain ⟨y0, y1, y2, y3⟩ := HBX.out V9 (HB9.out)
      have HVL : Hid (Below w.heap.size w V9) := HWW.out V9 HB9.out
      have HLX := HLV.out V9 HVL.out
      go_wp2_with fail
      refine HLX.mono ?_
      rintro e VZ ⟨rfl, hbZ⟩
      have HZ : Hid (Below w.heap.size w VZ) := (HVL.out).trans (hbZ.mono (HVL.out).size)
      clear HLX hbZ
      go_wp2
      go_ret
      exact ⟨rfl, HZ.out⟩
    · subst hot
      have ko : ¬ (OE : Int) = 0 := by omega
      have kob : ((OE : Int) == 0) = false := by simpa using ko
      clear hoe HEE
      go_wp2_with fail
      have HVL : Hid (Below w.heap.size w V8) := HWW.out V8 HB8.out
      have HLX := HLV.out V8 HVL.out
      go_wp2_with fail
      refine HLX.mono ?_
      rintro e VZ ⟨rfl, hbZ⟩
      have HZ : Hid (Below w.heap.size w VZ) := (HVL.out).trans (hbZ.mono (HVL.out).size)
      clear HLX hbZ
      go_wp2
      go_ret
      exact ⟨rfl, HZ.out⟩

set_option linter.unusedVariables false in
set_option maxRecDepth 100000 in
theorem lifted (os : Os) (started : os.Started) (H : Type) (enc : TypeId × Value → H) :
    ReturnsInHanded {} Tryd.checked os 3 .any (fun w args => (Rows.cipherTagsSpec.pre enc Tryd.prog Tryd.f3 [] false w args ∧ laidMetH Tryd.prog Rows.cipherTagsRow.laid w) ∧ sizedMet enc Tryd.prog Tryd.f3 (OpenSpec.ofChange Rows.cipherTagsSpec) false w args) (Rows.cipherTagsSpec.post enc Tryd.prog Tryd.f3 false true false false) := by
  refine returnsInHanded_of_change_and (C := Tryd.checked) (X := fun w _ => laidMetH Tryd.prog Rows.cipherTagsRow.laid w) (fun _ _ _ hh h => h.of_heap hh) own started (by kernel_rfl) Tryd.func3
    (ChangeSpec.witness_shaped (enc := enc) (C := Tryd.checked) (os := os) (X := fun w _ => laidMetH Tryd.prog Rows.cipherTagsRow.laid w) false (World.laidAll Tryd.prog os Rows.cipherTagsRow.laid) #[.agg #[.string ByteArray.empty, .string ByteArray.empty, .string ByteArray.empty, .string ByteArray.empty], .string ByteArray.empty] 8 (World.laidAll_os _ _ _)
      (World.shaped_of_ZipB (by kernel_rfl) (by kernel_rfl)) (by kernel_rfl) (by kernel_rfl) (by kernel_rfl)
      (by rw [MakeChecks.laidMetH_plain _ _ _ (by kernel_rfl)]; exact laidMet_laidAll _ (by kernel_rfl) (by kernel_rfl))) ?_
  intro W base args ds gs before hval0 hW _ hsz0 hL _
  have hval : ∀ (j : Nat) t v, Tryd.f3.params[j]? = some t → args[j]? = some v → Value.okWide Tryd.prog W .any base t v := hval0
  have hsz : (DataW.weightsEach Tryd.prog (Tryd.f3.params.toList ++ Rows.cipherTagsSpec.plain.varTypes Tryd.prog) (ds ++ gs)).all (· ≤ reachBytes) = true := hsz0
  have hW' := hW
  obtain ⟨p, q, hA0, hV, rfl, hfz, hnd⟩ := hW
  have hA : DataW.TrodAll enc Tryd.prog W 0 (fun _ => true) true Tryd.f3.params.toList args.toList ds p := hA0
  rw [Tryd.params3] at hA hval hsz
  obtain ⟨v0, vs0, d0, ds0, p0, q0, hargs, rfl, rfl, h0, r0⟩ := trodAll_cons hA
  obtain ⟨v1, vs1, d1, ds1, p1, q1, rfl, rfl, rfl, h1, r1⟩ := trodAll_cons r0
  obtain ⟨rfl, rfl, rfl⟩ := trodAll_nil r1
  obtain rfl : args = #[v0, v1] := by cases args; simp_all
  obtain ⟨rfl, rfl⟩ := trodVars_none hV
  have k0 := h0
  have lt0 : ∀ x ∈ p0, x.block < W.heap.size := by obtain ⟨m, hm⟩ := k0; exact DataW.trod_lt m _ _ _ hm
  obtain ⟨s0, t0, u0, x0, rfl, zs0, zt0, zu0, zx0⟩ := strs4_of (j := 0) (hval 0 22 v0 rfl rfl) h0 hsz rfl rfl
  obtain ⟨s1, rfl, rfl, rfl, w1⟩ := open_string Tryd.underlying9 (hval 1 9 v1 rfl rfl) h1
  have z1 : s1.size ≤ 140737488351232 := by
    have := sized_string hsz (j := 1) (t := 9) rfl rfl
    simpa [reachBytes] using this
  clear hA0 hval0 hsz hsz0
  refine (walk s0 t0 u0 x0 s1 z1 W  (of_laid hL)).mono fun e W' ⟨he, bel⟩ => ?_
  subst he
  exact ⟨_, rfl, _, _, _, [], _, [], hW', trodAll_mk1 (shut_bool Tryd.underlying4 _), (trodAll_cons_mk (Below.trod laidOut (by kernel_rfl) (of_decide_eq_true (by kernel_rfl)) k0 bel lt0) (trodAll_cons_mk (shut_string Tryd.underlying9 w1) trodAll_mk0)), rfl, bel.frame _, fun h => by cases h⟩

theorem over : Rows.cipherTagsRow.holds Tryd.pinned (OpenSpec.ofChange Rows.cipherTagsSpec) :=
  OpenClaim.holds_of_wide 3 Tryd.f3 rfl rfl rfl rfl rfl rfl rfl ⟨rfl, rfl, rfl, rfl, rfl⟩ rfl rfl rfl rfl rfl (by kernel_rfl) Tryd.func3 (by kernel_rfl)
    (of_decide_eq_true (by kernel_rfl)) (by unfold Func.isWrapper; first | (rw [if_pos (by decide +kernel)]; kernel_rfl) | (rw [if_neg (by decide +kernel)]; exact ⟨rfl, rfl⟩))
    (fun os started H enc _ => lifted os started H enc)

end Go.Proofs.YtbflkkffpcaakabDoor.cipherTags
namespace Go.Proofs.YtbflkkffpcaakabDoor
/-- The given statement. -/
theorem cipherTags_holds : Rows.CipherTagsCardSaid :=
  Claim7.holds_tied_plain_at .later [] [.data, .data, .data] true (true, "4770fffce183e07c05e5281ef66fb67375c284c497557d911af064688159b666") false
    cipherTags.over (fun _ h => by cases h) (by kernel_rfl) (fun _ h => by cases h) cipherTags_row_tie rfl ⟨rfl, rfl⟩ (by kernel_rfl) rfl
    (fun f fn hf hfn => by
      obtain rfl : f = 3 := Option.some.inj ((show Tryd.prog.funcNamed "strongroom/strongroomlaw19.CipherTags" = some 3 by kernel_rfl).symm.trans hf) |>.symm
      obtain rfl : fn = Tryd.f3 := (Option.some.inj (Tryd.func3.symm.trans hfn)).symm
      exact ⟨by kernel_rfl, fun j t ht => by
        rw [Tryd.params3] at ht
        rcases j with _ | _ | j
        · obtain rfl : t = 22 := by simpa using ht.symm
          exact (show Tryd.prog.wantsStandIn 22 = false by kernel_rfl)
        · obtain rfl : t = 9 := by simpa using ht.symm
          exact (show Tryd.prog.wantsStandIn 9 = false by kernel_rfl)
        · simp at ht
      ⟩)
    (by kernel_rfl)
#print axioms cipherTags_holds
end Go.Proofs.YtbflkkffpcaakabDoor
