/- A walk over the statements' lives. How strings, ints and their arrays and slices are opened out of a reading, with the reach of strings. How arrays of two strings and of two ints are opened out of a reading. -/
import Derived.Test.YtcmdcmbiilfngabDoorKO
import Derived.Test.YtcmdcmbiilfngabDoorKK
import Derived.Test.YtcmdcmbiilfngabDoorCG
import Derived.Test.YtcmdcmbiilfngabDoorBA
import Derived.SliceStrings
import Derived.SizedLaws
import Derived.WalkKit
import Derived.ProofKit
import Derived.OpenShut
import Derived.ShutString
namespace Go.Proofs.YtcmdcmbiilfngabDoor
open Go.RowKit
def sA : ByteArray := ⟨#[97]⟩
def cvL : Cv := ⟨sA, 1, 9⟩
theorem cvL_ok : cvL.ok = true := by decide +kernel
theorem mint_lives : mintT (⟨#[115]⟩ : ByteArray).data.toList 1 5 = (madeR (⟨#[115]⟩ : ByteArray).data.toList 1 5 [], 0) := by unfold mintT; rw [if_pos (by decide)]; rfl
theorem narrow_made {k : List UInt8} {t n : Int} {l : List Cv} {c : Cv} (hm : mayT (madeR k t n l) = true) (hc : c.ok = true) (h8 : l.length ≠ 8) : narrowT (madeR k t n l) c = (madeR k t n (l ++ [c]), 0) := by
  unfold narrowT
  rw [if_pos ⟨hm, hc⟩, if_neg (show ¬ (madeR k t n l).cavs.length = 8 from h8)]
  unfold madeR
  simp only
  rw [seal_snoc]
  rfl
theorem narrow_lives : narrowT (madeR (⟨#[115]⟩ : ByteArray).data.toList 1 5 []) cvL = (madeR (⟨#[115]⟩ : ByteArray).data.toList 1 5 [cvL], 0) := by
  have h := narrow_made (k := (⟨#[115]⟩ : ByteArray).data.toList) (t := 1) (n := 5) (l := []) (c := cvL) (madeR_may (by decide)) cvL_ok (by decide)
  rw [List.nil_append] at h
  exact h
theorem may_lives : mayT (madeR (⟨#[115]⟩ : ByteArray).data.toList 1 5 [cvL]) = true := madeR_may (by decide +kernel)
theorem lets_lives (x : Int) (p : List UInt8) (now : Int) : letsT (madeR (⟨#[115]⟩ : ByteArray).data.toList 1 5 [cvL]) x p now = (rightB x && Pt.placeL p && cvL.lets x p now) := by
  unfold letsT
  rw [may_lives, Bool.and_true]
  simp [madeR]
theorem check_lives : checkT (⟨#[115]⟩ : ByteArray).data.toList (madeR (⟨#[115]⟩ : ByteArray).data.toList 1 5 [cvL]) = true := by
  unfold checkT
  rw [may_lives]
  simp [madeR]
set_option maxRecDepth 100000 in
set_option maxHeartbeats 4000000 in
theorem lives_any (w : World) (hL : Laid w) : Calls Tryd.prog 5 #[] w fun e w' => e = .returned (.bool true) ∧ Below w.heap.size w w' := by
  have HM := mint_any ⟨#[115]⟩ 1 5 w (by decide) hL
  rw [mint_lives] at HM
  obtain ⟨Z0, hZ0⟩ : ∃ Z0, strOf (sealT (⟨#[115]⟩ : ByteArray).data.toList 1 5 []) = Z0 := ⟨_, rfl⟩
  obtain ⟨Z1, hZ1⟩ : ∃ Z1, strOf (sealT (⟨#[115]⟩ : ByteArray).data.toList 1 5 [cvL]) = Z1 := ⟨_, rfl⟩
  have e0 : madeR (⟨#[115]⟩ : ByteArray).data.toList 1 5 [] = ⟨1, 5, [], Z0⟩ := by unfold madeR; rw [hZ0]
  have e1 : madeR (⟨#[115]⟩ : ByteArray).data.toList 1 5 [cvL] = ⟨1, 5, [cvL], Z1⟩ := by unfold madeR; rw [hZ1]
  have hnl := narrow_lives
  have hll := lets_lives
  have hcl := check_lives
  rw [e0, e1] at hnl
  rw [e1] at hll hcl
  rw [e0] at HM
  have hcp : ∀ c ∈ [cvL], c.path.size ≤ 9223372036854775807 := fun c hc => by rw [List.mem_singleton.1 hc]; decide
  have HNA : Hid (∀ (W : World) (a : Option Addr) (n c : Nat), Kw W a n c [] → Laid W → Calls Tryd.prog 13 #[.agg #[.int .i64 1, .int .i64 5, .slice a n c, .string Z0], .agg #[.string ⟨#[97]⟩, .int .i64 1, .int .i64 9]] W fun e w' => TkTo W (⟨1, 5, [cvL], Z1⟩, 0) e w') := fun W a n c hk hW => by
    have h5 := narrow_any 1 5 Z0 cvL W hk (fun c hc => by cases hc) (by decide) hW
    rw [hnl] at h5
    exact h5
  have HLE : Hid (∀ (W : World) (a : Option Addr) (n c : Nat) (x : Int) (p : ByteArray) (now : Int), Kw W a n c [cvL] → p.size ≤ 100 → Calls Tryd.prog 14 #[.agg #[.int .i64 1, .int .i64 5, .slice a n c, .string Z1], .int .i64 x, .string p, .int .i64 now] W fun e w' => e = .returned (.bool (rightB x && Pt.placeL p.data.toList && cvL.lets x p.data.toList now)) ∧ Below W.heap.size W w') := fun W a n c x p now hk hp => by
    have h5 := lets_any 1 5 Z1 x p now hk hcp (by omega)
    rw [hll] at h5
    exact h5
  have HCH : Hid (∀ (W : World) (a : Option Addr) (n c : Nat), Kw W a n c [cvL] → Laid W → Calls Tryd.prog 15 #[.string ⟨#[115]⟩, .agg #[.int .i64 1, .int .i64 5, .slice a n c, .string Z1]] W fun e w' => e = .returned (.bool true) ∧ Below W.heap.size W w') := fun W a n c hk hW => by
    have h5 := check_tk ⟨#[115]⟩ Z1 1 5 W hk hcp (by decide) hW
    rw [hcl] at h5
    exact h5
  have b1 : (rightB 1 && Pt.placeL (⟨#[97, 47, 98]⟩ : ByteArray).data.toList && cvL.lets 1 (⟨#[97, 47, 98]⟩ : ByteArray).data.toList 9) = true := by decide +kernel
  have b2 : (rightB 2 && Pt.placeL (⟨#[97]⟩ : ByteArray).data.toList && cvL.lets 2 (⟨#[97]⟩ : ByteArray).data.toList 9) = false := by decide +kernel
  have b3 : (rightB 1 && Pt.placeL (⟨#[98]⟩ : ByteArray).data.toList && cvL.lets 1 (⟨#[98]⟩ : ByteArray).data.toList 9) = false := by decide +kernel
  have b4 : (rightB 1 && Pt.placeL (⟨#[97]⟩ : ByteArray).data.toList && cvL.lets 1 (⟨#[97]⟩ : ByteArray).data.toList 10) = false := by decide +kernel
  have HB4 : Hid (((rightB 1 && Pt.placeL (⟨#[97, 47, 98]⟩ : ByteArray).data.toList && cvL.lets 1 (⟨#[97, 47, 98]⟩ : ByteArray).data.toList 9) = true) ∧ ((rightB 2 && Pt.placeL (⟨#[97]⟩ : ByteArray).data.toList && cvL.lets 2 (⟨#[97]⟩ : ByteArray).data.toList 9) = false) ∧ ((rightB 1 && Pt.placeL (⟨#[98]⟩ : ByteArray).data.toList && cvL.lets 1 (⟨#[98]⟩ : ByteArray).data.toList 9) = false) ∧ ((rightB 1 && Pt.placeL (⟨#[97]⟩ : ByteArray).data.toList && cvL.lets 1 (⟨#[97]⟩ : ByteArray).data.toList 10) = false)) := ⟨b1, b2, b3, b4⟩
  have HL : Hid (Laid w) := hL
  clear hZ0 hZ1 e0 e1 hnl hll hcl hcp b1 b2 b3 b4 hL
  go_enter Tryd.func5, Tryd.ntmps5
  go_wp2_with fail
  refine HM.mono ?_
  rintro e V1 ⟨a1, n1, c1, rfl, ho1, hb1⟩
  simp only at ho1 ⊢
  obtain ⟨V2, hV2, r2, hb2⟩ := box_tk (w := V1) 1 5 a1 n1 c1 Z0
  obtain ⟨tb, htb⟩ : ∃ tb, V1.heap.size = tb := ⟨_, rfl⟩
  rw [htb] at r2
  obtain ⟨y0, y1, y2, y3, _⟩ := row4 r2
  have hB2 : Below w.heap.size w V2 := hb1.trans (hb2.mono hb1.size)
  have HN2 := HNA.out V2 a1 n1 c1 ((Kw.own ho1).below hb2) (HL.out.below hB2)
  have H2 : Hid (Below w.heap.size w V2) := hB2
  clear HM HNA ho1 hb1 r2 hb2 hB2
  go_wp2_with fail
  refine HN2.mono ?_
  rintro e V3 ⟨a3, n3, c3, rfl, ho3, hb3⟩
  simp only at ho3 ⊢
  obtain ⟨V4, hV4, r4, hb4⟩ := box_tk (w := V3) 1 5 a3 n3 c3 Z1
  obtain ⟨ub, hub⟩ : ∃ ub, V3.heap.size = ub := ⟨_, rfl⟩
  rw [hub] at r4
  clear y0 y1 y2 y3
  have hB4 : Below w.heap.size w V4 := (H2.out.trans (hb3.mono H2.out.size)).trans (hb4.mono (Nat.le_trans H2.out.size hb3.size))
  have HK : Hid (∀ W, Below V4.heap.size V4 W → (W.cell? ⟨ub, 0, none⟩ = some (.int .i64 1) ∧ W.cell? ⟨ub, 1, none⟩ = some (.int .i64 5) ∧ W.cell? ⟨ub, 2, none⟩ = some (.slice a3 n3 c3) ∧ W.cell? ⟨ub, 3, none⟩ = some (.string Z1)) ∧ Kw W a3 n3 c3 [cvL] ∧ Laid W) := fun W hW => by
    obtain ⟨e0, e1, e2, e3, _⟩ := row4 ((hW.block ub (lt_of_some r4)).trans r4)
    exact ⟨⟨e0, e1, e2, e3⟩, ((Kw.own ho3).below hb4).below hW, HL.out.below (hB4.trans (hW.mono hB4.size))⟩
  have H4 : Hid (Below w.heap.size w V4) := hB4
  obtain ⟨⟨y0, y1, y2, y3⟩, hk4, _⟩ := HK.out V4 (Below.refl _ _)
  have HC1 := HLE.out V4 a3 n3 c3 1 ⟨#[97, 47, 98]⟩ 9 hk4 (by decide)
  rw [HB4.out.1] at HC1
  clear HN2 ho3 hb3 r4 hb4 hB4 hk4
  go_wp2_with fail
  refine HC1.mono ?_
  rintro e V5 ⟨rfl, hb5⟩
  clear HC1 y0 y1 y2 y3
  obtain ⟨⟨y0, y1, y2, y3⟩, hk5, _⟩ := HK.out V5 hb5
  have HC2 := HLE.out V5 a3 n3 c3 2 ⟨#[97]⟩ 9 hk5 (by decide)
  rw [HB4.out.2.1] at HC2
  have H5 : Hid (Below V4.heap.size V4 V5) := hb5
  clear hb5 hk5
  go_wp2_with fail
  refine HC2.mono ?_
  rintro e V6 ⟨rfl, hb6⟩
  have hB6 : Below V4.heap.size V4 V6 := H5.out.trans (hb6.mono H5.out.size)
  clear HC2 y0 y1 y2 y3 hb6
  obtain ⟨⟨y0, y1, y2, y3⟩, hk6, _⟩ := HK.out V6 hB6
  have HC3 := HLE.out V6 a3 n3 c3 1 ⟨#[98]⟩ 9 hk6 (by decide)
  rw [HB4.out.2.2.1] at HC3
  have H6 : Hid (Below V4.heap.size V4 V6) := hB6
  clear hB6 hk6
  go_wp2_with fail
  refine HC3.mono ?_
  rintro e V7 ⟨rfl, hb7⟩
  have hB7 : Below V4.heap.size V4 V7 := H6.out.trans (hb7.mono H6.out.size)
  clear HC3 y0 y1 y2 y3 hb7
  obtain ⟨⟨y0, y1, y2, y3⟩, hk7, _⟩ := HK.out V7 hB7
  have HC4 := HLE.out V7 a3 n3 c3 1 ⟨#[97]⟩ 10 hk7 (by decide)
  rw [HB4.out.2.2.2] at HC4
  have H7 : Hid (Below V4.heap.size V4 V7) := hB7
  clear hB7 hk7
  go_wp2_with fail
  refine HC4.mono ?_
  rintro e V8 ⟨rfl, hb8⟩
  have hB8 : Below V4.heap.size V4 V8 := H7.out.trans (hb8.mono H7.out.size)
  clear HC4 y0 y1 y2 y3 hb8
  obtain ⟨⟨y0, y1, y2, y3⟩, hk8, hl8⟩ := HK.out V8 hB8
  have HC5 := HCH.out V8 a3 n3 c3 hk8 hl8
  have H8 : Hid (Below w.heap.size w V8) := H4.out.trans (hB8.mono H4.out.size)
  clear hB8 hk8 hl8
  go_wp2_with fail
  refine HC5.mono ?_
  rintro e V9 ⟨rfl, hb9⟩
  have H9 : Hid (Below w.heap.size w V9) := H8.out.trans (hb9.mono H8.out.size)
  clear HC5 hb9 y0 y1 y2 y3
  go_wp2
  go_ret
  exact ⟨rfl, H9.out⟩
end Go.Proofs.YtcmdcmbiilfngabDoor
namespace Go.Proofs.YtcmdcmbiilfngabDoor
open Go.ChangeShapes Go.WideShapes Go.ChangeAt Go.RowKit
theorem laidOut : laidOutB Tryd.prog = true := by kernel_rfl
theorem wf_i64 {n : Int} (h : (Lit.int .i64 n).wf = true) : -9223372036854775808 ≤ n ∧ n ≤ 9223372036854775807 := by
  simp [Lit.wf, IntKind.min, IntKind.max, IntKind.signed, IntKind.bits] at h
  omega
theorem mem_weightsAll {H : Type} {P : Program} {e : TypeId} {d : DataW H} : ∀ {l : List (DataW H)}, d ∈ l → ∀ n ∈ d.weights P e, n ∈ DataW.weightsAll P e l
  | x :: l, h, n, hn => by
    simp only [DataW.weightsAll, List.mem_append]
    rcases List.mem_cons.1 h with rfl | h
    · exact .inl hn
    · exact .inr (mem_weightsAll h n hn)
theorem strs_of {H : Type} {enc : TypeId × Value → H} {W : World} {base : Nat} {held : Bool} {fuel : Nat} {a : Option Addr} {len cap : Nat} {d : DataW H} {p : List MemPlace} {ts : List TypeId} {ds : List (DataW H)} {j : Nat}
    (hf : DataW.trod enc Tryd.prog W base (fun _ => true) held fuel 79 [.slice a len cap] = some (d, p)) (hsz : (DataW.weightsEach Tryd.prog ts ds).all (· ≤ reachBytes) = true) (ht : ts[j]? = some 79) (hd : ds[j]? = some d) :
    ∃ ss, Ss W a len cap ss ∧ ∀ i (h : i < ss.length), (ss[i]).size ≤ 140737488351232 := by
  rcases open_strings Tryd.underlying79 Tryd.underlying9 (by kernel_rfl) hf with ⟨hcs, hx⟩ | ⟨x, l, c, all, hcs, _, hl, hm, hz, hx, hcell, _⟩
  · simp only [List.cons.injEq, Value.slice.injEq, and_true] at hcs
    obtain ⟨rfl, rfl, rfl⟩ := hcs
    exact ⟨[], ⟨rfl, by omega, by omega, fun _ => rfl, by intro ad h; cases h⟩, fun i h => absurd h (by simp)⟩
  · simp only [List.cons.injEq, Value.slice.injEq, and_true] at hcs
    obtain ⟨rfl, rfl, rfl⟩ := hcs
    simp only [if_true] at hz
    simp only [Prod.mk.injEq] at hx
    obtain ⟨rfl, _⟩ := hx
    refine ⟨all.take len, ⟨by simp; omega, hl, by simpa [maxLen] using hm, (by intro e; cases e), ?_⟩, ?_⟩
    · intro ad had i hi
      cases had
      simp only [List.length_take] at hi
      rw [hcell i (by omega)]
      simp only [List.getElem_take]
      congr 2
      rw [List.getD_eq_getElem?_getD, List.getElem?_eq_getElem (by omega)]
      rfl
    · intro i hi
      have hmem : (all.take len)[i] ∈ all.take len := List.getElem_mem hi
      have hw := List.all_eq_true.1 hsz ((all.take len)[i]).data.toList.length (DataW.weights_mem_each ht hd _ (by
        simp only [DataW.weights, Tryd.underlying79, List.mem_cons, List.mem_append]
        refine .inr (.inl (mem_weightsAll (d := .lit (.string ((all.take len)[i]).data.toList)) (List.mem_map.2 ⟨_, hmem, rfl⟩) _ (by simp [DataW.weights]))))
      )
      simpa [reachBytes] using hw
end Go.Proofs.YtcmdcmbiilfngabDoor
namespace Go.Proofs.YtcmdcmbiilfngabDoor
open Go.ChangeShapes Go.WideShapes Go.ChangeAt Go.RowKit
theorem cells3 : Tryd.prog.cellsOf 3 = 1 := by kernel_rfl
theorem cells9 : Tryd.prog.cellsOf 9 = 1 := by kernel_rfl
end Go.Proofs.YtcmdcmbiilfngabDoor
