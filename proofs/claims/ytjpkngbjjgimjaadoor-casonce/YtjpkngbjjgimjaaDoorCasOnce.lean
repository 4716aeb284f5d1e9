/- The law of contents that are kept once. -/
import Derived.Test.YtjpkngbjjgimjaaDoorKU
import Derived.Test.YtjpkngbjjgimjaaDoorCards
import Derived.Test.YtjpkngbjjgimjaaDoorTie
import Derived.WalkKit
import Derived.ProofKit
import Derived.OpenShut
import Derived.ShutString
import Derived.ChangeOld
import Derived.Below
import Derived.LaidMore
import Derived.Stop.Joined
import Derived.SevenTiedAt
namespace Go.Proofs.YtjpkngbjjgimjaaDoor.casOnce
open Go.ChangeShapes Go.WideShapes Go.ChangeAt Go.WideMaps Go.WideElems Go.RowKit
open Go.ChangeMaps (open_string shut_string)
def unlT (l : List ByteArray) : Nat → Nat
  | 0 => 0
  | i + 1 => unlT l i + (if cnt (l.take i) (l.getD i ⟨#[]⟩) = 0 then 1 else 0)
def btsT (l : List ByteArray) : Nat → Nat
  | 0 => 0
  | i + 1 => btsT l i + (if cnt (l.take i) (l.getD i ⟨#[]⟩) = 0 then (l.getD i ⟨#[]⟩).size else 0)
theorem cells_any {w : World} {a : Option Addr} {len cap : Nat} {ss : List ByteArray} (h : Ss w a len cap ss) (h0 : 0 < len) : ∃ b o, a = some ⟨b, o, none⟩ ∧ ∀ V, Below w.heap.size w V → ∀ (i : Nat) (s : ByteArray), ss[i]? = some s → V.cell? ⟨b, o + i, none⟩ = some (.string s) := by
  obtain ⟨b, o, e, hc⟩ := h.at h0
  refine ⟨b, o, e, fun V hV i s hs => ?_⟩
  obtain ⟨h1, h2⟩ := List.getElem?_eq_some_iff.1 hs
  have h5 := hc i h1
  rw [h2] at h5
  rw [hV.cell (World.block_lt_of_cell? w _ h5)]
  exact h5

set_option maxRecDepth 100000 in
set_option maxHeartbeats 2000000 in
theorem walk (x0 : Int) (_z0 : -9223372036854775808 ≤ x0 ∧ x0 ≤ 9223372036854775807) (a1 : Option Addr) (len1 cap1 : Nat) (ss1 : List ByteArray) (_z1 : ∀ i (h : i < ss1.length), (ss1[i]).size ≤ 140737488351232) (w : World) (w1 : Ss w a1 len1 cap1 ss1) (hL : Laid w) :
    Calls Tryd.prog 4 #[.int .i64 x0, .slice a1 len1 cap1] w fun e w' => e = .returned (.bool true) ∧ Below w.heap.size w w' := by
  obtain ⟨tb, htb⟩ : ∃ tb, w.heap.size = tb := ⟨_, rfl⟩
  obtain ⟨W1, hW1⟩ : ∃ W1, w.alloc (.cells #[.slice none 0 0, .int .i64 (-1)] 30) = W1 := ⟨_, rfl⟩
  have hs1 : W1.heap.size = tb + 1 := by rw [← hW1, ← htb]; simp
  have hb1 : Below w.heap.size w W1 := by rw [← hW1]; exact (Below.refl _ w).alloc (Nat.le_refl _) _
  have HS : Hid (Ss w a1 len1 cap1 ss1) := w1
  have hnn := HS.out.1
  have hcap : cap1 ≤ 9223372036854775807 := HS.out.2.2.1
  have hlc : len1 ≤ cap1 := HS.out.2.1
  by_cases hx : x0 < 1 ∨ 32 < x0
  · have HN := new_no (.iface 27 (.pointer (some ⟨tb, 0, none⟩))) x0 W1 (.inr ⟨tb, rfl⟩) (.inr hx)
    have HLV : Calls Tryd.prog 10 #[] W1 fun e w' => e = .returned (.bool true) ∧ Below W1.heap.size W1 w' := lives_any W1 (hL.below hb1)
    have HB1 : Hid (Below w.heap.size w W1) := hb1
    clear hL hb1 w1 hx hs1
    go_enter Tryd.func4, Tryd.ntmps4
    go_wp2_with fail
    refine HN.mono ?_
    rintro e V ⟨rfl, hV⟩
    subst V
    go_wp2_with fail
    refine HLV.mono ?_
    rintro e V ⟨rfl, hb⟩
    go_wp2
    go_ret
    exact ⟨rfl, HB1.out.trans (hb.mono HB1.out.size)⟩
  · obtain ⟨W, hWx, hWa, hW⟩ : ∃ W : Nat, x0 = (W : Int) ∧ 1 ≤ W ∧ W ≤ 32 := ⟨x0.toNat, by omega, by omega, by omega⟩
    subst hWx
    have HN : Calls Tryd.prog 9 #[.iface 27 (.pointer (some ⟨tb, 0, none⟩)), .int .i64 (W : Int)] W1 fun e w' => e = .returned (.tuple #[.pointer (some ⟨W1.heap.size, 0, none⟩), .int .i64 0]) ∧ w' = W1.alloc (.cells #[.iface 27 (.pointer (some ⟨tb, 0, none⟩)), .int .i64 (W : Int)] 71) := new_yes tb W W1 hWa hW
    have hcn := cs_new (w := w) (W := W) (-1)
    rw [hW1, htb] at hcn
    rw [hs1] at HN
    obtain ⟨W2, hW2⟩ : ∃ W2, W1.alloc (.cells #[.iface 27 (.pointer (some ⟨tb, 0, none⟩)), .int .i64 (W : Int)] 71) = W2 := ⟨_, rfl⟩
    rw [hW2] at HN hcn
    obtain ⟨st, hst⟩ : ∃ st, tb + 1 = st := ⟨_, rfl⟩
    rw [hst] at HN hcn
    have HCS : Hid (Cs tb (fun _ => False) W2 st tb W (-1) [] ∧ Below w.heap.size w W2 ∧ Laid w ∧ w.heap.size = tb) := ⟨hcn.1, by rw [htb]; exact hcn.2, hL, htb⟩
    have HLV : Hid (∀ V, Below w.heap.size w V → Calls Tryd.prog 10 #[] V fun e w' => e = .returned (.bool true) ∧ Below w.heap.size w w') := fun V hV => (lives_any V (hL.below hV)).mono fun e w' h => ⟨h.1, hV.trans (h.2.mono hV.size)⟩
    clear hs1 hcn hW2 hst hL hx w1 hb1
    go_enter Tryd.func4, Tryd.ntmps4
    go_wp2_with fail
    refine HN.mono ?_
    rintro e V ⟨rfl, hV⟩
    subst V
    clear HN hW1 htb
    go_wp2
    go_loopw [7, 8] (fun vl vi wr => ∃ (i lc : Nat) (la : Option Addr) (F : Nat → Prop) (T : List Pr) (ids : List Ix), i ≤ 40 ∧ i ≤ len1 ∧ vi = .int .i64 i ∧ vl = .slice la i lc ∧ Cs tb F wr st tb W (-1) T ∧ Held W T (ss1.take i) ∧ Told W T (ss1.take i) ids ∧ Ids tb F wr la i lc ids ∧ T.length = unlT ss1 i ∧ dataSum (consT W T) = btsT ss1 i ∧ Below w.heap.size w wr) (fun _ vi _ => 41 - (intOf vi).toNat)
    case atStart => exact ⟨0, 0, none, _, [], [], by omega, by omega, rfl, rfl, HCS.out.1, by rw [List.take_zero]; exact Held.nil W, by rw [List.take_zero]; exact Told.nil W [], Ids.nil _ _ _, rfl, rfl, HCS.out.2.1⟩
    case round =>
      obtain ⟨i, lc, la, F, T, ids, hi, hil, rfl, rfl, hcs, hHe, hTo, hId, hTl, hTd, hbw⟩ := hrel
      rename World => wo
      have htk : (ss1.take i).length = i := by rw [List.length_take]; omega
      by_cases hlt : i < len1 ∧ i < 40
      · have k1 : (i : Int) < (len1 : Int) := by omega
        have k2 : (i : Int) < 40 := by omega
        obtain ⟨sb, so, ha1, hsc⟩ := cells_any HS.out (by omega)
        subst ha1
        have HSC : Hid (∀ V, Below w.heap.size w V → ∀ (i : Nat) (s : ByteArray), ss1[i]? = some s → V.cell? ⟨sb, so + i, none⟩ = some (.string s)) := hsc
        obtain ⟨s, hs⟩ : ∃ s, ss1[i]? = some s := ⟨_, List.getElem?_eq_getElem (by omega)⟩
        have s0 := HSC.out wo hbw i s hs
        clear hsc
        by_cases hl : 128 < s.size
        · have kl : (128 : Int) < (s.size : Int) := by omega
          have HB : Hid (Below w.heap.size w wo) := hbw
          clear hcs hTo hHe hId hbw hl
          go_wp2_with fail
          refine (HLV.out _ HB.out).mono ?_
          rintro e V ⟨rfl, hb⟩
          go_wp2
          go_ret
          exact ⟨rfl, hb⟩
        · have kl : ¬ (128 : Int) < (s.size : Int) := by omega
          obtain ⟨hp, q1, q2, q3, q4, _, _⟩ := hHe.put hW (data := s) (by omega) (by omega)
          obtain ⟨hto, hcmp⟩ := hTo.put hHe hW (data := s) (by omega) (by omega)
          obtain ⟨hm1, hm2⟩ := hHe.more hW (data := s) (by omega) (by omega)
          have hcl := cnt_le (ss1.take i) s
          have HPU : Calls Tryd.prog 14 #[.pointer (some ⟨st, 0, none⟩), .string s] wo fun e w' => ∃ F', Fr F wo F' w' ∧ Below tb wo w' ∧ e = .returned (.tuple #[.agg #[.string (namedF W T s).sum, .int .i64 ((namedF W T s).n : Int)], .int .i64 0]) ∧ Cs tb F' w' st tb W (-1) (putT T (keyB (namedF W T s).sum (namedF W T s).n) (valB ((namedF W T s).refs + 1) (namedF W T s).data)) := by
            refine (putc_any hcs hW (HCS.out.2.2.1.below hbw) (by have := hHe.tb.few; omega) s).mono ?_
            rintro e w' ⟨F', g1, g2, hif⟩
            rw [if_pos ⟨by omega, q2, by omega, by unfold roomT; simp⟩] at hif
            exact ⟨F', g1, g2, hif⟩
          have htk1 : ss1.take (i + 1) = ss1.take i ++ [s] := take_snoc hs
          have hgd : ss1.getD i ⟨#[]⟩ = s := by rw [List.getD_eq_getElem?_getD, hs]; rfl
          obtain ⟨c, hc⟩ : ∃ c, namedF W T s = c := ⟨_, rfl⟩
          rw [hc] at hp hto hcmp hm1 hm2 HPU
          obtain ⟨T7, hT7⟩ : ∃ T7, putT T (keyB c.sum c.n) (valB (c.refs + 1) c.data) = T7 := ⟨_, rfl⟩
          rw [hT7] at hp hto hm1 hm2 HPU
          obtain ⟨sm, hsm⟩ : ∃ sm, c.sum = sm := ⟨_, rfl⟩
          obtain ⟨nm, hnm⟩ : ∃ nm, c.n = nm := ⟨_, rfl⟩
          have hix : ixOf c = (sm, nm) := by rw [← hsm, ← hnm]; rfl
          rw [hsm, hnm] at HPU
          rw [hix] at hto hcmp
          have HM : Hid (Held W T7 (ss1.take (i + 1)) ∧ Told W T7 (ss1.take (i + 1)) (ids ++ [(sm, nm)]) ∧ T7.length = unlT ss1 (i + 1) ∧ dataSum (consT W T7) = btsT ss1 (i + 1)) := by
            refine ⟨by rw [htk1]; exact hp, by rw [htk1]; exact hto, ?_, ?_⟩
            · unfold unlT; rw [hgd, hm1, hTl]
            · unfold btsT; rw [hgd, hm2, hTd]
          have HCM : Hid (∀ (k : Nat) (x : ByteArray) (y : Ix), (ss1.take i)[k]? = some x → ids[k]? = some y → (y = (sm, nm) ↔ x = s)) := hcmp
          have HO : Hid (Ids tb F wo la i lc ids ∧ ids.length = i ∧ Below w.heap.size w wo ∧ ss1[i]? = some s) := ⟨hId, by rw [hTo.1, htk], hbw, hs⟩
          clear hcs hTo hHe hId hbw hp hto hcmp hm1 hm2 hc hT7 hsm hnm q1 q2 q3 q4 htk1 hgd hcl hix hTl hTd hs
          go_wp2_with fail
          refine HPU.mono ?_
          rintro e V6 ⟨F6, hf6, hb6, rfl, hc6⟩
          have hid6 := HO.out.1.fr hf6
          have hbw6 : Below w.heap.size w V6 := HO.out.2.2.1.trans (by rw [HCS.out.2.2.2]; exact hb6)
          obtain ⟨V7, hV7⟩ : ∃ V7, V6.alloc (.cells #[.string sm, .int .i64 (nm : Int)] 35) = V7 := ⟨_, rfl⟩
          obtain ⟨xb, hxb⟩ : ∃ xb, V6.heap.size = xb := ⟨_, rfl⟩
          have hB7 : Below V6.heap.size V6 V7 := by rw [← hV7]; exact (Below.refl _ V6).alloc (Nat.le_refl _) _
          have r7 : V7.heap[xb]? = some (.cells #[.string sm, .int .i64 (nm : Int)] 35 (0, 0)) := by rw [← hV7, ← hxb]; exact heap_alloc_new V6 _
          have H7 : Hid (Cs tb (mor F6 V6 V7) V7 st tb W (-1) T7 ∧ Ids tb (mor F6 V6 V7) V7 la i lc ids ∧ Below w.heap.size w V7 ∧ V7.heap[xb]? = some (.cells #[.string sm, .int .i64 (nm : Int)] 35 (0, 0)) ∧ V6.alloc (.cells #[.string sm, .int .i64 (nm : Int)] 35) = V7) := ⟨hc6.below hB7, hid6.fr (Fr.below hB7), hbw6.trans (hB7.mono hbw6.size), r7, hV7⟩
          clear HPU hf6 hb6 hc6 hid6 hbw6 hB7 s0 hV7
          have x0 : V7.cell? ⟨xb, 0, none⟩ = some (.string sm) := by rw [cell_of_row _ _ _ _ _ _ r7]; rfl
          have x1 : V7.cell? ⟨xb, 1, none⟩ = some (.int .i64 (nm : Int)) := by rw [cell_of_row _ _ _ _ _ _ r7]; rfl
          clear r7
          go_wp2
          rw [H7.out.2.2.2.2]
          go_loopw [11] (fun vk wr => ∃ k : Nat, k ≤ i ∧ vk = .int .i64 k ∧ Below V7.heap.size V7 wr) (fun vk _ => i - (intOf vk).toNat)
          case atStart => exact ⟨0, by omega, rfl, Below.refl _ _⟩
          case round =>
            obtain ⟨k, hki, rfl, hb9⟩ := hrel
            have H9 : Hid (Cs tb (mor (mor F6 V6 V7) V7 wr) wr st tb W (-1) T7 ∧ Ids tb (mor (mor F6 V6 V7) V7 wr) wr la i lc ids ∧ Below w.heap.size w wr ∧ Below V7.heap.size V7 wr) := ⟨H7.out.1.below hb9, H7.out.2.1.fr (Fr.below hb9), H7.out.2.2.1.trans (hb9.mono H7.out.2.2.1.size), hb9⟩
            have r9 := (hb9.block xb (lt_of_some H7.out.2.2.2.1)).trans H7.out.2.2.2.1
            have x0 : wr.cell? ⟨xb, 0, none⟩ = some (.string sm) := by rw [cell_of_row _ _ _ _ _ _ r9]; rfl
            have x1 : wr.cell? ⟨xb, 1, none⟩ = some (.int .i64 (nm : Int)) := by rw [cell_of_row _ _ _ _ _ _ r9]; rfl
            clear r9 hb9
            by_cases hkl : k < i
            · have k3 : (k : Int) < (i : Int) := by omega
              have hIw : Iw (fun _ => True) wr la i lc ids := Rw.own H9.out.2.1.1 (fun _ _ => trivial)
              obtain ⟨ib, io, rfl, _, _, hc⟩ := hIw.at (by omega)
              obtain ⟨⟨y1, y2⟩, hy⟩ : ∃ y, ids[k]? = some y := ⟨_, List.getElem?_eq_getElem (by rw [HO.out.2.1]; omega)⟩
              obtain ⟨g0, g1⟩ := hc k (y1, y2) hy
              simp only at g0 g1
              obtain ⟨x, hx⟩ : ∃ x, ss1[k]? = some x := ⟨_, List.getElem?_eq_getElem (by omega)⟩
              have s1 := HSC.out wr H9.out.2.2.1 k x hx
              have s2 := HSC.out wr H9.out.2.2.1 i s HO.out.2.2.2
              have hcm := HCM.out k x (y1, y2) (by rw [List.getElem?_take_of_lt hkl]; exact hx) hy
              clear hIw hc hy hx
              by_cases hxs : x = s
              · have hbe : (x.toList == s.toList) = true := by rw [hxs]; simp
                obtain ⟨rfl, rfl⟩ := Prod.mk.inj (hcm.2 hxs)
                have HEQ : ∀ V, (Op.equalIn 10000 35 (.agg #[.string y1, .int .i64 (y2 : Int)]) (.agg #[.string y1, .int .i64 (y2 : Int)])).run Tryd.prog V = .ok true V := fun V => by
                  have := eqin_id y1 y1 (y2 : Int) (y2 : Int) V
                  simpa using this
                clear hcm hxs
                go_wp2
                go_quiet (fail)
                go_wp2
                exact ⟨⟨k + 1, by omega, by go_num, below_drewN H9.out.2.2.2 _⟩, by simp [intOf]; omega⟩
              · have hbe : (x.toList == s.toList) = false := str_nb hxs
                have HEQ : ∀ V, (Op.equalIn 10000 35 (.agg #[.string y1, .int .i64 (y2 : Int)]) (.agg #[.string sm, .int .i64 (nm : Int)])).run Tryd.prog V = .ok false V := fun V => by
                  have h5 := eqin_id y1 sm (y2 : Int) (nm : Int) V
                  rw [h5]
                  congr 1
                  rw [decide_eq_false_iff_not]
                  rintro ⟨e1, e2⟩
                  exact hxs (hcm.1 (by rw [e1, show y2 = nm by omega]))
                clear hcm hxs
                go_wp2
                go_quiet (fail)
                go_wp2
                exact ⟨⟨k + 1, by omega, by go_num, below_drewN H9.out.2.2.2 _⟩, by simp [intOf]; omega⟩
            · have k3 : ¬ (k : Int) < (i : Int) := by omega
              obtain ⟨V8, hV8⟩ : ∃ V8, wr.alloc (.cells #[.string sm, .int .i64 (nm : Int)] 35) = V8 := ⟨_, rfl⟩
              have hB8 : Below wr.heap.size wr V8 := by rw [← hV8]; exact (Below.refl _ wr).alloc (Nat.le_refl _) _
              have r8 : V8.heap[wr.heap.size]? = some (.cells (Ix.cells (sm, nm)) 35 (0, 0)) := by rw [← hV8]; exact heap_alloc_new wr _
              have hc8 := H9.out.1.below hB8
              have hi8 := H9.out.2.1.fr (Fr.below hB8)
              have hbw8 : Below w.heap.size w V8 := H9.out.2.2.1.trans (hB8.mono H9.out.2.2.1.size)
              obtain ⟨aA, cA, VA, hrA, hiA, hcA, hgA⟩ := hi8.add hc8 (by rw [← HCS.out.2.2.2]; exact hbw8.size) (by omega) r8
              have HE : Hid (Cs tb (mor (mor (mor (mor F6 V6 V7) V7 wr) wr V8) V8 VA) VA st tb W (-1) T7 ∧ Ids tb (mor (mor (mor (mor F6 V6 V7) V7 wr) wr V8) V8 VA) VA aA (i + 1) cA (ids ++ [(sm, nm)]) ∧ Below w.heap.size w VA) := by
                refine ⟨hcA, hiA, hbw8.grown hgA hbw8.size (fun z hz => ?_)⟩
                have := (hi8.1.lt z (by rw [ob_slice]; exact hz)).1
                rw [HCS.out.2.2.2]
                exact this
              clear hB8 r8 hc8 hi8 hbw8 hiA hcA hgA
              go_wp2_with ((at_builtin; refine wpList_app V8 rfl _ _ _ _ rfl rfl rfl (hrA _) ?_))
              exact ⟨⟨i + 1, cA, aA, _, T7, _, by omega, by omega, by go_num, by go_num, HE.out.1, HM.out.1, HM.out.2.1, HE.out.2.1, HM.out.2.2.1, HM.out.2.2.2, HE.out.2.2⟩, by simp [intOf]; omega⟩
      · by_cases hl : i < len1
        · have k1 : (i : Int) < (len1 : Int) := by omega
          have k2 : ¬ (i : Int) < 40 := by omega
          have HX : Hid (Cs tb F wo st tb W (-1) T ∧ Held W T (ss1.take i) ∧ Told W T (ss1.take i) ids ∧ Ids tb F wo la i lc ids ∧ T.length = unlT ss1 i ∧ dataSum (consT W T) = btsT ss1 i ∧ Below w.heap.size w wo) := ⟨hcs, hHe, hTo, hId, hTl, hTd, hbw⟩
          clear hcs hHe hTo hId hTl hTd hbw hlt
          go_wp2
          go_loopw [12, 13, 14] (fun vu vb vj wr => ∃ j : Nat, j ≤ i ∧ vu = .int .i64 (unlT ss1 j : Nat) ∧ vb = .int .i64 (btsT ss1 j : Nat) ∧ vj = .int .i64 j ∧ btsT ss1 j ≤ 128 * j ∧ unlT ss1 j ≤ j ∧ Below wo.heap.size wo wr) (fun _ _ vj _ => i - (intOf vj).toNat)
          case atStart => exact ⟨0, by omega, rfl, rfl, rfl, by simp [btsT], by simp [unlT], Below.refl _ _⟩
          case round =>
            obtain ⟨j, hj, rfl, rfl, rfl, hbt, hun, hb3⟩ := hrel
            rename World => wp
            have HX3 : Hid (Cs tb (mor F wo wp) wp st tb W (-1) T ∧ Ids tb (mor F wo wp) wp la i lc ids ∧ Below w.heap.size w wp ∧ Below wo.heap.size wo wp) := ⟨HX.out.1.below hb3, HX.out.2.2.2.1.fr (Fr.below hb3), HX.out.2.2.2.2.2.2.trans (hb3.mono HX.out.2.2.2.2.2.2.size), hb3⟩
            clear hb3
            by_cases hjl : j < i
            · have k3 : (j : Int) < (i : Int) := by omega
              obtain ⟨sb, so, ha1, hsc⟩ := cells_any HS.out (by omega)
              subst ha1
              have HSC : Hid (∀ V, Below w.heap.size w V → ∀ (i : Nat) (s : ByteArray), ss1[i]? = some s → V.cell? ⟨sb, so + i, none⟩ = some (.string s)) := hsc
              clear hsc
              obtain ⟨x, hx⟩ : ∃ x, ss1[j]? = some x := ⟨_, List.getElem?_eq_getElem (by omega)⟩
              obtain ⟨c, hc, hcx, hci⟩ := HX.out.2.2.1.2 j x (by rw [List.getElem?_take_of_lt hjl]; exact hx)
              have hlk := HX.out.2.1.tb.look hc.1 hc.2
              have hrf := (HX.out.2.1.own c hc).2
              rw [hcx] at hrf
              have hxz : x.size ≤ 128 := by rw [← hcx]; exact hc.2.2.2.2.2
              have hIw : Iw (fun _ => True) wp la i lc ids := Rw.own HX3.out.2.1.1 (fun _ _ => trivial)
              obtain ⟨ib, io, rfl, _, _, hcc⟩ := hIw.at (by omega)
              obtain ⟨g0, g1⟩ := hcc j _ hci
              have g0 : wp.cell? ⟨ib, io + j * 2, none⟩ = some (.string c.sum) := g0
              have g1 : wp.cell? ⟨ib, io + j * 2 + 1, none⟩ = some (.int .i64 (c.n : Int)) := g1
              have HG := get_of (some ⟨st, 0, none⟩) c.sum (c.n : Int) (some c) wp (fun V hV => by
                have h5 := look_any (HX3.out.1.below hV) hW c.sum (c.n : Int)
                rw [hlk] at h5
                exact h5)
              have HRE : Hid (∀ V, Below wp.heap.size wp V → Calls Tryd.prog 22 #[.pointer (some ⟨st, 0, none⟩), .agg #[.string c.sum, .int .i64 (c.n : Int)]] V fun e w' => e = .returned (.int .i64 (cnt (ss1.take i) x : Nat)) ∧ Below V.heap.size V w') := fun V hV => by
                have h6 := refs_of (some ⟨st, 0, none⟩) c.sum (c.n : Int) (some c) V (by show c.refs < 4294967296; have := cnt_le (ss1.take i) x; omega) (fun V' hV' => by
                  have h5 := look_any ((HX3.out.1.below hV).below hV') hW c.sum (c.n : Int)
                  rw [hlk] at h5
                  exact h5)
                have e : refsOf (some c) = cnt (ss1.take i) x := hrf
                rw [e] at h6
                exact h6
              have HG : Calls Tryd.prog 21 #[.pointer (some ⟨st, 0, none⟩), .agg #[.string c.sum, .int .i64 (c.n : Int)]] wp fun e w' => e = .returned (.tuple #[.string c.data, .bool true]) ∧ Below wp.heap.size wp w' := HG
              rw [hcx] at HG
              have HIC : Hid (∀ V, Below wp.heap.size wp V → V.cell? ⟨ib, io + j * 2, none⟩ = some (.string c.sum) ∧ V.cell? ⟨ib, io + j * 2 + 1, none⟩ = some (.int .i64 (c.n : Int))) := fun V hV => ⟨by rw [hV.cell (World.block_lt_of_cell? wp _ g0)]; exact g0, by rw [hV.cell (World.block_lt_of_cell? wp _ g1)]; exact g1⟩
              have HJ : Hid (ss1[j]? = some x) := hx
              clear hc hcx hci hlk hrf hIw hcc hx
              go_wp2_with fail
              refine HG.mono ?_
              rintro e V5 ⟨rfl, hb5⟩
              have HB5 : Hid (Below wp.heap.size wp V5 ∧ Below w.heap.size w V5) := ⟨hb5, HX3.out.2.2.1.trans (hb5.mono HX3.out.2.2.1.size)⟩
              have s5 := HSC.out V5 HB5.out.2 j x HJ.out
              have hbe0 : (x.toList == x.toList) = true := by simp
              clear HG hb5 g0 g1
              go_wp2
              go_loopw [17, 18, 19] (fun vf vr vk wr => ∃ (k : Nat) (b : Bool), k ≤ i ∧ decide (cnt (ss1.take (min k j)) x = 0) = b ∧ vf = .bool b ∧ vr = .int .i64 (cnt (ss1.take k) x : Nat) ∧ vk = .int .i64 k ∧ Below V5.heap.size V5 wr) (fun _ _ vk _ => i - (intOf vk).toNat)
              case atStart => exact ⟨0, true, by omega, by simp [cnt], rfl, by simp [cnt], rfl, Below.refl _ _⟩
              case round =>
                obtain ⟨k, b, hki, hb, rfl, rfl, rfl, hb6⟩ := hrel
                have HB6 : Hid (Below V5.heap.size V5 wr) := hb6
                have HW6 : Hid (Below w.heap.size w wr ∧ Below wp.heap.size wp wr) := ⟨HB5.out.2.trans (hb6.mono HB5.out.2.size), HB5.out.1.trans (hb6.mono HB5.out.1.size)⟩
                have hck := cnt_le (ss1.take k) x
                rw [List.length_take] at hck
                clear hb6 s5
                have s6 := HSC.out wr HW6.out.1 j x HJ.out
                by_cases hkl : k < i
                · have k4 : (k : Int) < (i : Int) := by omega
                  obtain ⟨y, hy⟩ : ∃ y, ss1[k]? = some y := ⟨_, List.getElem?_eq_getElem (by omega)⟩
                  have s7 := HSC.out wr HW6.out.1 k y hy
                  have HR : Hid (cnt (ss1.take (k + 1)) x = cnt (ss1.take k) x + if y = x then 1 else 0) := by show _ = _; rw [take_snoc hy, cnt_snoc]
                  have HF : Hid (decide (cnt (ss1.take (min (k + 1) j)) x = 0) = (b && !(decide (k < j) && decide (y = x)))) := by
                    show _ = _
                    rw [← hb]
                    by_cases hkj : k < j
                    · rw [show min (k + 1) j = k + 1 by omega, show min k j = k by omega, take_snoc hy, cnt_snoc]
                      by_cases hyx : y = x
                      · simp [hkj, hyx]
                      · simp [hkj, hyx]
                    · rw [show min (k + 1) j = j by omega, show min k j = j by omega]
                      simp [hkj]
                  clear hb hy
                  by_cases hkj : k < j
                  · have k5 : (k : Int) < (j : Int) := by omega
                    have HKJ : Hid (k < j) := hkj
                    by_cases hyx : y = x
                    · have hbe : (y.toList == x.toList) = true := by rw [hyx]; simp
                      have HYX : Hid (y = x) := hyx
                      clear hyx
                      cases b with
                      | true =>
                        go_wp2
                        go_quiet (fail)
                        go_wp2
                        go_quiet (fail)
                        go_wp2
                        exact ⟨⟨k + 1, false, by omega, by rw [HF.out]; simp [HKJ.out, HYX.out], rfl, by rw [HR.out]; simp [HYX.out], by go_num, below_drewN HB6.out _⟩, by simp [intOf]; omega⟩
                      | false =>
                        go_wp2
                        go_quiet (fail)
                        go_wp2
                        go_quiet (fail)
                        go_wp2
                        exact ⟨⟨k + 1, false, by omega, by rw [HF.out]; simp [HKJ.out, HYX.out], rfl, by rw [HR.out]; simp [HYX.out], by go_num, below_drewN HB6.out _⟩, by simp [intOf]; omega⟩
                    · have hbe : (y.toList == x.toList) = false := str_nb hyx
                      have HYX : Hid (¬ y = x) := hyx
                      clear hyx
                      cases b with
                      | true =>
                        go_wp2
                        go_quiet (fail)
                        go_wp2
                        go_quiet (fail)
                        go_wp2
                        exact ⟨⟨k + 1, true, by omega, by rw [HF.out]; simp [HKJ.out, HYX.out], rfl, by rw [HR.out]; simp [HYX.out], by go_num, below_drewN HB6.out _⟩, by simp [intOf]; omega⟩
                      | false =>
                        go_wp2
                        go_quiet (fail)
                        go_wp2
                        go_quiet (fail)
                        go_wp2
                        exact ⟨⟨k + 1, false, by omega, by rw [HF.out]; simp [HKJ.out, HYX.out], rfl, by rw [HR.out]; simp [HYX.out], by go_num, below_drewN HB6.out _⟩, by simp [intOf]; omega⟩
                  · have k5 : ¬ (k : Int) < (j : Int) := by omega
                    have HKJ : Hid (¬ k < j) := hkj
                    by_cases hyx : y = x
                    · have hbe : (y.toList == x.toList) = true := by rw [hyx]; simp
                      have HYX : Hid (y = x) := hyx
                      clear hyx
                      cases b with
                      | true =>
                        go_wp2
                        go_quiet (fail)
                        go_wp2
                        go_quiet (fail)
                        go_wp2
                        exact ⟨⟨k + 1, true, by omega, by rw [HF.out]; simp [HKJ.out, HYX.out], rfl, by rw [HR.out]; simp [HYX.out], by go_num, below_drewN HB6.out _⟩, by simp [intOf]; omega⟩
                      | false =>
                        go_wp2
                        go_quiet (fail)
                        go_wp2
                        go_quiet (fail)
                        go_wp2
                        exact ⟨⟨k + 1, false, by omega, by rw [HF.out]; simp [HKJ.out, HYX.out], rfl, by rw [HR.out]; simp [HYX.out], by go_num, below_drewN HB6.out _⟩, by simp [intOf]; omega⟩
                    · have hbe : (y.toList == x.toList) = false := str_nb hyx
                      have HYX : Hid (¬ y = x) := hyx
                      clear hyx
                      cases b with
                      | true =>
                        go_wp2
                        go_quiet (fail)
                        go_wp2
                        go_quiet (fail)
                        go_wp2
                        exact ⟨⟨k + 1, true, by omega, by rw [HF.out]; simp [HKJ.out, HYX.out], rfl, by rw [HR.out]; simp [HYX.out], by go_num, below_drewN HB6.out _⟩, by simp [intOf]; omega⟩
                      | false =>
                        go_wp2
                        go_quiet (fail)
                        go_wp2
                        go_quiet (fail)
                        go_wp2
                        exact ⟨⟨k + 1, false, by omega, by rw [HF.out]; simp [HKJ.out, HYX.out], rfl, by rw [HR.out]; simp [HYX.out], by go_num, below_drewN HB6.out _⟩, by simp [intOf]; omega⟩
                · have k4 : ¬ (k : Int) < (i : Int) := by omega
                  obtain rfl : k = i := by omega
                  rw [show min k j = j by omega] at hb
                  obtain ⟨i0, i1⟩ := HIC.out wr HW6.out.2
                  have hgd : ss1.getD j ⟨#[]⟩ = x := by rw [List.getD_eq_getElem?_getD, HJ.out]; rfl
                  have HU : Hid (unlT ss1 (j + 1) = unlT ss1 j + (if b = true then 1 else 0) ∧ btsT ss1 (j + 1) = btsT ss1 j + (if b = true then x.size else 0)) := by
                    subst hb
                    constructor
                    · show unlT ss1 j + _ = _
                      rw [hgd]; simp
                    · show btsT ss1 j + _ = _
                      rw [hgd]; simp
                  have HRW := HRE.out wr HW6.out.2
                  clear hb hgd
                  cases b with
                  | true =>
                    go_wp2_with fail
                    refine HRW.mono ?_
                    rintro e V9 ⟨rfl, hb9⟩
                    have HB9 : Hid (Below wo.heap.size wo V9) := (HX3.out.2.2.2.trans (HW6.out.2.mono HX3.out.2.2.2.size)).trans (hb9.mono (HX3.out.2.2.2.trans (HW6.out.2.mono HX3.out.2.2.2.size)).size)
                    clear HRW hb9
                    go_wp2
                    exact ⟨⟨j + 1, by omega, by rw [HU.out.1]; go_num, by rw [HU.out.2]; go_num, by go_num, by rw [HU.out.2]; simp; omega, by rw [HU.out.1]; simp; omega, HB9.out⟩, by simp [intOf]; omega⟩
                  | false =>
                    go_wp2_with fail
                    refine HRW.mono ?_
                    rintro e V9 ⟨rfl, hb9⟩
                    have HB9 : Hid (Below wo.heap.size wo V9) := (HX3.out.2.2.2.trans (HW6.out.2.mono HX3.out.2.2.2.size)).trans (hb9.mono (HX3.out.2.2.2.trans (HW6.out.2.mono HX3.out.2.2.2.size)).size)
                    clear HRW hb9
                    go_wp2
                    exact ⟨⟨j + 1, by omega, by rw [HU.out.1]; simp, by rw [HU.out.2]; simp, by go_num, by rw [HU.out.2]; simp; omega, by rw [HU.out.1]; simp; omega, HB9.out⟩, by simp [intOf]; omega⟩
            · have k3 : ¬ (j : Int) < (i : Int) := by omega
              obtain rfl : j = i := by omega
              have HCO := count_any HX3.out.1 hW
              rw [HX.out.2.1.tb.all, HX.out.2.1.tb.sz.1, HX.out.2.2.2.2.1, HX.out.2.2.2.2.2.1] at HCO
              go_wp2_with fail
              refine HCO.mono ?_
              rintro e V5 ⟨rfl, hb5⟩
              have HB : Hid (Below w.heap.size w V5) := HX3.out.2.2.1.trans (hb5.mono HX3.out.2.2.1.size)
              clear HCO hb5
              go_wp2_with fail
              refine (HLV.out _ HB.out).mono ?_
              rintro e V ⟨rfl, hb⟩
              go_wp2
              go_ret
              exact ⟨rfl, hb⟩
        · have k1 : ¬ (i : Int) < (len1 : Int) := by omega
          have HX : Hid (Cs tb F wo st tb W (-1) T ∧ Held W T (ss1.take i) ∧ Told W T (ss1.take i) ids ∧ Ids tb F wo la i lc ids ∧ T.length = unlT ss1 i ∧ dataSum (consT W T) = btsT ss1 i ∧ Below w.heap.size w wo) := ⟨hcs, hHe, hTo, hId, hTl, hTd, hbw⟩
          clear hcs hHe hTo hId hTl hTd hbw hlt
          go_wp2
          go_loopw [12, 13, 14] (fun vu vb vj wr => ∃ j : Nat, j ≤ i ∧ vu = .int .i64 (unlT ss1 j : Nat) ∧ vb = .int .i64 (btsT ss1 j : Nat) ∧ vj = .int .i64 j ∧ btsT ss1 j ≤ 128 * j ∧ unlT ss1 j ≤ j ∧ Below wo.heap.size wo wr) (fun _ _ vj _ => i - (intOf vj).toNat)
          case atStart => exact ⟨0, by omega, rfl, rfl, rfl, by simp [btsT], by simp [unlT], Below.refl _ _⟩
          case round =>
            obtain ⟨j, hj, rfl, rfl, rfl, hbt, hun, hb3⟩ := hrel
            rename World => wp
            have HX3 : Hid (Cs tb (mor F wo wp) wp st tb W (-1) T ∧ Ids tb (mor F wo wp) wp la i lc ids ∧ Below w.heap.size w wp ∧ Below wo.heap.size wo wp) := ⟨HX.out.1.below hb3, HX.out.2.2.2.1.fr (Fr.below hb3), HX.out.2.2.2.2.2.2.trans (hb3.mono HX.out.2.2.2.2.2.2.size), hb3⟩
            clear hb3
            by_cases hjl : j < i
            · have k3 : (j : Int) < (i : Int) := by omega
              obtain ⟨sb, so, ha1, hsc⟩ := cells_any HS.out (by omega)
              subst ha1
              have HSC : Hid (∀ V, Below w.heap.size w V → ∀ (i : Nat) (s : ByteArray), ss1[i]? = some s → V.cell? ⟨sb, so + i, none⟩ = some (.string s)) := hsc
              clear hsc
              obtain ⟨x, hx⟩ : ∃ x, ss1[j]? = some x := ⟨_, List.getElem?_eq_getElem (by omega)⟩
              obtain ⟨c, hc, hcx, hci⟩ := HX.out.2.2.1.2 j x (by rw [List.getElem?_take_of_lt hjl]; exact hx)
              have hlk := HX.out.2.1.tb.look hc.1 hc.2
              have hrf := (HX.out.2.1.own c hc).2
              rw [hcx] at hrf
              have hxz : x.size ≤ 128 := by rw [← hcx]; exact hc.2.2.2.2.2
              have hIw : Iw (fun _ => True) wp la i lc ids := Rw.own HX3.out.2.1.1 (fun _ _ => trivial)
              obtain ⟨ib, io, rfl, _, _, hcc⟩ := hIw.at (by omega)
              obtain ⟨g0, g1⟩ := hcc j _ hci
              have g0 : wp.cell? ⟨ib, io + j * 2, none⟩ = some (.string c.sum) := g0
              have g1 : wp.cell? ⟨ib, io + j * 2 + 1, none⟩ = some (.int .i64 (c.n : Int)) := g1
              have HG := get_of (some ⟨st, 0, none⟩) c.sum (c.n : Int) (some c) wp (fun V hV => by
                have h5 := look_any (HX3.out.1.below hV) hW c.sum (c.n : Int)
                rw [hlk] at h5
                exact h5)
              have HRE : Hid (∀ V, Below wp.heap.size wp V → Calls Tryd.prog 22 #[.pointer (some ⟨st, 0, none⟩), .agg #[.string c.sum, .int .i64 (c.n : Int)]] V fun e w' => e = .returned (.int .i64 (cnt (ss1.take i) x : Nat)) ∧ Below V.heap.size V w') := fun V hV => by
                have h6 := refs_of (some ⟨st, 0, none⟩) c.sum (c.n : Int) (some c) V (by show c.refs < 4294967296; have := cnt_le (ss1.take i) x; omega) (fun V' hV' => by
                  have h5 := look_any ((HX3.out.1.below hV).below hV') hW c.sum (c.n : Int)
                  rw [hlk] at h5
                  exact h5)
                have e : refsOf (some c) = cnt (ss1.take i) x := hrf
                rw [e] at h6
                exact h6
              have HG : Calls Tryd.prog 21 #[.pointer (some ⟨st, 0, none⟩), .agg #[.string c.sum, .int .i64 (c.n : Int)]] wp fun e w' => e = .returned (.tuple #[.string c.data, .bool true]) ∧ Below wp.heap.size wp w' := HG
              rw [hcx] at HG
              have HIC : Hid (∀ V, Below wp.heap.size wp V → V.cell? ⟨ib, io + j * 2, none⟩ = some (.string c.sum) ∧ V.cell? ⟨ib, io + j * 2 + 1, none⟩ = some (.int .i64 (c.n : Int))) := fun V hV => ⟨by rw [hV.cell (World.block_lt_of_cell? wp _ g0)]; exact g0, by rw [hV.cell (World.block_lt_of_cell? wp _ g1)]; exact g1⟩
              have HJ : Hid (ss1[j]? = some x) := hx
              clear hc hcx hci hlk hrf hIw hcc hx
              go_wp2_with fail
              refine HG.mono ?_
              rintro e V5 ⟨rfl, hb5⟩
              have HB5 : Hid (Below wp.heap.size wp V5 ∧ Below w.heap.size w V5) := ⟨hb5, HX3.out.2.2.1.trans (hb5.mono HX3.out.2.2.1.size)⟩
              have s5 := HSC.out V5 HB5.out.2 j x HJ.out
              have hbe0 : (x.toList == x.toList) = true := by simp
              clear HG hb5 g0 g1
              go_wp2
              go_loopw [17, 18, 19] (fun vf vr vk wr => ∃ (k : Nat) (b : Bool), k ≤ i ∧ decide (cnt (ss1.take (min k j)) x = 0) = b ∧ vf = .bool b ∧ vr = .int .i64 (cnt (ss1.take k) x : Nat) ∧ vk = .int .i64 k ∧ Below V5.heap.size V5 wr) (fun _ _ vk _ => i - (intOf vk).toNat)
              case atStart => exact ⟨0, true, by omega, by simp [cnt], rfl, by simp [cnt], rfl, Below.refl _ _⟩
              case round =>
                obtain ⟨k, b, hki, hb, rfl, rfl, rfl, hb6⟩ := hrel
                have HB6 : Hid (Below V5.heap.size V5 wr) := hb6
                have HW6 : Hid (Below w.heap.size w wr ∧ Below wp.heap.size wp wr) := ⟨HB5.out.2.trans (hb6.mono HB5.out.2.size), HB5.out.1.trans (hb6.mono HB5.out.1.size)⟩
                have hck := cnt_le (ss1.take k) x
                rw [List.length_take] at hck
                clear hb6 s5
                have s6 := HSC.out wr HW6.out.1 j x HJ.out
                by_cases hkl : k < i
                · have k4 : (k : Int) < (i : Int) := by omega
                  obtain ⟨y, hy⟩ : ∃ y, ss1[k]? = some y := ⟨_, List.getElem?_eq_getElem (by omega)⟩
                  have s7 := HSC.out wr HW6.out.1 k y hy
                  have HR : Hid (cnt (ss1.take (k + 1)) x = cnt (ss1.take k) x + if y = x then 1 else 0) := by show _ = _; rw [take_snoc hy, cnt_snoc]
                  have HF : Hid (decide (cnt (ss1.take (min (k + 1) j)) x = 0) = (b && !(decide (k < j) && decide (y = x)))) := by
                    show _ = _
                    rw [← hb]
                    by_cases hkj : k < j
                    · rw [show min (k + 1) j = k + 1 by omega, show min k j = k by omega, take_snoc hy, cnt_snoc]
                      by_cases hyx : y = x
                      · simp [hkj, hyx]
                      · simp [hkj, hyx]
                    · rw [show min (k + 1) j = j by omega, show min k j = j by omega]
                      simp [hkj]
                  clear hb hy
                  by_cases hkj : k < j
                  · have k5 : (k : Int) < (j : Int) := by omega
                    have HKJ : Hid (k < j) := hkj
                    by_cases hyx : y = x
                    · have hbe : (y.toList == x.toList) = true := by rw [hyx]; simp
                      have HYX : Hid (y = x) := hyx
                      clear hyx
                      cases b with
                      | true =>
                        go_wp2
                        go_quiet (fail)
                        go_wp2
                        go_quiet (fail)
                        go_wp2
                        exact ⟨⟨k + 1, false, by omega, by rw [HF.out]; simp [HKJ.out, HYX.out], rfl, by rw [HR.out]; simp [HYX.out], by go_num, below_drewN HB6.out _⟩, by simp [intOf]; omega⟩
                      | false =>
                        go_wp2
                        go_quiet (fail)
                        go_wp2
                        go_quiet (fail)
                        go_wp2
                        exact ⟨⟨k + 1, false, by omega, by rw [HF.out]; simp [HKJ.out, HYX.out], rfl, by rw [HR.out]; simp [HYX.out], by go_num, below_drewN HB6.out _⟩, by simp [intOf]; omega⟩
                    · have hbe : (y.toList == x.toList) = false := str_nb hyx
                      have HYX : Hid (¬ y = x) := hyx
                      clear hyx
                      cases b with
                      | true =>
                        go_wp2
                        go_quiet (fail)
                        go_wp2
                        go_quiet (fail)
                        go_wp2
                        exact ⟨⟨k + 1, true, by omega, by rw [HF.out]; simp [HKJ.out, HYX.out], rfl, by rw [HR.out]; simp [HYX.out], by go_num, below_drewN HB6.out _⟩, by simp [intOf]; omega⟩
                      | false =>
                        go_wp2
                        go_quiet (fail)
                        go_wp2
                        go_quiet (fail)
                        go_wp2
                        exact ⟨⟨k + 1, false, by omega, by rw [HF.out]; simp [HKJ.out, HYX.out], rfl, by rw [HR.out]; simp [HYX.out], by go_num, below_drewN HB6.out _⟩, by simp [intOf]; omega⟩
                  · have k5 : ¬ (k : Int) < (j : Int) := by omega
                    have HKJ : Hid (¬ k < j) := hkj
                    by_cases hyx : y = x
                    · have hbe : (y.toList == x.toList) = true := by rw [hyx]; simp
                      have HYX : Hid (y = x) := hyx
                      clear hyx
                      cases b with
                      | true =>
                        go_wp2
                        go_quiet (fail)
                        go_wp2
                        go_quiet (fail)
                        go_wp2
                        exact ⟨⟨k + 1, true, by omega, by rw [HF.out]; simp [HKJ.out, HYX.out], rfl, by rw [HR.out]; simp [HYX.out], by go_num, below_drewN HB6.out _⟩, by simp [intOf]; omega⟩
                      | false =>
                        go_wp2
                        go_quiet (fail)
                        go_wp2
                        go_quiet (fail)
                        go_wp2
                        exact ⟨⟨k + 1, false, by omega, by rw [HF.out]; simp [HKJ.out, HYX.out], rfl, by rw [HR.out]; simp [HYX.out], by go_num, below_drewN HB6.out _⟩, by simp [intOf]; omega⟩
                    · have hbe : (y.toList == x.toList) = false := str_nb hyx
                      have HYX : Hid (¬ y = x) := hyx
                      clear hyx
                      cases b with
                      | true =>
                        go_wp2
                        go_quiet (fail)
                        go_wp2
                        go_quiet (fail)
                        go_wp2
                        exact ⟨⟨k + 1, true, by omega, by rw [HF.out]; simp [HKJ.out, HYX.out], rfl, by rw [HR.out]; simp [HYX.out], by go_num, below_drewN HB6.out _⟩, by simp [intOf]; omega⟩
                      | false =>
                        go_wp2
                        go_quiet (fail)
                        go_wp2
                        go_quiet (fail)
                        go_wp2
                        exact ⟨⟨k + 1, false, by omega, by rw [HF.out]; simp [HKJ.out, HYX.out], rfl, by rw [HR.out]; simp [HYX.out], by go_num, below_drewN HB6.out _⟩, by simp [intOf]; omega⟩
                · have k4 : ¬ (k : Int) < (i : Int) := by omega
                  obtain rfl : k = i := by omega
                  rw [show min k j = j by omega] at hb
                  obtain ⟨i0, i1⟩ := HIC.out wr HW6.out.2
                  have hgd : ss1.getD j ⟨#[]⟩ = x := by rw [List.getD_eq_getElem?_getD, HJ.out]; rfl
                  have HU : Hid (unlT ss1 (j + 1) = unlT ss1 j + (if b = true then 1 else 0) ∧ btsT ss1 (j + 1) = btsT ss1 j + (if b = true then x.size else 0)) := by
                    subst hb
                    constructor
                    · show unlT ss1 j + _ = _
                      rw [hgd]; simp
                    · show btsT ss1 j + _ = _
                      rw [hgd]; simp
                  have HRW := HRE.out wr HW6.out.2
                  clear hb hgd
                  cases b with
                  | true =>
                    go_wp2_with fail
                    refine HRW.mono ?_
                    rintro e V9 ⟨rfl, hb9⟩
                    have HB9 : Hid (Below wo.heap.size wo V9) := (HX3.out.2.2.2.trans (HW6.out.2.mono HX3.out.2.2.2.size)).trans (hb9.mono (HX3.out.2.2.2.trans (HW6.out.2.mono HX3.out.2.2.2.size)).size)
                    clear HRW hb9
                    go_wp2
                    exact ⟨⟨j + 1, by omega, by rw [HU.out.1]; go_num, by rw [HU.out.2]; go_num, by go_num, by rw [HU.out.2]; simp; omega, by rw [HU.out.1]; simp; omega, HB9.out⟩, by simp [intOf]; omega⟩
                  | false =>
                    go_wp2_with fail
                    refine HRW.mono ?_
                    rintro e V9 ⟨rfl, hb9⟩
                    have HB9 : Hid (Below wo.heap.size wo V9) := (HX3.out.2.2.2.trans (HW6.out.2.mono HX3.out.2.2.2.size)).trans (hb9.mono (HX3.out.2.2.2.trans (HW6.out.2.mono HX3.out.2.2.2.size)).size)
                    clear HRW hb9
                    go_wp2
                    exact ⟨⟨j + 1, by omega, by rw [HU.out.1]; simp, by rw [HU.out.2]; simp, by go_num, by rw [HU.out.2]; simp; omega, by rw [HU.out.1]; simp; omega, HB9.out⟩, by simp [intOf]; omega⟩
            · have k3 : ¬ (j : Int) < (i : Int) := by omega
              obtain rfl : j = i := by omega
              have HCO := count_any HX3.out.1 hW
              rw [HX.out.2.1.tb.all, HX.out.2.1.tb.sz.1, HX.out.2.2.2.2.1, HX.out.2.2.2.2.2.1] at HCO
              go_wp2_with fail
              refine HCO.mono ?_
              rintro e V5 ⟨rfl, hb5⟩
              have HB : Hid (Below w.heap.size w V5) := HX3.out.2.2.1.trans (hb5.mono HX3.out.2.2.1.size)
              clear HCO hb5
              go_wp2_with fail
              refine (HLV.out _ HB.out).mono ?_
              rintro e V ⟨rfl, hb⟩
              go_wp2
              go_ret
              exact ⟨rfl, hb⟩

set_option linter.unusedVariables false in
set_option maxRecDepth 100000 in
theorem lifted (os : Os) (started : os.Started) (H : Type) (enc : TypeId × Value → H) :
    ReturnsInHanded {} Tryd.checked os 4 .any (fun w args => (Rows.casOnceSpec.pre enc Tryd.prog Tryd.f4 [] false w args ∧ laidMetH Tryd.prog laid2 w) ∧ sizedMet enc Tryd.prog Tryd.f4 (OpenSpec.ofChange Rows.casOnceSpec) false w args) (Rows.casOnceSpec.post enc Tryd.prog Tryd.f4 false true false false) := by
  refine returnsInHanded_of_change_and (C := Tryd.checked) (X := fun w _ => laidMetH Tryd.prog laid2 w) (fun _ _ _ hh h => h.of_heap hh) own started (by kernel_rfl) Tryd.func4
    (ChangeSpec.witness_shaped (enc := enc) (C := Tryd.checked) (os := os) (X := fun w _ => laidMetH Tryd.prog laid2 w) false (World.doorLaid Tryd.prog 19 os) #[.int .i64 0, .slice none 0 0] 8 rfl (World.shaped_of_RefB (by kernel_rfl) (by kernel_rfl)) (by kernel_rfl) (by kernel_rfl) (by kernel_rfl) (door_met os _)) ?_
  intro W base args ds gs before hval0 hW _ hsz0 hL _
  have hval : ∀ (j : Nat) t v, Tryd.f4.params[j]? = some t → args[j]? = some v → Value.okWide Tryd.prog W .any base t v := hval0
  have hsz : (DataW.weightsEach Tryd.prog (Tryd.f4.params.toList ++ Rows.casOnceSpec.plain.varTypes Tryd.prog) (ds ++ gs)).all (· ≤ reachBytes) = true := hsz0
  have hW' := hW
  obtain ⟨p, q, hA0, hV, rfl, hfz, hnd⟩ := hW
  have hA : DataW.TrodAll enc Tryd.prog W 0 (fun _ => true) true Tryd.f4.params.toList args.toList ds p := hA0
  rw [Tryd.params4] at hA hval hsz
  obtain ⟨v0, vs0, d0, ds0, p0, q0, hargs, rfl, rfl, h0, r0⟩ := trodAll_cons hA
  obtain ⟨v1, vs1, d1, ds1, p1, q1, rfl, rfl, rfl, h1, r1⟩ := trodAll_cons r0
  obtain ⟨rfl, rfl, rfl⟩ := trodAll_nil r1
  obtain rfl : args = #[v0, v1] := by cases args; simp_all
  obtain ⟨rfl, rfl⟩ := trodVars_none hV
  obtain ⟨x0, rfl, rfl, rfl, w0⟩ := open_int Tryd.underlying3 (hval 0 3 v0 rfl rfl) h0
  have k1 := h1
  have lt1 : ∀ x ∈ p1, x.block < W.heap.size := by obtain ⟨m, hm⟩ := k1; exact DataW.trod_lt m _ _ _ hm
  obtain ⟨a1, len1, cap1, rfl⟩ := okWide_slice Tryd.underlying51 (hval 1 51 v1 rfl rfl)
  obtain ⟨ss1, w1, z1⟩ : ∃ ss, Ss W a1 len1 cap1 ss ∧ ∀ i (h : i < ss.length), (ss[i]).size ≤ 140737488351232 := by
    obtain ⟨fuel, hf⟩ := h1
    exact strs_of (j := 1) (by simpa [Value.cells] using hf) hsz rfl rfl
  clear hA0 hval0 hsz hsz0
  refine (walk x0 (wf_i64 w0) a1 len1 cap1 ss1 z1 W w1 (of_laid hL)).mono fun e W' ⟨he, bel⟩ => ?_
  subst he
  exact ⟨_, rfl, _, _, _, [], _, [], hW', trodAll_mk1 (shut_bool Tryd.underlying4 _), (trodAll_cons_mk (shut_int Tryd.underlying3 w0) (trodAll_cons_mk (Below.trod laidOut (by kernel_rfl) (of_decide_eq_true (by kernel_rfl)) k1 bel lt1) trodAll_mk0)), rfl, bel.frame _, fun h => by cases h⟩

theorem over : Rows.casOnceRow.holds Tryd.pinned (OpenSpec.ofChange Rows.casOnceSpec) :=
  OpenClaim.holds_of_wide 4 Tryd.f4 rfl rfl rfl rfl rfl rfl rfl ⟨rfl, rfl, rfl, rfl, rfl⟩ rfl rfl rfl rfl rfl (by kernel_rfl) Tryd.func4 (by kernel_rfl)
    (of_decide_eq_true (by kernel_rfl)) (by unfold Func.isWrapper; first | (rw [if_pos (by decide +kernel)]; kernel_rfl) | (rw [if_neg (by decide +kernel)]; exact ⟨rfl, rfl⟩))
    (fun os started H enc _ => lifted os started H enc)

end Go.Proofs.YtjpkngbjjgimjaaDoor.casOnce
namespace Go.Proofs.YtjpkngbjjgimjaaDoor
/-- The given statement. -/
theorem casOnce_holds : Rows.CasOnceCardSaid :=
  Claim7.holds_tied_plain_at .later [] [.data, .data] true (true, "714266a7f20758317d11b46492cd9cd49cf98b3981d461172de498aac6b57d6c") false
    casOnce.over (fun _ h => by cases h) (by kernel_rfl) (fun _ h => by cases h) casOnce_row_tie rfl ⟨rfl, rfl⟩ (by kernel_rfl) rfl
    (fun f fn hf hfn => by
      obtain rfl : f = 4 := Option.some.inj ((show Tryd.prog.funcNamed "strongroom/strongroomlaw09.CasOnce" = some 4 by kernel_rfl).symm.trans hf) |>.symm
      obtain rfl : fn = Tryd.f4 := (Option.some.inj (Tryd.func4.symm.trans hfn)).symm
      exact ⟨by kernel_rfl, fun j t ht => by
        rw [Tryd.params4] at ht
        rcases j with _ | _ | j
        · obtain rfl : t = 3 := by simpa using ht.symm
          exact (show Tryd.prog.wantsStandIn 3 = false by kernel_rfl)
        · obtain rfl : t = 51 := by simpa using ht.symm
          exact (show Tryd.prog.wantsStandIn 51 = false by kernel_rfl)
        · simp at ht
      ⟩)
    (by kernel_rfl)
#print axioms casOnce_holds
end Go.Proofs.YtjpkngbjjgimjaaDoor
