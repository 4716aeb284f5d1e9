/- The law of what stands beside contents. -/
import Derived.Test.YtjpkngbjjgimjaaDoorKX
import Derived.Test.YtjpkngbjjgimjaaDoorCards
import Derived.Test.YtjpkngbjjgimjaaDoorTie
import Derived.WalkKit
import Derived.ProofKit
import Derived.OpenShut
import Derived.ShutString
import Derived.ChangeOld
import Derived.Below
import Derived.LaidMore
import Derived.Stop.Joined
import Derived.SevenTiedAt
namespace Go.Proofs.YtjpkngbjjgimjaaDoor.casBeside
open Go.ChangeShapes Go.WideShapes Go.ChangeAt Go.WideMaps Go.WideElems Go.RowKit
open Go.ChangeMaps (open_string shut_string)
theorem cells_any {w : World} {a : Option Addr} {len cap : Nat} {ss : List ByteArray} (h : Ss w a len cap ss) (h0 : 0 < len) : ∃ b o, a = some ⟨b, o, none⟩ ∧ ∀ V, Below w.heap.size w V → ∀ (i : Nat) (s : ByteArray), ss[i]? = some s → V.cell? ⟨b, o + i, none⟩ = some (.string s) := by
  obtain ⟨b, o, e, hc⟩ := h.at h0
  refine ⟨b, o, e, fun V hV i s hs => ?_⟩
  obtain ⟨h1, h2⟩ := List.getElem?_eq_some_iff.1 hs
  have h5 := hc i h1
  rw [h2] at h5
  rw [hV.cell (World.block_lt_of_cell? w _ h5)]
  exact h5

set_option maxRecDepth 100000 in
set_option maxHeartbeats 2000000 in
theorem walk (x0 : Int) (_z0 : -9223372036854775808 ≤ x0 ∧ x0 ≤ 9223372036854775807) (a1 : Option Addr) (len1 cap1 : Nat) (ss1 : List ByteArray) (_z1 : ∀ i (h : i < ss1.length), (ss1[i]).size ≤ 140737488351232) (s2 t2 : ByteArray) (z2 : s2.size ≤ 140737488351232) (u2 : t2.size ≤ 140737488351232) (w : World) (w1 : Ss w a1 len1 cap1 ss1) (hL : Laid w) :
    Calls Tryd.prog 7 #[.int .i64 x0, .slice a1 len1 cap1, .agg #[.string s2, .string t2]] w fun e w' => e = .returned (.bool true) ∧ Below w.heap.size w w' := by
  obtain ⟨k0, hk0⟩ : ∃ k0, s2 = k0 := ⟨_, rfl⟩
  obtain ⟨v0, hv0⟩ : ∃ v0, t2 = v0 := ⟨_, rfl⟩
  subst hk0
  subst hv0
  obtain ⟨pb, hpb⟩ : ∃ pb, w.heap.size = pb := ⟨_, rfl⟩
  obtain ⟨W0, hW0⟩ : ∃ W0, w.alloc (.cells #[.string s2, .string t2] 63) = W0 := ⟨_, rfl⟩
  have r0 : W0.heap[pb]? = some (.cells #[.string s2, .string t2] 63 (0, 0)) := by rw [← hW0, ← hpb]; exact heap_alloc_new w _
  have hb0 : Below w.heap.size w W0 := by rw [← hW0]; exact (Below.refl _ w).alloc (Nat.le_refl _) _
  have p0 : W0.cell? ⟨pb, 0, none⟩ = some (.string s2) := by rw [cell_of_row _ _ _ _ _ _ r0]; rfl
  have p1 : W0.cell? ⟨pb, 1, none⟩ = some (.string t2) := by rw [cell_of_row _ _ _ _ _ _ r0]; rfl
  have HS : Hid (Ss w a1 len1 cap1 ss1) := w1
  have hnn := HS.out.1
  have hcap : cap1 ≤ 9223372036854775807 := HS.out.2.2.1
  have hlc : len1 ≤ cap1 := HS.out.2.1
  have HLW : Hid (Laid w ∧ Below w.heap.size w W0) := ⟨hL, hb0⟩
  have HLV : Hid (∀ V, Below w.heap.size w V → Calls Tryd.prog 10 #[] V fun e w' => e = .returned (.bool true) ∧ Below w.heap.size w w') := fun V hV => (lives_any V (hL.below hV)).mono fun e w' h => ⟨h.1, hV.trans (h.2.mono hV.size)⟩
  obtain ⟨k0, hk0⟩ : ∃ k0, s2 = k0 := ⟨_, rfl⟩
  obtain ⟨v0, hv0⟩ : ∃ v0, t2 = v0 := ⟨_, rfl⟩
  rw [hk0] at p0 z2 ⊢
  rw [hv0] at p1 u2 ⊢
  rw [hk0, hv0] at hW0
  clear r0 hb0 w1 hL hk0 hv0
  go_enter Tryd.func7, Tryd.ntmps7
  go_wp2
  go_quiet (fail)
  obtain ⟨U, hU⟩ : ∃ U, W0.drewN nq = U := ⟨_, rfl⟩
  rw [hU]
  have hbU : Below w.heap.size w U := by rw [← hU]; exact below_drewN HLW.out.2 _
  obtain ⟨tb, htb⟩ : ∃ tb, U.heap.size = tb := ⟨_, rfl⟩
  obtain ⟨W1, hW1⟩ : ∃ W1, U.alloc (.cells #[.slice none 0 0, .int .i64 (-1)] 30) = W1 := ⟨_, rfl⟩
  have hs1 : W1.heap.size = tb + 1 := by rw [← hW1, ← htb]; simp
  have hb1 : Below U.heap.size U W1 := by rw [← hW1]; exact (Below.refl _ U).alloc (Nat.le_refl _) _
  have hbw1 : Below w.heap.size w W1 := hbU.trans (hb1.mono hbU.size)
  clear p0 p1 hU hW0 hpb
  by_cases hx : x0 < 1 ∨ 32 < x0
  · have HN := new_no (.iface 27 (.pointer (some ⟨tb, 0, none⟩))) x0 W1 (.inr ⟨tb, rfl⟩) (.inr hx)
    have HB1 : Hid (Below w.heap.size w W1) := hbw1
    clear hb1 hbw1 hbU hx hs1
    go_wp2_with fail
    refine HN.mono ?_
    rintro e V ⟨rfl, hV⟩
    subst V
    go_wp2_with fail
    refine (HLV.out _ (HB1.out)).mono ?_
    rintro e V ⟨rfl, hb⟩
    go_wp2
    go_ret
    exact ⟨rfl, hb⟩
  · obtain ⟨W, hWx, hWa, hW⟩ : ∃ W : Nat, x0 = (W : Int) ∧ 1 ≤ W ∧ W ≤ 32 := ⟨x0.toNat, by omega, by omega, by omega⟩
    subst hWx
    have HN : Calls Tryd.prog 9 #[.iface 27 (.pointer (some ⟨tb, 0, none⟩)), .int .i64 (W : Int)] W1 fun e w' => e = .returned (.tuple #[.pointer (some ⟨W1.heap.size, 0, none⟩), .int .i64 0]) ∧ w' = W1.alloc (.cells #[.iface 27 (.pointer (some ⟨tb, 0, none⟩)), .int .i64 (W : Int)] 71) := new_yes tb W W1 hWa hW
    have hcn := cs_new (w := U) (W := W) (-1)
    rw [hW1, htb] at hcn
    rw [hs1] at HN
    obtain ⟨W2, hW2⟩ : ∃ W2, W1.alloc (.cells #[.iface 27 (.pointer (some ⟨tb, 0, none⟩)), .int .i64 (W : Int)] 71) = W2 := ⟨_, rfl⟩
    rw [hW2] at HN hcn
    obtain ⟨st, hst⟩ : ∃ st, tb + 1 = st := ⟨_, rfl⟩
    rw [hst] at HN hcn
    have HCS : Hid (Cs tb (fun _ => False) W2 st tb W (-1) [] ∧ Below w.heap.size w W2 ∧ Laid w ∧ w.heap.size ≤ tb) := ⟨hcn.1, hbU.trans (hcn.2.mono (by rw [← htb]; exact hbU.size)), HLW.out.1, by rw [← htb]; exact hbU.size⟩
    clear hs1 hcn hW2 hst hx hb1 hbw1 hbU
    by_cases q1 : k0.size < 1
    · have k1 : (k0.size : Int) < 1 := by omega
      skip
      go_wp2_with fail
      refine HN.mono ?_
      rintro e V ⟨rfl, hV⟩
      subst V
      go_wp2_with fail
      refine (HLV.out _ (HCS.out.2.1)).mono ?_
      rintro e V ⟨rfl, hb⟩
      go_wp2
      go_ret
      exact ⟨rfl, hb⟩
    · have k1 : ¬ (k0.size : Int) < 1 := by omega
      obtain ⟨b, hb⟩ : ∃ b, (k0.data.toList.getD 0 0).toNat = b := ⟨_, rfl⟩
      have hidx : ∀ V, (Instr.index 9 (.string k0) (.int .i64 0)).run Tryd.prog V = .ok (.int .u8 (b : Int)) V := fun V => str_byte k0 0 b (by omega) hb V
      by_cases q2 : b = 99
      · subst q2
        skip
        go_wp2_with fail
        refine HN.mono ?_
        rintro e V ⟨rfl, hV⟩
        subst V
        go_wp2_with fail
        refine (HLV.out _ (HCS.out.2.1)).mono ?_
        rintro e V ⟨rfl, hb⟩
        go_wp2
        go_ret
        exact ⟨rfl, hb⟩
      · have k2 : ((b : Int) == 99) = false := by simp; omega
        have k2n : ¬ (b : Int) = 99 := by omega
        by_cases q3 : 64 < k0.size
        · have k3 : (64 : Int) < (k0.size : Int) := by omega
          skip
          go_wp2_with fail
          refine HN.mono ?_
          rintro e V ⟨rfl, hV⟩
          subst V
          go_wp2_with fail
          refine (HLV.out _ (HCS.out.2.1)).mono ?_
          rintro e V ⟨rfl, hb⟩
          go_wp2
          go_ret
          exact ⟨rfl, hb⟩
        · have k3 : ¬ (64 : Int) < (k0.size : Int) := by omega
          by_cases q4 : 400 < v0.size
          · have k4 : (400 : Int) < (v0.size : Int) := by omega
            skip
            go_wp2_with fail
            refine HN.mono ?_
            rintro e V ⟨rfl, hV⟩
            subst V
            go_wp2_with fail
            refine (HLV.out _ (HCS.out.2.1)).mono ?_
            rintro e V ⟨rfl, hb⟩
            go_wp2
            go_ret
            exact ⟨rfl, hb⟩
          · have k4 : ¬ (400 : Int) < (v0.size : Int) := by omega
            have HOT : Hid (Oth k0) := oth_of (by omega) hb q2
            have HPT := tput_any HCS.out.1 (by simp) k0 v0
            clear q1 q2 q3 q4 hb
            go_wp2_with fail
            refine HN.mono ?_
            rintro e V ⟨rfl, hV⟩
            subst V
            clear HN hW1 htb
            go_wp2_with fail
            refine HPT.mono ?_
            rintro e V3 ⟨F3, hif3, hf3, hb3⟩
            rw [if_pos (by unfold roomT; simp)] at hif3
            obtain ⟨rfl, hc3⟩ := hif3
            have H3 : Hid (Cs tb F3 V3 st tb W (-1) (putT [] k0 v0) ∧ Below w.heap.size w V3) := ⟨hc3, HCS.out.2.1.trans (hb3.mono HCS.out.2.2.2)⟩
            clear HPT hc3 hf3 hb3 hidx k1 k2 k2n k3 k4
            go_wp2
            go_loopw [12, 13] (fun vl vi wr => ∃ (i lc : Nat) (la : Option Addr) (F : Nat → Prop) (T : List Pr) (ids : List Ix), i ≤ 30 ∧ i ≤ len1 ∧ vi = .int .i64 i ∧ vl = .slice la i lc ∧ Cs tb F wr st tb W (-1) (putT T k0 v0) ∧ Rf W 200 T ids ∧ Ids tb F wr la i lc ids ∧ T.length ≤ i ∧ Below w.heap.size w wr) (fun _ vi _ => 31 - (intOf vi).toNat)
            case atStart => exact ⟨0, 0, none, _, [], [], by omega, by omega, rfl, rfl, H3.out.1, Rf.nil W 200 (by omega), Ids.nil _ _ _, by simp, H3.out.2⟩
            case round =>
              clear H3
              obtain ⟨i, lc, la, F, T, ids, hi, hil, rfl, rfl, hcs, hRf, hId, hTl, hbw⟩ := hrel
              rename World => wo
              by_cases hlt : i < len1 ∧ i < 30
              · have k1 : (i : Int) < (len1 : Int) := by omega
                have k2 : (i : Int) < 30 := by omega
                obtain ⟨sb, so, ha1, hsc⟩ := cells_any HS.out (by omega)
                subst ha1
                have HSC : Hid (∀ V, Below w.heap.size w V → ∀ (i : Nat) (s : ByteArray), ss1[i]? = some s → V.cell? ⟨sb, so + i, none⟩ = some (.string s)) := hsc
                obtain ⟨s, hs⟩ : ∃ s, ss1[i]? = some s := ⟨_, List.getElem?_eq_getElem (by omega)⟩
                have s0 := HSC.out wo hbw i s hs
                clear hsc
                by_cases hl : 128 < s.size
                · have kl : (128 : Int) < (s.size : Int) := by omega
                  have HB : Hid (Below w.heap.size w wo) := hbw
                  clear hcs hRf hId hbw hl
                  go_wp2_with fail
                  refine (HLV.out _ (HB.out)).mono ?_
                  rintro e V ⟨rfl, hb⟩
                  go_wp2
                  go_ret
                  exact ⟨rfl, hb⟩
                · have kl : ¬ (128 : Int) < (s.size : Int) := by omega
                  have hil2 := hId.len
                  obtain ⟨hp, q1, q2⟩ := hRf.put hW (data := s) (by omega) (by omega) (by omega) (by omega)
                  have hTb := hRf.tb
                  have HPU : Calls Tryd.prog 14 #[.pointer (some ⟨st, 0, none⟩), .string s] wo fun e w' => ∃ F', Fr F wo F' w' ∧ Below tb wo w' ∧ e = .returned (.tuple #[.agg #[.string (namedF W T s).sum, .int .i64 ((namedF W T s).n : Int)], .int .i64 0]) ∧ Cs tb F' w' st tb W (-1) (putT (putT T (keyB (namedF W T s).sum (namedF W T s).n) (valB ((namedF W T s).refs + 1) (namedF W T s).data)) k0 v0) := by
                    refine (putc_any hcs hW (HCS.out.2.2.1.below hbw) (by have := bes_len (v0 := v0) hTb HOT.out; omega) s).mono ?_
                    rintro e w' ⟨F', g1, g2, hif⟩
                    rw [bes_named hTb HOT.out, if_pos ⟨by omega, q1, by omega, by unfold roomT; simp⟩, bes_put hTb HOT.out] at hif
                    exact ⟨F', g1, g2, hif⟩
                  have hpl := put_len T (keyB (namedF W T s).sum (namedF W T s).n) (valB ((namedF W T s).refs + 1) (namedF W T s).data)
                  obtain ⟨c, hc⟩ : ∃ c, namedF W T s = c := ⟨_, rfl⟩
                  rw [hc] at hp HPU hpl
                  obtain ⟨T7, hT7⟩ : ∃ T7, putT T (keyB c.sum c.n) (valB (c.refs + 1) c.data) = T7 := ⟨_, rfl⟩
                  rw [hT7] at hp HPU hpl
                  obtain ⟨sm, hsm⟩ : ∃ sm, c.sum = sm := ⟨_, rfl⟩
                  obtain ⟨nm, hnm⟩ : ∃ nm, c.n = nm := ⟨_, rfl⟩
                  have hix : ixOf c = (sm, nm) := by rw [← hsm, ← hnm]; rfl
                  rw [hsm, hnm] at HPU
                  rw [hix] at hp
                  have hT7l : T7.length ≤ i + 1 := by omega
                  have HM : Hid (Rf W 200 T7 (ids ++ [(sm, nm)])) := hp
                  have HO2 : Hid (Ids tb F wo la i lc ids ∧ Below w.heap.size w wo) := ⟨hId, hbw⟩
                  clear hcs hRf hId hbw hp hc hT7 hsm hnm q1 q2 hix hTl hs hpl hTb
                  go_wp2_with fail
                  refine HPU.mono ?_
                  rintro e V6 ⟨F6, hf6, hb6, rfl, hc6⟩
                  have hid6 := HO2.out.1.fr hf6
                  have hbw6 : Below w.heap.size w V6 := HO2.out.2.trans (hb6.mono HCS.out.2.2.2)
                  obtain ⟨V7, hV7⟩ : ∃ V7, V6.alloc (.cells #[.string sm, .int .i64 (nm : Int)] 35) = V7 := ⟨_, rfl⟩
                  obtain ⟨xb, hxb⟩ : ∃ xb, V6.heap.size = xb := ⟨_, rfl⟩
                  have hB7 : Below V6.heap.size V6 V7 := by rw [← hV7]; exact (Below.refl _ V6).alloc (Nat.le_refl _) _
                  have r7 : V7.heap[xb]? = some (.cells #[.string sm, .int .i64 (nm : Int)] 35 (0, 0)) := by rw [← hV7, ← hxb]; exact heap_alloc_new V6 _
                  have x0 : V7.cell? ⟨xb, 0, none⟩ = some (.string sm) := by rw [cell_of_row _ _ _ _ _ _ r7]; rfl
                  have x1 : V7.cell? ⟨xb, 1, none⟩ = some (.int .i64 (nm : Int)) := by rw [cell_of_row _ _ _ _ _ _ r7]; rfl
                  obtain ⟨V8, hV8⟩ : ∃ V8, V7.alloc (.cells #[.string sm, .int .i64 (nm : Int)] 35) = V8 := ⟨_, rfl⟩
                  have hB8 : Below V7.heap.size V7 V8 := by rw [← hV8]; exact (Below.refl _ V7).alloc (Nat.le_refl _) _
                  have r8 : V8.heap[V7.heap.size]? = some (.cells (Ix.cells (sm, nm)) 35 (0, 0)) := by rw [← hV8]; exact heap_alloc_new V7 _
                  have hc8 := (hc6.below hB7).below hB8
                  have hi8 := (hid6.fr (Fr.below hB7)).fr (Fr.below hB8)
                  have hbw7 : Below w.heap.size w V7 := hbw6.trans (hB7.mono hbw6.size)
                  have hbw8 : Below w.heap.size w V8 := hbw7.trans (hB8.mono hbw7.size)
                  obtain ⟨aA, cA, VA, hrA, hiA, hcA, hgA⟩ := hi8.add hc8 (by have := hc8.h0w; omega) (by omega) r8
                  have HE : Hid (Cs tb (mor (mor (mor F6 V6 V7) V7 V8) V8 VA) VA st tb W (-1) (putT T7 k0 v0) ∧ Rf W 200 T7 (ids ++ [(sm, nm)]) ∧ Ids tb (mor (mor (mor F6 V6 V7) V7 V8) V8 VA) VA aA (i + 1) cA (ids ++ [(sm, nm)]) ∧ T7.length ≤ i + 1 ∧ Below w.heap.size w VA) := by
                    refine ⟨hcA, HM.out, hiA, hT7l, hbw8.grown hgA hbw8.size (fun z hz => ?_)⟩
                    have := (hi8.1.lt z (by rw [ob_slice]; exact hz)).1
                    exact Nat.le_trans HCS.out.2.2.2 this
                  have HV7 : Hid (V6.alloc (.cells #[.string sm, .int .i64 (nm : Int)] 35) = V7) := hV7
                  clear HPU hf6 hb6 hc6 hid6 hbw6 hB7 r7 hB8 r8 hc8 hi8 hbw7 hbw8 hiA hcA hgA s0
                  go_wp2_with ((at_builtin; refine wpList_app V8 rfl _ _ _ _ rfl rfl rfl (hrA _) ?_))
                  exact ⟨⟨i + 1, cA, aA, _, T7, _, by omega, by omega, by go_num, by go_num, HE.out⟩, by simp [intOf]; omega⟩
              · by_cases hl : i < len1
                · have k1 : (i : Int) < (len1 : Int) := by omega
                  have k2 : ¬ (i : Int) < 30 := by omega
                  have HX0 : Hid (Cs tb F wo st tb W (-1) (putT T k0 v0) ∧ Rf W 200 T ids ∧ Ids tb F wo la i lc ids ∧ Below w.heap.size w wo) := ⟨hcs, hRf, hId, hbw⟩
                  have hilen := hId.len
                  clear hcs hRf hId hbw hlt hTl
                  go_wp2
                  go_loopw [16] (fun vj wr => ∃ (j : Nat) (F : Nat → Prop) (T : List Pr), j ≤ i ∧ vj = .int .i64 j ∧ Cs tb F wr st tb W (-1) (putT T k0 v0) ∧ Rf W 200 T (ids.drop j) ∧ Ids tb F wr la i lc ids ∧ Below w.heap.size w wr) (fun vj _ => i - (intOf vj).toNat)
                  case atStart => exact ⟨0, F, T, by omega, rfl, HX0.out.1, by rw [List.drop_zero]; exact HX0.out.2.1, HX0.out.2.2⟩
                  case round =>
                    clear HX0
                    obtain ⟨j, F2, T2, hji, rfl, hcs, hRf, hId, hbw⟩ := hrel
                    rename World => wp
                    by_cases hjl : j < i
                    · have kj : (j : Int) < (i : Int) := by omega
                      obtain ⟨⟨xs, xn⟩, hx⟩ : ∃ x, ids[j]? = some x := ⟨_, List.getElem?_eq_getElem (by omega)⟩
                      have hIw : Iw (fun _ => True) wp la i lc ids := Rw.own hId.1 (fun _ _ => trivial)
                      obtain ⟨ib, io, rfl, _, _, hc⟩ := hIw.at (by omega)
                      obtain ⟨g0, g1⟩ := hc j (xs, xn) hx
                      simp only at g0 g1
                      obtain ⟨cc, hlk, hix, hiT, hr1, hr2⟩ := hRf.take (j := 0) (x := (xs, xn)) (by rw [List.getElem?_drop, Nat.add_zero]; exact hx)
                      simp only [List.take_zero, List.nil_append, List.drop_drop, Nat.zero_add] at hlk hr1 hr2
                      have hTb := hRf.tb
                      have HTK : Calls Tryd.prog 17 #[.pointer (some ⟨st, 0, none⟩), .agg #[.string xs, .int .i64 (xn : Int)]] wp fun e w' => ∃ F' T', e = .returned (.int .i64 0) ∧ Cs tb F' w' st tb W (-1) (putT T' k0 v0) ∧ Rf W 200 T' (ids.drop (j + 1)) ∧ Fr F2 wp F' w' ∧ Below tb wp w' := by
                        refine (take_any hcs hW (by have := hTb.few; have := bes_len (v0 := v0) hTb HOT.out; omega) xs (xn : Int)).mono ?_
                        intro e w' ht
                        rw [bes_look hTb HOT.out, hlk] at ht
                        unfold TkTo at ht
                        simp only [Int.toNat_natCast] at ht
                        by_cases hr : cc.refs = 1
                        · rw [if_pos hr, bes_drop hTb HOT.out] at ht
                          obtain ⟨he, F', h1, h2, h3⟩ := ht
                          exact ⟨F', _, he, h1, hr1 hr, h2, h3⟩
                        · rw [if_neg hr] at ht
                          obtain ⟨F', h1, h2, h3⟩ := ht
                          rw [if_pos (by unfold roomT; rw [(bes_get hTb HOT.out _ _).2, hiT]; rfl), bes_put hTb HOT.out] at h1
                          exact ⟨F', _, h1.1, h1.2, hr2 hr, h2, h3⟩
                      have HP : Hid (Ids tb F2 wp (some ⟨ib, io, none⟩) i lc ids ∧ Below w.heap.size w wp) := ⟨hId, hbw⟩
                      clear hcs hRf hId hbw hIw hc hx hlk hix hiT hr1 hr2 hTb
                      go_wp2_with fail
                      refine HTK.mono ?_
                      rintro e V6 ⟨F6, T6, rfl, hc6, hr6, hf6, hb6⟩
                      have HE : Hid (Cs tb F6 V6 st tb W (-1) (putT T6 k0 v0) ∧ Rf W 200 T6 (ids.drop (j + 1)) ∧ Ids tb F6 V6 (some ⟨ib, io, none⟩) i lc ids ∧ Below w.heap.size w V6) := ⟨hc6, hr6, HP.out.1.fr hf6, HP.out.2.trans (hb6.mono HCS.out.2.2.2)⟩
                      clear HTK hc6 hr6 hf6 hb6 g0 g1
                      go_wp2
                      exact ⟨⟨j + 1, F6, T6, by omega, by go_num, HE.out⟩, by simp [intOf]; omega⟩
                    · have kj : ¬ (j : Int) < (i : Int) := by omega
                      obtain rfl : j = i := by omega
                      rw [List.drop_of_length_le (by omega)] at hRf
                      have hT0 := hRf.end
                      subst hT0
                      rw [bes_one] at hcs
                      have HTG := tget_any hcs k0
                      rw [(bes_got k0 v0).1, (bes_got k0 v0).2] at HTG
                      have HTG : Calls Tryd.prog 26 #[.pointer (some ⟨tb, 0, none⟩), .string k0] wp fun e w' => e = .returned (.tuple #[.string v0, .bool true]) ∧ Below wp.heap.size wp w' := HTG
                      have HX : Hid (Cs tb F2 wp st tb W (-1) [(k0, v0)] ∧ Below w.heap.size w wp) := ⟨hcs, hbw⟩
                      clear hcs hRf hId hbw
                      go_wp2_with fail
                      refine HTG.mono ?_
                      rintro e V5 ⟨rfl, hb5⟩
                      have hc5 := HX.out.1.below hb5
                      have HCO := count_any hc5 hW
                      rw [← bes_one, bes_all (Tb.nil W 200 (by omega)) HOT.out, all_nil] at HCO
                      have HX5 : Hid (Cs tb (mor F2 wp V5) V5 st tb W (-1) [(k0, v0)] ∧ Below w.heap.size w V5) := ⟨hc5, HX.out.2.trans (hb5.mono HX.out.2.size)⟩
                      have hbe : (v0.toList == v0.toList) = true := by simp
                      clear HTG hb5 hc5
                      go_wp2_with fail
                      refine HCO.mono ?_
                      rintro e V6 ⟨rfl, hb6⟩
                      have hc6 := HX5.out.1.below hb6
                      obtain ⟨ta, tc, _, t0⟩ := hc6.row
                      have HB : Hid (Below w.heap.size w V6) := HX5.out.2.trans (hb6.mono HX5.out.2.size)
                      clear HCO hb6 hc6
                      go_wp2_with fail
                      refine (HLV.out _ (HB.out)).mono ?_
                      rintro e V ⟨rfl, hb⟩
                      go_wp2
                      go_ret
                      exact ⟨rfl, hb⟩
                · have k1 : ¬ (i : Int) < (len1 : Int) := by omega
                  have HX0 : Hid (Cs tb F wo st tb W (-1) (putT T k0 v0) ∧ Rf W 200 T ids ∧ Ids tb F wo la i lc ids ∧ Below w.heap.size w wo) := ⟨hcs, hRf, hId, hbw⟩
                  have hilen := hId.len
                  clear hcs hRf hId hbw hlt hTl
                  go_wp2
                  go_loopw [16] (fun vj wr => ∃ (j : Nat) (F : Nat → Prop) (T : List Pr), j ≤ i ∧ vj = .int .i64 j ∧ Cs tb F wr st tb W (-1) (putT T k0 v0) ∧ Rf W 200 T (ids.drop j) ∧ Ids tb F wr la i lc ids ∧ Below w.heap.size w wr) (fun vj _ => i - (intOf vj).toNat)
                  case atStart => exact ⟨0, F, T, by omega, rfl, HX0.out.1, by rw [List.drop_zero]; exact HX0.out.2.1, HX0.out.2.2⟩
                  case round =>
                    clear HX0
                    obtain ⟨j, F2, T2, hji, rfl, hcs, hRf, hId, hbw⟩ := hrel
                    rename World => wp
                    by_cases hjl : j < i
                    · have kj : (j : Int) < (i : Int) := by omega
                      obtain ⟨⟨xs, xn⟩, hx⟩ : ∃ x, ids[j]? = some x := ⟨_, List.getElem?_eq_getElem (by omega)⟩
                      have hIw : Iw (fun _ => True) wp la i lc ids := Rw.own hId.1 (fun _ _ => trivial)
                      obtain ⟨ib, io, rfl, _, _, hc⟩ := hIw.at (by omega)
                      obtain ⟨g0, g1⟩ := hc j (xs, xn) hx
                      simp only at g0 g1
                      obtain ⟨cc, hlk, hix, hiT, hr1, hr2⟩ := hRf.take (j := 0) (x := (xs, xn)) (by rw [List.getElem?_drop, Nat.add_zero]; exact hx)
                      simp only [List.take_zero, List.nil_append, List.drop_drop, Nat.zero_add] at hlk hr1 hr2
                      have hTb := hRf.tb
                      have HTK : Calls Tryd.prog 17 #[.pointer (some ⟨st, 0, none⟩), .agg #[.string xs, .int .i64 (xn : Int)]] wp fun e w' => ∃ F' T', e = .returned (.int .i64 0) ∧ Cs tb F' w' st tb W (-1) (putT T' k0 v0) ∧ Rf W 200 T' (ids.drop (j + 1)) ∧ Fr F2 wp F' w' ∧ Below tb wp w' := by
                        refine (take_any hcs hW (by have := hTb.few; have := bes_len (v0 := v0) hTb HOT.out; omega) xs (xn : Int)).mono ?_
                        intro e w' ht
                        rw [bes_look hTb HOT.out, hlk] at ht
                        unfold TkTo at ht
                        simp only [Int.toNat_natCast] at ht
                        by_cases hr : cc.refs = 1
                        · rw [if_pos hr, bes_drop hTb HOT.out] at ht
                          obtain ⟨he, F', h1, h2, h3⟩ := ht
                          exact ⟨F', _, he, h1, hr1 hr, h2, h3⟩
                        · rw [if_neg hr] at ht
                          obtain ⟨F', h1, h2, h3⟩ := ht
                          rw [if_pos (by unfold roomT; rw [(bes_get hTb HOT.out _ _).2, hiT]; rfl), bes_put hTb HOT.out] at h1
                          exact ⟨F', _, h1.1, h1.2, hr2 hr, h2, h3⟩
                      have HP : Hid (Ids tb F2 wp (some ⟨ib, io, none⟩) i lc ids ∧ Below w.heap.size w wp) := ⟨hId, hbw⟩
                      clear hcs hRf hId hbw hIw hc hx hlk hix hiT hr1 hr2 hTb
                      go_wp2_with fail
                      refine HTK.mono ?_
                      rintro e V6 ⟨F6, T6, rfl, hc6, hr6, hf6, hb6⟩
                      have HE : Hid (Cs tb F6 V6 st tb W (-1) (putT T6 k0 v0) ∧ Rf W 200 T6 (ids.drop (j + 1)) ∧ Ids tb F6 V6 (some ⟨ib, io, none⟩) i lc ids ∧ Below w.heap.size w V6) := ⟨hc6, hr6, HP.out.1.fr hf6, HP.out.2.trans (hb6.mono HCS.out.2.2.2)⟩
                      clear HTK hc6 hr6 hf6 hb6 g0 g1
                      go_wp2
                      exact ⟨⟨j + 1, F6, T6, by omega, by go_num, HE.out⟩, by simp [intOf]; omega⟩
                    · have kj : ¬ (j : Int) < (i : Int) := by omega
                      obtain rfl : j = i := by omega
                      rw [List.drop_of_length_le (by omega)] at hRf
                      have hT0 := hRf.end
                      subst hT0
                      rw [bes_one] at hcs
                      have HTG := tget_any hcs k0
                      rw [(bes_got k0 v0).1, (bes_got k0 v0).2] at HTG
                      have HTG : Calls Tryd.prog 26 #[.pointer (some ⟨tb, 0, none⟩), .string k0] wp fun e w' => e = .returned (.tuple #[.string v0, .bool true]) ∧ Below wp.heap.size wp w' := HTG
                      have HX : Hid (Cs tb F2 wp st tb W (-1) [(k0, v0)] ∧ Below w.heap.size w wp) := ⟨hcs, hbw⟩
                      clear hcs hRf hId hbw
                      go_wp2_with fail
                      refine HTG.mono ?_
                      rintro e V5 ⟨rfl, hb5⟩
                      have hc5 := HX.out.1.below hb5
                      have HCO := count_any hc5 hW
                      rw [← bes_one, bes_all (Tb.nil W 200 (by omega)) HOT.out, all_nil] at HCO
                      have HX5 : Hid (Cs tb (mor F2 wp V5) V5 st tb W (-1) [(k0, v0)] ∧ Below w.heap.size w V5) := ⟨hc5, HX.out.2.trans (hb5.mono HX.out.2.size)⟩
                      have hbe : (v0.toList == v0.toList) = true := by simp
                      clear HTG hb5 hc5
                      go_wp2_with fail
                      refine HCO.mono ?_
                      rintro e V6 ⟨rfl, hb6⟩
                      have hc6 := HX5.out.1.below hb6
                      obtain ⟨ta, tc, _, t0⟩ := hc6.row
                      have HB : Hid (Below w.heap.size w V6) := HX5.out.2.trans (hb6.mono HX5.out.2.size)
                      clear HCO hb6 hc6
                      go_wp2_with fail
                      refine (HLV.out _ (HB.out)).mono ?_
                      rintro e V ⟨rfl, hb⟩
                      go_wp2
                      go_ret
                      exact ⟨rfl, hb⟩

set_option linter.unusedVariables false in
set_option maxRecDepth 100000 in
theorem lifted (os : Os) (started : os.Started) (H : Type) (enc : TypeId × Value → H) :
    ReturnsInHanded {} Tryd.checked os 7 .any (fun w args => (Rows.casBesideSpec.pre enc Tryd.prog Tryd.f7 [] false w args ∧ laidMetH Tryd.prog laid2 w) ∧ sizedMet enc Tryd.prog Tryd.f7 (OpenSpec.ofChange Rows.casBesideSpec) false w args) (Rows.casBesideSpec.post enc Tryd.prog Tryd.f7 false true false false) := by
  refine returnsInHanded_of_change_and (C := Tryd.checked) (X := fun w _ => laidMetH Tryd.prog laid2 w) (fun _ _ _ hh h => h.of_heap hh) own started (by kernel_rfl) Tryd.func7
    (ChangeSpec.witness_shaped (enc := enc) (C := Tryd.checked) (os := os) (X := fun w _ => laidMetH Tryd.prog laid2 w) false (World.doorLaid Tryd.prog 19 os) #[.int .i64 0, .slice none 0 0, .agg #[.string ByteArray.empty, .string ByteArray.empty]] 8 rfl (World.shaped_of_RefB (by kernel_rfl) (by kernel_rfl)) (by kernel_rfl) (by kernel_rfl) (by kernel_rfl) (door_met os _)) ?_
  intro W base args ds gs before hval0 hW _ hsz0 hL _
  have hval : ∀ (j : Nat) t v, Tryd.f7.params[j]? = some t → args[j]? = some v → Value.okWide Tryd.prog W .any base t v := hval0
  have hsz : (DataW.weightsEach Tryd.prog (Tryd.f7.params.toList ++ Rows.casBesideSpec.plain.varTypes Tryd.prog) (ds ++ gs)).all (· ≤ reachBytes) = true := hsz0
  have hW' := hW
  obtain ⟨p, q, hA0, hV, rfl, hfz, hnd⟩ := hW
  have hA : DataW.TrodAll enc Tryd.prog W 0 (fun _ => true) true Tryd.f7.params.toList args.toList ds p := hA0
  rw [Tryd.params7] at hA hval hsz
  obtain ⟨v0, vs0, d0, ds0, p0, q0, hargs, rfl, rfl, h0, r0⟩ := trodAll_cons hA
  obtain ⟨v1, vs1, d1, ds1, p1, q1, rfl, rfl, rfl, h1, r1⟩ := trodAll_cons r0
  obtain ⟨v2, vs2, d2, ds2, p2, q2, rfl, rfl, rfl, h2, r2⟩ := trodAll_cons r1
  obtain ⟨rfl, rfl, rfl⟩ := trodAll_nil r2
  obtain rfl : args = #[v0, v1, v2] := by cases args; simp_all
  obtain ⟨rfl, rfl⟩ := trodVars_none hV
  obtain ⟨x0, rfl, rfl, rfl, w0⟩ := open_int Tryd.underlying3 (hval 0 3 v0 rfl rfl) h0
  have k1 := h1
  have lt1 : ∀ x ∈ p1, x.block < W.heap.size := by obtain ⟨m, hm⟩ := k1; exact DataW.trod_lt m _ _ _ hm
  obtain ⟨a1, len1, cap1, rfl⟩ := okWide_slice Tryd.underlying51 (hval 1 51 v1 rfl rfl)
  obtain ⟨ss1, w1, z1⟩ : ∃ ss, Ss W a1 len1 cap1 ss ∧ ∀ i (h : i < ss.length), (ss[i]).size ≤ 140737488351232 := by
    obtain ⟨fuel, hf⟩ := h1
    exact strs_of (j := 1) (by simpa [Value.cells] using hf) hsz rfl rfl
  have k2 := h2
  have lt2 : ∀ x ∈ p2, x.block < W.heap.size := by obtain ⟨m, hm⟩ := k2; exact DataW.trod_lt m _ _ _ hm
  obtain ⟨s2, t2, rfl, z2, u2⟩ := pair_arg (j := 2) (hval 2 63 v2 rfl rfl) h2 hsz rfl rfl
  clear hA0 hval0 hsz hsz0
  refine (walk x0 (wf_i64 w0) a1 len1 cap1 ss1 z1 s2 t2 z2 u2 W w1 (of_laid hL)).mono fun e W' ⟨he, bel⟩ => ?_
  subst he
  exact ⟨_, rfl, _, _, _, [], _, [], hW', trodAll_mk1 (shut_bool Tryd.underlying4 _), (trodAll_cons_mk (shut_int Tryd.underlying3 w0) (trodAll_cons_mk (Below.trod laidOut (by kernel_rfl) (of_decide_eq_true (by kernel_rfl)) k1 bel lt1) (trodAll_cons_mk (Below.trod laidOut (by kernel_rfl) (of_decide_eq_true (by kernel_rfl)) k2 bel lt2) trodAll_mk0))), rfl, bel.frame _, fun h => by cases h⟩

theorem over : Rows.casBesideRow.holds Tryd.pinned (OpenSpec.ofChange Rows.casBesideSpec) :=
  OpenClaim.holds_of_wide 7 Tryd.f7 rfl rfl rfl rfl rfl rfl rfl ⟨rfl, rfl, rfl, rfl, rfl⟩ rfl rfl rfl rfl rfl (by kernel_rfl) Tryd.func7 (by kernel_rfl)
    (of_decide_eq_true (by kernel_rfl)) (by unfold Func.isWrapper; first | (rw [if_pos (by decide +kernel)]; kernel_rfl) | (rw [if_neg (by decide +kernel)]; exact ⟨rfl, rfl⟩))
    (fun os started H enc _ => lifted os started H enc)

end Go.Proofs.YtjpkngbjjgimjaaDoor.casBeside
namespace Go.Proofs.YtjpkngbjjgimjaaDoor
/-- The given statement. -/
theorem casBeside_holds : Rows.CasBesideCardSaid :=
  Claim7.holds_tied_plain_at .later [] [.data, .data] true (true, "714266a7f20758317d11b46492cd9cd49cf98b3981d461172de498aac6b57d6c") false
    casBeside.over (fun _ h => by cases h) (by kernel_rfl) (fun _ h => by cases h) casBeside_row_tie rfl ⟨rfl, rfl⟩ (by kernel_rfl) rfl
    (fun f fn hf hfn => by
      obtain rfl : f = 7 := Option.some.inj ((show Tryd.prog.funcNamed "strongroom/strongroomlaw09.CasBeside" = some 7 by kernel_rfl).symm.trans hf) |>.symm
      obtain rfl : fn = Tryd.f7 := (Option.some.inj (Tryd.func7.symm.trans hfn)).symm
      exact ⟨by kernel_rfl, fun j t ht => by
        rw [Tryd.params7] at ht
        rcases j with _ | _ | _ | j
        · obtain rfl : t = 3 := by simpa using ht.symm
          exact (show Tryd.prog.wantsStandIn 3 = false by kernel_rfl)
        · obtain rfl : t = 51 := by simpa using ht.symm
          exact (show Tryd.prog.wantsStandIn 51 = false by kernel_rfl)
        · obtain rfl : t = 63 := by simpa using ht.symm
          exact (show Tryd.prog.wantsStandIn 63 = false by kernel_rfl)
        · simp at ht
      ⟩)
    (by kernel_rfl)
#print axioms casBeside_holds
end Go.Proofs.YtjpkngbjjgimjaaDoor
