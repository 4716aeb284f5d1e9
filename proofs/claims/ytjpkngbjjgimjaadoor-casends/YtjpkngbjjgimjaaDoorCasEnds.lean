/- The law of references that are all taken away. -/
import Derived.Test.YtjpkngbjjgimjaaDoorKW
import Derived.Test.YtjpkngbjjgimjaaDoorCards
import Derived.Test.YtjpkngbjjgimjaaDoorTie
import Derived.WalkKit
import Derived.ProofKit
import Derived.OpenShut
import Derived.ShutString
import Derived.ChangeOld
import Derived.Below
import Derived.LaidMore
import Derived.Stop.Joined
import Derived.SevenTiedAt
namespace Go.Proofs.YtjpkngbjjgimjaaDoor.casEnds
open Go.ChangeShapes Go.WideShapes Go.ChangeAt Go.WideMaps Go.WideElems Go.RowKit
open Go.ChangeMaps (open_string shut_string)
theorem cells_any {w : World} {a : Option Addr} {len cap : Nat} {ss : List ByteArray} (h : Ss w a len cap ss) (h0 : 0 < len) : ∃ b o, a = some ⟨b, o, none⟩ ∧ ∀ V, Below w.heap.size w V → ∀ (i : Nat) (s : ByteArray), ss[i]? = some s → V.cell? ⟨b, o + i, none⟩ = some (.string s) := by
  obtain ⟨b, o, e, hc⟩ := h.at h0
  refine ⟨b, o, e, fun V hV i s hs => ?_⟩
  obtain ⟨h1, h2⟩ := List.getElem?_eq_some_iff.1 hs
  have h5 := hc i h1
  rw [h2] at h5
  rw [hV.cell (World.block_lt_of_cell? w _ h5)]
  exact h5
theorem wrapI64 (x : Int) (h0 : -9223372036854775808 ≤ x) (h1 : x ≤ 9223372036854775807) : IntKind.i64.wrap x = x := by
  simp only [IntKind.wrap, IntKind.signed, IntKind.bits]
  simp
  omega
def lenOf : Value → Nat
  | .slice _ n _ => n
  | _ => 0

set_option maxRecDepth 100000 in
set_option maxHeartbeats 2000000 in
theorem walk (x0 : Int) (_z0 : -9223372036854775808 ≤ x0 ∧ x0 ≤ 9223372036854775807) (a1 : Option Addr) (len1 cap1 : Nat) (ss1 : List ByteArray) (_z1 : ∀ i (h : i < ss1.length), (ss1[i]).size ≤ 140737488351232) (a2 : Option Addr) (len2 cap2 : Nat) (zs2 : List Int) (w : World) (w1 : Ss w a1 len1 cap1 ss1) (w2 : IsRow .i64 w a2 len2 cap2 zs2) (hL : Laid w) :
    Calls Tryd.prog 5 #[.int .i64 x0, .slice a1 len1 cap1, .slice a2 len2 cap2] w fun e w' => e = .returned (.bool true) ∧ Below w.heap.size w w' := by
  obtain ⟨tb, htb⟩ : ∃ tb, w.heap.size = tb := ⟨_, rfl⟩
  obtain ⟨W1, hW1⟩ : ∃ W1, w.alloc (.cells #[.slice none 0 0, .int .i64 (-1)] 30) = W1 := ⟨_, rfl⟩
  have hs1 : W1.heap.size = tb + 1 := by rw [← hW1, ← htb]; simp
  have hb1 : Below w.heap.size w W1 := by rw [← hW1]; exact (Below.refl _ w).alloc (Nat.le_refl _) _
  have HS : Hid (Ss w a1 len1 cap1 ss1) := w1
  have HO : Hid (IsRow .i64 w a2 len2 cap2 zs2) := w2
  have hnn := HS.out.1
  have hcap : cap1 ≤ 9223372036854775807 := HS.out.2.2.1
  have hlc : len1 ≤ cap1 := HS.out.2.1
  have hl2 : len2 ≤ 9223372036854775807 := by
    rcases HO.out with ⟨_, h, _⟩ | ⟨_, _, h1, h2, _⟩
    · omega
    · unfold maxLen at h2; omega
  clear w1 w2
  by_cases hx : x0 < 1 ∨ 32 < x0
  · have HN := new_no (.iface 27 (.pointer (some ⟨tb, 0, none⟩))) x0 W1 (.inr ⟨tb, rfl⟩) (.inr hx)
    have HLV : Calls Tryd.prog 10 #[] W1 fun e w' => e = .returned (.bool true) ∧ Below W1.heap.size W1 w' := lives_any W1 (hL.below hb1)
    have HB1 : Hid (Below w.heap.size w W1) := hb1
    clear hL hb1 hx hs1
    go_enter Tryd.func5, Tryd.ntmps5
    go_wp2_with fail
    refine HN.mono ?_
    rintro e V ⟨rfl, hV⟩
    subst V
    go_wp2_with fail
    refine HLV.mono ?_
    rintro e V ⟨rfl, hb⟩
    go_wp2
    go_ret
    exact ⟨rfl, HB1.out.trans (hb.mono HB1.out.size)⟩
  · obtain ⟨W, hWx, hWa, hW⟩ : ∃ W : Nat, x0 = (W : Int) ∧ 1 ≤ W ∧ W ≤ 32 := ⟨x0.toNat, by omega, by omega, by omega⟩
    subst hWx
    have HN : Calls Tryd.prog 9 #[.iface 27 (.pointer (some ⟨tb, 0, none⟩)), .int .i64 (W : Int)] W1 fun e w' => e = .returned (.tuple #[.pointer (some ⟨W1.heap.size, 0, none⟩), .int .i64 0]) ∧ w' = W1.alloc (.cells #[.iface 27 (.pointer (some ⟨tb, 0, none⟩)), .int .i64 (W : Int)] 71) := new_yes tb W W1 hWa hW
    have hcn := cs_new (w := w) (W := W) (-1)
    rw [hW1, htb] at hcn
    rw [hs1] at HN
    obtain ⟨W2, hW2⟩ : ∃ W2, W1.alloc (.cells #[.iface 27 (.pointer (some ⟨tb, 0, none⟩)), .int .i64 (W : Int)] 71) = W2 := ⟨_, rfl⟩
    rw [hW2] at HN hcn
    obtain ⟨st, hst⟩ : ∃ st, tb + 1 = st := ⟨_, rfl⟩
    rw [hst] at HN hcn
    have HCS : Hid (Cs tb (fun _ => False) W2 st tb W (-1) [] ∧ Below w.heap.size w W2 ∧ Laid w ∧ w.heap.size = tb) := ⟨hcn.1, by rw [htb]; exact hcn.2, hL, htb⟩
    have HLV : Hid (∀ V, Below w.heap.size w V → Calls Tryd.prog 10 #[] V fun e w' => e = .returned (.bool true) ∧ Below w.heap.size w w') := fun V hV => (lives_any V (hL.below hV)).mono fun e w' h => ⟨h.1, hV.trans (h.2.mono hV.size)⟩
    clear hs1 hcn hW2 hst hL hx hb1
    go_enter Tryd.func5, Tryd.ntmps5
    go_wp2_with fail
    refine HN.mono ?_
    rintro e V ⟨rfl, hV⟩
    subst V
    clear HN hW1 htb
    go_wp2
    go_loopw [10, 11] (fun vl vi wr => ∃ (i lc : Nat) (la : Option Addr) (F : Nat → Prop) (T : List Pr) (ids : List Ix), i ≤ 40 ∧ i ≤ len1 ∧ vi = .int .i64 i ∧ vl = .slice la ((2 * i : Nat)) lc ∧ Cs tb F wr st tb W (-1) T ∧ Rf W 200 T ids ∧ Ids tb F wr la (2 * i) lc ids ∧ T.length ≤ 2 * i ∧ Below w.heap.size w wr) (fun _ vi _ => 41 - (intOf vi).toNat)
    case atStart => exact ⟨0, 0, none, _, [], [], by omega, by omega, rfl, rfl, HCS.out.1, Rf.nil W 200 (by omega), Ids.nil _ _ _, by simp, HCS.out.2.1⟩
    case round =>
      obtain ⟨i, lc, la, F, T, ids, hi, hil, rfl, rfl, hcs, hRf, hId, hTl, hbw⟩ := hrel
      rename World => wo
      by_cases hlt : i < len1 ∧ i < 40
      · have k1 : (i : Int) < (len1 : Int) := by omega
        have k2 : (i : Int) < 40 := by omega
        obtain ⟨sb, so, ha1, hsc⟩ := cells_any HS.out (by omega)
        subst ha1
        have HSC : Hid (∀ V, Below w.heap.size w V → ∀ (i : Nat) (s : ByteArray), ss1[i]? = some s → V.cell? ⟨sb, so + i, none⟩ = some (.string s)) := hsc
        obtain ⟨s, hs⟩ : ∃ s, ss1[i]? = some s := ⟨_, List.getElem?_eq_getElem (by omega)⟩
        have s0 := HSC.out wo hbw i s hs
        clear hsc
        by_cases hl : 128 < s.size
        · have kl : (128 : Int) < (s.size : Int) := by omega
          have HB : Hid (Below w.heap.size w wo) := hbw
          clear hcs hRf hId hbw hl
          go_wp2_with fail
          refine (HLV.out _ HB.out).mono ?_
          rintro e V ⟨rfl, hb⟩
          go_wp2
          go_ret
          exact ⟨rfl, hb⟩
        · have kl : ¬ (128 : Int) < (s.size : Int) := by omega
          have hil2 := hId.len
          obtain ⟨hp, q1, q2⟩ := hRf.put hW (data := s) (by omega) (by omega) (by omega) (by omega)
          have HPU : Calls Tryd.prog 14 #[.pointer (some ⟨st, 0, none⟩), .string s] wo fun e w' => ∃ F', Fr F wo F' w' ∧ Below tb wo w' ∧ e = .returned (.tuple #[.agg #[.string (namedF W T s).sum, .int .i64 ((namedF W T s).n : Int)], .int .i64 0]) ∧ Cs tb F' w' st tb W (-1) (putT T (keyB (namedF W T s).sum (namedF W T s).n) (valB ((namedF W T s).refs + 1) (namedF W T s).data)) := by
            refine (putc_any hcs hW (HCS.out.2.2.1.below hbw) (by omega) s).mono ?_
            rintro e w' ⟨F', g1, g2, hif⟩
            rw [if_pos ⟨by omega, q1, by omega, by unfold roomT; simp⟩] at hif
            exact ⟨F', g1, g2, hif⟩
          have hpl := put_len T (keyB (namedF W T s).sum (namedF W T s).n) (valB ((namedF W T s).refs + 1) (namedF W T s).data)
          obtain ⟨c, hc⟩ : ∃ c, namedF W T s = c := ⟨_, rfl⟩
          rw [hc] at hp HPU hpl
          obtain ⟨T7, hT7⟩ : ∃ T7, putT T (keyB c.sum c.n) (valB (c.refs + 1) c.data) = T7 := ⟨_, rfl⟩
          rw [hT7] at hp HPU hpl
          obtain ⟨sm, hsm⟩ : ∃ sm, c.sum = sm := ⟨_, rfl⟩
          obtain ⟨nm, hnm⟩ : ∃ nm, c.n = nm := ⟨_, rfl⟩
          have hix : ixOf c = (sm, nm) := by rw [← hsm, ← hnm]; rfl
          rw [hsm, hnm] at HPU
          rw [hix] at hp
          have hT7l : T7.length ≤ 2 * i + 1 := by omega
          have HM : Hid (Rf W 200 T7 (ids ++ [(sm, nm)]) ∧ ids.length = 2 * i) := ⟨hp, hil2⟩
          have HO2 : Hid (Ids tb F wo la (2 * i) lc ids ∧ Below w.heap.size w wo) := ⟨hId, hbw⟩
          clear hcs hRf hId hbw hp hc hT7 hsm hnm q1 q2 hix hTl hs hpl
          go_wp2_with fail
          refine HPU.mono ?_
          rintro e V6 ⟨F6, hf6, hb6, rfl, hc6⟩
          have hid6 := HO2.out.1.fr hf6
          have hbw6 : Below w.heap.size w V6 := HO2.out.2.trans (by rw [HCS.out.2.2.2]; exact hb6)
          obtain ⟨V7, hV7⟩ : ∃ V7, V6.alloc (.cells #[.string sm, .int .i64 (nm : Int)] 35) = V7 := ⟨_, rfl⟩
          obtain ⟨xb, hxb⟩ : ∃ xb, V6.heap.size = xb := ⟨_, rfl⟩
          have hB7 : Below V6.heap.size V6 V7 := by rw [← hV7]; exact (Below.refl _ V6).alloc (Nat.le_refl _) _
          have r7 : V7.heap[xb]? = some (.cells #[.string sm, .int .i64 (nm : Int)] 35 (0, 0)) := by rw [← hV7, ← hxb]; exact heap_alloc_new V6 _
          have x0 : V7.cell? ⟨xb, 0, none⟩ = some (.string sm) := by rw [cell_of_row _ _ _ _ _ _ r7]; rfl
          have x1 : V7.cell? ⟨xb, 1, none⟩ = some (.int .i64 (nm : Int)) := by rw [cell_of_row _ _ _ _ _ _ r7]; rfl
          have hc7 := hc6.below hB7
          obtain ⟨c2, hlk, hix2, hrf2, hiT, hrf⟩ := HM.out.1.again (x := (sm, nm)) (by rw [List.length_append, HM.out.2]; simp; omega) (List.mem_append_right _ (List.mem_cons_self ..))
          have hid7 := hid6.fr (Fr.below hB7)
          have hm7 : mor F6 V6 V7 xb := .inr ⟨by omega, lt_of_some r7⟩
          have HAG : Calls Tryd.prog 16 #[.pointer (some ⟨st, 0, none⟩), .agg #[.string sm, .int .i64 (nm : Int)]] V7 fun e w' => ∃ F' T', e = .returned (.int .i64 0) ∧ Cs tb F' w' st tb W (-1) T' ∧ Rf W 200 T' ((ids ++ [(sm, nm)]) ++ [(sm, nm)]) ∧ T'.length ≤ 2 * i + 2 ∧ Fr (mor F6 V6 V7) V7 F' w' ∧ Below tb V7 w' := by
            refine (again_any hc7 hW (by omega) sm (nm : Int)).mono ?_
            intro e w' ht
            simp only at hlk
            rw [hlk] at ht
            unfold AgTo at ht
            simp only at ht
            unfold MoTo at ht
            rw [if_neg (by rw [List.length_append] at hrf2; simp at hrf2; omega)] at ht
            obtain ⟨F', h1, h2, h3⟩ := ht
            rw [if_pos (by unfold roomT; rw [hiT]; rfl)] at h1
            exact ⟨F', _, h1.1, h1.2, hrf, by rw [put_same _ hiT]; omega, h2, h3⟩
          have H7 : Hid (Ids tb (mor F6 V6 V7) V7 la (2 * i) lc ids ∧ Below w.heap.size w V7 ∧ V7.heap[xb]? = some (.cells #[.string sm, .int .i64 (nm : Int)] 35 (0, 0)) ∧ V6.alloc (.cells #[.string sm, .int .i64 (nm : Int)] 35) = V7 ∧ mor F6 V6 V7 xb) := ⟨hid7, hbw6.trans (hB7.mono hbw6.size), r7, hV7, hm7⟩
          clear HPU hf6 hb6 hc6 hid6 hbw6 hB7 s0 hV7 hc7 hlk hix2 hrf2 hiT hrf hid7 r7 hm7
          rw [← H7.out.2.2.2.1] at HAG x0 x1
          go_wp2_with fail
          refine HAG.mono ?_
          rw [H7.out.2.2.2.1]
          rintro e V8 ⟨F8, T8, rfl, hc8, hr8, hl8, hf8, hb8⟩
          have hid8 := H7.out.1.fr hf8
          have r8 := (hf8.blk xb H7.out.2.2.2.2 (lt_of_some H7.out.2.2.1)).trans H7.out.2.2.1
          have x0 : V8.cell? ⟨xb, 0, none⟩ = some (.string sm) := by rw [cell_of_row _ _ _ _ _ _ r8]; rfl
          have x1 : V8.cell? ⟨xb, 1, none⟩ = some (.int .i64 (nm : Int)) := by rw [cell_of_row _ _ _ _ _ _ r8]; rfl
          have hbw8 : Below w.heap.size w V8 := H7.out.2.1.trans (by rw [HCS.out.2.2.2]; exact hb8)
          obtain ⟨V9, hV9⟩ : ∃ V9, V8.alloc (.cells #[.string sm, .int .i64 (nm : Int), .string sm, .int .i64 (nm : Int)] 35) = V9 := ⟨_, rfl⟩
          have hB9 : Below V8.heap.size V8 V9 := by rw [← hV9]; exact (Below.refl _ V8).alloc (Nat.le_refl _) _
          have r9 : V9.heap[V8.heap.size]? = some (.cells #[.string sm, .int .i64 (nm : Int), .string sm, .int .i64 (nm : Int)] 35 (0, 0)) := by rw [← hV9]; exact heap_alloc_new V8 _
          have hc9 := hc8.below hB9
          have hi9 := hid8.fr (Fr.below hB9)
          have hbw9 : Below w.heap.size w V9 := hbw8.trans (hB9.mono hbw8.size)
          obtain ⟨aA, cA, VA, hrA, hiA, hcA, hgA⟩ := hi9.adds hc9 (by rw [← HCS.out.2.2.2]; exact hbw9.size) (by omega) (idRow2 (c := (sm, nm)) (d := (sm, nm)) r9)
          have HE : Hid (Cs tb (mor (mor F8 V8 V9) V9 VA) VA st tb W (-1) T8 ∧ Rf W 200 T8 (ids ++ [(sm, nm), (sm, nm)]) ∧ Ids tb (mor (mor F8 V8 V9) V9 VA) VA aA (2 * i + 2) cA (ids ++ [(sm, nm), (sm, nm)]) ∧ T8.length ≤ 2 * (i + 1) ∧ Below w.heap.size w VA) := by
            refine ⟨hcA, by rw [List.append_assoc] at hr8; exact hr8, hiA, by omega, hbw9.grown hgA hbw9.size (fun z hz => ?_)⟩
            have := (hi9.1.lt z (by rw [ob_slice]; exact hz)).1
            rw [HCS.out.2.2.2]
            exact this
          clear HAG hc8 hr8 hl8 hf8 hb8 hid8 r8 hbw8 hB9 r9 hc9 hi9 hbw9 hiA hcA hgA
          obtain ⟨n2, hn2⟩ : ∃ n2, 2 * i = n2 := ⟨_, rfl⟩
          rw [hn2] at hrA HE ⊢
          go_wp2_with ((at_builtin; refine wpList_app V9 rfl _ _ _ _ rfl rfl rfl (hrA _) ?_))
          refine ⟨⟨i + 1, cA, aA, _, T8, _, by omega, by omega, by go_num, ?_, HE.out.1, HE.out.2.1, ?_, HE.out.2.2.2.1, HE.out.2.2.2.2⟩, by simp [intOf]; omega⟩
          · rw [show 2 * (i + 1) = n2 + 2 by omega]
          · rw [show 2 * (i + 1) = n2 + 2 by omega]; exact HE.out.2.2.1
      · by_cases hl : i < len1
        · have k1 : (i : Int) < (len1 : Int) := by omega
          have k2 : ¬ (i : Int) < 40 := by omega
          have HX0 : Hid (Cs tb F wo st tb W (-1) T ∧ Rf W 200 T ids ∧ Ids tb F wo la (2 * i) lc ids ∧ Below w.heap.size w wo) := ⟨hcs, hRf, hId, hbw⟩
          obtain ⟨N, hN⟩ : ∃ N, 2 * i = N := ⟨_, rfl⟩
          have hN80 : N ≤ 80 := by omega
          rw [hN] at HX0 ⊢
          clear hcs hRf hId hbw hlt hTl hN
          go_wp2
          go_loopw [10, 14, 15] (fun vl vj _ wr => ∃ (j n lc : Nat) (la : Option Addr) (F : Nat → Prop) (T : List Pr) (ids : List Ix), j + n = N ∧ vj = .int .i64 j ∧ vl = .slice la n lc ∧ Cs tb F wr st tb W (-1) T ∧ Rf W 200 T ids ∧ Ids tb F wr la n lc ids ∧ Below w.heap.size w wr) (fun vl _ _ _ => (lenOf vl))
          case atStart => exact ⟨0, N, lc, la, F, T, ids, by omega, rfl, rfl, HX0.out⟩
          case round =>
            clear HX0
            obtain ⟨j, n, lc2, la2, F2, T2, ids2, hjn, rfl, rfl, hcs, hRf, hId, hbw⟩ := hrel
            rename World => wp
            have hlen := hId.len
            by_cases hn0 : 0 < n
            · have kn : (0 : Int) < (n : Int) := by omega
              obtain ⟨k, hk, hkk⟩ : ∃ k : Nat, k < n ∧ k = (if j < len2 ∧ 0 ≤ zs2.getD j 0 then ((zs2.getD j 0) % (n : Int)).toNat else 0) := by
                refine ⟨_, ?_, rfl⟩
                split
                · have h1 := Int.emod_lt_of_pos (zs2.getD j 0) (b := (n : Int)) (by omega)
                  have h2 := Int.emod_nonneg (zs2.getD j 0) (b := (n : Int)) (by omega)
                  omega
                · exact hn0
              obtain ⟨⟨xs, xn⟩, hx⟩ : ∃ x, ids2[k]? = some x := ⟨_, List.getElem?_eq_getElem (by omega)⟩
              obtain ⟨g, rfl, hnc, hpre, hsuf, hcut⟩ := hId.cut k hk
              have hIw : Iw (fun _ => True) wp (some ⟨g, 0, none⟩) n lc2 ids2 := Rw.own hId.1 (fun _ _ => trivial)
              obtain ⟨ib, io, hibo, _, _, hc⟩ := hIw.at hn0
              simp only [Option.some.injEq, Addr.mk.injEq, and_true] at hibo
              obtain ⟨rfl, rfl⟩ := hibo
              obtain ⟨g0, g1⟩ := hc k (xs, xn) hx
              simp only [Nat.zero_add] at g0 g1
              obtain ⟨cc, hlk, hix, hiT, hr1, hr2⟩ := hRf.take hx
              simp only at hlk
              have hcap2 : lc2 ≤ 9223372036854775807 := by have h5 := hIw.2.2.1; unfold maxLen at h5; omega
              have HTK : Calls Tryd.prog 17 #[.pointer (some ⟨st, 0, none⟩), .agg #[.string xs, .int .i64 (xn : Int)]] wp fun e w' => ∃ F' T', e = .returned (.int .i64 0) ∧ Cs tb F' w' st tb W (-1) T' ∧ Rf W 200 T' (ids2.take k ++ ids2.drop (k + 1)) ∧ Fr F2 wp F' w' ∧ Below tb wp w' := by
                refine (take_any hcs hW (by have := hRf.tb.few; omega) xs (xn : Int)).mono ?_
                intro e w' ht
                rw [hlk] at ht
                unfold TkTo at ht
                simp only [Int.toNat_natCast] at ht
                by_cases hr : cc.refs = 1
                · rw [if_pos hr] at ht
                  obtain ⟨he, F', h1, h2, h3⟩ := ht
                  exact ⟨F', _, he, h1, hr1 hr, h2, h3⟩
                · rw [if_neg hr] at ht
                  obtain ⟨F', h1, h2, h3⟩ := ht
                  rw [if_pos (by unfold roomT; rw [hiT]; rfl)] at h1
                  exact ⟨F', _, h1.1, h1.2, hr2 hr, h2, h3⟩
              have HP : Hid (Ids tb F2 wp (some ⟨g, 0, none⟩) n lc2 ids2 ∧ Below w.heap.size w wp ∧ k < n ∧ j + n = N) := ⟨hId, hbw, hk, hjn⟩
              have kr : (k : Int) + 1 = ((k + 1 : Nat) : Int) := by omega
              obtain ⟨k1, hk1⟩ : ∃ k1, k + 1 = k1 := ⟨_, rfl⟩
              have kr1 : (k : Int) + 1 = (k1 : Int) := by omega
              have wk1 : IntKind.i64.wrap (k1 : Int) = (k1 : Int) := wrapI64 _ (by omega) (by omega)
              have wk2 : IntKind.i64.wrap ((k : Int) + 1) = (k1 : Int) := by rw [kr1]; exact wk1
              have hpr := fun V => pre_ids (some ⟨g, 0, none⟩) n lc2 k (by omega) V
              rw [hcut] at hpr
              have hof := fun V => off_ids (some ⟨g, 0, none⟩) n lc2 k1 (by omega) V
              clear hcs hRf hId hbw hIw hc hx hlk hix hiT hr1 hr2 hpre hsuf kr
              by_cases hj2 : j < len2
              · have kj : (j : Int) < (len2 : Int) := by omega
                obtain ⟨ob2, oo2, ha2, _, hoc⟩ := ints_at HO.out (by omega)
                subst ha2
                obtain ⟨o0, o1, o2⟩ := hoc wp HP.out.2.1 j hj2
                obtain ⟨oz, hoz⟩ : ∃ oz, zs2.getD j 0 = oz := ⟨_, rfl⟩
                rw [hoz] at o0 o1 o2 hkk
                by_cases hp2 : 0 ≤ oz
                · rw [if_pos ⟨hj2, hp2⟩] at hkk
                  have hmod : oz.tmod (n : Int) = (k : Int) := by
                    rw [Int.tmod_eq_emod_of_nonneg hp2, hkk]
                    have h2 := Int.emod_nonneg oz (b := (n : Int)) (by omega)
                    omega
                  have hnz : ((n : Int) == 0) = false := by simp; omega
                  have hnz1 : ¬ (n : Int) = 0 := by omega
                  have hmm1 : ¬ (n : Int) = -1 := by omega
                  clear hoz hkk hoc
                  go_wp2_with fail
                  refine HTK.mono ?_
                  rintro e V6 ⟨F6, T6, rfl, hc6, hr6, hf6, hb6⟩
                  have hid6 := HP.out.1.fr hf6
                  obtain ⟨g', hge, _, hpre, hsuf, _⟩ := hid6.cut k hk
                  cases hge
                  have hbw6 : Below w.heap.size w V6 := HP.out.2.1.trans (by rw [HCS.out.2.2.2]; exact hb6)
                  have hid6d := hpre
                  rw [hk1] at hsuf hr6
                  have hpreD : Ids tb (mor F6 V6 V6.drew) V6.drew (some ⟨g, 0, none⟩) k lc2 (ids2.take k) := hpre.fr (Fr.below (Below.refl _ V6).drew)
                  obtain ⟨aA, cA, VA, hrA, hiA, hcA, hgA⟩ := hpreD.adds (hc6.below (Below.refl _ V6).drew) (by show tb ≤ V6.heap.size; rw [← HCS.out.2.2.2]; exact hbw6.size) (by omega) (hsuf.below (Below.refl _ V6).drew)
                  have HE : Hid (Cs tb (mor (mor F6 V6 V6.drew) V6.drew VA) VA st tb W (-1) T6 ∧ Ids tb (mor (mor F6 V6 V6.drew) V6.drew VA) VA aA (k + (n - k1)) cA (ids2.take k ++ ids2.drop k1) ∧ Below w.heap.size w VA ∧ Rf W 200 T6 (ids2.take k ++ ids2.drop k1)) := by
                    refine ⟨hcA, hiA, hbw6.drew.grown hgA hbw6.drew.size (fun z hz => ?_), hr6⟩
                    have := (hpreD.1.lt z (by rw [ob_slice]; exact hz)).1
                    rw [HCS.out.2.2.2]
                    exact this
                  clear HTK hc6 hr6 hf6 hb6 hid6 hpre hsuf hbw6 hid6d hpreD hiA hcA hgA g0 g1
                  go_wp2
                  refine wp_region_held_drew (S := fun _ => True) (by kernel_rfl) (trivial) (fun hHeld => ?_)
                  refine wpAnyH_take (i := 0) (v := ?vb_0) rfl (by kernel_rfl) (by kernel_rfl) (by kernel_rfl) (fun _ _ _ h => h) (Or.inl ⟨by first | kernel_rfl | rfl, ?yb_0⟩) hHeld ?rb_0
                  case yb_0 => (intro W hSW; (try dsimp only at hSW); go_simp; (try with_reducible rfl))
                  change wpAnyH _ _ _ _ _ _ _ (Act.put _ (some 103) _) _
                  simp only [Act.put, List.setIfInBounds_toArray, List.set_cons_zero, List.set_cons_succ]
                  refine wpAnyH_take (i := 1) (v := ?vb_1) rfl (by kernel_rfl) (by kernel_rfl) (by kernel_rfl) (fun _ _ _ h => h) (Or.inl ⟨by first | kernel_rfl | rfl, ?yb_1⟩) hHeld ?rb_1
                  case yb_1 => (intro W hSW; (try dsimp only at hSW); go_simp; (try with_reducible rfl))
                  change wpAnyH _ _ _ _ _ _ _ (Act.put _ (some 104) _) _
                  simp only [Act.put, List.setIfInBounds_toArray, List.set_cons_zero, List.set_cons_succ]
                  refine wpAnyH_take (i := 2) (v := ?vb_2) rfl (by kernel_rfl) (by kernel_rfl) (by kernel_rfl) (fun _ _ _ h => h) (Or.inl ⟨by first | kernel_rfl | rfl, ?yb_2⟩) hHeld ?rb_2
                  case yb_2 => (intro W hSW; (try dsimp only at hSW); go_simp; (try with_reducible rfl))
                  change wpAnyH _ _ _ _ _ _ _ (Act.put _ (some 105) _) _
                  simp only [Act.put, List.setIfInBounds_toArray, List.set_cons_zero, List.set_cons_succ]
                  refine wpAnyH_take (i := 3) (v := ?vb_3) rfl (by kernel_rfl) (by kernel_rfl) (by kernel_rfl) (fun _ _ _ h => h) (Or.inl ⟨by first | kernel_rfl | rfl, ?yb_3⟩) hHeld ?rb_3
                  case yb_3 => (intro W hSW; (try dsimp only at hSW); go_simp; (try with_reducible rfl))
                  change wpAnyH _ _ _ _ _ _ _ (Act.put _ (some 106) _) _
                  simp only [Act.put, List.setIfInBounds_toArray, List.set_cons_zero, List.set_cons_succ]
                  refine wpAnyH_take (i := 4) (v := ?vb_4) rfl (by kernel_rfl) (by kernel_rfl) (by kernel_rfl) (fun _ _ _ h => h) (Or.inl ⟨by first | kernel_rfl | rfl, ?yb_4⟩) hHeld ?rb_4
                  case yb_4 => (intro W hSW; (try dsimp only at hSW); go_simp; (try with_reducible rfl))
                  change wpAnyH _ _ _ _ _ _ _ (Act.put _ (some 107) _) _
                  simp only [Act.put, List.setIfInBounds_toArray, List.set_cons_zero, List.set_cons_succ]
                  refine wpAnyH_take (i := 5) (v := ?vb_5) rfl (by kernel_rfl) (by kernel_rfl) (by kernel_rfl) (fun _ _ _ h => h) (Or.inl ⟨by first | kernel_rfl | rfl, ?yb_5⟩) hHeld ?rb_5
                  case yb_5 => (intro W hSW; (try dsimp only at hSW); go_simp; (try with_reducible rfl))
                  change wpAnyH _ _ _ _ _ _ _ (Act.put _ (some 108) _) _
                  simp only [Act.put, List.setIfInBounds_toArray, List.set_cons_zero, List.set_cons_succ]
                  refine wpAnyH_take (i := 6) (v := ?vb_6) rfl (by kernel_rfl) (by kernel_rfl) (by kernel_rfl) (fun _ _ _ h => h) (Or.inl ⟨by first | kernel_rfl | rfl, ?yb_6⟩) hHeld ?rb_6
                  case yb_6 => (intro W hSW; (try dsimp only at hSW); go_simp; (try with_reducible rfl))
                  change wpAnyH _ _ _ _ _ _ _ (Act.put _ (some 109) _) _
                  simp only [Act.put, List.setIfInBounds_toArray, List.set_cons_zero, List.set_cons_succ]
                  refine wpAnyH_ready (rs := [7]) (by kernel_rfl) (by simp) ?_
                  refine AllReadyH.cons rfl (fun K hK => ?_) AllReadyH.nil
                  rw [if_pos (by rfl)]
                  refine wp_app V6.drew _ _ _ _ rfl rfl rfl (hrA _) ?_
                  skip
                  refine hK.out _ _ (trivial) (fun hHeld => ?_)
                  clear hK K
                  change wpAnyH _ _ _ _ _ _ _ (Act.put _ (some 110) _) _
                  simp only [Act.put, List.setIfInBounds_toArray, List.set_cons_zero, List.set_cons_succ]
                  refine wpAnyH_take (i := 8) (v := ?vb_8) rfl (by kernel_rfl) (by kernel_rfl) (by kernel_rfl) (fun _ _ _ h => h) (Or.inl ⟨by first | kernel_rfl | rfl, ?yb_8⟩) hHeld ?rb_8
                  case yb_8 => (intro W hSW; (try dsimp only at hSW); go_simp; (try with_reducible rfl))
                  change wpAnyH _ _ _ _ _ _ _ (Act.put _ (some 10) _) _
                  simp only [Act.put, List.setIfInBounds_toArray, List.set_cons_zero, List.set_cons_succ]
                  refine wpAnyH_done (by kernel_rfl) ?_ _
                  go_wp2
                  refine ⟨⟨j + 1, k + (n - k1), cA, aA, _, T6, _, by have := HP.out.2.2.2; omega, by go_num, by first | rfl | simp, HE.out.1, HE.out.2.2.2, HE.out.2.1, HE.out.2.2.1⟩, by simp [lenOf] <;> omega⟩
                · rw [if_neg (fun h => hp2 h.2)] at hkk
                  subst hkk
                  obtain rfl : k1 = 1 := by omega
                  have hpr : ∀ V, (Instr.sliceAt 33 (.slice (some ⟨g, 0, none⟩) n lc2) none (some (.int .i64 0)) none).run Tryd.prog V = .ok (.slice (some ⟨g, 0, none⟩) 0 lc2) V := hpr
                  have hof : ∀ V, (Instr.sliceAt 33 (.slice (some ⟨g, 0, none⟩) n lc2) (some (.int .i64 1)) none none).run Tryd.prog V = .ok (.slice (cutA (some ⟨g, 0, none⟩) lc2 1 2) (n - 1) (lc2 - 1)) V := hof
                  simp only [Nat.zero_mul, Nat.zero_add] at g0 g1
                  clear hk1 kr1 wk1 wk2
                  have wk1 : IntKind.i64.wrap (1 : Int) = 1 := wrapI64 _ (by omega) (by omega)
                  have wk2 : IntKind.i64.wrap ((0 : Int) + 1) = 1 := wk1
                  clear hoz hoc
                  go_wp2_with fail
                  refine HTK.mono ?_
                  rintro e V6 ⟨F6, T6, rfl, hc6, hr6, hf6, hb6⟩
                  have hid6 := HP.out.1.fr hf6
                  obtain ⟨g', hge, _, hpre, hsuf, _⟩ := hid6.cut 0 hk
                  cases hge
                  have hbw6 : Below w.heap.size w V6 := HP.out.2.1.trans (by rw [HCS.out.2.2.2]; exact hb6)
                  have hid6d := hpre
                  simp only [Nat.zero_add] at hsuf hr6
                  have hpreD : Ids tb (mor F6 V6 V6.drew) V6.drew (some ⟨g, 0, none⟩) 0 lc2 (ids2.take 0) := hpre.fr (Fr.below (Below.refl _ V6).drew)
                  obtain ⟨aA, cA, VA, hrA, hiA, hcA, hgA⟩ := hpreD.adds (hc6.below (Below.refl _ V6).drew) (by show tb ≤ V6.heap.size; rw [← HCS.out.2.2.2]; exact hbw6.size) (by omega) (hsuf.below (Below.refl _ V6).drew)
                  have HE : Hid (Cs tb (mor (mor F6 V6 V6.drew) V6.drew VA) VA st tb W (-1) T6 ∧ Ids tb (mor (mor F6 V6 V6.drew) V6.drew VA) VA aA (0 + (n - 1)) cA (ids2.take 0 ++ ids2.drop 1) ∧ Below w.heap.size w VA ∧ Rf W 200 T6 (ids2.take 0 ++ ids2.drop 1)) := by
                    refine ⟨hcA, hiA, hbw6.drew.grown hgA hbw6.drew.size (fun z hz => ?_), hr6⟩
                    have := (hpreD.1.lt z (by rw [ob_slice]; exact hz)).1
                    rw [HCS.out.2.2.2]
                    exact this
                  clear HTK hc6 hr6 hf6 hb6 hid6 hpre hsuf hbw6 hid6d hpreD hiA hcA hgA g0 g1
                  go_wp2
                  refine wp_region_held_drew (S := fun _ => True) (by kernel_rfl) (trivial) (fun hHeld => ?_)
                  refine wpAnyH_take (i := 0) (v := ?vc_0) rfl (by kernel_rfl) (by kernel_rfl) (by kernel_rfl) (fun _ _ _ h => h) (Or.inl ⟨by first | kernel_rfl | rfl, ?yc_0⟩) hHeld ?rc_0
                  case yc_0 => (intro W hSW; (try dsimp only at hSW); go_simp; (try with_reducible rfl))
                  change wpAnyH _ _ _ _ _ _ _ (Act.put _ (some 103) _) _
                  simp only [Act.put, List.setIfInBounds_toArray, List.set_cons_zero, List.set_cons_succ]
                  refine wpAnyH_take (i := 1) (v := ?vc_1) rfl (by kernel_rfl) (by kernel_rfl) (by kernel_rfl) (fun _ _ _ h => h) (Or.inl ⟨by first | kernel_rfl | rfl, ?yc_1⟩) hHeld ?rc_1
                  case yc_1 => (intro W hSW; (try dsimp only at hSW); go_simp; (try with_reducible rfl))
                  change wpAnyH _ _ _ _ _ _ _ (Act.put _ (some 104) _) _
                  simp only [Act.put, List.setIfInBounds_toArray, List.set_cons_zero, List.set_cons_succ]
                  refine wpAnyH_take (i := 2) (v := ?vc_2) rfl (by kernel_rfl) (by kernel_rfl) (by kernel_rfl) (fun _ _ _ h => h) (Or.inl ⟨by first | kernel_rfl | rfl, ?yc_2⟩) hHeld ?rc_2
                  case yc_2 => (intro W hSW; (try dsimp only at hSW); go_simp; (try with_reducible rfl))
                  change wpAnyH _ _ _ _ _ _ _ (Act.put _ (some 105) _) _
                  simp only [Act.put, List.setIfInBounds_toArray, List.set_cons_zero, List.set_cons_succ]
                  refine wpAnyH_take (i := 3) (v := ?vc_3) rfl (by kernel_rfl) (by kernel_rfl) (by kernel_rfl) (fun _ _ _ h => h) (Or.inl ⟨by first | kernel_rfl | rfl, ?yc_3⟩) hHeld ?rc_3
                  case yc_3 => (intro W hSW; (try dsimp only at hSW); go_simp; (try with_reducible rfl))
                  change wpAnyH _ _ _ _ _ _ _ (Act.put _ (some 106) _) _
                  simp only [Act.put, List.setIfInBounds_toArray, List.set_cons_zero, List.set_cons_succ]
                  refine wpAnyH_take (i := 4) (v := ?vc_4) rfl (by kernel_rfl) (by kernel_rfl) (by kernel_rfl) (fun _ _ _ h => h) (Or.inl ⟨by first | kernel_rfl | rfl, ?yc_4⟩) hHeld ?rc_4
                  case yc_4 => (intro W hSW; (try dsimp only at hSW); go_simp; (try with_reducible rfl))
                  change wpAnyH _ _ _ _ _ _ _ (Act.put _ (some 107) _) _
                  simp only [Act.put, List.setIfInBounds_toArray, List.set_cons_zero, List.set_cons_succ]
                  refine wpAnyH_take (i := 5) (v := ?vc_5) rfl (by kernel_rfl) (by kernel_rfl) (by kernel_rfl) (fun _ _ _ h => h) (Or.inl ⟨by first | kernel_rfl | rfl, ?yc_5⟩) hHeld ?rc_5
                  case yc_5 => (intro W hSW; (try dsimp only at hSW); go_simp; (try with_reducible rfl))
                  change wpAnyH _ _ _ _ _ _ _ (Act.put _ (some 108) _) _
                  simp only [Act.put, List.setIfInBounds_toArray, List.set_cons_zero, List.set_cons_succ]
                  refine wpAnyH_take (i := 6) (v := ?vc_6) rfl (by kernel_rfl) (by kernel_rfl) (by kernel_rfl) (fun _ _ _ h => h) (Or.inl ⟨by first | kernel_rfl | rfl, ?yc_6⟩) hHeld ?rc_6
                  case yc_6 => (intro W hSW; (try dsimp only at hSW); go_simp; (try with_reducible rfl))
                  change wpAnyH _ _ _ _ _ _ _ (Act.put _ (some 109) _) _
                  simp only [Act.put, List.setIfInBounds_toArray, List.set_cons_zero, List.set_cons_succ]
                  refine wpAnyH_ready (rs := [7]) (by kernel_rfl) (by simp) ?_
                  refine AllReadyH.cons rfl (fun K hK => ?_) AllReadyH.nil
                  rw [if_pos (by rfl)]
                  refine wp_app V6.drew _ _ _ _ rfl rfl rfl (hrA _) ?_
                  skip
                  refine hK.out _ _ (trivial) (fun hHeld => ?_)
                  clear hK K
                  change wpAnyH _ _ _ _ _ _ _ (Act.put _ (some 110) _) _
                  simp only [Act.put, List.setIfInBounds_toArray, List.set_cons_zero, List.set_cons_succ]
                  refine wpAnyH_take (i := 8) (v := ?vc_8) rfl (by kernel_rfl) (by kernel_rfl) (by kernel_rfl) (fun _ _ _ h => h) (Or.inl ⟨by first | kernel_rfl | rfl, ?yc_8⟩) hHeld ?rc_8
                  case yc_8 => (intro W hSW; (try dsimp only at hSW); go_simp; (try with_reducible rfl))
                  change wpAnyH _ _ _ _ _ _ _ (Act.put _ (some 10) _) _
                  simp only [Act.put, List.setIfInBounds_toArray, List.set_cons_zero, List.set_cons_succ]
                  refine wpAnyH_done (by kernel_rfl) ?_ _
                  go_wp2
                  refine ⟨⟨j + 1, 0 + (n - 1), cA, aA, _, T6, _, by have := HP.out.2.2.2; omega, by go_num, by first | rfl | simp, HE.out.1, HE.out.2.2.2, HE.out.2.1, HE.out.2.2.1⟩, by simp [lenOf] <;> omega⟩
              · have kj : ¬ (j : Int) < (len2 : Int) := by omega
                rw [if_neg (fun h => hj2 h.1)] at hkk
                subst hkk
                obtain rfl : k1 = 1 := by omega
                have hpr : ∀ V, (Instr.sliceAt 33 (.slice (some ⟨g, 0, none⟩) n lc2) none (some (.int .i64 0)) none).run Tryd.prog V = .ok (.slice (some ⟨g, 0, none⟩) 0 lc2) V := hpr
                have hof : ∀ V, (Instr.sliceAt 33 (.slice (some ⟨g, 0, none⟩) n lc2) (some (.int .i64 1)) none none).run Tryd.prog V = .ok (.slice (cutA (some ⟨g, 0, none⟩) lc2 1 2) (n - 1) (lc2 - 1)) V := hof
                simp only [Nat.zero_mul, Nat.zero_add] at g0 g1
                clear hk1 kr1 wk1 wk2
                have wk1 : IntKind.i64.wrap (1 : Int) = 1 := wrapI64 _ (by omega) (by omega)
                have wk2 : IntKind.i64.wrap ((0 : Int) + 1) = 1 := wk1
                go_wp2_with fail
                refine HTK.mono ?_
                rintro e V6 ⟨F6, T6, rfl, hc6, hr6, hf6, hb6⟩
                have hid6 := HP.out.1.fr hf6
                obtain ⟨g', hge, _, hpre, hsuf, _⟩ := hid6.cut 0 hk
                cases hge
                have hbw6 : Below w.heap.size w V6 := HP.out.2.1.trans (by rw [HCS.out.2.2.2]; exact hb6)
                have hid6d := hpre
                simp only [Nat.zero_add] at hsuf hr6
                have hpreD : Ids tb (mor F6 V6 V6.drew) V6.drew (some ⟨g, 0, none⟩) 0 lc2 (ids2.take 0) := hpre.fr (Fr.below (Below.refl _ V6).drew)
                obtain ⟨aA, cA, VA, hrA, hiA, hcA, hgA⟩ := hpreD.adds (hc6.below (Below.refl _ V6).drew) (by show tb ≤ V6.heap.size; rw [← HCS.out.2.2.2]; exact hbw6.size) (by omega) (hsuf.below (Below.refl _ V6).drew)
                have HE : Hid (Cs tb (mor (mor F6 V6 V6.drew) V6.drew VA) VA st tb W (-1) T6 ∧ Ids tb (mor (mor F6 V6 V6.drew) V6.drew VA) VA aA (0 + (n - 1)) cA (ids2.take 0 ++ ids2.drop 1) ∧ Below w.heap.size w VA ∧ Rf W 200 T6 (ids2.take 0 ++ ids2.drop 1)) := by
                  refine ⟨hcA, hiA, hbw6.drew.grown hgA hbw6.drew.size (fun z hz => ?_), hr6⟩
                  have := (hpreD.1.lt z (by rw [ob_slice]; exact hz)).1
                  rw [HCS.out.2.2.2]
                  exact this
                clear HTK hc6 hr6 hf6 hb6 hid6 hpre hsuf hbw6 hid6d hpreD hiA hcA hgA g0 g1
                go_wp2
                refine wp_region_held_drew (S := fun _ => True) (by kernel_rfl) (trivial) (fun hHeld => ?_)
                refine wpAnyH_take (i := 0) (v := ?vd_0) rfl (by kernel_rfl) (by kernel_rfl) (by kernel_rfl) (fun _ _ _ h => h) (Or.inl ⟨by first | kernel_rfl | rfl, ?yd_0⟩) hHeld ?rd_0
                case yd_0 => (intro W hSW; (try dsimp only at hSW); go_simp; (try with_reducible rfl))
                change wpAnyH _ _ _ _ _ _ _ (Act.put _ (some 103) _) _
                simp only [Act.put, List.setIfInBounds_toArray, List.set_cons_zero, List.set_cons_succ]
                refine wpAnyH_take (i := 1) (v := ?vd_1) rfl (by kernel_rfl) (by kernel_rfl) (by kernel_rfl) (fun _ _ _ h => h) (Or.inl ⟨by first | kernel_rfl | rfl, ?yd_1⟩) hHeld ?rd_1
                case yd_1 => (intro W hSW; (try dsimp only at hSW); go_simp; (try with_reducible rfl))
                change wpAnyH _ _ _ _ _ _ _ (Act.put _ (some 104) _) _
                simp only [Act.put, List.setIfInBounds_toArray, List.set_cons_zero, List.set_cons_succ]
                refine wpAnyH_take (i := 2) (v := ?vd_2) rfl (by kernel_rfl) (by kernel_rfl) (by kernel_rfl) (fun _ _ _ h => h) (Or.inl ⟨by first | kernel_rfl | rfl, ?yd_2⟩) hHeld ?rd_2
                case yd_2 => (intro W hSW; (try dsimp only at hSW); go_simp; (try with_reducible rfl))
                change wpAnyH _ _ _ _ _ _ _ (Act.put _ (some 105) _) _
                simp only [Act.put, List.setIfInBounds_toArray, List.set_cons_zero, List.set_cons_succ]
                refine wpAnyH_take (i := 3) (v := ?vd_3) rfl (by kernel_rfl) (by kernel_rfl) (by kernel_rfl) (fun _ _ _ h => h) (Or.inl ⟨by first | kernel_rfl | rfl, ?yd_3⟩) hHeld ?rd_3
                case yd_3 => (intro W hSW; (try dsimp only at hSW); go_simp; (try with_reducible rfl))
                change wpAnyH _ _ _ _ _ _ _ (Act.put _ (some 106) _) _
                simp only [Act.put, List.setIfInBounds_toArray, List.set_cons_zero, List.set_cons_succ]
                refine wpAnyH_take (i := 4) (v := ?vd_4) rfl (by kernel_rfl) (by kernel_rfl) (by kernel_rfl) (fun _ _ _ h => h) (Or.inl ⟨by first | kernel_rfl | rfl, ?yd_4⟩) hHeld ?rd_4
                case yd_4 => (intro W hSW; (try dsimp only at hSW); go_simp; (try with_reducible rfl))
                change wpAnyH _ _ _ _ _ _ _ (Act.put _ (some 107) _) _
                simp only [Act.put, List.setIfInBounds_toArray, List.set_cons_zero, List.set_cons_succ]
                refine wpAnyH_take (i := 5) (v := ?vd_5) rfl (by kernel_rfl) (by kernel_rfl) (by kernel_rfl) (fun _ _ _ h => h) (Or.inl ⟨by first | kernel_rfl | rfl, ?yd_5⟩) hHeld ?rd_5
                case yd_5 => (intro W hSW; (try dsimp only at hSW); go_simp; (try with_reducible rfl))
                change wpAnyH _ _ _ _ _ _ _ (Act.put _ (some 108) _) _
                simp only [Act.put, List.setIfInBounds_toArray, List.set_cons_zero, List.set_cons_succ]
                refine wpAnyH_take (i := 6) (v := ?vd_6) rfl (by kernel_rfl) (by kernel_rfl) (by kernel_rfl) (fun _ _ _ h => h) (Or.inl ⟨by first | kernel_rfl | rfl, ?yd_6⟩) hHeld ?rd_6
                case yd_6 => (intro W hSW; (try dsimp only at hSW); go_simp; (try with_reducible rfl))
                change wpAnyH _ _ _ _ _ _ _ (Act.put _ (some 109) _) _
                simp only [Act.put, List.setIfInBounds_toArray, List.set_cons_zero, List.set_cons_succ]
                refine wpAnyH_ready (rs := [7]) (by kernel_rfl) (by simp) ?_
                refine AllReadyH.cons rfl (fun K hK => ?_) AllReadyH.nil
                rw [if_pos (by rfl)]
                refine wp_app V6.drew _ _ _ _ rfl rfl rfl (hrA _) ?_
                skip
                refine hK.out _ _ (trivial) (fun hHeld => ?_)
                clear hK K
                change wpAnyH _ _ _ _ _ _ _ (Act.put _ (some 110) _) _
                simp only [Act.put, List.setIfInBounds_toArray, List.set_cons_zero, List.set_cons_succ]
                refine wpAnyH_take (i := 8) (v := ?vd_8) rfl (by kernel_rfl) (by kernel_rfl) (by kernel_rfl) (fun _ _ _ h => h) (Or.inl ⟨by first | kernel_rfl | rfl, ?yd_8⟩) hHeld ?rd_8
                case yd_8 => (intro W hSW; (try dsimp only at hSW); go_simp; (try with_reducible rfl))
                change wpAnyH _ _ _ _ _ _ _ (Act.put _ (some 10) _) _
                simp only [Act.put, List.setIfInBounds_toArray, List.set_cons_zero, List.set_cons_succ]
                refine wpAnyH_done (by kernel_rfl) ?_ _
                go_wp2
                refine ⟨⟨j + 1, 0 + (n - 1), cA, aA, _, T6, _, by have := HP.out.2.2.2; omega, by go_num, by first | rfl | simp, HE.out.1, HE.out.2.2.2, HE.out.2.1, HE.out.2.2.1⟩, by simp [lenOf] <;> omega⟩
            · obtain rfl : n = 0 := by omega
              have kn : ¬ (0 : Int) < ((0 : Nat) : Int) := by omega
              have hidn : ids2 = [] := List.eq_nil_of_length_eq_zero (by omega)
              subst hidn
              have hT0 := hRf.end
              subst hT0
              have HCO := count_any hcs hW
              rw [all_nil] at HCO
              have HX : Hid (Cs tb F2 wp st tb W (-1) [] ∧ Below w.heap.size w wp) := ⟨hcs, hbw⟩
              clear hcs hRf hId hbw
              go_wp2_with fail
              refine HCO.mono ?_
              rintro e V5 ⟨rfl, hb5⟩
              have hc5 := HX.out.1.below hb5
              obtain ⟨ta, tc, _, t0⟩ := hc5.row
              have HB : Hid (Below w.heap.size w V5) := HX.out.2.trans (hb5.mono HX.out.2.size)
              clear HCO hb5 hc5
              go_wp2_with fail
              refine (HLV.out _ HB.out).mono ?_
              rintro e V ⟨rfl, hb⟩
              go_wp2
              go_ret
              exact ⟨rfl, hb⟩
        · have k1 : ¬ (i : Int) < (len1 : Int) := by omega
          have HX0 : Hid (Cs tb F wo st tb W (-1) T ∧ Rf W 200 T ids ∧ Ids tb F wo la (2 * i) lc ids ∧ Below w.heap.size w wo) := ⟨hcs, hRf, hId, hbw⟩
          obtain ⟨N, hN⟩ : ∃ N, 2 * i = N := ⟨_, rfl⟩
          have hN80 : N ≤ 80 := by omega
          rw [hN] at HX0 ⊢
          clear hcs hRf hId hbw hlt hTl hN
          go_wp2
          go_loopw [10, 14, 15] (fun vl vj _ wr => ∃ (j n lc : Nat) (la : Option Addr) (F : Nat → Prop) (T : List Pr) (ids : List Ix), j + n = N ∧ vj = .int .i64 j ∧ vl = .slice la n lc ∧ Cs tb F wr st tb W (-1) T ∧ Rf W 200 T ids ∧ Ids tb F wr la n lc ids ∧ Below w.heap.size w wr) (fun vl _ _ _ => (lenOf vl))
          case atStart => exact ⟨0, N, lc, la, F, T, ids, by omega, rfl, rfl, HX0.out⟩
          case round =>
            clear HX0
            obtain ⟨j, n, lc2, la2, F2, T2, ids2, hjn, rfl, rfl, hcs, hRf, hId, hbw⟩ := hrel
            rename World => wp
            have hlen := hId.len
            by_cases hn0 : 0 < n
            · have kn : (0 : Int) < (n : Int) := by omega
              obtain ⟨k, hk, hkk⟩ : ∃ k : Nat, k < n ∧ k = (if j < len2 ∧ 0 ≤ zs2.getD j 0 then ((zs2.getD j 0) % (n : Int)).toNat else 0) := by
                refine ⟨_, ?_, rfl⟩
                split
                · have h1 := Int.emod_lt_of_pos (zs2.getD j 0) (b := (n : Int)) (by omega)
                  have h2 := Int.emod_nonneg (zs2.getD j 0) (b := (n : Int)) (by omega)
                  omega
                · exact hn0
              obtain ⟨⟨xs, xn⟩, hx⟩ : ∃ x, ids2[k]? = some x := ⟨_, List.getElem?_eq_getElem (by omega)⟩
              obtain ⟨g, rfl, hnc, hpre, hsuf, hcut⟩ := hId.cut k hk
              have hIw : Iw (fun _ => True) wp (some ⟨g, 0, none⟩) n lc2 ids2 := Rw.own hId.1 (fun _ _ => trivial)
              obtain ⟨ib, io, hibo, _, _, hc⟩ := hIw.at hn0
              simp only [Option.some.injEq, Addr.mk.injEq, and_true] at hibo
              obtain ⟨rfl, rfl⟩ := hibo
              obtain ⟨g0, g1⟩ := hc k (xs, xn) hx
              simp only [Nat.zero_add] at g0 g1
              obtain ⟨cc, hlk, hix, hiT, hr1, hr2⟩ := hRf.take hx
              simp only at hlk
              have hcap2 : lc2 ≤ 9223372036854775807 := by have h5 := hIw.2.2.1; unfold maxLen at h5; omega
              have HTK : Calls Tryd.prog 17 #[.pointer (some ⟨st, 0, none⟩), .agg #[.string xs, .int .i64 (xn : Int)]] wp fun e w' => ∃ F' T', e = .returned (.int .i64 0) ∧ Cs tb F' w' st tb W (-1) T' ∧ Rf W 200 T' (ids2.take k ++ ids2.drop (k + 1)) ∧ Fr F2 wp F' w' ∧ Below tb wp w' := by
                refine (take_any hcs hW (by have := hRf.tb.few; omega) xs (xn : Int)).mono ?_
                intro e w' ht
                rw [hlk] at ht
                unfold TkTo at ht
                simp only [Int.toNat_natCast] at ht
                by_cases hr : cc.refs = 1
                · rw [if_pos hr] at ht
                  obtain ⟨he, F', h1, h2, h3⟩ := ht
                  exact ⟨F', _, he, h1, hr1 hr, h2, h3⟩
                · rw [if_neg hr] at ht
                  obtain ⟨F', h1, h2, h3⟩ := ht
                  rw [if_pos (by unfold roomT; rw [hiT]; rfl)] at h1
                  exact ⟨F', _, h1.1, h1.2, hr2 hr, h2, h3⟩
              have HP : Hid (Ids tb F2 wp (some ⟨g, 0, none⟩) n lc2 ids2 ∧ Below w.heap.size w wp ∧ k < n ∧ j + n = N) := ⟨hId, hbw, hk, hjn⟩
              have kr : (k : Int) + 1 = ((k + 1 : Nat) : Int) := by omega
              obtain ⟨k1, hk1⟩ : ∃ k1, k + 1 = k1 := ⟨_, rfl⟩
              have kr1 : (k : Int) + 1 = (k1 : Int) := by omega
              have wk1 : IntKind.i64.wrap (k1 : Int) = (k1 : Int) := wrapI64 _ (by omega) (by omega)
              have wk2 : IntKind.i64.wrap ((k : Int) + 1) = (k1 : Int) := by rw [kr1]; exact wk1
              have hpr := fun V => pre_ids (some ⟨g, 0, none⟩) n lc2 k (by omega) V
              rw [hcut] at hpr
              have hof := fun V => off_ids (some ⟨g, 0, none⟩) n lc2 k1 (by omega) V
              clear hcs hRf hId hbw hIw hc hx hlk hix hiT hr1 hr2 hpre hsuf kr
              by_cases hj2 : j < len2
              · have kj : (j : Int) < (len2 : Int) := by omega
                obtain ⟨ob2, oo2, ha2, _, hoc⟩ := ints_at HO.out (by omega)
                subst ha2
                obtain ⟨o0, o1, o2⟩ := hoc wp HP.out.2.1 j hj2
                obtain ⟨oz, hoz⟩ : ∃ oz, zs2.getD j 0 = oz := ⟨_, rfl⟩
                rw [hoz] at o0 o1 o2 hkk
                by_cases hp2 : 0 ≤ oz
                · rw [if_pos ⟨hj2, hp2⟩] at hkk
                  have hmod : oz.tmod (n : Int) = (k : Int) := by
                    rw [Int.tmod_eq_emod_of_nonneg hp2, hkk]
                    have h2 := Int.emod_nonneg oz (b := (n : Int)) (by omega)
                    omega
                  have hnz : ((n : Int) == 0) = false := by simp; omega
                  have hnz1 : ¬ (n : Int) = 0 := by omega
                  have hmm1 : ¬ (n : Int) = -1 := by omega
                  clear hoz hkk hoc
                  go_wp2_with fail
                  refine HTK.mono ?_
                  rintro e V6 ⟨F6, T6, rfl, hc6, hr6, hf6, hb6⟩
                  have hid6 := HP.out.1.fr hf6
                  obtain ⟨g', hge, _, hpre, hsuf, _⟩ := hid6.cut k hk
                  cases hge
                  have hbw6 : Below w.heap.size w V6 := HP.out.2.1.trans (by rw [HCS.out.2.2.2]; exact hb6)
                  have hid6d := hpre
                  rw [hk1] at hsuf hr6
                  have hpreD : Ids tb (mor F6 V6 V6.drew) V6.drew (some ⟨g, 0, none⟩) k lc2 (ids2.take k) := hpre.fr (Fr.below (Below.refl _ V6).drew)
                  obtain ⟨aA, cA, VA, hrA, hiA, hcA, hgA⟩ := hpreD.adds (hc6.below (Below.refl _ V6).drew) (by show tb ≤ V6.heap.size; rw [← HCS.out.2.2.2]; exact hbw6.size) (by omega) (hsuf.below (Below.refl _ V6).drew)
                  have HE : Hid (Cs tb (mor (mor F6 V6 V6.drew) V6.drew VA) VA st tb W (-1) T6 ∧ Ids tb (mor (mor F6 V6 V6.drew) V6.drew VA) VA aA (k + (n - k1)) cA (ids2.take k ++ ids2.drop k1) ∧ Below w.heap.size w VA ∧ Rf W 200 T6 (ids2.take k ++ ids2.drop k1)) := by
                    refine ⟨hcA, hiA, hbw6.drew.grown hgA hbw6.drew.size (fun z hz => ?_), hr6⟩
                    have := (hpreD.1.lt z (by rw [ob_slice]; exact hz)).1
                    rw [HCS.out.2.2.2]
                    exact this
                  clear HTK hc6 hr6 hf6 hb6 hid6 hpre hsuf hbw6 hid6d hpreD hiA hcA hgA g0 g1
                  go_wp2
                  refine wp_region_held_drew (S := fun _ => True) (by kernel_rfl) (trivial) (fun hHeld => ?_)
                  refine wpAnyH_take (i := 0) (v := ?vzb_0) rfl (by kernel_rfl) (by kernel_rfl) (by kernel_rfl) (fun _ _ _ h => h) (Or.inl ⟨by first | kernel_rfl | rfl, ?yzb_0⟩) hHeld ?rzb_0
                  case yzb_0 => (intro W hSW; (try dsimp only at hSW); go_simp; (try with_reducible rfl))
                  change wpAnyH _ _ _ _ _ _ _ (Act.put _ (some 103) _) _
                  simp only [Act.put, List.setIfInBounds_toArray, List.set_cons_zero, List.set_cons_succ]
                  refine wpAnyH_take (i := 1) (v := ?vzb_1) rfl (by kernel_rfl) (by kernel_rfl) (by kernel_rfl) (fun _ _ _ h => h) (Or.inl ⟨by first | kernel_rfl | rfl, ?yzb_1⟩) hHeld ?rzb_1
                  case yzb_1 => (intro W hSW; (try dsimp only at hSW); go_simp; (try with_reducible rfl))
                  change wpAnyH _ _ _ _ _ _ _ (Act.put _ (some 104) _) _
                  simp only [Act.put, List.setIfInBounds_toArray, List.set_cons_zero, List.set_cons_succ]
                  refine wpAnyH_take (i := 2) (v := ?vzb_2) rfl (by kernel_rfl) (by kernel_rfl) (by kernel_rfl) (fun _ _ _ h => h) (Or.inl ⟨by first | kernel_rfl | rfl, ?yzb_2⟩) hHeld ?rzb_2
                  case yzb_2 => (intro W hSW; (try dsimp only at hSW); go_simp; (try with_reducible rfl))
                  change wpAnyH _ _ _ _ _ _ _ (Act.put _ (some 105) _) _
                  simp only [Act.put, List.setIfInBounds_toArray, List.set_cons_zero, List.set_cons_succ]
                  refine wpAnyH_take (i := 3) (v := ?vzb_3) rfl (by kernel_rfl) (by kernel_rfl) (by kernel_rfl) (fun _ _ _ h => h) (Or.inl ⟨by first | kernel_rfl | rfl, ?yzb_3⟩) hHeld ?rzb_3
                  case yzb_3 => (intro W hSW; (try dsimp only at hSW); go_simp; (try with_reducible rfl))
                  change wpAnyH _ _ _ _ _ _ _ (Act.put _ (some 106) _) _
                  simp only [Act.put, List.setIfInBounds_toArray, List.set_cons_zero, List.set_cons_succ]
                  refine wpAnyH_take (i := 4) (v := ?vzb_4) rfl (by kernel_rfl) (by kernel_rfl) (by kernel_rfl) (fun _ _ _ h => h) (Or.inl ⟨by first | kernel_rfl | rfl, ?yzb_4⟩) hHeld ?rzb_4
                  case yzb_4 => (intro W hSW; (try dsimp only at hSW); go_simp; (try with_reducible rfl))
                  change wpAnyH _ _ _ _ _ _ _ (Act.put _ (some 107) _) _
                  simp only [Act.put, List.setIfInBounds_toArray, List.set_cons_zero, List.set_cons_succ]
                  refine wpAnyH_take (i := 5) (v := ?vzb_5) rfl (by kernel_rfl) (by kernel_rfl) (by kernel_rfl) (fun _ _ _ h => h) (Or.inl ⟨by first | kernel_rfl | rfl, ?yzb_5⟩) hHeld ?rzb_5
                  case yzb_5 => (intro W hSW; (try dsimp only at hSW); go_simp; (try with_reducible rfl))
                  change wpAnyH _ _ _ _ _ _ _ (Act.put _ (some 108) _) _
                  simp only [Act.put, List.setIfInBounds_toArray, List.set_cons_zero, List.set_cons_succ]
                  refine wpAnyH_take (i := 6) (v := ?vzb_6) rfl (by kernel_rfl) (by kernel_rfl) (by kernel_rfl) (fun _ _ _ h => h) (Or.inl ⟨by first | kernel_rfl | rfl, ?yzb_6⟩) hHeld ?rzb_6
                  case yzb_6 => (intro W hSW; (try dsimp only at hSW); go_simp; (try with_reducible rfl))
                  change wpAnyH _ _ _ _ _ _ _ (Act.put _ (some 109) _) _
                  simp only [Act.put, List.setIfInBounds_toArray, List.set_cons_zero, List.set_cons_succ]
                  refine wpAnyH_ready (rs := [7]) (by kernel_rfl) (by simp) ?_
                  refine AllReadyH.cons rfl (fun K hK => ?_) AllReadyH.nil
                  rw [if_pos (by rfl)]
                  refine wp_app V6.drew _ _ _ _ rfl rfl rfl (hrA _) ?_
                  skip
                  refine hK.out _ _ (trivial) (fun hHeld => ?_)
                  clear hK K
                  change wpAnyH _ _ _ _ _ _ _ (Act.put _ (some 110) _) _
                  simp only [Act.put, List.setIfInBounds_toArray, List.set_cons_zero, List.set_cons_succ]
                  refine wpAnyH_take (i := 8) (v := ?vzb_8) rfl (by kernel_rfl) (by kernel_rfl) (by kernel_rfl) (fun _ _ _ h => h) (Or.inl ⟨by first | kernel_rfl | rfl, ?yzb_8⟩) hHeld ?rzb_8
                  case yzb_8 => (intro W hSW; (try dsimp only at hSW); go_simp; (try with_reducible rfl))
                  change wpAnyH _ _ _ _ _ _ _ (Act.put _ (some 10) _) _
                  simp only [Act.put, List.setIfInBounds_toArray, List.set_cons_zero, List.set_cons_succ]
                  refine wpAnyH_done (by kernel_rfl) ?_ _
                  go_wp2
                  refine ⟨⟨j + 1, k + (n - k1), cA, aA, _, T6, _, by have := HP.out.2.2.2; omega, by go_num, by first | rfl | simp, HE.out.1, HE.out.2.2.2, HE.out.2.1, HE.out.2.2.1⟩, by simp [lenOf] <;> omega⟩
                · rw [if_neg (fun h => hp2 h.2)] at hkk
                  subst hkk
                  obtain rfl : k1 = 1 := by omega
                  have hpr : ∀ V, (Instr.sliceAt 33 (.slice (some ⟨g, 0, none⟩) n lc2) none (some (.int .i64 0)) none).run Tryd.prog V = .ok (.slice (some ⟨g, 0, none⟩) 0 lc2) V := hpr
                  have hof : ∀ V, (Instr.sliceAt 33 (.slice (some ⟨g, 0, none⟩) n lc2) (some (.int .i64 1)) none none).run Tryd.prog V = .ok (.slice (cutA (some ⟨g, 0, none⟩) lc2 1 2) (n - 1) (lc2 - 1)) V := hof
                  simp only [Nat.zero_mul, Nat.zero_add] at g0 g1
                  clear hk1 kr1 wk1 wk2
                  have wk1 : IntKind.i64.wrap (1 : Int) = 1 := wrapI64 _ (by omega) (by omega)
                  have wk2 : IntKind.i64.wrap ((0 : Int) + 1) = 1 := wk1
                  clear hoz hoc
                  go_wp2_with fail
                  refine HTK.mono ?_
                  rintro e V6 ⟨F6, T6, rfl, hc6, hr6, hf6, hb6⟩
                  have hid6 := HP.out.1.fr hf6
                  obtain ⟨g', hge, _, hpre, hsuf, _⟩ := hid6.cut 0 hk
                  cases hge
                  have hbw6 : Below w.heap.size w V6 := HP.out.2.1.trans (by rw [HCS.out.2.2.2]; exact hb6)
                  have hid6d := hpre
                  simp only [Nat.zero_add] at hsuf hr6
                  have hpreD : Ids tb (mor F6 V6 V6.drew) V6.drew (some ⟨g, 0, none⟩) 0 lc2 (ids2.take 0) := hpre.fr (Fr.below (Below.refl _ V6).drew)
                  obtain ⟨aA, cA, VA, hrA, hiA, hcA, hgA⟩ := hpreD.adds (hc6.below (Below.refl _ V6).drew) (by show tb ≤ V6.heap.size; rw [← HCS.out.2.2.2]; exact hbw6.size) (by omega) (hsuf.below (Below.refl _ V6).drew)
                  have HE : Hid (Cs tb (mor (mor F6 V6 V6.drew) V6.drew VA) VA st tb W (-1) T6 ∧ Ids tb (mor (mor F6 V6 V6.drew) V6.drew VA) VA aA (0 + (n - 1)) cA (ids2.take 0 ++ ids2.drop 1) ∧ Below w.heap.size w VA ∧ Rf W 200 T6 (ids2.take 0 ++ ids2.drop 1)) := by
                    refine ⟨hcA, hiA, hbw6.drew.grown hgA hbw6.drew.size (fun z hz => ?_), hr6⟩
                    have := (hpreD.1.lt z (by rw [ob_slice]; exact hz)).1
                    rw [HCS.out.2.2.2]
                    exact this
                  clear HTK hc6 hr6 hf6 hb6 hid6 hpre hsuf hbw6 hid6d hpreD hiA hcA hgA g0 g1
                  go_wp2
                  refine wp_region_held_drew (S := fun _ => True) (by kernel_rfl) (trivial) (fun hHeld => ?_)
                  refine wpAnyH_take (i := 0) (v := ?vzc_0) rfl (by kernel_rfl) (by kernel_rfl) (by kernel_rfl) (fun _ _ _ h => h) (Or.inl ⟨by first | kernel_rfl | rfl, ?yzc_0⟩) hHeld ?rzc_0
                  case yzc_0 => (intro W hSW; (try dsimp only at hSW); go_simp; (try with_reducible rfl))
                  change wpAnyH _ _ _ _ _ _ _ (Act.put _ (some 103) _) _
                  simp only [Act.put, List.setIfInBounds_toArray, List.set_cons_zero, List.set_cons_succ]
                  refine wpAnyH_take (i := 1) (v := ?vzc_1) rfl (by kernel_rfl) (by kernel_rfl) (by kernel_rfl) (fun _ _ _ h => h) (Or.inl ⟨by first | kernel_rfl | rfl, ?yzc_1⟩) hHeld ?rzc_1
                  case yzc_1 => (intro W hSW; (try dsimp only at hSW); go_simp; (try with_reducible rfl))
                  change wpAnyH _ _ _ _ _ _ _ (Act.put _ (some 104) _) _
                  simp only [Act.put, List.setIfInBounds_toArray, List.set_cons_zero, List.set_cons_succ]
                  refine wpAnyH_take (i := 2) (v := ?vzc_2) rfl (by kernel_rfl) (by kernel_rfl) (by kernel_rfl) (fun _ _ _ h => h) (Or.inl ⟨by first | kernel_rfl | rfl, ?yzc_2⟩) hHeld ?rzc_2
                  case yzc_2 => (intro W hSW; (try dsimp only at hSW); go_simp; (try with_reducible rfl))
                  change wpAnyH _ _ _ _ _ _ _ (Act.put _ (some 105) _) _
                  simp only [Act.put, List.setIfInBounds_toArray, List.set_cons_zero, List.set_cons_succ]
                  refine wpAnyH_take (i := 3) (v := ?vzc_3) rfl (by kernel_rfl) (by kernel_rfl) (by kernel_rfl) (fun _ _ _ h => h) (Or.inl ⟨by first | kernel_rfl | rfl, ?yzc_3⟩) hHeld ?rzc_3
                  case yzc_3 => (intro W hSW; (try dsimp only at hSW); go_simp; (try with_reducible rfl))
                  change wpAnyH _ _ _ _ _ _ _ (Act.put _ (some 106) _) _
                  simp only [Act.put, List.setIfInBounds_toArray, List.set_cons_zero, List.set_cons_succ]
                  refine wpAnyH_take (i := 4) (v := ?vzc_4) rfl (by kernel_rfl) (by kernel_rfl) (by kernel_rfl) (fun _ _ _ h => h) (Or.inl ⟨by first | kernel_rfl | rfl, ?yzc_4⟩) hHeld ?rzc_4
                  case yzc_4 => (intro W hSW; (try dsimp only at hSW); go_simp; (try with_reducible rfl))
                  change wpAnyH _ _ _ _ _ _ _ (Act.put _ (some 107) _) _
                  simp only [Act.put, List.setIfInBounds_toArray, List.set_cons_zero, List.set_cons_succ]
                  refine wpAnyH_take (i := 5) (v := ?vzc_5) rfl (by kernel_rfl) (by kernel_rfl) (by kernel_rfl) (fun _ _ _ h => h) (Or.inl ⟨by first | kernel_rfl | rfl, ?yzc_5⟩) hHeld ?rzc_5
                  case yzc_5 => (intro W hSW; (try dsimp only at hSW); go_simp; (try with_reducible rfl))
                  change wpAnyH _ _ _ _ _ _ _ (Act.put _ (some 108) _) _
                  simp only [Act.put, List.setIfInBounds_toArray, List.set_cons_zero, List.set_cons_succ]
                  refine wpAnyH_take (i := 6) (v := ?vzc_6) rfl (by kernel_rfl) (by kernel_rfl) (by kernel_rfl) (fun _ _ _ h => h) (Or.inl ⟨by first | kernel_rfl | rfl, ?yzc_6⟩) hHeld ?rzc_6
                  case yzc_6 => (intro W hSW; (try dsimp only at hSW); go_simp; (try with_reducible rfl))
                  change wpAnyH _ _ _ _ _ _ _ (Act.put _ (some 109) _) _
                  simp only [Act.put, List.setIfInBounds_toArray, List.set_cons_zero, List.set_cons_succ]
                  refine wpAnyH_ready (rs := [7]) (by kernel_rfl) (by simp) ?_
                  refine AllReadyH.cons rfl (fun K hK => ?_) AllReadyH.nil
                  rw [if_pos (by rfl)]
                  refine wp_app V6.drew _ _ _ _ rfl rfl rfl (hrA _) ?_
                  skip
                  refine hK.out _ _ (trivial) (fun hHeld => ?_)
                  clear hK K
                  change wpAnyH _ _ _ _ _ _ _ (Act.put _ (some 110) _) _
                  simp only [Act.put, List.setIfInBounds_toArray, List.set_cons_zero, List.set_cons_succ]
                  refine wpAnyH_take (i := 8) (v := ?vzc_8) rfl (by kernel_rfl) (by kernel_rfl) (by kernel_rfl) (fun _ _ _ h => h) (Or.inl ⟨by first | kernel_rfl | rfl, ?yzc_8⟩) hHeld ?rzc_8
                  case yzc_8 => (intro W hSW; (try dsimp only at hSW); go_simp; (try with_reducible rfl))
                  change wpAnyH _ _ _ _ _ _ _ (Act.put _ (some 10) _) _
                  simp only [Act.put, List.setIfInBounds_toArray, List.set_cons_zero, List.set_cons_succ]
                  refine wpAnyH_done (by kernel_rfl) ?_ _
                  go_wp2
                  refine ⟨⟨j + 1, 0 + (n - 1), cA, aA, _, T6, _, by have := HP.out.2.2.2; omega, by go_num, by first | rfl | simp, HE.out.1, HE.out.2.2.2, HE.out.2.1, HE.out.2.2.1⟩, by simp [lenOf] <;> omega⟩
              · have kj : ¬ (j : Int) < (len2 : Int) := by omega
                rw [if_neg (fun h => hj2 h.1)] at hkk
                subst hkk
                obtain rfl : k1 = 1 := by omega
                have hpr : ∀ V, (Instr.sliceAt 33 (.slice (some ⟨g, 0, none⟩) n lc2) none (some (.int .i64 0)) none).run Tryd.prog V = .ok (.slice (some ⟨g, 0, none⟩) 0 lc2) V := hpr
                have hof : ∀ V, (Instr.sliceAt 33 (.slice (some ⟨g, 0, none⟩) n lc2) (some (.int .i64 1)) none none).run Tryd.prog V = .ok (.slice (cutA (some ⟨g, 0, none⟩) lc2 1 2) (n - 1) (lc2 - 1)) V := hof
                simp only [Nat.zero_mul, Nat.zero_add] at g0 g1
                clear hk1 kr1 wk1 wk2
                have wk1 : IntKind.i64.wrap (1 : Int) = 1 := wrapI64 _ (by omega) (by omega)
                have wk2 : IntKind.i64.wrap ((0 : Int) + 1) = 1 := wk1
                go_wp2_with fail
                refine HTK.mono ?_
                rintro e V6 ⟨F6, T6, rfl, hc6, hr6, hf6, hb6⟩
                have hid6 := HP.out.1.fr hf6
                obtain ⟨g', hge, _, hpre, hsuf, _⟩ := hid6.cut 0 hk
                cases hge
                have hbw6 : Below w.heap.size w V6 := HP.out.2.1.trans (by rw [HCS.out.2.2.2]; exact hb6)
                have hid6d := hpre
                simp only [Nat.zero_add] at hsuf hr6
                have hpreD : Ids tb (mor F6 V6 V6.drew) V6.drew (some ⟨g, 0, none⟩) 0 lc2 (ids2.take 0) := hpre.fr (Fr.below (Below.refl _ V6).drew)
                obtain ⟨aA, cA, VA, hrA, hiA, hcA, hgA⟩ := hpreD.adds (hc6.below (Below.refl _ V6).drew) (by show tb ≤ V6.heap.size; rw [← HCS.out.2.2.2]; exact hbw6.size) (by omega) (hsuf.below (Below.refl _ V6).drew)
                have HE : Hid (Cs tb (mor (mor F6 V6 V6.drew) V6.drew VA) VA st tb W (-1) T6 ∧ Ids tb (mor (mor F6 V6 V6.drew) V6.drew VA) VA aA (0 + (n - 1)) cA (ids2.take 0 ++ ids2.drop 1) ∧ Below w.heap.size w VA ∧ Rf W 200 T6 (ids2.take 0 ++ ids2.drop 1)) := by
                  refine ⟨hcA, hiA, hbw6.drew.grown hgA hbw6.drew.size (fun z hz => ?_), hr6⟩
                  have := (hpreD.1.lt z (by rw [ob_slice]; exact hz)).1
                  rw [HCS.out.2.2.2]
                  exact this
                clear HTK hc6 hr6 hf6 hb6 hid6 hpre hsuf hbw6 hid6d hpreD hiA hcA hgA g0 g1
                go_wp2
                refine wp_region_held_drew (S := fun _ => True) (by kernel_rfl) (trivial) (fun hHeld => ?_)
                refine wpAnyH_take (i := 0) (v := ?vzd_0) rfl (by kernel_rfl) (by kernel_rfl) (by kernel_rfl) (fun _ _ _ h => h) (Or.inl ⟨by first | kernel_rfl | rfl, ?yzd_0⟩) hHeld ?rzd_0
                case yzd_0 => (intro W hSW; (try dsimp only at hSW); go_simp; (try with_reducible rfl))
                change wpAnyH _ _ _ _ _ _ _ (Act.put _ (some 103) _) _
                simp only [Act.put, List.setIfInBounds_toArray, List.set_cons_zero, List.set_cons_succ]
                refine wpAnyH_take (i := 1) (v := ?vzd_1) rfl (by kernel_rfl) (by kernel_rfl) (by kernel_rfl) (fun _ _ _ h => h) (Or.inl ⟨by first | kernel_rfl | rfl, ?yzd_1⟩) hHeld ?rzd_1
                case yzd_1 => (intro W hSW; (try dsimp only at hSW); go_simp; (try with_reducible rfl))
                change wpAnyH _ _ _ _ _ _ _ (Act.put _ (some 104) _) _
                simp only [Act.put, List.setIfInBounds_toArray, List.set_cons_zero, List.set_cons_succ]
                refine wpAnyH_take (i := 2) (v := ?vzd_2) rfl (by kernel_rfl) (by kernel_rfl) (by kernel_rfl) (fun _ _ _ h => h) (Or.inl ⟨by first | kernel_rfl | rfl, ?yzd_2⟩) hHeld ?rzd_2
                case yzd_2 => (intro W hSW; (try dsimp only at hSW); go_simp; (try with_reducible rfl))
                change wpAnyH _ _ _ _ _ _ _ (Act.put _ (some 105) _) _
                simp only [Act.put, List.setIfInBounds_toArray, List.set_cons_zero, List.set_cons_succ]
                refine wpAnyH_take (i := 3) (v := ?vzd_3) rfl (by kernel_rfl) (by kernel_rfl) (by kernel_rfl) (fun _ _ _ h => h) (Or.inl ⟨by first | kernel_rfl | rfl, ?yzd_3⟩) hHeld ?rzd_3
                case yzd_3 => (intro W hSW; (try dsimp only at hSW); go_simp; (try with_reducible rfl))
                change wpAnyH _ _ _ _ _ _ _ (Act.put _ (some 106) _) _
                simp only [Act.put, List.setIfInBounds_toArray, List.set_cons_zero, List.set_cons_succ]
                refine wpAnyH_take (i := 4) (v := ?vzd_4) rfl (by kernel_rfl) (by kernel_rfl) (by kernel_rfl) (fun _ _ _ h => h) (Or.inl ⟨by first | kernel_rfl | rfl, ?yzd_4⟩) hHeld ?rzd_4
                case yzd_4 => (intro W hSW; (try dsimp only at hSW); go_simp; (try with_reducible rfl))
                change wpAnyH _ _ _ _ _ _ _ (Act.put _ (some 107) _) _
                simp only [Act.put, List.setIfInBounds_toArray, List.set_cons_zero, List.set_cons_succ]
                refine wpAnyH_take (i := 5) (v := ?vzd_5) rfl (by kernel_rfl) (by kernel_rfl) (by kernel_rfl) (fun _ _ _ h => h) (Or.inl ⟨by first | kernel_rfl | rfl, ?yzd_5⟩) hHeld ?rzd_5
                case yzd_5 => (intro W hSW; (try dsimp only at hSW); go_simp; (try with_reducible rfl))
                change wpAnyH _ _ _ _ _ _ _ (Act.put _ (some 108) _) _
                simp only [Act.put, List.setIfInBounds_toArray, List.set_cons_zero, List.set_cons_succ]
                refine wpAnyH_take (i := 6) (v := ?vzd_6) rfl (by kernel_rfl) (by kernel_rfl) (by kernel_rfl) (fun _ _ _ h => h) (Or.inl ⟨by first | kernel_rfl | rfl, ?yzd_6⟩) hHeld ?rzd_6
                case yzd_6 => (intro W hSW; (try dsimp only at hSW); go_simp; (try with_reducible rfl))
                change wpAnyH _ _ _ _ _ _ _ (Act.put _ (some 109) _) _
                simp only [Act.put, List.setIfInBounds_toArray, List.set_cons_zero, List.set_cons_succ]
                refine wpAnyH_ready (rs := [7]) (by kernel_rfl) (by simp) ?_
                refine AllReadyH.cons rfl (fun K hK => ?_) AllReadyH.nil
                rw [if_pos (by rfl)]
                refine wp_app V6.drew _ _ _ _ rfl rfl rfl (hrA _) ?_
                skip
                refine hK.out _ _ (trivial) (fun hHeld => ?_)
                clear hK K
                change wpAnyH _ _ _ _ _ _ _ (Act.put _ (some 110) _) _
                simp only [Act.put, List.setIfInBounds_toArray, List.set_cons_zero, List.set_cons_succ]
                refine wpAnyH_take (i := 8) (v := ?vzd_8) rfl (by kernel_rfl) (by kernel_rfl) (by kernel_rfl) (fun _ _ _ h => h) (Or.inl ⟨by first | kernel_rfl | rfl, ?yzd_8⟩) hHeld ?rzd_8
                case yzd_8 => (intro W hSW; (try dsimp only at hSW); go_simp; (try with_reducible rfl))
                change wpAnyH _ _ _ _ _ _ _ (Act.put _ (some 10) _) _
                simp only [Act.put, List.setIfInBounds_toArray, List.set_cons_zero, List.set_cons_succ]
                refine wpAnyH_done (by kernel_rfl) ?_ _
                go_wp2
                refine ⟨⟨j + 1, 0 + (n - 1), cA, aA, _, T6, _, by have := HP.out.2.2.2; omega, by go_num, by first | rfl | simp, HE.out.1, HE.out.2.2.2, HE.out.2.1, HE.out.2.2.1⟩, by simp [lenOf] <;> omega⟩
            · obtain rfl : n = 0 := by omega
              have kn : ¬ (0 : Int) < ((0 : Nat) : Int) := by omega
              have hidn : ids2 = [] := List.eq_nil_of_length_eq_zero (by omega)
              subst hidn
              have hT0 := hRf.end
              subst hT0
              have HCO := count_any hcs hW
              rw [all_nil] at HCO
              have HX : Hid (Cs tb F2 wp st tb W (-1) [] ∧ Below w.heap.size w wp) := ⟨hcs, hbw⟩
              clear hcs hRf hId hbw
              go_wp2_with fail
              refine HCO.mono ?_
              rintro e V5 ⟨rfl, hb5⟩
              have hc5 := HX.out.1.below hb5
              obtain ⟨ta, tc, _, t0⟩ := hc5.row
              have HB : Hid (Below w.heap.size w V5) := HX.out.2.trans (hb5.mono HX.out.2.size)
              clear HCO hb5 hc5
              go_wp2_with fail
              refine (HLV.out _ HB.out).mono ?_
              rintro e V ⟨rfl, hb⟩
              go_wp2
              go_ret
              exact ⟨rfl, hb⟩

set_option linter.unusedVariables false in
set_option maxRecDepth 100000 in
theorem lifted (os : Os) (started : os.Started) (H : Type) (enc : TypeId × Value → H) :
    ReturnsInHanded {} Tryd.checked os 5 .any (fun w args => (Rows.casEndsSpec.pre enc Tryd.prog Tryd.f5 [] false w args ∧ laidMetH Tryd.prog laid2 w) ∧ sizedMet enc Tryd.prog Tryd.f5 (OpenSpec.ofChange Rows.casEndsSpec) false w args) (Rows.casEndsSpec.post enc Tryd.prog Tryd.f5 false true false false) := by
  refine returnsInHanded_of_change_and (C := Tryd.checked) (X := fun w _ => laidMetH Tryd.prog laid2 w) (fun _ _ _ hh h => h.of_heap hh) own started (by kernel_rfl) Tryd.func5
    (ChangeSpec.witness_shaped (enc := enc) (C := Tryd.checked) (os := os) (X := fun w _ => laidMetH Tryd.prog laid2 w) false (World.doorLaid Tryd.prog 19 os) #[.int .i64 0, .slice none 0 0, .slice none 0 0] 8 rfl (World.shaped_of_RefB (by kernel_rfl) (by kernel_rfl)) (by kernel_rfl) (by kernel_rfl) (by kernel_rfl) (door_met os _)) ?_
  intro W base args ds gs before hval0 hW _ hsz0 hL _
  have hval : ∀ (j : Nat) t v, Tryd.f5.params[j]? = some t → args[j]? = some v → Value.okWide Tryd.prog W .any base t v := hval0
  have hsz : (DataW.weightsEach Tryd.prog (Tryd.f5.params.toList ++ Rows.casEndsSpec.plain.varTypes Tryd.prog) (ds ++ gs)).all (· ≤ reachBytes) = true := hsz0
  have hW' := hW
  obtain ⟨p, q, hA0, hV, rfl, hfz, hnd⟩ := hW
  have hA : DataW.TrodAll enc Tryd.prog W 0 (fun _ => true) true Tryd.f5.params.toList args.toList ds p := hA0
  rw [Tryd.params5] at hA hval hsz
  obtain ⟨v0, vs0, d0, ds0, p0, q0, hargs, rfl, rfl, h0, r0⟩ := trodAll_cons hA
  obtain ⟨v1, vs1, d1, ds1, p1, q1, rfl, rfl, rfl, h1, r1⟩ := trodAll_cons r0
  obtain ⟨v2, vs2, d2, ds2, p2, q2, rfl, rfl, rfl, h2, r2⟩ := trodAll_cons r1
  obtain ⟨rfl, rfl, rfl⟩ := trodAll_nil r2
  obtain rfl : args = #[v0, v1, v2] := by cases args; simp_all
  obtain ⟨rfl, rfl⟩ := trodVars_none hV
  obtain ⟨x0, rfl, rfl, rfl, w0⟩ := open_int Tryd.underlying3 (hval 0 3 v0 rfl rfl) h0
  have k1 := h1
  have lt1 : ∀ x ∈ p1, x.block < W.heap.size := by obtain ⟨m, hm⟩ := k1; exact DataW.trod_lt m _ _ _ hm
  obtain ⟨a1, len1, cap1, rfl⟩ := okWide_slice Tryd.underlying51 (hval 1 51 v1 rfl rfl)
  obtain ⟨ss1, w1, z1⟩ : ∃ ss, Ss W a1 len1 cap1 ss ∧ ∀ i (h : i < ss.length), (ss[i]).size ≤ 140737488351232 := by
    obtain ⟨fuel, hf⟩ := h1
    exact strs_of (j := 1) (by simpa [Value.cells] using hf) hsz rfl rfl
  have k2 := h2
  have lt2 : ∀ x ∈ p2, x.block < W.heap.size := by obtain ⟨m, hm⟩ := k2; exact DataW.trod_lt m _ _ _ hm
  obtain ⟨a2, len2, cap2, rfl⟩ := okWide_slice Tryd.underlying58 (hval 2 58 v2 rfl rfl)
  obtain ⟨zs2, w2⟩ : ∃ zs, IsRow .i64 W a2 len2 cap2 zs := by
    obtain ⟨fuel, hf⟩ := h2
    rcases open_ints Tryd.underlying58 Tryd.underlying3 (by kernel_rfl) hf with ⟨hcs, _⟩ | ⟨x, l, c, zs, hcs, _, hl, hm, hz, _, hcell, hwz⟩
    · simp [Value.cells] at hcs
      obtain ⟨rfl, rfl, rfl⟩ := hcs
      exact ⟨[], .inl ⟨rfl, rfl, rfl, rfl⟩⟩
    · simp [Value.cells] at hcs
      obtain ⟨rfl, rfl, rfl⟩ := hcs
      exact ⟨zs, .inr ⟨_, rfl, hl, hm, by simpa using hz, hcell, hwz⟩⟩
  clear hA0 hval0 hsz hsz0
  refine (walk x0 (wf_i64 w0) a1 len1 cap1 ss1 z1 a2 len2 cap2 zs2 W w1 w2 (of_laid hL)).mono fun e W' ⟨he, bel⟩ => ?_
  subst he
  exact ⟨_, rfl, _, _, _, [], _, [], hW', trodAll_mk1 (shut_bool Tryd.underlying4 _), (trodAll_cons_mk (shut_int Tryd.underlying3 w0) (trodAll_cons_mk (Below.trod laidOut (by kernel_rfl) (of_decide_eq_true (by kernel_rfl)) k1 bel lt1) (trodAll_cons_mk (Below.trod laidOut (by kernel_rfl) (of_decide_eq_true (by kernel_rfl)) k2 bel lt2) trodAll_mk0))), rfl, bel.frame _, fun h => by cases h⟩

theorem over : Rows.casEndsRow.holds Tryd.pinned (OpenSpec.ofChange Rows.casEndsSpec) :=
  OpenClaim.holds_of_wide 5 Tryd.f5 rfl rfl rfl rfl rfl rfl rfl ⟨rfl, rfl, rfl, rfl, rfl⟩ rfl rfl rfl rfl rfl (by kernel_rfl) Tryd.func5 (by kernel_rfl)
    (of_decide_eq_true (by kernel_rfl)) (by unfold Func.isWrapper; first | (rw [if_pos (by decide +kernel)]; kernel_rfl) | (rw [if_neg (by decide +kernel)]; exact ⟨rfl, rfl⟩))
    (fun os started H enc _ => lifted os started H enc)

end Go.Proofs.YtjpkngbjjgimjaaDoor.casEnds
namespace Go.Proofs.YtjpkngbjjgimjaaDoor
/-- The given statement. -/
theorem casEnds_holds : Rows.CasEndsCardSaid :=
  Claim7.holds_tied_plain_at .later [] [.data, .data] true (true, "714266a7f20758317d11b46492cd9cd49cf98b3981d461172de498aac6b57d6c") false
    casEnds.over (fun _ h => by cases h) (by kernel_rfl) (fun _ h => by cases h) casEnds_row_tie rfl ⟨rfl, rfl⟩ (by kernel_rfl) rfl
    (fun f fn hf hfn => by
      obtain rfl : f = 5 := Option.some.inj ((show Tryd.prog.funcNamed "strongroom/strongroomlaw09.CasEnds" = some 5 by kernel_rfl).symm.trans hf) |>.symm
      obtain rfl : fn = Tryd.f5 := (Option.some.inj (Tryd.func5.symm.trans hfn)).symm
      exact ⟨by kernel_rfl, fun j t ht => by
        rw [Tryd.params5] at ht
        rcases j with _ | _ | _ | j
        · obtain rfl : t = 3 := by simpa using ht.symm
          exact (show Tryd.prog.wantsStandIn 3 = false by kernel_rfl)
        · obtain rfl : t = 51 := by simpa using ht.symm
          exact (show Tryd.prog.wantsStandIn 51 = false by kernel_rfl)
        · obtain rfl : t = 58 := by simpa using ht.symm
          exact (show Tryd.prog.wantsStandIn 58 = false by kernel_rfl)
        · simp at ht
      ⟩)
    (by kernel_rfl)
#print axioms casEnds_holds
end Go.Proofs.YtjpkngbjjgimjaaDoor
