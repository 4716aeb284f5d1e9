/- The document's side: its Moved. -/
import Derived.Test.YtdcjnoknnfcogaaRA
import Derived.Test.YtdcjnoknnfcogaaRB
import Derived.Test.YtdcjnoknnfcogaaG
namespace Go.Proofs.Ytdcjnoknnfcogaa
open Go.RowKit
theorem own_below {w w' : World} {B e size n : Nat} {v : Value} {xs : List Value} (h : w.ownsRow B e size v n xs) (hb : Below w.heap.size w w') : w'.ownsRow B e size v n xs :=
  h.kept (row := none) ⟨hb.os, hb.tape, hb.output, hb.size, fun k hk _ => hb.block k hk⟩ (by cases v.ownBlock with | none => exact .inl rfl | some k => exact .inr (by simp))
theorem Ss.news {w : World} {p : Addr} {len cap : Nat} {ts : List (List UInt8)} (h : Ss w (some p) len cap (ts.map strOf)) : ∀ j u, (strsV ts)[j]? = some u → w.cell? (p.add j) = some u := by
  intro j u hj
  obtain ⟨hlt, he⟩ := List.getElem?_eq_some_iff.1 hj
  have hl : j < ts.length := by simpa [strsV] using hlt
  rw [h.2.2.2.2 p rfl j (by simpa using hl), ← he]
  simp [strsV]
theorem strsV_one (ts : List (List UInt8)) : ∀ u ∈ strsV ts, u.oneCell' = true := by
  intro u hu
  obtain ⟨_, _, rfl⟩ := List.mem_map.1 hu
  rfl
theorem strsV_append (a b : List (List UInt8)) : strsV (a ++ b) = strsV a ++ strsV b := by simp [strsV]
theorem Ss.some {w : World} {a : Option Addr} {len cap : Nat} {ss : List ByteArray} (h : Ss w a len cap ss) (h0 : 0 < len) : ∃ p, a = .some p := by
  obtain ⟨b, off, rfl, _⟩ := h.at h0
  exact ⟨_, rfl⟩
set_option maxRecDepth 100000 in
set_option maxHeartbeats 2000000 in
theorem rmoved_any (p f t : ByteArray) (w : World) (hp : p.size ≤ 9223372036854775807) (hf : f.size ≤ 9223372036854775807) (ht : t.size ≤ 9223372036854775807) :
    Calls Try.prog 29 #[.string p, .string f, .string t] w fun e w' => e = .returned (.tuple #[.string (strOf (movedL p.data.toList f.data.toList t.data.toList).1), .int .i64 ((movedL p.data.toList f.data.toList t.data.toList).2 : Int)]) ∧ Below w.heap.size w w' := by
  have HP := rgood_any p w hp
  have HGA : Hid (∀ (s : ByteArray) (hs : s.size ≤ 9223372036854775807) (W : World), Below w.heap.size w W → Calls Try.prog 14 #[.string s] W fun e w' => e = .returned (.bool (goodL s.data.toList)) ∧ Below w.heap.size w w') := by
    intro s hs W hW
    refine (rgood_any s W hs).mono ?_
    rintro e w' ⟨rfl, h⟩
    exact ⟨rfl, hW.trans (h.mono hW.size)⟩
  cases gp : goodL p.data.toList with
  | false =>
    rw [moved_no (show movesB p.data.toList f.data.toList t.data.toList = false by simp [movesB, gp])]
    rw [gp] at HP
    clear gp HGA
    go_enter Try.func29, Try.ntmps29
    go_wp2_with fail
    refine HP.mono ?_
    rintro e w3 ⟨rfl, hb3⟩
    go_wp2
    go_ret2
    exact ⟨rfl, hb3⟩
  | true =>
    rw [gp] at HP
    have HF : Hid _ := HGA.out f hf
    cases gf : goodL f.data.toList with
    | false =>
      rw [moved_no (show movesB p.data.toList f.data.toList t.data.toList = false by simp [movesB, gf])]
      rw [gf] at HF
      clear gp gf HGA
      go_enter Try.func29, Try.ntmps29
      go_wp2_with fail
      refine HP.mono ?_
      rintro e w3 ⟨rfl, hb3⟩
      have HF3 := HF.out w3 hb3
      go_wp2_with fail
      refine HF3.mono ?_
      rintro e w4 ⟨rfl, hb4⟩
      go_wp2
      go_ret2
      exact ⟨rfl, hb4⟩
    | true =>
      rw [gf] at HF
      have HT : Hid _ := HGA.out t ht
      cases gt : goodL t.data.toList with
      | false =>
        rw [moved_no (show movesB p.data.toList f.data.toList t.data.toList = false by simp [movesB, gt])]
        rw [gt] at HT
        clear gp gf gt HGA
        go_enter Try.func29, Try.ntmps29
        go_wp2_with fail
        refine HP.mono ?_
        rintro e w3 ⟨rfl, hb3⟩
        have HF3 := HF.out w3 hb3
        go_wp2_with fail
        refine HF3.mono ?_
        rintro e w4 ⟨rfl, hb4⟩
        have HT4 := HT.out w4 hb4
        go_wp2_with fail
        refine HT4.mono ?_
        rintro e w5 ⟨rfl, hb5⟩
        go_wp2
        go_ret2
        exact ⟨rfl, hb5⟩
      | true =>
        rw [gt] at HT
        have HC : Hid (∀ W, Below w.heap.size w W → Calls Try.prog 27 #[.string f, .string p] W fun e w' => e = .returned (.bool (coversL f.data.toList p.data.toList)) ∧ Below w.heap.size w w') := by
          intro W hW
          refine (rcovers_any f p W hf hp).mono ?_
          rintro e w' ⟨rfl, h⟩
          exact ⟨rfl, hW.trans (h.mono hW.size)⟩
        cases gc : coversL f.data.toList p.data.toList with
        | false =>
          rw [moved_no (show movesB p.data.toList f.data.toList t.data.toList = false by simp [movesB, gc])]
          rw [gc] at HC
          clear gp gf gt gc HGA
          go_enter Try.func29, Try.ntmps29
          go_wp2_with fail
          refine HP.mono ?_
          rintro e w3 ⟨rfl, hb3⟩
          have HF3 := HF.out w3 hb3
          go_wp2_with fail
          refine HF3.mono ?_
          rintro e w4 ⟨rfl, hb4⟩
          have HT4 := HT.out w4 hb4
          go_wp2_with fail
          refine HT4.mono ?_
          rintro e w5 ⟨rfl, hb5⟩
          have HC5 := HC.out w5 hb5
          go_wp2_with fail
          refine HC5.mono ?_
          rintro e w6 ⟨rfl, hb6⟩
          go_wp2
          go_ret2
          exact ⟨rfl, hb6⟩
        | true =>
          have hm : movesB p.data.toList f.data.toList t.data.toList = true := moves_iff.2 ⟨gp, gf, gt, gc⟩
          obtain ⟨hgl, hgd⟩ := moved_names hm
          have HQ : Hid (∀ (s : ByteArray) (hs : s.size ≤ 9223372036854775807) (W : World), Below w.heap.size w W → Calls Try.prog 19 #[.string s] W fun e w' => ∃ la lc, e = .returned (.slice la (partsL s.data.toList).length lc) ∧ Ss w' la (partsL s.data.toList).length lc ((partsL s.data.toList).map strOf) ∧ Below W.heap.size W w' ∧ Below w.heap.size w w') := by
            intro s hs W hW
            refine (rparts_any s W hs).mono ?_
            rintro e w' ⟨la, lc, rfl, hss, h⟩
            exact ⟨la, lc, rfl, hss, h, hW.trans (h.mono hW.size)⟩
          have HQT : Hid _ := HQ.out t ht
          have HQP : Hid _ := HQ.out p hp
          have HQF : Hid _ := HQ.out f hf
          have hbd : ∀ s : ByteArray, goodL s.data.toList = true → 0 < (partsL s.data.toList).length ∧ (partsL s.data.toList).length ≤ 33 ∧ ∀ x ∈ partsL s.data.toList, x.length ≤ 32 := by
            intro s hs
            rw [parts_good hs]
            have h1 := cut_count s.data.toList
            have h2 := good_size hs
            rw [len_size] at h1
            refine ⟨List.length_pos_iff.2 (cutL_ne _), by omega, fun x hx => ?_⟩
            have := cut_sizes _ _ hx
            rw [len_size] at this
            omega
          obtain ⟨t0, t1, t2⟩ := hbd t gt
          obtain ⟨p0, p1, p2⟩ := hbd p gp
          obtain ⟨f0, f1, f2⟩ := hbd f gf
          have hfp : (partsL f.data.toList).length ≤ (partsL p.data.toList).length := by
            have := covers_parts gf (place_good gp)
            rw [gc] at this
            exact (List.isPrefixOf_iff_prefix.1 this.symm).length_le
          have hmv : movedL p.data.toList f.data.toList t.data.toList = if (glueL (partsL t.data.toList ++ (partsL p.data.toList).drop (partsL f.data.toList).length)).length ≤ 32 then (glueL (partsL t.data.toList ++ (partsL p.data.toList).drop (partsL f.data.toList).length), 0) else ([], 2) := by
            rw [hgl, movedL, if_pos hm]
            by_cases hl : (t.data.toList ++ p.data.toList.drop f.data.toList.length).length ≤ 32
            · rw [if_pos (hgd.2 hl), if_pos hl]
            · rw [if_neg (fun h => hl (hgd.1 h)), if_neg hl]
          have hglen : (glueL (partsL t.data.toList ++ (partsL p.data.toList).drop (partsL f.data.toList).length)).length ≤ 300000 := by
            rw [hgl, List.length_append, List.length_drop]
            have := good_size gt
            have := good_size gp
            rw [len_size, len_size]
            omega
          rw [gc] at HC
          generalize partsL t.data.toList = A at *
          generalize partsL p.data.toList = B at *
          generalize partsL f.data.toList = C at *
          obtain ⟨na, hna⟩ : ∃ n, A.length = n := ⟨_, rfl⟩
          obtain ⟨nb, hnb⟩ : ∃ n, B.length = n := ⟨_, rfl⟩
          obtain ⟨nc, hnc⟩ : ∃ n, C.length = n := ⟨_, rfl⟩
          rw [hna] at HQT t0 t1
          rw [hnb] at HQP p0 p1 hfp
          rw [hnc] at HQF f0 f1 hfp hmv hglen
          have HNA : Hid (A.length = na) := hna
          have HNB : Hid (B.length = nb) := hnb
          have HSZ : Hid (∀ x ∈ A ++ B.drop nc, x.length ≤ 2000) := by
            intro x hx
            rcases List.mem_append.1 hx with h | h
            · have := t2 x h; omega
            · have := p2 x (List.mem_of_mem_drop h); omega
          have HLEN : Hid ((A ++ B.drop nc).length = na + (nb - nc)) := by show _ = _; rw [List.length_append, List.length_drop, hna, hnb]
          have HLE : Hid ((glueL (A ++ B.drop nc)).length ≤ 300000) := hglen
          have HMV : Hid (movedL p.data.toList f.data.toList t.data.toList = if (glueL (A ++ B.drop nc)).length ≤ 32 then (glueL (A ++ B.drop nc), 0) else ([], 2)) := hmv
          obtain ⟨i0, hi, hz0, hz1, hz2⟩ := info_parts info9
          clear gp gf gt gc HGA hm hgl hgd HQ hbd t2 p2 f2 hmv hglen hna hnb hnc
          go_enter Try.func29, Try.ntmps29
          go_wp2_with fail
          refine HP.mono ?_
          rintro e w3 ⟨rfl, hb3⟩
          have HF3 := HF.out w3 hb3
          go_wp2_with fail
          refine HF3.mono ?_
          rintro e w4 ⟨rfl, hb4⟩
          have HT4 := HT.out w4 hb4
          go_wp2_with fail
          refine HT4.mono ?_
          rintro e w5 ⟨rfl, hb5⟩
          have HC5 := HC.out w5 hb5
          go_wp2_with fail
          refine HC5.mono ?_
          rintro e w6 ⟨rfl, hb6⟩
          have HQ6 := HQT.out w6 hb6
          clear HF3 HT4 HC5 HP HF HT HC
          go_wp2_with fail
          refine HQ6.mono ?_
          rintro e w7 ⟨la, lc, rfl, hsa, _, hb7⟩
          obtain ⟨pa, rfl⟩ := hsa.some t0
          clear HQ6
          go_wp2_with (at_builtin; refine wpList_append_own _ rfl _ _ 26 rfl w.heap.size 9 i0 (.string ByteArray.empty) 1 16 Try.underlying26 hi hz0 hz1 hz2 rfl (by decide) _ 0 [] rfl (World.ownsRow_nil _ _ _ _) pa na lc (strsV A) rfl (by rw [strsV_len, HNA.out, Nat.mul_one]) hsa.news (strsV_one A) (by unfold maxLen; omega) (by omega) hb7.size ?_)
          intro v8 w8 hown8 hgrow8 _
          have hb8 : Below w.heap.size w w8 := hb7.grown hgrow8 hb7.size (fun j hj => by cases hj)
          have hown8' : w8.ownsRow w.heap.size 9 1 v8 na (strsV A) := by
            simpa using hown8
          clear hown8 hgrow8 hsa
          have HQ8 := HQP.out w8 hb8
          go_wp2_with fail
          refine HQ8.mono ?_
          rintro e w9 ⟨lb, ld, rfl, hsb, hb89, hb9⟩
          obtain ⟨pb, rfl⟩ := hsb.some p0
          have hown9 := own_below hown8' hb89
          clear HQ8 hown8'
          have HQ9 := HQF.out w9 hb9
          go_wp2_with fail
          refine HQ9.mono ?_
          rintro e w10 ⟨le, lf, rfl, _, hb910, hb10⟩
          have hown10 := own_below hown9 hb910
          obtain ⟨pc, hfrom, hsc0⟩ := ss_from hsb nc hfp
          have hsc := hsc0.on hb910
          rw [← List.map_drop] at hsc
          obtain ⟨nd, hnd⟩ : ∃ nd, nb - nc = nd := ⟨_, rfl⟩
          obtain ⟨cd, hcd⟩ : ∃ cd, ld - nc = cd := ⟨_, rfl⟩
          rw [hnd] at hsc hfrom
          rw [hcd] at hsc hfrom
          have hnd3 : nd ≤ 33 := by omega
          have HND : Hid (nb - nc = nd) := hnd
          clear HQ9 hown9 hsb hsc0 hnd hcd
          go_wp2_with (at_builtin; refine wpList_append_own _ rfl _ _ 26 rfl w.heap.size 9 i0 (.string ByteArray.empty) 1 16 Try.underlying26 hi hz0 hz1 hz2 rfl (by decide) _ na (strsV A) rfl hown10 pc nd cd (strsV (B.drop nc)) rfl (by rw [strsV_len, List.length_drop, HNB.out, HND.out, Nat.mul_one]) hsc.news (strsV_one _) (by unfold maxLen; omega) (by omega) hb10.size ?_)
          intro v11 w11 hown11 hgrow11 _
          have hb11 : Below w.heap.size w w11 := hb10.grown hgrow11 hb10.size (fun j hj => (hown10.lt j hj).1)
          have ho11 : w11.ownsRow w.heap.size 9 1 v11 (na + nd) (strsV (A ++ B.drop nc)) := by rw [strsV_append]; exact hown11
          obtain ⟨lg, lh, hv, hss⟩ := Ss.owned ho11
          subst hv
          clear hown11 hgrow11 hown10 hsc ho11
          by_cases h32 : (glueL (A ++ B.drop nc)).length ≤ 32
          · have HGF := glue_full lg (na + nd) lh (A ++ B.drop nc) w11 hss HSZ.out (by omega)
            have hsz : (strOf (glueL (A ++ B.drop nc))).size ≤ 32 := by rw [strOf_size]; exact h32
            obtain ⟨R, hR⟩ : ∃ R, strOf (glueL (A ++ B.drop nc)) = R := ⟨_, rfl⟩
            rw [hR] at HGF hsz
            have HRE : Hid (movedL p.data.toList f.data.toList t.data.toList = (glueL (A ++ B.drop nc), 0)) := by show _ = _; rw [HMV.out, if_pos h32]
            have HRR : Hid (strOf (glueL (A ++ B.drop nc)) = R) := hR
            have hri : ¬ (32 : Int) < (R.size : Int) := by omega
            clear hss HSZ HLE HMV h32 HLEN hR
            go_wp2_with fail
            refine HGF.mono ?_
            rintro e w12 ⟨rfl, hw12⟩
            subst w12
            go_wp2_with fail
            refine HGF.mono ?_
            rintro e w12 ⟨rfl, hw12⟩
            subst w12
            go_wp2
            go_ret2
            exact ⟨by rw [HRE.out, HRR.out]; rfl, hb11⟩
          · have HGF := glue_long lg (na + nd) lh (A ++ B.drop nc) w11 hss HSZ.out (by omega) HLE.out
            have HRE : Hid (movedL p.data.toList f.data.toList t.data.toList = ([], 2)) := by show _ = _; rw [HMV.out, if_neg h32]
            clear hss HSZ HLE HMV h32 HLEN
            go_wp2_with fail
            refine HGF.mono ?_
            rintro e w12 ⟨⟨R, rfl, hR, hRm⟩, hw12⟩
            subst w12
            have hri : (32 : Int) < (R.size : Int) := by omega
            go_wp2
            go_ret2
            exact ⟨by rw [HRE.out]; rfl, hb11⟩
end Go.Proofs.Ytdcjnoknnfcogaa
