/- A walk over the document's Decode. -/
import Derived.Test.YtbhnmjjfammlkaaDoorShelf
namespace Go.Proofs.YtbhnmjjfammlkaaDoor
open Go.RowKit
theorem rget_in3 (s : ByteArray) (p : Nat) (w : World) (hm : s.size ≤ 1000000) (hp : p ≤ s.size) : Calls Tryd.prog 44 #[.string s, .int .i64 (p : Int)] w fun e w' => e = .returned (.tuple #[.int .u64 ((getL (s.data.toList.drop p) 0 0).1 : Int), .int .i64 (if (getL (s.data.toList.drop p) 0 0).2.2 = 0 then (p : Int) + (getL (s.data.toList.drop p) 0 0).2.1 else 0), .int .i64 ((getL (s.data.toList.drop p) 0 0).2.2 : Int)]) ∧ w' = w := by
  have h5 := rget_any s (p : Int) w (by omega) (by omega) (by omega)
  rw [getAt_in (by rw [Array.length_toList]; exact hp)] at h5
  exact h5
theorem piece_un (bs : List UInt8) (p : Nat) : pieceF bs p = (if (getL (bs.drop p) 0 0).2.2 ≠ 0 then none
  else if (getL (bs.drop p) 0 0).1 % 2 = 1 then some (Pc.blk ((getL (bs.drop p) 0 0).1 / 2), p + (getL (bs.drop p) 0 0).2.1)
  else if (bs.drop (p + (getL (bs.drop p) 0 0).2.1)).length < (getL (bs.drop p) 0 0).1 / 2 then none
  else some (Pc.byt ((bs.drop (p + (getL (bs.drop p) 0 0).2.1)).take ((getL (bs.drop p) 0 0).1 / 2)), p + (getL (bs.drop p) 0 0).2.1 + (getL (bs.drop p) 0 0).1 / 2)) := rfl
theorem ext_byt (s : ByteArray) (i m : Nat) : Pc.byt ((s.data.toList.drop i).take m) = ⟨false, 0, s.extract i (i + m)⟩ := by
  have e : (s.data.toList.drop i).take m = (s.extract i (i + m)).data.toList := by rw [ext_l, Nat.add_sub_cancel_left]
  rw [e, byt_ba]
set_option maxRecDepth 100000 in
set_option maxHeartbeats 4000000 in
theorem rdec_any (s : ByteArray) (w : World) (hsz : s.size ≤ 1000000) : Calls Tryd.prog 24 #[.string s] w fun e w' => DcTo w (decF s.data.toList) e w' := by
  have hbl : s.data.toList.length = s.size := Array.length_toList
  obtain ⟨bs, hbs⟩ : ∃ bs, s.data.toList = bs := ⟨_, rfl⟩
  have HBS : Hid (s.data.toList = bs ∧ bs.length = s.size) := ⟨hbs, by rw [← hbs]; exact hbl⟩
  rw [hbs] at hbl ⊢
  by_cases hlong : 65536 < s.size
  · have kl : (65536 : Int) < (s.size : Int) := by omega
    rw [decF_long (by omega)]
    have HE : Hid (DcTo w ([], 2) (.returned (.tuple #[.slice none 0 0, .int .i64 2])) w) := DcTo.nil 2 (Below.refl _ _)
    clear hbl hbs
    go_enter Tryd.func24, Tryd.ntmps24
    go_wp2
    refine bodyPost_ret (v := .tuple #[.slice none 0 0, .int .i64 2]) ?_ rfl HE.out
    simp [results, go_sem]
  · have kl : ¬ (65536 : Int) < (s.size : Int) := by omega
    have hnl : ¬ 65536 < bs.length := by omega
    have HG := rget_in3 s 0 w hsz (by omega)
    have hrd := getL_read (bs := bs) (p := 0)
    rw [hbs, List.drop_zero] at HG
    rw [List.drop_zero] at hrd
    have hbad := decD_bad (bs := bs)
    have hstop := decD_stop (bs := bs)
    have hmore := fun ls p => decD_more (bs := bs) (ls := ls) (p := p)
    have hend := fun ls p => decD_end (bs := bs) (ls := ls) (p := p)
    obtain ⟨cnt, hn⟩ : ∃ n, (getL bs 0 0).1 = n := ⟨_, rfl⟩
    obtain ⟨q, hq⟩ : ∃ q, (getL bs 0 0).2.1 = q := ⟨_, rfl⟩
    obtain ⟨er, her⟩ : ∃ er, (getL bs 0 0).2.2 = er := ⟨_, rfl⟩
    rw [hn, hq, her] at HG hrd
    rw [hn, her] at hbad
    rw [hn, hq] at hstop
    simp only [hn, hq, her] at hmore hend
    clear hn hq her hbs
    have KN : Hid (∀ V, decD bs = none → Below w.heap.size w V → DcTo w (decF bs) (.returned (.tuple #[.slice none 0 0, .int .i64 4])) V) := fun V hd hV => by
      rw [decF_none hnl hd]
      exact DcTo.nil 4 hV
    by_cases he : er = 0
    · subst he
      obtain ⟨hq1, hq2, hn2⟩ := hrd rfl
      have HG2 : Calls Tryd.prog 44 #[.string s, .int .i64 0] w fun e w' => e = .returned (.tuple #[.int .u64 (cnt : Int), .int .i64 (q : Int), .int .i64 0]) ∧ w' = w := by
        simp only [if_true, Int.natCast_zero, Int.zero_add] at HG
        exact HG
      clear HG
      by_cases hc : 1024 < cnt
      · have kc : (1024 : Int) < (cnt : Int) := by omega
        have HE : Hid (DcTo w (decF bs) (.returned (.tuple #[.slice none 0 0, .int .i64 4])) w) := KN.out w (hbad (.inr hc)) (Below.refl _ _)
        clear hrd hbad hstop hmore hend
        go_enter Tryd.func24, Tryd.ntmps24
        go_wp2_with fail
        refine HG2.mono ?_
        rintro e V ⟨rfl, hV⟩
        subst V
        clear HG2
        go_wp2
        refine bodyPost_ret (v := .tuple #[.slice none 0 0, .int .i64 4]) ?_ rfl HE.out
        simp [results, go_sem]
      · have kc : ¬ (1024 : Int) < (cnt : Int) := by omega
        have HST : Hid ((decR cnt (bs.drop q) = none → decD bs = none) ∧ (∀ ls p, decR cnt (bs.drop q) = some (ls, bs.drop p) → p < bs.length → decD bs = none) ∧ (∀ ls p, decR cnt (bs.drop q) = some (ls, bs.drop p) → bs.length ≤ p → decD bs = if mayP ls then some ls else none)) := ⟨hstop, hmore, fun ls p h1 h2 => hend ls p (by omega) h1 h2⟩
        have HD0 : Hid (DecI bs cnt q 0 q []) := DecI.start (by omega)
        obtain ⟨B, hB⟩ : ∃ B, w.heap.size = B := ⟨_, rfl⟩
        have HB0 : Hid (w.heap.size = B) := hB
        have hql : q ≤ s.size := by omega
        clear hrd hbad hstop hmore hend hB hbl hq1 hq2
        go_enter Tryd.func24, Tryd.ntmps24
        go_wp2_with fail
        refine HG2.mono ?_
        rintro e V ⟨rfl, hV⟩
        subst V
        clear HG2
        go_wp2
        go_loopw [5, 7, 8] (fun va vl vi wr => ∃ (i p c' : Nat) (a' : Option Addr) (ls : List Pc), i ≤ cnt ∧ p ≤ s.size ∧ va = .int .i64 p ∧ vl = .slice a' i c' ∧ vi = .int .u64 i ∧ DecI bs cnt q i p ls ∧ wr.ownsRow B 48 3 (.slice a' i c') i (pcR ls) ∧ Below w.heap.size w wr) (fun _ _ vi _ => cnt - (intOf vi).toNat)
        case atStart => exact ⟨0, q, 0, none, [], by omega, hql, rfl, rfl, rfl, HD0.out, World.ownsRow_nil _ _ _ _, Below.refl _ _⟩
        case round =>
          obtain ⟨i, p, c', a', ls, hi, hp, rfl, rfl, rfl, hdi, hown, hbw⟩ := hrel
          by_cases hlt : i < cnt
          · have kk : (i : Int) < (cnt : Int) := by omega
            have HP := rget_in3 s p wr hsz hp
            rw [HBS.out.1] at HP
            have hpr := getL_read (bs := bs) (p := p)
            have hun := piece_un bs p
            obtain ⟨m, hm⟩ : ∃ n, (getL (bs.drop p) 0 0).1 = n := ⟨_, rfl⟩
            obtain ⟨k, hk⟩ : ∃ q, (getL (bs.drop p) 0 0).2.1 = q := ⟨_, rfl⟩
            obtain ⟨e2, he2⟩ : ∃ er, (getL (bs.drop p) 0 0).2.2 = er := ⟨_, rfl⟩
            rw [hm, hk, he2] at HP hpr hun
            have HDI : Hid (DecI bs cnt q i p ls ∧ Below w.heap.size w wr ∧ wr.ownsRow B 48 3 (.slice a' i c') i (pcR ls)) := ⟨hdi, hbw, hown⟩
            clear hm hk he2 hdi hown hbw
            by_cases h2 : e2 = 0
            · subst h2
              obtain ⟨hk1, hk2, hm2⟩ := hpr rfl
              rw [if_neg (by omega)] at hun
              obtain ⟨fr, hfr⟩ : ∃ fr, p + k = fr := ⟨_, rfl⟩
              have kfr : (p : Int) + (k : Int) = (fr : Int) := by omega
              have HP2 : Calls Tryd.prog 44 #[.string s, .int .i64 (p : Int)] wr fun e w' => e = .returned (.tuple #[.int .u64 (m : Int), .int .i64 (fr : Int), .int .i64 0]) ∧ w' = wr := by
                rw [if_pos rfl, kfr] at HP
                exact HP
              rw [hfr] at hun
              obtain ⟨h, hh⟩ : ∃ h, m / 2 = h := ⟨_, rfl⟩
              rw [hh] at hun
              have km : (m : Int) / 2 = (h : Int) := by omega
              have kmt : Int.tdiv (m : Int) 2 = (h : Int) := by rw [← hh]; exact Int.ofNat_tdiv m 2
              have wm : IntKind.i64.wrap (h : Int) = (h : Int) := by rw [IntKind.wrap_i64]; omega
              have hfl : fr ≤ s.size := by have := HBS.out.2; omega
              clear HP hpr
              by_cases ho : m % 2 = 1
              · rw [if_pos ho] at hun
                have ko : (m : Int) % 2 = 1 := by omega
                have kot : Int.tmod (m : Int) 2 = 1 := by rw [show (1 : Int) = ((m % 2 : Nat) : Int) by omega]; exact Int.ofNat_tmod m 2
                obtain ⟨V3, hV3, r3, hb3⟩ := box_pc (w := wr) true (h : Int) ⟨#[]⟩
                have hBW : Below w.heap.size w V3 := HDI.out.2.1.trans (hb3.mono HDI.out.2.1.size)
                have hBs : B ≤ V3.heap.size := by have := HB0.out; have := hBW.size; omega
                have ho3 := own_keep HDI.out.2.2 (W' := V3) (fun j hj => hb3.block j (HDI.out.2.2.lt j hj).2)
                obtain ⟨aA, cA, VA, hrA, hoA, hgA, _⟩ := addH_own V3 ho3 (pcRow (p := Pc.blk h) r3) (by omega) hBs
                have HE : Hid (DecI bs cnt q (i + 1) fr (ls ++ [Pc.blk h]) ∧ VA.ownsRow B 48 3 (.slice aA (i + 1) cA) (i + 1) (pcR (ls ++ [Pc.blk h])) ∧ Below w.heap.size w VA) := ⟨HDI.out.1.step hlt hun, hoA, hBW.grown hgA hBW.size (fun j hj => by have := (ho3.lt j (by rw [ob_slice]; exact hj)).1; have := HB0.out; omega)⟩
                clear hun ho hh hfr kfr hk1 hk2 r3 hb3 hBW hBs ho3 hoA hgA
                go_wp2_with fail
                refine HP2.mono ?_
                rintro e V ⟨rfl, hV⟩
                subst V
                clear HP2
                go_wp2_with ((at_builtin; refine wpList_app V3 rfl _ _ _ _ rfl rfl rfl (hrA _) ?_))
                exact ⟨⟨i + 1, fr, cA, aA, ls ++ [Pc.blk h], by omega, hfl, by first | rfl | go_num, by first | rfl | go_num, by go_num, HE.out.1, HE.out.2.1, HE.out.2.2⟩, by simp [intOf]; omega⟩
              · rw [if_neg ho] at hun
                have ko : (m : Int) % 2 = 0 := by omega
                have kot : Int.tmod (m : Int) 2 = 0 := by rw [show (0 : Int) = ((m % 2 : Nat) : Int) by omega]; exact Int.ofNat_tmod m 2
                obtain ⟨rs, hrs⟩ : ∃ rs, s.size - fr = rs := ⟨_, rfl⟩
                have krs : (s.size : Int) - (fr : Int) = (rs : Int) := by omega
                have wrs : IntKind.u64.wrap (rs : Int) = (rs : Int) := by rw [IntKind.wrap_u64]; omega
                rw [List.length_drop, HBS.out.2, hrs] at hun
                by_cases hl2 : rs < h
                · rw [if_pos hl2] at hun
                  have klt : (rs : Int) < (h : Int) := by omega
                  have HE : Hid (DcTo w (decF bs) (.returned (.tuple #[.slice none 0 0, .int .i64 4])) wr) := KN.out wr (HST.out.1 (HDI.out.1.stop hlt hun)) HDI.out.2.1
                  clear hun ho hh hfr kfr hk1 hk2 hrs
                  go_wp2_with fail
                  refine HP2.mono ?_
                  rintro e V ⟨rfl, hV⟩
                  subst V
                  clear HP2
                  go_wp2
                  refine bodyPost_ret (v := .tuple #[.slice none 0 0, .int .i64 4]) ?_ rfl HE.out
                  simp [results, go_sem]
                · rw [if_neg hl2] at hun
                  have klt : ¬ (rs : Int) < (h : Int) := by omega
                  obtain ⟨bh, hbh⟩ : ∃ bh, fr + h = bh := ⟨_, rfl⟩
                  have kbh : (fr : Int) + (h : Int) = (bh : Int) := by omega
                  have hb1 : (fr : Int) ≤ (bh : Int) := by omega
                  have hb2 : (bh : Int) ≤ (s.size : Int) := by omega
                  have hbl2 : bh ≤ s.size := by omega
                  obtain ⟨S, hS⟩ : ∃ S, s.extract fr bh = S := ⟨_, rfl⟩
                  have eb : Pc.byt ((bs.drop fr).take h) = ⟨false, 0, S⟩ := by rw [← HBS.out.1, ext_byt, hbh, hS]
                  rw [eb, hbh] at hun
                  obtain ⟨V3, hV3, r3, hb3⟩ := box_pc (w := wr) false 0 S
                  have hBW : Below w.heap.size w V3 := HDI.out.2.1.trans (hb3.mono HDI.out.2.1.size)
                  have hBs : B ≤ V3.heap.size := by have := HB0.out; have := hBW.size; omega
                  have ho3 := own_keep HDI.out.2.2 (W' := V3) (fun j hj => hb3.block j (HDI.out.2.2.lt j hj).2)
                  obtain ⟨aA, cA, VA, hrA, hoA, hgA, _⟩ := addH_own V3 ho3 (pcRow (p := ⟨false, 0, S⟩) r3) (by omega) hBs
                  have HE : Hid (DecI bs cnt q (i + 1) bh (ls ++ [⟨false, 0, S⟩]) ∧ VA.ownsRow B 48 3 (.slice aA (i + 1) cA) (i + 1) (pcR (ls ++ [⟨false, 0, S⟩])) ∧ Below w.heap.size w VA) := ⟨HDI.out.1.step hlt hun, hoA, hBW.grown hgA hBW.size (fun j hj => by have := (ho3.lt j (by rw [ob_slice]; exact hj)).1; have := HB0.out; omega)⟩
                  clear hun ho hh hfr kfr hk1 hk2 hrs hbh eb r3 hb3 hBW hBs ho3 hoA hgA
                  go_wp2_with fail
                  refine HP2.mono ?_
                  rintro e V ⟨rfl, hV⟩
                  subst V
                  clear HP2
                  go_wp2_with ((at_builtin; refine wpList_app V3 rfl _ _ _ _ rfl rfl rfl (hrA _) ?_))
                  exact ⟨⟨i + 1, bh, cA, aA, ls ++ [⟨false, 0, S⟩], by omega, hbl2, by first | rfl | go_num, by first | rfl | go_num, by go_num, HE.out.1, HE.out.2.1, HE.out.2.2⟩, by simp [intOf]; omega⟩
            · rw [if_pos h2] at hun
              have ke : ((e2 : Int) == 0) = false := by simpa using (show ¬ (e2 : Int) = 0 by omega)
              have HP2 : Calls Tryd.prog 44 #[.string s, .int .i64 (p : Int)] wr fun e w' => e = .returned (.tuple #[.int .u64 (m : Int), .int .i64 0, .int .i64 (e2 : Int)]) ∧ w' = wr := by
                rw [if_neg h2] at HP
                exact HP
              have HE : Hid (DcTo w (decF bs) (.returned (.tuple #[.slice none 0 0, .int .i64 4])) wr) := KN.out wr (HST.out.1 (HDI.out.1.stop hlt hun)) HDI.out.2.1
              clear HP hpr hun h2
              go_wp2_with fail
              refine HP2.mono ?_
              rintro e V ⟨rfl, hV⟩
              subst V
              clear HP2
              go_wp2
              refine bodyPost_ret (v := .tuple #[.slice none 0 0, .int .i64 4]) ?_ rfl HE.out
              simp [results, go_sem]
          · obtain rfl : i = cnt := by omega
            have kk : ¬ (i : Int) < (i : Int) := by omega
            have hde := hdi.end
            by_cases hpl : p < s.size
            · have kp : ((p : Int) == (s.size : Int)) = false := by simpa using (show ¬ (p : Int) = (s.size : Int) by omega)
              have HE : Hid (DcTo w (decF bs) (.returned (.tuple #[.slice none 0 0, .int .i64 4])) wr) := KN.out wr (HST.out.2.1 ls p hde (by have := HBS.out.2; omega)) hbw
              clear hdi hown hbw hde
              go_wp2
              refine bodyPost_ret (v := .tuple #[.slice none 0 0, .int .i64 4]) ?_ rfl HE.out
              simp [results, go_sem]
            · have hps : p = s.size := by omega
              have kp : ((p : Int) == (s.size : Int)) = true := by simp [hps]
              have hdd := HST.out.2.2 ls p hde (by have := HBS.out.2; omega)
              have HCK := may_any (show Hw (fun _ => True) wr a' i c' ls from Rw.own hown (fun _ _ => trivial))
              have HH : Hid (Below w.heap.size w wr ∧ wr.ownsRow B 48 3 (.slice a' i c') i (pcR ls)) := ⟨hbw, hown⟩
              clear hdi hown hbw hde hps
              cases hm : mayP ls with
              | false =>
                rw [hm] at HCK
                rw [hm, if_neg (by decide)] at hdd
                have HDD : Hid (decD bs = none) := hdd
                clear hdd hm
                go_wp2_with fail
                refine HCK.mono ?_
                rintro e V1 ⟨rfl, hb1⟩
                have HE : Hid (DcTo w (decF bs) (.returned (.tuple #[.slice none 0 0, .int .i64 4])) V1) := KN.out V1 HDD.out (HH.out.1.trans (hb1.mono HH.out.1.size))
                clear HCK hb1
                go_wp2
                refine bodyPost_ret (v := .tuple #[.slice none 0 0, .int .i64 4]) ?_ rfl HE.out
                simp [results, go_sem]
              | true =>
                rw [hm] at HCK
                rw [hm, if_pos rfl] at hdd
                have HDD : Hid (decF bs = (ls, 0)) := decF_some hnl hdd
                clear hdd hm
                go_wp2_with fail
                refine HCK.mono ?_
                rintro e V1 ⟨rfl, hb1⟩
                have HE : Hid (DcTo w (decF bs) (.returned (.tuple #[.slice a' i c', .int .i64 0])) V1) := by
                  rw [HDD.out]
                  exact ⟨a', i, c', rfl, by rw [HB0.out]; exact own_keep HH.out.2 (fun j hj => hb1.block j (HH.out.2.lt j hj).2), HH.out.1.trans (hb1.mono HH.out.1.size)⟩
                clear HCK hb1
                go_wp2
                refine bodyPost_ret (v := .tuple #[.slice a' i c', .int .i64 0]) ?_ rfl HE.out
                simp [results, go_sem]
    · have ke : ((er : Int) == 0) = false := by simpa using (show ¬ (er : Int) = 0 by omega)
      have HG2 : Calls Tryd.prog 44 #[.string s, .int .i64 0] w fun e w' => e = .returned (.tuple #[.int .u64 (cnt : Int), .int .i64 0, .int .i64 (er : Int)]) ∧ w' = w := by
        rw [if_neg he] at HG
        exact HG
      clear HG
      have HE : Hid (DcTo w (decF bs) (.returned (.tuple #[.slice none 0 0, .int .i64 4])) w) := KN.out w (hbad (.inl he)) (Below.refl _ _)
      clear hrd hbad hstop hmore hend
      go_enter Tryd.func24, Tryd.ntmps24
      go_wp2_with fail
      refine HG2.mono ?_
      rintro e V ⟨rfl, hV⟩
      subst V
      clear HG2
      go_wp2
      refine bodyPost_ret (v := .tuple #[.slice none 0 0, .int .i64 4]) ?_ rfl HE.out
      simp [results, go_sem]
end Go.Proofs.YtbhnmjjfammlkaaDoor
