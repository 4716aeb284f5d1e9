/- The document's Tokens, walked. -/
import Derived.Test.YtekbmdpokghmmaaLT
namespace Go.Proofs.Ytekbmdpokghmmaa
open Go.RowKit Lz
set_option maxRecDepth 100000 in
set_option maxHeartbeats 8000000 in
theorem rtokens_any (bs : List UInt8) (hl : bs.length ≤ 100000) (w : World) : Calls Try.prog 13 #[.string (strOf bs)] w (RtTo w bs) := by
  have hz : (strOf bs).size = bs.length := strOf_size bs
  have HG := rget_any (strOf bs) 0 w (by omega) (by omega) (by omega)
  rw [show (strOf bs).data.toList = bs from rfl, getAt0] at HG
  have hn := getL_lt bs
  obtain ⟨n, k, c, hg⟩ : ∃ m k c, getL bs 0 0 = (m, k, c) := ⟨_, _, _, rfl⟩
  have hbeg : begL bs = if c = 0 ∧ n ≤ 65536 then some (n, k) else none := by unfold begL; rw [hg]
  rw [hg] at HG hn
  simp only [ans3] at HG hn
  have HIX := fun (k : Nat) (hk : k < bs.length) => str_at (strOf bs) k ((bs.getD k 0).toNat) (by rw [hz]; exact hk) rfl
  have HIX : Hid _ := HIX
  have HSL := fun (p q : Nat) (hp : p ≤ q) (hq : q ≤ bs.length) => sl_str bs p q hp hq
  have HSL : Hid _ := HSL
  obtain ⟨T, hT⟩ : ∃ T, strOf bs = T := ⟨_, rfl⟩
  rw [hT] at HG hz HIX HSL ⊢
  clear hg hT
  by_cases hc : ¬ c = 0
  · have HNO : Hid (∀ n ts, ¬ Whole bs n ts) := whole_none (by rw [hbeg, if_neg (by omega)])
    rw [if_neg hc] at HG
    have k1 : ¬ (c : Int) = 0 := by omega
    have kb : ((c : Int) == 0) = false := by simpa using k1
    have kn : ((c : Int) != 0) = true := by simpa using k1
    have HG : Hid (Calls Try.prog 24 #[.string T, .int .i64 0] w fun e w' => e = .returned (.tuple #[.int .u64 (n : Int), .int .i64 0, .int .i64 (c : Int)]) ∧ w' = w) := HG
    clear hbeg hc
    go_enter Try.func13, Try.ntmps13
    go_wp2_with fail
    refine HG.out.mono ?_
    rintro e w' ⟨rfl, h⟩; subst w'
    go_wp2
    refine bodyPost_ret (v := .tuple #[.slice none 0 0, .string ⟨#[]⟩, .bool false]) ?_ rfl ⟨Below.refl _ _, .inr ⟨HNO.out, _, _, rfl⟩⟩
    simp [results, go_sem]
  have hc : c = 0 := by omega
  subst hc
  rw [if_pos rfl] at HG
  have HG : Hid (Calls Try.prog 24 #[.string T, .int .i64 0] w fun e w' => e = .returned (.tuple #[.int .u64 (n : Int), .int .i64 (k : Int), .int .i64 0]) ∧ w' = w) := HG
  by_cases hs : ¬ n ≤ 65536
  · have HNO : Hid (∀ n ts, ¬ Whole bs n ts) := whole_none (by rw [hbeg, if_neg (by omega)])
    have k1 : (65536 : Int) < (n : Int) := by omega
    clear hbeg
    go_enter Try.func13, Try.ntmps13
    go_wp2_with fail
    refine HG.out.mono ?_
    rintro e w' ⟨rfl, h⟩; subst w'
    go_wp2
    refine bodyPost_ret (v := .tuple #[.slice none 0 0, .string ⟨#[]⟩, .bool false]) ?_ rfl ⟨Below.refl _ _, .inr ⟨HNO.out, _, _, rfl⟩⟩
    simp [results, go_sem]
  have hs : n ≤ 65536 := by omega
  have k1 : ¬ (65536 : Int) < (n : Int) := by omega
  rw [if_pos ⟨rfl, hs⟩] at hbeg
  have hk := (begL_le hbeg).2
  have HE : Hid (begL bs = some (n, k)) := hbeg
  obtain ⟨N, hN⟩ : ∃ N, bs.length = N := ⟨_, rfl⟩
  have HN : Hid (bs.length = N) := hN
  rw [hN] at hl hz hk
  have HK : Hid (k ≤ N) := hk
  clear hbeg hn hN
  go_enter Try.func13, Try.ntmps13
  go_wp2_with fail
  refine HG.out.mono ?_
  rintro e w' ⟨rfl, h⟩; subst w'
  go_wp2
  go_loopw [6, 8, 9] (fun v6 v8 v9 wr => ∃ j ts a1 c1 a2 c2, v6 = .int .i64 ((j : Nat) : Int) ∧ v8 = .slice a1 ts.length c1 ∧ v9 = .slice a2 (toldL ts) c2 ∧ toldL ts ≤ n ∧ At n k bs j ts ∧ Two w wr a1 c1 ts a2 (toldL ts) c2 (outL ts)) (fun v6 _ _ _ => N - (intOf v6).toNat)
  case atStart => exact ⟨k, [], none, 0, none, 0, rfl, rfl, rfl, Nat.zero_le _, ⟨by simp [encL], trivial, by rw [HN.out]; exact HK.out⟩, ⟨World.ownsRow_nil _ _ _ _, World.ownsRow_nil _ _ _ _, Below.refl _ _⟩⟩
  case round =>
    obtain ⟨j, ts, a1, c1, a2, c2, rfl, rfl, rfl, hdn, hat, htw⟩ := hrel
    have hjN : j ≤ N := by rw [← HN.out]; exact hat.j
    have htl : ts.length ≤ 200000 := by have := len_told hat.g; omega
    have HAT : Hid (At n k bs j ts ∧ Two w wr a1 c1 ts a2 (toldL ts) c2 (outL ts)) := ⟨hat, htw⟩
    obtain ⟨dn, hdt⟩ : ∃ d, toldL ts = d := ⟨_, rfl⟩
    have HDT : Hid (toldL ts = dn) := hdt
    rw [hdt] at hdn ⊢
    by_cases hlt : j < N
    · have kk : (j : Int) < (N : Int) := by omega
      obtain ⟨n0, hn0⟩ : ∃ n0, (bs.getD j 0).toNat = n0 := ⟨_, rfl⟩
      have hn8 : n0 < 256 := by rw [← hn0]; exact UInt8.toNat_lt _
      have i0 : ∀ W, (Instr.index 9 (.string T) (.int .i64 (j : Int))).run Try.prog W = .ok (.int .u8 (n0 : Int)) W := by rw [← hn0]; exact HIX.out j (by rw [HN.out]; exact hlt)
      have HN0 : Hid ((bs.getD j 0).toNat = n0) := hn0
      have wn0 : IntKind.i64.wrap (n0 : Int) = (n0 : Int) := wrapI _ (by omega) (by omega)
      have wj0 : IntKind.i64.wrap ((j : Int) + (n0 : Int)) = (j : Int) + (n0 : Int) := wrapI _ (by omega) (by omega)
      by_cases h128 : n0 < 128
      · have k2 : (n0 : Int) < 128 := by omega
        obtain ⟨E, hE⟩ : ∃ E, j + n0 + 2 = E := ⟨_, rfl⟩
        have wE : IntKind.i64.wrap ((j : Int) + (n0 : Int) + 2) = (E : Int) := by rw [IntKind.wrap_i64]; omega
        by_cases hsh : N < E
        · have k3 : (N : Int) < (E : Int) := by omega
          have HNO : Hid (∀ n ts, ¬ Whole bs n ts) := hat.no HE.out (by rw [HN.out]; exact hlt) (fun t m e => by
            rw [first_own_no (by rw [HN.out]; exact hlt) hn0 h128 (by rw [HN.out]; omega)] at e; cases e)
          clear hat htw hdt hn0
          go_wp2
          refine bodyPost_ret (v := .tuple #[.slice none 0 0, .string ⟨#[]⟩, .bool false]) ?_ rfl ⟨HAT.out.2.b, .inr ⟨HNO.out, _, _, rfl⟩⟩
          simp [results, go_sem]
        · have k3 : ¬ (N : Int) < (E : Int) := by omega
          obtain ⟨J1, hJ1⟩ : ∃ J, j + 1 = J := ⟨_, rfl⟩
          have wJ1 : IntKind.i64.wrap ((j : Int) + 1) = (J1 : Int) := by rw [IntKind.wrap_i64]; omega
          have hf := first_own (by rw [HN.out]; exact hlt) hn0 h128 (by rw [HN.out]; omega)
          have hsl := HSL.out J1 E (by omega) (by rw [HN.out]; omega)
          rw [hJ1] at hf
          rw [show E - J1 = n0 + 1 by omega] at hsl
          obtain ⟨d, hd⟩ : ∃ d, (bs.drop J1).take (n0 + 1) = d := ⟨_, rfl⟩
          have hdl : d.length = n0 + 1 := by rw [← hd, List.length_take, List.length_drop, HN.out]; omega
          rw [hd] at hf hsl
          obtain ⟨V1, a3, c3, W2, hV1, hr2, htw2⟩ := htw.tok ⟨0, 0, d⟩ htl
          rw [hdt] at htw2
          obtain ⟨a4, c4, W3, hr3, htw3⟩ := htw2.str d (by omega)
          obtain ⟨q1, hq1⟩ : ∃ q, dn + d.length = q := ⟨_, rfl⟩
          rw [hq1] at hr3 htw3
          obtain ⟨tl, htl2⟩ : ∃ t, ts.length = t := ⟨_, rfl⟩
          rw [htl2] at hr2 ⊢
          obtain ⟨U, hU⟩ : ∃ U, strOf d = U := ⟨_, rfl⟩
          rw [hU] at hsl hr3
          simp only [hU] at hV1
          obtain ⟨K, hK⟩ : ∃ K, wr.heap.size = K := ⟨_, rfl⟩
          rw [hK] at hr2
          have hto : Tk.told ⟨0, 0, d⟩ = n0 + 1 := by simp [Tk.told, hdl]
          have hV1 : wr.alloc (.cells #[.int .i64 0, .int .i64 0, .string U] 56) = V1 := hV1
          have wu : IntKind.u64.wrap (q1 : Int) = (q1 : Int) := by rw [IntKind.wrap_u64]; omega
          have HT3 : Hid (Two w W3 a3 c3 (ts ++ [Tk.mk 0 0 d]) a4 q1 c4 (outL ts ++ d) ∧ (ts ++ [Tk.mk 0 0 d]).length = tl + 1 ∧ toldL (ts ++ [Tk.mk 0 0 d]) = q1 ∧ outL (ts ++ [Tk.mk 0 0 d]) = outL ts ++ d ∧ firstT (bs.drop j) = some (⟨0, 0, d⟩, n0 + 2)) := ⟨htw3, by rw [List.length_append, htl2]; rfl, by rw [toldL_app, toldL_one, hto, hdt]; omega, by rw [outL_snoc]; rfl, hf⟩
          by_cases hq : n < q1
          · have k4 : (n : Int) < (q1 : Int) := by omega
            have HNO : Hid (∀ n ts, ¬ Whole bs n ts) := hat.no HE.out (by rw [HN.out]; exact hlt) (fun t m e => by
              rw [hf] at e; cases e; rw [hto, hdt]; omega)
            clear hat htw hdt hn0 hf hd hdl htw2 htw3 hq1 htl2 hU hto
            go_wp2_with (first | (at_builtin; refine wpList_app V1 rfl _ _ _ _ rfl rfl rfl (hr2 _) ?_) | (at_builtin; refine wpList_app W2 rfl _ _ _ _ rfl rfl rfl (hr3 _) ?_))
            refine bodyPost_ret (v := .tuple #[.slice none 0 0, .string ⟨#[]⟩, .bool false]) ?_ rfl ⟨HT3.out.1.b, .inr ⟨HNO.out, _, _, rfl⟩⟩
            simp [results, go_sem]
          · have k4 : ¬ (n : Int) < (q1 : Int) := by omega
            have HAT3 : Hid (At n k bs E (ts ++ [Tk.mk 0 0 d])) := by
              show At n k bs E _
              rw [← hE, show j + n0 + 2 = j + (n0 + 2) by omega]
              exact hat.on hf (Nat.zero_le _) (by rw [hto, hdt]; omega) (by rw [HN.out]; omega)
            clear hat htw hdt hn0 hf hd hdl htw2 htw3 hq1 htl2 hU hto
            go_wp2_with (first | (at_builtin; refine wpList_app V1 rfl _ _ _ _ rfl rfl rfl (hr2 _) ?_) | (at_builtin; refine wpList_app W2 rfl _ _ _ _ rfl rfl rfl (hr3 _) ?_))
            refine ⟨⟨E, ts ++ [Tk.mk 0 0 d], a3, c3, a4, c4, rfl, by rw [HT3.out.2.1], by rw [HT3.out.2.2.1], by rw [HT3.out.2.2.1]; omega, HAT3.out, ?_⟩, by simp [intOf]; omega⟩
            rw [HT3.out.2.2.1, HT3.out.2.2.2.1]
            exact HT3.out.1
      · have k2 : ¬ (n0 : Int) < 128 := by omega
        obtain ⟨E, hE⟩ : ∃ E, j + 3 = E := ⟨_, rfl⟩
        have wE : IntKind.i64.wrap ((j : Int) + 3) = (E : Int) := by rw [IntKind.wrap_i64]; omega
        by_cases hsh : N < E
        · have k3 : (N : Int) < (E : Int) := by omega
          have HNO : Hid (∀ n ts, ¬ Whole bs n ts) := hat.no HE.out (by rw [HN.out]; exact hlt) (fun t m e => by
            rw [first_ear_no (by rw [HN.out]; exact hlt) (by rw [HN.out]; omega) hn0 h128] at e; cases e)
          clear hat htw hdt hn0
          go_wp2
          refine bodyPost_ret (v := .tuple #[.slice none 0 0, .string ⟨#[]⟩, .bool false]) ?_ rfl ⟨HAT.out.2.b, .inr ⟨HNO.out, _, _, rfl⟩⟩
          simp [results, go_sem]
        · have k3 : ¬ (N : Int) < (E : Int) := by omega
          obtain ⟨p, hp⟩ : ∃ p, (bs.getD (j + 1) 0).toNat = p := ⟨_, rfl⟩
          obtain ⟨q, hq⟩ : ∃ q, (bs.getD (j + 2) 0).toNat = q := ⟨_, rfl⟩
          have hp8 : p < 256 := by rw [← hp]; exact UInt8.toNat_lt _
          have hq8 : q < 256 := by rw [← hq]; exact UInt8.toNat_lt _
          have i1 : ∀ W, (Instr.index 9 (.string T) (.int .i64 ((j + 1 : Nat) : Int))).run Try.prog W = .ok (.int .u8 (p : Int)) W := by rw [← hp]; exact HIX.out (j + 1) (by rw [HN.out]; omega)
          have i2 : ∀ W, (Instr.index 9 (.string T) (.int .i64 ((j + 2 : Nat) : Int))).run Try.prog W = .ok (.int .u8 (q : Int)) W := by rw [← hq]; exact HIX.out (j + 2) (by rw [HN.out]; omega)
          have hf := first_ear (by rw [HN.out]; omega) hn0 hp hq h128
          obtain ⟨J1, hJ1⟩ : ∃ J, j + 1 = J := ⟨_, rfl⟩
          obtain ⟨J2, hJ2⟩ : ∃ J, j + 2 = J := ⟨_, rfl⟩
          rw [hJ1] at i1
          rw [hJ2] at i2
          have wJ1 : IntKind.i64.wrap ((j : Int) + 1) = (J1 : Int) := by rw [IntKind.wrap_i64]; omega
          have wJ2 : IntKind.i64.wrap ((j : Int) + 2) = (J2 : Int) := by rw [IntKind.wrap_i64]; omega
          obtain ⟨b, hb⟩ : ∃ b, 256 * p + q + 1 = b := ⟨_, rfl⟩
          obtain ⟨s, hs'⟩ : ∃ s, n0 - 125 = s := ⟨_, rfl⟩
          rw [hb, hs'] at hf
          have wp0 : IntKind.i64.wrap (p : Int) = (p : Int) := wrapI _ (by omega) (by omega)
          have wq0 : IntKind.i64.wrap (q : Int) = (q : Int) := wrapI _ (by omega) (by omega)
          have wp1 : IntKind.i64.wrap (256 * (p : Int)) = 256 * (p : Int) := wrapI _ (by omega) (by omega)
          have wp2 : IntKind.i64.wrap (256 * (p : Int) + (q : Int)) = 256 * (p : Int) + (q : Int) := wrapI _ (by omega) (by omega)
          have wp3 : IntKind.i64.wrap (256 * (p : Int) + (q : Int) + 1) = (b : Int) := by rw [IntKind.wrap_i64]; omega
          have ws : IntKind.i64.wrap ((n0 : Int) - 125) = (s : Int) := by rw [IntKind.wrap_i64]; omega
          have hb1 : 1 ≤ b := by omega
          have hs3 : 3 ≤ s ∧ s ≤ 130 := by omega
          by_cases hbd : dn < b
          · have k4 : (dn : Int) < (b : Int) := by omega
            have HNO : Hid (∀ n ts, ¬ Whole bs n ts) := hat.no HE.out (by rw [HN.out]; exact hlt) (fun t m e => by
              rw [hf] at e; cases e; simp only; omega)
            clear hat htw hdt hn0 hf hp hq
            go_wp2
            go_quiet (fail)
            go_wp2
            refine bodyPost_ret (v := .tuple #[.slice none 0 0, .string ⟨#[]⟩, .bool false]) ?_ rfl ⟨below_drewK HAT.out.2.b _, .inr ⟨HNO.out, _, _, rfl⟩⟩
            simp [results, go_sem]
          · have k4 : ¬ (dn : Int) < (b : Int) := by omega
            have HF : Hid (firstT (bs.drop j) = some (⟨b, s, []⟩, 3)) := hf
            clear hat htw hdt hn0 hf hp hq
            obtain ⟨w4, hw4⟩ : ∃ w4, w4 = wr := ⟨_, rfl⟩
            subst hw4
            go_wp2
            go_quiet (fail)
            go_wp2
            go_loopw [9, 13] (fun v9 v13 wr => ∃ i a9 c9, i ≤ s ∧ v13 = .int .i64 ((i : Nat) : Int) ∧ v9 = .slice a9 (dn + i) c9 ∧ Two w wr a1 c1 ts a9 (dn + i) c9 (cpy b i (outL ts))) (fun _ v13 _ => s - (intOf v13).toNat)
            case atStart =>
              refine ⟨0, a2, c2, Nat.zero_le _, rfl, rfl, ?_⟩
              have h := HAT.out.2
              rw [HDT.out] at h
              exact h.below (below_drewK (Below.refl _ _) _)
            case round =>
              obtain ⟨i, a9, c9, hi, rfl, rfl, h9⟩ := hrel
              obtain ⟨P, hP⟩ : ∃ P, dn + i = P := ⟨_, rfl⟩
              obtain ⟨o, ho'⟩ : ∃ o, cpy b i (outL ts) = o := ⟨_, rfl⟩
              have hol : o.length = P := by rw [← ho', cpy_len, outL_len, HDT.out]; exact hP
              rw [ho', hP] at h9
              rw [hP]
              have H9 : Hid (Two w wr a1 c1 ts a9 P c9 o ∧ cpy b i (outL ts) = o ∧ o.length = P ∧ dn + i = P) := ⟨h9, ho', hol, hP⟩
              by_cases hli : i < s
              · have ki : (i : Int) < (s : Int) := by omega
                obtain ⟨g, rfl⟩ : ∃ g, a9 = some ⟨g, 0, none⟩ := by
                  obtain ⟨g, cap, e, _⟩ := own_some h9.o (fun e => by simp only [Value.slice.injEq] at e; omega)
                  simp only [Value.slice.injEq] at e
                  exact ⟨g, e.1⟩
                obtain ⟨J, hJ⟩ : ∃ J, P - b = J := ⟨_, rfl⟩
                have wj : IntKind.i64.wrap ((P : Int) - (b : Int)) = (J : Int) := by rw [IntKind.wrap_i64]; omega
                have kj : (J : Int) < (P : Int) := by omega
                obtain ⟨x, hx⟩ : ∃ x, o.getD J 0 = x := ⟨_, rfl⟩
                have cj : wr.cell? ⟨g, J, none⟩ = some (.int .u8 (x.toNat : Int)) := by
                  refine own_at h9.o ?_
                  rw [← hx]
                  unfold bytesV
                  simp [List.getElem?_eq_getElem (show J < o.length by omega), List.getD_eq_getElem?_getD]
                obtain ⟨V1, a3, c3, W2, hV1, hr2, htw2⟩ := h9.byte x (by omega)
                obtain ⟨xn, hxn⟩ : ∃ n, x.toNat = n := ⟨_, rfl⟩
                obtain ⟨K, hK⟩ : ∃ K, wr.heap.size = K := ⟨_, rfl⟩
                rw [hxn] at cj hV1
                rw [hK] at hr2
                have HT2 : Hid (Two w W2 a1 c1 ts a3 (dn + (i + 1)) c3 (cpy b (i + 1) (outL ts))) := by
                  show Two w W2 a1 c1 ts a3 (dn + (i + 1)) c3 (cpy b (i + 1) (outL ts))
                  rw [cpy_snoc, ho', hol, hJ, hx, show dn + (i + 1) = P + 1 by omega]
                  exact htw2
                have hPi : P + 1 = dn + (i + 1) := by omega
                rw [hPi] at hr2
                clear h9 hol ho' hx hxn htw2 hJ
                go_wp2_with (at_builtin; refine wpList_app V1 rfl _ _ _ _ rfl rfl rfl (hr2 _) ?_)
                exact ⟨⟨i + 1, a3, c3, by omega, by go_num, rfl, HT2.out⟩, by simp [intOf]; omega⟩
              · have his : s = i := by omega
                subst his
                have ki : ¬ (s : Int) < (s : Int) := by omega
                have htl3 : ts.length ≤ 200000 := htl
                obtain ⟨V1, a3, c3, W2, hV1, hr2, htw2⟩ := h9.tok ⟨b, s, []⟩ htl3
                obtain ⟨tl, htl2⟩ : ∃ t, ts.length = t := ⟨_, rfl⟩
                rw [htl2] at hr2 ⊢
                obtain ⟨K, hK⟩ : ∃ K, wr.heap.size = K := ⟨_, rfl⟩
                rw [hK] at hr2
                have hV1 : wr.alloc (.cells #[.int .i64 (b : Int), .int .i64 (s : Int), .string ⟨#[]⟩] 56) = V1 := hV1
                have hto : Tk.told ⟨b, s, []⟩ = s := by simp [Tk.told]
                have hout : outL (ts ++ [Tk.mk b s []]) = o := by
                  rw [outL_snoc]
                  show cpy b s (outL ts ++ []) = o
                  rw [List.append_nil]; exact ho'
                have hte : toldL (ts ++ [Tk.mk b s []]) = P := by rw [toldL_app, toldL_one, hto, HDT.out]; exact hP
                have wu : IntKind.u64.wrap (P : Int) = (P : Int) := by rw [IntKind.wrap_u64]; omega
                have HT3 : Hid (Two w W2 a3 c3 (ts ++ [Tk.mk b s []]) a9 P c9 (outL (ts ++ [Tk.mk b s []])) ∧ (ts ++ [Tk.mk b s []]).length = tl + 1 ∧ toldL (ts ++ [Tk.mk b s []]) = P) := ⟨by rw [hout]; exact htw2, by rw [List.length_append, htl2]; rfl, hte⟩
                by_cases hq : n < P
                · have k5 : (n : Int) < (P : Int) := by omega
                  have HNO : Hid (∀ n ts, ¬ Whole bs n ts) := HAT.out.1.no HE.out (by rw [HN.out]; exact hlt) (fun t m e => by
                    rw [HF.out] at e; cases e; rw [hto, HDT.out]; omega)
                  clear h9 hol ho' htw2 htl2 hto hout hte
                  go_wp2_with (at_builtin; refine wpList_app V1 rfl _ _ _ _ rfl rfl rfl (hr2 _) ?_)
                  refine bodyPost_ret (v := .tuple #[.slice none 0 0, .string ⟨#[]⟩, .bool false]) ?_ rfl ⟨HT3.out.1.b, .inr ⟨HNO.out, _, _, rfl⟩⟩
                  simp [results, go_sem]
                · have k5 : ¬ (n : Int) < (P : Int) := by omega
                  have HAT3 : Hid (At n k bs E (ts ++ [Tk.mk b s []])) := by
                    show At n k bs E _
                    rw [← hE]
                    exact HAT.out.1.on HF.out (by simp only; rw [HDT.out]; omega) (by rw [hto, HDT.out]; omega) (by rw [HN.out]; omega)
                  clear h9 hol ho' htw2 htl2 hto hout hte
                  go_wp2_with (at_builtin; refine wpList_app V1 rfl _ _ _ _ rfl rfl rfl (hr2 _) ?_)
                  exact ⟨⟨E, ts ++ [Tk.mk b s []], a3, c3, a9, c9, rfl, by rw [HT3.out.2.1], by rw [HT3.out.2.2], by rw [HT3.out.2.2]; omega, HAT3.out, by rw [HT3.out.2.2]; exact HT3.out.1⟩, by simp [intOf]; omega⟩
    · have hjN2 : j = N := by omega
      subst hjN2
      have kk : ¬ (j : Int) < (j : Int) := by omega
      have hat2 : At n k bs bs.length ts := by rw [HN.out]; exact hat
      obtain ⟨hy, hnn⟩ := hat2.fin HE.out
      have hcv := (own_bs (htw.below ((Below.refl _ wr).drew)).o).convS
      rw [hdt] at hcv
      have wu : IntKind.u64.wrap (dn : Int) = (dn : Int) := by rw [IntKind.wrap_u64]; omega
      by_cases hdq : dn = n
      · subst hdq
        have HW : Hid (Whole bs dn ts) := hy hdt
        obtain ⟨U, hU⟩ : ∃ U, strOf (outL ts) = U := ⟨_, rfl⟩
        rw [hU] at hcv
        have HU : Hid (strOf (outL ts) = U) := hU
        obtain ⟨tl, htl2⟩ : ∃ t, ts.length = t := ⟨_, rfl⟩
        have HTL : Hid (ts.length = tl) := htl2
        rw [htl2]
        clear hat htw hdt hat2 hy hnn hU htl2
        go_wp2
        refine wp_region_held_drew (S := fun V => (convert 22 9 (.slice a2 dn c2)).run Try.prog V = .ok (.string U) V) (by kernel_rfl) (hcv) (fun hHeld => ?_)
        refine wpAnyH_take (i := 0) (v := ?va0) rfl (by kernel_rfl) (by kernel_rfl) (by kernel_rfl) (fun _ _ _ h => h) (Or.inl ⟨by first | kernel_rfl | rfl, ?ya0⟩) hHeld ?ra0
        case ya0 => (intro W hSW; (try dsimp only at hSW); go_simp; (try with_reducible rfl))
        change wpAnyH _ _ _ _ _ _ _ (Act.put _ (some 117) _) _
        simp only [Act.put, List.setIfInBounds_toArray, List.set_cons_zero, List.set_cons_succ]
        refine wpAnyH_take (i := 1) (v := ?va1) rfl (by kernel_rfl) (by kernel_rfl) (by kernel_rfl) (fun _ _ _ h => h) (Or.inl ⟨by first | kernel_rfl | rfl, ?ya1⟩) hHeld ?ra1
        case ya1 => (intro W hSW; (try dsimp only at hSW); go_simp; (try with_reducible rfl))
        change wpAnyH _ _ _ _ _ _ _ (Act.put _ (some 118) _) _
        simp only [Act.put, List.setIfInBounds_toArray, List.set_cons_zero, List.set_cons_succ]
        refine wpAnyH_take (i := 2) (v := ?va2) rfl (by kernel_rfl) (by kernel_rfl) (by kernel_rfl) (fun _ _ _ h => h) (Or.inl ⟨by first | kernel_rfl | rfl, ?ya2⟩) hHeld ?ra2
        case ya2 => (intro W hSW; (try dsimp only at hSW); go_simp; (try with_reducible rfl))
        change wpAnyH _ _ _ _ _ _ _ (Act.put _ (some 119) _) _
        simp only [Act.put, List.setIfInBounds_toArray, List.set_cons_zero, List.set_cons_succ]
        refine wpAnyH_take (i := 3) (v := ?va3) rfl (by kernel_rfl) (by kernel_rfl) (by kernel_rfl) (fun _ _ _ h => h) (Or.inl ⟨by first | kernel_rfl | rfl, ?ya3⟩) hHeld ?ra3
        case ya3 => (intro W hSW; (try dsimp only at hSW); go_simp; (try with_reducible rfl))
        change wpAnyH _ _ _ _ _ _ _ (Act.put _ (some 120) _) _
        simp only [Act.put, List.setIfInBounds_toArray, List.set_cons_zero, List.set_cons_succ]
        refine wpAnyH_take (i := 4) (v := ?va4) rfl (by kernel_rfl) (by kernel_rfl) (by kernel_rfl) (fun _ _ _ h => h) (Or.inl ⟨by first | kernel_rfl | rfl, ?ya4⟩) hHeld ?ra4
        case ya4 => (intro W hSW; (try dsimp only at hSW); go_simp; (try with_reducible rfl))
        change wpAnyH _ _ _ _ _ _ _ (Act.put _ (some 121) _) _
        simp only [Act.put, List.setIfInBounds_toArray, List.set_cons_zero, List.set_cons_succ]
        refine wpAnyH_take (i := 5) (v := ?va5) rfl (by kernel_rfl) (by kernel_rfl) (by kernel_rfl) (fun _ _ _ h => h) (Or.inl ⟨by first | kernel_rfl | rfl, ?ya5⟩) hHeld ?ra5
        case ya5 => (intro W hSW; (try dsimp only at hSW); go_simp; (try with_reducible rfl))
        change wpAnyH _ _ _ _ _ _ _ (Act.put _ (some 122) _) _
        simp only [Act.put, List.setIfInBounds_toArray, List.set_cons_zero, List.set_cons_succ]
        refine wpAnyH_take (i := 6) (v := ?va6) rfl (by kernel_rfl) (by kernel_rfl) (by kernel_rfl) (fun _ _ _ h => h) (Or.inl ⟨by first | kernel_rfl | rfl, ?ya6⟩) hHeld ?ra6
        case ya6 => (intro W hSW; (try dsimp only at hSW); go_simp; (try with_reducible rfl))
        change wpAnyH _ _ _ _ _ _ _ (Act.put _ (some 123) _) _
        simp only [Act.put, List.setIfInBounds_toArray, List.set_cons_zero, List.set_cons_succ]
        refine wpAnyH_take (i := 7) (v := ?va7) rfl (by kernel_rfl) (by kernel_rfl) (by kernel_rfl) (fun _ _ _ h => h) (Or.inl ⟨by first | kernel_rfl | rfl, ?ya7⟩) hHeld ?ra7
        case ya7 => (intro W hSW; (try dsimp only at hSW); go_simp; (try with_reducible rfl))
        change wpAnyH _ _ _ _ _ _ _ (Act.put _ (some 124) _) _
        simp only [Act.put, List.setIfInBounds_toArray, List.set_cons_zero, List.set_cons_succ]
        refine wpAnyH_take (i := 8) (v := ?va8) rfl (by kernel_rfl) (by kernel_rfl) (by kernel_rfl) (fun _ _ _ h => h) (Or.inl ⟨by first | kernel_rfl | rfl, ?ya8⟩) hHeld ?ra8
        case ya8 => (intro W hSW; (try dsimp only at hSW); go_simp; (try with_reducible rfl))
        change wpAnyH _ _ _ _ _ _ _ (Act.put _ (some 2) _) _
        simp only [Act.put, List.setIfInBounds_toArray, List.set_cons_zero, List.set_cons_succ]
        refine wpAnyH_take (i := 9) (v := ?va9) rfl (by kernel_rfl) (by kernel_rfl) (by kernel_rfl) (fun _ _ _ h => h) (Or.inl ⟨by first | kernel_rfl | rfl, ?ya9⟩) hHeld ?ra9
        case ya9 => (intro W hSW; (try dsimp only at hSW); go_simp; (try with_reducible rfl))
        change wpAnyH _ _ _ _ _ _ _ (Act.put _ (some 3) _) _
        simp only [Act.put, List.setIfInBounds_toArray, List.set_cons_zero, List.set_cons_succ]
        refine wpAnyH_take (i := 10) (v := ?va10) rfl (by kernel_rfl) (by kernel_rfl) (by kernel_rfl) (fun _ _ _ h => h) (Or.inl ⟨by first | kernel_rfl | rfl, ?ya10⟩) hHeld ?ra10
        case ya10 => (intro W hSW; (try dsimp only at hSW); go_simp; (try with_reducible rfl))
        change wpAnyH _ _ _ _ _ _ _ (Act.put _ (some 4) _) _
        simp only [Act.put, List.setIfInBounds_toArray, List.set_cons_zero, List.set_cons_succ]
        refine wpAnyH_done (by kernel_rfl) ?_ _
        clear hHeld
        go_wp2
        refine bodyPost_ret (v := .tuple #[.slice a1 tl c1, .string U, .bool true]) ?_ rfl ⟨HAT.out.2.b.drew, .inl ⟨dn, ts, a1, c1, HW.out, by rw [HTL.out, HU.out], ?_⟩⟩
        · simp [results, go_sem]
        · exact (HAT.out.2.below ((Below.refl _ wr).drew)).l
      · have k5 : ¬ (dn : Int) = (n : Int) := by omega
        have k6 : ((dn : Int) == (n : Int)) = false := by simpa using k5
        have HNO : Hid (∀ n ts, ¬ Whole bs n ts) := hnn (by rw [hdt]; exact hdq)
        obtain ⟨U, hU⟩ : ∃ U, strOf (outL ts) = U := ⟨_, rfl⟩
        rw [hU] at hcv
        obtain ⟨tl, htl2⟩ : ∃ t, ts.length = t := ⟨_, rfl⟩
        rw [htl2]
        clear hat htw hdt hat2 hy hnn hU htl2
        go_wp2
        refine wp_region_held_drew (S := fun V => (convert 22 9 (.slice a2 dn c2)).run Try.prog V = .ok (.string U) V) (by kernel_rfl) (hcv) (fun hHeld => ?_)
        refine wpAnyH_take (i := 0) (v := ?vb0) rfl (by kernel_rfl) (by kernel_rfl) (by kernel_rfl) (fun _ _ _ h => h) (Or.inl ⟨by first | kernel_rfl | rfl, ?yb0⟩) hHeld ?rb0
        case yb0 => (intro W hSW; (try dsimp only at hSW); go_simp; (try with_reducible rfl))
        change wpAnyH _ _ _ _ _ _ _ (Act.put _ (some 117) _) _
        simp only [Act.put, List.setIfInBounds_toArray, List.set_cons_zero, List.set_cons_succ]
        refine wpAnyH_take (i := 1) (v := ?vb1) rfl (by kernel_rfl) (by kernel_rfl) (by kernel_rfl) (fun _ _ _ h => h) (Or.inl ⟨by first | kernel_rfl | rfl, ?yb1⟩) hHeld ?rb1
        case yb1 => (intro W hSW; (try dsimp only at hSW); go_simp; (try with_reducible rfl))
        change wpAnyH _ _ _ _ _ _ _ (Act.put _ (some 118) _) _
        simp only [Act.put, List.setIfInBounds_toArray, List.set_cons_zero, List.set_cons_succ]
        refine wpAnyH_take (i := 2) (v := ?vb2) rfl (by kernel_rfl) (by kernel_rfl) (by kernel_rfl) (fun _ _ _ h => h) (Or.inl ⟨by first | kernel_rfl | rfl, ?yb2⟩) hHeld ?rb2
        case yb2 => (intro W hSW; (try dsimp only at hSW); go_simp; (try with_reducible rfl))
        change wpAnyH _ _ _ _ _ _ _ (Act.put _ (some 119) _) _
        simp only [Act.put, List.setIfInBounds_toArray, List.set_cons_zero, List.set_cons_succ]
        refine wpAnyH_take (i := 3) (v := ?vb3) rfl (by kernel_rfl) (by kernel_rfl) (by kernel_rfl) (fun _ _ _ h => h) (Or.inl ⟨by first | kernel_rfl | rfl, ?yb3⟩) hHeld ?rb3
        case yb3 => (intro W hSW; (try dsimp only at hSW); go_simp; (try with_reducible rfl))
        change wpAnyH _ _ _ _ _ _ _ (Act.put _ (some 120) _) _
        simp only [Act.put, List.setIfInBounds_toArray, List.set_cons_zero, List.set_cons_succ]
        refine wpAnyH_take (i := 4) (v := ?vb4) rfl (by kernel_rfl) (by kernel_rfl) (by kernel_rfl) (fun _ _ _ h => h) (Or.inl ⟨by first | kernel_rfl | rfl, ?yb4⟩) hHeld ?rb4
        case yb4 => (intro W hSW; (try dsimp only at hSW); go_simp; (try with_reducible rfl))
        change wpAnyH _ _ _ _ _ _ _ (Act.put _ (some 121) _) _
        simp only [Act.put, List.setIfInBounds_toArray, List.set_cons_zero, List.set_cons_succ]
        refine wpAnyH_take (i := 5) (v := ?vb5) rfl (by kernel_rfl) (by kernel_rfl) (by kernel_rfl) (fun _ _ _ h => h) (Or.inl ⟨by first | kernel_rfl | rfl, ?yb5⟩) hHeld ?rb5
        case yb5 => (intro W hSW; (try dsimp only at hSW); go_simp; (try with_reducible rfl))
        change wpAnyH _ _ _ _ _ _ _ (Act.put _ (some 122) _) _
        simp only [Act.put, List.setIfInBounds_toArray, List.set_cons_zero, List.set_cons_succ]
        refine wpAnyH_take (i := 6) (v := ?vb6) rfl (by kernel_rfl) (by kernel_rfl) (by kernel_rfl) (fun _ _ _ h => h) (Or.inl ⟨by first | kernel_rfl | rfl, ?yb6⟩) hHeld ?rb6
        case yb6 => (intro W hSW; (try dsimp only at hSW); go_simp; (try with_reducible rfl))
        change wpAnyH _ _ _ _ _ _ _ (Act.put _ (some 123) _) _
        simp only [Act.put, List.setIfInBounds_toArray, List.set_cons_zero, List.set_cons_succ]
        refine wpAnyH_take (i := 7) (v := ?vb7) rfl (by kernel_rfl) (by kernel_rfl) (by kernel_rfl) (fun _ _ _ h => h) (Or.inl ⟨by first | kernel_rfl | rfl, ?yb7⟩) hHeld ?rb7
        case yb7 => (intro W hSW; (try dsimp only at hSW); go_simp; (try with_reducible rfl))
        change wpAnyH _ _ _ _ _ _ _ (Act.put _ (some 124) _) _
        simp only [Act.put, List.setIfInBounds_toArray, List.set_cons_zero, List.set_cons_succ]
        refine wpAnyH_take (i := 8) (v := ?vb8) rfl (by kernel_rfl) (by kernel_rfl) (by kernel_rfl) (fun _ _ _ h => h) (Or.inl ⟨by first | kernel_rfl | rfl, ?yb8⟩) hHeld ?rb8
        case yb8 => (intro W hSW; (try dsimp only at hSW); go_simp; (try with_reducible rfl))
        change wpAnyH _ _ _ _ _ _ _ (Act.put _ (some 2) _) _
        simp only [Act.put, List.setIfInBounds_toArray, List.set_cons_zero, List.set_cons_succ]
        refine wpAnyH_take (i := 9) (v := ?vb9) rfl (by kernel_rfl) (by kernel_rfl) (by kernel_rfl) (fun _ _ _ h => h) (Or.inl ⟨by first | kernel_rfl | rfl, ?yb9⟩) hHeld ?rb9
        case yb9 => (intro W hSW; (try dsimp only at hSW); go_simp; (try with_reducible rfl))
        change wpAnyH _ _ _ _ _ _ _ (Act.put _ (some 3) _) _
        simp only [Act.put, List.setIfInBounds_toArray, List.set_cons_zero, List.set_cons_succ]
        refine wpAnyH_take (i := 10) (v := ?vb10) rfl (by kernel_rfl) (by kernel_rfl) (by kernel_rfl) (fun _ _ _ h => h) (Or.inl ⟨by first | kernel_rfl | rfl, ?yb10⟩) hHeld ?rb10
        case yb10 => (intro W hSW; (try dsimp only at hSW); go_simp; (try with_reducible rfl))
        change wpAnyH _ _ _ _ _ _ _ (Act.put _ (some 4) _) _
        simp only [Act.put, List.setIfInBounds_toArray, List.set_cons_zero, List.set_cons_succ]
        refine wpAnyH_done (by kernel_rfl) ?_ _
        clear hHeld
        go_wp2
        refine bodyPost_ret (v := .tuple #[.slice a1 tl c1, .string U, .bool false]) ?_ rfl ⟨HAT.out.2.b.drew, .inr ⟨HNO.out, _, _, rfl⟩⟩
        simp [results, go_sem]
end Go.Proofs.Ytekbmdpokghmmaa
