/- The document's Join. -/
import Derived.Test.YtekbmdpokghmmaaLZ
namespace Go.Proofs.Ytekbmdpokghmmaa
open Go.RowKit Lz
/-- What the document's Join answers. -/
def RjTo (w : World) (l : List RT) (e : Ending) (w' : World) : Prop := ∃ o c, JS l o c ∧ e = .returned (.tuple #[.string (strOf o), .int .i64 ((c : Nat) : Int)]) ∧ Below w.heap.size w w'
theorem RjTo.nil {w : World} {l : List RT} {w' : World} {c : Nat} (h : JS l [] c) (hb : Below w.heap.size w w') : RjTo w l (.returned (.tuple #[.string ⟨#[]⟩, .int .i64 (c : Int)])) w' := ⟨[], c, h, rfl, hb⟩
theorem conv_new (w : World) (l : List UInt8) (hl : l.length ≤ 1000) : (convert 22 9 (.slice (some ⟨w.heap.size, 0, none⟩) l.length l.length)).run Try.prog (w.alloc (.cells (bytesV l).toArray 5)) = .ok (.string (strOf l)) (w.alloc (.cells (bytesV l).toArray 5)) := by
  have h : (w.alloc (.cells (bytesV l).toArray 5)).ownsRow 0 5 1 (.slice (some ⟨w.heap.size, 0, none⟩) l.length l.length) l.length (bytesV l) := by
    refine ⟨by rw [bytesV_len, Nat.mul_one], .inr ⟨w.heap.size, l.length, _, rfl, Nat.zero_le _, heap_alloc_new w _, Nat.le_refl _, by unfold maxLen; omega, by simp [bytesV_len], ?_⟩⟩
    rw [Nat.mul_one]
    exact List.take_of_length_le (by simp [bytesV_len])
  exact (own_bs h).convS
theorem strOf_cat (a b : List UInt8) : strOf a ++ strOf b = strOf (a ++ b) := (strOf_append a b).symm
theorem bk_rest {ts : List Tk} : ∀ {d : Nat}, (∀ t ∈ ts, t.Ok) → 65536 ≤ d → Bk d ts := by
  induction ts with
  | nil => intros; trivial
  | cons t ts ih =>
    intro d h1 h2
    refine ⟨?_, ih (fun u hu => h1 u (List.mem_cons_of_mem _ hu)) (by omega)⟩
    rcases h1 t List.mem_cons_self with h | h
    · have := h.2.2.1; omega
    · have := h.2.2.2.2; omega
set_option maxRecDepth 100000 in
set_option maxHeartbeats 8000000 in
theorem rjoin_any {w : World} {a : Option Addr} {n c : Nat} {l : List RT} (h : Rw (fun _ => True) w 56 3 a n c (rtsV l)) (hn : n ≤ 600) (hl : l.length = n) : Calls Try.prog 20 #[.slice a n c] w (RjTo w l) := by
  have H : Hid (Rw (fun _ => True) w 56 3 a n c (rtsV l) ∧ l.length = n) := ⟨h, hl⟩
  have HN : Hid (n ≤ 600) := hn
  clear h hl
  go_enter Try.func20, Try.ntmps20
  go_wp2
  go_loopw [5] (fun v5 wr => ∃ i : Nat, i ≤ n ∧ v5 = .int .i64 (i : Int) ∧ (∀ t ∈ l.take i, t.ok) ∧ Below w.heap.size w wr) (fun v5 _ => n - (intOf v5).toNat)
  case atStart => exact ⟨0, Nat.zero_le _, rfl, fun t ht => by simp at ht, Below.refl _ _⟩
  case round =>
    obtain ⟨i, hi, rfl, hall, hb⟩ := hrel
    have HBW : Hid (Below w.heap.size w wr) := hb
    by_cases hlt : i < n
    · have kk : (i : Int) < (n : Int) := by omega
      obtain ⟨t, ht⟩ : ∃ t, l[i]? = some t := ⟨_, List.getElem?_eq_getElem (by rw [H.out.2]; exact hlt)⟩
      obtain ⟨b, o, rfl, hbl, d0, d1, d2⟩ := rt_cells (H.out.1.below hb) ht hlt
      have HI : Hid (l[i]? = some t ∧ ∀ t ∈ l.take i, t.ok) := ⟨ht, hall⟩
      have HRI := right_any t wr
      obtain ⟨S, hS⟩ : ∃ S, strOf t.d = S := ⟨_, rfl⟩
      rw [hS] at HRI d2
      have HRI : Hid (Calls Try.prog 33 #[.agg #[.int .i64 t.b, .int .i64 t.s, .string S]] wr (BoTo wr t.ok)) := HRI
      clear hb ht hall hS hbl
      go_wp2_with fail
      refine HRI.out.mono ?_
      rintro e V2 ⟨r1, rfl, hr1, hV2⟩
      have HV : Hid (Below w.heap.size w V2) := HBW.out.trans (hV2.mono HBW.out.size)
      clear hV2 d0 d1 d2
      cases r1 with
      | true =>
        have HOK : Hid (∀ t ∈ l.take (i + 1), t.ok) := by
          show ∀ t ∈ l.take (i + 1), t.ok
          rw [take_next HI.out.1]
          intro u hu
          rcases List.mem_append.1 hu with hu | hu
          · exact HI.out.2 u hu
          · rw [List.mem_singleton.1 hu]; exact hr1.1 rfl
        clear hr1
        go_wp2
        exact ⟨⟨i + 1, by omega, by go_num, HOK.out, HV.out⟩, by simp [intOf]; omega⟩
      | false =>
        have HJ : Hid (JS l [] 1) := .inl ⟨fun hv => absurd (hr1.2 (hv.1 t (List.mem_of_getElem? HI.out.1))) (by decide), rfl, rfl⟩
        clear hr1
        go_wp2
        go_ret2
        exact RjTo.nil HJ.out HV.out
    · have kk : ¬ (i : Int) < (n : Int) := by omega
      have hlen : l.length ≤ i := by rw [H.out.2]; omega
      rw [List.take_of_length_le hlen] at hall
      have HOK : Hid (∀ t ∈ l, t.ok) := hall
      obtain ⟨w4, hw4⟩ : ∃ w4, w4 = wr := ⟨_, rfl⟩
      subst hw4
      clear hall hb hlen
      go_wp2
      go_loopw [4, 6] (fun v4 v6 wr => ∃ (j sz : Nat), j ≤ n ∧ v6 = .int .i64 (j : Int) ∧ v4 = .int .i64 (sz : Int) ∧ Bk 0 (tks (l.take j)) ∧ toldL (tks (l.take j)) = sz ∧ Below w.heap.size w wr) (fun _ v6 _ => n - (intOf v6).toNat)
      case atStart => exact ⟨0, 0, Nat.zero_le _, rfl, rfl, trivial, rfl, HBW.out⟩
      case round =>
        obtain ⟨j, sz, hj, rfl, rfl, hbk, hsz, hb⟩ := hrel
        have hokj : ∀ t ∈ l.take j, t.ok := fun t ht => HOK.out t (List.mem_of_mem_take ht)
        have hsz2 : sz ≤ 78000 := by
          have := told_few (tks_ok hokj)
          rw [hsz, List.length_map, List.length_take, H.out.2] at this
          omega
        have HB : Hid (Below w.heap.size w wr ∧ Bk 0 (tks (l.take j)) ∧ toldL (tks (l.take j)) = sz) := ⟨hb, hbk, hsz⟩
        by_cases hgo : j < n ∧ sz ≤ 65536
        · have hlj : j < n := hgo.1
          have kj : (j : Int) < (n : Int) := by omega
          have ks : (sz : Int) ≤ 65536 := by omega
          obtain ⟨t, ht⟩ : ∃ t, l[j]? = some t := ⟨_, List.getElem?_eq_getElem (by rw [H.out.2]; exact hlj)⟩
          obtain ⟨b, o, rfl, hbl, d0, d1, d2⟩ := rt_cells (H.out.1.below hb) ht hlj
          have hok : t.ok := HOK.out t (List.mem_of_getElem? ht)
          obtain ⟨h1, h2, h3⟩ := hok.tok
          have hto130 := h1.told_le
          obtain ⟨S, hS⟩ : ∃ S, strOf t.d = S := ⟨_, rfl⟩
          have hzS : S.size = t.d.length := by rw [← hS]; exact strOf_size _
          rw [hS] at d2
          obtain ⟨tb, htb⟩ : ∃ n, t.tk.b = n := ⟨_, rfl⟩
          obtain ⟨tn, htn⟩ : ∃ n, t.tk.s = n := ⟨_, rfl⟩
          rw [h2, htb] at d0
          rw [h3, htn] at d1
          have hto : t.tk.told = S.size + tn := by unfold Tk.told; rw [htn, hzS]; rfl
          have HT : Hid (l[j]? = some t ∧ t.tk.b = tb ∧ t.tk.told = S.size + tn) := ⟨ht, htb, hto⟩
          rw [hto] at hto130
          have ws1 : IntKind.i64.wrap ((sz : Int) + (S.size : Int)) = (sz : Int) + (S.size : Int) := wrapI _ (by omega) (by omega)
          have ws2 : IntKind.i64.wrap ((sz : Int) + (S.size : Int) + (tn : Int)) = (sz : Int) + (S.size : Int) + (tn : Int) := wrapI _ (by omega) (by omega)
          clear hb hbk hsz hokj ht hok h1 h2 h3 hS hzS htb htn hto hbl
          by_cases hbd : sz < tb
          · have k5 : (sz : Int) < (tb : Int) := by omega
            have HJ : Hid (JS l [] 1) := .inl ⟨fun hv => by
              have := hv.take (j + 1)
              rw [take_next HT.out.1] at this
              have := this.last.2
              rw [HB.out.2.2, HT.out.2.1] at this
              omega, rfl, rfl⟩
            go_wp2
            go_ret2
            exact RjTo.nil HJ.out HB.out.1
          · have k5 : ¬ (sz : Int) < (tb : Int) := by omega
            have HN2 : Hid (Bk 0 (tks (l.take (j + 1))) ∧ toldL (tks (l.take (j + 1))) = sz + S.size + tn) := by
              show Bk 0 _ ∧ _
              rw [take_next HT.out.1]
              refine ⟨?_, by rw [told_snoc, HB.out.2.2, HT.out.2.2]; omega⟩
              rw [show tks (l.take j ++ [t]) = tks (l.take j) ++ [t.tk] by simp [tks], Bk.app]
              exact ⟨HB.out.2.1, by rw [HB.out.2.2, HT.out.2.1]; omega, trivial⟩
            go_wp2
            go_quiet (fail)
            go_wp2
            exact ⟨⟨j + 1, sz + S.size + tn, by omega, by go_num, by go_num, HN2.out.1, HN2.out.2, below_drewK HB.out.1 _⟩, by simp [intOf]; omega⟩
        · by_cases hbig : 65536 < sz
          · have k5 : (65536 : Int) < (sz : Int) := by omega
            have k6 : ¬ (sz : Int) ≤ 65536 := by omega
            have HJ : Hid (JS l [] 2) := by
              have e : tks l = tks (l.take j) ++ tks (l.drop j) := by rw [← show tks (l.take j ++ l.drop j) = tks (l.take j) ++ tks (l.drop j) by simp [tks], List.take_append_drop]
              have h1 : toldL (tks l) = sz + toldL (tks (l.drop j)) := by rw [e, toldL_app, HB.out.2.2]
              refine .inr (.inl ⟨⟨HOK.out, ?_⟩, by omega, rfl, rfl⟩)
              rw [e, Bk.app]
              exact ⟨HB.out.2.1, bk_rest (tks_ok (fun t ht => HOK.out t (List.mem_of_mem_drop ht))) (by rw [HB.out.2.2]; omega)⟩
            clear hb hbk hsz hokj hgo
            by_cases hlj : j < n
            · have kj : (j : Int) < (n : Int) := by omega
              go_wp2
              go_ret2
              exact RjTo.nil HJ.out HB.out.1
            · have kj : ¬ (j : Int) < (n : Int) := by omega
              go_wp2
              go_ret2
              exact RjTo.nil HJ.out HB.out.1
          · have hjn : ¬ j < n := fun h => hgo ⟨h, by omega⟩
            have kj : ¬ (j : Int) < (n : Int) := by omega
            have k5 : ¬ (65536 : Int) < (sz : Int) := by omega
            rw [List.take_of_length_le (by rw [H.out.2]; omega)] at hbk hsz
            have HV : Hid (Vd l ∧ toldL (tks l) = sz ∧ sz ≤ 65536) := ⟨⟨HOK.out, hbk⟩, hsz, by omega⟩
            have HBw : Hid (Below w.heap.size w wr) := hb
            have hwu : IntKind.u64.wrap (sz : Int) = (sz : Int) := by rw [IntKind.wrap_u64]; omega
            have HRP : Hid (∀ V, Calls Try.prog 34 #[.int .u64 (sz : Int)] V fun e w' => e = .returned (.string (strOf (putN sz))) ∧ Below V.heap.size V w') := fun V => rput (sz : Int) V (by omega) (by omega)
            obtain ⟨w5, hw5⟩ : ∃ w5, w5 = wr := ⟨_, rfl⟩
            subst hw5
            clear hb hbk hsz hokj hgo HB
            go_wp2_with fail
            refine (HRP.out _).mono ?_
            rintro e V5 ⟨rfl, hb5⟩
            have H5 : Hid (Below w.heap.size w V5) := HBw.out.trans (hb5.mono HBw.out.size)
            have hP3 := putN_len3 (n := sz) (by omega)
            have HP3 : Hid ((putN sz).length ≤ 3) := hP3
            clear hb5 HRP hP3
            go_wp2
            go_loopw [7, 8] (fun v7 v8 wr => ∃ (i : Nat) (T : ByteArray), i ≤ n ∧ v8 = .int .i64 (i : Int) ∧ v7 = .string T ∧ T = strOf (putN sz ++ encL (tks (l.take i))) ∧ Below w.heap.size w wr) (fun _ v8 _ => n - (intOf v8).toNat)
            case atStart =>
              have e : putN sz ++ encL (tks (l.take 0)) = putN sz := by simp [tks, encL]
              exact ⟨0, _, Nat.zero_le _, rfl, rfl, by rw [e], H5.out⟩
            case round =>
              obtain ⟨i, T, hi, rfl, rfl, hT, hb⟩ := hrel
              have hTl : T.size ≤ 140003 := by
                rw [hT, strOf_size, List.length_append]
                have h1 := HV.out.1.take i
                have h4 := told_few (tks_ok h1.1)
                have h2 := h1.2.goes (size := 1000000) (tks_ok h1.1) (by
                  rw [List.length_map, List.length_take, H.out.2] at h4
                  have := HN.out
                  omega)
                have h3 := encL_le h2
                have h5 : toldL (tks (l.take i)) ≤ sz := by
                  have := HV.out.2.1
                  rw [← List.take_append_drop i l, show tks (l.take i ++ l.drop i) = tks (l.take i) ++ tks (l.drop i) by simp [tks], toldL_app] at this
                  omega
                have := HV.out.2.2
                have := HP3.out
                omega
              have HT : Hid (T = strOf (putN sz ++ encL (tks (l.take i))) ∧ Below w.heap.size w wr) := ⟨hT, hb⟩
              by_cases hli : i < n
              · have ki : (i : Int) < (n : Int) := by omega
                obtain ⟨t, ht⟩ : ∃ t, l[i]? = some t := ⟨_, List.getElem?_eq_getElem (by rw [H.out.2]; exact hli)⟩
                obtain ⟨b, o, rfl, hbl, d0, d1, d2⟩ := rt_cells (H.out.1.below hb) ht hli
                have hok : t.ok := HOK.out t (List.mem_of_getElem? ht)
                have hnext : ∀ u, u = t.tk.enc → T ++ strOf u = strOf (putN sz ++ encL (tks (l.take (i + 1)))) := fun u hu => by
                  rw [hT, hu, strOf_cat, take_next ht, enc_snoc, List.append_assoc]
                obtain ⟨C, hC⟩ : ∃ C, wr.heap.size = C := ⟨_, rfl⟩
                rcases hok with hok | hok
                · obtain ⟨tb, ts, td⟩ := t
                  obtain ⟨h1, h2, h3, h4⟩ := hok
                  simp only at h1 h2 h3 h4 d0 d1 d2
                  subst h3 h4
                  obtain ⟨x, hx⟩ : ∃ x, UInt8.ofNat (td.length - 1) = x := ⟨_, rfl⟩
                  obtain ⟨xn, hxn⟩ : ∃ n, x.toNat = n := ⟨_, rfl⟩
                  have hxd : xn = td.length - 1 := by rw [← hxn, ← hx]; exact toNat_of (by omega)
                  have henc : RT.tk ⟨0, 0, td⟩ = ⟨0, 0, td⟩ := rfl
                  have hen2 : (RT.tk ⟨0, 0, td⟩).enc = [x] ++ td := by
                    rw [henc]
                    have : Tk.Own ⟨0, 0, td⟩ := ⟨h1, h2, rfl, rfl⟩
                    rw [this.enc, hx]; rfl
                  have hnx := hnext _ hen2.symm
                  rw [← strOf_cat, ← ByteArray.append_assoc] at hnx
                  have hem := nil_str (d := td) (fun e => by rw [e] at h1; simp at h1)
                  have hzS : (strOf td).size = td.length := strOf_size td
                  have hzX : (strOf [x]).size = 1 := strOf_size [x]
                  have hcv0 := fun V => conv_new V [x] (by simp)
                  have hbv : bytesV [x] = [.int .u8 (xn : Int)] := by rw [← hxn]; rfl
                  rw [hbv] at hcv0
                  obtain ⟨S, hS⟩ : ∃ S, strOf td = S := ⟨_, rfl⟩
                  rw [hS] at d2 hem hzS hnx
                  obtain ⟨X, hX⟩ : ∃ X, strOf [x] = X := ⟨_, rfl⟩
                  rw [hX] at hnx hzX hcv0
                  obtain ⟨Y, hY⟩ : ∃ Y, T ++ X = Y := ⟨_, rfl⟩
                  have hYs : Y.size = T.size + 1 := by rw [← hY, ByteArray.size_append, hzX]
                  rw [hY] at hnx
                  obtain ⟨Z, hZ⟩ : ∃ Z, Y ++ S = Z := ⟨_, rfl⟩
                  rw [hZ] at hnx
                  have HZ : Hid (Z = strOf (putN sz ++ encL (tks (l.take (i + 1))))) := hnx
                  have n1 : ¬ 9223372036854775807 < T.size + X.size := by omega
                  have n2 : ¬ 9223372036854775807 < Y.size + S.size := by omega
                  have wsz : IntKind.i64.wrap ((S.size : Int) - 1) = (xn : Int) := by rw [IntKind.wrap_i64]; omega
                  have w8 : IntKind.u8.wrap (xn : Int) = (xn : Int) := by rw [IntKind.wrap_u8']; omega
                  obtain ⟨W1, hW1⟩ : ∃ W, wr.alloc (.cells #[.int .i64 0, .int .i64 0, .string S] 56) = W := ⟨_, rfl⟩
                  have hr1 : W1.heap[C]? = some (.cells #[.int .i64 0, .int .i64 0, .string S] 56 (0, 0)) := by rw [← hW1, ← hC]; exact heap_alloc_new wr _
                  have z2 : W1.cell? ⟨C, 2, none⟩ = some (.string S) := by rw [cell_of_row _ _ _ _ _ _ hr1]; rfl
                  obtain ⟨K, hK⟩ : ∃ K, W1.heap.size = K := ⟨_, rfl⟩
                  obtain ⟨V1, hV1⟩ : ∃ V, W1.alloc (.cells #[.int .u8 (xn : Int)] 5) = V := ⟨_, rfl⟩
                  have hcv := hcv0 W1
                  rw [hK] at hcv
                  have hcv : (convert 22 9 (.slice (some ⟨K, 0, none⟩) 1 1)).run Try.prog V1 = .ok (.string X) V1 := by rw [← hV1]; exact hcv
                  have z2' : V1.cell? ⟨C, 2, none⟩ = some (.string S) := by rw [← hV1]; exact keepc ((Below.refl _ W1).alloc (Nat.le_refl _) _) z2
                  have HBV : Hid (Below w.heap.size w V1) := by
                    show Below _ _ V1
                    rw [← hV1, ← hW1]
                    exact (hb.alloc hb.size _).alloc (by have := hb.size; simp; omega) _
                  clear hT hb ht hnext hx hxn hxd henc hen2 hS hX hcv0 hbv hr1 hnx hbl hzS hzX hYs
                  go_wp2
                  exact ⟨⟨i + 1, Z, by omega, by go_num, rfl, HZ.out, HBV.out⟩, by simp [intOf]; omega⟩
                · obtain ⟨tb0, ts0, td⟩ := t
                  have hokk : RT.ok ⟨tb0, ts0, td⟩ := .inr hok
                  obtain ⟨g1, g2, g3⟩ := hokk.tok
                  obtain ⟨h1, h2, h3, h4, h5⟩ := hok
                  simp only at h1 h2 h3 h4 h5 d0 d1 d2
                  subst h1
                  obtain ⟨tb, htb⟩ : ∃ n, (RT.tk ⟨tb0, ts0, []⟩).b = n := ⟨_, rfl⟩
                  obtain ⟨tn, htn⟩ : ∃ n, (RT.tk ⟨tb0, ts0, []⟩).s = n := ⟨_, rfl⟩
                  rw [htb] at g2
                  rw [htn] at g3
                  simp only at g2 g3
                  subst g2 g3
                  obtain ⟨D, hD⟩ : ∃ D, tb - 1 = D := ⟨_, rfl⟩
                  obtain ⟨p, hp⟩ : ∃ p, D / 256 = p := ⟨_, rfl⟩
                  obtain ⟨q, hq⟩ : ∃ q, D % 256 = q := ⟨_, rfl⟩
                  have hen2 : (RT.tk ⟨(tb : Int), (tn : Int), []⟩).enc = [UInt8.ofNat (tn + 125), UInt8.ofNat p, UInt8.ofNat q] := by
                    have he : RT.tk ⟨(tb : Int), (tn : Int), []⟩ = ⟨tb, tn, []⟩ := rfl
                    rw [he]
                    unfold Tk.enc
                    rw [if_neg (by simp only; omega)]
                    simp only [hD, hp, hq]
                  have hnx := hnext _ hen2.symm
                  have hcv0 := fun V => conv_new V [UInt8.ofNat (tn + 125), UInt8.ofNat p, UInt8.ofNat q] (by simp)
                  have hbv : bytesV [UInt8.ofNat (tn + 125), UInt8.ofNat p, UInt8.ofNat q] = [.int .u8 ((tn : Int) + 125), .int .u8 (p : Int), .int .u8 (q : Int)] := by
                    show [Value.int .u8 (((UInt8.ofNat (tn + 125)).toNat : Nat) : Int), Value.int .u8 (((UInt8.ofNat p).toNat : Nat) : Int), Value.int .u8 (((UInt8.ofNat q).toNat : Nat) : Int)] = _
                    rw [toNat_of (by omega), toNat_of (by omega), toNat_of (by omega), show ((tn + 125 : Nat) : Int) = (tn : Int) + 125 by omega]
                  rw [hbv] at hcv0
                  have hzX : (strOf [UInt8.ofNat (tn + 125), UInt8.ofNat p, UInt8.ofNat q]).size = 3 := strOf_size _
                  obtain ⟨X, hX⟩ : ∃ X, strOf [UInt8.ofNat (tn + 125), UInt8.ofNat p, UInt8.ofNat q] = X := ⟨_, rfl⟩
                  rw [hX] at hnx hzX hcv0
                  obtain ⟨Z, hZ⟩ : ∃ Z, T ++ X = Z := ⟨_, rfl⟩
                  rw [hZ] at hnx
                  have HZ : Hid (Z = strOf (putN sz ++ encL (tks (l.take (i + 1))))) := hnx
                  have n1 : ¬ 9223372036854775807 < T.size + X.size := by omega
                  have wb : IntKind.i64.wrap ((tb : Int) - 1) = (D : Int) := by rw [IntKind.wrap_i64]; omega
                  have ws : IntKind.i64.wrap ((tn : Int) + 125) = (tn : Int) + 125 := by rw [IntKind.wrap_i64]; omega
                  have w8 : IntKind.u8.wrap ((tn : Int) + 125) = (tn : Int) + 125 := by rw [IntKind.wrap_u8']; omega
                  have hdv : (D : Int).tdiv 256 = (p : Int) := by rw [Int.tdiv_eq_ediv_of_nonneg (by omega)]; omega
                  have hmd : (D : Int).tmod 256 = (q : Int) := by rw [Int.tmod_eq_emod_of_nonneg (by omega)]; omega
                  have k10 : ((D : Int)) / 256 = (p : Int) := by omega
                  have k11 : ((D : Int)) % 256 = (q : Int) := by omega
                  have wp : IntKind.i64.wrap (p : Int) = (p : Int) := by rw [IntKind.wrap_i64]; omega
                  have wq : IntKind.i64.wrap (q : Int) = (q : Int) := by rw [IntKind.wrap_i64]; omega
                  have wp' : IntKind.i64.wrap ((D : Int) / 256) = (p : Int) := by rw [IntKind.wrap_i64]; omega
                  have wq' : IntKind.i64.wrap ((D : Int) % 256) = (q : Int) := by rw [IntKind.wrap_i64]; omega
                  have w9 : IntKind.u8.wrap (p : Int) = (p : Int) := by rw [IntKind.wrap_u8']; omega
                  have w10 : IntKind.u8.wrap (q : Int) = (q : Int) := by rw [IntKind.wrap_u8']; omega
                  have hem : (strOf []).toList.isEmpty = true := by rw [ByteArray.toList_eq]; rfl
                  obtain ⟨S, hS⟩ : ∃ S, strOf [] = S := ⟨_, rfl⟩
                  rw [hS] at d2 hem
                  obtain ⟨W1, hW1⟩ : ∃ W, wr.alloc (.cells #[.int .i64 (tb : Int), .int .i64 (tn : Int), .string S] 56) = W := ⟨_, rfl⟩
                  have hr1 : W1.heap[C]? = some (.cells #[.int .i64 (tb : Int), .int .i64 (tn : Int), .string S] 56 (0, 0)) := by rw [← hW1, ← hC]; exact heap_alloc_new wr _
                  have z0 : W1.cell? ⟨C, 0, none⟩ = some (.int .i64 (tb : Int)) := by rw [cell_of_row _ _ _ _ _ _ hr1]; rfl
                  have z1 : W1.cell? ⟨C, 1, none⟩ = some (.int .i64 (tn : Int)) := by rw [cell_of_row _ _ _ _ _ _ hr1]; rfl
                  have z2 : W1.cell? ⟨C, 2, none⟩ = some (.string S) := by rw [cell_of_row _ _ _ _ _ _ hr1]; rfl
                  obtain ⟨K, hK⟩ : ∃ K, W1.heap.size = K := ⟨_, rfl⟩
                  obtain ⟨V1, hV1⟩ : ∃ V, W1.alloc (.cells #[.int .u8 ((tn : Int) + 125), .int .u8 (p : Int), .int .u8 (q : Int)] 5) = V := ⟨_, rfl⟩
                  have hcv := hcv0 W1
                  rw [hK] at hcv
                  have hcv : (convert 22 9 (.slice (some ⟨K, 0, none⟩) 3 3)).run Try.prog V1 = .ok (.string X) V1 := by rw [← hV1]; exact hcv
                  have HBV : Hid (Below w.heap.size w V1) := by
                    show Below _ _ V1
                    rw [← hV1, ← hW1]
                    exact (hb.alloc hb.size _).alloc (by have := hb.size; simp; omega) _
                  clear hT hb ht hnext htb htn hD hp hq hen2 hX hcv0 hbv hr1 hnx hbl hzX g1 hokk hS
                  go_wp2
                  exact ⟨⟨i + 1, Z, by omega, by go_num, rfl, HZ.out, HBV.out⟩, by simp [intOf]; omega⟩
              · have ki : ¬ (i : Int) < (n : Int) := by omega
                rw [List.take_of_length_le (by rw [H.out.2]; omega)] at hT
                have HJ : Hid (JS l (putN sz ++ encL (tks l)) 0 ∧ T = strOf (putN sz ++ encL (tks l))) := ⟨.inr (.inr ⟨HV.out.1, by rw [HV.out.2.1]; exact HV.out.2.2, by unfold packL; rw [HV.out.2.1], rfl⟩), hT⟩
                clear hT hb hTl
                go_wp2
                go_ret2
                exact ⟨putN sz ++ encL (tks l), 0, HJ.out.1, by rw [HJ.out.2]; rfl, HT.out.2⟩
end Go.Proofs.Ytekbmdpokghmmaa
