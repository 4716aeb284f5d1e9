/- A walk over the program's Encode. A walk over the program's Decode. -/
import Derived.Test.YtkhidkilkbmpoaaDoorRH
import Derived.Test.YtkhidkilkbmpoaaDoorQG
namespace Go.Proofs.YtkhidkilkbmpoaaDoor
open Go.RowKit
def EnTo (w : World) (bs : List UInt8) (e : Ending) (w' : World) : Prop := ∃ (a : Option Addr) (n c : Nat), e = .returned (.tuple #[.slice a n c, .int .i64 0]) ∧ Bs w' a n c bs ∧ Below w.heap.size w w'
theorem Bs.ownB {w : World} {base : Nat} {a : Option Addr} {n cap : Nat} {bs : List UInt8} (h : w.ownsRow base 5 1 (.slice a n cap) n (bytesV bs)) : Bs w a n cap bs := by
  rcases h.2 with ⟨e, h0⟩ | ⟨g, c, cur, e, _⟩
  · cases e
    have hl : bs.length = 0 := by have := h.1; simpa [bytesV] using this
    obtain rfl := List.eq_nil_of_length_eq_zero hl
    exact Bs.nil w
  · cases e
    exact Bs.owned h
set_option maxRecDepth 100000 in
set_option maxHeartbeats 1000000 in
theorem aenc_no {w : World} {a : Option Addr} {ln cp : Nat} {l : List En} (s : ByteArray) (n : Int) (h : Ew w a ln cp l) (hm : mayA ⟨s, n, l⟩ = false) : Calls Tryd.prog 29 #[.agg #[.string s, .int .i64 n, .slice a ln cp]] w fun e w' => e = .returned (.tuple #[.slice none 0 0, .int .i64 1]) ∧ Below w.heap.size w w' := by
  obtain ⟨pb, hpb⟩ : ∃ pb, w.heap.size = pb := ⟨_, rfl⟩
  obtain ⟨V1, hV1, r1, hb1⟩ := box_au 27 (w := w) s n a ln cp
  rw [hpb] at r1
  obtain ⟨y0, y1, y2, _⟩ := row3 r1
  have HB : Hid (Below w.heap.size w V1) := hb1
  have HM := amay_any s n (h.below hb1)
  rw [hm] at HM
  unfold YeTo at HM
  clear r1 hb1 h hm
  go_enter Tryd.func29, Tryd.ntmps29
  go_wp2_with fail
  refine HM.mono ?_
  rintro e V2 ⟨rfl, hb2⟩
  have HE : Hid (Below w.heap.size w V2) := HB.out.trans (hb2.mono HB.out.size)
  clear HM hb2
  go_wp2
  go_ret2
  exact ⟨rfl, HE.out⟩
set_option maxRecDepth 100000 in
set_option maxHeartbeats 2000000 in
theorem aenc_ok {w : World} {a : Option Addr} {ln cp : Nat} {l : List En} (s : ByteArray) (n : Nat) (h : Ew w a ln cp l) (hm : mayA ⟨s, (n : Int), l⟩ = true) : Calls Tryd.prog 29 #[.agg #[.string s, .int .i64 (n : Int), .slice a ln cp]] w fun e w' => EnTo w (encA ⟨s, (n : Int), l⟩) e w' := by
  have hl := h.len
  obtain ⟨pb, hpb⟩ : ∃ pb, w.heap.size = pb := ⟨_, rfl⟩
  obtain ⟨V1, hV1, r1, hb1⟩ := box_au 27 (w := w) s (n : Int) a ln cp
  rw [hpb] at r1
  have HK : Hid (∀ W, Below V1.heap.size V1 W → W.cell? ⟨pb, 0, none⟩ = some (.string s) ∧ W.cell? ⟨pb, 1, none⟩ = some (.int .i64 (n : Int)) ∧ W.cell? ⟨pb, 2, none⟩ = some (.slice a ln cp)) := fun W hW => by
    obtain ⟨e0, e1, e2, _⟩ := row3 ((hW.block pb (lt_of_some r1)).trans r1)
    exact ⟨e0, e1, e2⟩
  obtain ⟨y0, y1, y2⟩ := HK.out V1 (Below.refl _ _)
  have HB : Hid (Below w.heap.size w V1) := hb1
  have HM := amay_any s (n : Int) (h.below hb1)
  rw [hm] at HM
  unfold YeTo at HM
  have hmi := mayA_iff.1 hm
  simp only at hmi
  have HR : Hid (∀ W, Below V1.heap.size V1 W → Ew W a ln cp l) := fun W hW => h.below (hb1.trans (hW.mono hb1.size))
  have hln8 : ln ≤ 8 := by omega
  have wl : IntKind.u64.wrap (ln : Int) = (ln : Int) := by rw [IntKind.wrap_u64]; omega
  have wn : IntKind.u64.wrap (n : Int) = (n : Int) := by rw [IntKind.wrap_u64]; omega
  have HLL : Hid (l.length = ln ∧ (∀ c ∈ l, c.ok = true) ∧ mayA ⟨s, (n : Int), l⟩ = true ∧ s.size = 32 ∧ n ≤ 2147483648 ∧ (textN s.data.toList).length ≤ 100 ∧ (putN n).length ≤ 10) := ⟨hl, run_ok hmi.2.2.2.2, hm, hmi.1, by omega, by
    have h1 : s.data.toList.length = 32 := by rw [Array.length_toList]; exact hmi.1
    have := textN_len (l := s.data.toList) (by omega)
    omega, putN_le10 n (by omega)⟩
  obtain ⟨B, hBs⟩ : ∃ B, V1.heap.size = B := ⟨_, rfl⟩
  have HB0 : Hid (V1.heap.size = B) := hBs
  clear r1 hb1 h hm hmi hl hBs
  go_enter Tryd.func29, Tryd.ntmps29
  go_wp2_with fail
  refine HM.mono ?_
  rintro e V2 ⟨rfl, hb2⟩
  have H2 : Hid (Below V1.heap.size V1 V2) := hb2
  have HC1 := ptext_by none 0 0 [] s V2 (Bs.nil V2) (by omega) (by have := HLL.out; omega)
  clear y0 y1 y2
  obtain ⟨y0, y1, y2⟩ := HK.out V2 hb2
  clear HM hb2
  go_wp2_with fail
  refine HC1.mono ?_
  rintro e V3 ⟨a3, n3, c3, rfl, hbs3, hb3⟩
  have H3 : Hid (Below V1.heap.size V1 V3 ∧ n3 = ([] ++ textN s.data.toList).length ∧ n3 ≤ 200) := ⟨H2.out.trans (hb3.mono H2.out.size), hbs3.1.symm, by have := hbs3.1; rw [List.nil_append] at this; have := HLL.out; omega⟩
  have HC2 := put_by a3 n3 c3 _ n V3 hbs3 (by have := H3.out; omega) (by have := HLL.out; omega)
  clear y0 y1 y2
  obtain ⟨y0, y1, y2⟩ := HK.out V3 H3.out.1
  clear HC1 hbs3 hb3
  go_wp2_with fail
  refine HC2.mono ?_
  rintro e V4 ⟨a4, n4, c4, rfl, hbs4, hb4⟩
  have H4 : Hid (Below V1.heap.size V1 V4 ∧ n4 ≤ 300) := ⟨H3.out.1.trans (hb4.mono H3.out.1.size), by have := hbs4.1; rw [List.length_append, ← H3.out.2.1] at this; have := H3.out; have := HLL.out; omega⟩
  have HC3 := put_any a4 n4 c4 _ ln V4 hbs4 (by have := H4.out; omega) (by omega)
  have hpn := putN_le10 ln (by omega)
  clear y0 y1 y2
  obtain ⟨y0, y1, y2⟩ := HK.out V4 H4.out.1
  clear HC2 hbs4 hb4
  go_wp2_with fail
  refine HC3.mono ?_
  rintro e V5 ⟨rfl, ho5, hb5⟩
  obtain ⟨m5, hm5⟩ : ∃ m5, n4 + (putN ln).length = m5 := ⟨_, rfl⟩
  obtain ⟨g5, hg5⟩ : ∃ g5, V4.heap.size = g5 := ⟨_, rfl⟩
  rw [hm5, hg5] at ho5 ⊢
  have hB5 : Below V1.heap.size V1 V5 := H4.out.1.trans (hb5.mono H4.out.1.size)
  have H5 : Hid (V5.ownsRow B 5 1 (.slice (some ⟨g5, 0, none⟩) m5 m5) m5 (bytesV (encI ⟨s, (n : Int), l⟩ 0)) ∧ Below V1.heap.size V1 V5) := ⟨by
    have e0 : encI ⟨s, (n : Int), l⟩ 0 = [] ++ textN s.data.toList ++ putN n ++ putN ln := by
      rw [encI_zero]
      unfold headA
      simp only [Int.toNat_natCast, List.nil_append]
      rw [HLL.out.1]
    rw [e0]
    exact own_base ho5 (by rw [← hg5, ← HB0.out]; exact H4.out.1.size), hB5⟩
  clear y0 y1 y2
  obtain ⟨y0, y1, y2⟩ := HK.out V5 hB5
  clear HC3 ho5 hb5 hB5 hm5 hg5 hpn
  go_wp2
  clear y0 y1 y2
  go_loopw [4, 27] (fun vo vi wr => ∃ (i m c' : Nat) (a' : Option Addr), i ≤ ln ∧ vi = .int .i64 i ∧ vo = .slice a' m c' ∧ wr.ownsRow B 5 1 (.slice a' m c') m (bytesV (encI ⟨s, (n : Int), l⟩ i)) ∧ Below V1.heap.size V1 wr) (fun _ vi _ => ln - (intOf vi).toNat)
  case atStart => exact ⟨0, m5, m5, some ⟨g5, 0, none⟩, by omega, rfl, rfl, H5.out⟩
  case round =>
  clear H5
  obtain ⟨i, m, c', a', hi, rfl, rfl, hown, hbw⟩ := hrel
  have hml : m ≤ 1000 := by
    have h1 := encI_len HLL.out.2.2.1 i
    have h2 : (encI ⟨s, (n : Int), l⟩ i).length = m := by have := hown.1; simpa [bytesV] using this
    omega
  by_cases hlt : i < ln
  · have kk : (i : Int) < (ln : Int) := by omega
    obtain ⟨ab, ao, rfl, _, hc⟩ := (HR.out wr hbw).at (by omega)
    obtain ⟨⟨c0, c1, c2, c3, c4⟩, hci⟩ : ∃ c, l[i]? = some c := ⟨_, List.getElem?_eq_getElem (by have := HLL.out.1; omega)⟩
    obtain ⟨d0, d1, d2, d3, d4⟩ := hc i _ hci
    have hcok := HLL.out.2.1 _ (List.mem_of_getElem? hci)
    have hcl := ent_len hcok
    simp only at d0 d1 d2 d3 d4
    obtain ⟨V6, hV6, r6, hb6⟩ := box_en (w := wr) c0 c1 c2 c3 c4
    obtain ⟨qb, hqb⟩ : ∃ qb, wr.heap.size = qb := ⟨_, rfl⟩
    rw [hqb] at r6
    obtain ⟨x0, x1, x2, x3, x4, _⟩ := row5 r6
    have HC := etext_any ⟨c0, c1, c2, c3, c4⟩ V6 hcok
    simp only at HC
    obtain ⟨S, hS⟩ : ∃ S, strOf (⟨c0, c1, c2, c3, c4⟩ : En).bytes = S := ⟨_, rfl⟩
    unfold StTo at HC
    rw [hS] at HC
    have hSs : S.size ≤ 100 := by rw [← hS, strOf_size]; exact hcl
    have H6 : Hid (wr.ownsRow B 5 1 (.slice a' m c') m (bytesV (encI ⟨s, (n : Int), l⟩ i)) ∧ Below V1.heap.size V1 wr ∧ Below wr.heap.size wr V6 ∧ encI ⟨s, (n : Int), l⟩ (i + 1) = encI ⟨s, (n : Int), l⟩ i ++ S.data.toList) := ⟨hown, hbw, hb6, by rw [encI_snoc (a := ⟨s, (n : Int), l⟩) hci, ← hS]; rfl⟩
    clear hown hbw hc hci hcok hcl r6 hb6 hS
    go_wp2_with fail
    refine HC.mono ?_
    rintro e V7 ⟨rfl, hb7⟩
    have hB7 : Below wr.heap.size wr V7 := H6.out.2.2.1.trans (hb7.mono H6.out.2.2.1.size)
    have ho7 := own_keep H6.out.1 (W' := V7) (fun j hj => hB7.block j (H6.out.1.lt j hj).2)
    have hB1 : Below V1.heap.size V1 V7 := H6.out.2.1.trans (hB7.mono H6.out.2.1.size)
    obtain ⟨N', hN'⟩ : ∃ N', m + S.size = N' := ⟨_, rfl⟩
    have HOWN : Hid (V7.ownsRow B 5 1 (.slice a' m c') m (bytesV (encI ⟨s, (n : Int), l⟩ i))) := ho7
    have HM' : Hid (m + S.size = N') := hN'
    have HNL : Hid (N' ≤ 10000000) := by show _ ≤ _; omega
    have HLT : Hid (B ≤ V7.heap.size) := by rw [← HB0.out]; exact hB1.size
    have HG : Hid (∀ a2 c2 W, W.ownsRow B 5 1 (.slice a2 N' c2) N' (bytesV (encI ⟨s, (n : Int), l⟩ i ++ S.data.toList)) → V7.grownBy W (Value.slice a' m c').ownBlock → W.ownsRow B 5 1 (.slice a2 N' c2) N' (bytesV (encI ⟨s, (n : Int), l⟩ (i + 1))) ∧ Below V1.heap.size V1 W) := fun a2 c2 W h1 h2 => by
      refine ⟨by rw [H6.out.2.2.2]; exact h1, hB1.grown h2 hB1.size (fun j hj => ?_)⟩
      have := (ho7.lt j hj).1
      have := HB0.out
      omega
    clear HC hb7 hB7 ho7 hB1 hN' d0 d1 d2 d3 d4 x0 x1 x2 x3 x4
    go_wp2_with (refine append_wp V7 rfl (.tmp 31) (.tmp 33) rfl B m N' (.slice a' m c') (encI ⟨s, (n : Int), l⟩ i) rfl HOWN.out S rfl HM'.out HNL.out HLT.out ?_; intro a2 c2 W8 hown hgr; have H8 : Hid (W8.ownsRow B 5 1 (.slice a2 N' c2) N' (bytesV (encI ⟨s, (n : Int), l⟩ (i + 1))) ∧ Below V1.heap.size V1 W8) := HG.out a2 c2 W8 hown hgr; clear hown hgr)
    exact ⟨⟨i + 1, N', c2, a2, by omega, by go_num, by first | rfl | go_num, H8.out⟩, by simp [intOf]; omega⟩
  · obtain rfl : i = ln := by omega
    have kk : ¬ (i : Int) < (i : Int) := by omega
    have HE : Hid (EnTo w (encA ⟨s, (n : Int), l⟩) (.returned (.tuple #[.slice a' m c', .int .i64 0])) wr) := by
      rw [encI_all _ (by simp only; have := HLL.out.1; omega)] at hown
      exact ⟨a', m, c', rfl, Bs.ownB hown, HB.out.trans (hbw.mono HB.out.size)⟩
    clear hown hbw
    go_wp2
    go_ret2
    exact HE.out
end Go.Proofs.YtkhidkilkbmpoaaDoor
namespace Go.Proofs.YtkhidkilkbmpoaaDoor
open Go.RowKit
/-- What Decode tells. -/
def decV (K : Nat) (bs : List UInt8) : Au × Nat := if 65536 < bs.length then (zeroAu, 2) else match decA K bs with
  | none => (zeroAu, 4)
  | some a => (a, 0)
theorem decV_long {K : Nat} {bs : List UInt8} (h : 65536 < bs.length) : decV K bs = (zeroAu, 2) := by unfold decV; rw [if_pos h]
theorem decV_none {K : Nat} {bs : List UInt8} (h : ¬ 65536 < bs.length) (hd : decA K bs = none) : decV K bs = (zeroAu, 4) := by unfold decV; rw [if_neg h, hd]
theorem decV_some {K : Nat} {bs : List UInt8} {a : Au} (h : ¬ 65536 < bs.length) (hd : decA K bs = some a) : decV K bs = (a, 0) := by unfold decV; rw [if_neg h, hd]
set_option maxRecDepth 100000 in
set_option maxHeartbeats 4000000 in
theorem adec_any {w : World} {a : Option Addr} {len cap : Nat} {bs : List UInt8} (hb : Bs w a len cap bs) : Calls Tryd.prog 27 #[.slice a len cap] w fun e w' => AuTo w (decV KP63 bs) e w' := by
  have hbl : bs.length = len := hb.1
  have hlm : len ≤ 9223372036854775807 := Nat.le_trans hb.2.1 hb.2.2.1
  obtain ⟨zb, hzb⟩ : ∃ zb, w.heap.size = zb := ⟨_, rfl⟩
  have HZB : Hid (w.heap.size = zb) := hzb
  obtain ⟨V1, hV1, r1, hb1⟩ := box_au 27 (w := w) ⟨#[]⟩ 0 none 0 0
  rw [hzb] at r1
  have H1 : Hid (V1.heap[zb]? = some (.cells #[.string ⟨#[]⟩, .int .i64 0, .slice none 0 0] 27 (0, 0)) ∧ Below w.heap.size w V1) := ⟨r1, hb1⟩
  by_cases hlong : 65536 < len
  · have k1 : (65536 : Int) < (len : Int) := by omega
    have HX : Hid (decV KP63 bs = (zeroAu, 2)) := decV_long (by omega)
    clear r1 hb1 hb hbl
    go_enter Tryd.func27, Tryd.ntmps27
    have z5 := H1.out.1
    have b5 := H1.out.2
    obtain ⟨x0, x1, x2, fz⟩ := row3 z5
    have f0 := fz 0
    have f1 := fz 1
    have f2 := fz 2
    obtain ⟨W5, hW5⟩ : ∃ W5, ((V1.setCell ⟨zb, 0, none⟩ (.string ⟨#[]⟩)).setCell ⟨zb, 1, none⟩ (.int .i64 0)).setCell ⟨zb, 2, none⟩ (.slice none 0 0) = W5 := ⟨_, rfl⟩
    have HE : Hid (AuTo w (decV KP63 bs) (.returned (.tuple #[.agg #[.string ⟨#[]⟩, .int .i64 0, .slice none 0 0], .int .i64 2])) W5 ∧ W5.heap[zb]? = some (.cells #[.string ⟨#[]⟩, .int .i64 0, .slice none 0 0] 27 (0, 0))) := by
      refine ⟨?_, by rw [← hW5]; exact set3 z5 _ _ _⟩
      rw [HX.out]
      refine ⟨none, 0, 0, rfl, Rw.zero _ _ _ _ _ _ (Nat.zero_le _), ?_⟩
      rw [← hW5]
      exact below3s b5 (Nat.le_of_eq HZB.out) _ _ _
    clear z5 b5 fz
    go_wp2
    refine bodyPost_ret (v := .tuple #[.agg #[.string ⟨#[]⟩, .int .i64 0, .slice none 0 0], .int .i64 2]) ?_ rfl HE.out.1
    exact res_2P (fn := Tryd.f27) (p := 2) (q := 3) (by rfl) _ _ zb _ (by rfl) HE.out.2 infoPA
  have k1 : ¬ (65536 : Int) < (len : Int) := by omega
  obtain ⟨t, p1, e1, h1⟩ : ∃ x q y, rdT bs 0 0 32 = (x, q, y) := ⟨_, _, _, rfl⟩
  obtain ⟨n, p2, e2, h2⟩ : ∃ x q y, rdN bs p1 e1 = (x, q, y) := ⟨_, _, _, rfl⟩
  obtain ⟨m, p3, e3, h3⟩ : ∃ x q y, rdN bs p2 e2 = (x, q, y) := ⟨_, _, _, rfl⟩
  obtain ⟨l, q, e4, h4⟩ : ∃ x q y, foldE bs p3 e3 (min m 9) = (x, q, y) := ⟨_, _, _, rfl⟩
  have hdp := dec_prog h1 h2 h3 h4
  rw [hbl] at hdp
  obtain ⟨X, hX⟩ : ∃ X, baOf t = X := ⟨_, rfl⟩
  rw [hX] at hdp
  obtain ⟨rb, hrb⟩ : ∃ rb, V1.heap.size = rb := ⟨_, rfl⟩
  have hq1 : zb + 1 = rb := by rw [← hrb, ← hV1, ← hzb]; simp
  obtain ⟨U0, hU0⟩ : ∃ x, V1.alloc (.cells #[.slice none 0 0, .int .i64 0, .int .i64 0] 67) = x := ⟨_, rfl⟩
  have rU : U0.heap[rb]? = some (.cells #[.slice none 0 0, .int .i64 0, .int .i64 0] 67 (0, 0)) := by rw [← hU0, ← hrb]; exact heap_alloc_new _ _
  have bU : Below V1.heap.size V1 U0 := by rw [← hU0]; exact (Below.refl _ _).alloc (Nat.le_refl _) _
  obtain ⟨q0, q1, q2, qz⟩ := row3 rU
  have qf0 := qz 0
  have qf1 := qz 1
  have qf2 := qz 2
  obtain ⟨V2, hV2⟩ : ∃ x, ((U0.setCell ⟨rb, 0, none⟩ (.slice a len cap)).setCell ⟨rb, 1, none⟩ (.int .i64 0)).setCell ⟨rb, 2, none⟩ (.int .i64 0) = x := ⟨_, rfl⟩
  have r2 : V2.heap[rb]? = some (rdR a len cap 0 0) := by rw [← hV2]; exact set3 rU _ _ _
  have hb2 : Below V1.heap.size V1 V2 := by rw [← hV2]; exact below3s bU (Nat.le_of_eq hrb) _ _ _
  have hB2 : Below w.heap.size w V2 := hb1.trans (hb2.mono hb1.size)
  have hne : (∀ ad, a = some ad → ad.block ≠ rb) ∨ bs = [] := by
    cases bs with
    | nil => exact .inr rfl
    | cons x xs =>
      refine .inl (fun ad had => ?_)
      have hc := hb.2.2.2.2 ad had 0 (by simp)
      have := World.block_lt_of_cell? w _ hc
      have hbk : (ad.add 0).block = ad.block := by unfold Addr.add; split <;> rfl
      omega
  have HA := rdaud_any r2 (hb.below hB2) hne ⟨by omega, by omega, by omega⟩ h1 h2 h3
  rw [h4, hX] at HA
  have z2 := (hb2.block zb (by omega)).trans r1
  have H2 : Hid (Below w.heap.size w V2 ∧ V2.heap[zb]? = some (.cells #[.string ⟨#[]⟩, .int .i64 0, .slice none 0 0] 27 (0, 0)) ∧ rb < V2.heap.size ∧ zb + 1 = rb) := ⟨hB2, z2, lt_of_some r2, hq1⟩
  have HDP : Hid (decA KP63 bs = if e4 = 0 ∧ q = (len : Int) ∧ mayA ⟨X, (n : Int), l⟩ = true then some ⟨X, (n : Int), l⟩ else none) := hdp
  have HNL : Hid (¬ 65536 < bs.length) := by rw [hbl]; exact hlong
  clear r1 hb1 hb hbl h1 h2 h3 h4 hdp hX rU bU qz r2 hb2 hB2 hne z2 hq1
  go_enter Tryd.func27, Tryd.ntmps27
  go_wp2_with fail
  refine HA.mono ?_
  rintro e V3 ⟨a', n', c', rfl, hown, hr3, hx3⟩
  simp only at hown hr3
  clear q0 q1 q2 qf0 qf1 qf2 HA
  obtain ⟨tb, htb⟩ : ∃ tb, V3.heap.size = tb := ⟨_, rfl⟩
  obtain ⟨U3, hU3⟩ : ∃ x, V3.alloc (.cells #[.string ⟨#[]⟩, .int .i64 0, .slice none 0 0] 27) = x := ⟨_, rfl⟩
  have rU : U3.heap[tb]? = some (.cells #[.string ⟨#[]⟩, .int .i64 0, .slice none 0 0] 27 (0, 0)) := by rw [← hU3, ← htb]; exact heap_alloc_new _ _
  have bU : Below V3.heap.size V3 U3 := by rw [← hU3]; exact (Below.refl _ _).alloc (Nat.le_refl _) _
  obtain ⟨q0, q1, q2, qz⟩ := row3 rU
  have qf0 := qz 0
  have qf1 := qz 1
  have qf2 := qz 2
  obtain ⟨V4, hV4⟩ : ∃ x, ((U3.setCell ⟨tb, 0, none⟩ (.string X)).setCell ⟨tb, 1, none⟩ (.int .i64 (n : Int))).setCell ⟨tb, 2, none⟩ (.slice a' n' c') = x := ⟨_, rfl⟩
  have t4 : V4.heap[tb]? = some (.cells #[.string X, .int .i64 (n : Int), .slice a' n' c'] 27 (0, 0)) := by rw [← hV4]; exact set3 rU _ _ _
  have hb4 : Below V3.heap.size V3 V4 := by rw [← hV4]; exact below3s bU (Nat.le_of_eq htb) _ _ _
  have r4 : V4.heap[rb]? = some (.cells #[.slice a len cap, .int .i64 q, .int .i64 (e4 : Int)] 67 (0, 0)) := (hb4.block rb (lt_of_some hr3)).trans hr3
  have z3 := (hx3.2 zb (lt_of_some H2.out.2.1) (by have := H2.out; omega)).trans H2.out.2.1
  have z4 := (hb4.block zb (lt_of_some z3)).trans z3
  have bx3 : Below w.heap.size w V3 := H2.out.1.trans (hx3.below (by have := H2.out; have := HZB.out; omega) H2.out.1.size)
  have b4 : Below w.heap.size w V4 := bx3.trans (hb4.mono bx3.size)
  obtain ⟨_, y1, y2, _⟩ := row3 r4
  have ho4 : V4.ownsRow V2.heap.size 36 5 (.slice a' n' c') n' (enR l) := own_keep hown (fun j hj => hb4.block j (hown.lt j hj).2)
  have H4 : Hid (Below w.heap.size w V4 ∧ V4.heap[zb]? = some (.cells #[.string ⟨#[]⟩, .int .i64 0, .slice none 0 0] 27 (0, 0)) ∧ V4.heap[tb]? = some (.cells #[.string X, .int .i64 (n : Int), .slice a' n' c'] 27 (0, 0)) ∧ V4.ownsRow V2.heap.size 36 5 (.slice a' n' c') n' (enR l)) := ⟨b4, z4, t4, ho4⟩
  clear hown hr3 hx3 rU bU qz t4 hb4 r4 z3 z4 bx3 b4 ho4
  by_cases x1 : e4 = 0
  rotate_left
  · have k4 : ¬ (e4 : Int) = 0 := by omega
    have b4 : ((e4 : Int) == 0) = false := by simpa using k4
    have m4 : ((e4 : Int) != 0) = true := by simpa using k4
    have HX : Hid (decV KP63 bs = (zeroAu, 4)) := decV_none HNL.out (by rw [HDP.out, if_neg (fun h => x1 h.1)])
    clear x1
    have z5 := H4.out.2.1
    have b5 := H4.out.1
    obtain ⟨x0, x1, x2, fz⟩ := row3 z5
    have f0 := fz 0
    have f1 := fz 1
    have f2 := fz 2
    obtain ⟨W5, hW5⟩ : ∃ W5, ((V4.setCell ⟨zb, 0, none⟩ (.string ⟨#[]⟩)).setCell ⟨zb, 1, none⟩ (.int .i64 0)).setCell ⟨zb, 2, none⟩ (.slice none 0 0) = W5 := ⟨_, rfl⟩
    have HE : Hid (AuTo w (decV KP63 bs) (.returned (.tuple #[.agg #[.string ⟨#[]⟩, .int .i64 0, .slice none 0 0], .int .i64 4])) W5 ∧ W5.heap[zb]? = some (.cells #[.string ⟨#[]⟩, .int .i64 0, .slice none 0 0] 27 (0, 0))) := by
      refine ⟨?_, by rw [← hW5]; exact set3 z5 _ _ _⟩
      rw [HX.out]
      refine ⟨none, 0, 0, rfl, Rw.zero _ _ _ _ _ _ (Nat.zero_le _), ?_⟩
      rw [← hW5]
      exact below3s b5 (Nat.le_of_eq HZB.out) _ _ _
    clear z5 b5 fz
    go_wp2
    refine bodyPost_ret (v := .tuple #[.agg #[.string ⟨#[]⟩, .int .i64 0, .slice none 0 0], .int .i64 4]) ?_ rfl HE.out.1
    exact res_2P (fn := Tryd.f27) (p := 2) (q := 3) (by rfl) _ _ zb _ (by rfl) HE.out.2 infoPA
  subst x1
  by_cases x2 : q = (len : Int)
  rotate_left
  · have b4 : (q == (len : Int)) = false := by simpa using x2
    have m4 : (q != (len : Int)) = true := by simpa using x2
    have HX : Hid (decV KP63 bs = (zeroAu, 4)) := decV_none HNL.out (by rw [HDP.out, if_neg (fun h => x2 h.2.1)])
    clear x2
    have z5 := H4.out.2.1
    have b5 := H4.out.1
    obtain ⟨x0, x1, x2, fz⟩ := row3 z5
    have f0 := fz 0
    have f1 := fz 1
    have f2 := fz 2
    obtain ⟨W5, hW5⟩ : ∃ W5, ((V4.setCell ⟨zb, 0, none⟩ (.string ⟨#[]⟩)).setCell ⟨zb, 1, none⟩ (.int .i64 0)).setCell ⟨zb, 2, none⟩ (.slice none 0 0) = W5 := ⟨_, rfl⟩
    have HE : Hid (AuTo w (decV KP63 bs) (.returned (.tuple #[.agg #[.string ⟨#[]⟩, .int .i64 0, .slice none 0 0], .int .i64 4])) W5 ∧ W5.heap[zb]? = some (.cells #[.string ⟨#[]⟩, .int .i64 0, .slice none 0 0] 27 (0, 0))) := by
      refine ⟨?_, by rw [← hW5]; exact set3 z5 _ _ _⟩
      rw [HX.out]
      refine ⟨none, 0, 0, rfl, Rw.zero _ _ _ _ _ _ (Nat.zero_le _), ?_⟩
      rw [← hW5]
      exact below3s b5 (Nat.le_of_eq HZB.out) _ _ _
    clear z5 b5 fz
    go_wp2
    refine bodyPost_ret (v := .tuple #[.agg #[.string ⟨#[]⟩, .int .i64 0, .slice none 0 0], .int .i64 4]) ?_ rfl HE.out.1
    exact res_2P (fn := Tryd.f27) (p := 2) (q := 3) (by rfl) _ _ zb _ (by rfl) HE.out.2 infoPA
  subst x2
  have HM := amay_any X (n : Int) (Ew.own H4.out.2.2.2)
  unfold YeTo at HM
  obtain ⟨t0, t1, t2, _⟩ := row3 H4.out.2.2.1
  have hll : ((len : Int) != (len : Int)) = false := by simp
  cases hm : mayA ⟨X, (n : Int), l⟩ with
  | false =>
    rw [hm] at HM
    have HX : Hid (decV KP63 bs = (zeroAu, 4)) := decV_none HNL.out (by rw [HDP.out, if_neg (fun h => by rw [hm] at h; exact absurd h.2.2 (by decide))])
    clear hm
    go_wp2_with fail
    refine HM.mono ?_
    rintro e V5 ⟨rfl, hb5⟩
    have H5 : Hid (Below V4.heap.size V4 V5) := hb5
    clear HM hb5 t0 t1 t2 y1 y2
    have z5 := (H5.out.block zb (lt_of_some H4.out.2.1)).trans H4.out.2.1
    have b5 := H4.out.1.trans (H5.out.mono H4.out.1.size)
    obtain ⟨x0, x1, x2, fz⟩ := row3 z5
    have f0 := fz 0
    have f1 := fz 1
    have f2 := fz 2
    obtain ⟨W5, hW5⟩ : ∃ W5, ((V5.setCell ⟨zb, 0, none⟩ (.string ⟨#[]⟩)).setCell ⟨zb, 1, none⟩ (.int .i64 0)).setCell ⟨zb, 2, none⟩ (.slice none 0 0) = W5 := ⟨_, rfl⟩
    have HE : Hid (AuTo w (decV KP63 bs) (.returned (.tuple #[.agg #[.string ⟨#[]⟩, .int .i64 0, .slice none 0 0], .int .i64 4])) W5 ∧ W5.heap[zb]? = some (.cells #[.string ⟨#[]⟩, .int .i64 0, .slice none 0 0] 27 (0, 0))) := by
      refine ⟨?_, by rw [← hW5]; exact set3 z5 _ _ _⟩
      rw [HX.out]
      refine ⟨none, 0, 0, rfl, Rw.zero _ _ _ _ _ _ (Nat.zero_le _), ?_⟩
      rw [← hW5]
      exact below3s b5 (Nat.le_of_eq HZB.out) _ _ _
    clear z5 b5 fz
    go_wp2
    refine bodyPost_ret (v := .tuple #[.agg #[.string ⟨#[]⟩, .int .i64 0, .slice none 0 0], .int .i64 4]) ?_ rfl HE.out.1
    exact res_2P (fn := Tryd.f27) (p := 2) (q := 3) (by rfl) _ _ zb _ (by rfl) HE.out.2 infoPA
  | true =>
    rw [hm] at HM
    have HX : Hid (decV KP63 bs = (⟨X, (n : Int), l⟩, 0)) := decV_some HNL.out (by rw [HDP.out, if_pos ⟨rfl, rfl, hm⟩])
    clear hm
    go_wp2_with fail
    refine HM.mono ?_
    rintro e V5 ⟨rfl, hb5⟩
    clear HM t0 t1 t2 y1 y2
    have t5 := (hb5.block tb (lt_of_some H4.out.2.2.1)).trans H4.out.2.2.1
    have z5 := (hb5.block zb (lt_of_some H4.out.2.1)).trans H4.out.2.1
    have b5 : Below w.heap.size w V5 := H4.out.1.trans (hb5.mono H4.out.1.size)
    have o5 : V5.ownsRow V2.heap.size 36 5 (.slice a' n' c') n' (enR l) := own_keep H4.out.2.2.2 (fun j hj => hb5.block j (H4.out.2.2.2.lt j hj).2)
    obtain ⟨t0, t1, t2, _⟩ := row3 t5
    obtain ⟨x0, x1, x2, fz⟩ := row3 z5
    have f0 := fz 0
    have f1 := fz 1
    have f2 := fz 2
    obtain ⟨W5, hW5⟩ : ∃ W5, ((V5.setCell ⟨zb, 0, none⟩ (.string X)).setCell ⟨zb, 1, none⟩ (.int .i64 (n : Int))).setCell ⟨zb, 2, none⟩ (.slice a' n' c') = W5 := ⟨_, rfl⟩
    have HE : Hid (AuTo w (decV KP63 bs) (.returned (.tuple #[.agg #[.string X, .int .i64 (n : Int), .slice a' n' c'], .int .i64 0])) W5 ∧ W5.heap[zb]? = some (.cells #[.string X, .int .i64 (n : Int), .slice a' n' c'] 27 (0, 0))) := by
      refine ⟨?_, by rw [← hW5]; exact set3 z5 _ _ _⟩
      rw [HX.out]
      refine ⟨a', n', c', rfl, ?_, by rw [← hW5]; exact below3s b5 (Nat.le_of_eq HZB.out) _ _ _⟩
      refine Nw.own (own_keep o5 (fun j hj => ?_)) H2.out.1.size
      have := (o5.lt j hj).1
      rw [← hW5]
      exact other3s (by have := H2.out; omega) _ _ _
    clear hb5 t5 z5 b5 o5 fz
    go_wp2
    refine bodyPost_ret (v := .tuple #[.agg #[.string X, .int .i64 (n : Int), .slice a' n' c'], .int .i64 0]) ?_ rfl HE.out.1
    exact res_2P (fn := Tryd.f27) (p := 2) (q := 3) (by rfl) _ _ zb _ (by rfl) HE.out.2 infoPA
end Go.Proofs.YtkhidkilkbmpoaaDoor
