/- A walk over Decode. -/
import Derived.Test.YtcmdcmbiilfngabDoorLB
namespace Go.Proofs.YtcmdcmbiilfngabDoor
open Go.RowKit
/-- What Decode tells. -/
def DeTo (w : World) (r : Except Nat (Tk × Int)) (e : Ending) (w' : World) : Prop := match r with
  | .error er => e = .returned (.tuple #[.agg #[.int .i64 0, .int .i64 0, .slice none 0 0, .string ⟨#[]⟩], .int .i64 0, .int .i64 (er : Int)]) ∧ Below w.heap.size w w'
  | .ok (t, q) => ∃ (a : Option Addr) (n c : Nat), e = .returned (.tuple #[.agg #[.int .i64 t.tenant, .int .i64 t.number, .slice a n c, .string t.sig], .int .i64 q, .int .i64 0]) ∧ Kw w' a n c t.cavs ∧ Below w.heap.size w w'
theorem res_tk3 {fn : Func} {p q r : Tmp} (h : fn.results = #[.cell p 24, .tmp q, .tmp r]) (tmps : Array Value) (w : World) (g : Nat) (cs : Array Value) (hp : tmps.getD p undef = .pointer (some ⟨g, 0, none⟩)) (hg : w.heap[g]? = some (.cells cs 24 (0, 0))) (hi : (Tryd.prog.info? 24).map (·.size) = some cs.size) :
    (results fn tmps).run Tryd.prog w = .ok (.tuple #[.agg cs, tmps.getD q undef, tmps.getD r undef]) w := by
  have hp' : tmps[p]?.getD undef = .pointer (some ⟨g, 0, none⟩) := by simpa using hp
  have hl := run_loadVar_row (P := Tryd.prog) w g 24 24 cs (0, 0) _ hg Tryd.underlying24 rfl hi
  simp [results, h, hp', asAddr, hl]
set_option maxRecDepth 100000 in
set_option maxHeartbeats 8000000 in
theorem cdec_any {w : World} {a : Option Addr} {len cap : Nat} {bs : List UInt8} (hb : Bs w a len cap bs) (p : Int) (hp : inP bs p) : Calls Tryd.prog 6 #[.slice a len cap, .int .i64 p] w fun e w' => DeTo w (decAt KP63 bs p) e w' := by
  have ip1 := rdN_in (e := 0) hp
  have ip2 := rdN_in (e := (rdN bs p 0).2.2) ip1
  obtain ⟨n1, p1, e1, h1⟩ : ∃ n q e, rdN bs p 0 = (n, q, e) := ⟨_, _, _, rfl⟩
  rw [h1] at ip1 ip2
  simp only at ip1 ip2
  obtain ⟨n2, p2, e2, h2⟩ : ∃ n q e, rdN bs p1 e1 = (n, q, e) := ⟨_, _, _, rfl⟩
  rw [h2] at ip2
  simp only at ip2
  have ip3 := rdN_in (e := e2) ip2
  obtain ⟨n3, p3, e3, h3⟩ : ∃ n q e, rdN bs p2 e2 = (n, q, e) := ⟨_, _, _, rfl⟩
  rw [h3] at ip3
  simp only at ip3
  obtain ⟨hd1, hd2⟩ := dec_steps h1 h2 h3
  obtain ⟨pb, hpb⟩ : ∃ pb, w.heap.size = pb := ⟨_, rfl⟩
  obtain ⟨V1, hV1, r1, hb1⟩ := box_tk (w := w) 0 0 none 0 0 ⟨#[]⟩
  obtain ⟨rb, hrb⟩ : ∃ rb, V1.heap.size = rb := ⟨_, rfl⟩
  obtain ⟨U2, hU2⟩ : ∃ U2, V1.alloc (.cells #[.slice a len cap, .int .i64 p, .int .i64 0] 46) = U2 := ⟨_, rfl⟩
  have hq1 : pb + 1 = rb := by rw [← hrb, ← hV1, ← hpb]; simp
  have u2 : U2.heap[rb]? = some (.cells #[.slice a len cap, .int .i64 p, .int .i64 0] 46 (0, 0)) := by rw [← hU2, ← hrb]; exact heap_alloc_new V1 _
  have hc2 : Below V1.heap.size V1 U2 := by rw [← hU2]; exact (Below.refl _ V1).alloc (Nat.le_refl _) _
  obtain ⟨_, _, c2', _, _, v2'⟩ := row3 u2
  obtain ⟨V2, hV2⟩ : ∃ V2, U2.setCell ⟨rb, 2, none⟩ (.int .i64 0) = V2 := ⟨_, rfl⟩
  have r2 : V2.heap[rb]? = some (rdR a len cap p 0) := by rw [← hV2, heap_setCell_same _ _ _ _ _ _ u2]; rfl
  have hb2 : Below V1.heap.size V1 V2 := by rw [← hV2]; exact hc2.setCell (Nat.le_of_eq hrb) _
  have hs2 : V2.heap.size = rb + 1 := by rw [← hV2, ← hU2, ← hrb]; simp [World.setCell]
  obtain ⟨tb, htb⟩ : ∃ tb, V2.heap.size = tb := ⟨_, rfl⟩
  have hq2 : rb + 1 = tb := by omega
  obtain ⟨V3, hV3, r3, hb3⟩ := box_tk (w := V2) 0 0 none 0 0 ⟨#[]⟩
  rw [hpb] at r1
  rw [htb] at r3
  have hB2 : Below w.heap.size w V2 := hb1.trans (hb2.mono hb1.size)
  have hB3 : Below w.heap.size w V3 := hB2.trans (hb3.mono hB2.size)
  have rp3 : V3.heap[pb]? = some (.cells #[.int .i64 0, .int .i64 0, .slice none 0 0, .string ⟨#[]⟩] 24 (0, 0)) := by rw [hb3.block pb (by omega), hb2.block pb (by omega)]; exact r1
  have rr3 : V3.heap[rb]? = some (rdR a len cap p 0) := by rw [hb3.block rb (by omega)]; exact r2
  have HX : Hid (∀ W, Below w.heap.size w W → Bs W a len cap bs) := fun W hW => hb.below hW
  have HPB : Hid (w.heap.size = pb) := hpb
  have HO : Hid (pb + 1 = rb ∧ rb + 1 = tb ∧ inP bs p1 ∧ inP bs p2 ∧ inP bs p3 ∧ rdN bs p1 e1 = (n2, p2, e2) ∧ rdN bs p2 e2 = (n3, p3, e3)) := ⟨hq1, hq2, ip1, ip2, ip3, h2, h3⟩
  have HD : Hid ((8 < n3 → decAt KP63 bs p = .error 4) ∧ (n3 ≤ 8 → ∀ l q e4 t q2 e5, foldC bs p3 e3 n3 = (l, q, e4) → rdT bs q e4 32 = (t, q2, e5) → (e5 ≠ 0 → decAt KP63 bs p = .error e5) ∧ (e5 = 0 → decAt KP63 bs p = (if mayT ⟨(n1 : Int), (n2 : Int), l, baOf t⟩ = true then .ok (⟨(n1 : Int), (n2 : Int), l, baOf t⟩, q2) else .error 4)))) := ⟨hd1, hd2⟩
  have HN1 := rdnum_any rr3 (hb.below hB3) hp
  rw [h1] at HN1
  simp only at HN1
  have H3 : Hid (V3.heap[pb]? = some (.cells #[.int .i64 0, .int .i64 0, .slice none 0 0, .string ⟨#[]⟩] 24 (0, 0)) ∧ V3.heap[tb]? = some (.cells #[.int .i64 0, .int .i64 0, .slice none 0 0, .string ⟨#[]⟩] 24 (0, 0)) ∧ Below w.heap.size w V3) := ⟨rp3, r3, hB3⟩
  have hrl : w.heap.size ≤ rb := by omega
  clear hb hp ip1 ip2 ip3 h1 h2 h3 hd1 hd2 r1 u2 hc2 r2 hb1 hb2 hb3 r3 hB2 hB3 rp3 rr3 hs2
  go_enter Tryd.func6, Tryd.ntmps6
  go_wp2_with fail
  refine HN1.mono ?_
  rintro e V4 ⟨rfl, h4, x4⟩
  clear c2' v2'
  have t4 := (x4.2 tb (lt_of_some H3.out.2.1) (by have := HO.out; omega)).trans H3.out.2.1
  have z4 := (x4.2 pb (lt_of_some H3.out.1) (by have := HO.out; omega)).trans H3.out.1
  have b4 : Below w.heap.size w V4 := H3.out.2.2.trans (x4.below hrl H3.out.2.2.size)
  obtain ⟨k0, _, _, _, f0, _⟩ := row4 t4
  obtain ⟨V5, hV5⟩ : ∃ V5, V4.setCell ⟨tb, 0, none⟩ (.int .i64 (n1 : Int)) = V5 := ⟨_, rfl⟩
  have t5 : V5.heap[tb]? = some (.cells #[.int .i64 (n1 : Int), .int .i64 0, .slice none 0 0, .string ⟨#[]⟩] 24 (0, 0)) := by rw [← hV5, heap_setCell_same _ _ _ _ _ _ t4]; rfl
  have o5 : ∀ k, k ≠ tb → V5.heap[k]? = V4.heap[k]? := fun k hk => by rw [← hV5, heap_setCell_other _ _ _ _ hk]
  have b5 : Below w.heap.size w V5 := by rw [← hV5]; exact b4.setCell (show w.heap.size ≤ tb by have := HO.out; omega) _
  have HN2 := rdnum_any ((o5 rb (by have := HO.out; omega)).trans h4) (HX.out V5 b5) HO.out.2.2.1
  rw [HO.out.2.2.2.2.2.1] at HN2
  simp only at HN2
  have H5 : Hid (V5.heap[pb]? = some (.cells #[.int .i64 0, .int .i64 0, .slice none 0 0, .string ⟨#[]⟩] 24 (0, 0)) ∧ V5.heap[tb]? = some (.cells #[.int .i64 (n1 : Int), .int .i64 0, .slice none 0 0, .string ⟨#[]⟩] 24 (0, 0)) ∧ Below w.heap.size w V5) := ⟨(o5 pb (by have := HO.out; omega)).trans z4, t5, b5⟩
  clear HN1 h4 x4 t4 z4 b4 t5 o5 b5
  go_wp2_with fail
  refine HN2.mono ?_
  rintro e V6 ⟨rfl, h6, x6⟩
  have t6 := (x6.2 tb (lt_of_some H5.out.2.1) (by have := HO.out; omega)).trans H5.out.2.1
  have z6 := (x6.2 pb (lt_of_some H5.out.1) (by have := HO.out; omega)).trans H5.out.1
  have b6 : Below w.heap.size w V6 := H5.out.2.2.trans (x6.below hrl H5.out.2.2.size)
  clear k0 f0
  obtain ⟨_, k1, _, _, _, f1, _⟩ := row4 t6
  obtain ⟨V7, hV7⟩ : ∃ V7, V6.setCell ⟨tb, 1, none⟩ (.int .i64 (n2 : Int)) = V7 := ⟨_, rfl⟩
  have t7 : V7.heap[tb]? = some (.cells #[.int .i64 (n1 : Int), .int .i64 (n2 : Int), .slice none 0 0, .string ⟨#[]⟩] 24 (0, 0)) := by rw [← hV7, heap_setCell_same _ _ _ _ _ _ t6]; rfl
  have o7 : ∀ k, k ≠ tb → V7.heap[k]? = V6.heap[k]? := fun k hk => by rw [← hV7, heap_setCell_other _ _ _ _ hk]
  have b7 : Below w.heap.size w V7 := by rw [← hV7]; exact b6.setCell (show w.heap.size ≤ tb by have := HO.out; omega) _
  have HN3 := rdnum_any ((o7 rb (by have := HO.out; omega)).trans h6) (HX.out V7 b7) HO.out.2.2.2.1
  rw [HO.out.2.2.2.2.2.2] at HN3
  simp only at HN3
  have H7 : Hid (V7.heap[pb]? = some (.cells #[.int .i64 0, .int .i64 0, .slice none 0 0, .string ⟨#[]⟩] 24 (0, 0)) ∧ V7.heap[tb]? = some (.cells #[.int .i64 (n1 : Int), .int .i64 (n2 : Int), .slice none 0 0, .string ⟨#[]⟩] 24 (0, 0)) ∧ Below w.heap.size w V7) := ⟨(o7 pb (by have := HO.out; omega)).trans z6, t7, b7⟩
  clear HN2 h6 x6 t6 z6 b6 t7 o7 b7
  go_wp2_with fail
  refine HN3.mono ?_
  rintro e V8 ⟨rfl, h8, x8⟩
  clear k1 f1
  have t8 := (x8.2 tb (lt_of_some H7.out.2.1) (by have := HO.out; omega)).trans H7.out.2.1
  have z8 := (x8.2 pb (lt_of_some H7.out.1) (by have := HO.out; omega)).trans H7.out.1
  have b8 : Below w.heap.size w V8 := H7.out.2.2.trans (x8.below hrl H7.out.2.2.size)
  by_cases h38 : 8 < n3
  · have k38 : (8 : Int) < (n3 : Int) := by omega
    have hdec := HD.out.1 h38
    have hzp := z8
    have hbe := b8
    obtain ⟨x0, x1, x2, x3, f0, f1, f2, f3⟩ := row4 hzp
    obtain ⟨W5, hW5⟩ : ∃ W5, (((V8.setCell ⟨pb, 0, none⟩ (.int .i64 0)).setCell ⟨pb, 1, none⟩ (.int .i64 0)).setCell ⟨pb, 2, none⟩ (.slice none 0 0)).setCell ⟨pb, 3, none⟩ (.string ⟨#[]⟩) = W5 := ⟨_, rfl⟩
    have HE : Hid (DeTo w (decAt KP63 bs p) (.returned (.tuple #[.agg #[.int .i64 0, .int .i64 0, .slice none 0 0, .string ⟨#[]⟩], .int .i64 0, .int .i64 ((4 : Nat) : Int)])) W5 ∧ W5.heap[pb]? = some (.cells #[.int .i64 0, .int .i64 0, .slice none 0 0, .string ⟨#[]⟩] 24 (0, 0))) := by
      refine ⟨?_, by rw [← hW5]; exact set4 hzp _ _ _ _⟩
      rw [hdec, ← hW5]
      exact ⟨rfl, below4s hbe (Nat.le_of_eq HPB.out) _ _ _ _⟩
    have e44 : ((4 : Nat) : Int) = 4 := rfl
    rw [e44] at HE
    clear HN3 h8 x8 t8 z8 b8 hzp hbe hdec e44
    go_wp2
    refine bodyPost_ret (v := .tuple #[.agg #[.int .i64 0, .int .i64 0, .slice none 0 0, .string ⟨#[]⟩], .int .i64 0, .int .i64 4]) ?_ rfl HE.out.1
    exact res_tk3 (fn := Tryd.f6) (p := 4) (q := 5) (r := 6) (by rfl) _ _ pb _ (by rfl) HE.out.2 infoT4
  · have k38 : ¬ (8 : Int) < (n3 : Int) := by omega
    have H8 : Hid (V8.heap[rb]? = some (rdR a len cap p3 e3) ∧ V8.heap[pb]? = some (.cells #[.int .i64 0, .int .i64 0, .slice none 0 0, .string ⟨#[]⟩] 24 (0, 0)) ∧ V8.heap[tb]? = some (.cells #[.int .i64 (n1 : Int), .int .i64 (n2 : Int), .slice none 0 0, .string ⟨#[]⟩] 24 (0, 0)) ∧ Below w.heap.size w V8) := ⟨h8, z8, t8, b8⟩
    clear HN3 h8 x8 t8 z8 b8
    go_wp2
    go_loopw [22] (fun v wr => ∃ (i : Nat) (a' : Option Addr) (c' : Nat), i ≤ n3 ∧ v = .int .i64 i ∧ wr.heap[rb]? = some (rdR a len cap (foldC bs p3 e3 i).2.1 (foldC bs p3 e3 i).2.2) ∧ wr.heap[pb]? = some (.cells #[.int .i64 0, .int .i64 0, .slice none 0 0, .string ⟨#[]⟩] 24 (0, 0)) ∧ wr.heap[tb]? = some (.cells #[.int .i64 (n1 : Int), .int .i64 (n2 : Int), .slice a' i c', .string ⟨#[]⟩] 24 (0, 0)) ∧ wr.ownsRow (tb + 1) 39 3 (.slice a' i c') i (cvR (foldC bs p3 e3 i).1) ∧ Below w.heap.size w wr ∧ tb < wr.heap.size) (fun v _ => n3 - (intOf v).toNat)
    case atStart => exact ⟨0, none, 0, by omega, rfl, H8.out.1, H8.out.2.1, H8.out.2.2.1, World.ownsRow_nil _ _ _ _, H8.out.2.2.2, lt_of_some H8.out.2.2.1⟩
    case round =>
    obtain ⟨i, a', c', hi, rfl, hr, hz, ht, ho, hbw, htl⟩ := hrel
    by_cases hlt : i < n3
    · have kk : (i : Int) < (n3 : Int) := by omega
      have ipi := foldC_in (e := e3) HO.out.2.2.2.2.1 i
      obtain ⟨l, q, ei, hf⟩ : ∃ l q e, foldC bs p3 e3 i = (l, q, e) := ⟨_, _, _, rfl⟩
      rw [hf] at hr ho ipi
      simp only at hr ho ipi
      obtain ⟨⟨g1, g2, g3⟩, q', ei', hC⟩ : ∃ c r e, rdC bs q ei = (c, r, e) := ⟨_, _, _, rfl⟩
      have hf2 : foldC bs p3 e3 (i + 1) = (l ++ [⟨g1, g2, g3⟩], q', ei') := by
        show ((foldC bs p3 e3 i).1 ++ [(rdC bs (foldC bs p3 e3 i).2.1 (foldC bs p3 e3 i).2.2).1], (rdC bs (foldC bs p3 e3 i).2.1 (foldC bs p3 e3 i).2.2).2) = _
        rw [hf]
        simp only
        rw [hC]
      have hbs := HX.out wr hbw
      have hne2 : (∀ ad, a = some ad → ad.block ≠ rb) ∨ bs = [] := by
        cases bs with
        | nil => exact .inr rfl
        | cons x xs =>
          refine .inl (fun ad had => ?_)
          have hc := (HX.out w (Below.refl _ _)).2.2.2.2 ad had 0 (by simp)
          have := World.block_lt_of_cell? w _ hc
          have hbk : (ad.add 0).block = ad.block := by unfold Addr.add; split <;> rfl
          omega
      have HCV : Calls Tryd.prog 17 #[.pointer (some ⟨rb, 0, none⟩)] wr.drew fun e' w' => e' = .returned (.agg #[.string g1, .int .i64 g2, .int .i64 g3]) ∧ w'.heap[rb]? = some (rdR a len cap q' ei') ∧ Ex rb wr.drew w' := by
        have h9 := rdcav_any (w := wr.drew) hr hbs hne2 ipi
        rw [hC] at h9
        exact h9
      have HCC : Hid (Calls Tryd.prog 17 #[.pointer (some ⟨rb, 0, none⟩)] wr.drew fun e' w' => e' = .returned (.agg #[.string g1, .int .i64 g2, .int .i64 g3]) ∧ w'.heap[rb]? = some (rdR a len cap q' ei') ∧ Ex rb wr.drew w') := HCV
      obtain ⟨_, _, y2, _, _, _, fz2, _⟩ := row4 ht
      have y2d : wr.drew.cell? ⟨tb, 2, none⟩ = some (.slice a' i c') := y2
      have HI : Hid (wr.heap[pb]? = some (.cells #[.int .i64 0, .int .i64 0, .slice none 0 0, .string ⟨#[]⟩] 24 (0, 0)) ∧ wr.heap[tb]? = some (.cells #[.int .i64 (n1 : Int), .int .i64 (n2 : Int), .slice a' i c', .string ⟨#[]⟩] 24 (0, 0)) ∧ wr.ownsRow (tb + 1) 39 3 (.slice a' i c') i (cvR l) ∧ Below w.heap.size w wr ∧ foldC bs p3 e3 (i + 1) = (l ++ [⟨g1, g2, g3⟩], q', ei') ∧ tb < wr.heap.size) := ⟨hz, ht, ho, hbw, hf2, htl⟩
      clear hr hz ht ho hbw hf ipi hC hf2 hbs hne2 HCV htl
      go_wp2
      refine wp_region_held_drew (S := fun _ => True) (by kernel_rfl) (trivial) (fun hHeld => ?_)
      refine wpAnyH_take (i := 0) (v := ?va_0) rfl (by kernel_rfl) (by kernel_rfl) (by kernel_rfl) (fun _ _ _ h => h) (Or.inl ⟨by first | kernel_rfl | rfl, ?ya_0⟩) hHeld ?ra_0
      case ya_0 => (intro W hSW; (try dsimp only at hSW); go_simp; (try with_reducible rfl))
      change wpAnyH _ _ _ _ _ _ _ (Act.put _ (some 24) _) _
      simp only [Act.put, List.setIfInBounds_toArray, List.set_cons_zero, List.set_cons_succ]
      refine wpAnyH_ready (rs := [1, 2]) (by kernel_rfl) (by simp) ?_
      refine AllReadyH.cons rfl (fun K hK => ?_) (AllReadyH.cons rfl (fun K hK => ?_) AllReadyH.nil)
      · go_simp
        refine hK.out _ _ (trivial) (fun hHeld => ?_)
        clear hK K
        try simp only [Act.put, List.setIfInBounds_toArray, List.set_cons_zero, List.set_cons_succ]
        refine wpAnyH_ready (rs := [2]) (by kernel_rfl) (by simp) ?_
        refine AllReadyH.cons rfl (fun K hK => ?_) AllReadyH.nil
        go_simp
        refine (HCC.out).mono ?_
        rintro e V5 ⟨rfl, h5, x5⟩
        refine hK.out _ _ (trivial) (fun hHeld => ?_)
        clear hK K
        try simp only [Act.put, List.setIfInBounds_toArray, List.set_cons_zero, List.set_cons_succ]
        have t5 : V5.heap[tb]? = some (.cells #[.int .i64 (n1 : Int), .int .i64 (n2 : Int), .slice a' i c', .string ⟨#[]⟩] 24 (0, 0)) := (x5.2 tb (show tb < wr.drew.heap.size from HI.out.2.2.2.2.2) (by have := HO.out; omega)).trans HI.out.2.1
        have z5 : V5.heap[pb]? = some (.cells #[.int .i64 0, .int .i64 0, .slice none 0 0, .string ⟨#[]⟩] 24 (0, 0)) := (x5.2 pb (show pb < wr.drew.heap.size from lt_of_some HI.out.1) (by have := HO.out; omega)).trans HI.out.1
        have o5 : V5.ownsRow (tb + 1) 39 3 (.slice a' i c') i (cvR l) := own_keep HI.out.2.2.1 (fun j hj => by have h9 := HI.out.2.2.1.lt j hj; exact x5.2 j h9.2 (by have := HO.out; omega))
        have b5 : Below w.heap.size w V5 := HI.out.2.2.2.1.drew.trans (x5.below hrl HI.out.2.2.2.1.drew.size)
        have n5 : tb < V5.heap.size := lt_of_some t5
        have y5 : V5.cell? ⟨tb, 2, none⟩ = some (.slice a' i c') := by obtain ⟨_, _, g2, _⟩ := row4 t5; exact g2
        obtain ⟨V6, hV6, r6, hb6⟩ := box_cv (w := V5) g1 g2 g3
        obtain ⟨g6, hg6⟩ : ∃ g6, V5.heap.size = g6 := ⟨_, rfl⟩
        rw [hg6] at r6
        have t6 := (hb6.block tb n5).trans t5
        have y6 : V6.cell? ⟨tb, 2, none⟩ = some (.slice a' i c') := by obtain ⟨_, _, g2, _⟩ := row4 t6; exact g2
        have o6 : V6.ownsRow (tb + 1) 39 3 (.slice a' i c') i (cvR l) := own_keep o5 (fun j hj => hb6.block j (o5.lt j hj).2)
        have b6 : Below w.heap.size w V6 := b5.trans (hb6.mono b5.size)
        obtain ⟨a7, c7, V7, hr7, o7, hg7, _⟩ := addK_own V6 o6 (cvRow (p := ⟨g1, g2, g3⟩) r6) (by omega) (by have := hb6.size; omega)
        have ngr : ∀ k, k < V6.heap.size → k ≤ tb → V7.heap[k]? = V6.heap[k]? := fun k hk hkt => hg7.block k hk (fun h9 => by have := (o6.lt k (by rw [ob_slice]; exact h9.symm)).1; omega)
        have t7 := (ngr tb (lt_of_some t6) (by omega)).trans t6
        have z7 := (ngr pb (by have := hb6.size; have := lt_of_some z5; omega) (by have := HO.out; omega)).trans ((hb6.block pb (lt_of_some z5)).trans z5)
        have rr7 := (ngr rb (by have := hb6.size; have := lt_of_some h5; omega) (by have := HO.out; omega)).trans ((hb6.block rb (lt_of_some h5)).trans h5)
        have b7 : Below w.heap.size w V7 := b6.grown hg7 b6.size (fun j hj => by have := (o6.lt j (by rw [ob_slice]; exact hj)).1; have := HO.out; omega)
        obtain ⟨_, _, k7, _, _, _, f7, _⟩ := row4 t7
        obtain ⟨V8', hV8'⟩ : ∃ V8', V7.setCell ⟨tb, 2, none⟩ (.slice a7 (i + 1) c7) = V8' := ⟨_, rfl⟩
        have HE : Hid (V8'.heap[rb]? = some (rdR a len cap (foldC bs p3 e3 (i + 1)).2.1 (foldC bs p3 e3 (i + 1)).2.2) ∧ V8'.heap[pb]? = some (.cells #[.int .i64 0, .int .i64 0, .slice none 0 0, .string ⟨#[]⟩] 24 (0, 0)) ∧ V8'.heap[tb]? = some (.cells #[.int .i64 (n1 : Int), .int .i64 (n2 : Int), .slice a7 (i + 1) c7, .string ⟨#[]⟩] 24 (0, 0)) ∧ V8'.ownsRow (tb + 1) 39 3 (.slice a7 (i + 1) c7) (i + 1) (cvR (foldC bs p3 e3 (i + 1)).1) ∧ Below w.heap.size w V8' ∧ tb < V8'.heap.size) := by
          have o8 : ∀ k, k ≠ tb → V8'.heap[k]? = V7.heap[k]? := fun k hk => by rw [← hV8', heap_setCell_other _ _ _ _ hk]
          have t8 : V8'.heap[tb]? = some (.cells #[.int .i64 (n1 : Int), .int .i64 (n2 : Int), .slice a7 (i + 1) c7, .string ⟨#[]⟩] 24 (0, 0)) := by rw [← hV8', heap_setCell_same _ _ _ _ _ _ t7]; rfl
          rw [HI.out.2.2.2.2.1]
          refine ⟨(o8 rb (by have := HO.out; omega)).trans rr7, (o8 pb (by have := HO.out; omega)).trans z7, t8, own_keep o7 (fun j hj => by have h9 := (o7.lt j hj).1; exact o8 j (by omega)), ?_, lt_of_some t8⟩
          rw [← hV8']
          exact b7.setCell (show w.heap.size ≤ tb by have := HO.out; omega) _
        clear h5 x5 t5 z5 o5 b5 n5 r6 hb6 t6 o6 b6 o7 hg7 ngr t7 z7 rr7 b7
        refine wpAnyH_ready (rs := [3]) (by kernel_rfl) (by simp) ?_
        refine AllReadyH.cons rfl (fun K hK => ?_) AllReadyH.nil
        go_simp
        refine hK.out _ _ (trivial) (fun hHeld => ?_)
        clear hK K
        try simp only [Act.put, List.setIfInBounds_toArray, List.set_cons_zero, List.set_cons_succ]
        refine wpAnyH_ready (rs := [4]) (by kernel_rfl) (by simp) ?_
        refine AllReadyH.cons rfl (fun K hK => ?_) AllReadyH.nil
        rw [if_pos (by rfl)]
        refine wp_app V6 _ _ _ _ rfl rfl rfl (hr7 _) ?_
        skip
        refine hK.out _ _ (trivial) (fun hHeld => ?_)
        clear hK K
        change wpAnyH _ _ _ _ _ _ _ (Act.put _ (some 28) _) _
        simp only [Act.put, List.setIfInBounds_toArray, List.set_cons_zero, List.set_cons_succ]
        refine wpAnyH_take (i := 5) (v := ?vb_5) rfl (by kernel_rfl) (by kernel_rfl) (by kernel_rfl) (fun _ _ _ h => h) (Or.inl ⟨by first | kernel_rfl | rfl, ?yb_5⟩) hHeld ?rb_5
        case yb_5 => (intro W hSW; (try dsimp only at hSW); go_simp; (try with_reducible rfl))
        change wpAnyH _ _ _ _ _ _ _ (Act.put _ (some 29) _) _
        simp only [Act.put, List.setIfInBounds_toArray, List.set_cons_zero, List.set_cons_succ]
        refine wpAnyH_ready (rs := [6]) (by kernel_rfl) (by simp) ?_
        refine AllReadyH.cons rfl (fun K hK => ?_) AllReadyH.nil
        go_simp
        refine hK.out _ _ (trivial) (fun hHeld => ?_)
        clear hK K
        refine wpAnyH_done (by kernel_rfl) ?_ _
        go_wp2
        exact ⟨⟨i + 1, a7, c7, by omega, by go_num, HE.out⟩, by simp [intOf]; omega⟩
      · go_simp
        refine (HCC.out).mono ?_
        rintro e V5 ⟨rfl, h5, x5⟩
        refine hK.out _ _ (trivial) (fun hHeld => ?_)
        clear hK K
        try simp only [Act.put, List.setIfInBounds_toArray, List.set_cons_zero, List.set_cons_succ]
        have t5 : V5.heap[tb]? = some (.cells #[.int .i64 (n1 : Int), .int .i64 (n2 : Int), .slice a' i c', .string ⟨#[]⟩] 24 (0, 0)) := (x5.2 tb (show tb < wr.drew.heap.size from HI.out.2.2.2.2.2) (by have := HO.out; omega)).trans HI.out.2.1
        have z5 : V5.heap[pb]? = some (.cells #[.int .i64 0, .int .i64 0, .slice none 0 0, .string ⟨#[]⟩] 24 (0, 0)) := (x5.2 pb (show pb < wr.drew.heap.size from lt_of_some HI.out.1) (by have := HO.out; omega)).trans HI.out.1
        have o5 : V5.ownsRow (tb + 1) 39 3 (.slice a' i c') i (cvR l) := own_keep HI.out.2.2.1 (fun j hj => by have h9 := HI.out.2.2.1.lt j hj; exact x5.2 j h9.2 (by have := HO.out; omega))
        have b5 : Below w.heap.size w V5 := HI.out.2.2.2.1.drew.trans (x5.below hrl HI.out.2.2.2.1.drew.size)
        have n5 : tb < V5.heap.size := lt_of_some t5
        have y5 : V5.cell? ⟨tb, 2, none⟩ = some (.slice a' i c') := by obtain ⟨_, _, g2, _⟩ := row4 t5; exact g2
        obtain ⟨V6, hV6, r6, hb6⟩ := box_cv (w := V5) g1 g2 g3
        obtain ⟨g6, hg6⟩ : ∃ g6, V5.heap.size = g6 := ⟨_, rfl⟩
        rw [hg6] at r6
        have t6 := (hb6.block tb n5).trans t5
        have y6 : V6.cell? ⟨tb, 2, none⟩ = some (.slice a' i c') := by obtain ⟨_, _, g2, _⟩ := row4 t6; exact g2
        have o6 : V6.ownsRow (tb + 1) 39 3 (.slice a' i c') i (cvR l) := own_keep o5 (fun j hj => hb6.block j (o5.lt j hj).2)
        have b6 : Below w.heap.size w V6 := b5.trans (hb6.mono b5.size)
        obtain ⟨a7, c7, V7, hr7, o7, hg7, _⟩ := addK_own V6 o6 (cvRow (p := ⟨g1, g2, g3⟩) r6) (by omega) (by have := hb6.size; omega)
        have ngr : ∀ k, k < V6.heap.size → k ≤ tb → V7.heap[k]? = V6.heap[k]? := fun k hk hkt => hg7.block k hk (fun h9 => by have := (o6.lt k (by rw [ob_slice]; exact h9.symm)).1; omega)
        have t7 := (ngr tb (lt_of_some t6) (by omega)).trans t6
        have z7 := (ngr pb (by have := hb6.size; have := lt_of_some z5; omega) (by have := HO.out; omega)).trans ((hb6.block pb (lt_of_some z5)).trans z5)
        have rr7 := (ngr rb (by have := hb6.size; have := lt_of_some h5; omega) (by have := HO.out; omega)).trans ((hb6.block rb (lt_of_some h5)).trans h5)
        have b7 : Below w.heap.size w V7 := b6.grown hg7 b6.size (fun j hj => by have := (o6.lt j (by rw [ob_slice]; exact hj)).1; have := HO.out; omega)
        obtain ⟨_, _, k7, _, _, _, f7, _⟩ := row4 t7
        obtain ⟨V8', hV8'⟩ : ∃ V8', V7.setCell ⟨tb, 2, none⟩ (.slice a7 (i + 1) c7) = V8' := ⟨_, rfl⟩
        have HE : Hid (V8'.heap[rb]? = some (rdR a len cap (foldC bs p3 e3 (i + 1)).2.1 (foldC bs p3 e3 (i + 1)).2.2) ∧ V8'.heap[pb]? = some (.cells #[.int .i64 0, .int .i64 0, .slice none 0 0, .string ⟨#[]⟩] 24 (0, 0)) ∧ V8'.heap[tb]? = some (.cells #[.int .i64 (n1 : Int), .int .i64 (n2 : Int), .slice a7 (i + 1) c7, .string ⟨#[]⟩] 24 (0, 0)) ∧ V8'.ownsRow (tb + 1) 39 3 (.slice a7 (i + 1) c7) (i + 1) (cvR (foldC bs p3 e3 (i + 1)).1) ∧ Below w.heap.size w V8' ∧ tb < V8'.heap.size) := by
          have o8 : ∀ k, k ≠ tb → V8'.heap[k]? = V7.heap[k]? := fun k hk => by rw [← hV8', heap_setCell_other _ _ _ _ hk]
          have t8 : V8'.heap[tb]? = some (.cells #[.int .i64 (n1 : Int), .int .i64 (n2 : Int), .slice a7 (i + 1) c7, .string ⟨#[]⟩] 24 (0, 0)) := by rw [← hV8', heap_setCell_same _ _ _ _ _ _ t7]; rfl
          rw [HI.out.2.2.2.2.1]
          refine ⟨(o8 rb (by have := HO.out; omega)).trans rr7, (o8 pb (by have := HO.out; omega)).trans z7, t8, own_keep o7 (fun j hj => by have h9 := (o7.lt j hj).1; exact o8 j (by omega)), ?_, lt_of_some t8⟩
          rw [← hV8']
          exact b7.setCell (show w.heap.size ≤ tb by have := HO.out; omega) _
        clear h5 x5 t5 z5 o5 b5 n5 r6 hb6 t6 o6 b6 o7 hg7 ngr t7 z7 rr7 b7
        refine wpAnyH_ready (rs := [1, 3]) (by kernel_rfl) (by simp) ?_
        refine AllReadyH.cons rfl (fun K hK => ?_) (AllReadyH.cons rfl (fun K hK => ?_) AllReadyH.nil)
        · go_simp
          refine hK.out _ _ (trivial) (fun hHeld => ?_)
          clear hK K
          try simp only [Act.put, List.setIfInBounds_toArray, List.set_cons_zero, List.set_cons_succ]
          refine wpAnyH_ready (rs := [3]) (by kernel_rfl) (by simp) ?_
          refine AllReadyH.cons rfl (fun K hK => ?_) AllReadyH.nil
          go_simp
          refine hK.out _ _ (trivial) (fun hHeld => ?_)
          clear hK K
          try simp only [Act.put, List.setIfInBounds_toArray, List.set_cons_zero, List.set_cons_succ]
          refine wpAnyH_ready (rs := [4]) (by kernel_rfl) (by simp) ?_
          refine AllReadyH.cons rfl (fun K hK => ?_) AllReadyH.nil
          rw [if_pos (by rfl)]
          refine wp_app V6 _ _ _ _ rfl rfl rfl (hr7 _) ?_
          skip
          refine hK.out _ _ (trivial) (fun hHeld => ?_)
          clear hK K
          change wpAnyH _ _ _ _ _ _ _ (Act.put _ (some 28) _) _
          simp only [Act.put, List.setIfInBounds_toArray, List.set_cons_zero, List.set_cons_succ]
          refine wpAnyH_take (i := 5) (v := ?vd_5) rfl (by kernel_rfl) (by kernel_rfl) (by kernel_rfl) (fun _ _ _ h => h) (Or.inl ⟨by first | kernel_rfl | rfl, ?yd_5⟩) hHeld ?rd_5
          case yd_5 => (intro W hSW; (try dsimp only at hSW); go_simp; (try with_reducible rfl))
          change wpAnyH _ _ _ _ _ _ _ (Act.put _ (some 29) _) _
          simp only [Act.put, List.setIfInBounds_toArray, List.set_cons_zero, List.set_cons_succ]
          refine wpAnyH_ready (rs := [6]) (by kernel_rfl) (by simp) ?_
          refine AllReadyH.cons rfl (fun K hK => ?_) AllReadyH.nil
          go_simp
          refine hK.out _ _ (trivial) (fun hHeld => ?_)
          clear hK K
          refine wpAnyH_done (by kernel_rfl) ?_ _
          go_wp2
          exact ⟨⟨i + 1, a7, c7, by omega, by go_num, HE.out⟩, by simp [intOf]; omega⟩
        · go_simp
          refine hK.out _ _ (trivial) (fun hHeld => ?_)
          clear hK K
          try simp only [Act.put, List.setIfInBounds_toArray, List.set_cons_zero, List.set_cons_succ]
          refine wpAnyH_ready (rs := [1]) (by kernel_rfl) (by simp) ?_
          refine AllReadyH.cons rfl (fun K hK => ?_) AllReadyH.nil
          go_simp
          refine hK.out _ _ (trivial) (fun hHeld => ?_)
          clear hK K
          try simp only [Act.put, List.setIfInBounds_toArray, List.set_cons_zero, List.set_cons_succ]
          refine wpAnyH_ready (rs := [4]) (by kernel_rfl) (by simp) ?_
          refine AllReadyH.cons rfl (fun K hK => ?_) AllReadyH.nil
          rw [if_pos (by rfl)]
          refine wp_app V6 _ _ _ _ rfl rfl rfl (hr7 _) ?_
          skip
          refine hK.out _ _ (trivial) (fun hHeld => ?_)
          clear hK K
          change wpAnyH _ _ _ _ _ _ _ (Act.put _ (some 28) _) _
          simp only [Act.put, List.setIfInBounds_toArray, List.set_cons_zero, List.set_cons_succ]
          refine wpAnyH_take (i := 5) (v := ?ve_5) rfl (by kernel_rfl) (by kernel_rfl) (by kernel_rfl) (fun _ _ _ h => h) (Or.inl ⟨by first | kernel_rfl | rfl, ?ye_5⟩) hHeld ?re_5
          case ye_5 => (intro W hSW; (try dsimp only at hSW); go_simp; (try with_reducible rfl))
          change wpAnyH _ _ _ _ _ _ _ (Act.put _ (some 29) _) _
          simp only [Act.put, List.setIfInBounds_toArray, List.set_cons_zero, List.set_cons_succ]
          refine wpAnyH_ready (rs := [6]) (by kernel_rfl) (by simp) ?_
          refine AllReadyH.cons rfl (fun K hK => ?_) AllReadyH.nil
          go_simp
          refine hK.out _ _ (trivial) (fun hHeld => ?_)
          clear hK K
          refine wpAnyH_done (by kernel_rfl) ?_ _
          go_wp2
          exact ⟨⟨i + 1, a7, c7, by omega, by go_num, HE.out⟩, by simp [intOf]; omega⟩
    · obtain rfl : i = n3 := by omega
      have kk : ¬ (i : Int) < (i : Int) := by omega
      have ipi := foldC_in (e := e3) HO.out.2.2.2.2.1 i
      obtain ⟨l, q, e4, hf⟩ : ∃ l q e, foldC bs p3 e3 i = (l, q, e) := ⟨_, _, _, rfl⟩
      rw [hf] at hr ho ipi
      simp only at hr ho ipi
      have hpl : ∀ c ∈ l, c.path.size ≤ 9223372036854775807 := by
        have h9 := foldC_paths (p := p3) (e := e3) HO.out.2.2.2.2.1.2.2 i
        rw [hf] at h9
        exact h9
      have HPL : Hid (∀ c ∈ l, c.path.size ≤ 9223372036854775807) := hpl
      clear hpl
      obtain ⟨tx, q2, e5, hT⟩ : ∃ t r e, rdT bs q e4 32 = (t, r, e) := ⟨_, _, _, rfl⟩
      obtain ⟨hd5, hd6⟩ := HD.out.2 (by omega) l q e4 tx q2 e5 hf hT
      have HTX := rdtext_any (w := wr) (bs := bs) (p := q) (e := e4) 32 (by omega) hr (HX.out wr hbw) ipi
      rw [show ((32 : Nat) : Int) = 32 from rfl, hT] at HTX
      obtain ⟨X, hX⟩ : ∃ X, baOf tx = X := ⟨_, rfl⟩
      rw [hX] at hd6
      simp only at HTX
      rw [hX] at HTX
      have HI : Hid (wr.heap[pb]? = some (.cells #[.int .i64 0, .int .i64 0, .slice none 0 0, .string ⟨#[]⟩] 24 (0, 0)) ∧ wr.heap[tb]? = some (.cells #[.int .i64 (n1 : Int), .int .i64 (n2 : Int), .slice a' i c', .string ⟨#[]⟩] 24 (0, 0)) ∧ wr.ownsRow (tb + 1) 39 3 (.slice a' i c') i (cvR l) ∧ Below w.heap.size w wr) := ⟨hz, ht, ho, hbw⟩
      have HDD : Hid ((e5 ≠ 0 → decAt KP63 bs p = .error e5) ∧ (e5 = 0 → decAt KP63 bs p = (if mayT ⟨(n1 : Int), (n2 : Int), l, X⟩ = true then .ok (⟨(n1 : Int), (n2 : Int), l, X⟩, q2) else .error 4))) := ⟨hd5, hd6⟩
      clear hr hz ht ho hbw hf ipi hT hd5 hd6 hX htl
      go_wp2_with fail
      refine HTX.mono ?_
      rintro e VA ⟨rfl, hA, xA⟩
      have tA := (xA.2 tb (lt_of_some HI.out.2.1) (by have := HO.out; omega)).trans HI.out.2.1
      have zA := (xA.2 pb (lt_of_some HI.out.1) (by have := HO.out; omega)).trans HI.out.1
      have oA : VA.ownsRow (tb + 1) 39 3 (.slice a' i c') i (cvR l) := own_keep HI.out.2.2.1 (fun j hj => by have h9 := HI.out.2.2.1.lt j hj; exact xA.2 j h9.2 (by have := HO.out; omega))
      have bA : Below w.heap.size w VA := HI.out.2.2.2.trans (xA.below hrl HI.out.2.2.2.size)
      obtain ⟨_, _, _, k3, _, _, _, f3'⟩ := row4 tA
      obtain ⟨VB, hVB⟩ : ∃ VB, VA.setCell ⟨tb, 3, none⟩ (.string X) = VB := ⟨_, rfl⟩
      have tB : VB.heap[tb]? = some (.cells #[.int .i64 (n1 : Int), .int .i64 (n2 : Int), .slice a' i c', .string X] 24 (0, 0)) := by rw [← hVB, heap_setCell_same _ _ _ _ _ _ tA]; rfl
      have oB' : ∀ k, k ≠ tb → VB.heap[k]? = VA.heap[k]? := fun k hk => by rw [← hVB, heap_setCell_other _ _ _ _ hk]
      have bB : Below w.heap.size w VB := by rw [← hVB]; exact bA.setCell (show w.heap.size ≤ tb by have := HO.out; omega) _
      have rB := (oB' rb (by have := HO.out; omega)).trans hA
      have zB := (oB' pb (by have := HO.out; omega)).trans zA
      have oB : VB.ownsRow (tb + 1) 39 3 (.slice a' i c') i (cvR l) := own_keep oA (fun j hj => by have h9 := (oA.lt j hj).1; exact oB' j (by omega))
      have rB2 := rB
      unfold rdR at rB2
      obtain ⟨_, d1, d2, _⟩ := row3 rB2
      by_cases h5 : e5 = 0
      · subst h5
        have hdd := HDD.out.2 rfl
        obtain ⟨s0, s1, s2, s3, _⟩ := row4 tB
        have HMY := cmay_any (n1 : Int) (n2 : Int) X (Kw.own oB) HPL.out
        unfold YeTo at HMY
        have HBB : Hid (VB.heap[tb]? = some (.cells #[.int .i64 (n1 : Int), .int .i64 (n2 : Int), .slice a' i c', .string X] 24 (0, 0)) ∧ VB.heap[pb]? = some (.cells #[.int .i64 0, .int .i64 0, .slice none 0 0, .string ⟨#[]⟩] 24 (0, 0)) ∧ VB.heap[rb]? = some (.cells #[.slice a len cap, .int .i64 q2, .int .i64 ((0 : Nat) : Int)] 46 (0, 0)) ∧ Rw (fun x => pb < x) VB 39 3 a' i c' (cvR l) ∧ Below w.heap.size w VB) := ⟨tB, zB, rB2, Rw.own oB (fun x hx => by have := HO.out; omega), bB⟩
        clear HTX hA xA tA zA oA bA tB oB' bB rB zB oB rB2
        cases hm : mayT ⟨(n1 : Int), (n2 : Int), l, X⟩ with
        | false =>
          rw [hm] at HMY hdd
          rw [if_neg (by decide)] at hdd
          have HDX : Hid (decAt KP63 bs p = .error 4) := hdd
          clear hm hdd
          go_wp2_with fail
          refine HMY.mono ?_
          rintro e VC ⟨rfl, hbC⟩
          have hzp := (hbC.block pb (lt_of_some HBB.out.2.1)).trans HBB.out.2.1
          have hbe : Below w.heap.size w VC := HBB.out.2.2.2.2.trans (hbC.mono HBB.out.2.2.2.2.size)
          have hdec := HDX.out
          obtain ⟨x0, x1, x2, x3, f0, f1, f2, f3⟩ := row4 hzp
          obtain ⟨W5, hW5⟩ : ∃ W5, (((VC.setCell ⟨pb, 0, none⟩ (.int .i64 0)).setCell ⟨pb, 1, none⟩ (.int .i64 0)).setCell ⟨pb, 2, none⟩ (.slice none 0 0)).setCell ⟨pb, 3, none⟩ (.string ⟨#[]⟩) = W5 := ⟨_, rfl⟩
          have HE : Hid (DeTo w (decAt KP63 bs p) (.returned (.tuple #[.agg #[.int .i64 0, .int .i64 0, .slice none 0 0, .string ⟨#[]⟩], .int .i64 0, .int .i64 ((4 : Nat) : Int)])) W5 ∧ W5.heap[pb]? = some (.cells #[.int .i64 0, .int .i64 0, .slice none 0 0, .string ⟨#[]⟩] 24 (0, 0))) := by
            refine ⟨?_, by rw [← hW5]; exact set4 hzp _ _ _ _⟩
            rw [hdec, ← hW5]
            exact ⟨rfl, below4s hbe (Nat.le_of_eq HPB.out) _ _ _ _⟩
          have e44 : ((4 : Nat) : Int) = 4 := rfl
          rw [e44] at HE
          clear HMY hbC hzp hbe hdec e44 k3 f3' d1 d2 s0 s1 s2 s3
          go_wp2
          refine bodyPost_ret (v := .tuple #[.agg #[.int .i64 0, .int .i64 0, .slice none 0 0, .string ⟨#[]⟩], .int .i64 0, .int .i64 4]) ?_ rfl HE.out.1
          exact res_tk3 (fn := Tryd.f6) (p := 4) (q := 5) (r := 6) (by rfl) _ _ pb _ (by rfl) HE.out.2 infoT4
        | true =>
          rw [hm] at HMY hdd
          rw [if_pos rfl] at hdd
          have HDX : Hid (decAt KP63 bs p = .ok (⟨(n1 : Int), (n2 : Int), l, X⟩, q2)) := hdd
          clear hm hdd
          go_wp2_with fail
          refine HMY.mono ?_
          rintro e VC ⟨rfl, hbC⟩
          clear d1 d2 s0 s1 s2 s3 k3 f3'
          have hzp := (hbC.block pb (lt_of_some HBB.out.2.1)).trans HBB.out.2.1
          have htp := (hbC.block tb (lt_of_some HBB.out.1)).trans HBB.out.1
          have hrp := (hbC.block rb (lt_of_some HBB.out.2.2.1)).trans HBB.out.2.2.1
          have hbe : Below w.heap.size w VC := HBB.out.2.2.2.2.trans (hbC.mono HBB.out.2.2.2.2.size)
          obtain ⟨s0, s1, s2, s3, _⟩ := row4 htp
          obtain ⟨_, d1, _⟩ := row3 hrp
          obtain ⟨x0, x1, x2, x3, f0, f1, f2, f3⟩ := row4 hzp
          obtain ⟨W5, hW5⟩ : ∃ W5, (((VC.setCell ⟨pb, 0, none⟩ (.int .i64 (n1 : Int))).setCell ⟨pb, 1, none⟩ (.int .i64 (n2 : Int))).setCell ⟨pb, 2, none⟩ (.slice a' i c')).setCell ⟨pb, 3, none⟩ (.string X) = W5 := ⟨_, rfl⟩
          have HE : Hid (DeTo w (decAt KP63 bs p) (.returned (.tuple #[.agg #[.int .i64 (n1 : Int), .int .i64 (n2 : Int), .slice a' i c', .string X], .int .i64 q2, .int .i64 0])) W5.drew ∧ W5.drew.heap[pb]? = some (.cells #[.int .i64 (n1 : Int), .int .i64 (n2 : Int), .slice a' i c', .string X] 24 (0, 0))) := by
            refine ⟨?_, by rw [← hW5]; exact set4 (U := VC) hzp _ _ _ _⟩
            rw [HDX.out]
            refine ⟨a', i, c', rfl, ?_, ?_⟩
            · have hk9 : Rw (fun x => pb < x) VC 39 3 a' i c' (cvR l) := HBB.out.2.2.2.1.below hbC
              rw [← hW5]
              exact Rw.mono (Rw.keep (w := VC) hk9 (below4s (Below.refl 0 _) (Nat.zero_le pb) _ _ _ _).size (fun b hb _ => other4s (by omega) _ _ _ _)) (fun _ _ _ => trivial)
            · rw [← hW5]
              exact (below4s hbe (Nat.le_of_eq HPB.out) _ _ _ _).drew
          have q0 : W5.drew.cell? ⟨rb, 1, none⟩ = some (.int .i64 q2) := by
            have h9 : W5.drew.heap[rb]? = VC.heap[rb]? := by rw [← hW5]; exact other4s (by have := HO.out; omega) _ _ _ _
            rw [cell_of_row _ _ _ _ _ _ (h9.trans hrp)]; rfl
          have q1 : W5.drew.cell? ⟨tb, 0, none⟩ = some (.int .i64 (n1 : Int)) ∧ W5.drew.cell? ⟨tb, 1, none⟩ = some (.int .i64 (n2 : Int)) ∧ W5.drew.cell? ⟨tb, 2, none⟩ = some (.slice a' i c') ∧ W5.drew.cell? ⟨tb, 3, none⟩ = some (.string X) := by
            have h9 : W5.drew.heap[tb]? = VC.heap[tb]? := by rw [← hW5]; exact other4s (by have := HO.out; omega) _ _ _ _
            obtain ⟨g0, g1, g2, g3, _⟩ := row4 (h9.trans htp)
            exact ⟨g0, g1, g2, g3⟩
          clear HMY hbC hzp hbe htp hrp
          go_wp2
          refine wp_region_held_drew (S := fun W => W.cell? ⟨rb, 1, none⟩ = some (.int .i64 q2) ∧ W.cell? ⟨tb, 0, none⟩ = some (.int .i64 (n1 : Int)) ∧ W.cell? ⟨tb, 1, none⟩ = some (.int .i64 (n2 : Int)) ∧ W.cell? ⟨tb, 2, none⟩ = some (.slice a' i c') ∧ W.cell? ⟨tb, 3, none⟩ = some (.string X)) (by kernel_rfl) (⟨d1, s0, s1, s2, s3⟩) (fun hHeld => ?_)
          refine wpAnyH_take (i := 0) (v := ?vm_0) rfl (by kernel_rfl) (by kernel_rfl) (by kernel_rfl) (fun _ _ _ h => h) (Or.inl ⟨by first | kernel_rfl | rfl, ?ym_0⟩) hHeld ?rm_0
          case ym_0 => (intro W hSW; (try dsimp only at hSW); go_simp; (try with_reducible rfl))
          change wpAnyH _ _ _ _ _ _ _ (Act.put _ (some 43) _) _
          simp only [Act.put, List.setIfInBounds_toArray, List.set_cons_zero, List.set_cons_succ]
          refine wpAnyH_take (i := 1) (v := ?vm_1) rfl (by kernel_rfl) (by kernel_rfl) (by kernel_rfl) (fun _ _ _ h => h) (Or.inl ⟨by first | kernel_rfl | rfl, ?ym_1⟩) hHeld ?rm_1
          case ym_1 => (intro W hSW; (try dsimp only at hSW); go_simp; (try with_reducible rfl))
          change wpAnyH _ _ _ _ _ _ _ (Act.put _ (some 44) _) _
          simp only [Act.put, List.setIfInBounds_toArray, List.set_cons_zero, List.set_cons_succ]
          refine wpAnyH_take (i := 2) (v := ?vm_2) rfl (by kernel_rfl) (by kernel_rfl) (by kernel_rfl) (fun _ _ _ h => h) (Or.inl ⟨by first | kernel_rfl | rfl, ?ym_2⟩) hHeld ?rm_2
          case ym_2 => (intro W hSW; (try dsimp only at hSW); go_simp; (try with_reducible rfl))
          change wpAnyH _ _ _ _ _ _ _ (Act.put _ (some 45) _) _
          simp only [Act.put, List.setIfInBounds_toArray, List.set_cons_zero, List.set_cons_succ]
          refine wpAnyH_ready (rs := [3]) (by kernel_rfl) (by simp) ?_
          refine AllReadyH.cons rfl (fun K hK => ?_) AllReadyH.nil
          go_simp
          refine hK.out _ _ (⟨q0, q1⟩) (fun hHeld => ?_)
          clear hK K
          refine wpAnyH_take (i := 4) (v := ?vm_4) rfl (by kernel_rfl) (by kernel_rfl) (by kernel_rfl) (fun _ _ _ h => h) (Or.inl ⟨by first | kernel_rfl | rfl, ?ym_4⟩) hHeld ?rm_4
          case ym_4 => (intro W hSW; (try dsimp only at hSW); go_simp; (try with_reducible rfl))
          change wpAnyH _ _ _ _ _ _ _ (Act.put _ (some 5) _) _
          simp only [Act.put, List.setIfInBounds_toArray, List.set_cons_zero, List.set_cons_succ]
          refine wpAnyH_take (i := 5) (v := ?vm_5) rfl (by kernel_rfl) (by kernel_rfl) (by kernel_rfl) (fun _ _ _ h => h) (Or.inl ⟨by first | kernel_rfl | rfl, ?ym_5⟩) hHeld ?rm_5
          case ym_5 => (intro W hSW; (try dsimp only at hSW); go_simp; (try with_reducible rfl))
          change wpAnyH _ _ _ _ _ _ _ (Act.put _ (some 6) _) _
          simp only [Act.put, List.setIfInBounds_toArray, List.set_cons_zero, List.set_cons_succ]
          refine wpAnyH_done (by kernel_rfl) ?_ _
          go_wp2
          refine bodyPost_ret (v := .tuple #[.agg #[.int .i64 (n1 : Int), .int .i64 (n2 : Int), .slice a' i c', .string X], .int .i64 q2, .int .i64 0]) ?_ rfl HE.out.1
          exact res_tk3 (fn := Tryd.f6) (p := 4) (q := 5) (r := 6) (by rfl) _ _ pb _ (by rfl) HE.out.2 infoT4
      · have hdec := HDD.out.1 h5
        have k5 : ¬ (e5 : Int) = 0 := by omega
        have k5b : ((e5 : Int) == 0) = false := by simpa using k5
        have k5m : ((e5 : Int) != 0) = true := by simpa using k5
        have hzp : VB.heap[pb]? = some (.cells #[.int .i64 0, .int .i64 0, .slice none 0 0, .string ⟨#[]⟩] 24 (0, 0)) := zB
        have hbe := bB
        obtain ⟨x0, x1, x2, x3, f0, f1, f2, f3⟩ := row4 hzp
        obtain ⟨W5, hW5⟩ : ∃ W5, (((VB.setCell ⟨pb, 0, none⟩ (.int .i64 0)).setCell ⟨pb, 1, none⟩ (.int .i64 0)).setCell ⟨pb, 2, none⟩ (.slice none 0 0)).setCell ⟨pb, 3, none⟩ (.string ⟨#[]⟩) = W5 := ⟨_, rfl⟩
        have HE : Hid (DeTo w (decAt KP63 bs p) (.returned (.tuple #[.agg #[.int .i64 0, .int .i64 0, .slice none 0 0, .string ⟨#[]⟩], .int .i64 0, .int .i64 (e5 : Int)])) W5.drew ∧ W5.drew.heap[pb]? = some (.cells #[.int .i64 0, .int .i64 0, .slice none 0 0, .string ⟨#[]⟩] 24 (0, 0))) := by
          refine ⟨?_, by rw [← hW5]; exact set4 hzp _ _ _ _⟩
          rw [hdec, ← hW5]
          exact ⟨rfl, (below4s hbe (Nat.le_of_eq HPB.out) _ _ _ _).drew⟩
        have q0 : W5.drew.cell? ⟨rb, 2, none⟩ = some (.int .i64 (e5 : Int)) := by
          have h9 : W5.drew.heap[rb]? = VB.heap[rb]? := by rw [← hW5]; exact other4s (by have := HO.out; omega) _ _ _ _
          rw [cell_of_row _ _ _ _ _ _ (h9.trans rB2)]; rfl
        clear HTX hA xA tA zA oA bA tB oB' bB rB zB oB rB2 hzp hbe hdec d1
        go_wp2
        refine wp_region_held_drew (S := fun W => W.cell? ⟨rb, 2, none⟩ = some (.int .i64 (e5 : Int))) (by kernel_rfl) (d2) (fun hHeld => ?_)
        refine wpAnyH_take (i := 0) (v := ?vn_0) rfl (by kernel_rfl) (by kernel_rfl) (by kernel_rfl) (fun _ _ _ h => h) (Or.inl ⟨by first | kernel_rfl | rfl, ?yn_0⟩) hHeld ?rn_0
        case yn_0 => (intro W hSW; (try dsimp only at hSW); go_simp; (try with_reducible rfl))
        change wpAnyH _ _ _ _ _ _ _ (Act.put _ (some 36) _) _
        simp only [Act.put, List.setIfInBounds_toArray, List.set_cons_zero, List.set_cons_succ]
        refine wpAnyH_take (i := 1) (v := ?vn_1) rfl (by kernel_rfl) (by kernel_rfl) (by kernel_rfl) (fun _ _ _ h => h) (Or.inl ⟨by first | kernel_rfl | rfl, ?yn_1⟩) hHeld ?rn_1
        case yn_1 => (intro W hSW; (try dsimp only at hSW); go_simp; (try with_reducible rfl))
        change wpAnyH _ _ _ _ _ _ _ (Act.put _ (some 37) _) _
        simp only [Act.put, List.setIfInBounds_toArray, List.set_cons_zero, List.set_cons_succ]
        refine wpAnyH_take (i := 2) (v := ?vn_2) rfl (by kernel_rfl) (by kernel_rfl) (by kernel_rfl) (fun _ _ _ h => h) (Or.inl ⟨by first | kernel_rfl | rfl, ?yn_2⟩) hHeld ?rn_2
        case yn_2 => (intro W hSW; (try dsimp only at hSW); go_simp; (try with_reducible rfl))
        change wpAnyH _ _ _ _ _ _ _ (Act.put _ (some 38) _) _
        simp only [Act.put, List.setIfInBounds_toArray, List.set_cons_zero, List.set_cons_succ]
        refine wpAnyH_ready (rs := [3]) (by kernel_rfl) (by simp) ?_
        refine AllReadyH.cons rfl (fun K hK => ?_) AllReadyH.nil
        go_simp
        refine hK.out _ _ (q0) (fun hHeld => ?_)
        clear hK K
        refine wpAnyH_take (i := 4) (v := ?vn_4) rfl (by kernel_rfl) (by kernel_rfl) (by kernel_rfl) (fun _ _ _ h => h) (Or.inl ⟨by first | kernel_rfl | rfl, ?yn_4⟩) hHeld ?rn_4
        case yn_4 => (intro W hSW; (try dsimp only at hSW); go_simp; (try with_reducible rfl))
        change wpAnyH _ _ _ _ _ _ _ (Act.put _ (some 5) _) _
        simp only [Act.put, List.setIfInBounds_toArray, List.set_cons_zero, List.set_cons_succ]
        refine wpAnyH_take (i := 5) (v := ?vn_5) rfl (by kernel_rfl) (by kernel_rfl) (by kernel_rfl) (fun _ _ _ h => h) (Or.inl ⟨by first | kernel_rfl | rfl, ?yn_5⟩) hHeld ?rn_5
        case yn_5 => (intro W hSW; (try dsimp only at hSW); go_simp; (try with_reducible rfl))
        change wpAnyH _ _ _ _ _ _ _ (Act.put _ (some 6) _) _
        simp only [Act.put, List.setIfInBounds_toArray, List.set_cons_zero, List.set_cons_succ]
        refine wpAnyH_done (by kernel_rfl) ?_ _
        go_wp2
        refine bodyPost_ret (v := .tuple #[.agg #[.int .i64 0, .int .i64 0, .slice none 0 0, .string ⟨#[]⟩], .int .i64 0, .int .i64 (e5 : Int)]) ?_ rfl HE.out.1
        exact res_tk3 (fn := Tryd.f6) (p := 4) (q := 5) (r := 6) (by rfl) _ _ pb _ (by rfl) HE.out.2 infoT4
end Go.Proofs.YtcmdcmbiilfngabDoor
