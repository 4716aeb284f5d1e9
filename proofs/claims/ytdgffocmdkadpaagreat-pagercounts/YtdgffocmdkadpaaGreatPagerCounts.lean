/- Proved: for every number of pages and all steps, the law PagerCounts returns true, both as they were. No condition: every input that can be read as data. -/
import Derived.Test.YtdgffocmdkadpaaGreatRows
import Derived.Test.YtdgffocmdkadpaaGreatRX
import Derived.WalkKit
import Derived.ProofKit
import Derived.OpenShut
import Derived.ShutString
import Derived.ChangeOld
import Derived.Below
namespace Go.Proofs.YtdgffocmdkadpaaGreat.pagerCounts
open Go.ChangeShapes Go.WideShapes Go.ChangeAt Go.RowKit
theorem own : ownKnob Tryz.prog.godebug = none := by kernel_rfl
theorem laidOut : laidOutB Tryz.prog = true := by kernel_rfl
open Pg
set_option maxRecDepth 100000 in
set_option maxHeartbeats 40000000 in
theorem walk (x0 : Int) (z0 : -9223372036854775808 ≤ x0 ∧ x0 ≤ 9223372036854775807) (a1 : Option Addr) (len1 cap1 : Nat) (l1 : List OV) (w : World) (w1 : Os w a1 len1 cap1 l1) :
    Calls Tryz.prog 6 #[.int .i64 x0, .slice a1 len1 cap1] w fun e w' => e = .returned (.bool true) ∧ Below w.heap.size w w' := by
  have HLV : Hid (∀ W, Below w.heap.size w W → Calls Tryz.prog 9 #[] W fun e w' => e = .returned (.bool true) ∧ Below w.heap.size w w') := fun W hW => lives_h hW
  have HOS : Hid (Os w a1 len1 cap1 l1) := w1
  have hcp1 := w1.2.1
  have hcp2 := w1.2.2.1
  clear w1
  by_cases hx : x0 < 2 ∨ 10 < x0
  · have HBB := begun_bad x0 w hx
    have HBX : Hid (Below w.heap.size w w) := Below.refl _ _
    by_cases hx2 : x0 < 2
    · clear hx
      go_enter Tryz.func6, Tryz.ntmps6
      go_wp2_with fail
      refine HBB.mono ?_
      rintro e V ⟨rfl, hV⟩
      subst V
      clear HBB
      go_wp2_with fail
      refine (HLV.out _ HBX.out).mono ?_
      rintro e w9 ⟨rfl, hb9⟩
      have HB9 : Hid (Below w.heap.size w w9) := hb9
      clear hb9
      go_wp2
      go_ret
      exact ⟨rfl, HB9.out⟩
    · have hx3 : 10 < x0 := by omega
      clear hx
      go_enter Tryz.func6, Tryz.ntmps6
      go_wp2_with fail
      refine HBB.mono ?_
      rintro e V ⟨rfl, hV⟩
      subst V
      clear HBB
      go_wp2_with fail
      refine (HLV.out _ HBX.out).mono ?_
      rintro e w9 ⟨rfl, hb9⟩
      have HB9 : Hid (Below w.heap.size w w9) := hb9
      clear hb9
      go_wp2
      go_ret
      exact ⟨rfl, HB9.out⟩
  obtain ⟨n, rfl⟩ := Int.eq_ofNat_of_zero_le (show 0 ≤ x0 by omega)
  have hn2 : 2 ≤ n := by omega
  have hn10 : n ≤ 10 := by omega
  have HBG := begun_any n w hn2 hn10
  clear hx z0
  go_enter Tryz.func6, Tryz.ntmps6
  go_wp2_with fail
  refine HBG.mono ?_
  rintro e V0 ⟨zb, g, jb, pb0, S0, FF0, gs0, ns0, pv0, ov0, rfl, hP0, hZ0, hF0, hb0⟩
  have H0 : Hid (PsE w.heap.size FF0 V0 g (dk0 n) pb0 jb n (px0 n) zb jb ∧ Below w.heap.size w V0) := ⟨⟨S0, gs0, ns0, pv0, ov0, hP0, hZ0, hF0 zb hZ0.f⟩, hb0⟩
  clear HBG hP0 hZ0 hF0 hb0
  go_wp2
  go_loopw [6] (fun v6 wr => ∃ (i : Nat) (F1 : Nat → Prop) (D : Dk) (X : Px) (pb : Nat), i ≤ len1 ∧ i ≤ 40 ∧ v6 = .int .i64 (i : Int) ∧ PsE w.heap.size F1 wr g D pb jb n X zb jb ∧ Inv n i D X ∧ Below w.heap.size w wr) (fun v _ => len1 - (intOf v).toNat)
  case atStart => exact ⟨0, FF0, dk0 n, px0 n, pb0, by omega, by omega, rfl, H0.out.1, Inv.new n hn2, H0.out.2⟩
  case round =>
    clear H0
    obtain ⟨i, F1, D, X, pb, hi1, hi40, rfl, hps, hinv, hbw⟩ := hrel
    by_cases hgo : i < len1 ∧ i < 40
    · obtain ⟨hlt, hlt4⟩ := hgo
      have kk : (i : Int) < (len1 : Int) := by omega
      have kk4 : (i : Int) < 40 := by omega
      have kd1 : decide ((i : Int) < (len1 : Int)) = true := by simpa using kk
      have kd2 : decide (i < len1) = true := by simpa using hlt
      have kd3 : decide ((i : Int) < 40) = true := by simpa using kk4
      have kd4 : decide (i < 40) = true := by simpa using hlt4
      obtain ⟨ab, ao, rfl, hfl, hld⟩ := (HOS.out.on hbw).load i hlt
      have hll : i < l1.length := by rw [HOS.out.1]; exact hlt
      have hld := hld hll
      have HST := step_any hps hinv (by omega) l1[i] (hfl hll) (fun _ => rfl)
      obtain ⟨o, ho⟩ : ∃ o, l1[i] = o := ⟨_, rfl⟩
      rw [ho] at hld HST
      have HBW : Hid (Below w.heap.size w wr) := hbw
      clear hps hinv hbw hfl ho
      go_wp2_with (refine wpList_load_w (by kernel_rfl) _ _ rfl rfl hld ?_)
      refine HST.mono ?_
      rintro e V1 ⟨b, D', X', pb', rfl, ⟨F', hps', _, hb'⟩, hinv', _, _, _⟩
      have HN : Hid (PsE w.heap.size F' V1 g D' pb' jb n X' zb jb ∧ Inv n (i + 1) D' X' ∧ Below w.heap.size w V1) := ⟨hps', hinv', HBW.out.trans hb'⟩
      clear HST hps' hb' hinv' hld
      go_wp2
      exact ⟨⟨i + 1, F', D', X', pb', by omega, by omega, by go_num, HN.out.1, HN.out.2.1, HN.out.2.2⟩, by simp [intOf]; omega⟩
    · have HX : Hid (PsE w.heap.size F1 wr g D pb jb n X zb jb ∧ Inv n i D X ∧ Below w.heap.size w wr) := ⟨hps, hinv, hbw⟩
      clear hps hinv hbw
      by_cases hle : i < len1
      · have kk : (i : Int) < (len1 : Int) := by omega
        have kk4 : ¬ (i : Int) < 40 := by omega
        have kd1 : decide ((i : Int) < (len1 : Int)) = true := by simpa using kk
        have kd3 : decide ((i : Int) < 40) = false := by simpa using kk4
        obtain ⟨S1, gs1, ns1, pv1, ov1, hps⟩ := HX.out.1
        have hzh : w.heap.size ≤ zb := hps.h
        have hPF := pfree_any hps.p
        have c1 := hps.z.cells.2.1
        obtain ⟨fr, hfr⟩ : ∃ fr, X.free = fr := ⟨_, rfl⟩
        rw [hfr] at hPF
        obtain ⟨zr, hzr⟩ : ∃ zr, prA jb pb gs1 ns1 pv1 ov1 = zr := ⟨_, rfl⟩
        have hzc := hps.z.c
        rw [hzr] at hzc
        have hz1 : zr[1]? = some (.pointer (some ⟨pb, 0, none⟩)) := by rw [← hzr]; rfl
        have HCZ : Hid (∀ W : World, W.heap[zb]? = some (.cells zr 55 (0, 0)) → W.cell? ⟨zb, 1, none⟩ = some (.pointer (some ⟨pb, 0, none⟩))) := fun W hW => by rw [cell_of_row W zb _ _ _ _ hW]; exact hz1
        have HP1 : Hid (Pgr w.heap.size F1 wr S1 g D pb jb n X ∧ F1 zb ∧ wr.heap[zb]? = some (.cells zr 55 (0, 0)) ∧ Inv n i D X ∧ Below w.heap.size w wr ∧ X.free = fr) := ⟨hps.p, hps.z.f, hzc, HX.out.2.1, HX.out.2.2, hfr⟩
        have hfn : fr ≤ 10 := by
          rw [← hfr]
          have h1 := hps.p.ok.1.now.h.len
          have h2 := count_free X.now.h.u
          unfold Px.free
          omega
        clear HX hps hfr hzr hzc hz1
        go_wp2_with fail
        refine hPF.mono ?_
        rintro e V2 ⟨rfl, hb2⟩
        have H2 : Hid (Pgr w.heap.size (mor F1 wr V2) V2 S1 g D pb jb n X ∧ mor F1 wr V2 zb ∧ V2.heap[zb]? = some (.cells zr 55 (0, 0)) ∧ Below w.heap.size w V2) := ⟨HP1.out.1.below hb2, .inl HP1.out.2.1, (hb2.block zb (lt_of_some HP1.out.2.2.1)).trans HP1.out.2.2.1, HP1.out.2.2.2.2.1.trans (hb2.mono HP1.out.2.2.2.2.1.size)⟩
        have HX0 : Hid (X.Ok n ∧ X.free = fr ∧ Good n D) := ⟨HP1.out.1.ok.1, HP1.out.2.2.2.2.2, HP1.out.2.2.2.1.g⟩
        obtain ⟨X0, hX0⟩ : ∃ X0, X = X0 := ⟨_, rfl⟩
        rw [hX0] at HX0 H2
        obtain ⟨F9, hF9⟩ : ∃ F9, mor F1 wr V2 = F9 := ⟨_, rfl⟩
        rw [hF9] at H2
        clear hPF hb2 HP1 hX0 hF9 c1 X
        go_wp2
        go_loopw [8, 9] (fun v8 v9 wr => ∃ (i : Nat) (F2 : Nat → Prop) (S2 : Nat → Prop) (X : Px) (a : Option Addr) (c : Nat) (l : List Nat), i ≤ fr ∧ l.length = i ∧ v9 = .int .i64 (i : Int) ∧ v8 = .slice a i c ∧ Pgr w.heap.size F2 wr S2 g D pb jb n X ∧ Al n X0 X l ∧ (∀ x ∈ l, ∀ j, j ≤ x → X.now.h.has j = true) ∧ F2 zb ∧ wr.heap[zb]? = some (.cells zr 55 (0, 0)) ∧ wr.ownsRow (zb + 1) 3 1 (.slice a i c) i (intsV l) ∧ (∀ x, ob a = some x → F2 x) ∧ Below w.heap.size w wr) (fun _ v _ => fr - (intOf v).toNat)
        case atStart => exact ⟨0, F9, S1, X0, none, 0, [], by omega, rfl, rfl, rfl, H2.out.1, Al.new n X0, fun x hx => (by cases hx), H2.out.2.1, H2.out.2.2.1, World.ownsRow_nil _ _ _ _, fun x hx => (by cases hx), H2.out.2.2.2⟩
        case round =>
          clear H2
          obtain ⟨i, F2, S2, X, a, c, l, hi, hli, rfl, rfl, hP, hAl, hlow, hFz, hzc, hor, haF, hbw⟩ := hrel
          have c1 := HCZ.out wr hzc
          have hok := hP.ok.1
          by_cases hlt : i < fr
          · have kk : (i : Int) < (fr : Int) := by omega
            have hpos : 0 < X.free := by have := hAl.cnt; have := HX0.out.2.1; omega
            have HAL := palloc_any hP
            have HK : Hid (Al n X0 X l ∧ (∀ x ∈ l, ∀ j, j ≤ x → X.now.h.has j = true) ∧ F2 zb ∧ wr.heap[zb]? = some (.cells zr 55 (0, 0)) ∧ wr.ownsRow (zb + 1) 3 1 (.slice a i c) i (intsV l) ∧ (∀ x, ob a = some x → F2 x) ∧ Below w.heap.size w wr ∧ X.Ok n ∧ 0 < X.free ∧ l.length = i) := ⟨hAl, hlow, hFz, hzc, hor, haF, hbw, hok, hpos, hli⟩
            clear hP hAl hlow hFz hzc hor haF hbw hok hpos hli
            go_wp2_with fail
            refine HAL.mono ?_
            rintro e V1 hA
            rcases hA with ⟨id, hid1, hidn, hidf, hidl, rfl, F3, S3, hP3, hf3, hb3⟩ | ⟨hu, _⟩
            rotate_left
            · exact absurd hu (free_pos HK.out.2.2.2.2.2.2.2.1 HK.out.2.2.2.2.2.2.2.2.1)
            obtain ⟨hAl, hlow, hFz, hzc, hor, haF, hbw, hok, hpos, hli⟩ := HK.out
            obtain ⟨hA2, hnl⟩ := hAl.add hok id hid1 hidn hidf
            have hris := low_rises id hidf hlow
            have hzl := lt_of_some hzc
            have hzc3 : V1.heap[zb]? = some (.cells zr 55 (0, 0)) := (hf3.blk zb hFz hzl).trans hzc
            have hor3 : V1.ownsRow (zb + 1) 3 1 (.slice a i c) i (intsV l) := own_keep hor (fun k hk => by rw [ob_slice] at hk; exact hf3.blk k (haF k hk) (hor.lt k (by rw [ob_slice]; exact hk)).2)
            have hbw3 : Below w.heap.size w V1 := hbw.trans hb3
            obtain ⟨hrd, hwy⟩ := alc_read (D := D) hok id hid1 hidn
            have HRD := pread_any hP3 HX0.out.2.2.asks.len HX0.out.2.2.up HX0.out.2.2.asks.sz (id : Int)
            rw [hrd, hwy] at HRD
            have c13 := HCZ.out V1 hzc3
            have hlow2 : ∀ x ∈ l ++ [id], ∀ j, j ≤ x → (X.alc id).now.h.has j = true := fun x hx j hj => by
              rw [alc_has hok id j hidn]
              by_cases e : j = id
              · rw [if_pos e]
              · rw [if_neg e]
                rcases List.mem_append.1 hx with hx | hx
                · exact hlow x hx j hj
                · obtain rfl := List.mem_singleton.1 hx
                  exact hidl j (by omega)
            have H3 : Hid (Pgr w.heap.size F3 V1 S3 g D pb jb n (X.alc id) ∧ Al n X0 (X.alc id) (l ++ [id]) ∧ (∀ x ∈ l ++ [id], ∀ j, j ≤ x → (X.alc id).now.h.has j = true) ∧ F3 zb ∧ V1.heap[zb]? = some (.cells zr 55 (0, 0)) ∧ V1.ownsRow (zb + 1) 3 1 (.slice a i c) i (intsV l) ∧ (∀ x, ob a = some x → F3 x) ∧ Below w.heap.size w V1 ∧ (∀ x ∈ l, x < id) ∧ l.length = i ∧ (X.alc id).now.h.has id = true) := ⟨hP3, hA2, hlow2, hf3.sub zb hFz, hzc3, hor3, fun x hx => hf3.sub x (haF x hx), hbw3, hris, hli, by rw [alc_has hok id id hidn, if_pos rfl]⟩
            clear HAL HK hidf hidl hP3 hf3 hb3 hAl hlow hFz hzc hor haF hbw hok hpos hli hA2 hnl hris hzl hzc3 hor3 hbw3 hrd hwy hlow2 c1
            go_wp2_with fail
            refine HRD.mono ?_
            rintro e V2 ⟨rfl, hb2⟩
            have hmk : (Instr.makeSlice 22 (.int .i64 1024) (.int .i64 1024)).run Tryz.prog V2 = .ok (.slice (some ⟨V2.heap.size, 0, none⟩) 1024 1024) (V2.alloc (.cells (u8L (List.replicate 1024 0)).toArray 5)) := make_zero 1024 (by omega) V2
            obtain ⟨C, hC⟩ : ∃ C, V2.heap.size = C := ⟨_, rfl⟩
            rw [hC] at hmk
            obtain ⟨V3, hV3⟩ : ∃ V3, V2.alloc (.cells (u8L (List.replicate 1024 0)).toArray 5) = V3 := ⟨_, rfl⟩
            rw [hV3] at hmk
            have hrC : V3.heap[C]? = some (.cells (u8L (List.replicate 1024 0)).toArray 5 (0, 0)) := by rw [← hV3, ← hC]; exact heap_alloc_new V2 _
            have hcv : (convert 22 9 (.slice (some ⟨C, 0, none⟩) 1024 1024)).run Tryz.prog V3 = .ok (.string zeroS) V3 := conv_u8 V3 C _ _ _ hrC 1024 (by rw [List.length_replicate])
            have hb13 : Below V1.heap.size V1 V3 := by rw [← hV3]; exact hb2.alloc hb2.size _
            have hP3 := H3.out.1.below hb13
            have hzc3 := (hb13.block zb (lt_of_some H3.out.2.2.2.2.1)).trans H3.out.2.2.2.2.1
            have c13 := HCZ.out V3 hzc3
            have hor3 : V3.ownsRow (zb + 1) 3 1 (.slice a i c) i (intsV l) := own_keep H3.out.2.2.2.2.2.1 (fun k hk => hb13.block k (H3.out.2.2.2.2.2.1.lt k hk).2)
            have HUS := pused_any hP3 (id : Int)
            have hus : Hd.usedI (X.alc id).now.h (id : Int) = true := by
              unfold Hd.usedI
              rw [Int.toNat_natCast, H3.out.2.2.2.2.2.2.2.2.2.2, decide_eq_true (by omega)]
              rfl
            rw [hus] at HUS
            have H4 : Hid (Pgr w.heap.size (mor F3 V1 V3) V3 S3 g D pb jb n (X.alc id) ∧ V3.heap[zb]? = some (.cells zr 55 (0, 0)) ∧ V3.ownsRow (zb + 1) 3 1 (.slice a i c) i (intsV l) ∧ Below w.heap.size w V3) := ⟨hP3, hzc3, hor3, H3.out.2.2.2.2.2.2.2.1.trans (hb13.mono H3.out.2.2.2.2.2.2.2.1.size)⟩
            have hcap := rw_cap (Rw.own (G := fun _ => True) hor3 (fun _ _ => trivial))
            have HDO : Hid (∀ V4 : World, Below V3.heap.size V3 V4 → ∃ (a' : Option Addr) (c' : Nat) (V5 V6 : World), V4.alloc (.cells #[.int .i64 (id : Int)] 3) = V5 ∧ (∀ ty, (Builtin.append_ #[60, 60] ty #[.slice a i c, .slice (some ⟨V4.heap.size, 0, none⟩) 1 1]).run Tryz.prog V5 = .ok (.slice a' (i + 1) c') V6) ∧ ∃ F6, Pgr w.heap.size F6 V6 S3 g D pb jb n (X.alc id) ∧ F6 zb ∧ V6.heap[zb]? = some (.cells zr 55 (0, 0)) ∧ V6.ownsRow (zb + 1) 3 1 (.slice a' (i + 1) c') (i + 1) (intsV (l ++ [id])) ∧ (∀ x, ob a' = some x → F6 x) ∧ Below w.heap.size w V6) := fun V4 hb4 => by
              obtain ⟨q1, q2, q3, q4⟩ := H4.out
              have hz4 := (hb4.block zb (lt_of_some q2)).trans q2
              have hb5 : Below V3.heap.size V3 (V4.alloc (.cells #[.int .i64 (id : Int)] 3)) := hb4.alloc hb4.size _
              have hor5 : (V4.alloc (.cells #[.int .i64 (id : Int)] 3)).ownsRow (zb + 1) 3 1 (.slice a i c) i (intsV l) := own_keep q3 (fun k hk => hb5.block k (q3.lt k hk).2)
              have hzl := lt_of_some q2
              obtain ⟨a', c', V6, k1, k2, k3, k4⟩ := addN_own4 (V4.alloc (.cells #[.int .i64 (id : Int)] 3)) (x := id) (b := V4.heap.size) hor5 (heap_alloc_new V4 _) (by omega) (by have := hb5.size; omega)
              have hal : ∀ x, ob a = some x → zb + 1 ≤ x ∧ x < V3.heap.size := fun x hx => q3.lt x (by rw [ob_slice]; exact hx)
              have hup1 : Upd (fun x => ob a = some x) V3 V6 := (Upd.of_below hb5).grown k3 (fun k hk _ => hk)
              have hup : Upd (mor F3 V1 V3) V3 V6 := ⟨hup1.os, hup1.tape, hup1.output, hup1.size, fun k hk hn => hup1.block k hk (fun e => hn (.inl (H3.out.2.2.2.2.2.2.1 k e)))⟩
              have hz6 : V6.heap[zb]? = some (.cells zr 55 (0, 0)) := (k3.block zb (by have := hb5.size; omega) (fun e => by have := hal zb e.symm; omega)).trans ((hb5.block zb hzl).trans q2)
              have hsz : V3.heap.size ≤ V6.heap.size := hup.size
              refine ⟨a', c', _, V6, rfl, k1, _, q1.updF hup, .inl (.inl H3.out.2.2.2.1), hz6, k2, fun x hx => ?_, q4.trans (hup1.below q4.size (fun x hx => by have := hal x hx; omega))⟩
              rcases k4 with e | e
              · rw [e] at hx; exact .inl (.inl (H3.out.2.2.2.2.2.2.1 x hx))
              · rw [e] at hx
                obtain rfl := Option.some.inj hx
                refine .inr ⟨hb5.size, ?_⟩
                exact (k2.lt _ (by rw [ob_slice, e])).2
            have HRI : Hid (∀ x ∈ l, x < id) := H3.out.2.2.2.2.2.2.2.2.1
            have HLI : Hid (l.length = i ∧ Al n X0 (X.alc id) (l ++ [id]) ∧ (∀ x ∈ l ++ [id], ∀ j, j ≤ x → (X.alc id).now.h.has j = true)) := ⟨H3.out.2.2.2.2.2.2.2.2.2.1, H3.out.2.1, H3.out.2.2.1⟩
            clear HRD hb2 hrC hb13 hP3 hzc3 hor3 hus H3
            by_cases hi0 : i = 0
            · subst hi0
              go_wp2_with fail
              refine HUS.mono ?_
              rintro e V4 ⟨rfl, hb4⟩
              obtain ⟨a', c', V5, V6, hV5, happ, F6, g1, g2, g3, g4, g5, g6⟩ := HDO.out V4 hb4
              obtain ⟨C4, hC4⟩ : ∃ C4, V4.heap.size = C4 := ⟨_, rfl⟩
              rw [hC4] at happ
              have HG : Hid (Pgr w.heap.size F6 V6 S3 g D pb jb n (X.alc id) ∧ F6 zb ∧ V6.heap[zb]? = some (.cells zr 55 (0, 0)) ∧ V6.ownsRow (zb + 1) 3 1 (.slice a' (0 + 1) c') (0 + 1) (intsV (l ++ [id])) ∧ (∀ x, ob a' = some x → F6 x) ∧ Below w.heap.size w V6) := ⟨g1, g2, g3, g4, g5, g6⟩
              clear HUS hb4 g1 g2 g3 g4 g5 g6 hmk hcv H4
              go_wp2_with ((at_builtin; refine wpList_app V5 rfl _ _ _ _ rfl rfl rfl (happ _) ?_))
              exact ⟨⟨0 + 1, F6, S3, X.alc id, a', c', l ++ [id], by omega, by rw [List.length_append, HLI.out.1]; rfl, by go_num, rfl, HG.out.1, HLI.out.2.1, HLI.out.2.2, HG.out.2.1, HG.out.2.2.1, HG.out.2.2.2.1, HG.out.2.2.2.2.1, HG.out.2.2.2.2.2⟩, by simp [intOf]; omega⟩
            · obtain ⟨j, rfl⟩ : ∃ j, i = j + 1 := ⟨i - 1, by omega⟩
              obtain ⟨lb, lo, rfl, hlbl, hlcs⟩ := ints_row (Rw.own (G := fun _ => True) H4.out.2.2.1 (fun _ _ => trivial)) (by omega)
              have hjl : j < l.length := by rw [HLI.out.1]; omega
              have hcj := hlcs j hjl
              have hxid := HRI.out _ (List.getElem_mem hjl)
              obtain ⟨x, hx⟩ : ∃ x, l[j] = x := ⟨_, rfl⟩
              rw [hx] at hcj hxid
              have kx : ¬ (id : Int) ≤ (x : Int) := by omega
              have kx2 : decide ((id : Int) ≤ (x : Int)) = false := by simpa using kx
              have kx3 : decide (id ≤ x) = false := by simp; omega
              have kj1 : decide ((0 : Int) < ((j + 1 : Nat) : Int)) = true := by simp <;> omega
              have kj2 : ((j + 1 : Nat) : Int) - 1 = (j : Int) := by omega
              clear hlcs hx
              go_wp2_with fail
              refine HUS.mono ?_
              rintro e V4 ⟨rfl, hb4⟩
              obtain ⟨a', c', V5, V6, hV5, happ, F6, g1, g2, g3, g4, g5, g6⟩ := HDO.out V4 hb4
              obtain ⟨C4, hC4⟩ : ∃ C4, V4.heap.size = C4 := ⟨_, rfl⟩
              rw [hC4] at happ
              have HG : Hid (Pgr w.heap.size F6 V6 S3 g D pb jb n (X.alc id) ∧ F6 zb ∧ V6.heap[zb]? = some (.cells zr 55 (0, 0)) ∧ V6.ownsRow (zb + 1) 3 1 (.slice a' ((j + 1) + 1) c') ((j + 1) + 1) (intsV (l ++ [id])) ∧ (∀ x, ob a' = some x → F6 x) ∧ Below w.heap.size w V6) := ⟨g1, g2, g3, g4, g5, g6⟩
              clear HUS hb4 g1 g2 g3 g4 g5 g6 hmk hcv H4
              go_wp2_with ((at_builtin; refine wpList_app V5 rfl _ _ _ _ rfl rfl rfl (happ _) ?_))
              exact ⟨⟨(j + 1) + 1, F6, S3, X.alc id, a', c', l ++ [id], by omega, by rw [List.length_append, HLI.out.1]; rfl, by go_num, rfl, HG.out.1, HLI.out.2.1, HLI.out.2.2, HG.out.2.1, HG.out.2.2.1, HG.out.2.2.2.1, HG.out.2.2.2.2.1, HG.out.2.2.2.2.2⟩, by simp [intOf]; omega⟩
          · obtain rfl : i = fr := by omega
            have kk : ¬ (i : Int) < (i : Int) := by omega
            have hfz : X.free = 0 := by have := hAl.cnt; have := HX0.out.2.1; omega
            have HAL := palloc_full hP (free_zero hok hfz)
            have HK : Hid (Al n X0 X l ∧ F2 zb ∧ wr.heap[zb]? = some (.cells zr 55 (0, 0)) ∧ wr.ownsRow (zb + 1) 3 1 (.slice a i c) i (intsV l) ∧ (∀ x, ob a = some x → F2 x) ∧ Below w.heap.size w wr ∧ X.free = 0 ∧ l.length = i) := ⟨hAl, hFz, hzc, hor, haF, hbw, hfz, hli⟩
            have hcap := rw_cap (Rw.own (G := fun _ => True) hor (fun _ _ => trivial))
            clear hP hAl hlow hFz hzc hor haF hbw hok hli hfz
            go_wp2_with fail
            refine HAL.mono ?_
            rintro e V1 ⟨rfl, F3, S3, hP3, hf3, hb3⟩
            obtain ⟨hAl, hFz, hzc, hor, haF, hbw, hfz, hli⟩ := HK.out
            have hzl := lt_of_some hzc
            have hzc3 : V1.heap[zb]? = some (.cells zr 55 (0, 0)) := (hf3.blk zb hFz hzl).trans hzc
            have hor3 : V1.ownsRow (zb + 1) 3 1 (.slice a i c) i (intsV l) := own_keep hor (fun k hk => by rw [ob_slice] at hk; exact hf3.blk k (haF k hk) (hor.lt k (by rw [ob_slice]; exact hk)).2)
            have c13 := HCZ.out V1 hzc3
            have HPF := pfree_any hP3
            rw [hfz] at HPF
            have H3 : Hid (Pgr w.heap.size F3 V1 S3 g D pb jb n X ∧ Al n X0 X l ∧ F3 zb ∧ V1.heap[zb]? = some (.cells zr 55 (0, 0)) ∧ V1.ownsRow (zb + 1) 3 1 (.slice a i c) i (intsV l) ∧ (∀ x, ob a = some x → F3 x) ∧ Below w.heap.size w V1 ∧ l.length = i) := ⟨hP3, hAl, hf3.sub zb hFz, hzc3, hor3, fun x hx => hf3.sub x (haF x hx), hbw.trans hb3, hli⟩
            clear HAL HK hP3 hf3 hb3 hAl hFz hzc hor haF hbw hfz hli hzl hzc3 hor3 c1
            go_wp2_with fail
            refine HPF.mono ?_
            rintro e V2 ⟨rfl, hb2⟩
            have H4 : Hid (∃ (i2 : Nat) (F2 : Nat → Prop) (S2 : Nat → Prop) (X : Px), i2 ≤ i ∧ Value.int .i64 0 = .int .i64 (i2 : Int) ∧ Pgr w.heap.size F2 V2 S2 g D pb jb n X ∧ Gv n X0 X (l.drop i2) ∧ F2 zb ∧ V2.heap[zb]? = some (.cells zr 55 (0, 0)) ∧ V2.ownsRow (zb + 1) 3 1 (.slice a i c) i (intsV l) ∧ (∀ x, ob a = some x → F2 x) ∧ Below w.heap.size w V2) := by
              obtain ⟨k1, k2, k3, k4, k5, k6, k7, k8⟩ := H3.out
              refine ⟨0, mor F3 V1 V2, S3, X, by omega, rfl, k1.below hb2, ⟨k2.has, k2.root, k2.cnt⟩, .inl k3, (hb2.block zb (lt_of_some k4)).trans k4, own_keep k5 (fun k hk => hb2.block k (k5.lt k hk).2), fun x hx => .inl (k6 x hx), k7.trans (hb2.mono k7.size)⟩
            have HL : Hid (Al n X0 X l ∧ l.length = i) := ⟨H3.out.2.1, H3.out.2.2.2.2.2.2.2⟩
            obtain ⟨XF, hXF⟩ : ∃ XF, X = XF := ⟨_, rfl⟩
            rw [hXF] at HL
            clear HPF hb2 H3 hXF c13 X F2 S2
            go_wp2
            go_loopw [16] (fun v16 wr => ∃ (i2 : Nat) (F2 : Nat → Prop) (S2 : Nat → Prop) (X : Px), i2 ≤ i ∧ v16 = .int .i64 (i2 : Int) ∧ Pgr w.heap.size F2 wr S2 g D pb jb n X ∧ Gv n X0 X (l.drop i2) ∧ F2 zb ∧ wr.heap[zb]? = some (.cells zr 55 (0, 0)) ∧ wr.ownsRow (zb + 1) 3 1 (.slice a i c) i (intsV l) ∧ (∀ x, ob a = some x → F2 x) ∧ Below w.heap.size w wr) (fun v _ => i - (intOf v).toNat)
            case atStart => exact H4.out
            case round =>
              clear H4
              obtain ⟨i2, F2, S2, X, hi2, rfl, hP, hGv, hFz, hzc, hor, haF, hbw⟩ := hrel
              have c1 := HCZ.out wr hzc
              have hok := hP.ok.1
              by_cases hlt : i2 < i
              · have kk : (i2 : Int) < (i : Int) := by omega
                have hil : i2 < l.length := by rw [HL.out.2]; exact hlt
                obtain ⟨x, hx⟩ : ∃ x, l[i2] = x := ⟨_, rfl⟩
                have hdr : l.drop i2 = x :: l.drop (i2 + 1) := by rw [List.drop_eq_getElem_cons hil, hx]
                rw [hdr] at hGv
                have hxm : x ∈ l := by rw [← hx]; exact List.getElem_mem hil
                obtain ⟨n1, n2, n3⟩ := HL.out.1.nw x hxm
                have hnd : x ∉ l.drop (i2 + 1) := by
                  have h9 := HL.out.1.nd
                  have h8 : (l.drop i2).Nodup := h9.sublist (List.drop_sublist _ _)
                  rw [hdr] at h8
                  exact (List.nodup_cons.1 h8).1
                have hgv := hGv.give HX0.out.1 hok n1 n2 n3 hnd
                have HG1 := pgive_any (hP.below (Below.refl _ wr).drew) (x : Int)
                rw [mor_drew, hgv.1, hgv.2.1] at HG1
                obtain ⟨gb, hgb, rfl⟩ : ∃ gb, zb + 1 ≤ gb ∧ a = some ⟨gb, 0, none⟩ := by
                  rcases hor.2 with ⟨h1, h2⟩ | ⟨g', cap', cur, e1, hb0, _⟩
                  · omega
                  · cases e1
                    exact ⟨g', hb0, rfl⟩
                have hgl := (hor.lt gb rfl).2
                have hgc : wr.cell? ⟨gb, i2, none⟩ = some (.int .i64 (x : Int)) := own_at hor (by rw [intsV, List.getElem?_map, List.getElem?_eq_getElem hil, hx]; rfl)
                have HSS : Hid (∀ {F' : Nat → Prop} (W : World), Fr F2 wr F' W → W.cell? ⟨zb, 1, none⟩ = some (.pointer (some ⟨pb, 0, none⟩)) ∧ W.cell? ⟨gb, i2, none⟩ = some (.int .i64 (x : Int))) := fun W hW => ⟨HCZ.out W ((hW.blk zb hFz (lt_of_some hzc)).trans hzc), by rw [cell_blk (hW.blk gb (haF gb rfl) hgl)]; exact hgc⟩
                have HGV : Hid (X.gcode n (x : Int) = 0 ∧ X.gput n (x : Int) = X.giv x ∧ Gv n X0 (X.giv x) (l.drop (i2 + 1)) ∧ (X.giv x).gcode n (x : Int) = 6 ∧ (X.giv x).gput n (x : Int) = X.giv x) := hgv
                have HK : Hid (F2 zb ∧ wr.heap[zb]? = some (.cells zr 55 (0, 0)) ∧ wr.ownsRow (zb + 1) 3 1 (.slice (some ⟨gb, 0, none⟩) i c) i (intsV l) ∧ (∀ x, ob (some ⟨gb, 0, none⟩) = some x → F2 x) ∧ True ∧ True ∧ Below w.heap.size w wr ∧ gb < wr.heap.size) := ⟨hFz, hzc, hor, haF, trivial, trivial, hbw, hgl⟩
                clear hP hGv hFz hzc hor haF hbw hok hdr hxm n1 n2 n3 hnd hgv hgc hx hgl
                go_wp2
                refine wp_region_held_drew (S := fun W => W.cell? ⟨zb, 1, none⟩ = some (.pointer (some ⟨pb, 0, none⟩)) ∧ W.cell? ⟨gb, i2, none⟩ = some (.int .i64 (x : Int))) (by kernel_rfl) (HSS.out _ (Fr.drew _ wr)) (fun hHeld => ?_)
                refine wpAnyH_take (i := 0) (v := ?vg0) rfl (by kernel_rfl) (by kernel_rfl) (by kernel_rfl) (fun _ _ _ h => h) (Or.inl ⟨by first | kernel_rfl | rfl, ?yg0⟩) hHeld ?rg0
                case yg0 => (intro W hSW; (try dsimp only at hSW); go_simp; (try with_reducible rfl))
                change wpAnyH _ _ _ _ _ _ _ (Act.put _ (some 135) _) _
                simp only [Act.put, List.setIfInBounds_toArray, List.set_cons_zero, List.set_cons_succ]
                refine wpAnyH_take (i := 1) (v := ?vg1) rfl (by kernel_rfl) (by kernel_rfl) (by kernel_rfl) (fun _ _ _ h => h) (Or.inl ⟨by first | kernel_rfl | rfl, ?yg1⟩) hHeld ?rg1
                case yg1 => (intro W hSW; (try dsimp only at hSW); go_simp; (try with_reducible rfl))
                change wpAnyH _ _ _ _ _ _ _ (Act.put _ (some 136) _) _
                simp only [Act.put, List.setIfInBounds_toArray, List.set_cons_zero, List.set_cons_succ]
                refine wpAnyH_take (i := 2) (v := ?vg2) rfl (by kernel_rfl) (by kernel_rfl) (by kernel_rfl) (fun _ _ _ h => h) (Or.inl ⟨by first | kernel_rfl | rfl, ?yg2⟩) hHeld ?rg2
                case yg2 => (intro W hSW; (try dsimp only at hSW); go_simp; (try with_reducible rfl))
                change wpAnyH _ _ _ _ _ _ _ (Act.put _ (some 137) _) _
                simp only [Act.put, List.setIfInBounds_toArray, List.set_cons_zero, List.set_cons_succ]
                refine wpAnyH_take (i := 3) (v := ?vg3) rfl (by kernel_rfl) (by kernel_rfl) (by kernel_rfl) (fun _ _ _ h => h) (Or.inl ⟨by first | kernel_rfl | rfl, ?yg3⟩) hHeld ?rg3
                case yg3 => (intro W hSW; (try dsimp only at hSW); go_simp; (try with_reducible rfl))
                change wpAnyH _ _ _ _ _ _ _ (Act.put _ (some 138) _) _
                simp only [Act.put, List.setIfInBounds_toArray, List.set_cons_zero, List.set_cons_succ]
                refine wpAnyH_take (i := 4) (v := ?vg4) rfl (by kernel_rfl) (by kernel_rfl) (by kernel_rfl) (fun _ _ _ h => h) (Or.inl ⟨by first | kernel_rfl | rfl, ?yg4⟩) hHeld ?rg4
                case yg4 => (intro W hSW; (try dsimp only at hSW); go_simp; (try with_reducible rfl))
                change wpAnyH _ _ _ _ _ _ _ (Act.put _ (some 139) _) _
                simp only [Act.put, List.setIfInBounds_toArray, List.set_cons_zero, List.set_cons_succ]
                refine wpAnyH_take (i := 5) (v := ?vg5) rfl (by kernel_rfl) (by kernel_rfl) (by kernel_rfl) (fun _ _ _ h => h) (Or.inl ⟨by first | kernel_rfl | rfl, ?yg5⟩) hHeld ?rg5
                case yg5 => (intro W hSW; (try dsimp only at hSW); go_simp; (try with_reducible rfl))
                change wpAnyH _ _ _ _ _ _ _ (Act.put _ (some 140) _) _
                simp only [Act.put, List.setIfInBounds_toArray, List.set_cons_zero, List.set_cons_succ]
                refine wpAnyH_take (i := 6) (v := ?vg6) rfl (by kernel_rfl) (by kernel_rfl) (by kernel_rfl) (fun _ _ _ h => h) (Or.inl ⟨by first | kernel_rfl | rfl, ?yg6⟩) hHeld ?rg6
                case yg6 => (intro W hSW; (try dsimp only at hSW); go_simp; (try with_reducible rfl))
                change wpAnyH _ _ _ _ _ _ _ (Act.put _ (some 141) _) _
                simp only [Act.put, List.setIfInBounds_toArray, List.set_cons_zero, List.set_cons_succ]
                refine wpAnyH_take (i := 7) (v := ?vg7) rfl (by kernel_rfl) (by kernel_rfl) (by kernel_rfl) (fun _ _ _ h => h) (Or.inl ⟨by first | kernel_rfl | rfl, ?yg7⟩) hHeld ?rg7
                case yg7 => (intro W hSW; (try dsimp only at hSW); go_simp; (try with_reducible rfl))
                change wpAnyH _ _ _ _ _ _ _ (Act.put _ (some 142) _) _
                simp only [Act.put, List.setIfInBounds_toArray, List.set_cons_zero, List.set_cons_succ]
                refine wpAnyH_ready (rs := [8]) (by kernel_rfl) (by simp) ?_
                refine AllReadyH.cons rfl (fun K hK => ?_) AllReadyH.nil
                go_simp
                refine (HG1).mono ?_
                rintro e V1 ⟨rfl, hT1⟩
                refine hK.out _ _ (HSS.out _ ((Fr.drew _ wr).trans hT1.choose_spec.choose_spec.2.1)) (fun hHeld => ?_)
                clear hK K
                try simp only [Act.put, List.setIfInBounds_toArray, List.set_cons_zero, List.set_cons_succ]
                obtain ⟨F1, S1, hp1, hf1, hb1⟩ := hT1
                have HG2 := pgive_any hp1 (x : Int)
                rw [HGV.out.2.2.2.1, HGV.out.2.2.2.2] at HG2
                have H1 : Hid (Fr F2 wr F1 V1 ∧ Below w.heap.size w V1) := ⟨(Fr.drew _ wr).trans hf1, HK.out.2.2.2.2.2.2.1.drew.trans hb1⟩
                clear hp1 hf1 hb1 HG1
                refine wpAnyH_take (i := 9) (v := .bool false) rfl (by kernel_rfl) (by kernel_rfl) (by kernel_rfl) (fun _ _ _ h => h) (Or.inl ⟨by first | kernel_rfl | rfl, ?yg9⟩) hHeld ?rg9
                case yg9 => (intro W hSW; (try dsimp only at hSW); go_simp; (try with_reducible rfl))
                change wpAnyH _ _ _ _ _ _ _ (Act.put _ (some 144) _) _
                simp only [Act.put, List.setIfInBounds_toArray, List.set_cons_zero, List.set_cons_succ]
                refine wpAnyH_take (i := 10) (v := .bool false) rfl (by kernel_rfl) (by kernel_rfl) (by kernel_rfl) (fun _ _ _ h => h) (Or.inl ⟨by first | kernel_rfl | rfl, ?yg10⟩) hHeld ?rg10
                case yg10 => (intro W hSW; (try dsimp only at hSW); go_simp; (try with_reducible rfl))
                change wpAnyH _ _ _ _ _ _ _ (Act.put _ (some 145) _) _
                simp only [Act.put, List.setIfInBounds_toArray, List.set_cons_zero, List.set_cons_succ]
                refine wpAnyH_take (i := 11) (v := ?vg11) rfl (by kernel_rfl) (by kernel_rfl) (by kernel_rfl) (fun _ _ _ h => h) (Or.inl ⟨by first | kernel_rfl | rfl, ?yg11⟩) hHeld ?rg11
                case yg11 => (intro W hSW; (try dsimp only at hSW); go_simp; (try with_reducible rfl))
                change wpAnyH _ _ _ _ _ _ _ (Act.put _ (some 146) _) _
                simp only [Act.put, List.setIfInBounds_toArray, List.set_cons_zero, List.set_cons_succ]
                refine wpAnyH_take (i := 12) (v := ?vg12) rfl (by kernel_rfl) (by kernel_rfl) (by kernel_rfl) (fun _ _ _ h => h) (Or.inl ⟨by first | kernel_rfl | rfl, ?yg12⟩) hHeld ?rg12
                case yg12 => (intro W hSW; (try dsimp only at hSW); go_simp; (try with_reducible rfl))
                change wpAnyH _ _ _ _ _ _ _ (Act.put _ (some 147) _) _
                simp only [Act.put, List.setIfInBounds_toArray, List.set_cons_zero, List.set_cons_succ]
                refine wpAnyH_take (i := 13) (v := ?vg13) rfl (by kernel_rfl) (by kernel_rfl) (by kernel_rfl) (fun _ _ _ h => h) (Or.inl ⟨by first | kernel_rfl | rfl, ?yg13⟩) hHeld ?rg13
                case yg13 => (intro W hSW; (try dsimp only at hSW); go_simp; (try with_reducible rfl))
                change wpAnyH _ _ _ _ _ _ _ (Act.put _ (some 148) _) _
                simp only [Act.put, List.setIfInBounds_toArray, List.set_cons_zero, List.set_cons_succ]
                refine wpAnyH_take (i := 14) (v := ?vg14) rfl (by kernel_rfl) (by kernel_rfl) (by kernel_rfl) (fun _ _ _ h => h) (Or.inl ⟨by first | kernel_rfl | rfl, ?yg14⟩) hHeld ?rg14
                case yg14 => (intro W hSW; (try dsimp only at hSW); go_simp; (try with_reducible rfl))
                change wpAnyH _ _ _ _ _ _ _ (Act.put _ (some 149) _) _
                simp only [Act.put, List.setIfInBounds_toArray, List.set_cons_zero, List.set_cons_succ]
                refine wpAnyH_take (i := 15) (v := ?vg15) rfl (by kernel_rfl) (by kernel_rfl) (by kernel_rfl) (fun _ _ _ h => h) (Or.inl ⟨by first | kernel_rfl | rfl, ?yg15⟩) hHeld ?rg15
                case yg15 => (intro W hSW; (try dsimp only at hSW); go_simp; (try with_reducible rfl))
                change wpAnyH _ _ _ _ _ _ _ (Act.put _ (some 150) _) _
                simp only [Act.put, List.setIfInBounds_toArray, List.set_cons_zero, List.set_cons_succ]
                refine wpAnyH_take (i := 16) (v := ?vg16) rfl (by kernel_rfl) (by kernel_rfl) (by kernel_rfl) (fun _ _ _ h => h) (Or.inl ⟨by first | kernel_rfl | rfl, ?yg16⟩) hHeld ?rg16
                case yg16 => (intro W hSW; (try dsimp only at hSW); go_simp; (try with_reducible rfl))
                change wpAnyH _ _ _ _ _ _ _ (Act.put _ (some 151) _) _
                simp only [Act.put, List.setIfInBounds_toArray, List.set_cons_zero, List.set_cons_succ]
                refine wpAnyH_take (i := 17) (v := ?vg17) rfl (by kernel_rfl) (by kernel_rfl) (by kernel_rfl) (fun _ _ _ h => h) (Or.inl ⟨by first | kernel_rfl | rfl, ?yg17⟩) hHeld ?rg17
                case yg17 => (intro W hSW; (try dsimp only at hSW); go_simp; (try with_reducible rfl))
                change wpAnyH _ _ _ _ _ _ _ (Act.put _ (some 152) _) _
                simp only [Act.put, List.setIfInBounds_toArray, List.set_cons_zero, List.set_cons_succ]
                refine wpAnyH_take (i := 18) (v := ?vg18) rfl (by kernel_rfl) (by kernel_rfl) (by kernel_rfl) (fun _ _ _ h => h) (Or.inl ⟨by first | kernel_rfl | rfl, ?yg18⟩) hHeld ?rg18
                case yg18 => (intro W hSW; (try dsimp only at hSW); go_simp; (try with_reducible rfl))
                change wpAnyH _ _ _ _ _ _ _ (Act.put _ (some 153) _) _
                simp only [Act.put, List.setIfInBounds_toArray, List.set_cons_zero, List.set_cons_succ]
                refine wpAnyH_ready (rs := [19]) (by kernel_rfl) (by simp) ?_
                refine AllReadyH.cons rfl (fun K hK => ?_) AllReadyH.nil
                go_simp
                refine (HG2).mono ?_
                rintro e V2 ⟨rfl, hT2⟩
                refine hK.out _ _ (HSS.out _ (H1.out.1.trans hT2.choose_spec.choose_spec.2.1)) (fun hHeld => ?_)
                clear hK K
                try simp only [Act.put, List.setIfInBounds_toArray, List.set_cons_zero, List.set_cons_succ]
                obtain ⟨F3, S3, hp3, hf3, hb3⟩ := hT2
                have H2 : Hid (Pgr w.heap.size F3 V2 S3 g D pb jb n (X.giv x) ∧ Fr F2 wr F3 V2 ∧ Below w.heap.size w V2) := ⟨hp3, H1.out.1.trans hf3, H1.out.2.trans hb3⟩
                clear hp3 hf3 hb3 HG2
                refine wpAnyH_take (i := 20) (v := .bool false) rfl (by kernel_rfl) (by kernel_rfl) (by kernel_rfl) (fun _ _ _ h => h) (Or.inl ⟨by first | kernel_rfl | rfl, ?yg20⟩) hHeld ?rg20
                case yg20 => (intro W hSW; (try dsimp only at hSW); go_simp; (try with_reducible rfl))
                change wpAnyH _ _ _ _ _ _ _ (Act.put _ (some 155) _) _
                simp only [Act.put, List.setIfInBounds_toArray, List.set_cons_zero, List.set_cons_succ]
                refine wpAnyH_take (i := 21) (v := .bool false) rfl (by kernel_rfl) (by kernel_rfl) (by kernel_rfl) (fun _ _ _ h => h) (Or.inl ⟨by first | kernel_rfl | rfl, ?yg21⟩) hHeld ?rg21
                case yg21 => (intro W hSW; (try dsimp only at hSW); go_simp; (try with_reducible rfl))
                change wpAnyH _ _ _ _ _ _ _ (Act.put _ (some 156) _) _
                simp only [Act.put, List.setIfInBounds_toArray, List.set_cons_zero, List.set_cons_succ]
                refine wpAnyH_done (by kernel_rfl) ?_ _
                go_wp2
                have hf := H2.out.2.1
                exact ⟨⟨i2 + 1, F3, S3, X.giv x, by omega, by go_num, H2.out.1, HGV.out.2.2.1, hf.sub zb HK.out.1, (hf.blk zb HK.out.1 (lt_of_some HK.out.2.1)).trans HK.out.2.1, own_keep HK.out.2.2.1 (fun k hk => by rw [ob_slice] at hk; exact hf.blk k (HK.out.2.2.2.1 k hk) (HK.out.2.2.1.lt k (by rw [ob_slice]; exact hk)).2), fun y hy => hf.sub y (HK.out.2.2.2.1 y hy), H2.out.2.2⟩, by simp [intOf]; omega⟩
              · obtain rfl : i2 = i := by omega
                have kk : ¬ (i2 : Int) < (i2 : Int) := by omega
                have HPF := pfree_any hP
                have hfe : X.free = i2 := by
                  have h1 := hGv.cnt
                  rw [List.length_drop, HL.out.2] at h1
                  have h2 := HX0.out.2.1
                  omega
                rw [hfe] at HPF
                have HBW : Hid (Below w.heap.size w wr) := hbw
                clear hP hGv hFz hzc hor haF hbw hok hfe
                go_wp2_with fail
                refine HPF.mono ?_
                rintro e V3 ⟨rfl, hb3⟩
                have HBX : Hid (Below w.heap.size w V3) := HBW.out.trans (hb3.mono HBW.out.size)
                clear HPF hb3 HBW
                go_wp2_with fail
                refine (HLV.out _ HBX.out).mono ?_
                rintro e w9 ⟨rfl, hb9⟩
                have HB9 : Hid (Below w.heap.size w w9) := hb9
                clear hb9
                go_wp2
                go_ret
                exact ⟨rfl, HB9.out⟩
      · have kk : ¬ (i : Int) < (len1 : Int) := by omega
        have kd1 : decide ((i : Int) < (len1 : Int)) = false := by simpa using kk
        obtain ⟨S1, gs1, ns1, pv1, ov1, hps⟩ := HX.out.1
        have hzh : w.heap.size ≤ zb := hps.h
        have hPF := pfree_any hps.p
        have c1 := hps.z.cells.2.1
        obtain ⟨fr, hfr⟩ : ∃ fr, X.free = fr := ⟨_, rfl⟩
        rw [hfr] at hPF
        obtain ⟨zr, hzr⟩ : ∃ zr, prA jb pb gs1 ns1 pv1 ov1 = zr := ⟨_, rfl⟩
        have hzc := hps.z.c
        rw [hzr] at hzc
        have hz1 : zr[1]? = some (.pointer (some ⟨pb, 0, none⟩)) := by rw [← hzr]; rfl
        have HCZ : Hid (∀ W : World, W.heap[zb]? = some (.cells zr 55 (0, 0)) → W.cell? ⟨zb, 1, none⟩ = some (.pointer (some ⟨pb, 0, none⟩))) := fun W hW => by rw [cell_of_row W zb _ _ _ _ hW]; exact hz1
        have HP1 : Hid (Pgr w.heap.size F1 wr S1 g D pb jb n X ∧ F1 zb ∧ wr.heap[zb]? = some (.cells zr 55 (0, 0)) ∧ Inv n i D X ∧ Below w.heap.size w wr ∧ X.free = fr) := ⟨hps.p, hps.z.f, hzc, HX.out.2.1, HX.out.2.2, hfr⟩
        have hfn : fr ≤ 10 := by
          rw [← hfr]
          have h1 := hps.p.ok.1.now.h.len
          have h2 := count_free X.now.h.u
          unfold Px.free
          omega
        clear HX hps hfr hzr hzc hz1
        go_wp2_with fail
        refine hPF.mono ?_
        rintro e V2 ⟨rfl, hb2⟩
        have H2 : Hid (Pgr w.heap.size (mor F1 wr V2) V2 S1 g D pb jb n X ∧ mor F1 wr V2 zb ∧ V2.heap[zb]? = some (.cells zr 55 (0, 0)) ∧ Below w.heap.size w V2) := ⟨HP1.out.1.below hb2, .inl HP1.out.2.1, (hb2.block zb (lt_of_some HP1.out.2.2.1)).trans HP1.out.2.2.1, HP1.out.2.2.2.2.1.trans (hb2.mono HP1.out.2.2.2.2.1.size)⟩
        have HX0 : Hid (X.Ok n ∧ X.free = fr ∧ Good n D) := ⟨HP1.out.1.ok.1, HP1.out.2.2.2.2.2, HP1.out.2.2.2.1.g⟩
        obtain ⟨X0, hX0⟩ : ∃ X0, X = X0 := ⟨_, rfl⟩
        rw [hX0] at HX0 H2
        obtain ⟨F9, hF9⟩ : ∃ F9, mor F1 wr V2 = F9 := ⟨_, rfl⟩
        rw [hF9] at H2
        clear hPF hb2 HP1 hX0 hF9 c1 X
        go_wp2
        go_loopw [8, 9] (fun v8 v9 wr => ∃ (i : Nat) (F2 : Nat → Prop) (S2 : Nat → Prop) (X : Px) (a : Option Addr) (c : Nat) (l : List Nat), i ≤ fr ∧ l.length = i ∧ v9 = .int .i64 (i : Int) ∧ v8 = .slice a i c ∧ Pgr w.heap.size F2 wr S2 g D pb jb n X ∧ Al n X0 X l ∧ (∀ x ∈ l, ∀ j, j ≤ x → X.now.h.has j = true) ∧ F2 zb ∧ wr.heap[zb]? = some (.cells zr 55 (0, 0)) ∧ wr.ownsRow (zb + 1) 3 1 (.slice a i c) i (intsV l) ∧ (∀ x, ob a = some x → F2 x) ∧ Below w.heap.size w wr) (fun _ v _ => fr - (intOf v).toNat)
        case atStart => exact ⟨0, F9, S1, X0, none, 0, [], by omega, rfl, rfl, rfl, H2.out.1, Al.new n X0, fun x hx => (by cases hx), H2.out.2.1, H2.out.2.2.1, World.ownsRow_nil _ _ _ _, fun x hx => (by cases hx), H2.out.2.2.2⟩
        case round =>
          clear H2
          obtain ⟨i, F2, S2, X, a, c, l, hi, hli, rfl, rfl, hP, hAl, hlow, hFz, hzc, hor, haF, hbw⟩ := hrel
          have c1 := HCZ.out wr hzc
          have hok := hP.ok.1
          by_cases hlt : i < fr
          · have kk : (i : Int) < (fr : Int) := by omega
            have hpos : 0 < X.free := by have := hAl.cnt; have := HX0.out.2.1; omega
            have HAL := palloc_any hP
            have HK : Hid (Al n X0 X l ∧ (∀ x ∈ l, ∀ j, j ≤ x → X.now.h.has j = true) ∧ F2 zb ∧ wr.heap[zb]? = some (.cells zr 55 (0, 0)) ∧ wr.ownsRow (zb + 1) 3 1 (.slice a i c) i (intsV l) ∧ (∀ x, ob a = some x → F2 x) ∧ Below w.heap.size w wr ∧ X.Ok n ∧ 0 < X.free ∧ l.length = i) := ⟨hAl, hlow, hFz, hzc, hor, haF, hbw, hok, hpos, hli⟩
            clear hP hAl hlow hFz hzc hor haF hbw hok hpos hli
            go_wp2_with fail
            refine HAL.mono ?_
            rintro e V1 hA
            rcases hA with ⟨id, hid1, hidn, hidf, hidl, rfl, F3, S3, hP3, hf3, hb3⟩ | ⟨hu, _⟩
            rotate_left
            · exact absurd hu (free_pos HK.out.2.2.2.2.2.2.2.1 HK.out.2.2.2.2.2.2.2.2.1)
            obtain ⟨hAl, hlow, hFz, hzc, hor, haF, hbw, hok, hpos, hli⟩ := HK.out
            obtain ⟨hA2, hnl⟩ := hAl.add hok id hid1 hidn hidf
            have hris := low_rises id hidf hlow
            have hzl := lt_of_some hzc
            have hzc3 : V1.heap[zb]? = some (.cells zr 55 (0, 0)) := (hf3.blk zb hFz hzl).trans hzc
            have hor3 : V1.ownsRow (zb + 1) 3 1 (.slice a i c) i (intsV l) := own_keep hor (fun k hk => by rw [ob_slice] at hk; exact hf3.blk k (haF k hk) (hor.lt k (by rw [ob_slice]; exact hk)).2)
            have hbw3 : Below w.heap.size w V1 := hbw.trans hb3
            obtain ⟨hrd, hwy⟩ := alc_read (D := D) hok id hid1 hidn
            have HRD := pread_any hP3 HX0.out.2.2.asks.len HX0.out.2.2.up HX0.out.2.2.asks.sz (id : Int)
            rw [hrd, hwy] at HRD
            have c13 := HCZ.out V1 hzc3
            have hlow2 : ∀ x ∈ l ++ [id], ∀ j, j ≤ x → (X.alc id).now.h.has j = true := fun x hx j hj => by
              rw [alc_has hok id j hidn]
              by_cases e : j = id
              · rw [if_pos e]
              · rw [if_neg e]
                rcases List.mem_append.1 hx with hx | hx
                · exact hlow x hx j hj
                · obtain rfl := List.mem_singleton.1 hx
                  exact hidl j (by omega)
            have H3 : Hid (Pgr w.heap.size F3 V1 S3 g D pb jb n (X.alc id) ∧ Al n X0 (X.alc id) (l ++ [id]) ∧ (∀ x ∈ l ++ [id], ∀ j, j ≤ x → (X.alc id).now.h.has j = true) ∧ F3 zb ∧ V1.heap[zb]? = some (.cells zr 55 (0, 0)) ∧ V1.ownsRow (zb + 1) 3 1 (.slice a i c) i (intsV l) ∧ (∀ x, ob a = some x → F3 x) ∧ Below w.heap.size w V1 ∧ (∀ x ∈ l, x < id) ∧ l.length = i ∧ (X.alc id).now.h.has id = true) := ⟨hP3, hA2, hlow2, hf3.sub zb hFz, hzc3, hor3, fun x hx => hf3.sub x (haF x hx), hbw3, hris, hli, by rw [alc_has hok id id hidn, if_pos rfl]⟩
            clear HAL HK hidf hidl hP3 hf3 hb3 hAl hlow hFz hzc hor haF hbw hok hpos hli hA2 hnl hris hzl hzc3 hor3 hbw3 hrd hwy hlow2 c1
            go_wp2_with fail
            refine HRD.mono ?_
            rintro e V2 ⟨rfl, hb2⟩
            have hmk : (Instr.makeSlice 22 (.int .i64 1024) (.int .i64 1024)).run Tryz.prog V2 = .ok (.slice (some ⟨V2.heap.size, 0, none⟩) 1024 1024) (V2.alloc (.cells (u8L (List.replicate 1024 0)).toArray 5)) := make_zero 1024 (by omega) V2
            obtain ⟨C, hC⟩ : ∃ C, V2.heap.size = C := ⟨_, rfl⟩
            rw [hC] at hmk
            obtain ⟨V3, hV3⟩ : ∃ V3, V2.alloc (.cells (u8L (List.replicate 1024 0)).toArray 5) = V3 := ⟨_, rfl⟩
            rw [hV3] at hmk
            have hrC : V3.heap[C]? = some (.cells (u8L (List.replicate 1024 0)).toArray 5 (0, 0)) := by rw [← hV3, ← hC]; exact heap_alloc_new V2 _
            have hcv : (convert 22 9 (.slice (some ⟨C, 0, none⟩) 1024 1024)).run Tryz.prog V3 = .ok (.string zeroS) V3 := conv_u8 V3 C _ _ _ hrC 1024 (by rw [List.length_replicate])
            have hb13 : Below V1.heap.size V1 V3 := by rw [← hV3]; exact hb2.alloc hb2.size _
            have hP3 := H3.out.1.below hb13
            have hzc3 := (hb13.block zb (lt_of_some H3.out.2.2.2.2.1)).trans H3.out.2.2.2.2.1
            have c13 := HCZ.out V3 hzc3
            have hor3 : V3.ownsRow (zb + 1) 3 1 (.slice a i c) i (intsV l) := own_keep H3.out.2.2.2.2.2.1 (fun k hk => hb13.block k (H3.out.2.2.2.2.2.1.lt k hk).2)
            have HUS := pused_any hP3 (id : Int)
            have hus : Hd.usedI (X.alc id).now.h (id : Int) = true := by
              unfold Hd.usedI
              rw [Int.toNat_natCast, H3.out.2.2.2.2.2.2.2.2.2.2, decide_eq_true (by omega)]
              rfl
            rw [hus] at HUS
            have H4 : Hid (Pgr w.heap.size (mor F3 V1 V3) V3 S3 g D pb jb n (X.alc id) ∧ V3.heap[zb]? = some (.cells zr 55 (0, 0)) ∧ V3.ownsRow (zb + 1) 3 1 (.slice a i c) i (intsV l) ∧ Below w.heap.size w V3) := ⟨hP3, hzc3, hor3, H3.out.2.2.2.2.2.2.2.1.trans (hb13.mono H3.out.2.2.2.2.2.2.2.1.size)⟩
            have hcap := rw_cap (Rw.own (G := fun _ => True) hor3 (fun _ _ => trivial))
            have HDO : Hid (∀ V4 : World, Below V3.heap.size V3 V4 → ∃ (a' : Option Addr) (c' : Nat) (V5 V6 : World), V4.alloc (.cells #[.int .i64 (id : Int)] 3) = V5 ∧ (∀ ty, (Builtin.append_ #[60, 60] ty #[.slice a i c, .slice (some ⟨V4.heap.size, 0, none⟩) 1 1]).run Tryz.prog V5 = .ok (.slice a' (i + 1) c') V6) ∧ ∃ F6, Pgr w.heap.size F6 V6 S3 g D pb jb n (X.alc id) ∧ F6 zb ∧ V6.heap[zb]? = some (.cells zr 55 (0, 0)) ∧ V6.ownsRow (zb + 1) 3 1 (.slice a' (i + 1) c') (i + 1) (intsV (l ++ [id])) ∧ (∀ x, ob a' = some x → F6 x) ∧ Below w.heap.size w V6) := fun V4 hb4 => by
              obtain ⟨q1, q2, q3, q4⟩ := H4.out
              have hz4 := (hb4.block zb (lt_of_some q2)).trans q2
              have hb5 : Below V3.heap.size V3 (V4.alloc (.cells #[.int .i64 (id : Int)] 3)) := hb4.alloc hb4.size _
              have hor5 : (V4.alloc (.cells #[.int .i64 (id : Int)] 3)).ownsRow (zb + 1) 3 1 (.slice a i c) i (intsV l) := own_keep q3 (fun k hk => hb5.block k (q3.lt k hk).2)
              have hzl := lt_of_some q2
              obtain ⟨a', c', V6, k1, k2, k3, k4⟩ := addN_own4 (V4.alloc (.cells #[.int .i64 (id : Int)] 3)) (x := id) (b := V4.heap.size) hor5 (heap_alloc_new V4 _) (by omega) (by have := hb5.size; omega)
              have hal : ∀ x, ob a = some x → zb + 1 ≤ x ∧ x < V3.heap.size := fun x hx => q3.lt x (by rw [ob_slice]; exact hx)
              have hup1 : Upd (fun x => ob a = some x) V3 V6 := (Upd.of_below hb5).grown k3 (fun k hk _ => hk)
              have hup : Upd (mor F3 V1 V3) V3 V6 := ⟨hup1.os, hup1.tape, hup1.output, hup1.size, fun k hk hn => hup1.block k hk (fun e => hn (.inl (H3.out.2.2.2.2.2.2.1 k e)))⟩
              have hz6 : V6.heap[zb]? = some (.cells zr 55 (0, 0)) := (k3.block zb (by have := hb5.size; omega) (fun e => by have := hal zb e.symm; omega)).trans ((hb5.block zb hzl).trans q2)
              have hsz : V3.heap.size ≤ V6.heap.size := hup.size
              refine ⟨a', c', _, V6, rfl, k1, _, q1.updF hup, .inl (.inl H3.out.2.2.2.1), hz6, k2, fun x hx => ?_, q4.trans (hup1.below q4.size (fun x hx => by have := hal x hx; omega))⟩
              rcases k4 with e | e
              · rw [e] at hx; exact .inl (.inl (H3.out.2.2.2.2.2.2.1 x hx))
              · rw [e] at hx
                obtain rfl := Option.some.inj hx
                refine .inr ⟨hb5.size, ?_⟩
                exact (k2.lt _ (by rw [ob_slice, e])).2
            have HRI : Hid (∀ x ∈ l, x < id) := H3.out.2.2.2.2.2.2.2.2.1
            have HLI : Hid (l.length = i ∧ Al n X0 (X.alc id) (l ++ [id]) ∧ (∀ x ∈ l ++ [id], ∀ j, j ≤ x → (X.alc id).now.h.has j = true)) := ⟨H3.out.2.2.2.2.2.2.2.2.2.1, H3.out.2.1, H3.out.2.2.1⟩
            clear HRD hb2 hrC hb13 hP3 hzc3 hor3 hus H3
            by_cases hi0 : i = 0
            · subst hi0
              go_wp2_with fail
              refine HUS.mono ?_
              rintro e V4 ⟨rfl, hb4⟩
              obtain ⟨a', c', V5, V6, hV5, happ, F6, g1, g2, g3, g4, g5, g6⟩ := HDO.out V4 hb4
              obtain ⟨C4, hC4⟩ : ∃ C4, V4.heap.size = C4 := ⟨_, rfl⟩
              rw [hC4] at happ
              have HG : Hid (Pgr w.heap.size F6 V6 S3 g D pb jb n (X.alc id) ∧ F6 zb ∧ V6.heap[zb]? = some (.cells zr 55 (0, 0)) ∧ V6.ownsRow (zb + 1) 3 1 (.slice a' (0 + 1) c') (0 + 1) (intsV (l ++ [id])) ∧ (∀ x, ob a' = some x → F6 x) ∧ Below w.heap.size w V6) := ⟨g1, g2, g3, g4, g5, g6⟩
              clear HUS hb4 g1 g2 g3 g4 g5 g6 hmk hcv H4
              go_wp2_with ((at_builtin; refine wpList_app V5 rfl _ _ _ _ rfl rfl rfl (happ _) ?_))
              exact ⟨⟨0 + 1, F6, S3, X.alc id, a', c', l ++ [id], by omega, by rw [List.length_append, HLI.out.1]; rfl, by go_num, rfl, HG.out.1, HLI.out.2.1, HLI.out.2.2, HG.out.2.1, HG.out.2.2.1, HG.out.2.2.2.1, HG.out.2.2.2.2.1, HG.out.2.2.2.2.2⟩, by simp [intOf]; omega⟩
            · obtain ⟨j, rfl⟩ : ∃ j, i = j + 1 := ⟨i - 1, by omega⟩
              obtain ⟨lb, lo, rfl, hlbl, hlcs⟩ := ints_row (Rw.own (G := fun _ => True) H4.out.2.2.1 (fun _ _ => trivial)) (by omega)
              have hjl : j < l.length := by rw [HLI.out.1]; omega
              have hcj := hlcs j hjl
              have hxid := HRI.out _ (List.getElem_mem hjl)
              obtain ⟨x, hx⟩ : ∃ x, l[j] = x := ⟨_, rfl⟩
              rw [hx] at hcj hxid
              have kx : ¬ (id : Int) ≤ (x : Int) := by omega
              have kx2 : decide ((id : Int) ≤ (x : Int)) = false := by simpa using kx
              have kx3 : decide (id ≤ x) = false := by simp; omega
              have kj1 : decide ((0 : Int) < ((j + 1 : Nat) : Int)) = true := by simp <;> omega
              have kj2 : ((j + 1 : Nat) : Int) - 1 = (j : Int) := by omega
              clear hlcs hx
              go_wp2_with fail
              refine HUS.mono ?_
              rintro e V4 ⟨rfl, hb4⟩
              obtain ⟨a', c', V5, V6, hV5, happ, F6, g1, g2, g3, g4, g5, g6⟩ := HDO.out V4 hb4
              obtain ⟨C4, hC4⟩ : ∃ C4, V4.heap.size = C4 := ⟨_, rfl⟩
              rw [hC4] at happ
              have HG : Hid (Pgr w.heap.size F6 V6 S3 g D pb jb n (X.alc id) ∧ F6 zb ∧ V6.heap[zb]? = some (.cells zr 55 (0, 0)) ∧ V6.ownsRow (zb + 1) 3 1 (.slice a' ((j + 1) + 1) c') ((j + 1) + 1) (intsV (l ++ [id])) ∧ (∀ x, ob a' = some x → F6 x) ∧ Below w.heap.size w V6) := ⟨g1, g2, g3, g4, g5, g6⟩
              clear HUS hb4 g1 g2 g3 g4 g5 g6 hmk hcv H4
              go_wp2_with ((at_builtin; refine wpList_app V5 rfl _ _ _ _ rfl rfl rfl (happ _) ?_))
              exact ⟨⟨(j + 1) + 1, F6, S3, X.alc id, a', c', l ++ [id], by omega, by rw [List.length_append, HLI.out.1]; rfl, by go_num, rfl, HG.out.1, HLI.out.2.1, HLI.out.2.2, HG.out.2.1, HG.out.2.2.1, HG.out.2.2.2.1, HG.out.2.2.2.2.1, HG.out.2.2.2.2.2⟩, by simp [intOf]; omega⟩
          · obtain rfl : i = fr := by omega
            have kk : ¬ (i : Int) < (i : Int) := by omega
            have hfz : X.free = 0 := by have := hAl.cnt; have := HX0.out.2.1; omega
            have HAL := palloc_full hP (free_zero hok hfz)
            have HK : Hid (Al n X0 X l ∧ F2 zb ∧ wr.heap[zb]? = some (.cells zr 55 (0, 0)) ∧ wr.ownsRow (zb + 1) 3 1 (.slice a i c) i (intsV l) ∧ (∀ x, ob a = some x → F2 x) ∧ Below w.heap.size w wr ∧ X.free = 0 ∧ l.length = i) := ⟨hAl, hFz, hzc, hor, haF, hbw, hfz, hli⟩
            have hcap := rw_cap (Rw.own (G := fun _ => True) hor (fun _ _ => trivial))
            clear hP hAl hlow hFz hzc hor haF hbw hok hli hfz
            go_wp2_with fail
            refine HAL.mono ?_
            rintro e V1 ⟨rfl, F3, S3, hP3, hf3, hb3⟩
            obtain ⟨hAl, hFz, hzc, hor, haF, hbw, hfz, hli⟩ := HK.out
            have hzl := lt_of_some hzc
            have hzc3 : V1.heap[zb]? = some (.cells zr 55 (0, 0)) := (hf3.blk zb hFz hzl).trans hzc
            have hor3 : V1.ownsRow (zb + 1) 3 1 (.slice a i c) i (intsV l) := own_keep hor (fun k hk => by rw [ob_slice] at hk; exact hf3.blk k (haF k hk) (hor.lt k (by rw [ob_slice]; exact hk)).2)
            have c13 := HCZ.out V1 hzc3
            have HPF := pfree_any hP3
            rw [hfz] at HPF
            have H3 : Hid (Pgr w.heap.size F3 V1 S3 g D pb jb n X ∧ Al n X0 X l ∧ F3 zb ∧ V1.heap[zb]? = some (.cells zr 55 (0, 0)) ∧ V1.ownsRow (zb + 1) 3 1 (.slice a i c) i (intsV l) ∧ (∀ x, ob a = some x → F3 x) ∧ Below w.heap.size w V1 ∧ l.length = i) := ⟨hP3, hAl, hf3.sub zb hFz, hzc3, hor3, fun x hx => hf3.sub x (haF x hx), hbw.trans hb3, hli⟩
            clear HAL HK hP3 hf3 hb3 hAl hFz hzc hor haF hbw hfz hli hzl hzc3 hor3 c1
            go_wp2_with fail
            refine HPF.mono ?_
            rintro e V2 ⟨rfl, hb2⟩
            have H4 : Hid (∃ (i2 : Nat) (F2 : Nat → Prop) (S2 : Nat → Prop) (X : Px), i2 ≤ i ∧ Value.int .i64 0 = .int .i64 (i2 : Int) ∧ Pgr w.heap.size F2 V2 S2 g D pb jb n X ∧ Gv n X0 X (l.drop i2) ∧ F2 zb ∧ V2.heap[zb]? = some (.cells zr 55 (0, 0)) ∧ V2.ownsRow (zb + 1) 3 1 (.slice a i c) i (intsV l) ∧ (∀ x, ob a = some x → F2 x) ∧ Below w.heap.size w V2) := by
              obtain ⟨k1, k2, k3, k4, k5, k6, k7, k8⟩ := H3.out
              refine ⟨0, mor F3 V1 V2, S3, X, by omega, rfl, k1.below hb2, ⟨k2.has, k2.root, k2.cnt⟩, .inl k3, (hb2.block zb (lt_of_some k4)).trans k4, own_keep k5 (fun k hk => hb2.block k (k5.lt k hk).2), fun x hx => .inl (k6 x hx), k7.trans (hb2.mono k7.size)⟩
            have HL : Hid (Al n X0 X l ∧ l.length = i) := ⟨H3.out.2.1, H3.out.2.2.2.2.2.2.2⟩
            obtain ⟨XF, hXF⟩ : ∃ XF, X = XF := ⟨_, rfl⟩
            rw [hXF] at HL
            clear HPF hb2 H3 hXF c13 X F2 S2
            go_wp2
            go_loopw [16] (fun v16 wr => ∃ (i2 : Nat) (F2 : Nat → Prop) (S2 : Nat → Prop) (X : Px), i2 ≤ i ∧ v16 = .int .i64 (i2 : Int) ∧ Pgr w.heap.size F2 wr S2 g D pb jb n X ∧ Gv n X0 X (l.drop i2) ∧ F2 zb ∧ wr.heap[zb]? = some (.cells zr 55 (0, 0)) ∧ wr.ownsRow (zb + 1) 3 1 (.slice a i c) i (intsV l) ∧ (∀ x, ob a = some x → F2 x) ∧ Below w.heap.size w wr) (fun v _ => i - (intOf v).toNat)
            case atStart => exact H4.out
            case round =>
              clear H4
              obtain ⟨i2, F2, S2, X, hi2, rfl, hP, hGv, hFz, hzc, hor, haF, hbw⟩ := hrel
              have c1 := HCZ.out wr hzc
              have hok := hP.ok.1
              by_cases hlt : i2 < i
              · have kk : (i2 : Int) < (i : Int) := by omega
                have hil : i2 < l.length := by rw [HL.out.2]; exact hlt
                obtain ⟨x, hx⟩ : ∃ x, l[i2] = x := ⟨_, rfl⟩
                have hdr : l.drop i2 = x :: l.drop (i2 + 1) := by rw [List.drop_eq_getElem_cons hil, hx]
                rw [hdr] at hGv
                have hxm : x ∈ l := by rw [← hx]; exact List.getElem_mem hil
                obtain ⟨n1, n2, n3⟩ := HL.out.1.nw x hxm
                have hnd : x ∉ l.drop (i2 + 1) := by
                  have h9 := HL.out.1.nd
                  have h8 : (l.drop i2).Nodup := h9.sublist (List.drop_sublist _ _)
                  rw [hdr] at h8
                  exact (List.nodup_cons.1 h8).1
                have hgv := hGv.give HX0.out.1 hok n1 n2 n3 hnd
                have HG1 := pgive_any (hP.below (Below.refl _ wr).drew) (x : Int)
                rw [mor_drew, hgv.1, hgv.2.1] at HG1
                obtain ⟨gb, hgb, rfl⟩ : ∃ gb, zb + 1 ≤ gb ∧ a = some ⟨gb, 0, none⟩ := by
                  rcases hor.2 with ⟨h1, h2⟩ | ⟨g', cap', cur, e1, hb0, _⟩
                  · omega
                  · cases e1
                    exact ⟨g', hb0, rfl⟩
                have hgl := (hor.lt gb rfl).2
                have hgc : wr.cell? ⟨gb, i2, none⟩ = some (.int .i64 (x : Int)) := own_at hor (by rw [intsV, List.getElem?_map, List.getElem?_eq_getElem hil, hx]; rfl)
                have HSS : Hid (∀ {F' : Nat → Prop} (W : World), Fr F2 wr F' W → W.cell? ⟨zb, 1, none⟩ = some (.pointer (some ⟨pb, 0, none⟩)) ∧ W.cell? ⟨gb, i2, none⟩ = some (.int .i64 (x : Int))) := fun W hW => ⟨HCZ.out W ((hW.blk zb hFz (lt_of_some hzc)).trans hzc), by rw [cell_blk (hW.blk gb (haF gb rfl) hgl)]; exact hgc⟩
                have HGV : Hid (X.gcode n (x : Int) = 0 ∧ X.gput n (x : Int) = X.giv x ∧ Gv n X0 (X.giv x) (l.drop (i2 + 1)) ∧ (X.giv x).gcode n (x : Int) = 6 ∧ (X.giv x).gput n (x : Int) = X.giv x) := hgv
                have HK : Hid (F2 zb ∧ wr.heap[zb]? = some (.cells zr 55 (0, 0)) ∧ wr.ownsRow (zb + 1) 3 1 (.slice (some ⟨gb, 0, none⟩) i c) i (intsV l) ∧ (∀ x, ob (some ⟨gb, 0, none⟩) = some x → F2 x) ∧ True ∧ True ∧ Below w.heap.size w wr ∧ gb < wr.heap.size) := ⟨hFz, hzc, hor, haF, trivial, trivial, hbw, hgl⟩
                clear hP hGv hFz hzc hor haF hbw hok hdr hxm n1 n2 n3 hnd hgv hgc hx hgl
                go_wp2
                refine wp_region_held_drew (S := fun W => W.cell? ⟨zb, 1, none⟩ = some (.pointer (some ⟨pb, 0, none⟩)) ∧ W.cell? ⟨gb, i2, none⟩ = some (.int .i64 (x : Int))) (by kernel_rfl) (HSS.out _ (Fr.drew _ wr)) (fun hHeld => ?_)
                refine wpAnyH_take (i := 0) (v := ?vh0) rfl (by kernel_rfl) (by kernel_rfl) (by kernel_rfl) (fun _ _ _ h => h) (Or.inl ⟨by first | kernel_rfl | rfl, ?yh0⟩) hHeld ?rh0
                case yh0 => (intro W hSW; (try dsimp only at hSW); go_simp; (try with_reducible rfl))
                change wpAnyH _ _ _ _ _ _ _ (Act.put _ (some 135) _) _
                simp only [Act.put, List.setIfInBounds_toArray, List.set_cons_zero, List.set_cons_succ]
                refine wpAnyH_take (i := 1) (v := ?vh1) rfl (by kernel_rfl) (by kernel_rfl) (by kernel_rfl) (fun _ _ _ h => h) (Or.inl ⟨by first | kernel_rfl | rfl, ?yh1⟩) hHeld ?rh1
                case yh1 => (intro W hSW; (try dsimp only at hSW); go_simp; (try with_reducible rfl))
                change wpAnyH _ _ _ _ _ _ _ (Act.put _ (some 136) _) _
                simp only [Act.put, List.setIfInBounds_toArray, List.set_cons_zero, List.set_cons_succ]
                refine wpAnyH_take (i := 2) (v := ?vh2) rfl (by kernel_rfl) (by kernel_rfl) (by kernel_rfl) (fun _ _ _ h => h) (Or.inl ⟨by first | kernel_rfl | rfl, ?yh2⟩) hHeld ?rh2
                case yh2 => (intro W hSW; (try dsimp only at hSW); go_simp; (try with_reducible rfl))
                change wpAnyH _ _ _ _ _ _ _ (Act.put _ (some 137) _) _
                simp only [Act.put, List.setIfInBounds_toArray, List.set_cons_zero, List.set_cons_succ]
                refine wpAnyH_take (i := 3) (v := ?vh3) rfl (by kernel_rfl) (by kernel_rfl) (by kernel_rfl) (fun _ _ _ h => h) (Or.inl ⟨by first | kernel_rfl | rfl, ?yh3⟩) hHeld ?rh3
                case yh3 => (intro W hSW; (try dsimp only at hSW); go_simp; (try with_reducible rfl))
                change wpAnyH _ _ _ _ _ _ _ (Act.put _ (some 138) _) _
                simp only [Act.put, List.setIfInBounds_toArray, List.set_cons_zero, List.set_cons_succ]
                refine wpAnyH_take (i := 4) (v := ?vh4) rfl (by kernel_rfl) (by kernel_rfl) (by kernel_rfl) (fun _ _ _ h => h) (Or.inl ⟨by first | kernel_rfl | rfl, ?yh4⟩) hHeld ?rh4
                case yh4 => (intro W hSW; (try dsimp only at hSW); go_simp; (try with_reducible rfl))
                change wpAnyH _ _ _ _ _ _ _ (Act.put _ (some 139) _) _
                simp only [Act.put, List.setIfInBounds_toArray, List.set_cons_zero, List.set_cons_succ]
                refine wpAnyH_take (i := 5) (v := ?vh5) rfl (by kernel_rfl) (by kernel_rfl) (by kernel_rfl) (fun _ _ _ h => h) (Or.inl ⟨by first | kernel_rfl | rfl, ?yh5⟩) hHeld ?rh5
                case yh5 => (intro W hSW; (try dsimp only at hSW); go_simp; (try with_reducible rfl))
                change wpAnyH _ _ _ _ _ _ _ (Act.put _ (some 140) _) _
                simp only [Act.put, List.setIfInBounds_toArray, List.set_cons_zero, List.set_cons_succ]
                refine wpAnyH_take (i := 6) (v := ?vh6) rfl (by kernel_rfl) (by kernel_rfl) (by kernel_rfl) (fun _ _ _ h => h) (Or.inl ⟨by first | kernel_rfl | rfl, ?yh6⟩) hHeld ?rh6
                case yh6 => (intro W hSW; (try dsimp only at hSW); go_simp; (try with_reducible rfl))
                change wpAnyH _ _ _ _ _ _ _ (Act.put _ (some 141) _) _
                simp only [Act.put, List.setIfInBounds_toArray, List.set_cons_zero, List.set_cons_succ]
                refine wpAnyH_take (i := 7) (v := ?vh7) rfl (by kernel_rfl) (by kernel_rfl) (by kernel_rfl) (fun _ _ _ h => h) (Or.inl ⟨by first | kernel_rfl | rfl, ?yh7⟩) hHeld ?rh7
                case yh7 => (intro W hSW; (try dsimp only at hSW); go_simp; (try with_reducible rfl))
                change wpAnyH _ _ _ _ _ _ _ (Act.put _ (some 142) _) _
                simp only [Act.put, List.setIfInBounds_toArray, List.set_cons_zero, List.set_cons_succ]
                refine wpAnyH_ready (rs := [8]) (by kernel_rfl) (by simp) ?_
                refine AllReadyH.cons rfl (fun K hK => ?_) AllReadyH.nil
                go_simp
                refine (HG1).mono ?_
                rintro e V1 ⟨rfl, hT1⟩
                refine hK.out _ _ (HSS.out _ ((Fr.drew _ wr).trans hT1.choose_spec.choose_spec.2.1)) (fun hHeld => ?_)
                clear hK K
                try simp only [Act.put, List.setIfInBounds_toArray, List.set_cons_zero, List.set_cons_succ]
                obtain ⟨F1, S1, hp1, hf1, hb1⟩ := hT1
                have HG2 := pgive_any hp1 (x : Int)
                rw [HGV.out.2.2.2.1, HGV.out.2.2.2.2] at HG2
                have H1 : Hid (Fr F2 wr F1 V1 ∧ Below w.heap.size w V1) := ⟨(Fr.drew _ wr).trans hf1, HK.out.2.2.2.2.2.2.1.drew.trans hb1⟩
                clear hp1 hf1 hb1 HG1
                refine wpAnyH_take (i := 9) (v := .bool false) rfl (by kernel_rfl) (by kernel_rfl) (by kernel_rfl) (fun _ _ _ h => h) (Or.inl ⟨by first | kernel_rfl | rfl, ?yh9⟩) hHeld ?rh9
                case yh9 => (intro W hSW; (try dsimp only at hSW); go_simp; (try with_reducible rfl))
                change wpAnyH _ _ _ _ _ _ _ (Act.put _ (some 144) _) _
                simp only [Act.put, List.setIfInBounds_toArray, List.set_cons_zero, List.set_cons_succ]
                refine wpAnyH_take (i := 10) (v := .bool false) rfl (by kernel_rfl) (by kernel_rfl) (by kernel_rfl) (fun _ _ _ h => h) (Or.inl ⟨by first | kernel_rfl | rfl, ?yh10⟩) hHeld ?rh10
                case yh10 => (intro W hSW; (try dsimp only at hSW); go_simp; (try with_reducible rfl))
                change wpAnyH _ _ _ _ _ _ _ (Act.put _ (some 145) _) _
                simp only [Act.put, List.setIfInBounds_toArray, List.set_cons_zero, List.set_cons_succ]
                refine wpAnyH_take (i := 11) (v := ?vh11) rfl (by kernel_rfl) (by kernel_rfl) (by kernel_rfl) (fun _ _ _ h => h) (Or.inl ⟨by first | kernel_rfl | rfl, ?yh11⟩) hHeld ?rh11
                case yh11 => (intro W hSW; (try dsimp only at hSW); go_simp; (try with_reducible rfl))
                change wpAnyH _ _ _ _ _ _ _ (Act.put _ (some 146) _) _
                simp only [Act.put, List.setIfInBounds_toArray, List.set_cons_zero, List.set_cons_succ]
                refine wpAnyH_take (i := 12) (v := ?vh12) rfl (by kernel_rfl) (by kernel_rfl) (by kernel_rfl) (fun _ _ _ h => h) (Or.inl ⟨by first | kernel_rfl | rfl, ?yh12⟩) hHeld ?rh12
                case yh12 => (intro W hSW; (try dsimp only at hSW); go_simp; (try with_reducible rfl))
                change wpAnyH _ _ _ _ _ _ _ (Act.put _ (some 147) _) _
                simp only [Act.put, List.setIfInBounds_toArray, List.set_cons_zero, List.set_cons_succ]
                refine wpAnyH_take (i := 13) (v := ?vh13) rfl (by kernel_rfl) (by kernel_rfl) (by kernel_rfl) (fun _ _ _ h => h) (Or.inl ⟨by first | kernel_rfl | rfl, ?yh13⟩) hHeld ?rh13
                case yh13 => (intro W hSW; (try dsimp only at hSW); go_simp; (try with_reducible rfl))
                change wpAnyH _ _ _ _ _ _ _ (Act.put _ (some 148) _) _
                simp only [Act.put, List.setIfInBounds_toArray, List.set_cons_zero, List.set_cons_succ]
                refine wpAnyH_take (i := 14) (v := ?vh14) rfl (by kernel_rfl) (by kernel_rfl) (by kernel_rfl) (fun _ _ _ h => h) (Or.inl ⟨by first | kernel_rfl | rfl, ?yh14⟩) hHeld ?rh14
                case yh14 => (intro W hSW; (try dsimp only at hSW); go_simp; (try with_reducible rfl))
                change wpAnyH _ _ _ _ _ _ _ (Act.put _ (some 149) _) _
                simp only [Act.put, List.setIfInBounds_toArray, List.set_cons_zero, List.set_cons_succ]
                refine wpAnyH_take (i := 15) (v := ?vh15) rfl (by kernel_rfl) (by kernel_rfl) (by kernel_rfl) (fun _ _ _ h => h) (Or.inl ⟨by first | kernel_rfl | rfl, ?yh15⟩) hHeld ?rh15
                case yh15 => (intro W hSW; (try dsimp only at hSW); go_simp; (try with_reducible rfl))
                change wpAnyH _ _ _ _ _ _ _ (Act.put _ (some 150) _) _
                simp only [Act.put, List.setIfInBounds_toArray, List.set_cons_zero, List.set_cons_succ]
                refine wpAnyH_take (i := 16) (v := ?vh16) rfl (by kernel_rfl) (by kernel_rfl) (by kernel_rfl) (fun _ _ _ h => h) (Or.inl ⟨by first | kernel_rfl | rfl, ?yh16⟩) hHeld ?rh16
                case yh16 => (intro W hSW; (try dsimp only at hSW); go_simp; (try with_reducible rfl))
                change wpAnyH _ _ _ _ _ _ _ (Act.put _ (some 151) _) _
                simp only [Act.put, List.setIfInBounds_toArray, List.set_cons_zero, List.set_cons_succ]
                refine wpAnyH_take (i := 17) (v := ?vh17) rfl (by kernel_rfl) (by kernel_rfl) (by kernel_rfl) (fun _ _ _ h => h) (Or.inl ⟨by first | kernel_rfl | rfl, ?yh17⟩) hHeld ?rh17
                case yh17 => (intro W hSW; (try dsimp only at hSW); go_simp; (try with_reducible rfl))
                change wpAnyH _ _ _ _ _ _ _ (Act.put _ (some 152) _) _
                simp only [Act.put, List.setIfInBounds_toArray, List.set_cons_zero, List.set_cons_succ]
                refine wpAnyH_take (i := 18) (v := ?vh18) rfl (by kernel_rfl) (by kernel_rfl) (by kernel_rfl) (fun _ _ _ h => h) (Or.inl ⟨by first | kernel_rfl | rfl, ?yh18⟩) hHeld ?rh18
                case yh18 => (intro W hSW; (try dsimp only at hSW); go_simp; (try with_reducible rfl))
                change wpAnyH _ _ _ _ _ _ _ (Act.put _ (some 153) _) _
                simp only [Act.put, List.setIfInBounds_toArray, List.set_cons_zero, List.set_cons_succ]
                refine wpAnyH_ready (rs := [19]) (by kernel_rfl) (by simp) ?_
                refine AllReadyH.cons rfl (fun K hK => ?_) AllReadyH.nil
                go_simp
                refine (HG2).mono ?_
                rintro e V2 ⟨rfl, hT2⟩
                refine hK.out _ _ (HSS.out _ (H1.out.1.trans hT2.choose_spec.choose_spec.2.1)) (fun hHeld => ?_)
                clear hK K
                try simp only [Act.put, List.setIfInBounds_toArray, List.set_cons_zero, List.set_cons_succ]
                obtain ⟨F3, S3, hp3, hf3, hb3⟩ := hT2
                have H2 : Hid (Pgr w.heap.size F3 V2 S3 g D pb jb n (X.giv x) ∧ Fr F2 wr F3 V2 ∧ Below w.heap.size w V2) := ⟨hp3, H1.out.1.trans hf3, H1.out.2.trans hb3⟩
                clear hp3 hf3 hb3 HG2
                refine wpAnyH_take (i := 20) (v := .bool false) rfl (by kernel_rfl) (by kernel_rfl) (by kernel_rfl) (fun _ _ _ h => h) (Or.inl ⟨by first | kernel_rfl | rfl, ?yh20⟩) hHeld ?rh20
                case yh20 => (intro W hSW; (try dsimp only at hSW); go_simp; (try with_reducible rfl))
                change wpAnyH _ _ _ _ _ _ _ (Act.put _ (some 155) _) _
                simp only [Act.put, List.setIfInBounds_toArray, List.set_cons_zero, List.set_cons_succ]
                refine wpAnyH_take (i := 21) (v := .bool false) rfl (by kernel_rfl) (by kernel_rfl) (by kernel_rfl) (fun _ _ _ h => h) (Or.inl ⟨by first | kernel_rfl | rfl, ?yh21⟩) hHeld ?rh21
                case yh21 => (intro W hSW; (try dsimp only at hSW); go_simp; (try with_reducible rfl))
                change wpAnyH _ _ _ _ _ _ _ (Act.put _ (some 156) _) _
                simp only [Act.put, List.setIfInBounds_toArray, List.set_cons_zero, List.set_cons_succ]
                refine wpAnyH_done (by kernel_rfl) ?_ _
                go_wp2
                have hf := H2.out.2.1
                exact ⟨⟨i2 + 1, F3, S3, X.giv x, by omega, by go_num, H2.out.1, HGV.out.2.2.1, hf.sub zb HK.out.1, (hf.blk zb HK.out.1 (lt_of_some HK.out.2.1)).trans HK.out.2.1, own_keep HK.out.2.2.1 (fun k hk => by rw [ob_slice] at hk; exact hf.blk k (HK.out.2.2.2.1 k hk) (HK.out.2.2.1.lt k (by rw [ob_slice]; exact hk)).2), fun y hy => hf.sub y (HK.out.2.2.2.1 y hy), H2.out.2.2⟩, by simp [intOf]; omega⟩
              · obtain rfl : i2 = i := by omega
                have kk : ¬ (i2 : Int) < (i2 : Int) := by omega
                have HPF := pfree_any hP
                have hfe : X.free = i2 := by
                  have h1 := hGv.cnt
                  rw [List.length_drop, HL.out.2] at h1
                  have h2 := HX0.out.2.1
                  omega
                rw [hfe] at HPF
                have HBW : Hid (Below w.heap.size w wr) := hbw
                clear hP hGv hFz hzc hor haF hbw hok hfe
                go_wp2_with fail
                refine HPF.mono ?_
                rintro e V3 ⟨rfl, hb3⟩
                have HBX : Hid (Below w.heap.size w V3) := HBW.out.trans (hb3.mono HBW.out.size)
                clear HPF hb3 HBW
                go_wp2_with fail
                refine (HLV.out _ HBX.out).mono ?_
                rintro e w9 ⟨rfl, hb9⟩
                have HB9 : Hid (Below w.heap.size w w9) := hb9
                clear hb9
                go_wp2
                go_ret
                exact ⟨rfl, HB9.out⟩

set_option linter.unusedVariables false in
set_option maxRecDepth 100000 in
theorem lifted (os : _root_.Go.Os) (started : os.Started) (H : Type) (enc : TypeId × Value → H) :
    ReturnsInHanded {} Tryz.checked os 6 .any (Rows.pagerCountsSpec.pre6 enc Tryz.prog Tryz.f6 Rows.pagerCountsRow.domain false) (Rows.pagerCountsSpec.post enc Tryz.prog Tryz.f6 false true false false) := by
  refine returnsInHanded_of_change (C := Tryz.checked) own started (by kernel_rfl) Tryz.func6
    (ChangeSpec.witness6 (enc := enc) (C := Tryz.checked) false ⟨#[], #[.int .i64 0, .slice none 0 0], []⟩ 8 (by kernel_rfl) (by kernel_rfl) (by kernel_rfl) (by kernel_rfl)) ?_
  intro W base args ds gs before hval0 hW hcnd _
  have hval : ∀ (j : Nat) t v, Tryz.f6.params[j]? = some t → args[j]? = some v → Value.okWide Tryz.prog W .any base t v := hval0
  have hW' := hW
  obtain ⟨p, q, hA0, hV, rfl, hfz, hnd⟩ := hW
  have hA : DataW.TrodAll enc Tryz.prog W 0 (fun _ => true) true Tryz.f6.params.toList args.toList ds p := hA0
  rw [Tryz.params6] at hA hval
  obtain ⟨v0, vs0, d0, ds0, p0, q0, hargs, rfl, rfl, h0, r0⟩ := trodAll_cons hA
  obtain ⟨v1, vs1, d1, ds1, p1, q1, rfl, rfl, rfl, h1, r1⟩ := trodAll_cons r0
  obtain ⟨rfl, rfl, rfl⟩ := trodAll_nil r1
  obtain rfl : args = #[v0, v1] := by cases args; simp_all
  obtain ⟨rfl, rfl⟩ := trodVars_none hV
  obtain ⟨x0, rfl, rfl, rfl, w0⟩ := open_int Tryz.underlying3 (hval 0 3 v0 rfl rfl) h0
  have k1 := h1
  have lt1 : ∀ x ∈ p1, x.block < W.heap.size := by obtain ⟨m, hm⟩ := k1; exact DataW.trod_lt m _ _ _ hm
  obtain ⟨a1, len1, cap1, rfl⟩ := okWide_slice Tryz.underlying46 (hval 1 46 v1 rfl rfl)
  obtain ⟨l1, w1⟩ : ∃ l, Os W a1 len1 cap1 l := by
    obtain ⟨fuel, hf⟩ := h1
    exact ops_of (by simpa [Value.cells] using hf)
  clear hA0 hval0
  refine (walk x0 (wf_i64 w0) a1 len1 cap1 l1 W w1).mono fun e W' ⟨he, bel⟩ => ?_
  subst he
  exact ⟨_, rfl, _, _, _, [], _, [], hW', trodAll_mk1 (shut_bool Tryz.underlying4 _), (trodAll_cons_mk (shut_int Tryz.underlying3 w0) (trodAll_cons_mk (Below.trod laidOut (by kernel_rfl) (of_decide_eq_true (by kernel_rfl)) k1 bel lt1) trodAll_mk0)), rfl, bel.frame _, fun h => by cases h⟩

theorem over : Rows.pagerCountsRow.holds Tryz.pinned (OpenSpec.ofChange Rows.pagerCountsSpec) :=
  OpenClaim.holds_of_wide 6 Tryz.f6 rfl rfl rfl rfl rfl rfl rfl ⟨rfl, rfl, rfl, rfl, rfl⟩ rfl rfl rfl rfl rfl (by kernel_rfl) Tryz.func6 (by kernel_rfl)
    (of_decide_eq_true (by kernel_rfl)) (by unfold Func.isWrapper; first | (rw [if_pos (by decide +kernel)]; kernel_rfl) | (rw [if_neg (by decide +kernel)]; exact ⟨rfl, rfl⟩))
    (fun os started H enc _ => lifted os started H enc)

end Go.Proofs.YtdgffocmdkadpaaGreat.pagerCounts
namespace Go.Proofs.YtdgffocmdkadpaaGreat
/-- The given statement. -/
theorem pagerCounts_holds : Rows.PagerCountsSaid := pagerCounts.over
#print axioms pagerCounts_holds
end Go.Proofs.YtdgffocmdkadpaaGreat
