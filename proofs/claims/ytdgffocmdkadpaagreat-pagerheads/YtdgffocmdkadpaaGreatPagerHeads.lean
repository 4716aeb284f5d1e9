/- Proved: for every number of pages and all bytes, the law PagerHeads returns true, both as they were. No condition: every input that can be read as data. -/
import Derived.Test.YtdgffocmdkadpaaGreatRows
import Derived.Test.YtdgffocmdkadpaaGreatOM
import Derived.WalkKit
import Derived.ProofKit
import Derived.OpenShut
import Derived.ShutString
import Derived.ChangeOld
import Derived.Below
namespace Go.Proofs.YtdgffocmdkadpaaGreat.pagerHeads
open Go.ChangeShapes Go.WideShapes Go.ChangeAt Go.RowKit
theorem own : ownKnob Tryz.prog.godebug = none := by kernel_rfl
theorem laidOut : laidOutB Tryz.prog = true := by kernel_rfl
open Pg
set_option maxRecDepth 100000 in
set_option maxHeartbeats 20000000 in
theorem walk (x0 : Int) (_z0 : -9223372036854775808 ≤ x0 ∧ x0 ≤ 9223372036854775807) (a1 : Option Addr) (len1 cap1 : Nat) (l1 : List UInt8) (w : World) (w1 : Bs w a1 len1 cap1 l1) :
    Calls Tryz.prog 3 #[.int .i64 x0, .slice a1 len1 cap1] w fun e w' => e = .returned (.bool true) ∧ Below w.heap.size w w' := by
  have HLV : Hid (∀ W, Below w.heap.size w W → Calls Tryz.prog 9 #[] W fun e w' => e = .returned (.bool true) ∧ Below w.heap.size w w') := fun W hW => lives_h hW
  have HBS : Hid (Bs w a1 len1 cap1 l1) := w1
  have hcp1 := w1.2.1
  have hcp2 := w1.2.2.1
  clear w1
  by_cases hx : x0 < 2 ∨ 10 < x0
  · have HOB := opened_bad x0 w hx
    have HBX : Hid (Below w.heap.size w w) := Below.refl _ _
    by_cases hx2 : x0 < 2
    · clear hx
      go_enter Tryz.func3, Tryz.ntmps3
      go_wp2_with fail
      refine HOB.mono ?_
      rintro e V ⟨rfl, hV⟩
      subst V
      clear HOB
      go_wp2_with fail
      refine (HLV.out _ HBX.out).mono ?_
      rintro e w9 ⟨rfl, hb9⟩
      have HB9 : Hid (Below w.heap.size w w9) := hb9
      clear hb9
      go_wp2
      go_ret
      exact ⟨rfl, HB9.out⟩
    · have hx3 : 10 < x0 := by omega
      clear hx
      go_enter Tryz.func3, Tryz.ntmps3
      go_wp2_with fail
      refine HOB.mono ?_
      rintro e V ⟨rfl, hV⟩
      subst V
      clear HOB
      go_wp2_with fail
      refine (HLV.out _ HBX.out).mono ?_
      rintro e w9 ⟨rfl, hb9⟩
      have HB9 : Hid (Below w.heap.size w w9) := hb9
      clear hb9
      go_wp2
      go_ret
      exact ⟨rfl, HB9.out⟩
  obtain ⟨n, rfl⟩ := Int.eq_ofNat_of_zero_le (show 0 ≤ x0 by omega)
  have hn2 : 2 ≤ n := by omega
  have hn10 : n ≤ 10 := by omega
  have HOP := opened_any (fun _ => False) n w hn2 hn10 (fun x hx => hx.elim)
  have kx1 : ¬ (n : Int) < 2 := by omega
  have kx2 : ¬ (10 : Int) < (n : Int) := by omega
  clear hx
  go_enter Tryz.func3, Tryz.ntmps3
  go_wp2_with fail
  refine HOP.mono ?_
  rintro e w1 ⟨g, jb, pb, S, rfl, hP1, hjw, hb1⟩
  have HBX : Hid (Below w.heap.size w w1) := hb1
  clear HOP
  by_cases hlen : 3000 < len1
  · have kl : (3000 : Int) < (len1 : Int) := by omega
    clear hP1 hb1
    go_wp2_with fail
    refine (HLV.out _ HBX.out).mono ?_
    rintro e w9 ⟨rfl, hb9⟩
    have HB9 : Hid (Below w.heap.size w w9) := hb9
    clear hb9
    go_wp2
    go_ret
    exact ⟨rfl, HB9.out⟩
  have kl : ¬ (3000 : Int) < (len1 : Int) := by omega
  obtain ⟨_, kb, kc, mb, sa, sc, ss, hPl⟩ := hP1
  obtain ⟨g1, hg1⟩ : ∃ g1, w1.heap.size = g1 := ⟨_, rfl⟩
  have hmk : (Instr.makeSlice 22 (.int .i64 1024) (.int .i64 1024)).run Tryz.prog w1 = .ok (.slice (some ⟨w1.heap.size, 0, none⟩) 1024 1024) (w1.alloc (.cells (u8L (List.replicate 1024 0)).toArray 5)) := make_zero 1024 (by omega) w1
  rw [hg1] at hmk
  obtain ⟨W2, hW2⟩ : ∃ W2, w1.alloc (.cells (u8L (List.replicate 1024 0)).toArray 5) = W2 := ⟨_, rfl⟩
  rw [hW2] at hmk
  have hr2 : W2.heap[g1]? = some (.cells (u8L (List.replicate 1024 0)).toArray 5 (0, 0)) := by rw [← hW2, ← hg1]; exact heap_alloc_new w1 _
  have hb2 : Below g1 w1 W2 := by rw [← hW2, ← hg1]; exact (Below.refl _ w1).alloc (Nat.le_refl _) _
  have hb02 : Below w.heap.size w W2 := hb1.trans (hb2.mono (by rw [← hg1]; exact hb1.size))
  obtain ⟨L, kk0, W3, hLL, hcp, hr3, hu3⟩ := copy_bs (HBS.out.on hb02) hr2
  have hb3 : Below g1 w1 W3 := hb2.trans (hu3.below (by have := lt_of_some hr2; omega) (fun k hk => by rw [show k = g1 from hk]; exact Nat.le_refl _))
  obtain ⟨T, hT⟩ : ∃ T, strOf L = T := ⟨_, rfl⟩
  have HTL : Hid (T.data.toList = L ∧ T.size = 1024) := by
    rw [← hT]
    exact ⟨rfl, by rw [strOf_size]; exact hLL⟩
  have HCV : Hid (∀ W : World, W.heap[g1]? = some (.cells (u8L L).toArray 5 (0, 0)) → (convert 22 9 (.slice (some ⟨g1, 0, none⟩) 1024 1024)).run Tryz.prog W = .ok (.string T) W) := fun W hW => by
    rw [← hT]
    exact conv_u8 W g1 _ _ _ hW 1024 hLL
  have hcv3 := HCV.out W3 hr3
  obtain ⟨g3, hg3⟩ : ∃ g3, W3.heap.size = g3 := ⟨_, rfl⟩
  obtain ⟨W4, hW4⟩ : ∃ W4, W3.alloc (.cells #[.int .i64 0, .string T] 32) = W4 := ⟨_, rfl⟩
  have hr4 : W4.heap[g3]? = some (.cells #[.int .i64 0, .string T] 32 (0, 0)) := by rw [← hW4, ← hg3]; exact heap_alloc_new W3 _
  have hgl : g1 < g3 := by rw [← hg3]; exact lt_of_some hr3
  have hs4 : W4.heap.size = g3 + 1 := by rw [← hW4, ← hg3]; simp
  have hr41 : W4.heap[g1]? = some (.cells (u8L L).toArray 5 (0, 0)) := by rw [← hW4, Below.heap_alloc _ _ _ (by omega)]; exact hr3
  have hb4 : Below g1 w1 W4 := by rw [← hW4]; exact hb3.alloc (by omega) _
  have hb41 : Below w1.heap.size w1 W4 := by rw [hg1]; exact hb4
  have hG := Good.new n
  have hG0 : Good n (dk0 n) := hG
  have hCi : Ci W4 (some ⟨g3, 0, none⟩) 1 1 [(0, T)] := by
    refine ⟨rfl, Nat.le_refl _, by omega, fun _ => ⟨g3, 0, rfl, by omega, fun i hi => ?_⟩⟩
    have : i = 0 := by simp at hi; omega
    subst this
    exact ⟨by rw [cell_of_row W4 g3 _ _ _ _ hr4]; rfl, by rw [cell_of_row W4 g3 _ _ _ _ hr4]; rfl⟩
  have HCM := commit_any (hPl.disk.below hb41) (hPl.jat.below hb41) hPl.sj (by omega) (by rw [hG0.ln]; exact Nat.le_refl _) (some ⟨g3, 0, none⟩) 1 1 [(0, T)] hCi (fun x hx => by cases hx; show g3 < _; omega) (by omega) (by have : (dk0 n).writes = 0 := rfl; omega)
  obtain ⟨hc1, hG2, hpg⟩ := com_one hG0 (by omega) (by omega) T HTL.out.2
  obtain ⟨D2, hD2⟩ : ∃ D2, comDisk n (dk0 n) [(0, T)] = D2 := ⟨_, rfl⟩
  rw [hc1, hD2] at HCM
  rw [hD2] at hG2 hpg
  have HCM : Calls Tryz.prog 10 #[.pointer (some ⟨jb, 0, none⟩), .slice (some ⟨g3, 0, none⟩) 1 1] W4 fun e w' => e = .returned (.int .i64 0) ∧ Mut S W4 g D2 w' := HCM
  have H4 : Hid (Good n D2 ∧ pgOf n D2 0 = T ∧ Below w.heap.size w W4 ∧ W4.heap[g1]? = some (.cells (u8L L).toArray 5 (0, 0)) ∧ Jat W4 jb g n ∧ ¬ S jb ∧ (∀ x, S x → w.heap.size ≤ x) ∧ ¬ S g1 ∧ g1 ≠ jb ∧ w.heap.size ≤ g1) := by
    have hjl := hPl.jat.lt
    refine ⟨hG2, hpg, hb1.trans (hb4.mono (by rw [← hg1]; exact hb1.size)), hr41, hPl.jat.below hb41, hPl.sj, hPl.h0S, fun hs => ?_, fun e => ?_, by rw [← hg1]; exact hb1.size⟩
    · have := hPl.disk.bd _ hs; omega
    · omega
  have HLL : Hid (L.length = 1024) := hLL
  clear hPl hb1 hr2 hb2 hb02 hr3 hu3 hb3 hr4 hr41 hb4 hb41 hG hG0 hCi hc1 hG2 hpg hD2 hT hLL HBX
  go_wp2_with fail
  refine HCM.mono ?_
  rintro e w5 ⟨rfl, S5, hd5, hu5, hs5⟩
  obtain ⟨hG2, hpg, hb4, hr41, hj4, hSj, hSw, hSg, hgj, hwg⟩ := H4.out
  have hlt1 := lt_of_some hr41
  have hnS5 : ∀ x, x < W4.heap.size → ¬ S x → ¬ S5 x := fun x hx hn hs' => (hs5 x hs').elim hn (fun e => by omega)
  have hb5 : Below w.heap.size w w5 := hb4.trans (hu5.below hb4.size hSw)
  have hr5 : w5.heap[g1]? = some (.cells (u8L L).toArray 5 (0, 0)) := (hu5.block g1 hlt1 hSg).trans hr41
  have hS5 : ∀ x, S5 x → w.heap.size ≤ x := fun x hx => (hs5 x hx).elim (hSw x) (fun e => Nat.le_trans hb4.size e)
  have HPO := popen_any (h0 := w.heap.size) (F := fun x => x = g1) hd5 (hj4.upd hu5 hSj) hG2.asks hn2 (by omega) (hnS5 jb hj4.lt hSj) hS5 hb5.size (fun x hx => by rw [show x = g1 from hx]; exact ⟨hnS5 g1 hlt1 hSg, hgj, lt_of_some hr5⟩)
  rw [hpg, HTL.out.1] at HPO
  have H5 : Hid (Below w.heap.size w w5 ∧ w5.heap[g1]? = some (.cells (u8L L).toArray 5 (0, 0)) ∧ Good n D2) := ⟨hb5, hr5, hG2⟩
  have HRI := fun W : World => rright_any T n W HTL.out.2 hn2 (by omega)
  rw [HTL.out.1] at HRI
  clear HCM hd5 hu5 hs5 H4 hG2 hpg hb4 hr41 hj4 hSj hSw hSg hgj hwg hlt1 hnS5 hb5 hr5 hS5 hcp hmk hcv3 hW2 hW4 hs4 hgl
  cases hpr : parseH n L with
  | none =>
    rw [hpr] at HPO HRI
    have HPO : Calls Tryz.prog 11 #[.pointer (some ⟨jb, 0, none⟩)] w5 fun e w' => e = .returned (.tuple #[.pointer none, .int .i64 4]) ∧ Below w5.heap.size w5 w' := HPO
    have HRI : Hid (∀ W : World, Calls Tryz.prog 12 #[.string T, .int .i64 (n : Int)] W fun e w' => e = .returned (.bool false) ∧ Below W.heap.size W w') := HRI
    clear hpr
    go_wp2_with fail
    refine HPO.mono ?_
    rintro e w6 ⟨rfl, hb6⟩
    have hr6 := (hb6.block g1 (lt_of_some H5.out.2.1)).trans H5.out.2.1
    have hcv6 := HCV.out w6 hr6
    have HR6 := HRI.out w6
    have HB6 : Hid (Below w.heap.size w w6) := H5.out.1.trans (hb6.mono H5.out.1.size)
    clear HPO hb6 hr6 HRI H5
    go_wp2_with fail
    refine HR6.mono ?_
    rintro e w7 ⟨rfl, hb7⟩
    have HBX : Hid (Below w.heap.size w w7) := HB6.out.trans (hb7.mono HB6.out.size)
    clear HR6 hb7 HB6 hcv6
    go_wp2_with fail
    refine (HLV.out _ HBX.out).mono ?_
    rintro e w9 ⟨rfl, hb9⟩
    have HB9 : Hid (Below w.heap.size w w9) := hb9
    clear hb9
    go_wp2
    go_ret
    exact ⟨rfl, HB9.out⟩
  | some G =>
    rw [hpr] at HPO HRI
    obtain ⟨hok, htx⟩ := parse_ok (by omega) (by omega) hpr
    have HRI : Hid (∀ W : World, Calls Tryz.prog 12 #[.string T, .int .i64 (n : Int)] W fun e w' => e = .returned (.bool true) ∧ Below W.heap.size W w') := HRI
    have HOK : Hid (G.Ok n ∧ (L = zeroL ∧ G = newHd n ∨ G.text = L)) := ⟨hok, htx⟩
    clear hpr hok htx
    go_wp2_with fail
    refine HPO.mono ?_
    rintro e w6 ⟨pb2, rfl, hpb2, hP6, hb6⟩
    have hr6 := (hb6.block g1 (lt_of_some H5.out.2.1)).trans H5.out.2.1
    have hcv6 := HCV.out w6 hr6
    have HR6 := HRI.out w6
    have H6 : Hid (Below w.heap.size w w6 ∧ w6.heap[g1]? = some (.cells (u8L L).toArray 5 (0, 0)) ∧ Pgr w.heap.size (fun x => x = g1) w6 S5 g D2 pb2 jb n (pxOf n D2 G)) := ⟨H5.out.1.trans (hb6.mono H5.out.1.size), hr6, hP6⟩
    clear HPO hb6 hr6 HRI hP6 hpb2
    go_wp2_with fail
    refine HR6.mono ?_
    rintro e w7 ⟨rfl, hb7⟩
    have hP7 := H6.out.2.2.below hb7
    have HSA := pstate_any hP7 H5.out.2.2.asks
    have H7 : Hid (Below w.heap.size w w7 ∧ w7.heap[g1]? = some (.cells (u8L L).toArray 5 (0, 0))) := ⟨H6.out.1.trans (hb7.mono H6.out.1.size), (hb7.block g1 (lt_of_some H6.out.2.1)).trans H6.out.2.1⟩
    clear HR6 hb7 hcv6 H6 hP7
    go_wp2_with fail
    refine HSA.mono ?_
    rintro e V7 ⟨ua, uc, da, dc, rfl, hu8, hd8, hb8⟩
    obtain ⟨ub, rfl⟩ : ∃ ub, ua = some ⟨ub, 0, none⟩ := by
      rcases hu8.2 with ⟨h1, h2⟩ | ⟨g', cap', cur, e1, hb0, _⟩
      · omega
      · cases e1
        exact ⟨g', rfl⟩
    obtain ⟨C, hC⟩ : ∃ C, V7.heap.size = C := ⟨_, rfl⟩
    have eG : (pxOf n D2 G).now.h = G := rfl
    obtain ⟨rs, hrs⟩ : ∃ rs, rsA (.slice (some ⟨ub, 0, none⟩) n uc) (.slice da n dc) (pxOf n D2 G).now.h.root (pxOf n D2 G).now.h.ser = rs := ⟨_, rfl⟩
    rw [hrs]
    have hrsz : rs.size = 7 := by rw [← hrs]; rfl
    obtain ⟨W71, hW71⟩ : ∃ W, V7.alloc (.cells #[.slice none 0 0, .slice none 0 0, .int .i64 0, .int .i64 0, .int .i64 0, .int .i64 0, .int .u64 0] 42) = W := ⟨_, rfl⟩
    have hr71 : W71.heap[C]? = some (.cells #[.slice none 0 0, .slice none 0 0, .int .i64 0, .int .i64 0, .int .i64 0, .int .i64 0, .int .u64 0] 42 (0, 0)) := by rw [← hW71, ← hC]; exact heap_alloc_new V7 _
    have hst := store_rs W71 C (.slice (some ⟨ub, 0, none⟩) n uc) (.slice da n dc) (pxOf n D2 G).now.h.root (pxOf n D2 G).now.h.ser _ _ hr71 rfl rfl rfl
    rw [hrs] at hst
    obtain ⟨V8, hV8⟩ : ∃ V8, W71.setRow C rs = V8 := ⟨_, rfl⟩
    rw [hV8] at hst
    have hr8 : V8.heap[C]? = some (.cells rs 42 (0, 0)) := by rw [← hV8]; exact setRow_heap W71 C _ _ _ _ hr71
    have hb78 : Below V7.heap.size V7 V8 := by
      rw [← hV8, ← hW71]
      exact setRow_below ((Below.refl _ V7).alloc (Nat.le_refl _) _) (by rw [hC]; exact Nat.le_refl _) _
    have hu9 : V8.drew.ownsRow w7.heap.size 4 1 (.slice (some ⟨ub, 0, none⟩) n uc) n (boolsV G.u) := by
      have e : (pxOf n D2 G).usedL n = G.u := by
        apply List.ext_getElem?
        intro j
        unfold Px.usedL
        by_cases hj : j < n
        · rw [List.getElem?_map, List.getElem?_range hj]
          show some (G.has j) = _
          unfold Hd.has
          rw [List.getD_eq_getElem?_getD, List.getElem?_eq_getElem (by rw [HOK.out.1.len]; exact hj)]
          rfl
        · rw [List.getElem?_eq_none (by simp; omega), List.getElem?_eq_none (by rw [HOK.out.1.len]; omega)]
      rw [e] at hu8
      exact own_keep hu8 (fun k hk => hb78.block k (hu8.lt k hk).2)
    have HBY := rbytes_any G n ub uc w7.heap.size (.slice da n dc) V8.drew HOK.out.1.len (by omega) (by omega) (fun k hk => by have := (HOK.out.1.k k hk).1; omega) (by have := HOK.out.1.ser; omega) hu9
    have ers : rsH (.slice (some ⟨ub, 0, none⟩) n uc) (.slice da n dc) G = rs := hrs
    rw [ers] at HBY
    have H8 : Hid (V8.heap[g1]? = some (.cells (u8L L).toArray 5 (0, 0)) ∧ V8.heap[C]? = some (.cells rs 42 (0, 0)) ∧ Below w.heap.size w V8) := by
      have h1 := H7.out.1.size
      have h2 := hb8.size
      exact ⟨(hb78.block g1 (Nat.lt_of_lt_of_le (lt_of_some H7.out.2) h2)).trans ((hb8.block g1 (lt_of_some H7.out.2)).trans H7.out.2), hr8, (H7.out.1.trans (hb8.mono h1)).trans (hb78.mono (by omega))⟩
    have hlr := load_rs V8 C _ _ _ hr8 hrsz
    rcases HOK.out.2 with ⟨hz, hgn⟩ | htx
    · have HC6 : Hid (∀ W : World, W.heap[C]? = some (.cells rs 42 (0, 0)) → W.cell? ⟨C, 6, none⟩ = some (.int .u64 0)) := fun W hW => by
        rw [cell_of_row W C _ _ _ _ hW, ← ers, hgn]
        rfl
      have hne2 : ¬ strOf G.text = T := fun e => by
        have e2 : (strOf G.text).data.toList = T.data.toList := by rw [e]
        rw [HTL.out.1, hz] at e2
        exact magic_ne G e2
      have ht2 := str_nb hne2
      have hne3 := str_ne hne2
      obtain ⟨tx, htx⟩ : ∃ tx, strOf G.text = tx := ⟨_, rfl⟩
      rw [htx] at HBY ht2 hne3
      clear hu8 hd8 hb8 hr71 hr8 hb78 hu9 hrs ers hne2 htx HSA H7 HOK eG
      go_wp2
      refine wp_region_held_drew (S := fun W => W.heap[g1]? = some (.cells (u8L L).toArray 5 (0, 0)) ∧ W.heap[C]? = some (.cells rs 42 (0, 0))) (by kernel_rfl) (⟨H8.out.1, H8.out.2.1⟩) (fun hHeld => ?_)
      refine wpAnyH_take (i := 2) (v := ?vb_2) rfl (by kernel_rfl) (by kernel_rfl) (by kernel_rfl) (fun _ _ _ h => h) (Or.inl ⟨by first | kernel_rfl | rfl, ?yb_2⟩) hHeld ?rb_2
      case yb_2 => (intro W hSW; (try dsimp only at hSW); go_simp; (try with_reducible rfl))
      change wpAnyH _ _ _ _ _ _ _ (Act.put _ (some 78) _) _
      simp only [Act.put, List.setIfInBounds_toArray, List.set_cons_zero, List.set_cons_succ]
      refine wpAnyH_take (i := 0) (v := .agg rs) rfl (by kernel_rfl) (by kernel_rfl) (by kernel_rfl) (fun _ _ _ h => h) (Or.inl ⟨by first | kernel_rfl | rfl, ?yb_0⟩) hHeld ?rb_0
      case yb_0 => (intro W hSW; exact yields_at _ _ rfl rfl (load_rs W C _ _ _ hSW.2 hrsz))
      change wpAnyH _ _ _ _ _ _ _ (Act.put _ (some 76) _) _
      simp only [Act.put, List.setIfInBounds_toArray, List.set_cons_zero, List.set_cons_succ]
      refine wpAnyH_take (i := 3) (v := .string T) rfl (by kernel_rfl) (by kernel_rfl) (by kernel_rfl) (fun _ _ _ h => h) (Or.inl ⟨by first | kernel_rfl | rfl, ?yb_3⟩) hHeld ?rb_3
      case yb_3 => (intro W hSW; have hcv := HCV.out W hSW.1; go_simp; (try with_reducible rfl))
      change wpAnyH _ _ _ _ _ _ _ (Act.put _ (some 79) _) _
      simp only [Act.put, List.setIfInBounds_toArray, List.set_cons_zero, List.set_cons_succ]
      refine wpAnyH_ready (rs := [1]) (by kernel_rfl) (by simp) ?_
      refine AllReadyH.cons rfl (fun K hK => ?_) AllReadyH.nil
      go_simp
      refine (HBY).mono ?_
      rintro e V9 ⟨rfl, hV9⟩
      refine hK.out _ _ (⟨(hV9.block g1 (lt_of_some H8.out.1)).trans H8.out.1, (hV9.block C (lt_of_some H8.out.2.1)).trans H8.out.2.1⟩) (fun hHeld => ?_)
      clear hK K
      try simp only [Act.put, List.setIfInBounds_toArray, List.set_cons_zero, List.set_cons_succ]
      have H9 : Hid (V9.heap[g1]? = some (.cells (u8L L).toArray 5 (0, 0)) ∧ V9.heap[C]? = some (.cells rs 42 (0, 0)) ∧ Below w.heap.size w V9) := ⟨(hV9.block g1 (lt_of_some H8.out.1)).trans H8.out.1, (hV9.block C (lt_of_some H8.out.2.1)).trans H8.out.2.1, (below_drew H8.out.2.2).trans (hV9.mono (show w.heap.size ≤ V8.heap.size from H8.out.2.2.size))⟩
      clear hV9
      refine wpAnyH_take (i := 4) (v := .bool false) rfl (by kernel_rfl) (by kernel_rfl) (by kernel_rfl) (fun _ _ _ h => h) (Or.inl ⟨by first | kernel_rfl | rfl, ?yb_4⟩) hHeld ?rb_4
      case yb_4 => (intro W hSW; go_simp; (try with_reducible rfl))
      change wpAnyH _ _ _ _ _ _ _ (Act.put _ (some 80) _) _
      simp only [Act.put, List.setIfInBounds_toArray, List.set_cons_zero, List.set_cons_succ]
      refine wpAnyH_take (i := 5) (v := .bool false) rfl (by kernel_rfl) (by kernel_rfl) (by kernel_rfl) (fun _ _ _ h => h) (Or.inl ⟨by first | kernel_rfl | rfl, ?yb_5⟩) hHeld ?rb_5
      case yb_5 => (intro W hSW; go_simp; (try with_reducible rfl))
      change wpAnyH _ _ _ _ _ _ _ (Act.put _ (some 81) _) _
      simp only [Act.put, List.setIfInBounds_toArray, List.set_cons_zero, List.set_cons_succ]
      refine wpAnyH_take (i := 6) (v := ?vb_6) rfl (by kernel_rfl) (by kernel_rfl) (by kernel_rfl) (fun _ _ _ h => h) (Or.inl ⟨by first | kernel_rfl | rfl, ?yb_6⟩) hHeld ?rb_6
      case yb_6 => (intro W hSW; (try dsimp only at hSW); go_simp; (try with_reducible rfl))
      change wpAnyH _ _ _ _ _ _ _ (Act.put _ (some 82) _) _
      simp only [Act.put, List.setIfInBounds_toArray, List.set_cons_zero, List.set_cons_succ]
      refine wpAnyH_take (i := 7) (v := .int .u64 0) rfl (by kernel_rfl) (by kernel_rfl) (by kernel_rfl) (fun _ _ _ h => h) (Or.inl ⟨by first | kernel_rfl | rfl, ?yb_7⟩) hHeld ?rb_7
      case yb_7 => (intro W hSW; have c6 := HC6.out W hSW.2; go_simp; (try with_reducible rfl))
      change wpAnyH _ _ _ _ _ _ _ (Act.put _ (some 83) _) _
      simp only [Act.put, List.setIfInBounds_toArray, List.set_cons_zero, List.set_cons_succ]
      refine wpAnyH_take (i := 8) (v := .bool true) rfl (by kernel_rfl) (by kernel_rfl) (by kernel_rfl) (fun _ _ _ h => h) (Or.inl ⟨by first | kernel_rfl | rfl, ?yb_8⟩) hHeld ?rb_8
      case yb_8 => (intro W hSW; go_simp; (try with_reducible rfl))
      change wpAnyH _ _ _ _ _ _ _ (Act.put _ (some 84) _) _
      simp only [Act.put, List.setIfInBounds_toArray, List.set_cons_zero, List.set_cons_succ]
      refine wpAnyH_take (i := 9) (v := .bool true) rfl (by kernel_rfl) (by kernel_rfl) (by kernel_rfl) (fun _ _ _ h => h) (Or.inl ⟨by first | kernel_rfl | rfl, ?yb_9⟩) hHeld ?rb_9
      case yb_9 => (intro W hSW; go_simp; (try with_reducible rfl))
      change wpAnyH _ _ _ _ _ _ _ (Act.put _ (some 85) _) _
      simp only [Act.put, List.setIfInBounds_toArray, List.set_cons_zero, List.set_cons_succ]
      refine wpAnyH_take (i := 10) (v := .bool true) rfl (by kernel_rfl) (by kernel_rfl) (by kernel_rfl) (fun _ _ _ h => h) (Or.inl ⟨by first | kernel_rfl | rfl, ?yb_10⟩) hHeld ?rb_10
      case yb_10 => (intro W hSW; go_simp; (try with_reducible rfl))
      change wpAnyH _ _ _ _ _ _ _ (Act.put _ (some 86) _) _
      simp only [Act.put, List.setIfInBounds_toArray, List.set_cons_zero, List.set_cons_succ]
      refine wpAnyH_ready (rs := [11]) (by kernel_rfl) (by simp) ?_
      refine AllReadyH.cons rfl (fun K hK => ?_) AllReadyH.nil
      go_simp
      refine (lives_any V9).mono ?_
      rintro e w9 ⟨rfl, hb9⟩
      refine hK.out _ _ (⟨(hb9.block g1 (lt_of_some H9.out.1)).trans H9.out.1, (hb9.block C (lt_of_some H9.out.2.1)).trans H9.out.2.1⟩) (fun hHeld => ?_)
      clear hK K
      try simp only [Act.put, List.setIfInBounds_toArray, List.set_cons_zero, List.set_cons_succ]
      have HB9 : Hid (Below w.heap.size w w9) := H9.out.2.2.trans (hb9.mono H9.out.2.2.size)
      clear hb9
      refine wpAnyH_take (i := 12) (v := ?vb_12) rfl (by kernel_rfl) (by kernel_rfl) (by kernel_rfl) (fun _ _ _ h => h) (Or.inl ⟨by first | kernel_rfl | rfl, ?yb_12⟩) hHeld ?rb_12
      case yb_12 => (intro W hSW; (try dsimp only at hSW); go_simp; (try with_reducible rfl))
      change wpAnyH _ _ _ _ _ _ _ (Act.put _ (some 88) _) _
      simp only [Act.put, List.setIfInBounds_toArray, List.set_cons_zero, List.set_cons_succ]
      refine wpAnyH_take (i := 13) (v := ?vb_13) rfl (by kernel_rfl) (by kernel_rfl) (by kernel_rfl) (fun _ _ _ h => h) (Or.inl ⟨by first | kernel_rfl | rfl, ?yb_13⟩) hHeld ?rb_13
      case yb_13 => (intro W hSW; (try dsimp only at hSW); go_simp; (try with_reducible rfl))
      change wpAnyH _ _ _ _ _ _ _ (Act.put _ (some 4) _) _
      simp only [Act.put, List.setIfInBounds_toArray, List.set_cons_zero, List.set_cons_succ]
      refine wpAnyH_done (by kernel_rfl) ?_ _
      go_wp2
      go_ret
      exact ⟨rfl, HB9.out⟩
    · have e2 : strOf G.text = T := by
        rw [htx]
        have := HTL.out.1
        rw [← this]
        rfl
      rw [e2] at HBY
      clear hu8 hd8 hb8 hr71 hr8 hb78 hu9 hrs ers e2 HSA H7 HOK eG htx
      go_wp2
      refine wp_region_held_drew (S := fun W => W.heap[g1]? = some (.cells (u8L L).toArray 5 (0, 0)) ∧ W.heap[C]? = some (.cells rs 42 (0, 0))) (by kernel_rfl) (⟨H8.out.1, H8.out.2.1⟩) (fun hHeld => ?_)
      refine wpAnyH_take (i := 2) (v := ?v2) rfl (by kernel_rfl) (by kernel_rfl) (by kernel_rfl) (fun _ _ _ h => h) (Or.inl ⟨by first | kernel_rfl | rfl, ?y2⟩) hHeld ?r2
      case y2 => (intro W hSW; (try dsimp only at hSW); go_simp; (try with_reducible rfl))
      change wpAnyH _ _ _ _ _ _ _ (Act.put _ (some 78) _) _
      simp only [Act.put, List.setIfInBounds_toArray, List.set_cons_zero, List.set_cons_succ]
      refine wpAnyH_take (i := 0) (v := .agg rs) rfl (by kernel_rfl) (by kernel_rfl) (by kernel_rfl) (fun _ _ _ h => h) (Or.inl ⟨by first | kernel_rfl | rfl, ?y0⟩) hHeld ?r0
      case y0 => (intro W hSW; exact yields_at _ _ rfl rfl (load_rs W C _ _ _ hSW.2 hrsz))
      change wpAnyH _ _ _ _ _ _ _ (Act.put _ (some 76) _) _
      simp only [Act.put, List.setIfInBounds_toArray, List.set_cons_zero, List.set_cons_succ]
      refine wpAnyH_take (i := 3) (v := .string T) rfl (by kernel_rfl) (by kernel_rfl) (by kernel_rfl) (fun _ _ _ h => h) (Or.inl ⟨by first | kernel_rfl | rfl, ?y3⟩) hHeld ?r3
      case y3 => (intro W hSW; have hcv := HCV.out W hSW.1; go_simp; (try with_reducible rfl))
      change wpAnyH _ _ _ _ _ _ _ (Act.put _ (some 79) _) _
      simp only [Act.put, List.setIfInBounds_toArray, List.set_cons_zero, List.set_cons_succ]
      refine wpAnyH_ready (rs := [1]) (by kernel_rfl) (by simp) ?_
      refine AllReadyH.cons rfl (fun K hK => ?_) AllReadyH.nil
      go_simp
      refine (HBY).mono ?_
      rintro e V9 ⟨rfl, hV9⟩
      refine hK.out _ _ (⟨(hV9.block g1 (lt_of_some H8.out.1)).trans H8.out.1, (hV9.block C (lt_of_some H8.out.2.1)).trans H8.out.2.1⟩) (fun hHeld => ?_)
      clear hK K
      try simp only [Act.put, List.setIfInBounds_toArray, List.set_cons_zero, List.set_cons_succ]
      have H9 : Hid (V9.heap[g1]? = some (.cells (u8L L).toArray 5 (0, 0)) ∧ V9.heap[C]? = some (.cells rs 42 (0, 0)) ∧ Below w.heap.size w V9) := ⟨(hV9.block g1 (lt_of_some H8.out.1)).trans H8.out.1, (hV9.block C (lt_of_some H8.out.2.1)).trans H8.out.2.1, (below_drew H8.out.2.2).trans (hV9.mono (show w.heap.size ≤ V8.heap.size from H8.out.2.2.size))⟩
      clear hV9
      refine wpAnyH_take (i := 4) (v := .bool true) rfl (by kernel_rfl) (by kernel_rfl) (by kernel_rfl) (fun _ _ _ h => h) (Or.inl ⟨by first | kernel_rfl | rfl, ?y4⟩) hHeld ?r4
      case y4 => (intro W hSW; go_simp; (try with_reducible rfl))
      change wpAnyH _ _ _ _ _ _ _ (Act.put _ (some 80) _) _
      simp only [Act.put, List.setIfInBounds_toArray, List.set_cons_zero, List.set_cons_succ]
      refine wpAnyH_take (i := 5) (v := .bool true) rfl (by kernel_rfl) (by kernel_rfl) (by kernel_rfl) (fun _ _ _ h => h) (Or.inl ⟨by first | kernel_rfl | rfl, ?y5⟩) hHeld ?r5
      case y5 => (intro W hSW; go_simp; (try with_reducible rfl))
      change wpAnyH _ _ _ _ _ _ _ (Act.put _ (some 81) _) _
      simp only [Act.put, List.setIfInBounds_toArray, List.set_cons_zero, List.set_cons_succ]
      refine wpAnyH_take (i := 6) (v := undef) rfl (by kernel_rfl) (by kernel_rfl) (by kernel_rfl) (fun _ _ _ h => h) (Or.inr ⟨by first | kernel_rfl | rfl, rfl⟩) hHeld ?_
      change wpAnyH _ _ _ _ _ _ _ (Act.put _ (some 82) _) _
      simp only [Act.put, List.setIfInBounds_toArray, List.set_cons_zero, List.set_cons_succ]
      refine wpAnyH_take (i := 7) (v := undef) rfl (by kernel_rfl) (by kernel_rfl) (by kernel_rfl) (fun _ _ _ h => h) (Or.inr ⟨by first | kernel_rfl | rfl, rfl⟩) hHeld ?_
      change wpAnyH _ _ _ _ _ _ _ (Act.put _ (some 83) _) _
      simp only [Act.put, List.setIfInBounds_toArray, List.set_cons_zero, List.set_cons_succ]
      refine wpAnyH_take (i := 8) (v := undef) rfl (by kernel_rfl) (by kernel_rfl) (by kernel_rfl) (fun _ _ _ h => h) (Or.inr ⟨by first | kernel_rfl | rfl, rfl⟩) hHeld ?_
      change wpAnyH _ _ _ _ _ _ _ (Act.put _ (some 84) _) _
      simp only [Act.put, List.setIfInBounds_toArray, List.set_cons_zero, List.set_cons_succ]
      refine wpAnyH_take (i := 9) (v := .bool true) rfl (by kernel_rfl) (by kernel_rfl) (by kernel_rfl) (fun _ _ _ h => h) (Or.inl ⟨by first | kernel_rfl | rfl, ?y9⟩) hHeld ?r9
      case y9 => (intro W hSW; go_simp; (try with_reducible rfl))
      change wpAnyH _ _ _ _ _ _ _ (Act.put _ (some 85) _) _
      simp only [Act.put, List.setIfInBounds_toArray, List.set_cons_zero, List.set_cons_succ]
      refine wpAnyH_take (i := 10) (v := .bool true) rfl (by kernel_rfl) (by kernel_rfl) (by kernel_rfl) (fun _ _ _ h => h) (Or.inl ⟨by first | kernel_rfl | rfl, ?y10⟩) hHeld ?r10
      case y10 => (intro W hSW; go_simp; (try with_reducible rfl))
      change wpAnyH _ _ _ _ _ _ _ (Act.put _ (some 86) _) _
      simp only [Act.put, List.setIfInBounds_toArray, List.set_cons_zero, List.set_cons_succ]
      refine wpAnyH_ready (rs := [11]) (by kernel_rfl) (by simp) ?_
      refine AllReadyH.cons rfl (fun K hK => ?_) AllReadyH.nil
      go_simp
      refine (lives_any V9).mono ?_
      rintro e w9 ⟨rfl, hb9⟩
      refine hK.out _ _ (⟨(hb9.block g1 (lt_of_some H9.out.1)).trans H9.out.1, (hb9.block C (lt_of_some H9.out.2.1)).trans H9.out.2.1⟩) (fun hHeld => ?_)
      clear hK K
      try simp only [Act.put, List.setIfInBounds_toArray, List.set_cons_zero, List.set_cons_succ]
      have HB9 : Hid (Below w.heap.size w w9) := H9.out.2.2.trans (hb9.mono H9.out.2.2.size)
      clear hb9
      refine wpAnyH_take (i := 12) (v := ?v12) rfl (by kernel_rfl) (by kernel_rfl) (by kernel_rfl) (fun _ _ _ h => h) (Or.inl ⟨by first | kernel_rfl | rfl, ?y12⟩) hHeld ?r12
      case y12 => (intro W hSW; (try dsimp only at hSW); go_simp; (try with_reducible rfl))
      change wpAnyH _ _ _ _ _ _ _ (Act.put _ (some 88) _) _
      simp only [Act.put, List.setIfInBounds_toArray, List.set_cons_zero, List.set_cons_succ]
      refine wpAnyH_take (i := 13) (v := ?v13) rfl (by kernel_rfl) (by kernel_rfl) (by kernel_rfl) (fun _ _ _ h => h) (Or.inl ⟨by first | kernel_rfl | rfl, ?y13⟩) hHeld ?r13
      case y13 => (intro W hSW; (try dsimp only at hSW); go_simp; (try with_reducible rfl))
      change wpAnyH _ _ _ _ _ _ _ (Act.put _ (some 4) _) _
      simp only [Act.put, List.setIfInBounds_toArray, List.set_cons_zero, List.set_cons_succ]
      refine wpAnyH_done (by kernel_rfl) ?_ _
      go_wp2
      go_ret
      exact ⟨rfl, HB9.out⟩

set_option linter.unusedVariables false in
set_option maxRecDepth 100000 in
theorem lifted (os : _root_.Go.Os) (started : os.Started) (H : Type) (enc : TypeId × Value → H) :
    ReturnsInHanded {} Tryz.checked os 3 .any (Rows.pagerHeadsSpec.pre6 enc Tryz.prog Tryz.f3 Rows.pagerHeadsRow.domain false) (Rows.pagerHeadsSpec.post enc Tryz.prog Tryz.f3 false true false false) := by
  refine returnsInHanded_of_change (C := Tryz.checked) own started (by kernel_rfl) Tryz.func3
    (ChangeSpec.witness6 (enc := enc) (C := Tryz.checked) false ⟨#[], #[.int .i64 0, .slice none 0 0], []⟩ 8 (by kernel_rfl) (by kernel_rfl) (by kernel_rfl) (by kernel_rfl)) ?_
  intro W base args ds gs before hval0 hW hcnd _
  have hval : ∀ (j : Nat) t v, Tryz.f3.params[j]? = some t → args[j]? = some v → Value.okWide Tryz.prog W .any base t v := hval0
  have hW' := hW
  obtain ⟨p, q, hA0, hV, rfl, hfz, hnd⟩ := hW
  have hA : DataW.TrodAll enc Tryz.prog W 0 (fun _ => true) true Tryz.f3.params.toList args.toList ds p := hA0
  rw [Tryz.params3] at hA hval
  obtain ⟨v0, vs0, d0, ds0, p0, q0, hargs, rfl, rfl, h0, r0⟩ := trodAll_cons hA
  obtain ⟨v1, vs1, d1, ds1, p1, q1, rfl, rfl, rfl, h1, r1⟩ := trodAll_cons r0
  obtain ⟨rfl, rfl, rfl⟩ := trodAll_nil r1
  obtain rfl : args = #[v0, v1] := by cases args; simp_all
  obtain ⟨rfl, rfl⟩ := trodVars_none hV
  obtain ⟨x0, rfl, rfl, rfl, w0⟩ := open_int Tryz.underlying3 (hval 0 3 v0 rfl rfl) h0
  have k1 := h1
  have lt1 : ∀ x ∈ p1, x.block < W.heap.size := by obtain ⟨m, hm⟩ := k1; exact DataW.trod_lt m _ _ _ hm
  obtain ⟨a1, len1, cap1, rfl⟩ := okWide_slice Tryz.underlying22 (hval 1 22 v1 rfl rfl)
  obtain ⟨l1, w1⟩ : ∃ l, Bs W a1 len1 cap1 l := by
    obtain ⟨fuel, hf⟩ := h1
    exact bs_of (by simpa [Value.cells] using hf)
  clear hA0 hval0
  refine (walk x0 (wf_i64 w0) a1 len1 cap1 l1 W w1).mono fun e W' ⟨he, bel⟩ => ?_
  subst he
  exact ⟨_, rfl, _, _, _, [], _, [], hW', trodAll_mk1 (shut_bool Tryz.underlying4 _), (trodAll_cons_mk (shut_int Tryz.underlying3 w0) (trodAll_cons_mk (Below.trod laidOut (by kernel_rfl) (of_decide_eq_true (by kernel_rfl)) k1 bel lt1) trodAll_mk0)), rfl, bel.frame _, fun h => by cases h⟩

theorem over : Rows.pagerHeadsRow.holds Tryz.pinned (OpenSpec.ofChange Rows.pagerHeadsSpec) :=
  OpenClaim.holds_of_wide 3 Tryz.f3 rfl rfl rfl rfl rfl rfl rfl ⟨rfl, rfl, rfl, rfl, rfl⟩ rfl rfl rfl rfl rfl (by kernel_rfl) Tryz.func3 (by kernel_rfl)
    (of_decide_eq_true (by kernel_rfl)) (by unfold Func.isWrapper; first | (rw [if_pos (by decide +kernel)]; kernel_rfl) | (rw [if_neg (by decide +kernel)]; exact ⟨rfl, rfl⟩))
    (fun os started H enc _ => lifted os started H enc)

end Go.Proofs.YtdgffocmdkadpaaGreat.pagerHeads
namespace Go.Proofs.YtdgffocmdkadpaaGreat
/-- The given statement. -/
theorem pagerHeads_holds : Rows.PagerHeadsSaid := pagerHeads.over
#print axioms pagerHeads_holds
end Go.Proofs.YtdgffocmdkadpaaGreat
