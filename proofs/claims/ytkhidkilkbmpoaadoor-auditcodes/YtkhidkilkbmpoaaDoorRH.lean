/- A walk over the reader's audit. -/
import Derived.Test.YtkhidkilkbmpoaaDoorRG
namespace Go.Proofs.YtkhidkilkbmpoaaDoor
open Go.RowKit
theorem Ex.grown {g : Nat} {a b c : World} {row : Option Nat} (h : Ex g a b) (hg : b.grownBy c row) (hr : ∀ k, row = some k → a.heap.size ≤ k) : Ex g a c := ⟨h.1.grown hg (Nat.zero_le _) (fun _ _ => Nat.zero_le _), fun k hk hne => (hg.block k (Nat.lt_of_lt_of_le hk h.1.size) (fun h9 => by have := hr k h9.symm; omega)).trans (h.2 k hk hne)⟩
/-- What a reader tells of an audit. -/
def RdTo (w : World) (rb : Nat) (a : Option Addr) (len cap : Nat) (x : ByteArray) (n : Nat) (r : List En × Int × Nat) (e : Ending) (w' : World) : Prop := ∃ (a' : Option Addr) (n' c' : Nat), e = .returned (.agg #[.string x, .int .i64 (n : Int), .slice a' n' c']) ∧ w'.ownsRow w.heap.size 36 5 (.slice a' n' c') n' (enR r.1) ∧ w'.heap[rb]? = some (rdR a len cap r.2.1 r.2.2) ∧ Ex rb w w'
set_option maxRecDepth 100000 in
set_option maxHeartbeats 4000000 in
theorem rdaud_any {w : World} {rb : Nat} {a : Option Addr} {len cap : Nat} {bs : List UInt8} {p : Int} {e : Nat} (h : w.heap[rb]? = some (rdR a len cap p e)) (hb : Bs w a len cap bs) (hne : (∀ ad, a = some ad → ad.block ≠ rb) ∨ bs = []) (hp : inP bs p) {t : List UInt8} {n m : Nat} {p1 p2 p3 : Int} {e1 e2 e3 : Nat} (h1 : rdT bs p e 32 = (t, p1, e1)) (h2 : rdN bs p1 e1 = (n, p2, e2)) (h3 : rdN bs p2 e2 = (m, p3, e3)) : Calls Tryd.prog 41 #[.pointer (some ⟨rb, 0, none⟩)] w fun e' w' => RdTo w rb a len cap (baOf t) n (foldE bs p3 e3 (min m 9)) e' w' := by
  have hrl := lt_of_some h
  have i1 := rdT_in (m := 32) (e := e) hp
  rw [h1] at i1
  have i2 := rdN_in (e := e1) i1
  rw [h2] at i2
  have i3 := rdN_in (e := e2) i2
  rw [h3] at i3
  simp only at i1 i2 i3
  obtain ⟨X, hX⟩ : ∃ X, baOf t = X := ⟨_, rfl⟩
  rw [hX]
  obtain ⟨k, hk⟩ : ∃ k, min m 9 = k := ⟨_, rfl⟩
  rw [hk]
  have hmk : min (m : Int) 9 = (k : Int) := by omega
  have hk9 : k ≤ 9 := by omega
  obtain ⟨zb, hzb⟩ : ∃ zb, w.heap.size = zb := ⟨_, rfl⟩
  obtain ⟨V1, hV1, r1, hb1⟩ := box_au 27 (w := w) ⟨#[]⟩ 0 none 0 0
  obtain ⟨tb, htb⟩ : ∃ tb, V1.heap.size = tb := ⟨_, rfl⟩
  obtain ⟨V2, hV2, r2, hb2⟩ := box_au 27 (w := V1) ⟨#[]⟩ 0 none 0 0
  have hq1 : zb + 1 = tb := by rw [← htb, ← hV1, ← hzb]; simp
  rw [hzb] at r1
  rw [htb] at r2
  have rz2 : V2.heap[zb]? = some (.cells #[.string ⟨#[]⟩, .int .i64 0, .slice none 0 0] 27 (0, 0)) := by rw [hb2.block zb (by omega)]; exact r1
  have hB2 : Below w.heap.size w V2 := hb1.trans (hb2.mono hb1.size)
  have x2 : Ex rb w V2 := Ex.of hB2
  have HX : Hid ((∀ W, Ex rb w W → Bs W a len cap bs) ∧ inP bs p3 ∧ ((∀ ad, a = some ad → ad.block ≠ rb) ∨ bs = [])) := ⟨fun W hW => hb.ex hW hne, i3, hne⟩
  have HO : Hid (rb < zb ∧ w.heap.size = zb ∧ zb + 1 = tb) := ⟨by omega, hzb, hq1⟩
  have HT : Calls Tryd.prog 57 #[.pointer (some ⟨rb, 0, none⟩), .int .i64 32] V2 fun e' w' => e' = .returned (.string X) ∧ w'.heap[rb]? = some (rdR a len cap p1 e1) ∧ Ex rb V2 w' := by
    have h9 := rdtext_any 32 (by omega) ((hB2.block rb hrl).trans h) (hb.below hB2) hp
    rw [show ((32 : Nat) : Int) = 32 from rfl, h1] at h9
    simp only at h9
    rw [hX] at h9
    exact h9
  have HNB : Hid (∀ W, W.heap[rb]? = some (rdR a len cap p1 e1) → Ex rb w W → Calls Tryd.prog 58 #[.pointer (some ⟨rb, 0, none⟩)] W fun e' w' => e' = .returned (.int .i64 (n : Int)) ∧ w'.heap[rb]? = some (rdR a len cap p2 e2) ∧ Ex rb W w') := fun W g1 g2 => by
    have h9 := rdnum_any g1 (hb.ex g2 hne) i1
    rw [h2] at h9
    exact h9
  have HNC : Hid (∀ W, W.heap[rb]? = some (rdR a len cap p2 e2) → Ex rb w W → Calls Tryd.prog 58 #[.pointer (some ⟨rb, 0, none⟩)] W fun e' w' => e' = .returned (.int .i64 (m : Int)) ∧ w'.heap[rb]? = some (rdR a len cap p3 e3) ∧ Ex rb W w') := fun W g1 g2 => by
    have h9 := rdnum_any g1 (hb.ex g2 hne) i2
    rw [h3] at h9
    exact h9
  have H2 : Hid (Ex rb w V2 ∧ V2.heap[zb]? = some (.cells #[.string ⟨#[]⟩, .int .i64 0, .slice none 0 0] 27 (0, 0)) ∧ V2.heap[tb]? = some (.cells #[.string ⟨#[]⟩, .int .i64 0, .slice none 0 0] 27 (0, 0))) := ⟨x2, rz2, r2⟩
  clear h hb hne h1 h2 h3 hX hk r1 r2 rz2 hb1 hb2 hB2 x2 i1 i2 i3 hrl hp
  go_enter Tryd.func41, Tryd.ntmps41
  go_wp2_with fail
  refine HT.mono ?_
  rintro e' V3 ⟨rfl, h3, hx3⟩
  have z3 := (hx3.2 zb (lt_of_some H2.out.2.1) (by have := HO.out; omega)).trans H2.out.2.1
  have t3 := (hx3.2 tb (lt_of_some H2.out.2.2) (by have := HO.out; omega)).trans H2.out.2.2
  obtain ⟨k0, _, _, kz⟩ := row3 t3
  have kf := kz 0
  obtain ⟨V4, hV4⟩ : ∃ x, V3.setCell ⟨tb, 0, none⟩ (.string X) = x := ⟨_, rfl⟩
  have t4 : V4.heap[tb]? = some (.cells #[.string X, .int .i64 0, .slice none 0 0] 27 (0, 0)) := by rw [← hV4, heap_setCell_same _ _ _ _ _ _ t3]; rfl
  have o4 : ∀ j, j ≠ tb → V4.heap[j]? = V3.heap[j]? := fun j hj => by rw [← hV4, heap_setCell_other _ _ _ _ hj]
  have x4 : Ex rb w V4 := by rw [← hV4]; exact (H2.out.1.trans hx3).setHi (by have := HO.out; omega) _ _
  have z4 := (o4 zb (by have := HO.out; omega)).trans z3
  have h4 := (o4 rb (by have := HO.out; omega)).trans h3
  have HG := HNB.out V4 h4 x4
  have H4 : Hid (Ex rb w V4 ∧ V4.heap[zb]? = some (.cells #[.string ⟨#[]⟩, .int .i64 0, .slice none 0 0] 27 (0, 0)) ∧ V4.heap[tb]? = some (.cells #[.string X, .int .i64 0, .slice none 0 0] 27 (0, 0))) := ⟨x4, z4, t4⟩
  clear HT h3 hx3 z3 t3 kz t4 o4 x4 z4 h4
  go_wp2_with fail
  refine HG.mono ?_
  rintro e' V5 ⟨rfl, h5, hx5⟩
  clear HG k0 kf
  have z5 := (hx5.2 zb (lt_of_some H4.out.2.1) (by have := HO.out; omega)).trans H4.out.2.1
  have t5 := (hx5.2 tb (lt_of_some H4.out.2.2) (by have := HO.out; omega)).trans H4.out.2.2
  obtain ⟨_, k1, _, kz⟩ := row3 t5
  have kf := kz 1
  obtain ⟨V6, hV6⟩ : ∃ x, V5.setCell ⟨tb, 1, none⟩ (.int .i64 (n : Int)) = x := ⟨_, rfl⟩
  have t6 : V6.heap[tb]? = some (.cells #[.string X, .int .i64 (n : Int), .slice none 0 0] 27 (0, 0)) := by rw [← hV6, heap_setCell_same _ _ _ _ _ _ t5]; rfl
  have o6 : ∀ j, j ≠ tb → V6.heap[j]? = V5.heap[j]? := fun j hj => by rw [← hV6, heap_setCell_other _ _ _ _ hj]
  have x6 : Ex rb w V6 := by rw [← hV6]; exact (H4.out.1.trans hx5).setHi (by have := HO.out; omega) _ _
  have z6 := (o6 zb (by have := HO.out; omega)).trans z5
  have h6 := (o6 rb (by have := HO.out; omega)).trans h5
  have HG := HNC.out V6 h6 x6
  have H6 : Hid (Ex rb w V6 ∧ V6.heap[zb]? = some (.cells #[.string ⟨#[]⟩, .int .i64 0, .slice none 0 0] 27 (0, 0)) ∧ V6.heap[tb]? = some (.cells #[.string X, .int .i64 (n : Int), .slice none 0 0] 27 (0, 0))) := ⟨x6, z6, t6⟩
  clear h5 hx5 z5 t5 kz t6 o6 x6 z6 h6
  go_wp2_with fail
  refine HG.mono ?_
  rintro e' V7 ⟨rfl, h7, hx7⟩
  clear HG k1 kf
  have H7 : Hid (V7.heap[rb]? = some (rdR a len cap (foldE bs p3 e3 0).2.1 (foldE bs p3 e3 0).2.2) ∧ V7.heap[zb]? = some (.cells #[.string ⟨#[]⟩, .int .i64 0, .slice none 0 0] 27 (0, 0)) ∧ V7.heap[tb]? = some (.cells #[.string X, .int .i64 (n : Int), .slice none 0 0] 27 (0, 0)) ∧ V7.ownsRow (tb + 1) 36 5 (.slice none 0 0) 0 (enR (foldE bs p3 e3 0).1) ∧ Ex rb w V7) := ⟨h7, (hx7.2 zb (lt_of_some H6.out.2.1) (by have := HO.out; omega)).trans H6.out.2.1, (hx7.2 tb (lt_of_some H6.out.2.2) (by have := HO.out; omega)).trans H6.out.2.2, World.ownsRow_nil _ _ _ _, H6.out.1.trans hx7⟩
  clear h7 hx7
  go_wp2
  go_loopw [13] (fun v wr => ∃ (i : Nat) (a' : Option Addr) (c' : Nat), i ≤ k ∧ v = .int .i64 i ∧ wr.heap[rb]? = some (rdR a len cap (foldE bs p3 e3 i).2.1 (foldE bs p3 e3 i).2.2) ∧ wr.heap[zb]? = some (.cells #[.string ⟨#[]⟩, .int .i64 0, .slice none 0 0] 27 (0, 0)) ∧ wr.heap[tb]? = some (.cells #[.string X, .int .i64 (n : Int), .slice a' i c'] 27 (0, 0)) ∧ wr.ownsRow (tb + 1) 36 5 (.slice a' i c') i (enR (foldE bs p3 e3 i).1) ∧ Ex rb w wr) (fun v _ => k - (intOf v).toNat)
  case atStart => exact ⟨0, none, 0, by omega, rfl, H7.out⟩
  case round =>
  obtain ⟨i, a', c', hi, rfl, hr, hz, ht, ho, hex⟩ := hrel
  by_cases hlt : i < k
  · have kk : (i : Int) < (k : Int) := by omega
    have ipi := foldE_in (e := e3) HX.out.2.1 i
    obtain ⟨l, q, ei, hf⟩ : ∃ l q e, foldE bs p3 e3 i = (l, q, e) := ⟨_, _, _, rfl⟩
    rw [hf] at hr ho ipi
    simp only at hr ho ipi
    obtain ⟨⟨g0, g1, g2, g3, g4⟩, q', ei', hC⟩ : ∃ c r e, rdE bs q ei = (c, r, e) := ⟨_, _, _, rfl⟩
    have hf2 : foldE bs p3 e3 (i + 1) = (l ++ [⟨g0, g1, g2, g3, g4⟩], q', ei') := by
      show ((foldE bs p3 e3 i).1 ++ [(rdE bs (foldE bs p3 e3 i).2.1 (foldE bs p3 e3 i).2.2).1], (rdE bs (foldE bs p3 e3 i).2.1 (foldE bs p3 e3 i).2.2).2) = _
      rw [hf]
      simp only
      rw [hC]
    have HCC : Hid (Calls Tryd.prog 59 #[.pointer (some ⟨rb, 0, none⟩)] wr.drew fun e' w' => e' = .returned (.agg #[.int .i64 g0, .int .i64 g1, .int .i64 g2, .string g3, .int .i64 g4]) ∧ w'.heap[rb]? = some (rdR a len cap q' ei') ∧ Ex rb wr.drew w') := by
      have h9 := rdent_any (w := wr.drew) hr (HX.out.1 wr.drew hex.drew) HX.out.2.2 ipi
      rw [hC] at h9
      exact h9
    obtain ⟨_, _, y2, _⟩ := row3 ht
    have y2d : wr.drew.cell? ⟨tb, 2, none⟩ = some (.slice a' i c') := y2
    have HI : Hid (wr.heap[zb]? = some (.cells #[.string ⟨#[]⟩, .int .i64 0, .slice none 0 0] 27 (0, 0)) ∧ wr.heap[tb]? = some (.cells #[.string X, .int .i64 (n : Int), .slice a' i c'] 27 (0, 0)) ∧ wr.ownsRow (tb + 1) 36 5 (.slice a' i c') i (enR l) ∧ Ex rb w wr ∧ foldE bs p3 e3 (i + 1) = (l ++ [⟨g0, g1, g2, g3, g4⟩], q', ei')) := ⟨hz, ht, ho, hex, hf2⟩
    clear hr hz ht ho hex hf ipi hC hf2
    go_wp2
    refine wp_region_held_drew (S := fun _ => True) (by kernel_rfl) (trivial) (fun hHeld => ?_)
    refine wpAnyH_take (i := 0) (v := ?va_0) rfl (by kernel_rfl) (by kernel_rfl) (by kernel_rfl) (fun _ _ _ h => h) (Or.inl ⟨by first | kernel_rfl | rfl, ?ya_0⟩) hHeld ?ra_0
    case ya_0 => (intro W hSW; (try dsimp only at hSW); go_simp; (try with_reducible rfl))
    change wpAnyH _ _ _ _ _ _ _ (Act.put _ (some 15) _) _
    simp only [Act.put, List.setIfInBounds_toArray, List.set_cons_zero, List.set_cons_succ]
    refine wpAnyH_take (i := 2) (v := ?va_2) rfl (by kernel_rfl) (by kernel_rfl) (by kernel_rfl) (fun _ _ _ h => h) (Or.inl ⟨by first | kernel_rfl | rfl, ?ya_2⟩) hHeld ?ra_2
    case ya_2 => (intro W hSW; (try dsimp only at hSW); go_simp; (try with_reducible rfl))
    change wpAnyH _ _ _ _ _ _ _ (Act.put _ (some 17) _) _
    simp only [Act.put, List.setIfInBounds_toArray, List.set_cons_zero, List.set_cons_succ]
    refine wpAnyH_ready (rs := [1, 3]) (by kernel_rfl) (by simp) ?_
    refine AllReadyH.cons rfl (fun K hK => ?_) (AllReadyH.cons rfl (fun K hK => ?_) AllReadyH.nil)
    · go_simp
      refine hK.out _ _ (trivial) (fun hHeld => ?_)
      clear hK K
      try simp only [Act.put, List.setIfInBounds_toArray, List.set_cons_zero, List.set_cons_succ]
      refine wpAnyH_ready (rs := [3]) (by kernel_rfl) (by simp) ?_
      refine AllReadyH.cons rfl (fun K hK => ?_) AllReadyH.nil
      go_simp
      refine (HCC.out).mono ?_
      rintro e V5 ⟨rfl, h5, x5⟩
      refine hK.out _ _ (trivial) (fun hHeld => ?_)
      clear hK K
      try simp only [Act.put, List.setIfInBounds_toArray, List.set_cons_zero, List.set_cons_succ]
      have t5 : V5.heap[tb]? = some (.cells #[.string X, .int .i64 (n : Int), .slice a' i c'] 27 (0, 0)) := (x5.2 tb (show tb < wr.drew.heap.size from lt_of_some HI.out.2.1) (by have := HO.out; omega)).trans HI.out.2.1
      have z5 : V5.heap[zb]? = some (.cells #[.string ⟨#[]⟩, .int .i64 0, .slice none 0 0] 27 (0, 0)) := (x5.2 zb (show zb < wr.drew.heap.size from lt_of_some HI.out.1) (by have := HO.out; omega)).trans HI.out.1
      have o5 : V5.ownsRow (tb + 1) 36 5 (.slice a' i c') i (enR l) := own_keep HI.out.2.2.1 (fun j hj => by have h9 := HI.out.2.2.1.lt j hj; exact x5.2 j h9.2 (by have := HO.out; omega))
      have b5 : Ex rb w V5 := HI.out.2.2.2.1.drew.trans x5
      have n5 : tb < V5.heap.size := lt_of_some t5
      have y5 : V5.cell? ⟨tb, 2, none⟩ = some (.slice a' i c') := (row3 t5).2.2.1
      obtain ⟨V6, hV6, r6, hb6⟩ := box_en (w := V5) g0 g1 g2 g3 g4
      obtain ⟨g6, hg6⟩ : ∃ g6, V5.heap.size = g6 := ⟨_, rfl⟩
      rw [hg6] at r6
      have t6 := (hb6.block tb n5).trans t5
      have y6 : V6.cell? ⟨tb, 2, none⟩ = some (.slice a' i c') := (row3 t6).2.2.1
      have o6 : V6.ownsRow (tb + 1) 36 5 (.slice a' i c') i (enR l) := own_keep o5 (fun j hj => hb6.block j (o5.lt j hj).2)
      have b6 : Ex rb w V6 := b5.trans (Ex.of hb6)
      obtain ⟨a7, c7, V7, hr7, o7, hg7, _⟩ := addE_own V6 o6 (enRow (p := ⟨g0, g1, g2, g3, g4⟩) r6) (by omega) (by have := hb6.size; omega)
      have ngr : ∀ k, k < V6.heap.size → k ≤ tb → V7.heap[k]? = V6.heap[k]? := fun k hk hkt => hg7.block k hk (fun h9 => by have := (o6.lt k (by rw [ob_slice]; exact h9.symm)).1; omega)
      have t7 := (ngr tb (lt_of_some t6) (by omega)).trans t6
      have z7 := (ngr zb (by have := hb6.size; have := lt_of_some z5; omega) (by have := HO.out; omega)).trans ((hb6.block zb (lt_of_some z5)).trans z5)
      have rr7 := (ngr rb (by have := hb6.size; have := lt_of_some h5; omega) (by have := HO.out; omega)).trans ((hb6.block rb (lt_of_some h5)).trans h5)
      have b7 : Ex rb w V7 := b6.grown hg7 (fun j hj => by have := (o6.lt j (by rw [ob_slice]; exact hj)).1; have := HO.out; omega)
      obtain ⟨_, _, k7, kz⟩ := row3 t7
      have f7 := kz 2
      obtain ⟨V8', hV8'⟩ : ∃ V8', V7.setCell ⟨tb, 2, none⟩ (.slice a7 (i + 1) c7) = V8' := ⟨_, rfl⟩
      have HE : Hid (V8'.heap[rb]? = some (rdR a len cap (foldE bs p3 e3 (i + 1)).2.1 (foldE bs p3 e3 (i + 1)).2.2) ∧ V8'.heap[zb]? = some (.cells #[.string ⟨#[]⟩, .int .i64 0, .slice none 0 0] 27 (0, 0)) ∧ V8'.heap[tb]? = some (.cells #[.string X, .int .i64 (n : Int), .slice a7 (i + 1) c7] 27 (0, 0)) ∧ V8'.ownsRow (tb + 1) 36 5 (.slice a7 (i + 1) c7) (i + 1) (enR (foldE bs p3 e3 (i + 1)).1) ∧ Ex rb w V8') := by
        have o8 : ∀ k, k ≠ tb → V8'.heap[k]? = V7.heap[k]? := fun k hk => by rw [← hV8', heap_setCell_other _ _ _ _ hk]
        have t8 : V8'.heap[tb]? = some (.cells #[.string X, .int .i64 (n : Int), .slice a7 (i + 1) c7] 27 (0, 0)) := by rw [← hV8', heap_setCell_same _ _ _ _ _ _ t7]; rfl
        rw [HI.out.2.2.2.2]
        refine ⟨(o8 rb (by have := HO.out; omega)).trans rr7, (o8 zb (by have := HO.out; omega)).trans z7, t8, own_keep o7 (fun j hj => by have h9 := (o7.lt j hj).1; exact o8 j (by omega)), ?_⟩
        rw [← hV8']
        exact b7.setHi (show w.heap.size ≤ tb by have := HO.out; omega) _ _
      clear h5 x5 t5 z5 o5 b5 n5 r6 hb6 t6 o6 b6 o7 hg7 ngr t7 z7 rr7 b7 kz
      refine wpAnyH_ready (rs := [4]) (by kernel_rfl) (by simp) ?_
      refine AllReadyH.cons rfl (fun K hK => ?_) AllReadyH.nil
      go_simp
      refine hK.out _ _ (trivial) (fun hHeld => ?_)
      clear hK K
      try simp only [Act.put, List.setIfInBounds_toArray, List.set_cons_zero, List.set_cons_succ]
      refine wpAnyH_ready (rs := [5]) (by kernel_rfl) (by simp) ?_
      refine AllReadyH.cons rfl (fun K hK => ?_) AllReadyH.nil
      rw [if_pos (by rfl)]
      refine wp_app V6 _ _ _ _ rfl rfl rfl (hr7 _) ?_
      skip
      refine hK.out _ _ (trivial) (fun hHeld => ?_)
      clear hK K
      change wpAnyH _ _ _ _ _ _ _ (Act.put _ (some 20) _) _
      simp only [Act.put, List.setIfInBounds_toArray, List.set_cons_zero, List.set_cons_succ]
      refine wpAnyH_take (i := 6) (v := ?vb_6) rfl (by kernel_rfl) (by kernel_rfl) (by kernel_rfl) (fun _ _ _ h => h) (Or.inl ⟨by first | kernel_rfl | rfl, ?yb_6⟩) hHeld ?rb_6
      case yb_6 => (intro W hSW; (try dsimp only at hSW); go_simp; (try with_reducible rfl))
      change wpAnyH _ _ _ _ _ _ _ (Act.put _ (some 21) _) _
      simp only [Act.put, List.setIfInBounds_toArray, List.set_cons_zero, List.set_cons_succ]
      refine wpAnyH_ready (rs := [7]) (by kernel_rfl) (by simp) ?_
      refine AllReadyH.cons rfl (fun K hK => ?_) AllReadyH.nil
      go_simp
      refine hK.out _ _ (trivial) (fun hHeld => ?_)
      clear hK K
      refine wpAnyH_done (by kernel_rfl) ?_ _
      go_wp2
      exact ⟨⟨i + 1, a7, c7, by omega, by go_num, HE.out⟩, by simp [intOf]; omega⟩
    · go_simp
      refine (HCC.out).mono ?_
      rintro e V5 ⟨rfl, h5, x5⟩
      refine hK.out _ _ (trivial) (fun hHeld => ?_)
      clear hK K
      try simp only [Act.put, List.setIfInBounds_toArray, List.set_cons_zero, List.set_cons_succ]
      have t5 : V5.heap[tb]? = some (.cells #[.string X, .int .i64 (n : Int), .slice a' i c'] 27 (0, 0)) := (x5.2 tb (show tb < wr.drew.heap.size from lt_of_some HI.out.2.1) (by have := HO.out; omega)).trans HI.out.2.1
      have z5 : V5.heap[zb]? = some (.cells #[.string ⟨#[]⟩, .int .i64 0, .slice none 0 0] 27 (0, 0)) := (x5.2 zb (show zb < wr.drew.heap.size from lt_of_some HI.out.1) (by have := HO.out; omega)).trans HI.out.1
      have o5 : V5.ownsRow (tb + 1) 36 5 (.slice a' i c') i (enR l) := own_keep HI.out.2.2.1 (fun j hj => by have h9 := HI.out.2.2.1.lt j hj; exact x5.2 j h9.2 (by have := HO.out; omega))
      have b5 : Ex rb w V5 := HI.out.2.2.2.1.drew.trans x5
      have n5 : tb < V5.heap.size := lt_of_some t5
      have y5 : V5.cell? ⟨tb, 2, none⟩ = some (.slice a' i c') := (row3 t5).2.2.1
      obtain ⟨V6, hV6, r6, hb6⟩ := box_en (w := V5) g0 g1 g2 g3 g4
      obtain ⟨g6, hg6⟩ : ∃ g6, V5.heap.size = g6 := ⟨_, rfl⟩
      rw [hg6] at r6
      have t6 := (hb6.block tb n5).trans t5
      have y6 : V6.cell? ⟨tb, 2, none⟩ = some (.slice a' i c') := (row3 t6).2.2.1
      have o6 : V6.ownsRow (tb + 1) 36 5 (.slice a' i c') i (enR l) := own_keep o5 (fun j hj => hb6.block j (o5.lt j hj).2)
      have b6 : Ex rb w V6 := b5.trans (Ex.of hb6)
      obtain ⟨a7, c7, V7, hr7, o7, hg7, _⟩ := addE_own V6 o6 (enRow (p := ⟨g0, g1, g2, g3, g4⟩) r6) (by omega) (by have := hb6.size; omega)
      have ngr : ∀ k, k < V6.heap.size → k ≤ tb → V7.heap[k]? = V6.heap[k]? := fun k hk hkt => hg7.block k hk (fun h9 => by have := (o6.lt k (by rw [ob_slice]; exact h9.symm)).1; omega)
      have t7 := (ngr tb (lt_of_some t6) (by omega)).trans t6
      have z7 := (ngr zb (by have := hb6.size; have := lt_of_some z5; omega) (by have := HO.out; omega)).trans ((hb6.block zb (lt_of_some z5)).trans z5)
      have rr7 := (ngr rb (by have := hb6.size; have := lt_of_some h5; omega) (by have := HO.out; omega)).trans ((hb6.block rb (lt_of_some h5)).trans h5)
      have b7 : Ex rb w V7 := b6.grown hg7 (fun j hj => by have := (o6.lt j (by rw [ob_slice]; exact hj)).1; have := HO.out; omega)
      obtain ⟨_, _, k7, kz⟩ := row3 t7
      have f7 := kz 2
      obtain ⟨V8', hV8'⟩ : ∃ V8', V7.setCell ⟨tb, 2, none⟩ (.slice a7 (i + 1) c7) = V8' := ⟨_, rfl⟩
      have HE : Hid (V8'.heap[rb]? = some (rdR a len cap (foldE bs p3 e3 (i + 1)).2.1 (foldE bs p3 e3 (i + 1)).2.2) ∧ V8'.heap[zb]? = some (.cells #[.string ⟨#[]⟩, .int .i64 0, .slice none 0 0] 27 (0, 0)) ∧ V8'.heap[tb]? = some (.cells #[.string X, .int .i64 (n : Int), .slice a7 (i + 1) c7] 27 (0, 0)) ∧ V8'.ownsRow (tb + 1) 36 5 (.slice a7 (i + 1) c7) (i + 1) (enR (foldE bs p3 e3 (i + 1)).1) ∧ Ex rb w V8') := by
        have o8 : ∀ k, k ≠ tb → V8'.heap[k]? = V7.heap[k]? := fun k hk => by rw [← hV8', heap_setCell_other _ _ _ _ hk]
        have t8 : V8'.heap[tb]? = some (.cells #[.string X, .int .i64 (n : Int), .slice a7 (i + 1) c7] 27 (0, 0)) := by rw [← hV8', heap_setCell_same _ _ _ _ _ _ t7]; rfl
        rw [HI.out.2.2.2.2]
        refine ⟨(o8 rb (by have := HO.out; omega)).trans rr7, (o8 zb (by have := HO.out; omega)).trans z7, t8, own_keep o7 (fun j hj => by have h9 := (o7.lt j hj).1; exact o8 j (by omega)), ?_⟩
        rw [← hV8']
        exact b7.setHi (show w.heap.size ≤ tb by have := HO.out; omega) _ _
      clear h5 x5 t5 z5 o5 b5 n5 r6 hb6 t6 o6 b6 o7 hg7 ngr t7 z7 rr7 b7 kz
      refine wpAnyH_ready (rs := [1, 4]) (by kernel_rfl) (by simp) ?_
      refine AllReadyH.cons rfl (fun K hK => ?_) (AllReadyH.cons rfl (fun K hK => ?_) AllReadyH.nil)
      · go_simp
        refine hK.out _ _ (trivial) (fun hHeld => ?_)
        clear hK K
        try simp only [Act.put, List.setIfInBounds_toArray, List.set_cons_zero, List.set_cons_succ]
        refine wpAnyH_ready (rs := [4]) (by kernel_rfl) (by simp) ?_
        refine AllReadyH.cons rfl (fun K hK => ?_) AllReadyH.nil
        go_simp
        refine hK.out _ _ (trivial) (fun hHeld => ?_)
        clear hK K
        try simp only [Act.put, List.setIfInBounds_toArray, List.set_cons_zero, List.set_cons_succ]
        refine wpAnyH_ready (rs := [5]) (by kernel_rfl) (by simp) ?_
        refine AllReadyH.cons rfl (fun K hK => ?_) AllReadyH.nil
        rw [if_pos (by rfl)]
        refine wp_app V6 _ _ _ _ rfl rfl rfl (hr7 _) ?_
        skip
        refine hK.out _ _ (trivial) (fun hHeld => ?_)
        clear hK K
        change wpAnyH _ _ _ _ _ _ _ (Act.put _ (some 20) _) _
        simp only [Act.put, List.setIfInBounds_toArray, List.set_cons_zero, List.set_cons_succ]
        refine wpAnyH_take (i := 6) (v := ?vd_6) rfl (by kernel_rfl) (by kernel_rfl) (by kernel_rfl) (fun _ _ _ h => h) (Or.inl ⟨by first | kernel_rfl | rfl, ?yd_6⟩) hHeld ?rd_6
        case yd_6 => (intro W hSW; (try dsimp only at hSW); go_simp; (try with_reducible rfl))
        change wpAnyH _ _ _ _ _ _ _ (Act.put _ (some 21) _) _
        simp only [Act.put, List.setIfInBounds_toArray, List.set_cons_zero, List.set_cons_succ]
        refine wpAnyH_ready (rs := [7]) (by kernel_rfl) (by simp) ?_
        refine AllReadyH.cons rfl (fun K hK => ?_) AllReadyH.nil
        go_simp
        refine hK.out _ _ (trivial) (fun hHeld => ?_)
        clear hK K
        refine wpAnyH_done (by kernel_rfl) ?_ _
        go_wp2
        exact ⟨⟨i + 1, a7, c7, by omega, by go_num, HE.out⟩, by simp [intOf]; omega⟩
      · go_simp
        refine hK.out _ _ (trivial) (fun hHeld => ?_)
        clear hK K
        try simp only [Act.put, List.setIfInBounds_toArray, List.set_cons_zero, List.set_cons_succ]
        refine wpAnyH_ready (rs := [1]) (by kernel_rfl) (by simp) ?_
        refine AllReadyH.cons rfl (fun K hK => ?_) AllReadyH.nil
        go_simp
        refine hK.out _ _ (trivial) (fun hHeld => ?_)
        clear hK K
        try simp only [Act.put, List.setIfInBounds_toArray, List.set_cons_zero, List.set_cons_succ]
        refine wpAnyH_ready (rs := [5]) (by kernel_rfl) (by simp) ?_
        refine AllReadyH.cons rfl (fun K hK => ?_) AllReadyH.nil
        rw [if_pos (by rfl)]
        refine wp_app V6 _ _ _ _ rfl rfl rfl (hr7 _) ?_
        skip
        refine hK.out _ _ (trivial) (fun hHeld => ?_)
        clear hK K
        change wpAnyH _ _ _ _ _ _ _ (Act.put _ (some 20) _) _
        simp only [Act.put, List.setIfInBounds_toArray, List.set_cons_zero, List.set_cons_succ]
        refine wpAnyH_take (i := 6) (v := ?ve_6) rfl (by kernel_rfl) (by kernel_rfl) (by kernel_rfl) (fun _ _ _ h => h) (Or.inl ⟨by first | kernel_rfl | rfl, ?ye_6⟩) hHeld ?re_6
        case ye_6 => (intro W hSW; (try dsimp only at hSW); go_simp; (try with_reducible rfl))
        change wpAnyH _ _ _ _ _ _ _ (Act.put _ (some 21) _) _
        simp only [Act.put, List.setIfInBounds_toArray, List.set_cons_zero, List.set_cons_succ]
        refine wpAnyH_ready (rs := [7]) (by kernel_rfl) (by simp) ?_
        refine AllReadyH.cons rfl (fun K hK => ?_) AllReadyH.nil
        go_simp
        refine hK.out _ _ (trivial) (fun hHeld => ?_)
        clear hK K
        refine wpAnyH_done (by kernel_rfl) ?_ _
        go_wp2
        exact ⟨⟨i + 1, a7, c7, by omega, by go_num, HE.out⟩, by simp [intOf]; omega⟩
  · obtain rfl : i = k := by omega
    have kk : ¬ (i : Int) < (i : Int) := by omega
    obtain ⟨s0, s1, s2, _⟩ := row3 ht
    obtain ⟨q0, q1, q2, qz⟩ := row3 hz
    have qf0 := qz 0
    have qf1 := qz 1
    have qf2 := qz 2
    obtain ⟨W9, hW9⟩ : ∃ x, ((wr.setCell ⟨zb, 0, none⟩ (.string X)).setCell ⟨zb, 1, none⟩ (.int .i64 (n : Int))).setCell ⟨zb, 2, none⟩ (.slice a' i c') = x := ⟨_, rfl⟩
    have HE : Hid (RdTo w rb a len cap X n (foldE bs p3 e3 i) (.returned (.agg #[.string X, .int .i64 (n : Int), .slice a' i c'])) W9 ∧ W9.heap[zb]? = some (.cells #[.string X, .int .i64 (n : Int), .slice a' i c'] 27 (0, 0))) := by
      have hle : w.heap.size ≤ zb := Nat.le_of_eq HO.out.2.1
      refine ⟨⟨a', i, c', rfl, ?_, ?_, ?_⟩, by rw [← hW9]; exact set3 hz _ _ _⟩
      · refine own_base (own_keep ho (fun j hj => ?_)) (show w.heap.size ≤ tb + 1 by have := HO.out; omega)
        have h9 := (ho.lt j hj).1
        rw [← hW9]
        exact other3s (by have := HO.out; omega) _ _ _
      · rw [← hW9, other3s (by have := HO.out; omega)]
        exact hr
      · rw [← hW9]
        exact ((hex.setHi hle _ _).setHi hle _ _).setHi hle _ _
    clear hr hz ht ho hex qz
    go_wp2
    refine bodyPost_ret (v := .agg #[.string X, .int .i64 (n : Int), .slice a' i c']) ?_ rfl HE.out.1
    exact res_1P (fn := Tryd.f41) (p := 2) (by rfl) _ _ zb _ (by rfl) HE.out.2 infoPA
end Go.Proofs.YtkhidkilkbmpoaaDoor
