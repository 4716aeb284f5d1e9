/- A step of both disks. -/
import Derived.Test.YtdlmciicapigjaaZA
namespace Go.Proofs.Ytdlmciicapigjaa
open Go.RowKit Go.Shelf
/-- A call on the first disk leaves its clone. -/
theorem St.other {w0 : World} {xb : Nat} {xo : Obj} {x4 x5 x7 : Nat} {o : OpV} {S T : Nat → Prop} {g c : Nat} {Dd D : Dk} {lb lc : Nat} {wa : Option Addr} {wc : Nat} {Dr : Dk} {xv : Array Value} {V V' : World} (h : St w0 xb xo x4 x5 x7 o S g Dd lb lc wa wc Dr xv V) (hc : DiskIs V T c D) (ha : ∀ x, T x → ¬ S x) {Dd' : Dk} (m : Mut S V g Dd' V') :
    ∃ S', St w0 xb xo x4 x5 x7 o S' g Dd' lb lc wa wc Dr xv V' ∧ DiskIs V' T c D ∧ ∀ x, T x → ¬ S' x := by
  have m' := m
  obtain ⟨S', hd, hu, hs⟩ := m'
  have hst : St w0 xb xo x4 x5 x7 o S' g Dd' lb lc wa wc Dr xv V' := by
    have e4 := lt_of_some h.h4
    have e5 := lt_of_some h.h5
    have e7 := lt_of_some h.h7
    have el := h.r.lt
    have hno : ∀ x, x < V.heap.size → ¬ S x → ¬ S' x := fun x hx hS hS' => by
      rcases hs x hS' with h1 | h1
      · exact hS h1
      · omega
    exact
      { bl := h.bl.trans (hu.below h.bl.size h.sS)
        d := hd
        r := h.r.keep (hu.block _ el.1 h.nl) (fun x hx => hu.block _ (el.2 x hx) (h.nw x hx))
        h4 := (hu.block _ e4 h.s4).trans h.h4
        h5 := (hu.block _ e5 h.s5).trans h.h5
        h7 := (hu.block _ e7 h.s7).trans h.h7
        sS := fun x hx => (hs x hx).elim (h.sS x) (fun h1 => Nat.le_trans h.bl.size h1)
        n4 := h.n4
        s4 := hno _ e4 h.s4
        s5 := hno _ e5 h.s5
        s7 := hno _ e7 h.s7
        l4 := h.l4
        q4 := h.q4
        nl := hno _ el.1 h.nl
        nw := fun x hx => hno _ (el.2 x hx) (h.nw x hx)
        hx := (hu.block _ (lt_of_some h.hx) h.sx).trans h.hx
        sx := hno _ (lt_of_some h.hx) h.sx
        nx := h.nx }
  refine ⟨S', hst, hc.upd hu ha, fun x hx hS' => ?_⟩
  rcases hs x hS' with h1 | h1
  · exact ha x hx h1
  · have := hc.bd x hx
    omega
/-- The clone takes its place. -/
theorem St.swap {w0 : World} {xb : Nat} {xo : Obj} {x4 x5 x7 : Nat} {o : OpV} {S T : Nat → Prop} {g c : Nat} {Dd D : Dk} {lb lc : Nat} {wa : Option Addr} {wc : Nat} {Dr : Dk} {xv : Array Value} {V : World} (h : St w0 xb xo x4 x5 x7 o S g Dd lb lc wa wc Dr xv V) (hc : DiskIs V T c D) (B : Nat) (hT : ∀ x, T x → B ≤ x) (h0 : w0.heap.size ≤ B) (h4 : x7 < B) (hl : lb < B) (hq : ∀ x, ob wa = some x → x < B) (hxB : xb < B) :
    St w0 xb xo x4 x5 x7 o T c D lb lc wa wc Dr xv V :=
  { h with
    d := hc
    sS := fun x hx => Nat.le_trans h0 (hT x hx)
    s4 := fun s => by have := hT _ s; have := h.n4; omega
    s5 := fun s => by have := hT _ s; have := h.n4; omega
    s7 := fun s => by have := hT _ s; omega
    nl := fun s => by have := hT _ s; omega
    nw := fun x hx s => by have := hT _ s; have := hq x hx; omega
    sx := fun s => by have := hT _ s; omega }
set_option maxRecDepth 100000 in
set_option maxHeartbeats 4000000 in
theorem step_clone {w0 w : World} {xb : Nat} {xo : Obj} {g lb lc : Nat} {wa : Option Addr} {wc : Nat} {D : Dk} (h : Pair w0 xb xo w g lb lc wa wc D) (ad lo : Int) (fi : Nat) (pa : Option Addr) (pl pc : Nat) (bs : List Bool) (_had : ad ≤ 9223372036854775807) (_hfi : fi < 256) (hbs : Bls w0 pa pl pc bs) (hw : D.writes < 999999) (kd : Int) (k0 : ¬ kd = 0) (k1 : ¬ kd = 1) (k2 : ¬ kd = 2) (k3 : ¬ kd = 3) (k4 : ¬ kd = 4) (k5 : ¬ kd = 5) :
    Calls Try.prog 23 #[.pointer (some ⟨g, 0, none⟩), .agg #[.slice (some ⟨lb, 0, none⟩) D.kept.length lc, .slice wa D.waits.length wc, .int .i64 (D.fuse : Int), .int .i64 (D.writes : Int), .bool (!D.up)], .agg #[.int .i64 kd, .int .i64 ad, .int .i64 lo, .int .u8 (fi : Int), .slice pa pl pc]] w fun e w' => ∃ g' lb' lc' wa' wc' D', e = .returned (.tuple #[.pointer (some ⟨g', 0, none⟩), .agg (rcells lb' lc' wa' wc' D'), .bool true]) ∧ Pair w0 xb xo w' g' lb' lc' wa' wc' D' ∧ D'.kept.length = D.kept.length ∧ D'.writes ≤ D.writes + 1 := by
  obtain ⟨dn, hdn⟩ : ∃ dn, (!D.up) = dn := ⟨_, rfl⟩
  obtain ⟨S, hst0⟩ := h.st ⟨kd, ad, lo, fi, pa, pl, pc, bs⟩ #[.slice (some ⟨lb, 0, none⟩) D.kept.length lc, .slice wa D.waits.length wc, .int .i64 (D.fuse : Int), .int .i64 (D.writes : Int), .bool dn]
  obtain ⟨V0, hV0⟩ : ∃ V, (((w.alloc (.cells #[.slice (some ⟨lb, 0, none⟩) D.kept.length lc, .slice wa D.waits.length wc, .int .i64 (D.fuse : Int), .int .i64 (D.writes : Int), .bool dn] 40)).alloc (.cells #[.int .i64 kd, .int .i64 ad, .int .i64 lo, .int .u8 (fi : Int), .slice pa pl pc] 46)).alloc (.cells #[.slice none 0 0, .slice none 0 0, .int .i64 0, .int .i64 0, .bool false] 40)) = V := ⟨_, rfl⟩
  have HST0 : Hid (St w0 xb xo w.heap.size (w.heap.size + 1) (w.heap.size + 2) ⟨kd, ad, lo, fi, pa, pl, pc, bs⟩ S g D lb lc wa wc D #[.slice (some ⟨lb, 0, none⟩) D.kept.length lc, .slice wa D.waits.length wc, .int .i64 (D.fuse : Int), .int .i64 (D.writes : Int), .bool dn] V0) := by rw [← hV0]; exact hst0
  have HDN : Hid ((!D.up) = dn) := hdn
  have HBS : Hid (Bls w0 pa pl pc bs) := hbs
  rw [hdn]
  clear h hst0 hdn hbs
  go_enter Try.func23, Try.ntmps23
  obtain ⟨x4, hx4⟩ : ∃ x, w.heap.size = x := ⟨_, rfl⟩
  obtain ⟨x5, hx5⟩ : ∃ x, x4 + 1 = x := ⟨_, rfl⟩
  obtain ⟨x7, hx7⟩ : ∃ x, x5 + 1 = x := ⟨_, rfl⟩
  rw [show w.heap.size + 2 = x7 by omega, show w.heap.size + 1 = x5 by omega, hx4] at HST0
  have HX : Hid (St w0 xb xo x4 x5 x7 ⟨kd, ad, lo, fi, pa, pl, pc, bs⟩ S g D lb lc wa wc D #[.slice (some ⟨lb, 0, none⟩) D.kept.length lc, .slice wa D.waits.length wc, .int .i64 (D.fuse : Int), .int .i64 (D.writes : Int), .bool dn] V0) := HST0.out
  obtain ⟨o0, o1, o2, o3, o4⟩ := HX.out.at5
  have HCL := clone_any HX.out.d
  obtain ⟨T, hT⟩ : ∃ T, fillS 0 99 = T := ⟨_, rfl⟩
  have HFI : Hid (∀ V, Calls Try.prog 27 #[.agg #[.int .i64 0, .int .i64 0, .int .i64 0, .int .u8 99, .slice none 0 0]] V fun e w' => e = .returned (.string T) ∧ Below V.heap.size V w') := by
    intro V
    rw [← hT]; exact filled_any 0 0 0 99 none 0 0 V (by omega)
  clear HST0 hT
  go_wp2_with fail
  try rw [hV0]
  refine HCL.mono ?_
  rintro e V1 ⟨c, rfl, hc1, hb1⟩
  have hap := apart_fresh (w4 := V1) HX.out.d.bd
  have HS1 : Hid _ := HX.out.keep hb1
  have HBB : Hid (w0.heap.size ≤ V0.heap.size ∧ x7 < V0.heap.size ∧ lb < V0.heap.size ∧ (∀ x, ob wa = some x → x < V0.heap.size) ∧ xb < V0.heap.size) := ⟨HX.out.bl.size, lt_of_some HX.out.h7, HX.out.r.lt.1, HX.out.r.lt.2, lt_of_some HX.out.hx⟩
  have HTT : Hid (∀ x, fresh V0 V1 x → V0.heap.size ≤ x) := fun x hx => hx.1
  obtain ⟨Q, hQ⟩ : ∃ Q, fresh V0 V1 = Q := ⟨_, rfl⟩
  rw [hQ] at hc1 hap HTT
  have HF1 := HFI.out V1
  clear HCL hb1 hQ o0 o1 o2 o3 o4 HX
  go_wp2_with fail
  refine HF1.mono ?_
  rintro e V2 ⟨rfl, hb2⟩
  have HS2 : Hid _ := HS1.out.keep hb2
  have hc2 := hc1.below hb2
  have HPW := write_m HS2.out.d 0 T (by omega)
  clear HF1 hb2 hc1 HS1
  go_wp2_with fail
  refine HPW.mono ?_
  rintro e V3 ⟨rfl, hm⟩
  obtain ⟨S3, hs3, hc3, ha3⟩ := HS2.out.other hc2 hap hm
  have HPF := flush_m hs3.d
  clear HPW hm hap hc2 HS2
  go_wp2_with fail
  refine HPF.mono ?_
  rintro e V4 ⟨rfl, hm⟩
  obtain ⟨S4, hs4, hc4, ha4⟩ := hs3.other hc3 ha3 hm
  have HPA := fail_m hs4.d none 0 0 [] (Bls.nil w0) hs4.bl hs4.sS
  clear HPF hm hs3 hc3 ha3
  go_wp2_with fail
  refine HPA.mono ?_
  rintro e V9 ⟨rfl, hm⟩
  obtain ⟨S5, hs5, hc5, ha5⟩ := hs4.other hc4 ha4 hm
  obtain ⟨S9, hS9⟩ : ∃ S9, Q = S9 := ⟨_, rfl⟩
  have HST9 : Hid _ := hs5.swap hc5 V0.heap.size HTT.out HBB.out.1 HBB.out.2.1 HBB.out.2.2.1 HBB.out.2.2.2.1 HBB.out.2.2.2.2
  rw [← HDN.out, hS9] at HST9
  clear HPA hm hs4 hc4 ha4 hs5 hc5 ha5 HTT HBB hS9
  go_wp2
  obtain ⟨n', hn'⟩ : ∃ n', D.kept.length = n' := ⟨_, rfl⟩
  obtain ⟨N', hN'⟩ : ∃ N', D.waits.length = N' := ⟨_, rfl⟩
  obtain ⟨F', hF'⟩ : ∃ F' : Int, (D.fuse : Int) = F' := ⟨_, rfl⟩
  obtain ⟨M', hM'⟩ : ∃ M' : Int, (D.writes : Int) = M' := ⟨_, rfl⟩
  obtain ⟨B', hB'⟩ : ∃ B', (!D.up) = B' := ⟨_, rfl⟩
  have HRC : Hid (rcells lb lc wa wc D = #[.slice (some ⟨lb, 0, none⟩) n' lc, .slice wa N' wc, .int .i64 F', .int .i64 M', .bool B']) := by
    show _ = _
    unfold rcells
    rw [hn', hN', hF', hM', hB']
  have HS9 : Hid (St w0 xb xo x4 x5 x7 ⟨kd, ad, lo, fi, pa, pl, pc, bs⟩ S9 c D lb lc wa wc D #[.slice (some ⟨lb, 0, none⟩) n' lc, .slice wa N' wc, .int .i64 F', .int .i64 M', .bool B'] V9) := by
    have := HST9.out
    rw [hn', hN', hF', hM', hB'] at this
    exact this
  obtain ⟨f0, f1, f2, f3, f4, ff⟩ := HS9.out.drew.at4
  obtain ⟨z0, z1, z2, z3, z4, zf⟩ := HS9.out.drew.at7
  obtain ⟨y0, y1, y2, y3, y4, yf⟩ := HS9.out.at7
  have n74 : x7 ≠ x4 := by have := HS9.out.n4; omega
  have HPR : Hid (∀ v0 v1 v2 v3 v4, Pair w0 xb xo (((((V9.drew.setCell ⟨x7, 0, none⟩ v0).setCell ⟨x7, 1, none⟩ v1).setCell ⟨x7, 2, none⟩ v2).setCell ⟨x7, 3, none⟩ v3).setCell ⟨x7, 4, none⟩ v4) c lb lc wa wc D) := fun v0 v1 v2 v3 v4 => HS9.out.drew.pair v0 v1 v2 v3 v4
  have HK4 : Hid (∀ v0 v1 v2 v3 v4 (V : World), V.heap = (((((V9.setCell ⟨x7, 0, none⟩ v0).setCell ⟨x7, 1, none⟩ v1).setCell ⟨x7, 2, none⟩ v2).setCell ⟨x7, 3, none⟩ v3).setCell ⟨x7, 4, none⟩ v4).heap → (V.cell? ⟨x4, 0, none⟩ = some (.slice (some ⟨lb, 0, none⟩) n' lc) ∧ V.cell? ⟨x4, 1, none⟩ = some (.slice wa N' wc) ∧ V.cell? ⟨x4, 2, none⟩ = some (.int .i64 F') ∧ V.cell? ⟨x4, 3, none⟩ = some (.int .i64 M') ∧ V.cell? ⟨x4, 4, none⟩ = some (.bool B'))) := by
    intro v0 v1 v2 v3 v4 V hV
    have hrow : V.heap[x4]? = some (.cells #[.slice (some ⟨lb, 0, none⟩) n' lc, .slice wa N' wc, .int .i64 F', .int .i64 M', .bool B'] 40 (0, 0)) := by
      rw [hV, five_other V9 x7 x4 _ _ _ _ _ (Ne.symm n74)]
      exact HS9.out.h4
    refine ⟨?_, ?_, ?_, ?_, ?_⟩ <;> rw [cell_of_row V x4 _ _ _ _ hrow] <;> rfl
  clear HST9 HS9 hn' hN' hF' hM' hB'
  refine wp_region_held_drew (S := fun V => V.cell? ⟨x4, 0, none⟩ = some (.slice (some ⟨lb, 0, none⟩) n' lc) ∧ V.cell? ⟨x4, 1, none⟩ = some (.slice wa N' wc) ∧ V.cell? ⟨x4, 2, none⟩ = some (.int .i64 F') ∧ V.cell? ⟨x4, 3, none⟩ = some (.int .i64 M') ∧ V.cell? ⟨x4, 4, none⟩ = some (.bool B')) (by kernel_rfl) (⟨f0, f1, f2, f3, f4⟩) (fun hHeld => ?_)
  refine wpAnyH_take (i := 0) (v := ?vz0) rfl (by kernel_rfl) (by kernel_rfl) (by kernel_rfl) (fun _ _ _ h => h) (Or.inl ⟨by first | kernel_rfl | rfl, ?yz0⟩) hHeld ?rz0
  case yz0 => (intro W hSW; (try dsimp only at hSW); go_simp; (try with_reducible rfl))
  change wpAnyH _ _ _ _ _ _ _ (Act.put _ (some 24) _) _
  simp only [Act.put, List.setIfInBounds_toArray, List.set_cons_zero, List.set_cons_succ]
  refine wpAnyH_take (i := 1) (v := ?vz1) rfl (by kernel_rfl) (by kernel_rfl) (by kernel_rfl) (fun _ _ _ h => h) (Or.inl ⟨by first | kernel_rfl | rfl, ?yz1⟩) hHeld ?rz1
  case yz1 => (intro W hSW; (try dsimp only at hSW); go_simp; (try with_reducible rfl))
  change wpAnyH _ _ _ _ _ _ _ (Act.put _ (some 25) _) _
  simp only [Act.put, List.setIfInBounds_toArray, List.set_cons_zero, List.set_cons_succ]
  refine wpAnyH_take (i := 2) (v := ?vz2) rfl (by kernel_rfl) (by kernel_rfl) (by kernel_rfl) (fun _ _ _ h => h) (Or.inl ⟨by first | kernel_rfl | rfl, ?yz2⟩) hHeld ?rz2
  case yz2 => (intro W hSW; (try dsimp only at hSW); go_simp; (try with_reducible rfl))
  change wpAnyH _ _ _ _ _ _ _ (Act.put _ (some 26) _) _
  simp only [Act.put, List.setIfInBounds_toArray, List.set_cons_zero, List.set_cons_succ]
  refine wpAnyH_take (i := 3) (v := ?vz3) rfl (by kernel_rfl) (by kernel_rfl) (by kernel_rfl) (fun _ _ _ h => h) (Or.inl ⟨by first | kernel_rfl | rfl, ?yz3⟩) hHeld ?rz3
  case yz3 => (intro W hSW; (try dsimp only at hSW); go_simp; (try with_reducible rfl))
  change wpAnyH _ _ _ _ _ _ _ (Act.put _ (some 27) _) _
  simp only [Act.put, List.setIfInBounds_toArray, List.set_cons_zero, List.set_cons_succ]
  refine wpAnyH_take (i := 4) (v := ?vz4) rfl (by kernel_rfl) (by kernel_rfl) (by kernel_rfl) (fun _ _ _ h => h) (Or.inl ⟨by first | kernel_rfl | rfl, ?yz4⟩) hHeld ?rz4
  case yz4 => (intro W hSW; (try dsimp only at hSW); go_simp; (try with_reducible rfl))
  change wpAnyH _ _ _ _ _ _ _ (Act.put _ (some 6) _) _
  simp only [Act.put, List.setIfInBounds_toArray, List.set_cons_zero, List.set_cons_succ]
  refine wpAnyH_ready (rs := [5]) (by kernel_rfl) (by simp) ?_
  refine AllReadyH.cons rfl (fun K hK => ?_) AllReadyH.nil
  go_simp
  refine hK.out _ _ (HK4.out _ _ _ _ _ _ rfl) (fun hHeld => ?_)
  clear hK K
  refine wpAnyH_take (i := 6) (v := ?vz6) rfl (by kernel_rfl) (by kernel_rfl) (by kernel_rfl) (fun _ _ _ h => h) (Or.inl ⟨by first | kernel_rfl | rfl, ?yz6⟩) hHeld ?rz6
  case yz6 => (intro W hSW; (try dsimp only at hSW); go_simp; (try with_reducible rfl))
  change wpAnyH _ _ _ _ _ _ _ (Act.put _ (some 8) _) _
  simp only [Act.put, List.setIfInBounds_toArray, List.set_cons_zero, List.set_cons_succ]
  refine wpAnyH_done (by kernel_rfl) ?_ _
  clear hHeld f0 f1 f2 f3 f4 ff
  go_wp2
  refine bodyPost_ret (v := .tuple #[.pointer (some ⟨c, 0, none⟩), .agg #[.slice (some ⟨lb, 0, none⟩) n' lc, .slice wa N' wc, .int .i64 F', .int .i64 M', .bool B'], .bool true]) ?_ rfl ⟨c, lb, lc, wa, wc, D, ?_, ?_, ⟨rfl, Nat.le_succ _⟩⟩
  · simp [results, go_sem, y0, y1, y2, y3, y4]
  · rw [HRC.out]
  · exact HPR.out _ _ _ _ _
end Go.Proofs.Ytdlmciicapigjaa
