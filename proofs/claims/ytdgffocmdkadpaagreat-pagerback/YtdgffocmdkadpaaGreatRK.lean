/- A pair of the statements in memory. A walk over the statements' begun. A walk over the document's SameInts, for lists that are the same. -/
import Derived.Test.YtdgffocmdkadpaaGreatRH
namespace Go.Proofs.YtdgffocmdkadpaaGreat
open Go.RowKit Go.Shelf Pg
/-- A pair's cells: journal, pager, Good, Now, Points, old. -/
def prL (jb pb : Nat) (gs ns : Array Value) (pv ov : Value) : List Value := [.pointer (some ⟨jb, 0, none⟩), .pointer (some ⟨pb, 0, none⟩)] ++ gs.toList ++ (ns.toList ++ [pv, ov])
def prA (jb pb : Nat) (gs ns : Array Value) (pv ov : Value) : Array Value := (prL jb pb gs ns pv ov).toArray
/-- Savepoints of the document. -/
def Pts (F : Nat → Prop) (w : World) (n : Nat) (pv : Value) : Prop := ∃ (pa : Option Addr) (pl pc : Nat) (rows : List (Array Value)), pv = .slice pa pl pc ∧ rows.length = pl ∧ pl ≤ 16 ∧ Rw F w 42 7 pa pl pc (rows.flatMap Array.toList) ∧ ∀ r ∈ rows, r.size = 7 ∧ DSt F w n (.agg r)
theorem Pts.fr {F F' : Nat → Prop} {w w' : World} {n : Nat} {pv : Value} (h : Pts F w n pv) (f : Fr F w F' w') : Pts F' w' n pv := by
  obtain ⟨pa, pl, pc, rows, e, h1, h2, h3, h4⟩ := h
  exact ⟨pa, pl, pc, rows, e, h1, h2, h3.fr f, fun r hr => ⟨(h4 r hr).1, (h4 r hr).2.fr f⟩⟩
theorem Pts.none (F : Nat → Prop) (w : World) (n : Nat) : Pts F w n (.slice none 0 0) := ⟨_, 0, 0, [], rfl, rfl, by omega, Rw.zero _ _ _ _ _ _ (Nat.zero_le _), fun r hr => (by cases hr)⟩
structure Zl (F : Nat → Prop) (w : World) (zb jb pb n : Nat) (gs ns : Array Value) (pv ov : Value) : Prop where
  c : w.heap[zb]? = some (.cells (prA jb pb gs ns pv ov) 55 (0, 0))
  gz : gs.size = 7
  nz : ns.size = 7
  g : DSt (fun x => F x ∧ x ≠ zb) w n (.agg gs)
  s : DSt (fun x => F x ∧ x ≠ zb) w n (.agg ns)
  p : Pts (fun x => F x ∧ x ≠ zb) w n pv
  o : ∃ oa oc os, ov = .slice oa n oc ∧ Rw (fun x => F x ∧ x ≠ zb) w 9 1 oa n oc (strsV os)
  f : F zb
section
variable {F F' : Nat → Prop} {w w' : World} {zb jb pb n : Nat} {gs ns : Array Value} {pv ov : Value}
theorem prL_len (hg : gs.size = 7) (hn : ns.size = 7) : (prL jb pb gs ns pv ov).length = 18 := by simp [prL, hg, hn]
theorem Zl.fr (h : Zl F w zb jb pb n gs ns pv ov) (f : Fr F w F' w') : Zl F' w' zb jb pb n gs ns pv ov := by
  have f2 : Fr (fun x => F x ∧ x ≠ zb) w (fun x => F' x ∧ x ≠ zb) w' := ⟨f.sz, fun x hx => ⟨f.sub x hx.1, hx.2⟩, fun x hx hl => f.blk x hx.1 hl⟩
  obtain ⟨oa, oc, os, e, ho⟩ := h.o
  exact ⟨(f.blk zb h.f (lt_of_some h.c)).trans h.c, h.gz, h.nz, h.g.fr f2, h.s.fr f2, h.p.fr f2, ⟨oa, oc, os, e, ho.fr f2⟩, f.sub zb h.f⟩
theorem pr_now (hg : gs.size = 7) (hn : ns.size = 7) (j : Nat) (hj : j < 7) : (prA jb pb gs ns pv ov)[9 + j]? = ns[j]? := by
  rw [prA, List.getElem?_toArray, prL, List.getElem?_append_right (by simp [hg] <;> omega), List.getElem?_append_left (by simp [hg, hn] <;> omega), Array.getElem?_toList]
  congr 1
  simp [hg]
theorem pr_good (hg : gs.size = 7) (j : Nat) (hj : j < 7) : (prA jb pb gs ns pv ov)[2 + j]? = gs[j]? := by
  rw [prA, List.getElem?_toArray, prL, List.getElem?_append_left (by simp [hg] <;> omega), List.getElem?_append_right (by simp), Array.getElem?_toList]
  congr 1
  simp
theorem pr_end (hg : gs.size = 7) (hn : ns.size = 7) : (prA jb pb gs ns pv ov)[16]? = some pv ∧ (prA jb pb gs ns pv ov)[17]? = some ov := by
  constructor <;> (rw [prA, List.getElem?_toArray, prL, List.getElem?_append_right (by simp [hg]), List.getElem?_append_right (by simp [hg, hn])]; simp [hg, hn])
theorem Zl.cells (h : Zl F w zb jb pb n gs ns pv ov) : w.cell? ⟨zb, 0, none⟩ = some (.pointer (some ⟨jb, 0, none⟩)) ∧ w.cell? ⟨zb, 1, none⟩ = some (.pointer (some ⟨pb, 0, none⟩)) ∧ w.cell? ⟨zb, 16, none⟩ = some pv ∧ w.cell? ⟨zb, 17, none⟩ = some ov := by
  refine ⟨?_, ?_, ?_, ?_⟩ <;> rw [cell_of_row w zb _ _ _ _ h.c]
  · rfl
  · rfl
  · exact (pr_end h.gz h.nz).1
  · exact (pr_end h.gz h.nz).2
theorem Zl.lnow (h : Zl F w zb jb pb n gs ns pv ov) : (loadVar 42 ⟨zb, 9, none⟩).run Tryz.prog w = .ok (.agg ns) w := by
  have := load_part w zb 9 42 _ _ _ _ ns.toList h.c Tryz.underlying42 rfl (by rw [Array.length_toList, h.nz]; kernel_rfl) (fun j v hv => by
    have hj : j < 7 := by have := (List.getElem?_eq_some_iff.1 hv).1; rw [Array.length_toList, h.nz] at this; exact this
    rw [pr_now h.gz h.nz j hj]; simpa using hv)
  simpa using this
theorem prL_now (hg : gs.size = 7) (hn : ns.size = 7) (ns' : Array Value) : (prL jb pb gs ns pv ov).take 9 ++ ns'.toList ++ (prL jb pb gs ns pv ov).drop (9 + 7) = prL jb pb gs ns' pv ov := by
  have hl : ([Value.pointer (some ⟨jb, 0, none⟩), Value.pointer (some ⟨pb, 0, none⟩)] ++ gs.toList).length = 9 := by simp [hg]
  unfold prL
  rw [← hl, List.take_left, List.drop_append, List.drop_eq_nil_of_le (by omega), List.nil_append, show ∀ a : Nat, a + 7 - a = 7 by omega]
  rw [show (7 : Nat) = ns.toList.length by rw [Array.length_toList, hn], List.drop_left, List.append_assoc]
theorem Zl.store_now (h : Zl F w zb jb pb n gs ns pv ov) {ns' : Array Value} (hz : ns'.size = 7) (ho : ∀ u ∈ ns'.toList, u.oneCell' = true) : (storeCells ⟨zb, 9, none⟩ ns'.toList).run Tryz.prog w = .ok () (w.setRow zb (prA jb pb gs ns' pv ov)) := by
  rw [run_storeCells_at Tryz.prog zb 9 55 ns'.toList 0 _ w h.c (by rw [Array.length_toList, hz, prA, List.size_toArray, prL_len h.gz h.nz]; omega) ho, Array.length_toList, hz]
  have e : (prA jb pb gs ns pv ov).toList = prL jb pb gs ns pv ov := rfl
  simp only [Nat.add_zero]
  rw [e, prL_now h.gz h.nz]
  rfl
theorem Zl.put_now (h : Zl F w zb jb pb n gs ns pv ov) {ns' : Array Value} (hz : ns'.size = 7) (hs : DSt (fun x => F x ∧ x ≠ zb) w n (.agg ns')) : Zl F (w.setRow zb (prA jb pb gs ns' pv ov)) zb jb pb n gs ns' pv ov := by
  have f2 : Fr (fun x => F x ∧ x ≠ zb) w (fun x => F x ∧ x ≠ zb) (w.setRow zb (prA jb pb gs ns' pv ov)) := ⟨by rw [size_setRow]; exact Nat.le_refl _, fun _ hx => hx, fun x hx _ => setRow_other _ _ _ _ hx.2⟩
  obtain ⟨oa, oc, os, e, ho⟩ := h.o
  exact ⟨setRow_heap w zb _ _ _ _ h.c, h.gz, hz, h.g.fr f2, hs.fr f2, h.p.fr f2, ⟨oa, oc, os, e, ho.fr f2⟩, h.f⟩
end
section
variable {h0 : Nat} {F : Nat → Prop} {w w' : World} {S : Nat → Prop} {g : Nat} {D : Dk} {pb jb n : Nat} {X : Px}
/-- What lies in F may be turned. -/
theorem Pgr.turnF (h : Pgr h0 F w S g D pb jb n X) {b : Nat} (hb : F b) (hu : Upd (fun x => x = b) w w') (hs : w'.heap.size = w.heap.size) : Pgr h0 F w' S g D pb jb n X := by
  obtain ⟨hok, kb, kc, mb, sa, sc, ss, hP⟩ := h
  have hf := hP.fF b hb
  have hl := hP.lt
  refine ⟨hok, kb, kc, mb, sa, sc, ss, hP.keep (hP.disk.keep fun x hx => hu.block x (hP.disk.bd x hx) (fun e => hf.1 (by rw [← show x = b from e]; exact hx))) ((hu.block jb hP.jat.lt (fun e => hf.2.2.1 (show jb = b from e).symm)).trans hP.jat) (fun x hx => hu.block x (hl x hx) (fun e => hf.2.1 (by rw [← show x = b from e]; exact hx))) hP.h0S hP.sj (fun x hx => (hP.ap x hx).1) (fun x hx => by rw [hs]; exact hP.fF x hx) (by omega)⟩
end
end Go.Proofs.YtdgffocmdkadpaaGreat
namespace Go.Proofs.YtdgffocmdkadpaaGreat
open Go.RowKit Go.Shelf Pg
theorem begun_bad (x : Int) (w : World) (h : x < 2 ∨ 10 < x) : Calls Tryz.prog 15 #[.int .i64 x] w fun e w' => e = .returned (.pointer none) ∧ w' = w := by
  have HO := opened_bad x w h
  go_enter Tryz.func15, Tryz.ntmps15
  go_wp2_with fail
  refine HO.mono ?_
  rintro e V ⟨rfl, hV⟩
  subst V
  go_wp2
  go_ret
  exact ⟨rfl, rfl⟩
theorem built_pr (jb pb : Nat) (a b c d e f g : Value) (da : Option Addr) (n dc : Nat) : Tryz.prog.built 55 [(0, .pointer (some ⟨jb, 0, none⟩)), (1, .pointer (some ⟨pb, 0, none⟩)), (2, .agg (#[a, b, c, d, e, f, g] ++ #[a, b, c, d, e, f, g] ++ #[.slice none 0 0])), (3, .slice da n dc)] = some (prA jb pb #[a, b, c, d, e, f, g] #[a, b, c, d, e, f, g] (.slice none 0 0) (.slice da n dc)) := by kernel_rfl
theorem wpList_pr {ops : Array Oper} {rest : List Oper} {o : Oper} {a : Act} {w : World} {Q : Exit → Act → World → Prop} (hgd : o.guard = none) (x0 x1 x2 x3 : Operand) (ho : o.op = .build 55 #[(0, x0), (1, x1), (2, x2), (3, x3)]) (v0 v1 v2 v3 : Value) (row : Array Value) (hb : Tryz.prog.built 55 [(0, v0), (1, v1), (2, v2), (3, v3)] = some row) (h0 : a.eval x0 = v0) (h1 : a.eval x1 = v1) (h2 : a.eval x2 = v2) (h3 : a.eval x3 = v3) (hK : wpList Tryz.prog ops Q rest (a.put o.dst (.agg row)) w) : wpList Tryz.prog ops Q (o :: rest) a w :=
  wpList_plain hgd fun K hk => by
    have hr := run_build (P := Tryz.prog) w 55 #[(0, v0), (1, v1), (2, v2), (3, v3)] _ hb
    have e : (#[(0, x0), (1, x1), (2, x2), (3, x3)] : Array (Nat × Operand)).map (fun (i, x) => (i, a.eval x)) = #[(0, v0), (1, v1), (2, v2), (3, v3)] := by
      simp only [List.map_toArray, List.map_cons, List.map_nil, h0, h1, h2, h3]
    unfold Oper.wp execOp
    simp only [ho, Sem.run_bind, e, hr, Result.andThen_ok, Sem.run_pure]
    exact hk _ _ hK
def BgTo (n : Nat) (w : World) (e : Ending) (w' : World) : Prop := ∃ (zb g jb pb : Nat) (S F' : Nat → Prop) (gs ns : Array Value) (pv ov : Value), e = .returned (.pointer (some ⟨zb, 0, none⟩)) ∧ Pgr w.heap.size F' w' S g (dk0 n) pb jb n (px0 n) ∧ Zl F' w' zb jb pb n gs ns pv ov ∧ (∀ x, F' x → w.heap.size ≤ x) ∧ Below w.heap.size w w'
set_option maxRecDepth 100000 in
set_option maxHeartbeats 8000000 in
theorem begun_any (n : Nat) (w : World) (h2 : 2 ≤ n) (h10 : n ≤ 10) : Calls Tryz.prog 15 #[.int .i64 (n : Int)] w fun e w' => BgTo n w e w' := by
  have HO := opened_any (fun _ => False) n w h2 h10 (fun x hx => hx.elim)
  go_enter Tryz.func15, Tryz.ntmps15
  go_wp2_with fail
  refine HO.mono ?_
  rintro e w1 ⟨g, jb, pb, S, rfl, hP1, hjw, hb1⟩
  have HNW := rnew_any (fun _ => False) n w1 (by omega)
  have H1 : Hid (Pgr w.heap.size (fun _ => False) w1 S g (dk0 n) pb jb n (px0 n) ∧ Below w.heap.size w w1) := ⟨hP1, hb1⟩
  clear HO hP1 hb1
  go_wp2_with fail
  refine HNW.mono ?_
  rintro e V2 ⟨rs, hrz, rfl, hD, hb2⟩
  unfold pgR
  obtain ⟨row, hrow⟩ : ∃ row : Array Value, rs ++ rs ++ #[.slice none 0 0] = row := ⟨_, rfl⟩
  rw [hrow]
  have hD2 := hD
  obtain ⟨ua, uc, da, dc, us, ds, r0, r1, r2, r3, ser, ers, hu, hd⟩ := hD2
  have ers2 : rs = #[.slice ua n uc, .slice da n dc, .int .i64 r0, .int .i64 r1, .int .i64 r2, .int .i64 r3, .int .u64 ser] := by cases ers; rfl
  have hrowz : row.size = 15 := by rw [← hrow]; simp [hrz]
  have hone : ∀ v ∈ row.toList, v.oneCell' = true := fun v hv => by
    rw [← hrow, ers2] at hv
    simp at hv
    rcases hv with rfl | rfl | rfl | rfl | rfl | rfl | rfl | rfl | rfl | rfl | rfl | rfl | rfl | rfl | rfl <;> rfl
  obtain ⟨C, hC⟩ : ∃ C, V2.heap.size = C := ⟨_, rfl⟩
  obtain ⟨V3, hV3⟩ : ∃ V3, V2.alloc (.cells #[.slice none 0 0, .slice none 0 0, .int .i64 0, .int .i64 0, .int .i64 0, .int .i64 0, .int .u64 0, .slice none 0 0, .slice none 0 0, .int .i64 0, .int .i64 0, .int .i64 0, .int .i64 0, .int .u64 0, .slice none 0 0] 53) = V3 := ⟨_, rfl⟩
  have q3 : V3.heap[C]? = some (.cells #[.slice none 0 0, .slice none 0 0, .int .i64 0, .int .i64 0, .int .i64 0, .int .i64 0, .int .u64 0, .slice none 0 0, .slice none 0 0, .int .i64 0, .int .i64 0, .int .i64 0, .int .i64 0, .int .u64 0, .slice none 0 0] 53 (0, 0)) := by rw [← hV3, ← hC]; exact heap_alloc_new V2 _
  have s3 : V3.heap.size = C + 1 := by rw [← hV3, ← hC]; simp
  have hst : (storeCells ⟨C, 0, none⟩ row.toList).run Tryz.prog V3 = .ok () (V3.setRow C row) := by
    rw [run_storeCells_at Tryz.prog C 0 53 row.toList 0 _ V3 q3 (by rw [Array.length_toList, hrowz]; simp) hone, Array.length_toList, hrowz]
    simp
  obtain ⟨V4, hV4⟩ : ∃ V4, V3.setRow C row = V4 := ⟨_, rfl⟩
  rw [hV4] at hst
  have q4 : V4.heap[C]? = some (.cells row 53 (0, 0)) := by rw [← hV4]; exact setRow_heap V3 C _ _ _ _ q3
  have s4 : V4.heap.size = C + 1 := by rw [← hV4, size_setRow]; exact s3
  have hl4 : (loadVar 53 ⟨C, 0, none⟩).run Tryz.prog V4 = .ok (.agg row) V4 := by
    have := load_part V4 C 0 53 _ _ _ _ row.toList q4 Tryz.underlying53 rfl (by rw [Array.length_toList, hrowz]; kernel_rfl) (fun j v hv => by rw [Nat.zero_add]; simpa using hv)
    simpa using this
  have d8 : V4.cell? ⟨C, 8, none⟩ = some (.slice da n dc) := by rw [cell_of_row V4 C _ _ _ _ q4, ← hrow, ers2]; rfl
  have hbl : Tryz.prog.built 55 [(0, .pointer (some ⟨jb, 0, none⟩)), (1, .pointer (some ⟨pb, 0, none⟩)), (2, .agg row), (3, .slice da n dc)] = some (prA jb pb rs rs (.slice none 0 0) (.slice da n dc)) := by rw [← hrow, ers2]; exact built_pr _ _ _ _ _ _ _ _ _ _ _ _
  have hprz : (prA jb pb rs rs (.slice none 0 0) (.slice da n dc)).size = 18 := by rw [prA, List.size_toArray, prL_len hrz hrz]
  have b24 : Below C V2 V4 := by
    rw [← hV4, ← hV3, ← hC]
    exact setRow_below ((Below.refl _ V2).alloc (Nat.le_refl _) _) (Nat.le_refl _) _
  obtain ⟨pr, hpr⟩ : ∃ pr, prA jb pb rs rs (.slice none 0 0) (.slice da n dc) = pr := ⟨_, rfl⟩
  have HE : Hid (BgTo n w (.returned (.pointer (some ⟨C + 1, 0, none⟩))) (V4.alloc (.cells pr 55))) := by
    have b25 : Below V2.heap.size V2 (V4.alloc (.cells pr 55)) := by rw [hC]; exact b24.alloc (by omega) _
    have b15 : Below w1.heap.size w1 (V4.alloc (.cells pr 55)) := hb2.trans (b25.mono hb2.size)
    have z1 := hb2.size
    have z5 : (V4.alloc (.cells pr 55)).heap.size = C + 2 := by simp [s4]
    have f2 : Fr (mor (fun _ => False) w1 V2) V2 (fun x => mor (fun _ => False) w1 (V4.alloc (.cells pr 55)) x ∧ x ≠ C + 1) (V4.alloc (.cells pr 55)) := by
      refine ⟨by omega, fun x hx => ?_, fun x hx hl => b25.block x hl⟩
      rcases hx with hx | ⟨h1, h2⟩
      · exact hx.elim
      · exact ⟨.inr ⟨h1, by omega⟩, by omega⟩
    refine ⟨C + 1, g, jb, pb, S, mor (fun _ => False) w1 (V4.alloc (.cells pr 55)), rs, rs, .slice none 0 0, .slice da n dc, rfl, H1.out.1.below b15, ?_, fun x hx => ?_, H1.out.2.trans (b15.mono H1.out.2.size)⟩
    · exact ⟨by rw [hpr, ← s4]; exact heap_alloc_new V4 _, hrz, hrz, hD.fr f2, hD.fr f2, Pts.none _ _ _, ⟨da, dc, ds, rfl, hd.fr f2⟩, .inr ⟨by omega, by omega⟩⟩
    · rcases hx with hx | ⟨h1, _⟩
      · exact hx.elim
      · exact Nat.le_trans H1.out.2.size h1
  rw [hpr] at hbl hprz
  clear HNW hD hb2 hrow ers hu hd ers2 hone q3 q4 hV4 b24 hpr H1
  go_wp2_with (first | (refine wpList_load_w (by kernel_rfl) _ _ rfl rfl hl4 ?_) | (refine wpList_pr rfl _ _ _ _ rfl _ _ _ _ pr hbl rfl rfl rfl rfl ?_))
  go_ret
  exact HE.out
end Go.Proofs.YtdgffocmdkadpaaGreat
namespace Go.Proofs.YtdgffocmdkadpaaGreat
open Go.RowKit Go.Shelf Pg
theorem ints_row {F : Nat → Prop} {w : World} {a : Option Addr} {n c : Nat} {l : List Nat} (h : Rw F w 3 1 a n c (intsV l)) (hn : 0 < n) : ∃ b o, a = some ⟨b, o, none⟩ ∧ b < w.heap.size ∧ ∀ i (hi : i < l.length), w.cell? ⟨b, o + i, none⟩ = some (.int .i64 (l[i] : Int)) := by
  obtain ⟨h1, h2, h3, h4⟩ := h
  obtain ⟨b, o, e, hb, hF, hc⟩ := h4 hn
  refine ⟨b, o, e, hb, fun i hi => hc i _ ?_⟩
  unfold intsV
  rw [List.getElem?_map, List.getElem?_eq_getElem hi]
  rfl
set_option maxRecDepth 100000 in
set_option maxHeartbeats 4000000 in
theorem rsameints_any {F : Nat → Prop} {w : World} {a a' : Option Addr} {n c c' : Nat} {l : List Nat} (h : Rw F w 3 1 a n c (intsV l)) (h' : Rw F w 3 1 a' n c' (intsV l)) (hn : n ≤ 1000) : Calls Tryz.prog 26 #[.slice a n c, .slice a' n c'] w fun e w' => e = .returned (.bool true) ∧ Below w.heap.size w w' := by
  have hll : l.length = n := by have := h.1; simpa [intsV] using this
  have hc1 := rw_cap h
  have hc2 := rw_cap h'
  obtain ⟨B, hB⟩ : ∃ B, w.heap.size = B := ⟨_, rfl⟩
  have HH : Hid (Rw F w 3 1 a n c (intsV l) ∧ Rw F w 3 1 a' n c' (intsV l)) := ⟨h, h'⟩
  clear h h'
  go_enter Tryz.func26, Tryz.ntmps26
  go_wp2
  go_loopw [5] (fun v wr => ∃ i : Nat, i ≤ n ∧ v = .int .i64 (i : Int) ∧ Below B w wr) (fun v _ => n - (intOf v).toNat)
  case atStart => exact ⟨0, by omega, rfl, hB ▸ Below.refl _ w⟩
  case round =>
    obtain ⟨i, hi, rfl, hbw⟩ := hrel
    by_cases hlt : i < n
    · have kk : (i : Int) < (n : Int) := by omega
      obtain ⟨b1, o1, rfl, hb1, hc1'⟩ := ints_row HH.out.1 (by omega)
      obtain ⟨b2, o2, rfl, hb2, hc2'⟩ := ints_row HH.out.2 (by omega)
      rw [hB] at hb1 hb2
      obtain ⟨x, hx⟩ : ∃ x, l[i]'(by omega) = x := ⟨_, rfl⟩
      have d1 : wr.cell? ⟨b1, o1 + i, none⟩ = some (.int .i64 (x : Int)) := by rw [hbw.cell hb1, hc1' i (by omega), hx]
      have d2 : wr.cell? ⟨b2, o2 + i, none⟩ = some (.int .i64 (x : Int)) := by rw [hbw.cell hb2, hc2' i (by omega), hx]
      have HB : Hid (Below B w wr.drew) := below_drew hbw
      clear hbw hc1' hc2' hx
      go_wp2
      go_region
      go_wp2
      exact ⟨⟨i + 1, by omega, by go_num, HB.out⟩, by simp [intOf]; omega⟩
    · obtain rfl : i = n := by omega
      have kk : ¬ (i : Int) < (i : Int) := by omega
      have HB : Hid (Below B w wr) := hbw
      clear hbw
      go_wp2
      go_ret
      exact ⟨rfl, by first | exact HB.out | (rw [hB]; exact HB.out)⟩
end Go.Proofs.YtdgffocmdkadpaaGreat
