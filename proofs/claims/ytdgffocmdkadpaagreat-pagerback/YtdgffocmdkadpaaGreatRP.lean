/- A walk over the statements' committed. -/
import Derived.Test.YtdgffocmdkadpaaGreatRN
namespace Go.Proofs.YtdgffocmdkadpaaGreat
open Go.RowKit Go.Shelf Pg
theorem mor_drew (F : Nat → Prop) (w : World) : mor F w w.drew = F := by
  funext x
  apply propext
  constructor
  · rintro (h | ⟨h1, h2⟩)
    · exact h
    · have : x < w.heap.size := h2
      omega
  · exact .inl
theorem Fr.drew (F : Nat → Prop) (w : World) : Fr F w F w.drew := ⟨Nat.le_refl _, fun _ h => h, fun _ _ _ => rfl⟩
section
variable {h0 : Nat} {F : Nat → Prop} {w : World} {S : Nat → Prop} {g : Nat} {D : Dk} {pb jb n : Nat} {X : Px} {zb jz : Nat} {gs ns : Array Value} {pv ov : Value}
theorem Ps.drew (h : Ps h0 F w S g D pb jb n X zb jz gs ns pv ov) : Ps h0 F w.drew S g D pb jb n X zb jz gs ns pv ov := by
  have := h.below (Below.refl _ w).drew
  rwa [mor_drew] at this
theorem DSt.ser {r : Array Value} (h : DSt F w n (.agg r)) (x : Int) : DSt F w n (.agg (r.setIfInBounds 6 (.int .u64 x))) ∧ ∃ y : Int, r[6]? = some (.int .u64 y) := by
  obtain ⟨ua, uc, da, dc, us, ds, r0, r1, r2, r3, ser, e, h1, h2⟩ := h
  cases e
  exact ⟨⟨ua, uc, da, dc, us, ds, r0, r1, r2, r3, x, rfl, h1, h2⟩, ser, rfl⟩
theorem prA_now1 (hg : gs.size = 7) (hn : ns.size = 7) (j : Nat) (hj : j < 7) (v : Value) : (prA jz pb gs ns pv ov).setIfInBounds (9 + j) v = prA jz pb gs (ns.setIfInBounds j v) pv ov := by
  have hl : ([Value.pointer (some ⟨jz, 0, none⟩), Value.pointer (some ⟨pb, 0, none⟩)] ++ gs.toList).length = 9 := by simp [hg]
  unfold prA prL
  rw [List.setIfInBounds_toArray, List.set_append_right _ _ (by omega), hl, List.set_append_left _ _ (by simp [hn]; omega), Nat.add_sub_cancel_left, Array.toList_setIfInBounds]
theorem Ps.ser (h : Ps h0 F w S g D pb jb n X zb jz gs ns pv ov) : ∃ y : Int, w.cell? ⟨zb, 15, none⟩ = some (.int .u64 y) ∧ ∀ x : Int, Ps h0 F (w.setCell ⟨zb, 15, none⟩ (.int .u64 x)) S g D pb jb n X zb jz gs (ns.setIfInBounds 6 (.int .u64 x)) pv ov ∧ Fr (but zb F) w (but zb F) (w.setCell ⟨zb, 15, none⟩ (.int .u64 x)) ∧ Below h0 w (w.setCell ⟨zb, 15, none⟩ (.int .u64 x)) := by
  obtain ⟨_, y, hy⟩ := h.z.s.ser 0
  refine ⟨y, ?_, fun x => ?_⟩
  · rw [cell_of_row _ zb _ _ _ _ h.z.c, ← hy]
    exact pr_now h.z.gz h.z.nz 6 (by omega)
  · refine h.turn ?_ (setCell_upd _ zb 15 _) (World.size_setCell ..) h.z.gz (by rw [Array.size_setIfInBounds]; exact h.z.nz) h.z.g (h.z.s.ser x).1 h.z.p h.z.o
    rw [heap_setCell_same w zb 15 _ _ _ h.z.c, ← prA_now1 h.z.gz h.z.nz 6 (by omega)]
theorem yields_pg {o : Oper} {a : Act} {w : World} (x y : Operand) (ho : o.op = .build 53 #[(0, x), (1, y)]) (rs row : Array Value) (hb : Tryz.prog.built 53 [(0, .agg rs), (1, .agg rs)] = some row) (hx : a.eval x = .agg rs) (hy : a.eval y = .agg rs) : (execOp a.eval o).run Tryz.prog w = .ok (.value (.agg row)) w := by
  have hr := run_build (P := Tryz.prog) w 53 #[(0, .agg rs), (1, .agg rs)] _ hb
  have e : (#[(0, x), (1, y)] : Array (Nat × Operand)).map (fun (i, x) => (i, a.eval x)) = #[(0, .agg rs), (1, .agg rs)] := by
    simp only [List.map_toArray, List.map_cons, List.map_nil, hx, hy]
  unfold execOp
  simp only [ho, Sem.run_bind, e, hr, Result.andThen_ok, Sem.run_pure]
theorem built_ds {rs : Array Value} (h : DSt F w n (.agg rs)) : Tryz.prog.built 53 [(0, .agg rs), (1, .agg rs)] = some (rs ++ rs ++ #[.slice none 0 0]) := by
  obtain ⟨ua, uc, da, dc, us, ds, r0, r1, r2, r3, ser, e, h1, h2⟩ := h
  cases e
  exact built_pg _ _ _ _ _ _ _
theorem own_apart {V : World} {m : Nat} {la : Option Addr} {lc : Nat} {l : List Nat} {base : Nat} {v : Value} (h : V.ownsRow base 3 1 (.slice la m lc) m (intsV l)) (hz : zb < base) (i : Nat) : (V.setCell ⟨zb, i, none⟩ v).ownsRow base 3 1 (.slice la m lc) m (intsV l) := own_keep h (fun k hk => heap_setCell_other _ _ _ _ (by have := (h.lt k hk).1; show k ≠ zb; omega))
set_option maxRecDepth 100000 in
set_option maxHeartbeats 16000000 in
theorem committed_any (h : Ps h0 F w S g D pb jb n X zb jz gs ns pv ov) : Calls Tryz.prog 59 #[.pointer (some ⟨zb, 0, none⟩)] w fun e w' => e = .returned (.tuple #[]) ∧ SpTo h0 F w g D pb jb n X zb jz w' := by
  obtain ⟨_, hn2, hn12⟩ := h.nn
  obtain ⟨oa, oc, os, rfl, ho⟩ := h.drew.z.o
  have HCH := rchanged_any (pv := pv) h.drew.z.g h.drew.z.s ho (by omega) (by omega)
  have HP : Hid (Ps h0 F w S g D pb jb n X zb jz gs ns pv (.slice oa n oc)) := h
  clear h ho
  go_enter Tryz.func59, Tryz.ntmps59
  go_wp2
  refine wp_region_held_drew (S := fun W => (loadVar 53 ⟨zb, 2, none⟩).run Tryz.prog W = .ok (pgR gs ns pv) W ∧ W.cell? ⟨zb, 17, none⟩ = some (.slice oa n oc)) (by kernel_rfl) (⟨HP.out.drew.z.lx, HP.out.drew.z.cells.2.2.2⟩) (fun hHeld => ?_)
  refine wpAnyH_take (i := 0) (v := ?va0) rfl (by kernel_rfl) (by kernel_rfl) (by kernel_rfl) (fun _ _ _ h => h) (Or.inl ⟨by first | kernel_rfl | rfl, ?ya0⟩) hHeld ?ra0
  case ya0 => (intro W hSW; (try dsimp only at hSW); go_simp; (try with_reducible rfl))
  change wpAnyH _ _ _ _ _ _ _ (Act.put _ (some 5) _) _
  simp only [Act.put, List.setIfInBounds_toArray, List.set_cons_zero, List.set_cons_succ]
  refine wpAnyH_take (i := 1) (v := ?va1) rfl (by kernel_rfl) (by kernel_rfl) (by kernel_rfl) (fun _ _ _ h => h) (Or.inl ⟨by first | kernel_rfl | rfl, ?ya1⟩) hHeld ?ra1
  case ya1 => (intro W hSW; (try dsimp only at hSW); go_simp; (try with_reducible rfl))
  change wpAnyH _ _ _ _ _ _ _ (Act.put _ (some 6) _) _
  simp only [Act.put, List.setIfInBounds_toArray, List.set_cons_zero, List.set_cons_succ]
  refine wpAnyH_take (i := 2) (v := ?va2) rfl (by kernel_rfl) (by kernel_rfl) (by kernel_rfl) (fun _ _ _ h => h) (Or.inl ⟨by first | kernel_rfl | rfl, ?ya2⟩) hHeld ?ra2
  case ya2 => (intro W hSW; (try dsimp only at hSW); go_simp; (try with_reducible rfl))
  change wpAnyH _ _ _ _ _ _ _ (Act.put _ (some 7) _) _
  simp only [Act.put, List.setIfInBounds_toArray, List.set_cons_zero, List.set_cons_succ]
  refine wpAnyH_take (i := 3) (v := pgR gs ns pv) rfl (by kernel_rfl) (by kernel_rfl) (by kernel_rfl) (fun _ _ _ h => h) (Or.inl ⟨by first | kernel_rfl | rfl, ?ya3⟩) hHeld ?ra3
  case ya3 => (intro W hSW; refine yields_at _ _ rfl rfl (hSW.1))
  change wpAnyH _ _ _ _ _ _ _ (Act.put _ (some 8) _) _
  simp only [Act.put, List.setIfInBounds_toArray, List.set_cons_zero, List.set_cons_succ]
  refine wpAnyH_take (i := 4) (v := ?va4) rfl (by kernel_rfl) (by kernel_rfl) (by kernel_rfl) (fun _ _ _ h => h) (Or.inl ⟨by first | kernel_rfl | rfl, ?ya4⟩) hHeld ?ra4
  case ya4 => (intro W hSW; (try dsimp only at hSW); go_simp; (try with_reducible rfl))
  change wpAnyH _ _ _ _ _ _ _ (Act.put _ (some 9) _) _
  simp only [Act.put, List.setIfInBounds_toArray, List.set_cons_zero, List.set_cons_succ]
  refine wpAnyH_take (i := 5) (v := ?va5) rfl (by kernel_rfl) (by kernel_rfl) (by kernel_rfl) (fun _ _ _ h => h) (Or.inl ⟨by first | kernel_rfl | rfl, ?ya5⟩) hHeld ?ra5
  case ya5 => (intro W hSW; (try dsimp only at hSW); go_simp; (try with_reducible rfl))
  change wpAnyH _ _ _ _ _ _ _ (Act.put _ (some 10) _) _
  simp only [Act.put, List.setIfInBounds_toArray, List.set_cons_zero, List.set_cons_succ]
  refine wpAnyH_take (i := 6) (v := ?va6) rfl (by kernel_rfl) (by kernel_rfl) (by kernel_rfl) (fun _ _ _ h => h) (Or.inl ⟨by first | kernel_rfl | rfl, ?ya6⟩) hHeld ?ra6
  case ya6 => (intro W hSW; (try dsimp only at hSW); go_simp; (try with_reducible rfl))
  change wpAnyH _ _ _ _ _ _ _ (Act.put _ (some 11) _) _
  simp only [Act.put, List.setIfInBounds_toArray, List.set_cons_zero, List.set_cons_succ]
  refine wpAnyH_take (i := 7) (v := ?va7) rfl (by kernel_rfl) (by kernel_rfl) (by kernel_rfl) (fun _ _ _ h => h) (Or.inl ⟨by first | kernel_rfl | rfl, ?ya7⟩) hHeld ?ra7
  case ya7 => (intro W hSW; (try dsimp only at hSW); go_simp; (try with_reducible rfl))
  change wpAnyH _ _ _ _ _ _ _ (Act.put _ (some 12) _) _
  simp only [Act.put, List.setIfInBounds_toArray, List.set_cons_zero, List.set_cons_succ]
  refine wpAnyH_ready (rs := [8]) (by kernel_rfl) (by simp) ?_
  refine AllReadyH.cons rfl (fun K hK => ?_) AllReadyH.nil
  go_simp
  refine (HCH).mono ?_
  rintro e V ⟨la, lc, l, rfl, hlx, hll, hol, hbV⟩
  refine hK.out _ _ (⟨(HP.out.drew.below hbV).z.lx, (HP.out.drew.below hbV).z.cells.2.2.2⟩) (fun hHeld => ?_)
  clear hK K
  try simp only [Act.put, List.setIfInBounds_toArray, List.set_cons_zero, List.set_cons_succ]
  refine wpAnyH_take (i := 9) (v := ?va9) rfl (by kernel_rfl) (by kernel_rfl) (by kernel_rfl) (fun _ _ _ h => h) (Or.inl ⟨by first | kernel_rfl | rfl, ?ya9⟩) hHeld ?ra9
  case ya9 => (intro W hSW; (try dsimp only at hSW); go_simp; (try with_reducible rfl))
  change wpAnyH _ _ _ _ _ _ _ (Act.put _ (some 2) _) _
  simp only [Act.put, List.setIfInBounds_toArray, List.set_cons_zero, List.set_cons_succ]
  refine wpAnyH_done (by kernel_rfl) ?_ _
  obtain ⟨m, hm⟩ : ∃ m, l.length = m := ⟨_, rfl⟩
  rw [hm]
  have hPV := HP.out.drew.below hbV
  have HVV : Hid (Ps h0 (mor F w.drew V) V S g D pb jb n X zb jz gs ns pv (.slice oa n oc) ∧ Fr (but zb F) w (but zb (mor F w.drew V)) V ∧ Below h0 w V ∧ V.ownsRow w.heap.size 3 1 (.slice la m lc) m (intsV l) ∧ (∀ x ∈ l, x < n) ∧ l.length = m) := ⟨hPV, (Fr.drew _ w).trans ((Fr.below hbV).but zb), ((Below.refl h0 w).drew).trans (hbV.mono HP.out.h0w), by rw [← hm]; exact hol, hlx, hm⟩
  have hzw := HP.out.z.lt
  have hmn : m ≤ 128 := by omega
  clear HCH hlx hll hol hbV hm hPV
  by_cases hm0 : m = 0
  · have hm1 : ¬ (0 : Int) < (m : Int) := by omega
    clear hm0
    have HV : Hid (Ps h0 (mor F w.drew V) V S g D pb jb n X zb jz gs ns pv (.slice oa n oc) ∧ Fr (but zb F) w (but zb (mor F w.drew V)) V ∧ Below h0 w V ∧ V.ownsRow w.heap.size 3 1 (.slice la m lc) m (intsV l) ∧ (∀ x ∈ l, x < n) ∧ l.length = m) := HVV.out
    have hcz := HV.out.1.z.cells.2.2.2
    obtain ⟨oa3, oc3, os3, eo3, ho3⟩ := HV.out.1.z.o
    cases eo3
    obtain ⟨a4, c4, V4, k1, k2, k3⟩ := app_strs V ho3 (by omega)
    have hzl := HV.out.1.z.lt
    obtain ⟨ob, hobl, rfl⟩ : ∃ ob, V.heap.size ≤ ob ∧ a4 = some ⟨ob, 0, none⟩ := by
      rcases k2.2 with ⟨h1, h2⟩ | ⟨g', cap', cur, e1, hb0, _⟩
      · omega
      · cases e1
        exact ⟨g', hb0, rfl⟩
    have hos : os3.length = n := by have := ho3.1; simpa [strsV] using this
    have hc4 : n ≤ c4 ∧ c4 ≤ 9223372036854775807 := by
      rcases k2.2 with ⟨h1, h2⟩ | ⟨g', cap', cur, e1, hb0, hr, h3, h4, _⟩
      · omega
      · cases e1
        unfold maxLen at h4
        omega
    have hlc : m ≤ lc ∧ lc ≤ 9223372036854775807 := rw_cap (Rw.own (G := fun _ => True) HV.out.2.2.2.1 (fun _ _ => trivial))
    have hb4 : Below V.heap.size V V4 := (Below.refl _ V).grown k3 (Nat.le_refl _) (fun k hk => by cases hk)
    have HV4 : Hid (V4.ownsRow V.heap.size 9 1 (.slice (some ⟨ob, 0, none⟩) n c4) n (strsV os3) ∧ Below V.heap.size V V4 ∧ os3.length = n ∧ ob < V4.heap.size) := ⟨k2, hb4, hos, (k2.lt ob rfl).2⟩
    clear k2 k3 ho3 hos hb4
    go_wp2_with ((at_builtin; refine wpList_app V rfl _ _ _ _ rfl rfl rfl (k1 _) ?_))
    go_loopw [4] (fun v4 wr => ∃ (i : Nat) (os2 : List ByteArray), i ≤ m ∧ v4 = .int .i64 (i : Int) ∧ os2.length = n ∧ wr.ownsRow V.heap.size 9 1 (.slice (some ⟨ob, 0, none⟩) n c4) n (strsV os2) ∧ Upd (fun x => x = ob) V4 wr ∧ wr.heap.size = V4.heap.size) (fun v _ => m - (intOf v).toNat)
    case atStart => exact ⟨0, os3, by omega, rfl, HV4.out.2.2.1, HV4.out.1, Upd.refl _ _, rfl⟩
    case round =>
      clear k1 hcz
      obtain ⟨i, os2, hi, rfl, ho2, hor, hup, hsz⟩ := hrel
      have hzl4 : zb < V4.heap.size := by have := HV4.out.2.1.size; omega
      by_cases hlt : i < m
      · have kk : (i : Int) < (m : Int) := by omega
        obtain ⟨lb, lo, rfl, hlbl, hlcs⟩ := ints_row (Rw.own (G := fun _ => True) HV.out.2.2.2.1 (fun _ _ => trivial)) (by omega)
        have hli : i < l.length := by rw [HV.out.2.2.2.2.2]; exact hlt
        have hcl : wr.cell? ⟨lb, lo + i, none⟩ = some (.int .i64 ((l[i] : Nat) : Int)) := by
          rw [← hlcs i hli]
          exact cell_blk ((hup.block lb (by have := HV4.out.2.1.size; show lb < _; omega) (by show ¬ lb = ob; omega)).trans (HV4.out.2.1.block lb hlbl))
        have hxn : l[i] < n := HV.out.2.2.2.2.1 _ (List.getElem_mem hli)
        obtain ⟨x, hx⟩ : ∃ x, l[i] = x := ⟨_, rfl⟩
        rw [hx] at hcl hxn
        by_cases hx0 : x = 0
        · subst hx0
          have HK : Hid (os2.length = n ∧ wr.ownsRow V.heap.size 9 1 (.slice (some ⟨ob, 0, none⟩) n c4) n (strsV os2) ∧ Upd (fun x => x = ob) V4 wr ∧ wr.heap.size = V4.heap.size) := ⟨ho2, hor, hup, hsz⟩
          clear ho2 hor hup hsz hx
          go_wp2
          exact ⟨⟨i + 1, os2, by omega, by go_num, HK.out⟩, by simp [intOf]; omega⟩
        · have hx1 : 0 < x := by omega
          have kx1 : decide ((0 : Int) < (x : Int)) = true := by simp; omega
          have kx2 : (0 : Int) < (x : Int) := by omega
          have kxn : (x : Int) < (n : Int) := by omega
          obtain ⟨db, dO, dc, hd1, hdbl, hdc1, hdc2, hdcs⟩ := HV.out.1.z.s.data (by omega)
          obtain ⟨s, hds⟩ := hdcs x hxn
          have cz : wr.cell? ⟨zb, 10, none⟩ = some (.slice (some ⟨db, dO, none⟩) n dc) := by
            rw [cell_blk ((hup.block zb hzl4 (by show ¬ zb = ob; omega)).trans (HV4.out.2.1.block zb hzl)), cell_of_row _ zb _ _ _ _ HV.out.1.z.c, ← hd1]
            exact pr_now HV.out.1.z.gz HV.out.1.z.nz 1 (by omega)
          have cd : wr.cell? ⟨db, dO + x, none⟩ = some (.string s) := by
            rw [← hds]
            exact cell_blk ((hup.block db (by have := HV4.out.2.1.size; omega) (by show ¬ db = ob; omega)).trans (HV4.out.2.1.block db hdbl))
          have eo : wr.cell? ⟨ob, x, none⟩ = some (.string (os2.getD x ByteArray.empty)) := own_at hor (by rw [strsV_at, List.getElem?_eq_getElem (by omega), List.getD_eq_getElem?_getD, List.getElem?_eq_getElem (by omega)]; rfl)
          have fo := hor.frozenAt x
          have HS : Hid (∀ W : World, W = wr.drew.setCell ⟨ob, x, none⟩ (.string s) → W.cell? ⟨lb, lo + i, none⟩ = some (.int .i64 (x : Int)) ∧ W.cell? ⟨zb, 10, none⟩ = some (.slice (some ⟨db, dO, none⟩) n dc) ∧ W.cell? ⟨db, dO + x, none⟩ = some (.string s)) := fun W hW => by
            subst hW
            refine ⟨?_, ?_, ?_⟩
            · rw [← hcl]; exact cell_blk (heap_setCell_other _ _ _ _ (by show lb ≠ ob; omega))
            · rw [← cz]; exact cell_blk (heap_setCell_other _ _ _ _ (by show zb ≠ ob; omega))
            · rw [← cd]; exact cell_blk (heap_setCell_other _ _ _ _ (by show db ≠ ob; omega))
          have HK : Hid ((os2.set x s).length = n ∧ (wr.drew.setCell ⟨ob, x, none⟩ (.string s)).ownsRow V.heap.size 9 1 (.slice (some ⟨ob, 0, none⟩) n c4) n (strsV (os2.set x s)) ∧ Upd (fun x => x = ob) V4 (wr.drew.setCell ⟨ob, x, none⟩ (.string s)) ∧ (wr.drew.setCell ⟨ob, x, none⟩ (.string s)).heap.size = V4.heap.size) := by
            have hor2 : wr.drew.ownsRow V.heap.size 9 1 (.slice (some ⟨ob, 0, none⟩) n c4) n (strsV os2) := own_keep hor (fun _ _ => rfl)
            refine ⟨by rw [List.length_set]; exact ho2, by rw [← strsV_set]; exact own_put2 hor2 x (.string s), Upd.setCell (p := ⟨ob, x, none⟩) hup.drew (fun _ => rfl) _, by rw [World.size_setCell]; exact hsz⟩
          have cl := hcl
          clear ho2 hor hup hsz hx hlcs hds hd1 hdcs hcl
          go_wp2
          refine wp_region_held_drew (S := fun W => W.cell? ⟨lb, lo + i, none⟩ = some (.int .i64 (x : Int)) ∧ W.cell? ⟨zb, 10, none⟩ = some (.slice (some ⟨db, dO, none⟩) n dc) ∧ W.cell? ⟨db, dO + x, none⟩ = some (.string s)) (by kernel_rfl) (⟨cl, cz, cd⟩) (fun hHeld => ?_)
          refine wpAnyH_take (i := 0) (v := ?vAn0) rfl (by kernel_rfl) (by kernel_rfl) (by kernel_rfl) (fun _ _ _ h => h) (Or.inl ⟨by first | kernel_rfl | rfl, ?yAn0⟩) hHeld ?rAn0
          case yAn0 => (intro W hSW; (try dsimp only at hSW); go_simp; (try with_reducible rfl))
          change wpAnyH _ _ _ _ _ _ _ (Act.put _ (some 46) _) _
          simp only [Act.put, List.setIfInBounds_toArray, List.set_cons_zero, List.set_cons_succ]
          refine wpAnyH_take (i := 1) (v := ?vAn1) rfl (by kernel_rfl) (by kernel_rfl) (by kernel_rfl) (fun _ _ _ h => h) (Or.inl ⟨by first | kernel_rfl | rfl, ?yAn1⟩) hHeld ?rAn1
          case yAn1 => (intro W hSW; (try dsimp only at hSW); go_simp; (try with_reducible rfl))
          change wpAnyH _ _ _ _ _ _ _ (Act.put _ (some 47) _) _
          simp only [Act.put, List.setIfInBounds_toArray, List.set_cons_zero, List.set_cons_succ]
          refine wpAnyH_take (i := 2) (v := ?vAn2) rfl (by kernel_rfl) (by kernel_rfl) (by kernel_rfl) (fun _ _ _ h => h) (Or.inl ⟨by first | kernel_rfl | rfl, ?yAn2⟩) hHeld ?rAn2
          case yAn2 => (intro W hSW; (try dsimp only at hSW); go_simp; (try with_reducible rfl))
          change wpAnyH _ _ _ _ _ _ _ (Act.put _ (some 48) _) _
          simp only [Act.put, List.setIfInBounds_toArray, List.set_cons_zero, List.set_cons_succ]
          refine wpAnyH_take (i := 3) (v := ?vAn3) rfl (by kernel_rfl) (by kernel_rfl) (by kernel_rfl) (fun _ _ _ h => h) (Or.inl ⟨by first | kernel_rfl | rfl, ?yAn3⟩) hHeld ?rAn3
          case yAn3 => (intro W hSW; (try dsimp only at hSW); go_simp; (try with_reducible rfl))
          change wpAnyH _ _ _ _ _ _ _ (Act.put _ (some 49) _) _
          simp only [Act.put, List.setIfInBounds_toArray, List.set_cons_zero, List.set_cons_succ]
          refine wpAnyH_take (i := 4) (v := ?vAn4) rfl (by kernel_rfl) (by kernel_rfl) (by kernel_rfl) (fun _ _ _ h => h) (Or.inl ⟨by first | kernel_rfl | rfl, ?yAn4⟩) hHeld ?rAn4
          case yAn4 => (intro W hSW; (try dsimp only at hSW); go_simp; (try with_reducible rfl))
          change wpAnyH _ _ _ _ _ _ _ (Act.put _ (some 50) _) _
          simp only [Act.put, List.setIfInBounds_toArray, List.set_cons_zero, List.set_cons_succ]
          refine wpAnyH_take (i := 5) (v := ?vAn5) rfl (by kernel_rfl) (by kernel_rfl) (by kernel_rfl) (fun _ _ _ h => h) (Or.inl ⟨by first | kernel_rfl | rfl, ?yAn5⟩) hHeld ?rAn5
          case yAn5 => (intro W hSW; (try dsimp only at hSW); go_simp; (try with_reducible rfl))
          change wpAnyH _ _ _ _ _ _ _ (Act.put _ (some 51) _) _
          simp only [Act.put, List.setIfInBounds_toArray, List.set_cons_zero, List.set_cons_succ]
          refine wpAnyH_take (i := 6) (v := ?vAn6) rfl (by kernel_rfl) (by kernel_rfl) (by kernel_rfl) (fun _ _ _ h => h) (Or.inl ⟨by first | kernel_rfl | rfl, ?yAn6⟩) hHeld ?rAn6
          case yAn6 => (intro W hSW; (try dsimp only at hSW); go_simp; (try with_reducible rfl))
          change wpAnyH _ _ _ _ _ _ _ (Act.put _ (some 52) _) _
          simp only [Act.put, List.setIfInBounds_toArray, List.set_cons_zero, List.set_cons_succ]
          refine wpAnyH_take (i := 7) (v := ?vAn7) rfl (by kernel_rfl) (by kernel_rfl) (by kernel_rfl) (fun _ _ _ h => h) (Or.inl ⟨by first | kernel_rfl | rfl, ?yAn7⟩) hHeld ?rAn7
          case yAn7 => (intro W hSW; (try dsimp only at hSW); go_simp; (try with_reducible rfl))
          change wpAnyH _ _ _ _ _ _ _ (Act.put _ (some 53) _) _
          simp only [Act.put, List.setIfInBounds_toArray, List.set_cons_zero, List.set_cons_succ]
          refine wpAnyH_take (i := 8) (v := ?vAn8) rfl (by kernel_rfl) (by kernel_rfl) (by kernel_rfl) (fun _ _ _ h => h) (Or.inl ⟨by first | kernel_rfl | rfl, ?yAn8⟩) hHeld ?rAn8
          case yAn8 => (intro W hSW; (try dsimp only at hSW); go_simp; (try with_reducible rfl))
          change wpAnyH _ _ _ _ _ _ _ (Act.put _ (some 54) _) _
          simp only [Act.put, List.setIfInBounds_toArray, List.set_cons_zero, List.set_cons_succ]
          refine wpAnyH_take (i := 9) (v := ?vAn9) rfl (by kernel_rfl) (by kernel_rfl) (by kernel_rfl) (fun _ _ _ h => h) (Or.inl ⟨by first | kernel_rfl | rfl, ?yAn9⟩) hHeld ?rAn9
          case yAn9 => (intro W hSW; (try dsimp only at hSW); go_simp; (try with_reducible rfl))
          change wpAnyH _ _ _ _ _ _ _ (Act.put _ (some 55) _) _
          simp only [Act.put, List.setIfInBounds_toArray, List.set_cons_zero, List.set_cons_succ]
          refine wpAnyH_take (i := 10) (v := ?vAn10) rfl (by kernel_rfl) (by kernel_rfl) (by kernel_rfl) (fun _ _ _ h => h) (Or.inl ⟨by first | kernel_rfl | rfl, ?yAn10⟩) hHeld ?rAn10
          case yAn10 => (intro W hSW; (try dsimp only at hSW); go_simp; (try with_reducible rfl))
          change wpAnyH _ _ _ _ _ _ _ (Act.put _ (some 56) _) _
          simp only [Act.put, List.setIfInBounds_toArray, List.set_cons_zero, List.set_cons_succ]
          refine wpAnyH_take (i := 11) (v := ?vAn11) rfl (by kernel_rfl) (by kernel_rfl) (by kernel_rfl) (fun _ _ _ h => h) (Or.inl ⟨by first | kernel_rfl | rfl, ?yAn11⟩) hHeld ?rAn11
          case yAn11 => (intro W hSW; (try dsimp only at hSW); go_simp; (try with_reducible rfl))
          change wpAnyH _ _ _ _ _ _ _ (Act.put _ (some 57) _) _
          simp only [Act.put, List.setIfInBounds_toArray, List.set_cons_zero, List.set_cons_succ]
          refine wpAnyH_take (i := 12) (v := ?vAn12) rfl (by kernel_rfl) (by kernel_rfl) (by kernel_rfl) (fun _ _ _ h => h) (Or.inl ⟨by first | kernel_rfl | rfl, ?yAn12⟩) hHeld ?rAn12
          case yAn12 => (intro W hSW; (try dsimp only at hSW); go_simp; (try with_reducible rfl))
          change wpAnyH _ _ _ _ _ _ _ (Act.put _ (some 58) _) _
          simp only [Act.put, List.setIfInBounds_toArray, List.set_cons_zero, List.set_cons_succ]
          refine wpAnyH_take (i := 13) (v := ?vAn13) rfl (by kernel_rfl) (by kernel_rfl) (by kernel_rfl) (fun _ _ _ h => h) (Or.inl ⟨by first | kernel_rfl | rfl, ?yAn13⟩) hHeld ?rAn13
          case yAn13 => (intro W hSW; (try dsimp only at hSW); go_simp; (try with_reducible rfl))
          change wpAnyH _ _ _ _ _ _ _ (Act.put _ (some 59) _) _
          simp only [Act.put, List.setIfInBounds_toArray, List.set_cons_zero, List.set_cons_succ]
          refine wpAnyH_take (i := 14) (v := ?vAn14) rfl (by kernel_rfl) (by kernel_rfl) (by kernel_rfl) (fun _ _ _ h => h) (Or.inl ⟨by first | kernel_rfl | rfl, ?yAn14⟩) hHeld ?rAn14
          case yAn14 => (intro W hSW; (try dsimp only at hSW); go_simp; (try with_reducible rfl))
          change wpAnyH _ _ _ _ _ _ _ (Act.put _ (some 60) _) _
          simp only [Act.put, List.setIfInBounds_toArray, List.set_cons_zero, List.set_cons_succ]
          refine wpAnyH_take (i := 15) (v := ?vAn15) rfl (by kernel_rfl) (by kernel_rfl) (by kernel_rfl) (fun _ _ _ h => h) (Or.inl ⟨by first | kernel_rfl | rfl, ?yAn15⟩) hHeld ?rAn15
          case yAn15 => (intro W hSW; (try dsimp only at hSW); go_simp; (try with_reducible rfl))
          change wpAnyH _ _ _ _ _ _ _ (Act.put _ (some 61) _) _
          simp only [Act.put, List.setIfInBounds_toArray, List.set_cons_zero, List.set_cons_succ]
          refine wpAnyH_take (i := 16) (v := ?vAn16) rfl (by kernel_rfl) (by kernel_rfl) (by kernel_rfl) (fun _ _ _ h => h) (Or.inl ⟨by first | kernel_rfl | rfl, ?yAn16⟩) hHeld ?rAn16
          case yAn16 => (intro W hSW; (try dsimp only at hSW); go_simp; (try with_reducible rfl))
          change wpAnyH _ _ _ _ _ _ _ (Act.put _ (some 62) _) _
          simp only [Act.put, List.setIfInBounds_toArray, List.set_cons_zero, List.set_cons_succ]
          refine wpAnyH_take (i := 17) (v := ?vAn17) rfl (by kernel_rfl) (by kernel_rfl) (by kernel_rfl) (fun _ _ _ h => h) (Or.inl ⟨by first | kernel_rfl | rfl, ?yAn17⟩) hHeld ?rAn17
          case yAn17 => (intro W hSW; (try dsimp only at hSW); go_simp; (try with_reducible rfl))
          change wpAnyH _ _ _ _ _ _ _ (Act.put _ (some 63) _) _
          simp only [Act.put, List.setIfInBounds_toArray, List.set_cons_zero, List.set_cons_succ]
          refine wpAnyH_ready (rs := [18]) (by kernel_rfl) (by simp) ?_
          refine AllReadyH.cons rfl (fun K hK => ?_) AllReadyH.nil
          go_simp
          refine hK.out _ _ (HS.out _ rfl) (fun hHeld => ?_)
          clear hK K
          refine wpAnyH_done (by kernel_rfl) ?_ _
          go_wp2
          exact ⟨⟨i + 1, os2.set x s, by omega, by go_num, HK.out⟩, by simp [intOf]; omega⟩
      · obtain rfl : i = m := by omega
        have kk : ¬ (i : Int) < (i : Int) := by omega
        have hfr : Fr (mor F w.drew V) V (mor (mor F w.drew V) V V4) wr := ⟨by have := HV4.out.2.1.size; omega, fun x hx => .inl hx, fun x hx hl => (hup.block x (by have := HV4.out.2.1.size; omega) (by show ¬ x = ob; omega)).trans (HV4.out.2.1.block x hl)⟩
        have hPr : Ps h0 (mor (mor F w.drew V) V V4) wr S g D pb jb n X zb jz gs ns pv (.slice oa n oc) := ⟨(HV.out.1.p.below HV4.out.2.1).turnF (b := ob) (.inr ⟨hobl, HV4.out.2.2.2⟩) hup hsz, HV.out.1.z.fr hfr, HV.out.1.h⟩
        have hOl : Old (but zb (mor (mor F w.drew V) V V4)) wr n (.slice (some ⟨ob, 0, none⟩) n c4) := ⟨_, _, os2, rfl, (Rw.own (G := fun x => V.heap.size ≤ x) hor (fun x hx => hx)).mono (fun x hx hl => ⟨.inr ⟨hx, by omega⟩, by omega⟩)⟩
        have hP5 := hPr.old hOl
        obtain ⟨W5, hW5⟩ : ∃ W5, wr.setCell ⟨zb, 17, none⟩ (.slice (some ⟨ob, 0, none⟩) n c4) = W5 := ⟨_, rfl⟩
        rw [hW5] at hP5
        have hP6 := hP5.1.drew
        have hone : ∀ u ∈ (ns ++ ns ++ #[.slice none 0 0] : Array Value).toList, u.oneCell' = true := fun u hu => by
          have ha := hP6.z.s.agg
          obtain ⟨rs, e, _, ho⟩ := ha
          cases e
          simp only [Array.toList_append, List.mem_append] at hu
          rcases hu with (hu | hu) | hu
          · exact ho u hu
          · exact ho u hu
          · obtain rfl := List.mem_singleton.1 hu; rfl
        have hst := hP6.z.store_x hP6.z.nz hP6.z.nz hone
        have hP7 := hP6.allx hP6.z.nz hP6.z.nz hP6.z.s hP6.z.s (Pts.none _ _ _)
        have hbl : Tryz.prog.built 53 [(0, .agg ns), (1, .agg ns)] = some (ns ++ ns ++ #[.slice none 0 0]) := built_ds hP6.z.s
        obtain ⟨row, hrow⟩ : ∃ row, ns ++ ns ++ #[.slice none 0 0] = row := ⟨_, rfl⟩
        rw [hrow] at hst hbl
        have hrowz : row.size = 15 := by rw [← hrow]; simp [hP6.z.nz]
        obtain ⟨W7, hW7⟩ : ∃ W7, W5.drew.setRow zb (prA jz pb ns ns (.slice none 0 0) (.slice (some ⟨ob, 0, none⟩) n c4)) = W7 := ⟨_, rfl⟩
        rw [hW7] at hst hP7
        have c17 := hPr.z.cells.2.2.2
        have f17 := hPr.z.fro 17
        have HP6 : Hid (Ps h0 (mor (mor F w.drew V) V V4) W5.drew S g D pb jb n X zb jz gs ns pv (.slice (some ⟨ob, 0, none⟩) n c4) ∧ True) := ⟨hP6, trivial⟩
        have HP7 : Hid (Ps h0 (mor (mor F w.drew V) V V4) W7 S g D pb jb n X zb jz ns ns (.slice none 0 0) (.slice (some ⟨ob, 0, none⟩) n c4) ∧ SpTo h0 F w g D pb jb n X zb jz W7) := by
          refine ⟨hP7.1, mor (mor F w.drew V) V V4, ⟨S, ns, ns, _, _, hP7.1⟩, (HV.out.2.1.trans (hfr.but zb)).trans (hP5.2.1.trans (Fr.trans (Fr.drew _ W5) hP7.2.1)), ?_⟩
          have hb1 : Below h0 V wr := (HV4.out.2.1.mono HV.out.1.h0w).trans (hup.below (Nat.le_trans HV.out.1.h0w HV4.out.2.1.size) (fun k hk => by rw [show k = ob from hk]; exact Nat.le_trans HV.out.1.h0w hobl))
          exact ((HV.out.2.2.1.trans hb1).trans hP5.2.2).trans (((Below.refl h0 W5).drew).trans hP7.2.2)
        clear ho2 hor hup hsz hfr hPr hOl hP5 hP6 hone hP7 hrow hW7
        go_wp2
        refine wp_region_held_drew (S := fun W => (loadVar 42 ⟨zb, 9, none⟩).run Tryz.prog W = .ok (.agg ns) W) (by kernel_rfl) (HP6.out.1.z.lnow) (fun hHeld => ?_)
        refine wpAnyH_take (i := 0) (v := ?vAe0) rfl (by kernel_rfl) (by kernel_rfl) (by kernel_rfl) (fun _ _ _ h => h) (Or.inl ⟨by first | kernel_rfl | rfl, ?yAe0⟩) hHeld ?rAe0
        case yAe0 => (intro W hSW; (try dsimp only at hSW); go_simp; (try with_reducible rfl))
        change wpAnyH _ _ _ _ _ _ _ (Act.put _ (some 68) _) _
        simp only [Act.put, List.setIfInBounds_toArray, List.set_cons_zero, List.set_cons_succ]
        refine wpAnyH_take (i := 1) (v := ?vAe1) rfl (by kernel_rfl) (by kernel_rfl) (by kernel_rfl) (fun _ _ _ h => h) (Or.inl ⟨by first | kernel_rfl | rfl, ?yAe1⟩) hHeld ?rAe1
        case yAe1 => (intro W hSW; (try dsimp only at hSW); go_simp; (try with_reducible rfl))
        change wpAnyH _ _ _ _ _ _ _ (Act.put _ (some 69) _) _
        simp only [Act.put, List.setIfInBounds_toArray, List.set_cons_zero, List.set_cons_succ]
        refine wpAnyH_take (i := 2) (v := ?vAe2) rfl (by kernel_rfl) (by kernel_rfl) (by kernel_rfl) (fun _ _ _ h => h) (Or.inl ⟨by first | kernel_rfl | rfl, ?yAe2⟩) hHeld ?rAe2
        case yAe2 => (intro W hSW; (try dsimp only at hSW); go_simp; (try with_reducible rfl))
        change wpAnyH _ _ _ _ _ _ _ (Act.put _ (some 70) _) _
        simp only [Act.put, List.setIfInBounds_toArray, List.set_cons_zero, List.set_cons_succ]
        refine wpAnyH_take (i := 3) (v := ?vAe3) rfl (by kernel_rfl) (by kernel_rfl) (by kernel_rfl) (fun _ _ _ h => h) (Or.inl ⟨by first | kernel_rfl | rfl, ?yAe3⟩) hHeld ?rAe3
        case yAe3 => (intro W hSW; (try dsimp only at hSW); go_simp; (try with_reducible rfl))
        change wpAnyH _ _ _ _ _ _ _ (Act.put _ (some 71) _) _
        simp only [Act.put, List.setIfInBounds_toArray, List.set_cons_zero, List.set_cons_succ]
        refine wpAnyH_take (i := 4) (v := ?vAe4) rfl (by kernel_rfl) (by kernel_rfl) (by kernel_rfl) (fun _ _ _ h => h) (Or.inl ⟨by first | kernel_rfl | rfl, ?yAe4⟩) hHeld ?rAe4
        case yAe4 => (intro W hSW; (try dsimp only at hSW); go_simp; (try with_reducible rfl))
        change wpAnyH _ _ _ _ _ _ _ (Act.put _ (some 72) _) _
        simp only [Act.put, List.setIfInBounds_toArray, List.set_cons_zero, List.set_cons_succ]
        refine wpAnyH_take (i := 5) (v := .agg ns) rfl (by kernel_rfl) (by kernel_rfl) (by kernel_rfl) (fun _ _ _ h => h) (Or.inl ⟨by first | kernel_rfl | rfl, ?yAe5⟩) hHeld ?rAe5
        case yAe5 => (intro W hSW; refine yields_at _ _ rfl rfl (hSW))
        change wpAnyH _ _ _ _ _ _ _ (Act.put _ (some 73) _) _
        simp only [Act.put, List.setIfInBounds_toArray, List.set_cons_zero, List.set_cons_succ]
        refine wpAnyH_take (i := 6) (v := ?vAe6) rfl (by kernel_rfl) (by kernel_rfl) (by kernel_rfl) (fun _ _ _ h => h) (Or.inl ⟨by first | kernel_rfl | rfl, ?yAe6⟩) hHeld ?rAe6
        case yAe6 => (intro W hSW; (try dsimp only at hSW); go_simp; (try with_reducible rfl))
        change wpAnyH _ _ _ _ _ _ _ (Act.put _ (some 74) _) _
        simp only [Act.put, List.setIfInBounds_toArray, List.set_cons_zero, List.set_cons_succ]
        refine wpAnyH_take (i := 7) (v := ?vAe7) rfl (by kernel_rfl) (by kernel_rfl) (by kernel_rfl) (fun _ _ _ h => h) (Or.inl ⟨by first | kernel_rfl | rfl, ?yAe7⟩) hHeld ?rAe7
        case yAe7 => (intro W hSW; (try dsimp only at hSW); go_simp; (try with_reducible rfl))
        change wpAnyH _ _ _ _ _ _ _ (Act.put _ (some 75) _) _
        simp only [Act.put, List.setIfInBounds_toArray, List.set_cons_zero, List.set_cons_succ]
        refine wpAnyH_take (i := 8) (v := ?vAe8) rfl (by kernel_rfl) (by kernel_rfl) (by kernel_rfl) (fun _ _ _ h => h) (Or.inl ⟨by first | kernel_rfl | rfl, ?yAe8⟩) hHeld ?rAe8
        case yAe8 => (intro W hSW; (try dsimp only at hSW); go_simp; (try with_reducible rfl))
        change wpAnyH _ _ _ _ _ _ _ (Act.put _ (some 76) _) _
        simp only [Act.put, List.setIfInBounds_toArray, List.set_cons_zero, List.set_cons_succ]
        refine wpAnyH_take (i := 9) (v := ?vAe9) rfl (by kernel_rfl) (by kernel_rfl) (by kernel_rfl) (fun _ _ _ h => h) (Or.inl ⟨by first | kernel_rfl | rfl, ?yAe9⟩) hHeld ?rAe9
        case yAe9 => (intro W hSW; (try dsimp only at hSW); go_simp; (try with_reducible rfl))
        change wpAnyH _ _ _ _ _ _ _ (Act.put _ (some 77) _) _
        simp only [Act.put, List.setIfInBounds_toArray, List.set_cons_zero, List.set_cons_succ]
        refine wpAnyH_take (i := 10) (v := .agg ns) rfl (by kernel_rfl) (by kernel_rfl) (by kernel_rfl) (fun _ _ _ h => h) (Or.inl ⟨by first | kernel_rfl | rfl, ?yAe10⟩) hHeld ?rAe10
        case yAe10 => (intro W hSW; refine yields_at _ _ rfl rfl (hSW))
        change wpAnyH _ _ _ _ _ _ _ (Act.put _ (some 78) _) _
        simp only [Act.put, List.setIfInBounds_toArray, List.set_cons_zero, List.set_cons_succ]
        refine wpAnyH_take (i := 11) (v := .agg row) rfl (by kernel_rfl) (by kernel_rfl) (by kernel_rfl) (fun _ _ _ h => h) (Or.inl ⟨by first | kernel_rfl | rfl, ?yAe11⟩) hHeld ?rAe11
        case yAe11 => (intro W hSW; exact yields_pg _ _ rfl _ _ hbl rfl rfl)
        change wpAnyH _ _ _ _ _ _ _ (Act.put _ (some 79) _) _
        simp only [Act.put, List.setIfInBounds_toArray, List.set_cons_zero, List.set_cons_succ]
        refine wpAnyH_take (i := 12) (v := ?vAe12) rfl (by kernel_rfl) (by kernel_rfl) (by kernel_rfl) (fun _ _ _ h => h) (Or.inl ⟨by first | kernel_rfl | rfl, ?yAe12⟩) hHeld ?rAe12
        case yAe12 => (intro W hSW; (try dsimp only at hSW); go_simp; (try with_reducible rfl))
        change wpAnyH _ _ _ _ _ _ _ (Act.put _ (some 80) _) _
        simp only [Act.put, List.setIfInBounds_toArray, List.set_cons_zero, List.set_cons_succ]
        refine wpAnyH_take (i := 13) (v := ?vAe13) rfl (by kernel_rfl) (by kernel_rfl) (by kernel_rfl) (fun _ _ _ h => h) (Or.inl ⟨by first | kernel_rfl | rfl, ?yAe13⟩) hHeld ?rAe13
        case yAe13 => (intro W hSW; (try dsimp only at hSW); go_simp; (try with_reducible rfl))
        change wpAnyH _ _ _ _ _ _ _ (Act.put _ (some 81) _) _
        simp only [Act.put, List.setIfInBounds_toArray, List.set_cons_zero, List.set_cons_succ]
        refine wpAnyH_ready (rs := [14]) (by kernel_rfl) (by simp) ?_
        refine AllReadyH.cons rfl (fun K hK => ?_) AllReadyH.nil
        go_simp
        refine hK.out _ _ (HP7.out.1.z.lnow) (fun hHeld => ?_)
        clear hK K
        refine wpAnyH_done (by kernel_rfl) ?_ _
        go_wp2
        refine bodyPost_end (v := .tuple #[]) ?_ rfl ⟨rfl, HP7.out.2⟩
        simp [results, go_sem]
  · have hm1 : (0 : Int) < (m : Int) := by omega
    have hm2 : 0 < m := by omega
    obtain ⟨y, c15, hser⟩ := HVV.out.1.ser
    have f15 := HVV.out.1.z.fro 15
    obtain ⟨y2, hy2⟩ : ∃ y2, IntKind.u64.wrap (y + 1) = y2 := ⟨_, rfl⟩
    have hs2 := hser y2
    obtain ⟨VV, hVV⟩ : ∃ VV, V.setCell ⟨zb, 15, none⟩ (.int .u64 y2) = VV := ⟨_, rfl⟩
    obtain ⟨ns2, hns2⟩ : ∃ ns2, ns.setIfInBounds 6 (.int .u64 y2) = ns2 := ⟨_, rfl⟩
    obtain ⟨F2, hF2⟩ : ∃ F2, mor F w.drew V = F2 := ⟨_, rfl⟩
    have HVV : Hid (Ps h0 F2 VV S g D pb jb n X zb jz gs ns2 pv (.slice oa n oc) ∧ Fr (but zb F) w (but zb F2) VV ∧ Below h0 w VV ∧ VV.ownsRow w.heap.size 3 1 (.slice la m lc) m (intsV l) ∧ (∀ x ∈ l, x < n) ∧ l.length = m) := by
      have h9 := HVV.out
      rw [hVV, hns2, hF2] at hs2
      rw [hF2] at h9
      exact ⟨hs2.1, h9.2.1.trans hs2.2.1, h9.2.2.1.trans hs2.2.2, by rw [← hVV]; exact own_apart h9.2.2.2.1 hzw 15, h9.2.2.2.2⟩
    clear hser hs2 hns2 hF2
    have HV : Hid (Ps h0 F2 VV S g D pb jb n X zb jz gs ns2 pv (.slice oa n oc) ∧ Fr (but zb F) w (but zb F2) VV ∧ Below h0 w VV ∧ VV.ownsRow w.heap.size 3 1 (.slice la m lc) m (intsV l) ∧ (∀ x ∈ l, x < n) ∧ l.length = m) := HVV.out
    have hcz := HV.out.1.z.cells.2.2.2
    obtain ⟨oa3, oc3, os3, eo3, ho3⟩ := HV.out.1.z.o
    cases eo3
    obtain ⟨a4, c4, V4, k1, k2, k3⟩ := app_strs VV ho3 (by omega)
    have hzl := HV.out.1.z.lt
    obtain ⟨ob, hobl, rfl⟩ : ∃ ob, VV.heap.size ≤ ob ∧ a4 = some ⟨ob, 0, none⟩ := by
      rcases k2.2 with ⟨h1, h2⟩ | ⟨g', cap', cur, e1, hb0, _⟩
      · omega
      · cases e1
        exact ⟨g', hb0, rfl⟩
    have hos : os3.length = n := by have := ho3.1; simpa [strsV] using this
    have hc4 : n ≤ c4 ∧ c4 ≤ 9223372036854775807 := by
      rcases k2.2 with ⟨h1, h2⟩ | ⟨g', cap', cur, e1, hb0, hr, h3, h4, _⟩
      · omega
      · cases e1
        unfold maxLen at h4
        omega
    have hlc : m ≤ lc ∧ lc ≤ 9223372036854775807 := rw_cap (Rw.own (G := fun _ => True) HV.out.2.2.2.1 (fun _ _ => trivial))
    have hb4 : Below VV.heap.size VV V4 := (Below.refl _ VV).grown k3 (Nat.le_refl _) (fun k hk => by cases hk)
    have HV4 : Hid (V4.ownsRow VV.heap.size 9 1 (.slice (some ⟨ob, 0, none⟩) n c4) n (strsV os3) ∧ Below VV.heap.size VV V4 ∧ os3.length = n ∧ ob < V4.heap.size) := ⟨k2, hb4, hos, (k2.lt ob rfl).2⟩
    clear k2 k3 ho3 hos hb4
    go_wp2_with ((at_builtin; refine wpList_app VV rfl _ _ _ _ rfl rfl rfl (k1 _) ?_))
    go_loopw [4] (fun v4 wr => ∃ (i : Nat) (os2 : List ByteArray), i ≤ m ∧ v4 = .int .i64 (i : Int) ∧ os2.length = n ∧ wr.ownsRow VV.heap.size 9 1 (.slice (some ⟨ob, 0, none⟩) n c4) n (strsV os2) ∧ Upd (fun x => x = ob) V4 wr ∧ wr.heap.size = V4.heap.size) (fun v _ => m - (intOf v).toNat)
    case atStart => exact ⟨0, os3, by omega, rfl, HV4.out.2.2.1, HV4.out.1, Upd.refl _ _, rfl⟩
    case round =>
      clear k1 hcz
      obtain ⟨i, os2, hi, rfl, ho2, hor, hup, hsz⟩ := hrel
      have hzl4 : zb < V4.heap.size := by have := HV4.out.2.1.size; omega
      by_cases hlt : i < m
      · have kk : (i : Int) < (m : Int) := by omega
        obtain ⟨lb, lo, rfl, hlbl, hlcs⟩ := ints_row (Rw.own (G := fun _ => True) HV.out.2.2.2.1 (fun _ _ => trivial)) (by omega)
        have hli : i < l.length := by rw [HV.out.2.2.2.2.2]; exact hlt
        have hcl : wr.cell? ⟨lb, lo + i, none⟩ = some (.int .i64 ((l[i] : Nat) : Int)) := by
          rw [← hlcs i hli]
          exact cell_blk ((hup.block lb (by have := HV4.out.2.1.size; show lb < _; omega) (by show ¬ lb = ob; omega)).trans (HV4.out.2.1.block lb hlbl))
        have hxn : l[i] < n := HV.out.2.2.2.2.1 _ (List.getElem_mem hli)
        obtain ⟨x, hx⟩ : ∃ x, l[i] = x := ⟨_, rfl⟩
        rw [hx] at hcl hxn
        by_cases hx0 : x = 0
        · subst hx0
          have HK : Hid (os2.length = n ∧ wr.ownsRow VV.heap.size 9 1 (.slice (some ⟨ob, 0, none⟩) n c4) n (strsV os2) ∧ Upd (fun x => x = ob) V4 wr ∧ wr.heap.size = V4.heap.size) := ⟨ho2, hor, hup, hsz⟩
          clear ho2 hor hup hsz hx
          go_wp2
          exact ⟨⟨i + 1, os2, by omega, by go_num, HK.out⟩, by simp [intOf]; omega⟩
        · have hx1 : 0 < x := by omega
          have kx1 : decide ((0 : Int) < (x : Int)) = true := by simp; omega
          have kx2 : (0 : Int) < (x : Int) := by omega
          have kxn : (x : Int) < (n : Int) := by omega
          obtain ⟨db, dO, dc, hd1, hdbl, hdc1, hdc2, hdcs⟩ := HV.out.1.z.s.data (by omega)
          obtain ⟨s, hds⟩ := hdcs x hxn
          have cz : wr.cell? ⟨zb, 10, none⟩ = some (.slice (some ⟨db, dO, none⟩) n dc) := by
            rw [cell_blk ((hup.block zb hzl4 (by show ¬ zb = ob; omega)).trans (HV4.out.2.1.block zb hzl)), cell_of_row _ zb _ _ _ _ HV.out.1.z.c, ← hd1]
            exact pr_now HV.out.1.z.gz HV.out.1.z.nz 1 (by omega)
          have cd : wr.cell? ⟨db, dO + x, none⟩ = some (.string s) := by
            rw [← hds]
            exact cell_blk ((hup.block db (by have := HV4.out.2.1.size; omega) (by show ¬ db = ob; omega)).trans (HV4.out.2.1.block db hdbl))
          have eo : wr.cell? ⟨ob, x, none⟩ = some (.string (os2.getD x ByteArray.empty)) := own_at hor (by rw [strsV_at, List.getElem?_eq_getElem (by omega), List.getD_eq_getElem?_getD, List.getElem?_eq_getElem (by omega)]; rfl)
          have fo := hor.frozenAt x
          have HS : Hid (∀ W : World, W = wr.drew.setCell ⟨ob, x, none⟩ (.string s) → W.cell? ⟨lb, lo + i, none⟩ = some (.int .i64 (x : Int)) ∧ W.cell? ⟨zb, 10, none⟩ = some (.slice (some ⟨db, dO, none⟩) n dc) ∧ W.cell? ⟨db, dO + x, none⟩ = some (.string s)) := fun W hW => by
            subst hW
            refine ⟨?_, ?_, ?_⟩
            · rw [← hcl]; exact cell_blk (heap_setCell_other _ _ _ _ (by show lb ≠ ob; omega))
            · rw [← cz]; exact cell_blk (heap_setCell_other _ _ _ _ (by show zb ≠ ob; omega))
            · rw [← cd]; exact cell_blk (heap_setCell_other _ _ _ _ (by show db ≠ ob; omega))
          have HK : Hid ((os2.set x s).length = n ∧ (wr.drew.setCell ⟨ob, x, none⟩ (.string s)).ownsRow VV.heap.size 9 1 (.slice (some ⟨ob, 0, none⟩) n c4) n (strsV (os2.set x s)) ∧ Upd (fun x => x = ob) V4 (wr.drew.setCell ⟨ob, x, none⟩ (.string s)) ∧ (wr.drew.setCell ⟨ob, x, none⟩ (.string s)).heap.size = V4.heap.size) := by
            have hor2 : wr.drew.ownsRow VV.heap.size 9 1 (.slice (some ⟨ob, 0, none⟩) n c4) n (strsV os2) := own_keep hor (fun _ _ => rfl)
            refine ⟨by rw [List.length_set]; exact ho2, by rw [← strsV_set]; exact own_put2 hor2 x (.string s), Upd.setCell (p := ⟨ob, x, none⟩) hup.drew (fun _ => rfl) _, by rw [World.size_setCell]; exact hsz⟩
          have cl := hcl
          clear ho2 hor hup hsz hx hlcs hds hd1 hdcs hcl
          go_wp2
          refine wp_region_held_drew (S := fun W => W.cell? ⟨lb, lo + i, none⟩ = some (.int .i64 (x : Int)) ∧ W.cell? ⟨zb, 10, none⟩ = some (.slice (some ⟨db, dO, none⟩) n dc) ∧ W.cell? ⟨db, dO + x, none⟩ = some (.string s)) (by kernel_rfl) (⟨cl, cz, cd⟩) (fun hHeld => ?_)
          refine wpAnyH_take (i := 0) (v := ?vBn0) rfl (by kernel_rfl) (by kernel_rfl) (by kernel_rfl) (fun _ _ _ h => h) (Or.inl ⟨by first | kernel_rfl | rfl, ?yBn0⟩) hHeld ?rBn0
          case yBn0 => (intro W hSW; (try dsimp only at hSW); go_simp; (try with_reducible rfl))
          change wpAnyH _ _ _ _ _ _ _ (Act.put _ (some 46) _) _
          simp only [Act.put, List.setIfInBounds_toArray, List.set_cons_zero, List.set_cons_succ]
          refine wpAnyH_take (i := 1) (v := ?vBn1) rfl (by kernel_rfl) (by kernel_rfl) (by kernel_rfl) (fun _ _ _ h => h) (Or.inl ⟨by first | kernel_rfl | rfl, ?yBn1⟩) hHeld ?rBn1
          case yBn1 => (intro W hSW; (try dsimp only at hSW); go_simp; (try with_reducible rfl))
          change wpAnyH _ _ _ _ _ _ _ (Act.put _ (some 47) _) _
          simp only [Act.put, List.setIfInBounds_toArray, List.set_cons_zero, List.set_cons_succ]
          refine wpAnyH_take (i := 2) (v := ?vBn2) rfl (by kernel_rfl) (by kernel_rfl) (by kernel_rfl) (fun _ _ _ h => h) (Or.inl ⟨by first | kernel_rfl | rfl, ?yBn2⟩) hHeld ?rBn2
          case yBn2 => (intro W hSW; (try dsimp only at hSW); go_simp; (try with_reducible rfl))
          change wpAnyH _ _ _ _ _ _ _ (Act.put _ (some 48) _) _
          simp only [Act.put, List.setIfInBounds_toArray, List.set_cons_zero, List.set_cons_succ]
          refine wpAnyH_take (i := 3) (v := ?vBn3) rfl (by kernel_rfl) (by kernel_rfl) (by kernel_rfl) (fun _ _ _ h => h) (Or.inl ⟨by first | kernel_rfl | rfl, ?yBn3⟩) hHeld ?rBn3
          case yBn3 => (intro W hSW; (try dsimp only at hSW); go_simp; (try with_reducible rfl))
          change wpAnyH _ _ _ _ _ _ _ (Act.put _ (some 49) _) _
          simp only [Act.put, List.setIfInBounds_toArray, List.set_cons_zero, List.set_cons_succ]
          refine wpAnyH_take (i := 4) (v := ?vBn4) rfl (by kernel_rfl) (by kernel_rfl) (by kernel_rfl) (fun _ _ _ h => h) (Or.inl ⟨by first | kernel_rfl | rfl, ?yBn4⟩) hHeld ?rBn4
          case yBn4 => (intro W hSW; (try dsimp only at hSW); go_simp; (try with_reducible rfl))
          change wpAnyH _ _ _ _ _ _ _ (Act.put _ (some 50) _) _
          simp only [Act.put, List.setIfInBounds_toArray, List.set_cons_zero, List.set_cons_succ]
          refine wpAnyH_take (i := 5) (v := ?vBn5) rfl (by kernel_rfl) (by kernel_rfl) (by kernel_rfl) (fun _ _ _ h => h) (Or.inl ⟨by first | kernel_rfl | rfl, ?yBn5⟩) hHeld ?rBn5
          case yBn5 => (intro W hSW; (try dsimp only at hSW); go_simp; (try with_reducible rfl))
          change wpAnyH _ _ _ _ _ _ _ (Act.put _ (some 51) _) _
          simp only [Act.put, List.setIfInBounds_toArray, List.set_cons_zero, List.set_cons_succ]
          refine wpAnyH_take (i := 6) (v := ?vBn6) rfl (by kernel_rfl) (by kernel_rfl) (by kernel_rfl) (fun _ _ _ h => h) (Or.inl ⟨by first | kernel_rfl | rfl, ?yBn6⟩) hHeld ?rBn6
          case yBn6 => (intro W hSW; (try dsimp only at hSW); go_simp; (try with_reducible rfl))
          change wpAnyH _ _ _ _ _ _ _ (Act.put _ (some 52) _) _
          simp only [Act.put, List.setIfInBounds_toArray, List.set_cons_zero, List.set_cons_succ]
          refine wpAnyH_take (i := 7) (v := ?vBn7) rfl (by kernel_rfl) (by kernel_rfl) (by kernel_rfl) (fun _ _ _ h => h) (Or.inl ⟨by first | kernel_rfl | rfl, ?yBn7⟩) hHeld ?rBn7
          case yBn7 => (intro W hSW; (try dsimp only at hSW); go_simp; (try with_reducible rfl))
          change wpAnyH _ _ _ _ _ _ _ (Act.put _ (some 53) _) _
          simp only [Act.put, List.setIfInBounds_toArray, List.set_cons_zero, List.set_cons_succ]
          refine wpAnyH_take (i := 8) (v := ?vBn8) rfl (by kernel_rfl) (by kernel_rfl) (by kernel_rfl) (fun _ _ _ h => h) (Or.inl ⟨by first | kernel_rfl | rfl, ?yBn8⟩) hHeld ?rBn8
          case yBn8 => (intro W hSW; (try dsimp only at hSW); go_simp; (try with_reducible rfl))
          change wpAnyH _ _ _ _ _ _ _ (Act.put _ (some 54) _) _
          simp only [Act.put, List.setIfInBounds_toArray, List.set_cons_zero, List.set_cons_succ]
          refine wpAnyH_take (i := 9) (v := ?vBn9) rfl (by kernel_rfl) (by kernel_rfl) (by kernel_rfl) (fun _ _ _ h => h) (Or.inl ⟨by first | kernel_rfl | rfl, ?yBn9⟩) hHeld ?rBn9
          case yBn9 => (intro W hSW; (try dsimp only at hSW); go_simp; (try with_reducible rfl))
          change wpAnyH _ _ _ _ _ _ _ (Act.put _ (some 55) _) _
          simp only [Act.put, List.setIfInBounds_toArray, List.set_cons_zero, List.set_cons_succ]
          refine wpAnyH_take (i := 10) (v := ?vBn10) rfl (by kernel_rfl) (by kernel_rfl) (by kernel_rfl) (fun _ _ _ h => h) (Or.inl ⟨by first | kernel_rfl | rfl, ?yBn10⟩) hHeld ?rBn10
          case yBn10 => (intro W hSW; (try dsimp only at hSW); go_simp; (try with_reducible rfl))
          change wpAnyH _ _ _ _ _ _ _ (Act.put _ (some 56) _) _
          simp only [Act.put, List.setIfInBounds_toArray, List.set_cons_zero, List.set_cons_succ]
          refine wpAnyH_take (i := 11) (v := ?vBn11) rfl (by kernel_rfl) (by kernel_rfl) (by kernel_rfl) (fun _ _ _ h => h) (Or.inl ⟨by first | kernel_rfl | rfl, ?yBn11⟩) hHeld ?rBn11
          case yBn11 => (intro W hSW; (try dsimp only at hSW); go_simp; (try with_reducible rfl))
          change wpAnyH _ _ _ _ _ _ _ (Act.put _ (some 57) _) _
          simp only [Act.put, List.setIfInBounds_toArray, List.set_cons_zero, List.set_cons_succ]
          refine wpAnyH_take (i := 12) (v := ?vBn12) rfl (by kernel_rfl) (by kernel_rfl) (by kernel_rfl) (fun _ _ _ h => h) (Or.inl ⟨by first | kernel_rfl | rfl, ?yBn12⟩) hHeld ?rBn12
          case yBn12 => (intro W hSW; (try dsimp only at hSW); go_simp; (try with_reducible rfl))
          change wpAnyH _ _ _ _ _ _ _ (Act.put _ (some 58) _) _
          simp only [Act.put, List.setIfInBounds_toArray, List.set_cons_zero, List.set_cons_succ]
          refine wpAnyH_take (i := 13) (v := ?vBn13) rfl (by kernel_rfl) (by kernel_rfl) (by kernel_rfl) (fun _ _ _ h => h) (Or.inl ⟨by first | kernel_rfl | rfl, ?yBn13⟩) hHeld ?rBn13
          case yBn13 => (intro W hSW; (try dsimp only at hSW); go_simp; (try with_reducible rfl))
          change wpAnyH _ _ _ _ _ _ _ (Act.put _ (some 59) _) _
          simp only [Act.put, List.setIfInBounds_toArray, List.set_cons_zero, List.set_cons_succ]
          refine wpAnyH_take (i := 14) (v := ?vBn14) rfl (by kernel_rfl) (by kernel_rfl) (by kernel_rfl) (fun _ _ _ h => h) (Or.inl ⟨by first | kernel_rfl | rfl, ?yBn14⟩) hHeld ?rBn14
          case yBn14 => (intro W hSW; (try dsimp only at hSW); go_simp; (try with_reducible rfl))
          change wpAnyH _ _ _ _ _ _ _ (Act.put _ (some 60) _) _
          simp only [Act.put, List.setIfInBounds_toArray, List.set_cons_zero, List.set_cons_succ]
          refine wpAnyH_take (i := 15) (v := ?vBn15) rfl (by kernel_rfl) (by kernel_rfl) (by kernel_rfl) (fun _ _ _ h => h) (Or.inl ⟨by first | kernel_rfl | rfl, ?yBn15⟩) hHeld ?rBn15
          case yBn15 => (intro W hSW; (try dsimp only at hSW); go_simp; (try with_reducible rfl))
          change wpAnyH _ _ _ _ _ _ _ (Act.put _ (some 61) _) _
          simp only [Act.put, List.setIfInBounds_toArray, List.set_cons_zero, List.set_cons_succ]
          refine wpAnyH_take (i := 16) (v := ?vBn16) rfl (by kernel_rfl) (by kernel_rfl) (by kernel_rfl) (fun _ _ _ h => h) (Or.inl ⟨by first | kernel_rfl | rfl, ?yBn16⟩) hHeld ?rBn16
          case yBn16 => (intro W hSW; (try dsimp only at hSW); go_simp; (try with_reducible rfl))
          change wpAnyH _ _ _ _ _ _ _ (Act.put _ (some 62) _) _
          simp only [Act.put, List.setIfInBounds_toArray, List.set_cons_zero, List.set_cons_succ]
          refine wpAnyH_take (i := 17) (v := ?vBn17) rfl (by kernel_rfl) (by kernel_rfl) (by kernel_rfl) (fun _ _ _ h => h) (Or.inl ⟨by first | kernel_rfl | rfl, ?yBn17⟩) hHeld ?rBn17
          case yBn17 => (intro W hSW; (try dsimp only at hSW); go_simp; (try with_reducible rfl))
          change wpAnyH _ _ _ _ _ _ _ (Act.put _ (some 63) _) _
          simp only [Act.put, List.setIfInBounds_toArray, List.set_cons_zero, List.set_cons_succ]
          refine wpAnyH_ready (rs := [18]) (by kernel_rfl) (by simp) ?_
          refine AllReadyH.cons rfl (fun K hK => ?_) AllReadyH.nil
          go_simp
          refine hK.out _ _ (HS.out _ rfl) (fun hHeld => ?_)
          clear hK K
          refine wpAnyH_done (by kernel_rfl) ?_ _
          go_wp2
          exact ⟨⟨i + 1, os2.set x s, by omega, by go_num, HK.out⟩, by simp [intOf]; omega⟩
      · obtain rfl : i = m := by omega
        have kk : ¬ (i : Int) < (i : Int) := by omega
        have hfr : Fr F2 VV (mor F2 VV V4) wr := ⟨by have := HV4.out.2.1.size; omega, fun x hx => .inl hx, fun x hx hl => (hup.block x (by have := HV4.out.2.1.size; omega) (by show ¬ x = ob; omega)).trans (HV4.out.2.1.block x hl)⟩
        have hPr : Ps h0 (mor F2 VV V4) wr S g D pb jb n X zb jz gs ns2 pv (.slice oa n oc) := ⟨(HV.out.1.p.below HV4.out.2.1).turnF (b := ob) (.inr ⟨hobl, HV4.out.2.2.2⟩) hup hsz, HV.out.1.z.fr hfr, HV.out.1.h⟩
        have hOl : Old (but zb (mor F2 VV V4)) wr n (.slice (some ⟨ob, 0, none⟩) n c4) := ⟨_, _, os2, rfl, (Rw.own (G := fun x => VV.heap.size ≤ x) hor (fun x hx => hx)).mono (fun x hx hl => ⟨.inr ⟨hx, by omega⟩, by omega⟩)⟩
        have hP5 := hPr.old hOl
        obtain ⟨W5, hW5⟩ : ∃ W5, wr.setCell ⟨zb, 17, none⟩ (.slice (some ⟨ob, 0, none⟩) n c4) = W5 := ⟨_, rfl⟩
        rw [hW5] at hP5
        have hP6 := hP5.1.drew
        have hone : ∀ u ∈ (ns2 ++ ns2 ++ #[.slice none 0 0] : Array Value).toList, u.oneCell' = true := fun u hu => by
          have ha := hP6.z.s.agg
          obtain ⟨rs, e, _, ho⟩ := ha
          cases e
          simp only [Array.toList_append, List.mem_append] at hu
          rcases hu with (hu | hu) | hu
          · exact ho u hu
          · exact ho u hu
          · obtain rfl := List.mem_singleton.1 hu; rfl
        have hst := hP6.z.store_x hP6.z.nz hP6.z.nz hone
        have hP7 := hP6.allx hP6.z.nz hP6.z.nz hP6.z.s hP6.z.s (Pts.none _ _ _)
        have hbl : Tryz.prog.built 53 [(0, .agg ns2), (1, .agg ns2)] = some (ns2 ++ ns2 ++ #[.slice none 0 0]) := built_ds hP6.z.s
        obtain ⟨row, hrow⟩ : ∃ row, ns2 ++ ns2 ++ #[.slice none 0 0] = row := ⟨_, rfl⟩
        rw [hrow] at hst hbl
        have hrowz : row.size = 15 := by rw [← hrow]; simp [hP6.z.nz]
        obtain ⟨W7, hW7⟩ : ∃ W7, W5.drew.setRow zb (prA jz pb ns2 ns2 (.slice none 0 0) (.slice (some ⟨ob, 0, none⟩) n c4)) = W7 := ⟨_, rfl⟩
        rw [hW7] at hst hP7
        have c17 := hPr.z.cells.2.2.2
        have f17 := hPr.z.fro 17
        have HP6 : Hid (Ps h0 (mor F2 VV V4) W5.drew S g D pb jb n X zb jz gs ns2 pv (.slice (some ⟨ob, 0, none⟩) n c4) ∧ True) := ⟨hP6, trivial⟩
        have HP7 : Hid (Ps h0 (mor F2 VV V4) W7 S g D pb jb n X zb jz ns2 ns2 (.slice none 0 0) (.slice (some ⟨ob, 0, none⟩) n c4) ∧ SpTo h0 F w g D pb jb n X zb jz W7) := by
          refine ⟨hP7.1, mor F2 VV V4, ⟨S, ns2, ns2, _, _, hP7.1⟩, (HV.out.2.1.trans (hfr.but zb)).trans (hP5.2.1.trans (Fr.trans (Fr.drew _ W5) hP7.2.1)), ?_⟩
          have hb1 : Below h0 VV wr := (HV4.out.2.1.mono HV.out.1.h0w).trans (hup.below (Nat.le_trans HV.out.1.h0w HV4.out.2.1.size) (fun k hk => by rw [show k = ob from hk]; exact Nat.le_trans HV.out.1.h0w hobl))
          exact ((HV.out.2.2.1.trans hb1).trans hP5.2.2).trans (((Below.refl h0 W5).drew).trans hP7.2.2)
        clear ho2 hor hup hsz hfr hPr hOl hP5 hP6 hone hP7 hrow hW7
        go_wp2
        refine wp_region_held_drew (S := fun W => (loadVar 42 ⟨zb, 9, none⟩).run Tryz.prog W = .ok (.agg ns2) W) (by kernel_rfl) (HP6.out.1.z.lnow) (fun hHeld => ?_)
        refine wpAnyH_take (i := 0) (v := ?vBe0) rfl (by kernel_rfl) (by kernel_rfl) (by kernel_rfl) (fun _ _ _ h => h) (Or.inl ⟨by first | kernel_rfl | rfl, ?yBe0⟩) hHeld ?rBe0
        case yBe0 => (intro W hSW; (try dsimp only at hSW); go_simp; (try with_reducible rfl))
        change wpAnyH _ _ _ _ _ _ _ (Act.put _ (some 68) _) _
        simp only [Act.put, List.setIfInBounds_toArray, List.set_cons_zero, List.set_cons_succ]
        refine wpAnyH_take (i := 1) (v := ?vBe1) rfl (by kernel_rfl) (by kernel_rfl) (by kernel_rfl) (fun _ _ _ h => h) (Or.inl ⟨by first | kernel_rfl | rfl, ?yBe1⟩) hHeld ?rBe1
        case yBe1 => (intro W hSW; (try dsimp only at hSW); go_simp; (try with_reducible rfl))
        change wpAnyH _ _ _ _ _ _ _ (Act.put _ (some 69) _) _
        simp only [Act.put, List.setIfInBounds_toArray, List.set_cons_zero, List.set_cons_succ]
        refine wpAnyH_take (i := 2) (v := ?vBe2) rfl (by kernel_rfl) (by kernel_rfl) (by kernel_rfl) (fun _ _ _ h => h) (Or.inl ⟨by first | kernel_rfl | rfl, ?yBe2⟩) hHeld ?rBe2
        case yBe2 => (intro W hSW; (try dsimp only at hSW); go_simp; (try with_reducible rfl))
        change wpAnyH _ _ _ _ _ _ _ (Act.put _ (some 70) _) _
        simp only [Act.put, List.setIfInBounds_toArray, List.set_cons_zero, List.set_cons_succ]
        refine wpAnyH_take (i := 3) (v := ?vBe3) rfl (by kernel_rfl) (by kernel_rfl) (by kernel_rfl) (fun _ _ _ h => h) (Or.inl ⟨by first | kernel_rfl | rfl, ?yBe3⟩) hHeld ?rBe3
        case yBe3 => (intro W hSW; (try dsimp only at hSW); go_simp; (try with_reducible rfl))
        change wpAnyH _ _ _ _ _ _ _ (Act.put _ (some 71) _) _
        simp only [Act.put, List.setIfInBounds_toArray, List.set_cons_zero, List.set_cons_succ]
        refine wpAnyH_take (i := 4) (v := ?vBe4) rfl (by kernel_rfl) (by kernel_rfl) (by kernel_rfl) (fun _ _ _ h => h) (Or.inl ⟨by first | kernel_rfl | rfl, ?yBe4⟩) hHeld ?rBe4
        case yBe4 => (intro W hSW; (try dsimp only at hSW); go_simp; (try with_reducible rfl))
        change wpAnyH _ _ _ _ _ _ _ (Act.put _ (some 72) _) _
        simp only [Act.put, List.setIfInBounds_toArray, List.set_cons_zero, List.set_cons_succ]
        refine wpAnyH_take (i := 5) (v := .agg ns2) rfl (by kernel_rfl) (by kernel_rfl) (by kernel_rfl) (fun _ _ _ h => h) (Or.inl ⟨by first | kernel_rfl | rfl, ?yBe5⟩) hHeld ?rBe5
        case yBe5 => (intro W hSW; refine yields_at _ _ rfl rfl (hSW))
        change wpAnyH _ _ _ _ _ _ _ (Act.put _ (some 73) _) _
        simp only [Act.put, List.setIfInBounds_toArray, List.set_cons_zero, List.set_cons_succ]
        refine wpAnyH_take (i := 6) (v := ?vBe6) rfl (by kernel_rfl) (by kernel_rfl) (by kernel_rfl) (fun _ _ _ h => h) (Or.inl ⟨by first | kernel_rfl | rfl, ?yBe6⟩) hHeld ?rBe6
        case yBe6 => (intro W hSW; (try dsimp only at hSW); go_simp; (try with_reducible rfl))
        change wpAnyH _ _ _ _ _ _ _ (Act.put _ (some 74) _) _
        simp only [Act.put, List.setIfInBounds_toArray, List.set_cons_zero, List.set_cons_succ]
        refine wpAnyH_take (i := 7) (v := ?vBe7) rfl (by kernel_rfl) (by kernel_rfl) (by kernel_rfl) (fun _ _ _ h => h) (Or.inl ⟨by first | kernel_rfl | rfl, ?yBe7⟩) hHeld ?rBe7
        case yBe7 => (intro W hSW; (try dsimp only at hSW); go_simp; (try with_reducible rfl))
        change wpAnyH _ _ _ _ _ _ _ (Act.put _ (some 75) _) _
        simp only [Act.put, List.setIfInBounds_toArray, List.set_cons_zero, List.set_cons_succ]
        refine wpAnyH_take (i := 8) (v := ?vBe8) rfl (by kernel_rfl) (by kernel_rfl) (by kernel_rfl) (fun _ _ _ h => h) (Or.inl ⟨by first | kernel_rfl | rfl, ?yBe8⟩) hHeld ?rBe8
        case yBe8 => (intro W hSW; (try dsimp only at hSW); go_simp; (try with_reducible rfl))
        change wpAnyH _ _ _ _ _ _ _ (Act.put _ (some 76) _) _
        simp only [Act.put, List.setIfInBounds_toArray, List.set_cons_zero, List.set_cons_succ]
        refine wpAnyH_take (i := 9) (v := ?vBe9) rfl (by kernel_rfl) (by kernel_rfl) (by kernel_rfl) (fun _ _ _ h => h) (Or.inl ⟨by first | kernel_rfl | rfl, ?yBe9⟩) hHeld ?rBe9
        case yBe9 => (intro W hSW; (try dsimp only at hSW); go_simp; (try with_reducible rfl))
        change wpAnyH _ _ _ _ _ _ _ (Act.put _ (some 77) _) _
        simp only [Act.put, List.setIfInBounds_toArray, List.set_cons_zero, List.set_cons_succ]
        refine wpAnyH_take (i := 10) (v := .agg ns2) rfl (by kernel_rfl) (by kernel_rfl) (by kernel_rfl) (fun _ _ _ h => h) (Or.inl ⟨by first | kernel_rfl | rfl, ?yBe10⟩) hHeld ?rBe10
        case yBe10 => (intro W hSW; refine yields_at _ _ rfl rfl (hSW))
        change wpAnyH _ _ _ _ _ _ _ (Act.put _ (some 78) _) _
        simp only [Act.put, List.setIfInBounds_toArray, List.set_cons_zero, List.set_cons_succ]
        refine wpAnyH_take (i := 11) (v := .agg row) rfl (by kernel_rfl) (by kernel_rfl) (by kernel_rfl) (fun _ _ _ h => h) (Or.inl ⟨by first | kernel_rfl | rfl, ?yBe11⟩) hHeld ?rBe11
        case yBe11 => (intro W hSW; exact yields_pg _ _ rfl _ _ hbl rfl rfl)
        change wpAnyH _ _ _ _ _ _ _ (Act.put _ (some 79) _) _
        simp only [Act.put, List.setIfInBounds_toArray, List.set_cons_zero, List.set_cons_succ]
        refine wpAnyH_take (i := 12) (v := ?vBe12) rfl (by kernel_rfl) (by kernel_rfl) (by kernel_rfl) (fun _ _ _ h => h) (Or.inl ⟨by first | kernel_rfl | rfl, ?yBe12⟩) hHeld ?rBe12
        case yBe12 => (intro W hSW; (try dsimp only at hSW); go_simp; (try with_reducible rfl))
        change wpAnyH _ _ _ _ _ _ _ (Act.put _ (some 80) _) _
        simp only [Act.put, List.setIfInBounds_toArray, List.set_cons_zero, List.set_cons_succ]
        refine wpAnyH_take (i := 13) (v := ?vBe13) rfl (by kernel_rfl) (by kernel_rfl) (by kernel_rfl) (fun _ _ _ h => h) (Or.inl ⟨by first | kernel_rfl | rfl, ?yBe13⟩) hHeld ?rBe13
        case yBe13 => (intro W hSW; (try dsimp only at hSW); go_simp; (try with_reducible rfl))
        change wpAnyH _ _ _ _ _ _ _ (Act.put _ (some 81) _) _
        simp only [Act.put, List.setIfInBounds_toArray, List.set_cons_zero, List.set_cons_succ]
        refine wpAnyH_ready (rs := [14]) (by kernel_rfl) (by simp) ?_
        refine AllReadyH.cons rfl (fun K hK => ?_) AllReadyH.nil
        go_simp
        refine hK.out _ _ (HP7.out.1.z.lnow) (fun hHeld => ?_)
        clear hK K
        refine wpAnyH_done (by kernel_rfl) ?_ _
        go_wp2
        refine bodyPost_end (v := .tuple #[]) ?_ rfl ⟨rfl, HP7.out.2⟩
        simp [results, go_sem]
end
end Go.Proofs.YtdgffocmdkadpaaGreat
