/- A walk over Save. -/
import Derived.Test.YtdgffocmdkadpaaGreatPX
namespace Go.Proofs.YtdgffocmdkadpaaGreat
open Go.RowKit Go.Shelf Pg
theorem yields_state {o : Oper} {a : Act} {w : World} (x y : Operand) (ho : o.op = .build 105 #[(0, x), (1, y)]) (h : Hd) (m : Nat) (hx : a.eval x = .agg (hdA h)) (hy : a.eval y = .map (some m)) : (execOp a.eval o).run Tryz.prog w = .ok (.value (.agg (stA h m))) w := by
  have hb := build_state h m w
  have e : (#[(0, x), (1, y)] : Array (Nat × Operand)).map (fun (i, x) => (i, a.eval x)) = #[(0, .agg (hdA h)), (1, .map (some m))] := by
    simp only [List.map_toArray, List.map_cons, List.map_nil, hx, hy]
  unfold execOp
  simp only [ho, Sem.run_bind, e, hb, Result.andThen_ok, Sem.run_pure]
theorem wp_rowS {o : Oper} {a : Act} {w : World} {K : Act → World → Prop} {Q : Exit → Act → World → Prop} (x : Operand) (ho : o.op = .buildSlice 107 1 #[(0, x)]) (h : Hd) (m : Nat) (hx : a.eval x = .agg (stA h m)) (hK : K (a.put o.dst (.slice (some ⟨w.heap.size, 0, none⟩) 1 1)) (w.alloc (.cells (stA h m) 105))) : o.wp Tryz.prog a w K Q := by
  have hb := row_state h m w
  have e : (#[(0, x)] : Array (Nat × Operand)).map (fun (i, x) => (i, a.eval x)) = #[(0, .agg (stA h m))] := by
    simp only [List.map_toArray, List.map_cons, List.map_nil, hx]
  unfold Oper.wp execOp
  simp only [ho, Sem.run_bind, e, hb, Result.andThen_ok, Sem.run_pure]
  exact hK
def Px.sav (X : Px) : Px := { X with saves := X.saves ++ [X.now] }
section
variable {h0 : Nat} {F : Nat → Prop} {w : World} {S : Nat → Prop} {g : Nat} {D : Dk} {pb jb n kb kc mb : Nat} {sa : Option Addr} {sc : Nat} {ss : List (Sn × Nat)} {X : Px}
theorem sav_ok (hok : X.Ok n) (h : X.saves.length < 16) : X.sav.Ok n :=
  { hok with
    many := by show (X.saves ++ [X.now]).length ≤ 16; simp; omega
    saves := fun s hs => by
      rcases List.mem_append.1 hs with hs | hs
      · exact hok.saves s hs
      · simp only [List.mem_cons, List.not_mem_nil, or_false] at hs
        rw [hs]; exact hok.now }
theorem Pl.turnS (h : Pl h0 F w S g D pb jb n kb kc mb sa sc ss X) {w' : World} {a' : Option Addr} {c' b1 : Nat} (hb1 : w.heap.size ≤ b1) (hc : w'.heap[pb]? = some (.cells (pgA jb X.good (.slice (some ⟨kb, 0, none⟩) n kc) (noT n) X.now.h mb (.slice a' (ss.length + 1) c')) 109 (0, 0))) (ho : w'.ownsRow 0 105 22 (.slice a' (ss.length + 1) c') (ss.length + 1) (svV (ss ++ [(X.now, b1)]))) (hm : MapIs w' b1 X.now.m) (hloc : ob a' = ob sa ∨ ∃ x, ob a' = some x ∧ w.heap.size ≤ x) (hoth : ∀ x, x < w.heap.size → x ≠ pb → ob sa ≠ some x → w'.heap[x]? = w.heap[x]?) (hos : w'.os = w.os) (htp : w'.tape = w.tape) (hou : w'.output = w.output) (hsz : w.heap.size ≤ w'.heap.size) :
    Pl h0 F w' S g D pb jb n kb kc mb a' c' (ss ++ [(X.now, b1)]) X.sav ∧ Fr F w F w' ∧ Below h0 w w' := by
  have ap := h.apart
  have hl := h.lt
  have hap : ∀ x, Own pb kb mb a' (ss ++ [(X.now, b1)]) x → Own pb kb mb sa ss x ∨ w.heap.size ≤ x := by
    rintro x (e | e | e | e | e)
    · exact .inl (.inl e)
    · exact .inl (.inr (.inl e))
    · exact .inl (.inr (.inr (.inl e)))
    · rcases hloc with h1 | ⟨y, h1, h2⟩
      · exact .inl (.inr (.inr (.inr (.inl (by rw [← h1]; exact e)))))
      · rw [h1] at e
        cases e
        exact .inr h2
    · rw [List.map_append] at e
      rcases List.mem_append.1 e with e | e
      · exact .inl (.inr (.inr (.inr (.inr e))))
      · simp only [List.map_cons, List.map_nil, List.mem_cons, List.not_mem_nil, or_false] at e
        rw [e]; exact .inr hb1
  have ho2 : ∀ x, Own pb kb mb sa ss x → x ≠ pb → ob sa ≠ some x → w'.heap[x]? = w.heap[x]? := fun x hx h1 h2 => hoth x (hl x hx) h1 h2
  have hll : (ss ++ [(X.now, b1)]).length = ss.length + 1 := by simp
  refine ⟨{ disk := h.disk.keep fun x hx => hoth x (h.disk.bd x hx) (fun e => (h.ap pb (.inl rfl)).1 (by rw [← e]; exact hx)) (fun e => (h.ap x (.inr (.inr (.inr (.inl e))))).1 hx), jat := (hoth jb h.jat.lt (fun e => (h.ap pb (.inl rfl)).2.1 e.symm) (fun e => (h.ap jb (.inr (.inr (.inr (.inl e))))).2.1 rfl)).trans h.jat, c := by rw [hll]; exact hc, k := own_keep h.k (fun x hx => by cases hx; exact ho2 kb (.inr (.inl rfl)) ap.pk.symm ap.sk), m := h.m.keep (ho2 mb (.inr (.inr (.inl rfl))) ap.pm.symm ap.sm), s := by rw [hll]; exact ho, sx := ?_, sm := fun q hq => ?_, nd := ?_, ap := fun x hx => ?_, fF := fun x hx => ?_, sj := h.sj, h0S := h.h0S, h0w := Nat.le_trans h.h0w hsz, n2 := h.n2, n12 := h.n12 }, ⟨hsz, fun _ hx => hx, fun x hx hlx => hoth x hlx (fun e => (h.fF x hx).2.1 (.inl e)) (fun e => (h.fF x hx).2.1 (.inr (.inr (.inr (.inl e)))))⟩, ⟨hos, htp, hou, hsz, fun x hx => hoth x (Nat.lt_of_lt_of_le hx h.h0w) (fun e => by have := (h.ap pb (.inl rfl)).2.2; omega) (fun e => by have := (h.ap x (.inr (.inr (.inr (.inl e))))).2.2; omega)⟩⟩
  · show X.saves ++ [X.now] = (ss ++ [(X.now, b1)]).map Prod.fst
    rw [h.sx]
    simp
  · rcases List.mem_append.1 hq with hq | hq
    · exact (h.sm q hq).keep (ho2 _ (.inr (.inr (.inr (.inr (List.mem_map.2 ⟨q, hq, rfl⟩))))) (ap.mp q hq) (ap.ms q hq))
    · simp only [List.mem_cons, List.not_mem_nil, or_false] at hq
      rw [hq]; exact hm
  · have hnd := h.nd
    rw [List.map_append, ← List.cons_append, List.nodup_append]
    refine ⟨hnd, by simp, fun x hx y hy e => ?_⟩
    simp only [List.map_cons, List.map_nil, List.mem_cons, List.not_mem_nil, or_false] at hy
    have hx2 : x < w.heap.size := by
      rcases List.mem_cons.1 hx with e1 | e1
      · rw [e1]; exact h.m.lt
      · exact hl x (.inr (.inr (.inr (.inr e1))))
    omega
  · rcases hap x hx with hx | hx
    · exact h.ap x hx
    · refine ⟨fun hs => ?_, fun e => ?_, ?_⟩
      · have := h.disk.bd x hs; omega
      · have := h.jat.lt; omega
      · have := h.h0w; omega
  · have hf := h.fF x hx
    refine ⟨hf.1, fun ho' => ?_, hf.2.2.1, by omega⟩
    rcases hap x ho' with h1 | h1
    · exact hf.2.1 h1
    · omega
end
section
variable {h0 : Nat} {F : Nat → Prop} {w : World} {S : Nat → Prop} {g : Nat} {D : Dk} {pb jb n : Nat} {X : Px}
def SvTo (h0 : Nat) (F : Nat → Prop) (w : World) (g : Nat) (D : Dk) (pb jb n : Nat) (X : Px) (e : Ending) (w' : World) : Prop :=
  (X.saves.length < 16 ∧ e = .returned (.tuple #[.int .i64 (X.saves.length : Int), .int .i64 0]) ∧ PTo h0 F w g D pb jb n X.sav w') ∨ (X.saves.length = 16 ∧ e = .returned (.tuple #[.int .i64 0, .int .i64 5]) ∧ PTo h0 F w g D pb jb n X w')
set_option maxRecDepth 100000 in
set_option maxHeartbeats 8000000 in
theorem psave_any (h : Pgr h0 F w S g D pb jb n X) : Calls Tryz.prog 24 #[.pointer (some ⟨pb, 0, none⟩)] w fun e w' => SvTo h0 F w g D pb jb n X e w' := by
  have HN : Hid (PTo h0 F w g D pb jb n X w) := PTo.below h (Below.refl _ _)
  obtain ⟨hok, kb, kc, mb, sa, sc, ss, hP⟩ := h
  obtain ⟨c0, c22, c39, c60, c61⟩ := hP.cells
  have hsl := hP.len
  have hmany := hok.many
  obtain ⟨m, hm⟩ : ∃ m, ss.length = m := ⟨_, rfl⟩
  rw [hm] at c61 hsl
  have HMM : Hid (X.saves.length = m) := hsl.symm
  rw [← hsl] at hmany
  by_cases h16 : m = 16
  · subst h16
    clear hP hok hm hsl
    go_enter Tryz.func24, Tryz.ntmps24
    go_wp2
    go_ret2
    exact .inr ⟨HMM.out, rfl, HN.out⟩
  · have k16 : ¬ (m : Int) = 16 := by omega
    have k16b : ((m : Int) == 16) = false := by simpa using k16
    have HM : Hid (X.saves.length < 16) := by show _ < _; rw [HMM.out]; omega
    have hmm : m + 1 ≤ 1000 := by omega
    obtain ⟨cs, hcs⟩ : ∃ cs, pgA jb X.good (.slice (some ⟨kb, 0, none⟩) n kc) (noT n) X.now.h mb (.slice sa ss.length sc) = cs := ⟨_, rfl⟩
    have hc := hP.c
    rw [hcs] at hc
    have HC : Hid (w.heap[pb]? = some (.cells cs 109 (0, 0))) := hc
    have HG : Hid (cs[61]? = some (.slice sa m sc)) := by show _ = _; rw [← hcs, ← hm]; exact pgA_61
    have hcell : ∀ (W : World) (cs2 : Array Value), W.heap[pb]? = some (.cells cs2 109 (0, 0)) → (∀ i, i < 21 → cs2[39 + i]? = (hdL X.now.h)[i]?) → cs2[60]? = some (.map (some mb)) → (fun W => (loadVar 100 ⟨pb, 39, none⟩).run Tryz.prog W = .ok (.agg (hdA X.now.h)) W ∧ W.cell? ⟨pb, 60, none⟩ = some (.map (some mb))) W := fun W cs2 hW h1 h2 => ⟨load_part W pb 39 100 _ _ _ _ (hdL X.now.h) hW Tryz.underlying100 rfl (by rw [hdL_len]; kernel_rfl) (fun j v hv => by
        have hj : j < 21 := by have := (List.getElem?_eq_some_iff.1 hv).1; rwa [hdL_len] at this
        rw [h1 j hj]; exact hv), by rw [cell_of_row W pb _ _ _ _ hW]; exact h2⟩
    have HS : Hid (∀ W : World, W.heap[pb]? = some (.cells cs 109 (0, 0)) → (fun W => (loadVar 100 ⟨pb, 39, none⟩).run Tryz.prog W = .ok (.agg (hdA X.now.h)) W ∧ W.cell? ⟨pb, 60, none⟩ = some (.map (some mb))) W) := fun W hW => hcell W cs hW (fun i hi => by rw [← hcs]; exact pgA_now i hi) (by rw [← hcs]; exact pgA_60)
    have HT : Hid (∀ (W : World) (v : Value), W.heap[pb]? = some (.cells cs 109 (0, 0)) → (fun W => (loadVar 100 ⟨pb, 39, none⟩).run Tryz.prog W = .ok (.agg (hdA X.now.h)) W ∧ W.cell? ⟨pb, 60, none⟩ = some (.map (some mb))) (W.setCell ⟨pb, 61, none⟩ v)) := fun W v hW => by
      have h2 := heap_setCell_same W pb 61 _ _ v hW
      rw [← hcs, pgA_sv] at h2
      exact hcell _ _ h2 (fun i hi => pgA_now i hi) pgA_60
    have HCL : Hid (Calls Tryz.prog 73 #[.map (some mb)] w.drew fun e w' => e = .returned (.map (some w.heap.size)) ∧ MapIs w' w.heap.size X.now.m ∧ Below w.heap.size w w' ∧ w'.heap.size = w.heap.size + 1) := (mclone_any (w := w.drew) hP.m).mono fun e w' hh => ⟨hh.1, hh.2.1, ⟨hh.2.2.1.os, hh.2.2.1.tape, hh.2.2.1.output, hh.2.2.1.size, hh.2.2.1.block⟩, hh.2.2.2⟩
    have hap := hP.apart
    have HSP : Hid (ob sa ≠ some pb) := hap.sp
    have HR : Hid (∀ V : World, Below w.heap.size w V → V.ownsRow 0 105 22 (.slice sa m sc) m (svV ss)) := fun V hV => by
      have := own_keep hP.s (W' := V) (fun x hx => hV.block x (hP.s.lt x hx).2)
      rwa [hm] at this
    have HFIN : Hid (∀ (V2 V3 : World) (aA : Option Addr) (cA q1 : Nat), Below w.heap.size w V2 → V2.heap[pb]? = some (.cells cs 109 (0, 0)) → (V2.heap.size = w.heap.size + 2 ∧ q1 = w.heap.size + 1 ∧ MapIs V2 w.heap.size X.now.m) → V3.ownsRow 0 105 22 (.slice aA (m + 1) cA) (m + 1) (svV (ss ++ [(X.now, w.heap.size)])) → V2.grownBy V3 (ob sa) → (ob aA = ob sa ∨ ob aA = some V2.heap.size) → PTo h0 F w g D pb jb n X.sav (V3.setCell ⟨pb, 61, none⟩ (.slice aA (m + 1) cA)) ∧ (V3.setCell ⟨pb, 61, none⟩ (.slice aA (m + 1) cA)).cell? ⟨pb, 61, none⟩ = some (.slice aA (m + 1) cA)) := fun V2 V3 aA cA q1 hb2 hp2 hs2 hoA hgA hlA => by
      have hp3 : V3.heap[pb]? = some (.cells cs 109 (0, 0)) := (hgA.block pb (lt_of_some hp2) (fun e => hap.sp e.symm)).trans hp2
      have hc4 := heap_setCell_same V3 pb 61 _ _ (.slice aA (m + 1) cA) hp3
      rw [← hcs, pgA_sv] at hc4
      have hne : ob aA ≠ some pb := by
        rcases hlA with e | e
        · rw [e]; exact hap.sp
        · rw [e]
          have := lt_of_some hp2
          intro e2
          cases e2
          omega
      have hsS : ∀ x, ob sa = some x → x < w.heap.size := fun x hx => hP.lt x (.inr (.inr (.inr (.inl hx))))
      have hT := hP.turnS (b1 := w.heap.size) (w' := V3.setCell ⟨pb, 61, none⟩ (.slice aA (m + 1) cA)) (a' := aA) (c' := cA) (Nat.le_refl _) (by rw [hm]; exact hc4) (by rw [hm]; exact own_keep hoA (fun x hx => heap_setCell_other _ _ _ _ (fun e => hne (by have e : x = pb := e; rw [ob_slice] at hx; rw [← e]; exact hx)))) ((hs2.2.2.keep (hgA.block _ (by omega) (fun e => by have := hsS _ e.symm; omega))).keep (heap_setCell_other _ _ _ _ (fun e => by have := hP.lt pb (.inl rfl); have e : w.heap.size = pb := e; omega))) (hlA.imp id (fun e => ⟨V2.heap.size, e, hb2.size⟩)) (fun x hx h1 h2 => by
        rw [heap_setCell_other _ _ _ _ h1]
        exact (hgA.block x (Nat.lt_of_lt_of_le hx hb2.size) (fun e => h2 e.symm)).trans (hb2.block x hx)) ((Below.refl 0 V3 |>.setCell (Nat.zero_le _) _).os.trans (hgA.os.trans hb2.os)) ((Below.refl 0 V3 |>.setCell (Nat.zero_le _) _).tape.trans (hgA.tape.trans hb2.tape)) ((Below.refl 0 V3 |>.setCell (Nat.zero_le _) _).output.trans (hgA.output.trans hb2.output)) (by rw [World.size_setCell]; exact Nat.le_trans hb2.size hgA.size)
      refine ⟨⟨F, S, ⟨sav_ok hok HM.out, kb, kc, mb, aA, cA, _, hT.1⟩, hT.2.1, hT.2.2⟩, ?_⟩
      rw [cell_of_row _ pb _ _ _ _ hc4]
      exact pgA_61
    clear hP hok hm hsl hc hcs hap hcell c0 c22 c39 c60 HN
    go_enter Tryz.func24, Tryz.ntmps24
    go_wp2_with fail
    refine wp_region_held_drew (S := fun W => (loadVar 100 ⟨pb, 39, none⟩).run Tryz.prog W = .ok (.agg (hdA X.now.h)) W ∧ W.cell? ⟨pb, 60, none⟩ = some (.map (some mb))) (by kernel_rfl) (HS.out w.drew HC.out) (fun hHeld => ?_)
    refine wpAnyH_take (i := 0) (v := ?v0) rfl (by kernel_rfl) (by kernel_rfl) (by kernel_rfl) (fun _ _ _ h => h) (Or.inl ⟨by first | kernel_rfl | rfl, ?y0⟩) hHeld ?r0
    case y0 => (intro W hSW; (try dsimp only at hSW); go_simp; (try with_reducible rfl))
    change wpAnyH _ _ _ _ _ _ _ (Act.put _ (some 14) _) _
    simp only [Act.put, List.setIfInBounds_toArray, List.set_cons_zero, List.set_cons_succ]
    refine wpAnyH_take (i := 1) (v := ?v1) rfl (by kernel_rfl) (by kernel_rfl) (by kernel_rfl) (fun _ _ _ h => h) (Or.inl ⟨by first | kernel_rfl | rfl, ?y1⟩) hHeld ?r1
    case y1 => (intro W hSW; (try dsimp only at hSW); go_simp; (try with_reducible rfl))
    change wpAnyH _ _ _ _ _ _ _ (Act.put _ (some 15) _) _
    simp only [Act.put, List.setIfInBounds_toArray, List.set_cons_zero, List.set_cons_succ]
    refine wpAnyH_take (i := 2) (v := ?v2) rfl (by kernel_rfl) (by kernel_rfl) (by kernel_rfl) (fun _ _ _ h => h) (Or.inl ⟨by first | kernel_rfl | rfl, ?y2⟩) hHeld ?r2
    case y2 => (intro W hSW; (try dsimp only at hSW); go_simp; (try with_reducible rfl))
    change wpAnyH _ _ _ _ _ _ _ (Act.put _ (some 16) _) _
    simp only [Act.put, List.setIfInBounds_toArray, List.set_cons_zero, List.set_cons_succ]
    refine wpAnyH_take (i := 3) (v := ?v3) rfl (by kernel_rfl) (by kernel_rfl) (by kernel_rfl) (fun _ _ _ h => h) (Or.inl ⟨by first | kernel_rfl | rfl, ?y3⟩) hHeld ?r3
    case y3 => (intro W hSW; (try dsimp only at hSW); go_simp; (try with_reducible rfl))
    change wpAnyH _ _ _ _ _ _ _ (Act.put _ (some 17) _) _
    simp only [Act.put, List.setIfInBounds_toArray, List.set_cons_zero, List.set_cons_succ]
    refine wpAnyH_take (i := 5) (v := ?v5) rfl (by kernel_rfl) (by kernel_rfl) (by kernel_rfl) (fun _ _ _ h => h) (Or.inl ⟨by first | kernel_rfl | rfl, ?y5⟩) hHeld ?r5
    case y5 => (intro W hSW; (try dsimp only at hSW); go_simp; (try with_reducible rfl))
    change wpAnyH _ _ _ _ _ _ _ (Act.put _ (some 19) _) _
    simp only [Act.put, List.setIfInBounds_toArray, List.set_cons_zero, List.set_cons_succ]
    refine wpAnyH_take (i := 6) (v := ?v6) rfl (by kernel_rfl) (by kernel_rfl) (by kernel_rfl) (fun _ _ _ h => h) (Or.inl ⟨by first | kernel_rfl | rfl, ?y6⟩) hHeld ?r6
    case y6 => (intro W hSW; (try dsimp only at hSW); go_simp; (try with_reducible rfl))
    change wpAnyH _ _ _ _ _ _ _ (Act.put _ (some 20) _) _
    simp only [Act.put, List.setIfInBounds_toArray, List.set_cons_zero, List.set_cons_succ]
    refine wpAnyH_take (i := 7) (v := ?v7) rfl (by kernel_rfl) (by kernel_rfl) (by kernel_rfl) (fun _ _ _ h => h) (Or.inl ⟨by first | kernel_rfl | rfl, ?y7⟩) hHeld ?r7
    case y7 => (intro W hSW; (try dsimp only at hSW); go_simp; (try with_reducible rfl))
    change wpAnyH _ _ _ _ _ _ _ (Act.put _ (some 21) _) _
    simp only [Act.put, List.setIfInBounds_toArray, List.set_cons_zero, List.set_cons_succ]
    refine wpAnyH_take (i := 8) (v := ?v8) rfl (by kernel_rfl) (by kernel_rfl) (by kernel_rfl) (fun _ _ _ h => h) (Or.inl ⟨by first | kernel_rfl | rfl, ?y8⟩) hHeld ?r8
    case y8 => (intro W hSW; (try dsimp only at hSW); go_simp; (try with_reducible rfl))
    change wpAnyH _ _ _ _ _ _ _ (Act.put _ (some 22) _) _
    simp only [Act.put, List.setIfInBounds_toArray, List.set_cons_zero, List.set_cons_succ]
    refine wpAnyH_take (i := 9) (v := .agg (hdA X.now.h)) rfl (by kernel_rfl) (by kernel_rfl) (by kernel_rfl) (fun _ _ _ h => h) (Or.inl ⟨by first | kernel_rfl | rfl, ?y9⟩) hHeld ?r9
    case y9 => (intro W hSW; refine yields_at _ _ rfl rfl (hSW.1))
    change wpAnyH _ _ _ _ _ _ _ (Act.put _ (some 23) _) _
    simp only [Act.put, List.setIfInBounds_toArray, List.set_cons_zero, List.set_cons_succ]
    refine wpAnyH_take (i := 10) (v := ?v10) rfl (by kernel_rfl) (by kernel_rfl) (by kernel_rfl) (fun _ _ _ h => h) (Or.inl ⟨by first | kernel_rfl | rfl, ?y10⟩) hHeld ?r10
    case y10 => (intro W hSW; (try dsimp only at hSW); go_simp; (try with_reducible rfl))
    change wpAnyH _ _ _ _ _ _ _ (Act.put _ (some 24) _) _
    simp only [Act.put, List.setIfInBounds_toArray, List.set_cons_zero, List.set_cons_succ]
    refine wpAnyH_take (i := 11) (v := ?v11) rfl (by kernel_rfl) (by kernel_rfl) (by kernel_rfl) (fun _ _ _ h => h) (Or.inl ⟨by first | kernel_rfl | rfl, ?y11⟩) hHeld ?r11
    case y11 => (intro W hSW; (try dsimp only at hSW); go_simp; (try with_reducible rfl))
    change wpAnyH _ _ _ _ _ _ _ (Act.put _ (some 25) _) _
    simp only [Act.put, List.setIfInBounds_toArray, List.set_cons_zero, List.set_cons_succ]
    refine wpAnyH_take (i := 12) (v := ?v12) rfl (by kernel_rfl) (by kernel_rfl) (by kernel_rfl) (fun _ _ _ h => h) (Or.inl ⟨by first | kernel_rfl | rfl, ?y12⟩) hHeld ?r12
    case y12 => (intro W hSW; (try dsimp only at hSW); go_simp; (try with_reducible rfl))
    change wpAnyH _ _ _ _ _ _ _ (Act.put _ (some 26) _) _
    simp only [Act.put, List.setIfInBounds_toArray, List.set_cons_zero, List.set_cons_succ]
    refine wpAnyH_take (i := 13) (v := ?v13) rfl (by kernel_rfl) (by kernel_rfl) (by kernel_rfl) (fun _ _ _ h => h) (Or.inl ⟨by first | kernel_rfl | rfl, ?y13⟩) hHeld ?r13
    case y13 => (intro W hSW; (try dsimp only at hSW); go_simp; (try with_reducible rfl))
    change wpAnyH _ _ _ _ _ _ _ (Act.put _ (some 27) _) _
    simp only [Act.put, List.setIfInBounds_toArray, List.set_cons_zero, List.set_cons_succ]
    refine wpAnyH_take (i := 14) (v := ?v14) rfl (by kernel_rfl) (by kernel_rfl) (by kernel_rfl) (fun _ _ _ h => h) (Or.inl ⟨by first | kernel_rfl | rfl, ?y14⟩) hHeld ?r14
    case y14 => (intro W hSW; (try dsimp only at hSW); go_simp; (try with_reducible rfl))
    change wpAnyH _ _ _ _ _ _ _ (Act.put _ (some 28) _) _
    simp only [Act.put, List.setIfInBounds_toArray, List.set_cons_zero, List.set_cons_succ]
    refine wpAnyH_ready (rs := [4, 15]) (by kernel_rfl) (by simp) ?_
    refine AllReadyH.cons rfl (fun K hK => ?_) (AllReadyH.cons rfl (fun K hK => ?_) AllReadyH.nil)
    · go_simp
      refine hK.out _ _ (HS.out w.drew HC.out) (fun hHeld => ?_)
      clear hK K
      try simp only [Act.put, List.setIfInBounds_toArray, List.set_cons_zero, List.set_cons_succ]
      refine wpAnyH_ready (rs := [15]) (by kernel_rfl) (by simp) ?_
      refine AllReadyH.cons rfl (fun K hK => ?_) AllReadyH.nil
      go_simp
      refine (HCL.out).mono ?_
      rintro e V1 ⟨rfl, hm1, hb1, hs1⟩
      refine hK.out _ _ (HS.out V1 ((hb1.block pb (lt_of_some HC.out)).trans HC.out)) (fun hHeld => ?_)
      clear hK K
      try simp only [Act.put, List.setIfInBounds_toArray, List.set_cons_zero, List.set_cons_succ]
      have H1 : Hid (MapIs V1 w.heap.size X.now.m ∧ Below w.heap.size w V1 ∧ V1.heap.size = w.heap.size + 1 ∧ V1.heap[pb]? = some (.cells cs 109 (0, 0))) := ⟨hm1, hb1, hs1, (hb1.block pb (lt_of_some HC.out)).trans HC.out⟩
      have v61 : V1.cell? ⟨pb, 61, none⟩ = some (.slice sa m sc) := by rw [cell_of_row V1 pb _ _ _ _ H1.out.2.2.2]; exact HG.out
      obtain ⟨V2, hV2⟩ : ∃ V2, V1.alloc (.cells (stA X.now.h w.heap.size) 105) = V2 := ⟨_, rfl⟩
      obtain ⟨q1, hq1⟩ : ∃ q1, V1.heap.size = q1 := ⟨_, rfl⟩
      have H2 : Hid (V2.heap[q1]? = some (.cells (stA X.now.h w.heap.size) 105 (0, 0)) ∧ Below w.heap.size w V2 ∧ V2.heap[pb]? = some (.cells cs 109 (0, 0)) ∧ V2.heap.size = w.heap.size + 2 ∧ q1 = w.heap.size + 1 ∧ MapIs V2 w.heap.size X.now.m) := by
        rw [← hV2, ← hq1]
        have h1 := H1.out
        refine ⟨heap_alloc_new V1 _, h1.2.1.alloc (by omega) _, by rw [Below.heap_alloc _ _ _ (lt_of_some h1.2.2.2)]; exact h1.2.2.2, by simp; omega, h1.2.2.1, h1.1.keep (Below.heap_alloc _ _ _ h1.1.lt)⟩
      have u61 : V2.cell? ⟨pb, 61, none⟩ = some (.slice sa m sc) := by rw [cell_of_row V2 pb _ _ _ _ H2.out.2.2.1]; exact HG.out
      obtain ⟨aA, cA, V3, hrA, hoA, hgA, hlA⟩ := addS_own V2 (p := (X.now, w.heap.size)) (HR.out V2 H2.out.2.1) H2.out.1 (by omega) (Nat.zero_le _)
      have hpb3 : V3.heap[pb]? = some (.cells cs 109 (0, 0)) := (hgA.block pb (lt_of_some H2.out.2.2.1) (fun e => HSP.out e.symm)).trans H2.out.2.2.1
      have t61 : V3.cell? ⟨pb, 61, none⟩ = some (.slice sa m sc) := by rw [cell_of_row V3 pb _ _ _ _ hpb3]; exact HG.out
      have tf61 := frozen_of_row V3 pb 61 _ _ hpb3
      have HE : Hid (PTo h0 F w g D pb jb n X.sav (V3.setCell ⟨pb, 61, none⟩ (.slice aA (m + 1) cA)) ∧ (V3.setCell ⟨pb, 61, none⟩ (.slice aA (m + 1) cA)).cell? ⟨pb, 61, none⟩ = some (.slice aA (m + 1) cA)) := HFIN.out V2 V3 aA cA q1 H2.out.2.1 H2.out.2.2.1 H2.out.2.2.2 hoA hgA hlA
      have HS3 : Hid ((fun W => (loadVar 100 ⟨pb, 39, none⟩).run Tryz.prog W = .ok (.agg (hdA X.now.h)) W ∧ W.cell? ⟨pb, 60, none⟩ = some (.map (some mb))) V3) := HS.out V3 hpb3
      have HS4 : Hid ((fun W => (loadVar 100 ⟨pb, 39, none⟩).run Tryz.prog W = .ok (.agg (hdA X.now.h)) W ∧ W.cell? ⟨pb, 60, none⟩ = some (.map (some mb))) (V3.setCell ⟨pb, 61, none⟩ (.slice aA (m + 1) cA))) := HT.out V3 _ hpb3
      have HS1 : Hid ((fun W => (loadVar 100 ⟨pb, 39, none⟩).run Tryz.prog W = .ok (.agg (hdA X.now.h)) W ∧ W.cell? ⟨pb, 60, none⟩ = some (.map (some mb))) V1) := HS.out V1 H1.out.2.2.2
      have HS2 : Hid ((fun W => (loadVar 100 ⟨pb, 39, none⟩).run Tryz.prog W = .ok (.agg (hdA X.now.h)) W ∧ W.cell? ⟨pb, 60, none⟩ = some (.map (some mb))) V2) := HS.out V2 H2.out.2.2.1
      clear hm1 hb1 hs1 hoA hgA hlA hpb3 H1 H2
      refine wpAnyH_take (i := 16) (v := .agg (stA X.now.h w.heap.size)) rfl (by kernel_rfl) (by kernel_rfl) (by kernel_rfl) (fun _ _ _ h => h) (Or.inl ⟨by first | kernel_rfl | rfl, ?ya_16⟩) hHeld ?ra_16
      case ya_16 => (intro W hSW; exact yields_state _ _ rfl X.now.h w.heap.size rfl rfl)
      change wpAnyH _ _ _ _ _ _ _ (Act.put _ (some 30) _) _
      simp only [Act.put, List.setIfInBounds_toArray, List.set_cons_zero, List.set_cons_succ]
      refine wpAnyH_ready (rs := [17]) (by kernel_rfl) (by simp) ?_
      refine AllReadyH.cons rfl (fun K hK => ?_) AllReadyH.nil
      rw [if_pos (by rfl)]
      refine wp_rowS _ rfl X.now.h w.heap.size rfl ?_
      rw [hV2, hq1]
      refine hK.out _ _ (HS2.out) (fun hHeld => ?_)
      clear hK K
      change wpAnyH _ _ _ _ _ _ _ (Act.put _ (some 31) _) _
      simp only [Act.put, List.setIfInBounds_toArray, List.set_cons_zero, List.set_cons_succ]
      refine wpAnyH_ready (rs := [18]) (by kernel_rfl) (by simp) ?_
      refine AllReadyH.cons rfl (fun K hK => ?_) AllReadyH.nil
      rw [if_pos (by rfl)]
      refine wp_app V2 _ _ _ _ rfl rfl rfl (hrA _) ?_
      skip
      refine hK.out _ _ (HS3.out) (fun hHeld => ?_)
      clear hK K
      change wpAnyH _ _ _ _ _ _ _ (Act.put _ (some 32) _) _
      simp only [Act.put, List.setIfInBounds_toArray, List.set_cons_zero, List.set_cons_succ]
      refine wpAnyH_take (i := 19) (v := ?va_19) rfl (by kernel_rfl) (by kernel_rfl) (by kernel_rfl) (fun _ _ _ h => h) (Or.inl ⟨by first | kernel_rfl | rfl, ?ya_19⟩) hHeld ?ra_19
      case ya_19 => (intro W hSW; (try dsimp only at hSW); go_simp; (try with_reducible rfl))
      change wpAnyH _ _ _ _ _ _ _ (Act.put _ (some 33) _) _
      simp only [Act.put, List.setIfInBounds_toArray, List.set_cons_zero, List.set_cons_succ]
      refine wpAnyH_take (i := 20) (v := ?va_20) rfl (by kernel_rfl) (by kernel_rfl) (by kernel_rfl) (fun _ _ _ h => h) (Or.inl ⟨by first | kernel_rfl | rfl, ?ya_20⟩) hHeld ?ra_20
      case ya_20 => (intro W hSW; (try dsimp only at hSW); go_simp; (try with_reducible rfl))
      change wpAnyH _ _ _ _ _ _ _ (Act.put _ (some 34) _) _
      simp only [Act.put, List.setIfInBounds_toArray, List.set_cons_zero, List.set_cons_succ]
      have e61 := HE.out.2
      refine wpAnyH_ready (rs := [21]) (by kernel_rfl) (by simp) ?_
      refine AllReadyH.cons rfl (fun K hK => ?_) AllReadyH.nil
      go_simp
      refine hK.out _ _ (HS4.out) (fun hHeld => ?_)
      clear hK K
      refine wpAnyH_done (by kernel_rfl) ?_ _
      go_wp2
      go_ret2
      refine .inl ⟨HM.out, ?_, HE.out.1⟩
      rw [HMM.out]
      rfl
    · go_simp
      refine (HCL.out).mono ?_
      rintro e V1 ⟨rfl, hm1, hb1, hs1⟩
      refine hK.out _ _ (HS.out V1 ((hb1.block pb (lt_of_some HC.out)).trans HC.out)) (fun hHeld => ?_)
      clear hK K
      try simp only [Act.put, List.setIfInBounds_toArray, List.set_cons_zero, List.set_cons_succ]
      have H1 : Hid (MapIs V1 w.heap.size X.now.m ∧ Below w.heap.size w V1 ∧ V1.heap.size = w.heap.size + 1 ∧ V1.heap[pb]? = some (.cells cs 109 (0, 0))) := ⟨hm1, hb1, hs1, (hb1.block pb (lt_of_some HC.out)).trans HC.out⟩
      have v61 : V1.cell? ⟨pb, 61, none⟩ = some (.slice sa m sc) := by rw [cell_of_row V1 pb _ _ _ _ H1.out.2.2.2]; exact HG.out
      obtain ⟨V2, hV2⟩ : ∃ V2, V1.alloc (.cells (stA X.now.h w.heap.size) 105) = V2 := ⟨_, rfl⟩
      obtain ⟨q1, hq1⟩ : ∃ q1, V1.heap.size = q1 := ⟨_, rfl⟩
      have H2 : Hid (V2.heap[q1]? = some (.cells (stA X.now.h w.heap.size) 105 (0, 0)) ∧ Below w.heap.size w V2 ∧ V2.heap[pb]? = some (.cells cs 109 (0, 0)) ∧ V2.heap.size = w.heap.size + 2 ∧ q1 = w.heap.size + 1 ∧ MapIs V2 w.heap.size X.now.m) := by
        rw [← hV2, ← hq1]
        have h1 := H1.out
        refine ⟨heap_alloc_new V1 _, h1.2.1.alloc (by omega) _, by rw [Below.heap_alloc _ _ _ (lt_of_some h1.2.2.2)]; exact h1.2.2.2, by simp; omega, h1.2.2.1, h1.1.keep (Below.heap_alloc _ _ _ h1.1.lt)⟩
      have u61 : V2.cell? ⟨pb, 61, none⟩ = some (.slice sa m sc) := by rw [cell_of_row V2 pb _ _ _ _ H2.out.2.2.1]; exact HG.out
      obtain ⟨aA, cA, V3, hrA, hoA, hgA, hlA⟩ := addS_own V2 (p := (X.now, w.heap.size)) (HR.out V2 H2.out.2.1) H2.out.1 (by omega) (Nat.zero_le _)
      have hpb3 : V3.heap[pb]? = some (.cells cs 109 (0, 0)) := (hgA.block pb (lt_of_some H2.out.2.2.1) (fun e => HSP.out e.symm)).trans H2.out.2.2.1
      have t61 : V3.cell? ⟨pb, 61, none⟩ = some (.slice sa m sc) := by rw [cell_of_row V3 pb _ _ _ _ hpb3]; exact HG.out
      have tf61 := frozen_of_row V3 pb 61 _ _ hpb3
      have HE : Hid (PTo h0 F w g D pb jb n X.sav (V3.setCell ⟨pb, 61, none⟩ (.slice aA (m + 1) cA)) ∧ (V3.setCell ⟨pb, 61, none⟩ (.slice aA (m + 1) cA)).cell? ⟨pb, 61, none⟩ = some (.slice aA (m + 1) cA)) := HFIN.out V2 V3 aA cA q1 H2.out.2.1 H2.out.2.2.1 H2.out.2.2.2 hoA hgA hlA
      have HS3 : Hid ((fun W => (loadVar 100 ⟨pb, 39, none⟩).run Tryz.prog W = .ok (.agg (hdA X.now.h)) W ∧ W.cell? ⟨pb, 60, none⟩ = some (.map (some mb))) V3) := HS.out V3 hpb3
      have HS4 : Hid ((fun W => (loadVar 100 ⟨pb, 39, none⟩).run Tryz.prog W = .ok (.agg (hdA X.now.h)) W ∧ W.cell? ⟨pb, 60, none⟩ = some (.map (some mb))) (V3.setCell ⟨pb, 61, none⟩ (.slice aA (m + 1) cA))) := HT.out V3 _ hpb3
      have HS1 : Hid ((fun W => (loadVar 100 ⟨pb, 39, none⟩).run Tryz.prog W = .ok (.agg (hdA X.now.h)) W ∧ W.cell? ⟨pb, 60, none⟩ = some (.map (some mb))) V1) := HS.out V1 H1.out.2.2.2
      have HS2 : Hid ((fun W => (loadVar 100 ⟨pb, 39, none⟩).run Tryz.prog W = .ok (.agg (hdA X.now.h)) W ∧ W.cell? ⟨pb, 60, none⟩ = some (.map (some mb))) V2) := HS.out V2 H2.out.2.2.1
      clear hm1 hb1 hs1 hoA hgA hlA hpb3 H1 H2
      refine wpAnyH_take (i := 16) (v := .agg (stA X.now.h w.heap.size)) rfl (by kernel_rfl) (by kernel_rfl) (by kernel_rfl) (fun _ _ _ h => h) (Or.inl ⟨by first | kernel_rfl | rfl, ?yb_16⟩) hHeld ?rb_16
      case yb_16 => (intro W hSW; exact yields_state _ _ rfl X.now.h w.heap.size rfl rfl)
      change wpAnyH _ _ _ _ _ _ _ (Act.put _ (some 30) _) _
      simp only [Act.put, List.setIfInBounds_toArray, List.set_cons_zero, List.set_cons_succ]
      refine wpAnyH_ready (rs := [4, 17]) (by kernel_rfl) (by simp) ?_
      refine AllReadyH.cons rfl (fun K hK => ?_) (AllReadyH.cons rfl (fun K hK => ?_) AllReadyH.nil)
      · go_simp
        refine hK.out _ _ (HS1.out) (fun hHeld => ?_)
        clear hK K
        try simp only [Act.put, List.setIfInBounds_toArray, List.set_cons_zero, List.set_cons_succ]
        refine wpAnyH_ready (rs := [17]) (by kernel_rfl) (by simp) ?_
        refine AllReadyH.cons rfl (fun K hK => ?_) AllReadyH.nil
        rw [if_pos (by rfl)]
        refine wp_rowS _ rfl X.now.h w.heap.size rfl ?_
        rw [hV2, hq1]
        refine hK.out _ _ (HS2.out) (fun hHeld => ?_)
        clear hK K
        change wpAnyH _ _ _ _ _ _ _ (Act.put _ (some 31) _) _
        simp only [Act.put, List.setIfInBounds_toArray, List.set_cons_zero, List.set_cons_succ]
        refine wpAnyH_ready (rs := [18]) (by kernel_rfl) (by simp) ?_
        refine AllReadyH.cons rfl (fun K hK => ?_) AllReadyH.nil
        rw [if_pos (by rfl)]
        refine wp_app V2 _ _ _ _ rfl rfl rfl (hrA _) ?_
        skip
        refine hK.out _ _ (HS3.out) (fun hHeld => ?_)
        clear hK K
        change wpAnyH _ _ _ _ _ _ _ (Act.put _ (some 32) _) _
        simp only [Act.put, List.setIfInBounds_toArray, List.set_cons_zero, List.set_cons_succ]
        refine wpAnyH_take (i := 19) (v := ?vc_19) rfl (by kernel_rfl) (by kernel_rfl) (by kernel_rfl) (fun _ _ _ h => h) (Or.inl ⟨by first | kernel_rfl | rfl, ?yc_19⟩) hHeld ?rc_19
        case yc_19 => (intro W hSW; (try dsimp only at hSW); go_simp; (try with_reducible rfl))
        change wpAnyH _ _ _ _ _ _ _ (Act.put _ (some 33) _) _
        simp only [Act.put, List.setIfInBounds_toArray, List.set_cons_zero, List.set_cons_succ]
        refine wpAnyH_take (i := 20) (v := ?vc_20) rfl (by kernel_rfl) (by kernel_rfl) (by kernel_rfl) (fun _ _ _ h => h) (Or.inl ⟨by first | kernel_rfl | rfl, ?yc_20⟩) hHeld ?rc_20
        case yc_20 => (intro W hSW; (try dsimp only at hSW); go_simp; (try with_reducible rfl))
        change wpAnyH _ _ _ _ _ _ _ (Act.put _ (some 34) _) _
        simp only [Act.put, List.setIfInBounds_toArray, List.set_cons_zero, List.set_cons_succ]
        have e61 := HE.out.2
        refine wpAnyH_ready (rs := [21]) (by kernel_rfl) (by simp) ?_
        refine AllReadyH.cons rfl (fun K hK => ?_) AllReadyH.nil
        go_simp
        refine hK.out _ _ (HS4.out) (fun hHeld => ?_)
        clear hK K
        refine wpAnyH_done (by kernel_rfl) ?_ _
        go_wp2
        go_ret2
        refine .inl ⟨HM.out, ?_, HE.out.1⟩
        rw [HMM.out]
        rfl
      · rw [if_pos (by rfl)]
        refine wp_rowS _ rfl X.now.h w.heap.size rfl ?_
        rw [hV2, hq1]
        refine hK.out _ _ (HS2.out) (fun hHeld => ?_)
        clear hK K
        change wpAnyH _ _ _ _ _ _ _ (Act.put _ (some 31) _) _
        simp only [Act.put, List.setIfInBounds_toArray, List.set_cons_zero, List.set_cons_succ]
        refine wpAnyH_ready (rs := [4]) (by kernel_rfl) (by simp) ?_
        refine AllReadyH.cons rfl (fun K hK => ?_) AllReadyH.nil
        go_simp
        refine hK.out _ _ (HS2.out) (fun hHeld => ?_)
        clear hK K
        try simp only [Act.put, List.setIfInBounds_toArray, List.set_cons_zero, List.set_cons_succ]
        refine wpAnyH_ready (rs := [18]) (by kernel_rfl) (by simp) ?_
        refine AllReadyH.cons rfl (fun K hK => ?_) AllReadyH.nil
        rw [if_pos (by rfl)]
        refine wp_app V2 _ _ _ _ rfl rfl rfl (hrA _) ?_
        skip
        refine hK.out _ _ (HS3.out) (fun hHeld => ?_)
        clear hK K
        change wpAnyH _ _ _ _ _ _ _ (Act.put _ (some 32) _) _
        simp only [Act.put, List.setIfInBounds_toArray, List.set_cons_zero, List.set_cons_succ]
        refine wpAnyH_take (i := 19) (v := ?vd_19) rfl (by kernel_rfl) (by kernel_rfl) (by kernel_rfl) (fun _ _ _ h => h) (Or.inl ⟨by first | kernel_rfl | rfl, ?yd_19⟩) hHeld ?rd_19
        case yd_19 => (intro W hSW; (try dsimp only at hSW); go_simp; (try with_reducible rfl))
        change wpAnyH _ _ _ _ _ _ _ (Act.put _ (some 33) _) _
        simp only [Act.put, List.setIfInBounds_toArray, List.set_cons_zero, List.set_cons_succ]
        refine wpAnyH_take (i := 20) (v := ?vd_20) rfl (by kernel_rfl) (by kernel_rfl) (by kernel_rfl) (fun _ _ _ h => h) (Or.inl ⟨by first | kernel_rfl | rfl, ?yd_20⟩) hHeld ?rd_20
        case yd_20 => (intro W hSW; (try dsimp only at hSW); go_simp; (try with_reducible rfl))
        change wpAnyH _ _ _ _ _ _ _ (Act.put _ (some 34) _) _
        simp only [Act.put, List.setIfInBounds_toArray, List.set_cons_zero, List.set_cons_succ]
        have e61 := HE.out.2
        refine wpAnyH_ready (rs := [21]) (by kernel_rfl) (by simp) ?_
        refine AllReadyH.cons rfl (fun K hK => ?_) AllReadyH.nil
        go_simp
        refine hK.out _ _ (HS4.out) (fun hHeld => ?_)
        clear hK K
        refine wpAnyH_done (by kernel_rfl) ?_ _
        go_wp2
        go_ret2
        refine .inl ⟨HM.out, ?_, HE.out.1⟩
        rw [HMM.out]
        rfl
end
end Go.Proofs.YtdgffocmdkadpaaGreat
