/- Walk over a Disk's settle. -/
import Derived.Test.YtdgffocmdkadpaaGreatD
namespace Go.Proofs.YtdgffocmdkadpaaGreat
open Go.RowKit
theorem neq_wt (a : Int) (s t : ByteArray) (w : World) : (binOp .neq 143 (.agg #[.int .i64 a, .string s]) (.agg #[.int .i64 a, .string t])).run Tryz.prog w = .ok (.bool (!(decide (s = t)))) w := by
  have u3 := Tryz.underlying3
  have u9 := Tryz.underlying9
  have a3 := Tryz.isAgg3
  have z3 := Tryz.sizeOf3
  have a9 := Tryz.isAgg9
  have z9 := Tryz.sizeOf9
  have hS : Tryz.prog.underlying 143 = some (.struct (Tryz.prog.fieldsOf 143)) := by kernel_rfl
  have hp : Tryz.prog.stoodInHeld 143 = false := by kernel_rfl
  rw [run_neq_struct, show (10000 : Nat) = 9999 + 1 from rfl, run_equalIn_agg w 9999 143 _ _ hS hp]
  simp only [Program.fieldsOf, Tryz.underlying143]
  go_simp
  by_cases h1 : s = t
  · subst h1; simp
  · have := str_ne h1
    simp [h1, this]
theorem Lies.wat {w : World} {S : Nat → Prop} {g kb kc sb sc : Nat} {wa : Option Addr} {wc : Nat} {D : Dk} (h : Lies w S g kb kc sb sc wa wc D) (h0 : 0 < D.waits.length) :
    ∃ wb, wa = some ⟨wb, 0, none⟩ ∧ S wb ∧ wb ≠ g ∧ wb ≠ kb ∧ wb ≠ sb ∧ wb < w.heap.size ∧ ∀ i (q : Wt), D.waits[i]? = some q → w.cell? ⟨wb, i * 2, none⟩ = some (.int .i64 (q.1 : Int)) ∧ w.cell? ⟨wb, i * 2 + 1, none⟩ = some (.string q.2) := by
  have hq := h.q
  rcases hq.2 with ⟨_, h2⟩ | ⟨g', cap', cur, e, hb, hr, h3⟩
  · omega
  · cases e
    have hS := h.Sw g' rfl
    have hw := h.wg g' rfl
    refine ⟨g', rfl, hS, hw.1, hw.2.1, hw.2.2, h.bd _ hS, fun i q hiq => ?_⟩
    have := wtsV_at _ _ _ hiq
    rw [Nat.mul_comm i 2]
    exact ⟨own_at h.q this.1, own_at h.q this.2⟩
/-- Behind k rounds of the first loop. -/
structure Mid1 (w : World) (kb kc : Nat) (D : Dk) (p : Nat → Bool) (k : Nat) (wr : World) : Prop where
  row : wr.ownsRow 0 9 1 (.slice (some ⟨kb, 0, none⟩) D.kept.length kc) D.kept.length (strsV (upTo D.kept p D.waits k))
  u : Upd (fun x => x = kb) w wr
/-- Behind k rounds of the second loop. -/
structure Mid2 (w : World) (kb kc sb sc : Nat) (D : Dk) (K : List ByteArray) (k : Nat) (wr : World) : Prop where
  row : wr.ownsRow 0 9 1 (.slice (some ⟨kb, 0, none⟩) D.kept.length kc) D.kept.length (strsV K)
  row2 : wr.ownsRow 0 9 1 (.slice (some ⟨sb, 0, none⟩) D.kept.length sc) D.kept.length (strsV (backTo D.seen K D.waits k))
  u : Upd (fun x => x = kb ∨ x = sb) w wr
theorem Mid1.alloc {w : World} {kb kc : Nat} {D : Dk} {p : Nat → Bool} {k : Nat} {wr : World} (h : Mid1 w kb kc D p k wr) (o : Obj) : Mid1 w kb kc D p k (wr.alloc o) := ⟨h.row.alloc o, h.u.alloc o⟩
theorem Mid1.below {w : World} {kb kc : Nat} {D : Dk} {p : Nat → Bool} {k : Nat} {wr w' : World} (h : Mid1 w kb kc D p k wr) (hb : Below wr.heap.size wr w') : Mid1 w kb kc D p k w' :=
  ⟨own_keep h.row (fun x hx => hb.block x (h.row.lt x hx).2), h.u.trans (Upd.of_below (S := fun _ => False) hb) (fun _ f => f.elim)⟩
theorem Mid1.leave {w : World} {kb kc : Nat} {D : Dk} {p : Nat → Bool} {k : Nat} {wr : World} (h : Mid1 w kb kc D p k wr) {q : Wt} (hq : D.waits[k]? = some q) (hp : p k = false) : Mid1 w kb kc D p (k + 1) wr := ⟨by rw [upTo_leave hq hp]; exact h.row, h.u⟩
theorem Mid1.same {w : World} {kb kc : Nat} {D : Dk} {p : Nat → Bool} {k : Nat} {wr : World} (h : Mid1 w kb kc D p k wr) {q : Wt} (hq : D.waits[k]? = some q) (hp : p k = true) (he : (upTo D.kept p D.waits k).getD q.1 ByteArray.empty = q.2) (hl : q.1 < D.kept.length) : Mid1 w kb kc D p (k + 1) wr := by
  have e : (upTo D.kept p D.waits k).set q.1 q.2 = upTo D.kept p D.waits k := by
    apply List.ext_getElem?
    intro j
    by_cases hj : q.1 = j
    · subst hj
      rw [List.getElem?_set_self (by rw [upTo_len]; exact hl), ← he, List.getD_eq_getElem?_getD, List.getElem?_eq_getElem (by rw [upTo_len]; exact hl)]
      rfl
    · rw [List.getElem?_set_ne hj]
  exact ⟨by rw [upTo_pick hq hp, e]; exact h.row, h.u⟩
theorem Mid1.lay {w : World} {kb kc : Nat} {D : Dk} {p : Nat → Bool} {k : Nat} {wr : World} (h : Mid1 w kb kc D p k wr) {q : Wt} (hq : D.waits[k]? = some q) (hp : p k = true) : Mid1 w kb kc D p (k + 1) (wr.setCell ⟨kb, q.1, none⟩ (.string q.2)) := by
  refine ⟨?_, h.u.setCell (fun _ => rfl) _⟩
  rw [upTo_pick hq hp, ← strsV_set]
  exact own_put h.row _ _
theorem Mid1.drew {w : World} {kb kc : Nat} {D : Dk} {p : Nat → Bool} {k : Nat} {wr : World} (h : Mid1 w kb kc D p k wr) : Mid1 w kb kc D p k wr.drew := ⟨h.row, h.u.drew⟩
theorem Mid2.alloc {w : World} {kb kc sb sc : Nat} {D : Dk} {K : List ByteArray} {k : Nat} {wr : World} (h : Mid2 w kb kc sb sc D K k wr) (o : Obj) : Mid2 w kb kc sb sc D K k (wr.alloc o) := ⟨h.row.alloc o, h.row2.alloc o, h.u.alloc o⟩
theorem Mid2.drew {w : World} {kb kc sb sc : Nat} {D : Dk} {K : List ByteArray} {k : Nat} {wr : World} (h : Mid2 w kb kc sb sc D K k wr) : Mid2 w kb kc sb sc D K k wr.drew := ⟨h.row, h.row2, h.u.drew⟩
theorem Mid2.lay {w : World} {kb kc sb sc : Nat} {D : Dk} {K : List ByteArray} {k : Nat} {wr : World} (h : Mid2 w kb kc sb sc D K k wr) (hne : kb ≠ sb) {q : Wt} (hq : D.waits[k]? = some q) : Mid2 w kb kc sb sc D K (k + 1) (wr.setCell ⟨sb, q.1, none⟩ (.string (K.getD q.1 ByteArray.empty))) := by
  refine ⟨own_keep h.row (fun x hx => ?_), ?_, h.u.setCell (fun _ => .inr rfl) _⟩
  · rw [ob_slice] at hx
    cases hx
    exact heap_setCell_other _ _ _ _ hne
  · rw [backTo_step hq, ← strsV_set]
    exact own_put h.row2 _ _
theorem Mid1.kat {w : World} {kb kc : Nat} {D : Dk} {p : Nat → Bool} {k : Nat} {wr : World} (h : Mid1 w kb kc D p k wr) (a : Nat) (ha : a < D.kept.length) : wr.cell? ⟨kb, a, none⟩ = some (.string ((upTo D.kept p D.waits k).getD a ByteArray.empty)) :=
  own_at h.row (by rw [strsV_at, List.getD_eq_getElem?_getD, List.getElem?_eq_getElem (by rw [upTo_len]; exact ha)]; rfl)
theorem Mid1.other {w : World} {kb kc : Nat} {D : Dk} {p : Nat → Bool} {k : Nat} {wr : World} (h : Mid1 w kb kc D p k wr) {x : Addr} (hx : x.block < w.heap.size) (hne : x.block ≠ kb) : wr.cell? x = w.cell? x := World.cell?_of_block (w := w) (h.u.block _ hx hne)
theorem Mid1.fro {w : World} {kb kc : Nat} {D : Dk} {p : Nat → Bool} {k : Nat} {wr : World} (h : Mid1 w kb kc D p k wr) (a : Nat) : wr.frozen? ⟨kb, a, none⟩ = false := own_fro h.row a
theorem Mid2.kat {w : World} {kb kc sb sc : Nat} {D : Dk} {K : List ByteArray} {k : Nat} {wr : World} (h : Mid2 w kb kc sb sc D K k wr) (hK : K.length = D.kept.length) (a : Nat) (ha : a < D.kept.length) : wr.cell? ⟨kb, a, none⟩ = some (.string (K.getD a ByteArray.empty)) :=
  own_at h.row (by rw [strsV_at, List.getD_eq_getElem?_getD, List.getElem?_eq_getElem (by rw [hK]; exact ha)]; rfl)
theorem Mid2.sat {w : World} {kb kc sb sc : Nat} {D : Dk} {K : List ByteArray} {k : Nat} {wr : World} (h : Mid2 w kb kc sb sc D K k wr) (a : Nat) (ha : a < D.kept.length) : ∃ v, wr.cell? ⟨sb, a, none⟩ = some (.string v) :=
  ⟨_, own_at h.row2 (by rw [strsV_at, List.getElem?_eq_getElem (by rw [backTo_len, seen_len]; exact ha)]; rfl)⟩
theorem Mid2.other {w : World} {kb kc sb sc : Nat} {D : Dk} {K : List ByteArray} {k : Nat} {wr : World} (h : Mid2 w kb kc sb sc D K k wr) {x : Addr} (hx : x.block < w.heap.size) (h1 : x.block ≠ kb) (h2 : x.block ≠ sb) : wr.cell? x = w.cell? x := World.cell?_of_block (w := w) (h.u.block _ hx (fun e => e.elim h1 h2))
theorem Mid2.fro {w : World} {kb kc sb sc : Nat} {D : Dk} {K : List ByteArray} {k : Nat} {wr : World} (h : Mid2 w kb kc sb sc D K k wr) (a : Nat) : wr.frozen? ⟨sb, a, none⟩ = false := own_fro h.row2 a
set_option maxRecDepth 100000 in
set_option maxHeartbeats 2000000 in
theorem settle_any (f : Nat) (lb : Array Value) (p : Nat → Bool) {S : Nat → Prop} {g kb kc sb sc : Nat} {wa : Option Addr} {wc : Nat} {D : Dk} {w : World} (h : Lies w S g kb kc sb sc wa wc D)
    (eg : ∀ args w, (callFunc f args).run Tryz.prog w = .ok (.enter f args) w)
    (hp : ∀ i : Nat, i < D.waits.length → ∀ W, Upd S w W → Calls Tryz.prog f (#[.int .i64 (i : Int)] ++ lb) W fun e w' => e = .returned (.bool (p i)) ∧ w' = W) :
    Calls Tryz.prog 68 #[.pointer (some ⟨g, 0, none⟩), .func (.func f) #[] lb] w fun e w' => e = .returned (.tuple #[]) ∧ Lies w' S g kb kc sb sc none 0 (D.settled p) ∧ Upd S w w' := by
  obtain ⟨c0, c1, c2, c3, c4, c5⟩ := h.cells
  have HP : Hid (∀ i : Nat, i < D.waits.length → ∀ W, Upd S w W → Calls Tryz.prog f (#[.int .i64 (i : Int)] ++ lb) W fun e w' => e = .returned (.bool (p i)) ∧ w' = W) := hp
  have HL : Hid (Lies w S g kb kc sb sc wa wc D) := h
  have HS0 : Hid (Mid1 w kb kc D p 0 w) := ⟨h.k, Upd.refl _ _⟩
  have hsm : D.waits.length ≤ 1000000 := by have := h.ok.ww; have := h.ok.wr; omega
  have hsm2 := h.ok.n2
  have HKG : Hid (g ≠ kb ∧ g ≠ sb ∧ g < w.heap.size ∧ kb < w.heap.size ∧ sb < w.heap.size ∧ kb ≠ sb) := ⟨Ne.symm h.kg, Ne.symm h.sg, h.bd _ h.Sg, h.bd _ h.Sk, h.bd _ h.Ss, h.ks⟩
  obtain ⟨N, hN⟩ : ∃ N, D.waits.length = N := ⟨_, rfl⟩
  obtain ⟨n, hn⟩ : ∃ n, D.kept.length = n := ⟨_, rfl⟩
  rw [hN] at c2 hsm
  rw [hn] at c0 c1 hsm2
  clear h hp
  go_enter Tryz.func68, Tryz.ntmps68
  go_wp2
  go_loopw [13] (fun i wr => ∃ k : Nat, k ≤ N ∧ i = .int .i64 k ∧ Mid1 w kb kc D p k wr) (fun i _ => N - (intOf i).toNat)
  case atStart => exact ⟨0, by omega, rfl, HS0.out⟩
  case round =>
    clear HS0
    obtain ⟨k, hk, rfl, hrel⟩ := hrel
    by_cases hlt : k < N
    · obtain ⟨⟨a, t⟩, hq⟩ : ∃ q, D.waits[k]? = some q := ⟨_, List.getElem?_eq_getElem (by omega)⟩
      obtain ⟨wb, rfl, hwS, hwg, hwk, hws, hwlt, hwc⟩ := HL.out.wat (by omega)
      have han : a < n := by rw [← hn]; exact HL.out.ok.at_ (a, t) (List.mem_of_getElem? hq)
      obtain ⟨ca, cb⟩ := hwc k _ hq
      rw [← World.cell?_of_block (w := w) (w' := wr) (hrel.u.block wb hwlt hwk)] at ca cb
      have kk : (k : Int) < (N : Int) := by omega
      have kan : (a : Int) < (n : Int) := by omega
      have HQ : Hid (D.waits[k]? = some (a, t)) := hq
      obtain ⟨b, hb⟩ : ∃ b, wr.heap.size = b := ⟨_, rfl⟩
      obtain ⟨W1, hW1⟩ : ∃ W1, wr.alloc (.cells #[.int .i64 (a : Int), .string t] 143) = W1 := ⟨_, rfl⟩
      have HM1 : Hid (Mid1 w kb kc D p k W1) := by rw [← hW1]; exact hrel.alloc _
      have ca1 : W1.drew.cell? ⟨b, 0, none⟩ = some (.int .i64 (a : Int)) := by
        show W1.cell? _ = _
        rw [← hW1, ← hb, cell_of_row _ wr.heap.size _ _ _ _ (heap_alloc_new wr _)]; rfl
      have cb1 : W1.drew.cell? ⟨b, 1, none⟩ = some (.string t) := by
        show W1.cell? _ = _
        rw [← hW1, ← hb, cell_of_row _ wr.heap.size _ _ _ _ (heap_alloc_new wr _)]; rfl
      have hb1 : b < W1.drew.heap.size := World.block_lt_of_cell? _ _ ca1
      have hbw : w.heap.size ≤ b := by rw [← hb]; exact hrel.u.size
      have hbk : kb ≠ b := by have := HKG.out; omega
      have hgk : kb ≠ g := Ne.symm HKG.out.1
      have cg0 : W1.drew.cell? ⟨g, 0, none⟩ = some (.slice (some ⟨kb, 0, none⟩) n kc) := by
        rw [HM1.out.drew.other HKG.out.2.2.1 HKG.out.1]; exact c0
      obtain ⟨u, hu⟩ : ∃ u, (upTo D.kept p D.waits k).getD a ByteArray.empty = u := ⟨_, rfl⟩
      have cku : W1.drew.cell? ⟨kb, a, none⟩ = some (.string u) := by
        rw [← hu]; exact HM1.out.drew.kat a (by omega)
      have HCL := HP.out k (by omega) W1.drew (HM1.out.u.drew.trans (Upd.refl (fun _ => False) _) (fun _ f => f.elim) |> fun h => ⟨h.os, h.tape, h.output, h.size, fun x hx hs => h.block x hx (fun e => hs (by rw [e]; exact HL.out.Sk))⟩)
      have HST := stands_any g kb kc n a u W1.drew cg0 cku han
      have hneq : ∀ W, (binOp .neq 143 (.agg #[.int .i64 (a : Int), .string t]) (.agg #[.int .i64 (a : Int), .string u])).run Tryz.prog W = .ok (.bool (!(decide (t = u)))) W := fun W => neq_wt (a : Int) t u W
      have hgd := Tryz.eqGuardType143
      clear hwc hq hrel
      cases hpk : p k with
      | false =>
        rw [hpk] at HCL
        clear HST hneq cku cg0
        go_wp2
        try rw [hb]
        try rw [hW1]
        refine wp_region_held_drew (S := fun V => Hid (Mid1 w kb kc D p k V) ∧ V.cell? ⟨b, 0, none⟩ = some (.int .i64 (a : Int)) ∧ V.cell? ⟨b, 1, none⟩ = some (.string t)) (by kernel_rfl) (⟨HM1.out.drew, ca1, cb1⟩) (fun hHeld => ?_)
        refine wpAnyH_take (i := 0) (v := ?va0) rfl (by kernel_rfl) (by kernel_rfl) (by kernel_rfl) (fun _ _ _ h => h) (Or.inl ⟨by first | kernel_rfl | rfl, ?ya0⟩) hHeld ?ra0
        case ya0 => (intro W hSW; (try dsimp only at hSW); go_simp; (try with_reducible rfl))
        change wpAnyH _ _ _ _ _ _ _ (Act.put _ (some 18) _) _
        simp only [Act.put, List.setIfInBounds_toArray, List.set_cons_zero, List.set_cons_succ]
        refine wpAnyH_take (i := 1) (v := ?va1) rfl (by kernel_rfl) (by kernel_rfl) (by kernel_rfl) (fun _ _ _ h => h) (Or.inl ⟨by first | kernel_rfl | rfl, ?ya1⟩) hHeld ?ra1
        case ya1 => (intro W hSW; (try dsimp only at hSW); go_simp; (try with_reducible rfl))
        change wpAnyH _ _ _ _ _ _ _ (Act.put _ (some 19) _) _
        simp only [Act.put, List.setIfInBounds_toArray, List.set_cons_zero, List.set_cons_succ]
        refine wpAnyH_ready (rs := [2]) (by kernel_rfl) (by simp) ?_
        refine AllReadyH.cons rfl (fun K hK => ?_) AllReadyH.nil
        go_simp
        refine (HCL).mono ?_
        rintro e W2 ⟨rfl, hW2⟩; subst hW2
        refine hK.out _ _ (hHeld) (fun hHeld => ?_)
        clear hK K
        try simp only [Act.put, List.setIfInBounds_toArray, List.set_cons_zero, List.set_cons_succ]
        refine wpAnyH_take (i := 3) (v := ?va3) rfl (by kernel_rfl) (by kernel_rfl) (by kernel_rfl) (fun _ _ _ h => h) (Or.inl ⟨by first | kernel_rfl | rfl, ?ya3⟩) hHeld ?ra3
        case ya3 => (intro W hSW; (try dsimp only at hSW); go_simp; (try with_reducible rfl))
        change wpAnyH _ _ _ _ _ _ _ (Act.put _ (some 21) _) _
        simp only [Act.put, List.setIfInBounds_toArray, List.set_cons_zero, List.set_cons_succ]
        refine wpAnyH_take (i := 4) (v := undef) rfl (by kernel_rfl) (by kernel_rfl) (by kernel_rfl) (fun _ _ _ h => h) (Or.inr ⟨by first | kernel_rfl | rfl, rfl⟩) hHeld ?_
        change wpAnyH _ _ _ _ _ _ _ (Act.put _ (some 22) _) _
        simp only [Act.put, List.setIfInBounds_toArray, List.set_cons_zero, List.set_cons_succ]
        refine wpAnyH_take (i := 5) (v := undef) rfl (by kernel_rfl) (by kernel_rfl) (by kernel_rfl) (fun _ _ _ h => h) (Or.inr ⟨by first | kernel_rfl | rfl, rfl⟩) hHeld ?_
        change wpAnyH _ _ _ _ _ _ _ (Act.put _ (some 23) _) _
        simp only [Act.put, List.setIfInBounds_toArray, List.set_cons_zero, List.set_cons_succ]
        refine wpAnyH_take (i := 6) (v := undef) rfl (by kernel_rfl) (by kernel_rfl) (by kernel_rfl) (fun _ _ _ h => h) (Or.inr ⟨by first | kernel_rfl | rfl, rfl⟩) hHeld ?_
        change wpAnyH _ _ _ _ _ _ _ (Act.put _ (some 24) _) _
        simp only [Act.put, List.setIfInBounds_toArray, List.set_cons_zero, List.set_cons_succ]
        refine wpAnyH_take (i := 7) (v := undef) rfl (by kernel_rfl) (by kernel_rfl) (by kernel_rfl) (fun _ _ _ h => h) (Or.inr ⟨by first | kernel_rfl | rfl, rfl⟩) hHeld ?_
        change wpAnyH _ _ _ _ _ _ _ (Act.put _ (some 25) _) _
        simp only [Act.put, List.setIfInBounds_toArray, List.set_cons_zero, List.set_cons_succ]
        refine wpAnyH_take (i := 8) (v := undef) rfl (by kernel_rfl) (by kernel_rfl) (by kernel_rfl) (fun _ _ _ h => h) (Or.inr ⟨by first | kernel_rfl | rfl, rfl⟩) hHeld ?_
        change wpAnyH _ _ _ _ _ _ _ (Act.put _ (some 26) _) _
        simp only [Act.put, List.setIfInBounds_toArray, List.set_cons_zero, List.set_cons_succ]
        refine wpAnyH_take (i := 9) (v := undef) rfl (by kernel_rfl) (by kernel_rfl) (by kernel_rfl) (fun _ _ _ h => h) (Or.inr ⟨by first | kernel_rfl | rfl, rfl⟩) hHeld ?_
        change wpAnyH _ _ _ _ _ _ _ (Act.put _ (some 27) _) _
        simp only [Act.put, List.setIfInBounds_toArray, List.set_cons_zero, List.set_cons_succ]
        refine wpAnyH_take (i := 10) (v := ?va10) rfl (by kernel_rfl) (by kernel_rfl) (by kernel_rfl) (fun _ _ _ h => h) (Or.inl ⟨by first | kernel_rfl | rfl, ?ya10⟩) hHeld ?ra10
        case ya10 => (intro W hSW; (try dsimp only at hSW); go_simp; (try with_reducible rfl))
        change wpAnyH _ _ _ _ _ _ _ (Act.put _ (some 28) _) _
        simp only [Act.put, List.setIfInBounds_toArray, List.set_cons_zero, List.set_cons_succ]
        refine wpAnyH_done (by kernel_rfl) ?_ _
        have HM2 : Hid (Mid1 w kb kc D p (k + 1) W1.drew) := HM1.out.drew.leave HQ.out hpk
        clear HCL hHeld ca cb ca1 cb1 HM1
        go_wp2
        exact ⟨⟨k + 1, by omega, by go_num, HM2.out⟩, by simp [intOf]; omega⟩
      | true =>
        rw [hpk] at HCL
        by_cases htu : t = u
        · simp only [decide_eq_true htu, Bool.not_true] at hneq
          have HTU : Hid (t = u) := htu
          clear htu
          go_wp2
          try rw [hb]
          try rw [hW1]
          refine wp_region_held_drew (S := fun V => Hid (Mid1 w kb kc D p k V) ∧ V.cell? ⟨b, 0, none⟩ = some (.int .i64 (a : Int)) ∧ V.cell? ⟨b, 1, none⟩ = some (.string t)) (by kernel_rfl) (⟨HM1.out.drew, ca1, cb1⟩) (fun hHeld => ?_)
          refine wpAnyH_take (i := 0) (v := ?vb0) rfl (by kernel_rfl) (by kernel_rfl) (by kernel_rfl) (fun _ _ _ h => h) (Or.inl ⟨by first | kernel_rfl | rfl, ?yb0⟩) hHeld ?rb0
          case yb0 => (intro W hSW; (try dsimp only at hSW); go_simp; (try with_reducible rfl))
          change wpAnyH _ _ _ _ _ _ _ (Act.put _ (some 18) _) _
          simp only [Act.put, List.setIfInBounds_toArray, List.set_cons_zero, List.set_cons_succ]
          refine wpAnyH_take (i := 1) (v := ?vb1) rfl (by kernel_rfl) (by kernel_rfl) (by kernel_rfl) (fun _ _ _ h => h) (Or.inl ⟨by first | kernel_rfl | rfl, ?yb1⟩) hHeld ?rb1
          case yb1 => (intro W hSW; (try dsimp only at hSW); go_simp; (try with_reducible rfl))
          change wpAnyH _ _ _ _ _ _ _ (Act.put _ (some 19) _) _
          simp only [Act.put, List.setIfInBounds_toArray, List.set_cons_zero, List.set_cons_succ]
          refine wpAnyH_ready (rs := [2]) (by kernel_rfl) (by simp) ?_
          refine AllReadyH.cons rfl (fun K hK => ?_) AllReadyH.nil
          go_simp
          refine (HCL).mono ?_
          rintro e W2 ⟨rfl, hW2⟩; subst hW2
          refine hK.out _ _ (hHeld) (fun hHeld => ?_)
          clear hK K
          try simp only [Act.put, List.setIfInBounds_toArray, List.set_cons_zero, List.set_cons_succ]
          refine wpAnyH_take (i := 3) (v := ?vb3) rfl (by kernel_rfl) (by kernel_rfl) (by kernel_rfl) (fun _ _ _ h => h) (Or.inl ⟨by first | kernel_rfl | rfl, ?yb3⟩) hHeld ?rb3
          case yb3 => (intro W hSW; (try dsimp only at hSW); go_simp; (try with_reducible rfl))
          change wpAnyH _ _ _ _ _ _ _ (Act.put _ (some 21) _) _
          simp only [Act.put, List.setIfInBounds_toArray, List.set_cons_zero, List.set_cons_succ]
          refine wpAnyH_take (i := 5) (v := ?vb5) rfl (by kernel_rfl) (by kernel_rfl) (by kernel_rfl) (fun _ _ _ h => h) (Or.inl ⟨by first | kernel_rfl | rfl, ?yb5⟩) hHeld ?rb5
          case yb5 => (intro W hSW; (try dsimp only at hSW); go_simp; (try with_reducible rfl))
          change wpAnyH _ _ _ _ _ _ _ (Act.put _ (some 23) _) _
          simp only [Act.put, List.setIfInBounds_toArray, List.set_cons_zero, List.set_cons_succ]
          refine wpAnyH_take (i := 6) (v := ?vb6) rfl (by kernel_rfl) (by kernel_rfl) (by kernel_rfl) (fun _ _ _ h => h) (Or.inl ⟨by first | kernel_rfl | rfl, ?yb6⟩) hHeld ?rb6
          case yb6 => (intro W hSW; (try dsimp only at hSW); go_simp; (try with_reducible rfl))
          change wpAnyH _ _ _ _ _ _ _ (Act.put _ (some 24) _) _
          simp only [Act.put, List.setIfInBounds_toArray, List.set_cons_zero, List.set_cons_succ]
          refine wpAnyH_take (i := 7) (v := ?vb7) rfl (by kernel_rfl) (by kernel_rfl) (by kernel_rfl) (fun _ _ _ h => h) (Or.inl ⟨by first | kernel_rfl | rfl, ?yb7⟩) hHeld ?rb7
          case yb7 => (intro W hSW; (try dsimp only at hSW); go_simp; (try with_reducible rfl))
          change wpAnyH _ _ _ _ _ _ _ (Act.put _ (some 25) _) _
          simp only [Act.put, List.setIfInBounds_toArray, List.set_cons_zero, List.set_cons_succ]
          refine wpAnyH_take (i := 4) (v := ?vb4) rfl (by kernel_rfl) (by kernel_rfl) (by kernel_rfl) (fun _ _ _ h => h) (Or.inl ⟨by first | kernel_rfl | rfl, ?yb4⟩) hHeld ?rb4
          case yb4 => (intro W hSW; (try dsimp only at hSW); go_simp; (try with_reducible rfl))
          change wpAnyH _ _ _ _ _ _ _ (Act.put _ (some 22) _) _
          simp only [Act.put, List.setIfInBounds_toArray, List.set_cons_zero, List.set_cons_succ]
          refine wpAnyH_ready (rs := [8]) (by kernel_rfl) (by simp) ?_
          refine AllReadyH.cons rfl (fun K hK => ?_) AllReadyH.nil
          go_simp
          refine (HST).mono ?_
          rintro e W3 ⟨rfl, hW3⟩
          refine hK.out _ _ (⟨hHeld.1.out.below hW3, by rw [hW3.cell hb1]; exact hHeld.2.1, by rw [hW3.cell hb1]; exact hHeld.2.2⟩) (fun hHeld => ?_)
          clear hK K
          try simp only [Act.put, List.setIfInBounds_toArray, List.set_cons_zero, List.set_cons_succ]
          refine wpAnyH_take (i := 9) (v := ?vb9) rfl (by kernel_rfl) (by kernel_rfl) (by kernel_rfl) (fun _ _ _ h => h) (Or.inl ⟨by first | kernel_rfl | rfl, ?yb9⟩) hHeld ?rb9
          case yb9 => (intro W hSW; (try dsimp only at hSW); go_simp; (try with_reducible rfl))
          change wpAnyH _ _ _ _ _ _ _ (Act.put _ (some 27) _) _
          simp only [Act.put, List.setIfInBounds_toArray, List.set_cons_zero, List.set_cons_succ]
          refine wpAnyH_take (i := 10) (v := ?vb10) rfl (by kernel_rfl) (by kernel_rfl) (by kernel_rfl) (fun _ _ _ h => h) (Or.inl ⟨by first | kernel_rfl | rfl, ?yb10⟩) hHeld ?rb10
          case yb10 => (intro W hSW; (try dsimp only at hSW); go_simp; (try with_reducible rfl))
          change wpAnyH _ _ _ _ _ _ _ (Act.put _ (some 28) _) _
          simp only [Act.put, List.setIfInBounds_toArray, List.set_cons_zero, List.set_cons_succ]
          refine wpAnyH_done (by kernel_rfl) ?_ _
          have HM2 : Hid (Mid1 w kb kc D p (k + 1) W3) := hHeld.1.out.same HQ.out hpk (by rw [hu]; exact HTU.out.symm) (by omega)
          clear HCL hHeld ca cb ca1 cb1 HM1 HST hneq cg0 cku hW3
          go_wp2
          exact ⟨⟨k + 1, by omega, by go_num, HM2.out⟩, by simp [intOf]; omega⟩
        · simp only [decide_eq_false htu, Bool.not_false] at hneq
          clear htu
          go_wp2
          try rw [hb]
          try rw [hW1]
          refine wp_region_held_drew (S := fun V => Hid (Mid1 w kb kc D p k V) ∧ V.cell? ⟨b, 0, none⟩ = some (.int .i64 (a : Int)) ∧ V.cell? ⟨b, 1, none⟩ = some (.string t)) (by kernel_rfl) (⟨HM1.out.drew, ca1, cb1⟩) (fun hHeld => ?_)
          refine wpAnyH_take (i := 0) (v := ?vc0) rfl (by kernel_rfl) (by kernel_rfl) (by kernel_rfl) (fun _ _ _ h => h) (Or.inl ⟨by first | kernel_rfl | rfl, ?yc0⟩) hHeld ?rc0
          case yc0 => (intro W hSW; (try dsimp only at hSW); go_simp; (try with_reducible rfl))
          change wpAnyH _ _ _ _ _ _ _ (Act.put _ (some 18) _) _
          simp only [Act.put, List.setIfInBounds_toArray, List.set_cons_zero, List.set_cons_succ]
          refine wpAnyH_take (i := 1) (v := ?vc1) rfl (by kernel_rfl) (by kernel_rfl) (by kernel_rfl) (fun _ _ _ h => h) (Or.inl ⟨by first | kernel_rfl | rfl, ?yc1⟩) hHeld ?rc1
          case yc1 => (intro W hSW; (try dsimp only at hSW); go_simp; (try with_reducible rfl))
          change wpAnyH _ _ _ _ _ _ _ (Act.put _ (some 19) _) _
          simp only [Act.put, List.setIfInBounds_toArray, List.set_cons_zero, List.set_cons_succ]
          refine wpAnyH_ready (rs := [2]) (by kernel_rfl) (by simp) ?_
          refine AllReadyH.cons rfl (fun K hK => ?_) AllReadyH.nil
          go_simp
          refine (HCL).mono ?_
          rintro e W2 ⟨rfl, hW2⟩; subst hW2
          refine hK.out _ _ (hHeld) (fun hHeld => ?_)
          clear hK K
          try simp only [Act.put, List.setIfInBounds_toArray, List.set_cons_zero, List.set_cons_succ]
          refine wpAnyH_take (i := 3) (v := ?vc3) rfl (by kernel_rfl) (by kernel_rfl) (by kernel_rfl) (fun _ _ _ h => h) (Or.inl ⟨by first | kernel_rfl | rfl, ?yc3⟩) hHeld ?rc3
          case yc3 => (intro W hSW; (try dsimp only at hSW); go_simp; (try with_reducible rfl))
          change wpAnyH _ _ _ _ _ _ _ (Act.put _ (some 21) _) _
          simp only [Act.put, List.setIfInBounds_toArray, List.set_cons_zero, List.set_cons_succ]
          refine wpAnyH_take (i := 5) (v := ?vc5) rfl (by kernel_rfl) (by kernel_rfl) (by kernel_rfl) (fun _ _ _ h => h) (Or.inl ⟨by first | kernel_rfl | rfl, ?yc5⟩) hHeld ?rc5
          case yc5 => (intro W hSW; (try dsimp only at hSW); go_simp; (try with_reducible rfl))
          change wpAnyH _ _ _ _ _ _ _ (Act.put _ (some 23) _) _
          simp only [Act.put, List.setIfInBounds_toArray, List.set_cons_zero, List.set_cons_succ]
          refine wpAnyH_take (i := 6) (v := ?vc6) rfl (by kernel_rfl) (by kernel_rfl) (by kernel_rfl) (fun _ _ _ h => h) (Or.inl ⟨by first | kernel_rfl | rfl, ?yc6⟩) hHeld ?rc6
          case yc6 => (intro W hSW; (try dsimp only at hSW); go_simp; (try with_reducible rfl))
          change wpAnyH _ _ _ _ _ _ _ (Act.put _ (some 24) _) _
          simp only [Act.put, List.setIfInBounds_toArray, List.set_cons_zero, List.set_cons_succ]
          refine wpAnyH_take (i := 7) (v := ?vc7) rfl (by kernel_rfl) (by kernel_rfl) (by kernel_rfl) (fun _ _ _ h => h) (Or.inl ⟨by first | kernel_rfl | rfl, ?yc7⟩) hHeld ?rc7
          case yc7 => (intro W hSW; (try dsimp only at hSW); go_simp; (try with_reducible rfl))
          change wpAnyH _ _ _ _ _ _ _ (Act.put _ (some 25) _) _
          simp only [Act.put, List.setIfInBounds_toArray, List.set_cons_zero, List.set_cons_succ]
          refine wpAnyH_take (i := 4) (v := ?vc4) rfl (by kernel_rfl) (by kernel_rfl) (by kernel_rfl) (fun _ _ _ h => h) (Or.inl ⟨by first | kernel_rfl | rfl, ?yc4⟩) hHeld ?rc4
          case yc4 => (intro W hSW; (try dsimp only at hSW); go_simp; (try with_reducible rfl))
          change wpAnyH _ _ _ _ _ _ _ (Act.put _ (some 22) _) _
          simp only [Act.put, List.setIfInBounds_toArray, List.set_cons_zero, List.set_cons_succ]
          refine wpAnyH_ready (rs := [8]) (by kernel_rfl) (by simp) ?_
          refine AllReadyH.cons rfl (fun K hK => ?_) AllReadyH.nil
          go_simp
          refine (HST).mono ?_
          rintro e W3 ⟨rfl, hW3⟩
          refine hK.out _ _ (⟨hHeld.1.out.below hW3, by rw [hW3.cell hb1]; exact hHeld.2.1, by rw [hW3.cell hb1]; exact hHeld.2.2⟩) (fun hHeld => ?_)
          clear hK K
          try simp only [Act.put, List.setIfInBounds_toArray, List.set_cons_zero, List.set_cons_succ]
          refine wpAnyH_take (i := 9) (v := ?vc9) rfl (by kernel_rfl) (by kernel_rfl) (by kernel_rfl) (fun _ _ _ h => h) (Or.inl ⟨by first | kernel_rfl | rfl, ?yc9⟩) hHeld ?rc9
          case yc9 => (intro W hSW; (try dsimp only at hSW); go_simp; (try with_reducible rfl))
          change wpAnyH _ _ _ _ _ _ _ (Act.put _ (some 27) _) _
          simp only [Act.put, List.setIfInBounds_toArray, List.set_cons_zero, List.set_cons_succ]
          refine wpAnyH_take (i := 10) (v := ?vc10) rfl (by kernel_rfl) (by kernel_rfl) (by kernel_rfl) (fun _ _ _ h => h) (Or.inl ⟨by first | kernel_rfl | rfl, ?yc10⟩) hHeld ?rc10
          case yc10 => (intro W hSW; (try dsimp only at hSW); go_simp; (try with_reducible rfl))
          change wpAnyH _ _ _ _ _ _ _ (Act.put _ (some 28) _) _
          simp only [Act.put, List.setIfInBounds_toArray, List.set_cons_zero, List.set_cons_succ]
          refine wpAnyH_done (by kernel_rfl) ?_ _
          have HM2 : Hid (Mid1 w kb kc D p k W3) := hHeld.1
          have ca3 : W3.drew.cell? ⟨b, 0, none⟩ = some (.int .i64 (a : Int)) := hHeld.2.1
          have cb3 : W3.drew.cell? ⟨b, 1, none⟩ = some (.string t) := hHeld.2.2
          have cg3 : W3.drew.cell? ⟨g, 0, none⟩ = some (.slice (some ⟨kb, 0, none⟩) n kc) := by
            rw [HM2.out.drew.other HKG.out.2.2.1 HKG.out.1]; exact c0
          have ck3 : W3.drew.cell? ⟨kb, a, none⟩ = some (.string u) := by
            rw [← hu]; exact HM2.out.drew.kat a (by omega)
          have fk3 := HM2.out.drew.fro a
          clear HCL hHeld ca cb ca1 cb1 HM1 HST hneq cg0 cku hW3
          go_wp2
          refine wp_region_held_drew (S := fun V => V.cell? ⟨g, 0, none⟩ = some (.slice (some ⟨kb, 0, none⟩) n kc) ∧ V.cell? ⟨b, 0, none⟩ = some (.int .i64 (a : Int)) ∧ V.cell? ⟨b, 1, none⟩ = some (.string t)) (by kernel_rfl) (⟨cg3, ca3, cb3⟩) (fun hHeld => ?_)
          refine wpAnyH_take (i := 0) (v := ?vq0) rfl (by kernel_rfl) (by kernel_rfl) (by kernel_rfl) (fun _ _ _ h => h) (Or.inl ⟨by first | kernel_rfl | rfl, ?yq0⟩) hHeld ?rq0
          case yq0 => (intro W hSW; (try dsimp only at hSW); go_simp; (try with_reducible rfl))
          change wpAnyH _ _ _ _ _ _ _ (Act.put _ (some 29) _) _
          simp only [Act.put, List.setIfInBounds_toArray, List.set_cons_zero, List.set_cons_succ]
          refine wpAnyH_take (i := 1) (v := ?vq1) rfl (by kernel_rfl) (by kernel_rfl) (by kernel_rfl) (fun _ _ _ h => h) (Or.inl ⟨by first | kernel_rfl | rfl, ?yq1⟩) hHeld ?rq1
          case yq1 => (intro W hSW; (try dsimp only at hSW); go_simp; (try with_reducible rfl))
          change wpAnyH _ _ _ _ _ _ _ (Act.put _ (some 30) _) _
          simp only [Act.put, List.setIfInBounds_toArray, List.set_cons_zero, List.set_cons_succ]
          refine wpAnyH_take (i := 2) (v := ?vq2) rfl (by kernel_rfl) (by kernel_rfl) (by kernel_rfl) (fun _ _ _ h => h) (Or.inl ⟨by first | kernel_rfl | rfl, ?yq2⟩) hHeld ?rq2
          case yq2 => (intro W hSW; (try dsimp only at hSW); go_simp; (try with_reducible rfl))
          change wpAnyH _ _ _ _ _ _ _ (Act.put _ (some 31) _) _
          simp only [Act.put, List.setIfInBounds_toArray, List.set_cons_zero, List.set_cons_succ]
          refine wpAnyH_take (i := 3) (v := ?vq3) rfl (by kernel_rfl) (by kernel_rfl) (by kernel_rfl) (fun _ _ _ h => h) (Or.inl ⟨by first | kernel_rfl | rfl, ?yq3⟩) hHeld ?rq3
          case yq3 => (intro W hSW; (try dsimp only at hSW); go_simp; (try with_reducible rfl))
          change wpAnyH _ _ _ _ _ _ _ (Act.put _ (some 32) _) _
          simp only [Act.put, List.setIfInBounds_toArray, List.set_cons_zero, List.set_cons_succ]
          refine wpAnyH_take (i := 4) (v := ?vq4) rfl (by kernel_rfl) (by kernel_rfl) (by kernel_rfl) (fun _ _ _ h => h) (Or.inl ⟨by first | kernel_rfl | rfl, ?yq4⟩) hHeld ?rq4
          case yq4 => (intro W hSW; (try dsimp only at hSW); go_simp; (try with_reducible rfl))
          change wpAnyH _ _ _ _ _ _ _ (Act.put _ (some 33) _) _
          simp only [Act.put, List.setIfInBounds_toArray, List.set_cons_zero, List.set_cons_succ]
          refine wpAnyH_take (i := 5) (v := ?vq5) rfl (by kernel_rfl) (by kernel_rfl) (by kernel_rfl) (fun _ _ _ h => h) (Or.inl ⟨by first | kernel_rfl | rfl, ?yq5⟩) hHeld ?rq5
          case yq5 => (intro W hSW; (try dsimp only at hSW); go_simp; (try with_reducible rfl))
          change wpAnyH _ _ _ _ _ _ _ (Act.put _ (some 34) _) _
          simp only [Act.put, List.setIfInBounds_toArray, List.set_cons_zero, List.set_cons_succ]
          refine wpAnyH_take (i := 6) (v := ?vq6) rfl (by kernel_rfl) (by kernel_rfl) (by kernel_rfl) (fun _ _ _ h => h) (Or.inl ⟨by first | kernel_rfl | rfl, ?yq6⟩) hHeld ?rq6
          case yq6 => (intro W hSW; (try dsimp only at hSW); go_simp; (try with_reducible rfl))
          change wpAnyH _ _ _ _ _ _ _ (Act.put _ (some 35) _) _
          simp only [Act.put, List.setIfInBounds_toArray, List.set_cons_zero, List.set_cons_succ]
          refine wpAnyH_take (i := 7) (v := ?vq7) rfl (by kernel_rfl) (by kernel_rfl) (by kernel_rfl) (fun _ _ _ h => h) (Or.inl ⟨by first | kernel_rfl | rfl, ?yq7⟩) hHeld ?rq7
          case yq7 => (intro W hSW; (try dsimp only at hSW); go_simp; (try with_reducible rfl))
          change wpAnyH _ _ _ _ _ _ _ (Act.put _ (some 36) _) _
          simp only [Act.put, List.setIfInBounds_toArray, List.set_cons_zero, List.set_cons_succ]
          refine wpAnyH_take (i := 8) (v := ?vq8) rfl (by kernel_rfl) (by kernel_rfl) (by kernel_rfl) (fun _ _ _ h => h) (Or.inl ⟨by first | kernel_rfl | rfl, ?yq8⟩) hHeld ?rq8
          case yq8 => (intro W hSW; (try dsimp only at hSW); go_simp; (try with_reducible rfl))
          change wpAnyH _ _ _ _ _ _ _ (Act.put _ (some 37) _) _
          simp only [Act.put, List.setIfInBounds_toArray, List.set_cons_zero, List.set_cons_succ]
          refine wpAnyH_ready (rs := [9]) (by kernel_rfl) (by simp) ?_
          refine AllReadyH.cons rfl (fun K hK => ?_) AllReadyH.nil
          go_simp
          refine hK.out _ _ (⟨by show (W3.setCell ⟨kb, a, none⟩ (.string t)).cell? _ = _; rw [World.cell?_setCell_far _ _ _ _ hgk]; exact cg3, by show (W3.setCell ⟨kb, a, none⟩ (.string t)).cell? _ = _; rw [World.cell?_setCell_far _ _ _ _ hbk]; exact ca3, by show (W3.setCell ⟨kb, a, none⟩ (.string t)).cell? _ = _; rw [World.cell?_setCell_far _ _ _ _ hbk]; exact cb3⟩) (fun hHeld => ?_)
          clear hK K
          refine wpAnyH_done (by kernel_rfl) ?_ _
          have HM3 : Hid (Mid1 w kb kc D p (k + 1) (W3.drew.setCell ⟨kb, a, none⟩ (.string t))) := HM2.out.drew.lay HQ.out hpk
          clear hHeld ca3 cb3 cg3 ck3 fk3 HM2
          go_wp2
          exact ⟨⟨k + 1, by omega, by go_num, HM3.out⟩, by simp [intOf]; omega⟩
    · obtain rfl : k = N := by omega
      obtain ⟨K, hK⟩ : ∃ K, upTo D.kept p D.waits k = K := ⟨_, rfl⟩
      have hKl : K.length = D.kept.length := by rw [← hK, upTo_len]
      have kk : ¬ (k : Int) < (k : Int) := by omega
      have HM2 : Hid (Mid2 w kb kc sb sc D K 0 wr) := by
        refine ⟨by rw [← hK]; exact hrel.row, own_keep HL.out.s (fun x hx => ?_), ⟨hrel.u.os, hrel.u.tape, hrel.u.output, hrel.u.size, fun x hx hs => hrel.u.block x hx (fun e => hs (.inl e))⟩⟩
        rw [ob_slice] at hx
        cases hx
        exact hrel.u.block sb HKG.out.2.2.2.2.1 (Ne.symm HKG.out.2.2.2.2.2)
      have cg2 : wr.cell? ⟨g, 2, none⟩ = some (.slice wa k wc) := by
        rw [hrel.other HKG.out.2.2.1 HKG.out.1]; exact c2
      clear hrel
      go_wp2
      go_loopw [44] (fun i wr => ∃ j : Nat, j ≤ k ∧ i = .int .i64 j ∧ Mid2 w kb kc sb sc D K j wr) (fun i _ => k - (intOf i).toNat)
      case atStart => exact ⟨0, by omega, rfl, HM2.out⟩
      case round =>
        clear HM2 cg2
        rename_i wq wr
        obtain ⟨j, hj, rfl, hrel⟩ := hrel
        by_cases hlt : j < k
        · obtain ⟨⟨a, t⟩, hq⟩ : ∃ q, D.waits[j]? = some q := ⟨_, List.getElem?_eq_getElem (by omega)⟩
          obtain ⟨wb, rfl, hwS, hwg, hwk, hws, hwlt, hwc⟩ := HL.out.wat (by omega)
          have han : a < n := by rw [← hn]; exact HL.out.ok.at_ (a, t) (List.mem_of_getElem? hq)
          obtain ⟨ca, cb⟩ := hwc j _ hq
          rw [← hrel.other (x := ⟨wb, _, none⟩) hwlt hwk hws] at ca cb
          have kk2 : (j : Int) < (k : Int) := by omega
          have kan : (a : Int) < (n : Int) := by omega
          have HQ : Hid (D.waits[j]? = some (a, t)) := hq
          obtain ⟨b, hb⟩ : ∃ b, wr.heap.size = b := ⟨_, rfl⟩
          obtain ⟨W1, hW1⟩ : ∃ W1, wr.alloc (.cells #[.int .i64 (a : Int), .string t] 143) = W1 := ⟨_, rfl⟩
          have HM1 : Hid (Mid2 w kb kc sb sc D K j W1) := by rw [← hW1]; exact hrel.alloc _
          have ca1 : W1.drew.cell? ⟨b, 0, none⟩ = some (.int .i64 (a : Int)) := by
            show W1.cell? _ = _
            rw [← hW1, ← hb, cell_of_row _ wr.heap.size _ _ _ _ (heap_alloc_new wr _)]; rfl
          have hbw : w.heap.size ≤ b := by rw [← hb]; exact hrel.u.size
          have hbs : sb ≠ b := by have := HKG.out; omega
          have hgs : sb ≠ g := Ne.symm HKG.out.2.1
          have hks : sb ≠ kb := Ne.symm HKG.out.2.2.2.2.2
          have cg0 : W1.drew.cell? ⟨g, 0, none⟩ = some (.slice (some ⟨kb, 0, none⟩) n kc) := by
            rw [HM1.out.drew.other HKG.out.2.2.1 HKG.out.1 HKG.out.2.1]; exact c0
          have cg1 : W1.drew.cell? ⟨g, 1, none⟩ = some (.slice (some ⟨sb, 0, none⟩) n sc) := by
            rw [HM1.out.drew.other HKG.out.2.2.1 HKG.out.1 HKG.out.2.1]; exact c1
          obtain ⟨u, hu⟩ : ∃ u, K.getD a ByteArray.empty = u := ⟨_, rfl⟩
          have cku : W1.drew.cell? ⟨kb, a, none⟩ = some (.string u) := by
            rw [← hu]; exact HM1.out.drew.kat hKl a (by omega)
          obtain ⟨v, csv⟩ := HM1.out.drew.sat a (by omega)
          have fs1 := HM1.out.drew.fro a
          have HM3 : Hid (Mid2 w kb kc sb sc D K (j + 1) (W1.drew.setCell ⟨sb, a, none⟩ (.string u))) := by
            have := HM1.out.drew.lay HKG.out.2.2.2.2.2 HQ.out
            rw [show K.getD (a, t).1 ByteArray.empty = u from hu] at this
            exact this
          clear hwc hq hrel
          go_wp2
          try rw [hb]
          try rw [hW1]
          refine wp_region_held_drew (S := fun V => V.cell? ⟨g, 0, none⟩ = some (.slice (some ⟨kb, 0, none⟩) n kc) ∧ V.cell? ⟨g, 1, none⟩ = some (.slice (some ⟨sb, 0, none⟩) n sc) ∧ V.cell? ⟨b, 0, none⟩ = some (.int .i64 (a : Int)) ∧ V.cell? ⟨kb, a, none⟩ = some (.string u)) (by kernel_rfl) (⟨cg0, cg1, ca1, cku⟩) (fun hHeld => ?_)
          refine wpAnyH_take (i := 0) (v := ?vr0) rfl (by kernel_rfl) (by kernel_rfl) (by kernel_rfl) (fun _ _ _ h => h) (Or.inl ⟨by first | kernel_rfl | rfl, ?yr0⟩) hHeld ?rr0
          case yr0 => (intro W hSW; (try dsimp only at hSW); go_simp; (try with_reducible rfl))
          change wpAnyH _ _ _ _ _ _ _ (Act.put _ (some 48) _) _
          simp only [Act.put, List.setIfInBounds_toArray, List.set_cons_zero, List.set_cons_succ]
          refine wpAnyH_take (i := 1) (v := ?vr1) rfl (by kernel_rfl) (by kernel_rfl) (by kernel_rfl) (fun _ _ _ h => h) (Or.inl ⟨by first | kernel_rfl | rfl, ?yr1⟩) hHeld ?rr1
          case yr1 => (intro W hSW; (try dsimp only at hSW); go_simp; (try with_reducible rfl))
          change wpAnyH _ _ _ _ _ _ _ (Act.put _ (some 49) _) _
          simp only [Act.put, List.setIfInBounds_toArray, List.set_cons_zero, List.set_cons_succ]
          refine wpAnyH_take (i := 2) (v := ?vr2) rfl (by kernel_rfl) (by kernel_rfl) (by kernel_rfl) (fun _ _ _ h => h) (Or.inl ⟨by first | kernel_rfl | rfl, ?yr2⟩) hHeld ?rr2
          case yr2 => (intro W hSW; (try dsimp only at hSW); go_simp; (try with_reducible rfl))
          change wpAnyH _ _ _ _ _ _ _ (Act.put _ (some 50) _) _
          simp only [Act.put, List.setIfInBounds_toArray, List.set_cons_zero, List.set_cons_succ]
          refine wpAnyH_take (i := 3) (v := ?vr3) rfl (by kernel_rfl) (by kernel_rfl) (by kernel_rfl) (fun _ _ _ h => h) (Or.inl ⟨by first | kernel_rfl | rfl, ?yr3⟩) hHeld ?rr3
          case yr3 => (intro W hSW; (try dsimp only at hSW); go_simp; (try with_reducible rfl))
          change wpAnyH _ _ _ _ _ _ _ (Act.put _ (some 51) _) _
          simp only [Act.put, List.setIfInBounds_toArray, List.set_cons_zero, List.set_cons_succ]
          refine wpAnyH_take (i := 4) (v := ?vr4) rfl (by kernel_rfl) (by kernel_rfl) (by kernel_rfl) (fun _ _ _ h => h) (Or.inl ⟨by first | kernel_rfl | rfl, ?yr4⟩) hHeld ?rr4
          case yr4 => (intro W hSW; (try dsimp only at hSW); go_simp; (try with_reducible rfl))
          change wpAnyH _ _ _ _ _ _ _ (Act.put _ (some 52) _) _
          simp only [Act.put, List.setIfInBounds_toArray, List.set_cons_zero, List.set_cons_succ]
          refine wpAnyH_take (i := 5) (v := ?vr5) rfl (by kernel_rfl) (by kernel_rfl) (by kernel_rfl) (fun _ _ _ h => h) (Or.inl ⟨by first | kernel_rfl | rfl, ?yr5⟩) hHeld ?rr5
          case yr5 => (intro W hSW; (try dsimp only at hSW); go_simp; (try with_reducible rfl))
          change wpAnyH _ _ _ _ _ _ _ (Act.put _ (some 53) _) _
          simp only [Act.put, List.setIfInBounds_toArray, List.set_cons_zero, List.set_cons_succ]
          refine wpAnyH_take (i := 6) (v := ?vr6) rfl (by kernel_rfl) (by kernel_rfl) (by kernel_rfl) (fun _ _ _ h => h) (Or.inl ⟨by first | kernel_rfl | rfl, ?yr6⟩) hHeld ?rr6
          case yr6 => (intro W hSW; (try dsimp only at hSW); go_simp; (try with_reducible rfl))
          change wpAnyH _ _ _ _ _ _ _ (Act.put _ (some 54) _) _
          simp only [Act.put, List.setIfInBounds_toArray, List.set_cons_zero, List.set_cons_succ]
          refine wpAnyH_take (i := 7) (v := ?vr7) rfl (by kernel_rfl) (by kernel_rfl) (by kernel_rfl) (fun _ _ _ h => h) (Or.inl ⟨by first | kernel_rfl | rfl, ?yr7⟩) hHeld ?rr7
          case yr7 => (intro W hSW; (try dsimp only at hSW); go_simp; (try with_reducible rfl))
          change wpAnyH _ _ _ _ _ _ _ (Act.put _ (some 55) _) _
          simp only [Act.put, List.setIfInBounds_toArray, List.set_cons_zero, List.set_cons_succ]
          refine wpAnyH_take (i := 8) (v := ?vr8) rfl (by kernel_rfl) (by kernel_rfl) (by kernel_rfl) (fun _ _ _ h => h) (Or.inl ⟨by first | kernel_rfl | rfl, ?yr8⟩) hHeld ?rr8
          case yr8 => (intro W hSW; (try dsimp only at hSW); go_simp; (try with_reducible rfl))
          change wpAnyH _ _ _ _ _ _ _ (Act.put _ (some 56) _) _
          simp only [Act.put, List.setIfInBounds_toArray, List.set_cons_zero, List.set_cons_succ]
          refine wpAnyH_take (i := 9) (v := ?vr9) rfl (by kernel_rfl) (by kernel_rfl) (by kernel_rfl) (fun _ _ _ h => h) (Or.inl ⟨by first | kernel_rfl | rfl, ?yr9⟩) hHeld ?rr9
          case yr9 => (intro W hSW; (try dsimp only at hSW); go_simp; (try with_reducible rfl))
          change wpAnyH _ _ _ _ _ _ _ (Act.put _ (some 57) _) _
          simp only [Act.put, List.setIfInBounds_toArray, List.set_cons_zero, List.set_cons_succ]
          refine wpAnyH_take (i := 10) (v := ?vr10) rfl (by kernel_rfl) (by kernel_rfl) (by kernel_rfl) (fun _ _ _ h => h) (Or.inl ⟨by first | kernel_rfl | rfl, ?yr10⟩) hHeld ?rr10
          case yr10 => (intro W hSW; (try dsimp only at hSW); go_simp; (try with_reducible rfl))
          change wpAnyH _ _ _ _ _ _ _ (Act.put _ (some 58) _) _
          simp only [Act.put, List.setIfInBounds_toArray, List.set_cons_zero, List.set_cons_succ]
          refine wpAnyH_take (i := 11) (v := ?vr11) rfl (by kernel_rfl) (by kernel_rfl) (by kernel_rfl) (fun _ _ _ h => h) (Or.inl ⟨by first | kernel_rfl | rfl, ?yr11⟩) hHeld ?rr11
          case yr11 => (intro W hSW; (try dsimp only at hSW); go_simp; (try with_reducible rfl))
          change wpAnyH _ _ _ _ _ _ _ (Act.put _ (some 59) _) _
          simp only [Act.put, List.setIfInBounds_toArray, List.set_cons_zero, List.set_cons_succ]
          refine wpAnyH_take (i := 12) (v := ?vr12) rfl (by kernel_rfl) (by kernel_rfl) (by kernel_rfl) (fun _ _ _ h => h) (Or.inl ⟨by first | kernel_rfl | rfl, ?yr12⟩) hHeld ?rr12
          case yr12 => (intro W hSW; (try dsimp only at hSW); go_simp; (try with_reducible rfl))
          change wpAnyH _ _ _ _ _ _ _ (Act.put _ (some 60) _) _
          simp only [Act.put, List.setIfInBounds_toArray, List.set_cons_zero, List.set_cons_succ]
          refine wpAnyH_take (i := 13) (v := ?vr13) rfl (by kernel_rfl) (by kernel_rfl) (by kernel_rfl) (fun _ _ _ h => h) (Or.inl ⟨by first | kernel_rfl | rfl, ?yr13⟩) hHeld ?rr13
          case yr13 => (intro W hSW; (try dsimp only at hSW); go_simp; (try with_reducible rfl))
          change wpAnyH _ _ _ _ _ _ _ (Act.put _ (some 61) _) _
          simp only [Act.put, List.setIfInBounds_toArray, List.set_cons_zero, List.set_cons_succ]
          refine wpAnyH_take (i := 14) (v := ?vr14) rfl (by kernel_rfl) (by kernel_rfl) (by kernel_rfl) (fun _ _ _ h => h) (Or.inl ⟨by first | kernel_rfl | rfl, ?yr14⟩) hHeld ?rr14
          case yr14 => (intro W hSW; (try dsimp only at hSW); go_simp; (try with_reducible rfl))
          change wpAnyH _ _ _ _ _ _ _ (Act.put _ (some 62) _) _
          simp only [Act.put, List.setIfInBounds_toArray, List.set_cons_zero, List.set_cons_succ]
          refine wpAnyH_ready (rs := [15]) (by kernel_rfl) (by simp) ?_
          refine AllReadyH.cons rfl (fun K hK => ?_) AllReadyH.nil
          go_simp
          refine hK.out _ _ (⟨by show (W1.setCell ⟨sb, a, none⟩ (.string u)).cell? _ = _; rw [World.cell?_setCell_far _ _ _ _ hgs]; exact cg0, by show (W1.setCell ⟨sb, a, none⟩ (.string u)).cell? _ = _; rw [World.cell?_setCell_far _ _ _ _ hgs]; exact cg1, by show (W1.setCell ⟨sb, a, none⟩ (.string u)).cell? _ = _; rw [World.cell?_setCell_far _ _ _ _ hbs]; exact ca1, by show (W1.setCell ⟨sb, a, none⟩ (.string u)).cell? _ = _; rw [World.cell?_setCell_far _ _ _ _ hks]; exact cku⟩) (fun hHeld => ?_)
          clear hK K
          refine wpAnyH_done (by kernel_rfl) ?_ _
          clear hHeld ca cb ca1 cku csv fs1 cg0 cg1 HM1
          go_wp2
          exact ⟨⟨j + 1, by omega, by go_num, HM3.out⟩, by simp [intOf]; omega⟩
        · obtain rfl : j = k := by omega
          have kk2 : ¬ (j : Int) < (j : Int) := by omega
          have cg2 : wr.cell? ⟨g, 2, none⟩ = some (.slice wa j wc) := by
            rw [hrel.other HKG.out.2.2.1 HKG.out.1 HKG.out.2.1]; exact c2
          have hgb : wr.heap[g]? = some (.cells (dcells kb kc sb sc wa wc D) 122 (0, 0)) := by
            rw [hrel.u.block g HKG.out.2.2.1 (fun e => e.elim HKG.out.1 HKG.out.2.1)]; exact HL.out.c
          have fg2 : wr.frozen? ⟨g, 2, none⟩ = false := frozen_of_row wr g 2 _ _ hgb
          have HU : Hid (Upd S w (wr.setCell ⟨g, 2, none⟩ (.slice none 0 0))) := by
            have h1 : Upd S w wr := ⟨hrel.u.os, hrel.u.tape, hrel.u.output, hrel.u.size, fun x hx hs => hrel.u.block x hx (fun e => hs (e.elim (fun e => e ▸ HL.out.Sk) (fun e => e ▸ HL.out.Ss)))⟩
            exact h1.setCell (fun _ => HL.out.Sg) _
          have HF : Hid (Lies (wr.setCell ⟨g, 2, none⟩ (.slice none 0 0)) S g kb kc sb sc none 0 (D.settled p)) := by
            have hKK : (D.settled p).kept = K := by show upTo D.kept p D.waits D.waits.length = K; rw [hN]; exact hK
            have hKs : (D.settled p).seen = K := by
              show over (D.settled p).kept [] = K
              exact hKK
            refine { HL.out with ok := HL.out.ok.settled p, c := ?_, k := ?_, s := ?_, q := ?_, wg := ?_, Sw := ?_, bd := ?_ }
            · rw [heap_setCell_same wr g 2 _ _ _ hgb]
              simp only [dcells, hKK, hKl]
              rfl
            · rw [hKK, hKl]
              exact own_keep hrel.row (fun x hx => by rw [ob_slice] at hx; cases hx; exact heap_setCell_other _ _ _ _ (Ne.symm HKG.out.1))
            · rw [hKs, hKK, hKl]
              have h2 := hrel.row2
              have e : backTo D.seen K D.waits j = K := by
                have := back_end D.kept p D.waits
                rw [hN, hK] at this
                exact this
              rw [e] at h2
              exact own_keep h2 (fun x hx => by rw [ob_slice] at hx; cases hx; exact heap_setCell_other _ _ _ _ (Ne.symm HKG.out.2.1))
            · exact World.ownsRow_nil _ _ _ _
            · intro x hx; cases hx
            · intro x hx; cases hx
            · intro x hx
              exact Nat.lt_of_lt_of_le (HL.out.bd x hx) HU.out.size
          clear hrel hgb
          go_wp2
          refine bodyPost_end (v := .tuple #[]) ?_ rfl ⟨rfl, HF.out, HU.out⟩
          simp [results, go_sem]
end Go.Proofs.YtdgffocmdkadpaaGreat
