/- Walks over Find, Weak, Len, the document's Find, and few. -/
import Derived.Test.YthmikfkdjnidmaaDoorGH
namespace Go.Proofs.YthmikfkdjnidmaaDoor
open Go.RowKit Go.Maps
theorem box_sg {w : World} (s1 : Nat) (s2 : ByteArray) : ∃ W1, w.alloc (.cells #[.int .u32 (s1 : Int), .string s2] 25) = W1 ∧ W1.heap[w.heap.size]? = some (.cells #[.int .u32 (s1 : Int), .string s2] 25 (0, 0)) ∧ Below w.heap.size w W1 :=
  ⟨_, rfl, heap_alloc_new w _, (Below.refl _ w).alloc (Nat.le_refl _) _⟩
theorem eq_no {s t : Sg} (h : s ≠ t) (V : World) : (Op.equalIn 10000 25 (.agg #[.int .u32 (s.1 : Int), .string s.2]) (.agg #[.int .u32 (t.1 : Int), .string t.2])).run Tryd.prog V = .ok false V := by
  rw [eqin_sg]
  congr 1
  rw [decide_eq_false_iff_not]
  rintro ⟨e1, e2⟩
  exact h (Prod.ext (by omega) e2)
theorem eq_yes (s : Sg) (V : World) : (Op.equalIn 10000 25 (.agg #[.int .u32 (s.1 : Int), .string s.2]) (.agg #[.int .u32 (s.1 : Int), .string s.2])).run Tryd.prog V = .ok true V := by
  rw [eqin_sg]
  simp
theorem find_nilx (s1 : Nat) (s2 : ByteArray) (w : World) : Calls Tryd.prog 18 #[.pointer none, .agg #[.int .u32 (s1 : Int), .string s2]] w fun e w' => e = .returned (.tuple #[.int .i64 0, .bool false]) ∧ Below w.heap.size w w' := by
  have HB : Hid (Below w.heap.size w (w.alloc (.cells #[.int .u32 (s1 : Int), .string s2] 25))) := (Below.refl _ w).alloc (Nat.le_refl _) _
  go_enter Tryd.func18, Tryd.ntmps18
  go_wp2
  refine bodyPost_ret (v := .tuple #[.int .i64 0, .bool false]) ?_ rfl ⟨rfl, HB.out⟩
  simp [results, go_sem]
theorem weak_nilx (n : Nat) (w : World) : Calls Tryd.prog 20 #[.pointer none, .int .u32 (n : Int)] w fun e w' => e = .returned (.bool false) ∧ Below w.heap.size w w' := by
  go_enter Tryd.func20, Tryd.ntmps20
  go_wp2
  go_ret
  exact ⟨rfl, Below.refl _ _⟩
theorem len_nilx (w : World) : Calls Tryd.prog 21 #[.pointer none] w fun e w' => e = .returned (.int .i64 0) ∧ Below w.heap.size w w' := by
  go_enter Tryd.func21, Tryd.ntmps21
  go_wp2
  go_ret
  exact ⟨rfl, Below.refl _ _⟩
theorem len_any {w : World} {B g : Nat} {L : List Sg} (h : Inx w B g L) : Calls Tryd.prog 21 #[.pointer (some ⟨g, 0, none⟩)] w fun e w' => e = .returned (.int .i64 (L.length : Int)) ∧ Below w.heap.size w w' := by
  obtain ⟨a, c, mb, base, D, h1, _, _, _, _⟩ := h
  have c0 : w.cell? ⟨g, 0, none⟩ = some (.slice a L.length c) := by rw [cell_of_row _ _ _ _ _ _ h1]; rfl
  clear h1
  go_enter Tryd.func21, Tryd.ntmps21
  go_wp2
  go_ret
  exact ⟨rfl, Below.refl _ _⟩
/-- Has one of them that weak sum? -/
def wk (L : List Sg) (n : Nat) : Bool := decide (0 < (plN L n L.length).length)
theorem wk_iff (L : List Sg) (n : Nat) : wk L n = true ↔ ∃ s ∈ L, s.1 = n := by
  unfold wk
  rw [decide_eq_true_eq]
  constructor
  · intro h
    obtain ⟨z, hz⟩ := List.exists_mem_of_length_pos h
    obtain ⟨i, rfl, hi⟩ := pl_nat L n L.length z hz
    obtain ⟨_, h2⟩ := (pl_mem L n L.length i).1 hz
    rw [List.getElem?_eq_getElem hi] at h2
    exact ⟨_, List.getElem_mem hi, Option.some.inj h2⟩
  · rintro ⟨s, hs, rfl⟩
    obtain ⟨i, hi, e⟩ := List.getElem_of_mem hs
    have hm := (pl_mem L s.1 L.length i).2 ⟨hi, by rw [List.getElem?_eq_getElem hi, e]; rfl⟩
    exact List.length_pos_of_mem hm
set_option maxRecDepth 100000 in
set_option maxHeartbeats 1000000 in
theorem weak_any {w : World} {B g : Nat} {L : List Sg} (h : Inx w B g L) (n : Nat) (hn : n < 4294967296) : Calls Tryd.prog 20 #[.pointer (some ⟨g, 0, none⟩), .int .u32 (n : Int)] w fun e w' => e = .returned (.bool (wk L n)) ∧ Below w.heap.size w w' := by
  obtain ⟨a, c, mb, base, D, h1, _, h3, h4, h5⟩ := h
  have c1 : w.cell? ⟨g, 1, none⟩ = some (.map (some mb)) := by rw [cell_of_row _ _ _ _ _ _ h1]; rfl
  obtain ⟨va, vc, hrun, hoi, _⟩ := h3.look h4 (by unfold maxLen; omega) n hn
  have hpn := plN_len L n L.length
  unfold wk
  obtain ⟨q, hq⟩ : ∃ q, (plN L n L.length).length = q := ⟨_, rfl⟩
  rw [hq] at hrun hpn ⊢
  have hq2 : q ≤ 1024 := by omega
  clear h1 h3 h4 hoi hq
  by_cases h0 : 0 < q
  · have k0 : (0 : Int) < (q : Int) := by omega
    rw [decide_eq_true h0]
    go_enter Tryd.func20, Tryd.ntmps20
    go_wp2
    go_ret
    exact ⟨rfl, Below.refl _ _⟩
  · have k0 : ¬ (0 : Int) < (q : Int) := by omega
    rw [decide_eq_false h0]
    go_enter Tryd.func20, Tryd.ntmps20
    go_wp2
    go_ret
    exact ⟨rfl, Below.refl _ _⟩
/-- What Find leaves. -/
def FiTo (w : World) (r : Option Nat) (e : Ending) (w' : World) : Prop := e = .returned (.tuple #[.int .i64 ((r.getD 0 : Nat) : Int), .bool r.isSome]) ∧ Below w.heap.size w w'
set_option maxRecDepth 100000 in
set_option maxHeartbeats 2000000 in
theorem find_any {w : World} {B g : Nat} {L : List Sg} (h : Inx w B g L) (s1 : Nat) (s2 : ByteArray) (hs1 : s1 < 4294967296) : Calls Tryd.prog 18 #[.pointer (some ⟨g, 0, none⟩), .agg #[.int .u32 (s1 : Int), .string s2]] w fun e w' => FiTo w (fnd L (s1, s2)) e w' := by
  obtain ⟨bx, hbx⟩ : ∃ bx, w.heap.size = bx := ⟨_, rfl⟩
  obtain ⟨W1, hW1, r1, hb1⟩ := box_sg (w := w) s1 s2
  rw [hbx] at r1
  have hx := h.below hb1
  obtain ⟨a, c, mb, base, D, h1, h2, h3, h4, h5⟩ := hx
  obtain ⟨va, vc, hrun, hoi, _⟩ := h3.look h4 (by unfold maxLen; omega) s1 hs1
  have hpn := plN_len L s1 L.length
  obtain ⟨zs, hzs⟩ : ∃ zs, plN L s1 L.length = zs := ⟨_, rfl⟩
  have HZ : Hid (plN L (s1, s2).1 L.length = zs) := hzs
  rw [hzs] at hrun hoi hpn
  obtain ⟨q, hq⟩ : ∃ q, zs.length = q := ⟨_, rfl⟩
  rw [hq] at hrun hpn
  have hq2 : q ≤ 1024 := by omega
  have hrunD : ∀ m, (Instr.lookup 52 (.map (some mb)) (.int .u32 (s1 : Int)) false).run Tryd.prog (W1.drewN m) = .ok (.slice va q vc) (W1.drewN m) := fun m => by
    refine look_same h3 ?_ hs1 hrun
    obtain ⟨es, cl, h6, _⟩ := h3
    exact (below_drewN (Below.refl W1.heap.size W1) m).block mb (lt_of_some h6)
  have g1 : W1.cell? ⟨g, 1, none⟩ = some (.map (some mb)) := by rw [cell_of_row _ _ _ _ _ _ h1]; rfl
  have b0 : W1.cell? ⟨bx, 0, none⟩ = some (.int .u32 (s1 : Int)) := by rw [cell_of_row _ _ _ _ _ _ r1]; rfl
  have HH : Hid (Below w.heap.size w W1 ∧ W1.heap[bx]? = some (.cells #[.int .u32 (s1 : Int), .string s2] 25 (0, 0)) ∧ W1.heap[g]? = some (.cells #[.slice a L.length c, .map (some mb)] 54 (0, 0)) ∧ W1.ownsRow B 25 2 (.slice a L.length c) L.length (sgR L) ∧ W1.ownsInts base 3 .i64 (.slice va zs.length vc) zs ∧ L.length ≤ 1024) := ⟨hb1, r1, h1, h2, hoi, h5⟩
  clear h r1 hb1 h1 h2 h3 h4 h5 hoi hzs
  go_enter Tryd.func18, Tryd.ntmps18
  go_wp2
  go_quiet (fail)
  go_wp2
  go_loopw [18] (fun vi wr => ∃ j : Nat, j ≤ q ∧ vi = .int .i64 j ∧ (∀ i p : Nat, i < j → zs[i]? = some (p : Int) → L[p]? ≠ some (s1, s2)) ∧ Below W1.heap.size W1 wr) (fun vi _ => q - (intOf vi).toNat)
  case atStart => exact ⟨0, by omega, rfl, fun i p hi => by omega, below_drewN (Below.refl _ _) _⟩
  case round =>
    clear g1 b0 hrun hrunD
    obtain ⟨j, hj, rfl, hbe, hbw⟩ := hrel
    have HW : Hid (Below w.heap.size w wr ∧ Below W1.heap.size W1 wr) := ⟨HH.out.1.trans (hbw.mono HH.out.1.size), hbw⟩
    by_cases hlt : j < q
    · have kk : (j : Int) < (q : Int) := by omega
      obtain ⟨z, hz⟩ : ∃ z, zs[j]? = some z := ⟨_, List.getElem?_eq_getElem (by omega)⟩
      obtain ⟨p, rfl, hp⟩ := pl_nat L s1 L.length z (by
        have e : plN L s1 L.length = zs := HZ.out
        rw [e]; exact List.mem_of_getElem? hz)
      obtain ⟨⟨t1, t2⟩, ht⟩ : ∃ t, L[p]? = some t := ⟨_, List.getElem?_eq_getElem hp⟩
      have hbx2 := (hbw.block bx (lt_of_some HH.out.2.1)).trans HH.out.2.1
      have hgx2 := (hbw.block g (lt_of_some HH.out.2.2.1)).trans HH.out.2.2.1
      have b0 : wr.cell? ⟨bx, 0, none⟩ = some (.int .u32 (s1 : Int)) := by rw [cell_of_row _ _ _ _ _ _ hbx2]; rfl
      have b1 : wr.cell? ⟨bx, 1, none⟩ = some (.string s2) := by rw [cell_of_row _ _ _ _ _ _ hbx2]; rfl
      have g0 : wr.cell? ⟨g, 0, none⟩ = some (.slice a L.length c) := by rw [cell_of_row _ _ _ _ _ _ hgx2]; rfl
      obtain ⟨sb, so, ha, _, hc⟩ := (show Gw (fun _ => True) wr a L.length c L from Rw.below (Rw.own HH.out.2.2.2.1 (fun _ _ => trivial)) hbw).at (by omega)
      subst ha
      obtain ⟨c0, c1⟩ := hc p (t1, t2) ht
      simp only at c0 c1
      have hzr : Rw (fun _ => True) wr 3 1 va zs.length vc (zs.map (Value.int .i64)) := Rw.below (Rw.own HH.out.2.2.2.2.1.1 (fun _ _ => trivial)) hbw
      obtain ⟨zb, zo, hza, _, _, hzc⟩ := hzr.2.2.2 (by omega)
      subst hza
      have z0 := hzc j (.int .i64 (p : Int)) (by rw [List.getElem?_map, hz]; rfl)
      have hpl : (p : Int) < (L.length : Int) := by omega
      have hL24 := HH.out.2.2.2.2.2
      obtain ⟨ln, hln⟩ : ∃ ln, L.length = ln := ⟨_, rfl⟩
      rw [hln] at g0 hpl hL24 hp
      have HP : Hid (zs[j]? = some (p : Int) ∧ L[p]? = some (t1, t2) ∧ ∀ i p : Nat, i < j → zs[i]? = some (p : Int) → L[p]? ≠ some (s1, s2)) := ⟨hz, ht, hbe⟩
      clear hbe hbw hz ht hbx2 hgx2 hc hzr hzc hln
      by_cases he : (t1, t2) = ((s1, s2) : Sg)
      · obtain ⟨rfl, rfl⟩ := Prod.mk.inj he
        have HEQ := fun V => eq_yes ((t1, t2) : Sg) V
        have HF : Hid (fnd L (t1, t2) = some p) := fnd_at (j := j) (by rw [HZ.out]; exact HP.out.1) HP.out.2.1 (by rw [HZ.out]; exact HP.out.2.2)
        simp only at HEQ
        clear he
        go_wp2
        go_quiet (fail)
        go_wp2
        refine bodyPost_ret (v := .tuple #[.int .i64 (p : Int), .bool true]) ?_ rfl ⟨by rw [HF.out]; rfl, below_drewN HW.out.1 _⟩
        simp [results, go_sem]
      · have HEQ := fun V => eq_no he V
        simp only at HEQ
        have HNE : Hid ((t1, t2) ≠ ((s1, s2) : Sg)) := he
        clear he
        go_wp2
        go_quiet (fail)
        go_wp2
        refine ⟨⟨j + 1, by omega, by go_num, fun i p2 hi hz2 => ?_, below_drewN HW.out.2 _⟩, by simp [intOf]; omega⟩
        by_cases hij : i = j
        · subst hij
          rw [HP.out.1] at hz2
          have e : p = p2 := by have := Option.some.inj hz2; omega
          subst e
          rw [HP.out.2.1]
          exact fun e => HNE.out (Option.some.inj e)
        · exact HP.out.2.2 i p2 (by omega) hz2
    · have kk : ¬ (j : Int) < (q : Int) := by omega
      have HF : Hid (fnd L (s1, s2) = none) := fnd_not (fun i p2 hz2 => by
        rw [HZ.out] at hz2
        have := (List.getElem?_eq_some_iff.1 hz2).1
        exact hbe i p2 (by omega) hz2)
      clear hbe hbw
      go_wp2
      refine bodyPost_ret (v := .tuple #[.int .i64 0, .bool false]) ?_ rfl ⟨by rw [HF.out]; rfl, HW.out.1⟩
      simp [results, go_sem]
/-- What the document's Find leaves. -/
def plOf : Option Nat → Int
  | some k => (k : Int)
  | none => -1
def RfTo (w : World) (r : Option Nat) (e : Ending) (w' : World) : Prop := e = .returned (.int .i64 (plOf r)) ∧ Below w.heap.size w w'
set_option maxRecDepth 100000 in
set_option maxHeartbeats 2000000 in
theorem reffind_any {G : Nat → Prop} {w : World} {a : Option Addr} {n c : Nat} {l : List Sg} (h : Gw G w a n c l) (s1 : Nat) (s2 : ByteArray) : Calls Tryd.prog 19 #[.slice a n c, .agg #[.int .u32 (s1 : Int), .string s2]] w fun e w' => RfTo w (fnd (l.take 1024) (s1, s2)) e w' := by
  have hl := h.len
  have hm := h.max
  obtain ⟨bx, hbx⟩ : ∃ bx, w.heap.size = bx := ⟨_, rfl⟩
  obtain ⟨W1, hW1, r1, hb1⟩ := box_sg (w := w) s1 s2
  rw [hbx] at r1
  have HH : Hid (Gw G W1 a n c l ∧ W1.heap[bx]? = some (.cells #[.int .u32 (s1 : Int), .string s2] 25 (0, 0)) ∧ Below w.heap.size w W1) := ⟨h.below hb1, r1, hb1⟩
  clear h r1 hb1
  go_enter Tryd.func19, Tryd.ntmps19
  go_wp2
  go_loopw [5] (fun vi wr => ∃ i : Nat, i ≤ n ∧ i ≤ 1024 ∧ vi = .int .i64 i ∧ (∀ j, j < i → l[j]? ≠ some (s1, s2)) ∧ Below W1.heap.size W1 wr) (fun vi _ => n - (intOf vi).toNat)
  case atStart => exact ⟨0, by omega, by omega, rfl, fun j hj => by omega, Below.refl _ _⟩
  case round =>
    obtain ⟨i, hi, hi24, rfl, hbe, hbw⟩ := hrel
    have HW : Hid (Below w.heap.size w wr ∧ Below W1.heap.size W1 wr) := ⟨HH.out.2.2.trans (hbw.mono HH.out.2.2.size), hbw⟩
    by_cases hlt : i < n
    · have kk : (i : Int) < (n : Int) := by omega
      by_cases h24 : i < 1024
      · have k24 : (i : Int) < 1024 := by omega
        obtain ⟨sb, so, rfl, _, hc⟩ := (HH.out.1.below hbw).at (by omega)
        obtain ⟨⟨t1, t2⟩, ht⟩ : ∃ t, l[i]? = some t := ⟨_, List.getElem?_eq_getElem (by omega)⟩
        obtain ⟨c0, c1⟩ := hc i (t1, t2) ht
        simp only at c0 c1
        have hbx2 := (hbw.block bx (lt_of_some HH.out.2.1)).trans HH.out.2.1
        have b0 : wr.cell? ⟨bx, 0, none⟩ = some (.int .u32 (s1 : Int)) := by rw [cell_of_row _ _ _ _ _ _ hbx2]; rfl
        have b1 : wr.cell? ⟨bx, 1, none⟩ = some (.string s2) := by rw [cell_of_row _ _ _ _ _ _ hbx2]; rfl
        have HP : Hid (l[i]? = some (t1, t2) ∧ ∀ j, j < i → l[j]? ≠ some (s1, s2)) := ⟨ht, hbe⟩
        clear hbe hbw hbx2 hc ht
        by_cases he : (t1, t2) = ((s1, s2) : Sg)
        · obtain ⟨rfl, rfl⟩ := Prod.mk.inj he
          have HEQ := fun V => eq_yes ((t1, t2) : Sg) V
          have HF : Hid (fnd (l.take 1024) (t1, t2) = some i) := fnd_some (by rw [List.getElem?_take_of_lt h24]; exact HP.out.1) (fun j hj => by rw [List.getElem?_take_of_lt (by omega)]; exact HP.out.2 j hj)
          simp only at HEQ
          clear he
          go_wp2
          go_quiet (fail)
          go_wp2
          go_ret
          exact ⟨by rw [HF.out]; rfl, below_drewN HW.out.1 _⟩
        · have HEQ := fun V => eq_no he V
          simp only at HEQ
          have HNE : Hid ((t1, t2) ≠ ((s1, s2) : Sg)) := he
          clear he
          go_wp2
          go_quiet (fail)
          go_wp2
          refine ⟨⟨i + 1, by omega, by omega, by go_num, fun j hj => ?_, below_drewN HW.out.2 _⟩, by simp [intOf]; omega⟩
          by_cases hij : j = i
          · subst hij
            rw [HP.out.1]
            exact fun e => HNE.out (Option.some.inj e)
          · exact HP.out.2 j (by omega)
      · have k24 : ¬ (i : Int) < 1024 := by omega
        have HF : Hid (fnd (l.take 1024) (s1, s2) = none) := fnd_none (fun j e => by
          have hj : j < 1024 := by
            have := (List.getElem?_eq_some_iff.1 e).1
            rw [List.length_take] at this
            omega
          rw [List.getElem?_take_of_lt hj] at e
          exact hbe j (by omega) e)
        clear hbe hbw
        go_wp2
        go_ret
        exact ⟨by rw [HF.out]; rfl, HW.out.1⟩
    · have kk : ¬ (i : Int) < (n : Int) := by omega
      have HF : Hid (fnd (l.take 1024) (s1, s2) = none) := fnd_none (fun j e => by
        have hj : j < i ∧ j < 1024 := by
          have := (List.getElem?_eq_some_iff.1 e).1
          rw [List.length_take] at this
          omega
        rw [List.getElem?_take_of_lt hj.2] at e
        exact hbe j hj.1 e)
      clear hbe hbw
      go_wp2
      go_ret
      exact ⟨by rw [HF.out]; rfl, HW.out.1⟩
end Go.Proofs.YthmikfkdjnidmaaDoor
