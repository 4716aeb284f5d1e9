/- Walks over Find, Weak, Len, the document's Find, and few. Walks over the small functions: goodSize, isBlock, isBytes, head, block, withBytes. -/
import Derived.Test.YtbhnmjjfammlkaaDoorGH
import Derived.Test.YtbhnmjjfammlkaaDoorHC
import Derived.Test.YtbhnmjjfammlkaaDoorHH
namespace Go.Proofs.YtbhnmjjfammlkaaDoor
open Go.RowKit Go.Maps
theorem box_sg {w : World} (s1 : Nat) (s2 : ByteArray) : ∃ W1, w.alloc (.cells #[.int .u32 (s1 : Int), .string s2] 65) = W1 ∧ W1.heap[w.heap.size]? = some (.cells #[.int .u32 (s1 : Int), .string s2] 65 (0, 0)) ∧ Below w.heap.size w W1 :=
  ⟨_, rfl, heap_alloc_new w _, (Below.refl _ w).alloc (Nat.le_refl _) _⟩
theorem eq_no {s t : Sg} (h : s ≠ t) (V : World) : (Op.equalIn 10000 65 (.agg #[.int .u32 (s.1 : Int), .string s.2]) (.agg #[.int .u32 (t.1 : Int), .string t.2])).run Tryd.prog V = .ok false V := by
  rw [eqin_sg]
  congr 1
  rw [decide_eq_false_iff_not]
  rintro ⟨e1, e2⟩
  exact h (Prod.ext (by omega) e2)
theorem eq_yes (s : Sg) (V : World) : (Op.equalIn 10000 65 (.agg #[.int .u32 (s.1 : Int), .string s.2]) (.agg #[.int .u32 (s.1 : Int), .string s.2])).run Tryd.prog V = .ok true V := by
  rw [eqin_sg]
  simp
theorem find_nilx (s1 : Nat) (s2 : ByteArray) (w : World) : Calls Tryd.prog 62 #[.pointer none, .agg #[.int .u32 (s1 : Int), .string s2]] w fun e w' => e = .returned (.tuple #[.int .i64 0, .bool false]) ∧ Below w.heap.size w w' := by
  have HB : Hid (Below w.heap.size w (w.alloc (.cells #[.int .u32 (s1 : Int), .string s2] 65))) := (Below.refl _ w).alloc (Nat.le_refl _) _
  go_enter Tryd.func62, Tryd.ntmps62
  go_wp2
  refine bodyPost_ret (v := .tuple #[.int .i64 0, .bool false]) ?_ rfl ⟨rfl, HB.out⟩
  simp [results, go_sem]
theorem weak_nilx (n : Nat) (w : World) : Calls Tryd.prog 61 #[.pointer none, .int .u32 (n : Int)] w fun e w' => e = .returned (.bool false) ∧ Below w.heap.size w w' := by
  go_enter Tryd.func61, Tryd.ntmps61
  go_wp2
  go_ret
  exact ⟨rfl, Below.refl _ _⟩
/-- Has one of them that weak sum? -/
def wk (L : List Sg) (n : Nat) : Bool := decide (0 < (plN L n L.length).length)
theorem wk_iff (L : List Sg) (n : Nat) : wk L n = true ↔ ∃ s ∈ L, s.1 = n := by
  unfold wk
  rw [decide_eq_true_eq]
  constructor
  · intro h
    obtain ⟨z, hz⟩ := List.exists_mem_of_length_pos h
    obtain ⟨i, rfl, hi⟩ := pl_nat L n L.length z hz
    obtain ⟨_, h2⟩ := (pl_mem L n L.length i).1 hz
    rw [List.getElem?_eq_getElem hi] at h2
    exact ⟨_, List.getElem_mem hi, Option.some.inj h2⟩
  · rintro ⟨s, hs, rfl⟩
    obtain ⟨i, hi, e⟩ := List.getElem_of_mem hs
    have hm := (pl_mem L s.1 L.length i).2 ⟨hi, by rw [List.getElem?_eq_getElem hi, e]; rfl⟩
    exact List.length_pos_of_mem hm
set_option maxRecDepth 100000 in
set_option maxHeartbeats 1000000 in
theorem weak_any {w : World} {B g : Nat} {L : List Sg} (h : Inx w B g L) (n : Nat) (hn : n < 4294967296) : Calls Tryd.prog 61 #[.pointer (some ⟨g, 0, none⟩), .int .u32 (n : Int)] w fun e w' => e = .returned (.bool (wk L n)) ∧ Below w.heap.size w w' := by
  obtain ⟨a, c, mb, base, D, h1, _, h3, h4, h5⟩ := h
  have c1 : w.cell? ⟨g, 1, none⟩ = some (.map (some mb)) := by rw [cell_of_row _ _ _ _ _ _ h1]; rfl
  obtain ⟨va, vc, hrun, hoi, _⟩ := h3.look h4 (by unfold maxLen; omega) n hn
  have hpn := plN_len L n L.length
  unfold wk
  obtain ⟨q, hq⟩ : ∃ q, (plN L n L.length).length = q := ⟨_, rfl⟩
  rw [hq] at hrun hpn ⊢
  have hq2 : q ≤ 1024 := by omega
  clear h1 h3 h4 hoi hq
  by_cases h0 : 0 < q
  · have k0 : (0 : Int) < (q : Int) := by omega
    rw [decide_eq_true h0]
    go_enter Tryd.func61, Tryd.ntmps61
    go_wp2
    go_ret
    exact ⟨rfl, Below.refl _ _⟩
  · have k0 : ¬ (0 : Int) < (q : Int) := by omega
    rw [decide_eq_false h0]
    go_enter Tryd.func61, Tryd.ntmps61
    go_wp2
    go_ret
    exact ⟨rfl, Below.refl _ _⟩
/-- What Find leaves. -/
def FiTo (w : World) (r : Option Nat) (e : Ending) (w' : World) : Prop := e = .returned (.tuple #[.int .i64 ((r.getD 0 : Nat) : Int), .bool r.isSome]) ∧ Below w.heap.size w w'
set_option maxRecDepth 100000 in
set_option maxHeartbeats 2000000 in
theorem find_any {w : World} {B g : Nat} {L : List Sg} (h : Inx w B g L) (s1 : Nat) (s2 : ByteArray) (hs1 : s1 < 4294967296) : Calls Tryd.prog 62 #[.pointer (some ⟨g, 0, none⟩), .agg #[.int .u32 (s1 : Int), .string s2]] w fun e w' => FiTo w (fnd L (s1, s2)) e w' := by
  obtain ⟨bx, hbx⟩ : ∃ bx, w.heap.size = bx := ⟨_, rfl⟩
  obtain ⟨W1, hW1, r1, hb1⟩ := box_sg (w := w) s1 s2
  rw [hbx] at r1
  have hx := h.below hb1
  obtain ⟨a, c, mb, base, D, h1, h2, h3, h4, h5⟩ := hx
  obtain ⟨va, vc, hrun, hoi, _⟩ := h3.look h4 (by unfold maxLen; omega) s1 hs1
  have hpn := plN_len L s1 L.length
  obtain ⟨zs, hzs⟩ : ∃ zs, plN L s1 L.length = zs := ⟨_, rfl⟩
  have HZ : Hid (plN L (s1, s2).1 L.length = zs) := hzs
  rw [hzs] at hrun hoi hpn
  obtain ⟨q, hq⟩ : ∃ q, zs.length = q := ⟨_, rfl⟩
  rw [hq] at hrun hpn
  have hq2 : q ≤ 1024 := by omega
  have hrunD : ∀ m, (Instr.lookup 95 (.map (some mb)) (.int .u32 (s1 : Int)) false).run Tryd.prog (W1.drewN m) = .ok (.slice va q vc) (W1.drewN m) := fun m => by
    refine look_same h3 ?_ hs1 hrun
    obtain ⟨es, cl, h6, _⟩ := h3
    exact (below_drewN (Below.refl W1.heap.size W1) m).block mb (lt_of_some h6)
  have g1 : W1.cell? ⟨g, 1, none⟩ = some (.map (some mb)) := by rw [cell_of_row _ _ _ _ _ _ h1]; rfl
  have b0 : W1.cell? ⟨bx, 0, none⟩ = some (.int .u32 (s1 : Int)) := by rw [cell_of_row _ _ _ _ _ _ r1]; rfl
  have HH : Hid (Below w.heap.size w W1 ∧ W1.heap[bx]? = some (.cells #[.int .u32 (s1 : Int), .string s2] 65 (0, 0)) ∧ W1.heap[g]? = some (.cells #[.slice a L.length c, .map (some mb)] 97 (0, 0)) ∧ W1.ownsRow B 65 2 (.slice a L.length c) L.length (sgR L) ∧ W1.ownsInts base 3 .i64 (.slice va zs.length vc) zs ∧ L.length ≤ 1024) := ⟨hb1, r1, h1, h2, hoi, h5⟩
  clear h r1 hb1 h1 h2 h3 h4 h5 hoi hzs
  go_enter Tryd.func62, Tryd.ntmps62
  go_wp2
  go_quiet (fail)
  go_wp2
  go_loopw [18] (fun vi wr => ∃ j : Nat, j ≤ q ∧ vi = .int .i64 j ∧ (∀ i p : Nat, i < j → zs[i]? = some (p : Int) → L[p]? ≠ some (s1, s2)) ∧ Below W1.heap.size W1 wr) (fun vi _ => q - (intOf vi).toNat)
  case atStart => exact ⟨0, by omega, rfl, fun i p hi => by omega, below_drewN (Below.refl _ _) _⟩
  case round =>
    clear g1 b0 hrun hrunD
    obtain ⟨j, hj, rfl, hbe, hbw⟩ := hrel
    have HW : Hid (Below w.heap.size w wr ∧ Below W1.heap.size W1 wr) := ⟨HH.out.1.trans (hbw.mono HH.out.1.size), hbw⟩
    by_cases hlt : j < q
    · have kk : (j : Int) < (q : Int) := by omega
      obtain ⟨z, hz⟩ : ∃ z, zs[j]? = some z := ⟨_, List.getElem?_eq_getElem (by omega)⟩
      obtain ⟨p, rfl, hp⟩ := pl_nat L s1 L.length z (by
        have e : plN L s1 L.length = zs := HZ.out
        rw [e]; exact List.mem_of_getElem? hz)
      obtain ⟨⟨t1, t2⟩, ht⟩ : ∃ t, L[p]? = some t := ⟨_, List.getElem?_eq_getElem hp⟩
      have hbx2 := (hbw.block bx (lt_of_some HH.out.2.1)).trans HH.out.2.1
      have hgx2 := (hbw.block g (lt_of_some HH.out.2.2.1)).trans HH.out.2.2.1
      have b0 : wr.cell? ⟨bx, 0, none⟩ = some (.int .u32 (s1 : Int)) := by rw [cell_of_row _ _ _ _ _ _ hbx2]; rfl
      have b1 : wr.cell? ⟨bx, 1, none⟩ = some (.string s2) := by rw [cell_of_row _ _ _ _ _ _ hbx2]; rfl
      have g0 : wr.cell? ⟨g, 0, none⟩ = some (.slice a L.length c) := by rw [cell_of_row _ _ _ _ _ _ hgx2]; rfl
      obtain ⟨sb, so, ha, _, hc⟩ := (show Gw (fun _ => True) wr a L.length c L from Rw.below (Rw.own HH.out.2.2.2.1 (fun _ _ => trivial)) hbw).at (by omega)
      subst ha
      obtain ⟨c0, c1⟩ := hc p (t1, t2) ht
      simp only at c0 c1
      have hzr : Rw (fun _ => True) wr 3 1 va zs.length vc (zs.map (Value.int .i64)) := Rw.below (Rw.own HH.out.2.2.2.2.1.1 (fun _ _ => trivial)) hbw
      obtain ⟨zb, zo, hza, _, _, hzc⟩ := hzr.2.2.2 (by omega)
      subst hza
      have z0 := hzc j (.int .i64 (p : Int)) (by rw [List.getElem?_map, hz]; rfl)
      have hpl : (p : Int) < (L.length : Int) := by omega
      have hL24 := HH.out.2.2.2.2.2
      obtain ⟨ln, hln⟩ : ∃ ln, L.length = ln := ⟨_, rfl⟩
      rw [hln] at g0 hpl hL24 hp
      have HP : Hid (zs[j]? = some (p : Int) ∧ L[p]? = some (t1, t2) ∧ ∀ i p : Nat, i < j → zs[i]? = some (p : Int) → L[p]? ≠ some (s1, s2)) := ⟨hz, ht, hbe⟩
      clear hbe hbw hz ht hbx2 hgx2 hc hzr hzc hln
      by_cases he : (t1, t2) = ((s1, s2) : Sg)
      · obtain ⟨rfl, rfl⟩ := Prod.mk.inj he
        have HEQ := fun V => eq_yes ((t1, t2) : Sg) V
        have HF : Hid (fnd L (t1, t2) = some p) := fnd_at (j := j) (by rw [HZ.out]; exact HP.out.1) HP.out.2.1 (by rw [HZ.out]; exact HP.out.2.2)
        simp only at HEQ
        clear he
        go_wp2
        go_quiet (fail)
        go_wp2
        refine bodyPost_ret (v := .tuple #[.int .i64 (p : Int), .bool true]) ?_ rfl ⟨by rw [HF.out]; rfl, below_drewN HW.out.1 _⟩
        simp [results, go_sem]
      · have HEQ := fun V => eq_no he V
        simp only at HEQ
        have HNE : Hid ((t1, t2) ≠ ((s1, s2) : Sg)) := he
        clear he
        go_wp2
        go_quiet (fail)
        go_wp2
        refine ⟨⟨j + 1, by omega, by go_num, fun i p2 hi hz2 => ?_, below_drewN HW.out.2 _⟩, by simp [intOf]; omega⟩
        by_cases hij : i = j
        · subst hij
          rw [HP.out.1] at hz2
          have e : p = p2 := by have := Option.some.inj hz2; omega
          subst e
          rw [HP.out.2.1]
          exact fun e => HNE.out (Option.some.inj e)
        · exact HP.out.2.2 i p2 (by omega) hz2
    · have kk : ¬ (j : Int) < (q : Int) := by omega
      have HF : Hid (fnd L (s1, s2) = none) := fnd_not (fun i p2 hz2 => by
        rw [HZ.out] at hz2
        have := (List.getElem?_eq_some_iff.1 hz2).1
        exact hbe i p2 (by omega) hz2)
      clear hbe hbw
      go_wp2
      refine bodyPost_ret (v := .tuple #[.int .i64 0, .bool false]) ?_ rfl ⟨by rw [HF.out]; rfl, HW.out.1⟩
      simp [results, go_sem]
/-- What the document's Find leaves. -/
def plOf : Option Nat → Int
  | some k => (k : Int)
  | none => -1
def RfTo (w : World) (r : Option Nat) (e : Ending) (w' : World) : Prop := e = .returned (.int .i64 (plOf r)) ∧ Below w.heap.size w w'
end Go.Proofs.YtbhnmjjfammlkaaDoor
namespace Go.Proofs.YtbhnmjjfammlkaaDoor
open Go.RowKit
def goodZ (x : Int) : Bool := decide (1 ≤ x) && decide (x ≤ 128)
set_option maxHeartbeats 400000 in
theorem goodsize_any (x : Int) (w : World) : Calls Tryd.prog 27 #[.int .i64 x] w fun e w' => e = .returned (.bool (goodZ x)) ∧ w' = w := by
  by_cases h1 : 1 ≤ x
  · by_cases h2 : x ≤ 128
    · have e : goodZ x = true := by simp [goodZ, h1, h2]
      rw [e]
      go_enter Tryd.func27, Tryd.ntmps27
      go_wp2
      go_ret
      exact ⟨rfl, rfl⟩
    · have e : goodZ x = false := by simp [goodZ, h2]
      rw [e]
      go_enter Tryd.func27, Tryd.ntmps27
      go_wp2
      go_ret
      exact ⟨rfl, rfl⟩
  · have e : goodZ x = false := by simp [goodZ, h1]
    rw [e]
    go_enter Tryd.func27, Tryd.ntmps27
    go_wp2
    go_ret
    exact ⟨rfl, rfl⟩
def pcV (p : Pc) : Value := .agg #[.bool p.copy, .int .i64 p.n, .string p.data]
theorem box_pc {w : World} (a : Bool) (n : Int) (s : ByteArray) : ∃ W1, w.alloc (.cells #[.bool a, .int .i64 n, .string s] 48) = W1 ∧ W1.heap[w.heap.size]? = some (.cells #[.bool a, .int .i64 n, .string s] 48 (0, 0)) ∧ Below w.heap.size w W1 := ⟨_, rfl, heap_alloc_new w _, (Below.refl _ w).alloc (Nat.le_refl _) _⟩
def blkB (p : Pc) : Bool := p.copy && decide (0 ≤ p.n) && decide (p.data.size = 0)
def bytB (p : Pc) : Bool := !p.copy && decide (p.n = 0) && decide (p.data.size ≠ 0)
theorem ok_or (p : Pc) : p.ok = (blkB p || bytB p) := by
  obtain ⟨a, n, s⟩ := p
  cases a <;> simp [Pc.ok, blkB, bytB]
theorem blk_not {p : Pc} (h : blkB p = true) : bytB p = false := by
  obtain ⟨a, n, s⟩ := p
  cases a <;> simp [blkB, bytB] at h ⊢
set_option maxRecDepth 100000 in
set_option maxHeartbeats 1000000 in
theorem isblock_any (p : Pc) (w : World) : Calls Tryd.prog 39 #[.agg #[.bool p.copy, .int .i64 p.n, .string p.data]] w fun e w' => e = .returned (.bool (blkB p)) ∧ Below w.heap.size w w' := by
  obtain ⟨p1, p2, p3⟩ := p
  obtain ⟨pb, hpb⟩ : ∃ pb, w.heap.size = pb := ⟨_, rfl⟩
  obtain ⟨V1, hV1, r1, hb1⟩ := box_pc (w := w) p1 p2 p3
  rw [hpb] at r1
  have x0 : V1.cell? ⟨pb, 0, none⟩ = some (.bool p1) := by rw [cell_of_row _ _ _ _ _ _ r1]; rfl
  have x1 : V1.cell? ⟨pb, 1, none⟩ = some (.int .i64 p2) := by rw [cell_of_row _ _ _ _ _ _ r1]; rfl
  have x2 : V1.cell? ⟨pb, 2, none⟩ = some (.string p3) := by rw [cell_of_row _ _ _ _ _ _ r1]; rfl
  have HB : Hid (Below w.heap.size w V1) := hb1
  simp only
  clear r1 hb1
  cases p1 with
  | true =>
    by_cases e2 : 0 ≤ p2
    · by_cases e3 : p3.size = 0
      · have hie : p3.toList.isEmpty = true := by rw [size0 e3]; simp
        have e : blkB ⟨true, p2, p3⟩ = true := by simp [blkB, e2, e3]
        rw [e]
        clear e e3
        go_enter Tryd.func39, Tryd.ntmps39
        go_wp2
        go_ret
        first | exact ⟨rfl, HB.out⟩ | exact ⟨rfl, by rw [← hpb]; exact HB.out⟩
      · have hie : p3.toList.isEmpty = false := by have h5 := str_ne (a := p3) (b := ⟨#[]⟩) (fun h => e3 (by rw [h]; rfl)); simp at h5; simpa using h5
        have e : blkB ⟨true, p2, p3⟩ = false := by simp [blkB, e3]
        rw [e]
        clear e e3
        go_enter Tryd.func39, Tryd.ntmps39
        go_wp2
        go_ret
        first | exact ⟨rfl, HB.out⟩ | exact ⟨rfl, by rw [← hpb]; exact HB.out⟩
    · have e : blkB ⟨true, p2, p3⟩ = false := by simp [blkB, e2]
      rw [e]
      clear e
      go_enter Tryd.func39, Tryd.ntmps39
      go_wp2
      go_ret
      first | exact ⟨rfl, HB.out⟩ | exact ⟨rfl, by rw [← hpb]; exact HB.out⟩
  | false =>
    have e : blkB ⟨false, p2, p3⟩ = false := by simp [blkB]
    rw [e]
    clear e
    go_enter Tryd.func39, Tryd.ntmps39
    go_wp2
    go_ret
    first | exact ⟨rfl, HB.out⟩ | exact ⟨rfl, by rw [← hpb]; exact HB.out⟩
set_option maxRecDepth 100000 in
set_option maxHeartbeats 1000000 in
theorem isbytes_any (p : Pc) (w : World) : Calls Tryd.prog 40 #[.agg #[.bool p.copy, .int .i64 p.n, .string p.data]] w fun e w' => e = .returned (.bool (bytB p)) ∧ Below w.heap.size w w' := by
  obtain ⟨p1, p2, p3⟩ := p
  obtain ⟨pb, hpb⟩ : ∃ pb, w.heap.size = pb := ⟨_, rfl⟩
  obtain ⟨V1, hV1, r1, hb1⟩ := box_pc (w := w) p1 p2 p3
  rw [hpb] at r1
  have x0 : V1.cell? ⟨pb, 0, none⟩ = some (.bool p1) := by rw [cell_of_row _ _ _ _ _ _ r1]; rfl
  have x1 : V1.cell? ⟨pb, 1, none⟩ = some (.int .i64 p2) := by rw [cell_of_row _ _ _ _ _ _ r1]; rfl
  have x2 : V1.cell? ⟨pb, 2, none⟩ = some (.string p3) := by rw [cell_of_row _ _ _ _ _ _ r1]; rfl
  have HB : Hid (Below w.heap.size w V1) := hb1
  simp only
  clear r1 hb1
  cases p1 with
  | false =>
    by_cases e2 : p2 = 0
    · subst e2
      by_cases e3 : p3.size = 0
      · have hie : p3.toList.isEmpty = true := by rw [size0 e3]; simp
        have e : bytB ⟨false, 0, p3⟩ = false := by simp [bytB, e3]
        rw [e]
        clear e e3
        go_enter Tryd.func40, Tryd.ntmps40
        go_wp2
        go_ret
        first | exact ⟨rfl, HB.out⟩ | exact ⟨rfl, by rw [← hpb]; exact HB.out⟩
      · have hie : p3.toList.isEmpty = false := by have h5 := str_ne (a := p3) (b := ⟨#[]⟩) (fun h => e3 (by rw [h]; rfl)); simp at h5; simpa using h5
        have e : bytB ⟨false, 0, p3⟩ = true := by simp [bytB, e3]
        rw [e]
        clear e e3
        go_enter Tryd.func40, Tryd.ntmps40
        go_wp2
        go_ret
        first | exact ⟨rfl, HB.out⟩ | exact ⟨rfl, by rw [← hpb]; exact HB.out⟩
    · have hb2 : (p2 == 0) = false := by simpa using e2
      have e : bytB ⟨false, p2, p3⟩ = false := by simp [bytB, e2]
      rw [e]
      clear e
      go_enter Tryd.func40, Tryd.ntmps40
      go_wp2
      go_ret
      first | exact ⟨rfl, HB.out⟩ | exact ⟨rfl, by rw [← hpb]; exact HB.out⟩
  | true =>
    have e : bytB ⟨true, p2, p3⟩ = false := by simp [bytB]
    rw [e]
    clear e
    go_enter Tryd.func40, Tryd.ntmps40
    go_wp2
    go_ret
    first | exact ⟨rfl, HB.out⟩ | exact ⟨rfl, by rw [← hpb]; exact HB.out⟩
/-- The number that a piece's bytes begin with. -/
def headN (p : Pc) : Nat := if p.copy then 2 * p.n.toNat + 1 else 2 * p.data.size
set_option maxRecDepth 100000 in
set_option maxHeartbeats 1000000 in
theorem head_any (p : Pc) (w : World) (h0 : 0 ≤ p.n) (h1 : p.n ≤ 9223372036854775807) (h2 : p.data.size ≤ 9223372036854775807) : Calls Tryd.prog 46 #[.agg #[.bool p.copy, .int .i64 p.n, .string p.data]] w fun e w' => e = .returned (.int .u64 (headN p : Int)) ∧ Below w.heap.size w w' := by
  obtain ⟨p1, p2, p3⟩ := p
  obtain ⟨pb, hpb⟩ : ∃ pb, w.heap.size = pb := ⟨_, rfl⟩
  obtain ⟨V1, hV1, r1, hb1⟩ := box_pc (w := w) p1 p2 p3
  rw [hpb] at r1
  have x0 : V1.cell? ⟨pb, 0, none⟩ = some (.bool p1) := by rw [cell_of_row _ _ _ _ _ _ r1]; rfl
  have x1 : V1.cell? ⟨pb, 1, none⟩ = some (.int .i64 p2) := by rw [cell_of_row _ _ _ _ _ _ r1]; rfl
  have x2 : V1.cell? ⟨pb, 2, none⟩ = some (.string p3) := by rw [cell_of_row _ _ _ _ _ _ r1]; rfl
  have HB : Hid (Below w.heap.size w V1) := hb1
  simp only at h0 h1 h2 ⊢
  clear r1 hb1
  cases p1 with
  | true =>
    obtain ⟨m, rfl⟩ : ∃ m : Nat, p2 = (m : Int) := ⟨p2.toNat, by omega⟩
    have wm : IntKind.u64.wrap (m : Int) = (m : Int) := by rw [IntKind.wrap_u64]; omega
    obtain ⟨z0, hz0⟩ : ∃ z0, 2 * m = z0 := ⟨_, rfl⟩
    obtain ⟨z, hz⟩ : ∃ z, z0 + 1 = z := ⟨_, rfl⟩
    have k0 : (2 : Int) * (m : Int) = (z0 : Int) := by omega
    have wz0 : IntKind.u64.wrap (z0 : Int) = (z0 : Int) := by rw [IntKind.wrap_u64]; omega
    have k1 : (z0 : Int) + 1 = (z : Int) := by omega
    have wz : IntKind.u64.wrap (z : Int) = (z : Int) := by rw [IntKind.wrap_u64]; omega
    have e : headN ⟨true, (m : Int), p3⟩ = z := by simp [headN]; omega
    rw [e]
    clear e hz hz0
    go_enter Tryd.func46, Tryd.ntmps46
    go_wp2
    go_ret
    first | exact ⟨rfl, HB.out⟩ | exact ⟨rfl, by rw [← hpb]; exact HB.out⟩
  | false =>
    obtain ⟨m, hm⟩ : ∃ m : Nat, p3.size = m := ⟨_, rfl⟩
    obtain ⟨z, hz⟩ : ∃ z, 2 * m = z := ⟨_, rfl⟩
    have e : headN ⟨false, p2, p3⟩ = z := by simp [headN]; omega
    rw [e]
    have wm : IntKind.u64.wrap (p3.size : Int) = (p3.size : Int) := by rw [IntKind.wrap_u64]; omega
    have k0 : (2 : Int) * (p3.size : Int) = (z : Int) := by omega
    have wz : IntKind.u64.wrap (z : Int) = (z : Int) := by rw [IntKind.wrap_u64]; omega
    clear e hz hm
    go_enter Tryd.func46, Tryd.ntmps46
    go_wp2
    go_ret
    first | exact ⟨rfl, HB.out⟩ | exact ⟨rfl, by rw [← hpb]; exact HB.out⟩
theorem res_pc {fn : Func} {p : Tmp} (h : fn.results = #[.cell p 48]) (tmps : Array Value) (w : World) (g : Nat) (cs : Array Value) (hp : tmps.getD p undef = .pointer (some ⟨g, 0, none⟩)) (hg : w.heap[g]? = some (.cells cs 48 (0, 0))) (hi : (Tryd.prog.info? 48).map (·.size) = some cs.size) :
    (results fn tmps).run Tryd.prog w = .ok (.agg cs) w := by
  have hp' : tmps[p]?.getD undef = .pointer (some ⟨g, 0, none⟩) := by simpa using hp
  have hl := run_loadVar_row (P := Tryd.prog) w g 48 48 cs (0, 0) _ hg Tryd.underlying48 rfl hi
  simp [results, h, hp', asAddr, hl]
theorem infoP3 : (Tryd.prog.info? 48).map (·.size) = some 3 := by kernel_rfl
theorem set3 {U : World} {g : Nat} {a b c : Value} {t : TypeId} (h : U.heap[g]? = some (.cells #[a, b, c] t (0, 0))) (x0 x1 x2 : Value) : (((U.setCell ⟨g, 0, none⟩ x0).setCell ⟨g, 1, none⟩ x1).setCell ⟨g, 2, none⟩ x2).heap[g]? = some (.cells #[x0, x1, x2] t (0, 0)) := by
  have h1 : (U.setCell ⟨g, 0, none⟩ x0).heap[g]? = some (.cells #[x0, b, c] t (0, 0)) := by rw [heap_setCell_same _ _ _ _ _ _ h]; rfl
  have h2 : ((U.setCell ⟨g, 0, none⟩ x0).setCell ⟨g, 1, none⟩ x1).heap[g]? = some (.cells #[x0, x1, c] t (0, 0)) := by rw [heap_setCell_same _ _ _ _ _ _ h1]; rfl
  rw [heap_setCell_same _ _ _ _ _ _ h2]
  rfl
set_option maxRecDepth 100000 in
set_option maxHeartbeats 1000000 in
theorem block_any (i : Nat) (w : World) : Calls Tryd.prog 32 #[.int .i64 (i : Int)] w fun e w' => e = .returned (.agg #[.bool true, .int .i64 (i : Int), .string ⟨#[]⟩]) ∧ Below w.heap.size w w' := by
  go_enter Tryd.func32, Tryd.ntmps32
  go_wp2
  refine bodyPost_ret (v := .agg #[.bool true, .int .i64 (i : Int), .string ⟨#[]⟩]) ?_ rfl ⟨rfl, (Below.refl _ w).alloc (Nat.le_refl _) _⟩
  exact res_pc (fn := Tryd.f32) (p := 2) (by rfl) _ _ w.heap.size _ (by rfl) (heap_alloc_new w _) infoP3
end Go.Proofs.YtbhnmjjfammlkaaDoor
