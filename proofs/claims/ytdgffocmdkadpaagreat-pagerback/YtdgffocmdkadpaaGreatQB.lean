/- Heads held against each other as wholes. Walks: what would be changed. -/
import Derived.Test.YtdgffocmdkadpaaGreatPY
namespace Go.Proofs.YtdgffocmdkadpaaGreat
open Go.RowKit Go.Shelf Pg
/-- The rounds over an array's elements. -/
theorem eq_rounds {P : Program} (W : World) (d : Nat) (e : TypeId) (xs ys : Array Value) (q : Nat → Bool) : ∀ (m s : Nat), (∀ i, s ≤ i → i < s + m → ∃ x y, (part e xs i).run P W = .ok x W ∧ (part e ys i).run P W = .ok y W ∧ (Op.equalIn (d + 1) e x y).run P W = .ok (q i) W) →
    (forIn (m := Sem) (List.range' s m) ((none, ()) : Option Bool × Unit) fun i _ => do
      let x ← part e xs i
      let y ← part e ys i
      let b ← Op.equalIn (d + 1) e x y
      if (!b) = true then pure (ForInStep.done (some false, ())) else pure (ForInStep.yield (none, ()))).run P W = .ok (if (List.range' s m).all q then (none, ()) else (some false, ())) W
  | 0, s, _ => by simp
  | m + 1, s, h => by
    obtain ⟨x, y, h1, h2, h3⟩ := h s (Nat.le_refl _) (by omega)
    have ih := eq_rounds W d e xs ys q m (s + 1) (fun i hi1 hi2 => h i (by omega) (by omega))
    rw [List.range'_succ, List.forIn_cons, Sem.run_bind]
    simp only [Sem.run_bind, h1, h2, h3, Result.andThen_ok]
    cases hq : q s
    · simp [hq]
    · simp only [Bool.not_true, Bool.false_eq_true, if_false, Sem.run_pure, Result.andThen_ok, List.all_cons, hq, Bool.true_and]
      exact ih
theorem eq_array {P : Program} (W : World) (d : Nat) (t e : TypeId) (n : Nat) (k : IntKind) (xs ys : Array Value) (a b : Nat → Int) (ht : P.underlying t = some (.array n e)) (he : P.underlying e = some (.int k)) (hs : (sizeOf e).run P W = .ok 1 W) (ha : (isAgg e).run P W = .ok false W) (hx : ∀ i, i < n → xs[i]? = some (.int k (a i))) (hy : ∀ i, i < n → ys[i]? = some (.int k (b i))) :
    (Op.equalIn (d + 1 + 1) t (.agg xs) (.agg ys)).run P W = .ok ((List.range n).all fun i => a i == b i) W := by
  have hp : ∀ (zs : Array Value) (i : Nat) (v : Value), zs[i]? = some v → (part e zs i).run P W = .ok v W := fun zs i v hv => by simp [part, ha, hv]
  have hr := eq_rounds (P := P) W d e xs ys (fun i => a i == b i) n 0 (fun i _ hi => ⟨_, _, hp xs i _ (hx i (by omega)), hp ys i _ (hy i (by omega)), by rw [run_equalIn_int W d e k k _ _ he]⟩)
  rw [Op.equalIn]
  simp only [Sem.run_bind, run_underlying ht, Result.andThen_ok, hs, Nat.mul_one]
  simp only [Std.Legacy.Range.forIn_eq_forIn_range', Std.Legacy.Range.size]
  rw [show (n - 0 + 1 - 1) / 1 = n by omega]
  rw [hr, Result.andThen_ok, List.range_eq_range']
  cases (List.range' 0 n).all (fun i => a i == b i) <;> simp
/-- The parts of a head's cells. -/
theorem hd_part_r (h : Hd) (W : World) : (part 39 (hdA h) 1).run Tryz.prog W = .ok (.agg (rootsV h).toArray) W := by
  have h1 : (isAgg 39).run Tryz.prog W = .ok true W := by kernel_rfl
  have e : (hdA h).extract 1 (1 + 4) = (rootsV h).toArray := by
    apply Array.toList_inj.1
    rw [Array.toList_extract, List.extract_eq_take_drop]
    rfl
  simp [part, h1, e]
theorem hd_part_u (h : Hd) (W : World) : (part 98 (hdA h) 5).run Tryz.prog W = .ok (.agg (setA h.u)) W := by
  have h1 : (isAgg 98).run Tryz.prog W = .ok true W := by kernel_rfl
  have e : (hdA h).extract 5 (5 + 16) = setA h.u := by
    apply Array.toList_inj.1
    rw [Array.toList_extract, List.extract_eq_take_drop]
    show ((setL h.u)).take 16 = setL h.u
    rw [List.take_of_length_le (by rw [setL_len]; omega)]
  simp [part, h1, e]
theorem hd_part_s (h : Hd) (W : World) : (part 40 (hdA h) 0).run Tryz.prog W = .ok (.int .u64 (h.ser : Int)) W := by
  have h1 : (isAgg 40).run Tryz.prog W = .ok false W := by kernel_rfl
  have e : (hdA h)[0]? = some (.int .u64 (h.ser : Int)) := rfl
  simp [part, h1, e]
def sameHd (a b : Hd) : Bool := (((a.ser : Int) == (b.ser : Int)) && ((List.range 4).all fun i => ((a.root i : Nat) : Int) == ((b.root i : Nat) : Int))) && ((List.range 16).all fun i => ((bitN a.u i : Nat) : Int) == ((bitN b.u i : Nat) : Int))
theorem sameHd_iff {n : Nat} {a b : Hd} (ha : a.u.length = n) (hb : b.u.length = n) (hn : n ≤ 128) : sameHd a b = true ↔ a = b := by
  unfold sameHd
  simp only [Bool.and_eq_true, beq_iff_eq, List.all_eq_true, List.mem_range]
  constructor
  · rintro ⟨⟨h1, h2⟩, h3⟩
    have e0 := h2 0 (by omega)
    have e1 := h2 1 (by omega)
    have e2 := h2 2 (by omega)
    have e3 := h2 3 (by omega)
    simp only [Hd.root] at e0 e1 e2 e3
    have hu : a.u = b.u := by
      apply List.ext_getElem (by omega)
      intro i h4 h5
      have hb1 := bitN_bit a.u i
      have hb2 := bitN_bit b.u i
      have e := h3 (i / 8) (by omega)
      rw [show bitN a.u (i / 8) = bitN b.u (i / 8) by omega] at hb1
      rw [hb1, List.getD_eq_getElem?_getD, List.getD_eq_getElem?_getD, List.getElem?_eq_getElem h4, List.getElem?_eq_getElem h5] at hb2
      simp only [Option.getD_some] at hb2
      cases hx : a.u[i] <;> cases hy : b.u[i] <;> rw [hx, hy] at hb2 <;> simp at hb2 ⊢
    cases a
    cases b
    simp only at h1 e0 e1 e2 e3 hu
    simp only [Hd.mk.injEq]
    exact ⟨by omega, by omega, by omega, by omega, by omega, hu⟩
  · rintro rfl
    exact ⟨⟨rfl, fun _ _ => rfl⟩, fun _ _ => rfl⟩
theorem eq_head (a b : Hd) (W : World) : (Op.equalIn 10000 100 (.agg (hdA a)) (.agg (hdA b))).run Tryz.prog W = .ok (sameHd a b) W := by
  have hr := eq_array (P := Tryz.prog) W 9997 39 3 4 .i64 (rootsV a).toArray (rootsV b).toArray (fun i => ((a.root i : Nat) : Int)) (fun i => ((b.root i : Nat) : Int)) Tryz.underlying39 Tryz.underlying3 (by kernel_rfl) (by kernel_rfl) (fun i hi => by rw [List.getElem?_toArray]; exact rootsV_at a i hi) (fun i hi => by rw [List.getElem?_toArray]; exact rootsV_at b i hi)
  have hu := eq_array (P := Tryz.prog) W 9997 98 5 16 .u8 (setA a.u) (setA b.u) (fun i => ((bitN a.u i : Nat) : Int)) (fun i => ((bitN b.u i : Nat) : Int)) Tryz.underlying98 Tryz.underlying5 (by kernel_rfl) (by kernel_rfl) (fun i hi => setA_at a.u i hi) (fun i hi => setA_at b.u i hi)
  have hse : (Op.equalIn 9999 40 (.int .u64 (a.ser : Int)) (.int .u64 (b.ser : Int))).run Tryz.prog W = .ok ((a.ser : Int) == (b.ser : Int)) W := run_equalIn_int W 9998 40 .u64 .u64 _ _ Tryz.underlying40
  have hf : Tryz.prog.fieldsOf 100 = #[⟨"serial", 40, 0, false, "", "strongroom/pager", 0⟩, ⟨"roots", 39, 1, false, "", "strongroom/pager", 8⟩, ⟨"used", 98, 5, false, "", "strongroom/pager", 40⟩] := by kernel_rfl
  rw [show (10000 : Nat) = 9999 + 1 from rfl, run_equalIn_struct W 9999 100 _ _ (by kernel_rfl) (by kernel_rfl), hf]
  have hr : (Op.equalIn 9999 39 (.agg (rootsV a).toArray) (.agg (rootsV b).toArray)).run Tryz.prog W = .ok ((List.range 4).all fun i => ((a.root i : Nat) : Int) == ((b.root i : Nat) : Int)) W := hr
  have hu : (Op.equalIn 9999 98 (.agg (setA a.u)) (.agg (setA b.u))).run Tryz.prog W = .ok ((List.range 16).all fun i => ((bitN a.u i : Nat) : Int) == ((bitN b.u i : Nat) : Int)) W := hu
  unfold sameHd
  generalize ((a.ser : Int) == (b.ser : Int)) = q1 at *
  generalize ((List.range 4).all fun i => ((a.root i : Nat) : Int) == ((b.root i : Nat) : Int)) = q2 at *
  generalize ((List.range 16).all fun i => ((bitN a.u i : Nat) : Int) == ((bitN b.u i : Nat) : Int)) = q3 at *
  simp only [Op.eqFields, Sem.run_bind, Sem.run_ite, hd_part_s, hd_part_r, hd_part_u, Result.andThen_ok, hse, hr, hu, Sem.run_pure]
  rw [if_pos (by decide)]
  cases q1
  · rfl
  · rw [if_neg (by decide), if_pos (by decide)]
    cases q2
    · rfl
    · rw [if_neg (by decide), if_pos (by decide)]
      cases q3 <;> rfl
end Go.Proofs.YtdgffocmdkadpaaGreat
namespace Go.Proofs.YtdgffocmdkadpaaGreat
open Go.RowKit Go.Shelf Pg
theorem below_drew {B : Nat} {w V : World} (h : Below B w V) : Below B w V.drew := h.drew
section
variable {h0 : Nat} {F : Nat → Prop} {w : World} {S : Nat → Prop} {g : Nat} {D : Dk} {pb jb n : Nat} {X : Px}
/-- A disk that can be asked. -/
structure Asks (n : Nat) (D : Dk) : Prop where
  len : 8 * n + 1 ≤ D.kept.length
  up : D.up = true
  sz : ∀ s ∈ D.seen, s.size = 256
def pgOf (n : Nat) (D : Dk) (i : Nat) : ByteArray := pageAt D.seen (1 + 4 * n + 4 * i)
/-- Is a page to have other bytes? -/
def Px.other (n : Nat) (X : Px) (D : Dk) (i : Nat) : Bool := match X.now.m i with
  | some s => !(decide (s = pgOf n D i))
  | none => false
set_option maxRecDepth 100000 in
set_option maxHeartbeats 2000000 in
theorem pother_any (h : Pgr h0 F w S g D pb jb n X) (hD : Asks n D) (i : Nat) (hi : i < n) : Calls Tryz.prog 65 #[.pointer (some ⟨pb, 0, none⟩), .int .i64 (i : Int)] w fun e w' => e = .returned (.bool (X.other n D i)) ∧ Below w.heap.size w w' := by
  obtain ⟨hok, hn2, hn12⟩ := h.ok
  obtain ⟨_, kb, kc, mb, sa, sc, ss, hP⟩ := h
  obtain ⟨c0, c22, c39, c60, c61⟩ := hP.cells
  have hlk0 := hP.m.look i (by omega)
  cases hm : X.now.m i with
  | some s =>
    have hlk : (Instr.lookup 103 (.map (some mb)) (.int .i64 (i : Int)) true).run Tryz.prog w = .ok (.tuple #[.agg #[.int .i64 (i : Int), .string s], .bool true]) w := by
      rw [hlk0]
      unfold lookV
      rw [hm]
      rfl
    have HE : Hid (X.other n D i = !(decide (s = pgOf n D i))) := by show _ = _; unfold Px.other; rw [hm]
    obtain ⟨W1, hW1⟩ : ∃ W1, w.alloc (.cells #[.int .i64 (i : Int), .string s] 32) = W1 := ⟨_, rfl⟩
    have hB1 : Below w.heap.size w W1 := by rw [← hW1]; exact (Below.refl _ w).alloc (Nat.le_refl _) _
    have hP1 := hP.below hB1
    have hr1 : W1.heap[w.heap.size]? = some (.cells #[.int .i64 (i : Int), .string s] 32 (0, 0)) := by rw [← hW1]; exact heap_alloc_new w _
    have d1 : W1.cell? ⟨w.heap.size, 1, none⟩ = some (.string s) := by rw [cell_of_row W1 _ _ _ _ _ hr1]; rfl
    have ck : W1.cell? ⟨kb, i, none⟩ = some (.string (X.kept.getD i ByteArray.empty)) := own_at hP1.k (by rw [strsV_at, List.getD_eq_getElem?_getD, List.getElem?_eq_getElem (by rw [hok.kept]; exact hi)]; rfl)
    obtain ⟨kp, hkp⟩ : ∃ kp, X.kept.getD i ByteArray.empty = kp := ⟨_, rfl⟩
    rw [hkp] at ck
    obtain ⟨e0, e22, _, _, _⟩ := hP1.cells
    have HJR := jread_any hP1.disk hP1.jat (by omega) hD.len hD.up hD.sz i hi
    obtain ⟨tx, htx⟩ : ∃ tx, pgOf n D i = tx := ⟨_, rfl⟩
    have hq : pageAt D.seen (1 + 4 * n + 4 * i) = tx := htx
    rw [hq] at HJR
    rw [htx] at HE
    have HB1 : Hid (Below w.heap.size w W1) := hB1
    clear hP hP1 hlk0 hm c0 c22 c39 c61 hB1 hr1 hkp htx hq hok
    by_cases hse : s = tx
    · subst hse
      have HE2 : Hid (X.other n D i = false) := by show _ = _; rw [HE.out]; simp
      go_enter Tryz.func65, Tryz.ntmps65
      go_wp2_with fail
      refine HJR.mono ?_
      rintro e V ⟨rfl, hV⟩
      have HB2 : Hid (Below w.heap.size w V) := HB1.out.trans (hV.mono HB1.out.size)
      clear HJR hV
      go_wp2
      go_ret
      exact ⟨by rw [HE2.out]; rfl, HB2.out⟩
    · have HE2 : Hid (X.other n D i = true) := by show _ = _; rw [HE.out]; simp [hse]
      have hs1 := str_nb hse
      have hs2 := str_ne hse
      clear hse
      go_enter Tryz.func65, Tryz.ntmps65
      go_wp2_with fail
      refine HJR.mono ?_
      rintro e V ⟨rfl, hV⟩
      have HB2 : Hid (Below w.heap.size w V) := HB1.out.trans (hV.mono HB1.out.size)
      clear HJR hV
      go_wp2
      go_ret
      exact ⟨by rw [HE2.out]; rfl, HB2.out⟩
  | none =>
    have hlk : (Instr.lookup 103 (.map (some mb)) (.int .i64 (i : Int)) true).run Tryz.prog w = .ok (.tuple #[.agg #[.int .i64 0, .string ⟨#[]⟩], .bool false]) w := by
      rw [hlk0]
      unfold lookV
      rw [hm]
      rfl
    have HE : Hid (X.other n D i = false) := by show _ = _; unfold Px.other; rw [hm]
    have hB1 : Below w.heap.size w (w.alloc (.cells #[.int .i64 0, .string ⟨#[]⟩] 32)) := (Below.refl _ w).alloc (Nat.le_refl _) _
    have hP1 := hP.below hB1
    have hlt := hP1.ltorn
    have HT := phas_any (noT n) i (by omega) (w.alloc (.cells #[.int .i64 0, .string ⟨#[]⟩] 32))
    rw [torn_none] at HT
    have HB1 : Hid (Below w.heap.size w (w.alloc (.cells #[.int .i64 0, .string ⟨#[]⟩] 32))) := hB1
    clear hP hP1 hlk0 hm c0 c22 c39 c61 hB1 hok
    go_enter Tryz.func65, Tryz.ntmps65
    go_wp2_with (refine wpList_load_w (by kernel_rfl) _ _ rfl rfl hlt ?_)
    refine HT.mono ?_
    rintro e V ⟨rfl, hV⟩
    have HB2 : Hid (Below w.heap.size w V) := HB1.out.trans (hV.mono HB1.out.size)
    clear HT hV hlt
    go_wp2
    go_ret
    exact ⟨by rw [HE.out]; rfl, HB2.out⟩
set_option maxRecDepth 100000 in
set_option maxHeartbeats 2000000 in
theorem potherHead_any (h : Pgr h0 F w S g D pb jb n X) : Calls Tryz.prog 66 #[.pointer (some ⟨pb, 0, none⟩)] w fun e w' => e = .returned (.bool (!(sameHd X.now.h X.good))) ∧ Below w.heap.size w w' := by
  obtain ⟨hok, hn2, hn12⟩ := h.ok
  obtain ⟨_, kb, kc, mb, sa, sc, ss, hP⟩ := h
  have hlg := hP.lgood
  obtain ⟨C, hC⟩ : ∃ C, w.heap.size = C := ⟨_, rfl⟩
  have hz := zero_head n
  obtain ⟨W1, hW1⟩ : ∃ W1, w.alloc (.cells (hdA (hd0 n)) 100) = W1 := ⟨_, rfl⟩
  have hr1 : W1.heap[C]? = some (.cells (hdA (hd0 n)) 100 (0, 0)) := by rw [← hW1, ← hC]; exact heap_alloc_new w _
  have hst := store_hd W1 C X.good _ _ hr1 (hdA_size _)
  obtain ⟨W2, hW2⟩ : ∃ W2, W1.setRow C (hdA X.good) = W2 := ⟨_, rfl⟩
  rw [hW2] at hst
  have hr2 : W2.heap[C]? = some (.cells (hdA X.good) 100 (0, 0)) := by rw [← hW2]; exact setRow_heap W1 C _ _ _ _ hr1
  have hb2 : Below C w W2 := by
    rw [← hW2]
    exact setRow_below (by rw [← hW1, ← hC]; exact (Below.refl _ w).alloc (Nat.le_refl _) _) (Nat.le_refl _) _
  have hb2' : Below w.heap.size w W2 := by rw [hC]; exact hb2
  have hP2 := hP.below hb2'
  have hlt := hP2.ltorn
  have HT := phas_any (noT n) 0 (by omega) W2
  rw [torn_none] at HT
  have hsz := hdA_size X.good
  have HP2 : Hid (Pl h0 (mor F w W2) W2 S g D pb jb n kb kc mb sa sc ss X ∧ W2.heap[C]? = some (.cells (hdA X.good) 100 (0, 0)) ∧ Below C w W2) := ⟨hP2, hr2, hb2⟩
  have hq := eq_head X.now.h X.good
  obtain ⟨q, hqe⟩ : ∃ q, sameHd X.now.h X.good = q := ⟨_, rfl⟩
  rw [hqe] at hq
  rw [hqe]
  clear hqe
  clear hP hr1 hr2 hb2 hb2' hP2 hok
  go_enter Tryz.func66, Tryz.ntmps66
  go_wp2_with (first | (refine wpList_load_w (by kernel_rfl) _ _ rfl rfl hlg ?_) | (refine wpList_load_w (by kernel_rfl) _ _ rfl rfl hlt ?_))
  refine HT.mono ?_
  rintro e V ⟨rfl, hV⟩
  have hP3 := HP2.out.1.below hV
  have hln := (hP3.below (Below.refl V.heap.size V).drew).lnow
  have hlc := load_head V.drew C X.good _ _ ((hV.block C (lt_of_some HP2.out.2.1)).trans HP2.out.2.1)
  have HB3 : Hid (Below w.heap.size w V) := by
    show Below w.heap.size w V
    rw [hC]
    exact HP2.out.2.2.trans (hV.mono (by have := lt_of_some HP2.out.2.1; omega))
  clear HT hV HP2 hP3 hlt hlg hst hW1 hW2
  go_wp2
  refine wp_region_held_drew (S := fun W => (loadVar 100 ⟨pb, 39, none⟩).run Tryz.prog W = .ok (.agg (hdA X.now.h)) W ∧ (loadVar 100 ⟨C, 0, none⟩).run Tryz.prog W = .ok (.agg (hdA X.good)) W) (by kernel_rfl) (⟨hln, hlc⟩) (fun hHeld => ?_)
  refine wpAnyH_take (i := 0) (v := ?v0) rfl (by kernel_rfl) (by kernel_rfl) (by kernel_rfl) (fun _ _ _ h => h) (Or.inl ⟨by first | kernel_rfl | rfl, ?y0⟩) hHeld ?r0
  case y0 => (intro W hSW; (try dsimp only at hSW); go_simp; (try with_reducible rfl))
  change wpAnyH _ _ _ _ _ _ _ (Act.put _ (some 32) _) _
  simp only [Act.put, List.setIfInBounds_toArray, List.set_cons_zero, List.set_cons_succ]
  refine wpAnyH_take (i := 1) (v := ?v1) rfl (by kernel_rfl) (by kernel_rfl) (by kernel_rfl) (fun _ _ _ h => h) (Or.inl ⟨by first | kernel_rfl | rfl, ?y1⟩) hHeld ?r1
  case y1 => (intro W hSW; (try dsimp only at hSW); go_simp; (try with_reducible rfl))
  change wpAnyH _ _ _ _ _ _ _ (Act.put _ (some 33) _) _
  simp only [Act.put, List.setIfInBounds_toArray, List.set_cons_zero, List.set_cons_succ]
  refine wpAnyH_take (i := 2) (v := ?v2) rfl (by kernel_rfl) (by kernel_rfl) (by kernel_rfl) (fun _ _ _ h => h) (Or.inl ⟨by first | kernel_rfl | rfl, ?y2⟩) hHeld ?r2
  case y2 => (intro W hSW; (try dsimp only at hSW); go_simp; (try with_reducible rfl))
  change wpAnyH _ _ _ _ _ _ _ (Act.put _ (some 34) _) _
  simp only [Act.put, List.setIfInBounds_toArray, List.set_cons_zero, List.set_cons_succ]
  refine wpAnyH_take (i := 3) (v := ?v3) rfl (by kernel_rfl) (by kernel_rfl) (by kernel_rfl) (fun _ _ _ h => h) (Or.inl ⟨by first | kernel_rfl | rfl, ?y3⟩) hHeld ?r3
  case y3 => (intro W hSW; (try dsimp only at hSW); go_simp; (try with_reducible rfl))
  change wpAnyH _ _ _ _ _ _ _ (Act.put _ (some 35) _) _
  simp only [Act.put, List.setIfInBounds_toArray, List.set_cons_zero, List.set_cons_succ]
  refine wpAnyH_take (i := 4) (v := .agg (hdA X.now.h)) rfl (by kernel_rfl) (by kernel_rfl) (by kernel_rfl) (fun _ _ _ h => h) (Or.inl ⟨by first | kernel_rfl | rfl, ?y4⟩) hHeld ?r4
  case y4 => (intro W hSW; refine yields_at _ _ rfl rfl (hSW.1))
  change wpAnyH _ _ _ _ _ _ _ (Act.put _ (some 36) _) _
  simp only [Act.put, List.setIfInBounds_toArray, List.set_cons_zero, List.set_cons_succ]
  refine wpAnyH_take (i := 5) (v := .agg (hdA X.good)) rfl (by kernel_rfl) (by kernel_rfl) (by kernel_rfl) (fun _ _ _ h => h) (Or.inl ⟨by first | kernel_rfl | rfl, ?y5⟩) hHeld ?r5
  case y5 => (intro W hSW; refine yields_at _ _ rfl rfl (hSW.2))
  change wpAnyH _ _ _ _ _ _ _ (Act.put _ (some 37) _) _
  simp only [Act.put, List.setIfInBounds_toArray, List.set_cons_zero, List.set_cons_succ]
  refine wpAnyH_take (i := 6) (v := ?v6) rfl (by kernel_rfl) (by kernel_rfl) (by kernel_rfl) (fun _ _ _ h => h) (Or.inl ⟨by first | kernel_rfl | rfl, ?y6⟩) hHeld ?r6
  case y6 => (intro W hSW; (try dsimp only at hSW); go_simp; (try with_reducible rfl))
  change wpAnyH _ _ _ _ _ _ _ (Act.put _ (some 38) _) _
  simp only [Act.put, List.setIfInBounds_toArray, List.set_cons_zero, List.set_cons_succ]
  refine wpAnyH_take (i := 7) (v := ?v7) rfl (by kernel_rfl) (by kernel_rfl) (by kernel_rfl) (fun _ _ _ h => h) (Or.inl ⟨by first | kernel_rfl | rfl, ?y7⟩) hHeld ?r7
  case y7 => (intro W hSW; (try dsimp only at hSW); go_simp; (try with_reducible rfl))
  change wpAnyH _ _ _ _ _ _ _ (Act.put _ (some 2) _) _
  simp only [Act.put, List.setIfInBounds_toArray, List.set_cons_zero, List.set_cons_succ]
  refine wpAnyH_done (by kernel_rfl) ?_ _
  go_wp2
  go_ret
  exact ⟨rfl, (below_drew HB3.out)⟩
end
end Go.Proofs.YtdgffocmdkadpaaGreat
