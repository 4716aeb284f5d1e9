/- A walk over Changed. Walks: unchanged, reset, off, Abort. -/
import Derived.Test.YtdgffocmdkadpaaGreatQB
namespace Go.Proofs.YtdgffocmdkadpaaGreat
open Go.RowKit Go.Shelf Pg
def intsV (l : List Nat) : List Value := l.map fun (i : Nat) => Value.int .i64 (i : Int)
theorem intsV_len (l : List Nat) : (intsV l).length = l.length := by simp [intsV]
theorem infoI : (Tryz.prog.info? 3).map (fun i => (i.zero, i.size, i.bytes)) = some (some (.int .i64 0), 1, 8) := by kernel_rfl
theorem addN_own (w : World) {base n c x b : Nat} {a : Option Addr} {l : List Nat} (h : w.ownsRow base 3 1 (.slice a n c) n (intsV l)) (hr : w.heap[b]? = some (.cells #[.int .i64 (x : Int)] 3 (0, 0))) (hn : n + 1 ≤ 1000000) (hb : base ≤ w.heap.size) :
    ∃ a' c' w', (∀ ty, (Builtin.append_ #[60, 60] ty #[.slice a n c, .slice (some ⟨b, 0, none⟩) 1 1]).run Tryz.prog w = .ok (.slice a' (n + 1) c') w') ∧ w'.ownsRow base 3 1 (.slice a' (n + 1) c') (n + 1) (intsV (l ++ [x])) ∧ w.grownBy w' (ob a) := by
  obtain ⟨i, hi, hz, hs, hbb⟩ := info_of infoI
  have h2 : Rw (fun _ => True) w 3 1 (some ⟨b, 0, none⟩) 1 1 [.int .i64 (x : Int)] := by
    refine ⟨rfl, Nat.le_refl _, by unfold maxLen; omega, fun _ => ⟨b, 0, rfl, lt_of_some hr, trivial, fun j u hu => ?_⟩⟩
    rw [Nat.zero_add, cell_of_row _ b _ _ _ _ hr]
    simpa using hu
  obtain ⟨a', c', w', k1, k2, k3, _⟩ := app_own w 60 3 i _ 1 8 Tryz.underlying60 hi hz hs hbb rfl (by omega) h h2 (fun u hu => by simp at hu; subst hu; rfl) (by omega) (by omega) hb
  refine ⟨a', c', w', k1, ?_, k3⟩
  have e : intsV (l ++ [x]) = intsV l ++ [.int .i64 (x : Int)] := by simp [intsV]
  rw [e]
  exact k2
section
variable {h0 : Nat} {F : Nat → Prop} {w : World} {S : Nat → Prop} {g : Nat} {D : Dk} {pb jb n : Nat} {X : Px}
/-- The pages below k that would be changed; all that would. -/
def Px.chP (n : Nat) (X : Px) (D : Dk) (k : Nat) : List Nat := (List.range' 1 (k - 1)).filter fun i => X.now.h.has i && X.other n D i
theorem chP_succ (n : Nat) (X : Px) (D : Dk) (k : Nat) (hk : 1 ≤ k) : X.chP n D (k + 1) = X.chP n D k ++ (if (X.now.h.has k && X.other n D k) = true then [k] else []) := by
  unfold Px.chP
  rw [show k + 1 - 1 = (k - 1) + 1 by omega, List.range'_concat, List.filter_append, Nat.one_mul, show 1 + (k - 1) = k by omega]
  congr 1
  simp only [List.filter_cons, List.filter_nil]
def Px.chg (n : Nat) (X : Px) (D : Dk) : List Nat := if X.chP n D n = [] ∧ sameHd X.now.h X.good = true then [] else 0 :: X.chP n D n
set_option maxRecDepth 100000 in
set_option maxHeartbeats 4000000 in
theorem pchanged_any (h : Pgr h0 F w S g D pb jb n X) (hD : Asks n D) : Calls Tryz.prog 18 #[.pointer (some ⟨pb, 0, none⟩)] w fun e w' => ∃ a c, e = .returned (.slice a (X.chg n D).length c) ∧ w'.ownsRow w.heap.size 3 1 (.slice a (X.chg n D).length c) (X.chg n D).length (intsV (X.chg n D)) ∧ Below w.heap.size w w' := by
  obtain ⟨hok, hn2, hn12⟩ := h.ok
  have HH : Hid (Pgr h0 F w S g D pb jb n X ∧ Asks n D) := ⟨h, hD⟩
  obtain ⟨B, hB⟩ : ∃ B, w.heap.size = B := ⟨_, rfl⟩
  obtain ⟨W1, hW1⟩ : ∃ W1, w.alloc (.cells #[.int .i64 0] 3) = W1 := ⟨_, rfl⟩
  have HI : Hid (W1.ownsRow B 3 1 (.slice (some ⟨B, 0, none⟩) 1 1) 1 (intsV (0 :: X.chP n D 1)) ∧ Below B w W1) := by
    rw [← hW1, ← hB]
    exact ⟨⟨rfl, .inr ⟨w.heap.size, 1, _, rfl, Nat.le_refl _, heap_alloc_new w _, Nat.le_refl _, by unfold maxLen; omega, rfl, rfl⟩⟩, (Below.refl _ w).alloc (Nat.le_refl _) _⟩
  clear h hok
  go_enter Tryz.func18, Tryz.ntmps18
  go_wp2
  go_loopw [3, 4] (fun v3 v4 wr => ∃ (i : Nat) (a : Option Addr) (c : Nat), 1 ≤ i ∧ i ≤ n ∧ v4 = .int .i64 (i : Int) ∧ v3 = .slice a ((X.chP n D i).length + 1) c ∧ wr.ownsRow B 3 1 (.slice a ((X.chP n D i).length + 1) c) ((X.chP n D i).length + 1) (intsV (0 :: X.chP n D i)) ∧ Below B w wr) (fun _ v _ => n - (intOf v).toNat)
  case atStart => exact ⟨1, some ⟨B, 0, none⟩, 1, Nat.le_refl _, by omega, rfl, rfl, HI.out⟩
  case round =>
    clear HI hW1
    obtain ⟨i, a, c, hi1, hi, rfl, rfl, ho, hbw⟩ := hrel
    have hbw' : Below w.heap.size w wr := by rw [hB]; exact hbw
    have hPw := HH.out.1.below hbw'
    have HPG := ppages_any hPw
    have HLN := chP_succ n X D i hi1
    have hcl : (X.chP n D i).length ≤ 128 := by
      unfold Px.chP
      have := List.length_filter_le (fun i => X.now.h.has i && X.other n D i) (List.range' 1 (i - 1))
      rw [List.length_range'] at this
      omega
    by_cases hlt : i < n
    · have kk : (i : Int) < (n : Int) := by omega
      have HUS := pused_any hPw (i : Int)
      have hus : Hd.usedI X.now.h (i : Int) = X.now.h.has i := by unfold Hd.usedI; rw [decide_eq_true (by omega), Bool.true_and, show ((i : Int)).toNat = i by omega]
      rw [hus] at HUS
      have HB : Hid (Below B w wr) := hbw
      obtain ⟨m, hm⟩ : ∃ m, (X.chP n D i).length = m := ⟨_, rfl⟩
      rw [hm] at ho hcl ⊢
      have HO : Hid (wr.ownsRow B 3 1 (.slice a (m + 1) c) (m + 1) (intsV (0 :: X.chP n D i))) := ho
      have HM : Hid ((X.chP n D i).length = m) := hm
      have HPW : Hid (Pgr h0 (mor F w wr) wr S g D pb jb n X) := hPw
      clear hus ho hm hbw' hPw
      have hBw : B ≤ wr.heap.size := by rw [← hB]; exact hbw.size
      clear hbw
      cases hb : X.now.h.has i
      · rw [hb] at HUS HLN
        have HE : Hid (X.chP n D (i + 1) = X.chP n D i) := by show _ = _; rw [HLN]; simp
        clear hb HLN
        go_wp2_with (go_at_call 33; refine HPG.mono ?_; rintro e V9 ⟨rfl, hV9⟩; subst V9)
        refine HUS.mono ?_
        rintro e V ⟨rfl, hV⟩
        have HN : Hid (V.ownsRow B 3 1 (.slice a (m + 1) c) (m + 1) (intsV (0 :: X.chP n D i)) ∧ Below B w V) := ⟨own_keep HO.out (fun k hk => hV.block k (HO.out.lt k hk).2), HB.out.trans (hV.mono hBw)⟩
        clear HUS hV HO HB HPG HPW
        go_wp2
        exact ⟨⟨i + 1, a, c, by omega, by omega, by go_num, by rw [HE.out, HM.out], by rw [HE.out, HM.out]; exact HN.out.1, HN.out.2⟩, by simp [intOf]; omega⟩
      · rw [hb] at HUS HLN
        cases hq : X.other n D i
        · rw [hq] at HLN
          have HE : Hid (X.chP n D (i + 1) = X.chP n D i) := by show _ = _; rw [HLN]; simp
          have HQ : Hid (X.other n D i = false) := hq
          clear hb HLN hq
          go_wp2_with (go_at_call 33; refine HPG.mono ?_; rintro e V9 ⟨rfl, hV9⟩; subst V9)
          refine HUS.mono ?_
          rintro e V ⟨rfl, hV⟩
          have HOT := pother_any (HPW.out.below hV) HH.out.2 i hlt
          rw [HQ.out] at HOT
          have HN1 : Hid (V.ownsRow B 3 1 (.slice a (m + 1) c) (m + 1) (intsV (0 :: X.chP n D i)) ∧ Below B w V ∧ B ≤ V.heap.size) := ⟨own_keep HO.out (fun k hk => hV.block k (HO.out.lt k hk).2), HB.out.trans (hV.mono hBw), Nat.le_trans hBw hV.size⟩
          clear HUS hV HO HB HPG HPW
          go_wp2_with fail
          refine HOT.mono ?_
          rintro e V2 ⟨rfl, hV2⟩
          have HN : Hid (V2.ownsRow B 3 1 (.slice a (m + 1) c) (m + 1) (intsV (0 :: X.chP n D i)) ∧ Below B w V2) := ⟨own_keep HN1.out.1 (fun k hk => hV2.block k (HN1.out.1.lt k hk).2), HN1.out.2.1.trans (hV2.mono HN1.out.2.2)⟩
          clear HOT hV2 HN1
          go_wp2
          exact ⟨⟨i + 1, a, c, by omega, by omega, by go_num, by rw [HE.out, HM.out], by rw [HE.out, HM.out]; exact HN.out.1, HN.out.2⟩, by simp [intOf]; omega⟩
        · rw [hq] at HLN
          have HE : Hid (X.chP n D (i + 1) = X.chP n D i ++ [i]) := by show _ = _; rw [HLN]; simp
          have HQ : Hid (X.other n D i = true) := hq
          clear hb HLN hq
          go_wp2_with (go_at_call 33; refine HPG.mono ?_; rintro e V9 ⟨rfl, hV9⟩; subst V9)
          refine HUS.mono ?_
          rintro e V ⟨rfl, hV⟩
          have HOT := pother_any (HPW.out.below hV) HH.out.2 i hlt
          rw [HQ.out] at HOT
          have HN1 : Hid (V.ownsRow B 3 1 (.slice a (m + 1) c) (m + 1) (intsV (0 :: X.chP n D i)) ∧ Below B w V ∧ B ≤ V.heap.size) := ⟨own_keep HO.out (fun k hk => hV.block k (HO.out.lt k hk).2), HB.out.trans (hV.mono hBw), Nat.le_trans hBw hV.size⟩
          clear HUS hV HO HB HPG HPW
          go_wp2_with fail
          refine HOT.mono ?_
          rintro e V2 ⟨rfl, hV2⟩
          have hN2 : V2.ownsRow B 3 1 (.slice a (m + 1) c) (m + 1) (intsV (0 :: X.chP n D i)) := own_keep HN1.out.1 (fun k hk => hV2.block k (HN1.out.1.lt k hk).2)
          have hB2 : Below B w V2 := HN1.out.2.1.trans (hV2.mono HN1.out.2.2)
          have hs2 : B ≤ V2.heap.size := Nat.le_trans HN1.out.2.2 hV2.size
          obtain ⟨V3, hV3⟩ : ∃ V3, V2.alloc (.cells #[.int .i64 (i : Int)] 3) = V3 := ⟨_, rfl⟩
          have hr3 : V3.heap[V2.heap.size]? = some (.cells #[.int .i64 (i : Int)] 3 (0, 0)) := by rw [← hV3]; exact heap_alloc_new V2 _
          have hB3 : Below B w V3 := by rw [← hV3]; exact hB2.alloc hs2 _
          have hs3 : B ≤ V3.heap.size := by rw [← hV3]; simp; omega
          have hN3 : V3.ownsRow B 3 1 (.slice a (m + 1) c) (m + 1) (intsV (0 :: X.chP n D i)) := by rw [← hV3]; exact hN2.alloc _
          obtain ⟨aA, cA, V4, hrA, hoA, hgA⟩ := addN_own V3 hN3 hr3 (by omega) hs3
          have HN : Hid (V4.ownsRow B 3 1 (.slice aA (m + 1 + 1) cA) (m + 1 + 1) (intsV (0 :: (X.chP n D i ++ [i]))) ∧ Below B w V4) := ⟨hoA, hB3.grown hgA hs3 (fun k hk => (hN3.lt k (by rw [ob_slice]; exact hk)).1)⟩
          clear HOT hV2 HN1 hN2 hB2 hr3 hB3 hN3 hoA hgA
          go_wp2_with ((at_builtin; refine wpList_app V3 rfl _ _ _ _ rfl rfl rfl (hrA _) ?_))
          exact ⟨⟨i + 1, aA, cA, by omega, by omega, by go_num, by rw [HE.out, List.length_append, HM.out]; rfl, by rw [HE.out, List.length_append, HM.out]; exact HN.out.1, HN.out.2⟩, by simp [intOf]; omega⟩
    · obtain rfl : i = n := by omega
      have kk : ¬ (i : Int) < (i : Int) := by omega
      have HOH := potherHead_any hPw
      obtain ⟨m, hm⟩ : ∃ m, (X.chP i D i).length = m := ⟨_, rfl⟩
      have HM : Hid ((X.chP i D i).length = m ∧ wr.ownsRow B 3 1 (.slice a (m + 1) c) (m + 1) (intsV (0 :: X.chP i D i)) ∧ Below B w wr ∧ B ≤ wr.heap.size) := ⟨hm, by rw [← hm]; exact ho, hbw, by rw [← hB]; exact hbw.size⟩
      rw [hm] at hcl ⊢
      clear hm ho hbw hbw' hPw HLN HH
      by_cases hm0 : m = 0
      · subst hm0
        have hnil : X.chP i D i = [] := List.eq_nil_of_length_eq_zero HM.out.1
        cases hs : sameHd X.now.h X.good
        · rw [hs] at HOH
          have HE : Hid (X.chg i D = 0 :: X.chP i D i) := by
            show _ = _
            unfold Px.chg
            rw [if_neg (fun e => by rw [hs] at e; exact absurd e.2 (by decide))]
          clear hs hnil
          go_wp2_with (first | (go_at_call 33; refine HPG.mono ?_; rintro e V9 ⟨rfl, hV9⟩; subst V9) | (go_at_call 66; refine HOH.mono ?_; rintro e V8 ⟨rfl, hV8⟩))
          go_ret
          have hx : (X.chg i D).length = 0 + 1 := by rw [HE.out, List.length_cons, HM.out.1]
          refine ⟨a, c, by rw [hx]; rfl, ?_, ?_⟩
          · rw [hx, HE.out, hB]
            exact own_keep HM.out.2.1 (fun k hk => hV8.block k (HM.out.2.1.lt k hk).2)
          · rw [hB]
            exact HM.out.2.2.1.trans (hV8.mono HM.out.2.2.2)
        · rw [hs] at HOH
          have HE : Hid (X.chg i D = []) := by
            show _ = _
            unfold Px.chg
            rw [if_pos ⟨hnil, hs⟩]
          clear hs hnil
          go_wp2_with (first | (go_at_call 33; refine HPG.mono ?_; rintro e V9 ⟨rfl, hV9⟩; subst V9) | (go_at_call 66; refine HOH.mono ?_; rintro e V8 ⟨rfl, hV8⟩))
          go_ret
          have hx : (X.chg i D).length = 0 := by rw [HE.out]; rfl
          refine ⟨none, 0, by rw [hx]; rfl, ?_, ?_⟩
          · rw [hx, HE.out]
            exact World.ownsRow_nil _ _ _ _
          · rw [hB]
            exact HM.out.2.2.1.trans (hV8.mono HM.out.2.2.2)
      · have km : ¬ ((m : Int) + 1 = 1) := by omega
        have kmb : ((m : Int) + 1 == 1) = false := by simpa using km
        have HE : Hid (X.chg i D = 0 :: X.chP i D i) := by
          show _ = _
          unfold Px.chg
          rw [if_neg (fun e => by have := HM.out.1; rw [e.1] at this; exact hm0 this.symm)]
        clear HOH
        go_wp2_with (go_at_call 33; refine HPG.mono ?_; rintro e V9 ⟨rfl, hV9⟩; subst V9)
        go_ret
        have hx : (X.chg i D).length = m + 1 := by rw [HE.out, List.length_cons, HM.out.1]
        refine ⟨a, c, by rw [hx]; rfl, ?_, ?_⟩
        · rw [hx, HE.out, hB]
          exact HM.out.2.1
        · rw [hB]
          exact HM.out.2.2.1
end
end Go.Proofs.YtdgffocmdkadpaaGreat
namespace Go.Proofs.YtdgffocmdkadpaaGreat
open Go.RowKit Go.Shelf Pg
theorem zero_state (W : World) : (zeroValue 105).run Tryz.prog W = .ok (.agg st0) W := by kernel_rfl
theorem store_st (W : World) (g : Nat) (h : Hd) (m : Nat) (cur : Array Value) (t : TypeId) (hg : W.heap[g]? = some (.cells cur t (0, 0))) (ho : cur.size = 22) : (storeCells ⟨g, 0, none⟩ (stA h m).toList).run Tryz.prog W = .ok () (W.setRow g (stA h m)) := by
  have e : (stA h m).toList = hdL h ++ [Value.map (some m)] := rfl
  have hl : (hdL h ++ [Value.map (some m)]).length = 22 := by simp [hdL_len]
  rw [e, run_storeCells_at Tryz.prog g 0 t (hdL h ++ [Value.map (some m)]) 0 cur W hg (by rw [hl, ho]; omega) (stA_one h m), hl]
  simp only [Nat.add_zero, List.take_zero, List.nil_append]
  rw [List.drop_eq_nil_of_le (by rw [Array.length_toList, ho]; omega), List.append_nil]
  rfl
theorem info_st (h : Hd) (m : Nat) : (Tryz.prog.info? 105).map (·.size) = some (stA h m).size := by rw [stA_size]; kernel_rfl
theorem wpList_state {ops : Array Oper} {rest : List Oper} {o : Oper} {a : Act} {w : World} {Q : Exit → Act → World → Prop} (hgd : o.guard = none) (x y : Operand) (ho : o.op = .build 105 #[(0, x), (1, y)]) (h : Hd) (m : Nat) (hx : a.eval x = .agg (hdA h)) (hy : a.eval y = .map (some m)) (hK : wpList Tryz.prog ops Q rest (a.put o.dst (.agg (stA h m))) w) : wpList Tryz.prog ops Q (o :: rest) a w :=
  wpList_plain hgd fun K hk => by
    unfold Oper.wp
    rw [yields_state x y ho h m hx hy]
    exact hk _ _ hK
set_option maxRecDepth 100000 in
set_option maxHeartbeats 2000000 in
theorem unchanged_any (h : Hd) (w : World) : Calls Tryz.prog 52 #[.agg (hdA h)] w fun e w' => ∃ mb, e = .returned (.agg (stA h mb)) ∧ MapIs w' mb Pm.none ∧ w.heap.size ≤ mb ∧ Below w.heap.size w w' := by
  obtain ⟨B, hB⟩ : ∃ B, w.heap.size = B := ⟨_, rfl⟩
  obtain ⟨W1, hW1⟩ : ∃ W1, w.alloc (.cells (hdA h) 100) = W1 := ⟨_, rfl⟩
  have hs1 : W1.heap.size = B + 1 := by rw [← hW1, ← hB]; simp
  have hr1 : W1.heap[B]? = some (.cells (hdA h) 100 (0, 0)) := by rw [← hW1, ← hB]; exact heap_alloc_new w _
  have hzs := zero_state
  obtain ⟨W2, hW2⟩ : ∃ W2, W1.alloc (.cells st0 105) = W2 := ⟨_, rfl⟩
  have hs2 : W2.heap.size = B + 2 := by rw [← hW2]; simp [hs1]
  have hr2 : W2.heap[B + 1]? = some (.cells st0 105 (0, 0)) := by rw [← hW2, ← hs1]; exact heap_alloc_new W1 _
  have hr2b : W2.heap[B]? = some (.cells (hdA h) 100 (0, 0)) := by rw [← hW2, Below.heap_alloc _ _ _ (by omega)]; exact hr1
  have hl2 := load_head W2 B h _ _ hr2b
  have hmm := @run_makeMap Tryz.prog
  obtain ⟨W3, hW3⟩ : ∃ W3, W2.alloc (.map #[] 0) = W3 := ⟨_, rfl⟩
  have hm3 : MapIs W3 (B + 2) Pm.none := by rw [← hW3, ← hs2]; exact MapIs.new W2
  have hr3 : W3.heap[B + 1]? = some (.cells st0 105 (0, 0)) := by rw [← hW3, Below.heap_alloc _ _ _ (by omega)]; exact hr2
  have hb3 : Below B w W3 := by
    rw [← hW3, ← hW2, ← hW1, ← hB]
    exact (((Below.refl _ w).alloc (Nat.le_refl _) _).alloc (by simp) _).alloc (by simp; omega) _
  have hst := store_st W3 (B + 1) h (B + 2) _ _ hr3 rfl
  have hsz := stA_size h (B + 2)
  have HE : Hid ((W3.setRow (B + 1) (stA h (B + 2))).heap[B + 1]? = some (.cells (stA h (B + 2)) 105 (0, 0)) ∧ MapIs (W3.setRow (B + 1) (stA h (B + 2))) (B + 2) Pm.none ∧ Below B w (W3.setRow (B + 1) (stA h (B + 2)))) := ⟨setRow_heap W3 _ _ _ _ _ hr3, hm3.keep (setRow_other _ _ _ _ (by omega)), setRow_below hb3 (by omega) _⟩
  clear hr1 hr2 hr2b hm3 hr3 hb3
  go_enter Tryz.func52, Tryz.ntmps52
  go_wp2_with (first | (refine wpList_load_w (by kernel_rfl) _ _ rfl rfl hl2 ?_) | (refine wpList_state rfl _ _ rfl h (B + 2) rfl rfl ?_))
  exact bodyPost_ret (v := .agg (stA h (B + 2))) (results_cell_row rfl _ _ (B + 1) _ _ _ _ rfl HE.out.1 Tryz.underlying105 rfl (info_st _ _)) rfl ⟨B + 2, rfl, HE.out.2.1, by omega, by rw [hB]; exact HE.out.2.2⟩
section
variable {h0 : Nat} {F : Nat → Prop} {w w' : World} {S : Nat → Prop} {g : Nat} {D : Dk} {pb jb n kb kc mb : Nat} {sa : Option Addr} {sc : Nat} {ss : List (Sn × Nat)} {X : Px}
def Px.rst (X : Px) : Px := { X with now := ⟨X.good, Pm.none⟩, saves := [] }
theorem rst_ok (hok : X.Ok n) : X.rst.Ok n := ⟨hok.good, hok.kept, ⟨hok.good, fun i d hd => by cases hd⟩, fun s hs => (by cases hs), Nat.zero_le _⟩
theorem Pl.less (h : Pl h0 F w S g D pb jb n kb kc mb sa sc ss X) {F' : Nat → Prop} (hF : ∀ x, F' x → F x) : Pl h0 F' w S g D pb jb n kb kc mb sa sc ss X := { h with fF := fun x hx => h.fF x (hF x hx) }
theorem Pl.turnR (h : Pl h0 F w S g D pb jb n kb kc mb sa sc ss X) {mb' : Nat} (hm : MapIs w' mb' Pm.none) (hc : w'.heap[pb]? = some (.cells (pgA jb X.good (.slice (some ⟨kb, 0, none⟩) n kc) (noT n) X.good mb' (.slice none 0 0)) 109 (0, 0))) (hu : Upd (fun x => x = pb) w w') (hs : w'.heap.size = w.heap.size) (hn1 : ¬ S mb') (hn2 : mb' ≠ jb) (hn3 : h0 ≤ mb') (hn4 : ∀ x, F x → x ≠ mb') : Pl h0 F w' S g D pb jb n kb kc mb' none 0 [] X.rst ∧ Fr F w F w' ∧ Below h0 w w' := by
  obtain ⟨f1, f2, ho, f3, f4, f5⟩ := h.frame (.inl rfl) hu hs
  have ap := h.apart
  have hl := h.lt
  have hsub : ∀ x, Own pb kb mb' none [] x → Own pb kb mb sa ss x ∨ x = mb' := by
    rintro x (e | e | e | e | e)
    · exact .inl (.inl e)
    · exact .inl (.inr (.inl e))
    · exact .inr e
    · cases e
    · cases e
  refine ⟨{ disk := f1, jat := f2, c := hc, k := own_keep h.k (fun x hx => by cases hx; exact ho kb ap.pk.symm (hl _ (.inr (.inl rfl)))), m := hm, s := World.ownsRow_nil _ _ _ _, sx := rfl, sm := fun p hp => (by cases hp), nd := by simp, ap := fun x hx => ?_, fF := fun x hx => ?_, sj := h.sj, h0S := h.h0S, h0w := by rw [hs]; exact h.h0w, n2 := h.n2, n12 := h.n12 }, f3, f4⟩
  · rcases hsub x hx with e | e
    · exact h.ap x e
    · rw [e]; exact ⟨hn1, hn2, hn3⟩
  · have := f5 x hx
    refine ⟨this.1, fun ho' => ?_, this.2.2⟩
    rcases hsub x ho' with e | e
    · exact this.2.1 e
    · exact hn4 x hx e
/-- The disk below is another one. -/
theorem Pl.turnD (h : Pl h0 F w S g D pb jb n kb kc mb sa sc ss X) {S' : Nat → Prop} {D' : Dk} (hd : DiskIs w' S' g D') (hu : Upd S w w') (hs : ∀ x, S' x → S x ∨ w.heap.size ≤ x) : Pl h0 F w' S' g D' pb jb n kb kc mb sa sc ss X ∧ Fr F w F w' ∧ Below h0 w w' := by
  have hl := h.lt
  have hns : ∀ x, x < w.heap.size → ¬ S x → ¬ S' x := fun x hx hn hs' => (hs x hs').elim hn (fun e => by omega)
  refine ⟨h.keep hd (h.jat.upd hu h.sj) (fun x hx => hu.block x (hl x hx) (h.ap x hx).1) (fun x hx => ?_) (hns jb h.jat.lt h.sj) (fun x hx => hns x (hl x hx) (h.ap x hx).1) (fun x hx => ?_) hu.size, ⟨hu.size, fun _ hx => hx, fun x hx hlx => hu.block x hlx (h.fF x hx).1⟩, hu.below h.h0w h.h0S⟩
  · rcases hs x hx with e | e
    · exact h.h0S x e
    · have := h.h0w; omega
  · have := h.fF x hx
    exact ⟨hns x this.2.2.2 this.1, this.2.1, this.2.2.1, Nat.lt_of_lt_of_le this.2.2.2 hu.size⟩
end
theorem com_none (n : Nat) (D : Dk) (hu : D.up = true) : comCode n D [] = 0 ∧ comDisk n D [] = D := by
  have hck : chk n [] = 0 := by simp [chk]
  have hst : comSteps n [] = [] := rfl
  unfold comCode comDisk
  rw [if_pos hck, if_pos hu, if_pos ⟨hck, hu⟩, hst]
  exact ⟨rfl, rfl⟩
section
variable {h0 : Nat} {F : Nat → Prop} {w : World} {S : Nat → Prop} {g : Nat} {D : Dk} {pb jb n : Nat} {X : Px}
set_option maxRecDepth 100000 in
set_option maxHeartbeats 2000000 in
theorem preset_any (h : Pgr h0 F w S g D pb jb n X) : Calls Tryz.prog 64 #[.pointer (some ⟨pb, 0, none⟩)] w fun e w' => e = .returned (.tuple #[]) ∧ PTo h0 F w g D pb jb n X.rst w' := by
  obtain ⟨hok, kb, kc, mb, sa, sc, ss, hP⟩ := h
  have hlg := hP.lgood
  have HUN := unchanged_any X.good w
  have HP : Hid (Pl h0 F w S g D pb jb n kb kc mb sa sc ss X ∧ X.rst.Ok n) := ⟨hP, rst_ok hok⟩
  clear hP hok
  go_enter Tryz.func64, Tryz.ntmps64
  go_wp2_with (refine wpList_load_w (by kernel_rfl) _ _ rfl rfl hlg ?_)
  refine HUN.mono ?_
  rintro e V ⟨mb', rfl, hm, hmb, hV⟩
  have hP := HP.out.1
  have hPV := (hP.below hV).less (F' := F) (fun _ hx => .inl hx)
  have hst := hPV.store_now X.good mb'
  obtain ⟨V1, hV1⟩ : ∃ V1, V.setRow pb (pgA jb X.good (.slice (some ⟨kb, 0, none⟩) n kc) (noT n) X.good mb' (.slice sa ss.length sc)) = V1 := ⟨_, rfl⟩
  rw [hV1] at hst
  have hc1 : V1.heap[pb]? = some (.cells (pgA jb X.good (.slice (some ⟨kb, 0, none⟩) n kc) (noT n) X.good mb' (.slice sa ss.length sc)) 109 (0, 0)) := by rw [← hV1]; exact setRow_heap V pb _ _ _ _ hPV.c
  have d61 : V1.cell? ⟨pb, 61, none⟩ = some (.slice sa ss.length sc) := by rw [cell_of_row V1 pb _ _ _ _ hc1]; exact pgA_61
  have f61 := frozen_of_row V1 pb 61 _ _ hc1
  have hsz := stA_size X.good mb'
  have HE : Hid (PTo h0 F w g D pb jb n X.rst (V1.setCell ⟨pb, 61, none⟩ (.slice none 0 0))) := by
    have hc2 := heap_setCell_same V1 pb 61 _ _ (.slice none 0 0) hc1
    rw [pgA_sv] at hc2
    have hu1 : Upd (fun x => x = pb) V (V1.setCell ⟨pb, 61, none⟩ (.slice none 0 0)) := by
      have h1 : Upd (fun x => x = pb) V V1 := by
        rw [← hV1]
        exact ⟨rfl, rfl, rfl, by rw [size_setRow]; exact Nat.le_refl _, fun x _ hx => setRow_other V pb x _ hx⟩
      exact Upd.setCell (p := ⟨pb, 61, none⟩) h1 (fun _ => rfl) _
    have hmp : mb' ≠ pb := fun e => by have := hP.lt pb (.inl rfl); omega
    have hT := hPV.turnR (mb' := mb') (hm.keep (hu1.block mb' hm.lt hmp)) hc2 hu1 (by rw [World.size_setCell, ← hV1, size_setRow]) (fun hs => by have := hP.disk.bd _ hs; omega) (fun e => by have := hP.jat.lt; omega) (Nat.le_trans hP.h0w hmb) (fun x hx e => by have := (hP.fF x hx).2.2.2; omega)
    exact ⟨F, S, ⟨HP.out.2, kb, kc, mb', none, 0, [], hT.1⟩, (Fr.trans ⟨hV.size, fun _ hx => hx, fun x _ hl => hV.block x hl⟩ hT.2.1), (hV.mono hP.h0w).trans hT.2.2⟩
  clear HUN hm hmb hV hP hPV hc1 hV1 HP
  go_wp2
  refine bodyPost_end (v := .tuple #[]) ?_ rfl ⟨rfl, HE.out⟩
  simp [results, go_sem]
set_option maxRecDepth 100000 in
set_option maxHeartbeats 2000000 in
theorem poff_any (h : Pgr h0 F w S g D pb jb n X) (hkn : 8 * n + 1 ≤ D.kept.length) (hu : D.up = true) (hwr : D.writes + 200 < 1000000) : Calls Tryz.prog 61 #[.pointer (some ⟨pb, 0, none⟩)] w fun e w' => e = .returned (.int .i64 0) ∧ PTo h0 F w g D pb jb n X w' := by
  obtain ⟨hok, kb, kc, mb, sa, sc, ss, hP⟩ := h
  obtain ⟨c0, _⟩ := hP.cells
  have hn12 := hP.n12
  have HCM := commit_any hP.disk hP.jat hP.sj (by omega) hkn none 0 0 [] ⟨rfl, Nat.le_refl _, by omega, fun h0 => absurd h0 (by omega)⟩ (fun x hx => by cases hx) (by omega) hwr
  rw [(com_none n D hu).1, (com_none n D hu).2] at HCM
  have HP : Hid (Pl h0 F w S g D pb jb n kb kc mb sa sc ss X ∧ X.Ok n) := ⟨hP, hok⟩
  have HCM : Calls Tryz.prog 10 #[.pointer (some ⟨jb, 0, none⟩), .slice none 0 0] w fun e w' => e = .returned (.int .i64 0) ∧ Mut S w g D w' := HCM
  clear hP hok hkn hu hwr
  go_enter Tryz.func61, Tryz.ntmps61
  go_wp2_with fail
  refine HCM.mono ?_
  rintro e V ⟨rfl, S2, hd2, hu2, hs2⟩
  have hT := HP.out.1.turnD hd2 hu2 hs2
  have HE : Hid (PTo h0 F w g D pb jb n X V) := ⟨F, S2, ⟨HP.out.2, kb, kc, mb, sa, sc, ss, hT.1⟩, hT.2.1, hT.2.2⟩
  clear HCM hd2 hu2 hs2 hT HP
  go_wp2
  go_ret
  exact ⟨rfl, HE.out⟩
set_option maxRecDepth 100000 in
set_option maxHeartbeats 2000000 in
theorem pabort_any (h : Pgr h0 F w S g D pb jb n X) (hkn : 8 * n + 1 ≤ D.kept.length) (hu : D.up = true) (hwr : D.writes + 200 < 1000000) : Calls Tryz.prog 32 #[.pointer (some ⟨pb, 0, none⟩)] w fun e w' => e = .returned (.tuple #[]) ∧ PTo h0 F w g D pb jb n X.rst w' := by
  have HOF := poff_any h hkn hu hwr
  clear h hkn hu hwr
  go_enter Tryz.func32, Tryz.ntmps32
  go_wp2_with fail
  refine HOF.mono ?_
  rintro e V ⟨rfl, F1, S1, hP1, hf1, hb1⟩
  have HRS := preset_any hP1
  have HF : Hid (Fr F w F1 V ∧ Below h0 w V) := ⟨hf1, hb1⟩
  clear HOF hP1 hf1 hb1
  go_wp2_with fail
  refine HRS.mono ?_
  rintro e V2 ⟨rfl, hT⟩
  have HE : Hid (PTo h0 F w g D pb jb n X.rst V2) := PTo.trans HF.out.1 HF.out.2 hT
  clear HRS hT HF
  go_wp2
  refine bodyPost_end (v := .tuple #[]) ?_ rfl ⟨rfl, HE.out⟩
  simp [results, go_sem]
end
end Go.Proofs.YtdgffocmdkadpaaGreat
