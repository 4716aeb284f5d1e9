/- Walks over slices.Clone and New. -/
import Derived.Test.YtbhnmjjfammlkaaDoorGG
import Derived.Lib.SliceRun
namespace Go.Proofs.YtbhnmjjfammlkaaDoor
open Go.RowKit Go.Maps
set_option maxRecDepth 100000 in
set_option maxHeartbeats 1000000 in
theorem clone_any {G : Nat → Prop} {w : World} {a : Option Addr} {n c : Nat} {l : List Sg} (h : Gw G w a n c l) (hn : n ≤ 100000) :
    Calls Tryd.prog 51 #[.slice a n c] w fun e w' => ∃ a' c', e = .returned (.slice a' n c') ∧ w'.ownsRow w.heap.size 65 2 (.slice a' n c') n (sgR l) ∧ Below w.heap.size w w' := by
  have hl := h.len
  have q22 : ∀ (w : World) (a : Option Addr) (n c n' c' : Nat), (binOp .eql 22 (.slice a n c) (.slice none n' c')).run Tryd.prog w = .ok (.bool a.isNone) w := fun w a n c n' c' => Lib.run_eql_slice_nil w _ _ a n c n' c' Tryd.underlying22
  cases a with
  | none =>
    have h0 : n = 0 := by
      rcases Nat.eq_zero_or_pos n with h0 | h0
      · exact h0
      · obtain ⟨b, o, e, _⟩ := h.at h0
        cases e
    subst h0
    have hl0 : l = [] := List.eq_nil_of_length_eq_zero hl
    subst hl0
    clear h
    go_enter Tryd.func51, Tryd.ntmps51
    go_wp2
    go_ret
    exact ⟨none, 0, rfl, World.ownsRow_nil _ _ _ _, Below.refl _ _⟩
  | some ad =>
    obtain ⟨V1, hV1⟩ : ∃ V1, w.alloc (.cells #[] 65) = V1 := ⟨_, rfl⟩
    have ho : V1.ownsRow w.heap.size 65 2 (.slice (some ⟨w.heap.size, 0, none⟩) 0 0) 0 (sgR []) := by
      rw [← hV1]
      exact World.ownsRow_made w #[] 0 (Nat.le_refl _) (Nat.zero_le _) rfl
    have hb1 : Below w.heap.size w V1 := by rw [← hV1]; exact (Below.refl _ w).alloc (Nat.le_refl _) _
    obtain ⟨aA, cA, VA, hrA, hoA, hgA, _⟩ := addG_own V1 ho (h.below hb1) (by omega) hb1.size
    rw [Nat.zero_add] at hoA
    simp only [Nat.zero_add] at hrA
    have HE : Hid (VA.ownsRow w.heap.size 65 2 (.slice aA n cA) n (sgR l) ∧ Below w.heap.size w VA) := by
      refine ⟨by simpa using hoA, hb1.grown hgA hb1.size (fun z hz => ?_)⟩
      have := (ho.lt z (by rw [ob_slice]; exact hz)).1
      exact this
    clear h ho hb1 hoA hgA
    go_enter Tryd.func51, Tryd.ntmps51
    go_wp2_with ((at_builtin; refine wpList_app V1 rfl _ _ _ _ rfl rfl rfl (hrA _) ?_))
    go_ret
    exact ⟨aA, cA, rfl, HE.out.1, HE.out.2⟩
theorem nodup_key {α β : Type} {f : α → β} : ∀ {l : List α}, (l.map f).Nodup → ∀ {a b : α}, a ∈ l → b ∈ l → f a = f b → a = b
  | [], _, a, b, ha, _, _ => by cases ha
  | x :: l, h, a, b, ha, hb, e => by
    rw [List.map_cons, List.nodup_cons] at h
    rcases List.mem_cons.1 ha with ha1 | ha1
    · rcases List.mem_cons.1 hb with hb1 | hb1
      · rw [ha1, hb1]
      · exact absurd (List.mem_map.2 ⟨b, hb1, by rw [← e, ha1]⟩) h.1
    · rcases List.mem_cons.1 hb with hb1 | hb1
      · exact absurd (List.mem_map.2 ⟨a, ha1, by rw [e, hb1]⟩) h.1
      · exact nodup_key h.2 ha1 hb1 e
/-- A look into the same map, in another world. -/
theorem look_same {w W : World} {base mb n : Nat} {D : DataW Unit} (h : Grp w base mb n D) (e : W.heap[mb]? = w.heap[mb]?) {key : Nat} (hk : key < 4294967296) {v : Value} (hr : (Instr.lookup 95 (.map (some mb)) (.int .u32 (key : Int)) false).run Tryd.prog w = .ok v w) : (Instr.lookup 95 (.map (some mb)) (.int .u32 (key : Int)) false).run Tryd.prog W = .ok v W := by
  obtain ⟨es, clock, hb, F, _⟩ := h
  have hkey := keyOf_int_mk (P := Tryd.prog) Tryd.underlying63 (wfW hk)
  rcases fit_look false keyedW Tryd.underlying95 (zeroInts w) hb F hkey with ⟨h1, h2, _⟩ | ⟨e0, y, h1, h2, h3, _⟩
  · rcases fit_look false keyedW Tryd.underlying95 (zeroInts W) (e.trans hb) F hkey with ⟨g1, _, _⟩ | ⟨d0, z, g1, g2, g3, _⟩
    · rw [hr] at h1
      have h1 := (Result.ok.inj h1).1
      rw [g1, h1]
    · exact absurd g2 (h2 d0 g1)
  · rcases fit_look false keyedW Tryd.underlying95 (zeroInts W) (e.trans hb) F hkey with ⟨_, g2, _⟩ | ⟨d0, z, g1, g2, g3, _⟩
    · exact absurd h2 (g2 e0 h1)
    · have hed : e0 = d0 := nodup_key F.stamped.2.2 h1 g1 (h2.trans g2.symm)
      rw [hr] at h3
      have h3 := (Result.ok.inj h3).1
      rw [g3, h3, hed]
theorem infoZ : (Tryd.prog.info? 3).map (fun i => (i.zero, i.size, i.bytes)) = some (some (.int .i64 0), 1, 8) := by kernel_rfl
theorem addZ_own (w : World) {base b n c : Nat} {a : Option Addr} {zs : List Int} {x : Nat} (h : w.ownsInts base 3 .i64 (.slice a n c) zs) (hz : zs.length = n) (hr : w.heap[b]? = some (.cells #[.int .i64 (x : Int)] 3 (0, 0))) (hx : x < 1000000) (hn : n + 1 ≤ 1000000) (hb : base ≤ w.heap.size) :
    ∃ a' c' w', (∀ ty, (Builtin.append_ #[98, 98] ty #[.slice a n c, .slice (some ⟨b, 0, none⟩) 1 1]).run Tryd.prog w = .ok (.slice a' (n + 1) c') w') ∧ w'.ownsInts base 3 .i64 (.slice a' (n + 1) c') (zs ++ [(x : Int)]) ∧ w.grownBy w' (ob a) ∧ (ob a' = ob a ∨ ob a' = some w.heap.size) := by
  obtain ⟨i, hi, hz0, hs, hbb⟩ := info_of infoZ
  have h1 := h.1
  rw [hz] at h1
  have h2 : Rw (fun _ => True) w 3 1 (some ⟨b, 0, none⟩) 1 1 [.int .i64 (x : Int)] := by
    refine ⟨rfl, Nat.le_refl _, by unfold maxLen; omega, fun _ => ⟨b, 0, rfl, lt_of_some hr, trivial, fun j u hu => ?_⟩⟩
    rw [Nat.zero_add, cell_of_row _ b _ _ _ _ hr]
    simpa using hu
  obtain ⟨a', c', w', k1, k2, k3, k4⟩ := app_own w 98 3 i _ 1 8 Tryd.underlying98 hi hz0 hs hbb rfl (by omega) h1 h2 (fun u hu => by simp at hu; subst hu; rfl) hn (by omega) hb
  refine ⟨a', c', w', k1, h.appended (by rw [hz]; exact k2) (wfI (by omega)), k3, k4⟩
/-- What stays when a place is put. -/
theorem keepB {U UA w2 : World} {base q vc mb k : Nat} {va : Option Addr} {zs : List Int} {cs : Array Value} {t : TypeId} {fr : Nat × Nat} (ho : U.ownsInts base 3 .i64 (.slice va q vc) zs) (hg : U.grownBy UA (ob va)) (hg2 : UA.grownBy w2 (some mb)) (hm : ∃ es cl, U.heap[mb]? = some (.map es cl)) (hk : U.heap[k]? = some (.cells cs t fr)) (ht : t ≠ 3) : w2.heap[k]? = some (.cells cs t fr) := by
  have h1 : UA.heap[k]? = some (.cells cs t fr) := by
    rw [hg.block k (lt_of_some hk) (fun e => ?_)]
    · exact hk
    · rcases ho.1.2 with ⟨e1, _⟩ | ⟨g, cap, cur, e1, _, hr, _⟩
      · cases e1
        cases e
      · cases e1
        have e2 : k = g := Option.some.inj e
        subst e2
        rw [hk] at hr
        simp only [Option.some.injEq, Obj.cells.injEq] at hr
        exact ht hr.2.1
  rw [hg2.block k (lt_of_some h1) (fun e => ?_)]
  · exact h1
  · have e2 : k = mb := Option.some.inj e
    subst e2
    obtain ⟨es, cl, hm⟩ := hm
    rw [hk] at hm
    cases hm
/-- What New leaves. -/
def NwTo (w : World) (L : List Sg) (e : Ending) (w' : World) : Prop := ∃ g, e = .returned (.pointer (some ⟨g, 0, none⟩)) ∧ Inx w' w.heap.size g L ∧ Below w.heap.size w w' ∧ w.heap.size ≤ g
set_option maxRecDepth 100000 in
set_option maxHeartbeats 4000000 in
theorem new_index {G : Nat → Prop} {w : World} {a : Option Addr} {n c : Nat} {l : List Sg} (h : Gw G w a n c l) (hw : ∀ s ∈ l, s.1 < 4294967296) :
    Calls Tryd.prog 29 #[.slice a n c] w fun e w' => NwTo w (l.take 1024) e w' := by
  obtain ⟨m, hm⟩ : ∃ m, min n 1024 = m := ⟨_, rfl⟩
  have hll := h.len
  have hnm := h.max
  have hcm : n ≤ c := h.2.1
  have km : min (n : Int) 1024 = (m : Int) := by omega
  have hpr := fun V => pre_sgs a n c m (by omega) V
  have HC := clone_any (h.pre m (by omega)) (by omega)
  obtain ⟨L, hL⟩ : ∃ L, l.take 1024 = L := ⟨_, rfl⟩
  have hLm : l.take m = L := by
    rw [← hL]
    by_cases hx : n ≤ 1024
    · rw [show m = n by omega, List.take_of_length_le (by omega), List.take_of_length_le (by omega)]
    · rw [show m = 1024 by omega]
  rw [hLm] at HC
  rw [hL]
  have hLl : L.length = m := by rw [← hLm, List.length_take]; omega
  have HW : Hid (∀ s ∈ L, s.1 < 4294967296) := fun s hs => hw s (by rw [← hL] at hs; exact List.mem_of_mem_take hs)
  have hm24 : m ≤ 1024 := by omega
  obtain ⟨ca, hca⟩ : ∃ ca, cutA a c 0 2 = ca := ⟨_, rfl⟩
  rw [hca] at HC hpr
  have hmm := @run_makeMap Tryd.prog
  clear h hw hm hL hLm hca
  go_enter Tryd.func29, Tryd.ntmps29
  go_wp2_with fail
  refine HC.mono ?_
  rintro e V1 ⟨a', c', rfl, hown, hb1⟩
  obtain ⟨mb, hmb⟩ : ∃ mb, V1.heap.size = mb := ⟨_, rfl⟩
  obtain ⟨V2, hV2⟩ : ∃ V2, V1.alloc (.map #[] 0) = V2 := ⟨_, rfl⟩
  have hgb : V2.heap.size = mb + 1 := by rw [← hV2, ← hmb]; simp
  obtain ⟨V3, hV3⟩ : ∃ V3, V2.alloc (.cells #[.slice a' m c', .map (some mb)] 97) = V3 := ⟨_, rfl⟩
  have r3 : V3.heap[mb + 1]? = some (.cells #[.slice a' m c', .map (some mb)] 97 (0, 0)) := by rw [← hV3, ← hgb]; exact heap_alloc_new V2 _
  have hb12 : Below V1.heap.size V1 V2 := by rw [← hV2]; exact (Below.refl _ V1).alloc (Nat.le_refl _) _
  have hb23 : Below V2.heap.size V2 V3 := by rw [← hV3]; exact (Below.refl _ V2).alloc (Nat.le_refl _) _
  have hb13 : Below V1.heap.size V1 V3 := hb12.trans (hb23.mono hb12.size)
  have hgr : Grp V2 (mb + 1) mb 0 (.map []) := by rw [← hV2, ← hmb]; exact World.ownsGroups_made V1 _ _ _ _
  have x0 : V3.cell? ⟨mb + 1, 0, none⟩ = some (.slice a' m c') := by rw [cell_of_row _ _ _ _ _ _ r3]; rfl
  have H3 : Hid (Grp V3 (mb + 1) mb 0 (.map []) ∧ V3.heap[mb + 1]? = some (.cells #[.slice a' m c', .map (some mb)] 97 (0, 0)) ∧ V3.ownsRow w.heap.size 65 2 (.slice a' m c') m (sgR L) ∧ Below V1.heap.size V1 V3 ∧ Below w.heap.size w V1 ∧ V1.heap.size = mb) := ⟨hgr.below hb23, r3, own_keep hown (fun k hk => hb13.block k (hown.lt k hk).2), hb13, hb1, hmb⟩
  have hbx : ((V1.heap.size : Nat)) = mb := hmb
  clear HC hown hb1 r3 hb12 hb23 hb13 hgr
  go_wp2
  go_loopw [20] (fun vi wr => ∃ (i : Nat) (D : DataW Unit), i ≤ m ∧ vi = .int .i64 i ∧ Grp wr (mb + 1) mb i D ∧ PlD L i D ∧ wr.heap[mb + 1]? = some (.cells #[.slice a' m c', .map (some mb)] 97 (0, 0)) ∧ wr.ownsRow w.heap.size 65 2 (.slice a' m c') m (sgR L) ∧ Below V1.heap.size V1 wr) (fun vi _ => m - (intOf vi).toNat)
  case atStart => exact ⟨0, .map [], by omega, rfl, H3.out.1, PlD.nil L, H3.out.2.1, H3.out.2.2.1, H3.out.2.2.2.1⟩
  case round =>
    clear x0 hV3 hgb hV2 hmm
    obtain ⟨i, D, hi, rfl, hgr, hpl, hgx, hown, hbw⟩ := hrel
    by_cases hlt : i < m
    · have kk : (i : Int) < (m : Int) := by omega
      obtain ⟨sb, so, ha', hsb, hc⟩ := (show Gw (fun _ => True) wr a' m c' L from Rw.own hown (fun _ _ => trivial)).at (by omega)
      subst ha'
      obtain ⟨⟨s1, s2⟩, hs⟩ : ∃ s, L[i]? = some s := ⟨_, List.getElem?_eq_getElem (by omega)⟩
      obtain ⟨c0, c1⟩ := hc i (s1, s2) hs
      simp only at c0 c1
      have hs1 : s1 < 4294967296 := HW.out (s1, s2) (List.mem_of_getElem? hs)
      obtain ⟨xb, hxb⟩ : ∃ xb, wr.heap.size = xb := ⟨_, rfl⟩
      obtain ⟨W4, hW4⟩ : ∃ W4, wr.alloc (.cells #[.int .u32 (s1 : Int), .string s2] 65) = W4 := ⟨_, rfl⟩
      have r4 : W4.heap[xb]? = some (.cells #[.int .u32 (s1 : Int), .string s2] 65 (0, 0)) := by rw [← hW4, ← hxb]; exact heap_alloc_new wr _
      have hb4 : Below wr.heap.size wr W4 := by rw [← hW4]; exact (Below.refl _ wr).alloc (Nat.le_refl _) _
      obtain ⟨U2, hU2⟩ : ∃ U2, W4.drew.alloc (.cells #[.int .i64 (i : Int)] 3) = U2 := ⟨_, rfl⟩
      have ru : U2.heap[W4.heap.size]? = some (.cells #[.int .i64 (i : Int)] 3 (0, 0)) := by rw [← hU2]; exact heap_alloc_new W4.drew _
      have hbU : Below W4.heap.size W4 U2 := by rw [← hU2]; exact (Below.refl _ W4).drew.alloc (Nat.le_refl _) _
      have hb4U : Below wr.heap.size wr U2 := hb4.trans (hbU.mono hb4.size)
      have hgr2 := hgr.below hb4U
      obtain ⟨va, vc, hrun, hoi, hback⟩ := hgr2.look hpl (by unfold maxLen; omega) s1 hs1
      have hrunA : (Instr.lookup 95 (.map (some mb)) (.int .u32 (s1 : Int)) false).run Tryd.prog W4.drew = .ok (.slice va (plN L s1 i).length vc) W4.drew := by
        refine look_same hgr2 ?_ hs1 hrun
        obtain ⟨es, cl, h5, _⟩ := hgr
        have h6 := (hb4.block mb (lt_of_some h5))
        exact h6.trans (hb4U.block mb (lt_of_some h5)).symm
      have hpln := plN_len L s1 i
      obtain ⟨q, hq⟩ : ∃ q, (plN L s1 i).length = q := ⟨_, rfl⟩
      rw [hq] at hrun hoi hback hrunA
      obtain ⟨aA, cA, UA, hrA, hoA, hgA, hlA⟩ := addZ_own U2 (x := i) hoi hq ru (by omega) (by omega) (by have := hb4U.size; have := lt_of_some hgx; omega)
      obtain ⟨w2, D2, hmu, hgr3, hpl3, hg3⟩ := Grp.put hpl hs1 (by rw [hs]; rfl) hback (by rw [ob_slice]) hgA hoA (by omega) (hlA.imp id (fun h => ⟨_, h, Nat.le_refl _⟩))
      have hmap : ∃ es cl, U2.heap[mb]? = some (.map es cl) := by
        obtain ⟨es, cl, h5, _⟩ := hgr2
        exact ⟨es, cl, h5⟩
      have hgxU : U2.heap[mb + 1]? = some (.cells #[.slice (some ⟨sb, so, none⟩) m c', .map (some mb)] 97 (0, 0)) := (hb4U.block (mb + 1) (lt_of_some hgx)).trans hgx
      have r4U : U2.heap[xb]? = some (.cells #[.int .u32 (s1 : Int), .string s2] 65 (0, 0)) := (hbU.block xb (lt_of_some r4)).trans r4
      have hgx2 := keepB hoi hgA hg3 hmap hgxU (by decide)
      have r42 := keepB hoi hgA hg3 hmap r4U (by decide)
      have hown2 : w2.ownsRow w.heap.size 65 2 (.slice (some ⟨sb, so, none⟩) m c') m (sgR L) := own_keep hown (fun k hk => by
        rcases hown.2 with ⟨e, _⟩ | ⟨g, cc, cur, e, _, hr, _⟩
        · cases e
        · cases e
          cases hk
          rw [keepB hoi hgA hg3 hmap ((hb4U.block _ (lt_of_some hr)).trans hr) (by decide)]
          exact hr.symm)
      have hmbV := H3.out.2.2.2.2.2
      have hbUV : Below V1.heap.size V1 U2 := hbw.trans (hb4U.mono hbw.size)
      have hbA : Below V1.heap.size V1 UA := hbUV.grown hgA hbUV.size (fun z hz => by
        have := (hoi.1.lt z (by rw [ob_slice]; exact hz)).1
        omega)
      have hb2 : Below V1.heap.size V1 w2 := hbA.grown hg3 hbA.size (fun z hz => by
        have : mb = z := Option.some.inj hz
        omega)
      have SU : ∀ W : World, W.heap[mb + 1]? = some (.cells #[.slice (some ⟨sb, so, none⟩) m c', .map (some mb)] 97 (0, 0)) → W.heap[xb]? = some (.cells #[.int .u32 (s1 : Int), .string s2] 65 (0, 0)) → W.cell? ⟨mb + 1, 1, none⟩ = some (.map (some mb)) ∧ W.cell? ⟨xb, 0, none⟩ = some (.int .u32 (s1 : Int)) := fun W h1 h2 => ⟨by rw [cell_of_row _ _ _ _ _ _ h1]; rfl, by rw [cell_of_row _ _ _ _ _ _ h2]; rfl⟩
      have HS0 : Hid (W4.drew.cell? ⟨mb + 1, 1, none⟩ = some (.map (some mb)) ∧ W4.drew.cell? ⟨xb, 0, none⟩ = some (.int .u32 (s1 : Int))) := SU W4.drew ((hb4.block (mb + 1) (lt_of_some hgx)).trans hgx) r4
      have HS2 : Hid (U2.cell? ⟨mb + 1, 1, none⟩ = some (.map (some mb)) ∧ U2.cell? ⟨xb, 0, none⟩ = some (.int .u32 (s1 : Int))) := SU U2 hgxU r4U
      have HS3 : Hid (UA.cell? ⟨mb + 1, 1, none⟩ = some (.map (some mb)) ∧ UA.cell? ⟨xb, 0, none⟩ = some (.int .u32 (s1 : Int))) := by
        have hself : UA.grownBy UA (some mb) := ⟨rfl, rfl, rfl, Nat.le_refl _, fun _ _ _ => rfl⟩
        exact SU UA (keepB hoi hgA hself hmap hgxU (by decide)) (keepB hoi hgA hself hmap r4U (by decide))
      have HS4 : Hid (w2.cell? ⟨mb + 1, 1, none⟩ = some (.map (some mb)) ∧ w2.cell? ⟨xb, 0, none⟩ = some (.int .u32 (s1 : Int))) := SU w2 hgx2 r42
      have HA : Hid ((Instr.lookup 95 (.map (some mb)) (.int .u32 (s1 : Int)) false).run Tryd.prog W4.drew = .ok (.slice va q vc) W4.drew ∧ (Instr.lookup 95 (.map (some mb)) (.int .u32 (s1 : Int)) false).run Tryd.prog U2 = .ok (.slice va q vc) U2) := ⟨hrunA, hrun⟩
      have HMU : Hid ((Instr.mapUpdate 95 (.map (some mb)) (.int .u32 (s1 : Int)) (.slice aA (q + 1) cA)).run Tryd.prog UA = .ok () w2) := hmu
      have HN : Hid (Grp w2 (mb + 1) mb (i + 1) D2 ∧ PlD L (i + 1) D2 ∧ w2.heap[mb + 1]? = some (.cells #[.slice (some ⟨sb, so, none⟩) m c', .map (some mb)] 97 (0, 0)) ∧ w2.ownsRow w.heap.size 65 2 (.slice (some ⟨sb, so, none⟩) m c') m (sgR L) ∧ Below V1.heap.size V1 w2) := ⟨hgr3, hpl3, hgx2, hown2, hb2⟩
      clear hgr hpl hgx hown hbw hsb hc hs r4 hb4 ru hbU hb4U hgr2 hrun hrunA hoi hback hpln hq hoA hgA hlA hmu hgr3 hpl3 hg3 hmap hgxU r4U hgx2 r42 hown2 hbUV hbA hb2 SU hmbV
      go_wp2
      refine wp_region_held_drew (S := fun W => W.cell? ⟨mb + 1, 1, none⟩ = some (.map (some mb)) ∧ W.cell? ⟨xb, 0, none⟩ = some (.int .u32 (s1 : Int))) (by kernel_rfl) (HS0.out) (fun hHeld => ?_)
      refine wpAnyH_take (i := 0) (v := ?v0) rfl (by kernel_rfl) (by kernel_rfl) (by kernel_rfl) (fun _ _ _ h => h) (Or.inl ⟨by first | kernel_rfl | rfl, ?y0⟩) hHeld ?r0
      case y0 => (intro W hSW; (try dsimp only at hSW); go_simp; (try with_reducible rfl))
      change wpAnyH _ _ _ _ _ _ _ (Act.put _ (some 25) _) _
      simp only [Act.put, List.setIfInBounds_toArray, List.set_cons_zero, List.set_cons_succ]
      refine wpAnyH_take (i := 1) (v := ?v1) rfl (by kernel_rfl) (by kernel_rfl) (by kernel_rfl) (fun _ _ _ h => h) (Or.inl ⟨by first | kernel_rfl | rfl, ?y1⟩) hHeld ?r1
      case y1 => (intro W hSW; (try dsimp only at hSW); go_simp; (try with_reducible rfl))
      change wpAnyH _ _ _ _ _ _ _ (Act.put _ (some 26) _) _
      simp only [Act.put, List.setIfInBounds_toArray, List.set_cons_zero, List.set_cons_succ]
      refine wpAnyH_take (i := 2) (v := ?v2) rfl (by kernel_rfl) (by kernel_rfl) (by kernel_rfl) (fun _ _ _ h => h) (Or.inl ⟨by first | kernel_rfl | rfl, ?y2⟩) hHeld ?r2
      case y2 => (intro W hSW; (try dsimp only at hSW); go_simp; (try with_reducible rfl))
      change wpAnyH _ _ _ _ _ _ _ (Act.put _ (some 27) _) _
      simp only [Act.put, List.setIfInBounds_toArray, List.set_cons_zero, List.set_cons_succ]
      refine wpAnyH_take (i := 3) (v := ?v3) rfl (by kernel_rfl) (by kernel_rfl) (by kernel_rfl) (fun _ _ _ h => h) (Or.inl ⟨by first | kernel_rfl | rfl, ?y3⟩) hHeld ?r3
      case y3 => (intro W hSW; (try dsimp only at hSW); go_simp; (try with_reducible rfl))
      change wpAnyH _ _ _ _ _ _ _ (Act.put _ (some 28) _) _
      simp only [Act.put, List.setIfInBounds_toArray, List.set_cons_zero, List.set_cons_succ]
      refine wpAnyH_take (i := 4) (v := ?v4) rfl (by kernel_rfl) (by kernel_rfl) (by kernel_rfl) (fun _ _ _ h => h) (Or.inl ⟨by first | kernel_rfl | rfl, ?y4⟩) hHeld ?r4
      case y4 => (intro W hSW; (try dsimp only at hSW); go_simp; (try with_reducible rfl))
      change wpAnyH _ _ _ _ _ _ _ (Act.put _ (some 29) _) _
      simp only [Act.put, List.setIfInBounds_toArray, List.set_cons_zero, List.set_cons_succ]
      refine wpAnyH_take (i := 5) (v := ?v5) rfl (by kernel_rfl) (by kernel_rfl) (by kernel_rfl) (fun _ _ _ h => h) (Or.inl ⟨by first | kernel_rfl | rfl, ?y5⟩) hHeld ?r5
      case y5 => (intro W hSW; (try dsimp only at hSW); go_simp; (try with_reducible rfl))
      change wpAnyH _ _ _ _ _ _ _ (Act.put _ (some 30) _) _
      simp only [Act.put, List.setIfInBounds_toArray, List.set_cons_zero, List.set_cons_succ]
      refine wpAnyH_take (i := 6) (v := ?v6) rfl (by kernel_rfl) (by kernel_rfl) (by kernel_rfl) (fun _ _ _ h => h) (Or.inl ⟨by first | kernel_rfl | rfl, ?y6⟩) hHeld ?r6
      case y6 => (intro W hSW; (try dsimp only at hSW); go_simp; (try with_reducible rfl))
      change wpAnyH _ _ _ _ _ _ _ (Act.put _ (some 31) _) _
      simp only [Act.put, List.setIfInBounds_toArray, List.set_cons_zero, List.set_cons_succ]
      refine wpAnyH_take (i := 7) (v := ?v7) rfl (by kernel_rfl) (by kernel_rfl) (by kernel_rfl) (fun _ _ _ h => h) (Or.inl ⟨by first | kernel_rfl | rfl, ?y7⟩) hHeld ?r7
      case y7 => (intro W hSW; (try dsimp only at hSW); go_simp; (try with_reducible rfl))
      change wpAnyH _ _ _ _ _ _ _ (Act.put _ (some 32) _) _
      simp only [Act.put, List.setIfInBounds_toArray, List.set_cons_zero, List.set_cons_succ]
      refine wpAnyH_take (i := 8) (v := ?v8) rfl (by kernel_rfl) (by kernel_rfl) (by kernel_rfl) (fun _ _ _ h => h) (Or.inl ⟨by first | kernel_rfl | rfl, ?y8⟩) hHeld ?r8
      case y8 => (intro W hSW; (try dsimp only at hSW); go_simp; (try with_reducible rfl))
      change wpAnyH _ _ _ _ _ _ _ (Act.put _ (some 33) _) _
      simp only [Act.put, List.setIfInBounds_toArray, List.set_cons_zero, List.set_cons_succ]
      refine wpAnyH_take (i := 9) (v := ?v9) rfl (by kernel_rfl) (by kernel_rfl) (by kernel_rfl) (fun _ _ _ h => h) (Or.inl ⟨by first | kernel_rfl | rfl, ?y9⟩) hHeld ?r9
      case y9 => (intro W hSW; (try dsimp only at hSW); go_simp; (try with_reducible rfl))
      change wpAnyH _ _ _ _ _ _ _ (Act.put _ (some 34) _) _
      simp only [Act.put, List.setIfInBounds_toArray, List.set_cons_zero, List.set_cons_succ]
      refine wpAnyH_take (i := 10) (v := ?v10) rfl (by kernel_rfl) (by kernel_rfl) (by kernel_rfl) (fun _ _ _ h => h) (Or.inl ⟨by first | kernel_rfl | rfl, ?y10⟩) hHeld ?r10
      case y10 => (intro W hSW; (try dsimp only at hSW); go_simp; (try with_reducible rfl))
      change wpAnyH _ _ _ _ _ _ _ (Act.put _ (some 35) _) _
      simp only [Act.put, List.setIfInBounds_toArray, List.set_cons_zero, List.set_cons_succ]
      refine wpAnyH_take (i := 11) (v := ?v11) rfl (by kernel_rfl) (by kernel_rfl) (by kernel_rfl) (fun _ _ _ h => h) (Or.inl ⟨by first | kernel_rfl | rfl, ?y11⟩) hHeld ?r11
      case y11 => (intro W hSW; (try dsimp only at hSW); go_simp; (try with_reducible rfl))
      change wpAnyH _ _ _ _ _ _ _ (Act.put _ (some 36) _) _
      simp only [Act.put, List.setIfInBounds_toArray, List.set_cons_zero, List.set_cons_succ]
      refine wpAnyH_take (i := 13) (v := ?v13) rfl (by kernel_rfl) (by kernel_rfl) (by kernel_rfl) (fun _ _ _ h => h) (Or.inl ⟨by first | kernel_rfl | rfl, ?y13⟩) hHeld ?r13
      case y13 => (intro W hSW; (try dsimp only at hSW); go_simp; (try with_reducible rfl))
      change wpAnyH _ _ _ _ _ _ _ (Act.put _ (some 38) _) _
      simp only [Act.put, List.setIfInBounds_toArray, List.set_cons_zero, List.set_cons_succ]
      refine wpAnyH_ready (rs := [12, 14]) (by kernel_rfl) (by simp) ?_
      refine AllReadyH.cons rfl (fun K hK => ?_) (AllReadyH.cons rfl (fun K hK => ?_) AllReadyH.nil)
      · have hrunA := HA.out.1
        go_simp
        refine hK.out _ _ (HS0.out) (fun hHeld => ?_)
        clear hK K
        try simp only [Act.put, List.setIfInBounds_toArray, List.set_cons_zero, List.set_cons_succ]
        refine wpAnyH_ready (rs := [14]) (by kernel_rfl) (by simp) ?_
        refine AllReadyH.cons rfl (fun K hK => ?_) AllReadyH.nil
        go_simp
        refine hK.out _ _ (HS2.out) (fun hHeld => ?_)
        clear hK K
        try simp only [Act.put, List.setIfInBounds_toArray, List.set_cons_zero, List.set_cons_succ]
        refine wpAnyH_ready (rs := [15]) (by kernel_rfl) (by simp) ?_
        refine AllReadyH.cons rfl (fun K hK => ?_) AllReadyH.nil
        rw [if_pos (by rfl)]
        refine wp_app U2 _ _ _ _ rfl rfl rfl (hrA _) ?_
        skip
        refine hK.out _ _ (HS3.out) (fun hHeld => ?_)
        clear hK K
        change wpAnyH _ _ _ _ _ _ _ (Act.put _ (some 40) _) _
        simp only [Act.put, List.setIfInBounds_toArray, List.set_cons_zero, List.set_cons_succ]
        have hmu := HMU.out
        refine wpAnyH_ready (rs := [16]) (by kernel_rfl) (by simp) ?_
        refine AllReadyH.cons rfl (fun K hK => ?_) AllReadyH.nil
        go_simp
        refine hK.out _ _ (HS4.out) (fun hHeld => ?_)
        clear hK K
        try simp only [Act.put, List.setIfInBounds_toArray, List.set_cons_zero, List.set_cons_succ]
        refine wpAnyH_done (by kernel_rfl) ?_ _
        go_wp2
        exact ⟨⟨i + 1, D2, by omega, by go_num, HN.out.1, HN.out.2.1, HN.out.2.2.1, HN.out.2.2.2.1, HN.out.2.2.2.2⟩, by simp [intOf]; omega⟩
      · go_simp
        refine hK.out _ _ (HS2.out) (fun hHeld => ?_)
        clear hK K
        try simp only [Act.put, List.setIfInBounds_toArray, List.set_cons_zero, List.set_cons_succ]
        have hrunB := HA.out.2
        refine wpAnyH_ready (rs := [12]) (by kernel_rfl) (by simp) ?_
        refine AllReadyH.cons rfl (fun K hK => ?_) AllReadyH.nil
        go_simp
        refine hK.out _ _ (HS2.out) (fun hHeld => ?_)
        clear hK K
        try simp only [Act.put, List.setIfInBounds_toArray, List.set_cons_zero, List.set_cons_succ]
        refine wpAnyH_ready (rs := [15]) (by kernel_rfl) (by simp) ?_
        refine AllReadyH.cons rfl (fun K hK => ?_) AllReadyH.nil
        rw [if_pos (by rfl)]
        refine wp_app U2 _ _ _ _ rfl rfl rfl (hrA _) ?_
        skip
        refine hK.out _ _ (HS3.out) (fun hHeld => ?_)
        clear hK K
        change wpAnyH _ _ _ _ _ _ _ (Act.put _ (some 40) _) _
        simp only [Act.put, List.setIfInBounds_toArray, List.set_cons_zero, List.set_cons_succ]
        have hmu := HMU.out
        refine wpAnyH_ready (rs := [16]) (by kernel_rfl) (by simp) ?_
        refine AllReadyH.cons rfl (fun K hK => ?_) AllReadyH.nil
        go_simp
        refine hK.out _ _ (HS4.out) (fun hHeld => ?_)
        clear hK K
        try simp only [Act.put, List.setIfInBounds_toArray, List.set_cons_zero, List.set_cons_succ]
        refine wpAnyH_done (by kernel_rfl) ?_ _
        go_wp2
        exact ⟨⟨i + 1, D2, by omega, by go_num, HN.out.1, HN.out.2.1, HN.out.2.2.1, HN.out.2.2.2.1, HN.out.2.2.2.2⟩, by simp [intOf]; omega⟩
    · have kk : ¬ (i : Int) < (m : Int) := by omega
      obtain rfl : i = m := by omega
      have HE : Hid (NwTo w L (.returned (.pointer (some ⟨mb + 1, 0, none⟩))) wr) := by
        refine ⟨mb + 1, rfl, ⟨a', c', mb, mb + 1, D, ?_, ?_, ?_, ?_, by omega⟩, H3.out.2.2.2.2.1.trans (hbw.mono H3.out.2.2.2.2.1.size), ?_⟩
        · rw [hLl]; exact hgx
        · rw [hLl]; exact hown
        · rw [hLl]; exact hgr
        · rw [hLl]; exact hpl
        · have := H3.out.2.2.2.2.1.size
          have := H3.out.2.2.2.2.2
          omega
      clear hgr hpl hgx hown hbw
      go_wp2
      go_ret
      exact HE.out
end Go.Proofs.YtbhnmjjfammlkaaDoor
