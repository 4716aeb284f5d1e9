/- Walks over slices.Grow of none and slices.Concat of two, at rows of caveats. Walks over Mint and Narrow, and over the document's Narrow. -/
import Derived.Test.YtcmdcmbiilfngaaDoorKE
import Derived.Lib.AppendZerosOnto
import Derived.Lib.Walk
namespace Go.Proofs.YtcmdcmbiilfngaaDoor
open Go.RowKit
set_option maxRecDepth 100000 in
set_option maxHeartbeats 2000000 in
theorem grow_nil (m : Nat) (w : World) (h1 : 1 ≤ m) (h2 : m ≤ 1000) : Calls Tryd.prog 49 #[.slice none 0 0, .int .i64 (m : Int)] w fun e w' => ∃ g c, e = .returned (.slice (some ⟨g, 0, none⟩) 0 c) ∧ w'.ownsRow w.heap.size 35 3 (.slice (some ⟨g, 0, none⟩) 0 c) 0 (cvR []) ∧ Below w.heap.size w w' := by
  obtain ⟨i, hi, hz, hs, hbb⟩ := info_of infoCv
  have hz3 : (Value.agg #[.string ByteArray.empty, .int .i64 0, .int .i64 0]).cells.size = 3 := rfl
  obtain ⟨z, hzz⟩ : ∃ z, (Value.agg #[.string ByteArray.empty, .int .i64 0, .int .i64 0]) = z := ⟨_, rfl⟩
  rw [hzz] at hz hz3
  obtain ⟨G, hG⟩ : ∃ G, G = grownCap w m 0 35 := ⟨_, rfl⟩
  have hGm : m ≤ G := by rw [hG]; exact grownCap_ge w _ _ _
  have hGx : G ≤ maxLen := by rw [hG]; exact grownCap_le_maxLen w m 0 35 (by unfold maxLen; omega)
  obtain ⟨V, hV⟩ : ∃ V, w.drew.alloc (.cells ((#[] : Array Value) ++ Builtin.zeroCells z.cells m ++ Builtin.zeroCells z.cells (G - m)) 35) = V := ⟨_, rfl⟩
  have hrz : ∀ ty, (Builtin.append_ #[23, 3] ty #[.slice none 0 0, .int .i64 (m : Int)]).run Tryd.prog w = .ok (.slice (some ⟨w.heap.size, 0, none⟩) m G) V := fun ty => by
    have h := Lib.run_append_grow_zeros (P := Tryd.prog) w 23 3 ty 35 i z .i64 .i64 Tryd.underlying23 Tryd.underlying3 hi hz none 0 0 [] (run_firstCells_none w.drew i.size 0 0 0) m (by omega) (by omega) (by omega) (by omega) (by rw [hbb]; omega) (by rw [hbb]; exact growslice_fits (by omega) (by omega))
    rw [Nat.zero_add, ← hG, hV] at h
    exact h
  have hcs : ((#[] : Array Value) ++ Builtin.zeroCells z.cells m ++ Builtin.zeroCells z.cells (G - m)).size = G * 3 := by
    simp [Builtin.zeroCells, hz3]
    omega
  have HE : Hid (V.ownsRow w.heap.size 35 3 (.slice (some ⟨w.heap.size, 0, none⟩) 0 G) 0 (cvR []) ∧ Below w.heap.size w V) := by
    refine ⟨⟨rfl, .inr ⟨w.heap.size, G, _, rfl, Nat.le_refl _, ?_, by omega, hGx, hcs, by simp [cvR]⟩⟩, ?_⟩
    · rw [← hV]; exact heap_alloc_new w.drew _
    · rw [← hV]; exact (Below.refl _ w).drew.alloc (Nat.le_refl _) _
  have hG63 : G ≤ 9223372036854775807 := by unfold maxLen at hGx; exact hGx
  have k1 : (0 : Int) < (m : Int) := by omega
  clear hi hz hs hbb hz3 hzz hG hV hcs hGx
  go_enter Tryd.func49, Tryd.ntmps49
  go_wp2_with (at_builtin; refine wpList_app w rfl _ _ _ _ rfl rfl rfl (hrz _) ?_)
  all_goals (go_ret; exact ⟨_, _, rfl, HE.out⟩)
/-- A row of one's own that is handed on. -/
def CcTo (w : World) (l : List Cv) (e : Ending) (w' : World) : Prop := ∃ (a : Option Addr) (n c : Nat), e = .returned (.slice a n c) ∧ w'.ownsRow w.heap.size 35 3 (.slice a n c) n (cvR l) ∧ Below w.heap.size w w'
set_option maxRecDepth 100000 in
set_option maxHeartbeats 2000000 in
theorem concat_two {w : World} {g : Nat} {a b : Option Addr} {n c : Nat} {l : List Cv} {k : Cv} (hg : w.heap[g]? = some (.cells #[.slice a n c, .slice b 1 1] 23 (0, 0))) (h1 : Kw w a n c l) (h2 : Kw w b 1 1 [k]) (hn : n ≤ 100) : Calls Tryd.prog 31 #[.slice (some ⟨g, 0, none⟩) 2 2] w fun e w' => CcTo w (l ++ [k]) e w' := by
  have HK : Hid (∀ W, Below w.heap.size w W → W.cell? ⟨g, 0, none⟩ = some (.slice a n c) ∧ W.cell? ⟨g, 1, none⟩ = some (.slice b 1 1)) := fun W hW => by
    have r2 := (hW.block g (lt_of_some hg)).trans hg
    exact ⟨by rw [cell_of_row _ _ _ _ _ _ r2]; rfl, by rw [cell_of_row _ _ _ _ _ _ r2]; rfl⟩
  obtain ⟨x0, x1⟩ := HK.out w (Below.refl _ _)
  have HG := grow_nil (n + 1) w (by omega) (by omega)
  have HR : Hid (∀ W, Below w.heap.size w W → Kw W a n c l ∧ Kw W b 1 1 [k]) := fun W hW => ⟨h1.below hW, h2.below hW⟩
  obtain ⟨B, hB⟩ : ∃ B, w.heap.size = B := ⟨_, rfl⟩
  have HB0 : Hid (w.heap.size = B) := hB
  have k0 : ¬ (n : Int) < 0 := by omega
  obtain ⟨m, hm⟩ : ∃ m, n + 1 = m := ⟨_, rfl⟩
  have km : (n : Int) + 1 = (m : Int) := by omega
  have k2 : ¬ (m : Int) < 0 := by omega
  have hmb : m ≤ 101 := by omega
  rw [hm] at HG
  have HM : Hid (n + 1 = m) := hm
  clear hg h1 h2 hB hm
  go_enter Tryd.func31, Tryd.ntmps31
  go_wp2
  refine wp_loop_rounds 3 ?_
  rw [rounds_succ]
  go_wp2
  rw [rounds_succ]
  go_wp2
  rw [rounds_succ]
  go_wp2_with fail
  refine HG.mono ?_
  rintro e V1 ⟨g1, c1, rfl, ho1, hb1⟩
  clear x0 x1
  obtain ⟨x0, x1⟩ := HK.out V1 hb1
  obtain ⟨hk1, hk2⟩ := HR.out V1 hb1
  obtain ⟨aA, cA, VA, hrA, hoA, hgA, _⟩ := addK_own V1 ho1 hk1 (by omega) hb1.size
  have hbA : Below w.heap.size w VA := hb1.grown hgA hb1.size (fun j hj => (ho1.lt j (by rw [ob_slice]; exact hj)).1)
  obtain ⟨z0, z1⟩ := HK.out VA hbA
  obtain ⟨_, hk3⟩ := HR.out VA hbA
  rw [Nat.zero_add] at hrA hoA
  rw [List.nil_append] at hoA
  obtain ⟨aC, cC, VC, hrC, hoC, hgC, _⟩ := addK_own VA hoA hk3 (by omega) hbA.size
  have HE : Hid (CcTo w (l ++ [k]) (.returned (.slice aC m cC)) VC) := ⟨aC, m, cC, rfl, by rw [← HM.out]; exact hoC, hbA.grown hgC hbA.size (fun j hj => (hoA.lt j (by rw [ob_slice]; exact hj)).1)⟩
  have hrC2 : ∀ ty, (Builtin.append_ #[23, 23] ty #[.slice aA n cA, .slice b 1 1]).run Tryd.prog VA = .ok (.slice aC m cC) VC := by rw [← HM.out]; exact hrC
  clear HG ho1 hb1 hk1 hk2 hoA hgA hbA hk3 hoC hgC hrC
  go_wp2
  refine wp_loop_rounds 3 ?_
  rw [rounds_succ]
  go_wp2_with (at_builtin; refine wpList_app V1 rfl _ _ _ _ rfl rfl rfl (hrA _) ?_)
  rw [rounds_succ]
  go_wp2_with (at_builtin; refine wpList_app VA rfl _ _ _ _ rfl rfl rfl (hrC2 _) ?_)
  rw [rounds_succ]
  go_wp2
  go_ret
  exact HE.out
end Go.Proofs.YtcmdcmbiilfngaaDoor
namespace Go.Proofs.YtcmdcmbiilfngaaDoor
open Go.RowKit
def zeroT : Tk := ⟨0, 0, [], ⟨#[]⟩⟩
def mintT (k : List UInt8) (t n : Int) : Tk × Nat := if knownT t n = true then (⟨t, n, [], strOf (sealT k t n [])⟩, 0) else (zeroT, 1)
def narrowT (t : Tk) (c : Cv) : Tk × Nat := if mayT t = true ∧ c.ok = true then (if t.cavs.length = 8 then (zeroT, 5) else (⟨t.tenant, t.number, t.cavs ++ [c], strOf (sealL t.sig.data.toList c.bytes)⟩, 0)) else (zeroT, 1)
/-- A token and a word that are handed on; its caveats are new. -/
def TkTo (w : World) (r : Tk × Nat) (e : Ending) (w' : World) : Prop := ∃ (a : Option Addr) (n c : Nat), e = .returned (.tuple #[.agg #[.int .i64 r.1.tenant, .int .i64 r.1.number, .slice a n c, .string r.1.sig], .int .i64 (r.2 : Int)]) ∧ w'.ownsRow w.heap.size 35 3 (.slice a n c) n (cvR r.1.cavs) ∧ Below w.heap.size w w'
theorem res_tk {fn : Func} {p q : Tmp} (h : fn.results = #[.cell p 25, .tmp q]) (tmps : Array Value) (w : World) (g : Nat) (cs : Array Value) (hp : tmps.getD p undef = .pointer (some ⟨g, 0, none⟩)) (hg : w.heap[g]? = some (.cells cs 25 (0, 0))) (hi : (Tryd.prog.info? 25).map (·.size) = some cs.size) :
    (results fn tmps).run Tryd.prog w = .ok (.tuple #[.agg cs, tmps.getD q undef]) w := by
  have hp' : tmps[p]?.getD undef = .pointer (some ⟨g, 0, none⟩) := by simpa using hp
  have hl := run_loadVar_row (P := Tryd.prog) w g 25 25 cs (0, 0) _ hg Tryd.underlying25 rfl hi
  simp [results, h, hp', asAddr, hl]
theorem set4 {U : World} {g : Nat} {a b c d : Value} {t : TypeId} (h : U.heap[g]? = some (.cells #[a, b, c, d] t (0, 0))) (x0 x1 x2 x3 : Value) : ((((U.setCell ⟨g, 0, none⟩ x0).setCell ⟨g, 1, none⟩ x1).setCell ⟨g, 2, none⟩ x2).setCell ⟨g, 3, none⟩ x3).heap[g]? = some (.cells #[x0, x1, x2, x3] t (0, 0)) := by
  have h1 : (U.setCell ⟨g, 0, none⟩ x0).heap[g]? = some (.cells #[x0, b, c, d] t (0, 0)) := by rw [heap_setCell_same _ _ _ _ _ _ h]; rfl
  have h2 : ((U.setCell ⟨g, 0, none⟩ x0).setCell ⟨g, 1, none⟩ x1).heap[g]? = some (.cells #[x0, x1, c, d] t (0, 0)) := by rw [heap_setCell_same _ _ _ _ _ _ h1]; rfl
  have h3 : (((U.setCell ⟨g, 0, none⟩ x0).setCell ⟨g, 1, none⟩ x1).setCell ⟨g, 2, none⟩ x2).heap[g]? = some (.cells #[x0, x1, x2, d] t (0, 0)) := by rw [heap_setCell_same _ _ _ _ _ _ h2]; rfl
  rw [heap_setCell_same _ _ _ _ _ _ h3]
  rfl
theorem below4s {B rb : Nat} {w V : World} (h : Below B w V) (hr : B ≤ rb) (x0 x1 x2 x3 : Value) : Below B w ((((V.setCell ⟨rb, 0, none⟩ x0).setCell ⟨rb, 1, none⟩ x1).setCell ⟨rb, 2, none⟩ x2).setCell ⟨rb, 3, none⟩ x3) := (((h.setCell hr _).setCell hr _).setCell hr _).setCell hr _
theorem other4s {rb j : Nat} {V : World} (h : j ≠ rb) (x0 x1 x2 x3 : Value) : ((((V.setCell ⟨rb, 0, none⟩ x0).setCell ⟨rb, 1, none⟩ x1).setCell ⟨rb, 2, none⟩ x2).setCell ⟨rb, 3, none⟩ x3).heap[j]? = V.heap[j]? := by
  rw [heap_setCell_other _ _ _ _ h, heap_setCell_other _ _ _ _ h, heap_setCell_other _ _ _ _ h, heap_setCell_other _ _ _ _ h]
/-- An empty token is handed on. -/
theorem TkTo.zero {w V : World} {rb : Nat} (hr : w.heap.size ≤ rb) (h : Below w.heap.size w V) (e : Nat) : TkTo w (zeroT, e) (.returned (.tuple #[.agg #[.int .i64 0, .int .i64 0, .slice none 0 0, .string ⟨#[]⟩], .int .i64 (e : Int)])) ((((V.setCell ⟨rb, 0, none⟩ (.int .i64 0)).setCell ⟨rb, 1, none⟩ (.int .i64 0)).setCell ⟨rb, 2, none⟩ (.slice none 0 0)).setCell ⟨rb, 3, none⟩ (.string ⟨#[]⟩)) := ⟨none, 0, 0, rfl, World.ownsRow_nil _ _ _ _, below4s h hr _ _ _ _⟩
set_option maxRecDepth 100000 in
set_option maxHeartbeats 2000000 in
theorem mint_any (k : ByteArray) (t n : Int) (w : World) (hk : k.size ≤ 1000000) (hL : Laid w) : Calls Tryd.prog 10 #[.string k, .int .i64 t, .int .i64 n] w fun e w' => TkTo w (mintT k.data.toList t n) e w' := by
  obtain ⟨V1, hV1, r1, hb1⟩ := box_tk (w := w) 0 0 none 0 0 ⟨#[]⟩
  obtain ⟨rb, hrb⟩ : ∃ rb, w.heap.size = rb := ⟨_, rfl⟩
  rw [hrb] at r1
  have HN := named_any t n V1
  have HRB : Hid (w.heap.size = rb) := hrb
  cases hkn : knownT t n with
  | false =>
    rw [hkn] at HN
    have x0 : V1.cell? ⟨rb, 0, none⟩ = some (.int .i64 0) := by rw [cell_of_row _ _ _ _ _ _ r1]; rfl
    have x1 : V1.cell? ⟨rb, 1, none⟩ = some (.int .i64 0) := by rw [cell_of_row _ _ _ _ _ _ r1]; rfl
    have x2 : V1.cell? ⟨rb, 2, none⟩ = some (.slice none 0 0) := by rw [cell_of_row _ _ _ _ _ _ r1]; rfl
    have x3 : V1.cell? ⟨rb, 3, none⟩ = some (.string ⟨#[]⟩) := by rw [cell_of_row _ _ _ _ _ _ r1]; rfl
    have f0 := frozen_of_row V1 rb 0 _ _ r1
    have f1 := frozen_of_row V1 rb 1 _ _ r1
    have f2 := frozen_of_row V1 rb 2 _ _ r1
    have f3 := frozen_of_row V1 rb 3 _ _ r1
    obtain ⟨W5, hW5⟩ : ∃ W5, (((V1.setCell ⟨rb, 0, none⟩ (.int .i64 0)).setCell ⟨rb, 1, none⟩ (.int .i64 0)).setCell ⟨rb, 2, none⟩ (.slice none 0 0)).setCell ⟨rb, 3, none⟩ (.string ⟨#[]⟩) = W5 := ⟨_, rfl⟩
    have HE : Hid (TkTo w (mintT k.data.toList t n) (.returned (.tuple #[.agg #[.int .i64 0, .int .i64 0, .slice none 0 0, .string ⟨#[]⟩], .int .i64 1])) W5 ∧ W5.heap[rb]? = some (.cells #[.int .i64 0, .int .i64 0, .slice none 0 0, .string ⟨#[]⟩] 25 (0, 0))) := by
      refine ⟨?_, by rw [← hW5]; exact set4 r1 _ _ _ _⟩
      have e : mintT k.data.toList t n = (zeroT, 1) := by unfold mintT; rw [if_neg (by rw [hkn]; decide)]
      rw [e, ← hW5]
      exact TkTo.zero (Nat.le_of_eq hrb) hb1 1
    clear r1 hb1 hkn hL
    go_enter Tryd.func10, Tryd.ntmps10
    go_wp2_with fail
    refine HN.mono ?_
    rintro e V2 ⟨rfl, hV2⟩
    subst V2
    clear HN
    go_wp2
    refine bodyPost_ret (v := .tuple #[.agg #[.int .i64 0, .int .i64 0, .slice none 0 0, .string ⟨#[]⟩], .int .i64 1]) ?_ rfl HE.out.1
    exact res_tk (fn := Tryd.f10) (p := 6) (q := 7) (by rfl) _ _ rb _ (by rfl) HE.out.2 infoT4
  | true =>
    rw [hkn] at HN
    have hki := known_iff.1 hkn
    obtain ⟨tn, rfl⟩ : ∃ m : Nat, t = (m : Int) := ⟨t.toNat, by omega⟩
    obtain ⟨nn, rfl⟩ : ∃ m : Nat, n = (m : Int) := ⟨n.toNat, by omega⟩
    obtain ⟨U2, hU2, u2, hc2⟩ := box_tk (w := V1) (tn : Int) (nn : Int) none 0 0 ⟨#[]⟩
    obtain ⟨bb, hbb⟩ : ∃ bb, V1.heap.size = bb := ⟨_, rfl⟩
    have hbr : bb = rb + 1 := by rw [← hbb, ← hrb, ← hV1]; simp
    rw [hbb] at u2
    have v2 := frozen_of_row U2 bb 2 _ _ u2
    have v3 := frozen_of_row U2 bb 3 _ _ u2
    have w2 : U2.cell? ⟨bb, 2, none⟩ = some (.slice none 0 0) := by rw [cell_of_row _ _ _ _ _ _ u2]; rfl
    have w3 : U2.cell? ⟨bb, 3, none⟩ = some (.string ⟨#[]⟩) := by rw [cell_of_row _ _ _ _ _ _ u2]; rfl
    obtain ⟨V2, hV2⟩ : ∃ V2, (U2.setCell ⟨bb, 2, none⟩ (.slice none 0 0)).setCell ⟨bb, 3, none⟩ (.string ⟨#[]⟩) = V2 := ⟨_, rfl⟩
    have r2 : V2.heap[bb]? = some (.cells #[.int .i64 (tn : Int), .int .i64 (nn : Int), .slice none 0 0, .string ⟨#[]⟩] 25 (0, 0)) := by
      have h1 : (U2.setCell ⟨bb, 2, none⟩ (.slice none 0 0)).heap[bb]? = some (.cells #[.int .i64 (tn : Int), .int .i64 (nn : Int), .slice none 0 0, .string ⟨#[]⟩] 25 (0, 0)) := by rw [heap_setCell_same _ _ _ _ _ _ u2]; rfl
      rw [← hV2, heap_setCell_same _ _ _ _ _ _ h1]
      rfl
    have hb2 : Below V1.heap.size V1 V2 := by rw [← hV2]; exact (hc2.setCell (Nat.le_of_eq hbb) _).setCell (Nat.le_of_eq hbb) _
    clear u2 hc2
    have y0 : V2.cell? ⟨bb, 0, none⟩ = some (.int .i64 (tn : Int)) := by rw [cell_of_row _ _ _ _ _ _ r2]; rfl
    have y1 : V2.cell? ⟨bb, 1, none⟩ = some (.int .i64 (nn : Int)) := by rw [cell_of_row _ _ _ _ _ _ r2]; rfl
    have y2 : V2.cell? ⟨bb, 2, none⟩ = some (.slice none 0 0) := by rw [cell_of_row _ _ _ _ _ _ r2]; rfl
    have y3 : V2.cell? ⟨bb, 3, none⟩ = some (.string ⟨#[]⟩) := by rw [cell_of_row _ _ _ _ _ _ r2]; rfl
    have hB2 : Below w.heap.size w V2 := hb1.trans (hb2.mono hb1.size)
    have HS := sealof_any k ⟨#[]⟩ tn nn V2 (Kw.nil V2) (by omega) hk (fun c hc => by cases hc) (by omega) (by omega) (hL.below hB2)
    obtain ⟨Z, hZ⟩ : ∃ Z, strOf (sealT k.data.toList (tn : Int) (nn : Int) []) = Z := ⟨_, rfl⟩
    unfold StTo at HS
    rw [hZ] at HS
    have e : mintT k.data.toList (tn : Int) (nn : Int) = (⟨(tn : Int), (nn : Int), [], Z⟩, 0) := by unfold mintT; rw [if_pos hkn, hZ]
    rw [e]
    have H2 : Hid (Below w.heap.size w V2 ∧ V2.heap[rb]? = some (.cells #[.int .i64 0, .int .i64 0, .slice none 0 0, .string ⟨#[]⟩] 25 (0, 0)) ∧ V2.heap[bb]? = some (.cells #[.int .i64 (tn : Int), .int .i64 (nn : Int), .slice none 0 0, .string ⟨#[]⟩] 25 (0, 0)) ∧ bb = rb + 1) := ⟨hB2, (hb2.block rb (lt_of_some r1)).trans r1, r2, hbr⟩
    clear r1 hb1 hb2 r2 hB2 hL hkn e hZ hbr
    go_enter Tryd.func10, Tryd.ntmps10
    go_wp2_with fail
    refine HN.mono ?_
    rintro e V9 ⟨rfl, hV9⟩
    subst V9
    clear HN
    have hbr : rb + 1 = bb := H2.out.2.2.2.symm
    go_wp2_with fail
    refine HS.mono ?_
    rintro e V3 ⟨rfl, hb3⟩
    clear y0 y1 y2 y3 HS
    have r3 := (hb3.block bb (lt_of_some H2.out.2.2.1)).trans H2.out.2.2.1
    have q3 := (hb3.block rb (lt_of_some H2.out.2.1)).trans H2.out.2.1
    have hB3 : Below w.heap.size w V3 := H2.out.1.trans (hb3.mono H2.out.1.size)
    have y0 : V3.cell? ⟨bb, 0, none⟩ = some (.int .i64 (tn : Int)) := by rw [cell_of_row _ _ _ _ _ _ r3]; rfl
    have y1 : V3.cell? ⟨bb, 1, none⟩ = some (.int .i64 (nn : Int)) := by rw [cell_of_row _ _ _ _ _ _ r3]; rfl
    have y2 : V3.cell? ⟨bb, 2, none⟩ = some (.slice none 0 0) := by rw [cell_of_row _ _ _ _ _ _ r3]; rfl
    have y3 : V3.cell? ⟨bb, 3, none⟩ = some (.string ⟨#[]⟩) := by rw [cell_of_row _ _ _ _ _ _ r3]; rfl
    have g3 := frozen_of_row V3 bb 3 _ _ r3
    obtain ⟨V4, hV4⟩ : ∃ V4, V3.setCell ⟨bb, 3, none⟩ (.string Z) = V4 := ⟨_, rfl⟩
    have r4 : V4.heap[bb]? = some (.cells #[.int .i64 (tn : Int), .int .i64 (nn : Int), .slice none 0 0, .string Z] 25 (0, 0)) := by rw [← hV4, heap_setCell_same _ _ _ _ _ _ r3]; rfl
    have q4 : V4.heap[rb]? = some (.cells #[.int .i64 0, .int .i64 0, .slice none 0 0, .string ⟨#[]⟩] 25 (0, 0)) := by rw [← hV4, heap_setCell_other _ _ _ _ (by show rb ≠ bb; omega)]; exact q3
    have hB4 : Below w.heap.size w V4 := by rw [← hV4]; exact hB3.setCell (show w.heap.size ≤ bb by have := HRB.out; omega) _
    have z0 : V4.cell? ⟨bb, 0, none⟩ = some (.int .i64 (tn : Int)) := by rw [cell_of_row _ _ _ _ _ _ r4]; rfl
    have z1 : V4.cell? ⟨bb, 1, none⟩ = some (.int .i64 (nn : Int)) := by rw [cell_of_row _ _ _ _ _ _ r4]; rfl
    have z2 : V4.cell? ⟨bb, 2, none⟩ = some (.slice none 0 0) := by rw [cell_of_row _ _ _ _ _ _ r4]; rfl
    have z3 : V4.cell? ⟨bb, 3, none⟩ = some (.string Z) := by rw [cell_of_row _ _ _ _ _ _ r4]; rfl
    have x0 : V4.cell? ⟨rb, 0, none⟩ = some (.int .i64 0) := by rw [cell_of_row _ _ _ _ _ _ q4]; rfl
    have x1 : V4.cell? ⟨rb, 1, none⟩ = some (.int .i64 0) := by rw [cell_of_row _ _ _ _ _ _ q4]; rfl
    have x2 : V4.cell? ⟨rb, 2, none⟩ = some (.slice none 0 0) := by rw [cell_of_row _ _ _ _ _ _ q4]; rfl
    have x3 : V4.cell? ⟨rb, 3, none⟩ = some (.string ⟨#[]⟩) := by rw [cell_of_row _ _ _ _ _ _ q4]; rfl
    have f0 := frozen_of_row V4 rb 0 _ _ q4
    have f1 := frozen_of_row V4 rb 1 _ _ q4
    have f2 := frozen_of_row V4 rb 2 _ _ q4
    have f3 := frozen_of_row V4 rb 3 _ _ q4
    obtain ⟨W5, hW5⟩ : ∃ W5, (((V4.setCell ⟨rb, 0, none⟩ (.int .i64 (tn : Int))).setCell ⟨rb, 1, none⟩ (.int .i64 (nn : Int))).setCell ⟨rb, 2, none⟩ (.slice none 0 0)).setCell ⟨rb, 3, none⟩ (.string Z) = W5 := ⟨_, rfl⟩
    have HE : Hid (TkTo w (⟨(tn : Int), (nn : Int), [], Z⟩, 0) (.returned (.tuple #[.agg #[.int .i64 (tn : Int), .int .i64 (nn : Int), .slice none 0 0, .string Z], .int .i64 0])) W5 ∧ W5.heap[rb]? = some (.cells #[.int .i64 (tn : Int), .int .i64 (nn : Int), .slice none 0 0, .string Z] 25 (0, 0))) := by
      refine ⟨⟨none, 0, 0, rfl, World.ownsRow_nil _ _ _ _, ?_⟩, by rw [← hW5]; exact set4 q4 _ _ _ _⟩
      rw [← hW5]
      exact below4s hB4 (Nat.le_of_eq HRB.out) _ _ _ _
    clear r3 q3 hb3 hB3 r4 q4 hB4 H2
    go_wp2
    refine bodyPost_ret (v := .tuple #[.agg #[.int .i64 (tn : Int), .int .i64 (nn : Int), .slice none 0 0, .string Z], .int .i64 0]) ?_ rfl HE.out.1
    exact res_tk (fn := Tryd.f10) (p := 6) (q := 7) (by rfl) _ _ rb _ (by rfl) HE.out.2 infoT4
end Go.Proofs.YtcmdcmbiilfngaaDoor
