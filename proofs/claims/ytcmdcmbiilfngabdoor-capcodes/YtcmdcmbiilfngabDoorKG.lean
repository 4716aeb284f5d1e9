/- Walks over Mint and Narrow, and over the document's Narrow. -/
import Derived.Test.YtcmdcmbiilfngabDoorKF
namespace Go.Proofs.YtcmdcmbiilfngabDoor
open Go.RowKit
def zeroT : Tk := ⟨0, 0, [], ⟨#[]⟩⟩
def mintT (k : List UInt8) (t n : Int) : Tk × Nat := if knownT t n = true then (⟨t, n, [], strOf (sealT k t n [])⟩, 0) else (zeroT, 1)
def narrowT (t : Tk) (c : Cv) : Tk × Nat := if mayT t = true ∧ c.ok = true then (if t.cavs.length = 8 then (zeroT, 5) else (⟨t.tenant, t.number, t.cavs ++ [c], strOf (sealL t.sig.data.toList c.bytes)⟩, 0)) else (zeroT, 1)
/-- A token and a word that are handed on; its caveats are new. -/
def TkTo (w : World) (r : Tk × Nat) (e : Ending) (w' : World) : Prop := ∃ (a : Option Addr) (n c : Nat), e = .returned (.tuple #[.agg #[.int .i64 r.1.tenant, .int .i64 r.1.number, .slice a n c, .string r.1.sig], .int .i64 (r.2 : Int)]) ∧ w'.ownsRow w.heap.size 39 3 (.slice a n c) n (cvR r.1.cavs) ∧ Below w.heap.size w w'
theorem res_tk {fn : Func} {p q : Tmp} (h : fn.results = #[.cell p 24, .tmp q]) (tmps : Array Value) (w : World) (g : Nat) (cs : Array Value) (hp : tmps.getD p undef = .pointer (some ⟨g, 0, none⟩)) (hg : w.heap[g]? = some (.cells cs 24 (0, 0))) (hi : (Tryd.prog.info? 24).map (·.size) = some cs.size) :
    (results fn tmps).run Tryd.prog w = .ok (.tuple #[.agg cs, tmps.getD q undef]) w := by
  have hp' : tmps[p]?.getD undef = .pointer (some ⟨g, 0, none⟩) := by simpa using hp
  have hl := run_loadVar_row (P := Tryd.prog) w g 24 24 cs (0, 0) _ hg Tryd.underlying24 rfl hi
  simp [results, h, hp', asAddr, hl]
theorem set4 {U : World} {g : Nat} {a b c d : Value} {t : TypeId} (h : U.heap[g]? = some (.cells #[a, b, c, d] t (0, 0))) (x0 x1 x2 x3 : Value) : ((((U.setCell ⟨g, 0, none⟩ x0).setCell ⟨g, 1, none⟩ x1).setCell ⟨g, 2, none⟩ x2).setCell ⟨g, 3, none⟩ x3).heap[g]? = some (.cells #[x0, x1, x2, x3] t (0, 0)) := by
  have h1 : (U.setCell ⟨g, 0, none⟩ x0).heap[g]? = some (.cells #[x0, b, c, d] t (0, 0)) := by rw [heap_setCell_same _ _ _ _ _ _ h]; rfl
  have h2 : ((U.setCell ⟨g, 0, none⟩ x0).setCell ⟨g, 1, none⟩ x1).heap[g]? = some (.cells #[x0, x1, c, d] t (0, 0)) := by rw [heap_setCell_same _ _ _ _ _ _ h1]; rfl
  have h3 : (((U.setCell ⟨g, 0, none⟩ x0).setCell ⟨g, 1, none⟩ x1).setCell ⟨g, 2, none⟩ x2).heap[g]? = some (.cells #[x0, x1, x2, d] t (0, 0)) := by rw [heap_setCell_same _ _ _ _ _ _ h2]; rfl
  rw [heap_setCell_same _ _ _ _ _ _ h3]
  rfl
theorem below4s {B rb : Nat} {w V : World} (h : Below B w V) (hr : B ≤ rb) (x0 x1 x2 x3 : Value) : Below B w ((((V.setCell ⟨rb, 0, none⟩ x0).setCell ⟨rb, 1, none⟩ x1).setCell ⟨rb, 2, none⟩ x2).setCell ⟨rb, 3, none⟩ x3) := (((h.setCell hr _).setCell hr _).setCell hr _).setCell hr _
theorem other4s {rb j : Nat} {V : World} (h : j ≠ rb) (x0 x1 x2 x3 : Value) : ((((V.setCell ⟨rb, 0, none⟩ x0).setCell ⟨rb, 1, none⟩ x1).setCell ⟨rb, 2, none⟩ x2).setCell ⟨rb, 3, none⟩ x3).heap[j]? = V.heap[j]? := by
  rw [heap_setCell_other _ _ _ _ h, heap_setCell_other _ _ _ _ h, heap_setCell_other _ _ _ _ h, heap_setCell_other _ _ _ _ h]
/-- An empty token is handed on. -/
theorem TkTo.zero {w V : World} {rb : Nat} (hr : w.heap.size ≤ rb) (h : Below w.heap.size w V) (e : Nat) : TkTo w (zeroT, e) (.returned (.tuple #[.agg #[.int .i64 0, .int .i64 0, .slice none 0 0, .string ⟨#[]⟩], .int .i64 (e : Int)])) ((((V.setCell ⟨rb, 0, none⟩ (.int .i64 0)).setCell ⟨rb, 1, none⟩ (.int .i64 0)).setCell ⟨rb, 2, none⟩ (.slice none 0 0)).setCell ⟨rb, 3, none⟩ (.string ⟨#[]⟩)) := ⟨none, 0, 0, rfl, World.ownsRow_nil _ _ _ _, below4s h hr _ _ _ _⟩
set_option maxRecDepth 100000 in
set_option maxHeartbeats 2000000 in
theorem mint_any (k : ByteArray) (t n : Int) (w : World) (hk : k.size ≤ 1000000) (hL : Laid w) : Calls Tryd.prog 12 #[.string k, .int .i64 t, .int .i64 n] w fun e w' => TkTo w (mintT k.data.toList t n) e w' := by
  obtain ⟨V1, hV1, r1, hb1⟩ := box_tk (w := w) 0 0 none 0 0 ⟨#[]⟩
  obtain ⟨rb, hrb⟩ : ∃ rb, w.heap.size = rb := ⟨_, rfl⟩
  rw [hrb] at r1
  have HN := named_any t n V1
  have HRB : Hid (w.heap.size = rb) := hrb
  cases hkn : knownT t n with
  | false =>
    rw [hkn] at HN
    have x0 : V1.cell? ⟨rb, 0, none⟩ = some (.int .i64 0) := by rw [cell_of_row _ _ _ _ _ _ r1]; rfl
    have x1 : V1.cell? ⟨rb, 1, none⟩ = some (.int .i64 0) := by rw [cell_of_row _ _ _ _ _ _ r1]; rfl
    have x2 : V1.cell? ⟨rb, 2, none⟩ = some (.slice none 0 0) := by rw [cell_of_row _ _ _ _ _ _ r1]; rfl
    have x3 : V1.cell? ⟨rb, 3, none⟩ = some (.string ⟨#[]⟩) := by rw [cell_of_row _ _ _ _ _ _ r1]; rfl
    have f0 := frozen_of_row V1 rb 0 _ _ r1
    have f1 := frozen_of_row V1 rb 1 _ _ r1
    have f2 := frozen_of_row V1 rb 2 _ _ r1
    have f3 := frozen_of_row V1 rb 3 _ _ r1
    obtain ⟨W5, hW5⟩ : ∃ W5, (((V1.setCell ⟨rb, 0, none⟩ (.int .i64 0)).setCell ⟨rb, 1, none⟩ (.int .i64 0)).setCell ⟨rb, 2, none⟩ (.slice none 0 0)).setCell ⟨rb, 3, none⟩ (.string ⟨#[]⟩) = W5 := ⟨_, rfl⟩
    have HE : Hid (TkTo w (mintT k.data.toList t n) (.returned (.tuple #[.agg #[.int .i64 0, .int .i64 0, .slice none 0 0, .string ⟨#[]⟩], .int .i64 1])) W5 ∧ W5.heap[rb]? = some (.cells #[.int .i64 0, .int .i64 0, .slice none 0 0, .string ⟨#[]⟩] 24 (0, 0))) := by
      refine ⟨?_, by rw [← hW5]; exact set4 r1 _ _ _ _⟩
      have e : mintT k.data.toList t n = (zeroT, 1) := by unfold mintT; rw [if_neg (by rw [hkn]; decide)]
      rw [e, ← hW5]
      exact TkTo.zero (Nat.le_of_eq hrb) hb1 1
    clear r1 hb1 hkn hL
    go_enter Tryd.func12, Tryd.ntmps12
    go_wp2_with fail
    refine HN.mono ?_
    rintro e V2 ⟨rfl, hV2⟩
    subst V2
    clear HN
    go_wp2
    refine bodyPost_ret (v := .tuple #[.agg #[.int .i64 0, .int .i64 0, .slice none 0 0, .string ⟨#[]⟩], .int .i64 1]) ?_ rfl HE.out.1
    exact res_tk (fn := Tryd.f12) (p := 6) (q := 7) (by rfl) _ _ rb _ (by rfl) HE.out.2 infoT4
  | true =>
    rw [hkn] at HN
    have hki := known_iff.1 hkn
    obtain ⟨tn, rfl⟩ : ∃ m : Nat, t = (m : Int) := ⟨t.toNat, by omega⟩
    obtain ⟨nn, rfl⟩ : ∃ m : Nat, n = (m : Int) := ⟨n.toNat, by omega⟩
    obtain ⟨U2, hU2, u2, hc2⟩ := box_tk (w := V1) (tn : Int) (nn : Int) none 0 0 ⟨#[]⟩
    obtain ⟨bb, hbb⟩ : ∃ bb, V1.heap.size = bb := ⟨_, rfl⟩
    have hbr : bb = rb + 1 := by rw [← hbb, ← hrb, ← hV1]; simp
    rw [hbb] at u2
    have v2 := frozen_of_row U2 bb 2 _ _ u2
    have v3 := frozen_of_row U2 bb 3 _ _ u2
    have w2 : U2.cell? ⟨bb, 2, none⟩ = some (.slice none 0 0) := by rw [cell_of_row _ _ _ _ _ _ u2]; rfl
    have w3 : U2.cell? ⟨bb, 3, none⟩ = some (.string ⟨#[]⟩) := by rw [cell_of_row _ _ _ _ _ _ u2]; rfl
    obtain ⟨V2, hV2⟩ : ∃ V2, (U2.setCell ⟨bb, 2, none⟩ (.slice none 0 0)).setCell ⟨bb, 3, none⟩ (.string ⟨#[]⟩) = V2 := ⟨_, rfl⟩
    have r2 : V2.heap[bb]? = some (.cells #[.int .i64 (tn : Int), .int .i64 (nn : Int), .slice none 0 0, .string ⟨#[]⟩] 24 (0, 0)) := by
      have h1 : (U2.setCell ⟨bb, 2, none⟩ (.slice none 0 0)).heap[bb]? = some (.cells #[.int .i64 (tn : Int), .int .i64 (nn : Int), .slice none 0 0, .string ⟨#[]⟩] 24 (0, 0)) := by rw [heap_setCell_same _ _ _ _ _ _ u2]; rfl
      rw [← hV2, heap_setCell_same _ _ _ _ _ _ h1]
      rfl
    have hb2 : Below V1.heap.size V1 V2 := by rw [← hV2]; exact (hc2.setCell (Nat.le_of_eq hbb) _).setCell (Nat.le_of_eq hbb) _
    clear u2 hc2
    have y0 : V2.cell? ⟨bb, 0, none⟩ = some (.int .i64 (tn : Int)) := by rw [cell_of_row _ _ _ _ _ _ r2]; rfl
    have y1 : V2.cell? ⟨bb, 1, none⟩ = some (.int .i64 (nn : Int)) := by rw [cell_of_row _ _ _ _ _ _ r2]; rfl
    have y2 : V2.cell? ⟨bb, 2, none⟩ = some (.slice none 0 0) := by rw [cell_of_row _ _ _ _ _ _ r2]; rfl
    have y3 : V2.cell? ⟨bb, 3, none⟩ = some (.string ⟨#[]⟩) := by rw [cell_of_row _ _ _ _ _ _ r2]; rfl
    have hB2 : Below w.heap.size w V2 := hb1.trans (hb2.mono hb1.size)
    have HS := sealof_any k ⟨#[]⟩ tn nn V2 (Kw.nil V2) (by omega) hk (fun c hc => by cases hc) (by omega) (by omega) (hL.below hB2)
    obtain ⟨Z, hZ⟩ : ∃ Z, strOf (sealT k.data.toList (tn : Int) (nn : Int) []) = Z := ⟨_, rfl⟩
    unfold StTo at HS
    rw [hZ] at HS
    have e : mintT k.data.toList (tn : Int) (nn : Int) = (⟨(tn : Int), (nn : Int), [], Z⟩, 0) := by unfold mintT; rw [if_pos hkn, hZ]
    rw [e]
    have H2 : Hid (Below w.heap.size w V2 ∧ V2.heap[rb]? = some (.cells #[.int .i64 0, .int .i64 0, .slice none 0 0, .string ⟨#[]⟩] 24 (0, 0)) ∧ V2.heap[bb]? = some (.cells #[.int .i64 (tn : Int), .int .i64 (nn : Int), .slice none 0 0, .string ⟨#[]⟩] 24 (0, 0)) ∧ bb = rb + 1) := ⟨hB2, (hb2.block rb (lt_of_some r1)).trans r1, r2, hbr⟩
    clear r1 hb1 hb2 r2 hB2 hL hkn e hZ hbr
    go_enter Tryd.func12, Tryd.ntmps12
    go_wp2_with fail
    refine HN.mono ?_
    rintro e V9 ⟨rfl, hV9⟩
    subst V9
    clear HN
    have hbr : rb + 1 = bb := H2.out.2.2.2.symm
    go_wp2_with fail
    refine HS.mono ?_
    rintro e V3 ⟨rfl, hb3⟩
    clear y0 y1 y2 y3 HS
    have r3 := (hb3.block bb (lt_of_some H2.out.2.2.1)).trans H2.out.2.2.1
    have q3 := (hb3.block rb (lt_of_some H2.out.2.1)).trans H2.out.2.1
    have hB3 : Below w.heap.size w V3 := H2.out.1.trans (hb3.mono H2.out.1.size)
    have y0 : V3.cell? ⟨bb, 0, none⟩ = some (.int .i64 (tn : Int)) := by rw [cell_of_row _ _ _ _ _ _ r3]; rfl
    have y1 : V3.cell? ⟨bb, 1, none⟩ = some (.int .i64 (nn : Int)) := by rw [cell_of_row _ _ _ _ _ _ r3]; rfl
    have y2 : V3.cell? ⟨bb, 2, none⟩ = some (.slice none 0 0) := by rw [cell_of_row _ _ _ _ _ _ r3]; rfl
    have y3 : V3.cell? ⟨bb, 3, none⟩ = some (.string ⟨#[]⟩) := by rw [cell_of_row _ _ _ _ _ _ r3]; rfl
    have g3 := frozen_of_row V3 bb 3 _ _ r3
    obtain ⟨V4, hV4⟩ : ∃ V4, V3.setCell ⟨bb, 3, none⟩ (.string Z) = V4 := ⟨_, rfl⟩
    have r4 : V4.heap[bb]? = some (.cells #[.int .i64 (tn : Int), .int .i64 (nn : Int), .slice none 0 0, .string Z] 24 (0, 0)) := by rw [← hV4, heap_setCell_same _ _ _ _ _ _ r3]; rfl
    have q4 : V4.heap[rb]? = some (.cells #[.int .i64 0, .int .i64 0, .slice none 0 0, .string ⟨#[]⟩] 24 (0, 0)) := by rw [← hV4, heap_setCell_other _ _ _ _ (by show rb ≠ bb; omega)]; exact q3
    have hB4 : Below w.heap.size w V4 := by rw [← hV4]; exact hB3.setCell (show w.heap.size ≤ bb by have := HRB.out; omega) _
    have z0 : V4.cell? ⟨bb, 0, none⟩ = some (.int .i64 (tn : Int)) := by rw [cell_of_row _ _ _ _ _ _ r4]; rfl
    have z1 : V4.cell? ⟨bb, 1, none⟩ = some (.int .i64 (nn : Int)) := by rw [cell_of_row _ _ _ _ _ _ r4]; rfl
    have z2 : V4.cell? ⟨bb, 2, none⟩ = some (.slice none 0 0) := by rw [cell_of_row _ _ _ _ _ _ r4]; rfl
    have z3 : V4.cell? ⟨bb, 3, none⟩ = some (.string Z) := by rw [cell_of_row _ _ _ _ _ _ r4]; rfl
    have x0 : V4.cell? ⟨rb, 0, none⟩ = some (.int .i64 0) := by rw [cell_of_row _ _ _ _ _ _ q4]; rfl
    have x1 : V4.cell? ⟨rb, 1, none⟩ = some (.int .i64 0) := by rw [cell_of_row _ _ _ _ _ _ q4]; rfl
    have x2 : V4.cell? ⟨rb, 2, none⟩ = some (.slice none 0 0) := by rw [cell_of_row _ _ _ _ _ _ q4]; rfl
    have x3 : V4.cell? ⟨rb, 3, none⟩ = some (.string ⟨#[]⟩) := by rw [cell_of_row _ _ _ _ _ _ q4]; rfl
    have f0 := frozen_of_row V4 rb 0 _ _ q4
    have f1 := frozen_of_row V4 rb 1 _ _ q4
    have f2 := frozen_of_row V4 rb 2 _ _ q4
    have f3 := frozen_of_row V4 rb 3 _ _ q4
    obtain ⟨W5, hW5⟩ : ∃ W5, (((V4.setCell ⟨rb, 0, none⟩ (.int .i64 (tn : Int))).setCell ⟨rb, 1, none⟩ (.int .i64 (nn : Int))).setCell ⟨rb, 2, none⟩ (.slice none 0 0)).setCell ⟨rb, 3, none⟩ (.string Z) = W5 := ⟨_, rfl⟩
    have HE : Hid (TkTo w (⟨(tn : Int), (nn : Int), [], Z⟩, 0) (.returned (.tuple #[.agg #[.int .i64 (tn : Int), .int .i64 (nn : Int), .slice none 0 0, .string Z], .int .i64 0])) W5 ∧ W5.heap[rb]? = some (.cells #[.int .i64 (tn : Int), .int .i64 (nn : Int), .slice none 0 0, .string Z] 24 (0, 0))) := by
      refine ⟨⟨none, 0, 0, rfl, World.ownsRow_nil _ _ _ _, ?_⟩, by rw [← hW5]; exact set4 q4 _ _ _ _⟩
      rw [← hW5]
      exact below4s hB4 (Nat.le_of_eq HRB.out) _ _ _ _
    clear r3 q3 hb3 hB3 r4 q4 hB4 H2
    go_wp2
    refine bodyPost_ret (v := .tuple #[.agg #[.int .i64 (tn : Int), .int .i64 (nn : Int), .slice none 0 0, .string Z], .int .i64 0]) ?_ rfl HE.out.1
    exact res_tk (fn := Tryd.f12) (p := 6) (q := 7) (by rfl) _ _ rb _ (by rfl) HE.out.2 infoT4
end Go.Proofs.YtcmdcmbiilfngabDoor
