/- Walks over slices.Grow of none and slices.Concat of two, at rows of caveats. -/
import Derived.Test.YtcmdcmbiilfngabDoorKE
import Derived.Lib.AppendZerosOnto
import Derived.Lib.Walk
namespace Go.Proofs.YtcmdcmbiilfngabDoor
open Go.RowKit
set_option maxRecDepth 100000 in
set_option maxHeartbeats 2000000 in
theorem grow_nil (m : Nat) (w : World) (h1 : 1 ≤ m) (h2 : m ≤ 1000) : Calls Tryd.prog 51 #[.slice none 0 0, .int .i64 (m : Int)] w fun e w' => ∃ g c, e = .returned (.slice (some ⟨g, 0, none⟩) 0 c) ∧ w'.ownsRow w.heap.size 39 3 (.slice (some ⟨g, 0, none⟩) 0 c) 0 (cvR []) ∧ Below w.heap.size w w' := by
  obtain ⟨i, hi, hz, hs, hbb⟩ := info_of infoCv
  have hz3 : (Value.agg #[.string ByteArray.empty, .int .i64 0, .int .i64 0]).cells.size = 3 := rfl
  obtain ⟨z, hzz⟩ : ∃ z, (Value.agg #[.string ByteArray.empty, .int .i64 0, .int .i64 0]) = z := ⟨_, rfl⟩
  rw [hzz] at hz hz3
  obtain ⟨G, hG⟩ : ∃ G, G = grownCap w m 0 39 := ⟨_, rfl⟩
  have hGm : m ≤ G := by rw [hG]; exact grownCap_ge w _ _ _
  have hGx : G ≤ maxLen := by rw [hG]; exact grownCap_le_maxLen w m 0 39 (by unfold maxLen; omega)
  obtain ⟨V, hV⟩ : ∃ V, w.drew.alloc (.cells ((#[] : Array Value) ++ Builtin.zeroCells z.cells m ++ Builtin.zeroCells z.cells (G - m)) 39) = V := ⟨_, rfl⟩
  have hrz : ∀ ty, (Builtin.append_ #[22, 3] ty #[.slice none 0 0, .int .i64 (m : Int)]).run Tryd.prog w = .ok (.slice (some ⟨w.heap.size, 0, none⟩) m G) V := fun ty => by
    have h := Lib.run_append_grow_zeros (P := Tryd.prog) w 22 3 ty 39 i z .i64 .i64 Tryd.underlying22 Tryd.underlying3 hi hz none 0 0 [] (run_firstCells_none w.drew i.size 0 0 0) m (by omega) (by omega) (by omega) (by omega) (by rw [hbb]; omega) (by rw [hbb]; exact growslice_fits (by omega) (by omega))
    rw [Nat.zero_add, ← hG, hV] at h
    exact h
  have hcs : ((#[] : Array Value) ++ Builtin.zeroCells z.cells m ++ Builtin.zeroCells z.cells (G - m)).size = G * 3 := by
    simp [Builtin.zeroCells, hz3]
    omega
  have HE : Hid (V.ownsRow w.heap.size 39 3 (.slice (some ⟨w.heap.size, 0, none⟩) 0 G) 0 (cvR []) ∧ Below w.heap.size w V) := by
    refine ⟨⟨rfl, .inr ⟨w.heap.size, G, _, rfl, Nat.le_refl _, ?_, by omega, hGx, hcs, by simp [cvR]⟩⟩, ?_⟩
    · rw [← hV]; exact heap_alloc_new w.drew _
    · rw [← hV]; exact (Below.refl _ w).drew.alloc (Nat.le_refl _) _
  have hG63 : G ≤ 9223372036854775807 := by unfold maxLen at hGx; exact hGx
  have k1 : (0 : Int) < (m : Int) := by omega
  clear hi hz hs hbb hz3 hzz hG hV hcs hGx
  go_enter Tryd.func51, Tryd.ntmps51
  go_wp2_with (at_builtin; refine wpList_app w rfl _ _ _ _ rfl rfl rfl (hrz _) ?_)
  all_goals (go_ret; exact ⟨_, _, rfl, HE.out⟩)
/-- A row of one's own that is handed on. -/
def CcTo (w : World) (l : List Cv) (e : Ending) (w' : World) : Prop := ∃ (a : Option Addr) (n c : Nat), e = .returned (.slice a n c) ∧ w'.ownsRow w.heap.size 39 3 (.slice a n c) n (cvR l) ∧ Below w.heap.size w w'
set_option maxRecDepth 100000 in
set_option maxHeartbeats 2000000 in
theorem concat_two {w : World} {g : Nat} {a b : Option Addr} {n c : Nat} {l : List Cv} {k : Cv} (hg : w.heap[g]? = some (.cells #[.slice a n c, .slice b 1 1] 22 (0, 0))) (h1 : Kw w a n c l) (h2 : Kw w b 1 1 [k]) (hn : n ≤ 100) : Calls Tryd.prog 35 #[.slice (some ⟨g, 0, none⟩) 2 2] w fun e w' => CcTo w (l ++ [k]) e w' := by
  have HK : Hid (∀ W, Below w.heap.size w W → W.cell? ⟨g, 0, none⟩ = some (.slice a n c) ∧ W.cell? ⟨g, 1, none⟩ = some (.slice b 1 1)) := fun W hW => by
    have r2 := (hW.block g (lt_of_some hg)).trans hg
    exact ⟨by rw [cell_of_row _ _ _ _ _ _ r2]; rfl, by rw [cell_of_row _ _ _ _ _ _ r2]; rfl⟩
  obtain ⟨x0, x1⟩ := HK.out w (Below.refl _ _)
  have HG := grow_nil (n + 1) w (by omega) (by omega)
  have HR : Hid (∀ W, Below w.heap.size w W → Kw W a n c l ∧ Kw W b 1 1 [k]) := fun W hW => ⟨h1.below hW, h2.below hW⟩
  obtain ⟨B, hB⟩ : ∃ B, w.heap.size = B := ⟨_, rfl⟩
  have HB0 : Hid (w.heap.size = B) := hB
  have k0 : ¬ (n : Int) < 0 := by omega
  obtain ⟨m, hm⟩ : ∃ m, n + 1 = m := ⟨_, rfl⟩
  have km : (n : Int) + 1 = (m : Int) := by omega
  have k2 : ¬ (m : Int) < 0 := by omega
  have hmb : m ≤ 101 := by omega
  rw [hm] at HG
  have HM : Hid (n + 1 = m) := hm
  clear hg h1 h2 hB hm
  go_enter Tryd.func35, Tryd.ntmps35
  go_wp2
  refine wp_loop_rounds 3 ?_
  rw [rounds_succ]
  go_wp2
  rw [rounds_succ]
  go_wp2
  rw [rounds_succ]
  go_wp2_with fail
  refine HG.mono ?_
  rintro e V1 ⟨g1, c1, rfl, ho1, hb1⟩
  clear x0 x1
  obtain ⟨x0, x1⟩ := HK.out V1 hb1
  obtain ⟨hk1, hk2⟩ := HR.out V1 hb1
  obtain ⟨aA, cA, VA, hrA, hoA, hgA, _⟩ := addK_own V1 ho1 hk1 (by omega) hb1.size
  have hbA : Below w.heap.size w VA := hb1.grown hgA hb1.size (fun j hj => (ho1.lt j (by rw [ob_slice]; exact hj)).1)
  obtain ⟨z0, z1⟩ := HK.out VA hbA
  obtain ⟨_, hk3⟩ := HR.out VA hbA
  rw [Nat.zero_add] at hrA hoA
  rw [List.nil_append] at hoA
  obtain ⟨aC, cC, VC, hrC, hoC, hgC, _⟩ := addK_own VA hoA hk3 (by omega) hbA.size
  have HE : Hid (CcTo w (l ++ [k]) (.returned (.slice aC m cC)) VC) := ⟨aC, m, cC, rfl, by rw [← HM.out]; exact hoC, hbA.grown hgC hbA.size (fun j hj => (hoA.lt j (by rw [ob_slice]; exact hj)).1)⟩
  have hrC2 : ∀ ty, (Builtin.append_ #[22, 22] ty #[.slice aA n cA, .slice b 1 1]).run Tryd.prog VA = .ok (.slice aC m cC) VC := by rw [← HM.out]; exact hrC
  clear HG ho1 hb1 hk1 hk2 hoA hgA hbA hk3 hoC hgC hrC
  go_wp2
  refine wp_loop_rounds 3 ?_
  rw [rounds_succ]
  go_wp2_with (at_builtin; refine wpList_app V1 rfl _ _ _ _ rfl rfl rfl (hrA _) ?_)
  rw [rounds_succ]
  go_wp2_with (at_builtin; refine wpList_app VA rfl _ _ _ _ rfl rfl rfl (hrC2 _) ?_)
  rw [rounds_succ]
  go_wp2
  go_ret
  exact HE.out
end Go.Proofs.YtcmdcmbiilfngabDoor
