/- Walk over the program's Mix. -/
import Derived.Test.YtmachfapcgjljabDoorBA
namespace Go.Proofs.YtmachfapcgjljabDoor
open Go.RowKit
theorem results_cell_tmp {fn : Func} {p s : Tmp} (h : fn.results = #[.cell p 26, .tmp s]) (tmps : Array Value) (w : World) (g : Nat) (t : TypeId) (cs : Array Value) (fr : Nat × Nat)
    (hp : tmps.getD p undef = .pointer (some ⟨g, 0, none⟩)) (hg : w.heap[g]? = some (.cells cs t fr)) (hi : (Tryd.prog.info? 26).map (·.size) = some cs.size) :
    (results fn tmps).run Tryd.prog w = .ok (.tuple #[.agg cs, tmps.getD s undef]) w := by
  have hp' : tmps[p]?.getD undef = .pointer (some ⟨g, 0, none⟩) := by simpa using hp
  have hl := run_loadVar_row (P := Tryd.prog) w g t 26 cs fr _ hg Tryd.underlying26 rfl hi
  simp [results, h, hp', asAddr, hl]
theorem store8 (W : World) (g : Nat) (n0 n1 n2 n3 n4 n5 n6 n7 o0 o1 o2 o3 o4 o5 o6 o7 : Nat) (hg : W.heap[g]? = some (.cells #[.int .u32 (o0 : Int), .int .u32 (o1 : Int), .int .u32 (o2 : Int), .int .u32 (o3 : Int), .int .u32 (o4 : Int), .int .u32 (o5 : Int), .int .u32 (o6 : Int), .int .u32 (o7 : Int)] 26 (0, 0))) :
    (storeCells ⟨g, 0, none⟩ (u32v [n0, n1, n2, n3, n4, n5, n6, n7]).toList).run Tryd.prog W = .ok () (W.setRow g (u32v [n0, n1, n2, n3, n4, n5, n6, n7])) := by
  rw [run_storeCells_at Tryd.prog g 0 26 _ 0 _ W hg (by show 0 + 0 + 8 ≤ 8; omega) (fun v hv => u32v_one _ v hv)]
  rfl

set_option maxRecDepth 100000 in
set_option maxHeartbeats 1000000 in
theorem mix_is (x : Addr) (cap : Nat) (bs : List UInt8) (s0 s1 s2 s3 s4 s5 s6 s7 n0 n1 n2 n3 n4 n5 n6 n7 : Nat) (w : World) (hsw : Wd [s0, s1, s2, s3, s4, s5, s6, s7]) (hxb : x.block < w.heap.size) (hB : ∀ i, i < 64 → w.cell? (x.add i) = some (.int .u8 (((bs.getD i 0).toNat : Nat) : Int)))
    (hL : Laid w) (hn : mixL kL [s0, s1, s2, s3, s4, s5, s6, s7] bs = [n0, n1, n2, n3, n4, n5, n6, n7]) :
    Calls Tryd.prog 9 #[.agg #[.int .u32 (s0 : Int), .int .u32 (s1 : Int), .int .u32 (s2 : Int), .int .u32 (s3 : Int), .int .u32 (s4 : Int), .int .u32 (s5 : Int), .int .u32 (s6 : Int), .int .u32 (s7 : Int)], .slice (some x) 64 cap] w fun e w' => e = .returned (.tuple #[.agg #[.int .u32 (n0 : Int), .int .u32 (n1 : Int), .int .u32 (n2 : Int), .int .u32 (n3 : Int), .int .u32 (n4 : Int), .int .u32 (n5 : Int), .int .u32 (n6 : Int), .int .u32 (n7 : Int)], .int .i64 0]) ∧ Below w.heap.size w w' := by
  obtain ⟨W1, hW1⟩ : ∃ W, W = (w.alloc (.cells #[.int .u32 (s0 : Int), .int .u32 (s1 : Int), .int .u32 (s2 : Int), .int .u32 (s3 : Int), .int .u32 (s4 : Int), .int .u32 (s5 : Int), .int .u32 (s6 : Int), .int .u32 (s7 : Int)] 26)).alloc (.cells #[.int .u32 0, .int .u32 0, .int .u32 0, .int .u32 0, .int .u32 0, .int .u32 0, .int .u32 0, .int .u32 0] 26) := ⟨_, rfl⟩
  have sz : ∀ (w : World) (o : Obj), (w.alloc o).heap.size = w.heap.size + 1 := fun w o => by simp
  have hb1 : Below w.heap.size w W1 := by rw [hW1]; exact ((Below.refl _ w).alloc (Nat.le_refl _) _).alloc (by rw [sz]; omega) _
  have hr1 : W1.heap[w.heap.size + 1]? = some (.cells #[.int .u32 0, .int .u32 0, .int .u32 0, .int .u32 0, .int .u32 0, .int .u32 0, .int .u32 0, .int .u32 0] 26 (0, 0)) := by rw [hW1]; exact sz w _ ▸ heap_alloc_new _ _
  have hz1 : W1.heap.size = w.heap.size + 2 := by rw [hW1, sz, sz]
  have HM : Hid (Calls Tryd.prog 17 #[.agg #[.int .u32 (s0 : Int), .int .u32 (s1 : Int), .int .u32 (s2 : Int), .int .u32 (s3 : Int), .int .u32 (s4 : Int), .int .u32 (s5 : Int), .int .u32 (s6 : Int), .int .u32 (s7 : Int)], .slice (some x) 64 cap] W1 fun e w' => e = .returned (.agg (u32v [n0, n1, n2, n3, n4, n5, n6, n7])) ∧ (storeCells ⟨w.heap.size + 1, 0, none⟩ (u32v [n0, n1, n2, n3, n4, n5, n6, n7]).toList).run Tryd.prog w' = .ok () (w'.setRow (w.heap.size + 1) (u32v [n0, n1, n2, n3, n4, n5, n6, n7])) ∧ (w'.setRow (w.heap.size + 1) (u32v [n0, n1, n2, n3, n4, n5, n6, n7])).heap[w.heap.size + 1]? = some (.cells (u32v [n0, n1, n2, n3, n4, n5, n6, n7]) 26 (0, 0)) ∧ Below w.heap.size w (w'.setRow (w.heap.size + 1) (u32v [n0, n1, n2, n3, n4, n5, n6, n7]))) := by
    have := mixed_any x cap bs s0 s1 s2 s3 s4 s5 s6 s7 W1 hsw (Nat.lt_of_lt_of_le hxb hb1.size) (fun i hi => by rw [hb1.cell (by rw [add_block]; exact hxb)]; exact hB i hi) (hL.below hb1).k
    rw [hn] at this
    refine Calls.mono this ?_
    rintro e w' ⟨rfl, hb⟩
    have hr : w'.heap[w.heap.size + 1]? = some (.cells #[.int .u32 0, .int .u32 0, .int .u32 0, .int .u32 0, .int .u32 0, .int .u32 0, .int .u32 0, .int .u32 0] 26 (0, 0)) := (hb.block _ (by omega)).trans hr1
    exact ⟨rfl, store8 w' (w.heap.size + 1) n0 n1 n2 n3 n4 n5 n6 n7 0 0 0 0 0 0 0 0 hr, setRow_heap _ _ _ _ _ _ hr, below_setRow (hb1.trans (hb.mono hb1.size)) _ (by omega) _⟩
  have HW1 : Hid (W1 = (w.alloc (.cells #[.int .u32 (s0 : Int), .int .u32 (s1 : Int), .int .u32 (s2 : Int), .int .u32 (s3 : Int), .int .u32 (s4 : Int), .int .u32 (s5 : Int), .int .u32 (s6 : Int), .int .u32 (s7 : Int)] 26)).alloc (.cells #[.int .u32 0, .int .u32 0, .int .u32 0, .int .u32 0, .int .u32 0, .int .u32 0, .int .u32 0, .int .u32 0] 26)) := hW1
  rw [hW1] at HM
  have hsz : (u32v [n0, n1, n2, n3, n4, n5, n6, n7]).size = 8 := rfl
  clear hW1 hb1 hr1 hz1 hL hB hn hsw hxb HW1
  go_enter Tryd.func9, Tryd.ntmps9
  go_wp2_with (go_at_call 17; refine HM.out.mono ?_; rintro e w3 ⟨rfl, hsto, hr3, hb3⟩; have HR3 : Hid ((w3.setRow (w.heap.size + 1) (u32v [n0, n1, n2, n3, n4, n5, n6, n7])).heap[w.heap.size + 1]? = some (.cells (u32v [n0, n1, n2, n3, n4, n5, n6, n7]) 26 (0, 0))) := hr3; have HB3 : Hid (Below w.heap.size w (w3.setRow (w.heap.size + 1) (u32v [n0, n1, n2, n3, n4, n5, n6, n7]))) := hb3; clear hr3 hb3)
  refine bodyPost_ret (v := .tuple #[.agg #[.int .u32 (n0 : Int), .int .u32 (n1 : Int), .int .u32 (n2 : Int), .int .u32 (n3 : Int), .int .u32 (n4 : Int), .int .u32 (n5 : Int), .int .u32 (n6 : Int), .int .u32 (n7 : Int)], .int .i64 0]) ?_ rfl ⟨rfl, HB3.out⟩
  exact results_cell_tmp (fn := Tryd.f9) (p := 4) (s := 5) (by rfl) _ _ (w.heap.size + 1) 26 (u32v [n0, n1, n2, n3, n4, n5, n6, n7]) (0, 0) (by rfl) HR3.out (by kernel_rfl)

set_option maxRecDepth 100000 in
set_option maxHeartbeats 1000000 in
theorem mix_not (a : Option Addr) (len cap : Nat) (s0 s1 s2 s3 s4 s5 s6 s7 : Nat) (w : World) (hl : len ≠ 64) :
    Calls Tryd.prog 9 #[.agg #[.int .u32 (s0 : Int), .int .u32 (s1 : Int), .int .u32 (s2 : Int), .int .u32 (s3 : Int), .int .u32 (s4 : Int), .int .u32 (s5 : Int), .int .u32 (s6 : Int), .int .u32 (s7 : Int)], .slice a len cap] w fun e w' => e = .returned (.tuple #[.agg #[.int .u32 0, .int .u32 0, .int .u32 0, .int .u32 0, .int .u32 0, .int .u32 0, .int .u32 0, .int .u32 0], .int .i64 1]) ∧ Below w.heap.size w w' := by
  have hli : decide ((len : Int) = 64) = false := by simp; omega
  have hlj : ((len : Int) == 64) = false := by simp; omega
  have sz : ∀ (w : World) (o : Obj), (w.alloc o).heap.size = w.heap.size + 1 := fun w o => by simp
  have HB : Hid (∀ X Y : Array Value, Below w.heap.size w ((w.alloc (.cells X 26)).alloc (.cells Y 26))) := fun X Y => ((Below.refl _ w).alloc (Nat.le_refl _) _).alloc (by rw [sz]; omega) _
  have HROW : Hid (∀ X Y : Array Value, ((w.alloc (.cells X 26)).alloc (.cells Y 26)).heap[w.heap.size + 1]? = some (.cells Y 26 (0, 0))) := fun X Y => sz w (.cells X 26) ▸ heap_alloc_new _ _
  clear sz
  go_enter Tryd.func9, Tryd.ntmps9
  go_wp2
  refine bodyPost_ret (v := .tuple #[.agg #[.int .u32 0, .int .u32 0, .int .u32 0, .int .u32 0, .int .u32 0, .int .u32 0, .int .u32 0, .int .u32 0], .int .i64 1]) ?_ rfl ⟨rfl, HB.out _ _⟩
  exact results_cell_tmp (fn := Tryd.f9) (p := 4) (s := 5) (by rfl) _ _ (w.heap.size + 1) 26 _ (0, 0) (by rfl) (HROW.out _ _) (by kernel_rfl)
end Go.Proofs.YtmachfapcgjljabDoor
