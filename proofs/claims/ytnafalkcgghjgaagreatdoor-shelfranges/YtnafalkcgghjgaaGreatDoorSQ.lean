/- A Shelf that is nil: Commit, Abort; light; an Op that came in. -/
import Derived.Test.YtnafalkcgghjgaaGreatDoorSZ
import Derived.Test.YtnafalkcgghjgaaGreatDoorJP
import Derived.WalkKit
import Derived.ProofKit
import Derived.OpenShut
import Derived.SizedLaws
namespace Go.Proofs.YtnafalkcgghjgaaGreatDoor
open Go.ChangeShapes Go.WideShapes Go.ChangeAt Go.RowKit Go.Shelf
theorem scommit_nil (w : World) : Calls Tryz.prog 20 #[.pointer none] w fun e w' => e = .returned (.int .i64 1) ∧ w' = w := by
  go_enter Tryz.func20, Tryz.ntmps20
  go_wp2
  go_ret
  exact ⟨rfl, rfl⟩
theorem sabort_nil (w : World) : Calls Tryz.prog 21 #[.pointer none] w fun e w' => e = .returned (.tuple #[]) ∧ w' = w := by
  go_enter Tryz.func21, Tryz.ntmps21
  go_wp2
  refine bodyPost_ret (v := .tuple #[]) ?_ rfl ⟨rfl, rfl⟩
  simp [results, go_sem]
/-- What an Op says. -/
structure OV where
  kind : Int
  n : Int
  long : Int
  key : ByteArray
  til : ByteArray
  value : ByteArray
def OV.agg (o : OV) : Value := .agg #[.int .i64 o.kind, .int .i64 o.n, .int .i64 o.long, .string o.key, .string o.til, .string o.value]
def OV.cells (o : OV) : List Value := [.int .i64 o.kind, .int .i64 o.n, .int .i64 o.long, .string o.key, .string o.til, .string o.value]
/-- What came in is in the reach. -/
def OV.In (o : OV) : Prop := (-9223372036854775808 ≤ o.kind ∧ o.kind ≤ 9223372036854775807) ∧ (-9223372036854775808 ≤ o.n ∧ o.n ≤ 9223372036854775807) ∧ (-9223372036854775808 ≤ o.long ∧ o.long ≤ 9223372036854775807) ∧ o.key.size ≤ 140737488351232 ∧ o.til.size ≤ 140737488351232 ∧ o.value.size ≤ 140737488351232
def OV.w (o : OV) : Nat := o.key.size + o.til.size + o.value.size
set_option maxHeartbeats 1000000 in
theorem light_any (o : OV) (h : o.In) (w : World) : Calls Tryz.prog 10 #[o.agg] w fun e w' => e = .returned (.bool (decide (o.w ≤ 2000))) ∧ Below w.heap.size w w' := by
  obtain ⟨_, _, _, h3, h4, h5⟩ := h
  obtain ⟨k, n, l, key, til, v⟩ := o
  unfold OV.agg OV.w
  simp only at h3 h4 h5 ⊢
  have e2 : decide ((key.size : Int) + (til.size : Int) + (v.size : Int) ≤ 2000) = decide (key.size + til.size + v.size ≤ 2000) := by
    by_cases h : key.size + til.size + v.size ≤ 2000
    · rw [decide_eq_true h, decide_eq_true (by omega)]
    · rw [decide_eq_false h, decide_eq_false (by omega)]
  have HE : Hid (decide ((key.size : Int) + (til.size : Int) + (v.size : Int) ≤ 2000) = decide (key.size + til.size + v.size ≤ 2000)) := e2
  clear e2
  have b1 : -9223372036854775808 ≤ (key.size : Int) + (til.size : Int) := by omega
  have b2 : (key.size : Int) + (til.size : Int) ≤ 9223372036854775807 := by omega
  have b3 : -9223372036854775808 ≤ (key.size : Int) + (til.size : Int) + (v.size : Int) := by omega
  have b4 : (key.size : Int) + (til.size : Int) + (v.size : Int) ≤ 9223372036854775807 := by omega
  go_enter Tryz.func10, Tryz.ntmps10
  go_wp2
  go_ret
  refine ⟨by rw [← HE.out]; rfl, (Below.refl _ w).alloc (Nat.le_refl _) _⟩
set_option maxRecDepth 100000
theorem cellsOp : Tryz.prog.cellsOf 31 = 6 := by kernel_rfl
/-- An Op read out of six cells. -/
theorem op_of {H : Type} {enc : TypeId × Value → H} {W : World} {base : Nat} {spare : Nat → Bool} {held : Bool} {fuel : Nat} {cs : List Value} {x : DataW H × List MemPlace} (hf : DataW.trod enc Tryz.prog W base spare held fuel 31 cs = some x)
    (hw : ∀ n ∈ x.1.weights Tryz.prog 31, n ≤ reachBytes) : ∃ o : OV, cs = o.cells ∧ o.In := by
  obtain ⟨xs, n, _, hx0, hl, hx, hi⟩ := DataW.trod_struct Tryz.underlying31 hf
  rw [cellsOp] at hl
  match cs, hl with
  | [c0, c1, c2, c3, c4, c5], _ =>
    match xs, hx with
    | [x0, x1, x2, x3, x4, x5], _ =>
      have h0 : DataW.trod enc Tryz.prog W base spare held n 3 (([c0, c1, c2, c3, c4, c5].drop 0).take (Tryz.prog.cellsOf 3)) = some x0 := hi 0 _ rfl
      rw [show Tryz.prog.cellsOf 3 = 1 by kernel_rfl, show ([c0, c1, c2, c3, c4, c5].drop 0).take 1 = [c0] from rfl] at h0
      have h1 : DataW.trod enc Tryz.prog W base spare held n 3 (([c0, c1, c2, c3, c4, c5].drop 1).take (Tryz.prog.cellsOf 3)) = some x1 := hi 1 _ rfl
      rw [show Tryz.prog.cellsOf 3 = 1 by kernel_rfl, show ([c0, c1, c2, c3, c4, c5].drop 1).take 1 = [c1] from rfl] at h1
      have h2 : DataW.trod enc Tryz.prog W base spare held n 3 (([c0, c1, c2, c3, c4, c5].drop 2).take (Tryz.prog.cellsOf 3)) = some x2 := hi 2 _ rfl
      rw [show Tryz.prog.cellsOf 3 = 1 by kernel_rfl, show ([c0, c1, c2, c3, c4, c5].drop 2).take 1 = [c2] from rfl] at h2
      have h3 : DataW.trod enc Tryz.prog W base spare held n 9 (([c0, c1, c2, c3, c4, c5].drop 3).take (Tryz.prog.cellsOf 9)) = some x3 := hi 3 _ rfl
      rw [show Tryz.prog.cellsOf 9 = 1 by kernel_rfl, show ([c0, c1, c2, c3, c4, c5].drop 3).take 1 = [c3] from rfl] at h3
      have h4 : DataW.trod enc Tryz.prog W base spare held n 9 (([c0, c1, c2, c3, c4, c5].drop 4).take (Tryz.prog.cellsOf 9)) = some x4 := hi 4 _ rfl
      rw [show Tryz.prog.cellsOf 9 = 1 by kernel_rfl, show ([c0, c1, c2, c3, c4, c5].drop 4).take 1 = [c4] from rfl] at h4
      have h5 : DataW.trod enc Tryz.prog W base spare held n 9 (([c0, c1, c2, c3, c4, c5].drop 5).take (Tryz.prog.cellsOf 9)) = some x5 := hi 5 _ rfl
      rw [show Tryz.prog.cellsOf 9 = 1 by kernel_rfl, show ([c0, c1, c2, c3, c4, c5].drop 5).take 1 = [c5] from rfl] at h5
      obtain ⟨y0, e0, f0, w0⟩ := DataW.trod_int Tryz.underlying3 h0
      obtain ⟨y1, e1, f1, w1⟩ := DataW.trod_int Tryz.underlying3 h1
      obtain ⟨y2, e2, f2, w2⟩ := DataW.trod_int Tryz.underlying3 h2
      obtain ⟨y3, e3, f3, w3⟩ := DataW.trod_string Tryz.underlying9 h3
      obtain ⟨y4, e4, f4, w4⟩ := DataW.trod_string Tryz.underlying9 h4
      obtain ⟨y5, e5, f5, w5⟩ := DataW.trod_string Tryz.underlying9 h5
      simp only [List.cons.injEq, and_true] at e0 e1 e2 e3 e4 e5
      subst e0 e1 e2 e3 e4 e5
      subst hx0
      have key : ∀ (j : Nat) (s : ByteArray), ([3, 3, 3, 9, 9, 9] : List TypeId)[j]? = some 9 → ([x0, x1, x2, x3, x4, x5].map (·.1))[j]? = some (.lit (.string s.data.toList)) → s.size ≤ 140737488351232 := by
        intro j s hj hd
        have := hw s.data.toList.length (by
          simp only [DataW.weights, Tryz.underlying31]
          exact DataW.weights_mem_each hj hd _ (by simp [DataW.weights]))
        simpa [reachBytes] using this
      refine ⟨⟨y0, y1, y2, y3, y4, y5⟩, rfl, wf_i64 w0, wf_i64 w1, wf_i64 w2, key 3 y3 rfl ?_, key 4 y4 rfl ?_, key 5 y5 rfl ?_⟩
      · simp [f3]
      · simp [f4]
      · simp [f5]
theorem op_arg {H : Type} {enc : TypeId × Value → H} {W : World} {b0 base : Nat} {spare : Nat → Bool} {held : Bool} {v : Value} {d : DataW H} {p : List MemPlace} {ts : List TypeId} {ds : List (DataW H)} {j : Nat} (hv : Value.okWide Tryz.prog W .any b0 31 v) (h : DataW.Trod enc Tryz.prog W base spare held 31 v d p)
    (hsz : (DataW.weightsEach Tryz.prog ts ds).all (· ≤ reachBytes) = true) (ht : ts[j]? = some 31) (hd : ds[j]? = some d) : ∃ o : OV, v = o.agg ∧ o.In := by
  unfold Value.okWide at hv
  rw [Tryz.underlying31] at hv
  obtain ⟨cs, rfl, _, _⟩ := hv
  obtain ⟨fuel, hf⟩ := h
  obtain ⟨o, ho, hin⟩ := op_of (cs := cs.toList) (by simpa [Value.cells] using hf) (fun n hn => by
    have := List.all_eq_true.1 hsz n (DataW.weights_mem_each ht hd n hn)
    simpa using this)
  refine ⟨o, ?_, hin⟩
  unfold OV.agg
  congr 1
  exact Array.toList_inj.1 ho
end Go.Proofs.YtnafalkcgghjgaaGreatDoor
