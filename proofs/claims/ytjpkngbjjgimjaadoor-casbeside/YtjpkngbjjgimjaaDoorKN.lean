/- How an ID that came in is opened out of a reading; what the laws want. -/
import Derived.Test.YtjpkngbjjgimjaaDoorKM
import Derived.Test.YtjpkngbjjgimjaaDoorZ
import Derived.SizedLaws
import Derived.WalkKit
import Derived.ProofKit
import Derived.OpenShut
import Derived.ShutString
namespace Go.Proofs.YtjpkngbjjgimjaaDoor
open Go.ChangeShapes Go.WideShapes Go.ChangeAt Go.RowKit
set_option maxRecDepth 100000
theorem laidOut : laidOutB Tryd.prog = true := by kernel_rfl
theorem wf_i64 {n : Int} (h : (Lit.int .i64 n).wf = true) : -9223372036854775808 ≤ n ∧ n ≤ 9223372036854775807 := by
  simp [Lit.wf, IntKind.min, IntKind.max, IntKind.signed, IntKind.bits] at h
  omega
theorem cellsID : Tryd.prog.cellsOf 35 = 2 := by kernel_rfl
/-- An ID read out of two cells. -/
theorem id_of {H : Type} {enc : TypeId × Value → H} {W : World} {base : Nat} {spare : Nat → Bool} {held : Bool} {fuel : Nat} {cs : List Value} {x : DataW H × List MemPlace} (hf : DataW.trod enc Tryd.prog W base spare held fuel 35 cs = some x)
    (hw : ∀ n ∈ x.1.weights Tryd.prog 35, n ≤ reachBytes) : ∃ (s : ByteArray) (n : Int), cs = [.string s, .int .i64 n] ∧ s.size ≤ 140737488351232 ∧ (-9223372036854775808 ≤ n ∧ n ≤ 9223372036854775807) := by
  obtain ⟨xs, n, _, hx0, hl, hx, hi⟩ := DataW.trod_struct Tryd.underlying35 hf
  rw [cellsID] at hl
  match cs, hl with
  | [c0, c1], _ =>
    match xs, hx with
    | [x0, x1], _ =>
      have h0 : DataW.trod enc Tryd.prog W base spare held n 9 (([c0, c1].drop 0).take (Tryd.prog.cellsOf 9)) = some x0 := hi 0 _ rfl
      rw [show Tryd.prog.cellsOf 9 = 1 by kernel_rfl, show ([c0, c1].drop 0).take 1 = [c0] from rfl] at h0
      have h1 : DataW.trod enc Tryd.prog W base spare held n 3 (([c0, c1].drop 1).take (Tryd.prog.cellsOf 3)) = some x1 := hi 1 _ rfl
      rw [show Tryd.prog.cellsOf 3 = 1 by kernel_rfl, show ([c0, c1].drop 1).take 1 = [c1] from rfl] at h1
      obtain ⟨y0, e0, f0, w0⟩ := DataW.trod_string Tryd.underlying9 h0
      obtain ⟨y1, e1, f1, w1⟩ := DataW.trod_int Tryd.underlying3 h1
      simp only [List.cons.injEq, and_true] at e0 e1
      subst e0 e1
      subst hx0
      have key : y0.size ≤ 140737488351232 := by
        have := hw y0.data.toList.length (by
          simp only [DataW.weights, Tryd.underlying35]
          exact DataW.weights_mem_each (ts := [9, 3]) (j := 0) rfl (d := .lit (.string y0.data.toList)) (by simp [f0]) _ (by simp [DataW.weights]))
        simpa [reachBytes] using this
      exact ⟨y0, y1, rfl, key, wf_i64 w1⟩
theorem id_arg {H : Type} {enc : TypeId × Value → H} {W : World} {b0 base : Nat} {spare : Nat → Bool} {held : Bool} {v : Value} {d : DataW H} {p : List MemPlace} {ts : List TypeId} {ds : List (DataW H)} {j : Nat} (hv : Value.okWide Tryd.prog W .any b0 35 v) (h : DataW.Trod enc Tryd.prog W base spare held 35 v d p)
    (hsz : (DataW.weightsEach Tryd.prog ts ds).all (· ≤ reachBytes) = true) (ht : ts[j]? = some 35) (hd : ds[j]? = some d) : ∃ (s : ByteArray) (n : Int), v = .agg #[.string s, .int .i64 n] ∧ s.size ≤ 140737488351232 ∧ (-9223372036854775808 ≤ n ∧ n ≤ 9223372036854775807) := by
  unfold Value.okWide at hv
  rw [Tryd.underlying35] at hv
  obtain ⟨cs, rfl, _, _⟩ := hv
  obtain ⟨fuel, hf⟩ := h
  obtain ⟨s, n, ho, h1, h2⟩ := id_of (cs := cs.toList) (by simpa [Value.cells] using hf) (fun n hn => by
    have := List.all_eq_true.1 hsz n (DataW.weights_mem_each ht hd n hn)
    simpa using this)
  exact ⟨s, n, by congr 1; exact Array.toList_inj.1 ho, h1, h2⟩
end Go.Proofs.YtjpkngbjjgimjaaDoor
