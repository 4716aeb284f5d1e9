/- How an ID that came in is opened out of a reading; what the laws want. Strings that came in; a store over a table of contents. -/
import Derived.Test.YtjpkngbjjgimjaaDoorKM
import Derived.Test.YtjpkngbjjgimjaaDoorCA
import Derived.SizedLaws
import Derived.WalkKit
import Derived.ProofKit
import Derived.OpenShut
import Derived.ShutString
import Derived.Test.YtjpkngbjjgimjaaDoorKQ
import Derived.SliceStrings
namespace Go.Proofs.YtjpkngbjjgimjaaDoor
open Go.ChangeShapes Go.WideShapes Go.ChangeAt Go.RowKit
set_option maxRecDepth 100000
theorem laidOut : laidOutB Tryd.prog = true := by kernel_rfl
theorem wf_i64 {n : Int} (h : (Lit.int .i64 n).wf = true) : -9223372036854775808 ≤ n ∧ n ≤ 9223372036854775807 := by
  simp [Lit.wf, IntKind.min, IntKind.max, IntKind.signed, IntKind.bits] at h
  omega
theorem cellsID : Tryd.prog.cellsOf 35 = 2 := by kernel_rfl
/-- An ID read out of two cells. -/
theorem id_of {H : Type} {enc : TypeId × Value → H} {W : World} {base : Nat} {spare : Nat → Bool} {held : Bool} {fuel : Nat} {cs : List Value} {x : DataW H × List MemPlace} (hf : DataW.trod enc Tryd.prog W base spare held fuel 35 cs = some x)
    (hw : ∀ n ∈ x.1.weights Tryd.prog 35, n ≤ reachBytes) : ∃ (s : ByteArray) (n : Int), cs = [.string s, .int .i64 n] ∧ s.size ≤ 140737488351232 ∧ (-9223372036854775808 ≤ n ∧ n ≤ 9223372036854775807) := by
  obtain ⟨xs, n, _, hx0, hl, hx, hi⟩ := DataW.trod_struct Tryd.underlying35 hf
  rw [cellsID] at hl
  match cs, hl with
  | [c0, c1], _ =>
    match xs, hx with
    | [x0, x1], _ =>
      have h0 : DataW.trod enc Tryd.prog W base spare held n 9 (([c0, c1].drop 0).take (Tryd.prog.cellsOf 9)) = some x0 := hi 0 _ rfl
      rw [show Tryd.prog.cellsOf 9 = 1 by kernel_rfl, show ([c0, c1].drop 0).take 1 = [c0] from rfl] at h0
      have h1 : DataW.trod enc Tryd.prog W base spare held n 3 (([c0, c1].drop 1).take (Tryd.prog.cellsOf 3)) = some x1 := hi 1 _ rfl
      rw [show Tryd.prog.cellsOf 3 = 1 by kernel_rfl, show ([c0, c1].drop 1).take 1 = [c1] from rfl] at h1
      obtain ⟨y0, e0, f0, w0⟩ := DataW.trod_string Tryd.underlying9 h0
      obtain ⟨y1, e1, f1, w1⟩ := DataW.trod_int Tryd.underlying3 h1
      simp only [List.cons.injEq, and_true] at e0 e1
      subst e0 e1
      subst hx0
      have key : y0.size ≤ 140737488351232 := by
        have := hw y0.data.toList.length (by
          simp only [DataW.weights, Tryd.underlying35]
          exact DataW.weights_mem_each (ts := [9, 3]) (j := 0) rfl (d := .lit (.string y0.data.toList)) (by simp [f0]) _ (by simp [DataW.weights]))
        simpa [reachBytes] using this
      exact ⟨y0, y1, rfl, key, wf_i64 w1⟩
theorem id_arg {H : Type} {enc : TypeId × Value → H} {W : World} {b0 base : Nat} {spare : Nat → Bool} {held : Bool} {v : Value} {d : DataW H} {p : List MemPlace} {ts : List TypeId} {ds : List (DataW H)} {j : Nat} (hv : Value.okWide Tryd.prog W .any b0 35 v) (h : DataW.Trod enc Tryd.prog W base spare held 35 v d p)
    (hsz : (DataW.weightsEach Tryd.prog ts ds).all (· ≤ reachBytes) = true) (ht : ts[j]? = some 35) (hd : ds[j]? = some d) : ∃ (s : ByteArray) (n : Int), v = .agg #[.string s, .int .i64 n] ∧ s.size ≤ 140737488351232 ∧ (-9223372036854775808 ≤ n ∧ n ≤ 9223372036854775807) := by
  unfold Value.okWide at hv
  rw [Tryd.underlying35] at hv
  obtain ⟨cs, rfl, _, _⟩ := hv
  obtain ⟨fuel, hf⟩ := h
  obtain ⟨s, n, ho, h1, h2⟩ := id_of (cs := cs.toList) (by simpa [Value.cells] using hf) (fun n hn => by
    have := List.all_eq_true.1 hsz n (DataW.weights_mem_each ht hd n hn)
    simpa using this)
  exact ⟨s, n, by congr 1; exact Array.toList_inj.1 ho, h1, h2⟩
end Go.Proofs.YtjpkngbjjgimjaaDoor
namespace Go.Proofs.YtjpkngbjjgimjaaDoor
open Go.ChangeShapes Go.WideShapes Go.ChangeAt Go.RowKit
/-- What a walk is told of a slice of strings: its strings, by the cells from its address on. -/
def Ss (w : World) (a : Option Addr) (len cap : Nat) (ss : List ByteArray) : Prop :=
  ss.length = len ∧ len ≤ cap ∧ cap ≤ 9223372036854775807 ∧ (a = none → cap = 0) ∧ ∀ ad, a = some ad → ∀ i (h : i < ss.length), w.cell? (ad.add i) = some (.string ss[i])
theorem Ss.at {w : World} {a : Option Addr} {len cap : Nat} {ss : List ByteArray} (h : Ss w a len cap ss) (h0 : 0 < len) :
    ∃ b off, a = some ⟨b, off, none⟩ ∧ ∀ i (h : i < ss.length), w.cell? ⟨b, off + i, none⟩ = some (.string ss[i]) := by
  obtain ⟨h1, h2, h3, h4, h5⟩ := h
  cases a with
  | none => have := h4 rfl; omega
  | some ad =>
    obtain ⟨b, off, spot⟩ := ad
    have hc := h5 _ rfl 0 (by omega)
    have hspot : spot = none := by simpa [Addr.add] using World.cell?_spot hc
    subst hspot
    refine ⟨b, off, rfl, fun i hi => ?_⟩
    have := h5 _ rfl i hi
    rwa [Addr.add_lit] at this
theorem Ss.on {w w' : World} {a : Option Addr} {len cap : Nat} {ss : List ByteArray} (h : Ss w a len cap ss) (hb : Below w.heap.size w w') : Ss w' a len cap ss := by
  refine ⟨h.1, h.2.1, h.2.2.1, h.2.2.2.1, fun ad had i hi => ?_⟩
  have := h.2.2.2.2 ad had i hi
  rw [hb.cell (World.block_lt_of_cell? w _ this)]
  exact this
theorem mem_weightsAll {H : Type} {P : Program} {e : TypeId} {d : DataW H} : ∀ {l : List (DataW H)}, d ∈ l → ∀ n ∈ d.weights P e, n ∈ DataW.weightsAll P e l
  | x :: l, h, n, hn => by
    simp only [DataW.weightsAll, List.mem_append]
    rcases List.mem_cons.1 h with rfl | h
    · exact .inl hn
    · exact .inr (mem_weightsAll h n hn)
theorem strs_of {H : Type} {enc : TypeId × Value → H} {W : World} {base : Nat} {held : Bool} {fuel : Nat} {a : Option Addr} {len cap : Nat} {d : DataW H} {p : List MemPlace} {ts : List TypeId} {ds : List (DataW H)} {j : Nat}
    (hf : DataW.trod enc Tryd.prog W base (fun _ => true) held fuel 51 [.slice a len cap] = some (d, p)) (hsz : (DataW.weightsEach Tryd.prog ts ds).all (· ≤ reachBytes) = true) (ht : ts[j]? = some 51) (hd : ds[j]? = some d) :
    ∃ ss, Ss W a len cap ss ∧ ∀ i (h : i < ss.length), (ss[i]).size ≤ 140737488351232 := by
  rcases open_strings Tryd.underlying51 Tryd.underlying9 (by kernel_rfl) hf with ⟨hcs, hx⟩ | ⟨x, l, c, all, hcs, _, hl, hm, hz, hx, hcell, _⟩
  · simp only [List.cons.injEq, Value.slice.injEq, and_true] at hcs
    obtain ⟨rfl, rfl, rfl⟩ := hcs
    exact ⟨[], ⟨rfl, by omega, by omega, fun _ => rfl, by intro ad h; cases h⟩, fun i h => absurd h (by simp)⟩
  · simp only [List.cons.injEq, Value.slice.injEq, and_true] at hcs
    obtain ⟨rfl, rfl, rfl⟩ := hcs
    simp only [if_true] at hz
    simp only [Prod.mk.injEq] at hx
    obtain ⟨rfl, _⟩ := hx
    refine ⟨all.take len, ⟨by simp; omega, hl, by simpa [maxLen] using hm, (by intro e; cases e), ?_⟩, ?_⟩
    · intro ad had i hi
      cases had
      simp only [List.length_take] at hi
      rw [hcell i (by omega)]
      simp only [List.getElem_take]
      congr 2
      rw [List.getD_eq_getElem?_getD, List.getElem?_eq_getElem (by omega)]
      rfl
    · intro i hi
      have hmem : (all.take len)[i] ∈ all.take len := List.getElem_mem hi
      have hw := List.all_eq_true.1 hsz ((all.take len)[i]).data.toList.length (DataW.weights_mem_each ht hd _ (by
        simp only [DataW.weights, Tryd.underlying51, List.mem_cons, List.mem_append]
        refine .inr (.inl (mem_weightsAll (d := .lit (.string ((all.take len)[i]).data.toList)) (List.mem_map.2 ⟨_, hmem, rfl⟩) _ (by simp [DataW.weights]))))
      )
      simpa [reachBytes] using hw
section
variable {h0 : Nat} {F : Nat → Prop} {w : World} {st tb W : Nat} {full : Int} {T : List Pr}
/-- The table's row: how many entries it has. -/
theorem Cs.row (h : Cs h0 F w st tb W full T) : ∃ a c, w.heap[tb]? = some (.cells #[.slice a T.length c, .int .i64 full] 30 (0, 0)) ∧ w.cell? ⟨tb, 0, none⟩ = some (.slice a T.length c) := by
  obtain ⟨a, n, c, h1, h2⟩ := h.tat
  have := h2.len
  subst this
  exact ⟨a, c, h1, by rw [cell_of_row _ _ _ _ _ _ h1]; rfl⟩
theorem Cs.c1 (h : Cs h0 F w st tb W full T) : w.cell? ⟨st, 1, none⟩ = some (.int .i64 (W : Int)) := by rw [cell_of_row _ _ _ _ _ _ h.stat]; rfl
/-- What Put leaves of a table of contents: bytes that are there get one reference more, new ones stand there as long as there is room. -/
theorem Tb.puts {k : Nat} {data : ByteArray} {e : Ending} {w' : World} (hT : Tb W k T) (hk : k ≤ 200) (hW : W ≤ 32) (hd : data.size ≤ 128) (ht : PuTo h0 F w st tb W full T data e w') :
    ∃ (F' : Nat → Prop) (T' : List Pr) (s : ByteArray) (n f : Int), Fr F w F' w' ∧ Below h0 w w' ∧ Cs h0 F' w' st tb W full T' ∧ Tb W (k + 1) T' ∧ e = .returned (.tuple #[.agg #[.string s, .int .i64 n], .int .i64 f]) ∧
      ((There W T data ∧ f = 0 ∧ T'.length = T.length) ∨ (¬ There W T data ∧ (full < 0 ∨ (T.length : Int) < full) ∧ f = 0) ∨ (¬ There W T data ∧ ¬ (full < 0 ∨ (T.length : Int) < full) ∧ f = 5 ∧ T'.length = T.length)) := by
  obtain ⟨F', h1, h2, hif⟩ := ht
  by_cases hth : There W T data
  · obtain ⟨o1, o2, o3, o4⟩ := hT.old hW hth
    have hi := (get_mem hT.rise o1).1
    have hi : isT T (keyB (namedF W T data).sum (namedF W T data).n) = true := hi
    have hsm := hT.small
    rw [if_pos ⟨hd, o2.2.1, by have := o2.2.2.2.1; omega, by unfold roomT; rw [hi]; rfl⟩] at hif
    exact ⟨F', _, _, _, 0, h1, h2, hif.2, hT.put (by omega) o2.1 o2.2.1 o2.2.2.2.1 o2.2.2.2.2, hif.1, .inl ⟨hth, rfl, put_same _ hi⟩⟩
  · obtain ⟨m, e1, e2, e3⟩ := hT.new hW hth
    have hfew := hT.few
    have e3 := e3 (by omega)
    rw [e1] at hif
    simp only at hif
    have hr : roomT T full (keyB (digW W data) m) = (decide (full < 0) || decide ((T.length : Int) < full)) := by unfold roomT; rw [e3, Bool.false_or]
    by_cases hf : full < 0 ∨ (T.length : Int) < full
    · rw [if_pos ⟨hd, by omega, by omega, by rw [hr]; simpa using hf⟩] at hif
      refine ⟨F', _, _, _, 0, h1, h2, hif.2, ?_, hif.1, .inr (.inl ⟨hth, hf, rfl⟩)⟩
      exact hT.put (c := ⟨digW W data, m, 0, data⟩) (by omega) (digW_size W hW data) (by show m < 256; omega) (Nat.zero_le _) hd
    · rw [if_neg (fun hh => hf (by have := hh.2.2.2; rw [hr] at this; simpa using this)), if_pos hd] at hif
      exact ⟨F', T, _, _, 5, h1, h2, hif.2, hT.mono (by omega) (by omega), hif.1, .inr (.inr ⟨hth, hf, rfl, rfl⟩)⟩
end
end Go.Proofs.YtjpkngbjjgimjaaDoor
