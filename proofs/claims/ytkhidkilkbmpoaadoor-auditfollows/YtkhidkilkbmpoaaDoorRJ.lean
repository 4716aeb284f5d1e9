/- How strings, ints and their arrays and slices are opened out of a reading, with the reach of strings. How arrays of two strings and of two ints are opened out of a reading. How entries, audits and bytes are opened out of a reading. -/
import Derived.Test.YtkhidkilkbmpoaaDoorCG
import Derived.Test.YtkhidkilkbmpoaaDoorBA
import Derived.SliceStrings
import Derived.SizedLaws
import Derived.WalkKit
import Derived.ProofKit
import Derived.OpenShut
import Derived.ShutString
import Derived.Test.YtkhidkilkbmpoaaDoorFA
import Derived.Deep.Slices
namespace Go.Proofs.YtkhidkilkbmpoaaDoor
open Go.ChangeShapes Go.WideShapes Go.ChangeAt Go.RowKit
theorem laidOut : laidOutB Tryd.prog = true := by kernel_rfl
theorem wf_i64 {n : Int} (h : (Lit.int .i64 n).wf = true) : -9223372036854775808 ≤ n ∧ n ≤ 9223372036854775807 := by
  simp [Lit.wf, IntKind.min, IntKind.max, IntKind.signed, IntKind.bits] at h
  omega
theorem mem_weightsAll {H : Type} {P : Program} {e : TypeId} {d : DataW H} : ∀ {l : List (DataW H)}, d ∈ l → ∀ n ∈ d.weights P e, n ∈ DataW.weightsAll P e l
  | x :: l, h, n, hn => by
    simp only [DataW.weightsAll, List.mem_append]
    rcases List.mem_cons.1 h with rfl | h
    · exact .inl hn
    · exact .inr (mem_weightsAll h n hn)
theorem strs_of {H : Type} {enc : TypeId × Value → H} {W : World} {base : Nat} {held : Bool} {fuel : Nat} {a : Option Addr} {len cap : Nat} {d : DataW H} {p : List MemPlace} {ts : List TypeId} {ds : List (DataW H)} {j : Nat}
    (hf : DataW.trod enc Tryd.prog W base (fun _ => true) held fuel 57 [.slice a len cap] = some (d, p)) (hsz : (DataW.weightsEach Tryd.prog ts ds).all (· ≤ reachBytes) = true) (ht : ts[j]? = some 57) (hd : ds[j]? = some d) :
    ∃ ss, Ss W a len cap ss ∧ ∀ i (h : i < ss.length), (ss[i]).size ≤ 140737488351232 := by
  rcases open_strings Tryd.underlying57 Tryd.underlying9 (by kernel_rfl) hf with ⟨hcs, hx⟩ | ⟨x, l, c, all, hcs, _, hl, hm, hz, hx, hcell, _⟩
  · simp only [List.cons.injEq, Value.slice.injEq, and_true] at hcs
    obtain ⟨rfl, rfl, rfl⟩ := hcs
    exact ⟨[], ⟨rfl, by omega, by omega, fun _ => rfl, by intro ad h; cases h⟩, fun i h => absurd h (by simp)⟩
  · simp only [List.cons.injEq, Value.slice.injEq, and_true] at hcs
    obtain ⟨rfl, rfl, rfl⟩ := hcs
    simp only [if_true] at hz
    simp only [Prod.mk.injEq] at hx
    obtain ⟨rfl, _⟩ := hx
    refine ⟨all.take len, ⟨by simp; omega, hl, by simpa [maxLen] using hm, (by intro e; cases e), ?_⟩, ?_⟩
    · intro ad had i hi
      cases had
      simp only [List.length_take] at hi
      rw [hcell i (by omega)]
      simp only [List.getElem_take]
      congr 2
      rw [List.getD_eq_getElem?_getD, List.getElem?_eq_getElem (by omega)]
      rfl
    · intro i hi
      have hmem : (all.take len)[i] ∈ all.take len := List.getElem_mem hi
      have hw := List.all_eq_true.1 hsz ((all.take len)[i]).data.toList.length (DataW.weights_mem_each ht hd _ (by
        simp only [DataW.weights, Tryd.underlying57, List.mem_cons, List.mem_append]
        refine .inr (.inl (mem_weightsAll (d := .lit (.string ((all.take len)[i]).data.toList)) (List.mem_map.2 ⟨_, hmem, rfl⟩) _ (by simp [DataW.weights]))))
      )
      simpa [reachBytes] using hw
end Go.Proofs.YtkhidkilkbmpoaaDoor
namespace Go.Proofs.YtkhidkilkbmpoaaDoor
open Go.ChangeShapes Go.WideShapes Go.ChangeAt Go.RowKit
theorem cells3 : Tryd.prog.cellsOf 3 = 1 := by kernel_rfl
theorem cells9 : Tryd.prog.cellsOf 9 = 1 := by kernel_rfl
end Go.Proofs.YtkhidkilkbmpoaaDoor
namespace Go.Proofs.YtkhidkilkbmpoaaDoor
open Go.ChangeShapes Go.WideShapes Go.ChangeAt Go.RowKit Go.Deep
/-- What came in: numbers and texts in their reach. -/
def En.In (c : En) : Prop := (-9223372036854775808 ≤ c.seq ∧ c.seq ≤ 9223372036854775807) ∧ (-9223372036854775808 ≤ c.time ∧ c.time ≤ 9223372036854775807) ∧ (-9223372036854775808 ≤ c.kind ∧ c.kind ≤ 9223372036854775807) ∧ (-9223372036854775808 ≤ c.errno ∧ c.errno ≤ 9223372036854775807) ∧ c.path.size ≤ 140737488351232
theorem cellsEn : Tryd.prog.cellsOf 36 = 5 := by kernel_rfl
set_option maxRecDepth 100000 in
theorem ent_of {H : Type} {enc : TypeId × Value → H} {W : World} {base : Nat} {spare : Nat → Bool} {held : Bool} {fuel : Nat} {cs : List Value} {x : DataW H × List MemPlace} (hf : DataW.trod enc Tryd.prog W base spare held fuel 36 cs = some x)
    (hw : ∀ n ∈ x.1.weights Tryd.prog 36, n ≤ reachBytes) : ∃ c : En, cs = [.int .i64 c.seq, .int .i64 c.time, .int .i64 c.kind, .string c.path, .int .i64 c.errno] ∧ c.In := by
  obtain ⟨xs, n, _, hx0, hl, hx, hi⟩ := DataW.trod_struct Tryd.underlying36 hf
  rw [cellsEn] at hl
  match cs, hl with
  | [c0, c1, c2, c3, c4], _ =>
    match xs, hx with
    | [x0, x1, x2, x3, x4], _ =>
      have h0 : DataW.trod enc Tryd.prog W base spare held n 3 (([c0, c1, c2, c3, c4].drop 0).take (Tryd.prog.cellsOf 3)) = some x0 := hi 0 _ rfl
      rw [show Tryd.prog.cellsOf 3 = 1 by kernel_rfl, show ([c0, c1, c2, c3, c4].drop 0).take 1 = [c0] from rfl] at h0
      have h1 : DataW.trod enc Tryd.prog W base spare held n 3 (([c0, c1, c2, c3, c4].drop 1).take (Tryd.prog.cellsOf 3)) = some x1 := hi 1 _ rfl
      rw [show Tryd.prog.cellsOf 3 = 1 by kernel_rfl, show ([c0, c1, c2, c3, c4].drop 1).take 1 = [c1] from rfl] at h1
      have h2 : DataW.trod enc Tryd.prog W base spare held n 3 (([c0, c1, c2, c3, c4].drop 2).take (Tryd.prog.cellsOf 3)) = some x2 := hi 2 _ rfl
      rw [show Tryd.prog.cellsOf 3 = 1 by kernel_rfl, show ([c0, c1, c2, c3, c4].drop 2).take 1 = [c2] from rfl] at h2
      have h3 : DataW.trod enc Tryd.prog W base spare held n 9 (([c0, c1, c2, c3, c4].drop 3).take (Tryd.prog.cellsOf 9)) = some x3 := hi 3 _ rfl
      rw [show Tryd.prog.cellsOf 9 = 1 by kernel_rfl, show ([c0, c1, c2, c3, c4].drop 3).take 1 = [c3] from rfl] at h3
      have h4 : DataW.trod enc Tryd.prog W base spare held n 34 (([c0, c1, c2, c3, c4].drop 4).take (Tryd.prog.cellsOf 34)) = some x4 := hi 4 _ rfl
      rw [show Tryd.prog.cellsOf 34 = 1 by kernel_rfl, show ([c0, c1, c2, c3, c4].drop 4).take 1 = [c4] from rfl] at h4
      obtain ⟨y0, e0, f0, w0⟩ := DataW.trod_int Tryd.underlying3 h0
      obtain ⟨y1, e1, f1, w1⟩ := DataW.trod_int Tryd.underlying3 h1
      obtain ⟨y2, e2, f2, w2⟩ := DataW.trod_int Tryd.underlying3 h2
      obtain ⟨y3, e3, f3, w3⟩ := DataW.trod_string Tryd.underlying9 h3
      obtain ⟨y4, e4, f4, w4⟩ := DataW.trod_int Tryd.underlying34 h4
      simp only [List.cons.injEq, and_true] at e0 e1 e2 e3 e4
      subst e0 e1 e2 e3 e4
      subst hx0
      have key : y3.size ≤ 140737488351232 := by
        have := hw y3.data.toList.length (by
          simp only [DataW.weights, Tryd.underlying36]
          exact DataW.weights_mem_each (ts := [3, 3, 3, 9, 34]) (j := 3) rfl (d := .lit (.string y3.data.toList)) (by simp [f3]) _ (by simp [DataW.weights]))
        simpa [reachBytes] using this
      exact ⟨⟨y0, y1, y2, y3, y4⟩, rfl, wf_i64 w0, wf_i64 w1, wf_i64 w2, wf_i64 w4, key⟩
set_option maxRecDepth 100000 in
theorem ent_arg {H : Type} {enc : TypeId × Value → H} {W : World} {b0 base : Nat} {spare : Nat → Bool} {held : Bool} {v : Value} {d : DataW H} {p : List MemPlace} {ts : List TypeId} {ds : List (DataW H)} {j : Nat} (hv : Value.okWide Tryd.prog W .any b0 36 v) (h : DataW.Trod enc Tryd.prog W base spare held 36 v d p)
    (hsz : (DataW.weightsEach Tryd.prog ts ds).all (· ≤ reachBytes) = true) (ht : ts[j]? = some 36) (hd : ds[j]? = some d) : ∃ c : En, v = .agg #[.int .i64 c.seq, .int .i64 c.time, .int .i64 c.kind, .string c.path, .int .i64 c.errno] ∧ c.In := by
  unfold Value.okWide at hv
  rw [Tryd.underlying36] at hv
  obtain ⟨cs, rfl, _, _⟩ := hv
  obtain ⟨fuel, hf⟩ := h
  obtain ⟨o, ho, hin⟩ := ent_of (cs := cs.toList) (by simpa [Value.cells] using hf) (fun n hn => by
    have := List.all_eq_true.1 hsz n (DataW.weights_mem_each ht hd n hn)
    simpa using this)
  refine ⟨o, ?_, hin⟩
  congr 1
  exact Array.toList_inj.1 ho
set_option maxRecDepth 100000 in
theorem ents_of {H : Type} {enc : TypeId × Value → H} {W : World} {base : Nat} {spare : Nat → Bool} {held : Bool} {fuel : Nat} {a : Option Addr} {len cap : Nat} {d : DataW H} {p : List MemPlace}
    (hf : DataW.trod enc Tryd.prog W base spare held fuel 22 [.slice a len cap] = some (d, p)) (hw : ∀ n ∈ d.weights Tryd.prog 22, n ≤ reachBytes) :
    ∃ ss, Ew W a len cap ss ∧ ∀ c ∈ ss, c.In := by
  rcases open_slice Tryd.underlying22 hf with ⟨hcs, _⟩ | ⟨ad, l, c, m, n, D, Pl, hcs, _, hl, hm, hmm, hx, hV⟩
  · simp only [List.cons.injEq, Value.slice.injEq, and_true] at hcs
    obtain ⟨rfl, rfl, rfl⟩ := hcs
    exact ⟨[], Rw.zero _ W 36 5 _ _ (Nat.zero_le _), fun s hs => by cases hs⟩
  · simp only [List.cons.injEq, Value.slice.injEq, and_true] at hcs
    obtain ⟨rfl, rfl, rfl⟩ := hcs
    obtain ⟨rfl, rfl⟩ := Prod.mk.inj hx
    have hlm : len ≤ m := by rw [hmm]; split <;> omega
    rw [cellsEn] at hV
    have hb : ∀ i, i < len → ∃ s : En, (W.cell? (ad.add (i * 5)) = some (.int .i64 s.seq) ∧ W.cell? ((ad.add (i * 5)).add 1) = some (.int .i64 s.time) ∧ W.cell? ((ad.add (i * 5)).add 2) = some (.int .i64 s.kind) ∧ W.cell? ((ad.add (i * 5)).add 3) = some (.string s.path) ∧ W.cell? ((ad.add (i * 5)).add 4) = some (.int .i64 s.errno)) ∧ s.In := by
      intro i hi
      obtain ⟨cs', h1, h2⟩ := hV i (by omega)
      obtain ⟨s, rfl, hr⟩ := ent_of h2 (fun n hn => hw n (by
        simp only [DataW.weights, Tryd.underlying22, List.mem_cons, List.mem_append]
        exact .inr (.inl (mem_weightsAll (d := D i) (List.mem_map.2 ⟨i, List.mem_range.2 hi, rfl⟩) n hn))))
      obtain ⟨_, _, hc⟩ := World.cells?_some h1
      refine ⟨s, ⟨?_, hc 1 (by omega), hc 2 (by omega), hc 3 (by omega), hc 4 (by omega)⟩, hr⟩
      have := hc 0 (by omega)
      rwa [show (ad.add (i * 5)).add 0 = ad.add (i * 5) by rw [add_add, Nat.add_zero]] at this
    obtain ⟨f, hf⟩ := @choose_lt En ⟨⟨0, 0, 0, ⟨#[]⟩, 0⟩⟩ _ _ hb
    refine ⟨(List.range len).map f, ⟨?_, hl, hm, fun h0 => ?_⟩, fun s hs => ?_⟩
    · unfold enR
      rw [fm_len enC_len, List.length_map, List.length_range]
    · obtain ⟨bb, oo, spot⟩ := ad
      have hspot : spot = none := by simpa [Addr.add] using World.cell?_spot (hf 0 h0).1.1
      subst hspot
      refine ⟨bb, oo, rfl, ?_, trivial, fun k u hu => ?_⟩
      · have := World.block_lt_of_cell? W _ (hf 0 h0).1.1
        rwa [add_at] at this
      · have hk : k < len * 5 := by
          have := (List.getElem?_eq_some_iff.1 hu).1
          unfold enR at this
          rw [fm_len enC_len, List.length_map, List.length_range] at this
          exact this
        obtain ⟨i, r, rfl, hr⟩ : ∃ i r, k = i * 5 + r ∧ r < 5 := ⟨k / 5, k % 5, by omega, by omega⟩
        have hi : i < len := by omega
        have h5 := hf i hi
        simp only [add_at] at h5
        have h6 : ((List.range len).map f)[i]? = some (f i) := by rw [List.getElem?_map, List.getElem?_range hi]; rfl
        have h7 : (enR ((List.range len).map f))[i * 5 + r]? = (enC (f i))[r]? := fm_at enC_len h6 r hr
        rw [h7] at hu
        have : r = 0 ∨ r = 1 ∨ r = 2 ∨ r = 3 ∨ r = 4 := by omega
        rcases this with rfl | rfl | rfl | rfl | rfl
        · obtain rfl := Option.some.inj hu
          exact h5.1.1
        · obtain rfl := Option.some.inj hu
          rw [← Nat.add_assoc]
          exact h5.1.2.1
        · obtain rfl := Option.some.inj hu
          rw [← Nat.add_assoc]
          exact h5.1.2.2.1
        · obtain rfl := Option.some.inj hu
          rw [← Nat.add_assoc]
          exact h5.1.2.2.2.1
        · obtain rfl := Option.some.inj hu
          rw [← Nat.add_assoc]
          exact h5.1.2.2.2.2
    · obtain ⟨i, hi, rfl⟩ := List.mem_map.1 hs
      exact (hf i (List.mem_range.1 hi)).2
theorem ents_arg {H : Type} {enc : TypeId × Value → H} {W : World} {base : Nat} {spare : Nat → Bool} {held : Bool} {fuel : Nat} {a : Option Addr} {len cap : Nat} {d : DataW H} {p : List MemPlace} {ts : List TypeId} {ds : List (DataW H)} {j : Nat}
    (hf : DataW.trod enc Tryd.prog W base spare held fuel 22 [.slice a len cap] = some (d, p)) (hsz : (DataW.weightsEach Tryd.prog ts ds).all (· ≤ reachBytes) = true) (ht : ts[j]? = some 22) (hd : ds[j]? = some d) :
    ∃ ss, Ew W a len cap ss ∧ ∀ c ∈ ss, c.In := ents_of hf (fun n hn => by
    have := List.all_eq_true.1 hsz n (DataW.weights_mem_each ht hd n hn)
    simpa using this)
theorem cellsRA : Tryd.prog.cellsOf 24 = 3 := by kernel_rfl
set_option maxRecDepth 100000 in
theorem aud_arg {H : Type} {enc : TypeId × Value → H} {W : World} {b0 base : Nat} {spare : Nat → Bool} {held : Bool} {v : Value} {d : DataW H} {p : List MemPlace} {ts : List TypeId} {ds : List (DataW H)} {j : Nat} (hv : Value.okWide Tryd.prog W .any b0 24 v) (h : DataW.Trod enc Tryd.prog W base spare held 24 v d p)
    (hsz : (DataW.weightsEach Tryd.prog ts ds).all (· ≤ reachBytes) = true) (ht : ts[j]? = some 24) (hd : ds[j]? = some d) : ∃ (s : ByteArray) (n : Int) (a : Option Addr) (len cap : Nat) (l : List En), v = .agg #[.string s, .int .i64 n, .slice a len cap] ∧ Ew W a len cap l ∧ (∀ c ∈ l, c.In) ∧ s.size ≤ 140737488351232 ∧ (-9223372036854775808 ≤ n ∧ n ≤ 9223372036854775807) := by
  have hw : ∀ n ∈ d.weights Tryd.prog 24, n ≤ reachBytes := fun n hn => by
    have := List.all_eq_true.1 hsz n (DataW.weights_mem_each ht hd n hn)
    simpa using this
  unfold Value.okWide at hv
  rw [Tryd.underlying24] at hv
  obtain ⟨cs, rfl, _, hok⟩ := hv
  obtain ⟨fuel, hf⟩ := h
  obtain ⟨xs, n, _, hx0, hl, hx, hi⟩ := DataW.trod_struct Tryd.underlying24 (show DataW.trod enc Tryd.prog W base spare held fuel 24 cs.toList = some (d, p) by simpa [Value.cells] using hf)
  rw [cellsRA] at hl
  obtain ⟨cl⟩ := cs
  simp only at hl hi
  match cl, hl with
  | [c0, c1, c2], _ =>
    match xs, hx with
    | [x0, x1, x2], _ =>
      have h0 : DataW.trod enc Tryd.prog W base spare held n 9 (([c0, c1, c2].drop 0).take (Tryd.prog.cellsOf 9)) = some x0 := hi 0 _ rfl
      rw [show Tryd.prog.cellsOf 9 = 1 by kernel_rfl, show ([c0, c1, c2].drop 0).take 1 = [c0] from rfl] at h0
      have h1 : DataW.trod enc Tryd.prog W base spare held n 3 (([c0, c1, c2].drop 1).take (Tryd.prog.cellsOf 3)) = some x1 := hi 1 _ rfl
      rw [show Tryd.prog.cellsOf 3 = 1 by kernel_rfl, show ([c0, c1, c2].drop 1).take 1 = [c1] from rfl] at h1
      have h2 : DataW.trod enc Tryd.prog W base spare held n 22 (([c0, c1, c2].drop 2).take (Tryd.prog.cellsOf 22)) = some x2 := hi 2 _ rfl
      rw [show Tryd.prog.cellsOf 22 = 1 by kernel_rfl, show ([c0, c1, c2].drop 2).take 1 = [c2] from rfl] at h2
      obtain ⟨y0, e0, f0, w0⟩ := DataW.trod_string Tryd.underlying9 h0
      obtain ⟨y1, e1, f1, w1⟩ := DataW.trod_int Tryd.underlying3 h1
      simp only [List.cons.injEq, and_true] at e0 e1
      subst e0 e1
      obtain ⟨hd0, _⟩ := Prod.mk.inj hx0
      subst hd0
      have key : y0.size ≤ 140737488351232 := by
        have := hw y0.data.toList.length (by
          simp only [DataW.weights, Tryd.underlying24]
          exact DataW.weights_mem_each (ts := [9, 3, 22]) (j := 0) rfl (d := .lit (.string y0.data.toList)) (by simp [f0]) _ (by simp [DataW.weights]))
        simpa [reachBytes] using this
      obtain ⟨a, len, cap, rfl⟩ : ∃ a len cap, c2 = .slice a len cap := by
        rcases open_slice Tryd.underlying22 h2 with ⟨hcs, _⟩ | ⟨ad, l, c, m, n, D, Pl, hcs, _⟩
        · exact ⟨none, 0, 0, by simpa using hcs⟩
        · exact ⟨_, _, _, by simpa using hcs⟩
      obtain ⟨d2, p2⟩ := x2
      obtain ⟨l, hk, hin⟩ := ents_of h2 (fun n hn => hw n (by
        simp only [DataW.weights, Tryd.underlying24]
        exact DataW.weights_mem_each (ts := [9, 3, 22]) (j := 2) rfl (d := d2) (by simp) _ hn))
      exact ⟨y0, y1, a, len, cap, l, rfl, hk, hin, key, wf_i64 w1⟩
theorem IsRow.bs {w : World} {a : Option Addr} {len cap : Nat} {zs : List Int} (h : IsRow .u8 w a len cap zs) : ∃ bs, Bs w a len cap bs := by
  rcases h with ⟨rfl, rfl, rfl, rfl⟩ | ⟨x, rfl, h1, h2, h3, h4, h5⟩
  · exact ⟨[], Bs.nil w⟩
  · refine ⟨(zs.take len).map fun z => UInt8.ofNat z.toNat, by simp; omega, h1, by simpa [maxLen] using h2, (by intro e; cases e), ?_⟩
    intro ad had i hi
    cases had
    simp only [List.length_map, List.length_take] at hi
    rw [h4 i (by omega)]
    have hz := wf_u8 (h5 (zs[i]'(by omega)) (List.getElem_mem _))
    simp only [List.getElem_map, List.getElem_take]
    congr 2
    rw [List.getD_eq_getElem?_getD, List.getElem?_eq_getElem (by omega)]
    simp only [Option.getD_some, UInt8.toNat_ofNat']
    omega
theorem bytes_arg {H : Type} {enc : TypeId × Value → H} {W : World} {base : Nat} {held : Bool} {fuel : Nat} {a : Option Addr} {len cap : Nat} {x : DataW H × List MemPlace} (hf : DataW.trod enc Tryd.prog W base (fun _ => true) held fuel 45 [.slice a len cap] = some x) : ∃ bs, Bs W a len cap bs ∧ True := by
  have key : ∃ zs, IsRow .u8 W a len cap zs := by
    rcases open_ints Tryd.underlying45 Tryd.underlying5 (by kernel_rfl) hf with ⟨hcs, _⟩ | ⟨x, l, c, zs, hcs, _, hl, hm, hz, _, hcell, hwz⟩
    · simp at hcs
      obtain ⟨rfl, rfl, rfl⟩ := hcs
      exact ⟨[], .inl ⟨rfl, rfl, rfl, rfl⟩⟩
    · simp at hcs
      obtain ⟨rfl, rfl, rfl⟩ := hcs
      exact ⟨zs, .inr ⟨_, rfl, hl, hm, by simpa using hz, hcell, hwz⟩⟩
  obtain ⟨zs, hz⟩ := key
  obtain ⟨bs, hb⟩ := hz.bs
  exact ⟨bs, hb, trivial⟩
end Go.Proofs.YtkhidkilkbmpoaaDoor
