/- How caveats and tokens are opened out of a reading. Prefixes of rows of caveats; a right, a time and a path that came in; what two tokens let. -/
import Derived.Test.YtcmdcmbiilfngaaDoorPA
import Derived.Test.YtcmdcmbiilfngaaDoorDB
import Derived.Deep.Slices
namespace Go.Proofs.YtcmdcmbiilfngaaDoor
open Go.ChangeShapes Go.WideShapes Go.ChangeAt Go.RowKit Go.Deep
/-- What came in: numbers and texts in their reach. -/
def Cv.In (c : Cv) : Prop := (-9223372036854775808 ≤ c.rights ∧ c.rights ≤ 9223372036854775807) ∧ (-9223372036854775808 ≤ c.til ∧ c.til ≤ 9223372036854775807) ∧ c.path.size ≤ 140737488351232
def Cv.agg (c : Cv) : Value := .agg #[.string c.path, .int .i64 c.rights, .int .i64 c.til]
theorem cellsCv : Tryd.prog.cellsOf 35 = 3 := by kernel_rfl
set_option maxRecDepth 100000 in
theorem cav_of {H : Type} {enc : TypeId × Value → H} {W : World} {base : Nat} {spare : Nat → Bool} {held : Bool} {fuel : Nat} {cs : List Value} {x : DataW H × List MemPlace} (hf : DataW.trod enc Tryd.prog W base spare held fuel 35 cs = some x)
    (hw : ∀ n ∈ x.1.weights Tryd.prog 35, n ≤ reachBytes) : ∃ c : Cv, cs = [.string c.path, .int .i64 c.rights, .int .i64 c.til] ∧ c.In := by
  obtain ⟨xs, n, _, hx0, hl, hx, hi⟩ := DataW.trod_struct Tryd.underlying35 hf
  rw [cellsCv] at hl
  match cs, hl with
  | [c0, c1, c2], _ =>
    match xs, hx with
    | [x0, x1, x2], _ =>
      have h0 : DataW.trod enc Tryd.prog W base spare held n 9 (([c0, c1, c2].drop 0).take (Tryd.prog.cellsOf 9)) = some x0 := hi 0 _ rfl
      rw [show Tryd.prog.cellsOf 9 = 1 by kernel_rfl, show ([c0, c1, c2].drop 0).take 1 = [c0] from rfl] at h0
      have h1 : DataW.trod enc Tryd.prog W base spare held n 33 (([c0, c1, c2].drop 1).take (Tryd.prog.cellsOf 33)) = some x1 := hi 1 _ rfl
      rw [show Tryd.prog.cellsOf 33 = 1 by kernel_rfl, show ([c0, c1, c2].drop 1).take 1 = [c1] from rfl] at h1
      have h2 : DataW.trod enc Tryd.prog W base spare held n 3 (([c0, c1, c2].drop 2).take (Tryd.prog.cellsOf 3)) = some x2 := hi 2 _ rfl
      rw [show Tryd.prog.cellsOf 3 = 1 by kernel_rfl, show ([c0, c1, c2].drop 2).take 1 = [c2] from rfl] at h2
      obtain ⟨y0, e0, f0, w0⟩ := DataW.trod_string Tryd.underlying9 h0
      obtain ⟨y1, e1, f1, w1⟩ := DataW.trod_int Tryd.underlying33 h1
      obtain ⟨y2, e2, f2, w2⟩ := DataW.trod_int Tryd.underlying3 h2
      simp only [List.cons.injEq, and_true] at e0 e1 e2
      subst e0 e1 e2
      subst hx0
      have key : y0.size ≤ 140737488351232 := by
        have := hw y0.data.toList.length (by
          simp only [DataW.weights, Tryd.underlying35]
          exact DataW.weights_mem_each (ts := [9, 33, 3]) (j := 0) rfl (d := .lit (.string y0.data.toList)) (by simp [f0]) _ (by simp [DataW.weights]))
        simpa [reachBytes] using this
      exact ⟨⟨y0, y1, y2⟩, rfl, wf_i64 w1, wf_i64 w2, key⟩
set_option maxRecDepth 100000 in
theorem cav_arg {H : Type} {enc : TypeId × Value → H} {W : World} {b0 base : Nat} {spare : Nat → Bool} {held : Bool} {v : Value} {d : DataW H} {p : List MemPlace} {ts : List TypeId} {ds : List (DataW H)} {j : Nat} (hv : Value.okWide Tryd.prog W .any b0 35 v) (h : DataW.Trod enc Tryd.prog W base spare held 35 v d p)
    (hsz : (DataW.weightsEach Tryd.prog ts ds).all (· ≤ reachBytes) = true) (ht : ts[j]? = some 35) (hd : ds[j]? = some d) : ∃ c : Cv, v = c.agg ∧ c.In := by
  unfold Value.okWide at hv
  rw [Tryd.underlying35] at hv
  obtain ⟨cs, rfl, _, _⟩ := hv
  obtain ⟨fuel, hf⟩ := h
  obtain ⟨o, ho, hin⟩ := cav_of (cs := cs.toList) (by simpa [Value.cells] using hf) (fun n hn => by
    have := List.all_eq_true.1 hsz n (DataW.weights_mem_each ht hd n hn)
    simpa using this)
  refine ⟨o, ?_, hin⟩
  unfold Cv.agg
  congr 1
  exact Array.toList_inj.1 ho
set_option maxRecDepth 100000 in
theorem cavs_of {H : Type} {enc : TypeId × Value → H} {W : World} {base : Nat} {spare : Nat → Bool} {held : Bool} {fuel : Nat} {a : Option Addr} {len cap : Nat} {d : DataW H} {p : List MemPlace}
    (hf : DataW.trod enc Tryd.prog W base spare held fuel 23 [.slice a len cap] = some (d, p)) (hw : ∀ n ∈ d.weights Tryd.prog 23, n ≤ reachBytes) :
    ∃ ss, Kw W a len cap ss ∧ ∀ c ∈ ss, c.In := by
  rcases open_slice Tryd.underlying23 hf with ⟨hcs, _⟩ | ⟨ad, l, c, m, n, D, Pl, hcs, _, hl, hm, hmm, hx, hV⟩
  · simp only [List.cons.injEq, Value.slice.injEq, and_true] at hcs
    obtain ⟨rfl, rfl, rfl⟩ := hcs
    exact ⟨[], Rw.zero _ W 35 3 _ _ (Nat.zero_le _), fun s hs => by cases hs⟩
  · simp only [List.cons.injEq, Value.slice.injEq, and_true] at hcs
    obtain ⟨rfl, rfl, rfl⟩ := hcs
    obtain ⟨rfl, rfl⟩ := Prod.mk.inj hx
    have hlm : len ≤ m := by rw [hmm]; split <;> omega
    rw [cellsCv] at hV
    have hb : ∀ i, i < len → ∃ s : Cv, (W.cell? (ad.add (i * 3)) = some (.string s.path) ∧ W.cell? ((ad.add (i * 3)).add 1) = some (.int .i64 s.rights) ∧ W.cell? ((ad.add (i * 3)).add 2) = some (.int .i64 s.til)) ∧ s.In := by
      intro i hi
      obtain ⟨cs', h1, h2⟩ := hV i (by omega)
      obtain ⟨s, rfl, hr⟩ := cav_of h2 (fun n hn => hw n (by
        simp only [DataW.weights, Tryd.underlying23, List.mem_cons, List.mem_append]
        exact .inr (.inl (mem_weightsAll (d := D i) (List.mem_map.2 ⟨i, List.mem_range.2 hi, rfl⟩) n hn))))
      obtain ⟨_, _, hc⟩ := World.cells?_some h1
      refine ⟨s, ⟨?_, hc 1 (by omega), hc 2 (by omega)⟩, hr⟩
      have := hc 0 (by omega)
      rwa [show (ad.add (i * 3)).add 0 = ad.add (i * 3) by rw [add_add, Nat.add_zero]] at this
    obtain ⟨f, hf⟩ := @choose_lt Cv ⟨⟨⟨#[]⟩, 0, 0⟩⟩ _ _ hb
    refine ⟨(List.range len).map f, ⟨?_, hl, hm, fun h0 => ?_⟩, fun s hs => ?_⟩
    · unfold cvR
      rw [fm_len cvC_len, List.length_map, List.length_range]
    · obtain ⟨bb, oo, spot⟩ := ad
      have hspot : spot = none := by simpa [Addr.add] using World.cell?_spot (hf 0 h0).1.1
      subst hspot
      refine ⟨bb, oo, rfl, ?_, trivial, fun k u hu => ?_⟩
      · have := World.block_lt_of_cell? W _ (hf 0 h0).1.1
        rwa [add_at] at this
      · have hk : k < len * 3 := by
          have := (List.getElem?_eq_some_iff.1 hu).1
          unfold cvR at this
          rw [fm_len cvC_len, List.length_map, List.length_range] at this
          exact this
        obtain ⟨i, r, rfl, hr⟩ : ∃ i r, k = i * 3 + r ∧ r < 3 := ⟨k / 3, k % 3, by omega, by omega⟩
        have hi : i < len := by omega
        have h5 := hf i hi
        simp only [add_at] at h5
        have h6 : ((List.range len).map f)[i]? = some (f i) := by rw [List.getElem?_map, List.getElem?_range hi]; rfl
        have h7 : (cvR ((List.range len).map f))[i * 3 + r]? = (cvC (f i))[r]? := fm_at cvC_len h6 r hr
        rw [h7] at hu
        have : r = 0 ∨ r = 1 ∨ r = 2 := by omega
        rcases this with rfl | rfl | rfl
        · obtain rfl := Option.some.inj hu
          exact h5.1.1
        · obtain rfl := Option.some.inj hu
          rw [← Nat.add_assoc]
          exact h5.1.2.1
        · obtain rfl := Option.some.inj hu
          rw [← Nat.add_assoc]
          exact h5.1.2.2
    · obtain ⟨i, hi, rfl⟩ := List.mem_map.1 hs
      exact (hf i (List.mem_range.1 hi)).2
theorem cavs_arg {H : Type} {enc : TypeId × Value → H} {W : World} {base : Nat} {spare : Nat → Bool} {held : Bool} {fuel : Nat} {a : Option Addr} {len cap : Nat} {d : DataW H} {p : List MemPlace} {ts : List TypeId} {ds : List (DataW H)} {j : Nat}
    (hf : DataW.trod enc Tryd.prog W base spare held fuel 23 [.slice a len cap] = some (d, p)) (hsz : (DataW.weightsEach Tryd.prog ts ds).all (· ≤ reachBytes) = true) (ht : ts[j]? = some 23) (hd : ds[j]? = some d) :
    ∃ ss, Kw W a len cap ss ∧ ∀ c ∈ ss, c.In := cavs_of hf (fun n hn => by
    have := List.all_eq_true.1 hsz n (DataW.weights_mem_each ht hd n hn)
    simpa using this)
theorem cellsTk : Tryd.prog.cellsOf 25 = 4 := by kernel_rfl
set_option maxRecDepth 100000 in
theorem tok_arg {H : Type} {enc : TypeId × Value → H} {W : World} {b0 base : Nat} {spare : Nat → Bool} {held : Bool} {v : Value} {d : DataW H} {p : List MemPlace} {ts : List TypeId} {ds : List (DataW H)} {j : Nat} (hv : Value.okWide Tryd.prog W .any b0 25 v) (h : DataW.Trod enc Tryd.prog W base spare held 25 v d p)
    (hsz : (DataW.weightsEach Tryd.prog ts ds).all (· ≤ reachBytes) = true) (ht : ts[j]? = some 25) (hd : ds[j]? = some d) : ∃ (t n : Int) (a : Option Addr) (len cap : Nat) (s : ByteArray) (l : List Cv), v = .agg #[.int .i64 t, .int .i64 n, .slice a len cap, .string s] ∧ Kw W a len cap l ∧ (∀ c ∈ l, c.In) ∧ s.size ≤ 140737488351232 ∧ (-9223372036854775808 ≤ t ∧ t ≤ 9223372036854775807) ∧ (-9223372036854775808 ≤ n ∧ n ≤ 9223372036854775807) := by
  have hw : ∀ n ∈ d.weights Tryd.prog 25, n ≤ reachBytes := fun n hn => by
    have := List.all_eq_true.1 hsz n (DataW.weights_mem_each ht hd n hn)
    simpa using this
  unfold Value.okWide at hv
  rw [Tryd.underlying25] at hv
  obtain ⟨cs, rfl, _, hok⟩ := hv
  obtain ⟨fuel, hf⟩ := h
  obtain ⟨xs, n, _, hx0, hl, hx, hi⟩ := DataW.trod_struct Tryd.underlying25 (show DataW.trod enc Tryd.prog W base spare held fuel 25 cs.toList = some (d, p) by simpa [Value.cells] using hf)
  rw [cellsTk] at hl
  obtain ⟨cl⟩ := cs
  simp only at hl hi
  match cl, hl with
  | [c0, c1, c2, c3], _ =>
    match xs, hx with
    | [x0, x1, x2, x3], _ =>
      have h0 : DataW.trod enc Tryd.prog W base spare held n 3 (([c0, c1, c2, c3].drop 0).take (Tryd.prog.cellsOf 3)) = some x0 := hi 0 _ rfl
      rw [show Tryd.prog.cellsOf 3 = 1 by kernel_rfl, show ([c0, c1, c2, c3].drop 0).take 1 = [c0] from rfl] at h0
      have h1 : DataW.trod enc Tryd.prog W base spare held n 3 (([c0, c1, c2, c3].drop 1).take (Tryd.prog.cellsOf 3)) = some x1 := hi 1 _ rfl
      rw [show Tryd.prog.cellsOf 3 = 1 by kernel_rfl, show ([c0, c1, c2, c3].drop 1).take 1 = [c1] from rfl] at h1
      have h2 : DataW.trod enc Tryd.prog W base spare held n 23 (([c0, c1, c2, c3].drop 2).take (Tryd.prog.cellsOf 23)) = some x2 := hi 2 _ rfl
      rw [show Tryd.prog.cellsOf 23 = 1 by kernel_rfl, show ([c0, c1, c2, c3].drop 2).take 1 = [c2] from rfl] at h2
      have h3 : DataW.trod enc Tryd.prog W base spare held n 9 (([c0, c1, c2, c3].drop 3).take (Tryd.prog.cellsOf 9)) = some x3 := hi 3 _ rfl
      rw [show Tryd.prog.cellsOf 9 = 1 by kernel_rfl, show ([c0, c1, c2, c3].drop 3).take 1 = [c3] from rfl] at h3
      obtain ⟨y0, e0, f0, w0⟩ := DataW.trod_int Tryd.underlying3 h0
      obtain ⟨y1, e1, f1, w1⟩ := DataW.trod_int Tryd.underlying3 h1
      obtain ⟨y3, e3, f3, w3⟩ := DataW.trod_string Tryd.underlying9 h3
      simp only [List.cons.injEq, and_true] at e0 e1 e3
      subst e0 e1 e3
      obtain ⟨hd0, _⟩ := Prod.mk.inj hx0
      subst hd0
      have key : y3.size ≤ 140737488351232 := by
        have := hw y3.data.toList.length (by
          simp only [DataW.weights, Tryd.underlying25]
          exact DataW.weights_mem_each (ts := [3, 3, 23, 9]) (j := 3) rfl (d := .lit (.string y3.data.toList)) (by simp [f3]) _ (by simp [DataW.weights]))
        simpa [reachBytes] using this
      obtain ⟨a, len, cap, rfl⟩ : ∃ a len cap, c2 = .slice a len cap := by
        rcases open_slice Tryd.underlying23 h2 with ⟨hcs, _⟩ | ⟨ad, l, c, m, n, D, Pl, hcs, _⟩
        · exact ⟨none, 0, 0, by simpa using hcs⟩
        · exact ⟨_, _, _, by simpa using hcs⟩
      obtain ⟨d2, p2⟩ := x2
      obtain ⟨l, hk, hin⟩ := cavs_of h2 (fun n hn => hw n (by
        simp only [DataW.weights, Tryd.underlying25]
        exact DataW.weights_mem_each (ts := [3, 3, 23, 9]) (j := 2) rfl (d := d2) (by simp) _ hn))
      exact ⟨y0, y1, a, len, cap, y3, l, rfl, hk, hin, key, wf_i64 w0, wf_i64 w1⟩
end Go.Proofs.YtcmdcmbiilfngaaDoor
namespace Go.Proofs.YtcmdcmbiilfngaaDoor
open Go.ChangeShapes Go.WideShapes Go.ChangeAt Go.RowKit Go.Deep
theorem sizeCv (w : World) : (Go.sizeOf 35).run Tryd.prog w = .ok 3 w := by kernel_rfl
theorem pre_cavs (a : Option Addr) (len cap j : Nat) (hj : j ≤ cap) (W : World) : (Instr.sliceAt 23 (.slice a len cap) none (some (.int .i64 (j : Int))) none).run Tryd.prog W = .ok (.slice (cutA a cap 0 3) j cap) W := by
  have h1 := sizeCv W
  simp [Instr.sliceAt, Instr.slice, run_underlying Tryd.underlying23, Instr.sliceBounds, Instr.sliceBound, asIntOf, h1, hj, cutA]
theorem Kw.pre {w : World} {a : Option Addr} {len cap : Nat} {l : List Cv} (h : Kw w a len cap l) (j : Nat) (hj : j ≤ len) : Kw w (cutA a cap 0 3) j cap (l.take j) := by
  have h5 := Rw.pre h j hj
  unfold cvR at h5
  rw [fm_take cvC_len] at h5
  exact h5
theorem madeR_small {k : List UInt8} {t n : Int} {l : List Cv} (h : madeB t n l = true) : smallT (madeR k t n l).cavs (madeR k t n l).sig = true := by
  obtain ⟨h1, h2, h3⟩ := madeB_iff.1 h
  exact small_iff.2 ⟨by show l.length ≤ 40; omega, by show (strOf (sealT k t n l)).size ≤ 1000; rw [strOf_size, seal_len]; omega, fun c hc => by have := ok_path (h3 c hc); omega⟩
theorem lets_made {k : List UInt8} {t n : Int} {l : List Cv} (h : madeB t n l = true) (x : Int) (p : List UInt8) (now : Int) : letsT (madeR k t n l) x p now = (rightB x && Pt.placeL p && l.all fun c => c.lets x p now) := by
  unfold letsT
  rw [madeR_may h, Bool.and_true]
  rfl
theorem meet_made {k : List UInt8} {t n : Int} {l : List Cv} (h : madeB t n l = true) : meetT (madeR k t n l) = (match meetF l with | none => (zeroC, false) | some m => (m, true)) := by
  unfold meetT
  rw [if_pos (madeR_may h)]
  rfl
theorem meets_yes {k : List UInt8} {t n : Int} {l : List Cv} {m : Cv} (h : madeB t n l = true) (hm : meetF l = some m) (x : Int) (p : List UInt8) (now : Int) : madeB t n [m] = true ∧ letsT (madeR k t n [m]) x p now = (letsT (madeR k t n l) x p now && decide (now ≤ 1099511627776)) := by
  obtain ⟨h1, h2, h3⟩ := madeB_iff.1 h
  obtain ⟨k1, _⟩ := meetF_all l.length l rfl h3
  obtain ⟨m1, m2⟩ := k1 m hm
  have hb : madeB t n [m] = true := madeB_iff.2 ⟨h1, by simp, fun c hc => by rw [List.mem_singleton.1 hc]; exact m1⟩
  refine ⟨hb, ?_⟩
  rw [lets_made hb, lets_made h]
  simp only [List.all_cons, List.all_nil, Bool.and_true]
  cases hx : rightB x with
  | false => rfl
  | true =>
    cases hp : Pt.placeL p with
    | false => rfl
    | true => rw [m2 x p now hx hp]; rfl
theorem meets_no {k : List UInt8} {t n : Int} {l : List Cv} (h : madeB t n l = true) (hm : meetF l = none) (x : Int) (p : List UInt8) (now : Int) : letsT (madeR k t n l) x p now = false := by
  obtain ⟨h1, h2, h3⟩ := madeB_iff.1 h
  obtain ⟨_, k2⟩ := meetF_all l.length l rfl h3
  rw [lets_made h, k2 hm, Bool.and_false]
theorem less_made {k : List UInt8} {t n : Int} {l : List Cv} {c : Cv} (h : madeB t n l = true) (hl : l.length ≤ 7) (hc : c.ok = true) (x : Int) (p : List UInt8) (now : Int) : narrowT (madeR k t n l) c = (madeR k t n (l ++ [c]), 0) ∧ madeB t n [c] = true ∧ letsT (madeR k t n (l ++ [c])) x p now = (letsT (madeR k t n l) x p now && letsT (madeR k t n [c]) x p now) ∧ checkT k (madeR k t n (l ++ [c])) = true := by
  obtain ⟨h1, h2, h3⟩ := madeB_iff.1 h
  have hb1 : madeB t n [c] = true := madeB_iff.2 ⟨h1, by simp, fun d hd => by rw [List.mem_singleton.1 hd]; exact hc⟩
  have hb2 : madeB t n (l ++ [c]) = true := madeB_iff.2 ⟨h1, by simp; omega, fun d hd => by
    rcases List.mem_append.1 hd with hd | hd
    · exact h3 d hd
    · rw [List.mem_singleton.1 hd]; exact hc⟩
  refine ⟨narrow_made (madeR_may h) hc (by omega), hb1, ?_, ?_⟩
  · rw [lets_made hb2, lets_made h, lets_made hb1, List.all_append]
    simp only [List.all_cons, List.all_nil, Bool.and_true]
    cases rightB x <;> cases Pt.placeL p <;> simp
  · unfold checkT
    rw [madeR_may hb2]
    simp [madeR]
theorem check_made {k : List UInt8} {t n : Int} {l : List Cv} (h : madeB t n l = true) : checkT k (madeR k t n l) = true := by
  unfold checkT
  rw [madeR_may h]
  simp [madeR]
theorem cellsAsk : Tryd.prog.cellsOf 51 = 3 := by kernel_rfl
set_option maxRecDepth 100000 in
theorem ask_arg {H : Type} {enc : TypeId × Value → H} {W : World} {b0 base : Nat} {spare : Nat → Bool} {held : Bool} {v : Value} {d : DataW H} {p : List MemPlace} {ts : List TypeId} {ds : List (DataW H)} {j : Nat} (hv : Value.okWide Tryd.prog W .any b0 51 v) (h : DataW.Trod enc Tryd.prog W base spare held 51 v d p)
    (hsz : (DataW.weightsEach Tryd.prog ts ds).all (· ≤ reachBytes) = true) (ht : ts[j]? = some 51) (hd : ds[j]? = some d) : ∃ (x y : Int) (s : ByteArray), v = .agg #[.int .i64 x, .int .i64 y, .string s] ∧ (-9223372036854775808 ≤ x ∧ x ≤ 9223372036854775807) ∧ (-9223372036854775808 ≤ y ∧ y ≤ 9223372036854775807) ∧ s.size ≤ 140737488351232 := by
  have hw : ∀ n ∈ d.weights Tryd.prog 51, n ≤ reachBytes := fun n hn => by
    have := List.all_eq_true.1 hsz n (DataW.weights_mem_each ht hd n hn)
    simpa using this
  unfold Value.okWide at hv
  rw [Tryd.underlying51] at hv
  obtain ⟨cs, rfl, _, hok⟩ := hv
  obtain ⟨fuel, hf⟩ := h
  obtain ⟨xs, n, _, hx0, hl, hx, hi⟩ := DataW.trod_struct Tryd.underlying51 (show DataW.trod enc Tryd.prog W base spare held fuel 51 cs.toList = some (d, p) by simpa [Value.cells] using hf)
  rw [cellsAsk] at hl
  obtain ⟨cl⟩ := cs
  simp only at hl hi
  match cl, hl with
  | [c0, c1, c2], _ =>
    match xs, hx with
    | [x0, x1], _ =>
      have h0 : DataW.trod enc Tryd.prog W base spare held n 39 (([c0, c1, c2].drop 0).take (Tryd.prog.cellsOf 39)) = some x0 := hi 0 _ rfl
      rw [show Tryd.prog.cellsOf 39 = 2 by kernel_rfl, show ([c0, c1, c2].drop 0).take 2 = [c0, c1] from rfl] at h0
      have h1 : DataW.trod enc Tryd.prog W base spare held n 9 (([c0, c1, c2].drop 2).take (Tryd.prog.cellsOf 9)) = some x1 := hi 1 _ rfl
      rw [show Tryd.prog.cellsOf 9 = 1 by kernel_rfl, show ([c0, c1, c2].drop 2).take 1 = [c2] from rfl] at h1
      obtain ⟨ys, m, _, _, _, hl2, hy⟩ := DataW.trod_array Tryd.underlying39 h0
      have g0 := hy 0 (by omega)
      have g1 := hy 1 (by omega)
      rw [cells3] at g0 g1
      rw [List.getElem?_eq_getElem (by omega)] at g0 g1
      obtain ⟨a0, e0, _, w0⟩ := DataW.trod_int Tryd.underlying3 (cs := [c0]) (by simpa using g0)
      obtain ⟨a1, e1, _, w1⟩ := DataW.trod_int Tryd.underlying3 (cs := [c1]) (by simpa using g1)
      obtain ⟨y2, e2, f2, w2⟩ := DataW.trod_string Tryd.underlying9 h1
      simp only [List.cons.injEq, and_true] at e0 e1 e2
      subst e0 e1 e2
      obtain ⟨hd0, _⟩ := Prod.mk.inj hx0
      subst hd0
      have key : y2.size ≤ 140737488351232 := by
        have := hw y2.data.toList.length (by
          simp only [DataW.weights, Tryd.underlying51]
          exact DataW.weights_mem_each (ts := [39, 9]) (j := 1) rfl (d := .lit (.string y2.data.toList)) (by simp [f2]) _ (by simp [DataW.weights]))
        simpa [reachBytes] using this
      exact ⟨a0, a1, y2, rfl, wf_i64 w0, wf_i64 w1, key⟩
end Go.Proofs.YtcmdcmbiilfngaaDoor
