/- How caveats and tokens are opened out of a reading. Bytes that came in; what Decode tells, in one word; rows of bytes that are put together. -/
import Derived.Test.YtcmdcmbiilfngabDoorPA
import Derived.Test.YtcmdcmbiilfngabDoorDB
import Derived.Deep.Slices
import Derived.Test.YtcmdcmbiilfngabDoorLD
import Derived.Test.YtcmdcmbiilfngabDoorLE
import Derived.Test.YtcmdcmbiilfngabDoorKN
import Derived.Test.YtcmdcmbiilfngabDoorBA
namespace Go.Proofs.YtcmdcmbiilfngabDoor
open Go.ChangeShapes Go.WideShapes Go.ChangeAt Go.RowKit Go.Deep
/-- What came in: numbers and texts in their reach. -/
def Cv.In (c : Cv) : Prop := (-9223372036854775808 ≤ c.rights ∧ c.rights ≤ 9223372036854775807) ∧ (-9223372036854775808 ≤ c.til ∧ c.til ≤ 9223372036854775807) ∧ c.path.size ≤ 140737488351232
def Cv.agg (c : Cv) : Value := .agg #[.string c.path, .int .i64 c.rights, .int .i64 c.til]
theorem cellsCv : Tryd.prog.cellsOf 39 = 3 := by kernel_rfl
set_option maxRecDepth 100000 in
theorem cav_of {H : Type} {enc : TypeId × Value → H} {W : World} {base : Nat} {spare : Nat → Bool} {held : Bool} {fuel : Nat} {cs : List Value} {x : DataW H × List MemPlace} (hf : DataW.trod enc Tryd.prog W base spare held fuel 39 cs = some x)
    (hw : ∀ n ∈ x.1.weights Tryd.prog 39, n ≤ reachBytes) : ∃ c : Cv, cs = [.string c.path, .int .i64 c.rights, .int .i64 c.til] ∧ c.In := by
  obtain ⟨xs, n, _, hx0, hl, hx, hi⟩ := DataW.trod_struct Tryd.underlying39 hf
  rw [cellsCv] at hl
  match cs, hl with
  | [c0, c1, c2], _ =>
    match xs, hx with
    | [x0, x1, x2], _ =>
      have h0 : DataW.trod enc Tryd.prog W base spare held n 9 (([c0, c1, c2].drop 0).take (Tryd.prog.cellsOf 9)) = some x0 := hi 0 _ rfl
      rw [show Tryd.prog.cellsOf 9 = 1 by kernel_rfl, show ([c0, c1, c2].drop 0).take 1 = [c0] from rfl] at h0
      have h1 : DataW.trod enc Tryd.prog W base spare held n 37 (([c0, c1, c2].drop 1).take (Tryd.prog.cellsOf 37)) = some x1 := hi 1 _ rfl
      rw [show Tryd.prog.cellsOf 37 = 1 by kernel_rfl, show ([c0, c1, c2].drop 1).take 1 = [c1] from rfl] at h1
      have h2 : DataW.trod enc Tryd.prog W base spare held n 3 (([c0, c1, c2].drop 2).take (Tryd.prog.cellsOf 3)) = some x2 := hi 2 _ rfl
      rw [show Tryd.prog.cellsOf 3 = 1 by kernel_rfl, show ([c0, c1, c2].drop 2).take 1 = [c2] from rfl] at h2
      obtain ⟨y0, e0, f0, w0⟩ := DataW.trod_string Tryd.underlying9 h0
      obtain ⟨y1, e1, f1, w1⟩ := DataW.trod_int Tryd.underlying37 h1
      obtain ⟨y2, e2, f2, w2⟩ := DataW.trod_int Tryd.underlying3 h2
      simp only [List.cons.injEq, and_true] at e0 e1 e2
      subst e0 e1 e2
      subst hx0
      have key : y0.size ≤ 140737488351232 := by
        have := hw y0.data.toList.length (by
          simp only [DataW.weights, Tryd.underlying39]
          exact DataW.weights_mem_each (ts := [9, 37, 3]) (j := 0) rfl (d := .lit (.string y0.data.toList)) (by simp [f0]) _ (by simp [DataW.weights]))
        simpa [reachBytes] using this
      exact ⟨⟨y0, y1, y2⟩, rfl, wf_i64 w1, wf_i64 w2, key⟩
set_option maxRecDepth 100000 in
theorem cav_arg {H : Type} {enc : TypeId × Value → H} {W : World} {b0 base : Nat} {spare : Nat → Bool} {held : Bool} {v : Value} {d : DataW H} {p : List MemPlace} {ts : List TypeId} {ds : List (DataW H)} {j : Nat} (hv : Value.okWide Tryd.prog W .any b0 39 v) (h : DataW.Trod enc Tryd.prog W base spare held 39 v d p)
    (hsz : (DataW.weightsEach Tryd.prog ts ds).all (· ≤ reachBytes) = true) (ht : ts[j]? = some 39) (hd : ds[j]? = some d) : ∃ c : Cv, v = c.agg ∧ c.In := by
  unfold Value.okWide at hv
  rw [Tryd.underlying39] at hv
  obtain ⟨cs, rfl, _, _⟩ := hv
  obtain ⟨fuel, hf⟩ := h
  obtain ⟨o, ho, hin⟩ := cav_of (cs := cs.toList) (by simpa [Value.cells] using hf) (fun n hn => by
    have := List.all_eq_true.1 hsz n (DataW.weights_mem_each ht hd n hn)
    simpa using this)
  refine ⟨o, ?_, hin⟩
  unfold Cv.agg
  congr 1
  exact Array.toList_inj.1 ho
set_option maxRecDepth 100000 in
theorem cavs_of {H : Type} {enc : TypeId × Value → H} {W : World} {base : Nat} {spare : Nat → Bool} {held : Bool} {fuel : Nat} {a : Option Addr} {len cap : Nat} {d : DataW H} {p : List MemPlace}
    (hf : DataW.trod enc Tryd.prog W base spare held fuel 22 [.slice a len cap] = some (d, p)) (hw : ∀ n ∈ d.weights Tryd.prog 22, n ≤ reachBytes) :
    ∃ ss, Kw W a len cap ss ∧ ∀ c ∈ ss, c.In := by
  rcases open_slice Tryd.underlying22 hf with ⟨hcs, _⟩ | ⟨ad, l, c, m, n, D, Pl, hcs, _, hl, hm, hmm, hx, hV⟩
  · simp only [List.cons.injEq, Value.slice.injEq, and_true] at hcs
    obtain ⟨rfl, rfl, rfl⟩ := hcs
    exact ⟨[], Rw.zero _ W 39 3 _ _ (Nat.zero_le _), fun s hs => by cases hs⟩
  · simp only [List.cons.injEq, Value.slice.injEq, and_true] at hcs
    obtain ⟨rfl, rfl, rfl⟩ := hcs
    obtain ⟨rfl, rfl⟩ := Prod.mk.inj hx
    have hlm : len ≤ m := by rw [hmm]; split <;> omega
    rw [cellsCv] at hV
    have hb : ∀ i, i < len → ∃ s : Cv, (W.cell? (ad.add (i * 3)) = some (.string s.path) ∧ W.cell? ((ad.add (i * 3)).add 1) = some (.int .i64 s.rights) ∧ W.cell? ((ad.add (i * 3)).add 2) = some (.int .i64 s.til)) ∧ s.In := by
      intro i hi
      obtain ⟨cs', h1, h2⟩ := hV i (by omega)
      obtain ⟨s, rfl, hr⟩ := cav_of h2 (fun n hn => hw n (by
        simp only [DataW.weights, Tryd.underlying22, List.mem_cons, List.mem_append]
        exact .inr (.inl (mem_weightsAll (d := D i) (List.mem_map.2 ⟨i, List.mem_range.2 hi, rfl⟩) n hn))))
      obtain ⟨_, _, hc⟩ := World.cells?_some h1
      refine ⟨s, ⟨?_, hc 1 (by omega), hc 2 (by omega)⟩, hr⟩
      have := hc 0 (by omega)
      rwa [show (ad.add (i * 3)).add 0 = ad.add (i * 3) by rw [add_add, Nat.add_zero]] at this
    obtain ⟨f, hf⟩ := @choose_lt Cv ⟨⟨⟨#[]⟩, 0, 0⟩⟩ _ _ hb
    refine ⟨(List.range len).map f, ⟨?_, hl, hm, fun h0 => ?_⟩, fun s hs => ?_⟩
    · unfold cvR
      rw [fm_len cvC_len, List.length_map, List.length_range]
    · obtain ⟨bb, oo, spot⟩ := ad
      have hspot : spot = none := by simpa [Addr.add] using World.cell?_spot (hf 0 h0).1.1
      subst hspot
      refine ⟨bb, oo, rfl, ?_, trivial, fun k u hu => ?_⟩
      · have := World.block_lt_of_cell? W _ (hf 0 h0).1.1
        rwa [add_at] at this
      · have hk : k < len * 3 := by
          have := (List.getElem?_eq_some_iff.1 hu).1
          unfold cvR at this
          rw [fm_len cvC_len, List.length_map, List.length_range] at this
          exact this
        obtain ⟨i, r, rfl, hr⟩ : ∃ i r, k = i * 3 + r ∧ r < 3 := ⟨k / 3, k % 3, by omega, by omega⟩
        have hi : i < len := by omega
        have h5 := hf i hi
        simp only [add_at] at h5
        have h6 : ((List.range len).map f)[i]? = some (f i) := by rw [List.getElem?_map, List.getElem?_range hi]; rfl
        have h7 : (cvR ((List.range len).map f))[i * 3 + r]? = (cvC (f i))[r]? := fm_at cvC_len h6 r hr
        rw [h7] at hu
        have : r = 0 ∨ r = 1 ∨ r = 2 := by omega
        rcases this with rfl | rfl | rfl
        · obtain rfl := Option.some.inj hu
          exact h5.1.1
        · obtain rfl := Option.some.inj hu
          rw [← Nat.add_assoc]
          exact h5.1.2.1
        · obtain rfl := Option.some.inj hu
          rw [← Nat.add_assoc]
          exact h5.1.2.2
    · obtain ⟨i, hi, rfl⟩ := List.mem_map.1 hs
      exact (hf i (List.mem_range.1 hi)).2
theorem cavs_arg {H : Type} {enc : TypeId × Value → H} {W : World} {base : Nat} {spare : Nat → Bool} {held : Bool} {fuel : Nat} {a : Option Addr} {len cap : Nat} {d : DataW H} {p : List MemPlace} {ts : List TypeId} {ds : List (DataW H)} {j : Nat}
    (hf : DataW.trod enc Tryd.prog W base spare held fuel 22 [.slice a len cap] = some (d, p)) (hsz : (DataW.weightsEach Tryd.prog ts ds).all (· ≤ reachBytes) = true) (ht : ts[j]? = some 22) (hd : ds[j]? = some d) :
    ∃ ss, Kw W a len cap ss ∧ ∀ c ∈ ss, c.In := cavs_of hf (fun n hn => by
    have := List.all_eq_true.1 hsz n (DataW.weights_mem_each ht hd n hn)
    simpa using this)
theorem cellsTk : Tryd.prog.cellsOf 24 = 4 := by kernel_rfl
set_option maxRecDepth 100000 in
theorem tok_arg {H : Type} {enc : TypeId × Value → H} {W : World} {b0 base : Nat} {spare : Nat → Bool} {held : Bool} {v : Value} {d : DataW H} {p : List MemPlace} {ts : List TypeId} {ds : List (DataW H)} {j : Nat} (hv : Value.okWide Tryd.prog W .any b0 24 v) (h : DataW.Trod enc Tryd.prog W base spare held 24 v d p)
    (hsz : (DataW.weightsEach Tryd.prog ts ds).all (· ≤ reachBytes) = true) (ht : ts[j]? = some 24) (hd : ds[j]? = some d) : ∃ (t n : Int) (a : Option Addr) (len cap : Nat) (s : ByteArray) (l : List Cv), v = .agg #[.int .i64 t, .int .i64 n, .slice a len cap, .string s] ∧ Kw W a len cap l ∧ (∀ c ∈ l, c.In) ∧ s.size ≤ 140737488351232 ∧ (-9223372036854775808 ≤ t ∧ t ≤ 9223372036854775807) ∧ (-9223372036854775808 ≤ n ∧ n ≤ 9223372036854775807) := by
  have hw : ∀ n ∈ d.weights Tryd.prog 24, n ≤ reachBytes := fun n hn => by
    have := List.all_eq_true.1 hsz n (DataW.weights_mem_each ht hd n hn)
    simpa using this
  unfold Value.okWide at hv
  rw [Tryd.underlying24] at hv
  obtain ⟨cs, rfl, _, hok⟩ := hv
  obtain ⟨fuel, hf⟩ := h
  obtain ⟨xs, n, _, hx0, hl, hx, hi⟩ := DataW.trod_struct Tryd.underlying24 (show DataW.trod enc Tryd.prog W base spare held fuel 24 cs.toList = some (d, p) by simpa [Value.cells] using hf)
  rw [cellsTk] at hl
  obtain ⟨cl⟩ := cs
  simp only at hl hi
  match cl, hl with
  | [c0, c1, c2, c3], _ =>
    match xs, hx with
    | [x0, x1, x2, x3], _ =>
      have h0 : DataW.trod enc Tryd.prog W base spare held n 3 (([c0, c1, c2, c3].drop 0).take (Tryd.prog.cellsOf 3)) = some x0 := hi 0 _ rfl
      rw [show Tryd.prog.cellsOf 3 = 1 by kernel_rfl, show ([c0, c1, c2, c3].drop 0).take 1 = [c0] from rfl] at h0
      have h1 : DataW.trod enc Tryd.prog W base spare held n 3 (([c0, c1, c2, c3].drop 1).take (Tryd.prog.cellsOf 3)) = some x1 := hi 1 _ rfl
      rw [show Tryd.prog.cellsOf 3 = 1 by kernel_rfl, show ([c0, c1, c2, c3].drop 1).take 1 = [c1] from rfl] at h1
      have h2 : DataW.trod enc Tryd.prog W base spare held n 22 (([c0, c1, c2, c3].drop 2).take (Tryd.prog.cellsOf 22)) = some x2 := hi 2 _ rfl
      rw [show Tryd.prog.cellsOf 22 = 1 by kernel_rfl, show ([c0, c1, c2, c3].drop 2).take 1 = [c2] from rfl] at h2
      have h3 : DataW.trod enc Tryd.prog W base spare held n 9 (([c0, c1, c2, c3].drop 3).take (Tryd.prog.cellsOf 9)) = some x3 := hi 3 _ rfl
      rw [show Tryd.prog.cellsOf 9 = 1 by kernel_rfl, show ([c0, c1, c2, c3].drop 3).take 1 = [c3] from rfl] at h3
      obtain ⟨y0, e0, f0, w0⟩ := DataW.trod_int Tryd.underlying3 h0
      obtain ⟨y1, e1, f1, w1⟩ := DataW.trod_int Tryd.underlying3 h1
      obtain ⟨y3, e3, f3, w3⟩ := DataW.trod_string Tryd.underlying9 h3
      simp only [List.cons.injEq, and_true] at e0 e1 e3
      subst e0 e1 e3
      obtain ⟨hd0, _⟩ := Prod.mk.inj hx0
      subst hd0
      have key : y3.size ≤ 140737488351232 := by
        have := hw y3.data.toList.length (by
          simp only [DataW.weights, Tryd.underlying24]
          exact DataW.weights_mem_each (ts := [3, 3, 22, 9]) (j := 3) rfl (d := .lit (.string y3.data.toList)) (by simp [f3]) _ (by simp [DataW.weights]))
        simpa [reachBytes] using this
      obtain ⟨a, len, cap, rfl⟩ : ∃ a len cap, c2 = .slice a len cap := by
        rcases open_slice Tryd.underlying22 h2 with ⟨hcs, _⟩ | ⟨ad, l, c, m, n, D, Pl, hcs, _⟩
        · exact ⟨none, 0, 0, by simpa using hcs⟩
        · exact ⟨_, _, _, by simpa using hcs⟩
      obtain ⟨d2, p2⟩ := x2
      obtain ⟨l, hk, hin⟩ := cavs_of h2 (fun n hn => hw n (by
        simp only [DataW.weights, Tryd.underlying24]
        exact DataW.weights_mem_each (ts := [3, 3, 22, 9]) (j := 2) rfl (d := d2) (by simp) _ hn))
      exact ⟨y0, y1, a, len, cap, y3, l, rfl, hk, hin, key, wf_i64 w0, wf_i64 w1⟩
end Go.Proofs.YtcmdcmbiilfngabDoor
namespace Go.Proofs.YtcmdcmbiilfngabDoor
open Go.ChangeShapes Go.WideShapes Go.ChangeAt Go.RowKit Go.Deep
theorem IsRow.bs {w : World} {a : Option Addr} {len cap : Nat} {zs : List Int} (h : IsRow .u8 w a len cap zs) : ∃ bs, Bs w a len cap bs := by
  rcases h with ⟨rfl, rfl, rfl, rfl⟩ | ⟨x, rfl, h1, h2, h3, h4, h5⟩
  · exact ⟨[], Bs.nil w⟩
  · refine ⟨(zs.take len).map fun z => UInt8.ofNat z.toNat, by simp; omega, h1, by simpa [maxLen] using h2, (by intro e; cases e), ?_⟩
    intro ad had i hi
    cases had
    simp only [List.length_map, List.length_take] at hi
    rw [h4 i (by omega)]
    have hz := wf_u8 (h5 (zs[i]'(by omega)) (List.getElem_mem _))
    simp only [List.getElem_map, List.getElem_take]
    congr 2
    rw [List.getD_eq_getElem?_getD, List.getElem?_eq_getElem (by omega)]
    simp only [Option.getD_some, UInt8.toNat_ofNat']
    omega
theorem bytes_arg {H : Type} {enc : TypeId × Value → H} {W : World} {base : Nat} {held : Bool} {fuel : Nat} {a : Option Addr} {len cap : Nat} {x : DataW H × List MemPlace} (hf : DataW.trod enc Tryd.prog W base (fun _ => true) held fuel 25 [.slice a len cap] = some x) : ∃ bs, Bs W a len cap bs ∧ True := by
  have key : ∃ zs, IsRow .u8 W a len cap zs := by
    rcases open_ints Tryd.underlying25 Tryd.underlying5 (by kernel_rfl) hf with ⟨hcs, _⟩ | ⟨x, l, c, zs, hcs, _, hl, hm, hz, _, hcell, hwz⟩
    · simp at hcs
      obtain ⟨rfl, rfl, rfl⟩ := hcs
      exact ⟨[], .inl ⟨rfl, rfl, rfl, rfl⟩⟩
    · simp at hcs
      obtain ⟨rfl, rfl, rfl⟩ := hcs
      exact ⟨zs, .inr ⟨_, rfl, hl, hm, by simpa using hz, hcell, hwz⟩⟩
  obtain ⟨zs, hz⟩ := key
  obtain ⟨bs, hb⟩ := hz.bs
  exact ⟨bs, hb, trivial⟩
/-- What Decode tells, in one word. -/
def deV : Except Nat (Tk × Int) → Tk × Int × Nat
  | .error e => (zeroT, 0, e)
  | .ok (t, q) => (t, q, 0)
def DvTo (w : World) (r : Tk × Int × Nat) (e : Ending) (w' : World) : Prop := ∃ (a : Option Addr) (n c : Nat), e = .returned (.tuple #[.agg #[.int .i64 r.1.tenant, .int .i64 r.1.number, .slice a n c, .string r.1.sig], .int .i64 r.2.1, .int .i64 (r.2.2 : Int)]) ∧ Kw w' a n c r.1.cavs ∧ Below w.heap.size w w'
theorem DeTo.dv {w : World} {r : Except Nat (Tk × Int)} {e : Ending} {w' : World} (h : DeTo w r e w') : DvTo w (deV r) e w' := by
  cases r with
  | error er => exact ⟨none, 0, 0, h.1, Kw.nil w', h.2⟩
  | ok x =>
    obtain ⟨t, q⟩ := x
    obtain ⟨a, n, c, h1, h2, h3⟩ := h
    exact ⟨a, n, c, h1, h2, h3⟩
theorem own_empty {w : World} {base g : Nat} (hb : base ≤ g) (hg : w.heap[g]? = some (.cells #[] 5 (0, 0))) : w.ownsRow base 5 1 (.slice (some ⟨g, 0, none⟩) 0 0) 0 (bytesV []) := ⟨rfl, .inr ⟨g, 0, _, rfl, hb, hg, by omega, by unfold maxLen; omega, rfl, rfl⟩⟩
end Go.Proofs.YtcmdcmbiilfngabDoor
