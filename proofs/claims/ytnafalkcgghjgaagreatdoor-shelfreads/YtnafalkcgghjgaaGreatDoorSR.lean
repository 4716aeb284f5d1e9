/- A Shelf that is nil: Commit, Abort; light; an Op that came in. Slices of steps that came in; the statements' value; the document's May. -/
import Derived.Test.YtnafalkcgghjgaaGreatDoorSZ
import Derived.Test.YtnafalkcgghjgaaGreatDoorJP
import Derived.WalkKit
import Derived.ProofKit
import Derived.OpenShut
import Derived.SizedLaws
import Derived.Deep.Slices
namespace Go.Proofs.YtnafalkcgghjgaaGreatDoor
open Go.ChangeShapes Go.WideShapes Go.ChangeAt Go.RowKit Go.Shelf
theorem scommit_nil (w : World) : Calls Tryz.prog 20 #[.pointer none] w fun e w' => e = .returned (.int .i64 1) ∧ w' = w := by
  go_enter Tryz.func20, Tryz.ntmps20
  go_wp2
  go_ret
  exact ⟨rfl, rfl⟩
theorem sabort_nil (w : World) : Calls Tryz.prog 21 #[.pointer none] w fun e w' => e = .returned (.tuple #[]) ∧ w' = w := by
  go_enter Tryz.func21, Tryz.ntmps21
  go_wp2
  refine bodyPost_ret (v := .tuple #[]) ?_ rfl ⟨rfl, rfl⟩
  simp [results, go_sem]
/-- What an Op says. -/
structure OV where
  kind : Int
  n : Int
  long : Int
  key : ByteArray
  til : ByteArray
  value : ByteArray
def OV.agg (o : OV) : Value := .agg #[.int .i64 o.kind, .int .i64 o.n, .int .i64 o.long, .string o.key, .string o.til, .string o.value]
def OV.cells (o : OV) : List Value := [.int .i64 o.kind, .int .i64 o.n, .int .i64 o.long, .string o.key, .string o.til, .string o.value]
/-- What came in is in the reach. -/
def OV.In (o : OV) : Prop := (-9223372036854775808 ≤ o.kind ∧ o.kind ≤ 9223372036854775807) ∧ (-9223372036854775808 ≤ o.n ∧ o.n ≤ 9223372036854775807) ∧ (-9223372036854775808 ≤ o.long ∧ o.long ≤ 9223372036854775807) ∧ o.key.size ≤ 140737488351232 ∧ o.til.size ≤ 140737488351232 ∧ o.value.size ≤ 140737488351232
def OV.w (o : OV) : Nat := o.key.size + o.til.size + o.value.size
set_option maxHeartbeats 1000000 in
theorem light_any (o : OV) (h : o.In) (w : World) : Calls Tryz.prog 10 #[o.agg] w fun e w' => e = .returned (.bool (decide (o.w ≤ 2000))) ∧ Below w.heap.size w w' := by
  obtain ⟨_, _, _, h3, h4, h5⟩ := h
  obtain ⟨k, n, l, key, til, v⟩ := o
  unfold OV.agg OV.w
  simp only at h3 h4 h5 ⊢
  have e2 : decide ((key.size : Int) + (til.size : Int) + (v.size : Int) ≤ 2000) = decide (key.size + til.size + v.size ≤ 2000) := by
    by_cases h : key.size + til.size + v.size ≤ 2000
    · rw [decide_eq_true h, decide_eq_true (by omega)]
    · rw [decide_eq_false h, decide_eq_false (by omega)]
  have HE : Hid (decide ((key.size : Int) + (til.size : Int) + (v.size : Int) ≤ 2000) = decide (key.size + til.size + v.size ≤ 2000)) := e2
  clear e2
  have b1 : -9223372036854775808 ≤ (key.size : Int) + (til.size : Int) := by omega
  have b2 : (key.size : Int) + (til.size : Int) ≤ 9223372036854775807 := by omega
  have b3 : -9223372036854775808 ≤ (key.size : Int) + (til.size : Int) + (v.size : Int) := by omega
  have b4 : (key.size : Int) + (til.size : Int) + (v.size : Int) ≤ 9223372036854775807 := by omega
  go_enter Tryz.func10, Tryz.ntmps10
  go_wp2
  go_ret
  refine ⟨by rw [← HE.out]; rfl, (Below.refl _ w).alloc (Nat.le_refl _) _⟩
set_option maxRecDepth 100000
theorem cellsOp : Tryz.prog.cellsOf 31 = 6 := by kernel_rfl
/-- An Op read out of six cells. -/
theorem op_of {H : Type} {enc : TypeId × Value → H} {W : World} {base : Nat} {spare : Nat → Bool} {held : Bool} {fuel : Nat} {cs : List Value} {x : DataW H × List MemPlace} (hf : DataW.trod enc Tryz.prog W base spare held fuel 31 cs = some x)
    (hw : ∀ n ∈ x.1.weights Tryz.prog 31, n ≤ reachBytes) : ∃ o : OV, cs = o.cells ∧ o.In := by
  obtain ⟨xs, n, _, hx0, hl, hx, hi⟩ := DataW.trod_struct Tryz.underlying31 hf
  rw [cellsOp] at hl
  match cs, hl with
  | [c0, c1, c2, c3, c4, c5], _ =>
    match xs, hx with
    | [x0, x1, x2, x3, x4, x5], _ =>
      have h0 : DataW.trod enc Tryz.prog W base spare held n 3 (([c0, c1, c2, c3, c4, c5].drop 0).take (Tryz.prog.cellsOf 3)) = some x0 := hi 0 _ rfl
      rw [show Tryz.prog.cellsOf 3 = 1 by kernel_rfl, show ([c0, c1, c2, c3, c4, c5].drop 0).take 1 = [c0] from rfl] at h0
      have h1 : DataW.trod enc Tryz.prog W base spare held n 3 (([c0, c1, c2, c3, c4, c5].drop 1).take (Tryz.prog.cellsOf 3)) = some x1 := hi 1 _ rfl
      rw [show Tryz.prog.cellsOf 3 = 1 by kernel_rfl, show ([c0, c1, c2, c3, c4, c5].drop 1).take 1 = [c1] from rfl] at h1
      have h2 : DataW.trod enc Tryz.prog W base spare held n 3 (([c0, c1, c2, c3, c4, c5].drop 2).take (Tryz.prog.cellsOf 3)) = some x2 := hi 2 _ rfl
      rw [show Tryz.prog.cellsOf 3 = 1 by kernel_rfl, show ([c0, c1, c2, c3, c4, c5].drop 2).take 1 = [c2] from rfl] at h2
      have h3 : DataW.trod enc Tryz.prog W base spare held n 9 (([c0, c1, c2, c3, c4, c5].drop 3).take (Tryz.prog.cellsOf 9)) = some x3 := hi 3 _ rfl
      rw [show Tryz.prog.cellsOf 9 = 1 by kernel_rfl, show ([c0, c1, c2, c3, c4, c5].drop 3).take 1 = [c3] from rfl] at h3
      have h4 : DataW.trod enc Tryz.prog W base spare held n 9 (([c0, c1, c2, c3, c4, c5].drop 4).take (Tryz.prog.cellsOf 9)) = some x4 := hi 4 _ rfl
      rw [show Tryz.prog.cellsOf 9 = 1 by kernel_rfl, show ([c0, c1, c2, c3, c4, c5].drop 4).take 1 = [c4] from rfl] at h4
      have h5 : DataW.trod enc Tryz.prog W base spare held n 9 (([c0, c1, c2, c3, c4, c5].drop 5).take (Tryz.prog.cellsOf 9)) = some x5 := hi 5 _ rfl
      rw [show Tryz.prog.cellsOf 9 = 1 by kernel_rfl, show ([c0, c1, c2, c3, c4, c5].drop 5).take 1 = [c5] from rfl] at h5
      obtain ⟨y0, e0, f0, w0⟩ := DataW.trod_int Tryz.underlying3 h0
      obtain ⟨y1, e1, f1, w1⟩ := DataW.trod_int Tryz.underlying3 h1
      obtain ⟨y2, e2, f2, w2⟩ := DataW.trod_int Tryz.underlying3 h2
      obtain ⟨y3, e3, f3, w3⟩ := DataW.trod_string Tryz.underlying9 h3
      obtain ⟨y4, e4, f4, w4⟩ := DataW.trod_string Tryz.underlying9 h4
      obtain ⟨y5, e5, f5, w5⟩ := DataW.trod_string Tryz.underlying9 h5
      simp only [List.cons.injEq, and_true] at e0 e1 e2 e3 e4 e5
      subst e0 e1 e2 e3 e4 e5
      subst hx0
      have key : ∀ (j : Nat) (s : ByteArray), ([3, 3, 3, 9, 9, 9] : List TypeId)[j]? = some 9 → ([x0, x1, x2, x3, x4, x5].map (·.1))[j]? = some (.lit (.string s.data.toList)) → s.size ≤ 140737488351232 := by
        intro j s hj hd
        have := hw s.data.toList.length (by
          simp only [DataW.weights, Tryz.underlying31]
          exact DataW.weights_mem_each hj hd _ (by simp [DataW.weights]))
        simpa [reachBytes] using this
      refine ⟨⟨y0, y1, y2, y3, y4, y5⟩, rfl, wf_i64 w0, wf_i64 w1, wf_i64 w2, key 3 y3 rfl ?_, key 4 y4 rfl ?_, key 5 y5 rfl ?_⟩
      · simp [f3]
      · simp [f4]
      · simp [f5]
theorem op_arg {H : Type} {enc : TypeId × Value → H} {W : World} {b0 base : Nat} {spare : Nat → Bool} {held : Bool} {v : Value} {d : DataW H} {p : List MemPlace} {ts : List TypeId} {ds : List (DataW H)} {j : Nat} (hv : Value.okWide Tryz.prog W .any b0 31 v) (h : DataW.Trod enc Tryz.prog W base spare held 31 v d p)
    (hsz : (DataW.weightsEach Tryz.prog ts ds).all (· ≤ reachBytes) = true) (ht : ts[j]? = some 31) (hd : ds[j]? = some d) : ∃ o : OV, v = o.agg ∧ o.In := by
  unfold Value.okWide at hv
  rw [Tryz.underlying31] at hv
  obtain ⟨cs, rfl, _, _⟩ := hv
  obtain ⟨fuel, hf⟩ := h
  obtain ⟨o, ho, hin⟩ := op_of (cs := cs.toList) (by simpa [Value.cells] using hf) (fun n hn => by
    have := List.all_eq_true.1 hsz n (DataW.weights_mem_each ht hd n hn)
    simpa using this)
  refine ⟨o, ?_, hin⟩
  unfold OV.agg
  congr 1
  exact Array.toList_inj.1 ho
end Go.Proofs.YtnafalkcgghjgaaGreatDoor
namespace Go.Proofs.YtnafalkcgghjgaaGreatDoor
open Go.ChangeShapes Go.WideShapes Go.ChangeAt Go.RowKit Go.Deep Go.Shelf
instance : Inhabited OV := ⟨⟨0, 0, 0, ByteArray.empty, ByteArray.empty, ByteArray.empty⟩⟩
/-- Steps that lie in memory. -/
def Os (w : World) (a : Option Addr) (len cap : Nat) (l : List OV) : Prop :=
  l.length = len ∧ len ≤ cap ∧ cap ≤ 9223372036854775807 ∧ (0 < len → ∃ b o, a = some ⟨b, o, none⟩ ∧ b < w.heap.size ∧ ∀ i (h : i < l.length),
    w.cell? ⟨b, o + i * 6, none⟩ = some (.int .i64 l[i].kind) ∧ w.cell? ⟨b, o + i * 6 + 1, none⟩ = some (.int .i64 l[i].n) ∧ w.cell? ⟨b, o + i * 6 + 2, none⟩ = some (.int .i64 l[i].long) ∧
      w.cell? ⟨b, o + i * 6 + 3, none⟩ = some (.string l[i].key) ∧ w.cell? ⟨b, o + i * 6 + 4, none⟩ = some (.string l[i].til) ∧ w.cell? ⟨b, o + i * 6 + 5, none⟩ = some (.string l[i].value) ∧ l[i].In)
theorem mem_weightsAll {H : Type} {P : Program} {e : TypeId} {d : DataW H} : ∀ {l : List (DataW H)}, d ∈ l → ∀ n ∈ d.weights P e, n ∈ DataW.weightsAll P e l
  | x :: l, h, n, hn => by
    simp only [DataW.weightsAll, List.mem_append]
    rcases List.mem_cons.1 h with rfl | h
    · exact .inl hn
    · exact .inr (mem_weightsAll h n hn)
set_option maxRecDepth 100000 in
theorem ops_of {H : Type} {enc : TypeId × Value → H} {W : World} {base : Nat} {spare : Nat → Bool} {held : Bool} {fuel : Nat} {a : Option Addr} {len cap : Nat} {x : DataW H × List MemPlace}
    (hf : DataW.trod enc Tryz.prog W base spare held fuel 22 [.slice a len cap] = some x) (hw : ∀ n ∈ x.1.weights Tryz.prog 22, n ≤ reachBytes) : ∃ l, Os W a len cap l := by
  rcases open_slice Tryz.underlying22 hf with ⟨hcs, _⟩ | ⟨ad, l, c, m, n, D, Pl, hcs, _, hl, hm, hmm, hx, hV⟩
  · simp only [List.cons.injEq, Value.slice.injEq, and_true] at hcs
    obtain ⟨rfl, rfl, rfl⟩ := hcs
    exact ⟨[], rfl, by omega, by omega, by omega⟩
  · simp only [List.cons.injEq, Value.slice.injEq, and_true] at hcs
    obtain ⟨rfl, rfl, rfl⟩ := hcs
    subst hx
    have hlm : len ≤ m := by rw [hmm]; split <;> omega
    rw [cellsOp] at hV
    have hb : ∀ i, i < len → ∃ o : OV, (W.cell? (ad.add (i * 6)) = some (.int .i64 o.kind) ∧ W.cell? ((ad.add (i * 6)).add 1) = some (.int .i64 o.n) ∧ W.cell? ((ad.add (i * 6)).add 2) = some (.int .i64 o.long) ∧ W.cell? ((ad.add (i * 6)).add 3) = some (.string o.key) ∧ W.cell? ((ad.add (i * 6)).add 4) = some (.string o.til) ∧ W.cell? ((ad.add (i * 6)).add 5) = some (.string o.value)) ∧ o.In := by
      intro i hi
      obtain ⟨cs', h1, h2⟩ := hV i (by omega)
      obtain ⟨o, rfl, hr⟩ := op_of h2 (fun n hn => hw n (by
        simp only [DataW.weights, Tryz.underlying22, List.mem_cons, List.mem_append]
        exact .inr (.inl (mem_weightsAll (d := D i) (List.mem_map.2 ⟨i, List.mem_range.2 hi, rfl⟩) n hn))))
      obtain ⟨_, _, hc⟩ := World.cells?_some h1
      refine ⟨o, ⟨?_, hc 1 (by omega), hc 2 (by omega), hc 3 (by omega), hc 4 (by omega), hc 5 (by omega)⟩, hr⟩
      have := hc 0 (by omega)
      rwa [show (ad.add (i * 6)).add 0 = ad.add (i * 6) by rw [add_add, Nat.add_zero]] at this
    obtain ⟨f, hf⟩ := choose_lt (α := OV) hb
    refine ⟨(List.range len).map f, by simp, hl, by simpa [maxLen] using hm, fun h0 => ?_⟩
    obtain ⟨bb, oo, spot⟩ := ad
    have hspot : spot = none := by simpa [Addr.add] using World.cell?_spot (hf 0 h0).1.1
    subst hspot
    refine ⟨bb, oo, rfl, ?_, fun i hi => ?_⟩
    · have := World.block_lt_of_cell? W _ (hf 0 h0).1.1
      rwa [add_at] at this
    · simp only [List.length_map, List.length_range] at hi
      have := hf i hi
      simp only [add_at] at this
      simp only [List.getElem_map, List.getElem_range]
      exact ⟨this.1.1, this.1.2.1, this.1.2.2.1, this.1.2.2.2.1, this.1.2.2.2.2.1, this.1.2.2.2.2.2, this.2⟩
theorem Os.on {w w' : World} {a : Option Addr} {len cap : Nat} {l : List OV} (h : Os w a len cap l) (hb : Below w.heap.size w w') : Os w' a len cap l := by
  obtain ⟨h1, h2, h3, h4⟩ := h
  refine ⟨h1, h2, h3, fun h0 => ?_⟩
  obtain ⟨b, o, rfl, hlt, hc⟩ := h4 h0
  refine ⟨b, o, rfl, Nat.lt_of_lt_of_le hlt hb.size, fun i hi => ?_⟩
  obtain ⟨d0, d1, d2, d3, d4, d5, d6⟩ := hc i hi
  exact ⟨by rw [hb.cell hlt]; exact d0, by rw [hb.cell hlt]; exact d1, by rw [hb.cell hlt]; exact d2, by rw [hb.cell hlt]; exact d3, by rw [hb.cell hlt]; exact d4, by rw [hb.cell hlt]; exact d5, d6⟩
theorem may_iff (k v : ByteArray) : May (k, v) ↔ (1 ≤ k.size ∧ k.size ≤ 64) ∧ v.size ≤ 400 := by
  unfold May
  constructor
  · intro h; refine ⟨⟨?_, ?_⟩, ?_⟩ <;> (simp at h; omega)
  · intro h; simp; omega
instance (k v : ByteArray) : Decidable (May (k, v)) := decidable_of_iff _ (may_iff k v).symm
/-- What a step gives. -/
def OV.byte (o : OV) : Nat := if o.value.size = 0 then 118 else (o.value.data.toList.getD 0 0).toNat
def OV.val (o : OV) : ByteArray := if o.long < 0 ∨ 1000 < o.long then o.value else strOf (List.replicate o.long.toNat (UInt8.ofNat o.byte))
theorem str_at (s : ByteArray) (k x : Nat) (hk : k < s.size) (hx : (s.data.toList.getD k 0).toNat = x) (W : World) : (Instr.index 9 (.string s) (.int .i64 (k : Int))).run Tryz.prog W = .ok (.int .u8 (x : Int)) W := by
  have hk' : k < s.data.size := hk
  rw [run_index_string W 9 s .i64 (k : Int) Tryz.underlying9, dif_pos ⟨by omega, by omega⟩]
  congr 2
  rw [← hx, List.getD_eq_getElem?_getD, Array.getElem?_toList, Array.getElem?_eq_getElem hk']
  rfl
theorem u8r_set2 (f m n : Nat) (v : Value) (h : m < n) : ((u8r f m n).setIfInBounds m v).setIfInBounds m (.int .u8 (f : Int)) = u8r f (m + 1) n := by
  rw [← u8r_set f m n h]
  simp only [u8r, List.setIfInBounds_toArray, List.set_set]
set_option maxHeartbeats 1000000 in
theorem value_own (k n L : Int) (key til v : ByteArray) (w : World) (h : L < 0 ∨ 1000 < L) : Calls Tryz.prog 12 #[.agg #[.int .i64 k, .int .i64 n, .int .i64 L, .string key, .string til, .string v]] w fun e w' => e = .returned (.string v) ∧ Below w.heap.size w w' := by
  by_cases h1 : L < 0
  · clear h
    go_enter Tryz.func12, Tryz.ntmps12
    go_wp2
    go_ret
    exact ⟨rfl, (Below.refl _ w).alloc (Nat.le_refl _) _⟩
  · have h2 : 1000 < L := by omega
    clear h
    go_enter Tryz.func12, Tryz.ntmps12
    go_wp2
    go_ret
    exact ⟨rfl, (Below.refl _ w).alloc (Nat.le_refl _) _⟩
set_option maxRecDepth 100000 in
set_option maxHeartbeats 2000000 in
theorem value_fill (k q : Int) (n : Nat) (key til v : ByteArray) (w : World) (hn : n ≤ 1000) (f : Nat) (hf : f < 256) (hv : v.size = 0 ∧ f = 118 ∨ 0 < v.size ∧ (v.data.toList.getD 0 0).toNat = f) (hvs : v.size ≤ 140737488351232) (T : ByteArray) (hT : strOf (List.replicate n (UInt8.ofNat f)) = T) :
    Calls Tryz.prog 12 #[.agg #[.int .i64 k, .int .i64 q, .int .i64 (n : Int), .string key, .string til, .string v]] w fun e w' => e = .returned (.string T) ∧ Below w.heap.size w w' := by
  have HT : Hid (strOf (List.replicate n (UInt8.ofNat f)) = T) := hT
  clear hT
  have h01 : ¬ (n : Int) < 0 := by omega
  have h02 : ¬ (1000 : Int) < (n : Int) := by omega
  have HV : Hid (v.size = 0 ∧ f = 118 ∨ 0 < v.size ∧ (v.data.toList.getD 0 0).toNat = f) := hv
  clear hv
  obtain ⟨b, hb⟩ : ∃ b, w.heap.size = b := ⟨_, rfl⟩
  obtain ⟨W1, hW1⟩ : ∃ W1, w.alloc (.cells #[.int .i64 k, .int .i64 q, .int .i64 (n : Int), .string key, .string til, .string v] 31) = W1 := ⟨_, rfl⟩
  have hb1 : Below b w W1 := by rw [← hW1, ← hb]; exact (Below.refl _ w).alloc (Nat.le_refl _) _
  have hr1 : W1.heap[b]? = some (.cells #[.int .i64 k, .int .i64 q, .int .i64 (n : Int), .string key, .string til, .string v] 31 (0, 0)) := by rw [← hW1, ← hb]; exact heap_alloc_new w _
  have cL : W1.cell? ⟨b, 2, none⟩ = some (.int .i64 (n : Int)) := by rw [cell_of_row _ b _ _ _ _ hr1]; rfl
  have hmk : (Instr.makeSlice 67 (.int .i64 (n : Int)) (.int .i64 (n : Int))).run Tryz.prog W1 = .ok (.slice (some ⟨W1.heap.size, 0, none⟩) n n) (W1.alloc (.cells (u8r f 0 n) 5)) := by
    have := run_make (P := Tryz.prog) W1 67 5 _ (.int .u8 0) Tryz.underlying67 rfl rfl .i64 .i64 (n : Int) (n : Int) (by omega) (by omega) (by show (1 : Int) * _ ≤ _; omega) (by omega)
    rw [this, show ((n : Int) : Int).toNat = n by omega, ← u8r_made f, show Tryz.prog.types[5].size = 1 from rfl, Nat.mul_one]
    rfl
  obtain ⟨c, hc⟩ : ∃ c, W1.heap.size = c := ⟨_, rfl⟩
  obtain ⟨W2, hW2⟩ : ∃ W2, W1.alloc (.cells (u8r f 0 n) 5) = W2 := ⟨_, rfl⟩
  rw [hW2, hc] at hmk
  have hbc : b < c := by rw [← hc]; exact lt_of_some hr1
  have HI : Hid (W2.heap[c]? = some (.cells (u8r f 0 n) 5 (0, 0)) ∧ W2.heap[b]? = some (.cells #[.int .i64 k, .int .i64 q, .int .i64 (n : Int), .string key, .string til, .string v] 31 (0, 0)) ∧ Below b w W2) := by
    rw [← hW2]
    refine ⟨by rw [← hc]; exact heap_alloc_new W1 _, ?_, hb1.alloc (by omega) _⟩
    rw [Below.heap_alloc _ _ _ (by omega)]
    exact hr1
  clear hb1 hr1
  go_enter Tryz.func12, Tryz.ntmps12
  go_wp2
  go_loopw [4] (fun x wr => ∃ m : Nat, m ≤ n ∧ x = .int .i64 m ∧ wr.heap[c]? = some (.cells (u8r f m n) 5 (0, 0)) ∧ wr.heap[b]? = some (.cells #[.int .i64 k, .int .i64 q, .int .i64 (n : Int), .string key, .string til, .string v] 31 (0, 0)) ∧ Below b w wr) (fun x _ => n - (intOf x).toNat)
  case atStart => exact ⟨0, by omega, rfl, HI.out⟩
  case round =>
    clear HI cL hmk hW1 hW2
    obtain ⟨m, hm, rfl, hrc, hrb, hbel⟩ := hrel
    by_cases hlt : m < n
    · have kk : (m : Int) < (n : Int) := by omega
      have fm := frozen_of_row wr c m _ _ hrc
      obtain ⟨W3, hW3⟩ : ∃ W3, wr.setCell ⟨c, m, none⟩ (.int .u8 118) = W3 := ⟨_, rfl⟩
      have h3c : W3.heap[c]? = some (.cells ((u8r f m n).setIfInBounds m (.int .u8 118)) 5 (0, 0)) := by rw [← hW3, heap_setCell_same wr c m _ _ _ hrc]
      have h3b : W3.heap[b]? = some (.cells #[.int .i64 k, .int .i64 q, .int .i64 (n : Int), .string key, .string til, .string v] 31 (0, 0)) := by rw [← hW3, heap_setCell_other _ _ _ _ (by show b ≠ c; omega)]; exact hrb
      have h3l : Below b w W3 := by rw [← hW3]; exact hbel.setCell (by show _ ≤ c; omega) _
      have fm3 := frozen_of_row W3 c m _ _ h3c
      have cv : W3.cell? ⟨b, 5, none⟩ = some (.string v) := by rw [cell_of_row _ b _ _ _ _ h3b]; rfl
      have cm : wr.cell? ⟨c, m, none⟩ = some (.int .u8 0) := by
        rw [cell_of_row _ c _ _ _ _ hrc]
        simp only [u8r, List.getElem?_toArray]
        rw [List.getElem?_append_right (by simp), List.getElem?_replicate, if_pos (by simp; omega)]
      have cm3 : W3.cell? ⟨c, m, none⟩ = some (.int .u8 118) := by
        rw [cell_of_row _ c _ _ _ _ h3c, Array.getElem?_setIfInBounds_self_of_lt (by simp [u8r]; omega)]
      rcases HV.out with ⟨hv0, hf1⟩ | ⟨hv0, hf1⟩
      · have kz : ¬ (0 : Int) < (v.size : Int) := by omega
        have HN : Hid (W3.heap[c]? = some (.cells (u8r f (m + 1) n) 5 (0, 0)) ∧ W3.heap[b]? = some (.cells #[.int .i64 k, .int .i64 q, .int .i64 (n : Int), .string key, .string til, .string v] 31 (0, 0)) ∧ Below b w W3) := by
          refine ⟨?_, h3b, h3l⟩
          rw [h3c, ← u8r_set f m n hlt, hf1]
          rfl
        clear hrc hrb hbel h3c h3b h3l hf1 hv0
        go_wp2
        exact ⟨⟨m + 1, by omega, by go_num, HN.out⟩, by simp [intOf]; omega⟩
      · have kz : (0 : Int) < (v.size : Int) := by omega
        have hix : ∀ W, (Instr.index 9 (.string v) (.int .i64 0)).run Tryz.prog W = .ok (.int .u8 (f : Int)) W := str_at v 0 f hv0 hf1
        have HN : Hid ((W3.setCell ⟨c, m, none⟩ (.int .u8 (f : Int))).heap[c]? = some (.cells (u8r f (m + 1) n) 5 (0, 0)) ∧ (W3.setCell ⟨c, m, none⟩ (.int .u8 (f : Int))).heap[b]? = some (.cells #[.int .i64 k, .int .i64 q, .int .i64 (n : Int), .string key, .string til, .string v] 31 (0, 0)) ∧ Below b w (W3.setCell ⟨c, m, none⟩ (.int .u8 (f : Int)))) := by
          refine ⟨?_, ?_, h3l.setCell (by show _ ≤ c; omega) _⟩
          · rw [heap_setCell_same W3 c m _ _ _ h3c, u8r_set2 f m n _ hlt]
          · rw [heap_setCell_other _ _ _ _ (by show b ≠ c; omega)]; exact h3b
        clear hrc hrb hbel h3c h3b h3l hf1 hv0
        go_wp2
        exact ⟨⟨m + 1, by omega, by go_num, HN.out⟩, by simp [intOf]; omega⟩
    · obtain rfl : n = m := by omega
      have kk : ¬ ((n : Int) : Int) < (n : Int) := by omega
      have hcv : (convert 67 9 (.slice (some ⟨c, 0, none⟩) n n)).run Tryz.prog wr = .ok (.string (strOf (List.replicate n (UInt8.ofNat f)))) wr := by
        refine conv_row wr c n _ (by simp) (fun i hi => ?_)
        rw [cell_of_row _ c _ _ _ _ hrc, Nat.zero_add]
        simp only [u8r, List.getElem?_toArray]
        rw [List.getElem?_append_left (by simpa using hi), List.getElem?_replicate, if_pos hi, List.getD_eq_getElem?_getD, List.getElem?_replicate, if_pos hi]
        simp [Nat.mod_eq_of_lt hf]
      clear hrc hrb
      rw [HT.out] at hcv
      go_wp2
      go_ret
      exact ⟨rfl, hbel⟩
theorem value_any (o : OV) (h : o.In) (w : World) : Calls Tryz.prog 12 #[o.agg] w fun e w' => e = .returned (.string o.val) ∧ Below w.heap.size w w' := by
  obtain ⟨_, _, _, _, _, h5⟩ := h
  obtain ⟨k, n, l, key, til, v⟩ := o
  unfold OV.agg OV.val OV.byte
  simp only at h5 ⊢
  by_cases hl : l < 0 ∨ 1000 < l
  · rw [if_pos hl]
    exact value_own k n l key til v w hl
  · rw [if_neg hl]
    obtain ⟨m, rfl⟩ := Int.eq_ofNat_of_zero_le (show 0 ≤ l by omega)
    rw [show ((m : Int)).toNat = m by omega]
    refine value_fill k n m key til v w (by omega) _ ?_ ?_ h5 _ rfl
    · split
      · omega
      · exact UInt8.toNat_lt _
    · by_cases hv : v.size = 0
      · exact .inl ⟨hv, by rw [if_pos hv]⟩
      · exact .inr ⟨by omega, by rw [if_neg hv]⟩
set_option maxHeartbeats 1000000 in
theorem may_any (k v : ByteArray) (hk : k.size ≤ 140737488351232) (hv : v.size ≤ 140737488351232) (w : World) : Calls Tryz.prog 33 #[.string k, .string v] w fun e w' => e = .returned (.bool (decide (May (k, v)))) ∧ w' = w := by
  by_cases h1 : 1 ≤ k.size
  · have k1 : (1 : Int) ≤ (k.size : Int) := by omega
    by_cases h2 : k.size ≤ 64
    · have k2 : (k.size : Int) ≤ 64 := by omega
      have HE : Hid (decide ((v.size : Int) ≤ 400) = decide (May (k, v))) := by
        show _ = _
        by_cases h3 : v.size ≤ 400
        · rw [decide_eq_true (by omega : (v.size : Int) ≤ 400), decide_eq_true ((may_iff k v).2 ⟨⟨h1, h2⟩, h3⟩)]
        · rw [decide_eq_false (by omega : ¬ (v.size : Int) ≤ 400), decide_eq_false (fun h => h3 ((may_iff k v).1 h).2)]
      rw [← HE.out]
      clear HE
      go_enter Tryz.func33, Tryz.ntmps33
      go_wp2
      go_ret
      exact ⟨rfl, rfl⟩
    · have k2 : ¬ (k.size : Int) ≤ 64 := by omega
      rw [decide_eq_false (fun h => h2 ((may_iff k v).1 h).1.2)]
      go_enter Tryz.func33, Tryz.ntmps33
      go_wp2
      go_ret
      exact ⟨rfl, rfl⟩
  · have k1 : ¬ (1 : Int) ≤ (k.size : Int) := by omega
    rw [decide_eq_false (fun h => h1 ((may_iff k v).1 h).1.1)]
    go_enter Tryz.func33, Tryz.ntmps33
    go_wp2
    go_ret
    exact ⟨rfl, rfl⟩
end Go.Proofs.YtnafalkcgghjgaaGreatDoor
