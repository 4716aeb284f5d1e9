/- Bytes and pieces that came in. What the library proves of the functions of Go's library that are called, laid at this program's numbers. -/
import Derived.Test.YtbhnmjjfammlkaaDoorHU
import Derived.Test.YtbhnmjjfammlkaaDoorHJ
import Derived.Test.YtbhnmjjfammlkaaDoorHQ
import Derived.Test.YtbhnmjjfammlkaaDoorBA
import Derived.Deep.Slices
import Derived.Shelf.Strings.Builder1
import Derived.Shelf.Strconv.Itoa0
import Derived.Test.YtbhnmjjfammlkaaDoorProg
namespace Go.Proofs.YtbhnmjjfammlkaaDoor
open Go.ChangeShapes Go.WideShapes Go.ChangeAt Go.RowKit Go.Deep
theorem IsRow.bs {w : World} {a : Option Addr} {len cap : Nat} {zs : List Int} (h : IsRow .u8 w a len cap zs) : ∃ bs, Bs w a len cap bs := by
  rcases h with ⟨rfl, rfl, rfl, rfl⟩ | ⟨x, rfl, h1, h2, h3, h4, h5⟩
  · exact ⟨[], Bs.nil w⟩
  · refine ⟨(zs.take len).map fun z => UInt8.ofNat z.toNat, by simp; omega, h1, by simpa [maxLen] using h2, (by intro e; cases e), ?_⟩
    intro ad had i hi
    cases had
    simp only [List.length_map, List.length_take] at hi
    rw [h4 i (by omega)]
    have hz := wf_u8 (h5 (zs[i]'(by omega)) (List.getElem_mem _))
    simp only [List.getElem_map, List.getElem_take]
    congr 2
    rw [List.getD_eq_getElem?_getD, List.getElem?_eq_getElem (by omega)]
    simp only [Option.getD_some, UInt8.toNat_ofNat']
    omega
theorem bytes_arg {H : Type} {enc : TypeId × Value → H} {W : World} {base : Nat} {held : Bool} {fuel : Nat} {a : Option Addr} {len cap : Nat} {x : DataW H × List MemPlace} (hf : DataW.trod enc Tryd.prog W base (fun _ => true) held fuel 50 [.slice a len cap] = some x) : ∃ bs, Bs W a len cap bs ∧ True := by
  have key : ∃ zs, IsRow .u8 W a len cap zs := by
    rcases open_ints Tryd.underlying50 Tryd.underlying5 (by kernel_rfl) hf with ⟨hcs, _⟩ | ⟨x, l, c, zs, hcs, _, hl, hm, hz, _, hcell, hwz⟩
    · simp at hcs
      obtain ⟨rfl, rfl, rfl⟩ := hcs
      exact ⟨[], .inl ⟨rfl, rfl, rfl, rfl⟩⟩
    · simp at hcs
      obtain ⟨rfl, rfl, rfl⟩ := hcs
      exact ⟨zs, .inr ⟨_, rfl, hl, hm, by simpa using hz, hcell, hwz⟩⟩
  obtain ⟨zs, hz⟩ := key
  obtain ⟨bs, hb⟩ := hz.bs
  exact ⟨bs, hb, trivial⟩
/-- Pieces that came in. -/
def Hs (w : World) (a : Option Addr) (len cap : Nat) (l : List Pc) : Prop := Hw (fun _ => True) w a len cap l
theorem cellsPc : Tryd.prog.cellsOf 48 = 3 := by kernel_rfl
theorem wf_i64p {n : Int} (h : (Lit.int .i64 n).wf = true) : -9223372036854775808 ≤ n ∧ n ≤ 9223372036854775807 := wf_i64 h
set_option maxRecDepth 100000 in
theorem piece_of {H : Type} {enc : TypeId × Value → H} {W : World} {base : Nat} {spare : Nat → Bool} {held : Bool} {fuel : Nat} {cs : List Value} {x : DataW H × List MemPlace} (hf : DataW.trod enc Tryd.prog W base spare held fuel 48 cs = some x)
    (hw : ∀ n ∈ x.1.weights Tryd.prog 48, n ≤ reachBytes) : ∃ p : Pc, cs = [.bool p.copy, .int .i64 p.n, .string p.data] ∧ -9223372036854775808 ≤ p.n ∧ p.n ≤ 9223372036854775807 ∧ p.data.size ≤ 140737488351232 := by
  obtain ⟨xs, n, _, hx0, hl, hx, hi⟩ := DataW.trod_struct Tryd.underlying48 hf
  rw [cellsPc] at hl
  match cs, hl with
  | [c0, c1, c2], _ =>
    match xs, hx with
    | [x0, x1, x2], _ =>
      have h0 : DataW.trod enc Tryd.prog W base spare held n 4 (([c0, c1, c2].drop 0).take (Tryd.prog.cellsOf 4)) = some x0 := hi 0 _ rfl
      rw [show Tryd.prog.cellsOf 4 = 1 by kernel_rfl, show ([c0, c1, c2].drop 0).take 1 = [c0] from rfl] at h0
      have h1 : DataW.trod enc Tryd.prog W base spare held n 3 (([c0, c1, c2].drop 1).take (Tryd.prog.cellsOf 3)) = some x1 := hi 1 _ rfl
      rw [show Tryd.prog.cellsOf 3 = 1 by kernel_rfl, show ([c0, c1, c2].drop 1).take 1 = [c1] from rfl] at h1
      have h2 : DataW.trod enc Tryd.prog W base spare held n 9 (([c0, c1, c2].drop 2).take (Tryd.prog.cellsOf 9)) = some x2 := hi 2 _ rfl
      rw [show Tryd.prog.cellsOf 9 = 1 by kernel_rfl, show ([c0, c1, c2].drop 2).take 1 = [c2] from rfl] at h2
      obtain ⟨y0, e0, f0⟩ := DataW.trod_bool Tryd.underlying4 h0
      obtain ⟨y1, e1, f1, w1⟩ := DataW.trod_int Tryd.underlying3 h1
      obtain ⟨y2, e2, f2, w2⟩ := DataW.trod_string Tryd.underlying9 h2
      simp only [List.cons.injEq, and_true] at e0 e1 e2
      subst e0 e1 e2
      subst hx0
      have key : y2.size ≤ 140737488351232 := by
        have := hw y2.data.toList.length (by
          simp only [DataW.weights, Tryd.underlying48]
          exact DataW.weights_mem_each (ts := [4, 3, 9]) (j := 2) rfl (d := .lit (.string y2.data.toList)) (by simp [f2]) _ (by simp [DataW.weights]))
        simpa [reachBytes] using this
      have hu := wf_i64p w1
      exact ⟨⟨y0, y1, y2⟩, rfl, hu.1, hu.2, key⟩
theorem mem_weightsAll {H : Type} {P : Program} {e : TypeId} {d : DataW H} : ∀ {l : List (DataW H)}, d ∈ l → ∀ n ∈ d.weights P e, n ∈ DataW.weightsAll P e l
  | x :: l, h, n, hn => by
    simp only [DataW.weightsAll, List.mem_append]
    rcases List.mem_cons.1 h with rfl | h
    · exact .inl hn
    · exact .inr (mem_weightsAll h n hn)
set_option maxRecDepth 100000 in
theorem pieces_of {H : Type} {enc : TypeId × Value → H} {W : World} {base : Nat} {spare : Nat → Bool} {held : Bool} {fuel : Nat} {a : Option Addr} {len cap : Nat} {d : DataW H} {p : List MemPlace} {ts : List TypeId} {ds : List (DataW H)} {j : Nat}
    (hf : DataW.trod enc Tryd.prog W base spare held fuel 26 [.slice a len cap] = some (d, p)) (hsz : (DataW.weightsEach Tryd.prog ts ds).all (· ≤ reachBytes) = true) (ht : ts[j]? = some 26) (hd : ds[j]? = some d) :
    ∃ ss, Hs W a len cap ss ∧ ∀ p ∈ ss, -9223372036854775808 ≤ p.n ∧ p.n ≤ 9223372036854775807 ∧ p.data.size ≤ 140737488351232 := by
  have hw : ∀ n ∈ d.weights Tryd.prog 26, n ≤ reachBytes := fun n hn => by
    have := List.all_eq_true.1 hsz n (DataW.weights_mem_each ht hd n hn)
    simpa using this
  rcases open_slice Tryd.underlying26 hf with ⟨hcs, _⟩ | ⟨ad, l, c, m, n, D, Pl, hcs, _, hl, hm, hmm, hx, hV⟩
  · simp only [List.cons.injEq, Value.slice.injEq, and_true] at hcs
    obtain ⟨rfl, rfl, rfl⟩ := hcs
    exact ⟨[], Rw.zero _ W 48 3 _ _ (Nat.zero_le _), fun s hs => by cases hs⟩
  · simp only [List.cons.injEq, Value.slice.injEq, and_true] at hcs
    obtain ⟨rfl, rfl, rfl⟩ := hcs
    obtain ⟨rfl, rfl⟩ := Prod.mk.inj hx
    have hlm : len ≤ m := by rw [hmm]; split <;> omega
    rw [cellsPc] at hV
    have hb : ∀ i, i < len → ∃ s : Pc, (W.cell? (ad.add (i * 3)) = some (.bool s.copy) ∧ W.cell? ((ad.add (i * 3)).add 1) = some (.int .i64 s.n) ∧ W.cell? ((ad.add (i * 3)).add 2) = some (.string s.data)) ∧ -9223372036854775808 ≤ s.n ∧ s.n ≤ 9223372036854775807 ∧ s.data.size ≤ 140737488351232 := by
      intro i hi
      obtain ⟨cs', h1, h2⟩ := hV i (by omega)
      obtain ⟨s, rfl, hr⟩ := piece_of h2 (fun n hn => hw n (by
        simp only [DataW.weights, Tryd.underlying26, List.mem_cons, List.mem_append]
        exact .inr (.inl (mem_weightsAll (d := D i) (List.mem_map.2 ⟨i, List.mem_range.2 hi, rfl⟩) n hn))))
      obtain ⟨_, _, hc⟩ := World.cells?_some h1
      refine ⟨s, ⟨?_, hc 1 (by omega), hc 2 (by omega)⟩, hr⟩
      have := hc 0 (by omega)
      rwa [show (ad.add (i * 3)).add 0 = ad.add (i * 3) by rw [add_add, Nat.add_zero]] at this
    obtain ⟨f, hf⟩ := @choose_lt Pc ⟨⟨false, 0, ⟨#[]⟩⟩⟩ _ _ hb
    refine ⟨(List.range len).map f, ⟨?_, hl, hm, fun h0 => ?_⟩, fun s hs => ?_⟩
    · unfold pcR
      rw [fm_len pcC_len, List.length_map, List.length_range]
    · obtain ⟨bb, oo, spot⟩ := ad
      have hspot : spot = none := by simpa [Addr.add] using World.cell?_spot (hf 0 h0).1.1
      subst hspot
      refine ⟨bb, oo, rfl, ?_, trivial, fun k u hu => ?_⟩
      · have := World.block_lt_of_cell? W _ (hf 0 h0).1.1
        rwa [add_at] at this
      · have hk : k < len * 3 := by
          have := (List.getElem?_eq_some_iff.1 hu).1
          unfold pcR at this
          rw [fm_len pcC_len, List.length_map, List.length_range] at this
          exact this
        obtain ⟨i, r, rfl, hr⟩ : ∃ i r, k = i * 3 + r ∧ r < 3 := ⟨k / 3, k % 3, by omega, by omega⟩
        have hi : i < len := by omega
        have h5 := hf i hi
        simp only [add_at] at h5
        have h6 : ((List.range len).map f)[i]? = some (f i) := by rw [List.getElem?_map, List.getElem?_range hi]; rfl
        have h7 : (pcR ((List.range len).map f))[i * 3 + r]? = (pcC (f i))[r]? := fm_at pcC_len h6 r hr
        rw [h7] at hu
        have : r = 0 ∨ r = 1 ∨ r = 2 := by omega
        rcases this with rfl | rfl | rfl
        · obtain rfl := Option.some.inj hu
          exact h5.1.1
        · obtain rfl := Option.some.inj hu
          rw [← Nat.add_assoc]
          exact h5.1.2.1
        · obtain rfl := Option.some.inj hu
          rw [← Nat.add_assoc]
          exact h5.1.2.2
    · obtain ⟨i, hi, rfl⟩ := List.mem_map.1 hs
      exact (hf i (List.mem_range.1 hi)).2
theorem pre_bytes (a : Option Addr) (len cap j : Nat) (hj : j ≤ cap) (W : World) : (Instr.sliceAt 50 (.slice a len cap) none (some (.int .i64 (j : Int))) none).run Tryd.prog W = .ok (.slice (cutA a cap 0 1) j cap) W := by
  have h1 := size5 W
  simp [Instr.sliceAt, Instr.slice, run_underlying Tryd.underlying50, Instr.sliceBounds, Instr.sliceBound, asIntOf, h1, hj, cutA]
theorem red_n {p : Pc} (h : p.red) : 0 ≤ p.n ∧ p.n ≤ 9223372036854775807 := by
  rcases h with ⟨i, rfl, hi⟩ | ⟨s, rfl, _⟩
  · show 0 ≤ (i : Int) ∧ (i : Int) ≤ _
    omega
  · show 0 ≤ (0 : Int) ∧ (0 : Int) ≤ _
    omega
theorem may_red {l : List Pc} (hm : mayP l = true) (hn : ∀ p ∈ l, p.n ≤ 9223372036854775807) (hs : ∀ p ∈ l, p.data.size ≤ 140737488351232) : ∀ p ∈ l, p.red := fun p hp => by
  have hok := (may_ok hm).1 p hp
  have h1 := hn p hp
  have h2 := hs p hp
  obtain ⟨a, m, s⟩ := p
  cases a with
  | true =>
    simp only [Pc.ok, if_true, Bool.and_eq_true, decide_eq_true_eq] at hok h1
    refine .inl ⟨m.toNat, ?_, by omega⟩
    unfold Pc.blk
    rw [Int.toNat_of_nonneg hok.1, size0 hok.2]
  | false =>
    have hok : m = 0 ∧ s.size ≠ 0 := by simpa [Pc.ok] using hok
    simp only at h2
    refine .inr ⟨s.data.toList, ?_, by rw [Array.length_toList]; show 2 * s.size < _; omega⟩
    rw [byt_ba, hok.1]
theorem cost_enc : ∀ (l : List Pc), costP l ≤ (pcsB l).length + (l.filter fun p => p.copy).length * 0 + (l.map fun p => if p.copy then p.data.size else 0).sum
  | [] => by simp [costP]
  | p :: l => by
    have ih := cost_enc l
    have e1 : costP (p :: l) = p.data.size + costP l := rfl
    have e2 : (pcsB (p :: l)).length = (pcB p).length + (pcsB l).length := by unfold pcsB; rw [List.flatMap_cons, List.length_append]
    rw [e1, e2, List.map_cons, List.sum_cons]
    cases h : p.copy with
    | true => simp; omega
    | false =>
      have e3 : (pcB p).length = (putN (2 * p.data.size)).length + p.data.size := by
        unfold pcB
        rw [if_neg (by rw [h]; decide), List.length_append, Array.length_toList]
        rfl
      simp
      omega
theorem red_copy {l : List Pc} (h : ∀ p ∈ l, p.red) : (l.map fun p => if p.copy then p.data.size else 0).sum = 0 := by
  induction l with
  | nil => rfl
  | cons p l ih =>
    rw [List.map_cons, List.sum_cons, ih (fun q hq => h q (List.mem_cons_of_mem _ hq))]
    rcases h p (List.mem_cons_self ..) with ⟨i, rfl, _⟩ | ⟨s, rfl, _⟩
    · rfl
    · rfl
theorem dec_cost {bs : List UInt8} {l : List Pc} (h : decD bs = some l) : costP l ≤ bs.length := by
  obtain ⟨e1, m1, r1⟩ := decD_enc h
  have h2 := cost_enc l
  rw [red_copy r1] at h2
  rw [← e1]
  unfold encD
  rw [List.length_append]
  omega
end Go.Proofs.YtbhnmjjfammlkaaDoor
namespace Go.Proofs.YtbhnmjjfammlkaaDoor
open Go.Shelf
def Tryd.lays170_ren : Go.Shelf.Ren := ⟨fun | 170 => 35 | n => n, fun | 70 => 71 | 3 => 3 | 0 => 0 | 72 => 73 | 37 => 50 | 5 => 5 | n => n, fun | n => n⟩
theorem Tryd.lays170 : Go.Proofs.Lays.n170 Tryd.prog Tryd.lays170_ren := {
  mixed := by kernel_rfl
  f170 := Tryd.func35.trans (congrArg some (by kernel_rfl))
  t0 := Tryd.underlying0
  a0 := Tryd.isAgg0
  z0 := Tryd.sizeOf0
  v0 := Tryd.zeroValue0
  t3 := Tryd.underlying3
  a3 := Tryd.isAgg3
  z3 := Tryd.sizeOf3
  v3 := Tryd.zeroValue3
  t37 := Tryd.underlying50
  a37 := Tryd.isAgg50
  z37 := Tryd.sizeOf50
  v37 := Tryd.zeroValue50
  t70 := Tryd.underlying71
  a70 := Tryd.isAgg71
  z70 := Tryd.sizeOf71
  v70 := Tryd.zeroValue71
  t72 := Tryd.underlying73
  a72 := Tryd.isAgg73
  z72 := Tryd.sizeOf73
  v72 := Tryd.zeroValue73 }
open Go.RowKit in
theorem Tryd.Builder_Len (B b : Nat) (bs : List Value) (w : World) (h : Lib.IsBuilder 73 5 B b bs w) :
    Calls Tryd.prog 35 #[.pointer (some ⟨b, 0, none⟩)] w fun e w' => e = .returned (.int .i64 bs.length) ∧ w' = w := Any.Builder_Len Tryd.lays170 B b bs w h
def Tryd.lays169_ren : Go.Shelf.Ren := ⟨fun | 169 => 37 | n => n, fun | 70 => 71 | 9 => 9 | 0 => 0 | 72 => 73 | 37 => 50 | 127 => 100 | 3 => 3 | 5 => 5 | n => n, fun | n => n⟩
theorem Tryd.lays169 : Go.Proofs.Lays.n169 Tryd.prog Tryd.lays169_ren := {
  mixed := by kernel_rfl
  f169 := Tryd.func37.trans (congrArg some (by kernel_rfl))
  t0 := Tryd.underlying0
  a0 := Tryd.isAgg0
  z0 := Tryd.sizeOf0
  v0 := Tryd.zeroValue0
  t3 := Tryd.underlying3
  a3 := Tryd.isAgg3
  z3 := Tryd.sizeOf3
  v3 := Tryd.zeroValue3
  t9 := Tryd.underlying9
  a9 := Tryd.isAgg9
  z9 := Tryd.sizeOf9
  v9 := Tryd.zeroValue9
  t37 := Tryd.underlying50
  a37 := Tryd.isAgg50
  z37 := Tryd.sizeOf50
  v37 := Tryd.zeroValue50
  t70 := Tryd.underlying71
  a70 := Tryd.isAgg71
  z70 := Tryd.sizeOf71
  v70 := Tryd.zeroValue71
  t72 := Tryd.underlying73
  a72 := Tryd.isAgg73
  z72 := Tryd.sizeOf73
  v72 := Tryd.zeroValue73
  t127 := Tryd.underlying100
  a127 := Tryd.isAgg100
  z127 := Tryd.sizeOf100
  v127 := Tryd.zeroValue100 }
theorem Tryd.Builder_Extra_169 : Builder.Extra Tryd.prog Tryd.lays169_ren := {
  sizeBuilder := by kernel_rfl
  liesBuilder := by kernel_rfl
  t5 := Tryd.underlying5
  a5 := Tryd.isAgg5
  z5 := Tryd.sizeOf5
  v5 := Tryd.zeroValue5
  infoByte := by kernel_rfl
  cellsByte := by kernel_rfl
  sizeByte := by kernel_rfl
  neB5 := by decide }
open Go.RowKit in
theorem Tryd.Builder_String (B b : Nat) (l : List UInt8) (w : World) (h : Lib.IsBuilder 73 5 B b (Lib.byteCells l) w) (h0 : l ≠ []) :
    Calls Tryd.prog 37 #[.pointer (some ⟨b, 0, none⟩)] w fun e w' => e = .returned (.string ⟨l.toArray⟩) ∧ Below B w w' := Any.Builder_String Tryd.lays169 Tryd.Builder_Extra_169 B b l w h h0
def Tryd.lays166_ren : Go.Shelf.Ren := ⟨fun | 166 => 36 | 240 => 53 | 276 => 66 | n => n, fun | 0 => 0 | 3 => 3 | 4 => 4 | 9 => 9 | 20 => 20 | 37 => 50 | 70 => 71 | 72 => 73 | 75 => 76 | 164 => 114 | 5 => 5 | 80 => 79 | n => n, fun | n => n⟩
theorem Tryd.lays166 : Go.Proofs.Lays.n166 Tryd.prog Tryd.lays166_ren := {
  mixed := by kernel_rfl
  f166 := Tryd.func36.trans (congrArg some (by kernel_rfl))
  f240 := Tryd.func53.trans (congrArg some (by kernel_rfl))
  f276 := Tryd.func66.trans (congrArg some (by kernel_rfl))
  t0 := Tryd.underlying0
  a0 := Tryd.isAgg0
  z0 := Tryd.sizeOf0
  v0 := Tryd.zeroValue0
  t3 := Tryd.underlying3
  a3 := Tryd.isAgg3
  z3 := Tryd.sizeOf3
  v3 := Tryd.zeroValue3
  t4 := Tryd.underlying4
  a4 := Tryd.isAgg4
  z4 := Tryd.sizeOf4
  v4 := Tryd.zeroValue4
  t9 := Tryd.underlying9
  a9 := Tryd.isAgg9
  z9 := Tryd.sizeOf9
  v9 := Tryd.zeroValue9
  t20 := by kernel_rfl
  a20 := fun w => by kernel_rfl
  z20 := fun w => by kernel_rfl
  v20 := fun w => by kernel_rfl
  t37 := Tryd.underlying50
  a37 := Tryd.isAgg50
  z37 := Tryd.sizeOf50
  v37 := Tryd.zeroValue50
  t70 := Tryd.underlying71
  a70 := Tryd.isAgg71
  z70 := Tryd.sizeOf71
  v70 := Tryd.zeroValue71
  t72 := Tryd.underlying73
  a72 := Tryd.isAgg73
  z72 := Tryd.sizeOf73
  v72 := Tryd.zeroValue73
  t75 := Tryd.underlying76
  a75 := Tryd.isAgg76
  z75 := Tryd.sizeOf76
  v75 := Tryd.zeroValue76
  t164 := Tryd.underlying114
  a164 := Tryd.isAgg114
  z164 := Tryd.sizeOf114
  v164 := Tryd.zeroValue114 }
theorem Tryd.Builder_Extra_166 : Builder.Extra Tryd.prog Tryd.lays166_ren := {
  sizeBuilder := by kernel_rfl
  liesBuilder := by kernel_rfl
  t5 := Tryd.underlying5
  a5 := Tryd.isAgg5
  z5 := Tryd.sizeOf5
  v5 := Tryd.zeroValue5
  infoByte := by kernel_rfl
  cellsByte := by kernel_rfl
  sizeByte := by kernel_rfl
  neB5 := by decide }
open Go.RowKit in
theorem Tryd.Builder_WriteString (B b : Nat) (bs : List Value) (s : ByteArray) (w : World) (h : Lib.IsBuilder 73 5 B b bs w) (hlen : bs.length + s.size ≤ 140737488355328) (hBw : B ≤ w.heap.size) :
    Calls Tryd.prog 36 #[.pointer (some ⟨b, 0, none⟩), .string s] w fun e w' => e = .returned (.tuple #[.int .i64 s.size, .nilIface]) ∧ (Lib.BuilderAt 73 5 B b (.pointer (some ⟨b, 0, none⟩)) (bs ++ Lib.strCells s) w' ∧ Below B w w') :=
  Any.Builder_WriteString Tryd.lays166 Tryd.Builder_Extra_166 B b bs s w h hlen hBw
end Go.Proofs.YtbhnmjjfammlkaaDoor
