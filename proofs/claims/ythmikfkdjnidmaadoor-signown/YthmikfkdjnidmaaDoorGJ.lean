/- A walk over few; signatures that came in. -/
import Derived.Test.YthmikfkdjnidmaaDoorGI
import Derived.Deep.Slices
namespace Go.Proofs.YthmikfkdjnidmaaDoor
open Go.ChangeShapes Go.WideShapes Go.ChangeAt Go.RowKit Go.Deep
/-- Are there so few signatures that they are gone through? -/
def fewB (l : List Sg) : Bool := decide (l.length ≤ 1100 ∧ ∀ s ∈ l, s.2.size ≤ 100)
set_option maxRecDepth 100000 in
set_option maxHeartbeats 1000000 in
theorem few_any {G : Nat → Prop} {w : World} {a : Option Addr} {n c : Nat} {l : List Sg} (h : Gw G w a n c l) : Calls Tryd.prog 16 #[.slice a n c] w fun e w' => e = .returned (.bool (fewB l)) ∧ w' = w := by
  have hl := h.len
  have hm := h.max
  by_cases h11 : 1100 < n
  · have k11 : (1100 : Int) < (n : Int) := by omega
    have e : fewB l = false := decide_eq_false (fun hh => by have := hh.1; omega)
    rw [e]
    clear h
    go_enter Tryd.func16, Tryd.ntmps16
    go_wp2
    go_ret
    exact ⟨rfl, rfl⟩
  · have k11 : ¬ (1100 : Int) < (n : Int) := by omega
    obtain ⟨fb, hfb⟩ : ∃ fb, fewB l = fb := ⟨_, rfl⟩
    rw [hfb]
    have HF : Hid (fewB l = fb ∧ Gw G w a n c l) := ⟨hfb, h⟩
    clear h hfb
    go_enter Tryd.func16, Tryd.ntmps16
    go_wp2
    go_loopw [3] (fun vi wr => ∃ i : Nat, i ≤ n ∧ vi = .int .i64 i ∧ (∀ j, j < i → ∀ s, l[j]? = some s → s.2.size ≤ 100) ∧ wr = w) (fun vi _ => n - (intOf vi).toNat)
    case atStart => exact ⟨0, by omega, rfl, fun j hj => by omega, rfl⟩
    case round =>
      obtain ⟨i, hi, rfl, hbe, hwr⟩ := hrel
      subst wr
      by_cases hlt : i < n
      · have kk : (i : Int) < (n : Int) := by omega
        obtain ⟨sb, so, rfl, _, hc⟩ := HF.out.2.at (by omega)
        obtain ⟨⟨t1, t2⟩, ht⟩ : ∃ t, l[i]? = some t := ⟨_, List.getElem?_eq_getElem (by omega)⟩
        obtain ⟨c0, c1⟩ := hc i (t1, t2) ht
        simp only at c0 c1
        have HP : Hid (l[i]? = some (t1, t2) ∧ ∀ j, j < i → ∀ s, l[j]? = some s → s.2.size ≤ 100) := ⟨ht, hbe⟩
        clear hbe hc ht
        by_cases hz : 100 < t2.size
        · have kz : (100 : Int) < (t2.size : Int) := by omega
          have e : fb = false := by
            rw [← HF.out.1]
            refine decide_eq_false (fun hh => ?_)
            have := hh.2 (t1, t2) (List.mem_of_getElem? HP.out.1)
            have : t2.size ≤ 100 := this
            omega
          subst e
          go_wp2
          go_ret
          exact ⟨rfl, rfl⟩
        · have kz : ¬ (100 : Int) < (t2.size : Int) := by omega
          go_wp2
          refine ⟨⟨i + 1, by omega, by go_num, fun j hj s hs => ?_, by first | trivial | rfl⟩, by simp [intOf]; omega⟩
          by_cases hij : j = i
          · subst hij
            rw [HP.out.1] at hs
            obtain rfl := Option.some.inj hs
            show t2.size ≤ 100
            omega
          · exact HP.out.2 j (by omega) s hs
      · have kk : ¬ (i : Int) < (n : Int) := by omega
        have e : fb = true := by
          rw [← HF.out.1]
          refine decide_eq_true ⟨by omega, fun s hs => ?_⟩
          obtain ⟨j, hj, e⟩ := List.getElem_of_mem hs
          exact hbe j (by omega) s (by rw [List.getElem?_eq_getElem hj, e])
        subst e
        clear hbe
        go_wp2
        go_ret
        exact ⟨rfl, rfl⟩
/-- Signatures that came in. -/
def Gs (w : World) (a : Option Addr) (len cap : Nat) (l : List Sg) : Prop := Gw (fun _ => True) w a len cap l
theorem cellsSg : Tryd.prog.cellsOf 25 = 2 := by kernel_rfl
/-- A signature read out of two cells. -/
theorem sign_of {H : Type} {enc : TypeId × Value → H} {W : World} {base : Nat} {spare : Nat → Bool} {held : Bool} {fuel : Nat} {cs : List Value} {x : DataW H × List MemPlace} (hf : DataW.trod enc Tryd.prog W base spare held fuel 25 cs = some x)
    (hw : ∀ n ∈ x.1.weights Tryd.prog 25, n ≤ reachBytes) : ∃ (n : Nat) (s : ByteArray), cs = [.int .u32 (n : Int), .string s] ∧ n < 4294967296 ∧ s.size ≤ 140737488351232 := by
  obtain ⟨xs, n, _, hx0, hl, hx, hi⟩ := DataW.trod_struct Tryd.underlying25 hf
  rw [cellsSg] at hl
  match cs, hl with
  | [c0, c1], _ =>
    match xs, hx with
    | [x0, x1], _ =>
      have h0 : DataW.trod enc Tryd.prog W base spare held n 23 (([c0, c1].drop 0).take (Tryd.prog.cellsOf 23)) = some x0 := hi 0 _ rfl
      rw [show Tryd.prog.cellsOf 23 = 1 by kernel_rfl, show ([c0, c1].drop 0).take 1 = [c0] from rfl] at h0
      have h1 : DataW.trod enc Tryd.prog W base spare held n 9 (([c0, c1].drop 1).take (Tryd.prog.cellsOf 9)) = some x1 := hi 1 _ rfl
      rw [show Tryd.prog.cellsOf 9 = 1 by kernel_rfl, show ([c0, c1].drop 1).take 1 = [c1] from rfl] at h1
      obtain ⟨y0, e0, f0, w0⟩ := DataW.trod_int Tryd.underlying23 h0
      obtain ⟨y1, e1, f1, w1⟩ := DataW.trod_string Tryd.underlying9 h1
      simp only [List.cons.injEq, and_true] at e0 e1
      subst e0 e1
      subst hx0
      have key : y1.size ≤ 140737488351232 := by
        have := hw y1.data.toList.length (by
          simp only [DataW.weights, Tryd.underlying25]
          exact DataW.weights_mem_each (ts := [23, 9]) (j := 1) rfl (d := .lit (.string y1.data.toList)) (by simp [f1]) _ (by simp [DataW.weights]))
        simpa [reachBytes] using this
      have hu := wf_u32 w0
      exact ⟨y0.toNat, y1, by rw [Int.toNat_of_nonneg hu.1], by omega, key⟩
theorem sign_arg {H : Type} {enc : TypeId × Value → H} {W : World} {b0 base : Nat} {spare : Nat → Bool} {held : Bool} {v : Value} {d : DataW H} {p : List MemPlace} {ts : List TypeId} {ds : List (DataW H)} {j : Nat} (hv : Value.okWide Tryd.prog W .any b0 25 v) (h : DataW.Trod enc Tryd.prog W base spare held 25 v d p)
    (hsz : (DataW.weightsEach Tryd.prog ts ds).all (· ≤ reachBytes) = true) (ht : ts[j]? = some 25) (hd : ds[j]? = some d) : ∃ (n : Nat) (s : ByteArray), v = .agg #[.int .u32 (n : Int), .string s] ∧ s.size ≤ 140737488351232 ∧ n < 4294967296 := by
  unfold Value.okWide at hv
  rw [Tryd.underlying25] at hv
  obtain ⟨cs, rfl, _, _⟩ := hv
  obtain ⟨fuel, hf⟩ := h
  obtain ⟨n, s, ho, h1, h2⟩ := sign_of (cs := cs.toList) (by simpa [Value.cells] using hf) (fun n hn => by
    have := List.all_eq_true.1 hsz n (DataW.weights_mem_each ht hd n hn)
    simpa using this)
  exact ⟨n, s, by congr 1; exact Array.toList_inj.1 ho, h2, h1⟩
theorem mem_weightsAll {H : Type} {P : Program} {e : TypeId} {d : DataW H} : ∀ {l : List (DataW H)}, d ∈ l → ∀ n ∈ d.weights P e, n ∈ DataW.weightsAll P e l
  | x :: l, h, n, hn => by
    simp only [DataW.weightsAll, List.mem_append]
    rcases List.mem_cons.1 h with rfl | h
    · exact .inl hn
    · exact .inr (mem_weightsAll h n hn)
theorem signs_of {H : Type} {enc : TypeId × Value → H} {W : World} {base : Nat} {spare : Nat → Bool} {held : Bool} {fuel : Nat} {a : Option Addr} {len cap : Nat} {d : DataW H} {p : List MemPlace} {ts : List TypeId} {ds : List (DataW H)} {j : Nat}
    (hf : DataW.trod enc Tryd.prog W base spare held fuel 34 [.slice a len cap] = some (d, p)) (hsz : (DataW.weightsEach Tryd.prog ts ds).all (· ≤ reachBytes) = true) (ht : ts[j]? = some 34) (hd : ds[j]? = some d) :
    ∃ ss, Gs W a len cap ss ∧ ∀ s ∈ ss, s.1 < 4294967296 ∧ s.2.size ≤ 140737488351232 := by
  have hw : ∀ n ∈ d.weights Tryd.prog 34, n ≤ reachBytes := fun n hn => by
    have := List.all_eq_true.1 hsz n (DataW.weights_mem_each ht hd n hn)
    simpa using this
  rcases open_slice Tryd.underlying34 hf with ⟨hcs, _⟩ | ⟨ad, l, c, m, n, D, Pl, hcs, _, hl, hm, hmm, hx, hV⟩
  · simp only [List.cons.injEq, Value.slice.injEq, and_true] at hcs
    obtain ⟨rfl, rfl, rfl⟩ := hcs
    exact ⟨[], Rw.zero _ W 25 2 _ _ (Nat.zero_le _), fun s hs => by cases hs⟩
  · simp only [List.cons.injEq, Value.slice.injEq, and_true] at hcs
    obtain ⟨rfl, rfl, rfl⟩ := hcs
    obtain ⟨rfl, rfl⟩ := Prod.mk.inj hx
    have hlm : len ≤ m := by rw [hmm]; split <;> omega
    rw [cellsSg] at hV
    have hb : ∀ i, i < len → ∃ s : Sg, (W.cell? (ad.add (i * 2)) = some (.int .u32 (s.1 : Int)) ∧ W.cell? ((ad.add (i * 2)).add 1) = some (.string s.2)) ∧ s.1 < 4294967296 ∧ s.2.size ≤ 140737488351232 := by
      intro i hi
      obtain ⟨cs', h1, h2⟩ := hV i (by omega)
      obtain ⟨n1, s1, rfl, hr1, hr2⟩ := sign_of h2 (fun n hn => hw n (by
        simp only [DataW.weights, Tryd.underlying34, List.mem_cons, List.mem_append]
        exact .inr (.inl (mem_weightsAll (d := D i) (List.mem_map.2 ⟨i, List.mem_range.2 hi, rfl⟩) n hn))))
      obtain ⟨_, _, hc⟩ := World.cells?_some h1
      refine ⟨(n1, s1), ⟨?_, hc 1 (by omega)⟩, hr1, hr2⟩
      have := hc 0 (by omega)
      rwa [show (ad.add (i * 2)).add 0 = ad.add (i * 2) by rw [add_add, Nat.add_zero]] at this
    obtain ⟨f, hf⟩ := choose_lt (α := Sg) hb
    refine ⟨(List.range len).map f, ⟨?_, hl, hm, fun h0 => ?_⟩, fun s hs => ?_⟩
    · unfold sgR
      rw [fm_len sgC_len, List.length_map, List.length_range]
    · obtain ⟨bb, oo, spot⟩ := ad
      have hspot : spot = none := by simpa [Addr.add] using World.cell?_spot (hf 0 h0).1.1
      subst hspot
      refine ⟨bb, oo, rfl, ?_, trivial, fun k u hu => ?_⟩
      · have := World.block_lt_of_cell? W _ (hf 0 h0).1.1
        rwa [add_at] at this
      · have hk : k < len * 2 := by
          have := (List.getElem?_eq_some_iff.1 hu).1
          unfold sgR at this
          rw [fm_len sgC_len, List.length_map, List.length_range] at this
          exact this
        obtain ⟨i, r, rfl, hr⟩ : ∃ i r, k = i * 2 + r ∧ r < 2 := ⟨k / 2, k % 2, by omega, by omega⟩
        have hi : i < len := by omega
        have h5 := hf i hi
        simp only [add_at] at h5
        have h6 : ((List.range len).map f)[i]? = some (f i) := by rw [List.getElem?_map, List.getElem?_range hi]; rfl
        have h7 : (sgR ((List.range len).map f))[i * 2 + r]? = (sgC (f i))[r]? := fm_at sgC_len h6 r hr
        rw [h7] at hu
        have : r = 0 ∨ r = 1 := by omega
        rcases this with rfl | rfl
        · obtain rfl := Option.some.inj hu
          exact h5.1.1
        · obtain rfl := Option.some.inj hu
          rw [← Nat.add_assoc]
          exact h5.1.2
    · obtain ⟨i, hi, rfl⟩ := List.mem_map.1 hs
      exact (hf i (List.mem_range.1 hi)).2
end Go.Proofs.YthmikfkdjnidmaaDoor
