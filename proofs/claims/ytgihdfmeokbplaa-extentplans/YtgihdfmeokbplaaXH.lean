/- slices.Replace of some spans by up to two. -/
import Derived.Test.YtgihdfmeokbplaaXG
namespace Go.Proofs.Ytgihdfmeokbplaa
open Go.RowKit Ex
set_option maxRecDepth 100000 in
set_option maxHeartbeats 1000000 in
theorem insert_any {w : World} {a : Option Addr} {n cap vb i : Nat} {hs : List Sp} {v : Sp} (h : w.ownsRow 0 37 2 (.slice a n cap) n (spsV hs)) (hv : Blk w vb (spsV [v])) (hne : ∀ x, ob a = some x → vb ≠ x) (hi : i ≤ n) (hn : n ≤ 900000) :
    Calls Try.prog 70 #[.slice a n cap, .int .i64 (i : Int), .slice (some ⟨vb, 0, none⟩) 1 1] w (RpTo w a (hs.take i ++ v :: hs.drop i)) := by
  have hl : hs.length = n := by have := h.1; rw [spsV_len] at this; omega
  rcases Nat.lt_or_ge i n with hlt | hge
  · obtain ⟨b, o, rfl, hb, _⟩ := (SpW.own h).hat (by omega)
    rcases h.2 with ⟨h2, _⟩ | ⟨g, cp, cur, e, _⟩
    · cases h2
    cases e
    have hc := (SpW.own h).hcp
    rcases Nat.lt_or_ge n cap with hr | hr
    · exact insert_room h hv (hne b rfl) hlt hr
    · obtain rfl : cap = n := by omega
      exact insert_grow h hv hlt hn
  · obtain rfl : i = n := by omega
    rw [List.take_of_length_le (by omega), List.drop_of_length_le (by omega)]
    have e1 : (spsV [v])[0]? = some (.int .i64 v.1) := by rw [spsV_one1]; rfl
    have e2 : (spsV [v])[1]? = some (.int .i64 v.2) := by rw [spsV_one1]; rfl
    exact insert_end h ⟨hv.cell e1, hv.cell e2⟩ hn
/-- What is put in: nothing, or a row in a block of its own. -/
def InV (w : World) (b : Nat) (va : Option Addr) (m vc : Nat) (vs : List Sp) : Prop :=
  vs.length = m ∧ ((m = 0 ∧ va = none ∧ vc = 0) ∨ (0 < m ∧ ∃ vb LV, va = some ⟨vb, 0, none⟩ ∧ Blk w vb LV ∧ vb ≠ b ∧ LV.take (m * 2) = spsV vs ∧ m * 2 ≤ LV.length))
theorem InV.keep {w w' : World} {b : Nat} {va : Option Addr} {m vc : Nat} {vs : List Sp} (h : InV w b va m vc vs) (hk : ∀ x, x < w.heap.size → x ≠ b → w'.heap[x]? = w.heap[x]?) : InV w' b va m vc vs := by
  obtain ⟨h1, h2⟩ := h
  refine ⟨h1, ?_⟩
  rcases h2 with h2 | ⟨h2, vb, LV, h3, h4, h5, h6⟩
  · exact .inl h2
  · exact .inr ⟨h2, vb, LV, h3, (hk vb h4.lt h5).trans h4, h5, h6⟩
theorem take_cells {w : World} {vb m : Nat} {LV : List Value} {vs : List Sp} (h : Blk w vb LV) (ht : LV.take (m * 2) = spsV vs) : ∀ j u, (spsV vs)[j]? = some u → w.cell? ((⟨vb, 0, none⟩ : Addr).add j) = some u := fun j u hu => by
  rw [add_at, Nat.zero_add]
  refine h.cell ?_
  rw [← ht, List.getElem?_take] at hu
  split at hu
  · exact hu
  · cases hu
theorem put_far {L C : List Value} {o k : Nat} (h : o + C.length ≤ k) (ho : o ≤ L.length) : (put L o C)[k]? = L[k]? := by
  unfold put
  rw [List.getElem?_append_right (by simp only [List.length_append, List.length_take]; omega), List.getElem?_drop]
  simp only [List.length_append, List.length_take]
  congr 1
  omega
theorem take_of_take {L xs : List Value} {n i : Nat} (ht : L.take n = xs) (h : i ≤ n) : L.take i = xs.take i := by
  rw [← ht, List.take_take, Nat.min_eq_left h]
theorem put_nil (L : List Value) (o : Nat) : put L o [] = L := by simp [put]
/-- 'copy' of what is put in. -/
theorem copyV {W : World} {b tb : Nat} {L : List Value} {va : Option Addr} {m vc : Nat} {vs : List Sp} (hr : Blk W tb L) (hv : InV W b va m vc vs) (o dLen dCap : Nat) (hd : m ≤ dLen) (hfit : o + m * 2 ≤ L.length) (ty : TypeId) :
    (Builtin.copy_ #[33, 33] ty #[.slice (some ⟨tb, o, none⟩) dLen dCap, .slice va m vc]).run Try.prog W = .ok (goInt (m : Int)) (W.setRow tb (put L o (spsV vs)).toArray) := by
  obtain ⟨h1, h2⟩ := hv
  rcases h2 with ⟨rfl, rfl, rfl⟩ | ⟨h2, vb, LV, rfl, h4, h5, h6, h7⟩
  · have : vs = [] := List.eq_nil_of_length_eq_zero h1
    subst this
    rw [copy2_nil, spsV_nil, put_nil, setRow_self W tb L.toArray _ _ hr]
    rfl
  · have hl : (spsV vs).length = m * 2 := by rw [spsV_len, h1]
    rw [copy2 hr o dLen dCap ⟨vb, 0, none⟩ m vc (spsV vs) (by rw [hl]; simp only [Nat.min_def]; split <;> omega) (take_cells h4 h6) (by omega) (spsV_one _) ty]
    rw [show Nat.min m dLen = m by simp only [Nat.min_def]; split <;> omega]
theorem zero_cells (n : Nat) : ∀ v ∈ (Builtin.zeroCells (Value.agg #[.int .i64 0, .int .i64 0]).cells n).toList, v.oneCell' = true := by
  have h0 : (Value.agg #[.int .i64 0, .int .i64 0]).cells = #[.int .i64 0, .int .i64 0] := rfl
  intro v hv
  rw [h0] at hv
  simp only [Builtin.zeroCells, Array.toList_map, List.mem_map] at hv
  obtain ⟨i, _, rfl⟩ := hv
  have : i % 2 = 0 ∨ i % 2 = 1 := by omega
  show (#[Value.int .i64 0, Value.int .i64 0][i % 2]!).oneCell' = true
  rcases this with e | e <;> rw [e] <;> rfl
def zsL (n : Nat) : List Value := (Builtin.zeroCells (Value.agg #[.int .i64 0, .int .i64 0]).cells n).toList
theorem zsL_len (n : Nat) : (zsL n).length = n * 2 := by
  unfold zsL
  rw [Array.length_toList, size_zeroCells]; rfl
theorem clear2 {W : World} {b : Nat} {L : List Value} (hr : Blk W b L) (o n c : Nat) (hn : 0 < n) (hfit : o + n * 2 ≤ L.length) (ty : TypeId) :
    (Builtin.clear_ #[33] ty #[.slice (some ⟨b, o, none⟩) n c]).run Try.prog W = .ok (.tuple #[]) (W.setRow b (put L o (zsL n)).toArray) := by
  have hst := run_storeCells_at Try.prog b o 37 (zsL n) 0 L.toArray W hr (by rw [zsL_len]; simpa using hfit) (zero_cells n)
  obtain ⟨m, rfl⟩ : ∃ m, n = m + 1 := ⟨n - 1, by omega⟩
  have hv := Try.zeroValue37
  unfold zsL at hst
  simp [Builtin.clear_, run_underlying Try.underlying33, hv, hst, put, zsL]
end Go.Proofs.Ytgihdfmeokbplaa
