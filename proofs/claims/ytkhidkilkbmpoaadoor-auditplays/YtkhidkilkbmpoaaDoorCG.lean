/- Walk over the program's Derive. Slices of strings; walks over the program's Chain, over small and lives. -/
import Derived.Test.YtkhidkilkbmpoaaDoorBA
import Derived.Test.YtkhidkilkbmpoaaDoorHF
import Derived.Lib.AppendStr
namespace Go.Proofs.YtkhidkilkbmpoaaDoor
open Go.RowKit
theorem owns_below {w w' : World} {base n : Nat} {v : Value} {xs : List Value} (h : w.ownsRow base 5 1 v n xs) (hB : Below w.heap.size w w') : w'.ownsRow base 5 1 v n xs := by
  refine ⟨h.1, ?_⟩
  rcases h.2 with h2 | ⟨g, cap, cur, h1, h2, h3, h4⟩
  · exact .inl h2
  · exact .inr ⟨g, cap, cur, h1, h2, (hB.block _ (lt_of_some h3)).trans h3, h4⟩
theorem owns_slice {w : World} {base n : Nat} {v : Value} {xs : List Value} (h : w.ownsRow base 5 1 v n xs) : ∃ a cap, v = .slice a n cap ∧ (∀ b, v.ownBlock = some b → base ≤ b) := by
  rcases h.2 with ⟨rfl, rfl⟩ | ⟨g, cap, cur, h1, h2, h3, h4⟩
  · exact ⟨none, 0, rfl, fun b hb => by simp [Value.ownBlock] at hb⟩
  · subst h1
    exact ⟨_, cap, rfl, fun b hb => by simp [Value.ownBlock] at hb; omega⟩
theorem owns_base {w : World} {base n : Nat} {v : Value} {xs : List Value} (h : w.ownsRow base 5 1 v n xs) : ∀ b, v.ownBlock = some b → base ≤ b := fun b hb => (h.lt b hb).1
theorem append_wp (w : World) {ops : Array Oper} {rest : List Oper} {o : Oper} {a : Act} {Q : Exit → Act → World → Prop} (hgd : o.guard = none) (s x : Operand)
    (ho : o.op = .call { callee := .builtin .append, args := #[s, x], argTypes := #[45, 9] }) (base n m : Nat) (v : Value) (ys : List UInt8) (hs : a.eval s = v) (hown : w.ownsRow base 5 1 v n (bytesV ys))
    (S : ByteArray) (hx : a.eval x = .string S) (hm : n + S.size = m) (hn : m ≤ 10000000) (hb : base ≤ w.heap.size)
    (h : ∀ a' cap' w', w'.ownsRow base 5 1 (.slice a' m cap') m (bytesV (ys ++ S.data.toList)) → w.grownBy w' v.ownBlock → wpList Tryd.prog ops Q rest (a.put o.dst (.slice a' m cap')) w') :
    wpList Tryd.prog ops Q (o :: rest) a w := by
  obtain ⟨i0, hi, hz0, hz1, hz2⟩ := info_parts info5
  refine Lib.wpList_append_own_string (P := Tryd.prog) w hgd s x 45 9 ho base 5 i0 Tryd.underlying45 Tryd.underlying9 hi hz0 hz1 hz2 v n (bytesV ys) hs hown S hx (by unfold maxLen; omega) (by omega) hb ?_
  intro v' w' h2 h3 _
  have e : bytesV (ys ++ S.data.toList) = bytesV ys ++ Lib.strCells S := by simp [bytesV, Lib.strCells]
  rw [← e, hm] at h2
  obtain ⟨a', cap', rfl, _⟩ := owns_slice h2
  exact h a' cap' w' h2 h3
theorem own_conv {w : World} {base n N cap : Nat} {a : Option Addr} {ys : List UInt8} (h : w.ownsRow base 5 1 (.slice a N cap) N (bytesV ys)) (hn : n ≤ N) :
    (convert 45 9 (.slice a n cap)).run Tryd.prog w = .ok (.string (strOf (ys.take n))) w := by
  have hl : ys.length = N := by have := h.1; simpa [bytesV] using this
  refine BsI.conv (w := w) ?_ (Below.refl _ _)
  have hcap : N ≤ cap ∧ cap ≤ 9223372036854775807 := by
    rcases h.2 with ⟨e, _⟩ | ⟨g, c, cur, e, _, _, h3, h4, _⟩
    · cases e; omega
    · cases e; exact ⟨h3, by simpa [maxLen] using h4⟩
  refine ⟨by rw [List.length_take]; omega, by omega, hcap.2, fun h0 => ?_⟩
  rcases h.2 with ⟨e, _⟩ | ⟨g, c, cur, e, hb, hg, h3, h4, h5, h6⟩
  · cases e; omega
  · cases e
    refine ⟨g, 0, rfl, lt_of_some hg, fun i hi => ?_⟩
    have hc := h.cells (g := g) rfl i (.int .u8 (((ys.getD i 0).toNat : Nat) : Int)) (by simp [bytesV, show i < ys.length by omega])
    rw [add_at] at hc
    rw [hc]
    congr 4
    rw [List.getD_eq_getElem?_getD, List.getD_eq_getElem?_getD, List.getElem?_take_of_lt hi]
theorem slice_to (a : Option Addr) (N n cap : Nat) (ha : (a = none ∧ cap = 0) ∨ ∃ g, a = some ⟨g, 0, none⟩) (hn : n ≤ N) (hN : N ≤ cap) (W : World) :
    (Instr.sliceAt 45 (.slice a N cap) none (some (.int .i64 (n : Int))) none).run Tryd.prog W = .ok (.slice a n cap) W := by
  have h1 : (sizeOf 5).run Tryd.prog W = .ok 1 W := by kernel_rfl
  have hc : n ≤ cap := by omega
  rcases ha with ⟨rfl, rfl⟩ | ⟨g, rfl⟩
  · obtain rfl : n = 0 := by omega
    simp [Instr.sliceAt, Instr.slice, run_underlying Tryd.underlying45, Instr.sliceBounds, Instr.sliceBound, asIntOf, h1]
  · have e : (⟨g, 0, none⟩ : Addr).add 0 = ⟨g, 0, none⟩ := add_at g 0 0
    simp [Instr.sliceAt, Instr.slice, run_underlying Tryd.underlying45, Instr.sliceBounds, Instr.sliceBound, asIntOf, h1, hc, e]
structure DerW (w0 : World) (g : Nat) (b l : List UInt8) (i : Nat) (v : Value) (wr : World) : Prop where
  blk : wr.heap[g]? = some (.cells (u8v b) 60 (0, 0))
  own : wr.ownsRow (g + 1) 5 1 v (32 * i) (bytesV (deriveA b l i))
  bel : Below w0.heap.size w0 wr
  le : w0.heap.size ≤ g
end Go.Proofs.YtkhidkilkbmpoaaDoor
namespace Go.Proofs.YtkhidkilkbmpoaaDoor
open Go.RowKit
/-- What a walk is told of a slice of strings: its strings, by the cells from its address on. -/
def Ss (w : World) (a : Option Addr) (len cap : Nat) (ss : List ByteArray) : Prop :=
  ss.length = len ∧ len ≤ cap ∧ cap ≤ 9223372036854775807 ∧ (a = none → cap = 0) ∧ ∀ ad, a = some ad → ∀ i (h : i < ss.length), w.cell? (ad.add i) = some (.string ss[i])
theorem Ss.at {w : World} {a : Option Addr} {len cap : Nat} {ss : List ByteArray} (h : Ss w a len cap ss) (h0 : 0 < len) :
    ∃ b off, a = some ⟨b, off, none⟩ ∧ ∀ i (h : i < ss.length), w.cell? ⟨b, off + i, none⟩ = some (.string ss[i]) := by
  obtain ⟨h1, h2, h3, h4, h5⟩ := h
  cases a with
  | none => have := h4 rfl; omega
  | some ad =>
    obtain ⟨b, off, spot⟩ := ad
    have hc := h5 _ rfl 0 (by omega)
    have hspot : spot = none := by simpa [Addr.add] using World.cell?_spot hc
    subst hspot
    refine ⟨b, off, rfl, fun i hi => ?_⟩
    have := h5 _ rfl i hi
    rwa [Addr.add_lit] at this
theorem Ss.on {w w' : World} {a : Option Addr} {len cap : Nat} {ss : List ByteArray} (h : Ss w a len cap ss) (hb : Below w.heap.size w w') : Ss w' a len cap ss := by
  refine ⟨h.1, h.2.1, h.2.2.1, h.2.2.2.1, fun ad had i hi => ?_⟩
  have := h.2.2.2.2 ad had i hi
  rw [hb.cell (World.block_lt_of_cell? w _ this)]
  exact this
theorem Ss.two (w : World) (s t : ByteArray) : Ss (w.alloc (.cells #[.string s, .string t] 9)) (some ⟨w.heap.size, 0, none⟩) 2 2 [s, t] := by
  refine ⟨rfl, by omega, by omega, (by intro e; cases e), ?_⟩
  intro ad had i hi
  cases had
  match i, hi with
  | 0, _ => simp [Addr.add]
  | 1, _ => simp [Addr.add]
theorem Ss.three (w : World) (s t u : ByteArray) : Ss (w.alloc (.cells #[.string s, .string t, .string u] 9)) (some ⟨w.heap.size, 0, none⟩) 3 3 [s, t, u] := by
  refine ⟨rfl, by omega, by omega, (by intro e; cases e), ?_⟩
  intro ad had i hi
  cases had
  match i, hi with
  | 0, _ => simp [Addr.add]
  | 1, _ => simp [Addr.add]
  | 2, _ => simp [Addr.add]
/-- How many bytes strings have together. -/
def tot (ss : List ByteArray) : Nat := (ss.map ByteArray.size).sum
theorem tot_snoc (ss : List ByteArray) (k : Nat) (h : k < ss.length) : tot (ss.take (k + 1)) = tot (ss.take k) + (ss[k]).size := by
  unfold tot
  rw [List.take_succ_eq_append_getElem h, List.map_append, List.sum_append]
  simp
theorem tot_le (ss : List ByteArray) (k : Nat) : tot (ss.take k) ≤ tot ss := by
  have : tot ss = tot (ss.take k) + tot (ss.drop k) := by
    unfold tot
    rw [← List.sum_append, ← List.map_append, List.take_append_drop]
  omega
theorem size_le_tot (ss : List ByteArray) (k : Nat) (h : k < ss.length) : (ss[k]).size ≤ tot ss := by
  have := tot_snoc ss k h
  have := tot_le ss (k + 1)
  omega

/-- A chain over strings. -/
def chainS (k : List UInt8) (ps : List ByteArray) : List UInt8 := ps.foldl (fun k p => sealL k p.data.toList) k
theorem chainS_snoc (k : List UInt8) (ps : List ByteArray) (i : Nat) (h : i < ps.length) : chainS k (ps.take (i + 1)) = sealL (chainS k (ps.take i)) (ps[i]).data.toList := by
  unfold chainS
  rw [List.take_succ_eq_append_getElem h, List.foldl_append]
  rfl
theorem chainS_len (k : List UInt8) (ps : List ByteArray) (n : Nat) (hk : k.length ≤ n) (hn : 32 ≤ n) : (chainS k ps).length ≤ n := by
  induction ps generalizing k with
  | nil => exact hk
  | cons p ps ih => exact ih (sealL k p.data.toList) (by rw [sealL_len]; exact hn)
set_option maxRecDepth 100000 in
theorem chain_zero (k : ByteArray) (cap : Nat) (a : Option Addr) (w : World) :
    Calls Tryd.prog 53 #[.string k, .slice a 0 cap] w fun e w' => e = .returned (.string k) ∧ w' = w := by
  go_enter Tryd.func53, Tryd.ntmps53
  go_wp2
  refine wp_loop_rounds 1 ?_
  rw [rounds_succ]
  go_wp2
  go_ret
  exact ⟨rfl, rfl⟩
set_option maxRecDepth 100000 in
set_option maxHeartbeats 1000000 in
theorem chain_in (k : ByteArray) (b off len cap : Nat) (ps : List ByteArray) (w : World) (hk : k.size ≤ 1000000000) (hlen : len ≤ 9223372036854775807) (hl : ps.length = len) (hcell : ∀ i (h : i < ps.length), w.cell? ⟨b, off + i, none⟩ = some (.string ps[i]))
    (hp : ∀ i (h : i < ps.length), (ps[i]).size ≤ 1000000000) (hL : Laid w) :
    Calls Tryd.prog 53 #[.string k, .slice (some ⟨b, off, none⟩) len cap] w fun e w' => e = .returned (.string (strOf (chainS k.data.toList ps))) ∧ Below w.heap.size w w' := by
  have HL : Hid (Laid w) := hL
  have HPL : Hid (ps.length = len) := hl
  have HC : Hid (∀ i (h : i < ps.length), w.cell? ⟨b, off + i, none⟩ = some (.string ps[i])) := hcell
  have HP : Hid (∀ i (h : i < ps.length), (ps[i]).size ≤ 1000000000) := hp
  have HKS : Hid (k.data.toList.length ≤ 1000000000) := by show _ ≤ _; rw [Array.length_toList]; exact hk
  clear hL hl hcell hp
  go_enter Tryd.func53, Tryd.ntmps53
  go_wp2
  go_loopw [0, 9] (fun ky i wr => ∃ n : Nat, n ≤ len ∧ i = .int .i64 (n : Int) ∧ ky = .string (strOf (chainS k.data.toList (ps.take n))) ∧ Below w.heap.size w wr) (fun _ i _ => len - (intOf i).toNat)
  case atStart => exact ⟨0, by omega, rfl, rfl, Below.refl _ _⟩
  case round =>
    obtain ⟨n, hn, rfl, rfl, hB⟩ := hrel
    by_cases hlt : n < len
    · have hlt' : n < ps.length := by rw [HPL.out]; exact hlt
      have hc := HC.out n hlt'
      have hsz := HP.out n hlt'
      have HS := chainS_snoc k.data.toList ps n hlt'
      obtain ⟨p, hpe⟩ : ∃ p, p = ps[n] := ⟨_, rfl⟩
      rw [← hpe] at hc hsz HS
      have hcw : wr.cell? ⟨b, off + n, none⟩ = some (.string p) := by rw [hB.cell (World.block_lt_of_cell? w _ hc)]; exact hc
      obtain ⟨K, hK⟩ : ∃ K, strOf (chainS k.data.toList (ps.take n)) = K := ⟨_, rfl⟩
      have hKs : K.size ≤ 1000000000 := by rw [← hK, strOf_size]; exact chainS_len _ _ _ HKS.out (by omega)
      have HSE : Hid (Calls Tryd.prog 23 #[.string K, .string p] wr fun e w' => e = .returned (.string (strOf (chainS k.data.toList (ps.take (n + 1))))) ∧ Below w.heap.size w w') := by
        rw [HS, show chainS k.data.toList (ps.take n) = K.data.toList by rw [← hK]; rfl]
        refine (seal_any K p wr hKs hsz (HL.out.below hB)).mono ?_
        rintro e w' ⟨rfl, hB'⟩
        exact ⟨rfl, hB.trans (hB'.mono hB.size)⟩
      rw [hK]
      have kn : (n : Int) < (len : Int) := by omega
      clear hc HS hpe hK hB
      go_wp2_with fail
      refine HSE.out.mono ?_
      rintro e w2 ⟨rfl, hB2⟩
      go_wp2
      exact ⟨⟨n + 1, by omega, by go_num, rfl, hB2⟩, by simp [intOf]; omega⟩
    · obtain rfl : n = len := by omega
      have e : ps.take n = ps := List.take_of_length_le (by rw [HPL.out]; omega)
      rw [e]
      clear e
      go_wp2
      go_ret
      exact ⟨rfl, hB⟩
theorem chain_any (k : ByteArray) (a : Option Addr) (len cap : Nat) (ps : List ByteArray) (w : World) (hk : k.size ≤ 1000000000) (h : Ss w a len cap ps) (hp : ∀ i (h : i < ps.length), (ps[i]).size ≤ 1000000000) (hL : Laid w) :
    Calls Tryd.prog 53 #[.string k, .slice a len cap] w fun e w' => e = .returned (.string (strOf (chainS k.data.toList ps))) ∧ Below w.heap.size w w' := by
  by_cases h0 : 0 < len
  · obtain ⟨b, off, rfl, hc⟩ := h.at h0
    exact chain_in k b off len cap ps w hk (Nat.le_trans h.2.1 h.2.2.1) h.1 hc hp hL
  · obtain rfl : len = 0 := by omega
    have e : ps = [] := List.eq_nil_of_length_eq_zero h.1
    subst e
    refine (chain_zero k cap a w).mono ?_
    rintro e w' ⟨rfl, rfl⟩
    exact ⟨rfl, Below.refl _ _⟩

end Go.Proofs.YtkhidkilkbmpoaaDoor
