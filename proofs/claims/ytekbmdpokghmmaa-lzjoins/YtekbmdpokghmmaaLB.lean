/- Bytes and texts in memory. -/
import Derived.Test.YtekbmdpokghmmaaLA
import Derived.Deep.Upon
namespace Go.Proofs.Ytekbmdpokghmmaa
open Go.RowKit Lz
theorem own_bs {w : World} {base n c : Nat} {a : Option Addr} {bs : List UInt8} (h : w.ownsRow base 5 1 (.slice a n c) n (bytesV bs)) : Bs w a n c bs := by
  have hl := h.1
  rw [bytesV_len] at hl
  rcases h.2 with ⟨h5, h6⟩ | ⟨g, cp, cur, e, _⟩
  · cases h5
    obtain rfl : bs = [] := List.length_eq_zero_iff.1 (by omega)
    exact Bs.nil _
  · cases e; exact Bs.owned h
theorem toNat_ofNat_ {n : Nat} (h : n < 256) : (UInt8.ofNat n).toNat = n := by
  rw [UInt8.toNat_ofNat']; omega
set_option maxRecDepth 100000 in
theorem wpAnyH_strengthen {P : Program} {ops : Array Oper} {Q : Exit → Act → World → Prop} {md : Region.Mode} {S S' : World → Prop} (h : ∀ w, S' w → S w) :
    ∀ {fuel : Nat} {listed : Array Bool} {a : Act} {w : World}, wpAnyH P md ops Q S' fuel listed a w → wpAnyH P md ops Q S fuel listed a w
  | 0, _, _, _, hw => hw
  | _ + 1, _, _, _, hw => ⟨hw.1, fun i hi => wpOp_mono (fun _ _ h' => ⟨h _ h'.1, wpAnyH_strengthen h h'.2⟩) (hw.2 i hi)⟩
theorem yields_conv {P : Program} {o : Oper} {a : Act} {w : World} (f t : TypeId) (x : Operand) (ho : o.op = .convert f t x) {v r : Value} (hx : a.eval x = v) (hl : (convert f t v).run P w = .ok r w) : (execOp a.eval o).run P w = .ok (.value r) w := by
  unfold execOp
  simp only [ho, hx, Sem.run_bind, hl, Result.andThen_ok, Sem.run_pure]
theorem keepc {V V2 : World} (h : Below V.heap.size V V2) {p : Addr} {v : Value} (hc : V.cell? p = some v) : V2.cell? p = some v := (h.cell (p := p) (World.block_lt_of_cell? V p hc)).trans hc
theorem Bs.convS {w : World} {a : Option Addr} {len cap : Nat} {bs : List UInt8} (h : Bs w a len cap bs) : (convert 22 9 (.slice a len cap)).run Try.prog w = .ok (.string (strOf bs)) w := h.conv
theorem off_bytes (a : Option Addr) (len cap i : Nat) (hi : i ≤ len) (W : World) : (Instr.sliceAt 22 (.slice a len cap) (some (.int .i64 (i : Int))) none none).run Try.prog W = .ok (.slice (cutA a cap i 1) (len - i) (cap - i)) W := by
  have h1 : (sizeOf 5).run Try.prog W = .ok 1 W := by kernel_rfl
  simp [Instr.sliceAt, Instr.slice, run_underlying Try.underlying22, Instr.sliceBounds, Instr.sliceBound, asIntOf, h1, hi, cutA]
theorem pre_bytes (a : Option Addr) (len cap j : Nat) (hj : j ≤ cap) (W : World) : (Instr.sliceAt 22 (.slice a len cap) none (some (.int .i64 (j : Int))) none).run Try.prog W = .ok (.slice (cutA a cap 0 1) j cap) W := by
  have h1 : (sizeOf 5).run Try.prog W = .ok 1 W := by kernel_rfl
  simp [Instr.sliceAt, Instr.slice, run_underlying Try.underlying22, Instr.sliceBounds, Instr.sliceBound, asIntOf, h1, hj, cutA]
theorem mid_bytes (a : Option Addr) (len cap i j : Nat) (hi : i ≤ j) (hj : j ≤ cap) (W : World) : (Instr.sliceAt 22 (.slice a len cap) (some (.int .i64 (i : Int))) (some (.int .i64 (j : Int))) none).run Try.prog W = .ok (.slice (cutA a cap i 1) (j - i) (cap - i)) W := by
  have h1 : (sizeOf 5).run Try.prog W = .ok 1 W := by kernel_rfl
  simp [Instr.sliceAt, Instr.slice, run_underlying Try.underlying22, Instr.sliceBounds, Instr.sliceBound, asIntOf, h1, hi, hj, cutA]
theorem Bs.off {w : World} {a : Option Addr} {len cap : Nat} {bs : List UInt8} (h : Bs w a len cap bs) (i j : Nat) (hij : i ≤ j) (hj : j ≤ len) : Bs w (cutA a cap i 1) (j - i) (cap - i) ((bs.drop i).take (j - i)) := by
  obtain ⟨h1, h2, h3, h4, h5⟩ := h
  have hl : ((bs.drop i).take (j - i)).length = j - i := by rw [List.length_take, List.length_drop]; omega
  refine ⟨hl, by omega, by omega, fun e => ?_, fun ad had k hk => ?_⟩
  · unfold cutA at e
    split at e
    · next h6 => omega
    · cases a with
      | none => have := h4 rfl; omega
      | some x => cases e
  · rw [hl] at hk
    have hk2 : i + k < bs.length := by omega
    have e1 : ((bs.drop i).take (j - i))[k]'(by rw [hl]; exact hk) = bs[i + k] := by simp
    rw [e1]
    obtain ⟨b, o, rfl, hc⟩ := Bs.at ⟨h1, h2, h3, h4, h5⟩ (by omega)
    unfold cutA at had
    rw [if_neg (by omega)] at had
    cases had
    rw [← hc (i + k) hk2]
    simp only [Nat.mul_one, add_at, Nat.add_assoc]
theorem Bs.rest {w : World} {a : Option Addr} {len cap : Nat} {bs : List UInt8} (h : Bs w a len cap bs) (i : Nat) (hi : i ≤ len) : Bs w (cutA a cap i 1) (len - i) (cap - i) (bs.drop i) := by
  have := h.off i len hi (Nat.le_refl _)
  rwa [List.take_of_length_le (by rw [List.length_drop, h.1]; exact Nat.le_refl _)] at this
theorem Bs.cellat {w : World} {b o len cap : Nat} {bs : List UInt8} (h : Bs w (some ⟨b, o, none⟩) len cap bs) (i : Nat) (hi : i < len) : w.cell? ⟨b, o + i, none⟩ = some (.int .u8 (((bs.getD i 0).toNat : Nat) : Int)) := by
  have := h.2.2.2.2 _ rfl i (by rw [h.1]; exact hi)
  rw [add_at] at this
  rw [this, List.getD_eq_getElem?_getD, List.getElem?_eq_getElem (by rw [h.1]; exact hi)]
  rfl
theorem Bs.rw {w : World} {a : Option Addr} {len cap : Nat} {bs : List UInt8} (h : Bs w a len cap bs) : Rw (fun _ => True) w 5 1 a len cap (bytesV bs) := by
  refine ⟨by rw [bytesV_len, h.1, Nat.mul_one], h.2.1, by unfold maxLen; exact h.2.2.1, fun h0 => ?_⟩
  obtain ⟨b, o, rfl, hc⟩ := h.at h0
  have hc0 := hc 0 (by rw [h.1]; exact h0)
  exact ⟨b, o, rfl, World.block_lt_of_cell? w _ hc0, trivial, fun j u hu => by have := h.cells _ rfl j u hu; rwa [add_at] at this⟩
/-- Bytes added to a row of one's own. -/
theorem app_bytes {G2 : Nat → Prop} (w : World) {base : Nat} {a : Option Addr} {n c : Nat} {bs : List UInt8} (h : w.ownsRow base 5 1 (.slice a n c) n (bytesV bs)) {a2 : Option Addr} {m c2 : Nat} {k : List UInt8} (h2 : Rw G2 w 5 1 a2 m c2 (bytesV k)) (hN : n + m ≤ 1000000) (hb : base ≤ w.heap.size) :
    ∃ a' c' w', (∀ ty, (Builtin.append_ #[22, 22] ty #[.slice a n c, .slice a2 m c2]).run Try.prog w = .ok (.slice a' (n + m) c') w') ∧ w'.ownsRow base 5 1 (.slice a' (n + m) c') (n + m) (bytesV (bs ++ k)) ∧ w.grownBy w' (ob a) ∧ (ob a' = ob a ∨ ob a' = some w.heap.size) := by
  obtain ⟨i, hi, hz, hs, hbb⟩ := info_of info5
  rw [bytesV_append]
  exact app_own w 22 5 i _ 1 1 Try.underlying22 hi hz hs hbb rfl (by omega) h h2 (bytesV_one k) hN (by omega) hb
theorem run_append_str (w : World) (ty : TypeId) (base g k cap : Nat) (ys : List UInt8) (s : ByteArray) (hown : w.ownsRow base 5 1 (.slice (some ⟨g, 0, none⟩) k cap) k (bytesV ys)) (hroom : k + s.size ≤ cap) :
    ∃ w', (Builtin.append_ #[22, 9] ty #[.slice (some ⟨g, 0, none⟩) k cap, .string s]).run Try.prog w = .ok (.slice (some ⟨g, 0, none⟩) (k + s.size) cap) w' ∧
      w'.ownsRow base 5 1 (.slice (some ⟨g, 0, none⟩) (k + s.size) cap) (k + s.size) (bytesV (ys ++ s.data.toList)) ∧ w.grownBy w' (some g) := by
  obtain ⟨i0, hi, hz0, hz1, hz2⟩ := info_parts info5
  have hbc : byteCells s = bytesV s.data.toList := rfl
  have hlen := byteCells_length s
  rcases hown.2 with ⟨e, _⟩ | ⟨g', cap', cur, e, hbg, hg, hnc, hcm, hcs, htake⟩
  · cases e
  · cases e
    have hyl : ys.length = k := by have := hown.1; simpa [bytesV] using this
    have h1 : ∀ u ∈ byteCells s, u.oneCell' = true := by rw [hbc]; exact bytesV_one _
    have hst := run_storeCells_at Try.prog g k 5 (byteCells s) 0 cur w hg (by simp; omega) h1
    simp only [Nat.add_zero] at hst
    refine ⟨w.setRow g (cur.toList.take k ++ byteCells s ++ cur.toList.drop (k + (byteCells s).length)).toArray, ?_, ⟨by rw [bytesV_len, List.length_append, hyl]; simp, .inr ⟨g, cap, _, rfl, hbg, setRow_heap w g cur _ 5 _ hg, hroom, hcm, ?_, ?_⟩⟩, ⟨rfl, rfl, rfl, by simp, fun k _ hk => setRow_other w g k _ (fun e => hk (by simp [e]))⟩⟩
    · simp [Builtin.append_, run_underlying Try.underlying22, run_underlying Try.underlying9, sizeOf, typeInfo, hi, hz1, Builtin.lenOf, hroom, firstCells_string, Addr.add_lit, hst]
    · simp only [List.size_toArray, List.length_append, List.length_take, List.length_drop, Array.length_toList]
      omega
    · rw [bytesV_append, ← hbc]
      simp only [Nat.mul_one] at htake ⊢
      rw [htake]
      have : (bytesV ys ++ byteCells s).length = k + s.size := by rw [List.length_append, bytesV_len]; omega
      rw [← this]
      exact List.take_left
/-- A text's bytes added to a row of one's own. -/
theorem app_str (w : World) {base : Nat} {a : Option Addr} {n c : Nat} {bs : List UInt8} (h : w.ownsRow base 5 1 (.slice a n c) n (bytesV bs)) (s : List UInt8) (hN : n + s.length ≤ 1000000) (hb : base ≤ w.heap.size) :
    ∃ a' c' w', (∀ ty, (Builtin.append_ #[22, 9] ty #[.slice a n c, .string (strOf s)]).run Try.prog w = .ok (.slice a' (n + s.length) c') w') ∧ w'.ownsRow base 5 1 (.slice a' (n + s.length) c') (n + s.length) (bytesV (bs ++ s)) ∧ w.grownBy w' (ob a) ∧ (ob a' = ob a ∨ ob a' = some w.heap.size) := by
  obtain ⟨i0, hi, hz0, hz1, hz2⟩ := info_parts info5
  have hs := Src.ofString (P := Try.prog) w Try.underlying9 (strOf s)
  have hsz : (strOf s).size = s.length := strOf_size s
  have hbc : byteCells (strOf s) = bytesV s := rfl
  rw [hsz, hbc] at hs
  have hl : bs.length = n := by have := h.1; rwa [bytesV_len, Nat.mul_one] at this
  rcases h.2 with ⟨e1, rfl⟩ | ⟨g, cap, cur, e1, hbg, hg, hnc, hcm, _⟩
  · cases e1
    rcases Nat.eq_zero_or_pos s.length with h0 | h0
    · have hn : s = [] := List.eq_nil_of_length_eq_zero h0
      subst hn
      refine ⟨none, 0, w, fun ty => ?_, by simpa using h, ⟨rfl, rfl, rfl, Nat.le_refl _, fun _ _ _ => rfl⟩, .inl rfl⟩
      exact run_append_nothing w 22 9 ty 5 i0 Try.underlying22 hi none 0 0 (Nat.le_refl _) _ (by rw [hz1]; exact hs)
    · have hr := fun ty => run_append_grow_src (P := Try.prog) w 22 9 ty 5 i0 (.int .u8 0) Try.underlying22 hi hz0 none 0 0 [] (by simp [Builtin.firstCells]) (.string (strOf s)) s.length (bytesV s) (by rw [hz1]; exact hs) (by omega) (by omega) (by rw [hz2]; exact growslice_fits (by omega) (by omega))
      have hcap := grownCap_le_maxLen w (0 + s.length) 0 5 (by unfold maxLen; omega)
      have hge := grownCap_ge w (0 + s.length) 0 5
      have hbs : bs = [] := List.eq_nil_of_length_eq_zero hl
      subst hbs
      refine ⟨_, _, _, hr, ⟨?_, .inr ⟨w.heap.size, _, _, rfl, hb, heap_alloc_new w.drew _, hge, hcap, ?_, ?_⟩⟩, ⟨rfl, rfl, rfl, by simp, fun k hk _ => Below.heap_alloc w.drew _ k hk⟩, .inr rfl⟩
      · simp [bytesV]
      · have hz : (Value.int IntKind.u8 0).cells.size = 1 := rfl
        simp only [Array.size_append, List.size_toArray, size_zeroCells, hz, List.nil_append, bytesV_len]
        omega
      · simp only [Array.toList_append, List.nil_append]
        rw [show (0 + s.length) * 1 = (bytesV s).length by rw [bytesV_len]; omega]
        exact List.take_left
  · cases e1
    by_cases hroom : n + (strOf s).size ≤ c
    · have := fun ty => run_append_str w ty base g n c bs (strOf s) h hroom
      obtain ⟨w', h1, h2, h3⟩ := this 0
      rw [hsz] at h1 h2
      exact ⟨some ⟨g, 0, none⟩, c, w', fun ty => by rw [← h1]; rfl, h2, h3, .inl rfl⟩
    · have hold : (Builtin.firstCells i0.size n (.slice (some ⟨g, 0, none⟩) n c)).run Try.prog w.drew = .ok (bytesV bs).toArray w.drew := by
        rw [hz1]
        exact run_firstCells_some w.drew 1 n ⟨g, 0, none⟩ n c (bytesV bs) (by rw [bytesV_len]; omega) (fun j u hu => h.cells (g := g) rfl j u hu)
      have hr := fun ty => run_append_grow_src (P := Try.prog) w 22 9 ty 5 i0 (.int .u8 0) Try.underlying22 hi hz0 (some ⟨g, 0, none⟩) n c (bytesV bs) hold (.string (strOf s)) s.length (bytesV s) (by rw [hz1]; exact hs) (by omega) (by omega) (by rw [hz2]; exact growslice_fits (by omega) (by omega))
      have hcap := grownCap_le_maxLen w (n + s.length) c 5 (by unfold maxLen; omega)
      have hge := grownCap_ge w (n + s.length) c 5
      refine ⟨_, _, _, hr, ⟨?_, .inr ⟨w.heap.size, _, _, rfl, hb, heap_alloc_new w.drew _, hge, hcap, ?_, ?_⟩⟩, ⟨rfl, rfl, rfl, by simp, fun k hk _ => Below.heap_alloc w.drew _ k hk⟩, .inr rfl⟩
      · simp [bytesV_len, hl]
      · have hz : (Value.int IntKind.u8 0).cells.size = 1 := rfl
        simp only [Array.size_append, List.size_toArray, size_zeroCells, hz, List.length_append, bytesV_len]
        omega
      · simp only [Array.toList_append, ← bytesV_append]
        rw [show (n + s.length) * 1 = (bytesV (bs ++ s)).length by rw [bytesV_len, List.length_append]; omega]
        exact List.take_left
/-- A new row of some bytes. -/
theorem newRow (w : World) (l : List UInt8) (hl : l.length ≤ 1000000) : Rw (fun _ => True) (w.alloc (.cells (bytesV l).toArray 5)) 5 1 (some ⟨w.heap.size, 0, none⟩) l.length l.length (bytesV l) := by
  refine ⟨by rw [bytesV_len, Nat.mul_one], Nat.le_refl _, by unfold maxLen; omega, fun _ => ⟨_, 0, rfl, by simp, trivial, fun j u hu => ?_⟩⟩
  rw [Nat.zero_add, cell_of_row _ _ _ _ _ _ (heap_alloc_new w _)]
  simpa using hu
end Go.Proofs.Ytekbmdpokghmmaa
