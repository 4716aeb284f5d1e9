/- Rows of texts and of signatures. Plain mathematics of layer 1: a number's bytes, how many they are, and how they are read again. No program is named here. -/
import Derived.Test.YtbhnmjjfammlkaaDoorGB
import Derived.Lib.BitFns
namespace Go.Proofs.YtbhnmjjfammlkaaDoor
open Go.RowKit
theorem take_snoc {α : Type} {L : List α} {k : Nat} {x : α} (h : L[k]? = some x) : L.take (k + 1) = L.take k ++ [x] := by rw [List.take_add_one, h]; rfl
/-- Texts as cells. -/
def stC (s : ByteArray) : List Value := [.string s]
def stR (l : List ByteArray) : List Value := l.flatMap stC
theorem stC_len (s : ByteArray) : (stC s).length = 1 := rfl
theorem stR_app (a b : List ByteArray) : stR (a ++ b) = stR a ++ stR b := by simp [stR]
theorem stR_one (l : List ByteArray) : ∀ u ∈ stR l, u.oneCell' = true := by
  intro u hu
  obtain ⟨c, _, hc⟩ := List.mem_flatMap.1 hu
  simp only [stC, List.mem_cons, List.not_mem_nil, or_false] at hc
  subst hc
  rfl
def Tw (G : Nat → Prop) (w : World) (a : Option Addr) (len cap : Nat) (l : List ByteArray) : Prop := Rw G w 9 1 a len cap (stR l)
theorem Tw.len {G : Nat → Prop} {w : World} {a : Option Addr} {len cap : Nat} {l : List ByteArray} (h : Tw G w a len cap l) : l.length = len := by
  have := h.1
  unfold stR at this
  rw [fm_len stC_len] at this
  omega
theorem Tw.max {G : Nat → Prop} {w : World} {a : Option Addr} {len cap : Nat} {l : List ByteArray} (h : Tw G w a len cap l) : len ≤ 9223372036854775807 := by
  have := h.2.1
  have := h.2.2.1
  unfold maxLen at this
  omega
theorem Tw.below {G : Nat → Prop} {w w' : World} {a : Option Addr} {len cap : Nat} {l : List ByteArray} (h : Tw G w a len cap l) (hb : Below w.heap.size w w') : Tw G w' a len cap l := Rw.below h hb
theorem Tw.at {G : Nat → Prop} {w : World} {a : Option Addr} {len cap : Nat} {l : List ByteArray} (h : Tw G w a len cap l) (h0 : 0 < len) : ∃ b o, a = some ⟨b, o, none⟩ ∧ b < w.heap.size ∧ ∀ i s, l[i]? = some s → w.cell? ⟨b, o + i, none⟩ = some (.string s) := by
  obtain ⟨b, o, rfl, hb, _, hc⟩ := h.2.2.2 h0
  refine ⟨b, o, rfl, hb, fun i s hi => ?_⟩
  have := fm_at stC_len hi 0 (by omega)
  exact hc i _ (by simpa [stR, stC] using this)
theorem infoSt : (Tryd.prog.info? 9).map (fun i => (i.zero, i.size, i.bytes)) = some (some (.string ByteArray.empty), 1, 16) := by kernel_rfl
theorem addT_own {G2 : Nat → Prop} (w : World) {base : Nat} {a : Option Addr} {n c : Nat} {l : List ByteArray} (h : w.ownsRow base 9 1 (.slice a n c) n (stR l)) {a2 : Option Addr} {m c2 : Nat} {k : List ByteArray} (h2 : Tw G2 w a2 m c2 k) (hN : n + m ≤ 1000000) (hb : base ≤ w.heap.size) :
    ∃ a' c' w', (∀ ty, (Builtin.append_ #[41, 41] ty #[.slice a n c, .slice a2 m c2]).run Tryd.prog w = .ok (.slice a' (n + m) c') w') ∧ w'.ownsRow base 9 1 (.slice a' (n + m) c') (n + m) (stR (l ++ k)) ∧ w.grownBy w' (ob a) ∧ (ob a' = ob a ∨ ob a' = some w.heap.size) := by
  obtain ⟨i, hi, hz, hs, hbb⟩ := info_of infoSt
  rw [stR_app]
  exact app_own w 41 9 i _ 1 16 Tryd.underlying41 hi hz hs hbb rfl (by omega) h h2 (stR_one k) hN (by omega) hb
theorem txtRow {w : World} {b : Nat} {s : ByteArray} (h : w.heap[b]? = some (.cells #[.string s] 9 (0, 0))) : Tw (fun _ => True) w (some ⟨b, 0, none⟩) 1 1 [s] := by
  refine ⟨rfl, Nat.le_refl _, by unfold maxLen; omega, fun _ => ⟨b, 0, rfl, lt_of_some h, trivial, fun j u hu => ?_⟩⟩
  rw [Nat.zero_add, cell_of_row _ b _ _ _ _ h]
  simpa [stR, stC] using hu
/-- Signatures as cells. -/
abbrev Sg := Nat × ByteArray
def sgC (s : Sg) : List Value := [.int .u32 (s.1 : Int), .string s.2]
def sgR (l : List Sg) : List Value := l.flatMap sgC
theorem sgC_len (s : Sg) : (sgC s).length = 2 := rfl
theorem sgR_app (a b : List Sg) : sgR (a ++ b) = sgR a ++ sgR b := by simp [sgR]
theorem sgR_one (l : List Sg) : ∀ u ∈ sgR l, u.oneCell' = true := by
  intro u hu
  obtain ⟨c, _, hc⟩ := List.mem_flatMap.1 hu
  simp only [sgC, List.mem_cons, List.not_mem_nil, or_false] at hc
  rcases hc with rfl | rfl <;> rfl
def Gw (G : Nat → Prop) (w : World) (a : Option Addr) (len cap : Nat) (l : List Sg) : Prop := Rw G w 65 2 a len cap (sgR l)
theorem Gw.len {G : Nat → Prop} {w : World} {a : Option Addr} {len cap : Nat} {l : List Sg} (h : Gw G w a len cap l) : l.length = len := by
  have := h.1
  unfold sgR at this
  rw [fm_len sgC_len] at this
  omega
theorem Gw.max {G : Nat → Prop} {w : World} {a : Option Addr} {len cap : Nat} {l : List Sg} (h : Gw G w a len cap l) : len ≤ 9223372036854775807 := by
  have := h.2.1
  have := h.2.2.1
  unfold maxLen at this
  omega
theorem Gw.below {G : Nat → Prop} {w w' : World} {a : Option Addr} {len cap : Nat} {l : List Sg} (h : Gw G w a len cap l) (hb : Below w.heap.size w w') : Gw G w' a len cap l := Rw.below h hb
theorem Gw.at {G : Nat → Prop} {w : World} {a : Option Addr} {len cap : Nat} {l : List Sg} (h : Gw G w a len cap l) (h0 : 0 < len) : ∃ b o, a = some ⟨b, o, none⟩ ∧ b < w.heap.size ∧ ∀ i s, l[i]? = some s → w.cell? ⟨b, o + i * 2, none⟩ = some (.int .u32 (s.1 : Int)) ∧ w.cell? ⟨b, o + i * 2 + 1, none⟩ = some (.string s.2) := by
  obtain ⟨b, o, rfl, hb, _, hc⟩ := h.2.2.2 h0
  have key : ∀ i s, l[i]? = some s → ∀ j, j < 2 → (sgR l)[i * 2 + j]? = (sgC s)[j]? := fun i s hi j hj => fm_at sgC_len hi j hj
  refine ⟨b, o, rfl, hb, fun i s hi => ⟨?_, ?_⟩⟩
  · exact hc (i * 2) _ (key i s hi 0 (by omega))
  · rw [Nat.add_assoc]; exact hc (i * 2 + 1) _ (key i s hi 1 (by omega))
theorem infoSg : (Tryd.prog.info? 65).map (fun i => (i.zero, i.size, i.bytes)) = some (some (.agg #[.int .u32 0, .string ByteArray.empty]), 2, 24) := by kernel_rfl
theorem addG_own {G2 : Nat → Prop} (w : World) {base : Nat} {a : Option Addr} {n c : Nat} {l : List Sg} (h : w.ownsRow base 65 2 (.slice a n c) n (sgR l)) {a2 : Option Addr} {m c2 : Nat} {k : List Sg} (h2 : Gw G2 w a2 m c2 k) (hN : n + m ≤ 1000000) (hb : base ≤ w.heap.size) :
    ∃ a' c' w', (∀ ty, (Builtin.append_ #[22, 22] ty #[.slice a n c, .slice a2 m c2]).run Tryd.prog w = .ok (.slice a' (n + m) c') w') ∧ w'.ownsRow base 65 2 (.slice a' (n + m) c') (n + m) (sgR (l ++ k)) ∧ w.grownBy w' (ob a) ∧ (ob a' = ob a ∨ ob a' = some w.heap.size) := by
  obtain ⟨i, hi, hz, hs, hbb⟩ := info_of infoSg
  rw [sgR_app]
  exact app_own w 22 65 i _ 2 24 Tryd.underlying22 hi hz hs hbb rfl (by omega) h h2 (sgR_one k) hN (by omega) hb
theorem sgRow {w : World} {b : Nat} {s : Sg} (h : w.heap[b]? = some (.cells #[.int .u32 (s.1 : Int), .string s.2] 65 (0, 0))) : Gw (fun _ => True) w (some ⟨b, 0, none⟩) 1 1 [s] := by
  refine ⟨rfl, Nat.le_refl _, by unfold maxLen; omega, fun _ => ⟨b, 0, rfl, lt_of_some h, trivial, fun j u hu => ?_⟩⟩
  rw [Nat.zero_add, cell_of_row _ b _ _ _ _ h]
  simpa [sgR, sgC] using hu
theorem Gw.pre {G : Nat → Prop} {w : World} {a : Option Addr} {len cap : Nat} {l : List Sg} (h : Gw G w a len cap l) (i : Nat) (hi : i ≤ len) : Gw G w (cutA a cap 0 2) i cap (l.take i) := by
  have := Rw.pre h i hi
  unfold sgR at this
  rw [fm_take sgC_len] at this
  exact this
theorem pre_sgs (a : Option Addr) (len cap i : Nat) (hi : i ≤ cap) (W : World) : (Instr.sliceAt 22 (.slice a len cap) none (some (.int .i64 (i : Int))) none).run Tryd.prog W = .ok (.slice (cutA a cap 0 2) i cap) W := by
  have h1 : (sizeOf 65).run Tryd.prog W = .ok 2 W := by kernel_rfl
  simp [Instr.sliceAt, Instr.slice, run_underlying Tryd.underlying22, Instr.sliceBounds, Instr.sliceBound, asIntOf, h1, hi, cutA]
/-- Two signatures are held against each other. -/
theorem eqin_sg (a c : Int) (b d : ByteArray) (w : World) : (Op.equalIn 10000 65 (.agg #[.int .u32 a, .string b]) (.agg #[.int .u32 c, .string d])).run Tryd.prog w = .ok (decide (a = c ∧ b = d)) w := by
  have u9 := Tryd.underlying9
  have a9 := Tryd.isAgg9
  have z9 := Tryd.sizeOf9
  have u3 := Tryd.underlying63
  have a3 := Tryd.isAgg63
  have z3 := Tryd.sizeOf63
  have hS : Tryd.prog.underlying 65 = some (.struct (Tryd.prog.fieldsOf 65)) := by kernel_rfl
  have hp : Tryd.prog.stoodInHeld 65 = false := by kernel_rfl
  rw [show (10000 : Nat) = 9999 + 1 from rfl, run_equalIn_agg w 9999 65 _ _ hS hp]
  simp only [Program.fieldsOf, Tryd.underlying65]
  go_simp
  by_cases h1 : a = c
  · subst h1
    by_cases h2 : b = d
    · subst h2; simp
    · have := str_ne h2
      simp [h2, this]
  · simp [h1]
theorem res_sg {fn : Func} {p : Tmp} (h : fn.results = #[.cell p 65]) (tmps : Array Value) (w : World) (g : Nat) (cs : Array Value) (hp : tmps.getD p undef = .pointer (some ⟨g, 0, none⟩)) (hg : w.heap[g]? = some (.cells cs 65 (0, 0))) (hi : (Tryd.prog.info? 65).map (·.size) = some cs.size) :
    (results fn tmps).run Tryd.prog w = .ok (.agg cs) w := by
  have hp' : tmps[p]?.getD undef = .pointer (some ⟨g, 0, none⟩) := by simpa using hp
  have hl := run_loadVar_row (P := Tryd.prog) w g 65 65 cs (0, 0) _ hg Tryd.underlying65 rfl hi
  simp [results, h, hp', asAddr, hl]
theorem infoS2 : (Tryd.prog.info? 65).map (·.size) = some 2 := by kernel_rfl
theorem set2 {U : World} {g : Nat} {a b : Value} {t : TypeId} (h : U.heap[g]? = some (.cells #[a, b] t (0, 0))) (x0 x1 : Value) : ((U.setCell ⟨g, 0, none⟩ x0).setCell ⟨g, 1, none⟩ x1).heap[g]? = some (.cells #[x0, x1] t (0, 0)) := by
  have h1 : (U.setCell ⟨g, 0, none⟩ x0).heap[g]? = some (.cells #[x0, b] t (0, 0)) := by rw [heap_setCell_same _ _ _ _ _ _ h]; rfl
  rw [heap_setCell_same _ _ _ _ _ _ h1]
  rfl
end Go.Proofs.YtbhnmjjfammlkaaDoor
namespace Go.Proofs.YtbhnmjjfammlkaaDoor

/-- The bytes of a number: sevens of bits, the least first; each byte but the last has 128 added. -/
def putN (n : Nat) : List UInt8 := if n < 128 then [UInt8.ofNat n] else UInt8.ofNat (n % 128 + 128) :: putN (n / 128)
termination_by n
decreasing_by omega

theorem putN_small {n : Nat} (h : n < 128) : putN n = [UInt8.ofNat n] := by rw [putN, if_pos h]
theorem putN_more {n : Nat} (h : ¬ n < 128) : putN n = UInt8.ofNat (n % 128 + 128) :: putN (n / 128) := by rw [putN, if_neg h]
theorem putN_300 : putN 300 = [172, 2] := by rw [putN_more (by decide), putN_small (by decide)]; rfl

theorem putN_pos (n : Nat) : 1 ≤ (putN n).length := by
  by_cases h : n < 128
  · rw [putN_small h]; simp
  · rw [putN_more h]; simp

theorem bitLen_small : ∀ n : Fin 128, Lib.bitLen n.val ≤ 7 ∧ (n.val ≠ 0 → 1 ≤ Lib.bitLen n.val) := by decide +kernel

theorem bitLen_pos : ∀ n : Nat, n ≠ 0 → n < 2 ^ 64 → 1 ≤ Lib.bitLen n := by
  intro n h0 h
  rw [Lib.bitLen_half n h0 h]
  omega

theorem putN_len (n : Nat) (h : n < 2 ^ 64) : (putN n).length = max 1 ((Lib.bitLen n + 6) / 7) := by
  induction n using Nat.strongRecOn with
  | ind n ih =>
    by_cases hn : n < 128
    · rw [putN_small hn]
      have := bitLen_small ⟨n, hn⟩
      simp only at this
      simp only [List.length_singleton]
      omega
    · rw [putN_more hn, List.length_cons, ih (n / 128) (by omega) (by omega)]
      have s := Lib.bitLen_shift 7 n (by omega) h
      have e : n / 2 ^ 7 = n / 128 := rfl
      rw [e] at s
      have p := bitLen_pos (n / 128) (by omega) (by omega)
      omega

theorem bitLen_le : ∀ (f x : Nat), Lib.bitLenAux f x ≤ f
  | 0, x => by simp [Lib.bitLenAux]
  | f + 1, x => by
    simp only [Lib.bitLenAux]
    split
    · omega
    · have := bitLen_le f (x / 2); omega
theorem bitLen_le64 (x : Nat) : Lib.bitLen x ≤ 64 := bitLen_le 64 x

theorem putN_le10 (n : Nat) (h : n < 2 ^ 64) : (putN n).length ≤ 10 := by
  rw [putN_len n h]
  have := bitLen_le64 n
  omega

/-- What is read of the bytes l, behind i bytes that told acc: the number, how many bytes it has, and the word (0: read; 3: it ends too early; 4: no form). -/
def getL : List UInt8 → Nat → Nat → Nat × Nat × Nat
  | [], i, _ => if i = 10 then (0, 0, 4) else (0, 0, 3)
  | c :: t, i, acc =>
    if i = 10 then (0, 0, 4)
    else if 128 ≤ c.toNat then getL t (i + 1) (acc + c.toNat % 128 * 128 ^ i)
    else if (0 < i ∧ c.toNat = 0) ∨ (i = 9 ∧ 1 < c.toNat) then (0, 0, 4)
    else (acc + c.toNat * 128 ^ i, i + 1, 0)

theorem getL_ten (l : List UInt8) (acc : Nat) : getL l 10 acc = (0, 0, 4) := by cases l <;> simp [getL]
theorem getL_end {l : List UInt8} {i acc : Nat} (h : l = []) (hi : i < 10) : getL l i acc = (0, 0, 3) := by subst h; simp [getL]; omega
theorem getL_on {l t : List UInt8} {c : UInt8} {i acc : Nat} (h : l = c :: t) (hi : i < 10) (hc : 128 ≤ c.toNat) : getL l i acc = getL t (i + 1) (acc + c.toNat % 128 * 128 ^ i) := by
  subst h; rw [getL, if_neg (by omega), if_pos hc]
theorem getL_bad {l t : List UInt8} {c : UInt8} {i acc : Nat} (h : l = c :: t) (hi : i < 10) (hc : ¬ 128 ≤ c.toNat) (hb : (0 < i ∧ c.toNat = 0) ∨ (i = 9 ∧ 1 < c.toNat)) : getL l i acc = (0, 0, 4) := by
  subst h; rw [getL, if_neg (by omega), if_neg hc, if_pos hb]
theorem getL_ok {l t : List UInt8} {c : UInt8} {i acc : Nat} (h : l = c :: t) (hi : i < 10) (hc : ¬ 128 ≤ c.toNat) (hb : ¬ ((0 < i ∧ c.toNat = 0) ∨ (i = 9 ∧ 1 < c.toNat))) : getL l i acc = (acc + c.toNat * 128 ^ i, i + 1, 0) := by
  subst h; rw [getL, if_neg (by omega), if_neg hc, if_neg hb]

/-- The reading at a place: the number, the place behind it, the word. -/
def getAt (b : List UInt8) (at_ : Int) : Nat × Int × Nat :=
  if at_ < 0 ∨ (b.length : Int) < at_ then (0, 0, 9)
  else let r := getL (b.drop at_.toNat) 0 0; (r.1, if r.2.2 = 0 then at_ + r.2.1 else 0, r.2.2)

theorem drop_cons (b : List UInt8) (j : Nat) (h : j < b.length) : b.drop j = b[j] :: b.drop (j + 1) := List.drop_eq_getElem_cons h

/-- What is written of a number is read as it, whatever stands behind it. -/
theorem getL_putN (n : Nat) (rest : List UInt8) : ∀ (i acc : Nat), i + (putN n).length ≤ 10 → (i = 0 ∨ 0 < n) → (i + (putN n).length = 10 → n < 128 ^ (10 - i) / 64 ) →
    getL (putN n ++ rest) i acc = (acc + n * 128 ^ i, i + (putN n).length, 0) := by
  induction n using Nat.strongRecOn with
  | ind n ih =>
    intro i acc hi h0 h10
    by_cases hn : n < 128
    · have e : putN n = [UInt8.ofNat n] := putN_small hn
      rw [e] at hi h10 ⊢
      simp only [List.length_singleton, List.singleton_append] at hi h10 ⊢
      have ec : (UInt8.ofNat n).toNat = n := by simp; omega
      rw [getL_ok (c := UInt8.ofNat n) (t := rest) rfl (by omega) (by omega) (by
        rw [ec]
        intro h
        rcases h with h | ⟨h9, h1⟩
        · omega
        · subst h9
          have := h10 (by omega)
          simp at this
          omega), ec]
    · have e : putN n = UInt8.ofNat (n % 128 + 128) :: putN (n / 128) := putN_more hn
      have hp := putN_pos (n / 128)
      rw [e] at hi h10 ⊢
      simp only [List.length_cons, List.cons_append] at hi h10 ⊢
      have ec : (UInt8.ofNat (n % 128 + 128)).toNat = n % 128 + 128 := by simp; omega
      rw [getL_on (c := UInt8.ofNat (n % 128 + 128)) (t := putN (n / 128) ++ rest) rfl (by omega) (by omega), ec,
        ih (n / 128) (by omega) (i + 1) _ (by omega) (by right; omega) (by
          intro h
          have := h10 (by omega)
          have e10 : 10 - i = (10 - (i + 1)) + 1 := by omega
          rw [e10, Nat.pow_succ] at this
          rw [show 128 ^ (10 - (i + 1)) * 128 / 64 = 128 ^ (10 - (i + 1)) / 64 * 128 from ?_] at this
          · omega
          · obtain ⟨q, hq⟩ : ∃ q, 128 ^ (10 - (i + 1)) = 64 * q := by
              have : 1 ≤ 10 - (i + 1) := by omega
              obtain ⟨m, hm⟩ : ∃ m, 10 - (i + 1) = m + 1 := ⟨10 - (i + 1) - 1, by omega⟩
              exact ⟨128 ^ m * 2, by rw [hm, Nat.pow_succ]; omega⟩
            rw [hq]; omega)]
      have e1 : (n % 128 + 128) % 128 = n % 128 := by omega
      have e2 : n * 128 ^ i = n % 128 * 128 ^ i + n / 128 * 128 ^ (i + 1) := by
        have : n = n % 128 + n / 128 * 128 := by omega
        rw [Nat.pow_succ, ← Nat.mul_assoc, Nat.mul_right_comm, ← Nat.add_mul, ← this]
      rw [e1, e2]
      refine Prod.ext ?_ (Prod.ext ?_ rfl)
      · dsimp only; omega
      · dsimp only; omega

/-- The one of ten bytes at most, with 64 bits: from the first byte on. -/
theorem getL_back (n : Nat) (h : n < 2 ^ 64) (rest : List UInt8) : getL (putN n ++ rest) 0 0 = (n, (putN n).length, 0) := by
  have hl := putN_le10 n h
  rw [getL_putN n rest 0 0 (by omega) (.inl rfl) (fun _ => by omega)]
  simp

/-- Cut short it ends too early. -/
theorem getL_cut (n : Nat) : ∀ (i acc k : Nat), i + (putN n).length ≤ 10 → k < (putN n).length → getL ((putN n).take k) i acc = (0, 0, 3) := by
  induction n using Nat.strongRecOn with
  | ind n ih =>
    intro i acc k hi hk
    by_cases hn : n < 128
    · rw [putN_small hn] at hi hk ⊢
      simp only [List.length_singleton] at hi hk
      obtain rfl : k = 0 := by omega
      exact getL_end (by simp) (by omega)
    · rw [putN_more hn] at hi hk ⊢
      simp only [List.length_cons] at hi hk
      cases k with
      | zero => exact getL_end (by simp) (by omega)
      | succ k =>
        have ec : (UInt8.ofNat (n % 128 + 128)).toNat = n % 128 + 128 := by simp; omega
        rw [List.take_succ_cons, getL_on rfl (by omega) (by omega)]
        exact ih (n / 128) (by omega) (i + 1) _ k (by omega) (by omega)

/-- What is read as a number is just what is written of it. -/
theorem getL_least : ∀ (l : List UInt8) (i acc m k : Nat), getL l i acc = (m, k, 0) → i ≤ 9 → ∃ n, m = acc + n * 128 ^ i ∧ k = i + (putN n).length ∧ (putN n) = l.take (k - i) ∧ k - i ≤ l.length ∧ (0 < i → 0 < n) ∧ (n * 128 ^ i < 2 ^ 64)
  | [], i, acc, m, k, h, hi => by rw [getL_end rfl (by omega)] at h; simp at h
  | c :: t, i, acc, m, k, h, hi => by
    have hc := c.toNat_lt
    by_cases h1 : 128 ≤ c.toNat
    · rw [getL_on rfl (by omega) h1] at h
      by_cases h9 : i = 9
      · subst h9; rw [getL_ten] at h; simp at h
      · obtain ⟨n, e1, e2, e3, e4, e5, e6⟩ := getL_least t (i + 1) _ m k h (by omega)
        have hp := putN_pos n
        have n0 := e5 (by omega)
        have ep : putN (c.toNat % 128 + n * 128) = c :: putN n := by
          rw [putN_more (by omega), show (c.toNat % 128 + n * 128) / 128 = n by omega, show (c.toNat % 128 + n * 128) % 128 + 128 = c.toNat by omega]
          simp
        have em : (c.toNat % 128 + n * 128) * 128 ^ i = c.toNat % 128 * 128 ^ i + n * 128 ^ (i + 1) := by
          rw [Nat.add_mul, Nat.pow_succ, Nat.mul_assoc n, Nat.mul_comm 128]
        refine ⟨c.toNat % 128 + n * 128, by rw [em]; omega, by rw [ep, List.length_cons]; omega, ?_, by simp only [List.length_cons]; omega, by omega, ?_⟩
        · rw [ep, show k - i = (k - (i + 1)) + 1 by omega, List.take_succ_cons, e3]
        · rw [em]
          have hq : c.toNat % 128 * 128 ^ i < 128 ^ (i + 1) := by
            rw [Nat.pow_succ, Nat.mul_comm]
            exact Nat.mul_lt_mul_of_pos_left (by omega) (Nat.pow_pos (by omega))
          have hd : ∃ q, 2 ^ 64 = 128 ^ (i + 1) * q := by
            have hle : 7 * (i + 1) ≤ 64 := by omega
            refine ⟨2 ^ (64 - 7 * (i + 1)), ?_⟩
            rw [show (128 : Nat) = 2 ^ 7 from rfl, ← Nat.pow_mul, ← Nat.pow_add]
            congr 1; omega
          obtain ⟨q, hd⟩ := hd
          rw [hd] at e6 ⊢
          rw [Nat.mul_comm n] at e6 ⊢
          have hnq : n < q := Nat.lt_of_mul_lt_mul_left e6
          calc c.toNat % 128 * 128 ^ i + 128 ^ (i + 1) * n < 128 ^ (i + 1) + 128 ^ (i + 1) * n := by omega
            _ = 128 ^ (i + 1) * (n + 1) := by rw [Nat.mul_add, Nat.mul_one]; omega
            _ ≤ 128 ^ (i + 1) * q := Nat.mul_le_mul_left _ hnq
    · by_cases hb : (0 < i ∧ c.toNat = 0) ∨ (i = 9 ∧ 1 < c.toNat)
      · rw [getL_bad rfl (by omega) h1 hb] at h; simp at h
      · rw [getL_ok rfl (by omega) h1 hb] at h
        simp only [Prod.mk.injEq, and_true] at h
        obtain ⟨rfl, rfl⟩ := h
        have ep : putN c.toNat = [c] := by rw [putN_small (by omega)]; simp
        refine ⟨c.toNat, rfl, by rw [ep]; simp, by rw [ep, show i + 1 - i = 1 by omega]; simp, by simp, by omega, ?_⟩
        by_cases h9 : i = 9
        · subst h9
          have : c.toNat ≤ 1 := by omega
          have : c.toNat * 128 ^ 9 ≤ 1 * 128 ^ 9 := Nat.mul_le_mul_right _ this
          omega
        · have h8 : i ≤ 8 := by omega
          have h2 : 128 ^ i ≤ 128 ^ 8 := Nat.pow_le_pow_right (by omega) h8
          have : c.toNat * 128 ^ i ≤ 127 * 128 ^ 8 := Nat.mul_le_mul (by omega) h2
          omega

#print axioms getL_back
#print axioms getL_least
end Go.Proofs.YtbhnmjjfammlkaaDoor
