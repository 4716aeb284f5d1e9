/- Plain mathematics of layer 11: the place that is copied; a basis' blocks; text, pieces, text again. No program is named here. Rows of pieces in memory. Walks over the document's Same and May, and the statements' few. -/
import Derived.Test.YtbhnmjjfammlkaaDoorHM
import Derived.Test.YtbhnmjjfammlkaaDoorNM
import Derived.BigQuiet
namespace Go.Proofs.YtbhnmjjfammlkaaDoor
section
variable {σ : Type} [DecidableEq σ] (sg : List UInt8 → σ)
/-- How many bytes the block at a place has. -/
def nlen (len size last i : Nat) : Nat := if i + 1 = len then last else size
/-- Has the place's signature the next bytes? -/
def meets (l : List σ) (size last : Nat) (t : List UInt8) (i : Nat) : Bool :=
  (decide (nlen l.length size last i = size ∧ size ≤ t.length) || decide (nlen l.length size last i < size ∧ t.length = nlen l.length size last i)) && decide (l[i]? = some (sg (t.take (nlen l.length size last i))))
/-- The least place whose signature is that of the next bytes, and how many those are, from a place on. -/
def nextF (l : List σ) (size last : Nat) (t : List UInt8) : Nat → Nat → Option (Nat × Nat)
  | 0, _ => none
  | m + 1, i => if meets sg l size last t i then some (i, nlen l.length size last i) else nextF l size last t m (i + 1)
def nextL (l : List σ) (size last : Nat) (t : List UInt8) : Option (Nat × Nat) := nextF sg l size last t l.length 0
variable {sg}
theorem nextF_some {l : List σ} {size last : Nat} {t : List UInt8} : ∀ {m i : Nat} {q : Nat × Nat}, nextF sg l size last t m i = some q → i ≤ q.1 ∧ q.1 < i + m ∧ q.2 = nlen l.length size last q.1 ∧ meets sg l size last t q.1 = true ∧ ∀ j, i ≤ j → j < q.1 → meets sg l size last t j = false
  | 0, _, _, h => nomatch h
  | m + 1, i, q, h => by
    unfold nextF at h
    split at h
    · next hm =>
      cases h
      exact ⟨Nat.le_refl _, by omega, rfl, hm, fun j h1 h2 => by omega⟩
    · next hm =>
      obtain ⟨h1, h2, h3, h4, h5⟩ := nextF_some h
      refine ⟨by omega, by omega, h3, h4, fun j a b => ?_⟩
      by_cases e : j = i
      · subst e; simpa using hm
      · exact h5 j (by omega) b
theorem nextF_none {l : List σ} {size last : Nat} {t : List UInt8} : ∀ {m i : Nat}, nextF sg l size last t m i = none → ∀ j, i ≤ j → j < i + m → meets sg l size last t j = false
  | 0, _, _, j, h1, h2 => by omega
  | m + 1, i, h, j, h1, h2 => by
    unfold nextF at h
    split at h
    · cases h
    · next hm =>
      by_cases e : j = i
      · subst e; simpa using hm
      · exact nextF_none h j (by omega) (by omega)
theorem nextL_some {l : List σ} {size last i n : Nat} {t : List UInt8} (h : nextL sg l size last t = some (i, n)) : i < l.length ∧ n = nlen l.length size last i ∧ ((n = size ∧ size ≤ t.length) ∨ (n < size ∧ t.length = n)) ∧ l[i]? = some (sg (t.take n)) := by
  obtain ⟨_, h2, h3, h4, _⟩ := nextF_some h
  simp only at h2 h3 h4
  unfold meets at h4
  rw [← h3] at h4
  simp only [Bool.and_eq_true, Bool.or_eq_true, decide_eq_true_eq] at h4
  exact ⟨by omega, h3, h4.1, h4.2⟩
theorem nextL_least {l : List σ} {size last i : Nat} {t : List UInt8} (hi : i < l.length) (hm : meets sg l size last t i = true) : ∃ j, j ≤ i ∧ nextL sg l size last t = some (j, nlen l.length size last j) := by
  cases h : nextL sg l size last t with
  | none =>
    have := nextF_none h i (Nat.zero_le _) (by omega)
    rw [hm] at this
    cases this
  | some q =>
    obtain ⟨j, n⟩ := q
    obtain ⟨_, h2, h3, h4, h5⟩ := nextF_some h
    simp only at h2 h3 h4 h5
    refine ⟨j, ?_, by rw [h3]⟩
    refine Nat.le_of_not_lt fun hlt => ?_
    have := h5 i (Nat.zero_le _) hlt
    rw [hm] at this
    cases this
theorem nextL_nil {size last : Nat} (t : List UInt8) : nextL sg [] size last t = none := rfl
end
/-- A block of a basis; how many there are; how many bytes the last one has. -/
def blkL (b : List UInt8) (s i : Nat) : List UInt8 := (b.drop (i * s)).take s
def cntL (b : List UInt8) (s : Nat) : Nat := (b.length + s - 1) / s
def lastL (b : List UInt8) (s : Nat) : Nat := if b.length = 0 then 0 else (b.length - 1) % s + 1
theorem cnt_lt {b : List UInt8} {s i : Nat} (hs : 1 ≤ s) : i < cntL b s ↔ i * s < b.length := by
  unfold cntL
  rw [Nat.lt_div_iff_mul_lt (by omega)]
  omega
theorem blk_len {b : List UInt8} {s i : Nat} (hs : 1 ≤ s) (hi : i < cntL b s) : (blkL b s i).length = nlen (cntL b s) s (lastL b s) i := by
  have h1 := (cnt_lt hs).1 hi
  have hc : ¬ i + 1 < cntL b s ↔ ¬ (i + 1) * s < b.length := not_congr (cnt_lt hs)
  unfold blkL nlen
  rw [List.length_take, List.length_drop]
  rw [Nat.add_mul] at hc
  by_cases h : i + 1 = cntL b s
  · rw [if_pos h]
    have h2 : ¬ i * s + 1 * s < b.length := hc.1 (by omega)
    unfold lastL
    rw [if_neg (by omega)]
    have h3 : (b.length - 1) % s = b.length - 1 - i * s := by
      obtain ⟨r, hr⟩ : ∃ r, b.length - 1 = i * s + r := ⟨b.length - 1 - i * s, by omega⟩
      rw [hr, Nat.add_comm, Nat.add_mul_mod_self_right, Nat.mod_eq_of_lt (by omega)]
      omega
    rw [h3]
    omega
  · rw [if_neg h]
    have h2 : i * s + 1 * s < b.length := Classical.byContradiction fun hh => (hc.2 hh) (by omega)
    omega
section
variable {σ : Type} {sg : List UInt8 → σ}
/-- The signatures of a basis. -/
def sigsL (sg : List UInt8 → σ) (b : List UInt8) (s : Nat) : List σ := (List.range (cntL b s)).map fun i => sg (blkL b s i)
theorem sigs_len (b : List UInt8) (s : Nat) : (sigsL sg b s).length = cntL b s := by simp [sigsL]
theorem sigs_at {b : List UInt8} {s i : Nat} (hi : i < cntL b s) : (sigsL sg b s)[i]? = some (sg (blkL b s i)) := by simp [sigsL, hi]
end
section
variable {σ : Type} [DecidableEq σ] {sg : List UInt8 → σ}
theorem last_le {b : List UInt8} {s : Nat} (hs : 1 ≤ s) : lastL b s ≤ s := by
  unfold lastL
  split
  · omega
  · have := Nat.mod_lt (b.length - 1) (show 0 < s by omega); omega
theorem last_pos {b : List UInt8} {s : Nat} (h : b.length ≠ 0) : 1 ≤ lastL b s := by unfold lastL; rw [if_neg h]; omega
/-- A place that is copied has the bytes that are gone, or else two unlike texts have the same signature: a block, and some bytes of the text. -/
theorem next_back {b t : List UInt8} {s k i n : Nat} (hs : 1 ≤ s) (h : nextL sg (sigsL sg b s) s (lastL b s) (t.drop k) = some (i, n)) :
    1 ≤ n ∧ i < cntL b s ∧ sg (blkL b s i) = sg ((t.drop k).take s) ∧ (t.drop k).take n = (t.drop k).take s ∧ (blkL b s i).length = n := by
  obtain ⟨h1, h2, h3, h4⟩ := nextL_some h
  rw [sigs_len] at h1 h2
  rw [sigs_at h1, Option.some.injEq] at h4
  have hl := blk_len hs h1
  rw [← h2] at hl
  have he : (t.drop k).take n = (t.drop k).take s := by
    rcases h3 with ⟨e, _⟩ | ⟨e1, e2⟩
    · rw [e]
    · rw [List.take_of_length_le (by omega), List.take_of_length_le (by omega)]
  have hb : b.length ≠ 0 := by have := (cnt_lt hs).1 h1; omega
  refine ⟨?_, h1, by rw [h4, he], he, hl⟩
  rw [h2]
  unfold nlen
  split
  · exact last_pos hb
  · exact hs
/-- What is made of a text by a basis' signatures makes that text again, or two unlike ones of the basis' blocks and the text's windows have the same signature. -/
theorem make_back {b t : List UInt8} {s : Nat} (hs : 1 ≤ s) : textP (blkL b s) (makeP (nextL sg (sigsL sg b s) s (lastL b s)) [] t) = t ∨ ∃ i k, i < cntL b s ∧ k < t.length ∧ blkL b s i ≠ (t.drop k).take s ∧ sg (blkL b s i) = sg ((t.drop k).take s) := by
  by_cases h : ∃ i k, i < cntL b s ∧ k < t.length ∧ blkL b s i ≠ (t.drop k).take s ∧ sg (blkL b s i) = sg ((t.drop k).take s)
  · exact .inr h
  · refine .inl ?_
    have := make_text (nx := nextL sg (sigsL sg b s) s (lastL b s)) (blkL b s) t.length t [] rfl (fun k i n hk he => ?_)
    · rwa [List.nil_append] at this
    · obtain ⟨h1, h2, h3, h4, _⟩ := next_back hs he
      refine ⟨h1, ?_⟩
      rw [h4]
      exact Classical.byContradiction fun hne => h ⟨i, k, h2, hk, hne, h3⟩
/-- Of the basis itself nothing but blocks is left. -/
theorem make_same {b : List UInt8} {s : Nat} (hs : 1 ≤ s) : (∀ p ∈ makeP (nextL sg (sigsL sg b s) s (lastL b s)) [] b, p.copy = true ∧ p.data = ⟨#[]⟩) ∧ (makeP (nextL sg (sigsL sg b s) s (lastL b s)) [] b).length = cntL b s := by
  refine make_whole hs b.length b rfl fun j hj => ?_
  have hc := (cnt_lt (i := j) hs).2 hj
  have hl := blk_len hs hc
  have hbl : (blkL b s j).length = min s (b.length - j * s) := by unfold blkL; rw [List.length_take, List.length_drop]
  have hm : meets sg (sigsL sg b s) s (lastL b s) (b.drop (j * s)) j = true := by
    unfold meets
    rw [sigs_len, ← hl, sigs_at hc]
    have ht : (b.drop (j * s)).take (blkL b s j).length = blkL b s j := by
      rw [hbl]
      unfold blkL
      by_cases hh : s ≤ b.length - j * s
      · rw [Nat.min_eq_left hh]
      · rw [Nat.min_eq_right (by omega), List.take_of_length_le (by rw [List.length_drop]; omega), List.take_of_length_le (by rw [List.length_drop]; omega)]
    rw [ht]
    simp only [Bool.and_eq_true, Bool.or_eq_true, decide_eq_true_eq, and_true, List.length_drop]
    omega
  obtain ⟨i, hi, hn⟩ := nextL_least (by rw [sigs_len]; exact hc) hm
  refine ⟨i, ?_⟩
  rw [hn]
  congr 2
  obtain ⟨_, _, h3, _⟩ := nextL_some hn
  rw [List.length_drop] at h3
  have hle : nlen (sigsL sg b s).length s (lastL b s) i ≤ s := by
    unfold nlen
    split
    · exact last_le hs
    · exact Nat.le_refl _
  omega
end
end Go.Proofs.YtbhnmjjfammlkaaDoor
namespace Go.Proofs.YtbhnmjjfammlkaaDoor
open Go.RowKit
/-- Pieces as cells. -/
def pcC (p : Pc) : List Value := [.bool p.copy, .int .i64 p.n, .string p.data]
def pcR (l : List Pc) : List Value := l.flatMap pcC
theorem pcC_len (p : Pc) : (pcC p).length = 3 := rfl
theorem pcR_app (a b : List Pc) : pcR (a ++ b) = pcR a ++ pcR b := by simp [pcR]
theorem pcR_one (l : List Pc) : ∀ u ∈ pcR l, u.oneCell' = true := by
  intro u hu
  obtain ⟨c, _, hc⟩ := List.mem_flatMap.1 hu
  simp only [pcC, List.mem_cons, List.not_mem_nil, or_false] at hc
  rcases hc with rfl | rfl | rfl <;> rfl
def Hw (G : Nat → Prop) (w : World) (a : Option Addr) (len cap : Nat) (l : List Pc) : Prop := Rw G w 48 3 a len cap (pcR l)
theorem Hw.len {G : Nat → Prop} {w : World} {a : Option Addr} {len cap : Nat} {l : List Pc} (h : Hw G w a len cap l) : l.length = len := by
  have := h.1
  unfold pcR at this
  rw [fm_len pcC_len] at this
  omega
theorem Hw.max {G : Nat → Prop} {w : World} {a : Option Addr} {len cap : Nat} {l : List Pc} (h : Hw G w a len cap l) : len ≤ 9223372036854775807 := by
  have := h.2.1
  have := h.2.2.1
  unfold maxLen at this
  omega
theorem Hw.below {G : Nat → Prop} {w w' : World} {a : Option Addr} {len cap : Nat} {l : List Pc} (h : Hw G w a len cap l) (hb : Below w.heap.size w w') : Hw G w' a len cap l := Rw.below h hb
theorem Hw.at {G : Nat → Prop} {w : World} {a : Option Addr} {len cap : Nat} {l : List Pc} (h : Hw G w a len cap l) (h0 : 0 < len) : ∃ b o, a = some ⟨b, o, none⟩ ∧ b < w.heap.size ∧ ∀ i p, l[i]? = some p → w.cell? ⟨b, o + i * 3, none⟩ = some (.bool p.copy) ∧ w.cell? ⟨b, o + i * 3 + 1, none⟩ = some (.int .i64 p.n) ∧ w.cell? ⟨b, o + i * 3 + 2, none⟩ = some (.string p.data) := by
  obtain ⟨b, o, rfl, hb, _, hc⟩ := h.2.2.2 h0
  have key : ∀ i p, l[i]? = some p → ∀ j, j < 3 → (pcR l)[i * 3 + j]? = (pcC p)[j]? := fun i p hi j hj => fm_at pcC_len hi j hj
  refine ⟨b, o, rfl, hb, fun i p hi => ⟨?_, ?_, ?_⟩⟩
  · exact hc (i * 3) _ (key i p hi 0 (by omega))
  · rw [Nat.add_assoc]; exact hc (i * 3 + 1) _ (key i p hi 1 (by omega))
  · rw [Nat.add_assoc]; exact hc (i * 3 + 2) _ (key i p hi 2 (by omega))
theorem infoPc : (Tryd.prog.info? 48).map (fun i => (i.zero, i.size, i.bytes)) = some (some (.agg #[.bool false, .int .i64 0, .string ByteArray.empty]), 3, 32) := by kernel_rfl
theorem addH_own {G2 : Nat → Prop} (w : World) {base : Nat} {a : Option Addr} {n c : Nat} {l : List Pc} (h : w.ownsRow base 48 3 (.slice a n c) n (pcR l)) {a2 : Option Addr} {m c2 : Nat} {k : List Pc} (h2 : Hw G2 w a2 m c2 k) (hN : n + m ≤ 1000000) (hb : base ≤ w.heap.size) :
    ∃ a' c' w', (∀ ty, (Builtin.append_ #[26, 26] ty #[.slice a n c, .slice a2 m c2]).run Tryd.prog w = .ok (.slice a' (n + m) c') w') ∧ w'.ownsRow base 48 3 (.slice a' (n + m) c') (n + m) (pcR (l ++ k)) ∧ w.grownBy w' (ob a) ∧ (ob a' = ob a ∨ ob a' = some w.heap.size) := by
  obtain ⟨i, hi, hz, hs, hbb⟩ := info_of infoPc
  rw [pcR_app]
  exact app_own w 26 48 i _ 3 32 Tryd.underlying26 hi hz hs hbb rfl (by omega) h h2 (pcR_one k) hN (by omega) hb
theorem pcRow {w : World} {b : Nat} {p : Pc} (h : w.heap[b]? = some (.cells #[.bool p.copy, .int .i64 p.n, .string p.data] 48 (0, 0))) : Hw (fun _ => True) w (some ⟨b, 0, none⟩) 1 1 [p] := by
  refine ⟨rfl, Nat.le_refl _, by unfold maxLen; omega, fun _ => ⟨b, 0, rfl, lt_of_some h, trivial, fun j u hu => ?_⟩⟩
  rw [Nat.zero_add, cell_of_row _ b _ _ _ _ h]
  simpa [pcR, pcC] using hu
end Go.Proofs.YtbhnmjjfammlkaaDoor
namespace Go.Proofs.YtbhnmjjfammlkaaDoor
open Go.RowKit
theorem eqin_pc (a b : Pc) (w : World) : (Op.equalIn 10000 48 (.agg #[.bool a.copy, .int .i64 a.n, .string a.data]) (.agg #[.bool b.copy, .int .i64 b.n, .string b.data])).run Tryd.prog w = .ok (decide (a = b)) w := by
  obtain ⟨a1, a2, a3⟩ := a
  obtain ⟨b1, b2, b3⟩ := b
  have u9 := Tryd.underlying9
  have g9 := Tryd.isAgg9
  have z9 := Tryd.sizeOf9
  have u3 := Tryd.underlying3
  have g3 := Tryd.isAgg3
  have z3 := Tryd.sizeOf3
  have u4 := Tryd.underlying4
  have g4 := Tryd.isAgg4
  have z4 := Tryd.sizeOf4
  have hS : Tryd.prog.underlying 48 = some (.struct (Tryd.prog.fieldsOf 48)) := by kernel_rfl
  have hp : Tryd.prog.stoodInHeld 48 = false := by kernel_rfl
  rw [show (10000 : Nat) = 9999 + 1 from rfl, run_equalIn_agg w 9999 48 _ _ hS hp]
  simp only [Program.fieldsOf, Tryd.underlying48]
  go_simp
  by_cases h1 : a1 = b1
  · subst h1
    by_cases h2 : a2 = b2
    · subst h2
      by_cases h3 : a3 = b3
      · subst h3; simp
      · have := str_ne h3
        simp [h3, this]
    · simp [h2]
  · simp [h1]
theorem below_drewP {B : Nat} {w V : World} (h : Below B w V) : ∀ n, Below B w (V.drewN n)
  | 0 => h
  | n + 1 => (below_drewP h n).drew
set_option maxRecDepth 100000 in
set_option maxHeartbeats 1000000 in
theorem samepc_any {G H : Nat → Prop} {w : World} {a : Option Addr} {n c : Nat} {la : List Pc} {b : Option Addr} {m d : Nat} {lb : List Pc} (ha : Hw G w a n c la) (hb : Hw H w b m d lb) :
    Calls Tryd.prog 12 #[.slice a n c, .slice b m d] w fun e w' => e = .returned (.bool (decide (la = lb))) ∧ Below w.heap.size w w' := by
  have hla := ha.len
  have hlb := hb.len
  have hmx := ha.max
  by_cases hnm : n = m
  · subst hnm
    have HA : Hid (∀ W, Below w.heap.size w W → Hw G W a n c la ∧ Hw H W b n d lb) := fun W hW => ⟨ha.below hW, hb.below hW⟩
    clear ha hb
    go_enter Tryd.func12, Tryd.ntmps12
    go_wp2
    go_loopw [5] (fun v wr => ∃ i : Nat, i ≤ n ∧ v = .int .i64 i ∧ la.take i = lb.take i ∧ Below w.heap.size w wr) (fun v _ => n - (intOf v).toNat)
    case atStart => exact ⟨0, by omega, rfl, rfl, Below.refl _ _⟩
    case round =>
      obtain ⟨i, hi, rfl, htk, hbw⟩ := hrel
      by_cases hlt : i < n
      · have kk : (i : Int) < (n : Int) := by omega
        obtain ⟨h1, h2⟩ := HA.out wr hbw
        obtain ⟨ab, ao, rfl, _, hc⟩ := h1.at (by omega)
        obtain ⟨bb, bo, rfl, _, hd⟩ := h2.at (by omega)
        obtain ⟨⟨p1, p2, p3⟩, hp⟩ : ∃ p, la[i]? = some p := ⟨_, List.getElem?_eq_getElem (by omega)⟩
        obtain ⟨⟨q1, q2, q3⟩, hq⟩ : ∃ q, lb[i]? = some q := ⟨_, List.getElem?_eq_getElem (by omega)⟩
        obtain ⟨c1, c2, c3⟩ := hc i _ hp
        obtain ⟨d1, d2, d3⟩ := hd i _ hq
        simp only at c1 c2 c3 d1 d2 d3
        have he := fun W => eqin_pc ⟨p1, p2, p3⟩ ⟨q1, q2, q3⟩ W
        simp only at he
        obtain ⟨y, hy⟩ : ∃ y, decide ((⟨p1, p2, p3⟩ : Pc) = ⟨q1, q2, q3⟩) = y := ⟨_, rfl⟩
        rw [hy] at he
        have HE : Hid (decide ((⟨p1, p2, p3⟩ : Pc) = ⟨q1, q2, q3⟩) = y ∧ la[i]? = some ⟨p1, p2, p3⟩ ∧ lb[i]? = some ⟨q1, q2, q3⟩ ∧ la.take i = lb.take i ∧ Below w.heap.size w wr) := ⟨hy, hp, hq, htk, hbw⟩
        clear hc hd hp hq hy htk hbw h1 h2
        cases y with
        | true =>
          go_wp2
          go_quiet (fail)
          go_wp2
          refine ⟨⟨i + 1, by omega, by go_num, ?_, below_drewP HE.out.2.2.2.2 _⟩, by simp [intOf]; omega⟩
          have h5 := of_decide_eq_true HE.out.1
          rw [take_snoc HE.out.2.1, take_snoc HE.out.2.2.1, HE.out.2.2.2.1, h5]
        | false =>
          go_wp2
          go_quiet (fail)
          go_wp2
          go_ret
          have hd : decide (la = lb) = false := decide_eq_false fun e => by
            have h5 := HE.out.2.1
            rw [e, HE.out.2.2.1] at h5
            exact of_decide_eq_false HE.out.1 (Option.some.inj h5).symm
          rw [hd]
          exact ⟨rfl, below_drewP HE.out.2.2.2.2 _⟩
      · obtain rfl : i = n := by omega
        have kk : ¬ (i : Int) < (i : Int) := by omega
        have HE : Hid (la.take i = lb.take i ∧ Below w.heap.size w wr) := ⟨htk, hbw⟩
        clear htk hbw
        go_wp2
        go_ret
        have hd : decide (la = lb) = true := decide_eq_true (by
          have h5 := HE.out.1
          rw [List.take_of_length_le (by omega), List.take_of_length_le (by omega)] at h5
          exact h5)
        rw [hd]
        exact ⟨rfl, HE.out.2⟩
  · have hne : ¬ (n : Int) = (m : Int) := by omega
    have hnb : ((n : Int) == (m : Int)) = false := by simpa using hne
    clear ha hb
    go_enter Tryd.func12, Tryd.ntmps12
    go_wp2
    go_ret
    have hd : decide (la = lb) = false := decide_eq_false fun e => by rw [e] at hla; omega
    rw [hd]
    exact ⟨rfl, Below.refl _ _⟩
end Go.Proofs.YtbhnmjjfammlkaaDoor
