/- Rows of caveats, and tokens, in memory. Strings, slices of strings, and the iterator over a string. -/
import Derived.Test.YtcmdcmbiilfngabDoorGB
import Derived.Test.YtcmdcmbiilfngabDoorKM
import Derived.Test.YtcmdcmbiilfngabDoorProg
import Derived.Test.YtcmdcmbiilfngabDoorPM
import Derived.WalkKit
import Derived.WalkSpells
import Derived.WalkLawsBesides
import Derived.WalkSmall
import Derived.OpenShut
import Derived.ProofKit
import Derived.Laws.RangeAny
import Derived.Laws.AppendOwn
import Derived.Deep.RegionHeld
import Derived.Below
namespace Go.Proofs.YtcmdcmbiilfngabDoor
open Go.RowKit
theorem take_snocK {α : Type} {l : List α} {i : Nat} {x : α} (h : l[i]? = some x) : l.take (i + 1) = l.take i ++ [x] := by
  rw [List.take_add_one, h]
  rfl
/-- What is told by a word of yes or no. -/
def YeTo (w : World) (b : Bool) (e : Ending) (w' : World) : Prop := e = .returned (.bool b) ∧ Below w.heap.size w w'
/-- Caveats as cells. -/
def cvC (c : Cv) : List Value := [.string c.path, .int .i64 c.rights, .int .i64 c.til]
def cvR (l : List Cv) : List Value := l.flatMap cvC
theorem cvC_len (c : Cv) : (cvC c).length = 3 := rfl
theorem cvR_app (a b : List Cv) : cvR (a ++ b) = cvR a ++ cvR b := by simp [cvR]
theorem cvR_one (l : List Cv) : ∀ u ∈ cvR l, u.oneCell' = true := by
  intro u hu
  obtain ⟨c, _, hc⟩ := List.mem_flatMap.1 hu
  simp only [cvC, List.mem_cons, List.not_mem_nil, or_false] at hc
  rcases hc with rfl | rfl | rfl <;> rfl
/-- A row of caveats that can be read. -/
def Kw (w : World) (a : Option Addr) (len cap : Nat) (l : List Cv) : Prop := Rw (fun _ => True) w 39 3 a len cap (cvR l)
theorem Kw.len {w : World} {a : Option Addr} {len cap : Nat} {l : List Cv} (h : Kw w a len cap l) : l.length = len := by
  have := h.1
  unfold cvR at this
  rw [fm_len cvC_len] at this
  omega
theorem Kw.max {w : World} {a : Option Addr} {len cap : Nat} {l : List Cv} (h : Kw w a len cap l) : len ≤ 9223372036854775807 := by
  have := h.2.1
  have := h.2.2.1
  unfold maxLen at this
  omega
theorem Kw.below {w w' : World} {a : Option Addr} {len cap : Nat} {l : List Cv} (h : Kw w a len cap l) (hb : Below w.heap.size w w') : Kw w' a len cap l := Rw.below h hb
theorem Kw.nil (w : World) : Kw w none 0 0 [] := Rw.zero _ w 39 3 none 0 (Nat.zero_le _)
theorem Kw.at {w : World} {a : Option Addr} {len cap : Nat} {l : List Cv} (h : Kw w a len cap l) (h0 : 0 < len) : ∃ b o, a = some ⟨b, o, none⟩ ∧ b < w.heap.size ∧ ∀ i p, l[i]? = some p → w.cell? ⟨b, o + i * 3, none⟩ = some (.string p.path) ∧ w.cell? ⟨b, o + i * 3 + 1, none⟩ = some (.int .i64 p.rights) ∧ w.cell? ⟨b, o + i * 3 + 2, none⟩ = some (.int .i64 p.til) := by
  obtain ⟨b, o, rfl, hb, _, hc⟩ := h.2.2.2 h0
  have key : ∀ i p, l[i]? = some p → ∀ j, j < 3 → (cvR l)[i * 3 + j]? = (cvC p)[j]? := fun i p hi j hj => fm_at cvC_len hi j hj
  refine ⟨b, o, rfl, hb, fun i p hi => ⟨?_, ?_, ?_⟩⟩
  · exact hc (i * 3) _ (key i p hi 0 (by omega))
  · rw [Nat.add_assoc]; exact hc (i * 3 + 1) _ (key i p hi 1 (by omega))
  · rw [Nat.add_assoc]; exact hc (i * 3 + 2) _ (key i p hi 2 (by omega))
theorem infoCv : (Tryd.prog.info? 39).map (fun i => (i.zero, i.size, i.bytes)) = some (some (.agg #[.string ByteArray.empty, .int .i64 0, .int .i64 0]), 3, 32) := by kernel_rfl
theorem addK_own (w : World) {base : Nat} {a : Option Addr} {n c : Nat} {l : List Cv} (h : w.ownsRow base 39 3 (.slice a n c) n (cvR l)) {a2 : Option Addr} {m c2 : Nat} {k : List Cv} (h2 : Kw w a2 m c2 k) (hN : n + m ≤ 1000000) (hb : base ≤ w.heap.size) :
    ∃ a' c' w', (∀ ty, (Builtin.append_ #[22, 22] ty #[.slice a n c, .slice a2 m c2]).run Tryd.prog w = .ok (.slice a' (n + m) c') w') ∧ w'.ownsRow base 39 3 (.slice a' (n + m) c') (n + m) (cvR (l ++ k)) ∧ w.grownBy w' (ob a) ∧ (ob a' = ob a ∨ ob a' = some w.heap.size) := by
  obtain ⟨i, hi, hz, hs, hbb⟩ := info_of infoCv
  rw [cvR_app]
  exact app_own w 22 39 i _ 3 32 Tryd.underlying22 hi hz hs hbb rfl (by omega) h h2 (cvR_one k) hN (by omega) hb
theorem Kw.own {w : World} {base : Nat} {a : Option Addr} {n c : Nat} {l : List Cv} (h : w.ownsRow base 39 3 (.slice a n c) n (cvR l)) : Kw w a n c l := Rw.own h (fun _ _ => trivial)
theorem cvRow {w : World} {b : Nat} {p : Cv} (h : w.heap[b]? = some (.cells #[.string p.path, .int .i64 p.rights, .int .i64 p.til] 39 (0, 0))) : Kw w (some ⟨b, 0, none⟩) 1 1 [p] := by
  refine ⟨rfl, Nat.le_refl _, by unfold maxLen; omega, fun _ => ⟨b, 0, rfl, lt_of_some h, trivial, fun j u hu => ?_⟩⟩
  rw [Nat.zero_add, cell_of_row _ b _ _ _ _ h]
  simpa [cvR, cvC] using hu
def cvV (c : Cv) : Value := .agg #[.string c.path, .int .i64 c.rights, .int .i64 c.til]
theorem box_cv {w : World} (s : ByteArray) (a b : Int) : ∃ W1, w.alloc (.cells #[.string s, .int .i64 a, .int .i64 b] 39) = W1 ∧ W1.heap[w.heap.size]? = some (.cells #[.string s, .int .i64 a, .int .i64 b] 39 (0, 0)) ∧ Below w.heap.size w W1 := ⟨_, rfl, heap_alloc_new w _, (Below.refl _ w).alloc (Nat.le_refl _) _⟩
/-- A token's value. -/
def tkV (t n : Int) (a : Option Addr) (ln cp : Nat) (s : ByteArray) : Value := .agg #[.int .i64 t, .int .i64 n, .slice a ln cp, .string s]
theorem box_tk {w : World} (t n : Int) (a : Option Addr) (ln cp : Nat) (s : ByteArray) : ∃ W1, w.alloc (.cells #[.int .i64 t, .int .i64 n, .slice a ln cp, .string s] 24) = W1 ∧ W1.heap[w.heap.size]? = some (.cells #[.int .i64 t, .int .i64 n, .slice a ln cp, .string s] 24 (0, 0)) ∧ Below w.heap.size w W1 := ⟨_, rfl, heap_alloc_new w _, (Below.refl _ w).alloc (Nat.le_refl _) _⟩
theorem eqin_cv (a b : Cv) (w : World) : (Op.equalIn 10000 39 (.agg #[.string a.path, .int .i64 a.rights, .int .i64 a.til]) (.agg #[.string b.path, .int .i64 b.rights, .int .i64 b.til])).run Tryd.prog w = .ok (decide (a = b)) w := by
  obtain ⟨a1, a2, a3⟩ := a
  obtain ⟨b1, b2, b3⟩ := b
  have u9 := Tryd.underlying9
  have g9 := Tryd.isAgg9
  have z9 := Tryd.sizeOf9
  have u3 := Tryd.underlying3
  have g3 := Tryd.isAgg3
  have z3 := Tryd.sizeOf3
  have u4 := Tryd.underlying37
  have g4 := Tryd.isAgg37
  have z4 := Tryd.sizeOf37
  have hS : Tryd.prog.underlying 39 = some (.struct (Tryd.prog.fieldsOf 39)) := by kernel_rfl
  have hp : Tryd.prog.stoodInHeld 39 = false := by kernel_rfl
  rw [show (10000 : Nat) = 9999 + 1 from rfl, run_equalIn_agg w 9999 39 _ _ hS hp]
  simp only [Program.fieldsOf, Tryd.underlying39]
  go_simp
  by_cases h1 : a1 = b1
  · subst h1
    by_cases h2 : a2 = b2
    · subst h2
      by_cases h3 : a3 = b3
      · subst h3; simp
      · simp [h3]
    · simp [h2]
  · have := str_ne h1
    simp [h1, this]
theorem infoT4 : (Tryd.prog.info? 24).map (·.size) = some 4 := by kernel_rfl
theorem infoC3 : (Tryd.prog.info? 39).map (·.size) = some 3 := by kernel_rfl
end Go.Proofs.YtcmdcmbiilfngabDoor
namespace Go.Proofs.YtcmdcmbiilfngabDoor.Pt
open Go.RowKit
theorem ret_int {k : IntKind} {a b : Int} (h : a = b) : Ending.returned (.int k a) = .returned (.int k b) := by rw [h]
theorem ret_bool {a b : Bool} (h : a = b) : Ending.returned (.bool a) = .returned (.bool b) := by rw [h]
theorem ret_val {a b : Value} (h : a = b) : Ending.returned a = .returned b := by rw [h]
def strOf (bs : List UInt8) : ByteArray := ⟨bs.toArray⟩
theorem strOf_append (a b : List UInt8) : strOf (a ++ b) = strOf a ++ strOf b := by
  apply ByteArray.ext; simp [strOf]
theorem strOf_size (a : List UInt8) : (strOf a).size = a.length := by simp [strOf, ByteArray.size]
theorem strOf_list (a : List UInt8) : (strOf a).data.toList = a := rfl
theorem strOf_of (b : ByteArray) : strOf b.data.toList = b := rfl
theorem len_size (s : ByteArray) : s.data.toList.length = s.size := by rw [Array.length_toList]; rfl
theorem str_ne {a b : ByteArray} (h : ¬ a = b) : ¬ a.toList = b.toList := fun e => h (by
  rw [ByteArray.toList_eq a, ByteArray.toList_eq b] at e
  exact ByteArray.ext (Array.toList_inj.1 e))
theorem str_nb {a b : ByteArray} (h : ¬ a = b) : (a.toList == b.toList) = false := by
  have := str_ne h
  simpa using this
theorem toList_ne {s : ByteArray} {l : List UInt8} (h : s.data.toList ≠ l) : ¬ s.toList = l := by rw [ByteArray.toList_eq]; exact h
theorem toList_nb {s : ByteArray} {l : List UInt8} (h : s.data.toList ≠ l) : (s.toList == l) = false := by
  have := toList_ne h
  simpa using this
theorem toList_nil {s : ByteArray} (h : s.data.toList ≠ []) : s.toList.isEmpty = false := by
  have := toList_ne h
  cases e : s.toList with
  | nil => exact absurd e this
  | cons => rfl
theorem str_inj {a b : ByteArray} : a.data.toList = b.data.toList ↔ a = b := by
  constructor
  · intro e; exact ByteArray.ext (Array.toList_inj.1 e)
  · rintro rfl; rfl
theorem strOf_inj {a b : List UInt8} : strOf a = strOf b ↔ a = b := by
  rw [← str_inj]; exact Iff.rfl
/-- What a walk is told of a slice of strings: its strings, by the cells from its address on. -/
def Ss (w : World) (a : Option Addr) (len cap : Nat) (ss : List ByteArray) : Prop :=
  ss.length = len ∧ len ≤ cap ∧ cap ≤ 9223372036854775807 ∧ (a = none → cap = 0) ∧ ∀ ad, a = some ad → ∀ i (h : i < ss.length), w.cell? (ad.add i) = some (.string ss[i])
theorem Ss.at {w : World} {a : Option Addr} {len cap : Nat} {ss : List ByteArray} (h : Ss w a len cap ss) (h0 : 0 < len) :
    ∃ b off, a = some ⟨b, off, none⟩ ∧ ∀ i (h : i < ss.length), w.cell? ⟨b, off + i, none⟩ = some (.string ss[i]) := by
  obtain ⟨h1, h2, h3, h4, h5⟩ := h
  cases a with
  | none => have := h4 rfl; omega
  | some ad =>
    obtain ⟨b, off, spot⟩ := ad
    have hc := h5 _ rfl 0 (by omega)
    have hspot : spot = none := by simpa [Addr.add] using World.cell?_spot hc
    subst hspot
    refine ⟨b, off, rfl, fun i hi => ?_⟩
    have := h5 _ rfl i hi
    rwa [Addr.add_lit] at this
theorem Ss.on {w w' : World} {a : Option Addr} {len cap : Nat} {ss : List ByteArray} (h : Ss w a len cap ss) (hb : Below w.heap.size w w') : Ss w' a len cap ss := by
  refine ⟨h.1, h.2.1, h.2.2.1, h.2.2.2.1, fun ad had i hi => ?_⟩
  have := h.2.2.2.2 ad had i hi
  rw [hb.cell (World.block_lt_of_cell? w _ this)]
  exact this
theorem Ss.laid {w : World} {a : Option Addr} {len cap : Nat} {ss : List ByteArray} (h : Ss w a len cap ss) (o : Obj) : Ss (w.alloc o) a len cap ss := h.on ((Below.refl _ _).alloc (Nat.le_refl _) o)
theorem Ss.nil (w : World) : Ss w none 0 0 [] := ⟨rfl, by omega, by omega, fun _ => rfl, by intro ad h; cases h⟩
theorem Ss.one (w : World) (s : ByteArray) : Ss (w.alloc (.cells #[.string s] 9)) (some ⟨w.heap.size, 0, none⟩) 1 1 [s] := by
  refine ⟨rfl, by omega, by omega, (by intro e; cases e), ?_⟩
  intro ad had i hi
  cases had
  match i, hi with
  | 0, _ => simp [Addr.add]
theorem Ss.two (w : World) (s t : ByteArray) : Ss (w.alloc (.cells #[.string s, .string t] 9)) (some ⟨w.heap.size, 0, none⟩) 2 2 [s, t] := by
  refine ⟨rfl, by omega, by omega, (by intro e; cases e), ?_⟩
  intro ad had i hi
  cases had
  match i, hi with
  | 0, _ => simp [Addr.add]
  | 1, _ => simp [Addr.add]
theorem Ss.three (w : World) (s t u : ByteArray) : Ss (w.alloc (.cells #[.string s, .string t, .string u] 9)) (some ⟨w.heap.size, 0, none⟩) 3 3 [s, t, u] := by
  refine ⟨rfl, by omega, by omega, (by intro e; cases e), ?_⟩
  intro ad had i hi
  cases had
  match i, hi with
  | 0, _ => simp [Addr.add]
  | 1, _ => simp [Addr.add]
  | 2, _ => simp [Addr.add]
theorem info9 : (Tryd.prog.info? 9).map (fun i => (i.zero, i.size, i.bytes)) = some (some (.string ByteArray.empty), 1, 16) := by kernel_rfl
/-- Strings, as the cells of a row. -/
def strsV (ts : List (List UInt8)) : List Value := ts.map fun t => .string (strOf t)
theorem strsV_len (ts : List (List UInt8)) : (strsV ts).length = ts.length := by simp [strsV]
theorem Ss.owned {w : World} {base : Nat} {v : Value} {n : Nat} {ts : List (List UInt8)} (h : w.ownsRow base 9 1 v n (strsV ts)) : ∃ a cap, v = .slice a n cap ∧ Ss w a n cap (ts.map strOf) := by
  have hl : ts.length = n := by have := h.1; simpa [strsV] using this
  have hc := fun g hg => h.cells (g := g) hg
  obtain ⟨_, h2⟩ := h
  rcases h2 with ⟨rfl, rfl⟩ | ⟨g', cap', cur, rfl, _, _, h3, h4, _⟩
  · have : ts = [] := List.eq_nil_of_length_eq_zero hl
    subst this
    exact ⟨none, 0, rfl, rfl, by omega, by omega, fun _ => rfl, by intro ad h; cases h⟩
  · refine ⟨_, _, rfl, by simpa using hl, h3, by simpa [maxLen] using h4, (by intro e; cases e), ?_⟩
    intro ad had i hi
    cases had
    exact hc g' rfl i _ (by simp at hi; simp [strsV, hi])
theorem one_str (w : World) (v : Value) (t : TypeId) : ∀ j u, [v][j]? = some u → (w.alloc (.cells #[v] t)).cell? ((⟨w.heap.size, 0, none⟩ : Addr).add j) = some u := by
  intro j u hj
  match j, hj with
  | 0, hj => simp at hj; subst hj; simp [Addr.add]
  | j + 1, hj => simp at hj

theorem get_in (s : ByteArray) (i : Nat) (h : i < s.size) : s.data.toList[i]? = some (s.get! i) := by
  rw [Array.getElem?_toList, Array.getElem?_eq_getElem (show i < s.data.size from h)]
  congr 1
  exact (getElem!_pos s.data i h).symm
theorem get_high (s : ByteArray) (i : Nat) (h : i < s.size) (h2 : 128 ≤ (s.get! i).toNat) : s.data.toList[i]? ≠ some 47 := by
  rw [get_in s i h]
  intro e
  rw [Option.some.injEq] at e
  rw [e] at h2
  exact absurd h2 (by decide)
theorem decode_in (s : ByteArray) (pos : Nat) (h : pos < s.size) (ha : 128 ≤ (s.get! pos).toNat) :
    pos + (Utf8.decode s pos).2 ≤ s.size ∧ ∀ j, pos ≤ j → j < pos + (Utf8.decode s pos).2 → s.data.toList[j]? ≠ some 47 := by
  have hn : ¬ (s.get! (pos + 0)).toNat < 128 := by simpa using ha
  have one : pos + 1 ≤ s.size ∧ ∀ j, pos ≤ j → j < pos + 1 → s.data.toList[j]? ≠ some 47 := by
    refine ⟨h, fun j h1 h2 => ?_⟩
    obtain rfl : j = pos := by omega
    exact get_high s j h ha
  simp only [Utf8.decode, hn, if_false]
  split
  · rename_i h1
    split
    · simp only [Bool.and_eq_true, decide_eq_true_eq, beq_iff_eq] at h1
      refine ⟨by omega, fun j j1 j2 => ?_⟩
      rcases (show j = pos ∨ j = pos + 1 by omega) with rfl | rfl
      · exact get_high s j h ha
      · exact get_high s _ h1.2.1 (by omega)
    · exact one
  · split
    · rename_i h1
      split
      · simp only [Bool.and_eq_true, decide_eq_true_eq, beq_iff_eq] at h1
        refine ⟨by omega, fun j j1 j2 => ?_⟩
        rcases (show j = pos ∨ j = pos + 1 ∨ j = pos + 2 by omega) with rfl | rfl | rfl
        · exact get_high s j h ha
        · exact get_high s _ h1.1.2.1 (by omega)
        · exact get_high s _ h1.2.1 (by omega)
      · exact one
    · split
      · rename_i h1
        split
        · simp only [Bool.and_eq_true, decide_eq_true_eq, beq_iff_eq] at h1
          refine ⟨by omega, fun j j1 j2 => ?_⟩
          rcases (show j = pos ∨ j = pos + 1 ∨ j = pos + 2 ∨ j = pos + 3 by omega) with rfl | rfl | rfl | rfl
          · exact get_high s j h ha
          · exact get_high s _ h1.1.1.2.1 (by omega)
          · exact get_high s _ h1.1.2.1 (by omega)
          · exact get_high s _ h1.2.1 (by omega)
        · exact one
      · exact one
/-- A step of the iterator over a string, in whatever world: a byte below 128, or some bytes of which none is below 128. -/
theorem next_at (w : World) (k : Nat) (s : ByteArray) (pos : Nat) (hk : w.heap[k]? = some (.stringIter s pos)) (h : pos < s.size) :
    ∃ n wd : Nat, (∀ ty, (Instr.next (.pointer (some ⟨k, 0, none⟩)) true ty).run Tryd.prog w = .ok (.tuple #[.bool true, .int .i64 pos, .int .i32 (n : Int)]) (w.iterAt k s (pos + wd))) ∧ n ≤ 2147483647 ∧ 1 ≤ wd ∧ pos + wd ≤ s.size ∧
      ∃ c : UInt8, s.data.toList[pos]? = some c ∧ ((n < 128 ∧ wd = 1 ∧ c.toNat = n) ∨ (128 ≤ n ∧ 128 ≤ c.toNat ∧ ∀ j, pos ≤ j → j < pos + wd → s.data.toList[j]? ≠ some 47)) := by
  have hg := get_in s pos h
  have hgp : s.get! pos = s[pos]'h := getElem!_pos s.data pos h
  by_cases ha : (s[pos]'h).toNat < 128
  · refine ⟨(s[pos]'h).toNat, 1, fun ty => Lib.run_next_ascii_at w k s pos ty hk h ha, by omega, by omega, by omega, s[pos]'h, by rw [hg, hgp], .inl ⟨ha, rfl, rfl⟩⟩
  · have h1 := decode_high s pos h (by omega)
    have h2 := decode_in s pos h (by rw [hgp]; omega)
    exact ⟨(Utf8.decode s pos).1, (Utf8.decode s pos).2, fun ty => Lib.run_next_any_at w k s pos ty hk h, decode_le s pos, h1.2, h2.1, s[pos]'h, by rw [hg, hgp], .inr ⟨h1.1, by omega, h2.2⟩⟩
end Go.Proofs.YtcmdcmbiilfngabDoor.Pt
