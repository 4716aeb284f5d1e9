/- Strings, slices of strings, and the iterator over a string. -/
import Derived.Test.YtdcjnoknnfcogaaProg
import Derived.Test.YtdcjnoknnfcogaaM
import Derived.WalkKit
import Derived.WalkSpells
import Derived.WalkLawsBesides
import Derived.WalkSmall
import Derived.OpenShut
import Derived.ProofKit
import Derived.Laws.RangeAny
import Derived.Laws.AppendOwn
import Derived.Deep.RegionHeld
import Derived.Below
namespace Go.Proofs.Ytdcjnoknnfcogaa
open Go.RowKit
theorem ret_int {k : IntKind} {a b : Int} (h : a = b) : Ending.returned (.int k a) = .returned (.int k b) := by rw [h]
theorem ret_bool {a b : Bool} (h : a = b) : Ending.returned (.bool a) = .returned (.bool b) := by rw [h]
theorem ret_val {a b : Value} (h : a = b) : Ending.returned a = .returned b := by rw [h]
def strOf (bs : List UInt8) : ByteArray := ⟨bs.toArray⟩
theorem strOf_append (a b : List UInt8) : strOf (a ++ b) = strOf a ++ strOf b := by
  apply ByteArray.ext; simp [strOf]
theorem strOf_size (a : List UInt8) : (strOf a).size = a.length := by simp [strOf, ByteArray.size]
theorem strOf_list (a : List UInt8) : (strOf a).data.toList = a := rfl
theorem strOf_of (b : ByteArray) : strOf b.data.toList = b := rfl
theorem len_size (s : ByteArray) : s.data.toList.length = s.size := by rw [Array.length_toList]; rfl
theorem str_ne {a b : ByteArray} (h : ¬ a = b) : ¬ a.toList = b.toList := fun e => h (by
  rw [ByteArray.toList_eq a, ByteArray.toList_eq b] at e
  exact ByteArray.ext (Array.toList_inj.1 e))
theorem str_nb {a b : ByteArray} (h : ¬ a = b) : (a.toList == b.toList) = false := by
  have := str_ne h
  simpa using this
theorem toList_ne {s : ByteArray} {l : List UInt8} (h : s.data.toList ≠ l) : ¬ s.toList = l := by rw [ByteArray.toList_eq]; exact h
theorem toList_nb {s : ByteArray} {l : List UInt8} (h : s.data.toList ≠ l) : (s.toList == l) = false := by
  have := toList_ne h
  simpa using this
theorem toList_nil {s : ByteArray} (h : s.data.toList ≠ []) : s.toList.isEmpty = false := by
  have := toList_ne h
  cases e : s.toList with
  | nil => exact absurd e this
  | cons => rfl
theorem str_inj {a b : ByteArray} : a.data.toList = b.data.toList ↔ a = b := by
  constructor
  · intro e; exact ByteArray.ext (Array.toList_inj.1 e)
  · rintro rfl; rfl
theorem strOf_inj {a b : List UInt8} : strOf a = strOf b ↔ a = b := by
  rw [← str_inj]; exact Iff.rfl
/-- What a walk is told of a slice of strings: its strings, by the cells from its address on. -/
def Ss (w : World) (a : Option Addr) (len cap : Nat) (ss : List ByteArray) : Prop :=
  ss.length = len ∧ len ≤ cap ∧ cap ≤ 9223372036854775807 ∧ (a = none → cap = 0) ∧ ∀ ad, a = some ad → ∀ i (h : i < ss.length), w.cell? (ad.add i) = some (.string ss[i])
theorem Ss.at {w : World} {a : Option Addr} {len cap : Nat} {ss : List ByteArray} (h : Ss w a len cap ss) (h0 : 0 < len) :
    ∃ b off, a = some ⟨b, off, none⟩ ∧ ∀ i (h : i < ss.length), w.cell? ⟨b, off + i, none⟩ = some (.string ss[i]) := by
  obtain ⟨h1, h2, h3, h4, h5⟩ := h
  cases a with
  | none => have := h4 rfl; omega
  | some ad =>
    obtain ⟨b, off, spot⟩ := ad
    have hc := h5 _ rfl 0 (by omega)
    have hspot : spot = none := by simpa [Addr.add] using World.cell?_spot hc
    subst hspot
    refine ⟨b, off, rfl, fun i hi => ?_⟩
    have := h5 _ rfl i hi
    rwa [Addr.add_lit] at this
theorem Ss.on {w w' : World} {a : Option Addr} {len cap : Nat} {ss : List ByteArray} (h : Ss w a len cap ss) (hb : Below w.heap.size w w') : Ss w' a len cap ss := by
  refine ⟨h.1, h.2.1, h.2.2.1, h.2.2.2.1, fun ad had i hi => ?_⟩
  have := h.2.2.2.2 ad had i hi
  rw [hb.cell (World.block_lt_of_cell? w _ this)]
  exact this
theorem Ss.laid {w : World} {a : Option Addr} {len cap : Nat} {ss : List ByteArray} (h : Ss w a len cap ss) (o : Obj) : Ss (w.alloc o) a len cap ss := h.on ((Below.refl _ _).alloc (Nat.le_refl _) o)
theorem Ss.nil (w : World) : Ss w none 0 0 [] := ⟨rfl, by omega, by omega, fun _ => rfl, by intro ad h; cases h⟩
theorem Ss.one (w : World) (s : ByteArray) : Ss (w.alloc (.cells #[.string s] 9)) (some ⟨w.heap.size, 0, none⟩) 1 1 [s] := by
  refine ⟨rfl, by omega, by omega, (by intro e; cases e), ?_⟩
  intro ad had i hi
  cases had
  match i, hi with
  | 0, _ => simp [Addr.add]
theorem Ss.two (w : World) (s t : ByteArray) : Ss (w.alloc (.cells #[.string s, .string t] 9)) (some ⟨w.heap.size, 0, none⟩) 2 2 [s, t] := by
  refine ⟨rfl, by omega, by omega, (by intro e; cases e), ?_⟩
  intro ad had i hi
  cases had
  match i, hi with
  | 0, _ => simp [Addr.add]
  | 1, _ => simp [Addr.add]
theorem Ss.three (w : World) (s t u : ByteArray) : Ss (w.alloc (.cells #[.string s, .string t, .string u] 9)) (some ⟨w.heap.size, 0, none⟩) 3 3 [s, t, u] := by
  refine ⟨rfl, by omega, by omega, (by intro e; cases e), ?_⟩
  intro ad had i hi
  cases had
  match i, hi with
  | 0, _ => simp [Addr.add]
  | 1, _ => simp [Addr.add]
  | 2, _ => simp [Addr.add]
theorem info9 : (Try.prog.info? 9).map (fun i => (i.zero, i.size, i.bytes)) = some (some (.string ByteArray.empty), 1, 16) := by kernel_rfl
/-- Strings, as the cells of a row. -/
def strsV (ts : List (List UInt8)) : List Value := ts.map fun t => .string (strOf t)
theorem strsV_len (ts : List (List UInt8)) : (strsV ts).length = ts.length := by simp [strsV]
theorem Ss.owned {w : World} {base : Nat} {v : Value} {n : Nat} {ts : List (List UInt8)} (h : w.ownsRow base 9 1 v n (strsV ts)) : ∃ a cap, v = .slice a n cap ∧ Ss w a n cap (ts.map strOf) := by
  have hl : ts.length = n := by have := h.1; simpa [strsV] using this
  have hc := fun g hg => h.cells (g := g) hg
  obtain ⟨_, h2⟩ := h
  rcases h2 with ⟨rfl, rfl⟩ | ⟨g', cap', cur, rfl, _, _, h3, h4, _⟩
  · have : ts = [] := List.eq_nil_of_length_eq_zero hl
    subst this
    exact ⟨none, 0, rfl, rfl, by omega, by omega, fun _ => rfl, by intro ad h; cases h⟩
  · refine ⟨_, _, rfl, by simpa using hl, h3, by simpa [maxLen] using h4, (by intro e; cases e), ?_⟩
    intro ad had i hi
    cases had
    exact hc g' rfl i _ (by simp at hi; simp [strsV, hi])
theorem one_str (w : World) (v : Value) (t : TypeId) : ∀ j u, [v][j]? = some u → (w.alloc (.cells #[v] t)).cell? ((⟨w.heap.size, 0, none⟩ : Addr).add j) = some u := by
  intro j u hj
  match j, hj with
  | 0, hj => simp at hj; subst hj; simp [Addr.add]
  | j + 1, hj => simp at hj

theorem get_in (s : ByteArray) (i : Nat) (h : i < s.size) : s.data.toList[i]? = some (s.get! i) := by
  rw [Array.getElem?_toList, Array.getElem?_eq_getElem (show i < s.data.size from h)]
  congr 1
  exact (getElem!_pos s.data i h).symm
theorem get_high (s : ByteArray) (i : Nat) (h : i < s.size) (h2 : 128 ≤ (s.get! i).toNat) : s.data.toList[i]? ≠ some 47 := by
  rw [get_in s i h]
  intro e
  rw [Option.some.injEq] at e
  rw [e] at h2
  exact absurd h2 (by decide)
theorem decode_in (s : ByteArray) (pos : Nat) (h : pos < s.size) (ha : 128 ≤ (s.get! pos).toNat) :
    pos + (Utf8.decode s pos).2 ≤ s.size ∧ ∀ j, pos ≤ j → j < pos + (Utf8.decode s pos).2 → s.data.toList[j]? ≠ some 47 := by
  have hn : ¬ (s.get! (pos + 0)).toNat < 128 := by simpa using ha
  have one : pos + 1 ≤ s.size ∧ ∀ j, pos ≤ j → j < pos + 1 → s.data.toList[j]? ≠ some 47 := by
    refine ⟨h, fun j h1 h2 => ?_⟩
    obtain rfl : j = pos := by omega
    exact get_high s j h ha
  simp only [Utf8.decode, hn, if_false]
  split
  · rename_i h1
    split
    · simp only [Bool.and_eq_true, decide_eq_true_eq, beq_iff_eq] at h1
      refine ⟨by omega, fun j j1 j2 => ?_⟩
      rcases (show j = pos ∨ j = pos + 1 by omega) with rfl | rfl
      · exact get_high s j h ha
      · exact get_high s _ h1.2.1 (by omega)
    · exact one
  · split
    · rename_i h1
      split
      · simp only [Bool.and_eq_true, decide_eq_true_eq, beq_iff_eq] at h1
        refine ⟨by omega, fun j j1 j2 => ?_⟩
        rcases (show j = pos ∨ j = pos + 1 ∨ j = pos + 2 by omega) with rfl | rfl | rfl
        · exact get_high s j h ha
        · exact get_high s _ h1.1.2.1 (by omega)
        · exact get_high s _ h1.2.1 (by omega)
      · exact one
    · split
      · rename_i h1
        split
        · simp only [Bool.and_eq_true, decide_eq_true_eq, beq_iff_eq] at h1
          refine ⟨by omega, fun j j1 j2 => ?_⟩
          rcases (show j = pos ∨ j = pos + 1 ∨ j = pos + 2 ∨ j = pos + 3 by omega) with rfl | rfl | rfl | rfl
          · exact get_high s j h ha
          · exact get_high s _ h1.1.1.2.1 (by omega)
          · exact get_high s _ h1.1.2.1 (by omega)
          · exact get_high s _ h1.2.1 (by omega)
        · exact one
      · exact one
/-- A step of the iterator over a string, in whatever world: a byte below 128, or some bytes of which none is below 128. -/
theorem next_at (w : World) (k : Nat) (s : ByteArray) (pos : Nat) (hk : w.heap[k]? = some (.stringIter s pos)) (h : pos < s.size) :
    ∃ n wd : Nat, (∀ ty, (Instr.next (.pointer (some ⟨k, 0, none⟩)) true ty).run Try.prog w = .ok (.tuple #[.bool true, .int .i64 pos, .int .i32 (n : Int)]) (w.iterAt k s (pos + wd))) ∧ n ≤ 2147483647 ∧ 1 ≤ wd ∧ pos + wd ≤ s.size ∧
      ∃ c : UInt8, s.data.toList[pos]? = some c ∧ ((n < 128 ∧ wd = 1 ∧ c.toNat = n) ∨ (128 ≤ n ∧ 128 ≤ c.toNat ∧ ∀ j, pos ≤ j → j < pos + wd → s.data.toList[j]? ≠ some 47)) := by
  have hg := get_in s pos h
  have hgp : s.get! pos = s[pos]'h := getElem!_pos s.data pos h
  by_cases ha : (s[pos]'h).toNat < 128
  · refine ⟨(s[pos]'h).toNat, 1, fun ty => Lib.run_next_ascii_at w k s pos ty hk h ha, by omega, by omega, by omega, s[pos]'h, by rw [hg, hgp], .inl ⟨ha, rfl, rfl⟩⟩
  · have h1 := decode_high s pos h (by omega)
    have h2 := decode_in s pos h (by rw [hgp]; omega)
    exact ⟨(Utf8.decode s pos).1, (Utf8.decode s pos).2, fun ty => Lib.run_next_any_at w k s pos ty hk h, decode_le s pos, h1.2, h2.1, s[pos]'h, by rw [hg, hgp], .inr ⟨h1.1, by omega, h2.2⟩⟩
end Go.Proofs.Ytdcjnoknnfcogaa
