/- A walk over a Journal's check. -/
import Derived.Test.YtnafalkcgghjgaaDoorJV
import Derived.Test.YtnafalkcgghjgaaDoorKF
import Derived.Laws.BitsAllLaws
import Derived.Laws.ShiftsVarLaws
namespace Go.Proofs.YtnafalkcgghjgaaDoor
open Go.RowKit Go.Shelf
/-- A change as it comes: its page is any number. -/
abbrev Chi := Int × ByteArray
def Ci (w : World) (a : Option Addr) (len cap : Nat) (l : List Chi) : Prop :=
  l.length = len ∧ len ≤ cap ∧ cap ≤ 9223372036854775807 ∧ (0 < len → ∃ b o, a = some ⟨b, o, none⟩ ∧ b < w.heap.size ∧ ∀ i (h : i < l.length), w.cell? ⟨b, o + i * 2, none⟩ = some (.int .i64 l[i].1) ∧ w.cell? ⟨b, o + i * 2 + 1, none⟩ = some (.string l[i].2))
theorem Ci.keep {w w' : World} {a : Option Addr} {len cap : Nat} {l : List Chi} (h : Ci w a len cap l) (hsz : w.heap.size ≤ w'.heap.size) (hk : ∀ x, ob a = some x → x < w.heap.size → w'.heap[x]? = w.heap[x]?) : Ci w' a len cap l := by
  obtain ⟨h1, h2, h3, h4⟩ := h
  refine ⟨h1, h2, h3, fun h0 => ?_⟩
  obtain ⟨b, o, rfl, hb, hc⟩ := h4 h0
  refine ⟨b, o, rfl, by omega, fun i hi => ?_⟩
  have e := hk b rfl hb
  have k : ∀ z, w'.cell? ⟨b, z, none⟩ = w.cell? ⟨b, z, none⟩ := fun z => World.cell?_of_block (w := w) e
  rw [k, k]
  exact hc i hi
theorem Ci.below {w w' : World} {a : Option Addr} {len cap : Nat} {l : List Chi} (h : Ci w a len cap l) (hb : Below w.heap.size w w') : Ci w' a len cap l := h.keep hb.size fun x _ hx => hb.block x hx
def natC (c : Chi) : Chg := (c.1.toNat, c.2)
theorem Ci.cs {w : World} {a : Option Addr} {len cap : Nat} {l : List Chi} (h : Ci w a len cap l) (hp : ∀ c ∈ l, 0 ≤ c.1) : Cs w a len cap (l.map natC) := by
  obtain ⟨h1, h2, h3, h4⟩ := h
  refine ⟨by simpa using h1, h2, h3, fun h0 => ?_⟩
  obtain ⟨b, o, rfl, hb, hc⟩ := h4 h0
  refine ⟨b, o, rfl, hb, fun i hi => ?_⟩
  have hi' : i < l.length := by simpa using hi
  obtain ⟨c1, c2⟩ := hc i hi'
  have := hp l[i] (List.getElem_mem hi')
  rw [List.getElem_map]
  refine ⟨?_, c2⟩
  rw [c1]
  show _ = some (Value.int .i64 ((l[i].1.toNat : Nat) : Int))
  rw [Int.toNat_of_nonneg this]
/-- Why changes may not be, or 0. -/
def chk (n : Nat) (l : List Chi) : Nat := if (∀ c ∈ l, 0 ≤ c.1 ∧ c.1 < (n : Int)) then (if (l.map Prod.fst).Nodup then (if (∀ c ∈ l, c.2.size = 1024) then 0 else 1) else 7) else 9
def pagesL (l : List Chi) : List Nat := l.map fun c => c.1.toNat
def chkS (n : Nat) (l : List Chi) : ByteArray := if chk n l = 0 then markOf (pagesL l) else ⟨#[]⟩
theorem chk_range {n : Nat} {l : List Chi} {c : Chi} (hc : c ∈ l) (h : ¬ (0 ≤ c.1 ∧ c.1 < (n : Int))) : chk n l = 9 := by
  unfold chk
  rw [if_neg (fun e => h (e c hc))]
theorem chk_twice {n : Nat} {l : List Chi} (h1 : ∀ c ∈ l, 0 ≤ c.1 ∧ c.1 < (n : Int)) (h : ¬ (l.map Prod.fst).Nodup) : chk n l = 7 := by
  unfold chk
  rw [if_pos h1, if_neg h]
theorem chk_size {n : Nat} {l : List Chi} (h1 : ∀ c ∈ l, 0 ≤ c.1 ∧ c.1 < (n : Int)) (h2 : (l.map Prod.fst).Nodup) {c : Chi} (hc : c ∈ l) (h : ¬ c.2.size = 1024) : chk n l = 1 := by
  unfold chk
  rw [if_pos h1, if_pos h2, if_neg (fun e => h (e c hc))]
theorem chk_ok {n : Nat} {l : List Chi} (h1 : ∀ c ∈ l, 0 ≤ c.1 ∧ c.1 < (n : Int)) (h2 : (l.map Prod.fst).Nodup) (h3 : ∀ c ∈ l, c.2.size = 1024) : chk n l = 0 := by
  unfold chk
  rw [if_pos h1, if_pos h2, if_pos h3]
theorem chk_zero {n : Nat} {l : List Chi} (h : chk n l = 0) : (∀ c ∈ l, 0 ≤ c.1 ∧ c.1 < (n : Int)) ∧ (l.map Prod.fst).Nodup ∧ ∀ c ∈ l, c.2.size = 1024 := by
  unfold chk at h
  split at h
  · split at h
    · split at h
      · exact ⟨by assumption, by assumption, by assumption⟩
      · omega
    · omega
  · omega
theorem chkS_bad {n : Nat} {l : List Chi} {k : Nat} (h : chk n l = k) (hk : ¬ k = 0) : chkS n l = ⟨#[]⟩ := by
  unfold chkS
  rw [if_neg (by rw [h]; exact hk)]
theorem take_all {α : Type} {P : α → Prop} {l : List α} {i : Nat} (hi : i < l.length) (h : ∀ c ∈ l.take i, P c) (hc : P l[i]) : ∀ c ∈ l.take (i + 1), P c := by
  intro c hm
  rw [List.take_succ_eq_append_getElem hi, List.mem_append, List.mem_singleton] at hm
  rcases hm with hm | rfl
  · exact h c hm
  · exact hc
/-- The cells of a row of bytes. -/
def u8s (L : List UInt8) : Array Value := (L.map fun u => Value.int .u8 (u.toNat : Int)).toArray
theorem u8s_get (L : List UInt8) (i : Nat) (h : i < L.length) : (u8s L)[i]? = some (.int .u8 ((L.getD i 0).toNat : Int)) := by
  simp [u8s, List.getD, h]
theorem u8s_set (L : List UInt8) (i : Nat) (u : UInt8) : (u8s L).setIfInBounds i (.int .u8 (u.toNat : Int)) = u8s (L.set i u) := by
  simp [u8s, List.map_set]
theorem u8s_made (n : Nat) : madeCells #[Value.int .u8 0] n = u8s (List.replicate n 0) := by
  apply Array.ext
  · simp [madeCells, u8s]
  · intro i h1 h2
    simp [madeCells, u8s, Nat.mod_one]
theorem markB_nat (L : List UInt8) (p y z : Nat) (hy : (L.getD (p / 8) 0).toNat = y) (hz : y ||| 2 ^ (p % 8) = z) : markB L p = L.set (p / 8) (UInt8.ofNat z) ∧ (UInt8.ofNat z).toNat = z := by
  have h8 : 2 ^ (p % 8) < 2 ^ 8 := Nat.pow_lt_pow_right (by omega) (Nat.mod_lt _ (by omega))
  have hy8 : y < 2 ^ 8 := by rw [← hy]; exact UInt8.toNat_lt _
  have hz8 : z < 2 ^ 8 := by rw [← hz]; exact Nat.or_lt_two_pow hy8 h8
  have e : (UInt8.ofNat z).toNat = z := by rw [UInt8.toNat_ofNat']; exact Nat.mod_eq_of_lt hz8
  refine ⟨?_, e⟩
  unfold markB
  congr 1
  apply UInt8.toNat_inj.1
  rw [e, UInt8.toNat_or, hy, unit_nat _ (Nat.mod_lt _ (by omega)), hz]
theorem and_bit (y r : Nat) : (y &&& 2 ^ r = 0) ↔ y.testBit r = false := by
  constructor
  · intro h
    have e : (y &&& 2 ^ r).testBit r = false := by rw [h]; exact Nat.zero_testBit r
    rw [Nat.testBit_and, Nat.testBit_two_pow_self, Bool.and_true] at e
    exact e
  · intro h
    apply Nat.eq_of_testBit_eq
    intro i
    rw [Nat.testBit_and, Nat.testBit_two_pow, Nat.zero_testBit]
    by_cases e : r = i
    · rw [← e, h]; rfl
    · simp [e]
end Go.Proofs.YtnafalkcgghjgaaDoor
