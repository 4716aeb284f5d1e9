/- What is packed, unpacked. -/
import Derived.Test.YtekbmdpokghmmaaLR
namespace Go.Proofs.Ytekbmdpokghmmaa
open Go.RowKit Lz
theorem beg_pack (x : List UInt8) (hx : x.length ≤ 65536) : begL (packB x) = some (x.length, (putN x.length).length) := begL_put hx _
theorem beg_cut (x : List UInt8) (hx : x.length ≤ 65536) (c : Nat) {m k : Nat} (h : begL ((packB x).take c) = some (m, k)) : m = x.length := by
  unfold packB packL at h
  by_cases hp : c < (putN x.length).length
  · rw [List.take_append_of_le_length (by omega), begL_cut x.length c (by omega) hp] at h
    cases h
  · rw [List.take_append, List.take_of_length_le (by omega), begL_put hx] at h
    simp only [Option.some.injEq, Prod.mk.injEq] at h
    exact h.1.symm
theorem pack_pos (x : List UInt8) : 1 ≤ (packB x).length := by
  unfold packB packL
  rw [List.length_append]
  have := putN_pos x.length
  omega
/-- What was packed is unpacked again. -/
theorem unpack_pack {w : World} {a : Option Addr} {P c : Nat} {x : List UInt8} (h : Bs w a P c (packB x)) (hx : x.length ≤ 65536) (most : Int) (hm : (x.length : Int) ≤ max most 0) :
    Calls Try.prog 10 #[.slice a P c, .int .i64 most] w fun e w' => ∃ a c, e = .returned (.tuple #[.slice a x.length c, .int .i64 0]) ∧ w'.ownsRow w.heap.size 5 1 (.slice a x.length c) x.length (bytesV x) ∧ Below w.heap.size w w' := by
  obtain ⟨k, hw1, hw2⟩ := pack_whole x hx
  refine (unpack_any h most).mono ?_
  rintro e w' ⟨hb, h⟩
  rcases h with ⟨h, _⟩ | ⟨n, k, h, h2, _⟩ | ⟨n, k, h, _, h3, _⟩ | ⟨n, k, ts, a, c, h, _, h3, rfl, h5⟩
  · rw [hw1] at h; cases h
  · rw [hw1] at h; cases h; omega
  · rw [hw1] at h; cases h; exact absurd hw2 (h3 _)
  · rw [hw1] at h
    cases h
    have := h3.unique hw2
    subst this
    rw [(choose_ok x hx).2.2.1] at h5
    exact ⟨a, c, rfl, h5, hb⟩
theorem unpack_less {w : World} {a : Option Addr} {P c : Nat} {x : List UInt8} (h : Bs w a P c (packB x)) (hx : x.length ≤ 65536) (most : Int) (hm : max most 0 < (x.length : Int)) :
    Calls Try.prog 10 #[.slice a P c, .int .i64 most] w fun e w' => e = .returned (.tuple #[.slice none 0 0, .int .i64 2]) ∧ Below w.heap.size w w' := by
  have hw1 := beg_pack x hx
  refine (unpack_any h most).mono ?_
  rintro e w' ⟨hb, h⟩
  rcases h with ⟨h, _⟩ | ⟨n, k, h, h2, rfl⟩ | ⟨n, k, h, h4, h3, _⟩ | ⟨n, k, ts, a, c, h, h4, h3, rfl, h5⟩
  · rw [hw1] at h; cases h
  · exact ⟨rfl, hb⟩
  · rw [hw1] at h; cases h; omega
  · rw [hw1] at h; cases h; omega
theorem unpack_cut {w : World} {a : Option Addr} {P c cut : Nat} {x : List UInt8} (h : Bs w a P c ((packB x).take cut)) (hx : x.length ≤ 65536) (hc : cut < (packB x).length) :
    Calls Try.prog 10 #[.slice a P c, .int .i64 (x.length : Int)] w fun e w' => e = .returned (.tuple #[.slice none 0 0, .int .i64 4]) ∧ Below w.heap.size w w' := by
  have hno := cut_no hx (choose_ok x hx).1 (choose_ok x hx).2.1 hc
  refine (unpack_any h _).mono ?_
  rintro e w' ⟨hb, h⟩
  rcases h with ⟨h, rfl⟩ | ⟨n, k, h, h2, rfl⟩ | ⟨n, k, h, h4, h3, rfl⟩ | ⟨n, k, ts, a, c, h, h4, h3, rfl, h5⟩
  · exact ⟨rfl, hb⟩
  · have := beg_cut x hx cut h; omega
  · exact ⟨rfl, hb⟩
  · exact absurd ⟨k, h, h3⟩ (hno n ts)
theorem tokens_no {w : World} {a : Option Addr} {P c : Nat} {bs : List UInt8} (h : Bs w a P c bs) (hno : ∀ n ts, ¬ Whole bs n ts) :
    Calls Try.prog 12 #[.slice a P c] w fun e w' => e = .returned (.tuple #[.slice none 0 0, .int .i64 4]) ∧ Below w.heap.size w w' := by
  refine (tokens_any h).mono ?_
  rintro e w' ⟨hb, h⟩
  rcases h with ⟨n, ts, a, c, hw, _⟩ | ⟨_, rfl⟩
  · exact absurd hw (hno n ts)
  · exact ⟨rfl, hb⟩
theorem pack_ok {w : World} {a : Option Addr} {len cap : Nat} {bs : List UInt8} (h : Bs w a len cap bs) (hx : bs.length ≤ 65536) : Calls Try.prog 15 #[.slice a len cap] w fun e w' => ∃ a c, e = .returned (.tuple #[.slice a (packB bs).length c, .int .i64 0]) ∧ w'.ownsRow w.heap.size 5 1 (.slice a (packB bs).length c) (packB bs).length (bytesV (packB bs)) ∧ Below w.heap.size w w' := by
  refine (pack_any h).mono ?_
  rintro e w' ⟨hb, h⟩
  rcases h with ⟨h, _⟩ | ⟨_, a, c, rfl, ho⟩
  · omega
  · exact ⟨a, c, rfl, ho, hb⟩
/-- A row of bytes that is turned. -/
def XR (w : World) (g n : Nat) : Prop := ∃ cur, w.heap[g]? = some (.cells cur 5 (0, 0)) ∧ ∀ j, j < n → ∃ u : Nat, u < 256 ∧ cur[j]? = some (.int .u8 (u : Int))
theorem XR.of_own {w : World} {base g n c : Nat} {bs : List UInt8} (h : w.ownsRow base 5 1 (.slice (some ⟨g, 0, none⟩) n c) n (bytesV bs)) : XR w g n := by
  have hl : bs.length = n := by have := h.1; rwa [bytesV_len, Nat.mul_one] at this
  rcases h.2 with ⟨e, _⟩ | ⟨g', cp, cur, e, _, hr, _, _, _, ht⟩
  · cases e
  · cases e
    refine ⟨cur, hr, fun j hj => ⟨(bs.getD j 0).toNat, UInt8.toNat_lt _, ?_⟩⟩
    have e1 : (cur.toList.take (n * 1))[j]? = (bytesV bs)[j]? := by rw [ht]
    rw [List.getElem?_take, if_pos (by omega), Array.getElem?_toList] at e1
    rw [e1]
    unfold bytesV
    simp [List.getElem?_eq_getElem (show j < bs.length by omega), List.getD_eq_getElem?_getD]
theorem XR.cell {w : World} {g n i : Nat} (h : XR w g n) (hi : i < n) : ∃ u : Nat, u < 256 ∧ w.cell? ⟨g, i, none⟩ = some (.int .u8 (u : Int)) ∧ w.frozen? ⟨g, i, none⟩ = false := by
  obtain ⟨cur, hr, hc⟩ := h
  obtain ⟨u, hu, h1⟩ := hc i hi
  exact ⟨u, hu, by rw [cell_of_row _ _ _ _ _ _ hr]; exact h1, frozen_of_row w g i _ _ hr⟩
theorem XR.set {w : World} {g n i v : Nat} (h : XR w g n) (hv : v < 256) : XR (w.setCell ⟨g, i, none⟩ (.int .u8 (v : Int))) g n := by
  obtain ⟨cur, hr, hc⟩ := h
  refine ⟨_, heap_setCell_same _ _ _ _ _ _ hr, fun j hj => ?_⟩
  obtain ⟨u, hu, h1⟩ := hc j hj
  rw [Array.getElem?_setIfInBounds]
  split
  · next h =>
    subst h
    have : i < cur.size := (Array.getElem?_eq_some_iff.1 h1).1
    rw [if_pos this]
    exact ⟨v, hv, rfl⟩
  · exact ⟨u, hu, h1⟩
theorem XR.keep {w w' : World} {g n : Nat} (h : XR w g n) (e : w'.heap[g]? = w.heap[g]?) : XR w' g n := by
  obtain ⟨cur, hr, hc⟩ := h
  exact ⟨cur, e.trans hr, hc⟩
theorem xor_u8 (u : Nat) (hu : u < 256) : ∃ v : Nat, v < 256 ∧ bits .xor .u8 (u : Int) 255 = (v : Int) := by
  refine ⟨u ^^^ 255, Nat.xor_lt_two_pow (n := 8) hu (by omega), ?_⟩
  have e1 : (BitVec.ofInt 8 (u : Int)).toNat = u := by rw [BitVec.toNat_ofInt]; omega
  have h8 : u ^^^ 255 < 256 := Nat.xor_lt_two_pow (n := 8) hu (by omega)
  show IntKind.u8.wrap ((BitVec.ofInt 8 (u : Int) ^^^ BitVec.ofInt 8 255).toNat : Int) = _
  rw [BitVec.toNat_xor, e1, show (BitVec.ofInt 8 255).toNat = 255 from rfl, IntKind.wrap_u8']
  omega
end Go.Proofs.Ytekbmdpokghmmaa
