/- What a reading says of the bytes; slices of slices of bytes. -/
import Derived.Test.YtbomopjngpnghabS
import Derived.Laws.Slices
namespace Go.Proofs.Ytbomopjngpnghab
open Go.RowKit

theorem size5 (w : World) : (Go.sizeOf 5).run Try.prog w = .ok 1 w := by
  obtain ⟨i0, hi, hz0, hz1, hz2⟩ := info_parts info5
  simp [Go.sizeOf, typeInfo, hi, hz1]

theorem Bs.sub {w : World} {b off len cap : Nat} {bs : List UInt8} (h : Bs w (some ⟨b, off, none⟩) len cap bs) (l r : Nat) (h1 : l ≤ r) (h2 : r ≤ len) :
    Bs w (some ⟨b, off + l, none⟩) (r - l) (cap - l) ((bs.drop l).take (r - l)) := by
  obtain ⟨e1, e2, e3, e4, e5⟩ := h
  refine ⟨by simp; omega, by omega, by omega, (by intro e; cases e), ?_⟩
  intro ad had i hi
  cases had
  simp only [List.length_take, List.length_drop] at hi
  have := e5 _ rfl (l + i) (by omega)
  rw [Addr.add_lit] at this ⊢
  rw [Nat.add_assoc, this]
  simp

/-- What a reading that went well says of the bytes. -/
theorem getAt_ok {bs : List UInt8} {p : Int} {n : Nat} {q : Int} (h : getAt bs p = (n, q, 0)) :
    ∃ P Q : Nat, p = P ∧ q = Q ∧ P < Q ∧ Q ≤ bs.length ∧ (bs.drop P).take (Q - P) = putN n ∧ n < 18446744073709551616 := by
  unfold getAt at h
  split at h
  · simp at h
  · rename_i hb
    simp only [Prod.mk.injEq] at h
    obtain ⟨h1, h2, h3⟩ := h
    rw [if_pos h3] at h2
    obtain ⟨m, e1, e2, e3, e4, _, e6⟩ := getL_least (bs.drop p.toNat) 0 0 (getL (bs.drop p.toNat) 0 0).1 (getL (bs.drop p.toNat) 0 0).2.1 (Prod.ext rfl (Prod.ext rfl h3)) (by omega)
    simp only [Nat.pow_zero, Nat.mul_one, Nat.zero_add, Nat.sub_zero] at e1 e2 e3 e4 e6
    have em : m = n := by omega
    subst em
    have hp := putN_pos m
    have hl := List.length_drop (i := p.toNat) (l := bs)
    refine ⟨p.toNat, p.toNat + (putN m).length, by omega, by omega, by omega, by omega, ?_, e6⟩
    rw [show p.toNat + (putN m).length - p.toNat = (putN m).length by omega, e3, e2]
    simp

/-- One that went not well. -/
theorem getL_no : ∀ (l : List UInt8) (i acc : Nat), (getL l i acc).2.2 ≠ 0 → (getL l i acc).1 = 0 ∧ (getL l i acc).2.1 = 0
  | [], i, acc, _ => by unfold getL; split <;> exact ⟨rfl, rfl⟩
  | c :: t, i, acc, h => by
    unfold getL at h ⊢
    split
    · exact ⟨rfl, rfl⟩
    · rename_i h1
      rw [if_neg h1] at h
      split
      · rename_i h2
        rw [if_pos h2] at h
        exact getL_no t _ _ h
      · rename_i h2
        rw [if_neg h2] at h
        split
        · exact ⟨rfl, rfl⟩
        · rename_i h3
          rw [if_neg h3] at h
          exact absurd rfl h
theorem getAt_no {bs : List UInt8} {p : Int} {n : Nat} {q : Int} {er : Nat} (h : getAt bs p = (n, q, er)) (he : er ≠ 0) : n = 0 ∧ q = 0 := by
  unfold getAt at h
  split at h
  · simp only [Prod.mk.injEq] at h
    omega
  · simp only [Prod.mk.injEq] at h
    obtain ⟨h1, h2, h3⟩ := h
    have := getL_no _ _ _ (by rw [h3]; exact he)
    rw [if_neg (by rw [h3]; exact he)] at h2
    exact ⟨by omega, h2.symm⟩

end Go.Proofs.Ytbomopjngpnghab
