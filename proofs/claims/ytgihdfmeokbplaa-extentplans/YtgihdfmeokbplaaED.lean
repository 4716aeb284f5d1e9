/- What the reader reads: the holes. -/
import Derived.Test.YtgihdfmeokbplaaXU
namespace Go.Proofs.Ytgihdfmeokbplaa
open Ex
def rdL (bs : List UInt8) (z : Nat) : Nat → Nat → Int → Int → Nat → List Sp → Option (List Sp) × Int × Nat
  | 0, _, _, p, e, acc => (some acc, p, e)
  | k + 1, i, bh, p, e, acc =>
    if (0 < i ∧ (rdN bs p e).1 = 0) ∨ Ar.has ⟨z, [], 0⟩ (bh + ((rdN bs p e).1 : Int), ((rdN bs (rdN bs p e).2.1 (rdN bs p e).2.2).1 : Int)) = false then (none, (rdN bs (rdN bs p e).2.1 (rdN bs p e).2.2).2)
    else rdL bs z k (i + 1) (bh + ((rdN bs p e).1 : Int) + ((rdN bs (rdN bs p e).2.1 (rdN bs p e).2.2).1 : Int)) (rdN bs (rdN bs p e).2.1 (rdN bs p e).2.2).2.1 (rdN bs (rdN bs p e).2.1 (rdN bs p e).2.2).2.2 (acc ++ [(bh + ((rdN bs p e).1 : Int), ((rdN bs (rdN bs p e).2.1 (rdN bs p e).2.2).1 : Int))])
theorem rdL_step {bs : List UInt8} {z k i : Nat} {bh p : Int} {e : Nat} {acc : List Sp} {d s e1 e2 : Nat} {p1 p2 : Int} (h1 : rdN bs p e = (d, p1, e1)) (h2 : rdN bs p1 e1 = (s, p2, e2)) :
    rdL bs z (k + 1) i bh p e acc = if (0 < i ∧ d = 0) ∨ Ar.has ⟨z, [], 0⟩ (bh + (d : Int), (s : Int)) = false then (none, p2, e2) else rdL bs z k (i + 1) (bh + (d : Int) + (s : Int)) p2 e2 (acc ++ [(bh + (d : Int), (s : Int))]) := by
  rw [rdL, h1]
  simp only
  rw [h2]
/-- What stands of an area so far. -/
structure RdOk (z : Nat) (i : Nat) (bh : Int) (acc : List Sp) : Prop where
  g : Gd 0 z acc
  len : acc.length = i
  b0 : 0 ≤ bh
  b1 : bh ≤ z
  e0 : i = 0 → bh = 0
  e1 : 0 < i → beh 0 acc = bh + 1
theorem RdOk.start (z : Nat) : RdOk z 0 0 [] := ⟨trivial, rfl, by omega, by omega, fun _ => rfl, fun h => absurd h (by omega)⟩
theorem RdOk.step {z i : Nat} {bh : Int} {acc : List Sp} (h : RdOk z i bh acc) {d s : Nat} (hd : ¬ (0 < i ∧ d = 0)) (hs : Ar.has ⟨z, [], 0⟩ (bh + (d : Int), (s : Int)) = true) : RdOk z (i + 1) (bh + (d : Int) + (s : Int)) (acc ++ [(bh + (d : Int), (s : Int))]) := by
  rw [Ar.has_iff] at hs
  obtain ⟨h1, h2, h3⟩ := hs
  simp only at h1 h2 h3
  have hb : beh 0 acc ≤ bh + (d : Int) := by
    by_cases hi : i = 0
    · have := h.len
      rw [hi] at this
      rw [List.length_eq_zero_iff.1 this]
      show (0 : Int) ≤ _; omega
    · rw [h.e1 (by omega)]; omega
  refine ⟨?_, by simp [h.len], by omega, by omega, fun e => absurd e (by omega), fun _ => ?_⟩
  · rw [Gd_app]
    exact ⟨h.g, hb, h2, by unfold en; simp only; omega, trivial⟩
  · rw [beh_app]; rfl
theorem RdOk.ok {z i : Nat} {bh : Int} {acc : List Sp} (h : RdOk z i bh acc) (h1 : 1 ≤ z) (h2 : z ≤ 1048576) : Ar.Ok ⟨z, acc, 0⟩ := ⟨h1, h2, h.g, by simp, by simp⟩
/-- What is read of an area: its size and its holes, where its numbers may be; and what the reader is then. -/
def rdA (bs : List UInt8) : Option (Nat × List Sp) × Int × Nat :=
  if 1 ≤ (rdN bs 0 0).1 ∧ (rdN bs 0 0).1 ≤ 1048576 then
    match rdL bs (rdN bs 0 0).1 (rdN bs (rdN bs 0 0).2.1 (rdN bs 0 0).2.2).1 0 0 (rdN bs (rdN bs 0 0).2.1 (rdN bs 0 0).2.2).2.1 (rdN bs (rdN bs 0 0).2.1 (rdN bs 0 0).2.2).2.2 [] with
    | (some hs, q) => (some ((rdN bs 0 0).1, hs), q)
    | (none, q) => (none, q)
  else (none, (rdN bs 0 0).2)
theorem rdA_bad {bs : List UInt8} {z : Nat} {p : Int} {e : Nat} (h : rdN bs 0 0 = (z, p, e)) (hz : ¬ (1 ≤ z ∧ z ≤ 1048576)) : rdA bs = (none, p, e) := by
  unfold rdA; rw [h]; exact if_neg hz
theorem rdA_some {bs : List UInt8} {z N : Nat} {p p1 q : Int} {e e1 c : Nat} {hs : List Sp} (h : rdN bs 0 0 = (z, p, e)) (hz : 1 ≤ z ∧ z ≤ 1048576) (h1 : rdN bs p e = (N, p1, e1)) (h2 : rdL bs z N 0 0 p1 e1 [] = (some hs, q, c)) : rdA bs = (some (z, hs), q, c) := by
  unfold rdA; rw [h]; simp only; rw [if_pos hz, h1]; simp only; rw [h2]
theorem rdA_none {bs : List UInt8} {z N : Nat} {p p1 q : Int} {e e1 c : Nat} (h : rdN bs 0 0 = (z, p, e)) (hz : 1 ≤ z ∧ z ≤ 1048576) (h1 : rdN bs p e = (N, p1, e1)) (h2 : rdL bs z N 0 0 p1 e1 [] = (none, q, c)) : rdA bs = (none, q, c) := by
  unfold rdA; rw [h]; simp only; rw [if_pos hz, h1]; simp only; rw [h2]
end Go.Proofs.Ytgihdfmeokbplaa
