/- What the statements' changes makes. -/
import Derived.Test.YtnafalkcgghjgaaGreatDoorJD
namespace Go.Proofs.YtnafalkcgghjgaaGreatDoor
open Go.RowKit Go.Shelf
def chiV (l : List Chi) : List Value := l.flatMap fun c => [.int .i64 c.1, .string c.2]
theorem chiV_snoc (l : List Chi) (c : Chi) : chiV (l ++ [c]) = chiV l ++ [.int .i64 c.1, .string c.2] := by simp [chiV]
theorem chiV_at (l : List Chi) (i : Nat) (q : Chi) (h : l[i]? = some q) : (chiV l)[2 * i]? = some (.int .i64 q.1) ∧ (chiV l)[2 * i + 1]? = some (.string q.2) := by
  induction l generalizing i with
  | nil => simp at h
  | cons p l ih =>
    cases i with
    | zero =>
      simp only [List.getElem?_cons_zero, Option.some.injEq] at h
      subst h
      exact ⟨rfl, rfl⟩
    | succ i =>
      simp only [List.getElem?_cons_succ] at h
      have := ih i h
      have e : chiV (p :: l) = .int .i64 p.1 :: .string p.2 :: chiV l := rfl
      rw [e, show 2 * (i + 1) = 2 * i + 1 + 1 by omega, show 2 * i + 1 + 1 + 1 = (2 * i + 1) + 1 + 1 by omega]
      simpa using this
theorem chiV_one (l : List Chi) : ∀ u ∈ chiV l, u.oneCell' = true := by
  intro u hu
  simp only [chiV, List.mem_flatMap, List.mem_cons, List.not_mem_nil, or_false] at hu
  obtain ⟨x, _, rfl | rfl⟩ := hu <;> rfl
theorem chiV_len (l : List Chi) : (chiV l).length = l.length * 2 := by
  induction l with
  | nil => rfl
  | cons p l ih =>
    show (.int .i64 p.1 :: .string p.2 :: chiV l : List Value).length = _
    rw [List.length_cons, List.length_cons, ih, List.length_cons]
    omega
theorem Ci.own {w : World} {base e : Nat} {a : Option Addr} {len cap : Nat} {l : List Chi} (h : w.ownsRow base e 2 (.slice a len cap) len (chiV l)) (hl : l.length = len) : Ci w a len cap l := by
  rcases h.2 with ⟨h2, h3⟩ | ⟨g', cap', cur, e, hb, hr, h3, h4, h5, h6⟩
  · cases h2
    exact ⟨hl, Nat.le_refl _, by omega, by omega⟩
  · cases e
    refine ⟨hl, h3, by unfold maxLen at h4; omega, fun h0 => ⟨g', 0, rfl, lt_of_some hr, fun i hi => ?_⟩⟩
    obtain ⟨e1, e2⟩ := chiV_at l i l[i] (List.getElem?_eq_getElem hi)
    have c1 := own_at h e1
    have c2 := own_at h e2
    rw [show 0 + i * 2 = 2 * i by omega]
    exact ⟨c1, c2⟩
theorem own_ne {W : World} {b1 e1 s1 n1 b2 e2 s2 n2 : Nat} {v1 v2 : Value} {x1 x2 : List Value} (h1 : W.ownsRow b1 e1 s1 v1 n1 x1) (h2 : W.ownsRow b2 e2 s2 v2 n2 x2) (hne : e1 ≠ e2) : ∀ x, v2.ownBlock = some x → some x ≠ v1.ownBlock := by
  intro x hx e
  rcases h1.2 with ⟨rfl, _⟩ | ⟨g1, _, _, rfl, _, hr1, _⟩
  · cases e
  · rcases h2.2 with ⟨rfl, _⟩ | ⟨g2, _, _, rfl, _, hr2, _⟩
    · cases hx
    · cases hx
      cases e
      rw [hr1] at hr2
      cases hr2
      exact hne rfl
end Go.Proofs.YtnafalkcgghjgaaGreatDoor
