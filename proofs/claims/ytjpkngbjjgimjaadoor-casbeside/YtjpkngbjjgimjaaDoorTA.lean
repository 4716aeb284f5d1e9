/- The document's table: Same, Find, Get, Size, Range. -/
import Derived.Test.YtjpkngbjjgimjaaDoorSA
import Derived.Test.YtjpkngbjjgimjaaDoorTM
import Derived.BigQuiet
namespace Go.Proofs.YtjpkngbjjgimjaaDoor
open Go.RowKit
theorem below_drewN {B : Nat} {a w : World} (h : Below B a w) : ∀ n : Nat, Below B a (w.drewN n)
  | 0 => by rw [World.drewN_zero]; exact h
  | n + 1 => by rw [← World.drew_drewN]; exact (below_drewN h n).drew
theorem eqin_pair (a b c d : ByteArray) (w : World) : (Op.equalIn 10000 63 (.agg #[.string a, .string b]) (.agg #[.string c, .string d])).run Tryd.prog w = .ok (decide (a = c ∧ b = d)) w := by
  have u9 := Tryd.underlying9
  have a9 := Tryd.isAgg9
  have z9 := Tryd.sizeOf9
  have hS : Tryd.prog.underlying 63 = some (.struct (Tryd.prog.fieldsOf 63)) := by kernel_rfl
  have hp : Tryd.prog.stoodInHeld 63 = false := by kernel_rfl
  rw [show (10000 : Nat) = 9999 + 1 from rfl, run_equalIn_agg w 9999 63 _ _ hS hp]
  simp only [Program.fieldsOf, Tryd.underlying63]
  go_simp
  by_cases h1 : a = c
  · subst h1
    by_cases h2 : b = d
    · subst h2; simp
    · have := str_ne h2
      simp [h2, this]
  · have := str_ne h1
    simp [h1, this]
theorem leq_sl (a b : ByteArray) : (Op.bytesLess a.toList b.toList || a.toList == b.toList) = !sl b a := by
  unfold sl
  cases h1 : Op.bytesLess b.toList a.toList with
  | true =>
    have h2 : Op.bytesLess a.toList b.toList = false := sl_asym (a := b) (b := a) h1
    have h3 : (a.toList == b.toList) = false := by
      have h4 := sl_ne (a := b) (b := a) h1
      exact str_nb (fun e => h4 e.symm)
    rw [h2, h3]; rfl
  | false =>
    cases h2 : Op.bytesLess a.toList b.toList with
    | true => rfl
    | false =>
      have := sl_tot (a := a) (b := b) h2 h1
      subst this
      simp
theorem take_eq_succ {l k : List Pr} {i : Nat} {p q : Pr} (h : l.take i = k.take i) (hp : l[i]? = some p) (hq : k[i]? = some q) (e : p = q) : l.take (i + 1) = k.take (i + 1) := by
  rw [take_snoc hp, take_snoc hq, h, e]
end Go.Proofs.YtjpkngbjjgimjaaDoor
