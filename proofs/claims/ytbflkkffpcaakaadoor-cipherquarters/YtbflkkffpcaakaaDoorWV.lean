/- Two arrays of four words that are the same. -/
import Derived.Test.YtbflkkffpcaakaaDoorWU
import Derived.Laws.StructEq
namespace Go.Proofs.YtbflkkffpcaakaaDoor
open Go.RowKit
theorem eq4_from (W : World) (xs : Array Value) (d : Nat) (h : ∀ i, i < 4 → ∃ k : Int, xs[i]? = some (.int .u32 k)) :
    (Op.equalIn (d + 1 + 1) 23 (.agg xs) (.agg xs)).run Tryd.prog W = .ok true W := by
  have h1 : (sizeOf 22).run Tryd.prog W = .ok 1 W := by kernel_rfl
  have h2 : (isAgg 22).run Tryd.prog W = .ok false W := by kernel_rfl
  have hp : ∀ i k, xs[i]? = some (.int .u32 k) → (part 22 xs i).run Tryd.prog W = .ok (.int .u32 k) W := by
    intro i k hk
    simp [part, h2, hk]
  obtain ⟨k0, e0⟩ := h 0 (by omega)
  obtain ⟨k1, e1⟩ := h 1 (by omega)
  obtain ⟨k2, e2⟩ := h 2 (by omega)
  obtain ⟨k3, e3⟩ := h 3 (by omega)
  have q : ∀ k : Int, (Op.equalIn (d + 1) 22 (.int .u32 k) (.int .u32 k)).run Tryd.prog W = .ok true W := by
    intro k
    rw [run_equalIn_int W d 22 .u32 .u32 k k Tryd.underlying22]
    simp
  rw [Op.equalIn]
  simp only [Sem.run_bind, run_underlying Tryd.underlying23, Result.andThen_ok, h1, Nat.mul_one]
  simp only [Std.Legacy.Range.forIn_eq_forIn_range', Std.Legacy.Range.size]
  simp [List.range', hp 0 k0 e0, hp 1 k1 e1, hp 2 k2 e2, hp 3 k3 e3, q]
theorem eq4 (a0 a1 a2 a3 : Int) (W : World) : (Op.equalIn 10000 23 (.agg #[.int .u32 a0, .int .u32 a1, .int .u32 a2, .int .u32 a3]) (.agg #[.int .u32 a0, .int .u32 a1, .int .u32 a2, .int .u32 a3])).run Tryd.prog W = .ok true W :=
  eq4_from W _ 9998 fun i hi => by
    match i, hi with
    | 0, _ => exact ⟨_, rfl⟩
    | 1, _ => exact ⟨_, rfl⟩
    | 2, _ => exact ⟨_, rfl⟩
    | 3, _ => exact ⟨_, rfl⟩
end Go.Proofs.YtbflkkffpcaakaaDoor
