/- Two arrays of eight words that are the same. -/
import Derived.Test.YtmachfapcgjljaaDoorBB
import Derived.Laws.StructEq
namespace Go.Proofs.YtmachfapcgjljaaDoor
open Go.RowKit
theorem eq8_from (W : World) (xs : Array Value) (d : Nat) (h : ∀ i, i < 8 → ∃ k : Int, xs[i]? = some (.int .u32 k)) :
    (Op.equalIn (d + 1 + 1) 31 (.agg xs) (.agg xs)).run Tryd.prog W = .ok true W := by
  have h1 : (sizeOf 22).run Tryd.prog W = .ok 1 W := by kernel_rfl
  have h2 : (isAgg 22).run Tryd.prog W = .ok false W := by kernel_rfl
  have hp : ∀ i k, xs[i]? = some (.int .u32 k) → (part 22 xs i).run Tryd.prog W = .ok (.int .u32 k) W := by
    intro i k hk
    simp [part, h2, hk]
  obtain ⟨k0, e0⟩ := h 0 (by omega)
  obtain ⟨k1, e1⟩ := h 1 (by omega)
  obtain ⟨k2, e2⟩ := h 2 (by omega)
  obtain ⟨k3, e3⟩ := h 3 (by omega)
  obtain ⟨k4, e4⟩ := h 4 (by omega)
  obtain ⟨k5, e5⟩ := h 5 (by omega)
  obtain ⟨k6, e6⟩ := h 6 (by omega)
  obtain ⟨k7, e7⟩ := h 7 (by omega)
  have q : ∀ k : Int, (Op.equalIn (d + 1) 22 (.int .u32 k) (.int .u32 k)).run Tryd.prog W = .ok true W := by
    intro k
    rw [run_equalIn_int W d 22 .u32 .u32 k k Tryd.underlying22]
    simp
  rw [Op.equalIn]
  simp only [Sem.run_bind, run_underlying Tryd.underlying31, Result.andThen_ok, h1, Nat.mul_one]
  simp only [Std.Legacy.Range.forIn_eq_forIn_range', Std.Legacy.Range.size]
  simp [List.range', hp 0 k0 e0, hp 1 k1 e1, hp 2 k2 e2, hp 3 k3 e3, hp 4 k4 e4, hp 5 k5 e5, hp 6 k6 e6, hp 7 k7 e7, q]
theorem eq8 (a0 a1 a2 a3 a4 a5 a6 a7 : Int) (W : World) : (Op.equalIn 10000 31 (.agg #[.int .u32 a0, .int .u32 a1, .int .u32 a2, .int .u32 a3, .int .u32 a4, .int .u32 a5, .int .u32 a6, .int .u32 a7]) (.agg #[.int .u32 a0, .int .u32 a1, .int .u32 a2, .int .u32 a3, .int .u32 a4, .int .u32 a5, .int .u32 a6, .int .u32 a7])).run Tryd.prog W = .ok true W :=
  eq8_from W _ 9998 fun i hi => by
    match i, hi with
    | 0, _ => exact ⟨_, rfl⟩
    | 1, _ => exact ⟨_, rfl⟩
    | 2, _ => exact ⟨_, rfl⟩
    | 3, _ => exact ⟨_, rfl⟩
    | 4, _ => exact ⟨_, rfl⟩
    | 5, _ => exact ⟨_, rfl⟩
    | 6, _ => exact ⟨_, rfl⟩
    | 7, _ => exact ⟨_, rfl⟩
end Go.Proofs.YtmachfapcgjljaaDoor
