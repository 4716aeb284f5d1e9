/- Two arrays of four words that are the same. Slices of bytes that came in. -/
import Derived.Test.YtbflkkffpcaakaaDoorWU
import Derived.Laws.StructEq
import Derived.Lib.SlBytesConst
import Derived.Deep.Slices
namespace Go.Proofs.YtbflkkffpcaakaaDoor
open Go.RowKit
theorem eq4_from (W : World) (xs : Array Value) (d : Nat) (h : ∀ i, i < 4 → ∃ k : Int, xs[i]? = some (.int .u32 k)) :
    (Op.equalIn (d + 1 + 1) 23 (.agg xs) (.agg xs)).run Tryd.prog W = .ok true W := by
  have h1 : (sizeOf 22).run Tryd.prog W = .ok 1 W := by kernel_rfl
  have h2 : (isAgg 22).run Tryd.prog W = .ok false W := by kernel_rfl
  have hp : ∀ i k, xs[i]? = some (.int .u32 k) → (part 22 xs i).run Tryd.prog W = .ok (.int .u32 k) W := by
    intro i k hk
    simp [part, h2, hk]
  obtain ⟨k0, e0⟩ := h 0 (by omega)
  obtain ⟨k1, e1⟩ := h 1 (by omega)
  obtain ⟨k2, e2⟩ := h 2 (by omega)
  obtain ⟨k3, e3⟩ := h 3 (by omega)
  have q : ∀ k : Int, (Op.equalIn (d + 1) 22 (.int .u32 k) (.int .u32 k)).run Tryd.prog W = .ok true W := by
    intro k
    rw [run_equalIn_int W d 22 .u32 .u32 k k Tryd.underlying22]
    simp
  rw [Op.equalIn]
  simp only [Sem.run_bind, run_underlying Tryd.underlying23, Result.andThen_ok, h1, Nat.mul_one]
  simp only [Std.Legacy.Range.forIn_eq_forIn_range', Std.Legacy.Range.size]
  simp [List.range', hp 0 k0 e0, hp 1 k1 e1, hp 2 k2 e2, hp 3 k3 e3, q]
theorem eq4 (a0 a1 a2 a3 : Int) (W : World) : (Op.equalIn 10000 23 (.agg #[.int .u32 a0, .int .u32 a1, .int .u32 a2, .int .u32 a3]) (.agg #[.int .u32 a0, .int .u32 a1, .int .u32 a2, .int .u32 a3])).run Tryd.prog W = .ok true W :=
  eq4_from W _ 9998 fun i hi => by
    match i, hi with
    | 0, _ => exact ⟨_, rfl⟩
    | 1, _ => exact ⟨_, rfl⟩
    | 2, _ => exact ⟨_, rfl⟩
    | 3, _ => exact ⟨_, rfl⟩
end Go.Proofs.YtbflkkffpcaakaaDoor
namespace Go.Proofs.YtbflkkffpcaakaaDoor
open Go.ChangeShapes Go.WideShapes Go.ChangeAt Go.RowKit Go.Deep
set_option maxRecDepth 100000
theorem sl_of {H : Type} {enc : TypeId × Value → H} {W : World} {base : Nat} {spare : Nat → Bool} {held : Bool} {fuel : Nat} {t e : TypeId} {c : Value} {x : DataW H × List MemPlace} (ht : Tryd.prog.underlying t = some (.slice e))
    (hf : DataW.trod enc Tryd.prog W base spare held fuel t [c] = some x) : ∃ a len cap, c = .slice a len cap := by
  rcases open_slice ht hf with ⟨hcs, _⟩ | ⟨ad, l, c, m, n, D, Pl, hcs, _⟩
  · simp only [List.cons.injEq, and_true] at hcs
    exact ⟨_, _, _, hcs⟩
  · simp only [List.cons.injEq, and_true] at hcs
    exact ⟨_, _, _, hcs⟩
/-- Slices of bytes that came in. -/
def Bss (w : World) (a : Option Addr) (len cap : Nat) : Prop :=
  len ≤ cap ∧ cap ≤ 9223372036854775807 ∧ (0 < len → ∃ b o, a = some ⟨b, o, none⟩ ∧ b < w.heap.size ∧ ∀ i, i < len → ∃ (a' : Option Addr) (l' c' : Nat) (bs : List UInt8), w.cell? ⟨b, o + i, none⟩ = some (.slice a' l' c') ∧ BsI w a' l' c' bs)
theorem bys_of {H : Type} {enc : TypeId × Value → H} {W : World} {base : Nat} {spare : Nat → Bool} {held : Bool} {fuel : Nat} {a : Option Addr} {len cap : Nat} {x : DataW H × List MemPlace}
    (hf : DataW.trod enc Tryd.prog W base spare held fuel 42 [.slice a len cap] = some x) : ∃ bs, BsI W a len cap bs := by
  rcases open_slice1 Tryd.underlying42 (by kernel_rfl) hf with ⟨hcs, _⟩ | ⟨ad, l, c, m, n, V, D, Pl, hcs, _, hl, hm, hmm, _, hV⟩
  · simp only [List.cons.injEq, Value.slice.injEq, and_true] at hcs
    obtain ⟨rfl, rfl, rfl⟩ := hcs
    exact ⟨[], rfl, Nat.le_refl _, by omega, fun h => absurd h (by omega)⟩
  · simp only [List.cons.injEq, Value.slice.injEq, and_true] at hcs
    obtain ⟨rfl, rfl, rfl⟩ := hcs
    have hlm : len ≤ m := by rw [hmm]; split <;> omega
    have hb : ∀ i, i < len → ∃ b : UInt8, W.cell? (ad.add i) = some (.int .u8 ((b.toNat : Nat) : Int)) := by
      intro i hi
      obtain ⟨h1, h2⟩ := hV i (by omega)
      obtain ⟨y, hy, _, hw⟩ := DataW.trod_int Tryd.underlying5 h2
      simp only [List.cons.injEq, and_true] at hy
      have hr := wf_u8 hw
      refine ⟨UInt8.ofNat y.toNat, ?_⟩
      rw [h1, hy]
      have : (UInt8.ofNat y.toNat).toNat = y.toNat := by rw [UInt8.toNat_ofNat']; omega
      rw [this, show ((y.toNat : Nat) : Int) = y by omega]
    obtain ⟨f, hf⟩ := choose_lt hb
    refine ⟨(List.range len).map f, by simp, hl, by simpa [maxLen] using hm, fun h0 => ?_⟩
    obtain ⟨bb, oo, spot⟩ := ad
    have hspot : spot = none := by simpa [Addr.add] using World.cell?_spot (hf 0 h0)
    subst hspot
    refine ⟨bb, oo, rfl, ?_, fun i hi => ?_⟩
    · have := World.block_lt_of_cell? W _ (hf 0 h0)
      rwa [add_at] at this
    · have := hf i hi
      rw [add_at] at this
      rw [this, List.getD_eq_getElem?_getD, List.getElem?_map, List.getElem?_range hi]
      rfl
theorem bss_of {H : Type} {enc : TypeId × Value → H} {W : World} {base : Nat} {spare : Nat → Bool} {held : Bool} {fuel : Nat} {a : Option Addr} {len cap : Nat} {x : DataW H × List MemPlace}
    (hf : DataW.trod enc Tryd.prog W base spare held fuel 38 [.slice a len cap] = some x) : Bss W a len cap := by
  rcases open_slice1 Tryd.underlying38 (by kernel_rfl) hf with ⟨hcs, _⟩ | ⟨ad, l, c, m, n, V, D, Pl, hcs, _, hl, hm, hmm, _, hV⟩
  · simp only [List.cons.injEq, Value.slice.injEq, and_true] at hcs
    obtain ⟨rfl, rfl, rfl⟩ := hcs
    exact ⟨Nat.le_refl _, by omega, fun h => absurd h (by omega)⟩
  · simp only [List.cons.injEq, Value.slice.injEq, and_true] at hcs
    obtain ⟨rfl, rfl, rfl⟩ := hcs
    have hlm : len ≤ m := by rw [hmm]; split <;> omega
    have hb : ∀ i, i < len → ∃ (a' : Option Addr) (l' c' : Nat) (bs : List UInt8), W.cell? (ad.add i) = some (.slice a' l' c') ∧ BsI W a' l' c' bs := by
      intro i hi
      obtain ⟨h1, h2⟩ := hV i (by omega)
      obtain ⟨a', l', c', hs⟩ := sl_of Tryd.underlying42 h2
      rw [hs] at h1 h2
      obtain ⟨bs, hbs⟩ := bys_of h2
      exact ⟨a', l', c', bs, h1, hbs⟩
    refine ⟨hl, by simpa [maxLen] using hm, fun h0 => ?_⟩
    obtain ⟨a0, l0, c0, bs0, h00, _⟩ := hb 0 h0
    obtain ⟨bb, oo, spot⟩ := ad
    have hspot : spot = none := by simpa [Addr.add] using World.cell?_spot h00
    subst hspot
    refine ⟨bb, oo, rfl, ?_, fun i hi => ?_⟩
    · have := World.block_lt_of_cell? W _ h00
      rwa [add_at] at this
    · obtain ⟨a', l', c', bs, h1, h2⟩ := hb i hi
      rw [add_at] at h1
      exact ⟨a', l', c', bs, h1, h2⟩
theorem BsI.aside {w wr : World} {g : Nat} {a : Option Addr} {len cap : Nat} {bs : List UInt8} (h : BsI w a len cap bs) (hg : w.heap.size ≤ g) (hb : Below w.heap.size w wr) : BsA wr g a len cap bs := by
  obtain ⟨h1, h2, h3, h4⟩ := h
  refine ⟨h1, h2, h3, fun h0 => ?_⟩
  obtain ⟨bb, bo, e, hlt, hc⟩ := h4 h0
  exact ⟨bb, bo, e, by omega, Nat.lt_of_lt_of_le hlt hb.size, fun i hi => (World.cell?_of_block (a := ⟨bb, bo + i, none⟩) (hb.block bb hlt)).trans (hc i hi)⟩
end Go.Proofs.YtbflkkffpcaakaaDoor
