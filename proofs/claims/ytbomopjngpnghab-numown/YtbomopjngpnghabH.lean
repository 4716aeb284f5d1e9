/- num.Get at any slice and place; the walk over the document's Get. -/
import Derived.Test.YtbomopjngpnghabG
namespace Go.Proofs.Ytbomopjngpnghab
open Go.RowKit

/-- WHAT A WALK IS TOLD OF A SLICE OF BYTES: its bytes bs, by the cells from its address on. -/
def Bs (w : World) (a : Option Addr) (len cap : Nat) (bs : List UInt8) : Prop :=
  bs.length = len ∧ len ≤ cap ∧ cap ≤ 9223372036854775807 ∧ (a = none → cap = 0) ∧ ∀ ad, a = some ad → ∀ i (h : i < bs.length), w.cell? (ad.add i) = some (.int .u8 (bs[i].toNat : Int))

theorem Bs.at {w : World} {a : Option Addr} {len cap : Nat} {bs : List UInt8} (h : Bs w a len cap bs) (h0 : 0 < len) :
    ∃ b off, a = some ⟨b, off, none⟩ ∧ ∀ i (h : i < bs.length), w.cell? ⟨b, off + i, none⟩ = some (.int .u8 (bs[i].toNat : Int)) := by
  obtain ⟨h1, h2, h3, h4, h5⟩ := h
  cases a with
  | none => have := h4 rfl; omega
  | some ad =>
    obtain ⟨b, off, spot⟩ := ad
    have hc := h5 _ rfl 0 (by omega)
    have hspot : spot = none := by simpa [Addr.add] using World.cell?_spot hc
    subst hspot
    refine ⟨b, off, rfl, fun i hi => ?_⟩
    have := h5 _ rfl i hi
    rwa [Addr.add_lit] at this

theorem getAt_neg {bs : List UInt8} {p : Int} (h : p < 0) : ans3 (getAt bs p) = .tuple #[.int .u64 0, .int .i64 0, .int .i64 9] := by
  unfold getAt; rw [if_pos (.inl h)]; rfl
theorem getAt_past {bs : List UInt8} {p : Int} (h : (bs.length : Int) < p) : ans3 (getAt bs p) = .tuple #[.int .u64 0, .int .i64 0, .int .i64 9] := by
  unfold getAt; rw [if_pos (.inr h)]; rfl
theorem getAt_last {bs : List UInt8} {p : Int} (h : (bs.length : Int) = p) : ans3 (getAt bs p) = .tuple #[.int .u64 0, .int .i64 0, .int .i64 3] := by
  subst h; rw [getAt_in (Nat.le_refl _), List.drop_eq_nil_of_le (Nat.le_refl _)]; rfl

set_option maxRecDepth 100000 in
set_option maxHeartbeats 400000 in
theorem get_any (a : Option Addr) (len cap : Nat) (bs : List UInt8) (p : Int) (w : World) (h : Bs w a len cap bs) (hp0 : -9223372036854775808 ≤ p) (hp1 : p ≤ 9223372036854775807) :
    Calls Try.prog 11 #[.slice a len cap, .int .i64 p] w fun e w' => e = .returned (ans3 (getAt bs p)) ∧ w' = w := by
  have hlen := h.1
  have hm : len ≤ 9223372036854775807 := Nat.le_trans h.2.1 h.2.2.1
  by_cases n0 : p < 0
  · have HR := getAt_neg (bs := bs) n0
    have HR' : Hid (ans3 (getAt bs p) = .tuple #[.int .u64 0, .int .i64 0, .int .i64 9]) := HR
    clear HR hlen
    go_enter Try.func11, Try.ntmps11
    go_wp2
    go_ret3
    exact ⟨ret_val HR'.out.symm, rfl⟩
  · by_cases n1 : (len : Int) < p
    · have HR' : Hid (ans3 (getAt bs p) = .tuple #[.int .u64 0, .int .i64 0, .int .i64 9]) := getAt_past (by omega)
      clear hlen
      go_enter Try.func11, Try.ntmps11
      go_wp2
      go_ret3
      exact ⟨ret_val HR'.out.symm, rfl⟩
    · by_cases n2 : (len : Int) = p
      · have HR' : Hid (ans3 (getAt bs p) = .tuple #[.int .u64 0, .int .i64 0, .int .i64 3]) := getAt_last (by omega)
        clear hlen h n1
        subst n2
        go_enter Try.func11, Try.ntmps11
        go_wp2
        refine wp_loop_rounds 1 ?_
        rw [rounds_succ]
        go_wp2
        go_ret3
        exact ⟨ret_val HR'.out.symm, rfl⟩
      · obtain ⟨b, off, rfl, hc⟩ := h.at (by omega)
        obtain ⟨q, rfl⟩ : ∃ q : Nat, p = q := ⟨p.toNat, by omega⟩
        exact get_in b off len cap bs q w hlen hm (by omega) hc

theorem wrap_step (Z X U k : Nat) (hU : U = 128 ^ k) (hz : Z < 128 ^ k) (hk : k ≤ 8 ∨ (k = 9 ∧ X ≤ 1)) :
    IntKind.u64.wrap ((Z : Int) + IntKind.u64.wrap ((X : Int) % 128 * (U : Int))) = ((Z + X % 128 * 128 ^ k : Nat) : Int) := by
  subst hU
  have h1 : ((X : Int) % 128 * ((128 ^ k : Nat) : Int)) = ((X % 128 * 128 ^ k : Nat) : Int) := by
    rw [Int.natCast_mul, Int.natCast_emod]; rfl
  have hlt : Z + X % 128 * 128 ^ k < 18446744073709551616 := by
    rcases hk with h | ⟨rfl, h⟩
    · have := pow_le8 h
      have : X % 128 * 128 ^ k ≤ 127 * 72057594037927936 := Nat.mul_le_mul (by omega) this
      omega
    · have : X % 128 * 128 ^ 9 ≤ 1 * 128 ^ 9 := Nat.mul_le_mul_right _ (by omega)
      omega
  rw [h1, IntKind.wrap_u64, IntKind.wrap_u64]
  omega

/-- One round of the document's Get, where the byte says that there is more. -/
theorem rel_more {bs : List UInt8} {p k Z X : Nat} (h : GetRel bs p k Z) (hk : k < 9) (hlt : p + k < bs.length) (hx : (bs[p + k]'hlt).toNat = X) (h1 : 128 ≤ X) : GetRel bs p (k + 1) (Z + X % 128 * 128 ^ k) := by
  obtain ⟨Z', e, h'⟩ := getRel_on h (by omega) hlt (x := (X : Int)) (by omega) (by omega)
  rw [or_step Z X k (h.2.2.2.1 (by omega)) (.inl (by omega))] at e
  have : Z + X % 128 * 128 ^ k = Z' := by exact_mod_cast e
  rw [this]; exact h'
theorem rel_fin {bs : List UInt8} {p k Z X : Nat} (h : GetRel bs p k Z) (hk : k < 10) (hlt : p + k < bs.length) (hx : (bs[p + k]'hlt).toNat = X) (h1 : X < 128) (he : ¬ ((0 < k ∧ X = 0) ∨ (k = 9 ∧ 1 < X))) :
    ans3 (getAt bs p) = .tuple #[.int .u64 ((Z + X % 128 * 128 ^ k : Nat) : Int), .int .i64 ((p : Int) + k + 1), .int .i64 0] := by
  rw [getRel_ok h hk hlt (x := (X : Int)) (by omega) (by omega) (by simp [endsB]; omega), or_step Z X k (h.2.2.2.1 hk) (by omega)]
theorem rel_none {bs : List UInt8} {p k Z X : Nat} (h : GetRel bs p k Z) (hk : k < 10) (hlt : p + k < bs.length) (hx : (bs[p + k]'hlt).toNat = X) (he : (X < 128 ∧ 0 < k ∧ X = 0) ∨ (k = 9 ∧ X ≠ 1)) :
    ans3 (getAt bs p) = .tuple #[.int .u64 0, .int .i64 0, .int .i64 4] := by
  by_cases h1 : X < 128
  · exact getRel_bad h hk hlt (x := (X : Int)) (by omega) (by omega) (by simp [endsB]; omega)
  · obtain ⟨Z', _, h'⟩ := getRel_on h hk hlt (x := (X : Int)) (by omega) (by omega)
    exact getRel_ten h' (by omega)

end Go.Proofs.Ytbomopjngpnghab
