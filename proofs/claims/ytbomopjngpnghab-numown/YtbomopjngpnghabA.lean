/- Walks over the small functions of layer 1: small, Len64, Size, endsNumber. -/
import Derived.Test.YtbomopjngpnghabProg
import Derived.WalkKit
import Derived.WalkSpells
import Derived.WalkLawsBesides
import Derived.Lib.BitFns
import Derived.Test.YtbomopjngpnghabM
namespace Go.Proofs.Ytbomopjngpnghab
open Go.RowKit

theorem tab_size : Lib.len8tab.size = 256 := by decide +kernel
theorem tab_eq : ∀ n : Fin 256, (Lib.len8tab[n.val]'(Nat.lt_of_lt_of_eq n.isLt tab_size.symm)).toNat = Lib.bitLen n.val := by decide +kernel

theorem len_close (k : Nat) (b x : Int) {hp : b.toNat < Lib.len8tab.size} (h0 : 0 ≤ b) (h1 : b < 256) (hk : k ≤ 56) (e : Lib.bitLen x.toNat = k + Lib.bitLen b.toNat) :
    wrap64 ((k : Int) + wrap64 ((Lib.len8tab[b.toNat]'hp).toNat : Int)) = (Lib.bitLen x.toNat : Int) := by
  have t := tab_eq ⟨b.toNat, by omega⟩
  have l := Lib.bitLen_le8 ⟨b.toNat, by omega⟩
  simp only at t l
  rw [t, e]
  unfold wrap64
  omega

theorem len_close0 (x : Int) {hp : x.toNat < Lib.len8tab.size} (h0 : 0 ≤ x) (h1 : x < 256) :
    wrap64 (wrap64 ((Lib.len8tab[x.toNat]'hp).toNat : Int)) = (Lib.bitLen x.toNat : Int) := by
  have t := tab_eq ⟨x.toNat, by omega⟩
  have l := Lib.bitLen_le8 ⟨x.toNat, by omega⟩
  simp only at t l
  rw [t]
  unfold wrap64
  omega

set_option maxRecDepth 100000 in
set_option maxHeartbeats 400000 in
theorem len64_any (x : Int) (w : World) (h0 : 0 ≤ x) (h1 : x ≤ 18446744073709551615) :
    Calls Try.prog 20 #[.int .u64 x] w fun e w' => e = .returned (.int .i64 (Lib.bitLen x.toNat)) ∧ w' = w := by
  have hsz := tab_size
  go_enter Try.func20, Try.ntmps20
  go_wp2
  all_goals (go_ret; refine ⟨congrArg Ending.returned (congrArg (Value.int IntKind.i64) ?_), rfl⟩)
  · exact len_close 56 _ x (by omega) (by omega) (by omega) (by rw [Lib.bitLen_shift 56 x.toNat (by omega) (by omega)]; congr 2; omega)
  · exact len_close 48 _ x (by omega) (by omega) (by omega) (by rw [Lib.bitLen_shift 48 x.toNat (by omega) (by omega)]; congr 2; omega)
  · exact len_close 40 _ x (by omega) (by omega) (by omega) (by rw [Lib.bitLen_shift 40 x.toNat (by omega) (by omega)]; congr 2; omega)
  · exact len_close 32 _ x (by omega) (by omega) (by omega) (by rw [Lib.bitLen_shift 32 x.toNat (by omega) (by omega)]; congr 2; omega)
  · exact len_close 24 _ x (by omega) (by omega) (by omega) (by rw [Lib.bitLen_shift 24 x.toNat (by omega) (by omega)]; congr 2; omega)
  · exact len_close 16 _ x (by omega) (by omega) (by omega) (by rw [Lib.bitLen_shift 16 x.toNat (by omega) (by omega)]; congr 2; omega)
  · exact len_close 8 _ x (by omega) (by omega) (by omega) (by rw [Lib.bitLen_shift 8 x.toNat (by omega) (by omega)]; congr 2; omega)
  · exact len_close0 x (by omega) (by omega)

def endsB (i c : Int) : Bool := !(decide (0 < i) && decide (c = 0)) && (decide (i < 9) || decide (c ≤ 1))

theorem ret_int {k : IntKind} {a b : Int} (h : a = b) : Ending.returned (.int k a) = .returned (.int k b) := by rw [h]
theorem ret_bool {a b : Bool} (h : a = b) : Ending.returned (.bool a) = .returned (.bool b) := by rw [h]

set_option maxHeartbeats 400000 in
theorem ends_any (i c : Int) (w : World) (h0 : 0 ≤ i) (h1 : i ≤ 100) (h2 : 0 ≤ c) (h3 : c ≤ 255) :
    Calls Try.prog 19 #[.int .i64 i, .int .u8 c] w fun e w' => e = .returned (.bool (endsB i c)) ∧ w' = w := by
  by_cases hi : 0 < i
  · by_cases hc : c = 0
    · subst hc
      go_enter Try.func19, Try.ntmps19
      go_wp2
      go_ret
      exact ⟨ret_bool (by simp [endsB, hi]), rfl⟩
    · have hc' : (c == 0) = false := by simpa using hc
      by_cases h9 : i < 9
      · go_enter Try.func19, Try.ntmps19
        go_wp2
        go_ret
        exact ⟨ret_bool (by simp [endsB, hi, hc, h9]), rfl⟩
      · go_enter Try.func19, Try.ntmps19
        go_wp2
        go_ret
        exact ⟨ret_bool (by simp [endsB, hi, hc]; omega), rfl⟩
  · obtain rfl : i = 0 := by omega
    go_enter Try.func19, Try.ntmps19
    go_wp2
    go_ret
    exact ⟨ret_bool (by simp [endsB]), rfl⟩

def sizeI (n : Int) : Int := (putN n.toNat).length

set_option maxHeartbeats 400000 in
theorem size_any (x : Int) (w : World) (h0 : 0 ≤ x) (h1 : x ≤ 18446744073709551615) :
    Calls Try.prog 12 #[.int .u64 x] w fun e w' => e = .returned (.int .i64 (sizeI x)) ∧ w' = w := by
  have hl := bitLen_le64 x.toNat
  have HS : Hid (sizeI x = max 1 ((Lib.bitLen x.toNat + 6) / 7 : Nat)) := by unfold sizeI; rw [putN_len x.toNat (by omega)]; simp [Hid]
  go_enter Try.func12, Try.ntmps12
  go_wp2_with (go_at_call 20; refine (len64_any _ _ h0 h1).mono ?_; rintro e w' ⟨rfl, rfl⟩)
  all_goals
    go_ret
    exact ⟨ret_int (by rw [HS.out]; omega), rfl⟩
end Go.Proofs.Ytbomopjngpnghab
