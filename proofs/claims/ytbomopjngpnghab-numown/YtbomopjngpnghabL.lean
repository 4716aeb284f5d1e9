/- The walks over the statements' own small functions: small and lives. -/
import Derived.Test.YtbomopjngpnghabR
namespace Go.Proofs.Ytbomopjngpnghab
open Go.RowKit

set_option maxHeartbeats 400000 in
theorem small_yes (a : Option Addr) (len cap : Nat) (w : World) (h : len ≤ 20000) :
    Calls Try.prog 4 #[.slice a len cap, .slice none 0 0] w fun e w' => e = .returned (.bool true) ∧ w' = w := by
  go_enter Try.func4, Try.ntmps4
  go_wp2
  refine wp_loop_rounds 1 ?_
  rw [rounds_succ]
  go_wp2
  go_ret
  exact ⟨rfl, rfl⟩
set_option maxHeartbeats 400000 in
theorem small_no (a : Option Addr) (len cap : Nat) (l : Value) (w : World) (hm : len ≤ 9223372036854775807) (h : ¬ len ≤ 20000) :
    Calls Try.prog 4 #[.slice a len cap, l] w fun e w' => e = .returned (.bool false) ∧ w' = w := by
  go_enter Try.func4, Try.ntmps4
  go_wp2
  go_ret
  exact ⟨rfl, rfl⟩

theorem Bs.two (w : World) (x y : UInt8) : Bs (w.alloc (.cells #[.int .u8 (x.toNat : Int), .int .u8 (y.toNat : Int)] 5)) (some ⟨w.heap.size, 0, none⟩) 2 2 [x, y] := by
  refine ⟨rfl, by omega, by omega, (by intro e; cases e), ?_⟩
  intro ad had i hi
  cases had
  match i, hi with
  | 0, _ => simp [Addr.add]
  | 1, _ => simp [Addr.add]
theorem Bs.one (w : World) (x : UInt8) : Bs (w.alloc (.cells #[.int .u8 (x.toNat : Int)] 5)) (some ⟨w.heap.size, 0, none⟩) 1 1 [x] := by
  refine ⟨rfl, by omega, by omega, (by intro e; cases e), ?_⟩
  intro ad had i hi
  cases had
  match i, hi with
  | 0, _ => simp [Addr.add]
theorem Bs.nil (w : World) : Bs w none 0 0 [] := ⟨rfl, by omega, by omega, fun _ => rfl, by intro ad h; cases h⟩

theorem live1 (w : World) : Calls Try.prog 11 #[.slice (some ⟨w.heap.size, 0, none⟩) 2 2, .int .i64 0] (w.alloc (.cells #[.int .u8 128, .int .u8 0] 5)) fun e w' =>
    e = .returned (.tuple #[.int .u64 0, .int .i64 0, .int .i64 4]) ∧ w' = w.alloc (.cells #[.int .u8 128, .int .u8 0] 5) :=
  (get_any _ 2 2 [128, 0] 0 _ (Bs.two w 128 0) (by omega) (by omega)).mono fun _ _ h => h
theorem live2 (w : World) (g : Nat) (hg : g = w.heap.size) : Calls Try.prog 11 #[.slice (some ⟨g, 0, none⟩) 1 1, .int .i64 0] (w.alloc (.cells #[.int .u8 128] 5)) fun e w' =>
    e = .returned (.tuple #[.int .u64 0, .int .i64 0, .int .i64 3]) ∧ w' = w.alloc (.cells #[.int .u8 128] 5) :=
  (get_any _ 1 1 [128] 0 _ (hg ▸ Bs.one w 128) (by omega) (by omega)).mono fun _ _ h => h
theorem live3 (w : World) : Calls Try.prog 6 #[.slice none 0 0, .int .u64 300] w fun e w' =>
    ∃ g, e = .returned (.slice (some ⟨g, 0, none⟩) 2 2) ∧ Bs w' (some ⟨g, 0, none⟩) 2 2 [172, 2] ∧ Below w.heap.size w w' := by
  refine (put_any none 0 0 [] 300 w (Bs.nil w) (by omega) (by omega)).mono ?_
  rw [putN_300]
  rintro e w' ⟨rfl, h1, h2⟩
  exact ⟨_, rfl, Bs.owned h1, h2⟩
theorem live4 (w : World) : Calls Try.prog 12 #[.int .u64 300] w fun e w' => e = .returned (.int .i64 2) ∧ w' = w := by
  refine (size_any 300 w (by omega) (by omega)).mono ?_
  rintro e w' ⟨rfl, h⟩
  refine ⟨?_, h⟩
  simp [sizeI, putN_300]

set_option maxHeartbeats 400000 in
theorem lives_any (w : World) : Calls Try.prog 5 #[] w fun e w' => e = .returned (.bool true) ∧ Below w.heap.size w w' := by
  go_enter Try.func5, Try.ntmps5
  go_wp2_with fail
  refine (live1 _).mono ?_
  rintro e w1 ⟨rfl, rfl⟩
  go_wp2_with fail
  refine (live2 _ _ (by simp)).mono ?_
  rintro e w1 ⟨rfl, rfl⟩
  go_wp2_with fail
  refine (live3 _).mono ?_
  rintro e w1 ⟨g, rfl, hbs, hbel⟩
  have hcv := hbs.conv
  have HB := below_after (below_after hbel)
  clear hbel hbs
  go_wp2_with (go_at_call 12; refine (live4 _).mono ?_; rintro e w1 ⟨rfl, rfl⟩)
  go_ret
  exact ⟨rfl, HB⟩
end Go.Proofs.Ytbomopjngpnghab
