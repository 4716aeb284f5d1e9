/- Walks over math/bits.RotateLeft32 and the program's turned. -/
import Derived.Test.YtbflkkffpcaakabDoorI
namespace Go.Proofs.YtbflkkffpcaakabDoor
open Go.RowKit
theorem or_rotl (x n s : Nat) (hx : x < 4294967296) (hs : s = 32 - n) : bits BinOp.or IntKind.u32 ((x : Int) * 2 ^ s % 4294967296) ((x : Int) / 2 ^ n) = (rotr x n : Int) := by
  have e1 : (x : Int) / 2 ^ n = ((x / 2 ^ n : Nat) : Int) := by simp
  have e2 : (x : Int) * 2 ^ s % 4294967296 = ((x * 2 ^ s % 4294967296 : Nat) : Int) := by simp
  rw [e1, e2, u32_or_nat _ _ (Nat.mod_lt _ (by omega)) (Nat.lt_of_le_of_lt (Nat.div_le_self _ _) hx), Nat.or_comm, hs]
  rfl
set_option maxRecDepth 100000 in
set_option maxHeartbeats 400000 in
theorem rotl_any (x n : Nat) (w : World) (hx : x < 4294967296) (hn : 1 ≤ n) (hn' : n ≤ 31) :
    Calls Tryd.prog 28 #[.int .u32 (x : Int), .int .i64 (-(n : Int))] w fun e w' => e = .returned (.int .u32 (rotr x n : Int)) ∧ w' = w := by
  obtain ⟨s, hs⟩ : ∃ s, s = 32 - n := ⟨_, rfl⟩
  obtain ⟨M, hM⟩ : ∃ M, M = 18446744073709551616 - n := ⟨_, rfl⟩
  have h1 : IntKind.u64.wrap (-(n : Int)) = (M : Int) := by rw [IntKind.wrap_u64]; omega
  have h2 : bits BinOp.and IntKind.u64 (M : Int) 31 = (s : Int) := by
    have := u64_and_nat M 31 (by omega) (by omega)
    rw [show M &&& 31 = M % 32 from Nat.and_two_pow_sub_one_eq_mod M 5, show M % 32 = s by omega] at this
    exact this
  have h3 : (32 : Int) - (s : Int) = (n : Int) := by omega
  have HS : Hid (s = 32 - n) := hs
  have hs' : s ≤ 31 := by omega
  clear hM hs
  go_enter Tryd.func28, Tryd.ntmps28
  go_wp2
  go_ret
  exact ⟨ret_int (or_rotl x n s hx HS.out), rfl⟩
set_option maxRecDepth 100000 in
theorem turned_any (x n : Nat) (w : World) (hx : x < 4294967296) (hn : 1 ≤ n) (hn' : n ≤ 31) :
    Calls Tryd.prog 36 #[.int .u32 (x : Int), .int .i64 (n : Int)] w fun e w' => e = .returned (.int .u32 (rotr x n : Int)) ∧ w' = w := by
  have HC : Hid (∀ w, Calls Tryd.prog 28 #[.int .u32 (x : Int), .int .i64 (-(n : Int))] w fun e w' => e = .returned (.int .u32 (rotr x n : Int)) ∧ w' = w) := fun w => rotl_any x n w hx hn hn'
  go_enter Tryd.func36, Tryd.ntmps36
  go_wp2_with (go_at_call 28; refine (HC.out _).mono ?_; rintro e w' ⟨rfl, hw⟩; subst w')
  go_ret
  exact ⟨rfl, rfl⟩
end Go.Proofs.YtbflkkffpcaakabDoor
