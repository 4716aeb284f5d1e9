/- Walks over the program's Quarter and the document's. -/
import Derived.Test.YtbflkkffpcaakabDoorWA
namespace Go.Proofs.YtbflkkffpcaakabDoor
open Go.RowKit
theorem or_up (x n s : Nat) (hx : x < 4294967296) (hs : n = 32 - s) : bits BinOp.or IntKind.u32 ((x : Int) * 2 ^ s % 4294967296) ((x : Int) / 2 ^ n) = (rotr x n : Int) := by
  have e1 : (x : Int) / 2 ^ n = ((x / 2 ^ n : Nat) : Int) := by simp
  have e2 : (x : Int) * 2 ^ s % 4294967296 = ((x * 2 ^ s % 4294967296 : Nat) : Int) := by simp
  by_cases h : s ≤ 32
  · rw [e1, e2, u32_or_nat _ _ (Nat.mod_lt _ (by omega)) (Nat.lt_of_le_of_lt (Nat.div_le_self _ _) hx), Nat.or_comm, show s = 32 - n by omega]
    rfl
  · obtain rfl : n = 0 := by omega
    rw [e1, e2, u32_or_nat _ _ (Nat.mod_lt _ (by omega)) (Nat.lt_of_le_of_lt (Nat.div_le_self _ _) hx), Nat.or_comm]
    have h1 : x * 2 ^ s % 4294967296 = 0 := by
      rw [show s = 32 + (s - 32) by omega, Nat.pow_add, show (4294967296 : Nat) = 2 ^ 32 from rfl, Nat.mul_comm (2 ^ 32), ← Nat.mul_assoc]
      exact Nat.mul_mod_left _ _
    have h2 : x * 2 ^ (32 - 0) % 4294967296 = 0 := by
      rw [show (4294967296 : Nat) = 2 ^ 32 from rfl, Nat.sub_zero]
      exact Nat.mul_mod_left _ _
    unfold rotr
    rw [h1, h2]
set_option maxRecDepth 100000 in
set_option maxHeartbeats 400000 in
/-- A word that is turned up. -/
theorem rotp_any (x s n : Nat) (w : World) (hx : x < 4294967296) (hs : s ≤ 31) (hn : n = 32 - s) :
    Calls Tryd.prog 28 #[.int .u32 (x : Int), .int .i64 (s : Int)] w fun e w' => e = .returned (.int .u32 (rotr x n : Int)) ∧ w' = w := by
  have h1 : IntKind.u64.wrap (s : Int) = (s : Int) := by rw [IntKind.wrap_u64]; omega
  have h2 : bits BinOp.and IntKind.u64 (s : Int) 31 = (s : Int) := by
    have := u64_and_nat s 31 (by omega) (by omega)
    rw [show s &&& 31 = s % 32 from Nat.and_two_pow_sub_one_eq_mod s 5, show s % 32 = s by omega] at this
    exact this
  have h3 : (32 : Int) - (s : Int) = (n : Int) := by omega
  have HS : Hid (n = 32 - s) := hn
  have hn' : n ≤ 32 := by omega
  clear hn
  go_enter Tryd.func28, Tryd.ntmps28
  go_wp2
  go_ret
  exact ⟨ret_int (or_up x n s hx HS.out), rfl⟩
theorem xor_nat (x y : Nat) (hx : x < 4294967296) (hy : y < 4294967296) : bits BinOp.xor IntKind.u32 (x : Int) (y : Int) = ((x ^^^ y : Nat) : Int) := u32_xor_nat x y hx hy
theorem u32v4 (a b c d : Nat) : u32v [a, b, c, d] = #[.int .u32 (a : Int), .int .u32 (b : Int), .int .u32 (c : Int), .int .u32 (d : Int)] := rfl
theorem wrap_add (x y : Nat) : IntKind.u32.wrap ((x : Int) + (y : Int)) = ((addW x y : Nat) : Int) := by
  rw [IntKind.wrap_u32]; unfold addW; omega
theorem mod_add (x y : Nat) : ((x : Int) + (y : Int)) % 4294967296 = ((addW x y : Nat) : Int) := by
  unfold addW; omega
theorem info_a4 : (Tryd.prog.info? 58).map (·.size) = some 4 := by kernel_rfl
set_option maxRecDepth 100000 in
set_option maxHeartbeats 1000000 in
/-- The program's quarter round. -/
theorem quarter_any (a b c d : Nat) (w : World) (hb : b < 4294967296) (hd : d < 4294967296) :
    Calls Tryd.prog 25 #[.agg (u32v [a, b, c, d])] w fun e w' => e = .returned (.agg (u32v (quarterL a b c d))) ∧ Below w.heap.size w w' := by
  obtain ⟨a1, e1⟩ : ∃ x, addW a b = x := ⟨_, rfl⟩
  obtain ⟨d1, e2⟩ : ∃ x, rotr (d ^^^ a1) 16 = x := ⟨_, rfl⟩
  obtain ⟨c1, e3⟩ : ∃ x, addW c d1 = x := ⟨_, rfl⟩
  obtain ⟨b1, e4⟩ : ∃ x, rotr (b ^^^ c1) 20 = x := ⟨_, rfl⟩
  obtain ⟨a2, e5⟩ : ∃ x, addW a1 b1 = x := ⟨_, rfl⟩
  obtain ⟨d2, e6⟩ : ∃ x, rotr (d1 ^^^ a2) 24 = x := ⟨_, rfl⟩
  obtain ⟨c2, e7⟩ : ∃ x, addW c1 d2 = x := ⟨_, rfl⟩
  obtain ⟨b2, e8⟩ : ∃ x, rotr (b1 ^^^ c2) 25 = x := ⟨_, rfl⟩
  have HQ : Hid (quarterL a b c d = [a2, b2, c2, d2]) := by
    show _ = _
    unfold quarterL
    simp only [e1, e2, e3, e4, e5, e6, e7, e8]
  have la1 : a1 < 4294967296 := e1 ▸ addW_lt _ _
  have lc1 : c1 < 4294967296 := e3 ▸ addW_lt _ _
  have la2 : a2 < 4294967296 := e5 ▸ addW_lt _ _
  have lc2 : c2 < 4294967296 := e7 ▸ addW_lt _ _
  have ld1 : d1 < 4294967296 := e2 ▸ rotr_lt (xor_lt hd la1)
  have lb1 : b1 < 4294967296 := e4 ▸ rotr_lt (xor_lt hb lc1)
  have C1 : Hid (∀ W, Calls Tryd.prog 28 #[.int .u32 ((d ^^^ a1 : Nat) : Int), .int .i64 16] W fun e w' => e = .returned (.int .u32 (d1 : Int)) ∧ w' = W) := fun W => e2 ▸ rotp_any (d ^^^ a1) 16 16 W (xor_lt hd la1) (by omega) rfl
  have C2 : Hid (∀ W, Calls Tryd.prog 28 #[.int .u32 ((b ^^^ c1 : Nat) : Int), .int .i64 12] W fun e w' => e = .returned (.int .u32 (b1 : Int)) ∧ w' = W) := fun W => e4 ▸ rotp_any (b ^^^ c1) 12 20 W (xor_lt hb lc1) (by omega) rfl
  have C3 : Hid (∀ W, Calls Tryd.prog 28 #[.int .u32 ((d1 ^^^ a2 : Nat) : Int), .int .i64 8] W fun e w' => e = .returned (.int .u32 (d2 : Int)) ∧ w' = W) := fun W => e6 ▸ rotp_any (d1 ^^^ a2) 8 24 W (xor_lt ld1 la2) (by omega) rfl
  have C4 : Hid (∀ W, Calls Tryd.prog 28 #[.int .u32 ((b1 ^^^ c2 : Nat) : Int), .int .i64 7] W fun e w' => e = .returned (.int .u32 (b2 : Int)) ∧ w' = W) := fun W => e8 ▸ rotp_any (b1 ^^^ c2) 7 25 W (xor_lt lb1 lc2) (by omega) rfl
  have x1 := xor_nat d a1 hd la1
  have x2 := xor_nat b c1 hb lc1
  have x3 := xor_nat d1 a2 ld1 la2
  have x4 := xor_nat b1 c2 lb1 lc2
  have s1 := mod_add a b
  have s2 := mod_add c d1
  have s3 := mod_add a1 b1
  have s4 := mod_add c1 d2
  rw [e1] at s1
  rw [e3] at s2
  rw [e5] at s3
  rw [e7] at s4
  obtain ⟨B, hB⟩ : ∃ B, w.heap.size = B := ⟨_, rfl⟩
  obtain ⟨W1, hW1⟩ : ∃ W, (w.alloc (.cells #[.int .u32 (a : Int), .int .u32 (b : Int), .int .u32 (c : Int), .int .u32 (d : Int)] 58)).alloc (.cells #[.int .u32 0, .int .u32 0, .int .u32 0, .int .u32 0] 58) = W := ⟨_, rfl⟩
  have hrow : W1.heap[B]? = some (.cells #[.int .u32 (a : Int), .int .u32 (b : Int), .int .u32 (c : Int), .int .u32 (d : Int)] 58 (0, 0)) := by
    rw [← hW1, ← hB, Go.heap_alloc_old _ _ (by simp)]; exact heap_alloc_new _ _
  have hrow2 : W1.heap[B + 1]? = some (.cells #[.int .u32 0, .int .u32 0, .int .u32 0, .int .u32 0] 58 (0, 0)) := by
    have := heap_alloc_new (w.alloc (.cells #[.int .u32 (a : Int), .int .u32 (b : Int), .int .u32 (c : Int), .int .u32 (d : Int)] 58)) (.cells #[.int .u32 0, .int .u32 0, .int .u32 0, .int .u32 0] 58)
    rw [← hW1, ← hB]
    simpa using this
  have hbl : Below B w W1 := by rw [← hW1, ← hB]; exact ((Below.refl _ w).alloc (Nat.le_refl _) _).alloc (by simp) _
  have c0 : W1.cell? ⟨B, 0, none⟩ = some (.int .u32 (a : Int)) := by rw [cell_of_row _ _ _ _ _ _ hrow]; rfl
  have c1' : W1.cell? ⟨B, 1, none⟩ = some (.int .u32 (b : Int)) := by rw [cell_of_row _ _ _ _ _ _ hrow]; rfl
  have c2' : W1.cell? ⟨B, 2, none⟩ = some (.int .u32 (c : Int)) := by rw [cell_of_row _ _ _ _ _ _ hrow]; rfl
  have c3 : W1.cell? ⟨B, 3, none⟩ = some (.int .u32 (d : Int)) := by rw [cell_of_row _ _ _ _ _ _ hrow]; rfl
  have HR : Hid (W1.drew.heap[B + 1]? = some (.cells #[.int .u32 0, .int .u32 0, .int .u32 0, .int .u32 0] 58 (0, 0)) ∧ Below B w W1) := ⟨hrow2, hbl⟩
  rw [u32v4]
  have HQ2 : Hid (u32v (quarterL a b c d) = #[.int .u32 (a2 : Int), .int .u32 (b2 : Int), .int .u32 (c2 : Int), .int .u32 (d2 : Int)]) := by show _ = _; rw [HQ.out]; rfl
  rw [HQ2.out]
  clear e1 e2 e3 e4 e5 e6 e7 e8 hb hd hrow hrow2 hbl HQ HQ2
  go_enter Tryd.func25, Tryd.ntmps25
  go_wp2
  go_region
  go_wp2_with fail
  refine (C1.out _).mono ?_
  rintro e w' ⟨rfl, hw'⟩
  subst w'
  go_wp2_with fail
  refine (C2.out _).mono ?_
  rintro e w' ⟨rfl, hw'⟩
  subst w'
  go_wp2_with fail
  refine (C3.out _).mono ?_
  rintro e w' ⟨rfl, hw'⟩
  subst w'
  go_wp2_with fail
  refine (C4.out _).mono ?_
  rintro e w' ⟨rfl, hw'⟩
  subst w'
  clear C1 C2 C3 C4 x1 x2 x3 x4
  go_wp2_with (refine wpList_store_row rfl 58 _ _ rfl (B + 1) #[.int .u32 (a2 : Int), .int .u32 (b2 : Int), .int .u32 (c2 : Int), .int .u32 (d2 : Int)] rfl rfl 58 #[.int .u32 0, .int .u32 0, .int .u32 0, .int .u32 0] HR.out.1 info_a4 rfl (by simp [Value.oneCell']) ?_)
  refine bodyPost_ret (v := .agg #[.int .u32 (a2 : Int), .int .u32 (b2 : Int), .int .u32 (c2 : Int), .int .u32 (d2 : Int)]) ?_ rfl ⟨rfl, hB ▸ below_setRow HR.out.2.drew (B + 1) (Nat.le_succ _) _⟩
  exact results_cell_row rfl _ _ (B + 1) 58 _ (0, 0) _ rfl (setRow_heap _ _ _ _ _ _ HR.out.1) Tryd.underlying58 rfl info_a4
end Go.Proofs.YtbflkkffpcaakabDoor
