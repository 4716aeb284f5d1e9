/- Keys and values of contents; the statements' table. -/
import Derived.Test.YtjpkngbjjgimjaaDoorTE
namespace Go.Proofs.YtjpkngbjjgimjaaDoor
open Go.RowKit
def keyB (sum : ByteArray) (n : Nat) : ByteArray := (⟨#[99]⟩ ++ sum) ++ strOf [UInt8.ofNat n]
def valB (refs : Nat) (data : ByteArray) : ByteArray := strOf [UInt8.ofNat (refs / 16777216 % 256), UInt8.ofNat (refs / 65536 % 256), UInt8.ofNat (refs / 256 % 256), UInt8.ofNat (refs % 256)] ++ data
theorem u8_small (n : Nat) (h : n < 256) : IntKind.u8.wrap (n : Int) = (n : Int) := by rw [IntKind.wrap_u8]; omega
theorem u8_mod (n : Nat) : IntKind.u8.wrap (n : Int) = ((n % 256 : Nat) : Int) := by rw [IntKind.wrap_u8]; omega
set_option maxRecDepth 100000 in
set_option maxHeartbeats 1000000 in
theorem keyof_any (sum : ByteArray) (n : Nat) (hn : n < 256) (hs : sum.size ≤ 1000000) (w : World) : Calls Tryd.prog 33 #[.agg #[.string sum, .int .i64 (n : Int)]] w fun e w' => e = .returned (.string (keyB sum n)) ∧ Below w.heap.size w w' := by
  obtain ⟨W1, hW1⟩ : ∃ W1, w.alloc (.cells #[.string sum, .int .i64 (n : Int)] 35) = W1 := ⟨_, rfl⟩
  have r1 : W1.heap[w.heap.size]? = some (.cells #[.string sum, .int .i64 (n : Int)] 35 (0, 0)) := by rw [← hW1]; exact heap_alloc_new w _
  have c0 : W1.cell? ⟨w.heap.size, 0, none⟩ = some (.string sum) := by rw [cell_of_row _ _ _ _ _ _ r1]; rfl
  have c1 : W1.cell? ⟨w.heap.size, 1, none⟩ = some (.int .i64 (n : Int)) := by rw [cell_of_row _ _ _ _ _ _ r1]; rfl
  have hb1 : Below w.heap.size w W1 := by rw [← hW1]; exact (Below.refl _ w).alloc (Nat.le_refl _) _
  obtain ⟨W2, hW2⟩ : ∃ W2, W1.alloc (.cells #[.int .u8 (n : Int)] 5) = W2 := ⟨_, rfl⟩
  have r2 : W2.heap[W1.heap.size]? = some (.cells #[.int .u8 (n : Int)] 5 (0, 0)) := by rw [← hW2]; exact heap_alloc_new W1 _
  have hcv := conv_one W2 W1.heap.size 1 n (by rw [cell_of_row _ _ _ _ _ _ r2]; rfl)
  have hu := u8_small n hn
  have HB : Hid (Below w.heap.size w W2) := by show Below _ _ _; rw [← hW2]; exact hb1.alloc hb1.size _
  obtain ⟨s1, hs1⟩ : ∃ s1, (⟨#[99]⟩ : ByteArray) ++ sum = s1 := ⟨_, rfl⟩
  have z1 : s1.size = 1 + sum.size := by rw [← hs1, ByteArray.size_append]; rfl
  obtain ⟨s2, hs2⟩ : ∃ s2, strOf [UInt8.ofNat n] = s2 := ⟨_, rfl⟩
  have z2 : s2.size = 1 := by rw [← hs2, strOf_size]; rfl
  rw [hs2] at hcv
  have hk : keyB sum n = s1 ++ s2 := by rw [← hs1, ← hs2]; rfl
  have HK : Hid (keyB sum n = s1 ++ s2) := hk
  have n1 : ¬ 9223372036854775807 < 1 + sum.size := by omega
  have n2 : ¬ 9223372036854775807 < s1.size + s2.size := by omega
  rw [hk]
  clear hk hs2 r1 r2 hb1 z1 z2 hn
  go_enter Tryd.func33, Tryd.ntmps33
  go_wp2
  go_ret
  exact ⟨rfl, HB.out⟩
set_option maxRecDepth 100000 in
set_option maxHeartbeats 1000000 in
theorem valueof_any (sum : ByteArray) (n r : Nat) (data : ByteArray) (hd : data.size ≤ 1000000) (w : World) : Calls Tryd.prog 45 #[.agg #[.string sum, .int .i64 (n : Int), .int .u32 (r : Int), .string data]] w fun e w' => e = .returned (.string (valB r data)) ∧ Below w.heap.size w w' := by
  obtain ⟨W1, hW1⟩ : ∃ W1, w.alloc (.cells #[.string sum, .int .i64 (n : Int), .int .u32 (r : Int), .string data] 78) = W1 := ⟨_, rfl⟩
  have r1 : W1.heap[w.heap.size]? = some (.cells #[.string sum, .int .i64 (n : Int), .int .u32 (r : Int), .string data] 78 (0, 0)) := by rw [← hW1]; exact heap_alloc_new w _
  have c2 : W1.cell? ⟨w.heap.size, 2, none⟩ = some (.int .u32 (r : Int)) := by rw [cell_of_row _ _ _ _ _ _ r1]; rfl
  have c3 : W1.cell? ⟨w.heap.size, 3, none⟩ = some (.string data) := by rw [cell_of_row _ _ _ _ _ _ r1]; rfl
  have hb1 : Below w.heap.size w W1 := by rw [← hW1]; exact (Below.refl _ w).alloc (Nat.le_refl _) _
  obtain ⟨q3, h3⟩ : ∃ q, r / 16777216 = q := ⟨_, rfl⟩
  obtain ⟨q2, h2⟩ : ∃ q, r / 65536 = q := ⟨_, rfl⟩
  obtain ⟨q1, h1⟩ : ∃ q, r / 256 = q := ⟨_, rfl⟩
  have e3 : (r : Int) / 16777216 = (q3 : Int) := by omega
  have e2 : (r : Int) / 65536 = (q2 : Int) := by omega
  have e1 : (r : Int) / 256 = (q1 : Int) := by omega
  obtain ⟨b3, g3⟩ : ∃ b, q3 % 256 = b := ⟨_, rfl⟩
  obtain ⟨b2, g2⟩ : ∃ b, q2 % 256 = b := ⟨_, rfl⟩
  obtain ⟨b1, g1⟩ : ∃ b, q1 % 256 = b := ⟨_, rfl⟩
  obtain ⟨b0, g0⟩ : ∃ b, r % 256 = b := ⟨_, rfl⟩
  have u3 : IntKind.u8.wrap (q3 : Int) = (b3 : Int) := by rw [u8_mod, g3]
  have u2 : IntKind.u8.wrap (q2 : Int) = (b2 : Int) := by rw [u8_mod, g2]
  have u1 : IntKind.u8.wrap (q1 : Int) = (b1 : Int) := by rw [u8_mod, g1]
  have u0 : IntKind.u8.wrap (r : Int) = (b0 : Int) := by rw [u8_mod, g0]
  obtain ⟨W2, hW2⟩ : ∃ W2, W1.alloc (.cells #[.int .u8 (b3 : Int), .int .u8 (b2 : Int), .int .u8 (b1 : Int), .int .u8 (b0 : Int)] 5) = W2 := ⟨_, rfl⟩
  have r2 : W2.heap[W1.heap.size]? = some (.cells #[.int .u8 (b3 : Int), .int .u8 (b2 : Int), .int .u8 (b1 : Int), .int .u8 (b0 : Int)] 5 (0, 0)) := by rw [← hW2]; exact heap_alloc_new W1 _
  have hcv : (convert 89 9 (.slice (some ⟨W1.heap.size, 0, none⟩) 4 4)).run Tryd.prog W2 = .ok (.string (strOf [UInt8.ofNat b3, UInt8.ofNat b2, UInt8.ofNat b1, UInt8.ofNat b0])) W2 := by
    have h5 := run_convert_bytes_arg (P := Tryd.prog) W2 89 5 Tryd.underlying89 Tryd.underlying5 W1.heap.size 0 4 4 [(b3 : Int), (b2 : Int), (b1 : Int), (b0 : Int)] rfl (fun i hi => by
      rw [Nat.zero_add, cell_of_row _ _ _ _ _ _ r2]
      have : i = 0 ∨ i = 1 ∨ i = 2 ∨ i = 3 := by omega
      rcases this with rfl | rfl | rfl | rfl <;> rfl) 9 Tryd.underlying9
    rw [h5]; rfl
  have HB : Hid (Below w.heap.size w W2) := by show Below _ _ _; rw [← hW2]; exact hb1.alloc hb1.size _
  have d3 : W2.cell? ⟨w.heap.size, 3, none⟩ = some (.string data) := by rw [← hW2, ((Below.refl W1.heap.size W1).alloc (Nat.le_refl _) _).cell (lt_of_some r1)]; exact c3
  have hv : valB r data = strOf [UInt8.ofNat b3, UInt8.ofNat b2, UInt8.ofNat b1, UInt8.ofNat b0] ++ data := by unfold valB; rw [h3, h2, h1, g3, g2, g1, g0]
  obtain ⟨s1, hs1⟩ : ∃ s1, strOf [UInt8.ofNat b3, UInt8.ofNat b2, UInt8.ofNat b1, UInt8.ofNat b0] = s1 := ⟨_, rfl⟩
  have z1 : s1.size = 4 := by rw [← hs1, strOf_size]; rfl
  rw [hs1] at hv hcv
  have n2 : ¬ 9223372036854775807 < s1.size + data.size := by omega
  rw [hv]
  clear hv hs1 r1 r2 hb1 z1 h3 h2 h1 g3 g2 g1 g0 hd
  go_enter Tryd.func45, Tryd.ntmps45
  go_wp2
  go_ret
  exact ⟨rfl, HB.out⟩
end Go.Proofs.YtjpkngbjjgimjaaDoor
