/- Is a token right. -/
import Derived.Test.YtekbmdpokghmmaaLX
namespace Go.Proofs.Ytekbmdpokghmmaa
open Go.RowKit Lz
def RT.own (t : RT) : Prop := 1 ≤ t.d.length ∧ t.d.length ≤ 128 ∧ t.b = 0 ∧ t.s = 0
def RT.ear (t : RT) : Prop := t.d = [] ∧ 3 ≤ t.s ∧ t.s ≤ 130 ∧ 1 ≤ t.b ∧ t.b ≤ 65536
def RT.ok (t : RT) : Prop := t.own ∨ t.ear
def RT.tk (t : RT) : Tk := ⟨t.b.toNat, t.s.toNat, t.d⟩
theorem RT.ok.tok {t : RT} (h : t.ok) : t.tk.Ok ∧ t.b = (t.tk.b : Int) ∧ t.s = (t.tk.s : Int) := by
  rcases h with h | h
  · refine ⟨.inl ⟨h.1, h.2.1, by show t.b.toNat = 0; rw [h.2.2.1]; rfl, by show t.s.toNat = 0; rw [h.2.2.2]; rfl⟩, by show t.b = ((t.b.toNat : Nat) : Int); rw [h.2.2.1]; rfl, by show t.s = ((t.s.toNat : Nat) : Int); rw [h.2.2.2]; rfl⟩
  · obtain ⟨h1, h2, h3, h4, h5⟩ := h
    refine ⟨.inr ⟨h1, ?_, ?_, ?_, ?_⟩, ?_, ?_⟩
    · show 3 ≤ t.s.toNat; omega
    · show t.s.toNat ≤ 130; omega
    · show 1 ≤ t.b.toNat; omega
    · show t.b.toNat ≤ 65536; omega
    · show t.b = ((t.b.toNat : Nat) : Int); omega
    · show t.s = ((t.s.toNat : Nat) : Int); omega
/-- A question's answer. -/
def BoTo (w : World) (p : Prop) (e : Ending) (w' : World) : Prop := ∃ r, e = .returned (.bool r) ∧ (r = true ↔ p) ∧ Below w.heap.size w w'
theorem nil_str {d : List UInt8} (h : ¬ d = []) : (strOf d).toList.isEmpty = false := by
  rw [ByteArray.toList_eq]
  show d.isEmpty = false
  cases d with
  | nil => exact absurd rfl h
  | cons => rfl
set_option maxRecDepth 100000 in
set_option maxHeartbeats 2000000 in
theorem isOwn_any (t : RT) (w : World) : Calls Try.prog 30 #[.agg #[.int .i64 t.b, .int .i64 t.s, .string (strOf t.d)]] w (BoTo w t.own) := by
  obtain ⟨b, s, d⟩ := t
  simp only
  have hz : (strOf d).size = d.length := strOf_size d
  by_cases h1 : 1 ≤ d.length
  rotate_left
  · have HNO : Hid (¬ RT.own ⟨b, s, d⟩) := fun h => h1 h.1
    have k1 : ¬ (1 : Int) ≤ ((strOf d).size : Int) := by omega
    have j1 : ¬ 1 ≤ (strOf d).size := by omega
    generalize strOf d = T at *
    go_enter Try.func30, Try.ntmps30
    go_wp2
    go_ret
    exact ⟨false, rfl, ⟨fun h => (by cases h), fun h => absurd h HNO.out⟩, (Below.refl _ w).alloc (Nat.le_refl _) _⟩
  have k1 : (1 : Int) ≤ ((strOf d).size : Int) := by omega
  have j1 : 1 ≤ (strOf d).size := by omega
  by_cases h2 : d.length ≤ 128
  rotate_left
  · have HNO : Hid (¬ RT.own ⟨b, s, d⟩) := fun h => h2 h.2.1
    have k2 : ¬ ((strOf d).size : Int) ≤ 128 := by omega
    have j2 : ¬ (strOf d).size ≤ 128 := by omega
    generalize strOf d = T at *
    go_enter Try.func30, Try.ntmps30
    go_wp2
    go_ret
    exact ⟨false, rfl, ⟨fun h => (by cases h), fun h => absurd h HNO.out⟩, (Below.refl _ w).alloc (Nat.le_refl _) _⟩
  have k2 : ((strOf d).size : Int) ≤ 128 := by omega
  have j2 : (strOf d).size ≤ 128 := by omega
  by_cases h3 : b = 0
  rotate_left
  · have HNO : Hid (¬ RT.own ⟨b, s, d⟩) := fun h => h3 h.2.2.1
    have k3 : (b == 0) = false := by simpa using h3
    generalize strOf d = T at *
    go_enter Try.func30, Try.ntmps30
    go_wp2
    go_ret
    exact ⟨false, rfl, ⟨fun h => (by cases h), fun h => absurd h HNO.out⟩, (Below.refl _ w).alloc (Nat.le_refl _) _⟩
  subst h3
  by_cases h4 : s = 0
  rotate_left
  · have HNO : Hid (¬ RT.own ⟨0, s, d⟩) := fun h => h4 h.2.2.2
    have k4 : (s == 0) = false := by simpa using h4
    generalize strOf d = T at *
    go_enter Try.func30, Try.ntmps30
    go_wp2
    go_ret
    exact ⟨false, rfl, ⟨fun h => (by cases h), fun h => absurd h HNO.out⟩, (Below.refl _ w).alloc (Nat.le_refl _) _⟩
  subst h4
  have HYE : Hid (RT.own ⟨0, 0, d⟩) := ⟨h1, h2, rfl, rfl⟩
  generalize strOf d = T at *
  go_enter Try.func30, Try.ntmps30
  go_wp2
  go_ret
  exact ⟨true, rfl, ⟨fun _ => HYE.out, fun _ => rfl⟩, (Below.refl _ w).alloc (Nat.le_refl _) _⟩
set_option maxRecDepth 100000 in
set_option maxHeartbeats 2000000 in
theorem isEar_any (t : RT) (w : World) : Calls Try.prog 31 #[.agg #[.int .i64 t.b, .int .i64 t.s, .string (strOf t.d)]] w (BoTo w t.ear) := by
  obtain ⟨b, s, d⟩ := t
  simp only
  have hz : (strOf d).size = d.length := strOf_size d
  clear hz
  by_cases h0 : d = []
  rotate_left
  · have HNO : Hid (¬ RT.ear ⟨b, s, d⟩) := fun h => h0 h.1
    have hem := nil_str h0
    try (have e0 : strOf [] = ⟨#[]⟩ := rfl; rw [e0])
    go_enter Try.func31, Try.ntmps31
    go_wp2
    go_ret
    exact ⟨false, rfl, ⟨fun h => (by cases h), fun h => absurd h HNO.out⟩, (Below.refl _ w).alloc (Nat.le_refl _) _⟩
  subst h0
  by_cases h1 : 3 ≤ s
  rotate_left
  · have HNO : Hid (¬ RT.ear ⟨b, s, []⟩) := fun h => h1 h.2.1
    have k1 : ¬ (3 : Int) ≤ s := h1
    try (have e0 : strOf [] = ⟨#[]⟩ := rfl; rw [e0])
    go_enter Try.func31, Try.ntmps31
    go_wp2
    go_ret
    exact ⟨false, rfl, ⟨fun h => (by cases h), fun h => absurd h HNO.out⟩, (Below.refl _ w).alloc (Nat.le_refl _) _⟩
  have k1 : (3 : Int) ≤ s := h1
  by_cases h2 : s ≤ 130
  rotate_left
  · have HNO : Hid (¬ RT.ear ⟨b, s, []⟩) := fun h => h2 h.2.2.1
    have k2 : ¬ s ≤ 130 := h2
    try (have e0 : strOf [] = ⟨#[]⟩ := rfl; rw [e0])
    go_enter Try.func31, Try.ntmps31
    go_wp2
    go_ret
    exact ⟨false, rfl, ⟨fun h => (by cases h), fun h => absurd h HNO.out⟩, (Below.refl _ w).alloc (Nat.le_refl _) _⟩
  have k2 : s ≤ 130 := h2
  by_cases h3 : 1 ≤ b
  rotate_left
  · have HNO : Hid (¬ RT.ear ⟨b, s, []⟩) := fun h => h3 h.2.2.2.1
    have k3 : ¬ (1 : Int) ≤ b := h3
    try (have e0 : strOf [] = ⟨#[]⟩ := rfl; rw [e0])
    go_enter Try.func31, Try.ntmps31
    go_wp2
    go_ret
    exact ⟨false, rfl, ⟨fun h => (by cases h), fun h => absurd h HNO.out⟩, (Below.refl _ w).alloc (Nat.le_refl _) _⟩
  have k3 : (1 : Int) ≤ b := h3
  by_cases h4 : b ≤ 65536
  rotate_left
  · have HNO : Hid (¬ RT.ear ⟨b, s, []⟩) := fun h => h4 h.2.2.2.2
    have k4 : ¬ b ≤ 65536 := h4
    try (have e0 : strOf [] = ⟨#[]⟩ := rfl; rw [e0])
    go_enter Try.func31, Try.ntmps31
    go_wp2
    go_ret
    exact ⟨false, rfl, ⟨fun h => (by cases h), fun h => absurd h HNO.out⟩, (Below.refl _ w).alloc (Nat.le_refl _) _⟩
  have k4 : b ≤ 65536 := h4
  have HYE : Hid (RT.ear ⟨b, s, []⟩) := ⟨rfl, h1, h2, h3, h4⟩
  try (have e0 : strOf [] = ⟨#[]⟩ := rfl; rw [e0])
  go_enter Try.func31, Try.ntmps31
  go_wp2
  go_ret
  exact ⟨true, rfl, ⟨fun _ => HYE.out, fun _ => rfl⟩, (Below.refl _ w).alloc (Nat.le_refl _) _⟩
set_option maxRecDepth 100000 in
set_option maxHeartbeats 2000000 in
theorem right_any (t : RT) (w : World) : Calls Try.prog 33 #[.agg #[.int .i64 t.b, .int .i64 t.s, .string (strOf t.d)]] w (BoTo w t.ok) := by
  obtain ⟨b, s, d⟩ := t
  simp only
  have hz : (strOf d).size = d.length := strOf_size d
  by_cases h0 : d = []
  · subst h0
    clear hz
    by_cases h1 : 3 ≤ s
    rotate_left
    · have HNO : Hid (¬ RT.ok ⟨b, s, []⟩) := fun h => (by rcases h with h | h; exact absurd h.1 (by simp); exact h1 h.2.1)
      have k1 : ¬ (3 : Int) ≤ s := h1
      try (have e0 : strOf [] = ⟨#[]⟩ := rfl; rw [e0])
      go_enter Try.func33, Try.ntmps33
      go_wp2
      go_ret
      exact ⟨false, rfl, ⟨fun h => (by cases h), fun h => absurd h HNO.out⟩, (Below.refl _ w).alloc (Nat.le_refl _) _⟩
    have k1 : (3 : Int) ≤ s := h1
    by_cases h2 : s ≤ 130
    rotate_left
    · have HNO : Hid (¬ RT.ok ⟨b, s, []⟩) := fun h => (by rcases h with h | h; exact absurd h.1 (by simp); exact h2 h.2.2.1)
      have k2 : ¬ s ≤ 130 := h2
      try (have e0 : strOf [] = ⟨#[]⟩ := rfl; rw [e0])
      go_enter Try.func33, Try.ntmps33
      go_wp2
      go_ret
      exact ⟨false, rfl, ⟨fun h => (by cases h), fun h => absurd h HNO.out⟩, (Below.refl _ w).alloc (Nat.le_refl _) _⟩
    have k2 : s ≤ 130 := h2
    by_cases h3 : 1 ≤ b
    rotate_left
    · have HNO : Hid (¬ RT.ok ⟨b, s, []⟩) := fun h => (by rcases h with h | h; exact absurd h.1 (by simp); exact h3 h.2.2.2.1)
      have k3 : ¬ (1 : Int) ≤ b := h3
      try (have e0 : strOf [] = ⟨#[]⟩ := rfl; rw [e0])
      go_enter Try.func33, Try.ntmps33
      go_wp2
      go_ret
      exact ⟨false, rfl, ⟨fun h => (by cases h), fun h => absurd h HNO.out⟩, (Below.refl _ w).alloc (Nat.le_refl _) _⟩
    have k3 : (1 : Int) ≤ b := h3
    by_cases h4 : b ≤ 65536
    rotate_left
    · have HNO : Hid (¬ RT.ok ⟨b, s, []⟩) := fun h => (by rcases h with h | h; exact absurd h.1 (by simp); exact h4 h.2.2.2.2)
      have k4 : ¬ b ≤ 65536 := h4
      try (have e0 : strOf [] = ⟨#[]⟩ := rfl; rw [e0])
      go_enter Try.func33, Try.ntmps33
      go_wp2
      go_ret
      exact ⟨false, rfl, ⟨fun h => (by cases h), fun h => absurd h HNO.out⟩, (Below.refl _ w).alloc (Nat.le_refl _) _⟩
    have k4 : b ≤ 65536 := h4
    have HYE : Hid (RT.ok ⟨b, s, []⟩) := .inr ⟨rfl, h1, h2, h3, h4⟩
    try (have e0 : strOf [] = ⟨#[]⟩ := rfl; rw [e0])
    go_enter Try.func33, Try.ntmps33
    go_wp2
    go_ret
    exact ⟨true, rfl, ⟨fun _ => HYE.out, fun _ => rfl⟩, (Below.refl _ w).alloc (Nat.le_refl _) _⟩
  · have hem := nil_str h0
    have hd1 : 1 ≤ d.length := by
      cases d with
      | nil => exact absurd rfl h0
      | cons => simp
    by_cases h2 : d.length ≤ 128
    rotate_left
    · have HNO : Hid (¬ RT.ok ⟨b, s, d⟩) := fun h => (by rcases h with h | h; exact h2 h.2.1; exact h0 h.1)
      have k2 : ¬ ((strOf d).size : Int) ≤ 128 := by omega
      have j2 : ¬ (strOf d).size ≤ 128 := by omega
      generalize strOf d = T at *
      go_enter Try.func33, Try.ntmps33
      go_wp2
      go_ret
      exact ⟨false, rfl, ⟨fun h => (by cases h), fun h => absurd h HNO.out⟩, (Below.refl _ w).alloc (Nat.le_refl _) _⟩
    have k2 : ((strOf d).size : Int) ≤ 128 := by omega
    have j2 : (strOf d).size ≤ 128 := by omega
    by_cases h3 : b = 0
    rotate_left
    · have HNO : Hid (¬ RT.ok ⟨b, s, d⟩) := fun h => (by rcases h with h | h; exact h3 h.2.2.1; exact h0 h.1)
      have k3 : (b == 0) = false := by simpa using h3
      generalize strOf d = T at *
      go_enter Try.func33, Try.ntmps33
      go_wp2
      go_ret
      exact ⟨false, rfl, ⟨fun h => (by cases h), fun h => absurd h HNO.out⟩, (Below.refl _ w).alloc (Nat.le_refl _) _⟩
    subst h3
    by_cases h4 : s = 0
    rotate_left
    · have HNO : Hid (¬ RT.ok ⟨0, s, d⟩) := fun h => (by rcases h with h | h; exact h4 h.2.2.2; exact h0 h.1)
      have k4 : (s == 0) = false := by simpa using h4
      generalize strOf d = T at *
      go_enter Try.func33, Try.ntmps33
      go_wp2
      go_ret
      exact ⟨false, rfl, ⟨fun h => (by cases h), fun h => absurd h HNO.out⟩, (Below.refl _ w).alloc (Nat.le_refl _) _⟩
    subst h4
    have HYE : Hid (RT.ok ⟨0, 0, d⟩) := .inl ⟨hd1, h2, rfl, rfl⟩
    generalize strOf d = T at *
    go_enter Try.func33, Try.ntmps33
    go_wp2
    go_ret
    exact ⟨true, rfl, ⟨fun _ => HYE.out, fun _ => rfl⟩, (Below.refl _ w).alloc (Nat.le_refl _) _⟩
end Go.Proofs.Ytekbmdpokghmmaa
