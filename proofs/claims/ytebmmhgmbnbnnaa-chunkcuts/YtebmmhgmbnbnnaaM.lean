/- Weak sums as mathematics. -/
namespace Go.Proofs.Ytebmmhgmbnbnnaa
/-- The sum of bytes. -/
def wa : List UInt8 → Nat
  | [] => 0
  | x :: l => x.toNat + wa l
/-- The sum of each byte times how many stand from it on. -/
def wb : List UInt8 → Nat
  | [] => 0
  | x :: l => x.toNat * (l.length + 1) + wb l
/-- The weak sum. -/
def wsum (l : List UInt8) : Nat := wa l % 65536 + 65536 * (wb l % 65536)
theorem wsum_lt (l : List UInt8) : wsum l < 4294967296 := by unfold wsum; omega
theorem wsum_a (l : List UInt8) : wsum l % 65536 = wa l % 65536 := by unfold wsum; omega
theorem wsum_b (l : List UInt8) : wsum l / 65536 = wb l % 65536 := by unfold wsum; omega
theorem wa_append (l m : List UInt8) : wa (l ++ m) = wa l + wa m := by
  induction l with
  | nil => simp [wa]
  | cons x l ih => rw [List.cons_append, wa, wa, ih]; omega
theorem wb_append (l m : List UInt8) : wb (l ++ m) = wb l + wa l * m.length + wb m := by
  induction l with
  | nil => simp [wb, wa]
  | cons x l ih =>
    rw [List.cons_append, wb, wb, wa, ih, List.length_append, Nat.add_mul, show x.toNat * (l.length + m.length + 1) = x.toNat * (l.length + 1) + x.toNat * m.length by rw [← Nat.mul_add]; congr 1; omega]
    omega
theorem wa_snoc (l : List UInt8) (c : UInt8) : wa (l ++ [c]) = wa l + c.toNat := by rw [wa_append]; simp [wa]
theorem wb_snoc (l : List UInt8) (c : UInt8) : wb (l ++ [c]) = wb l + wa l + c.toNat := by rw [wb_append]; simp [wb]
theorem wa_le (l : List UInt8) : wa l ≤ 255 * l.length := by
  induction l with
  | nil => simp [wa]
  | cons x l ih => have := x.toNat_lt; rw [wa, List.length_cons]; omega
theorem wb_le (l : List UInt8) : wb l ≤ 255 * l.length * l.length := by
  induction l with
  | nil => simp [wb]
  | cons x l ih =>
    have hx : x.toNat ≤ 255 := by have := x.toNat_lt; omega
    rw [wb, List.length_cons]
    have h1 : x.toNat * (l.length + 1) ≤ 255 * (l.length + 1) := Nat.mul_le_mul_right _ hx
    have h2 : 255 * l.length * l.length ≤ 255 * (l.length + 1) * l.length := Nat.mul_le_mul_right _ (by omega)
    have h3 : 255 * (l.length + 1) * (l.length + 1) = 255 * (l.length + 1) * l.length + 255 * (l.length + 1) := by rw [Nat.mul_add, Nat.mul_one]
    omega
/-- What comes behind a sum: of any numbers. -/
def nextA (s : Nat) (o i : Nat) : Int := ((s % 65536 : Nat) - (o : Int) + (i : Int)) % 65536
def nextB (s : Nat) (size : Int) (o i : Nat) : Int := ((s / 65536 : Nat) - size * (o : Int) + nextA s o i) % 65536
def nextI (s : Nat) (size : Int) (o i : Nat) : Int := nextA s o i + 65536 * nextB s size o i
/-- Two sums together. -/
def joinA (x y : Nat) : Int := ((x % 65536 : Nat) + (y % 65536 : Nat) : Int) % 65536
def joinB (x y : Nat) (size : Int) : Int := ((x / 65536 : Nat) + (y / 65536 : Nat) + size * (x % 65536 : Nat) : Int) % 65536
def joinI (x y : Nat) (size : Int) : Int := joinA x y + 65536 * joinB x y size
theorem next_wsum (x : UInt8) (l : List UInt8) (c : UInt8) : nextI (wsum (x :: l)) ((l.length + 1 : Nat) : Int) x.toNat c.toNat = (wsum (l ++ [c]) : Int) := by
  have ha : nextA (wsum (x :: l)) x.toNat c.toNat = ((wa (l ++ [c]) % 65536 : Nat) : Int) := by
    unfold nextA
    rw [wsum_a, wa_snoc, wa]
    omega
  have hb : nextB (wsum (x :: l)) ((l.length + 1 : Nat) : Int) x.toNat c.toNat = ((wb (l ++ [c]) % 65536 : Nat) : Int) := by
    unfold nextB
    rw [ha, wsum_b, wb_snoc, wa_snoc, wb]
    obtain ⟨P, hP⟩ : ∃ P : Nat, x.toNat * (l.length + 1) = P := ⟨_, rfl⟩
    have hQ : ((l.length + 1 : Nat) : Int) * (x.toNat : Int) = (P : Int) := by
      rw [← hP, Nat.mul_comm x.toNat]; simp
    rw [hP, hQ]
    omega
  unfold nextI
  rw [ha, hb]
  unfold wsum
  omega
theorem join_wsum (l m : List UInt8) : joinI (wsum l) (wsum m) (m.length : Int) = (wsum (l ++ m) : Int) := by
  have ha : joinA (wsum l) (wsum m) = ((wa (l ++ m) % 65536 : Nat) : Int) := by
    unfold joinA
    rw [wsum_a, wsum_a, wa_append]
    omega
  have hb : joinB (wsum l) (wsum m) (m.length : Int) = ((wb (l ++ m) % 65536 : Nat) : Int) := by
    unfold joinB
    rw [wsum_b, wsum_b, wsum_a, wb_append]
    obtain ⟨q, hq⟩ : ∃ q : Nat, wa l = 65536 * q + wa l % 65536 := ⟨wa l / 65536, by omega⟩
    obtain ⟨r, hr⟩ : ∃ r, wa l % 65536 = r := ⟨_, rfl⟩
    rw [hr] at hq ⊢
    obtain ⟨P, hP⟩ : ∃ P : Nat, r * m.length = P := ⟨_, rfl⟩
    have h1 : wa l * m.length = 65536 * (q * m.length) + P := by rw [hq, Nat.add_mul, hP, Nat.mul_assoc]
    have h2 : (m.length : Int) * (r : Int) = (P : Int) := by rw [← hP, Nat.mul_comm]; simp
    rw [h1, h2]
    obtain ⟨Z, hZ⟩ : ∃ Z, q * m.length = Z := ⟨_, rfl⟩
    rw [hZ]
    omega
  unfold joinI
  rw [ha, hb]
  unfold wsum
  omega
/-- Two bytes exchanged: the sum of bytes stays, the other grows by their difference. -/
theorem wa_swap (l m : List UInt8) (x y : UInt8) : wa (l ++ y :: x :: m) = wa (l ++ x :: y :: m) := by
  rw [wa_append, wa_append, wa, wa, wa, wa]; omega
theorem wb_swap (l m : List UInt8) (x y : UInt8) : wb (l ++ y :: x :: m) + x.toNat = wb (l ++ x :: y :: m) + y.toNat := by
  rw [wb_append, wb_append, wb, wb, wb, wb]
  simp only [List.length_cons, Nat.mul_add, Nat.mul_one]
  omega
end Go.Proofs.Ytebmmhgmbnbnnaa
