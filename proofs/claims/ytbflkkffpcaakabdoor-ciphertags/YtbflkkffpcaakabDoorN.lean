/- Plain mathematics of layer 2: words, mixing. No program is named here. -/
import Derived.Test.YtbflkkffpcaakabDoorM
namespace Go.Proofs.YtbflkkffpcaakabDoor
/-- A word turned by n bits. -/
def rotr (x n : Nat) : Nat := (x / 2 ^ n) ||| (x * 2 ^ (32 - n) % 4294967296)
theorem rotr_lt {x n : Nat} (hx : x < 4294967296) : rotr x n < 4294967296 := by
  unfold rotr
  refine Nat.or_lt_two_pow (n := 32) ?_ (Nat.mod_lt _ (by omega))
  exact Nat.lt_of_le_of_lt (Nat.div_le_self _ _) hx
theorem xor_lt {x y : Nat} (hx : x < 4294967296) (hy : y < 4294967296) : x ^^^ y < 4294967296 := Nat.xor_lt_two_pow (n := 32) hx hy
theorem and_lt {x y : Nat} (hx : x < 4294967296) : x &&& y < 4294967296 := Nat.lt_of_le_of_lt Nat.and_le_left hx
/-- The small mixtures of the schedule. -/
def ssig0 (x : Nat) : Nat := (rotr x 7 ^^^ rotr x 18) ^^^ x / 8
def ssig1 (x : Nat) : Nat := (rotr x 17 ^^^ rotr x 19) ^^^ x / 1024
/-- The great ones of a round. -/
def bsig0 (x : Nat) : Nat := (rotr x 2 ^^^ rotr x 13) ^^^ rotr x 22
def bsig1 (x : Nat) : Nat := (rotr x 6 ^^^ rotr x 11) ^^^ rotr x 25
def chN (x y z : Nat) : Nat := (x &&& y) ^^^ ((4294967295 - x) &&& z)
def majN (x y z : Nat) : Nat := ((x &&& y) ^^^ (x &&& z)) ^^^ (y &&& z)
theorem ssig0_lt {x : Nat} (hx : x < 4294967296) : ssig0 x < 4294967296 := xor_lt (xor_lt (rotr_lt hx) (rotr_lt hx)) (by omega)
theorem ssig1_lt {x : Nat} (hx : x < 4294967296) : ssig1 x < 4294967296 := xor_lt (xor_lt (rotr_lt hx) (rotr_lt hx)) (by omega)
theorem bsig0_lt {x : Nat} (hx : x < 4294967296) : bsig0 x < 4294967296 := xor_lt (xor_lt (rotr_lt hx) (rotr_lt hx)) (rotr_lt hx)
theorem bsig1_lt {x : Nat} (hx : x < 4294967296) : bsig1 x < 4294967296 := xor_lt (xor_lt (rotr_lt hx) (rotr_lt hx)) (rotr_lt hx)
theorem chN_lt {x y z : Nat} (hx : x < 4294967296) : chN x y z < 4294967296 := xor_lt (and_lt hx) (and_lt (by omega))
theorem majN_lt {x y z : Nat} (hx : x < 4294967296) (hy : y < 4294967296) : majN x y z < 4294967296 := xor_lt (xor_lt (and_lt hx) (and_lt hx)) (and_lt hy)

/-- The next word of a schedule that has t. -/
def nextW (l : List Nat) (t : Nat) : Nat := (l.getD (t - 16) 0 + l.getD (t - 7) 0 + ssig0 (l.getD (t - 15) 0) + ssig1 (l.getD (t - 2) 0)) % 4294967296
def schedL (m : List Nat) : Nat → List Nat
  | 0 => m
  | k + 1 => schedL m k ++ [nextW (schedL m k) (m.length + k)]
theorem schedL_len (m : List Nat) (k : Nat) : (schedL m k).length = m.length + k := by
  induction k with
  | zero => rfl
  | succ k ih => simp [schedL, ih]; omega
/-- All words are words. -/
def Wd (l : List Nat) : Prop := ∀ x ∈ l, x < 4294967296
theorem Wd.getD {l : List Nat} (h : Wd l) (i : Nat) : l.getD i 0 < 4294967296 := by
  rw [List.getD_eq_getElem?_getD]
  by_cases hi : i < l.length
  · rw [List.getElem?_eq_getElem hi]; exact h _ (List.getElem_mem hi)
  · rw [List.getElem?_eq_none (by omega)]; simp
theorem Wd.append {l m : List Nat} (h : Wd l) (h' : Wd m) : Wd (l ++ m) := by
  intro x hx; rcases List.mem_append.1 hx with h1 | h1
  · exact h x h1
  · exact h' x h1
theorem schedL_wd {m : List Nat} (h : Wd m) (k : Nat) : Wd (schedL m k) := by
  induction k with
  | zero => exact h
  | succ k ih =>
    refine ih.append ?_
    intro x hx
    rw [List.mem_singleton.1 hx]
    exact Nat.mod_lt _ (by omega)

/-- One round over a state of eight words. -/
def rnd (k w : Nat) (z : List Nat) : List Nat :=
  let a := z.getD 0 0; let b := z.getD 1 0; let c := z.getD 2 0; let d := z.getD 3 0; let e := z.getD 4 0; let f := z.getD 5 0; let g := z.getD 6 0; let h := z.getD 7 0
  let u := (h + bsig1 e + chN e f g + k + w) % 4294967296
  let v := (bsig0 a + majN a b c) % 4294967296
  [(u + v) % 4294967296, a, b, c, (d + u) % 4294967296, e, f, g]
def rnds (ks ws : List Nat) : Nat → List Nat → List Nat
  | 0, z => z
  | n + 1, z => rnd (ks.getD n 0) (ws.getD n 0) (rnds ks ws n z)
/-- Eight words. -/
def Eight (z : List Nat) : Prop := ∃ a b c d e f g h, z = [a, b, c, d, e, f, g, h] ∧ Wd [a, b, c, d, e, f, g, h]
theorem rnd_eight (k w : Nat) (z : List Nat) (hz : Eight z) : Eight (rnd k w z) := by
  obtain ⟨a, b, c, d, e, f, g, h, rfl, hw⟩ := hz
  refine ⟨_, _, _, _, _, _, _, _, rfl, ?_⟩
  simp only [Wd, List.mem_cons, List.not_mem_nil, or_false, forall_eq_or_imp, forall_eq] at hw ⊢
  obtain ⟨wa, wb, wc, wd, we, wf, wg, wh⟩ := hw
  exact ⟨Nat.mod_lt _ (by omega), wa, wb, wc, Nat.mod_lt _ (by omega), we, wf, wg⟩
theorem rnds_eight (ks ws : List Nat) (n : Nat) (z : List Nat) (hz : Eight z) : Eight (rnds ks ws n z) := by
  induction n with
  | zero => exact hz
  | succ n ih => exact rnd_eight _ _ _ ih
/-- The words of 64 bytes. -/
def wordsOf (b : List UInt8) : List Nat := (List.range 16).map fun t => (b.getD (4 * t) 0).toNat * 16777216 + (b.getD (4 * t + 1) 0).toNat * 65536 + (b.getD (4 * t + 2) 0).toNat * 256 + (b.getD (4 * t + 3) 0).toNat
theorem wordsOf_wd (b : List UInt8) : Wd (wordsOf b) := by
  intro x hx
  obtain ⟨t, _, rfl⟩ := List.mem_map.1 hx
  have h0 := (b.getD (4 * t) 0).toNat_lt
  have h1 := (b.getD (4 * t + 1) 0).toNat_lt
  have h2 := (b.getD (4 * t + 2) 0).toNat_lt
  have h3 := (b.getD (4 * t + 3) 0).toNat_lt
  omega
def sumW (s z : List Nat) : List Nat := List.zipWith (fun x y => (x + y) % 4294967296) s z
theorem sumW_step (s z : List Nat) (t : Nat) (hs : t < s.length) (hz : t < z.length) :
    ((sumW s z).take t ++ s.drop t).getD t 0 = s.getD t 0 ∧ ((sumW s z).take t ++ s.drop t).set t ((s.getD t 0 + z.getD t 0) % 4294967296) = (sumW s z).take (t + 1) ++ s.drop (t + 1) := by
  have hl : (sumW s z).length = min s.length z.length := by simp [sumW]
  have ht : ((sumW s z).take t).length = t := by simp [hl]; omega
  have hd : s.drop t = s[t] :: s.drop (t + 1) := List.drop_eq_getElem_cons hs
  have hg : s.getD t 0 = s[t] := by simp [hs]
  constructor
  · rw [List.getD_eq_getElem?_getD, List.getElem?_append_right (by omega), ht, Nat.sub_self, hd]
    simp [hs]
  · rw [List.set_append_right _ _ (by omega), ht, Nat.sub_self, hd, List.set_cons_zero, List.take_add_one]
    have : (sumW s z)[t]? = some ((s.getD t 0 + z.getD t 0) % 4294967296) := by
      simp [sumW, List.getElem?_zipWith, hs, hz]
    rw [this]
    simp
def mixL (ks s : List Nat) (b : List UInt8) : List Nat := sumW s (rnds ks (schedL (wordsOf b) 48) 64 s)
end Go.Proofs.YtbflkkffpcaakabDoor
