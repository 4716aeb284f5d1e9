/- Walk over the document's Words. Walk over the document's Pad. The document's Sum: what it is, and its memory. Walks over the program's isPrime, primeAbove, Prime. Walks over math/bits.Mul64, Add64, and the program's notAbove, squareFits, cubeFits. Walks over the program's Root. -/
import Derived.Test.YtcmdcmbiilfngabDoorC
import Derived.Test.YtcmdcmbiilfngabDoorW
import Derived.Lib.SlBytesRow
import Derived.Laws.Externs
import Derived.Laws.ShiftsVarLaws
namespace Go.Proofs.YtcmdcmbiilfngabDoor
open Go.RowKit
/-- The cube roots' words of the first 64 primes. -/
def kL : List Nat := (List.range 64).map fun i => rootW (primeN i) true
theorem kL_len : kL.length = 64 := by simp [kL]
theorem rootW_lt (p : Nat) (c : Bool) : rootW p c < 4294967296 := Nat.mod_lt _ (by omega)
theorem kL_wd : Wd kL := by
  intro x hx
  obtain ⟨i, _, rfl⟩ := List.mem_map.1 hx
  exact rootW_lt _ _
theorem kL_snoc (n : Nat) (h : n < 64) : kL.take (n + 1) = kL.take n ++ [rootW (primeN n) true] := by
  rw [List.take_add_one]
  simp [kL, List.getElem?_range h]
theorem u32v_size (l : List Nat) : (u32v l).size = l.length := by simp [u32v]
theorem u32v_all (l : List Nat) : (u32v l).all (·.oneCell') = true := by
  simp [u32v, Value.oneCell']
/-- The memory of Words: two arrays. -/
structure WordsW (g : Nat) (w0 : World) (rs ws : List Nat) (wr : World) : Prop where
  rc : wr.heap[g]? = some (.cells (u32v rs) 104 (0, 0))
  wc : wr.heap[g + 1]? = some (.cells (u32v ws) 104 (0, 0))
  sz : wr.heap.size = g + 2
  bl : Below g w0 wr
theorem WordsW.start (w : World) (rs ws : List Nat) : WordsW w.heap.size w rs ws ((w.alloc (.cells (u32v rs) 104)).alloc (.cells (u32v ws) 104)) := by
  have sz : ∀ (w : World) (o : Obj), (w.alloc o).heap.size = w.heap.size + 1 := fun w o => by simp
  refine ⟨?_, ?_, ?_, ?_⟩
  · rw [Go.heap_alloc_old _ _ (by simp only [sz]; omega)]; exact heap_alloc_new _ _
  · exact sz w _ ▸ heap_alloc_new _ _
  · simp only [sz]
  · exact ((Below.refl _ w).alloc (by omega) _).alloc (by simp only [sz]; omega) _
section
variable {g : Nat} {w0 : World} {rs ws : List Nat} {wr : World}
theorem WordsW.wcell (h : WordsW g w0 rs ws wr) (i : Nat) (hi : i < ws.length) : wr.cell? ⟨g + 1, i, none⟩ = some (.int .u32 ((ws.getD i 0 : Nat) : Int)) := by
  rw [cell_of_row wr (g + 1) i _ _ _ h.wc, u32v_get ws i hi]
theorem WordsW.wfro (h : WordsW g w0 rs ws wr) (i : Nat) : wr.frozen? ⟨g + 1, i, none⟩ = false := frozen_of_row wr (g + 1) i _ _ h.wc
theorem WordsW.wput (h : WordsW g w0 rs ws wr) (i x : Nat) : WordsW g w0 rs (ws.set i x) (wr.setCell ⟨g + 1, i, none⟩ (.int .u32 (x : Int))) := by
  refine ⟨?_, ?_, ?_, ?_⟩
  · rw [heap_setCell_other _ _ _ _ (by show g ≠ g + 1; omega)]; exact h.rc
  · rw [heap_setCell_same wr (g + 1) i _ _ _ h.wc, u32v_set]
  · rw [World.size_setCell]; exact h.sz
  · exact h.bl.setCell (by show g ≤ g + 1; omega) _
theorem below_setRow {B : Nat} {a w : World} (h : Below B a w) (g : Nat) (hg : B ≤ g) (cs : Array Value) : Below B a (w.setRow g cs) :=
  ⟨h.os, h.tape, h.output, by rw [size_setRow]; exact h.size, fun k hk => by rw [setRow_other w g k cs (by omega)]; exact h.block k hk⟩
end
end Go.Proofs.YtcmdcmbiilfngabDoor
namespace Go.Proofs.YtcmdcmbiilfngabDoor
open Go.RowKit
def strOf (bs : List UInt8) : ByteArray := ⟨bs.toArray⟩
theorem strOf_append (a b : List UInt8) : strOf (a ++ b) = strOf a ++ strOf b := by
  apply ByteArray.ext; simp [strOf]
theorem strOf_size (a : List UInt8) : (strOf a).size = a.length := by simp [strOf, ByteArray.size]
theorem strOf_list (a : List UInt8) : (strOf a).data.toList = a := rfl
theorem strOf_of (b : ByteArray) : strOf b.data.toList = b := rfl

/-- The bytes of padding: how many noughts; a number's eight bytes, the greatest first. -/
def padZ (n : Nat) : Nat := (119 - n % 64) % 64
def beN : Nat → Nat → List UInt8
  | 0, _ => []
  | k + 1, m => beN k (m / 256) ++ [UInt8.ofNat (m % 256)]
theorem beN_len (k m : Nat) : (beN k m).length = k := by
  induction k generalizing m with
  | zero => rfl
  | succ k ih => simp [beN, ih]
def padL (n : Nat) : List UInt8 := 128 :: List.replicate (padZ n) 0 ++ beN 8 (n * 8 % 18446744073709551616)
/-- From the low end: the byte of m / 256^k goes ahead of the k bytes. -/
theorem beN_front (k m : Nat) : beN (k + 1) m = UInt8.ofNat (m / 256 ^ k % 256) :: beN k m := by
  induction k generalizing m with
  | zero => simp [beN]
  | succ k ih =>
    rw [beN, ih (m / 256), beN, Nat.div_div_eq_div_mul, ← Nat.pow_succ']
    rfl
/-- One byte, made a string. -/
theorem conv_one (W : World) (g c x : Nat) (h : W.cell? ⟨g, 0, none⟩ = some (.int .u8 (x : Int))) : (convert 25 9 (.slice (some ⟨g, 0, none⟩) 1 c)).run Tryd.prog W = .ok (.string (strOf [UInt8.ofNat x])) W := by
  have := run_convert_bytes_arg (P := Tryd.prog) W 25 5 Tryd.underlying25 Tryd.underlying5 g 0 1 c [(x : Int)] rfl (fun i hi => by
    obtain rfl : i = 0 := by omega
    simpa using h) 9 Tryd.underlying9
  rw [this]; rfl
theorem pad_ne {R k : Nat} (hR : R < 64) (hk : k < (119 - R) % 64) : ¬ (R + (k + 1)) % 64 = 56 := by omega
theorem pad_eq {R : Nat} (hR : R < 64) : (R + ((119 - R) % 64 + 1)) % 64 = 56 := by omega

end Go.Proofs.YtcmdcmbiilfngabDoor
namespace Go.Proofs.YtcmdcmbiilfngabDoor
open Go.RowKit
/-- The square roots' words of the first eight primes. -/
def ivL : List Nat := (List.range 8).map fun i => rootW (primeN i) false
theorem ivL_len : ivL.length = 8 := by simp [ivL]
theorem ivL_snoc (n : Nat) (h : n < 8) : ivL.take (n + 1) = ivL.take n ++ [rootW (primeN n) false] := by
  rw [List.take_add_one]
  simp [ivL, List.getElem?_range h]
theorem ivL_wd : Wd ivL := by
  intro x hx
  obtain ⟨i, _, rfl⟩ := List.mem_map.1 hx
  exact rootW_lt _ _
/-- Of 64 bytes each the state, one behind the other. -/
def mixTo (l : List UInt8) : Nat → List Nat
  | 0 => ivL
  | j + 1 => mixL kL (mixTo l j) ((l.drop (64 * j)).take 64)
theorem mixL_eight (ks s : List Nat) (b : List UInt8) (hs : Eight s) : Eight (mixL ks s b) := by
  obtain ⟨a, b', c, d, e, f, g, h, rfl, hw⟩ := hs
  obtain ⟨a1, b1, c1, d1, e1, f1, g1, h1, he, hw1⟩ := rnds_eight ks (schedL (wordsOf b) 48) 64 _ ⟨a, b', c, d, e, f, g, h, rfl, hw⟩
  refine ⟨_, _, _, _, _, _, _, _, by unfold mixL; rw [he]; rfl, ?_⟩
  intro x hx
  simp only [List.mem_cons, List.not_mem_nil, or_false] at hx
  rcases hx with rfl | rfl | rfl | rfl | rfl | rfl | rfl | rfl <;> exact Nat.mod_lt _ (by omega)
theorem ivL_eight : Eight ivL := ⟨_, _, _, _, _, _, _, _, rfl, ivL_wd⟩
theorem mixTo_eight (l : List UInt8) (j : Nat) : Eight (mixTo l j) := by
  induction j with
  | zero => exact ivL_eight
  | succ j ih => exact mixL_eight _ _ _ ih
/-- The bytes with their padding; the digest. -/
def allL (l : List UInt8) : List UInt8 := l ++ padL l.length
def digest (l : List UInt8) : List UInt8 := (mixTo (allL l) ((allL l).length / 64)).flatMap (beN 4)
theorem padL_len (n : Nat) : (padL n).length = 1 + padZ n + 8 := by simp [padL, beN_len]; omega
theorem allL_len (l : List UInt8) : (allL l).length % 64 = 0 := by
  rw [allL, List.length_append, padL_len, padZ]; omega

/-- The memory of Sum: the roots' words and the state. -/
structure SumW (G : Nat) (w0 : World) (ss : List Nat) (wr : World) : Prop where
  kc : wr.heap[G]? = some (.cells (u32v kL) 104 (0, 0))
  sc : wr.heap[G + 1]? = some (.cells (u32v ss) 97 (0, 0))
  lo : w0.heap.size ≤ G
  bl : Below w0.heap.size w0 wr
section
variable {G : Nat} {w0 : World} {ss : List Nat} {wr w1 : World}
theorem lt_of_some {w : World} {g : Nat} {o : Obj} (h : w.heap[g]? = some o) : g < w.heap.size := by
  rcases Nat.lt_or_ge g w.heap.size with h1 | h1
  · exact h1
  · rw [Array.getElem?_eq_none h1] at h; cases h
theorem SumW.sz (h : SumW G w0 ss wr) : G + 2 ≤ wr.heap.size := lt_of_some h.sc
theorem SumW.drew (h : SumW G w0 ss wr) : SumW G w0 ss wr.drew := ⟨h.kc, h.sc, h.lo, h.bl.drew⟩
theorem SumW.on (h : SumW G w0 ss wr) (hb : Below wr.heap.size wr w1) : SumW G w0 ss w1 := by
  have := h.sz; have := h.lo
  exact ⟨by rw [hb.block G (by omega)]; exact h.kc, by rw [hb.block (G + 1) (by omega)]; exact h.sc, h.lo, h.bl.trans (hb.mono (by omega))⟩
theorem SumW.scell (h : SumW G w0 ss wr) (i : Nat) (hi : i < ss.length) : wr.cell? ⟨G + 1, i, none⟩ = some (.int .u32 ((ss.getD i 0 : Nat) : Int)) := by
  rw [cell_of_row wr (G + 1) i _ _ _ h.sc, u32v_get ss i hi]
theorem SumW.sfro (h : SumW G w0 ss wr) (i : Nat) : wr.frozen? ⟨G + 1, i, none⟩ = false := frozen_of_row wr (G + 1) i _ _ h.sc
theorem SumW.sput (h : SumW G w0 ss wr) (i x : Nat) : SumW G w0 (ss.set i x) (wr.setCell ⟨G + 1, i, none⟩ (.int .u32 (x : Int))) := by
  have := h.lo
  refine ⟨?_, ?_, h.lo, ?_⟩
  · rw [heap_setCell_other _ _ _ _ (by show G ≠ G + 1; omega)]; exact h.kc
  · rw [heap_setCell_same wr (G + 1) i _ _ _ h.sc, u32v_set]
  · exact h.bl.setCell (by show w0.heap.size ≤ G + 1; omega) _
end
theorem undrew {B : Nat} {w w' : World} (hb : Below B w.drew w') : Below B w w' := ⟨hb.os, hb.tape, hb.output, hb.size, hb.block⟩
/-- A whole row is loaded. -/
theorem yields_row {P : Program} {o : Oper} {a : Act} {w : World} (ty : TypeId) (x : Operand) (ho : o.op = .load ty x)
    (g : Nat) (hx : a.eval x = .pointer (some ⟨g, 0, none⟩)) (t : TypeId) (cs : Array Value) (fr : Nat × Nat) (d : TypeDesc) (hg : w.heap[g]? = some (.cells cs t fr))
    (hu : P.underlying ty = some d) (hd : (match d with | .struct _ | .array _ _ => true | _ => false) = true) (hi : (P.info? ty).map (·.size) = some cs.size) :
    (execOp a.eval o).run P w = .ok (.value (.agg cs)) w := by
  unfold execOp
  simp only [ho, hx, Instr.loadAt, Instr.sureAddr, Sem.run_bind, Sem.run_pure, Result.andThen_ok, run_loadVar_row w g t ty cs fr d hg hu hd hi]
theorem conv_four (W : World) (g c x0 x1 x2 x3 : Nat) (h0 : W.cell? ⟨g, 0, none⟩ = some (.int .u8 (x0 : Int))) (h1 : W.cell? ⟨g, 1, none⟩ = some (.int .u8 (x1 : Int))) (h2 : W.cell? ⟨g, 2, none⟩ = some (.int .u8 (x2 : Int))) (h3 : W.cell? ⟨g, 3, none⟩ = some (.int .u8 (x3 : Int))) :
    (convert 25 9 (.slice (some ⟨g, 0, none⟩) 4 c)).run Tryd.prog W = .ok (.string (strOf [UInt8.ofNat x0, UInt8.ofNat x1, UInt8.ofNat x2, UInt8.ofNat x3])) W := by
  have := run_convert_bytes_arg (P := Tryd.prog) W 25 5 Tryd.underlying25 Tryd.underlying5 g 0 4 c [(x0 : Int), x1, x2, x3] rfl (fun i hi => by
    match i, hi with
    | 0, _ => simpa using h0
    | 1, _ => simpa using h1
    | 2, _ => simpa using h2
    | 3, _ => simpa using h3) 9 Tryd.underlying9
  rw [this]; rfl
theorem beN_four (x : Nat) : beN 4 x = [UInt8.ofNat (x / 16777216 % 256), UInt8.ofNat (x / 65536 % 256), UInt8.ofNat (x / 256 % 256), UInt8.ofNat (x % 256)] := by
  simp [beN, Nat.div_div_eq_div_mul]
end Go.Proofs.YtcmdcmbiilfngabDoor
namespace Go.Proofs.YtcmdcmbiilfngabDoor
open Go.RowKit
/-- Is p divided by none from d on whose square isn't above p? -/
def sqFrom (p d : Nat) : Nat → Bool
  | 0 => true
  | f + 1 => if p < d * d then true else if p % d = 0 then false else sqFrom p (d + 1) f
theorem sqFrom_end {p d f : Nat} (h : p < d * d) : sqFrom p d f = true := by
  cases f with
  | zero => rfl
  | succ f => rw [sqFrom, if_pos h]
theorem sqFrom_step {p d f : Nat} (h : d * d ≤ p) (hf : p + 2 ≤ d + f) : sqFrom p d f = if p % d = 0 then false else sqFrom p (d + 1) (f - 1) := by
  cases f with
  | zero => have := Nat.le_mul_self d; omega
  | succ f => rw [sqFrom, if_neg (by omega)]; rfl
theorem sq_whole : ∀ p : Fin 542, 2 ≤ p.val → sqFrom p.val 2 p.val = wholeB p.val := by decide +kernel

/-- Between one prime and the next there is none. -/
theorem prime_gap {i m : Nat} (hi : i + 1 < 100) (h1 : primeN i < m) (h2 : m < primeN (i + 1)) : wholeB m = false := by
  obtain ⟨a1, a3, a4, _⟩ := primes_ok ⟨i, by omega⟩
  obtain ⟨b1, b3, b4, _⟩ := primes_ok ⟨i + 1, hi⟩
  simp only at a1 a3 a4 b1 b3 b4
  cases hw : wholeB m with
  | false => rfl
  | true =>
    have m1 := cntW_mono (p := primeN i) (q := m - 1) (by omega)
    have s1 := cntW_succ (m - 1) (by omega)
    rw [show m - 1 + 1 = m by omega, hw] at s1
    have m2 := cntW_mono (p := m) (q := primeN (i + 1) - 1) (by omega)
    have s2 := cntW_succ (primeN (i + 1) - 1) (by omega)
    rw [show primeN (i + 1) - 1 + 1 = primeN (i + 1) by omega, b1] at s2
    simp at s1 s2
    omega
theorem prime_lt {i : Nat} (hi : i + 1 < 100) : primeN i < primeN (i + 1) := by
  obtain ⟨a1, a3, a4, _⟩ := primes_ok ⟨i, by omega⟩
  simp only at a3
  exact below_prime hi (by omega)

end Go.Proofs.YtcmdcmbiilfngabDoor
namespace Go.Proofs.YtcmdcmbiilfngabDoor
open Go.RowKit
theorem and_mask (a : Nat) : a &&& 4294967295 = a % 4294967296 := Nat.and_two_pow_sub_one_eq_mod a 32

end Go.Proofs.YtcmdcmbiilfngabDoor
namespace Go.Proofs.YtcmdcmbiilfngabDoor
open Go.RowKit
theorem root48 (e p : Nat) (he : e = 2 ∨ e = 3) (hp : p < 4294967296) : bitRoot e (p * 2 ^ (32 * e)) 48 0 = rootN e p := by
  have h1 := rootN_ok e p he hp
  have h2 := bitRoot_ok e (p * 2 ^ (32 * e)) 48 0 (by rcases he with rfl | rfl <;> simp) (by rcases he with rfl | rfl <;> simp <;> omega)
  exact root_unique h2.1 h2.2 h1.1 h1.2
theorem or_bit (X c : Nat) (h : X % 2 ^ (c + 1) = 0) : X ||| 2 ^ c = X + 2 ^ c := by
  obtain ⟨a, rfl⟩ : ∃ a, X = 2 ^ (c + 1) * a := ⟨X / 2 ^ (c + 1), by have := Nat.div_add_mod X (2 ^ (c + 1)); omega⟩
  exact (Nat.two_pow_add_eq_or_of_lt (Nat.pow_lt_pow_right (by omega) (by omega)) a).symm
theorem mod_bit (X c : Nat) (h : X % 2 ^ (c + 1) = 0) : X % 2 ^ c = 0 := by
  obtain ⟨a, rfl⟩ : ∃ a, X = 2 ^ (c + 1) * a := ⟨X / 2 ^ (c + 1), by have := Nat.div_add_mod X (2 ^ (c + 1)); omega⟩
  rw [Nat.pow_succ, Nat.mul_assoc, Nat.mul_mod_right]
theorem mod_bit' (X c : Nat) (h : X % 2 ^ (c + 1) = 0) : (X + 2 ^ c) % 2 ^ c = 0 := by
  rw [Nat.add_mod_right]; exact mod_bit X c h

end Go.Proofs.YtcmdcmbiilfngabDoor
