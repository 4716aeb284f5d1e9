/- The document's Sum: what it is, and its memory. Walks over the program's isPrime, primeAbove, Prime. Walks over math/bits.Mul64, Add64, and the program's notAbove, squareFits, cubeFits. Walks over the program's Root. Rows of bytes; the program's Pad. Walks over math/bits.RotateLeft32 and the program's turned. -/
import Derived.Test.YtkhidkilkbmpoaaDoorP
import Derived.Test.YtkhidkilkbmpoaaDoorC
import Derived.Laws.Externs
import Derived.Laws.ShiftsVarLaws
import Derived.Laws.MakeOwn
namespace Go.Proofs.YtkhidkilkbmpoaaDoor
open Go.RowKit
/-- The square roots' words of the first eight primes. -/
def ivL : List Nat := (List.range 8).map fun i => rootW (primeN i) false
theorem ivL_len : ivL.length = 8 := by simp [ivL]
theorem ivL_snoc (n : Nat) (h : n < 8) : ivL.take (n + 1) = ivL.take n ++ [rootW (primeN n) false] := by
  rw [List.take_add_one]
  simp [ivL, List.getElem?_range h]
theorem ivL_wd : Wd ivL := by
  intro x hx
  obtain ⟨i, _, rfl⟩ := List.mem_map.1 hx
  exact rootW_lt _ _
/-- Of 64 bytes each the state, one behind the other. -/
def mixTo (l : List UInt8) : Nat → List Nat
  | 0 => ivL
  | j + 1 => mixL kL (mixTo l j) ((l.drop (64 * j)).take 64)
theorem mixL_eight (ks s : List Nat) (b : List UInt8) (hs : Eight s) : Eight (mixL ks s b) := by
  obtain ⟨a, b', c, d, e, f, g, h, rfl, hw⟩ := hs
  obtain ⟨a1, b1, c1, d1, e1, f1, g1, h1, he, hw1⟩ := rnds_eight ks (schedL (wordsOf b) 48) 64 _ ⟨a, b', c, d, e, f, g, h, rfl, hw⟩
  refine ⟨_, _, _, _, _, _, _, _, by unfold mixL; rw [he]; rfl, ?_⟩
  intro x hx
  simp only [List.mem_cons, List.not_mem_nil, or_false] at hx
  rcases hx with rfl | rfl | rfl | rfl | rfl | rfl | rfl | rfl <;> exact Nat.mod_lt _ (by omega)
theorem ivL_eight : Eight ivL := ⟨_, _, _, _, _, _, _, _, rfl, ivL_wd⟩
theorem mixTo_eight (l : List UInt8) (j : Nat) : Eight (mixTo l j) := by
  induction j with
  | zero => exact ivL_eight
  | succ j ih => exact mixL_eight _ _ _ ih
/-- The bytes with their padding; the digest. -/
def allL (l : List UInt8) : List UInt8 := l ++ padL l.length
def digest (l : List UInt8) : List UInt8 := (mixTo (allL l) ((allL l).length / 64)).flatMap (beN 4)
theorem padL_len (n : Nat) : (padL n).length = 1 + padZ n + 8 := by simp [padL, beN_len]; omega
theorem allL_len (l : List UInt8) : (allL l).length % 64 = 0 := by
  rw [allL, List.length_append, padL_len, padZ]; omega

/-- The memory of Sum: the roots' words and the state. -/
structure SumW (G : Nat) (w0 : World) (ss : List Nat) (wr : World) : Prop where
  kc : wr.heap[G]? = some (.cells (u32v kL) 119 (0, 0))
  sc : wr.heap[G + 1]? = some (.cells (u32v ss) 111 (0, 0))
  lo : w0.heap.size ≤ G
  bl : Below w0.heap.size w0 wr
section
variable {G : Nat} {w0 : World} {ss : List Nat} {wr w1 : World}
theorem lt_of_some {w : World} {g : Nat} {o : Obj} (h : w.heap[g]? = some o) : g < w.heap.size := by
  rcases Nat.lt_or_ge g w.heap.size with h1 | h1
  · exact h1
  · rw [Array.getElem?_eq_none h1] at h; cases h
theorem SumW.sz (h : SumW G w0 ss wr) : G + 2 ≤ wr.heap.size := lt_of_some h.sc
theorem SumW.drew (h : SumW G w0 ss wr) : SumW G w0 ss wr.drew := ⟨h.kc, h.sc, h.lo, h.bl.drew⟩
theorem SumW.on (h : SumW G w0 ss wr) (hb : Below wr.heap.size wr w1) : SumW G w0 ss w1 := by
  have := h.sz; have := h.lo
  exact ⟨by rw [hb.block G (by omega)]; exact h.kc, by rw [hb.block (G + 1) (by omega)]; exact h.sc, h.lo, h.bl.trans (hb.mono (by omega))⟩
theorem SumW.scell (h : SumW G w0 ss wr) (i : Nat) (hi : i < ss.length) : wr.cell? ⟨G + 1, i, none⟩ = some (.int .u32 ((ss.getD i 0 : Nat) : Int)) := by
  rw [cell_of_row wr (G + 1) i _ _ _ h.sc, u32v_get ss i hi]
theorem SumW.sfro (h : SumW G w0 ss wr) (i : Nat) : wr.frozen? ⟨G + 1, i, none⟩ = false := frozen_of_row wr (G + 1) i _ _ h.sc
theorem SumW.sput (h : SumW G w0 ss wr) (i x : Nat) : SumW G w0 (ss.set i x) (wr.setCell ⟨G + 1, i, none⟩ (.int .u32 (x : Int))) := by
  have := h.lo
  refine ⟨?_, ?_, h.lo, ?_⟩
  · rw [heap_setCell_other _ _ _ _ (by show G ≠ G + 1; omega)]; exact h.kc
  · rw [heap_setCell_same wr (G + 1) i _ _ _ h.sc, u32v_set]
  · exact h.bl.setCell (by show w0.heap.size ≤ G + 1; omega) _
end
theorem undrew {B : Nat} {w w' : World} (hb : Below B w.drew w') : Below B w w' := ⟨hb.os, hb.tape, hb.output, hb.size, hb.block⟩
/-- A whole row is loaded. -/
theorem yields_row {P : Program} {o : Oper} {a : Act} {w : World} (ty : TypeId) (x : Operand) (ho : o.op = .load ty x)
    (g : Nat) (hx : a.eval x = .pointer (some ⟨g, 0, none⟩)) (t : TypeId) (cs : Array Value) (fr : Nat × Nat) (d : TypeDesc) (hg : w.heap[g]? = some (.cells cs t fr))
    (hu : P.underlying ty = some d) (hd : (match d with | .struct _ | .array _ _ => true | _ => false) = true) (hi : (P.info? ty).map (·.size) = some cs.size) :
    (execOp a.eval o).run P w = .ok (.value (.agg cs)) w := by
  unfold execOp
  simp only [ho, hx, Instr.loadAt, Instr.sureAddr, Sem.run_bind, Sem.run_pure, Result.andThen_ok, run_loadVar_row w g t ty cs fr d hg hu hd hi]
theorem conv_four (W : World) (g c x0 x1 x2 x3 : Nat) (h0 : W.cell? ⟨g, 0, none⟩ = some (.int .u8 (x0 : Int))) (h1 : W.cell? ⟨g, 1, none⟩ = some (.int .u8 (x1 : Int))) (h2 : W.cell? ⟨g, 2, none⟩ = some (.int .u8 (x2 : Int))) (h3 : W.cell? ⟨g, 3, none⟩ = some (.int .u8 (x3 : Int))) :
    (convert 45 9 (.slice (some ⟨g, 0, none⟩) 4 c)).run Tryd.prog W = .ok (.string (strOf [UInt8.ofNat x0, UInt8.ofNat x1, UInt8.ofNat x2, UInt8.ofNat x3])) W := by
  have := run_convert_bytes_arg (P := Tryd.prog) W 45 5 Tryd.underlying45 Tryd.underlying5 g 0 4 c [(x0 : Int), x1, x2, x3] rfl (fun i hi => by
    match i, hi with
    | 0, _ => simpa using h0
    | 1, _ => simpa using h1
    | 2, _ => simpa using h2
    | 3, _ => simpa using h3) 9 Tryd.underlying9
  rw [this]; rfl
theorem beN_four (x : Nat) : beN 4 x = [UInt8.ofNat (x / 16777216 % 256), UInt8.ofNat (x / 65536 % 256), UInt8.ofNat (x / 256 % 256), UInt8.ofNat (x % 256)] := by
  simp [beN, Nat.div_div_eq_div_mul]
end Go.Proofs.YtkhidkilkbmpoaaDoor
namespace Go.Proofs.YtkhidkilkbmpoaaDoor
open Go.RowKit
/-- Is p divided by none from d on whose square isn't above p? -/
def sqFrom (p d : Nat) : Nat → Bool
  | 0 => true
  | f + 1 => if p < d * d then true else if p % d = 0 then false else sqFrom p (d + 1) f
theorem sqFrom_end {p d f : Nat} (h : p < d * d) : sqFrom p d f = true := by
  cases f with
  | zero => rfl
  | succ f => rw [sqFrom, if_pos h]
theorem sqFrom_step {p d f : Nat} (h : d * d ≤ p) (hf : p + 2 ≤ d + f) : sqFrom p d f = if p % d = 0 then false else sqFrom p (d + 1) (f - 1) := by
  cases f with
  | zero => have := Nat.le_mul_self d; omega
  | succ f => rw [sqFrom, if_neg (by omega)]; rfl
theorem sq_whole : ∀ p : Fin 542, 2 ≤ p.val → sqFrom p.val 2 p.val = wholeB p.val := by decide +kernel

/-- Between one prime and the next there is none. -/
theorem prime_gap {i m : Nat} (hi : i + 1 < 100) (h1 : primeN i < m) (h2 : m < primeN (i + 1)) : wholeB m = false := by
  obtain ⟨a1, a3, a4, _⟩ := primes_ok ⟨i, by omega⟩
  obtain ⟨b1, b3, b4, _⟩ := primes_ok ⟨i + 1, hi⟩
  simp only at a1 a3 a4 b1 b3 b4
  cases hw : wholeB m with
  | false => rfl
  | true =>
    have m1 := cntW_mono (p := primeN i) (q := m - 1) (by omega)
    have s1 := cntW_succ (m - 1) (by omega)
    rw [show m - 1 + 1 = m by omega, hw] at s1
    have m2 := cntW_mono (p := m) (q := primeN (i + 1) - 1) (by omega)
    have s2 := cntW_succ (primeN (i + 1) - 1) (by omega)
    rw [show primeN (i + 1) - 1 + 1 = primeN (i + 1) by omega, b1] at s2
    simp at s1 s2
    omega
theorem prime_lt {i : Nat} (hi : i + 1 < 100) : primeN i < primeN (i + 1) := by
  obtain ⟨a1, a3, a4, _⟩ := primes_ok ⟨i, by omega⟩
  simp only at a3
  exact below_prime hi (by omega)

end Go.Proofs.YtkhidkilkbmpoaaDoor
namespace Go.Proofs.YtkhidkilkbmpoaaDoor
open Go.RowKit
theorem and_mask (a : Nat) : a &&& 4294967295 = a % 4294967296 := Nat.and_two_pow_sub_one_eq_mod a 32

end Go.Proofs.YtkhidkilkbmpoaaDoor
namespace Go.Proofs.YtkhidkilkbmpoaaDoor
open Go.RowKit
theorem root48 (e p : Nat) (he : e = 2 ∨ e = 3) (hp : p < 4294967296) : bitRoot e (p * 2 ^ (32 * e)) 48 0 = rootN e p := by
  have h1 := rootN_ok e p he hp
  have h2 := bitRoot_ok e (p * 2 ^ (32 * e)) 48 0 (by rcases he with rfl | rfl <;> simp) (by rcases he with rfl | rfl <;> simp <;> omega)
  exact root_unique h2.1 h2.2 h1.1 h1.2
theorem or_bit (X c : Nat) (h : X % 2 ^ (c + 1) = 0) : X ||| 2 ^ c = X + 2 ^ c := by
  obtain ⟨a, rfl⟩ : ∃ a, X = 2 ^ (c + 1) * a := ⟨X / 2 ^ (c + 1), by have := Nat.div_add_mod X (2 ^ (c + 1)); omega⟩
  exact (Nat.two_pow_add_eq_or_of_lt (Nat.pow_lt_pow_right (by omega) (by omega)) a).symm
theorem mod_bit (X c : Nat) (h : X % 2 ^ (c + 1) = 0) : X % 2 ^ c = 0 := by
  obtain ⟨a, rfl⟩ : ∃ a, X = 2 ^ (c + 1) * a := ⟨X / 2 ^ (c + 1), by have := Nat.div_add_mod X (2 ^ (c + 1)); omega⟩
  rw [Nat.pow_succ, Nat.mul_assoc, Nat.mul_mod_right]
theorem mod_bit' (X c : Nat) (h : X % 2 ^ (c + 1) = 0) : (X + 2 ^ c) % 2 ^ c = 0 := by
  rw [Nat.add_mod_right]; exact mod_bit X c h

end Go.Proofs.YtkhidkilkbmpoaaDoor
namespace Go.Proofs.YtkhidkilkbmpoaaDoor
open Go.RowKit
/-- Bytes as cells. -/
def u8v (l : List UInt8) : Array Value := (l.map fun (x : UInt8) => Value.int .u8 (x.toNat : Int)).toArray
theorem u8v_size (l : List UInt8) : (u8v l).size = l.length := by simp [u8v]
theorem u8v_get (l : List UInt8) (i : Nat) (h : i < l.length) : (u8v l)[i]? = some (.int .u8 (((l.getD i 0).toNat : Nat) : Int)) := by
  simp [u8v, List.getElem?_eq_getElem h]
theorem u8v_set (l : List UInt8) (i : Nat) (x : UInt8) : (u8v l).setIfInBounds i (.int .u8 (x.toNat : Int)) = u8v (l.set i x) := by
  simp [u8v, List.map_set]
theorem u8v_all (l : List UInt8) : ∀ v ∈ (u8v l).toList, v.oneCell' = true := by
  intro v hv
  simp only [u8v, List.mem_map] at hv
  obtain ⟨x, _, rfl⟩ := hv
  rfl
theorem u8v_made (n : Nat) : madeCells #[Value.int .u8 0] n = u8v (List.replicate n 0) := by
  apply Array.ext
  · simp [madeCells, u8v]
  · intro i h1 h2
    simp [madeCells, u8v, Nat.mod_one]
structure PadW (g : Nat) (w0 : World) (l : List UInt8) (wr : World) : Prop where
  c : wr.heap[g]? = some (.cells (u8v l) 5 (0, 0))
  bl : Below g w0 wr
theorem PadW.start (w : World) (l : List UInt8) : PadW w.heap.size w l (w.alloc (.cells (u8v l) 5)) := ⟨heap_alloc_new _ _, (Below.refl _ _).alloc (Nat.le_refl _) _⟩
section
variable {g : Nat} {w0 wr : World} {l : List UInt8}
theorem PadW.cell (h : PadW g w0 l wr) (i : Nat) (hi : i < l.length) : wr.cell? ⟨g, i, none⟩ = some (.int .u8 (((l.getD i 0).toNat : Nat) : Int)) := by
  rw [cell_of_row wr g i _ _ _ h.c, u8v_get l i hi]
theorem PadW.fro (h : PadW g w0 l wr) (i : Nat) : wr.frozen? ⟨g, i, none⟩ = false := frozen_of_row wr g i _ _ h.c
theorem PadW.put (h : PadW g w0 l wr) (i : Nat) (x : UInt8) : PadW g w0 (l.set i x) (wr.setCell ⟨g, i, none⟩ (.int .u8 (x.toNat : Int))) := by
  refine ⟨?_, ?_⟩
  · rw [heap_setCell_same wr g i _ _ _ h.c, u8v_set]
  · exact h.bl.setCell (Nat.le_refl _) _
theorem PadW.drew (h : PadW g w0 l wr) : PadW g w0 l wr.drew := ⟨h.c, h.bl.drew⟩
end
/-- A padding with i bytes of its count. -/
def padTo (z m i : Nat) : List UInt8 := 128 :: List.replicate z 0 ++ (List.replicate (8 - i) 0 ++ beN i m)
theorem padTo_len (z m i : Nat) (hi : i ≤ 8) : (padTo z m i).length = z + 9 := by simp [padTo, beN_len]; omega
theorem padTo_step (z m i : Nat) (hi : i < 8) : (padTo z m i).set (z + 8 - i) (UInt8.ofNat (m / 256 ^ i % 256)) = padTo z m (i + 1) := by
  unfold padTo
  have e : List.replicate (8 - i) (0 : UInt8) = List.replicate (8 - (i + 1)) 0 ++ [0] := by
    rw [show 8 - i = (8 - (i + 1)) + 1 by omega, List.replicate_succ']
  rw [e, beN_front, List.append_assoc (List.replicate (8 - (i + 1)) 0), ← List.append_assoc, List.singleton_append]
  rw [List.set_append_right _ _ (by simp; omega)]
  have : z + 8 - i - (128 :: List.replicate z (0 : UInt8) ++ List.replicate (8 - (i + 1)) 0).length = 0 := by simp; omega
  rw [this, List.set_cons_zero, List.append_assoc]
theorem padTo_8 (n : Nat) : padTo (padZ n) (n * 8 % 18446744073709551616) 8 = padL n := by simp [padTo, padL]
theorem padTo_0 (z m : Nat) : padTo z m 0 = (List.replicate (z + 9) 0).set 0 128 := by
  unfold padTo
  rw [show z + 9 = (z + 8) + 1 by omega, List.replicate_succ (n := z + 8), List.set_cons_zero]
  have e : List.replicate z (0 : UInt8) ++ List.replicate 8 0 = List.replicate (z + 8) 0 := List.replicate_append_replicate
  rw [← e]
  simp [beN]

set_option maxRecDepth 100000 in
set_option maxHeartbeats 800000 in
theorem pad_is (n : Nat) (w : World) (hn : n ≤ 9223372036854775807) :
    Calls Tryd.prog 87 #[.int .i64 (n : Int)] w fun e w' => e = .returned (.slice (some ⟨w.heap.size, 0, none⟩) (padL n).length (padL n).length) ∧ PadW w.heap.size w (padL n) w' := by
  obtain ⟨z, hz⟩ : ∃ z, z = padZ n := ⟨_, rfl⟩
  obtain ⟨m, hm⟩ : ∃ m, m = n * 8 % 18446744073709551616 := ⟨_, rfl⟩
  have HL : Hid (padL n = padTo z m 8) := by rw [hz, hm]; exact (padTo_8 n).symm
  have hz' : z = (119 - n % 64) % 64 := hz
  have hzi : (119 - (n : Int) % 64) % 64 = (z : Int) := by omega
  have hmi : IntKind.u64.wrap ((n : Int) * 8) = (m : Int) := by rw [IntKind.wrap_u64]; omega
  have hz63 : z ≤ 63 := by omega
  have hll : (padL n).length = z + 9 := by rw [HL.out, padTo_len z m 8 (by omega)]
  have hmk : (Instr.makeSlice 45 (.int .i64 (1 + (z : Int) + 8)) (.int .i64 (1 + (z : Int) + 8))).run Tryd.prog w = .ok (.slice (some ⟨w.heap.size, 0, none⟩) (z + 9) (z + 9)) (w.alloc (.cells (u8v (List.replicate (z + 9) 0)) 5)) := by
    have := run_make (P := Tryd.prog) w 45 5 _ (.int .u8 0) Tryd.underlying45 rfl rfl .i64 .i64 (1 + (z : Int) + 8) (1 + (z : Int) + 8) (by omega) (by omega) (by show (1 : Int) * _ ≤ _; omega) (by omega)
    rw [this, show (1 + (z : Int) + 8).toNat = z + 9 by omega, ← u8v_made, show Tryd.prog.types[5].size = 1 from rfl, Nat.mul_one]
    rfl
  rw [hll, HL.out]
  clear hz hm hz' hll
  have hneg : ¬ (n : Int) < 0 := by omega
  have c0 := (PadW.start w (List.replicate (z + 9) 0)).cell 0 (by simp)
  have f0 := (PadW.start w (List.replicate (z + 9) 0)).fro 0
  have HS : Hid (PadW w.heap.size w (padTo z m 0) (w.alloc (.cells ((u8v (List.replicate (z + 9) 0)).setIfInBounds 0 (.int .u8 128)) 5))) := by
    have e := u8v_set (List.replicate (z + 9) 0) 0 128
    rw [← padTo_0 z m] at e
    have := PadW.start w (padTo z m 0)
    rw [← e] at this
    exact this
  go_enter Tryd.func87, Tryd.ntmps87
  go_wp2_with (simp only [hmk])
  go_loopw [22] (fun i wr => ∃ t : Nat, t ≤ 8 ∧ i = .int .i64 t ∧ PadW w.heap.size w (padTo z m t) wr) (fun i _ => 8 - (intOf i).toNat)
  case atStart => exact ⟨0, by omega, rfl, HS.out⟩
  case round =>
    obtain ⟨t, ht, rfl, hrel⟩ := hrel
    clear HS c0 f0 hmk
    by_cases hlt : t < 8
    · obtain ⟨k, hk⟩ : ∃ k, k = z + 8 - t := ⟨_, rfl⟩
      obtain ⟨v, hv⟩ : ∃ v : Nat, ((padTo z m t).getD k 0).toNat = v := ⟨_, rfl⟩
      have ck : wr.cell? ⟨w.heap.size, k, none⟩ = some (.int .u8 (v : Int)) := hv ▸ hrel.cell k (by rw [padTo_len z m t (by omega)]; omega)
      have fk := hrel.fro k
      obtain ⟨c, hc⟩ : ∃ c, c = 8 * t := ⟨_, rfl⟩
      have hci : (8 : Int) * (t : Int) = (c : Int) := by omega
      obtain ⟨q, hq⟩ : ∃ q, q = m / 2 ^ c := ⟨_, rfl⟩
      have hqi : (m : Int) / 2 ^ c = (q : Int) := by rw [hq]; simp
      have hki : (z : Int) + 9 - 1 - (t : Int) = (k : Int) := by omega
      have hk9 : k < z + 9 := by omega
      have hc56 : c ≤ 56 := by omega
      have HST : Hid ((padTo z m t).set k (UInt8.ofNat (q % 256)) = padTo z m (t + 1)) := by
        have := padTo_step z m t hlt
        rw [← hk, show 256 ^ t = 2 ^ c by rw [hc, Nat.pow_mul], ← hq] at this
        exact this
      have HR : Hid (PadW w.heap.size w (padTo z m t) wr) := hrel
      clear hrel hq hv hk hc
      go_wp2
      refine ⟨⟨t + 1, by omega, by go_num, ?_⟩, by simp [intOf]; omega⟩
      have h := HR.out.put k (UInt8.ofNat (q % 256))
      rw [HST.out, show (((UInt8.ofNat (q % 256)).toNat : Nat) : Int) = (q : Int) % 256 by rw [UInt8.toNat_ofNat']; omega] at h
      exact h
    · obtain rfl : t = 8 := by omega
      have HR : Hid (PadW w.heap.size w (padTo z m 8) wr) := hrel
      clear hrel
      go_wp2
      go_ret
      exact ⟨rfl, HR.out⟩

set_option maxRecDepth 100000 in
theorem pad_none (n : Int) (w : World) (hn : n < 0) :
    Calls Tryd.prog 87 #[.int .i64 n] w fun e w' => e = .returned (.slice none 0 0) ∧ w' = w := by
  go_enter Tryd.func87, Tryd.ntmps87
  go_wp2
  go_ret
  exact ⟨rfl, rfl⟩
end Go.Proofs.YtkhidkilkbmpoaaDoor
namespace Go.Proofs.YtkhidkilkbmpoaaDoor
open Go.RowKit
theorem or_rotl (x n s : Nat) (hx : x < 4294967296) (hs : s = 32 - n) : bits BinOp.or IntKind.u32 ((x : Int) * 2 ^ s % 4294967296) ((x : Int) / 2 ^ n) = (rotr x n : Int) := by
  have e1 : (x : Int) / 2 ^ n = ((x / 2 ^ n : Nat) : Int) := by simp
  have e2 : (x : Int) * 2 ^ s % 4294967296 = ((x * 2 ^ s % 4294967296 : Nat) : Int) := by simp
  rw [e1, e2, u32_or_nat _ _ (Nat.mod_lt _ (by omega)) (Nat.lt_of_le_of_lt (Nat.div_le_self _ _) hx), Nat.or_comm, hs]
  rfl
set_option maxRecDepth 100000 in
set_option maxHeartbeats 400000 in
theorem rotl_any (x n : Nat) (w : World) (hx : x < 4294967296) (hn : 1 ≤ n) (hn' : n ≤ 31) :
    Calls Tryd.prog 98 #[.int .u32 (x : Int), .int .i64 (-(n : Int))] w fun e w' => e = .returned (.int .u32 (rotr x n : Int)) ∧ w' = w := by
  obtain ⟨s, hs⟩ : ∃ s, s = 32 - n := ⟨_, rfl⟩
  obtain ⟨M, hM⟩ : ∃ M, M = 18446744073709551616 - n := ⟨_, rfl⟩
  have h1 : IntKind.u64.wrap (-(n : Int)) = (M : Int) := by rw [IntKind.wrap_u64]; omega
  have h2 : bits BinOp.and IntKind.u64 (M : Int) 31 = (s : Int) := by
    have := u64_and_nat M 31 (by omega) (by omega)
    rw [show M &&& 31 = M % 32 from Nat.and_two_pow_sub_one_eq_mod M 5, show M % 32 = s by omega] at this
    exact this
  have h3 : (32 : Int) - (s : Int) = (n : Int) := by omega
  have HS : Hid (s = 32 - n) := hs
  have hs' : s ≤ 31 := by omega
  clear hM hs
  go_enter Tryd.func98, Tryd.ntmps98
  go_wp2
  go_ret
  exact ⟨ret_int (or_rotl x n s hx HS.out), rfl⟩
set_option maxRecDepth 100000 in
theorem turned_any (x n : Nat) (w : World) (hx : x < 4294967296) (hn : 1 ≤ n) (hn' : n ≤ 31) :
    Calls Tryd.prog 96 #[.int .u32 (x : Int), .int .i64 (n : Int)] w fun e w' => e = .returned (.int .u32 (rotr x n : Int)) ∧ w' = w := by
  have HC : Hid (∀ w, Calls Tryd.prog 98 #[.int .u32 (x : Int), .int .i64 (-(n : Int))] w fun e w' => e = .returned (.int .u32 (rotr x n : Int)) ∧ w' = w) := fun w => rotl_any x n w hx hn hn'
  go_enter Tryd.func96, Tryd.ntmps96
  go_wp2_with (go_at_call 98; refine (HC.out _).mono ?_; rintro e w' ⟨rfl, hw⟩; subst w')
  go_ret
  exact ⟨rfl, rfl⟩
end Go.Proofs.YtkhidkilkbmpoaaDoor
