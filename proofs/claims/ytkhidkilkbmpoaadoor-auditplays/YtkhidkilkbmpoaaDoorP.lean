/- Walk over the document's Words. Walk over the document's Pad. -/
import Derived.Test.YtkhidkilkbmpoaaDoorC
import Derived.Test.YtkhidkilkbmpoaaDoorW
import Derived.Lib.SlBytesRow
namespace Go.Proofs.YtkhidkilkbmpoaaDoor
open Go.RowKit
/-- The cube roots' words of the first 64 primes. -/
def kL : List Nat := (List.range 64).map fun i => rootW (primeN i) true
theorem kL_len : kL.length = 64 := by simp [kL]
theorem rootW_lt (p : Nat) (c : Bool) : rootW p c < 4294967296 := Nat.mod_lt _ (by omega)
theorem kL_wd : Wd kL := by
  intro x hx
  obtain ⟨i, _, rfl⟩ := List.mem_map.1 hx
  exact rootW_lt _ _
theorem kL_snoc (n : Nat) (h : n < 64) : kL.take (n + 1) = kL.take n ++ [rootW (primeN n) true] := by
  rw [List.take_add_one]
  simp [kL, List.getElem?_range h]
theorem u32v_size (l : List Nat) : (u32v l).size = l.length := by simp [u32v]
theorem u32v_all (l : List Nat) : (u32v l).all (·.oneCell') = true := by
  simp [u32v, Value.oneCell']
/-- The memory of Words: two arrays. -/
structure WordsW (g : Nat) (w0 : World) (rs ws : List Nat) (wr : World) : Prop where
  rc : wr.heap[g]? = some (.cells (u32v rs) 119 (0, 0))
  wc : wr.heap[g + 1]? = some (.cells (u32v ws) 119 (0, 0))
  sz : wr.heap.size = g + 2
  bl : Below g w0 wr
theorem WordsW.start (w : World) (rs ws : List Nat) : WordsW w.heap.size w rs ws ((w.alloc (.cells (u32v rs) 119)).alloc (.cells (u32v ws) 119)) := by
  have sz : ∀ (w : World) (o : Obj), (w.alloc o).heap.size = w.heap.size + 1 := fun w o => by simp
  refine ⟨?_, ?_, ?_, ?_⟩
  · rw [Go.heap_alloc_old _ _ (by simp only [sz]; omega)]; exact heap_alloc_new _ _
  · exact sz w _ ▸ heap_alloc_new _ _
  · simp only [sz]
  · exact ((Below.refl _ w).alloc (by omega) _).alloc (by simp only [sz]; omega) _
section
variable {g : Nat} {w0 : World} {rs ws : List Nat} {wr : World}
theorem WordsW.wcell (h : WordsW g w0 rs ws wr) (i : Nat) (hi : i < ws.length) : wr.cell? ⟨g + 1, i, none⟩ = some (.int .u32 ((ws.getD i 0 : Nat) : Int)) := by
  rw [cell_of_row wr (g + 1) i _ _ _ h.wc, u32v_get ws i hi]
theorem WordsW.wfro (h : WordsW g w0 rs ws wr) (i : Nat) : wr.frozen? ⟨g + 1, i, none⟩ = false := frozen_of_row wr (g + 1) i _ _ h.wc
theorem WordsW.wput (h : WordsW g w0 rs ws wr) (i x : Nat) : WordsW g w0 rs (ws.set i x) (wr.setCell ⟨g + 1, i, none⟩ (.int .u32 (x : Int))) := by
  refine ⟨?_, ?_, ?_, ?_⟩
  · rw [heap_setCell_other _ _ _ _ (by show g ≠ g + 1; omega)]; exact h.rc
  · rw [heap_setCell_same wr (g + 1) i _ _ _ h.wc, u32v_set]
  · rw [World.size_setCell]; exact h.sz
  · exact h.bl.setCell (by show g ≤ g + 1; omega) _
theorem below_setRow {B : Nat} {a w : World} (h : Below B a w) (g : Nat) (hg : B ≤ g) (cs : Array Value) : Below B a (w.setRow g cs) :=
  ⟨h.os, h.tape, h.output, by rw [size_setRow]; exact h.size, fun k hk => by rw [setRow_other w g k cs (by omega)]; exact h.block k hk⟩
end
set_option maxRecDepth 100000 in
set_option maxHeartbeats 800000 in
theorem words_any (w : World) : Calls Tryd.prog 81 #[] w fun e w' => e = .returned (.agg (u32v kL)) ∧ Below w.heap.size w w' := by
  go_enter Tryd.func81, Tryd.ntmps81
  go_wp2
  go_loopw [2, 3] (fun n p wr => ∃ N P : Nat, n = .int .i64 (N : Int) ∧ p = .int .u32 (P : Int) ∧ N ≤ 64 ∧ 2 ≤ P ∧ P ≤ 542 ∧ cntW (P - 1) = N ∧ WordsW w.heap.size w (List.replicate 64 0) (kL.take N ++ List.replicate (64 - N) 0) wr) (fun _ p _ => 543 - (intOf p).toNat)
  case atStart => exact ⟨0, 2, rfl, rfl, by omega, by omega, by omega, rfl, WordsW.start w (List.replicate 64 0) (List.replicate 64 0)⟩
  case round =>
    obtain ⟨N, P, rfl, rfl, hN, hP, hP', hc, hrel⟩ := hrel
    by_cases hlt : N < 64
    · have hb : P - 1 < primeN N := below_prime (by omega) (by omega)
      have h541 : P ≤ 541 := by have := (primes_ok ⟨N, by omega⟩).2.2.2; simp only at this; omega
      have hs := cntW_succ (P - 1) (by omega)
      rw [show P - 1 + 1 = P by omega, hc] at hs
      by_cases hw : wholeB P = true
      · rw [hw, if_pos rfl] at hs
        have hPp : P = primeN N := prime_of (by omega) hw hP hs
        have HC : Hid (∀ w, Calls Tryd.prog 91 #[.int .u32 (P : Int)] w fun e w' => e = .returned (.bool true) ∧ w' = w) := by
          intro w; have := whole_any P w (by omega); rwa [hw] at this
        have HRT : Hid (∀ w, Calls Tryd.prog 82 #[.int .u32 (P : Int), .bool true] w fun e w' => e = .returned (.int .u32 (rootW P true : Int)) ∧ w' = w) := fun w => root_any P true w (by omega)
        have HS : Hid (cntW P = N + 1) := hs
        have HE : Hid (P = primeN N) := hPp
        obtain ⟨y, cy⟩ : ∃ y : Int, wr.cell? ⟨w.heap.size + 1, N, none⟩ = some (.int .u32 y) := ⟨_, hrel.wcell N (by simp [kL_len]; omega)⟩
        have hf : wr.frozen? ⟨w.heap.size + 1, N, none⟩ = false := hrel.wfro N
        have kt : (N : Int) < 64 := by omega
        have HR : Hid (WordsW w.heap.size w (List.replicate 64 0) (kL.take N ++ List.replicate (64 - N) 0) wr) := hrel
        clear hrel hs hPp hc hb hw
        go_wp2_with (first | (go_at_call 91; refine (HC.out _).mono ?_; rintro e w' ⟨rfl, hw⟩; subst w') | (go_at_call 82; refine (HRT.out _).mono ?_; rintro e w' ⟨rfl, hw⟩; subst w'))
        go_roundw
        case rel =>
          refine ⟨N + 1, P + 1, by go_num, by go_num, by omega, by omega, by omega, by simpa using HS.out, ?_⟩
          have h := HR.out.wput N (rootW P true)
          have el : (kL.take N).length = N := by simp [kL_len]; omega
          have es := set_mid (kL.take N) (64 - (N + 1)) (rootW P true)
          rw [el, show 64 - (N + 1) + 1 = 64 - N by omega] at es
          rw [es] at h
          rw [kL_snoc N hlt, ← HE.out]
          exact h
        case measure => simp [intOf]; omega
      · have hw' : wholeB P = false := by simpa using hw
        rw [hw', if_neg (by simp), Nat.add_zero] at hs
        have HC : Hid (∀ w, Calls Tryd.prog 91 #[.int .u32 (P : Int)] w fun e w' => e = .returned (.bool false) ∧ w' = w) := by
          intro w; have := whole_any P w (by omega); rwa [hw'] at this
        have HS : Hid (cntW P = N) := hs
        have HR : Hid (WordsW w.heap.size w (List.replicate 64 0) (kL.take N ++ List.replicate (64 - N) 0) wr) := hrel
        clear hrel hs hc hb hw hw'
        go_wp2_with (go_at_call 91; refine (HC.out _).mono ?_; rintro e w' ⟨rfl, hw⟩; subst w')
        go_roundw
        case rel => exact ⟨N, P + 1, by go_num, by go_num, by omega, by omega, by omega, by simpa using HS.out, HR.out⟩
        case measure => simp [intOf]; omega
    · obtain rfl : N = 64 := by omega
      have e : kL.take 64 ++ List.replicate (64 - 64) 0 = kL := by rw [List.take_of_length_le (by rw [kL_len]; omega)]; simp
      rw [e] at hrel
      have HR : Hid (WordsW w.heap.size w (List.replicate 64 0) kL wr) := hrel
      have hi : (Tryd.prog.info? 119).map (·.size) = some (u32v kL).size := by rw [u32v_size, kL_len]; kernel_rfl
      have HI : Hid ((Tryd.prog.info? 119).map (·.size) = some (u32v kL).size) := hi
      clear hrel hc e hi
      go_wp2_with (first | (refine wpList_load_row rfl 119 _ rfl (w.heap.size + 1) rfl 119 (u32v kL) (0, 0) _ HR.out.wc Tryd.underlying119 rfl HI.out ?_) | (refine wpList_store_row rfl 119 _ _ rfl w.heap.size (u32v kL) rfl rfl 119 (u32v (List.replicate 64 0)) HR.out.rc HI.out (by rw [u32v_size, u32v_size, kL_len]; rfl) (u32v_all _) ?_))
      refine bodyPost_ret (v := .agg (u32v kL)) ?_ rfl ⟨rfl, below_setRow HR.out.bl _ (Nat.le_refl _) _⟩
      exact results_cell_row rfl _ _ w.heap.size 119 _ (0, 0) _ rfl (setRow_heap _ _ _ _ _ _ HR.out.rc) Tryd.underlying119 rfl HI.out
end Go.Proofs.YtkhidkilkbmpoaaDoor
namespace Go.Proofs.YtkhidkilkbmpoaaDoor
open Go.RowKit
def strOf (bs : List UInt8) : ByteArray := ⟨bs.toArray⟩
theorem strOf_append (a b : List UInt8) : strOf (a ++ b) = strOf a ++ strOf b := by
  apply ByteArray.ext; simp [strOf]
theorem strOf_size (a : List UInt8) : (strOf a).size = a.length := by simp [strOf, ByteArray.size]
theorem strOf_list (a : List UInt8) : (strOf a).data.toList = a := rfl
theorem strOf_of (b : ByteArray) : strOf b.data.toList = b := rfl

/-- The bytes of padding: how many noughts; a number's eight bytes, the greatest first. -/
def padZ (n : Nat) : Nat := (119 - n % 64) % 64
def beN : Nat → Nat → List UInt8
  | 0, _ => []
  | k + 1, m => beN k (m / 256) ++ [UInt8.ofNat (m % 256)]
theorem beN_len (k m : Nat) : (beN k m).length = k := by
  induction k generalizing m with
  | zero => rfl
  | succ k ih => simp [beN, ih]
def padL (n : Nat) : List UInt8 := 128 :: List.replicate (padZ n) 0 ++ beN 8 (n * 8 % 18446744073709551616)
/-- From the low end: the byte of m / 256^k goes ahead of the k bytes. -/
theorem beN_front (k m : Nat) : beN (k + 1) m = UInt8.ofNat (m / 256 ^ k % 256) :: beN k m := by
  induction k generalizing m with
  | zero => simp [beN]
  | succ k ih =>
    rw [beN, ih (m / 256), beN, Nat.div_div_eq_div_mul, ← Nat.pow_succ']
    rfl
/-- One byte, made a string. -/
theorem conv_one (W : World) (g c x : Nat) (h : W.cell? ⟨g, 0, none⟩ = some (.int .u8 (x : Int))) : (convert 45 9 (.slice (some ⟨g, 0, none⟩) 1 c)).run Tryd.prog W = .ok (.string (strOf [UInt8.ofNat x])) W := by
  have := run_convert_bytes_arg (P := Tryd.prog) W 45 5 Tryd.underlying45 Tryd.underlying5 g 0 1 c [(x : Int)] rfl (fun i hi => by
    obtain rfl : i = 0 := by omega
    simpa using h) 9 Tryd.underlying9
  rw [this]; rfl
theorem pad_ne {R k : Nat} (hR : R < 64) (hk : k < (119 - R) % 64) : ¬ (R + (k + 1)) % 64 = 56 := by omega
theorem pad_eq {R : Nat} (hR : R < 64) : (R + ((119 - R) % 64 + 1)) % 64 = 56 := by omega

set_option maxRecDepth 100000 in
set_option maxHeartbeats 800000 in
theorem pad_in (n : Nat) (w : World) (hn : n ≤ 9223372036854775807) :
    Calls Tryd.prog 84 #[.int .i64 (n : Int)] w fun e w' => e = .returned (.string (strOf (padL n))) ∧ Below w.heap.size w w' := by
  obtain ⟨R, hR⟩ : ∃ R, n % 64 = R := ⟨_, rfl⟩
  obtain ⟨m, hm⟩ : ∃ m, n * 8 % 18446744073709551616 = m := ⟨_, rfl⟩
  have hRi : (n : Int) % 64 = (R : Int) := by omega
  have hR64 : R < 64 := by omega
  have hmi : (n : Int) * 8 % 18446744073709551616 = (m : Int) := by omega
  have hm64 : m < 18446744073709551616 := by omega
  have HP : Hid (padL n = 128 :: List.replicate ((119 - R) % 64) 0 ++ beN 8 m) := by
    show padL n = _
    unfold padL padZ; rw [hR, hm]
  clear hR hm
  obtain ⟨Z, hZ⟩ : ∃ Z, (119 - R) % 64 = Z := ⟨_, rfl⟩
  have HZ : Hid ((119 - R) % 64 = Z) := hZ
  have hZ64 : Z ≤ 63 := by omega
  rw [hZ] at HP
  clear hZ
  go_enter Tryd.func84, Tryd.ntmps84
  go_wp2
  go_loop [3] (fun s => ∃ (k : Nat) (S : ByteArray), s = .string S ∧ k ≤ Z ∧ S.size = k + 1 ∧ S = strOf (128 :: List.replicate k 0)) (fun s => 100 - (match s with | .string S => S.size | _ => 0))
  case atStart => exact ⟨0, _, rfl, by omega, rfl, rfl⟩
  case round =>
    obtain ⟨k, S, rfl, hk, hsz, hS⟩ := hrel
    have HS : Hid (S = strOf (128 :: List.replicate k 0)) := hS
    clear hS
    by_cases hlt : k < Z
    · have h1 : (((R : Int) + ((k : Int) + 1)) % 64 == 56) = false := by
        have := pad_ne (R := R) (k := k) hR64 (by rw [HZ.out]; exact hlt)
        simp; omega
      go_wp2
      have e1 : S ++ { data := #[0] } = strOf (128 :: List.replicate (k + 1) 0) := by
        rw [HS.out, show (128 :: List.replicate (k + 1) 0 : List UInt8) = (128 :: List.replicate k 0) ++ [0] by rw [List.replicate_succ']; rfl, strOf_append]
        rfl
      refine ⟨⟨k + 1, _, rfl, by omega, by rw [e1, strOf_size]; simp, e1⟩, ?_⟩
      simp only
      rw [e1, strOf_size, hsz]
      simp; omega
    · obtain rfl : k = Z := by omega
      have h1 : ((R : Int) + ((k : Int) + 1)) % 64 = 56 := by
        have := pad_eq (R := R) hR64
        rw [HZ.out] at this
        omega
      go_wp2
      go_loopw [4, 5, 6] (fun x t i wr => ∃ j : Nat, j ≤ 8 ∧ i = .int .i64 (j : Int) ∧ x = .int .u64 ((m / 256 ^ j : Nat) : Int) ∧ t = .string (strOf (beN j m)) ∧ Below w.heap.size w wr) (fun _ _ i _ => 8 - (intOf i).toNat)
      case atStart => exact ⟨0, by omega, rfl, by simp; rw [IntKind.wrap_u64]; exact hmi, rfl, Below.refl _ _⟩
      case round =>
        obtain ⟨j, hj, rfl, rfl, rfl, hb⟩ := hrel
        by_cases hj8 : j < 8
        · obtain ⟨M, hM⟩ : ∃ M, m / 256 ^ j = M := ⟨_, rfl⟩
          have hMl : M ≤ m := hM ▸ Nat.div_le_self _ _
          obtain ⟨X, hX⟩ : ∃ X, M % 256 = X := ⟨_, rfl⟩
          obtain ⟨M', hM'⟩ : ∃ X, M / 256 = X := ⟨_, rfl⟩
          have HE : Hid (beN (j + 1) m = UInt8.ofNat X :: beN j m) := by
            show beN (j + 1) m = _
            rw [beN_front, hM, hX]
          have HM : Hid (m / 256 ^ (j + 1) = M') := by
            show m / 256 ^ (j + 1) = M'
            rw [Nat.pow_succ, ← Nat.div_div_eq_div_mul, hM, hM']
          have x1 : (M : Int) % 256 = (X : Int) := by omega
          have x2 : (M : Int) / 256 = (M' : Int) := by omega
          have hXl : X < 256 := by omega
          have hT : (strOf (beN j m)).size = j := by rw [strOf_size, beN_len]
          have hT1 : (strOf [UInt8.ofNat X]).size = 1 := rfl
          rw [hM]
          have hcv := fun (W : World) => conv_one W wr.heap.size 1 X
          clear hM hX hM'
          go_wp2
          go_roundw
          case rel =>
            refine ⟨j + 1, by omega, by go_num, by rw [HM.out], ?_, hb.alloc hb.size _⟩
            rw [HE.out, show UInt8.ofNat X :: beN j m = [UInt8.ofNat X] ++ beN j m from rfl, strOf_append]
          case measure => simp [intOf]; omega
        · obtain rfl : j = 8 := by omega
          have hT : (strOf (beN 8 m)).size = 8 := by rw [strOf_size, beN_len]
          obtain ⟨T, hTT⟩ : ∃ T, strOf (beN 8 m) = T := ⟨_, rfl⟩
          have HT : Hid (strOf (beN 8 m) = T) := hTT
          rw [hTT] at hT ⊢
          clear hTT
          go_wp2
          go_ret
          exact ⟨ret_val (by rw [HP.out, strOf_append, ← HS.out, HT.out]; rfl), hb⟩
theorem pad_neg (n : Int) (w : World) (hn : n < 0) :
    Calls Tryd.prog 84 #[.int .i64 n] w fun e w' => e = .returned (.string (strOf [])) ∧ w' = w := by
  go_enter Tryd.func84, Tryd.ntmps84
  go_wp2
  go_ret
  exact ⟨rfl, rfl⟩
end Go.Proofs.YtkhidkilkbmpoaaDoor
