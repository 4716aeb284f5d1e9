/- Walk over the document's Words. -/
import Derived.Test.YtbflkkffpcaakaaDoorC
import Derived.Test.YtbflkkffpcaakaaDoorW
namespace Go.Proofs.YtbflkkffpcaakaaDoor
open Go.RowKit
/-- The cube roots' words of the first 64 primes. -/
def kL : List Nat := (List.range 64).map fun i => rootW (primeN i) true
theorem kL_len : kL.length = 64 := by simp [kL]
theorem rootW_lt (p : Nat) (c : Bool) : rootW p c < 4294967296 := Nat.mod_lt _ (by omega)
theorem kL_wd : Wd kL := by
  intro x hx
  obtain ⟨i, _, rfl⟩ := List.mem_map.1 hx
  exact rootW_lt _ _
theorem kL_snoc (n : Nat) (h : n < 64) : kL.take (n + 1) = kL.take n ++ [rootW (primeN n) true] := by
  rw [List.take_add_one]
  simp [kL, List.getElem?_range h]
theorem u32v_size (l : List Nat) : (u32v l).size = l.length := by simp [u32v]
theorem u32v_all (l : List Nat) : (u32v l).all (·.oneCell') = true := by
  simp [u32v, Value.oneCell']
/-- The memory of Words: two arrays. -/
structure WordsW (g : Nat) (w0 : World) (rs ws : List Nat) (wr : World) : Prop where
  rc : wr.heap[g]? = some (.cells (u32v rs) 71 (0, 0))
  wc : wr.heap[g + 1]? = some (.cells (u32v ws) 71 (0, 0))
  sz : wr.heap.size = g + 2
  bl : Below g w0 wr
theorem WordsW.start (w : World) (rs ws : List Nat) : WordsW w.heap.size w rs ws ((w.alloc (.cells (u32v rs) 71)).alloc (.cells (u32v ws) 71)) := by
  have sz : ∀ (w : World) (o : Obj), (w.alloc o).heap.size = w.heap.size + 1 := fun w o => by simp
  refine ⟨?_, ?_, ?_, ?_⟩
  · rw [Go.heap_alloc_old _ _ (by simp only [sz]; omega)]; exact heap_alloc_new _ _
  · exact sz w _ ▸ heap_alloc_new _ _
  · simp only [sz]
  · exact ((Below.refl _ w).alloc (by omega) _).alloc (by simp only [sz]; omega) _
section
variable {g : Nat} {w0 : World} {rs ws : List Nat} {wr : World}
theorem WordsW.wcell (h : WordsW g w0 rs ws wr) (i : Nat) (hi : i < ws.length) : wr.cell? ⟨g + 1, i, none⟩ = some (.int .u32 ((ws.getD i 0 : Nat) : Int)) := by
  rw [cell_of_row wr (g + 1) i _ _ _ h.wc, u32v_get ws i hi]
theorem WordsW.wfro (h : WordsW g w0 rs ws wr) (i : Nat) : wr.frozen? ⟨g + 1, i, none⟩ = false := frozen_of_row wr (g + 1) i _ _ h.wc
theorem WordsW.wput (h : WordsW g w0 rs ws wr) (i x : Nat) : WordsW g w0 rs (ws.set i x) (wr.setCell ⟨g + 1, i, none⟩ (.int .u32 (x : Int))) := by
  refine ⟨?_, ?_, ?_, ?_⟩
  · rw [heap_setCell_other _ _ _ _ (by show g ≠ g + 1; omega)]; exact h.rc
  · rw [heap_setCell_same wr (g + 1) i _ _ _ h.wc, u32v_set]
  · rw [World.size_setCell]; exact h.sz
  · exact h.bl.setCell (by show g ≤ g + 1; omega) _
theorem below_setRow {B : Nat} {a w : World} (h : Below B a w) (g : Nat) (hg : B ≤ g) (cs : Array Value) : Below B a (w.setRow g cs) :=
  ⟨h.os, h.tape, h.output, by rw [size_setRow]; exact h.size, fun k hk => by rw [setRow_other w g k cs (by omega)]; exact h.block k hk⟩
end
set_option maxRecDepth 100000 in
set_option maxHeartbeats 800000 in
theorem words_any (w : World) : Calls Tryd.prog 44 #[] w fun e w' => e = .returned (.agg (u32v kL)) ∧ Below w.heap.size w w' := by
  go_enter Tryd.func44, Tryd.ntmps44
  go_wp2
  go_loopw [2, 3] (fun n p wr => ∃ N P : Nat, n = .int .i64 (N : Int) ∧ p = .int .u32 (P : Int) ∧ N ≤ 64 ∧ 2 ≤ P ∧ P ≤ 542 ∧ cntW (P - 1) = N ∧ WordsW w.heap.size w (List.replicate 64 0) (kL.take N ++ List.replicate (64 - N) 0) wr) (fun _ p _ => 543 - (intOf p).toNat)
  case atStart => exact ⟨0, 2, rfl, rfl, by omega, by omega, by omega, rfl, WordsW.start w (List.replicate 64 0) (List.replicate 64 0)⟩
  case round =>
    obtain ⟨N, P, rfl, rfl, hN, hP, hP', hc, hrel⟩ := hrel
    by_cases hlt : N < 64
    · have hb : P - 1 < primeN N := below_prime (by omega) (by omega)
      have h541 : P ≤ 541 := by have := (primes_ok ⟨N, by omega⟩).2.2.2; simp only at this; omega
      have hs := cntW_succ (P - 1) (by omega)
      rw [show P - 1 + 1 = P by omega, hc] at hs
      by_cases hw : wholeB P = true
      · rw [hw, if_pos rfl] at hs
        have hPp : P = primeN N := prime_of (by omega) hw hP hs
        have HC : Hid (∀ w, Calls Tryd.prog 51 #[.int .u32 (P : Int)] w fun e w' => e = .returned (.bool true) ∧ w' = w) := by
          intro w; have := whole_any P w (by omega); rwa [hw] at this
        have HRT : Hid (∀ w, Calls Tryd.prog 45 #[.int .u32 (P : Int), .bool true] w fun e w' => e = .returned (.int .u32 (rootW P true : Int)) ∧ w' = w) := fun w => root_any P true w (by omega)
        have HS : Hid (cntW P = N + 1) := hs
        have HE : Hid (P = primeN N) := hPp
        obtain ⟨y, cy⟩ : ∃ y : Int, wr.cell? ⟨w.heap.size + 1, N, none⟩ = some (.int .u32 y) := ⟨_, hrel.wcell N (by simp [kL_len]; omega)⟩
        have hf : wr.frozen? ⟨w.heap.size + 1, N, none⟩ = false := hrel.wfro N
        have kt : (N : Int) < 64 := by omega
        have HR : Hid (WordsW w.heap.size w (List.replicate 64 0) (kL.take N ++ List.replicate (64 - N) 0) wr) := hrel
        clear hrel hs hPp hc hb hw
        go_wp2_with (first | (go_at_call 51; refine (HC.out _).mono ?_; rintro e w' ⟨rfl, hw⟩; subst w') | (go_at_call 45; refine (HRT.out _).mono ?_; rintro e w' ⟨rfl, hw⟩; subst w'))
        go_roundw
        case rel =>
          refine ⟨N + 1, P + 1, by go_num, by go_num, by omega, by omega, by omega, by simpa using HS.out, ?_⟩
          have h := HR.out.wput N (rootW P true)
          have el : (kL.take N).length = N := by simp [kL_len]; omega
          have es := set_mid (kL.take N) (64 - (N + 1)) (rootW P true)
          rw [el, show 64 - (N + 1) + 1 = 64 - N by omega] at es
          rw [es] at h
          rw [kL_snoc N hlt, ← HE.out]
          exact h
        case measure => simp [intOf]; omega
      · have hw' : wholeB P = false := by simpa using hw
        rw [hw', if_neg (by simp), Nat.add_zero] at hs
        have HC : Hid (∀ w, Calls Tryd.prog 51 #[.int .u32 (P : Int)] w fun e w' => e = .returned (.bool false) ∧ w' = w) := by
          intro w; have := whole_any P w (by omega); rwa [hw'] at this
        have HS : Hid (cntW P = N) := hs
        have HR : Hid (WordsW w.heap.size w (List.replicate 64 0) (kL.take N ++ List.replicate (64 - N) 0) wr) := hrel
        clear hrel hs hc hb hw hw'
        go_wp2_with (go_at_call 51; refine (HC.out _).mono ?_; rintro e w' ⟨rfl, hw⟩; subst w')
        go_roundw
        case rel => exact ⟨N, P + 1, by go_num, by go_num, by omega, by omega, by omega, by simpa using HS.out, HR.out⟩
        case measure => simp [intOf]; omega
    · obtain rfl : N = 64 := by omega
      have e : kL.take 64 ++ List.replicate (64 - 64) 0 = kL := by rw [List.take_of_length_le (by rw [kL_len]; omega)]; simp
      rw [e] at hrel
      have HR : Hid (WordsW w.heap.size w (List.replicate 64 0) kL wr) := hrel
      have hi : (Tryd.prog.info? 71).map (·.size) = some (u32v kL).size := by rw [u32v_size, kL_len]; kernel_rfl
      have HI : Hid ((Tryd.prog.info? 71).map (·.size) = some (u32v kL).size) := hi
      clear hrel hc e hi
      go_wp2_with (first | (refine wpList_load_row rfl 71 _ rfl (w.heap.size + 1) rfl 71 (u32v kL) (0, 0) _ HR.out.wc Tryd.underlying71 rfl HI.out ?_) | (refine wpList_store_row rfl 71 _ _ rfl w.heap.size (u32v kL) rfl rfl 71 (u32v (List.replicate 64 0)) HR.out.rc HI.out (by rw [u32v_size, u32v_size, kL_len]; rfl) (u32v_all _) ?_))
      refine bodyPost_ret (v := .agg (u32v kL)) ?_ rfl ⟨rfl, below_setRow HR.out.bl _ (Nat.le_refl _) _⟩
      exact results_cell_row rfl _ _ w.heap.size 71 _ (0, 0) _ rfl (setRow_heap _ _ _ _ _ _ HR.out.rc) Tryd.underlying71 rfl HI.out
end Go.Proofs.YtbflkkffpcaakaaDoor
