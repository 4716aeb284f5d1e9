/- Proved: for every state and block, the law ShaMixes returns true, both as they were; where the package's two tables begin as the program's text lays them. -/
import Derived.Test.YtmachfapcgjljaaDoorBC
import Derived.Test.YtmachfapcgjljaaDoorX
import Derived.Test.YtmachfapcgjljaaDoorCards
import Derived.Test.YtmachfapcgjljaaDoorTie
import Derived.WalkKit
import Derived.ProofKit
import Derived.OpenShut
import Derived.ShutString
import Derived.ChangeOld
import Derived.Below
import Derived.LaidMore
import Derived.Stop.Joined
import Derived.SevenTiedAt
namespace Go.Proofs.YtmachfapcgjljaaDoor.shaMixes
open Go.ChangeShapes Go.WideShapes Go.ChangeAt Go.WideMaps Go.WideElems Go.RowKit
open Go.ChangeMaps (open_string shut_string)
theorem laidOut : laidOutB Tryd.prog = true := by kernel_rfl


theorem open_eight {H : Type} {enc : TypeId × Value → H} {W : World} {b base : Nat} {sp : Nat → Bool} {hd : Bool} {r : Reach} {v : Value} {d : DataW H} {p : List MemPlace} (hv : Value.okWide Tryd.prog W r b 31 v) (h : DataW.Trod enc Tryd.prog W base sp hd 31 v d p) :
    ∃ s0 s1 s2 s3 s4 s5 s6 s7 : Nat, Wd [s0, s1, s2, s3, s4, s5, s6, s7] ∧ v = .agg #[.int .u32 (s0 : Int), .int .u32 (s1 : Int), .int .u32 (s2 : Int), .int .u32 (s3 : Int), .int .u32 (s4 : Int), .int .u32 (s5 : Int), .int .u32 (s6 : Int), .int .u32 (s7 : Int)] := by
  simp only [Value.okWide, Tryd.underlying31] at hv
  obtain ⟨cs, rfl, hsz, _⟩ := hv
  rw [show Tryd.prog.cellsOf 31 = 8 by kernel_rfl] at hsz
  obtain ⟨fuel, hf⟩ := h
  obtain ⟨xs, m, _, _, hlen, hn, hel⟩ := DataW.trod_array Tryd.underlying31 hf
  have key : ∀ i, i < 8 → ∃ k : Nat, k < 4294967296 ∧ cs[i]? = some (.int .u32 (k : Int)) := by
    intro i hi
    have h0 := hel i hi
    rw [show Tryd.prog.cellsOf 22 = 1 by kernel_rfl, Nat.mul_one, List.getElem?_eq_getElem (by omega)] at h0
    obtain ⟨k, e1, _, hw⟩ := DataW.trod_int Tryd.underlying22 h0
    have hk := wf_u32 hw
    obtain ⟨K, rfl⟩ := Int.eq_ofNat_of_zero_le hk.1
    refine ⟨K, by omega, ?_⟩
    have : ((cs.toList.drop i).take 1)[0]? = some (.int .u32 (K : Int)) := by
      have e2 : (Value.agg cs).cells.toList = cs.toList := rfl
      rw [e2] at e1
      rw [e1]; rfl
    rw [List.getElem?_take_of_lt (by omega), List.getElem?_drop] at this
    simpa using this
  obtain ⟨s0, b0, e0⟩ := key 0 (by omega)
  obtain ⟨s1, b1, e1⟩ := key 1 (by omega)
  obtain ⟨s2, b2, e2⟩ := key 2 (by omega)
  obtain ⟨s3, b3, e3⟩ := key 3 (by omega)
  obtain ⟨s4, b4, e4⟩ := key 4 (by omega)
  obtain ⟨s5, b5, e5⟩ := key 5 (by omega)
  obtain ⟨s6, b6, e6⟩ := key 6 (by omega)
  obtain ⟨s7, b7, e7⟩ := key 7 (by omega)
  refine ⟨s0, s1, s2, s3, s4, s5, s6, s7, ?_, ?_⟩
  · simp only [Wd, List.mem_cons, List.not_mem_nil, or_false, forall_eq_or_imp, forall_eq]
    exact ⟨b0, b1, b2, b3, b4, b5, b6, b7⟩
  · congr 1
    apply Array.ext
    · simpa using hsz
    · intro i h1 h2
      have hi : i < 8 := by omega
      have : cs[i]? = (#[.int .u32 (s0 : Int), .int .u32 (s1 : Int), .int .u32 (s2 : Int), .int .u32 (s3 : Int), .int .u32 (s4 : Int), .int .u32 (s5 : Int), .int .u32 (s6 : Int), .int .u32 (s7 : Int)] : Array Value)[i]? := by
        match i, hi with
        | 0, _ => exact e0
        | 1, _ => exact e1
        | 2, _ => exact e2
        | 3, _ => exact e3
        | 4, _ => exact e4
        | 5, _ => exact e5
        | 6, _ => exact e6
        | 7, _ => exact e7
      rw [Array.getElem?_eq_getElem h1, Array.getElem?_eq_getElem h2] at this
      exact Option.some.inj this

set_option maxRecDepth 100000 in
set_option maxHeartbeats 2000000 in
theorem walk (s0 s1 s2 s3 s4 s5 s6 s7 : Nat) (hsw : Wd [s0, s1, s2, s3, s4, s5, s6, s7]) (a1 : Option Addr) (len1 cap1 : Nat) (z1 : List Int) (w : World) (w1 : IsRow .u8 w a1 len1 cap1 z1) (hL : Laid w) :
    Calls Tryd.prog 6 #[.agg #[.int .u32 (s0 : Int), .int .u32 (s1 : Int), .int .u32 (s2 : Int), .int .u32 (s3 : Int), .int .u32 (s4 : Int), .int .u32 (s5 : Int), .int .u32 (s6 : Int), .int .u32 (s7 : Int)], .slice a1 len1 cap1] w fun e w' => e = .returned (.bool true) ∧ Below w.heap.size w w' := by
  obtain ⟨bs, hb⟩ := w1.bsI
  have HLV : Hid (∀ W, Below w.heap.size w W → Calls Tryd.prog 11 #[] W fun e w' => e = .returned (.bool true) ∧ Below w.heap.size w w' ∧ Below W.heap.size W w') := by
    intro W hW
    refine (lives_any W (hL.below hW)).mono ?_
    rintro e w' ⟨rfl, hb⟩
    exact ⟨rfl, hW.trans (hb.mono hW.size), hb⟩
  have hb0 : Below w.heap.size w (w.alloc (.cells #[.int .u32 (s0 : Int), .int .u32 (s1 : Int), .int .u32 (s2 : Int), .int .u32 (s3 : Int), .int .u32 (s4 : Int), .int .u32 (s5 : Int), .int .u32 (s6 : Int), .int .u32 (s7 : Int)] 31)) := (Below.refl _ w).alloc (Nat.le_refl _) _
  by_cases h64 : len1 = 64
  · subst h64
    obtain ⟨bb, bo, rfl, hlt, hc⟩ := hb.2.2.2 (by omega)
    obtain ⟨n0, n1, n2, n3, n4, n5, n6, n7, hn, hnw⟩ := mixL_eight kL [s0, s1, s2, s3, s4, s5, s6, s7] bs ⟨_, _, _, _, _, _, _, _, rfl, hsw⟩
    have H16 : Hid (Calls Tryd.prog 16 #[.agg #[.int .u32 (s0 : Int), .int .u32 (s1 : Int), .int .u32 (s2 : Int), .int .u32 (s3 : Int), .int .u32 (s4 : Int), .int .u32 (s5 : Int), .int .u32 (s6 : Int), .int .u32 (s7 : Int)], .slice (some ⟨bb, bo, none⟩) 64 cap1] (w.alloc (.cells #[.int .u32 (s0 : Int), .int .u32 (s1 : Int), .int .u32 (s2 : Int), .int .u32 (s3 : Int), .int .u32 (s4 : Int), .int .u32 (s5 : Int), .int .u32 (s6 : Int), .int .u32 (s7 : Int)] 31)) fun e w' => e = .returned (.tuple #[.agg #[.int .u32 (n0 : Int), .int .u32 (n1 : Int), .int .u32 (n2 : Int), .int .u32 (n3 : Int), .int .u32 (n4 : Int), .int .u32 (n5 : Int), .int .u32 (n6 : Int), .int .u32 (n7 : Int)], .int .i64 0]) ∧ Below (w.heap.size + 1) (w.alloc (.cells #[.int .u32 (s0 : Int), .int .u32 (s1 : Int), .int .u32 (s2 : Int), .int .u32 (s3 : Int), .int .u32 (s4 : Int), .int .u32 (s5 : Int), .int .u32 (s6 : Int), .int .u32 (s7 : Int)] 31)) w') := by
      have := mix_is ⟨bb, bo, none⟩ cap1 bs s0 s1 s2 s3 s4 s5 s6 s7 n0 n1 n2 n3 n4 n5 n6 n7 (w.alloc (.cells #[.int .u32 (s0 : Int), .int .u32 (s1 : Int), .int .u32 (s2 : Int), .int .u32 (s3 : Int), .int .u32 (s4 : Int), .int .u32 (s5 : Int), .int .u32 (s6 : Int), .int .u32 (s7 : Int)] 31)) hsw (Nat.lt_of_lt_of_le hlt hb0.size) (fun i hi => by rw [add_at, hb0.cell hlt]; exact hc i hi) (hL.below hb0) hn
      rw [show (w.alloc (.cells #[.int .u32 (s0 : Int), .int .u32 (s1 : Int), .int .u32 (s2 : Int), .int .u32 (s3 : Int), .int .u32 (s4 : Int), .int .u32 (s5 : Int), .int .u32 (s6 : Int), .int .u32 (s7 : Int)] 31)).heap.size = w.heap.size + 1 by simp] at this
      exact this
    have HWD : Hid (∀ W, Calls Tryd.prog 18 #[] W fun e w' => e = .returned (.agg (u32v kL)) ∧ Below W.heap.size W w') := fun W => words_any W
    have hbl := hb.1
    have HRM : Hid (∀ W, Calls Tryd.prog 17 #[.agg (u32v kL), .agg #[.int .u32 (s0 : Int), .int .u32 (s1 : Int), .int .u32 (s2 : Int), .int .u32 (s3 : Int), .int .u32 (s4 : Int), .int .u32 (s5 : Int), .int .u32 (s6 : Int), .int .u32 (s7 : Int)], .string (strOf bs)] W fun e w' => e = .returned (.agg #[.int .u32 (n0 : Int), .int .u32 (n1 : Int), .int .u32 (n2 : Int), .int .u32 (n3 : Int), .int .u32 (n4 : Int), .int .u32 (n5 : Int), .int .u32 (n6 : Int), .int .u32 (n7 : Int)]) ∧ Below W.heap.size W w') := by
      intro W
      have := mix_any kL s0 s1 s2 s3 s4 s5 s6 s7 (strOf bs) W kL_len kL_wd hsw (by rw [strOf_size]; omega)
      rw [strOf_list, hn] at this
      exact this
    have HCV : Hid (∀ W, Below w.heap.size w W → (convert 28 9 (.slice (some ⟨bb, bo, none⟩) 64 cap1)).run Tryd.prog W = .ok (.string (strOf bs)) W) := fun W hW => hb.conv hW
    revert HRM HCV
    generalize strOf bs = B
    intro HRM HCV
    have HB0 : Hid (Below w.heap.size w (w.alloc (.cells #[.int .u32 (s0 : Int), .int .u32 (s1 : Int), .int .u32 (s2 : Int), .int .u32 (s3 : Int), .int .u32 (s4 : Int), .int .u32 (s5 : Int), .int .u32 (s6 : Int), .int .u32 (s7 : Int)] 31))) := hb0
    clear w1 hb hL hc hn hnw hsw hb0 hbl hlt
    go_enter Tryd.func6, Tryd.ntmps6
    go_wp2_with (go_at_call 16; refine H16.out.mono ?_; rintro e w2 ⟨rfl, hb2⟩; have HB2 : Hid (Below (w.heap.size + 1) (w.alloc (.cells #[.int .u32 (s0 : Int), .int .u32 (s1 : Int), .int .u32 (s2 : Int), .int .u32 (s3 : Int), .int .u32 (s4 : Int), .int .u32 (s5 : Int), .int .u32 (s6 : Int), .int .u32 (s7 : Int)] 31)) w2) := hb2; clear hb2)
    obtain ⟨W3, hW3⟩ : ∃ W, W = w2.alloc (.cells #[.int .u32 (n0 : Int), .int .u32 (n1 : Int), .int .u32 (n2 : Int), .int .u32 (n3 : Int), .int .u32 (n4 : Int), .int .u32 (n5 : Int), .int .u32 (n6 : Int), .int .u32 (n7 : Int)] 31) := ⟨_, rfl⟩
    rw [← hW3]
    have hz2 := HB2.out.size
    simp only [World.size_alloc] at hz2
    have HB3 : Hid (Below w.heap.size w W3) := by rw [hW3]; exact (HB0.out.trans (HB2.out.mono (by omega))).alloc (by omega) _
    have hz3 : W3.heap.size = w2.heap.size + 1 := by rw [hW3]; simp
    have hrn : W3.heap[w2.heap.size]? = some (.cells #[.int .u32 (n0 : Int), .int .u32 (n1 : Int), .int .u32 (n2 : Int), .int .u32 (n3 : Int), .int .u32 (n4 : Int), .int .u32 (n5 : Int), .int .u32 (n6 : Int), .int .u32 (n7 : Int)] 31 (0, 0)) := by rw [hW3]; exact heap_alloc_new _ _
    have hrs : W3.heap[w.heap.size]? = some (.cells #[.int .u32 (s0 : Int), .int .u32 (s1 : Int), .int .u32 (s2 : Int), .int .u32 (s3 : Int), .int .u32 (s4 : Int), .int .u32 (s5 : Int), .int .u32 (s6 : Int), .int .u32 (s7 : Int)] 31 (0, 0)) := by
      rw [hW3, Go.heap_alloc_old _ _ (by omega), HB2.out.block _ (by omega)]; exact heap_alloc_new _ _
    have HST : Hid (∀ W, Below W3.heap.size W3 W → W.cell? ⟨w2.heap.size, 0, none⟩ = some (.int .u32 (n0 : Int)) ∧ W.cell? ⟨w2.heap.size, 1, none⟩ = some (.int .u32 (n1 : Int)) ∧ W.cell? ⟨w2.heap.size, 2, none⟩ = some (.int .u32 (n2 : Int)) ∧ W.cell? ⟨w2.heap.size, 3, none⟩ = some (.int .u32 (n3 : Int)) ∧ W.cell? ⟨w2.heap.size, 4, none⟩ = some (.int .u32 (n4 : Int)) ∧ W.cell? ⟨w2.heap.size, 5, none⟩ = some (.int .u32 (n5 : Int)) ∧ W.cell? ⟨w2.heap.size, 6, none⟩ = some (.int .u32 (n6 : Int)) ∧ W.cell? ⟨w2.heap.size, 7, none⟩ = some (.int .u32 (n7 : Int)) ∧ W.cell? ⟨w.heap.size, 0, none⟩ = some (.int .u32 (s0 : Int)) ∧ W.cell? ⟨w.heap.size, 1, none⟩ = some (.int .u32 (s1 : Int)) ∧ W.cell? ⟨w.heap.size, 2, none⟩ = some (.int .u32 (s2 : Int)) ∧ W.cell? ⟨w.heap.size, 3, none⟩ = some (.int .u32 (s3 : Int)) ∧ W.cell? ⟨w.heap.size, 4, none⟩ = some (.int .u32 (s4 : Int)) ∧ W.cell? ⟨w.heap.size, 5, none⟩ = some (.int .u32 (s5 : Int)) ∧ W.cell? ⟨w.heap.size, 6, none⟩ = some (.int .u32 (s6 : Int)) ∧ W.cell? ⟨w.heap.size, 7, none⟩ = some (.int .u32 (s7 : Int)) ∧ (convert 28 9 (.slice (some ⟨bb, bo, none⟩) 64 cap1)).run Tryd.prog W = .ok (.string B) W) := by
      intro W hW
      have rn : W.heap[w2.heap.size]? = some (.cells #[.int .u32 (n0 : Int), .int .u32 (n1 : Int), .int .u32 (n2 : Int), .int .u32 (n3 : Int), .int .u32 (n4 : Int), .int .u32 (n5 : Int), .int .u32 (n6 : Int), .int .u32 (n7 : Int)] 31 (0, 0)) := (hW.block _ (by omega)).trans hrn
      have rs : W.heap[w.heap.size]? = some (.cells #[.int .u32 (s0 : Int), .int .u32 (s1 : Int), .int .u32 (s2 : Int), .int .u32 (s3 : Int), .int .u32 (s4 : Int), .int .u32 (s5 : Int), .int .u32 (s6 : Int), .int .u32 (s7 : Int)] 31 (0, 0)) := (hW.block _ (by omega)).trans hrs
      refine ⟨(cell_of_row W _ 0 _ _ _ rn).trans rfl, (cell_of_row W _ 1 _ _ _ rn).trans rfl, (cell_of_row W _ 2 _ _ _ rn).trans rfl, (cell_of_row W _ 3 _ _ _ rn).trans rfl, (cell_of_row W _ 4 _ _ _ rn).trans rfl, (cell_of_row W _ 5 _ _ _ rn).trans rfl, (cell_of_row W _ 6 _ _ _ rn).trans rfl, (cell_of_row W _ 7 _ _ _ rn).trans rfl, (cell_of_row W _ 0 _ _ _ rs).trans rfl, (cell_of_row W _ 1 _ _ _ rs).trans rfl, (cell_of_row W _ 2 _ _ _ rs).trans rfl, (cell_of_row W _ 3 _ _ _ rs).trans rfl, (cell_of_row W _ 4 _ _ _ rs).trans rfl, (cell_of_row W _ 5 _ _ _ rs).trans rfl, (cell_of_row W _ 6 _ _ _ rs).trans rfl, (cell_of_row W _ 7 _ _ _ rs).trans rfl, HCV.out W (HB3.out.trans (hW.mono HB3.out.size))⟩
    clear hW3 hz2 hz3 hrn hrs
    have heq : ∀ W : World, (Op.equalIn 10000 31 (.agg #[.int .u32 (n0 : Int), .int .u32 (n1 : Int), .int .u32 (n2 : Int), .int .u32 (n3 : Int), .int .u32 (n4 : Int), .int .u32 (n5 : Int), .int .u32 (n6 : Int), .int .u32 (n7 : Int)]) (.agg #[.int .u32 (n0 : Int), .int .u32 (n1 : Int), .int .u32 (n2 : Int), .int .u32 (n3 : Int), .int .u32 (n4 : Int), .int .u32 (n5 : Int), .int .u32 (n6 : Int), .int .u32 (n7 : Int)])).run Tryd.prog W = .ok true W := fun W => eq8 (n0 : Int) (n1 : Int) (n2 : Int) (n3 : Int) (n4 : Int) (n5 : Int) (n6 : Int) (n7 : Int) W
    refine wp_region_held_drew (S := fun W => W.cell? ⟨w2.heap.size, 0, none⟩ = some (.int .u32 (n0 : Int)) ∧ W.cell? ⟨w2.heap.size, 1, none⟩ = some (.int .u32 (n1 : Int)) ∧ W.cell? ⟨w2.heap.size, 2, none⟩ = some (.int .u32 (n2 : Int)) ∧ W.cell? ⟨w2.heap.size, 3, none⟩ = some (.int .u32 (n3 : Int)) ∧ W.cell? ⟨w2.heap.size, 4, none⟩ = some (.int .u32 (n4 : Int)) ∧ W.cell? ⟨w2.heap.size, 5, none⟩ = some (.int .u32 (n5 : Int)) ∧ W.cell? ⟨w2.heap.size, 6, none⟩ = some (.int .u32 (n6 : Int)) ∧ W.cell? ⟨w2.heap.size, 7, none⟩ = some (.int .u32 (n7 : Int)) ∧ W.cell? ⟨w.heap.size, 0, none⟩ = some (.int .u32 (s0 : Int)) ∧ W.cell? ⟨w.heap.size, 1, none⟩ = some (.int .u32 (s1 : Int)) ∧ W.cell? ⟨w.heap.size, 2, none⟩ = some (.int .u32 (s2 : Int)) ∧ W.cell? ⟨w.heap.size, 3, none⟩ = some (.int .u32 (s3 : Int)) ∧ W.cell? ⟨w.heap.size, 4, none⟩ = some (.int .u32 (s4 : Int)) ∧ W.cell? ⟨w.heap.size, 5, none⟩ = some (.int .u32 (s5 : Int)) ∧ W.cell? ⟨w.heap.size, 6, none⟩ = some (.int .u32 (s6 : Int)) ∧ W.cell? ⟨w.heap.size, 7, none⟩ = some (.int .u32 (s7 : Int)) ∧ (convert 28 9 (.slice (some ⟨bb, bo, none⟩) 64 cap1)).run Tryd.prog W = .ok (.string B) W) (by kernel_rfl) (HST.out _ (Below.refl _ _).drew) (fun hHeld => ?_)
    refine wpAnyH_take (i := 0) (v := ?vg4_0) rfl (by kernel_rfl) (by kernel_rfl) (by kernel_rfl) (fun _ _ _ h => h) (Or.inl ⟨by kernel_rfl, ?yg4_0⟩) hHeld ?rg4_0
    case yg4_0 => (intro W hSW; (try dsimp only at hSW); go_simp; (try with_reducible rfl))
    change wpAnyH _ _ _ _ _ _ _ (Act.put _ (some 26) _) _
    simp only [Act.put, List.setIfInBounds_toArray, List.set_cons_zero, List.set_cons_succ]
    refine wpAnyH_take (i := 1) (v := ?vg4_1) rfl (by kernel_rfl) (by kernel_rfl) (by kernel_rfl) (fun _ _ _ h => h) (Or.inl ⟨by kernel_rfl, ?yg4_1⟩) hHeld ?rg4_1
    case yg4_1 => (intro W hSW; (try dsimp only at hSW); go_simp; (try with_reducible rfl))
    change wpAnyH _ _ _ _ _ _ _ (Act.put _ (some 27) _) _
    simp only [Act.put, List.setIfInBounds_toArray, List.set_cons_zero, List.set_cons_succ]
    refine wpAnyH_take (i := 2) (v := ?vg4_2) rfl (by kernel_rfl) (by kernel_rfl) (by kernel_rfl) (fun _ _ _ h => h) (Or.inl ⟨by kernel_rfl, ?yg4_2⟩) hHeld ?rg4_2
    case yg4_2 => (intro W hSW; (try dsimp only at hSW); go_simp; (try with_reducible rfl))
    change wpAnyH _ _ _ _ _ _ _ (Act.put _ (some 28) _) _
    simp only [Act.put, List.setIfInBounds_toArray, List.set_cons_zero, List.set_cons_succ]
    refine wpAnyH_take (i := 3) (v := ?vg4_3) rfl (by kernel_rfl) (by kernel_rfl) (by kernel_rfl) (fun _ _ _ h => h) (Or.inl ⟨by kernel_rfl, ?yg4_3⟩) hHeld ?rg4_3
    case yg4_3 => (intro W hSW; (try dsimp only at hSW); go_simp; (try with_reducible rfl))
    change wpAnyH _ _ _ _ _ _ _ (Act.put _ (some 29) _) _
    simp only [Act.put, List.setIfInBounds_toArray, List.set_cons_zero, List.set_cons_succ]
    refine wpAnyH_take (i := 5) (v := ?vg4_5) rfl (by kernel_rfl) (by kernel_rfl) (by kernel_rfl) (fun _ _ _ h => h) (Or.inl ⟨by kernel_rfl, ?yg4_5⟩) hHeld ?rg4_5
    case yg4_5 => (intro W hSW; (try dsimp only at hSW); go_simp; (try with_reducible rfl))
    change wpAnyH _ _ _ _ _ _ _ (Act.put _ (some 31) _) _
    simp only [Act.put, List.setIfInBounds_toArray, List.set_cons_zero, List.set_cons_succ]
    refine wpAnyH_take (i := 6) (v := ?vg4_6) rfl (by kernel_rfl) (by kernel_rfl) (by kernel_rfl) (fun _ _ _ h => h) (Or.inl ⟨by kernel_rfl, ?yg4_6⟩) hHeld ?rg4_6
    case yg4_6 => (intro W hSW; (try dsimp only at hSW); go_simp; (try with_reducible rfl))
    change wpAnyH _ _ _ _ _ _ _ (Act.put _ (some 32) _) _
    simp only [Act.put, List.setIfInBounds_toArray, List.set_cons_zero, List.set_cons_succ]
    refine wpAnyH_take (i := 7) (v := ?vg4_7) rfl (by kernel_rfl) (by kernel_rfl) (by kernel_rfl) (fun _ _ _ h => h) (Or.inl ⟨by kernel_rfl, ?yg4_7⟩) hHeld ?rg4_7
    case yg4_7 => (intro W hSW; (try dsimp only at hSW); go_simp; (try with_reducible rfl))
    change wpAnyH _ _ _ _ _ _ _ (Act.put _ (some 33) _) _
    simp only [Act.put, List.setIfInBounds_toArray, List.set_cons_zero, List.set_cons_succ]
    refine wpAnyH_ready (rs := [4]) (by kernel_rfl) (by simp) ?_
    refine AllReadyH.cons rfl (fun K hK => ?_) AllReadyH.nil
    go_simp
    refine (HWD.out _).mono ?_
    rintro e w4 ⟨rfl, hb4⟩; have HB4 : Hid (Below W3.heap.size W3 w4) := undrew hb4; clear hb4
    refine hK.out _ _ (HST.out _ HB4.out) (fun hHeld => ?_)
    clear hK K
    try simp only [Act.put, List.setIfInBounds_toArray, List.set_cons_zero, List.set_cons_succ]
    refine wpAnyH_ready (rs := [8]) (by kernel_rfl) (by simp) ?_
    refine AllReadyH.cons rfl (fun K hK => ?_) AllReadyH.nil
    go_simp
    refine (HRM.out _).mono ?_
    rintro e w5 ⟨rfl, hb5⟩; have HB5 : Hid (Below W3.heap.size W3 w5) := HB4.out.trans (hb5.mono HB4.out.size); clear hb5
    refine hK.out _ _ (HST.out _ HB5.out) (fun hHeld => ?_)
    clear hK K
    try simp only [Act.put, List.setIfInBounds_toArray, List.set_cons_zero, List.set_cons_succ]
    refine wpAnyH_take (i := 9) (v := ?vg4_9) rfl (by kernel_rfl) (by kernel_rfl) (by kernel_rfl) (fun _ _ _ h => h) (Or.inl ⟨by kernel_rfl, ?yg4_9⟩) hHeld ?rg4_9
    case yg4_9 => (intro W hSW; (try dsimp only at hSW); go_simp; (try with_reducible rfl))
    change wpAnyH _ _ _ _ _ _ _ (Act.put _ (some 35) _) _
    simp only [Act.put, List.setIfInBounds_toArray, List.set_cons_zero, List.set_cons_succ]
    refine wpAnyH_take (i := 10) (v := ?vg4_10) rfl (by kernel_rfl) (by kernel_rfl) (by kernel_rfl) (fun _ _ _ h => h) (Or.inl ⟨by kernel_rfl, ?yg4_10⟩) hHeld ?rg4_10
    case yg4_10 => (intro W hSW; (try dsimp only at hSW); go_simp; (try with_reducible rfl))
    change wpAnyH _ _ _ _ _ _ _ (Act.put _ (some 36) _) _
    simp only [Act.put, List.setIfInBounds_toArray, List.set_cons_zero, List.set_cons_succ]
    refine wpAnyH_take (i := 11) (v := ?vg4_11) rfl (by kernel_rfl) (by kernel_rfl) (by kernel_rfl) (fun _ _ _ h => h) (Or.inl ⟨by kernel_rfl, ?yg4_11⟩) hHeld ?rg4_11
    case yg4_11 => (intro W hSW; (try dsimp only at hSW); go_simp; (try with_reducible rfl))
    change wpAnyH _ _ _ _ _ _ _ (Act.put _ (some 37) _) _
    simp only [Act.put, List.setIfInBounds_toArray, List.set_cons_zero, List.set_cons_succ]
    refine wpAnyH_ready (rs := [12]) (by kernel_rfl) (by simp) ?_
    refine AllReadyH.cons rfl (fun K hK => ?_) AllReadyH.nil
    go_simp
    refine (HLV.out _ (HB3.out.trans (HB5.out.mono HB3.out.size))).mono ?_
    rintro e w6 ⟨rfl, hb6⟩; have HB6 : Hid (Below w.heap.size w w6 ∧ Below w5.heap.size w5 w6) := hb6; clear hb6
    refine hK.out _ _ (HST.out _ (HB5.out.trans (HB6.out.2.mono HB5.out.size))) (fun hHeld => ?_)
    clear hK K
    try simp only [Act.put, List.setIfInBounds_toArray, List.set_cons_zero, List.set_cons_succ]
    refine wpAnyH_take (i := 13) (v := ?vg4_13) rfl (by kernel_rfl) (by kernel_rfl) (by kernel_rfl) (fun _ _ _ h => h) (Or.inl ⟨by kernel_rfl, ?yg4_13⟩) hHeld ?rg4_13
    case yg4_13 => (intro W hSW; (try dsimp only at hSW); go_simp; (try with_reducible rfl))
    change wpAnyH _ _ _ _ _ _ _ (Act.put _ (some 39) _) _
    simp only [Act.put, List.setIfInBounds_toArray, List.set_cons_zero, List.set_cons_succ]
    refine wpAnyH_take (i := 14) (v := ?vg4_14) rfl (by kernel_rfl) (by kernel_rfl) (by kernel_rfl) (fun _ _ _ h => h) (Or.inl ⟨by kernel_rfl, ?yg4_14⟩) hHeld ?rg4_14
    case yg4_14 => (intro W hSW; (try dsimp only at hSW); go_simp; (try with_reducible rfl))
    change wpAnyH _ _ _ _ _ _ _ (Act.put _ (some 4) _) _
    simp only [Act.put, List.setIfInBounds_toArray, List.set_cons_zero, List.set_cons_succ]
    refine wpAnyH_done (by kernel_rfl) ?_ _
    go_wp2
    go_ret
    exact ⟨rfl, HB6.out.1⟩
  · have H16 : Hid (Calls Tryd.prog 16 #[.agg #[.int .u32 (s0 : Int), .int .u32 (s1 : Int), .int .u32 (s2 : Int), .int .u32 (s3 : Int), .int .u32 (s4 : Int), .int .u32 (s5 : Int), .int .u32 (s6 : Int), .int .u32 (s7 : Int)], .slice a1 len1 cap1] (w.alloc (.cells #[.int .u32 (s0 : Int), .int .u32 (s1 : Int), .int .u32 (s2 : Int), .int .u32 (s3 : Int), .int .u32 (s4 : Int), .int .u32 (s5 : Int), .int .u32 (s6 : Int), .int .u32 (s7 : Int)] 31)) fun e w' => e = .returned (.tuple #[.agg #[.int .u32 0, .int .u32 0, .int .u32 0, .int .u32 0, .int .u32 0, .int .u32 0, .int .u32 0, .int .u32 0], .int .i64 1]) ∧ Below w.heap.size w w') := by
      refine (mix_not a1 len1 cap1 s0 s1 s2 s3 s4 s5 s6 s7 (w.alloc (.cells #[.int .u32 (s0 : Int), .int .u32 (s1 : Int), .int .u32 (s2 : Int), .int .u32 (s3 : Int), .int .u32 (s4 : Int), .int .u32 (s5 : Int), .int .u32 (s6 : Int), .int .u32 (s7 : Int)] 31)) h64).mono ?_
      rintro e w' ⟨rfl, hb⟩
      exact ⟨rfl, hb0.trans (hb.mono (by simp))⟩
    have hli : decide ((len1 : Int) = 64) = false := by simp; omega
    have hlj : ((len1 : Int) == 64) = false := by simp; omega
    have heq : ∀ W : World, (Op.equalIn 10000 31 (.agg #[.int .u32 0, .int .u32 0, .int .u32 0, .int .u32 0, .int .u32 0, .int .u32 0, .int .u32 0, .int .u32 0]) (.agg #[.int .u32 0, .int .u32 0, .int .u32 0, .int .u32 0, .int .u32 0, .int .u32 0, .int .u32 0, .int .u32 0])).run Tryd.prog W = .ok true W := fun W => eq8 0 0 0 0 0 0 0 0 W
    clear w1 hb hL hsw hb0
    go_enter Tryd.func6, Tryd.ntmps6
    go_wp2_with (first | (go_at_call 16; refine H16.out.mono ?_; rintro e w2 ⟨rfl, hb2⟩; have HB2 : Hid (Below w.heap.size w w2) := hb2; clear hb2) | (go_at_call 11; refine (HLV.out _ (HB2.out.alloc HB2.out.size _)).mono ?_; rintro e w' ⟨rfl, hb⟩))
    go_ret
    exact ⟨rfl, hb.1⟩

set_option maxRecDepth 100000 in
theorem lifted (os : Os) (started : os.Started) (H : Type) (enc : TypeId × Value → H) :
    ReturnsInHanded {} Tryd.checked os 6 .any (fun w args => (Rows.shaMixesSpec.pre enc Tryd.prog Tryd.f6 [] false w args ∧ laidMetH Tryd.prog laid2 w) ∧ sizedMet enc Tryd.prog Tryd.f6 (OpenSpec.ofChange Rows.shaMixesSpec) false w args) (Rows.shaMixesSpec.post enc Tryd.prog Tryd.f6 false true false false) := by
  refine returnsInHanded_of_change_and (C := Tryd.checked) (X := fun w _ => laidMetH Tryd.prog laid2 w) (fun _ _ _ hh h => h.of_heap hh) own started (by kernel_rfl) Tryd.func6
    (ChangeSpec.witness_shaped (enc := enc) (C := Tryd.checked) (os := os) (X := fun w _ => laidMetH Tryd.prog laid2 w) false (World.doorLaid Tryd.prog 19 os) #[.agg #[.int .u32 0, .int .u32 0, .int .u32 0, .int .u32 0, .int .u32 0, .int .u32 0, .int .u32 0, .int .u32 0], .slice none 0 0] 8 rfl (World.shaped_of_RefB (by kernel_rfl) (by kernel_rfl)) (by kernel_rfl) (by kernel_rfl) (by kernel_rfl) (door_met os _)) ?_
  intro W base args ds gs before hval0 hW _ _ hL _
  have hval : ∀ (j : Nat) t v, Tryd.f6.params[j]? = some t → args[j]? = some v → Value.okWide Tryd.prog W .any base t v := hval0
  have hW' := hW
  obtain ⟨p, q, hA0, hV, rfl, hfz, hnd⟩ := hW
  have hA : DataW.TrodAll enc Tryd.prog W 0 (fun _ => true) true Tryd.f6.params.toList args.toList ds p := hA0
  rw [Tryd.params6] at hA hval
  obtain ⟨v0, vs0, d0, ds0, p0, q0, hargs, rfl, rfl, h0, r0⟩ := trodAll_cons hA
  obtain ⟨v1, vs1, d1, ds1, p1, q1, rfl, rfl, rfl, h1, r1⟩ := trodAll_cons r0
  obtain ⟨rfl, rfl, rfl⟩ := trodAll_nil r1
  obtain rfl : args = #[v0, v1] := by cases args; simp_all
  obtain ⟨rfl, rfl⟩ := trodVars_none hV
  have k0 := h0
  have lt0 : ∀ x ∈ p0, x.block < W.heap.size := by obtain ⟨m, hm⟩ := k0; exact DataW.trod_lt m _ _ _ hm
  obtain ⟨s0, s1, s2, s3, s4, s5, s6, s7, hsw, rfl⟩ := open_eight (hval 0 31 v0 rfl rfl) h0
  obtain ⟨a1, len1, cap1, rfl⟩ := okWide_slice Tryd.underlying28 (hval 1 28 v1 rfl rfl)
  have k1 := h1
  have lt1 : ∀ x ∈ p1, x.block < W.heap.size := by obtain ⟨m, hm⟩ := k1; exact DataW.trod_lt m _ _ _ hm
  obtain ⟨z1, w1⟩ : ∃ zs, IsRow .u8 W a1 len1 cap1 zs := by
    obtain ⟨fuel, hf⟩ := h1
    rcases open_ints Tryd.underlying28 Tryd.underlying5 (by kernel_rfl) hf with ⟨hcs, _⟩ | ⟨x, l, c, zs, hcs, _, hl, hm, hz, _, hcell, hwz⟩
    · simp [Value.cells] at hcs
      obtain ⟨rfl, rfl, rfl⟩ := hcs
      exact ⟨[], .inl ⟨rfl, rfl, rfl, rfl⟩⟩
    · simp [Value.cells] at hcs
      obtain ⟨rfl, rfl, rfl⟩ := hcs
      exact ⟨zs, .inr ⟨_, rfl, hl, hm, by simpa using hz, hcell, hwz⟩⟩
  clear hA0 hval0
  refine (walk s0 s1 s2 s3 s4 s5 s6 s7 hsw a1 len1 cap1 z1 W w1 (of_laid hL)).mono fun e W' ⟨he, bel⟩ => ?_
  subst he
  exact ⟨_, rfl, _, _, _, [], _, [], hW', trodAll_mk1 (shut_bool Tryd.underlying4 _), (trodAll_cons_mk (Below.trod laidOut (by kernel_rfl) (of_decide_eq_true (by kernel_rfl)) k0 bel lt0) (trodAll_cons_mk (Below.trod laidOut (by kernel_rfl) (of_decide_eq_true (by kernel_rfl)) k1 bel lt1) trodAll_mk0)), rfl, bel.frame _, fun h => by cases h⟩

theorem over : Rows.shaMixesRow.holds Tryd.pinned (OpenSpec.ofChange Rows.shaMixesSpec) :=
  OpenClaim.holds_of_wide 6 Tryd.f6 rfl rfl rfl rfl rfl rfl rfl ⟨rfl, rfl, rfl, rfl, rfl⟩ rfl rfl rfl rfl rfl (by kernel_rfl) Tryd.func6 (by kernel_rfl)
    (of_decide_eq_true (by kernel_rfl)) (by unfold Func.isWrapper; first | (rw [if_pos (by decide +kernel)]; kernel_rfl) | (rw [if_neg (by decide +kernel)]; exact ⟨rfl, rfl⟩))
    (fun os started H enc _ => lifted os started H enc)

end Go.Proofs.YtmachfapcgjljaaDoor.shaMixes
namespace Go.Proofs.YtmachfapcgjljaaDoor
/-- The given statement. -/
theorem shaMixes_holds : Rows.ShaMixesCardSaid :=
  Claim7.holds_tied_plain_at .later [] [.data, .data] true (true, "806b9c0e56b6e7ef9704bfdccaea22af4b386c54d4ddc55ac0028337a67e7eea") false
    shaMixes.over (fun _ h => by cases h) (by kernel_rfl) (fun _ h => by cases h) shaMixes_row_tie rfl ⟨rfl, rfl⟩ (by kernel_rfl) rfl
    (fun f fn hf hfn => by
      obtain rfl : f = 6 := Option.some.inj ((show Tryd.prog.funcNamed "strongroom/strongroomlaw02.ShaMixes" = some 6 by kernel_rfl).symm.trans hf) |>.symm
      obtain rfl : fn = Tryd.f6 := (Option.some.inj (Tryd.func6.symm.trans hfn)).symm
      exact ⟨by kernel_rfl, fun j t ht => by
        rw [Tryd.params6] at ht
        rcases j with _ | _ | j
        · obtain rfl : t = 31 := by simpa using ht.symm
          exact (show Tryd.prog.wantsStandIn 31 = false by kernel_rfl)
        · obtain rfl : t = 28 := by simpa using ht.symm
          exact (show Tryd.prog.wantsStandIn 28 = false by kernel_rfl)
        · simp at ht
      ⟩)
    (by kernel_rfl)
#print axioms shaMixes_holds
end Go.Proofs.YtmachfapcgjljaaDoor
