/- Proved: for every a and b, the law ChunkCommon returns true, a and b as they were. No condition: every input that can be read as data. -/
import Derived.Test.YtebmmhgmbnbnnaaRows
import Derived.Test.YtebmmhgmbnbnnaaCN
import Derived.WalkKit
import Derived.ProofKit
import Derived.OpenShut
import Derived.ShutString
import Derived.ChangeOld
import Derived.SizedLaws
import Derived.Below
namespace Go.Proofs.Ytebmmhgmbnbnnaa.chunkCommon
open Go.ChangeShapes Go.WideShapes Go.ChangeAt Go.RowKit Ck
open Go.ChangeMaps (open_string shut_string)
theorem own : ownKnob Try.prog.godebug = none := by kernel_rfl
theorem laidOut : laidOutB Try.prog = true := by kernel_rfl
theorem pre_strs (a : Option Addr) (len cap i : Nat) (hi : i ≤ cap) (W : World) : (Instr.sliceAt 25 (.slice a len cap) none (some (.int .i64 (i : Int))) none).run Try.prog W = .ok (.slice (cutA a cap 0 1) i cap) W := by
  have h1 : (sizeOf 9).run Try.prog W = .ok 1 W := by kernel_rfl
  simp [Instr.sliceAt, Instr.slice, run_underlying Try.underlying25, Instr.sliceBounds, Instr.sliceBound, asIntOf, h1, hi, cutA]
theorem from_strs (a : Option Addr) (len cap i : Nat) (hi : i ≤ len) (W : World) : (Instr.sliceAt 25 (.slice a len cap) (some (.int .i64 (i : Int))) none none).run Try.prog W = .ok (.slice (cutA a cap i 1) (len - i) (cap - i)) W := by
  have h1 : (sizeOf 9).run Try.prog W = .ok 1 W := by kernel_rfl
  simp [Instr.sliceAt, Instr.slice, run_underlying Try.underlying25, Instr.sliceBounds, Instr.sliceBound, asIntOf, h1, hi, cutA]
theorem tw_pre {G : Nat → Prop} {w : World} {a : Option Addr} {len cap : Nat} {l : List ByteArray} (h : Tw G w a len cap l) (i : Nat) (hi : i ≤ len) : Tw G w (cutA a cap 0 1) i cap (l.take i) := by
  have := Rw.pre h i hi
  unfold stR at this
  rw [fm_take stC_len] at this
  exact this
theorem tw_from {G : Nat → Prop} {w : World} {a : Option Addr} {len cap : Nat} {l : List ByteArray} (h : Tw G w a len cap l) (i : Nat) (hi : i ≤ len) : Tw G w (cutA a cap i 1) (len - i) (cap - i) (l.drop i) := by
  have := Rw.drop h i hi
  unfold stR at this
  rw [fm_drop stC_len] at this
  exact this

set_option maxRecDepth 100000 in
set_option maxHeartbeats 2000000 in
theorem walk (a0 : Option Addr) (len0 cap0 : Nat) (l0 : List ByteArray) (a1 : Option Addr) (len1 cap1 : Nat) (l1 : List ByteArray) (w : World) (w0 : Tw (fun _ => True) w a0 len0 cap0 l0) (w1 : Tw (fun _ => True) w a1 len1 cap1 l1) :
    Calls Try.prog 8 #[.slice a0 len0 cap0, .slice a1 len1 cap1] w fun e w' => e = .returned (.bool true) ∧ Below w.heap.size w w' := by
  have HLV : Hid (∀ W, Below w.heap.size w W → Calls Try.prog 9 #[] W fun e w' => e = .returned (.bool true) ∧ Below w.heap.size w w') := by
    intro W hW
    refine (lives_any W).mono ?_
    rintro e w' ⟨rfl, hb⟩
    exact ⟨rfl, hW.trans (hb.mono hW.size)⟩
  have hl0 := w0.len
  have hl1 := w1.len
  have hm0 := w0.max
  have hm1 := w1.max
  by_cases h5 : 200 < len0
  · have kk : (200 : Int) < (len0 : Int) := by omega
    clear w0 w1 hl0 hl1
    go_enter Try.func8, Try.ntmps8
    go_wp2_with (go_at_call 9; refine (HLV.out _ (Below.refl _ _)).mono ?_; rintro e w' ⟨rfl, hb⟩)
    go_ret
    exact ⟨rfl, hb⟩
  have kk : ¬ (200 : Int) < (len0 : Int) := by omega
  by_cases h6 : 200 < len1
  · have kk2 : (200 : Int) < (len1 : Int) := by omega
    clear w0 w1 hl0 hl1
    go_enter Try.func8, Try.ntmps8
    go_wp2_with (go_at_call 9; refine (HLV.out _ (Below.refl _ _)).mono ?_; rintro e w' ⟨rfl, hb⟩)
    go_ret
    exact ⟨rfl, hb⟩
  have kk2 : ¬ (200 : Int) < (len1 : Int) := by omega
  have HCO : Hid (Calls Try.prog 22 #[.slice a0 len0 cap0, .slice a1 len1 cap1] w fun e w' => ∃ x y : Nat, e = .returned (.tuple #[.int .i64 x, .int .i64 y]) ∧ ComP l0 l1 x y ∧ Below w.heap.size w w') := common_any w0 w1 (by omega) (by omega)
  have HTW : Hid (∀ V, Below w.heap.size w V → Tw (fun _ => True) V a0 len0 cap0 l0 ∧ Tw (fun _ => True) V a1 len1 cap1 l1) := fun V hV => ⟨w0.below hV, w1.below hV⟩
  have HLL : Hid (l0.length = len0 ∧ l1.length = len1) := ⟨hl0, hl1⟩
  have HCAP : Hid (len0 ≤ cap0 ∧ len1 ≤ cap1) := ⟨w0.2.1, w1.2.1⟩
  have HEN : Hid (∀ V, Calls Try.prog 19 #[.pointer none] V fun e w' => e = .returned (.tuple #[.string ⟨#[]⟩, .bool false]) ∧ w' = V) := fun V => end_nil V
  have HWN : Hid (∀ V a n c, Calls Try.prog 17 #[.pointer none, .slice a n c] V fun e w' => e = .returned (.slice none 0 0) ∧ w' = V) := fun V a n c => write_nil V a n c
  have HLN : Hid (∀ V, Calls Try.prog 18 #[.pointer none] V fun e w' => e = .returned (.int .i64 0) ∧ w' = V) := fun V => left_nil V
  have HBA : Hid (∀ (V : World) (o : Obj), Below w.heap.size w V → Below w.heap.size w (V.alloc o)) := fun V o hV => hV.alloc hV.size o
  clear w0 w1 h5 h6
  go_enter Try.func8, Try.ntmps8
  go_wp2_with fail
  refine HCO.out.mono ?_
  rintro e V1 ⟨x, y, rfl, hcp, hb1⟩
  have HCP : Hid (ComP l0 l1 x y) := hcp
  have HBV1 : Hid (Below w.heap.size w V1) := hb1
  obtain ⟨nn, hnn⟩ : ∃ nn, min len0 len1 = nn := ⟨_, rfl⟩
  have HNN : Hid (min len0 len1 = nn) := hnn
  have hnl0 : nn ≤ len0 := by omega
  have hnl1 : nn ≤ len1 := by omega
  have knn : min (len0 : Int) (len1 : Int) = (nn : Int) := by omega
  have hx1 := hcp.x1
  have hy1 := hcp.y1
  rw [hl0, hl1, hnn] at hx1 hy1
  have k1 : ¬ (x : Int) < 0 := by omega
  have k2 : ¬ (y : Int) < 0 := by omega
  have k3 : ¬ (nn : Int) < (x : Int) := by omega
  obtain ⟨d, hd⟩ : ∃ d, nn - x = d := ⟨_, rfl⟩
  have kd : (nn : Int) - (x : Int) = (d : Int) := by omega
  have k4 : y ≤ d := by omega
  have hwd : IntKind.i64.wrap (d : Int) = (d : Int) := wrapI _ (by omega) (by omega)
  obtain ⟨ea, hea⟩ : ∃ ea, len0 - y = ea := ⟨_, rfl⟩
  obtain ⟨eb, heb⟩ : ∃ eb, len1 - y = eb := ⟨_, rfl⟩
  have kea : (len0 : Int) - (y : Int) = (ea : Int) := by omega
  have keb : (len1 : Int) - (y : Int) = (eb : Int) := by omega
  have hwea : IntKind.i64.wrap (ea : Int) = (ea : Int) := wrapI _ (by omega) (by omega)
  have hweb : IntKind.i64.wrap (eb : Int) = (eb : Int) := wrapI _ (by omega) (by omega)
  have hpa := fun W => pre_strs a0 len0 cap0 x (by have := HCAP.out; omega) W
  have hpb := fun W => pre_strs a1 len1 cap1 x (by have := HCAP.out; omega) W
  have hqa := fun W => from_strs a0 len0 cap0 ea (by omega) W
  have hqb := fun W => from_strs a1 len1 cap1 eb (by omega) W
  have HS1 : Hid (∀ V, Below w.heap.size w V → Calls Try.prog 13 #[.slice (cutA a0 cap0 0 1) x cap0, .slice (cutA a1 cap1 0 1) x cap1] V fun e w' => e = .returned (.bool true) ∧ Below w.heap.size w w') := by
    intro V hV
    refine (same_any (tw_pre (HTW.out V hV).1 x (by omega)) (tw_pre (HTW.out V hV).2 x (by omega))).mono ?_
    rintro e w' ⟨rfl, hb⟩
    exact ⟨ret_bool (decide_eq_true HCP.out.head), hV.trans (hb.mono hV.size)⟩
  have HS2 : Hid (∀ V, Below w.heap.size w V → Calls Try.prog 13 #[.slice (cutA a0 cap0 ea 1) (len0 - ea) (cap0 - ea), .slice (cutA a1 cap1 eb 1) (len1 - eb) (cap1 - eb)] V fun e w' => e = .returned (.bool true) ∧ Below w.heap.size w w') := by
    intro V hV
    refine (same_any (tw_from (HTW.out V hV).1 ea (by omega)) (tw_from (HTW.out V hV).2 eb (by omega))).mono ?_
    rintro e w' ⟨rfl, hb⟩
    have ht := HCP.out.tail
    rw [HLL.out.1, HLL.out.2, hea, heb] at ht
    exact ⟨ret_bool (decide_eq_true ht), hV.trans (hb.mono hV.size)⟩
  have HB : Hid (∀ V, Below w.heap.size w V → Below w.heap.size w V.drew) := fun V hV => hV.drew
  obtain ⟨pa, hpa'⟩ : ∃ pa, cutA a0 cap0 0 1 = pa := ⟨_, rfl⟩
  obtain ⟨pb, hpb'⟩ : ∃ pb, cutA a1 cap1 0 1 = pb := ⟨_, rfl⟩
  obtain ⟨qa, hqa'⟩ : ∃ qa, cutA a0 cap0 ea 1 = qa := ⟨_, rfl⟩
  obtain ⟨qb, hqb'⟩ : ∃ qb, cutA a1 cap1 eb 1 = qb := ⟨_, rfl⟩
  obtain ⟨na, hna⟩ : ∃ na, len0 - ea = na := ⟨_, rfl⟩
  obtain ⟨nb, hnb⟩ : ∃ nb, len1 - eb = nb := ⟨_, rfl⟩
  obtain ⟨ca, hca⟩ : ∃ ca, cap0 - ea = ca := ⟨_, rfl⟩
  obtain ⟨cb, hcb⟩ : ∃ cb, cap1 - eb = cb := ⟨_, rfl⟩
  rw [hpa'] at hpa HS1
  rw [hpb'] at hpb HS1
  rw [hqa', hna, hca] at hqa HS2
  rw [hqb', hnb, hcb] at hqb HS2
  clear hcp hb1 hpa' hpb' hqa' hqb' hna hnb hca hcb HCO
  go_wp2
  refine wp_region_held_drew (S := fun _ => True) (by kernel_rfl) (trivial) (fun hHeld => ?_)
  refine wpAnyH_take (i := 0) (v := ?vq0) rfl (by kernel_rfl) (by kernel_rfl) (by kernel_rfl) (fun _ _ _ h => h) (Or.inl ⟨by first | kernel_rfl | rfl, ?yq0⟩) hHeld ?rq0
  case yq0 => (intro W hSW; (try dsimp only at hSW); go_simp; (try with_reducible rfl))
  change wpAnyH _ _ _ _ _ _ _ (Act.put _ (some 31) _) _
  simp only [Act.put, List.setIfInBounds_toArray, List.set_cons_zero, List.set_cons_succ]
  refine wpAnyH_take (i := 1) (v := .bool false) rfl (by kernel_rfl) (by kernel_rfl) (by kernel_rfl) (fun _ _ _ h => h) (Or.inl ⟨by first | kernel_rfl | rfl, ?yq1⟩) hHeld ?rq1
  case yq1 => (intro W hSW; go_simp)
  change wpAnyH _ _ _ _ _ _ _ (Act.put _ (some 32) _) _
  simp only [Act.put, List.setIfInBounds_toArray, List.set_cons_zero, List.set_cons_succ]
  refine wpAnyH_take (i := 2) (v := ?vq2) rfl (by kernel_rfl) (by kernel_rfl) (by kernel_rfl) (fun _ _ _ h => h) (Or.inl ⟨by first | kernel_rfl | rfl, ?yq2⟩) hHeld ?rq2
  case yq2 => (intro W hSW; (try dsimp only at hSW); go_simp; (try with_reducible rfl))
  change wpAnyH _ _ _ _ _ _ _ (Act.put _ (some 33) _) _
  simp only [Act.put, List.setIfInBounds_toArray, List.set_cons_zero, List.set_cons_succ]
  refine wpAnyH_take (i := 3) (v := ?vq3) rfl (by kernel_rfl) (by kernel_rfl) (by kernel_rfl) (fun _ _ _ h => h) (Or.inl ⟨by first | kernel_rfl | rfl, ?yq3⟩) hHeld ?rq3
  case yq3 => (intro W hSW; (try dsimp only at hSW); go_simp; (try with_reducible rfl))
  change wpAnyH _ _ _ _ _ _ _ (Act.put _ (some 34) _) _
  simp only [Act.put, List.setIfInBounds_toArray, List.set_cons_zero, List.set_cons_succ]
  refine wpAnyH_take (i := 4) (v := .bool false) rfl (by kernel_rfl) (by kernel_rfl) (by kernel_rfl) (fun _ _ _ h => h) (Or.inl ⟨by first | kernel_rfl | rfl, ?yq4⟩) hHeld ?rq4
  case yq4 => (intro W hSW; go_simp)
  change wpAnyH _ _ _ _ _ _ _ (Act.put _ (some 35) _) _
  simp only [Act.put, List.setIfInBounds_toArray, List.set_cons_zero, List.set_cons_succ]
  refine wpAnyH_take (i := 5) (v := ?vq5) rfl (by kernel_rfl) (by kernel_rfl) (by kernel_rfl) (fun _ _ _ h => h) (Or.inl ⟨by first | kernel_rfl | rfl, ?yq5⟩) hHeld ?rq5
  case yq5 => (intro W hSW; (try dsimp only at hSW); go_simp; (try with_reducible rfl))
  change wpAnyH _ _ _ _ _ _ _ (Act.put _ (some 36) _) _
  simp only [Act.put, List.setIfInBounds_toArray, List.set_cons_zero, List.set_cons_succ]
  refine wpAnyH_take (i := 6) (v := ?vq6) rfl (by kernel_rfl) (by kernel_rfl) (by kernel_rfl) (fun _ _ _ h => h) (Or.inl ⟨by first | kernel_rfl | rfl, ?yq6⟩) hHeld ?rq6
  case yq6 => (intro W hSW; (try dsimp only at hSW); go_simp; (try with_reducible rfl))
  change wpAnyH _ _ _ _ _ _ _ (Act.put _ (some 37) _) _
  simp only [Act.put, List.setIfInBounds_toArray, List.set_cons_zero, List.set_cons_succ]
  refine wpAnyH_take (i := 7) (v := ?vq7) rfl (by kernel_rfl) (by kernel_rfl) (by kernel_rfl) (fun _ _ _ h => h) (Or.inl ⟨by first | kernel_rfl | rfl, ?yq7⟩) hHeld ?rq7
  case yq7 => (intro W hSW; (try dsimp only at hSW); go_simp; (try with_reducible rfl))
  change wpAnyH _ _ _ _ _ _ _ (Act.put _ (some 38) _) _
  simp only [Act.put, List.setIfInBounds_toArray, List.set_cons_zero, List.set_cons_succ]
  refine wpAnyH_take (i := 8) (v := ?vq8) rfl (by kernel_rfl) (by kernel_rfl) (by kernel_rfl) (fun _ _ _ h => h) (Or.inl ⟨by first | kernel_rfl | rfl, ?yq8⟩) hHeld ?rq8
  case yq8 => (intro W hSW; (try dsimp only at hSW); go_simp; (try with_reducible rfl))
  change wpAnyH _ _ _ _ _ _ _ (Act.put _ (some 39) _) _
  simp only [Act.put, List.setIfInBounds_toArray, List.set_cons_zero, List.set_cons_succ]
  refine wpAnyH_take (i := 9) (v := .bool false) rfl (by kernel_rfl) (by kernel_rfl) (by kernel_rfl) (fun _ _ _ h => h) (Or.inl ⟨by first | kernel_rfl | rfl, ?yq9⟩) hHeld ?rq9
  case yq9 => (intro W hSW; go_simp)
  change wpAnyH _ _ _ _ _ _ _ (Act.put _ (some 40) _) _
  simp only [Act.put, List.setIfInBounds_toArray, List.set_cons_zero, List.set_cons_succ]
  refine wpAnyH_take (i := 10) (v := ?vq10) rfl (by kernel_rfl) (by kernel_rfl) (by kernel_rfl) (fun _ _ _ h => h) (Or.inl ⟨by first | kernel_rfl | rfl, ?yq10⟩) hHeld ?rq10
  case yq10 => (intro W hSW; (try dsimp only at hSW); go_simp; (try with_reducible rfl))
  change wpAnyH _ _ _ _ _ _ _ (Act.put _ (some 41) _) _
  simp only [Act.put, List.setIfInBounds_toArray, List.set_cons_zero, List.set_cons_succ]
  refine wpAnyH_take (i := 11) (v := ?vq11) rfl (by kernel_rfl) (by kernel_rfl) (by kernel_rfl) (fun _ _ _ h => h) (Or.inl ⟨by first | kernel_rfl | rfl, ?yq11⟩) hHeld ?rq11
  case yq11 => (intro W hSW; (try dsimp only at hSW); go_simp; (try with_reducible rfl))
  change wpAnyH _ _ _ _ _ _ _ (Act.put _ (some 42) _) _
  simp only [Act.put, List.setIfInBounds_toArray, List.set_cons_zero, List.set_cons_succ]
  refine wpAnyH_take (i := 12) (v := ?vq12) rfl (by kernel_rfl) (by kernel_rfl) (by kernel_rfl) (fun _ _ _ h => h) (Or.inl ⟨by first | kernel_rfl | rfl, ?yq12⟩) hHeld ?rq12
  case yq12 => (intro W hSW; (try dsimp only at hSW); go_simp; (try with_reducible rfl))
  change wpAnyH _ _ _ _ _ _ _ (Act.put _ (some 43) _) _
  simp only [Act.put, List.setIfInBounds_toArray, List.set_cons_zero, List.set_cons_succ]
  refine wpAnyH_take (i := 13) (v := ?vq13) rfl (by kernel_rfl) (by kernel_rfl) (by kernel_rfl) (fun _ _ _ h => h) (Or.inl ⟨by first | kernel_rfl | rfl, ?yq13⟩) hHeld ?rq13
  case yq13 => (intro W hSW; (try dsimp only at hSW); go_simp; (try with_reducible rfl))
  change wpAnyH _ _ _ _ _ _ _ (Act.put _ (some 44) _) _
  simp only [Act.put, List.setIfInBounds_toArray, List.set_cons_zero, List.set_cons_succ]
  refine wpAnyH_take (i := 14) (v := ?vq14) rfl (by kernel_rfl) (by kernel_rfl) (by kernel_rfl) (fun _ _ _ h => h) (Or.inl ⟨by first | kernel_rfl | rfl, ?yq14⟩) hHeld ?rq14
  case yq14 => (intro W hSW; (try dsimp only at hSW); go_simp; (try with_reducible rfl))
  change wpAnyH _ _ _ _ _ _ _ (Act.put _ (some 45) _) _
  simp only [Act.put, List.setIfInBounds_toArray, List.set_cons_zero, List.set_cons_succ]
  refine wpAnyH_take (i := 15) (v := ?vq15) rfl (by kernel_rfl) (by kernel_rfl) (by kernel_rfl) (fun _ _ _ h => h) (Or.inl ⟨by first | kernel_rfl | rfl, ?yq15⟩) hHeld ?rq15
  case yq15 => (intro W hSW; (try dsimp only at hSW); go_simp; (try with_reducible rfl))
  change wpAnyH _ _ _ _ _ _ _ (Act.put _ (some 46) _) _
  simp only [Act.put, List.setIfInBounds_toArray, List.set_cons_zero, List.set_cons_succ]
  refine wpAnyH_take (i := 16) (v := .bool false) rfl (by kernel_rfl) (by kernel_rfl) (by kernel_rfl) (fun _ _ _ h => h) (Or.inl ⟨by first | kernel_rfl | rfl, ?yq16⟩) hHeld ?rq16
  case yq16 => (intro W hSW; go_simp)
  change wpAnyH _ _ _ _ _ _ _ (Act.put _ (some 47) _) _
  simp only [Act.put, List.setIfInBounds_toArray, List.set_cons_zero, List.set_cons_succ]
  refine wpAnyH_take (i := 17) (v := ?vq17) rfl (by kernel_rfl) (by kernel_rfl) (by kernel_rfl) (fun _ _ _ h => h) (Or.inl ⟨by first | kernel_rfl | rfl, ?yq17⟩) hHeld ?rq17
  case yq17 => (intro W hSW; (try dsimp only at hSW); go_simp; (try with_reducible rfl))
  change wpAnyH _ _ _ _ _ _ _ (Act.put _ (some 48) _) _
  simp only [Act.put, List.setIfInBounds_toArray, List.set_cons_zero, List.set_cons_succ]
  refine wpAnyH_take (i := 18) (v := ?vq18) rfl (by kernel_rfl) (by kernel_rfl) (by kernel_rfl) (fun _ _ _ h => h) (Or.inl ⟨by first | kernel_rfl | rfl, ?yq18⟩) hHeld ?rq18
  case yq18 => (intro W hSW; (try dsimp only at hSW); go_simp; (try with_reducible rfl))
  change wpAnyH _ _ _ _ _ _ _ (Act.put _ (some 49) _) _
  simp only [Act.put, List.setIfInBounds_toArray, List.set_cons_zero, List.set_cons_succ]
  refine wpAnyH_take (i := 19) (v := ?vq19) rfl (by kernel_rfl) (by kernel_rfl) (by kernel_rfl) (fun _ _ _ h => h) (Or.inl ⟨by first | kernel_rfl | rfl, ?yq19⟩) hHeld ?rq19
  case yq19 => (intro W hSW; (try dsimp only at hSW); go_simp; (try with_reducible rfl))
  change wpAnyH _ _ _ _ _ _ _ (Act.put _ (some 50) _) _
  simp only [Act.put, List.setIfInBounds_toArray, List.set_cons_zero, List.set_cons_succ]
  refine wpAnyH_take (i := 20) (v := ?vq20) rfl (by kernel_rfl) (by kernel_rfl) (by kernel_rfl) (fun _ _ _ h => h) (Or.inl ⟨by first | kernel_rfl | rfl, ?yq20⟩) hHeld ?rq20
  case yq20 => (intro W hSW; (try dsimp only at hSW); go_simp; (try with_reducible rfl))
  change wpAnyH _ _ _ _ _ _ _ (Act.put _ (some 51) _) _
  simp only [Act.put, List.setIfInBounds_toArray, List.set_cons_zero, List.set_cons_succ]
  refine wpAnyH_take (i := 21) (v := ?vq21) rfl (by kernel_rfl) (by kernel_rfl) (by kernel_rfl) (fun _ _ _ h => h) (Or.inl ⟨by first | kernel_rfl | rfl, ?yq21⟩) hHeld ?rq21
  case yq21 => (intro W hSW; (try dsimp only at hSW); go_simp; (try with_reducible rfl))
  change wpAnyH _ _ _ _ _ _ _ (Act.put _ (some 52) _) _
  simp only [Act.put, List.setIfInBounds_toArray, List.set_cons_zero, List.set_cons_succ]
  refine wpAnyH_take (i := 22) (v := ?vq22) rfl (by kernel_rfl) (by kernel_rfl) (by kernel_rfl) (fun _ _ _ h => h) (Or.inl ⟨by first | kernel_rfl | rfl, ?yq22⟩) hHeld ?rq22
  case yq22 => (intro W hSW; (try dsimp only at hSW); go_simp; (try with_reducible rfl))
  change wpAnyH _ _ _ _ _ _ _ (Act.put _ (some 53) _) _
  simp only [Act.put, List.setIfInBounds_toArray, List.set_cons_zero, List.set_cons_succ]
  refine wpAnyH_take (i := 23) (v := ?vq23) rfl (by kernel_rfl) (by kernel_rfl) (by kernel_rfl) (fun _ _ _ h => h) (Or.inl ⟨by first | kernel_rfl | rfl, ?yq23⟩) hHeld ?rq23
  case yq23 => (intro W hSW; (try dsimp only at hSW); go_simp; (try with_reducible rfl))
  change wpAnyH _ _ _ _ _ _ _ (Act.put _ (some 54) _) _
  simp only [Act.put, List.setIfInBounds_toArray, List.set_cons_zero, List.set_cons_succ]
  refine wpAnyH_take (i := 24) (v := ?vq24) rfl (by kernel_rfl) (by kernel_rfl) (by kernel_rfl) (fun _ _ _ h => h) (Or.inl ⟨by first | kernel_rfl | rfl, ?yq24⟩) hHeld ?rq24
  case yq24 => (intro W hSW; (try dsimp only at hSW); go_simp; (try with_reducible rfl))
  change wpAnyH _ _ _ _ _ _ _ (Act.put _ (some 55) _) _
  simp only [Act.put, List.setIfInBounds_toArray, List.set_cons_zero, List.set_cons_succ]
  refine wpAnyH_ready (rs := [25]) (by kernel_rfl) (by simp) ?_
  refine AllReadyH.cons rfl (fun K hK => ?_) AllReadyH.nil
  go_simp
  refine (HS1.out _ ((HB.out _ HBV1.out))).mono ?_
  rintro e V2 ⟨rfl, hb2⟩; have HBV2 : Hid (Below w.heap.size w V2) := hb2; clear hb2
  refine hK.out _ _ (trivial) (fun hHeld => ?_)
  clear hK K
  try simp only [Act.put, List.setIfInBounds_toArray, List.set_cons_zero, List.set_cons_succ]
  refine wpAnyH_take (i := 26) (v := ?vq26) rfl (by kernel_rfl) (by kernel_rfl) (by kernel_rfl) (fun _ _ _ h => h) (Or.inl ⟨by first | kernel_rfl | rfl, ?yq26⟩) hHeld ?rq26
  case yq26 => (intro W hSW; (try dsimp only at hSW); go_simp; (try with_reducible rfl))
  change wpAnyH _ _ _ _ _ _ _ (Act.put _ (some 57) _) _
  simp only [Act.put, List.setIfInBounds_toArray, List.set_cons_zero, List.set_cons_succ]
  refine wpAnyH_take (i := 27) (v := ?vq27) rfl (by kernel_rfl) (by kernel_rfl) (by kernel_rfl) (fun _ _ _ h => h) (Or.inl ⟨by first | kernel_rfl | rfl, ?yq27⟩) hHeld ?rq27
  case yq27 => (intro W hSW; (try dsimp only at hSW); go_simp; (try with_reducible rfl))
  change wpAnyH _ _ _ _ _ _ _ (Act.put _ (some 58) _) _
  simp only [Act.put, List.setIfInBounds_toArray, List.set_cons_zero, List.set_cons_succ]
  refine wpAnyH_take (i := 28) (v := ?vq28) rfl (by kernel_rfl) (by kernel_rfl) (by kernel_rfl) (fun _ _ _ h => h) (Or.inl ⟨by first | kernel_rfl | rfl, ?yq28⟩) hHeld ?rq28
  case yq28 => (intro W hSW; (try dsimp only at hSW); go_simp; (try with_reducible rfl))
  change wpAnyH _ _ _ _ _ _ _ (Act.put _ (some 59) _) _
  simp only [Act.put, List.setIfInBounds_toArray, List.set_cons_zero, List.set_cons_succ]
  refine wpAnyH_take (i := 29) (v := ?vq29) rfl (by kernel_rfl) (by kernel_rfl) (by kernel_rfl) (fun _ _ _ h => h) (Or.inl ⟨by first | kernel_rfl | rfl, ?yq29⟩) hHeld ?rq29
  case yq29 => (intro W hSW; (try dsimp only at hSW); go_simp; (try with_reducible rfl))
  change wpAnyH _ _ _ _ _ _ _ (Act.put _ (some 60) _) _
  simp only [Act.put, List.setIfInBounds_toArray, List.set_cons_zero, List.set_cons_succ]
  refine wpAnyH_take (i := 30) (v := ?vq30) rfl (by kernel_rfl) (by kernel_rfl) (by kernel_rfl) (fun _ _ _ h => h) (Or.inl ⟨by first | kernel_rfl | rfl, ?yq30⟩) hHeld ?rq30
  case yq30 => (intro W hSW; (try dsimp only at hSW); go_simp; (try with_reducible rfl))
  change wpAnyH _ _ _ _ _ _ _ (Act.put _ (some 61) _) _
  simp only [Act.put, List.setIfInBounds_toArray, List.set_cons_zero, List.set_cons_succ]
  refine wpAnyH_take (i := 31) (v := ?vq31) rfl (by kernel_rfl) (by kernel_rfl) (by kernel_rfl) (fun _ _ _ h => h) (Or.inl ⟨by first | kernel_rfl | rfl, ?yq31⟩) hHeld ?rq31
  case yq31 => (intro W hSW; (try dsimp only at hSW); go_simp; (try with_reducible rfl))
  change wpAnyH _ _ _ _ _ _ _ (Act.put _ (some 62) _) _
  simp only [Act.put, List.setIfInBounds_toArray, List.set_cons_zero, List.set_cons_succ]
  refine wpAnyH_take (i := 32) (v := ?vq32) rfl (by kernel_rfl) (by kernel_rfl) (by kernel_rfl) (fun _ _ _ h => h) (Or.inl ⟨by first | kernel_rfl | rfl, ?yq32⟩) hHeld ?rq32
  case yq32 => (intro W hSW; (try dsimp only at hSW); go_simp; (try with_reducible rfl))
  change wpAnyH _ _ _ _ _ _ _ (Act.put _ (some 63) _) _
  simp only [Act.put, List.setIfInBounds_toArray, List.set_cons_zero, List.set_cons_succ]
  refine wpAnyH_take (i := 33) (v := ?vq33) rfl (by kernel_rfl) (by kernel_rfl) (by kernel_rfl) (fun _ _ _ h => h) (Or.inl ⟨by first | kernel_rfl | rfl, ?yq33⟩) hHeld ?rq33
  case yq33 => (intro W hSW; (try dsimp only at hSW); go_simp; (try with_reducible rfl))
  change wpAnyH _ _ _ _ _ _ _ (Act.put _ (some 64) _) _
  simp only [Act.put, List.setIfInBounds_toArray, List.set_cons_zero, List.set_cons_succ]
  refine wpAnyH_take (i := 34) (v := ?vq34) rfl (by kernel_rfl) (by kernel_rfl) (by kernel_rfl) (fun _ _ _ h => h) (Or.inl ⟨by first | kernel_rfl | rfl, ?yq34⟩) hHeld ?rq34
  case yq34 => (intro W hSW; (try dsimp only at hSW); go_simp; (try with_reducible rfl))
  change wpAnyH _ _ _ _ _ _ _ (Act.put _ (some 65) _) _
  simp only [Act.put, List.setIfInBounds_toArray, List.set_cons_zero, List.set_cons_succ]
  refine wpAnyH_take (i := 35) (v := ?vq35) rfl (by kernel_rfl) (by kernel_rfl) (by kernel_rfl) (fun _ _ _ h => h) (Or.inl ⟨by first | kernel_rfl | rfl, ?yq35⟩) hHeld ?rq35
  case yq35 => (intro W hSW; (try dsimp only at hSW); go_simp; (try with_reducible rfl))
  change wpAnyH _ _ _ _ _ _ _ (Act.put _ (some 66) _) _
  simp only [Act.put, List.setIfInBounds_toArray, List.set_cons_zero, List.set_cons_succ]
  refine wpAnyH_take (i := 36) (v := ?vq36) rfl (by kernel_rfl) (by kernel_rfl) (by kernel_rfl) (fun _ _ _ h => h) (Or.inl ⟨by first | kernel_rfl | rfl, ?yq36⟩) hHeld ?rq36
  case yq36 => (intro W hSW; (try dsimp only at hSW); go_simp; (try with_reducible rfl))
  change wpAnyH _ _ _ _ _ _ _ (Act.put _ (some 67) _) _
  simp only [Act.put, List.setIfInBounds_toArray, List.set_cons_zero, List.set_cons_succ]
  refine wpAnyH_take (i := 37) (v := ?vq37) rfl (by kernel_rfl) (by kernel_rfl) (by kernel_rfl) (fun _ _ _ h => h) (Or.inl ⟨by first | kernel_rfl | rfl, ?yq37⟩) hHeld ?rq37
  case yq37 => (intro W hSW; (try dsimp only at hSW); go_simp; (try with_reducible rfl))
  change wpAnyH _ _ _ _ _ _ _ (Act.put _ (some 68) _) _
  simp only [Act.put, List.setIfInBounds_toArray, List.set_cons_zero, List.set_cons_succ]
  refine wpAnyH_take (i := 38) (v := ?vq38) rfl (by kernel_rfl) (by kernel_rfl) (by kernel_rfl) (fun _ _ _ h => h) (Or.inl ⟨by first | kernel_rfl | rfl, ?yq38⟩) hHeld ?rq38
  case yq38 => (intro W hSW; (try dsimp only at hSW); go_simp; (try with_reducible rfl))
  change wpAnyH _ _ _ _ _ _ _ (Act.put _ (some 69) _) _
  simp only [Act.put, List.setIfInBounds_toArray, List.set_cons_zero, List.set_cons_succ]
  refine wpAnyH_take (i := 39) (v := ?vq39) rfl (by kernel_rfl) (by kernel_rfl) (by kernel_rfl) (fun _ _ _ h => h) (Or.inl ⟨by first | kernel_rfl | rfl, ?yq39⟩) hHeld ?rq39
  case yq39 => (intro W hSW; (try dsimp only at hSW); go_simp; (try with_reducible rfl))
  change wpAnyH _ _ _ _ _ _ _ (Act.put _ (some 70) _) _
  simp only [Act.put, List.setIfInBounds_toArray, List.set_cons_zero, List.set_cons_succ]
  refine wpAnyH_take (i := 40) (v := ?vq40) rfl (by kernel_rfl) (by kernel_rfl) (by kernel_rfl) (fun _ _ _ h => h) (Or.inl ⟨by first | kernel_rfl | rfl, ?yq40⟩) hHeld ?rq40
  case yq40 => (intro W hSW; (try dsimp only at hSW); go_simp; (try with_reducible rfl))
  change wpAnyH _ _ _ _ _ _ _ (Act.put _ (some 71) _) _
  simp only [Act.put, List.setIfInBounds_toArray, List.set_cons_zero, List.set_cons_succ]
  refine wpAnyH_ready (rs := [41]) (by kernel_rfl) (by simp) ?_
  refine AllReadyH.cons rfl (fun K hK => ?_) AllReadyH.nil
  go_simp
  refine (HS2.out _ HBV2.out).mono ?_
  rintro e V3 ⟨rfl, hb3⟩; have HBV3 : Hid (Below w.heap.size w V3) := hb3; clear hb3
  refine hK.out _ _ (trivial) (fun hHeld => ?_)
  clear hK K
  try simp only [Act.put, List.setIfInBounds_toArray, List.set_cons_zero, List.set_cons_succ]
  refine wpAnyH_take (i := 42) (v := ?vq42) rfl (by kernel_rfl) (by kernel_rfl) (by kernel_rfl) (fun _ _ _ h => h) (Or.inl ⟨by first | kernel_rfl | rfl, ?yq42⟩) hHeld ?rq42
  case yq42 => (intro W hSW; (try dsimp only at hSW); go_simp; (try with_reducible rfl))
  change wpAnyH _ _ _ _ _ _ _ (Act.put _ (some 73) _) _
  simp only [Act.put, List.setIfInBounds_toArray, List.set_cons_zero, List.set_cons_succ]
  refine wpAnyH_take (i := 43) (v := ?vq43) rfl (by kernel_rfl) (by kernel_rfl) (by kernel_rfl) (fun _ _ _ h => h) (Or.inl ⟨by first | kernel_rfl | rfl, ?yq43⟩) hHeld ?rq43
  case yq43 => (intro W hSW; (try dsimp only at hSW); go_simp; (try with_reducible rfl))
  change wpAnyH _ _ _ _ _ _ _ (Act.put _ (some 74) _) _
  simp only [Act.put, List.setIfInBounds_toArray, List.set_cons_zero, List.set_cons_succ]
  refine wpAnyH_done (by kernel_rfl) ?_ _
  have hnn2 : nn ≤ 200 := by omega
  have hx200 : x ≤ 200 := by omega
  have hy200 : y ≤ 200 := by omega
  have hl0b : len0 ≤ 200 := by omega
  have hl1b : len1 ≤ 200 := by omega
  clear hHeld hpa hpb hqa hqb HS1 HS2 kea keb k1 k2 k3 k4 hea heb kd hwd hwea hweb hd hnn knn hm0 hm1
  have HB5 : Hid (Below w.heap.size w V3) := HBV3.out
  go_wp2
  by_cases hxn : x < nn
  · have kx : (x : Int) < (nn : Int) := by omega
    obtain ⟨p, hp⟩ : ∃ p, l0[x]? = some p := ⟨_, List.getElem?_eq_getElem (by omega)⟩
    obtain ⟨q, hq⟩ : ∃ q, l1[x]? = some q := ⟨_, List.getElem?_eq_getElem (by omega)⟩
    obtain ⟨a2, o2, ea, _, hca⟩ := (HTW.out _ HB5.out).1.at (by omega)
    obtain ⟨b2, p2, eb, _, hcb⟩ := (HTW.out _ HB5.out).2.at (by omega)
    cases ea
    cases eb
    have g1 := hca x _ hp
    have g2 := hcb x _ hq
    have hne : ¬ p = q := fun e => by
      have := HCP.out.x2 (by rw [HLL.out.1, HLL.out.2, HNN.out]; exact hxn)
      rw [hp, hq, e] at this
      exact this rfl
    have hbe : (p.toList == q.toList) = false := str_nb hne
    have kn1 : (x : Int) < (len0 : Int) := by omega
    have kn2 : (x : Int) < (len1 : Int) := by omega
    clear hca hcb hp hq hne
    go_quiet (fail)
    obtain ⟨W6, hW6⟩ : ∃ W6, V3.drewN nq = W6 := ⟨_, rfl⟩
    rw [hW6]
    have HB6 : Hid (Below w.heap.size w W6) := hW6 ▸ below_drewN HB5.out _
    clear hW6
    clear g1 g2 hbe kn1 kn2
    go_wp2
    by_cases hyn : y < nn - x
    · have ky : (y : Int) < (nn : Int) - (x : Int) := by omega
      obtain ⟨ja, hja⟩ : ∃ ja, len0 - 1 - y = ja := ⟨_, rfl⟩
      obtain ⟨jb, hjb⟩ : ∃ jb, len1 - 1 - y = jb := ⟨_, rfl⟩
      obtain ⟨p, hp⟩ : ∃ p, l0[ja]? = some p := ⟨_, List.getElem?_eq_getElem (by omega)⟩
      obtain ⟨q, hq⟩ : ∃ q, l1[jb]? = some q := ⟨_, List.getElem?_eq_getElem (by omega)⟩
      obtain ⟨a2, o2, ea, _, hca⟩ := (HTW.out _ HB6.out).1.at (by omega)
      obtain ⟨b2, p2, eb, _, hcb⟩ := (HTW.out _ HB6.out).2.at (by omega)
      cases ea
      cases eb
      have g1 := hca ja _ hp
      have g2 := hcb jb _ hq
      have hne : ¬ p = q := fun e => by
        have := HCP.out.y2 (by rw [HLL.out.1, HLL.out.2, HNN.out]; exact hyn)
        rw [HLL.out.1, HLL.out.2, hja, hjb, hp, hq, e] at this
        exact this rfl
      have hbe : (p.toList == q.toList) = false := str_nb hne
      have kja : (len0 : Int) - 1 - (y : Int) = (ja : Int) := by omega
      have kjb : (len1 : Int) - 1 - (y : Int) = (jb : Int) := by omega
      have kn1 : (ja : Int) < (len0 : Int) := by omega
      have kn2 : (jb : Int) < (len1 : Int) := by omega
      clear hca hcb hp hq hne hja hjb
      go_wp2
      go_quiet (fail)
      obtain ⟨W9, hW9⟩ : ∃ W9, W6.drewN nq = W9 := ⟨_, rfl⟩
      rw [hW9]
      have HB9 : Hid (Below w.heap.size w W9) := hW9 ▸ below_drewN HB6.out _
      clear hW9
      have kc := fun (w : World) (C : Array Value) (n c : Nat) => Lib.run_convert_bytes_const (P := Try.prog) w 36 5 C n c Try.underlying36 Try.underlying5
      go_wp2_with fail
      refine (HEN.out _).mono ?_
      rintro e w5 ⟨rfl, h5⟩
      subst w5
      go_wp2_with fail
      refine (HWN.out _ _ _ _).mono ?_
      rintro e w6 ⟨rfl, h6⟩
      subst w6
      go_wp2_with fail
      refine (HLN.out _).mono ?_
      rintro e w7 ⟨rfl, h7⟩
      subst w7
      go_wp2_with (go_at_call 9; refine (HLV.out _ (HBA.out _ _ HB9.out)).mono ?_; rintro e w8 ⟨rfl, hb8⟩)
      go_ret
      exact ⟨rfl, hb8⟩
    · have ky : decide ((y : Int) < (nn : Int) - (x : Int)) = false := by simp; omega
      go_wp2
      go_quiet (fail)
      obtain ⟨W9, hW9⟩ : ∃ W9, W6.drewN nq = W9 := ⟨_, rfl⟩
      rw [hW9]
      have HB9 : Hid (Below w.heap.size w W9) := hW9 ▸ below_drewN HB6.out _
      clear hW9
      have kc := fun (w : World) (C : Array Value) (n c : Nat) => Lib.run_convert_bytes_const (P := Try.prog) w 36 5 C n c Try.underlying36 Try.underlying5
      go_wp2_with fail
      refine (HEN.out _).mono ?_
      rintro e w5 ⟨rfl, h5⟩
      subst w5
      go_wp2_with fail
      refine (HWN.out _ _ _ _).mono ?_
      rintro e w6 ⟨rfl, h6⟩
      subst w6
      go_wp2_with fail
      refine (HLN.out _).mono ?_
      rintro e w7 ⟨rfl, h7⟩
      subst w7
      go_wp2_with (go_at_call 9; refine (HLV.out _ (HBA.out _ _ HB9.out)).mono ?_; rintro e w8 ⟨rfl, hb8⟩)
      go_ret
      exact ⟨rfl, hb8⟩
  · have kx : decide ((x : Int) < (nn : Int)) = false := by simp; omega
    go_quiet (fail)
    obtain ⟨W6, hW6⟩ : ∃ W6, V3.drewN nq = W6 := ⟨_, rfl⟩
    rw [hW6]
    have HB6 : Hid (Below w.heap.size w W6) := hW6 ▸ below_drewN HB5.out _
    clear hW6
    go_wp2
    have hyn : ¬ y < nn - x := by omega
    · have ky : decide ((y : Int) < (nn : Int) - (x : Int)) = false := by simp; omega
      go_wp2
      go_quiet (fail)
      obtain ⟨W9, hW9⟩ : ∃ W9, W6.drewN nq = W9 := ⟨_, rfl⟩
      rw [hW9]
      have HB9 : Hid (Below w.heap.size w W9) := hW9 ▸ below_drewN HB6.out _
      clear hW9
      have kc := fun (w : World) (C : Array Value) (n c : Nat) => Lib.run_convert_bytes_const (P := Try.prog) w 36 5 C n c Try.underlying36 Try.underlying5
      go_wp2_with fail
      refine (HEN.out _).mono ?_
      rintro e w5 ⟨rfl, h5⟩
      subst w5
      go_wp2_with fail
      refine (HWN.out _ _ _ _).mono ?_
      rintro e w6 ⟨rfl, h6⟩
      subst w6
      go_wp2_with fail
      refine (HLN.out _).mono ?_
      rintro e w7 ⟨rfl, h7⟩
      subst w7
      go_wp2_with (go_at_call 9; refine (HLV.out _ (HBA.out _ _ HB9.out)).mono ?_; rintro e w8 ⟨rfl, hb8⟩)
      go_ret
      exact ⟨rfl, hb8⟩

set_option linter.unusedVariables false in
set_option maxRecDepth 100000 in
theorem lifted (os : _root_.Go.Os) (started : os.Started) (H : Type) (enc : TypeId × Value → H) :
    ReturnsInHanded {} Try.checked os 8 .any (Rows.chunkCommonSpec.pre6 enc Try.prog Try.f8 Rows.chunkCommonRow.domain false) (Rows.chunkCommonSpec.post enc Try.prog Try.f8 false true false false) := by
  refine returnsInHanded_of_change_sized (C := Try.checked) own started (by kernel_rfl) Try.func8
    (ChangeSpec.witness6 (enc := enc) (C := Try.checked) false ⟨#[], #[.slice none 0 0, .slice none 0 0], []⟩ 8 (by kernel_rfl) (by kernel_rfl) (by kernel_rfl) (by kernel_rfl)) ?_
  intro W base args ds gs before hval0 hW hcnd hsz0 _
  have hval : ∀ (j : Nat) t v, Try.f8.params[j]? = some t → args[j]? = some v → Value.okWide Try.prog W .any base t v := hval0
  have hsz : (DataW.weightsEach Try.prog (Try.f8.params.toList ++ Rows.chunkCommonSpec.plain.varTypes Try.prog) (ds ++ gs)).all (· ≤ reachBytes) = true := hsz0
  have hW' := hW
  obtain ⟨p, q, hA0, hV, rfl, hfz, hnd⟩ := hW
  have hA : DataW.TrodAll enc Try.prog W 0 (fun _ => true) true Try.f8.params.toList args.toList ds p := hA0
  rw [Try.params8] at hA hval hsz
  obtain ⟨v0, vs0, d0, ds0, p0, q0, hargs, rfl, rfl, h0, r0⟩ := trodAll_cons hA
  obtain ⟨v1, vs1, d1, ds1, p1, q1, rfl, rfl, rfl, h1, r1⟩ := trodAll_cons r0
  obtain ⟨rfl, rfl, rfl⟩ := trodAll_nil r1
  obtain rfl : args = #[v0, v1] := by cases args; simp_all
  obtain ⟨rfl, rfl⟩ := trodVars_none hV
  have k0 := h0
  have lt0 : ∀ x ∈ p0, x.block < W.heap.size := by obtain ⟨m, hm⟩ := k0; exact DataW.trod_lt m _ _ _ hm
  obtain ⟨a0, len0, cap0, rfl⟩ := okWide_slice Try.underlying25 (hval 0 25 v0 rfl rfl)
  obtain ⟨l0, w0⟩ : ∃ l, Tw (fun _ => True) W a0 len0 cap0 l := by
    obtain ⟨fuel, hf⟩ := h0
    exact strs_of (by simpa [Value.cells] using hf)
  have k1 := h1
  have lt1 : ∀ x ∈ p1, x.block < W.heap.size := by obtain ⟨m, hm⟩ := k1; exact DataW.trod_lt m _ _ _ hm
  obtain ⟨a1, len1, cap1, rfl⟩ := okWide_slice Try.underlying25 (hval 1 25 v1 rfl rfl)
  obtain ⟨l1, w1⟩ : ∃ l, Tw (fun _ => True) W a1 len1 cap1 l := by
    obtain ⟨fuel, hf⟩ := h1
    exact strs_of (by simpa [Value.cells] using hf)
  clear hA0 hval0 hsz hsz0
  refine (walk a0 len0 cap0 l0 a1 len1 cap1 l1 W w0 w1).mono fun e W' ⟨he, bel⟩ => ?_
  subst he
  exact ⟨_, rfl, _, _, _, [], _, [], hW', trodAll_mk1 (shut_bool Try.underlying4 _), (trodAll_cons_mk (Below.trod laidOut (by kernel_rfl) (of_decide_eq_true (by kernel_rfl)) k0 bel lt0) (trodAll_cons_mk (Below.trod laidOut (by kernel_rfl) (of_decide_eq_true (by kernel_rfl)) k1 bel lt1) trodAll_mk0)), rfl, bel.frame _, fun h => by cases h⟩

theorem over : Rows.chunkCommonRow.holds Try.pinned (OpenSpec.ofChange Rows.chunkCommonSpec) :=
  OpenClaim.holds_of_wide 8 Try.f8 rfl rfl rfl rfl rfl rfl rfl ⟨rfl, rfl, rfl, rfl, rfl⟩ rfl rfl rfl rfl rfl (by kernel_rfl) Try.func8 (by kernel_rfl)
    (of_decide_eq_true (by kernel_rfl)) (by unfold Func.isWrapper; first | (rw [if_pos (by decide +kernel)]; kernel_rfl) | (rw [if_neg (by decide +kernel)]; exact ⟨rfl, rfl⟩))
    (fun os started H enc _ => lifted os started H enc)

end Go.Proofs.Ytebmmhgmbnbnnaa.chunkCommon
namespace Go.Proofs.Ytebmmhgmbnbnnaa
/-- The given statement. -/
theorem chunkCommon_holds : Rows.ChunkCommonSaid := chunkCommon.over
#print axioms chunkCommon_holds
end Go.Proofs.Ytebmmhgmbnbnnaa
