/- Walks over the statements' step: goes back, aborts, opens. -/
import Derived.Test.YtdgffocmdkadpaaGreatRQ
namespace Go.Proofs.YtdgffocmdkadpaaGreat
open Go.RowKit Go.Shelf Pg
theorem load_cs {P : Program} (W : World) (b o : Nat) (ty : TypeId) (d : TypeDesc) (part : List Value) (hu : P.underlying ty = some d) (hd : (match d with | .struct _ | .array _ _ => true | _ => false) = true) (hi : (P.info? ty).map (·.size) = some part.length) (hp : ∀ j v, part[j]? = some v → W.cell? ⟨b, o + j, none⟩ = some v) :
    (loadVar ty ⟨b, o, none⟩).run P W = .ok (.agg part.toArray) W := by
  have hl : (loadCells ⟨b, o, none⟩ part.length).run P W = .ok part.toArray W :=
    run_loadCells_list (P := P) W ⟨b, o, none⟩ part (fun j v hv => by
      rw [add_at]
      exact hp j v hv)
  cases hq : P.info? ty with
  | none => simp [hq] at hi
  | some i =>
    have hs : i.size = part.length := by simpa [hq] using hi
    have hagg : (isAgg ty).run P W = .ok true W := by
      unfold isAgg
      rw [Sem.run_bind, run_underlying hu W]
      cases d <;> simp_all
    simp [loadVar, Sem.run_bind, hagg, sizeOf, typeInfo, hq, hs, hl]
theorem Rw.pfx {G : Nat → Prop} {w : World} {et sz : Nat} {a : Option Addr} {len cap : Nat} {xs : List Value} (h : Rw G w et sz a len cap xs) (i : Nat) (hi : i ≤ len) : Rw G w et sz a i cap (xs.take (i * sz)) := by
  obtain ⟨h1, h2, h3, h4⟩ := h
  have hm : i * sz ≤ len * sz := Nat.mul_le_mul_right _ hi
  refine ⟨by rw [List.length_take, h1]; omega, by omega, h3, fun h0 => ?_⟩
  obtain ⟨b, o, e, hb, hG, hc⟩ := h4 (by omega)
  exact ⟨b, o, e, hb, hG, fun j u hu => hc j u (by
    rw [List.getElem?_take] at hu
    split at hu
    · exact hu
    · cases hu)⟩
theorem flat_at : ∀ {rows : List (Array Value)} (_ : ∀ r ∈ rows, r.size = 7) {i : Nat} {r : Array Value} (_ : rows[i]? = some r) (j : Nat) (_ : j < 7), (rows.flatMap Array.toList)[i * 7 + j]? = r.toList[j]? := by
  intro rows
  induction rows with
  | nil => intro _ i r h; simp at h
  | cons a rows ih =>
    intro hs i r h j hj
    have ha : a.toList.length = 7 := by rw [Array.length_toList]; exact hs a (List.mem_cons_self ..)
    rw [List.flatMap_cons]
    cases i with
    | zero =>
      simp only [List.getElem?_cons_zero, Option.some.injEq] at h
      subst h
      rw [List.getElem?_append_left (by omega), Nat.zero_mul, Nat.zero_add]
    | succ i =>
      rw [List.getElem?_append_right (by omega), ha, show (i + 1) * 7 + j - 7 = i * 7 + j by omega]
      exact ih (fun r hr => hs r (List.mem_cons_of_mem _ hr)) (by simpa using h) j hj
theorem flat_take : ∀ {rows : List (Array Value)} (_ : ∀ r ∈ rows, r.size = 7) (i : Nat), (rows.take i).flatMap Array.toList = (rows.flatMap Array.toList).take (i * 7) := by
  intro rows
  induction rows with
  | nil => intro _ i; simp
  | cons a rows ih =>
    intro hs i
    have ha : a.toList.length = 7 := by rw [Array.length_toList]; exact hs a (List.mem_cons_self ..)
    cases i with
    | zero => simp
    | succ i =>
      rw [List.take_succ_cons, List.flatMap_cons, List.flatMap_cons, ih (fun r hr => hs r (List.mem_cons_of_mem _ hr)) i, List.take_append, ha, List.take_of_length_le (l := a.toList) (by rw [ha]; omega), show (i + 1) * 7 - 7 = i * 7 by omega]
section
variable {h0 : Nat} {F : Nat → Prop} {w : World} {S : Nat → Prop} {g : Nat} {D : Dk} {pb jb n : Nat} {X : Px} {zb jz k : Nat} {gs ns : Array Value} {pv ov : Value}
def BbTo (h0 : Nat) (F : Nat → Prop) (w : World) (g : Nat) (D : Dk) (pb jb n : Nat) (X : Px) (e : Ending) (w' : World) : Prop := ∃ (ec : Nat) (X' : Px), e = .returned (.int .i64 (ec : Int)) ∧ PTo h0 F w g D pb jb n X' w' ∧ X'.good = X.good ∧ X'.kept = X.kept ∧ ∀ k, Inv n k D X → Inv n (k + 1) D X'
theorem pback_b (h : Pgr h0 F w S g D pb jb n X) (id : Int) : Calls Tryz.prog 25 #[.pointer (some ⟨pb, 0, none⟩), .int .i64 id] w fun e w' => BbTo h0 F w g D pb jb n X e w' := by
  refine (pback_any h id).mono ?_
  rintro e w' (⟨i, s, rfl, hs, rfl, hT⟩ | ⟨_, rfl, hT⟩)
  · refine ⟨0, _, rfl, hT, rfl, rfl, fun k hi => ⟨hi.g, by have := hi.w; omega, hi.h, by have := hi.s1; show X.good.ser ≤ _; omega, ?_, fun s2 h2 => ?_⟩⟩
    · show s.h.ser ≤ _
      have := hi.s3 s (List.mem_of_getElem? hs)
      omega
    · have := hi.s3 s2 (List.mem_of_mem_take h2)
      omega
  · exact ⟨6, X, rfl, hT, rfl, rfl, fun k hi => hi.mono (by omega)⟩
theorem rst_inv (hi : Inv n k D X) : Inv n (k + 1) D X.rst := ⟨hi.g, by have := hi.w; omega, hi.h, by have := hi.s1; show X.good.ser ≤ _; omega, by have := hi.s1; show X.good.ser ≤ _; omega, fun s hs => by cases hs⟩
theorem opn_inv (hi : Inv n k D X) : Inv n (k + 1) D (pxOf n D X.good) := ⟨hi.g, by have := hi.w; omega, hi.h, by have := hi.s1; show X.good.ser ≤ _; omega, by have := hi.s1; show X.good.ser ≤ _; omega, fun s hs => by cases hs⟩
set_option maxRecDepth 100000 in
set_option maxHeartbeats 16000000 in
theorem step5 (h : Ps h0 F w S g D pb jb n X zb jz gs ns pv ov) (hi : Inv n k D X) (id kx lg : Int) (fl : Nat) : Calls Tryz.prog 16 #[.pointer (some ⟨zb, 0, none⟩), .agg #[.int .i64 5, .int .i64 id, .int .i64 kx, .int .i64 lg, .int .u8 (fl : Int)]] w fun e w' => StepTo h0 F w g D pb jb n X zb jz k 5 e w' := by
  obtain ⟨hok, hn2, hn12⟩ := h.nn
  have q0 := Sq.start h (opA 5 id kx lg fl)
  have HI : Hid (Inv n k D X ∧ X.Ok n) := ⟨hi, hok⟩
  obtain ⟨B, hB⟩ : ∃ B, w.heap.size = B := ⟨_, rfl⟩
  obtain ⟨W0, hW0⟩ : ∃ W0, w.alloc (.cells (opA 5 id kx lg fl) 57) = W0 := ⟨_, rfl⟩
  obtain ⟨F0, hF0⟩ : ∃ F0, mor F w W0 = F0 := ⟨_, rfl⟩
  rw [hW0, hF0, hB] at q0
  clear hF0 hi hok
  have hW0 : w.alloc (.cells #[.int .i64 5, .int .i64 id, .int .i64 kx, .int .i64 lg, .int .u8 (fl : Int)] 57) = W0 := hW0
  have ck : W0.cell? ⟨B, 0, none⟩ = some (.int .i64 5) := q0.at 0 _ rfl
  obtain ⟨pa, pl, pc, rows, rfl, hrl, hp16, hrw, hrr⟩ := q0.s.z.p
  have hpcap := rw_cap hrw
  by_cases hneg : kx < 0
  · have kneg : decide (kx < 0) = true := by simpa using hneg
    have OPC : Hid (∀ W : World, W.heap[B]? = some (.cells (opA 5 id kx lg fl) 57 (0, 0)) → W.cell? ⟨B, 2, none⟩ = some (.int .i64 kx)) := fun W hW => by rw [cell_of_row W B _ _ _ _ hW]; rfl
    have Q0 : Hid (Sq h0 F w F0 W0 S g D pb jb n X zb jz gs ns (.slice pa pl pc) ov B (opA 5 id kx lg fl)) := q0
    clear q0 h hrw hrr hrl
    go_enter Tryz.func16, Tryz.ntmps16
    go_wp2
    refine wp_region_held_drew (S := fun W => (W.heap[B]? = some (.cells (opA 5 id kx lg fl) 57 (0, 0))) ∧ W.cell? ⟨zb, 16, none⟩ = some (.slice pa pl pc)) (by kernel_rfl) (⟨Q0.out.drew.o, Q0.out.drew.s.z.cells.2.2.1⟩) (fun hHeld => ?_)
    refine wpAnyH_take (i := 0) (v := ?vl0) rfl (by kernel_rfl) (by kernel_rfl) (by kernel_rfl) (fun _ _ _ h => h) (Or.inl ⟨by first | kernel_rfl | rfl, ?yl0⟩) hHeld ?rl0
    case yl0 => (intro W hSW; (try dsimp only at hSW); go_simp; (try with_reducible rfl))
    change wpAnyH _ _ _ _ _ _ _ (Act.put _ (some 217) _) _
    simp only [Act.put, List.setIfInBounds_toArray, List.set_cons_zero, List.set_cons_succ]
    refine wpAnyH_take (i := 1) (v := .int .i64 kx) rfl (by kernel_rfl) (by kernel_rfl) (by kernel_rfl) (fun _ _ _ h => h) (Or.inl ⟨by first | kernel_rfl | rfl, ?yl1⟩) hHeld ?rl1
    case yl1 => (intro W hSW; have cq := OPC.out W hSW.1; go_simp; (try with_reducible rfl))
    change wpAnyH _ _ _ _ _ _ _ (Act.put _ (some 218) _) _
    simp only [Act.put, List.setIfInBounds_toArray, List.set_cons_zero, List.set_cons_succ]
    refine wpAnyH_take (i := 2) (v := .bool true) rfl (by kernel_rfl) (by kernel_rfl) (by kernel_rfl) (fun _ _ _ h => h) (Or.inl ⟨by first | kernel_rfl | rfl, ?yl2⟩) hHeld ?rl2
    case yl2 => (intro W hSW; (try dsimp only at hSW); go_simp; (try with_reducible rfl))
    change wpAnyH _ _ _ _ _ _ _ (Act.put _ (some 219) _) _
    simp only [Act.put, List.setIfInBounds_toArray, List.set_cons_zero, List.set_cons_succ]
    refine wpAnyH_take (i := 3) (v := .bool true) rfl (by kernel_rfl) (by kernel_rfl) (by kernel_rfl) (fun _ _ _ h => h) (Or.inl ⟨by first | kernel_rfl | rfl, ?yl3⟩) hHeld ?rl3
    case yl3 => (intro W hSW; (try dsimp only at hSW); go_simp; (try with_reducible rfl))
    change wpAnyH _ _ _ _ _ _ _ (Act.put _ (some 220) _) _
    simp only [Act.put, List.setIfInBounds_toArray, List.set_cons_zero, List.set_cons_succ]
    refine wpAnyH_take (i := 4) (v := undef) rfl (by kernel_rfl) (by kernel_rfl) (by kernel_rfl) (fun _ _ _ h => h) (Or.inr ⟨by first | kernel_rfl | rfl, rfl⟩) hHeld ?_
    change wpAnyH _ _ _ _ _ _ _ (Act.put _ (some 221) _) _
    simp only [Act.put, List.setIfInBounds_toArray, List.set_cons_zero, List.set_cons_succ]
    refine wpAnyH_take (i := 5) (v := undef) rfl (by kernel_rfl) (by kernel_rfl) (by kernel_rfl) (fun _ _ _ h => h) (Or.inr ⟨by first | kernel_rfl | rfl, rfl⟩) hHeld ?_
    change wpAnyH _ _ _ _ _ _ _ (Act.put _ (some 222) _) _
    simp only [Act.put, List.setIfInBounds_toArray, List.set_cons_zero, List.set_cons_succ]
    refine wpAnyH_take (i := 6) (v := undef) rfl (by kernel_rfl) (by kernel_rfl) (by kernel_rfl) (fun _ _ _ h => h) (Or.inr ⟨by first | kernel_rfl | rfl, rfl⟩) hHeld ?_
    change wpAnyH _ _ _ _ _ _ _ (Act.put _ (some 223) _) _
    simp only [Act.put, List.setIfInBounds_toArray, List.set_cons_zero, List.set_cons_succ]
    refine wpAnyH_take (i := 7) (v := undef) rfl (by kernel_rfl) (by kernel_rfl) (by kernel_rfl) (fun _ _ _ h => h) (Or.inr ⟨by first | kernel_rfl | rfl, rfl⟩) hHeld ?_
    change wpAnyH _ _ _ _ _ _ _ (Act.put _ (some 224) _) _
    simp only [Act.put, List.setIfInBounds_toArray, List.set_cons_zero, List.set_cons_succ]
    refine wpAnyH_take (i := 8) (v := undef) rfl (by kernel_rfl) (by kernel_rfl) (by kernel_rfl) (fun _ _ _ h => h) (Or.inr ⟨by first | kernel_rfl | rfl, rfl⟩) hHeld ?_
    change wpAnyH _ _ _ _ _ _ _ (Act.put _ (some 225) _) _
    simp only [Act.put, List.setIfInBounds_toArray, List.set_cons_zero, List.set_cons_succ]
    refine wpAnyH_take (i := 9) (v := undef) rfl (by kernel_rfl) (by kernel_rfl) (by kernel_rfl) (fun _ _ _ h => h) (Or.inr ⟨by first | kernel_rfl | rfl, rfl⟩) hHeld ?_
    change wpAnyH _ _ _ _ _ _ _ (Act.put _ (some 226) _) _
    simp only [Act.put, List.setIfInBounds_toArray, List.set_cons_zero, List.set_cons_succ]
    refine wpAnyH_take (i := 10) (v := undef) rfl (by kernel_rfl) (by kernel_rfl) (by kernel_rfl) (fun _ _ _ h => h) (Or.inr ⟨by first | kernel_rfl | rfl, rfl⟩) hHeld ?_
    change wpAnyH _ _ _ _ _ _ _ (Act.put _ (some 227) _) _
    simp only [Act.put, List.setIfInBounds_toArray, List.set_cons_zero, List.set_cons_succ]
    refine wpAnyH_take (i := 11) (v := undef) rfl (by kernel_rfl) (by kernel_rfl) (by kernel_rfl) (fun _ _ _ h => h) (Or.inr ⟨by first | kernel_rfl | rfl, rfl⟩) hHeld ?_
    change wpAnyH _ _ _ _ _ _ _ (Act.put _ (some 228) _) _
    simp only [Act.put, List.setIfInBounds_toArray, List.set_cons_zero, List.set_cons_succ]
    refine wpAnyH_take (i := 12) (v := undef) rfl (by kernel_rfl) (by kernel_rfl) (by kernel_rfl) (fun _ _ _ h => h) (Or.inr ⟨by first | kernel_rfl | rfl, rfl⟩) hHeld ?_
    change wpAnyH _ _ _ _ _ _ _ (Act.put _ (some 229) _) _
    simp only [Act.put, List.setIfInBounds_toArray, List.set_cons_zero, List.set_cons_succ]
    refine wpAnyH_take (i := 13) (v := .bool true) rfl (by kernel_rfl) (by kernel_rfl) (by kernel_rfl) (fun _ _ _ h => h) (Or.inl ⟨by first | kernel_rfl | rfl, ?yl13⟩) hHeld ?rl13
    case yl13 => (intro W hSW; (try dsimp only at hSW); go_simp; (try with_reducible rfl))
    change wpAnyH _ _ _ _ _ _ _ (Act.put _ (some 230) _) _
    simp only [Act.put, List.setIfInBounds_toArray, List.set_cons_zero, List.set_cons_succ]
    refine wpAnyH_done (by kernel_rfl) ?_ _
    go_wp2
    refine wp_region_held_drew (S := fun W => (W.heap[B]? = some (.cells (opA 5 id kx lg fl) 57 (0, 0))) ∧ W.cell? ⟨zb, 1, none⟩ = some (.pointer (some ⟨pb, 0, none⟩))) (by kernel_rfl) (⟨Q0.out.drew.drew.o, Q0.out.drew.drew.pp⟩) (fun hHeld => ?_)
    refine wpAnyH_take (i := 0) (v := ?vm0) rfl (by kernel_rfl) (by kernel_rfl) (by kernel_rfl) (fun _ _ _ h => h) (Or.inl ⟨by first | kernel_rfl | rfl, ?ym0⟩) hHeld ?rm0
    case ym0 => (intro W hSW; (try dsimp only at hSW); go_simp; (try with_reducible rfl))
    change wpAnyH _ _ _ _ _ _ _ (Act.put _ (some 231) _) _
    simp only [Act.put, List.setIfInBounds_toArray, List.set_cons_zero, List.set_cons_succ]
    refine wpAnyH_take (i := 1) (v := ?vm1) rfl (by kernel_rfl) (by kernel_rfl) (by kernel_rfl) (fun _ _ _ h => h) (Or.inl ⟨by first | kernel_rfl | rfl, ?ym1⟩) hHeld ?rm1
    case ym1 => (intro W hSW; (try dsimp only at hSW); go_simp; (try with_reducible rfl))
    change wpAnyH _ _ _ _ _ _ _ (Act.put _ (some 232) _) _
    simp only [Act.put, List.setIfInBounds_toArray, List.set_cons_zero, List.set_cons_succ]
    refine wpAnyH_take (i := 2) (v := ?vm2) rfl (by kernel_rfl) (by kernel_rfl) (by kernel_rfl) (fun _ _ _ h => h) (Or.inl ⟨by first | kernel_rfl | rfl, ?ym2⟩) hHeld ?rm2
    case ym2 => (intro W hSW; (try dsimp only at hSW); go_simp; (try with_reducible rfl))
    change wpAnyH _ _ _ _ _ _ _ (Act.put _ (some 233) _) _
    simp only [Act.put, List.setIfInBounds_toArray, List.set_cons_zero, List.set_cons_succ]
    refine wpAnyH_take (i := 3) (v := ?vm3) rfl (by kernel_rfl) (by kernel_rfl) (by kernel_rfl) (fun _ _ _ h => h) (Or.inl ⟨by first | kernel_rfl | rfl, ?ym3⟩) hHeld ?rm3
    case ym3 => (intro W hSW; (try dsimp only at hSW); go_simp; (try with_reducible rfl))
    change wpAnyH _ _ _ _ _ _ _ (Act.put _ (some 234) _) _
    simp only [Act.put, List.setIfInBounds_toArray, List.set_cons_zero, List.set_cons_succ]
    refine wpAnyH_take (i := 4) (v := ?vm4) rfl (by kernel_rfl) (by kernel_rfl) (by kernel_rfl) (fun _ _ _ h => h) (Or.inl ⟨by first | kernel_rfl | rfl, ?ym4⟩) hHeld ?rm4
    case ym4 => (intro W hSW; (try dsimp only at hSW); go_simp; (try with_reducible rfl))
    change wpAnyH _ _ _ _ _ _ _ (Act.put _ (some 235) _) _
    simp only [Act.put, List.setIfInBounds_toArray, List.set_cons_zero, List.set_cons_succ]
    refine wpAnyH_take (i := 5) (v := .int .i64 kx) rfl (by kernel_rfl) (by kernel_rfl) (by kernel_rfl) (fun _ _ _ h => h) (Or.inl ⟨by first | kernel_rfl | rfl, ?ym5⟩) hHeld ?rm5
    case ym5 => (intro W hSW; have cq := OPC.out W hSW.1; go_simp; (try with_reducible rfl))
    change wpAnyH _ _ _ _ _ _ _ (Act.put _ (some 236) _) _
    simp only [Act.put, List.setIfInBounds_toArray, List.set_cons_zero, List.set_cons_succ]
    have HPC := pback_b Q0.out.drew.drew.s.p kx
    refine wpAnyH_ready (rs := [6]) (by kernel_rfl) (by simp) ?_
    refine AllReadyH.cons rfl (fun K hK => ?_) AllReadyH.nil
    go_simp
    refine (HPC).mono ?_
    rintro e V5 ⟨ec, X', rfl, hT, hX⟩
    refine hK.out _ _ ((fun ⟨_, _, x⟩ => ⟨x.o, x.pp⟩) (Q0.out.drew.drew.pto hT)) (fun hHeld => ?_)
    clear hK K
    try simp only [Act.put, List.setIfInBounds_toArray, List.set_cons_zero, List.set_cons_succ]
    have HE : Hid (∀ b, StepTo h0 F w g D pb jb n X zb jz k 5 (.returned (.bool b)) V5) := fun b => (fun ⟨_, _, x⟩ => ⟨b, D, X', pb, rfl, x.done, hX.2.2 k HI.out.1, fun _ => ⟨rfl, hX.1, hX.2.1⟩, fun h => by omega, fun _ => rfl⟩) (Q0.out.drew.drew.pto hT)
    clear hT HPC hX
    obtain ⟨bb, hbb⟩ : ∃ bb : Bool, ((ec : Int) == 6) = bb := ⟨_, rfl⟩
    refine wpAnyH_take (i := 7) (v := .bool bb) rfl (by kernel_rfl) (by kernel_rfl) (by kernel_rfl) (fun _ _ _ h => h) (Or.inl ⟨by first | kernel_rfl | rfl, ?ym7⟩) hHeld ?rm7
    case ym7 => (intro W hSW; (try dsimp only at hSW); go_simp; (try with_reducible rfl))
    change wpAnyH _ _ _ _ _ _ _ (Act.put _ (some 238) _) _
    simp only [Act.put, List.setIfInBounds_toArray, List.set_cons_zero, List.set_cons_succ]
    refine wpAnyH_take (i := 8) (v := ?vm8) rfl (by kernel_rfl) (by kernel_rfl) (by kernel_rfl) (fun _ _ _ h => h) (Or.inl ⟨by first | kernel_rfl | rfl, ?ym8⟩) hHeld ?rm8
    case ym8 => (intro W hSW; (try dsimp only at hSW); go_simp; (try with_reducible rfl))
    change wpAnyH _ _ _ _ _ _ _ (Act.put _ (some 4) _) _
    simp only [Act.put, List.setIfInBounds_toArray, List.set_cons_zero, List.set_cons_succ]
    refine wpAnyH_done (by kernel_rfl) ?_ _
    go_wp2
    go_ret
    exact HE.out _
  by_cases hge : (pl : Int) ≤ kx
  · have kneg : decide (kx < 0) = false := by simpa using hneg
    have kge : decide ((pl : Int) ≤ kx) = true := by simpa using hge
    have OPC : Hid (∀ W : World, W.heap[B]? = some (.cells (opA 5 id kx lg fl) 57 (0, 0)) → W.cell? ⟨B, 2, none⟩ = some (.int .i64 kx)) := fun W hW => by rw [cell_of_row W B _ _ _ _ hW]; rfl
    have Q0 : Hid (Sq h0 F w F0 W0 S g D pb jb n X zb jz gs ns (.slice pa pl pc) ov B (opA 5 id kx lg fl)) := q0
    clear q0 h hrw hrr hrl
    go_enter Tryz.func16, Tryz.ntmps16
    go_wp2
    refine wp_region_held_drew (S := fun W => (W.heap[B]? = some (.cells (opA 5 id kx lg fl) 57 (0, 0))) ∧ W.cell? ⟨zb, 16, none⟩ = some (.slice pa pl pc)) (by kernel_rfl) (⟨Q0.out.drew.o, Q0.out.drew.s.z.cells.2.2.1⟩) (fun hHeld => ?_)
    refine wpAnyH_take (i := 0) (v := ?vn0) rfl (by kernel_rfl) (by kernel_rfl) (by kernel_rfl) (fun _ _ _ h => h) (Or.inl ⟨by first | kernel_rfl | rfl, ?yn0⟩) hHeld ?rn0
    case yn0 => (intro W hSW; (try dsimp only at hSW); go_simp; (try with_reducible rfl))
    change wpAnyH _ _ _ _ _ _ _ (Act.put _ (some 217) _) _
    simp only [Act.put, List.setIfInBounds_toArray, List.set_cons_zero, List.set_cons_succ]
    refine wpAnyH_take (i := 1) (v := .int .i64 kx) rfl (by kernel_rfl) (by kernel_rfl) (by kernel_rfl) (fun _ _ _ h => h) (Or.inl ⟨by first | kernel_rfl | rfl, ?yn1⟩) hHeld ?rn1
    case yn1 => (intro W hSW; have cq := OPC.out W hSW.1; go_simp; (try with_reducible rfl))
    change wpAnyH _ _ _ _ _ _ _ (Act.put _ (some 218) _) _
    simp only [Act.put, List.setIfInBounds_toArray, List.set_cons_zero, List.set_cons_succ]
    refine wpAnyH_take (i := 2) (v := .bool false) rfl (by kernel_rfl) (by kernel_rfl) (by kernel_rfl) (fun _ _ _ h => h) (Or.inl ⟨by first | kernel_rfl | rfl, ?yn2⟩) hHeld ?rn2
    case yn2 => (intro W hSW; (try dsimp only at hSW); go_simp; (try with_reducible rfl))
    change wpAnyH _ _ _ _ _ _ _ (Act.put _ (some 219) _) _
    simp only [Act.put, List.setIfInBounds_toArray, List.set_cons_zero, List.set_cons_succ]
    refine wpAnyH_take (i := 3) (v := .bool false) rfl (by kernel_rfl) (by kernel_rfl) (by kernel_rfl) (fun _ _ _ h => h) (Or.inl ⟨by first | kernel_rfl | rfl, ?yn3⟩) hHeld ?rn3
    case yn3 => (intro W hSW; (try dsimp only at hSW); go_simp; (try with_reducible rfl))
    change wpAnyH _ _ _ _ _ _ _ (Act.put _ (some 220) _) _
    simp only [Act.put, List.setIfInBounds_toArray, List.set_cons_zero, List.set_cons_succ]
    refine wpAnyH_take (i := 4) (v := ?vn4) rfl (by kernel_rfl) (by kernel_rfl) (by kernel_rfl) (fun _ _ _ h => h) (Or.inl ⟨by first | kernel_rfl | rfl, ?yn4⟩) hHeld ?rn4
    case yn4 => (intro W hSW; (try dsimp only at hSW); go_simp; (try with_reducible rfl))
    change wpAnyH _ _ _ _ _ _ _ (Act.put _ (some 221) _) _
    simp only [Act.put, List.setIfInBounds_toArray, List.set_cons_zero, List.set_cons_succ]
    refine wpAnyH_take (i := 5) (v := .int .i64 kx) rfl (by kernel_rfl) (by kernel_rfl) (by kernel_rfl) (fun _ _ _ h => h) (Or.inl ⟨by first | kernel_rfl | rfl, ?yn5⟩) hHeld ?rn5
    case yn5 => (intro W hSW; have cq := OPC.out W hSW.1; go_simp; (try with_reducible rfl))
    change wpAnyH _ _ _ _ _ _ _ (Act.put _ (some 222) _) _
    simp only [Act.put, List.setIfInBounds_toArray, List.set_cons_zero, List.set_cons_succ]
    refine wpAnyH_take (i := 6) (v := ?vn6) rfl (by kernel_rfl) (by kernel_rfl) (by kernel_rfl) (fun _ _ _ h => h) (Or.inl ⟨by first | kernel_rfl | rfl, ?yn6⟩) hHeld ?rn6
    case yn6 => (intro W hSW; (try dsimp only at hSW); go_simp; (try with_reducible rfl))
    change wpAnyH _ _ _ _ _ _ _ (Act.put _ (some 223) _) _
    simp only [Act.put, List.setIfInBounds_toArray, List.set_cons_zero, List.set_cons_succ]
    refine wpAnyH_take (i := 7) (v := ?vn7) rfl (by kernel_rfl) (by kernel_rfl) (by kernel_rfl) (fun _ _ _ h => h) (Or.inl ⟨by first | kernel_rfl | rfl, ?yn7⟩) hHeld ?rn7
    case yn7 => (intro W hSW; (try dsimp only at hSW); go_simp; (try with_reducible rfl))
    change wpAnyH _ _ _ _ _ _ _ (Act.put _ (some 224) _) _
    simp only [Act.put, List.setIfInBounds_toArray, List.set_cons_zero, List.set_cons_succ]
    refine wpAnyH_take (i := 8) (v := ?vn8) rfl (by kernel_rfl) (by kernel_rfl) (by kernel_rfl) (fun _ _ _ h => h) (Or.inl ⟨by first | kernel_rfl | rfl, ?yn8⟩) hHeld ?rn8
    case yn8 => (intro W hSW; (try dsimp only at hSW); go_simp; (try with_reducible rfl))
    change wpAnyH _ _ _ _ _ _ _ (Act.put _ (some 225) _) _
    simp only [Act.put, List.setIfInBounds_toArray, List.set_cons_zero, List.set_cons_succ]
    refine wpAnyH_take (i := 9) (v := ?vn9) rfl (by kernel_rfl) (by kernel_rfl) (by kernel_rfl) (fun _ _ _ h => h) (Or.inl ⟨by first | kernel_rfl | rfl, ?yn9⟩) hHeld ?rn9
    case yn9 => (intro W hSW; (try dsimp only at hSW); go_simp; (try with_reducible rfl))
    change wpAnyH _ _ _ _ _ _ _ (Act.put _ (some 226) _) _
    simp only [Act.put, List.setIfInBounds_toArray, List.set_cons_zero, List.set_cons_succ]
    refine wpAnyH_take (i := 10) (v := ?vn10) rfl (by kernel_rfl) (by kernel_rfl) (by kernel_rfl) (fun _ _ _ h => h) (Or.inl ⟨by first | kernel_rfl | rfl, ?yn10⟩) hHeld ?rn10
    case yn10 => (intro W hSW; (try dsimp only at hSW); go_simp; (try with_reducible rfl))
    change wpAnyH _ _ _ _ _ _ _ (Act.put _ (some 227) _) _
    simp only [Act.put, List.setIfInBounds_toArray, List.set_cons_zero, List.set_cons_succ]
    refine wpAnyH_take (i := 11) (v := ?vn11) rfl (by kernel_rfl) (by kernel_rfl) (by kernel_rfl) (fun _ _ _ h => h) (Or.inl ⟨by first | kernel_rfl | rfl, ?yn11⟩) hHeld ?rn11
    case yn11 => (intro W hSW; (try dsimp only at hSW); go_simp; (try with_reducible rfl))
    change wpAnyH _ _ _ _ _ _ _ (Act.put _ (some 228) _) _
    simp only [Act.put, List.setIfInBounds_toArray, List.set_cons_zero, List.set_cons_succ]
    refine wpAnyH_take (i := 12) (v := .bool true) rfl (by kernel_rfl) (by kernel_rfl) (by kernel_rfl) (fun _ _ _ h => h) (Or.inl ⟨by first | kernel_rfl | rfl, ?yn12⟩) hHeld ?rn12
    case yn12 => (intro W hSW; (try dsimp only at hSW); go_simp; (try with_reducible rfl))
    change wpAnyH _ _ _ _ _ _ _ (Act.put _ (some 229) _) _
    simp only [Act.put, List.setIfInBounds_toArray, List.set_cons_zero, List.set_cons_succ]
    refine wpAnyH_take (i := 13) (v := .bool true) rfl (by kernel_rfl) (by kernel_rfl) (by kernel_rfl) (fun _ _ _ h => h) (Or.inl ⟨by first | kernel_rfl | rfl, ?yn13⟩) hHeld ?rn13
    case yn13 => (intro W hSW; (try dsimp only at hSW); go_simp; (try with_reducible rfl))
    change wpAnyH _ _ _ _ _ _ _ (Act.put _ (some 230) _) _
    simp only [Act.put, List.setIfInBounds_toArray, List.set_cons_zero, List.set_cons_succ]
    refine wpAnyH_done (by kernel_rfl) ?_ _
    go_wp2
    refine wp_region_held_drew (S := fun W => (W.heap[B]? = some (.cells (opA 5 id kx lg fl) 57 (0, 0))) ∧ W.cell? ⟨zb, 1, none⟩ = some (.pointer (some ⟨pb, 0, none⟩))) (by kernel_rfl) (⟨Q0.out.drew.drew.o, Q0.out.drew.drew.pp⟩) (fun hHeld => ?_)
    refine wpAnyH_take (i := 0) (v := ?vo0) rfl (by kernel_rfl) (by kernel_rfl) (by kernel_rfl) (fun _ _ _ h => h) (Or.inl ⟨by first | kernel_rfl | rfl, ?yo0⟩) hHeld ?ro0
    case yo0 => (intro W hSW; (try dsimp only at hSW); go_simp; (try with_reducible rfl))
    change wpAnyH _ _ _ _ _ _ _ (Act.put _ (some 231) _) _
    simp only [Act.put, List.setIfInBounds_toArray, List.set_cons_zero, List.set_cons_succ]
    refine wpAnyH_take (i := 1) (v := ?vo1) rfl (by kernel_rfl) (by kernel_rfl) (by kernel_rfl) (fun _ _ _ h => h) (Or.inl ⟨by first | kernel_rfl | rfl, ?yo1⟩) hHeld ?ro1
    case yo1 => (intro W hSW; (try dsimp only at hSW); go_simp; (try with_reducible rfl))
    change wpAnyH _ _ _ _ _ _ _ (Act.put _ (some 232) _) _
    simp only [Act.put, List.setIfInBounds_toArray, List.set_cons_zero, List.set_cons_succ]
    refine wpAnyH_take (i := 2) (v := ?vo2) rfl (by kernel_rfl) (by kernel_rfl) (by kernel_rfl) (fun _ _ _ h => h) (Or.inl ⟨by first | kernel_rfl | rfl, ?yo2⟩) hHeld ?ro2
    case yo2 => (intro W hSW; (try dsimp only at hSW); go_simp; (try with_reducible rfl))
    change wpAnyH _ _ _ _ _ _ _ (Act.put _ (some 233) _) _
    simp only [Act.put, List.setIfInBounds_toArray, List.set_cons_zero, List.set_cons_succ]
    refine wpAnyH_take (i := 3) (v := ?vo3) rfl (by kernel_rfl) (by kernel_rfl) (by kernel_rfl) (fun _ _ _ h => h) (Or.inl ⟨by first | kernel_rfl | rfl, ?yo3⟩) hHeld ?ro3
    case yo3 => (intro W hSW; (try dsimp only at hSW); go_simp; (try with_reducible rfl))
    change wpAnyH _ _ _ _ _ _ _ (Act.put _ (some 234) _) _
    simp only [Act.put, List.setIfInBounds_toArray, List.set_cons_zero, List.set_cons_succ]
    refine wpAnyH_take (i := 4) (v := ?vo4) rfl (by kernel_rfl) (by kernel_rfl) (by kernel_rfl) (fun _ _ _ h => h) (Or.inl ⟨by first | kernel_rfl | rfl, ?yo4⟩) hHeld ?ro4
    case yo4 => (intro W hSW; (try dsimp only at hSW); go_simp; (try with_reducible rfl))
    change wpAnyH _ _ _ _ _ _ _ (Act.put _ (some 235) _) _
    simp only [Act.put, List.setIfInBounds_toArray, List.set_cons_zero, List.set_cons_succ]
    refine wpAnyH_take (i := 5) (v := .int .i64 kx) rfl (by kernel_rfl) (by kernel_rfl) (by kernel_rfl) (fun _ _ _ h => h) (Or.inl ⟨by first | kernel_rfl | rfl, ?yo5⟩) hHeld ?ro5
    case yo5 => (intro W hSW; have cq := OPC.out W hSW.1; go_simp; (try with_reducible rfl))
    change wpAnyH _ _ _ _ _ _ _ (Act.put _ (some 236) _) _
    simp only [Act.put, List.setIfInBounds_toArray, List.set_cons_zero, List.set_cons_succ]
    have HPC := pback_b Q0.out.drew.drew.s.p kx
    refine wpAnyH_ready (rs := [6]) (by kernel_rfl) (by simp) ?_
    refine AllReadyH.cons rfl (fun K hK => ?_) AllReadyH.nil
    go_simp
    refine (HPC).mono ?_
    rintro e V5 ⟨ec, X', rfl, hT, hX⟩
    refine hK.out _ _ ((fun ⟨_, _, x⟩ => ⟨x.o, x.pp⟩) (Q0.out.drew.drew.pto hT)) (fun hHeld => ?_)
    clear hK K
    try simp only [Act.put, List.setIfInBounds_toArray, List.set_cons_zero, List.set_cons_succ]
    have HE : Hid (∀ b, StepTo h0 F w g D pb jb n X zb jz k 5 (.returned (.bool b)) V5) := fun b => (fun ⟨_, _, x⟩ => ⟨b, D, X', pb, rfl, x.done, hX.2.2 k HI.out.1, fun _ => ⟨rfl, hX.1, hX.2.1⟩, fun h => by omega, fun _ => rfl⟩) (Q0.out.drew.drew.pto hT)
    clear hT HPC hX
    obtain ⟨bb, hbb⟩ : ∃ bb : Bool, ((ec : Int) == 6) = bb := ⟨_, rfl⟩
    refine wpAnyH_take (i := 7) (v := .bool bb) rfl (by kernel_rfl) (by kernel_rfl) (by kernel_rfl) (fun _ _ _ h => h) (Or.inl ⟨by first | kernel_rfl | rfl, ?yo7⟩) hHeld ?ro7
    case yo7 => (intro W hSW; (try dsimp only at hSW); go_simp; (try with_reducible rfl))
    change wpAnyH _ _ _ _ _ _ _ (Act.put _ (some 238) _) _
    simp only [Act.put, List.setIfInBounds_toArray, List.set_cons_zero, List.set_cons_succ]
    refine wpAnyH_take (i := 8) (v := ?vo8) rfl (by kernel_rfl) (by kernel_rfl) (by kernel_rfl) (fun _ _ _ h => h) (Or.inl ⟨by first | kernel_rfl | rfl, ?yo8⟩) hHeld ?ro8
    case yo8 => (intro W hSW; (try dsimp only at hSW); go_simp; (try with_reducible rfl))
    change wpAnyH _ _ _ _ _ _ _ (Act.put _ (some 4) _) _
    simp only [Act.put, List.setIfInBounds_toArray, List.set_cons_zero, List.set_cons_succ]
    refine wpAnyH_done (by kernel_rfl) ?_ _
    go_wp2
    go_ret
    exact HE.out _
  · obtain ⟨i, rfl⟩ := Int.eq_ofNat_of_zero_le (show 0 ≤ kx by omega)
    have hipl : i < pl := by omega
    have kneg : decide ((i : Int) < 0) = false := by simp
    have kge : decide ((pl : Int) ≤ (i : Int)) = false := by simpa using hge
    have kge2 : decide (pl ≤ i) = false := by simp; omega
    have kip : (i : Int) < (pl : Int) := by omega
    obtain ⟨sb, so, rfl, hsbl, hsF, hsc⟩ := hrw.2.2.2 (by omega)
    obtain ⟨ri, hri⟩ : ∃ r, rows[i]? = some r := ⟨_, List.getElem?_eq_getElem (by omega)⟩
    have hrm := List.mem_of_getElem? hri
    have hriz := (hrr ri hrm).1
    have hDi := (hrr ri hrm).2
    obtain ⟨rs9, e9, _, hio⟩ := hDi.agg
    cases e9
    have HLD : Hid (∀ W : World, W.heap[sb]? = W0.heap[sb]? → (loadVar 42 ⟨sb, so + i * 7, none⟩).run Tryz.prog W = .ok (.agg ri) W) := fun W hW => by
      have := load_cs (P := Tryz.prog) W sb (so + i * 7) 42 _ ri.toList Tryz.underlying42 rfl (by rw [Array.length_toList, hriz]; kernel_rfl) (fun j v hv => by
        have hj : j < 7 := by have := (List.getElem?_eq_some_iff.1 hv).1; rw [Array.length_toList, hriz] at this; exact this
        rw [cell_blk hW, Nat.add_assoc]
        refine hsc _ v ?_
        rw [flat_at (fun r hr => (hrr r hr).1) hri j hj]
        exact hv)
      simpa using this
    have OPC : Hid (∀ W : World, W.heap[B]? = some (.cells (opA 5 id (i : Int) lg fl) 57 (0, 0)) → W.cell? ⟨B, 2, none⟩ = some (.int .i64 (i : Int))) := fun W hW => by rw [cell_of_row W B _ _ _ _ hW]; rfl
    have Q0 : Hid (Sq h0 F w F0 W0 S g D pb jb n X zb jz gs ns (.slice (some ⟨sb, so, none⟩) pl pc) ov B (opA 5 id (i : Int) lg fl)) := q0
    have Q1 : Hid (Sq h0 F w F0 W0.drew S g D pb jb n X zb jz gs ns (.slice (some ⟨sb, so, none⟩) pl pc) ov B (opA 5 id (i : Int) lg fl)) := q0.drew
    have hDi2 : DSt (but zb F0) W0.drew.drew n (.agg ri) := hDi.fr ((Fr.drew _ W0).trans (Fr.drew _ W0.drew))
    have q3 := q0.drew.drew.with (q0.drew.drew.s.now hriz hDi2)
    have hst := q0.drew.drew.s.z.store_now hriz hio
    obtain ⟨V3, hV3⟩ : ∃ V3, W0.drew.drew.setRow zb (prA jz pb gs ri (.slice (some ⟨sb, so, none⟩) pl pc) ov) = V3 := ⟨_, rfl⟩
    rw [hV3] at q3 hst
    have c163 := q3.drew.s.z.cells.2.2.1
    have f163 := q3.drew.s.z.fro 16
    have HS3 : Hid (V3.heap[B]? = some (.cells (opA 5 id (i : Int) lg fl) 57 (0, 0)) ∧ V3.cell? ⟨zb, 16, none⟩ = some (.slice (some ⟨sb, so, none⟩) pl pc) ∧ (loadVar 42 ⟨sb, so + i * 7, none⟩).run Tryz.prog V3 = .ok (.agg ri) V3) := ⟨q3.o, q3.s.z.cells.2.2.1, HLD.out V3 (by rw [← hV3]; exact setRow_other _ _ _ _ hsF.2)⟩
    have Q3 : Hid (Sq h0 F w F0 V3 S g D pb jb n X zb jz gs ri (.slice (some ⟨sb, so, none⟩) pl pc) ov B (opA 5 id (i : Int) lg fl)) := q3
    have hPt : Pts (but zb F0) V3.drew n (.slice (some ⟨sb, so, none⟩) i pc) := by
      have fr3 : Fr (but zb F0) W0 (but zb F0) V3.drew := ((Fr.drew _ W0).trans (Fr.drew _ W0.drew)).trans (Fr.trans ⟨by rw [← hV3, size_setRow]; exact Nat.le_refl _, fun _ hx => hx, fun x hx _ => by rw [← hV3]; exact setRow_other _ _ _ _ hx.2⟩ (Fr.drew _ V3))
      refine ⟨_, i, pc, rows.take i, rfl, by rw [List.length_take]; omega, by omega, ?_, fun r hr => ⟨(hrr r (List.mem_of_mem_take hr)).1, (hrr r (List.mem_of_mem_take hr)).2.fr fr3⟩⟩
      rw [flat_take (fun r hr => (hrr r hr).1)]
      exact (hrw.pfx i (by omega)).fr fr3
    have q4 := q3.drew.with (q3.drew.s.pts hPt)
    obtain ⟨V4, hV4⟩ : ∃ V4, V3.drew.setCell ⟨zb, 16, none⟩ (.slice (some ⟨sb, so, none⟩) i pc) = V4 := ⟨_, rfl⟩
    rw [hV4] at q4
    have Q4 : Hid (Sq h0 F w F0 V4 S g D pb jb n X zb jz gs ri (.slice (some ⟨sb, so, none⟩) i pc) ov B (opA 5 id (i : Int) lg fl)) := q4
    have kipc : (i : Int) ≤ (pc : Int) := by omega
    clear q0 h hrw hrr hrl hsc hrm hDi hDi2 q3 q4 hPt hio hri hsF
    go_enter Tryz.func16, Tryz.ntmps16
    go_wp2
    refine wp_region_held_drew (S := fun W => (W.heap[B]? = some (.cells (opA 5 id (i : Int) lg fl) 57 (0, 0))) ∧ W.cell? ⟨zb, 16, none⟩ = some (.slice (some ⟨sb, so, none⟩) pl pc)) (by kernel_rfl) (⟨Q0.out.drew.o, Q0.out.drew.s.z.cells.2.2.1⟩) (fun hHeld => ?_)
    refine wpAnyH_take (i := 0) (v := ?vp0) rfl (by kernel_rfl) (by kernel_rfl) (by kernel_rfl) (fun _ _ _ h => h) (Or.inl ⟨by first | kernel_rfl | rfl, ?yp0⟩) hHeld ?rp0
    case yp0 => (intro W hSW; (try dsimp only at hSW); go_simp; (try with_reducible rfl))
    change wpAnyH _ _ _ _ _ _ _ (Act.put _ (some 217) _) _
    simp only [Act.put, List.setIfInBounds_toArray, List.set_cons_zero, List.set_cons_succ]
    refine wpAnyH_take (i := 1) (v := .int .i64 (i : Int)) rfl (by kernel_rfl) (by kernel_rfl) (by kernel_rfl) (fun _ _ _ h => h) (Or.inl ⟨by first | kernel_rfl | rfl, ?yp1⟩) hHeld ?rp1
    case yp1 => (intro W hSW; have cq := OPC.out W hSW.1; go_simp; (try with_reducible rfl))
    change wpAnyH _ _ _ _ _ _ _ (Act.put _ (some 218) _) _
    simp only [Act.put, List.setIfInBounds_toArray, List.set_cons_zero, List.set_cons_succ]
    refine wpAnyH_take (i := 2) (v := .bool false) rfl (by kernel_rfl) (by kernel_rfl) (by kernel_rfl) (fun _ _ _ h => h) (Or.inl ⟨by first | kernel_rfl | rfl, ?yp2⟩) hHeld ?rp2
    case yp2 => (intro W hSW; (try dsimp only at hSW); go_simp; (try with_reducible rfl))
    change wpAnyH _ _ _ _ _ _ _ (Act.put _ (some 219) _) _
    simp only [Act.put, List.setIfInBounds_toArray, List.set_cons_zero, List.set_cons_succ]
    refine wpAnyH_take (i := 3) (v := .bool false) rfl (by kernel_rfl) (by kernel_rfl) (by kernel_rfl) (fun _ _ _ h => h) (Or.inl ⟨by first | kernel_rfl | rfl, ?yp3⟩) hHeld ?rp3
    case yp3 => (intro W hSW; (try dsimp only at hSW); go_simp; (try with_reducible rfl))
    change wpAnyH _ _ _ _ _ _ _ (Act.put _ (some 220) _) _
    simp only [Act.put, List.setIfInBounds_toArray, List.set_cons_zero, List.set_cons_succ]
    refine wpAnyH_take (i := 4) (v := ?vp4) rfl (by kernel_rfl) (by kernel_rfl) (by kernel_rfl) (fun _ _ _ h => h) (Or.inl ⟨by first | kernel_rfl | rfl, ?yp4⟩) hHeld ?rp4
    case yp4 => (intro W hSW; (try dsimp only at hSW); go_simp; (try with_reducible rfl))
    change wpAnyH _ _ _ _ _ _ _ (Act.put _ (some 221) _) _
    simp only [Act.put, List.setIfInBounds_toArray, List.set_cons_zero, List.set_cons_succ]
    refine wpAnyH_take (i := 5) (v := .int .i64 (i : Int)) rfl (by kernel_rfl) (by kernel_rfl) (by kernel_rfl) (fun _ _ _ h => h) (Or.inl ⟨by first | kernel_rfl | rfl, ?yp5⟩) hHeld ?rp5
    case yp5 => (intro W hSW; have cq := OPC.out W hSW.1; go_simp; (try with_reducible rfl))
    change wpAnyH _ _ _ _ _ _ _ (Act.put _ (some 222) _) _
    simp only [Act.put, List.setIfInBounds_toArray, List.set_cons_zero, List.set_cons_succ]
    refine wpAnyH_take (i := 6) (v := ?vp6) rfl (by kernel_rfl) (by kernel_rfl) (by kernel_rfl) (fun _ _ _ h => h) (Or.inl ⟨by first | kernel_rfl | rfl, ?yp6⟩) hHeld ?rp6
    case yp6 => (intro W hSW; (try dsimp only at hSW); go_simp; (try with_reducible rfl))
    change wpAnyH _ _ _ _ _ _ _ (Act.put _ (some 223) _) _
    simp only [Act.put, List.setIfInBounds_toArray, List.set_cons_zero, List.set_cons_succ]
    refine wpAnyH_take (i := 7) (v := ?vp7) rfl (by kernel_rfl) (by kernel_rfl) (by kernel_rfl) (fun _ _ _ h => h) (Or.inl ⟨by first | kernel_rfl | rfl, ?yp7⟩) hHeld ?rp7
    case yp7 => (intro W hSW; (try dsimp only at hSW); go_simp; (try with_reducible rfl))
    change wpAnyH _ _ _ _ _ _ _ (Act.put _ (some 224) _) _
    simp only [Act.put, List.setIfInBounds_toArray, List.set_cons_zero, List.set_cons_succ]
    refine wpAnyH_take (i := 8) (v := ?vp8) rfl (by kernel_rfl) (by kernel_rfl) (by kernel_rfl) (fun _ _ _ h => h) (Or.inl ⟨by first | kernel_rfl | rfl, ?yp8⟩) hHeld ?rp8
    case yp8 => (intro W hSW; (try dsimp only at hSW); go_simp; (try with_reducible rfl))
    change wpAnyH _ _ _ _ _ _ _ (Act.put _ (some 225) _) _
    simp only [Act.put, List.setIfInBounds_toArray, List.set_cons_zero, List.set_cons_succ]
    refine wpAnyH_take (i := 9) (v := ?vp9) rfl (by kernel_rfl) (by kernel_rfl) (by kernel_rfl) (fun _ _ _ h => h) (Or.inl ⟨by first | kernel_rfl | rfl, ?yp9⟩) hHeld ?rp9
    case yp9 => (intro W hSW; (try dsimp only at hSW); go_simp; (try with_reducible rfl))
    change wpAnyH _ _ _ _ _ _ _ (Act.put _ (some 226) _) _
    simp only [Act.put, List.setIfInBounds_toArray, List.set_cons_zero, List.set_cons_succ]
    refine wpAnyH_take (i := 10) (v := ?vp10) rfl (by kernel_rfl) (by kernel_rfl) (by kernel_rfl) (fun _ _ _ h => h) (Or.inl ⟨by first | kernel_rfl | rfl, ?yp10⟩) hHeld ?rp10
    case yp10 => (intro W hSW; (try dsimp only at hSW); go_simp; (try with_reducible rfl))
    change wpAnyH _ _ _ _ _ _ _ (Act.put _ (some 227) _) _
    simp only [Act.put, List.setIfInBounds_toArray, List.set_cons_zero, List.set_cons_succ]
    refine wpAnyH_take (i := 11) (v := ?vp11) rfl (by kernel_rfl) (by kernel_rfl) (by kernel_rfl) (fun _ _ _ h => h) (Or.inl ⟨by first | kernel_rfl | rfl, ?yp11⟩) hHeld ?rp11
    case yp11 => (intro W hSW; (try dsimp only at hSW); go_simp; (try with_reducible rfl))
    change wpAnyH _ _ _ _ _ _ _ (Act.put _ (some 228) _) _
    simp only [Act.put, List.setIfInBounds_toArray, List.set_cons_zero, List.set_cons_succ]
    refine wpAnyH_take (i := 12) (v := .bool false) rfl (by kernel_rfl) (by kernel_rfl) (by kernel_rfl) (fun _ _ _ h => h) (Or.inl ⟨by first | kernel_rfl | rfl, ?yp12⟩) hHeld ?rp12
    case yp12 => (intro W hSW; (try dsimp only at hSW); go_simp; (try with_reducible rfl))
    change wpAnyH _ _ _ _ _ _ _ (Act.put _ (some 229) _) _
    simp only [Act.put, List.setIfInBounds_toArray, List.set_cons_zero, List.set_cons_succ]
    refine wpAnyH_take (i := 13) (v := .bool false) rfl (by kernel_rfl) (by kernel_rfl) (by kernel_rfl) (fun _ _ _ h => h) (Or.inl ⟨by first | kernel_rfl | rfl, ?yp13⟩) hHeld ?rp13
    case yp13 => (intro W hSW; (try dsimp only at hSW); go_simp; (try with_reducible rfl))
    change wpAnyH _ _ _ _ _ _ _ (Act.put _ (some 230) _) _
    simp only [Act.put, List.setIfInBounds_toArray, List.set_cons_zero, List.set_cons_succ]
    refine wpAnyH_done (by kernel_rfl) ?_ _
    go_wp2
    refine wp_region_held_drew (S := fun W => (W.heap[B]? = some (.cells (opA 5 id (i : Int) lg fl) 57 (0, 0))) ∧ W.cell? ⟨zb, 16, none⟩ = some (.slice (some ⟨sb, so, none⟩) pl pc) ∧ (loadVar 42 ⟨sb, so + i * 7, none⟩).run Tryz.prog W = .ok (.agg ri) W) (by kernel_rfl) (⟨Q1.out.drew.o, Q1.out.drew.s.z.cells.2.2.1, HLD.out _ rfl⟩) (fun hHeld => ?_)
    refine wpAnyH_take (i := 0) (v := ?vx0) rfl (by kernel_rfl) (by kernel_rfl) (by kernel_rfl) (fun _ _ _ h => h) (Or.inl ⟨by first | kernel_rfl | rfl, ?yx0⟩) hHeld ?rx0
    case yx0 => (intro W hSW; (try dsimp only at hSW); go_simp; (try with_reducible rfl))
    change wpAnyH _ _ _ _ _ _ _ (Act.put _ (some 239) _) _
    simp only [Act.put, List.setIfInBounds_toArray, List.set_cons_zero, List.set_cons_succ]
    refine wpAnyH_take (i := 1) (v := ?vx1) rfl (by kernel_rfl) (by kernel_rfl) (by kernel_rfl) (fun _ _ _ h => h) (Or.inl ⟨by first | kernel_rfl | rfl, ?yx1⟩) hHeld ?rx1
    case yx1 => (intro W hSW; (try dsimp only at hSW); go_simp; (try with_reducible rfl))
    change wpAnyH _ _ _ _ _ _ _ (Act.put _ (some 240) _) _
    simp only [Act.put, List.setIfInBounds_toArray, List.set_cons_zero, List.set_cons_succ]
    refine wpAnyH_take (i := 2) (v := ?vx2) rfl (by kernel_rfl) (by kernel_rfl) (by kernel_rfl) (fun _ _ _ h => h) (Or.inl ⟨by first | kernel_rfl | rfl, ?yx2⟩) hHeld ?rx2
    case yx2 => (intro W hSW; (try dsimp only at hSW); go_simp; (try with_reducible rfl))
    change wpAnyH _ _ _ _ _ _ _ (Act.put _ (some 241) _) _
    simp only [Act.put, List.setIfInBounds_toArray, List.set_cons_zero, List.set_cons_succ]
    refine wpAnyH_take (i := 3) (v := ?vx3) rfl (by kernel_rfl) (by kernel_rfl) (by kernel_rfl) (fun _ _ _ h => h) (Or.inl ⟨by first | kernel_rfl | rfl, ?yx3⟩) hHeld ?rx3
    case yx3 => (intro W hSW; (try dsimp only at hSW); go_simp; (try with_reducible rfl))
    change wpAnyH _ _ _ _ _ _ _ (Act.put _ (some 242) _) _
    simp only [Act.put, List.setIfInBounds_toArray, List.set_cons_zero, List.set_cons_succ]
    refine wpAnyH_take (i := 4) (v := ?vx4) rfl (by kernel_rfl) (by kernel_rfl) (by kernel_rfl) (fun _ _ _ h => h) (Or.inl ⟨by first | kernel_rfl | rfl, ?yx4⟩) hHeld ?rx4
    case yx4 => (intro W hSW; (try dsimp only at hSW); go_simp; (try with_reducible rfl))
    change wpAnyH _ _ _ _ _ _ _ (Act.put _ (some 243) _) _
    simp only [Act.put, List.setIfInBounds_toArray, List.set_cons_zero, List.set_cons_succ]
    refine wpAnyH_take (i := 5) (v := ?vx5) rfl (by kernel_rfl) (by kernel_rfl) (by kernel_rfl) (fun _ _ _ h => h) (Or.inl ⟨by first | kernel_rfl | rfl, ?yx5⟩) hHeld ?rx5
    case yx5 => (intro W hSW; (try dsimp only at hSW); go_simp; (try with_reducible rfl))
    change wpAnyH _ _ _ _ _ _ _ (Act.put _ (some 244) _) _
    simp only [Act.put, List.setIfInBounds_toArray, List.set_cons_zero, List.set_cons_succ]
    refine wpAnyH_take (i := 6) (v := ?vx6) rfl (by kernel_rfl) (by kernel_rfl) (by kernel_rfl) (fun _ _ _ h => h) (Or.inl ⟨by first | kernel_rfl | rfl, ?yx6⟩) hHeld ?rx6
    case yx6 => (intro W hSW; (try dsimp only at hSW); go_simp; (try with_reducible rfl))
    change wpAnyH _ _ _ _ _ _ _ (Act.put _ (some 245) _) _
    simp only [Act.put, List.setIfInBounds_toArray, List.set_cons_zero, List.set_cons_succ]
    refine wpAnyH_take (i := 7) (v := .int .i64 (i : Int)) rfl (by kernel_rfl) (by kernel_rfl) (by kernel_rfl) (fun _ _ _ h => h) (Or.inl ⟨by first | kernel_rfl | rfl, ?yx7⟩) hHeld ?rx7
    case yx7 => (intro W hSW; have cq := OPC.out W hSW.1; go_simp; (try with_reducible rfl))
    change wpAnyH _ _ _ _ _ _ _ (Act.put _ (some 246) _) _
    simp only [Act.put, List.setIfInBounds_toArray, List.set_cons_zero, List.set_cons_succ]
    refine wpAnyH_take (i := 8) (v := ?vx8) rfl (by kernel_rfl) (by kernel_rfl) (by kernel_rfl) (fun _ _ _ h => h) (Or.inl ⟨by first | kernel_rfl | rfl, ?yx8⟩) hHeld ?rx8
    case yx8 => (intro W hSW; (try dsimp only at hSW); go_simp; (try with_reducible rfl))
    change wpAnyH _ _ _ _ _ _ _ (Act.put _ (some 247) _) _
    simp only [Act.put, List.setIfInBounds_toArray, List.set_cons_zero, List.set_cons_succ]
    refine wpAnyH_take (i := 9) (v := .agg ri) rfl (by kernel_rfl) (by kernel_rfl) (by kernel_rfl) (fun _ _ _ h => h) (Or.inl ⟨by first | kernel_rfl | rfl, ?yx9⟩) hHeld ?rx9
    case yx9 => (intro W hSW; refine yields_at _ _ rfl rfl (hSW.2.2))
    change wpAnyH _ _ _ _ _ _ _ (Act.put _ (some 248) _) _
    simp only [Act.put, List.setIfInBounds_toArray, List.set_cons_zero, List.set_cons_succ]
    refine wpAnyH_take (i := 10) (v := ?vx10) rfl (by kernel_rfl) (by kernel_rfl) (by kernel_rfl) (fun _ _ _ h => h) (Or.inl ⟨by first | kernel_rfl | rfl, ?yx10⟩) hHeld ?rx10
    case yx10 => (intro W hSW; (try dsimp only at hSW); go_simp; (try with_reducible rfl))
    change wpAnyH _ _ _ _ _ _ _ (Act.put _ (some 249) _) _
    simp only [Act.put, List.setIfInBounds_toArray, List.set_cons_zero, List.set_cons_succ]
    refine wpAnyH_take (i := 11) (v := ?vx11) rfl (by kernel_rfl) (by kernel_rfl) (by kernel_rfl) (fun _ _ _ h => h) (Or.inl ⟨by first | kernel_rfl | rfl, ?yx11⟩) hHeld ?rx11
    case yx11 => (intro W hSW; (try dsimp only at hSW); go_simp; (try with_reducible rfl))
    change wpAnyH _ _ _ _ _ _ _ (Act.put _ (some 250) _) _
    simp only [Act.put, List.setIfInBounds_toArray, List.set_cons_zero, List.set_cons_succ]
    refine wpAnyH_take (i := 12) (v := ?vx12) rfl (by kernel_rfl) (by kernel_rfl) (by kernel_rfl) (fun _ _ _ h => h) (Or.inl ⟨by first | kernel_rfl | rfl, ?yx12⟩) hHeld ?rx12
    case yx12 => (intro W hSW; (try dsimp only at hSW); go_simp; (try with_reducible rfl))
    change wpAnyH _ _ _ _ _ _ _ (Act.put _ (some 251) _) _
    simp only [Act.put, List.setIfInBounds_toArray, List.set_cons_zero, List.set_cons_succ]
    refine wpAnyH_ready (rs := [13]) (by kernel_rfl) (by simp) ?_
    refine AllReadyH.cons rfl (fun K hK => ?_) AllReadyH.nil
    go_simp
    refine hK.out _ _ (HS3.out) (fun hHeld => ?_)
    clear hK K
    refine wpAnyH_done (by kernel_rfl) ?_ _
    go_wp2
    refine wp_region_held_drew (S := fun W => W.heap[B]? = some (.cells (opA 5 id (i : Int) lg fl) 57 (0, 0))) (by kernel_rfl) (Q3.out.drew.o) (fun hHeld => ?_)
    refine wpAnyH_take (i := 0) (v := ?vy0) rfl (by kernel_rfl) (by kernel_rfl) (by kernel_rfl) (fun _ _ _ h => h) (Or.inl ⟨by first | kernel_rfl | rfl, ?yy0⟩) hHeld ?ry0
    case yy0 => (intro W hSW; (try dsimp only at hSW); go_simp; (try with_reducible rfl))
    change wpAnyH _ _ _ _ _ _ _ (Act.put _ (some 252) _) _
    simp only [Act.put, List.setIfInBounds_toArray, List.set_cons_zero, List.set_cons_succ]
    refine wpAnyH_take (i := 1) (v := ?vy1) rfl (by kernel_rfl) (by kernel_rfl) (by kernel_rfl) (fun _ _ _ h => h) (Or.inl ⟨by first | kernel_rfl | rfl, ?yy1⟩) hHeld ?ry1
    case yy1 => (intro W hSW; (try dsimp only at hSW); go_simp; (try with_reducible rfl))
    change wpAnyH _ _ _ _ _ _ _ (Act.put _ (some 253) _) _
    simp only [Act.put, List.setIfInBounds_toArray, List.set_cons_zero, List.set_cons_succ]
    refine wpAnyH_take (i := 2) (v := ?vy2) rfl (by kernel_rfl) (by kernel_rfl) (by kernel_rfl) (fun _ _ _ h => h) (Or.inl ⟨by first | kernel_rfl | rfl, ?yy2⟩) hHeld ?ry2
    case yy2 => (intro W hSW; (try dsimp only at hSW); go_simp; (try with_reducible rfl))
    change wpAnyH _ _ _ _ _ _ _ (Act.put _ (some 254) _) _
    simp only [Act.put, List.setIfInBounds_toArray, List.set_cons_zero, List.set_cons_succ]
    refine wpAnyH_take (i := 3) (v := ?vy3) rfl (by kernel_rfl) (by kernel_rfl) (by kernel_rfl) (fun _ _ _ h => h) (Or.inl ⟨by first | kernel_rfl | rfl, ?yy3⟩) hHeld ?ry3
    case yy3 => (intro W hSW; (try dsimp only at hSW); go_simp; (try with_reducible rfl))
    change wpAnyH _ _ _ _ _ _ _ (Act.put _ (some 255) _) _
    simp only [Act.put, List.setIfInBounds_toArray, List.set_cons_zero, List.set_cons_succ]
    refine wpAnyH_take (i := 4) (v := ?vy4) rfl (by kernel_rfl) (by kernel_rfl) (by kernel_rfl) (fun _ _ _ h => h) (Or.inl ⟨by first | kernel_rfl | rfl, ?yy4⟩) hHeld ?ry4
    case yy4 => (intro W hSW; (try dsimp only at hSW); go_simp; (try with_reducible rfl))
    change wpAnyH _ _ _ _ _ _ _ (Act.put _ (some 256) _) _
    simp only [Act.put, List.setIfInBounds_toArray, List.set_cons_zero, List.set_cons_succ]
    refine wpAnyH_take (i := 6) (v := ?vy6) rfl (by kernel_rfl) (by kernel_rfl) (by kernel_rfl) (fun _ _ _ h => h) (Or.inl ⟨by first | kernel_rfl | rfl, ?yy6⟩) hHeld ?ry6
    case yy6 => (intro W hSW; (try dsimp only at hSW); go_simp; (try with_reducible rfl))
    change wpAnyH _ _ _ _ _ _ _ (Act.put _ (some 258) _) _
    simp only [Act.put, List.setIfInBounds_toArray, List.set_cons_zero, List.set_cons_succ]
    refine wpAnyH_take (i := 7) (v := .int .i64 (i : Int)) rfl (by kernel_rfl) (by kernel_rfl) (by kernel_rfl) (fun _ _ _ h => h) (Or.inl ⟨by first | kernel_rfl | rfl, ?yy7⟩) hHeld ?ry7
    case yy7 => (intro W hSW; have cq := OPC.out W hSW; go_simp; (try with_reducible rfl))
    change wpAnyH _ _ _ _ _ _ _ (Act.put _ (some 259) _) _
    simp only [Act.put, List.setIfInBounds_toArray, List.set_cons_zero, List.set_cons_succ]
    refine wpAnyH_ready (rs := [5]) (by kernel_rfl) (by simp) ?_
    refine AllReadyH.cons rfl (fun K hK => ?_) AllReadyH.nil
    go_simp
    refine hK.out _ _ (hHeld) (fun hHeld => ?_)
    clear hK K
    try simp only [Act.put, List.setIfInBounds_toArray, List.set_cons_zero, List.set_cons_succ]
    refine wpAnyH_take (i := 8) (v := ?vy8) rfl (by kernel_rfl) (by kernel_rfl) (by kernel_rfl) (fun _ _ _ h => h) (Or.inl ⟨by first | kernel_rfl | rfl, ?yy8⟩) hHeld ?ry8
    case yy8 => (intro W hSW; (try dsimp only at hSW); go_simp; (try with_reducible rfl))
    change wpAnyH _ _ _ _ _ _ _ (Act.put _ (some 260) _) _
    simp only [Act.put, List.setIfInBounds_toArray, List.set_cons_zero, List.set_cons_succ]
    refine wpAnyH_take (i := 9) (v := ?vy9) rfl (by kernel_rfl) (by kernel_rfl) (by kernel_rfl) (fun _ _ _ h => h) (Or.inl ⟨by first | kernel_rfl | rfl, ?yy9⟩) hHeld ?ry9
    case yy9 => (intro W hSW; (try dsimp only at hSW); go_simp; (try with_reducible rfl))
    change wpAnyH _ _ _ _ _ _ _ (Act.put _ (some 261) _) _
    simp only [Act.put, List.setIfInBounds_toArray, List.set_cons_zero, List.set_cons_succ]
    refine wpAnyH_take (i := 10) (v := ?vy10) rfl (by kernel_rfl) (by kernel_rfl) (by kernel_rfl) (fun _ _ _ h => h) (Or.inl ⟨by first | kernel_rfl | rfl, ?yy10⟩) hHeld ?ry10
    case yy10 => (intro W hSW; (try dsimp only at hSW); go_simp; (try with_reducible rfl))
    change wpAnyH _ _ _ _ _ _ _ (Act.put _ (some 262) _) _
    simp only [Act.put, List.setIfInBounds_toArray, List.set_cons_zero, List.set_cons_succ]
    refine wpAnyH_take (i := 11) (v := ?vy11) rfl (by kernel_rfl) (by kernel_rfl) (by kernel_rfl) (fun _ _ _ h => h) (Or.inl ⟨by first | kernel_rfl | rfl, ?yy11⟩) hHeld ?ry11
    case yy11 => (intro W hSW; (try dsimp only at hSW); go_simp; (try with_reducible rfl))
    change wpAnyH _ _ _ _ _ _ _ (Act.put _ (some 263) _) _
    simp only [Act.put, List.setIfInBounds_toArray, List.set_cons_zero, List.set_cons_succ]
    refine wpAnyH_ready (rs := [12]) (by kernel_rfl) (by simp) ?_
    refine AllReadyH.cons rfl (fun K hK => ?_) AllReadyH.nil
    go_simp
    refine hK.out _ _ (Q4.out.o) (fun hHeld => ?_)
    clear hK K
    refine wpAnyH_done (by kernel_rfl) ?_ _
    go_wp2
    refine wp_region_held_drew (S := fun W => (W.heap[B]? = some (.cells (opA 5 id (i : Int) lg fl) 57 (0, 0))) ∧ W.cell? ⟨zb, 1, none⟩ = some (.pointer (some ⟨pb, 0, none⟩))) (by kernel_rfl) (⟨Q4.out.drew.o, Q4.out.drew.pp⟩) (fun hHeld => ?_)
    refine wpAnyH_take (i := 0) (v := ?vq0) rfl (by kernel_rfl) (by kernel_rfl) (by kernel_rfl) (fun _ _ _ h => h) (Or.inl ⟨by first | kernel_rfl | rfl, ?yq0⟩) hHeld ?rq0
    case yq0 => (intro W hSW; (try dsimp only at hSW); go_simp; (try with_reducible rfl))
    change wpAnyH _ _ _ _ _ _ _ (Act.put _ (some 264) _) _
    simp only [Act.put, List.setIfInBounds_toArray, List.set_cons_zero, List.set_cons_succ]
    refine wpAnyH_take (i := 1) (v := ?vq1) rfl (by kernel_rfl) (by kernel_rfl) (by kernel_rfl) (fun _ _ _ h => h) (Or.inl ⟨by first | kernel_rfl | rfl, ?yq1⟩) hHeld ?rq1
    case yq1 => (intro W hSW; (try dsimp only at hSW); go_simp; (try with_reducible rfl))
    change wpAnyH _ _ _ _ _ _ _ (Act.put _ (some 265) _) _
    simp only [Act.put, List.setIfInBounds_toArray, List.set_cons_zero, List.set_cons_succ]
    refine wpAnyH_take (i := 2) (v := ?vq2) rfl (by kernel_rfl) (by kernel_rfl) (by kernel_rfl) (fun _ _ _ h => h) (Or.inl ⟨by first | kernel_rfl | rfl, ?yq2⟩) hHeld ?rq2
    case yq2 => (intro W hSW; (try dsimp only at hSW); go_simp; (try with_reducible rfl))
    change wpAnyH _ _ _ _ _ _ _ (Act.put _ (some 266) _) _
    simp only [Act.put, List.setIfInBounds_toArray, List.set_cons_zero, List.set_cons_succ]
    refine wpAnyH_take (i := 3) (v := ?vq3) rfl (by kernel_rfl) (by kernel_rfl) (by kernel_rfl) (fun _ _ _ h => h) (Or.inl ⟨by first | kernel_rfl | rfl, ?yq3⟩) hHeld ?rq3
    case yq3 => (intro W hSW; (try dsimp only at hSW); go_simp; (try with_reducible rfl))
    change wpAnyH _ _ _ _ _ _ _ (Act.put _ (some 267) _) _
    simp only [Act.put, List.setIfInBounds_toArray, List.set_cons_zero, List.set_cons_succ]
    refine wpAnyH_take (i := 4) (v := ?vq4) rfl (by kernel_rfl) (by kernel_rfl) (by kernel_rfl) (fun _ _ _ h => h) (Or.inl ⟨by first | kernel_rfl | rfl, ?yq4⟩) hHeld ?rq4
    case yq4 => (intro W hSW; (try dsimp only at hSW); go_simp; (try with_reducible rfl))
    change wpAnyH _ _ _ _ _ _ _ (Act.put _ (some 268) _) _
    simp only [Act.put, List.setIfInBounds_toArray, List.set_cons_zero, List.set_cons_succ]
    refine wpAnyH_take (i := 5) (v := .int .i64 (i : Int)) rfl (by kernel_rfl) (by kernel_rfl) (by kernel_rfl) (fun _ _ _ h => h) (Or.inl ⟨by first | kernel_rfl | rfl, ?yq5⟩) hHeld ?rq5
    case yq5 => (intro W hSW; have cq := OPC.out W hSW.1; go_simp; (try with_reducible rfl))
    change wpAnyH _ _ _ _ _ _ _ (Act.put _ (some 269) _) _
    simp only [Act.put, List.setIfInBounds_toArray, List.set_cons_zero, List.set_cons_succ]
    have HPC := pback_b Q4.out.drew.s.p (i : Int)
    refine wpAnyH_ready (rs := [6]) (by kernel_rfl) (by simp) ?_
    refine AllReadyH.cons rfl (fun K hK => ?_) AllReadyH.nil
    go_simp
    refine (HPC).mono ?_
    rintro e V5 ⟨ec, X', rfl, hT, hX⟩
    refine hK.out _ _ ((fun ⟨_, _, x⟩ => ⟨x.o, x.pp⟩) (Q4.out.drew.pto hT)) (fun hHeld => ?_)
    clear hK K
    try simp only [Act.put, List.setIfInBounds_toArray, List.set_cons_zero, List.set_cons_succ]
    have HE : Hid (∀ b, StepTo h0 F w g D pb jb n X zb jz k 5 (.returned (.bool b)) V5) := fun b => (fun ⟨_, _, x⟩ => ⟨b, D, X', pb, rfl, x.done, hX.2.2 k HI.out.1, fun _ => ⟨rfl, hX.1, hX.2.1⟩, fun h => by omega, fun _ => rfl⟩) (Q4.out.drew.pto hT)
    clear hT HPC hX
    refine wpAnyH_take (i := 7) (v := ?vq7) rfl (by kernel_rfl) (by kernel_rfl) (by kernel_rfl) (fun _ _ _ h => h) (Or.inl ⟨by first | kernel_rfl | rfl, ?yq7⟩) hHeld ?rq7
    case yq7 => (intro W hSW; (try dsimp only at hSW); go_simp; (try with_reducible rfl))
    change wpAnyH _ _ _ _ _ _ _ (Act.put _ (some 5) _) _
    simp only [Act.put, List.setIfInBounds_toArray, List.set_cons_zero, List.set_cons_succ]
    refine wpAnyH_done (by kernel_rfl) ?_ _
    by_cases ha : (ec : Int) = 0
    · have hab : ((ec : Int) == 0) = true := by rw [ha]; rfl
      go_wp2
      go_ret
      exact HE.out _
    · have hab : ((ec : Int) == 0) = false := by simpa using ha
      go_wp2
      go_ret
      exact HE.out _
set_option maxRecDepth 100000 in
set_option maxHeartbeats 16000000 in
theorem step7 (h : Ps h0 F w S g D pb jb n X zb jz gs ns pv ov) (hi : Inv n k D X) (hk9 : k ≤ 1000) (id kx lg : Int) (fl : Nat) : Calls Tryz.prog 16 #[.pointer (some ⟨zb, 0, none⟩), .agg #[.int .i64 7, .int .i64 id, .int .i64 kx, .int .i64 lg, .int .u8 (fl : Int)]] w fun e w' => StepTo h0 F w g D pb jb n X zb jz k 7 e w' := by
  obtain ⟨hok, hn2, hn12⟩ := h.nn
  have q0 := Sq.start h (opA 7 id kx lg fl)
  have HI : Hid (Inv n k D X ∧ X.Ok n) := ⟨hi, hok⟩
  obtain ⟨B, hB⟩ : ∃ B, w.heap.size = B := ⟨_, rfl⟩
  obtain ⟨W0, hW0⟩ : ∃ W0, w.alloc (.cells (opA 7 id kx lg fl) 57) = W0 := ⟨_, rfl⟩
  obtain ⟨F0, hF0⟩ : ∃ F0, mor F w W0 = F0 := ⟨_, rfl⟩
  rw [hW0, hF0, hB] at q0
  clear hF0 hi hok
  have hW0 : w.alloc (.cells #[.int .i64 7, .int .i64 id, .int .i64 kx, .int .i64 lg, .int .u8 (fl : Int)] 57) = W0 := hW0
  have ck : W0.cell? ⟨B, 0, none⟩ = some (.int .i64 7) := q0.at 0 _ rfl
  have hone : ∀ u ∈ (gs ++ gs ++ #[.slice none 0 0] : Array Value).toList, u.oneCell' = true := fun u hu => by
    obtain ⟨rs, e, _, ho⟩ := q0.s.z.g.agg
    cases e
    simp only [Array.toList_append, List.mem_append] at hu
    rcases hu with (hu | hu) | hu
    · exact ho u hu
    · exact ho u hu
    · obtain rfl := List.mem_singleton.1 hu; rfl
  have hst := q0.drew.s.z.store_x (pv' := .slice none 0 0) q0.s.z.gz q0.s.z.gz hone
  have q1 := q0.drew.with (q0.drew.s.allx (pv' := .slice none 0 0) q0.s.z.gz q0.s.z.gz q0.drew.s.z.g q0.drew.s.z.g (Pts.none _ _ _))
  have hbl := built_ds q0.s.z.g
  obtain ⟨row, hrow⟩ : ∃ row, gs ++ gs ++ #[.slice none 0 0] = row := ⟨_, rfl⟩
  rw [hrow] at hst hbl
  have hrowz : row.size = 15 := by rw [← hrow]; simp [q0.s.z.gz]
  obtain ⟨V1, hV1⟩ : ∃ V1, W0.drew.setRow zb (prA jz pb gs gs (.slice none 0 0) ov) = V1 := ⟨_, rfl⟩
  rw [hV1] at hst q1
  have hwr := HI.out.1.w
  have HAB := pabort_any q1.s.p HI.out.1.g.asks.len HI.out.1.g.up (by omega)
  have c1 := q1.pp
  have ckB : V1.cell? ⟨B, 0, none⟩ = some (.int .i64 7) := q1.at 0 _ rfl
  have Q0 : Hid (Sq h0 F w F0 W0 S g D pb jb n X zb jz gs ns pv ov B (opA 7 id kx lg fl)) := q0
  have Q1 : Hid (Sq h0 F w F0 V1 S g D pb jb n X zb jz gs gs (.slice none 0 0) ov B (opA 7 id kx lg fl)) := q1
  clear q0 q1 h hone hrow hV1 hwr
  go_enter Tryz.func16, Tryz.ntmps16
  go_wp2
  refine wp_region_held_drew (S := fun W => (loadVar 42 ⟨zb, 2, none⟩).run Tryz.prog W = .ok (.agg gs) W) (by kernel_rfl) (Q0.out.drew.s.z.lgood) (fun hHeld => ?_)
  refine wpAnyH_take (i := 0) (v := ?vz0) rfl (by kernel_rfl) (by kernel_rfl) (by kernel_rfl) (fun _ _ _ h => h) (Or.inl ⟨by first | kernel_rfl | rfl, ?yz0⟩) hHeld ?rz0
  case yz0 => (intro W hSW; (try dsimp only at hSW); go_simp; (try with_reducible rfl))
  change wpAnyH _ _ _ _ _ _ _ (Act.put _ (some 283) _) _
  simp only [Act.put, List.setIfInBounds_toArray, List.set_cons_zero, List.set_cons_succ]
  refine wpAnyH_take (i := 1) (v := ?vz1) rfl (by kernel_rfl) (by kernel_rfl) (by kernel_rfl) (fun _ _ _ h => h) (Or.inl ⟨by first | kernel_rfl | rfl, ?yz1⟩) hHeld ?rz1
  case yz1 => (intro W hSW; (try dsimp only at hSW); go_simp; (try with_reducible rfl))
  change wpAnyH _ _ _ _ _ _ _ (Act.put _ (some 284) _) _
  simp only [Act.put, List.setIfInBounds_toArray, List.set_cons_zero, List.set_cons_succ]
  refine wpAnyH_take (i := 2) (v := ?vz2) rfl (by kernel_rfl) (by kernel_rfl) (by kernel_rfl) (fun _ _ _ h => h) (Or.inl ⟨by first | kernel_rfl | rfl, ?yz2⟩) hHeld ?rz2
  case yz2 => (intro W hSW; (try dsimp only at hSW); go_simp; (try with_reducible rfl))
  change wpAnyH _ _ _ _ _ _ _ (Act.put _ (some 285) _) _
  simp only [Act.put, List.setIfInBounds_toArray, List.set_cons_zero, List.set_cons_succ]
  refine wpAnyH_take (i := 3) (v := ?vz3) rfl (by kernel_rfl) (by kernel_rfl) (by kernel_rfl) (fun _ _ _ h => h) (Or.inl ⟨by first | kernel_rfl | rfl, ?yz3⟩) hHeld ?rz3
  case yz3 => (intro W hSW; (try dsimp only at hSW); go_simp; (try with_reducible rfl))
  change wpAnyH _ _ _ _ _ _ _ (Act.put _ (some 286) _) _
  simp only [Act.put, List.setIfInBounds_toArray, List.set_cons_zero, List.set_cons_succ]
  refine wpAnyH_take (i := 4) (v := ?vz4) rfl (by kernel_rfl) (by kernel_rfl) (by kernel_rfl) (fun _ _ _ h => h) (Or.inl ⟨by first | kernel_rfl | rfl, ?yz4⟩) hHeld ?rz4
  case yz4 => (intro W hSW; (try dsimp only at hSW); go_simp; (try with_reducible rfl))
  change wpAnyH _ _ _ _ _ _ _ (Act.put _ (some 287) _) _
  simp only [Act.put, List.setIfInBounds_toArray, List.set_cons_zero, List.set_cons_succ]
  refine wpAnyH_take (i := 5) (v := .agg gs) rfl (by kernel_rfl) (by kernel_rfl) (by kernel_rfl) (fun _ _ _ h => h) (Or.inl ⟨by first | kernel_rfl | rfl, ?yz5⟩) hHeld ?rz5
  case yz5 => (intro W hSW; refine yields_at _ _ rfl rfl (hSW))
  change wpAnyH _ _ _ _ _ _ _ (Act.put _ (some 288) _) _
  simp only [Act.put, List.setIfInBounds_toArray, List.set_cons_zero, List.set_cons_succ]
  refine wpAnyH_take (i := 6) (v := ?vz6) rfl (by kernel_rfl) (by kernel_rfl) (by kernel_rfl) (fun _ _ _ h => h) (Or.inl ⟨by first | kernel_rfl | rfl, ?yz6⟩) hHeld ?rz6
  case yz6 => (intro W hSW; (try dsimp only at hSW); go_simp; (try with_reducible rfl))
  change wpAnyH _ _ _ _ _ _ _ (Act.put _ (some 289) _) _
  simp only [Act.put, List.setIfInBounds_toArray, List.set_cons_zero, List.set_cons_succ]
  refine wpAnyH_take (i := 7) (v := ?vz7) rfl (by kernel_rfl) (by kernel_rfl) (by kernel_rfl) (fun _ _ _ h => h) (Or.inl ⟨by first | kernel_rfl | rfl, ?yz7⟩) hHeld ?rz7
  case yz7 => (intro W hSW; (try dsimp only at hSW); go_simp; (try with_reducible rfl))
  change wpAnyH _ _ _ _ _ _ _ (Act.put _ (some 290) _) _
  simp only [Act.put, List.setIfInBounds_toArray, List.set_cons_zero, List.set_cons_succ]
  refine wpAnyH_take (i := 8) (v := ?vz8) rfl (by kernel_rfl) (by kernel_rfl) (by kernel_rfl) (fun _ _ _ h => h) (Or.inl ⟨by first | kernel_rfl | rfl, ?yz8⟩) hHeld ?rz8
  case yz8 => (intro W hSW; (try dsimp only at hSW); go_simp; (try with_reducible rfl))
  change wpAnyH _ _ _ _ _ _ _ (Act.put _ (some 291) _) _
  simp only [Act.put, List.setIfInBounds_toArray, List.set_cons_zero, List.set_cons_succ]
  refine wpAnyH_take (i := 9) (v := ?vz9) rfl (by kernel_rfl) (by kernel_rfl) (by kernel_rfl) (fun _ _ _ h => h) (Or.inl ⟨by first | kernel_rfl | rfl, ?yz9⟩) hHeld ?rz9
  case yz9 => (intro W hSW; (try dsimp only at hSW); go_simp; (try with_reducible rfl))
  change wpAnyH _ _ _ _ _ _ _ (Act.put _ (some 292) _) _
  simp only [Act.put, List.setIfInBounds_toArray, List.set_cons_zero, List.set_cons_succ]
  refine wpAnyH_take (i := 10) (v := .agg gs) rfl (by kernel_rfl) (by kernel_rfl) (by kernel_rfl) (fun _ _ _ h => h) (Or.inl ⟨by first | kernel_rfl | rfl, ?yz10⟩) hHeld ?rz10
  case yz10 => (intro W hSW; refine yields_at _ _ rfl rfl (hSW))
  change wpAnyH _ _ _ _ _ _ _ (Act.put _ (some 293) _) _
  simp only [Act.put, List.setIfInBounds_toArray, List.set_cons_zero, List.set_cons_succ]
  refine wpAnyH_take (i := 11) (v := .agg row) rfl (by kernel_rfl) (by kernel_rfl) (by kernel_rfl) (fun _ _ _ h => h) (Or.inl ⟨by first | kernel_rfl | rfl, ?yz11⟩) hHeld ?rz11
  case yz11 => (intro W hSW; exact yields_pg _ _ rfl _ _ hbl rfl rfl)
  change wpAnyH _ _ _ _ _ _ _ (Act.put _ (some 294) _) _
  simp only [Act.put, List.setIfInBounds_toArray, List.set_cons_zero, List.set_cons_succ]
  refine wpAnyH_take (i := 12) (v := ?vz12) rfl (by kernel_rfl) (by kernel_rfl) (by kernel_rfl) (fun _ _ _ h => h) (Or.inl ⟨by first | kernel_rfl | rfl, ?yz12⟩) hHeld ?rz12
  case yz12 => (intro W hSW; (try dsimp only at hSW); go_simp; (try with_reducible rfl))
  change wpAnyH _ _ _ _ _ _ _ (Act.put _ (some 295) _) _
  simp only [Act.put, List.setIfInBounds_toArray, List.set_cons_zero, List.set_cons_succ]
  refine wpAnyH_take (i := 13) (v := ?vz13) rfl (by kernel_rfl) (by kernel_rfl) (by kernel_rfl) (fun _ _ _ h => h) (Or.inl ⟨by first | kernel_rfl | rfl, ?yz13⟩) hHeld ?rz13
  case yz13 => (intro W hSW; (try dsimp only at hSW); go_simp; (try with_reducible rfl))
  change wpAnyH _ _ _ _ _ _ _ (Act.put _ (some 296) _) _
  simp only [Act.put, List.setIfInBounds_toArray, List.set_cons_zero, List.set_cons_succ]
  refine wpAnyH_ready (rs := [14]) (by kernel_rfl) (by simp) ?_
  refine AllReadyH.cons rfl (fun K hK => ?_) AllReadyH.nil
  go_simp
  refine hK.out _ _ (Q1.out.s.z.lgood) (fun hHeld => ?_)
  clear hK K
  refine wpAnyH_done (by kernel_rfl) ?_ _
  clear hst Q0
  go_wp2_with fail
  refine HAB.mono ?_
  rintro e V2 ⟨rfl, hT⟩
  obtain ⟨F2, S2, q2⟩ := Q1.out.pto hT
  have ckC : V2.cell? ⟨B, 0, none⟩ = some (.int .i64 7) := q2.at 0 _ rfl
  have HE : Hid (∀ b, StepTo h0 F w g D pb jb n X zb jz k 7 (.returned (.bool b)) V2) := fun b => ⟨b, D, X.rst, pb, rfl, q2.done, rst_inv HI.out.1, fun h => by omega, fun h => by omega, fun _ => rfl⟩
  clear hT HAB q2 Q1 ckB
  go_wp2
  go_ret
  exact HE.out _
set_option maxRecDepth 100000 in
set_option maxHeartbeats 16000000 in
theorem step8 (h : Ps h0 F w S g D pb jb n X zb jz gs ns pv ov) (hi : Inv n k D X) (hk9 : k ≤ 1000) (hjz : jz = jb) (id kx lg : Int) (fl : Nat) : Calls Tryz.prog 16 #[.pointer (some ⟨zb, 0, none⟩), .agg #[.int .i64 8, .int .i64 id, .int .i64 kx, .int .i64 lg, .int .u8 (fl : Int)]] w fun e w' => StepTo h0 F w g D pb jb n X zb jz k 8 e w' := by
  obtain ⟨hok, hn2, hn12⟩ := h.nn
  have q0 := Sq.start h (opA 8 id kx lg fl)
  have HI : Hid (Inv n k D X ∧ X.Ok n) := ⟨hi, hok⟩
  obtain ⟨B, hB⟩ : ∃ B, w.heap.size = B := ⟨_, rfl⟩
  obtain ⟨W0, hW0⟩ : ∃ W0, w.alloc (.cells (opA 8 id kx lg fl) 57) = W0 := ⟨_, rfl⟩
  obtain ⟨F0, hF0⟩ : ∃ F0, mor F w W0 = F0 := ⟨_, rfl⟩
  rw [hW0, hF0, hB] at q0
  clear hF0 hi hok
  have hW0 : w.alloc (.cells #[.int .i64 8, .int .i64 id, .int .i64 kx, .int .i64 lg, .int .u8 (fl : Int)] 57) = W0 := hW0
  have ck : W0.cell? ⟨B, 0, none⟩ = some (.int .i64 8) := q0.at 0 _ rfl
  have hone : ∀ u ∈ (gs ++ gs ++ #[.slice none 0 0] : Array Value).toList, u.oneCell' = true := fun u hu => by
    obtain ⟨rs, e, _, ho⟩ := q0.s.z.g.agg
    cases e
    simp only [Array.toList_append, List.mem_append] at hu
    rcases hu with (hu | hu) | hu
    · exact ho u hu
    · exact ho u hu
    · obtain rfl := List.mem_singleton.1 hu; rfl
  have hst := q0.drew.s.z.store_x (pv' := .slice none 0 0) q0.s.z.gz q0.s.z.gz hone
  have q1 := q0.drew.with (q0.drew.s.allx (pv' := .slice none 0 0) q0.s.z.gz q0.s.z.gz q0.drew.s.z.g q0.drew.s.z.g (Pts.none _ _ _))
  have hbl := built_ds q0.s.z.g
  obtain ⟨row, hrow⟩ : ∃ row, gs ++ gs ++ #[.slice none 0 0] = row := ⟨_, rfl⟩
  rw [hrow] at hst hbl
  have hrowz : row.size = 15 := by rw [← hrow]; simp [q0.s.z.gz]
  obtain ⟨V1, hV1⟩ : ∃ V1, W0.drew.setRow zb (prA jz pb gs gs (.slice none 0 0) ov) = V1 := ⟨_, rfl⟩
  rw [hV1] at hst q1
  have hwr := HI.out.1.w
  have HAB := pabort_any q1.s.p HI.out.1.g.asks.len HI.out.1.g.up (by omega)
  have c1 := q1.pp
  have ckB : V1.cell? ⟨B, 0, none⟩ = some (.int .i64 8) := q1.at 0 _ rfl
  have Q0 : Hid (Sq h0 F w F0 W0 S g D pb jb n X zb jz gs ns pv ov B (opA 8 id kx lg fl)) := q0
  have Q1 : Hid (Sq h0 F w F0 V1 S g D pb jb n X zb jz gs gs (.slice none 0 0) ov B (opA 8 id kx lg fl)) := q1
  clear q0 q1 h hone hrow hV1 hwr
  go_enter Tryz.func16, Tryz.ntmps16
  go_wp2
  refine wp_region_held_drew (S := fun W => (loadVar 42 ⟨zb, 2, none⟩).run Tryz.prog W = .ok (.agg gs) W) (by kernel_rfl) (Q0.out.drew.s.z.lgood) (fun hHeld => ?_)
  refine wpAnyH_take (i := 0) (v := ?vz0) rfl (by kernel_rfl) (by kernel_rfl) (by kernel_rfl) (fun _ _ _ h => h) (Or.inl ⟨by first | kernel_rfl | rfl, ?yz0⟩) hHeld ?rz0
  case yz0 => (intro W hSW; (try dsimp only at hSW); go_simp; (try with_reducible rfl))
  change wpAnyH _ _ _ _ _ _ _ (Act.put _ (some 283) _) _
  simp only [Act.put, List.setIfInBounds_toArray, List.set_cons_zero, List.set_cons_succ]
  refine wpAnyH_take (i := 1) (v := ?vz1) rfl (by kernel_rfl) (by kernel_rfl) (by kernel_rfl) (fun _ _ _ h => h) (Or.inl ⟨by first | kernel_rfl | rfl, ?yz1⟩) hHeld ?rz1
  case yz1 => (intro W hSW; (try dsimp only at hSW); go_simp; (try with_reducible rfl))
  change wpAnyH _ _ _ _ _ _ _ (Act.put _ (some 284) _) _
  simp only [Act.put, List.setIfInBounds_toArray, List.set_cons_zero, List.set_cons_succ]
  refine wpAnyH_take (i := 2) (v := ?vz2) rfl (by kernel_rfl) (by kernel_rfl) (by kernel_rfl) (fun _ _ _ h => h) (Or.inl ⟨by first | kernel_rfl | rfl, ?yz2⟩) hHeld ?rz2
  case yz2 => (intro W hSW; (try dsimp only at hSW); go_simp; (try with_reducible rfl))
  change wpAnyH _ _ _ _ _ _ _ (Act.put _ (some 285) _) _
  simp only [Act.put, List.setIfInBounds_toArray, List.set_cons_zero, List.set_cons_succ]
  refine wpAnyH_take (i := 3) (v := ?vz3) rfl (by kernel_rfl) (by kernel_rfl) (by kernel_rfl) (fun _ _ _ h => h) (Or.inl ⟨by first | kernel_rfl | rfl, ?yz3⟩) hHeld ?rz3
  case yz3 => (intro W hSW; (try dsimp only at hSW); go_simp; (try with_reducible rfl))
  change wpAnyH _ _ _ _ _ _ _ (Act.put _ (some 286) _) _
  simp only [Act.put, List.setIfInBounds_toArray, List.set_cons_zero, List.set_cons_succ]
  refine wpAnyH_take (i := 4) (v := ?vz4) rfl (by kernel_rfl) (by kernel_rfl) (by kernel_rfl) (fun _ _ _ h => h) (Or.inl ⟨by first | kernel_rfl | rfl, ?yz4⟩) hHeld ?rz4
  case yz4 => (intro W hSW; (try dsimp only at hSW); go_simp; (try with_reducible rfl))
  change wpAnyH _ _ _ _ _ _ _ (Act.put _ (some 287) _) _
  simp only [Act.put, List.setIfInBounds_toArray, List.set_cons_zero, List.set_cons_succ]
  refine wpAnyH_take (i := 5) (v := .agg gs) rfl (by kernel_rfl) (by kernel_rfl) (by kernel_rfl) (fun _ _ _ h => h) (Or.inl ⟨by first | kernel_rfl | rfl, ?yz5⟩) hHeld ?rz5
  case yz5 => (intro W hSW; refine yields_at _ _ rfl rfl (hSW))
  change wpAnyH _ _ _ _ _ _ _ (Act.put _ (some 288) _) _
  simp only [Act.put, List.setIfInBounds_toArray, List.set_cons_zero, List.set_cons_succ]
  refine wpAnyH_take (i := 6) (v := ?vz6) rfl (by kernel_rfl) (by kernel_rfl) (by kernel_rfl) (fun _ _ _ h => h) (Or.inl ⟨by first | kernel_rfl | rfl, ?yz6⟩) hHeld ?rz6
  case yz6 => (intro W hSW; (try dsimp only at hSW); go_simp; (try with_reducible rfl))
  change wpAnyH _ _ _ _ _ _ _ (Act.put _ (some 289) _) _
  simp only [Act.put, List.setIfInBounds_toArray, List.set_cons_zero, List.set_cons_succ]
  refine wpAnyH_take (i := 7) (v := ?vz7) rfl (by kernel_rfl) (by kernel_rfl) (by kernel_rfl) (fun _ _ _ h => h) (Or.inl ⟨by first | kernel_rfl | rfl, ?yz7⟩) hHeld ?rz7
  case yz7 => (intro W hSW; (try dsimp only at hSW); go_simp; (try with_reducible rfl))
  change wpAnyH _ _ _ _ _ _ _ (Act.put _ (some 290) _) _
  simp only [Act.put, List.setIfInBounds_toArray, List.set_cons_zero, List.set_cons_succ]
  refine wpAnyH_take (i := 8) (v := ?vz8) rfl (by kernel_rfl) (by kernel_rfl) (by kernel_rfl) (fun _ _ _ h => h) (Or.inl ⟨by first | kernel_rfl | rfl, ?yz8⟩) hHeld ?rz8
  case yz8 => (intro W hSW; (try dsimp only at hSW); go_simp; (try with_reducible rfl))
  change wpAnyH _ _ _ _ _ _ _ (Act.put _ (some 291) _) _
  simp only [Act.put, List.setIfInBounds_toArray, List.set_cons_zero, List.set_cons_succ]
  refine wpAnyH_take (i := 9) (v := ?vz9) rfl (by kernel_rfl) (by kernel_rfl) (by kernel_rfl) (fun _ _ _ h => h) (Or.inl ⟨by first | kernel_rfl | rfl, ?yz9⟩) hHeld ?rz9
  case yz9 => (intro W hSW; (try dsimp only at hSW); go_simp; (try with_reducible rfl))
  change wpAnyH _ _ _ _ _ _ _ (Act.put _ (some 292) _) _
  simp only [Act.put, List.setIfInBounds_toArray, List.set_cons_zero, List.set_cons_succ]
  refine wpAnyH_take (i := 10) (v := .agg gs) rfl (by kernel_rfl) (by kernel_rfl) (by kernel_rfl) (fun _ _ _ h => h) (Or.inl ⟨by first | kernel_rfl | rfl, ?yz10⟩) hHeld ?rz10
  case yz10 => (intro W hSW; refine yields_at _ _ rfl rfl (hSW))
  change wpAnyH _ _ _ _ _ _ _ (Act.put _ (some 293) _) _
  simp only [Act.put, List.setIfInBounds_toArray, List.set_cons_zero, List.set_cons_succ]
  refine wpAnyH_take (i := 11) (v := .agg row) rfl (by kernel_rfl) (by kernel_rfl) (by kernel_rfl) (fun _ _ _ h => h) (Or.inl ⟨by first | kernel_rfl | rfl, ?yz11⟩) hHeld ?rz11
  case yz11 => (intro W hSW; exact yields_pg _ _ rfl _ _ hbl rfl rfl)
  change wpAnyH _ _ _ _ _ _ _ (Act.put _ (some 294) _) _
  simp only [Act.put, List.setIfInBounds_toArray, List.set_cons_zero, List.set_cons_succ]
  refine wpAnyH_take (i := 12) (v := ?vz12) rfl (by kernel_rfl) (by kernel_rfl) (by kernel_rfl) (fun _ _ _ h => h) (Or.inl ⟨by first | kernel_rfl | rfl, ?yz12⟩) hHeld ?rz12
  case yz12 => (intro W hSW; (try dsimp only at hSW); go_simp; (try with_reducible rfl))
  change wpAnyH _ _ _ _ _ _ _ (Act.put _ (some 295) _) _
  simp only [Act.put, List.setIfInBounds_toArray, List.set_cons_zero, List.set_cons_succ]
  refine wpAnyH_take (i := 13) (v := ?vz13) rfl (by kernel_rfl) (by kernel_rfl) (by kernel_rfl) (fun _ _ _ h => h) (Or.inl ⟨by first | kernel_rfl | rfl, ?yz13⟩) hHeld ?rz13
  case yz13 => (intro W hSW; (try dsimp only at hSW); go_simp; (try with_reducible rfl))
  change wpAnyH _ _ _ _ _ _ _ (Act.put _ (some 296) _) _
  simp only [Act.put, List.setIfInBounds_toArray, List.set_cons_zero, List.set_cons_succ]
  refine wpAnyH_ready (rs := [14]) (by kernel_rfl) (by simp) ?_
  refine AllReadyH.cons rfl (fun K hK => ?_) AllReadyH.nil
  go_simp
  refine hK.out _ _ (Q1.out.s.z.lgood) (fun hHeld => ?_)
  clear hK K
  refine wpAnyH_done (by kernel_rfl) ?_ _
  clear hst Q0
  go_wp2_with fail
  refine HAB.mono ?_
  rintro e V2 ⟨rfl, hT⟩
  obtain ⟨F2, S2, q2⟩ := Q1.out.pto hT
  have ckC : V2.cell? ⟨B, 0, none⟩ = some (.int .i64 8) := q2.at 0 _ rfl
  obtain ⟨_, kb, kc, mb, sa, sc, ss, hPl⟩ := q2.s.p
  have HPO := popen_any (h0 := h0) (F := F2) hPl.disk hPl.jat HI.out.1.g.asks hn2 hn12 hPl.sj hPl.h0S hPl.h0w (fun x hx => ⟨(hPl.fF x hx).1, (hPl.fF x hx).2.2.1, (hPl.fF x hx).2.2.2⟩)
  rw [HI.out.1.h] at HPO
  have c0 := q2.s.z.cells.1
  rw [hjz] at c0
  have Q2 : Hid (Sq h0 F w F2 V2 S2 g D pb jb n X.rst zb jz gs gs (.slice none 0 0) ov B (opA 8 id kx lg fl)) := q2
  clear hT HAB q2 Q1 ckB hPl
  go_wp2_with fail
  refine HPO.mono ?_
  rintro e V3 ⟨pb2, rfl, hpb2, hP3, hb3⟩
  have hf3 : Fr F2 V2 F2 V3 := ⟨hb3.size, fun _ h => h, fun x _ hl => hb3.block x hl⟩
  have hz3 := Q2.out.s.z.fr hf3
  have c13 := hz3.cells.2.1
  have f13 := hz3.fro 1
  obtain ⟨V4, hV4⟩ : ∃ V4, V3.setCell ⟨zb, 1, none⟩ (.pointer (some ⟨pb2, 0, none⟩)) = V4 := ⟨_, rfl⟩
  have HE : Hid (∀ b, StepTo h0 F w g D pb jb n X zb jz k 8 (.returned (.bool b)) V4) := fun b => by
    have hu : Upd (fun x => x = zb) V3 V4 := by rw [← hV4]; exact setCell_upd _ zb 1 _
    have hs4 : V4.heap.size = V3.heap.size := by rw [← hV4, World.size_setCell]
    have hz4 := hz3.turn (jb' := jz) (pb' := pb2) (w' := V4) (by rw [← hV4, heap_setCell_same V3 zb 1 _ _ _ hz3.c, prA_p]) hu hs4 hz3.gz hz3.nz hz3.g hz3.s hz3.p hz3.o
    have hb4 : Below h0 V3 V4 := hu.below (Nat.le_trans Q2.out.s.h0w hb3.size) (fun x hx => by rw [show x = zb from hx]; exact Q2.out.s.h)
    exact ⟨b, D, pxOf n D X.good, pb2, rfl, ⟨F2, ⟨S2, gs, gs, _, ov, hP3.turnF hz3.f hu hs4, hz4.1, Q2.out.s.h⟩, (Q2.out.f.trans (hf3.but zb)).trans hz4.2, (Q2.out.b.trans (hb3.mono Q2.out.s.h0w)).trans hb4⟩, opn_inv HI.out.1, fun h => by omega, fun h => by omega, fun h => absurd rfl h⟩
  clear HPO hpb2 hP3 hb3 hf3 hz3 Q2
  go_wp2
  go_ret
  exact HE.out _
end
end Go.Proofs.YtdgffocmdkadpaaGreat
