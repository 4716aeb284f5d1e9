/- Walks over Again, Take and Find. -/
import Derived.Test.YtjpkngbjjgimjaaDoorKJ
namespace Go.Proofs.YtjpkngbjjgimjaaDoor
open Go.RowKit
theorem look_ok {W : Nat} {T : List Pr} {sum : ByteArray} {n : Int} {c : Cn} (h : lookF W T sum n = some c) : sum.size = W ∧ 0 ≤ n ∧ n < 256 ∧ c.sum.size ≤ W ∧ c.refs < 4294967296 ∧ c.data.size ≤ 128 ∧ c.n < 256 ∧ 1 ≤ c.refs := by
  unfold lookF at h
  split at h
  · rename_i hh
    exact ⟨hh.1, hh.2.1, hh.2.2.1, parse_ok h⟩
  · cases h
section
variable {h0 : Nat} {F : Nat → Prop} {w : World} {st tb W : Nat} {full : Int} {T : List Pr}
def OkTo (h0 : Nat) (F : Nat → Prop) (w : World) (st tb W : Nat) (full : Int) (T' : List Pr) (w' : World) : Prop := ∃ F', Cs h0 F' w' st tb W full T' ∧ Fr F w F' w' ∧ Below h0 w w'
theorem OkTo.below {w' : World} (h : Cs h0 F w st tb W full T) (hb : Below w.heap.size w w') : OkTo h0 F w st tb W full T w' := ⟨_, h.below hb, Fr.below hb, hb.mono h.h0w⟩
theorem MoTo.ret {c : Cn} {e : Ending} {w' : World} (ht : MoTo h0 F w st tb W full T c e w') : ∃ ee : Int, e = .returned (.int .i64 ee) := by
  unfold MoTo at ht
  split at ht
  · obtain ⟨F', h5, _⟩ := ht
    exact ⟨5, h5⟩
  · obtain ⟨F', h5, _⟩ := ht
    split at h5
    · exact ⟨0, h5.1⟩
    · exact ⟨5, h5.1⟩
theorem TpTo.ret {k v : ByteArray} {e : Ending} {w' : World} (ht : TpTo h0 F w st tb W full T k v e w') : ∃ ee : Int, e = .returned (.int .i64 ee) := by
  obtain ⟨F', h5, _⟩ := ht
  split at h5
  · exact ⟨0, h5.1⟩
  · exact ⟨5, h5.1⟩
theorem MoTo.from {c : Cn} {e : Ending} {w1 w' : World} (h : Cs h0 F w st tb W full T) (hb : Below w.heap.size w w1) (ht : MoTo h0 (mor F w w1) w1 st tb W full T c e w') : MoTo h0 F w st tb W full T c e w' := by
  unfold MoTo at ht ⊢
  split at ht
  · rename_i hc
    rw [if_pos hc]
    obtain ⟨F', h1, h2, h3, h4⟩ := ht
    exact ⟨F', h1, h2, (Fr.below hb).trans h3, (hb.mono h.h0w).trans h4⟩
  · rename_i hc
    rw [if_neg hc]
    exact TpTo.from h hb (fun x hx => hx) ht
/-- What Again leaves. -/
def AgTo (h0 : Nat) (F : Nat → Prop) (w : World) (st tb W : Nat) (full : Int) (T : List Pr) (r : Option Cn) (e : Ending) (w' : World) : Prop := match r with
  | none => e = .returned (.int .i64 6) ∧ OkTo h0 F w st tb W full T w'
  | some c => MoTo h0 F w st tb W full T c e w'
set_option maxRecDepth 100000 in
set_option maxHeartbeats 2000000 in
theorem again_any (h : Cs h0 F w st tb W full T) (hW : W ≤ 32) (hlt : T.length < 90000) (sum : ByteArray) (n : Int) : Calls Tryd.prog 16 #[.pointer (some ⟨st, 0, none⟩), .agg #[.string sum, .int .i64 n]] w fun e w' => AgTo h0 F w st tb W full T (lookF W T sum n) e w' := by
  obtain ⟨W1, hW1⟩ : ∃ W1, w.alloc (.cells #[.string sum, .int .i64 n] 35) = W1 := ⟨_, rfl⟩
  obtain ⟨ib, hib⟩ : ∃ ib, w.heap.size = ib := ⟨_, rfl⟩
  have r1 : W1.heap[ib]? = some (.cells #[.string sum, .int .i64 n] 35 (0, 0)) := by rw [← hW1, ← hib]; exact heap_alloc_new w _
  have hb1 : Below w.heap.size w W1 := by rw [← hW1]; exact (Below.refl _ w).alloc (Nat.le_refl _) _
  have c0 : W1.cell? ⟨ib, 0, none⟩ = some (.string sum) := by rw [cell_of_row _ _ _ _ _ _ r1]; rfl
  have c1 : W1.cell? ⟨ib, 1, none⟩ = some (.int .i64 n) := by rw [cell_of_row _ _ _ _ _ _ r1]; rfl
  have HLK := look_any (h.below hb1) hW sum n
  obtain ⟨r, hr⟩ : ∃ r, lookF W T sum n = r := ⟨_, rfl⟩
  rw [hr] at HLK ⊢
  unfold ParTo at HLK
  have HB1 : Hid (Below w.heap.size w W1 ∧ Cs h0 F w st tb W full T ∧ lookF W T sum n = r) := ⟨hb1, h, hr⟩
  clear h r1 hb1 hr
  go_enter Tryd.func16, Tryd.ntmps16
  go_wp2_with fail
  refine HLK.mono ?_
  rintro e V ⟨rfl, hb⟩
  have HB2 : Hid (Below w.heap.size w V) := HB1.out.1.trans (hb.mono HB1.out.1.size)
  clear HLK hb c0 c1
  cases r with
  | none =>
    unfold cnV
    go_wp2
    go_ret
    exact ⟨rfl, OkTo.below HB1.out.2.1 (HB2.out.alloc HB2.out.size _)⟩
  | some c =>
    obtain ⟨s1, n1, f1, t1⟩ := c
    have hok := look_ok HB1.out.2.2
    simp only at hok
    have hbA : Below w.heap.size w (V.alloc (.cells #[.string s1, .int .i64 (n1 : Int), .int .u32 (f1 : Int), .string t1] 78)) := HB2.out.alloc HB2.out.size _
    have HMO : Calls Tryd.prog 30 #[.pointer (some ⟨st, 0, none⟩), .agg #[.string s1, .int .i64 (n1 : Int), .int .u32 (f1 : Int), .string t1]] (V.alloc (.cells #[.string s1, .int .i64 (n1 : Int), .int .u32 (f1 : Int), .string t1] 78)) fun e w' => MoTo h0 F w st tb W full T ⟨s1, n1, f1, t1⟩ e w' := (more_any (HB1.out.2.1.below hbA) hlt s1 n1 f1 t1 (by omega) hok.2.2.2.2.2.2.1 hok.2.2.2.2.1 (by omega)).mono fun e w' ht => MoTo.from HB1.out.2.1 hbA ht
    unfold cnV Cn.cells
    simp only
    clear hbA
    go_wp2_with fail
    refine HMO.mono ?_
    intro e w' ht
    have HE : Hid (MoTo h0 F w st tb W full T ⟨s1, n1, f1, t1⟩ e w') := ht
    obtain ⟨ee, rfl⟩ := ht.ret
    clear HMO ht
    go_wp2
    go_ret
    exact HE.out
/-- What Take leaves. -/
def TkTo (h0 : Nat) (F : Nat → Prop) (w : World) (st tb W : Nat) (full : Int) (T : List Pr) (sum : ByteArray) (n : Nat) (r : Option Cn) (e : Ending) (w' : World) : Prop := match r with
  | none => e = .returned (.int .i64 6) ∧ OkTo h0 F w st tb W full T w'
  | some c => if c.refs = 1 then e = .returned (.int .i64 0) ∧ OkTo h0 F w st tb W full (dropT T (keyB sum n)) w' else TpTo h0 F w st tb W full T (keyB c.sum c.n) (valB (c.refs - 1) c.data) e w'
set_option maxRecDepth 100000 in
set_option maxHeartbeats 4000000 in
theorem take_any (h : Cs h0 F w st tb W full T) (hW : W ≤ 32) (hlt : T.length < 90000) (sum : ByteArray) (n : Int) : Calls Tryd.prog 17 #[.pointer (some ⟨st, 0, none⟩), .agg #[.string sum, .int .i64 n]] w fun e w' => TkTo h0 F w st tb W full T sum n.toNat (lookF W T sum n) e w' := by
  obtain ⟨W1, hW1⟩ : ∃ W1, w.alloc (.cells #[.string sum, .int .i64 n] 35) = W1 := ⟨_, rfl⟩
  obtain ⟨ib, hib⟩ : ∃ ib, w.heap.size = ib := ⟨_, rfl⟩
  have r1 : W1.heap[ib]? = some (.cells #[.string sum, .int .i64 n] 35 (0, 0)) := by rw [← hW1, ← hib]; exact heap_alloc_new w _
  have hb1 : Below w.heap.size w W1 := by rw [← hW1]; exact (Below.refl _ w).alloc (Nat.le_refl _) _
  have c0 : W1.cell? ⟨ib, 0, none⟩ = some (.string sum) := by rw [cell_of_row _ _ _ _ _ _ r1]; rfl
  have c1 : W1.cell? ⟨ib, 1, none⟩ = some (.int .i64 n) := by rw [cell_of_row _ _ _ _ _ _ r1]; rfl
  have HLK := look_any (h.below hb1) hW sum n
  obtain ⟨r, hr⟩ : ∃ r, lookF W T sum n = r := ⟨_, rfl⟩
  rw [hr] at HLK ⊢
  unfold ParTo at HLK
  have HB1 : Hid (Below w.heap.size w W1 ∧ Cs h0 F w st tb W full T ∧ lookF W T sum n = r ∧ W1.heap[ib]? = some (.cells #[.string sum, .int .i64 n] 35 (0, 0)) ∧ w.heap.size = ib) := ⟨hb1, h, hr, r1, hib⟩
  clear h r1 hb1 hr
  go_enter Tryd.func17, Tryd.ntmps17
  go_wp2_with fail
  refine HLK.mono ?_
  rintro e V ⟨rfl, hb⟩
  have HB2 : Hid (Below w.heap.size w V ∧ V.heap[ib]? = some (.cells #[.string sum, .int .i64 n] 35 (0, 0))) := ⟨HB1.out.1.trans (hb.mono HB1.out.1.size), (hb.block ib (lt_of_some HB1.out.2.2.2.1)).trans HB1.out.2.2.2.1⟩
  clear HLK hb c0 c1 hib hW1
  cases r with
  | none =>
    unfold cnV
    go_wp2
    go_ret
    exact ⟨rfl, OkTo.below HB1.out.2.1 (HB2.out.1.alloc HB2.out.1.size _)⟩
  | some c =>
    obtain ⟨s1, n1, f1, t1⟩ := c
    have hok := look_ok HB1.out.2.2.1
    simp only at hok
    obtain ⟨f2, rfl⟩ : ∃ f2, f1 = f2 + 1 := ⟨f1 - 1, by omega⟩
    have kf : ((f2 + 1 : Nat) : Int) - 1 = (f2 : Int) := by omega
    have kfm : (f2 : Int) % 4294967296 = (f2 : Int) := by omega
    obtain ⟨V2, hV2⟩ : ∃ V2, V.alloc (.cells #[.string s1, .int .i64 (n1 : Int), .int .u32 (f2 : Int), .string t1] 78) = V2 := ⟨_, rfl⟩
    have hbA : Below w.heap.size w V2 := by rw [← hV2]; exact HB2.out.1.alloc HB2.out.1.size _
    have rA : V2.heap[ib]? = some (.cells #[.string sum, .int .i64 n] 35 (0, 0)) := by
      rw [← hV2]
      exact (((Below.refl V.heap.size V).alloc (Nat.le_refl _) _).block ib (lt_of_some HB2.out.2)).trans HB2.out.2
    by_cases hz : f2 = 0
    · subst hz
      have hV2 : V.alloc (.cells #[.string s1, .int .i64 (n1 : Int), .int .u32 0, .string t1] 78) = V2 := hV2
      have d2 : V2.cell? ⟨V.heap.size, 2, none⟩ = some (.int .u32 0) := by rw [cell_of_row V2 V.heap.size 2 _ _ _ (by rw [← hV2]; exact heap_alloc_new V _)]; rfl
      have HN : Hid (∃ m : Nat, n = (m : Int) ∧ m < 256 ∧ n.toNat = m) := ⟨n.toNat, by omega, by omega, rfl⟩
      obtain ⟨m, rfl, hm, hmt⟩ := HN.out
      have HI : Hid (isT T (keyB sum m) = true) := by
        have := HB1.out.2.2.1
        unfold lookF at this
        split at this
        · rename_i hh
          exact hh.2.2.2
        · cases this
      have HR : Hid (∀ w', OkTo h0 F w st tb W full (dropT T (keyB sum m)) w' → TkTo h0 F w st tb W full T sum (m : Int).toNat (some ⟨s1, n1, 0 + 1, t1⟩) (.returned (.int .i64 0)) w') := fun w' hw => by
        show TkTo _ _ _ _ _ _ _ _ _ _ _ _ _
        unfold TkTo
        simp only [Int.toNat_natCast]
        exact ⟨trivial, hw⟩
      have HC2 : Hid (Cs h0 (mor F w V2) V2 st tb W full T ∧ Below w.heap.size w V2 ∧ V2.heap[ib]? = some (.cells #[.string sum, .int .i64 (m : Int)] 35 (0, 0))) := ⟨HB1.out.2.1.below hbA, hbA, rA⟩
      have HC : Hid (∀ V, Below V2.heap.size V2 V → V.cell? ⟨st, 0, none⟩ = some (.iface 27 (.pointer (some ⟨tb, 0, none⟩))) ∧ V.cell? ⟨ib, 0, none⟩ = some (.string sum) ∧ V.cell? ⟨ib, 1, none⟩ = some (.int .i64 (m : Int))) := fun V hV => by
        have hr := (hV.block ib (lt_of_some HC2.out.2.2)).trans HC2.out.2.2
        have hs' := (hV.block st (lt_of_some HC2.out.1.stat)).trans HC2.out.1.stat
        exact ⟨by rw [cell_of_row _ _ _ _ _ _ hs']; rfl, by rw [cell_of_row _ _ _ _ _ _ hr]; rfl, by rw [cell_of_row _ _ _ _ _ _ hr]; rfl⟩
      have HK1 : Hid (Calls Tryd.prog 33 #[.agg #[.string sum, .int .i64 (m : Int)]] V2.drew fun e w' => e = .returned (.string (keyB sum m)) ∧ Below V2.drew.heap.size V2.drew w') := keyof_any sum m hm (by omega) V2.drew
      have HDR : Hid (∀ V, Below V2.heap.size V2 V → Calls Tryd.prog 93 #[.pointer (some ⟨tb, 0, none⟩), .string (keyB sum m)] V fun e w' => e = .returned (.bool true) ∧ OkTo h0 F w st tb W full (dropT T (keyB sum m)) w' ∧ w'.heap[st]? = V2.heap[st]? ∧ w'.heap[ib]? = V2.heap[ib]?) := fun V hV => by
        have hc3 := HC2.out.1.below hV
        refine (tdrop_any hc3 (keyB sum m)).mono ?_
        rintro e w' ⟨F', he, hcs, hf, hb'⟩
        rw [HI.out] at he
        have hibF : mor (mor F w V2) V2 V ib := .inl (.inr ⟨by have := HB1.out.2.2.2.2; omega, lt_of_some HC2.out.2.2⟩)
        refine ⟨he, ⟨F', hcs, ((Fr.below HC2.out.2.1).trans (Fr.below hV)).trans hf, ((HC2.out.2.1.mono HB1.out.2.1.h0w).trans (hV.mono HC2.out.1.h0w)).trans hb'⟩, hcs.stat.trans HC2.out.1.stat.symm, (hf.blk ib hibF (Nat.lt_of_lt_of_le (lt_of_some HC2.out.2.2) hV.size)).trans (hV.block ib (lt_of_some HC2.out.2.2))⟩
      unfold cnV Cn.cells
      simp only
      clear hbA rA hok kf kfm hmt hm
      go_wp2_with fail
      refine wp_region_held_drew (S := fun V => V.cell? ⟨st, 0, none⟩ = some (.iface 27 (.pointer (some ⟨tb, 0, none⟩))) ∧ V.cell? ⟨ib, 0, none⟩ = some (.string sum) ∧ V.cell? ⟨ib, 1, none⟩ = some (.int .i64 (m : Int))) (by kernel_rfl) (HC.out _ (Below.refl _ V2).drew) (fun hHeld => ?_)
      refine wpAnyH_take (i := 0) (v := ?vk0) rfl (by kernel_rfl) (by kernel_rfl) (by kernel_rfl) (fun _ _ _ h => h) (Or.inl ⟨by first | kernel_rfl | rfl, ?yk0⟩) hHeld ?rk0
      case yk0 => (intro W hSW; (try dsimp only at hSW); go_simp; (try with_reducible rfl))
      change wpAnyH _ _ _ _ _ _ _ (Act.put _ (some 27) _) _
      simp only [Act.put, List.setIfInBounds_toArray, List.set_cons_zero, List.set_cons_succ]
      refine wpAnyH_take (i := 1) (v := ?vk1) rfl (by kernel_rfl) (by kernel_rfl) (by kernel_rfl) (fun _ _ _ h => h) (Or.inl ⟨by first | kernel_rfl | rfl, ?yk1⟩) hHeld ?rk1
      case yk1 => (intro W hSW; (try dsimp only at hSW); go_simp; (try with_reducible rfl))
      change wpAnyH _ _ _ _ _ _ _ (Act.put _ (some 28) _) _
      simp only [Act.put, List.setIfInBounds_toArray, List.set_cons_zero, List.set_cons_succ]
      refine wpAnyH_take (i := 2) (v := ?vk2) rfl (by kernel_rfl) (by kernel_rfl) (by kernel_rfl) (fun _ _ _ h => h) (Or.inl ⟨by first | kernel_rfl | rfl, ?yk2⟩) hHeld ?rk2
      case yk2 => (intro W hSW; (try dsimp only at hSW); go_simp; (try with_reducible rfl))
      change wpAnyH _ _ _ _ _ _ _ (Act.put _ (some 29) _) _
      simp only [Act.put, List.setIfInBounds_toArray, List.set_cons_zero, List.set_cons_succ]
      refine wpAnyH_take (i := 3) (v := ?vk3) rfl (by kernel_rfl) (by kernel_rfl) (by kernel_rfl) (fun _ _ _ h => h) (Or.inl ⟨by first | kernel_rfl | rfl, ?yk3⟩) hHeld ?rk3
      case yk3 => (intro W hSW; (try dsimp only at hSW); go_simp; (try with_reducible rfl))
      change wpAnyH _ _ _ _ _ _ _ (Act.put _ (some 30) _) _
      simp only [Act.put, List.setIfInBounds_toArray, List.set_cons_zero, List.set_cons_succ]
      refine wpAnyH_take (i := 4) (v := ?vk4) rfl (by kernel_rfl) (by kernel_rfl) (by kernel_rfl) (fun _ _ _ h => h) (Or.inl ⟨by first | kernel_rfl | rfl, ?yk4⟩) hHeld ?rk4
      case yk4 => (intro W hSW; (try dsimp only at hSW); go_simp; (try with_reducible rfl))
      change wpAnyH _ _ _ _ _ _ _ (Act.put _ (some 31) _) _
      simp only [Act.put, List.setIfInBounds_toArray, List.set_cons_zero, List.set_cons_succ]
      refine wpAnyH_take (i := 6) (v := ?vk6) rfl (by kernel_rfl) (by kernel_rfl) (by kernel_rfl) (fun _ _ _ h => h) (Or.inl ⟨by first | kernel_rfl | rfl, ?yk6⟩) hHeld ?rk6
      case yk6 => (intro W hSW; (try dsimp only at hSW); go_simp; (try with_reducible rfl))
      change wpAnyH _ _ _ _ _ _ _ (Act.put _ (some 33) _) _
      simp only [Act.put, List.setIfInBounds_toArray, List.set_cons_zero, List.set_cons_succ]
      refine wpAnyH_take (i := 7) (v := ?vk7) rfl (by kernel_rfl) (by kernel_rfl) (by kernel_rfl) (fun _ _ _ h => h) (Or.inl ⟨by first | kernel_rfl | rfl, ?yk7⟩) hHeld ?rk7
      case yk7 => (intro W hSW; (try dsimp only at hSW); go_simp; (try with_reducible rfl))
      change wpAnyH _ _ _ _ _ _ _ (Act.put _ (some 34) _) _
      simp only [Act.put, List.setIfInBounds_toArray, List.set_cons_zero, List.set_cons_succ]
      refine wpAnyH_ready (rs := [5]) (by kernel_rfl) (by simp) ?_
      refine AllReadyH.cons rfl (fun K hK => ?_) AllReadyH.nil
      go_simp
      refine (HK1.out).mono ?_
      rintro e V3 ⟨rfl, hb3⟩; have HB3 : Hid (Below V2.heap.size V2 V3) := (Below.refl V2.heap.size V2).drew.trans hb3; clear hb3
      refine hK.out _ _ (HC.out _ HB3.out) (fun hHeld => ?_)
      clear hK K
      try simp only [Act.put, List.setIfInBounds_toArray, List.set_cons_zero, List.set_cons_succ]
      refine wpAnyH_ready (rs := [8]) (by kernel_rfl) (by simp) ?_
      refine AllReadyH.cons rfl (fun K hK => ?_) AllReadyH.nil
      go_simp
      refine (HDR.out V3 HB3.out).mono ?_
      rintro e V4 ⟨rfl, hok4, hst4, hib4⟩; have HE3 : Hid (OkTo h0 F w st tb W full (dropT T (keyB sum m)) V4 ∧ V4.heap[st]? = V2.heap[st]? ∧ V4.heap[ib]? = V2.heap[ib]?) := ⟨hok4, hst4, hib4⟩; clear hok4 hst4 hib4
      refine hK.out _ _ (⟨by rw [cell_of_row _ _ _ _ _ _ (HE3.out.2.1.trans HC2.out.1.stat)]; rfl, by rw [cell_of_row _ _ _ _ _ _ (HE3.out.2.2.trans HC2.out.2.2)]; rfl, by rw [cell_of_row _ _ _ _ _ _ (HE3.out.2.2.trans HC2.out.2.2)]; rfl⟩) (fun hHeld => ?_)
      clear hK K
      try simp only [Act.put, List.setIfInBounds_toArray, List.set_cons_zero, List.set_cons_succ]
      refine wpAnyH_take (i := 9) (v := ?vk9) rfl (by kernel_rfl) (by kernel_rfl) (by kernel_rfl) (fun _ _ _ h => h) (Or.inl ⟨by first | kernel_rfl | rfl, ?yk9⟩) hHeld ?rk9
      case yk9 => (intro W hSW; (try dsimp only at hSW); go_simp; (try with_reducible rfl))
      change wpAnyH _ _ _ _ _ _ _ (Act.put _ (some 36) _) _
      simp only [Act.put, List.setIfInBounds_toArray, List.set_cons_zero, List.set_cons_succ]
      refine wpAnyH_done (by kernel_rfl) ?_ _
      go_wp2
      go_ret
      exact HR.out _ HE3.out.1
    · have HKE : Calls Tryd.prog 32 #[.pointer (some ⟨st, 0, none⟩), .agg #[.string s1, .int .i64 (n1 : Int), .int .u32 (f2 : Int), .string t1]] V2 fun e w' => TpTo h0 F w st tb W full T (keyB s1 n1) (valB f2 t1) e w' := (keep_any (HB1.out.2.1.below hbA) hlt s1 n1 f2 t1 (by omega) hok.2.2.2.2.2.2.1 (by omega)).mono fun e w' ht => TpTo.from HB1.out.2.1 hbA (fun x hx => hx) ht
      have HR : Hid (∀ e w', TpTo h0 F w st tb W full T (keyB s1 n1) (valB f2 t1) e w' → TkTo h0 F w st tb W full T sum n.toNat (some ⟨s1, n1, f2 + 1, t1⟩) e w') := fun e w' hw => by
        show TkTo _ _ _ _ _ _ _ _ _ _ _ _ _
        unfold TkTo
        simp only
        rw [if_neg (by omega)]
        exact hw
      have kp : (0 : Int) < (f2 : Int) := by omega
      rw [← hV2] at HKE
      unfold cnV Cn.cells
      simp only
      clear hbA rA hV2 hok
      go_wp2_with fail
      refine HKE.mono ?_
      intro e w' ht
      have HE : Hid (TpTo h0 F w st tb W full T (keyB s1 n1) (valB f2 t1) e w') := ht
      obtain ⟨ee, rfl⟩ := ht.ret
      clear HKE ht
      go_wp2
      go_ret
      exact HR.out _ _ HE.out
end
end Go.Proofs.YtjpkngbjjgimjaaDoor
