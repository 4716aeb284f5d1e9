/- The statements' done, beside a row that stays. -/
import Derived.Test.YtnafalkcgghjgaaGreatDoorTG
namespace Go.Proofs.YtnafalkcgghjgaaGreatDoor
open Go.RowKit Go.Shelf
/-- A table that is there, a row beside it, and what was there ahead. -/
def KeptR (w0 w : World) (S : Nat → Prop) (g : Nat) (D : Dk) (sb jb n : Nat) (KK : List Mf) (ra : Option Addr) (rl rc : Nat) (RA : List Pr) : Prop := ∃ F L, Tab w0.heap.size F w S g D sb jb n L KK ∧ Pw F w ra rl rc RA ∧ Below w0.heap.size w0 w
section
variable {w0 w : World} {S : Nat → Prop} {g : Nat} {D : Dk} {sb jb n : Nat} {KK : List Mf} {ra : Option Addr} {rl rc : Nat} {RA : List Pr}
theorem KeptR.on (h : KeptR w0 w S g D sb jb n KK ra rl rc RA) : Below w0.heap.size w0 w := by obtain ⟨F, L, _, _, hb⟩ := h; exact hb
theorem KeptR.below {w' : World} (h : KeptR w0 w S g D sb jb n KK ra rl rc RA) (hb : Below w.heap.size w w') : KeptR w0 w' S g D sb jb n KK ra rl rc RA := by
  obtain ⟨F, L, ht, hr, h0⟩ := h
  exact ⟨_, L, ht.below hb, hr.fr (Fr.below hb), h0.trans (hb.mono h0.size)⟩
theorem keptR_put (h : KeptR w0 w S g D sb jb n KK ra rl rc RA) (key v : ByteArray) : Calls Tryz.prog 34 #[.pointer (some ⟨sb, 0, none⟩), .string key, .string v] w fun e w' => ∃ y : Int, e = .returned (.int .i64 y) ∧ KeptR w0 w' S g D sb jb n KK ra rl rc RA := by
  by_cases hm : May (key, v)
  · obtain ⟨F, L, ht, hr, h0⟩ := h
    refine (put_any ht key v hm).mono ?_
    rintro e w' ⟨F', L', ht', hf, hb, ⟨rfl, _⟩ | ⟨rfl, _, _⟩⟩
    · exact ⟨_, rfl, F', L', ht', hr.fr hf, h0.trans hb⟩
    · exact ⟨_, rfl, F', L', ht', hr.fr hf, h0.trans hb⟩
  · refine (put_bad sb key v w hm).mono ?_
    rintro e w' ⟨rfl, hw'⟩
    subst w'
    exact ⟨_, rfl, h⟩
theorem keptR_drop (h : KeptR w0 w S g D sb jb n KK ra rl rc RA) (key : ByteArray) : Calls Tryz.prog 14 #[.pointer (some ⟨sb, 0, none⟩), .string key] w fun e w' => ∃ y : Bool, e = .returned (.bool y) ∧ KeptR w0 w' S g D sb jb n KK ra rl rc RA := by
  obtain ⟨F, L, ht, hr, h0⟩ := h
  refine (drop_any ht key).mono ?_
  rintro e w' ⟨rfl, F', L', ht', hf, hb, _⟩
  exact ⟨_, rfl, F', L', ht', hr.fr hf, h0.trans hb⟩
end
/-- What done leaves. -/
def DoneR (w0 : World) (S : Nat → Prop) (g : Nat) (D : Dk) (sb jb n : Nat) (KK : List Mf) (ra : Option Addr) (rl rc : Nat) (RA : List Pr) (e : Ending) (w' : World) : Prop := ∃ y : Bool, e = .returned (.bool y) ∧ KeptR w0 w' S g D sb jb n KK ra rl rc RA
set_option maxRecDepth 100000 in
set_option maxHeartbeats 4000000 in
theorem doneR_any {w0 w : World} {S : Nat → Prop} {g : Nat} {D : Dk} {sb jb n : Nat} {KK : List Mf} {ra : Option Addr} {rl rc : Nat} {RA : List Pr} (h : KeptR w0 w S g D sb jb n KK ra rl rc RA) (a : Option Addr) (len cap : Nat) (l : List OV) (hl : Os w0 a len cap l) :
    Calls Tryz.prog 27 #[.pointer (some ⟨sb, 0, none⟩), .slice a len cap] w fun e w' => DoneR w0 S g D sb jb n KK ra rl rc RA e w' := by
  have HOS : Hid (Os w0 a len cap l) := hl
  have hll : l.length = len := hl.1
  have HH0 : Hid (KeptR w0 w S g D sb jb n KK ra rl rc RA) := h
  clear hl h
  go_enter Tryz.func27, Tryz.ntmps27
  go_wp2
  go_loopw [5] (fun v wr => ∃ i : Nat, i ≤ len ∧ i ≤ 40 ∧ v = .int .i64 i ∧ KeptR w0 wr S g D sb jb n KK ra rl rc RA) (fun v _ => 41 - (intOf v).toNat)
  case atStart => exact ⟨0, by omega, by omega, rfl, HH0.out⟩
  case round =>
    clear HH0
    obtain ⟨i, hi1, hi2, rfl, hh⟩ := hrel
    by_cases hgo : i < len ∧ i < 40
    · have k1 : (i : Int) < (len : Int) := by omega
      have k2 : (i : Int) < 40 := by omega
      have hil : i < l.length := by omega
      obtain ⟨b, oo, rfl, hbl, hc⟩ := HOS.out.2.2.2 (by omega)
      have hci := hc i hil
      obtain ⟨⟨kd, nn, lo, ke, ti, va⟩, ho⟩ : ∃ o, l[i] = o := ⟨_, rfl⟩
      rw [ho] at hci
      obtain ⟨d0, d1, d2, d3, d4, d5, d6⟩ := hci
      simp only at d0 d1 d2 d3 d4 d5
      have HCS : Hid (∀ V, Below w0.heap.size w0 V → V.cell? ⟨b, oo + i * 6, none⟩ = some (.int .i64 kd) ∧ V.cell? ⟨b, oo + i * 6 + 1, none⟩ = some (.int .i64 nn) ∧ V.cell? ⟨b, oo + i * 6 + 2, none⟩ = some (.int .i64 lo) ∧ V.cell? ⟨b, oo + i * 6 + 3, none⟩ = some (.string ke) ∧ V.cell? ⟨b, oo + i * 6 + 4, none⟩ = some (.string ti) ∧ V.cell? ⟨b, oo + i * 6 + 5, none⟩ = some (.string va)) := fun V hV =>
        ⟨by rw [hV.cell hbl]; exact d0, by rw [hV.cell hbl]; exact d1, by rw [hV.cell hbl]; exact d2, by rw [hV.cell hbl]; exact d3, by rw [hV.cell hbl]; exact d4, by rw [hV.cell hbl]; exact d5⟩
      have HIN : Hid (OV.In ⟨kd, nn, lo, ke, ti, va⟩) := d6
      have HH : Hid (KeptR w0 wr S g D sb jb n KK ra rl rc RA) := hh
      obtain ⟨e0, e1, e2, e3, e4, e5⟩ := HCS.out _ hh.on
      have HLI : Calls Tryz.prog 10 #[.agg #[.int .i64 kd, .int .i64 nn, .int .i64 lo, .string ke, .string ti, .string va]] wr fun e w' => e = .returned (.bool (decide (OV.w ⟨kd, nn, lo, ke, ti, va⟩ ≤ 2000))) ∧ Below wr.heap.size wr w' := light_any ⟨kd, nn, lo, ke, ti, va⟩ d6 wr
      obtain ⟨q, hq⟩ : ∃ q, decide (OV.w ⟨kd, nn, lo, ke, ti, va⟩ ≤ 2000) = q := ⟨_, rfl⟩
      rw [hq] at HLI
      clear hc d0 d1 d2 d3 d4 d5 d6 hh ho hgo hq
      go_wp2_with fail
      refine HLI.mono ?_
      rintro e V1 ⟨rfl, hb1⟩
      have HH1 : Hid (KeptR w0 V1 S g D sb jb n KK ra rl rc RA) := HH.out.below hb1
      clear HLI hb1 e0 e1 e2 e3 e4 e5 HH
      obtain ⟨e0, e1, e2, e3, e4, e5⟩ := HCS.out _ HH1.out.on
      cases q with
      | false =>
        go_wp2
        go_ret
        exact ⟨false, rfl, HH1.out⟩
      | true =>
        by_cases q1 : kd = 1
        · subst q1
          have HDR := keptR_drop HH1.out ke
          go_wp2_with fail
          refine HDR.mono ?_
          rintro e V2 ⟨y, rfl, hh2⟩
          have HH2 : Hid (KeptR w0 V2 S g D sb jb n KK ra rl rc RA) := hh2
          clear HDR hh2
          go_wp2
          exact ⟨⟨i + 1, by omega, by omega, by go_num, HH2.out⟩, by simp [intOf]; omega⟩
        · have q2 : (kd == 1) = false := by simpa using q1
          obtain ⟨T, hT⟩ : ∃ T, OV.val ⟨kd, nn, lo, ke, ti, va⟩ = T := ⟨_, rfl⟩
          have HVA : Hid (∀ V, Calls Tryz.prog 12 #[.agg #[.int .i64 kd, .int .i64 nn, .int .i64 lo, .string ke, .string ti, .string va]] V fun e w' => e = .returned (.string T) ∧ Below V.heap.size V w') := fun V => by
            rw [← hT]; exact value_any ⟨kd, nn, lo, ke, ti, va⟩ HIN.out V
          have HPU : Hid (∀ V, KeptR w0 V S g D sb jb n KK ra rl rc RA → Calls Tryz.prog 34 #[.pointer (some ⟨sb, 0, none⟩), .string ke, .string T] V fun e w' => ∃ y : Int, e = .returned (.int .i64 y) ∧ KeptR w0 w' S g D sb jb n KK ra rl rc RA) := fun V hV => keptR_put hV ke T
          have HHD : Hid (KeptR w0 V1.drew S g D sb jb n KK ra rl rc RA) := HH1.out.below (Below.refl _ _).drew
          have HBD : Hid (Below w0.heap.size w0 V1.drew) := HHD.out.on
          clear hT
          go_wp2
          refine wp_region_held_drew (S := fun V => V.cell? ⟨b, oo + i * 6, none⟩ = some (.int .i64 kd) ∧ V.cell? ⟨b, oo + i * 6 + 1, none⟩ = some (.int .i64 nn) ∧ V.cell? ⟨b, oo + i * 6 + 2, none⟩ = some (.int .i64 lo) ∧ V.cell? ⟨b, oo + i * 6 + 3, none⟩ = some (.string ke) ∧ V.cell? ⟨b, oo + i * 6 + 4, none⟩ = some (.string ti) ∧ V.cell? ⟨b, oo + i * 6 + 5, none⟩ = some (.string va)) (by kernel_rfl) (HCS.out _ HBD.out) (fun hHeld => ?_)
          refine wpAnyH_take (i := 0) (v := ?vr0) rfl (by kernel_rfl) (by kernel_rfl) (by kernel_rfl) (fun _ _ _ h => h) (Or.inl ⟨by first | kernel_rfl | rfl, ?yr0⟩) hHeld ?rr0
          case yr0 => (intro W hSW; (try dsimp only at hSW); go_simp; (try with_reducible rfl))
          change wpAnyH _ _ _ _ _ _ _ (Act.put _ (some 35) _) _
          simp only [Act.put, List.setIfInBounds_toArray, List.set_cons_zero, List.set_cons_succ]
          refine wpAnyH_take (i := 1) (v := ?vr1) rfl (by kernel_rfl) (by kernel_rfl) (by kernel_rfl) (fun _ _ _ h => h) (Or.inl ⟨by first | kernel_rfl | rfl, ?yr1⟩) hHeld ?rr1
          case yr1 => (intro W hSW; (try dsimp only at hSW); go_simp; (try with_reducible rfl))
          change wpAnyH _ _ _ _ _ _ _ (Act.put _ (some 36) _) _
          simp only [Act.put, List.setIfInBounds_toArray, List.set_cons_zero, List.set_cons_succ]
          refine wpAnyH_take (i := 2) (v := ?vr2) rfl (by kernel_rfl) (by kernel_rfl) (by kernel_rfl) (fun _ _ _ h => h) (Or.inl ⟨by first | kernel_rfl | rfl, ?yr2⟩) hHeld ?rr2
          case yr2 => (intro W hSW; (try dsimp only at hSW); go_simp; (try with_reducible rfl))
          change wpAnyH _ _ _ _ _ _ _ (Act.put _ (some 37) _) _
          simp only [Act.put, List.setIfInBounds_toArray, List.set_cons_zero, List.set_cons_succ]
          refine wpAnyH_take (i := 3) (v := ?vr3) rfl (by kernel_rfl) (by kernel_rfl) (by kernel_rfl) (fun _ _ _ h => h) (Or.inl ⟨by first | kernel_rfl | rfl, ?yr3⟩) hHeld ?rr3
          case yr3 => (intro W hSW; (try dsimp only at hSW); go_simp; (try with_reducible rfl))
          change wpAnyH _ _ _ _ _ _ _ (Act.put _ (some 38) _) _
          simp only [Act.put, List.setIfInBounds_toArray, List.set_cons_zero, List.set_cons_succ]
          refine wpAnyH_take (i := 4) (v := ?vr4) rfl (by kernel_rfl) (by kernel_rfl) (by kernel_rfl) (fun _ _ _ h => h) (Or.inl ⟨by first | kernel_rfl | rfl, ?yr4⟩) hHeld ?rr4
          case yr4 => (intro W hSW; (try dsimp only at hSW); go_simp; (try with_reducible rfl))
          change wpAnyH _ _ _ _ _ _ _ (Act.put _ (some 39) _) _
          simp only [Act.put, List.setIfInBounds_toArray, List.set_cons_zero, List.set_cons_succ]
          refine wpAnyH_take (i := 5) (v := ?vr5) rfl (by kernel_rfl) (by kernel_rfl) (by kernel_rfl) (fun _ _ _ h => h) (Or.inl ⟨by first | kernel_rfl | rfl, ?yr5⟩) hHeld ?rr5
          case yr5 => (intro W hSW; (try dsimp only at hSW); go_simp; (try with_reducible rfl))
          change wpAnyH _ _ _ _ _ _ _ (Act.put _ (some 40) _) _
          simp only [Act.put, List.setIfInBounds_toArray, List.set_cons_zero, List.set_cons_succ]
          refine wpAnyH_take (i := 6) (v := ?vr6) rfl (by kernel_rfl) (by kernel_rfl) (by kernel_rfl) (fun _ _ _ h => h) (Or.inl ⟨by first | kernel_rfl | rfl, ?yr6⟩) hHeld ?rr6
          case yr6 => (intro W hSW; (try dsimp only at hSW); go_simp; (try with_reducible rfl))
          change wpAnyH _ _ _ _ _ _ _ (Act.put _ (some 41) _) _
          simp only [Act.put, List.setIfInBounds_toArray, List.set_cons_zero, List.set_cons_succ]
          refine wpAnyH_take (i := 7) (v := ?vr7) rfl (by kernel_rfl) (by kernel_rfl) (by kernel_rfl) (fun _ _ _ h => h) (Or.inl ⟨by first | kernel_rfl | rfl, ?yr7⟩) hHeld ?rr7
          case yr7 => (intro W hSW; (try dsimp only at hSW); go_simp; (try with_reducible rfl))
          change wpAnyH _ _ _ _ _ _ _ (Act.put _ (some 42) _) _
          simp only [Act.put, List.setIfInBounds_toArray, List.set_cons_zero, List.set_cons_succ]
          refine wpAnyH_take (i := 8) (v := ?vr8) rfl (by kernel_rfl) (by kernel_rfl) (by kernel_rfl) (fun _ _ _ h => h) (Or.inl ⟨by first | kernel_rfl | rfl, ?yr8⟩) hHeld ?rr8
          case yr8 => (intro W hSW; (try dsimp only at hSW); go_simp; (try with_reducible rfl))
          change wpAnyH _ _ _ _ _ _ _ (Act.put _ (some 43) _) _
          simp only [Act.put, List.setIfInBounds_toArray, List.set_cons_zero, List.set_cons_succ]
          refine wpAnyH_take (i := 9) (v := ?vr9) rfl (by kernel_rfl) (by kernel_rfl) (by kernel_rfl) (fun _ _ _ h => h) (Or.inl ⟨by first | kernel_rfl | rfl, ?yr9⟩) hHeld ?rr9
          case yr9 => (intro W hSW; (try dsimp only at hSW); go_simp; (try with_reducible rfl))
          change wpAnyH _ _ _ _ _ _ _ (Act.put _ (some 44) _) _
          simp only [Act.put, List.setIfInBounds_toArray, List.set_cons_zero, List.set_cons_succ]
          refine wpAnyH_ready (rs := [10]) (by kernel_rfl) (by simp) ?_
          refine AllReadyH.cons rfl (fun K hK => ?_) AllReadyH.nil
          go_simp
          refine (HVA.out _).mono ?_
          rintro e V2 ⟨rfl, hb2⟩; have HH2 : Hid (KeptR w0 V2 S g D sb jb n KK ra rl rc RA) := HHD.out.below hb2; clear hb2
          refine hK.out _ _ (HCS.out _ HH2.out.on) (fun hHeld => ?_)
          clear hK K
          try simp only [Act.put, List.setIfInBounds_toArray, List.set_cons_zero, List.set_cons_succ]
          refine wpAnyH_ready (rs := [11]) (by kernel_rfl) (by simp) ?_
          refine AllReadyH.cons rfl (fun K hK => ?_) AllReadyH.nil
          go_simp
          refine ((HPU.out V2 HH2.out)).mono ?_
          rintro e V3 ⟨y, rfl, hh3⟩; have HH3 : Hid (KeptR w0 V3 S g D sb jb n KK ra rl rc RA) := hh3; clear hh3 HH2
          refine hK.out _ _ (HCS.out _ HH3.out.on) (fun hHeld => ?_)
          clear hK K
          try simp only [Act.put, List.setIfInBounds_toArray, List.set_cons_zero, List.set_cons_succ]
          refine wpAnyH_done (by kernel_rfl) ?_ _
          clear hHeld HVA HPU HHD HBD
          go_wp2
          exact ⟨⟨i + 1, by omega, by omega, by go_num, HH3.out⟩, by simp [intOf]; omega⟩
    · by_cases hlt : i < len
      · have k1 : (i : Int) < (len : Int) := by omega
        have k2 : ¬ (i : Int) < 40 := by omega
        have HH : Hid (KeptR w0 wr S g D sb jb n KK ra rl rc RA) := hh
        clear hh hgo
        go_wp2
        go_ret
        exact ⟨true, rfl, HH.out⟩
      · have k1 : ¬ (i : Int) < (len : Int) := by omega
        have HH : Hid (KeptR w0 wr S g D sb jb n KK ra rl rc RA) := hh
        clear hh hgo
        go_wp2
        go_ret
        exact ⟨true, rfl, HH.out⟩
end Go.Proofs.YtnafalkcgghjgaaGreatDoor
