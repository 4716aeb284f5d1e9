/- The statements' made: a disk behind some steps. -/
import Derived.Test.YtdlmciicapigjaaP
namespace Go.Proofs.Ytdlmciicapigjaa
open Go.RowKit Go.Shelf
def Dk.wcode (D : Dk) (a : Int) (s : ByteArray) : Nat := if D.reach a = 0 then (if s.size = 256 then 0 else 1) else D.reach a
def Dk.wput (D : Dk) (a : Int) (s : ByteArray) : Dk := if D.reach a = 0 ∧ s.size = 256 then D.wrote a.toNat s else D
theorem write_code {w0 w : World} {g : Nat} {D : Dk} (h : Has w0 w g D) (a : Int) (s : ByteArray) (hw : D.writes < 1000000) : Calls Try.prog 11 #[.pointer (some ⟨g, 0, none⟩), .int .i64 a, .string s] w fun e w' => e = .returned (.int .i64 (D.wcode a s : Int)) ∧ Has w0 w' g (D.wput a s) := by
  unfold Dk.wcode Dk.wput
  by_cases hr : D.reach a = 0
  · rw [if_pos hr]
    by_cases hs : s.size = 256
    · rw [if_pos hs, if_pos ⟨hr, hs⟩]
      obtain ⟨hu, h0, h1⟩ := reach_zero hr
      obtain ⟨n, rfl⟩ := Int.eq_ofNat_of_zero_le h0
      exact write_h h n s hu (by omega) hs hw
    · rw [if_neg hs, if_neg (fun e => hs e.2)]
      refine (write_short_h h a s hr hs).mono ?_
      rintro e w' ⟨rfl, hw'⟩
      subst w'
      exact ⟨rfl, h⟩
  · rw [if_neg hr, if_neg (fun e => hr e.1)]
    refine (write_bad_h h a s hr).mono ?_
    rintro e w' ⟨rfl, hw'⟩
    subst w'
    exact ⟨rfl, h⟩
/-- A step of made. -/
def stepM (D : Dk) (o : OpV) : Dk :=
  if o.kind = 0 then D.wput o.at_ (fillS o.long o.fill)
  else if o.kind = 1 then D.settled (fun _ => true)
  else if o.kind = 4 then (if o.pl ≤ 300 then (D.failed (pickOf o.picks)).started else D)
  else D
def madeD (s : Nat) (l : List OpV) (k : Nat) : Dk := (l.take k).foldl stepM (Dk.new s nought)
theorem madeD_step (s : Nat) (l : List OpV) (k : Nat) (h : k < l.length) : madeD s l (k + 1) = stepM (madeD s l k) l[k] := by
  unfold madeD
  rw [List.take_succ_eq_append_getElem h, List.foldl_append]
  rfl
/-- What is so of a disk behind some steps. -/
structure MadeOk (D : Dk) (s : Nat) (l : List OpV) (k : Nat) : Prop where
  up : D.up = true
  fu : D.fuse = 0
  n : D.kept.length = s
  wr : D.writes ≤ k
  wl : D.waits.length ≤ D.writes
  wt : ∀ q ∈ D.waits, ∃ j, ∃ h : j < l.length, j < k ∧ l[j].kind = 0 ∧ l[j].at_ = (q.1 : Int) ∧ fillS l[j].long l[j].fill = q.2
theorem MadeOk.new (s : Nat) (l : List OpV) : MadeOk (Dk.new s nought) s l 0 := ⟨rfl, rfl, by simp [Dk.new], Nat.le_refl _, Nat.le_refl _, by intro q hq; simp [Dk.new] at hq⟩
theorem MadeOk.later {D : Dk} {s : Nat} {l : List OpV} {k : Nat} (h : MadeOk D s l k) : MadeOk D s l (k + 1) :=
  ⟨h.up, h.fu, h.n, by have := h.wr; omega, h.wl, fun q hq => by obtain ⟨j, hj, h1, h2⟩ := h.wt q hq; exact ⟨j, hj, by omega, h2⟩⟩
theorem MadeOk.step {D : Dk} {s : Nat} {l : List OpV} {k : Nat} (h : MadeOk D s l k) (hk : k < l.length) : MadeOk (stepM D l[k]) s l (k + 1) := by
  unfold stepM
  by_cases h0 : l[k].kind = 0
  · rw [if_pos h0]
    unfold Dk.wput
    split
    · rename_i hr
      obtain ⟨_, a0, a1⟩ := reach_zero hr.1
      refine ⟨?_, ?_, h.n, ?_, ?_, ?_⟩
      · show decide (D.fuse ≠ 1) = true
        rw [h.fu]; rfl
      · show D.fuse - 1 = 0
        rw [h.fu]
      · show D.writes + 1 ≤ k + 1
        have := h.wr; omega
      · show (D.waits ++ [_]).length ≤ D.writes + 1
        have := h.wl
        simp; omega
      · intro q hq
        have hq' : q ∈ D.waits ++ [(l[k].at_.toNat, fillS l[k].long l[k].fill)] := hq
        rw [List.mem_append, List.mem_singleton] at hq'
        rcases hq' with hq' | rfl
        · obtain ⟨j, hj, h1, h2⟩ := h.wt q hq'
          exact ⟨j, hj, by omega, h2⟩
        · exact ⟨k, hk, by omega, h0, by show l[k].at_ = ((l[k].at_.toNat : Nat) : Int); omega, rfl⟩
    · exact h.later
  · rw [if_neg h0]
    split
    · refine ⟨h.up, h.fu, ?_, ?_, ?_, ?_⟩
      · show (upTo _ _ _ _).length = s
        rw [upTo_len]; exact h.n
      · show D.writes ≤ k + 1
        have := h.wr; omega
      · show 0 ≤ D.writes
        omega
      · intro q hq
        have : q ∈ ([] : List Wt) := hq
        simp at this
    · split
      · split
        · refine ⟨rfl, rfl, ?_, ?_, ?_, ?_⟩
          · show (upTo _ _ _ _).length = s
            rw [upTo_len]; exact h.n
          · show D.writes ≤ k + 1
            have := h.wr; omega
          · show 0 ≤ D.writes
            omega
          · intro q hq
            have : q ∈ ([] : List Wt) := hq
            simp at this
        · exact h.later
      · exact h.later
theorem MadeOk.all (s : Nat) (l : List OpV) (k : Nat) (hk : k ≤ l.length) : MadeOk (madeD s l k) s l k := by
  induction k with
  | zero => exact MadeOk.new s l
  | succ k ih =>
    rw [madeD_step s l k (by omega)]
    exact (ih (by omega)).step (by omega)
set_option maxRecDepth 100000 in
set_option maxHeartbeats 4000000 in
theorem made_none (x : Int) (a : Option Addr) (len cap : Nat) (w0 w : World) (hw : Below w0.heap.size w0 w) (hx : x < 1 ∨ 40 < x) : Calls Try.prog 25 #[.int .i64 x, .slice a len cap] w fun e w' => e = .returned (.pointer none) ∧ Below w0.heap.size w0 w' := by
  by_cases hb : x < 1 ∨ 2048 < x
  · have HN := new_bad x w hb
    clear hx hb
    go_enter Try.func25, Try.ntmps25
    go_wp2_with fail
    refine HN.mono ?_
    rintro e w1 ⟨rfl, hw1⟩
    subst w1
    go_wp2
    go_ret
    exact ⟨rfl, hw⟩
  · obtain ⟨n, rfl⟩ := Int.eq_ofNat_of_zero_le (show 0 ≤ x by omega)
    have k40 : (40 : Int) < (n : Int) := by omega
    have HN := new_any n w (by omega) (by omega)
    clear hx hb
    go_enter Try.func25, Try.ntmps25
    go_wp2_with fail
    refine HN.mono ?_
    rintro e w1 ⟨g, rfl, hd, hb⟩
    clear HN hd
    go_wp2
    go_ret
    exact ⟨rfl, hw.trans (hb.mono hw.size)⟩
set_option maxRecDepth 100000 in
set_option maxHeartbeats 4000000 in
theorem made_any (s : Nat) (a : Option Addr) (len cap : Nat) (l : List OpV) (w : World) (hl : Os w a len cap l) (W0 : World) (hW0 : Below w.heap.size w W0) (h1 : 1 ≤ s) (h40 : s ≤ 40) :
    Calls Try.prog 25 #[.int .i64 (s : Int), .slice a len cap] W0 fun e w' => ∃ g, e = .returned (.pointer (some ⟨g, 0, none⟩)) ∧ Has w w' g (madeD s l (min len 60)) := by
  have HN := new_h hW0 s h1 (by omega)
  have k40 : ¬ (40 : Int) < (s : Int) := by omega
  have HOS : Hid (Os w a len cap l) := hl
  have hll : l.length = len := hl.1
  clear hl
  go_enter Try.func25, Try.ntmps25
  go_wp2_with fail
  refine HN.mono ?_
  rintro e w1 ⟨g, rfl, hh1⟩
  have HH1 : Hid (Has w w1 g (Dk.new s nought)) := hh1
  clear HN hh1
  go_wp2
  go_loopw [7] (fun v wr => ∃ i : Nat, i ≤ len ∧ i ≤ 60 ∧ v = .int .i64 i ∧ Has w wr g (madeD s l i)) (fun v _ => 61 - (intOf v).toNat)
  case atStart => exact ⟨0, by omega, by omega, rfl, HH1.out⟩
  case round =>
    clear HH1
    obtain ⟨i, hi1, hi2, rfl, hh⟩ := hrel
    by_cases hgo : i < len ∧ i < 60
    · have k1 : (i : Int) < (len : Int) := by omega
      have k2 : (i : Int) < 60 := by omega
      have hil : i < l.length := by omega
      obtain ⟨b, oo, rfl, hbl, hc⟩ := HOS.out.2.2.2 (by omega)
      have hci := hc i hil
      have HST : Hid (madeD s l (i + 1) = stepM (madeD s l i) l[i]) := madeD_step s l i hil
      have hmk := MadeOk.all s l i (by omega)
      obtain ⟨D, hD⟩ : ∃ D, madeD s l i = D := ⟨_, rfl⟩
      rw [hD] at hh hmk
      have HST : Hid (madeD s l (i + 1) = stepM D l[i]) := by rw [← hD]; exact HST.out
      obtain ⟨⟨kd, ad, lo, fi, pa, pl, pc, bs⟩, ho⟩ : ∃ o, l[i] = o := ⟨_, rfl⟩
      rw [ho] at hci HST
      obtain ⟨d0, d1, d2, d3, d4, d5⟩ := hci
      simp only at d0 d1 d2 d3 d4
      have HCS : Hid (∀ V, Below w.heap.size w V → V.cell? ⟨b, oo + i * 5, none⟩ = some (.int .i64 kd) ∧ V.cell? ⟨b, oo + i * 5 + 1, none⟩ = some (.int .i64 ad) ∧ V.cell? ⟨b, oo + i * 5 + 2, none⟩ = some (.int .i64 lo) ∧ V.cell? ⟨b, oo + i * 5 + 3, none⟩ = some (.int .u8 (fi : Int)) ∧ V.cell? ⟨b, oo + i * 5 + 4, none⟩ = some (.slice pa pl pc)) := fun V hV =>
        ⟨by rw [hV.cell hbl]; exact d0, by rw [hV.cell hbl]; exact d1, by rw [hV.cell hbl]; exact d2, by rw [hV.cell hbl]; exact d3, by rw [hV.cell hbl]; exact d4⟩
      have HIN : Hid (OpV.In w ⟨kd, ad, lo, fi, pa, pl, pc, bs⟩) := d5
      have HH : Hid (Has w wr g D) := hh
      obtain ⟨e0, e1, e2, e3, e4⟩ := HCS.out _ hh.1
      have hup := hmk.up
      have hwr : D.writes < 1000000 := by have := hmk.wr; omega
      clear hc d0 d1 d2 d3 d4 d5 hh ho hmk hD hgo
      by_cases q0 : kd = 0
      · subst q0
        obtain ⟨T, hT⟩ : ∃ T, fillS lo fi = T := ⟨_, rfl⟩
        have HFI : Hid (Calls Try.prog 27 #[.agg #[.int .i64 0, .int .i64 ad, .int .i64 lo, .int .u8 (fi : Int), .slice pa pl pc]] wr.drew fun e w' => e = .returned (.string T) ∧ Below wr.drew.heap.size wr.drew w') := by
          rw [← hT]; exact filled_any 0 ad lo fi pa pl pc wr.drew HIN.out.2.2.2.1
        obtain ⟨D', hD'⟩ : ∃ D', D.wput ad T = D' := ⟨_, rfl⟩
        obtain ⟨cd, hcd⟩ : ∃ cd, D.wcode ad T = cd := ⟨_, rfl⟩
        have HWR : Hid (∀ V, Has w V g D → Calls Try.prog 11 #[.pointer (some ⟨g, 0, none⟩), .int .i64 ad, .string T] V fun e w' => e = .returned (.int .i64 (cd : Int)) ∧ Has w w' g D') := by
          intro V hV
          rw [← hD', ← hcd]
          exact write_code hV ad T hwr
        have HDE : Hid (madeD s l (i + 1) = D') := by
          show _ = _
          rw [HST.out, ← hD', ← hT]; rfl
        have HCS0 : Hid (∀ V, Below w.heap.size w V → V.cell? ⟨b, oo + i * 5, none⟩ = some (.int .i64 0) ∧ V.cell? ⟨b, oo + i * 5 + 1, none⟩ = some (.int .i64 ad) ∧ V.cell? ⟨b, oo + i * 5 + 2, none⟩ = some (.int .i64 lo) ∧ V.cell? ⟨b, oo + i * 5 + 3, none⟩ = some (.int .u8 (fi : Int)) ∧ V.cell? ⟨b, oo + i * 5 + 4, none⟩ = some (.slice pa pl pc)) := HCS
        clear hT hD' hcd
        go_wp2
        refine wp_region_held_drew (S := fun V => V.cell? ⟨b, oo + i * 5, none⟩ = some (.int .i64 0) ∧ V.cell? ⟨b, oo + i * 5 + 1, none⟩ = some (.int .i64 ad) ∧ V.cell? ⟨b, oo + i * 5 + 2, none⟩ = some (.int .i64 lo) ∧ V.cell? ⟨b, oo + i * 5 + 3, none⟩ = some (.int .u8 (fi : Int)) ∧ V.cell? ⟨b, oo + i * 5 + 4, none⟩ = some (.slice pa pl pc)) (by kernel_rfl) (HCS0.out _ HH.out.drew.1) (fun hHeld => ?_)
        refine wpAnyH_take (i := 0) (v := ?vr0) rfl (by kernel_rfl) (by kernel_rfl) (by kernel_rfl) (fun _ _ _ h => h) (Or.inl ⟨by first | kernel_rfl | rfl, ?yr0⟩) hHeld ?rr0
        case yr0 => (intro W hSW; (try dsimp only at hSW); go_simp; (try with_reducible rfl))
        change wpAnyH _ _ _ _ _ _ _ (Act.put _ (some 36) _) _
        simp only [Act.put, List.setIfInBounds_toArray, List.set_cons_zero, List.set_cons_succ]
        refine wpAnyH_take (i := 1) (v := ?vr1) rfl (by kernel_rfl) (by kernel_rfl) (by kernel_rfl) (fun _ _ _ h => h) (Or.inl ⟨by first | kernel_rfl | rfl, ?yr1⟩) hHeld ?rr1
        case yr1 => (intro W hSW; (try dsimp only at hSW); go_simp; (try with_reducible rfl))
        change wpAnyH _ _ _ _ _ _ _ (Act.put _ (some 37) _) _
        simp only [Act.put, List.setIfInBounds_toArray, List.set_cons_zero, List.set_cons_succ]
        refine wpAnyH_take (i := 2) (v := ?vr2) rfl (by kernel_rfl) (by kernel_rfl) (by kernel_rfl) (fun _ _ _ h => h) (Or.inl ⟨by first | kernel_rfl | rfl, ?yr2⟩) hHeld ?rr2
        case yr2 => (intro W hSW; (try dsimp only at hSW); go_simp; (try with_reducible rfl))
        change wpAnyH _ _ _ _ _ _ _ (Act.put _ (some 38) _) _
        simp only [Act.put, List.setIfInBounds_toArray, List.set_cons_zero, List.set_cons_succ]
        refine wpAnyH_take (i := 3) (v := ?vr3) rfl (by kernel_rfl) (by kernel_rfl) (by kernel_rfl) (fun _ _ _ h => h) (Or.inl ⟨by first | kernel_rfl | rfl, ?yr3⟩) hHeld ?rr3
        case yr3 => (intro W hSW; (try dsimp only at hSW); go_simp; (try with_reducible rfl))
        change wpAnyH _ _ _ _ _ _ _ (Act.put _ (some 39) _) _
        simp only [Act.put, List.setIfInBounds_toArray, List.set_cons_zero, List.set_cons_succ]
        refine wpAnyH_take (i := 4) (v := ?vr4) rfl (by kernel_rfl) (by kernel_rfl) (by kernel_rfl) (fun _ _ _ h => h) (Or.inl ⟨by first | kernel_rfl | rfl, ?yr4⟩) hHeld ?rr4
        case yr4 => (intro W hSW; (try dsimp only at hSW); go_simp; (try with_reducible rfl))
        change wpAnyH _ _ _ _ _ _ _ (Act.put _ (some 40) _) _
        simp only [Act.put, List.setIfInBounds_toArray, List.set_cons_zero, List.set_cons_succ]
        refine wpAnyH_take (i := 5) (v := ?vr5) rfl (by kernel_rfl) (by kernel_rfl) (by kernel_rfl) (fun _ _ _ h => h) (Or.inl ⟨by first | kernel_rfl | rfl, ?yr5⟩) hHeld ?rr5
        case yr5 => (intro W hSW; (try dsimp only at hSW); go_simp; (try with_reducible rfl))
        change wpAnyH _ _ _ _ _ _ _ (Act.put _ (some 41) _) _
        simp only [Act.put, List.setIfInBounds_toArray, List.set_cons_zero, List.set_cons_succ]
        refine wpAnyH_take (i := 6) (v := ?vr6) rfl (by kernel_rfl) (by kernel_rfl) (by kernel_rfl) (fun _ _ _ h => h) (Or.inl ⟨by first | kernel_rfl | rfl, ?yr6⟩) hHeld ?rr6
        case yr6 => (intro W hSW; (try dsimp only at hSW); go_simp; (try with_reducible rfl))
        change wpAnyH _ _ _ _ _ _ _ (Act.put _ (some 42) _) _
        simp only [Act.put, List.setIfInBounds_toArray, List.set_cons_zero, List.set_cons_succ]
        refine wpAnyH_take (i := 7) (v := ?vr7) rfl (by kernel_rfl) (by kernel_rfl) (by kernel_rfl) (fun _ _ _ h => h) (Or.inl ⟨by first | kernel_rfl | rfl, ?yr7⟩) hHeld ?rr7
        case yr7 => (intro W hSW; (try dsimp only at hSW); go_simp; (try with_reducible rfl))
        change wpAnyH _ _ _ _ _ _ _ (Act.put _ (some 43) _) _
        simp only [Act.put, List.setIfInBounds_toArray, List.set_cons_zero, List.set_cons_succ]
        refine wpAnyH_take (i := 8) (v := ?vr8) rfl (by kernel_rfl) (by kernel_rfl) (by kernel_rfl) (fun _ _ _ h => h) (Or.inl ⟨by first | kernel_rfl | rfl, ?yr8⟩) hHeld ?rr8
        case yr8 => (intro W hSW; (try dsimp only at hSW); go_simp; (try with_reducible rfl))
        change wpAnyH _ _ _ _ _ _ _ (Act.put _ (some 44) _) _
        simp only [Act.put, List.setIfInBounds_toArray, List.set_cons_zero, List.set_cons_succ]
        refine wpAnyH_take (i := 9) (v := ?vr9) rfl (by kernel_rfl) (by kernel_rfl) (by kernel_rfl) (fun _ _ _ h => h) (Or.inl ⟨by first | kernel_rfl | rfl, ?yr9⟩) hHeld ?rr9
        case yr9 => (intro W hSW; (try dsimp only at hSW); go_simp; (try with_reducible rfl))
        change wpAnyH _ _ _ _ _ _ _ (Act.put _ (some 45) _) _
        simp only [Act.put, List.setIfInBounds_toArray, List.set_cons_zero, List.set_cons_succ]
        refine wpAnyH_ready (rs := [10]) (by kernel_rfl) (by simp) ?_
        refine AllReadyH.cons rfl (fun K hK => ?_) AllReadyH.nil
        go_simp
        refine (HFI.out).mono ?_
        rintro e V2 ⟨rfl, hb2⟩; have HH2 : Hid (Has w V2 g D) := HH.out.drew.below hb2; clear hb2
        refine hK.out _ _ (HCS0.out _ HH2.out.1) (fun hHeld => ?_)
        clear hK K
        try simp only [Act.put, List.setIfInBounds_toArray, List.set_cons_zero, List.set_cons_succ]
        refine wpAnyH_ready (rs := [11]) (by kernel_rfl) (by simp) ?_
        refine AllReadyH.cons rfl (fun K hK => ?_) AllReadyH.nil
        go_simp
        refine ((HWR.out V2 HH2.out)).mono ?_
        rintro e V3 ⟨rfl, hh3⟩; have HH3 : Hid (Has w V3 g D') := hh3; clear hh3 HH2
        refine hK.out _ _ (HCS0.out _ HH3.out.1) (fun hHeld => ?_)
        clear hK K
        try simp only [Act.put, List.setIfInBounds_toArray, List.set_cons_zero, List.set_cons_succ]
        refine wpAnyH_done (by kernel_rfl) ?_ _
        clear hHeld HFI HWR HH
        go_wp2
        exact ⟨⟨i + 1, by omega, by omega, by go_num, by rw [HDE.out]; exact HH3.out⟩, by simp [intOf]; omega⟩
      · by_cases q1 : kd = 1
        · subst q1
          have HFL := flush_h HH.out hup
          have HDE : Hid (madeD s l (i + 1) = D.settled fun _ => true) := HST.out
          go_wp2_with fail
          refine HFL.mono ?_
          rintro e V1 ⟨rfl, hh1⟩
          have HH1 : Hid (Has w V1 g (D.settled fun _ => true)) := hh1
          clear hh1 HFL HH e0 e1 e2 e3 e4
          go_wp2
          exact ⟨⟨i + 1, by omega, by omega, by go_num, by rw [HDE.out]; exact HH1.out⟩, by simp [intOf]; omega⟩
        · by_cases q4 : kd = 4
          · subst q4
            have HLI := light_any ⟨4, ad, lo, fi, pa, pl, pc, bs⟩ wr
            simp only at HLI
            by_cases hpl : pl ≤ 300
            · rw [decide_eq_true hpl] at HLI
              have HDE : Hid (madeD s l (i + 1) = (D.failed (pickOf bs)).started) := by
                show _ = _
                rw [HST.out]
                show (if pl ≤ 300 then (D.failed (pickOf bs)).started else D) = _
                rw [if_pos hpl]
              go_wp2_with fail
              refine HLI.mono ?_
              rintro e V1 ⟨rfl, hb1⟩
              have HH1 : Hid (Has w V1 g D) := HH.out.below hb1
              obtain ⟨f0, f1, f2, f3, f4⟩ := HCS.out _ HH1.out.1
              have HFA := failp_h HH1.out pa pl pc bs HIN.out.2.2.2.2
              clear hb1 HLI HH e0 e1 e2 e3 e4
              go_wp2_with fail
              refine HFA.mono ?_
              rintro e V2 ⟨rfl, hh2⟩
              have HS := start_h hh2 rfl rfl
              clear HFA HH1 hh2
              go_wp2_with fail
              refine HS.mono ?_
              rintro e V3 ⟨rfl, hh3⟩
              have HH3 : Hid (Has w V3 g (D.failed (pickOf bs)).started) := hh3
              clear hh3 HS
              go_wp2
              exact ⟨⟨i + 1, by omega, by omega, by go_num, by rw [HDE.out]; exact HH3.out⟩, by simp [intOf]; omega⟩
            · rw [decide_eq_false hpl] at HLI
              have HDE : Hid (madeD s l (i + 1) = D) := by
                show _ = _
                rw [HST.out]
                show (if pl ≤ 300 then (D.failed (pickOf bs)).started else D) = _
                rw [if_neg hpl]
              go_wp2_with fail
              refine HLI.mono ?_
              rintro e V1 ⟨rfl, hb1⟩
              have HH1 : Hid (Has w V1 g D) := HH.out.below hb1
              clear hb1 HLI HH e0 e1 e2 e3 e4
              go_wp2
              exact ⟨⟨i + 1, by omega, by omega, by go_num, by rw [HDE.out]; exact HH1.out⟩, by simp [intOf]; omega⟩
          · have HDE : Hid (madeD s l (i + 1) = D) := by
              show _ = _
              rw [HST.out]
              show (if kd = 0 then _ else if kd = 1 then _ else if kd = 4 then _ else D) = D
              rw [if_neg q0, if_neg q1, if_neg q4]
            go_wp2
            exact ⟨⟨i + 1, by omega, by omega, by go_num, by rw [HDE.out]; exact HH.out⟩, by simp [intOf]; omega⟩
    · have HH : Hid (Has w wr g (madeD s l (min len 60))) := by
        have : min len 60 = i := by omega
        rw [this]; exact hh
      clear hh
      by_cases hlt : i < len
      · have k1 : (i : Int) < (len : Int) := by omega
        have k2 : ¬ (i : Int) < 60 := by omega
        clear hgo
        go_wp2
        go_ret
        exact ⟨g, rfl, HH.out⟩
      · have k1 : ¬ (i : Int) < (len : Int) := by omega
        clear hgo
        go_wp2
        go_ret
        exact ⟨g, rfl, HH.out⟩
end Go.Proofs.Ytdlmciicapigjaa
