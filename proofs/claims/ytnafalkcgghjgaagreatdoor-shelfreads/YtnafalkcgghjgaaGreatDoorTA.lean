/- The statements' done: steps done to a table. Steps that came in are in the reach. Ranges of a table that meet, in plain mathematics. The document's table: Same, Find, Get, Size, Range. -/
import Derived.Test.YtnafalkcgghjgaaGreatDoorSR
import Derived.Test.YtnafalkcgghjgaaGreatDoorSM
import Derived.Test.YtnafalkcgghjgaaGreatDoorSA
import Derived.BigQuiet
namespace Go.Proofs.YtnafalkcgghjgaaGreatDoor
open Go.RowKit Go.Shelf
/-- A table that is there, beside what was there ahead. -/
def Kept (w0 w : World) (S : Nat → Prop) (g : Nat) (D : Dk) (sb jb n : Nat) (KK : List Mf) : Prop := ∃ F L, Tab w0.heap.size F w S g D sb jb n L KK ∧ Below w0.heap.size w0 w
theorem Kept.on {w0 w : World} {S : Nat → Prop} {g : Nat} {D : Dk} {sb jb n : Nat} {KK : List Mf} (h : Kept w0 w S g D sb jb n KK) : Below w0.heap.size w0 w := by obtain ⟨F, L, _, hb⟩ := h; exact hb
theorem Kept.below {w0 w w' : World} {S : Nat → Prop} {g : Nat} {D : Dk} {sb jb n : Nat} {KK : List Mf} (h : Kept w0 w S g D sb jb n KK) (hb : Below w.heap.size w w') : Kept w0 w' S g D sb jb n KK := by
  obtain ⟨F, L, ht, h0⟩ := h
  exact ⟨_, L, ht.below hb, h0.trans (hb.mono h0.size)⟩
theorem kept_put {w0 w : World} {S : Nat → Prop} {g : Nat} {D : Dk} {sb jb n : Nat} {KK : List Mf} (h : Kept w0 w S g D sb jb n KK) (key v : ByteArray) : Calls Tryz.prog 34 #[.pointer (some ⟨sb, 0, none⟩), .string key, .string v] w fun e w' => ∃ y : Int, e = .returned (.int .i64 y) ∧ Kept w0 w' S g D sb jb n KK := by
  by_cases hm : May (key, v)
  · obtain ⟨F, L, ht, h0⟩ := h
    refine (put_any ht key v hm).mono ?_
    rintro e w' ⟨F', L', ht', _, hb, ⟨rfl, _⟩ | ⟨rfl, _, _⟩⟩
    · exact ⟨_, rfl, F', L', ht', h0.trans hb⟩
    · exact ⟨_, rfl, F', L', ht', h0.trans hb⟩
  · refine (put_bad sb key v w hm).mono ?_
    rintro e w' ⟨rfl, hw'⟩
    subst w'
    exact ⟨_, rfl, h⟩
theorem kept_drop {w0 w : World} {S : Nat → Prop} {g : Nat} {D : Dk} {sb jb n : Nat} {KK : List Mf} (h : Kept w0 w S g D sb jb n KK) (key : ByteArray) : Calls Tryz.prog 14 #[.pointer (some ⟨sb, 0, none⟩), .string key] w fun e w' => ∃ y : Bool, e = .returned (.bool y) ∧ Kept w0 w' S g D sb jb n KK := by
  obtain ⟨F, L, ht, h0⟩ := h
  refine (drop_any ht key).mono ?_
  rintro e w' ⟨rfl, F', L', ht', _, hb, _⟩
  exact ⟨_, rfl, F', L', ht', h0.trans hb⟩
/-- What done leaves. -/
def DoneTo (w0 : World) (S : Nat → Prop) (g : Nat) (D : Dk) (sb jb n : Nat) (KK : List Mf) (e : Ending) (w' : World) : Prop := ∃ y : Bool, e = .returned (.bool y) ∧ Kept w0 w' S g D sb jb n KK
set_option maxRecDepth 100000 in
set_option maxHeartbeats 4000000 in
theorem done_any {w0 w : World} {S : Nat → Prop} {g : Nat} {D : Dk} {sb jb n : Nat} {KK : List Mf} (h : Kept w0 w S g D sb jb n KK) (a : Option Addr) (len cap : Nat) (l : List OV) (hl : Os w0 a len cap l) :
    Calls Tryz.prog 27 #[.pointer (some ⟨sb, 0, none⟩), .slice a len cap] w fun e w' => DoneTo w0 S g D sb jb n KK e w' := by
  have HOS : Hid (Os w0 a len cap l) := hl
  have hll : l.length = len := hl.1
  have HH0 : Hid (Kept w0 w S g D sb jb n KK) := h
  clear hl h
  go_enter Tryz.func27, Tryz.ntmps27
  go_wp2
  go_loopw [5] (fun v wr => ∃ i : Nat, i ≤ len ∧ i ≤ 40 ∧ v = .int .i64 i ∧ Kept w0 wr S g D sb jb n KK) (fun v _ => 41 - (intOf v).toNat)
  case atStart => exact ⟨0, by omega, by omega, rfl, HH0.out⟩
  case round =>
    clear HH0
    obtain ⟨i, hi1, hi2, rfl, hh⟩ := hrel
    by_cases hgo : i < len ∧ i < 40
    · have k1 : (i : Int) < (len : Int) := by omega
      have k2 : (i : Int) < 40 := by omega
      have hil : i < l.length := by omega
      obtain ⟨b, oo, rfl, hbl, hc⟩ := HOS.out.2.2.2 (by omega)
      have hci := hc i hil
      obtain ⟨⟨kd, nn, lo, ke, ti, va⟩, ho⟩ : ∃ o, l[i] = o := ⟨_, rfl⟩
      rw [ho] at hci
      obtain ⟨d0, d1, d2, d3, d4, d5, d6⟩ := hci
      simp only at d0 d1 d2 d3 d4 d5
      have HCS : Hid (∀ V, Below w0.heap.size w0 V → V.cell? ⟨b, oo + i * 6, none⟩ = some (.int .i64 kd) ∧ V.cell? ⟨b, oo + i * 6 + 1, none⟩ = some (.int .i64 nn) ∧ V.cell? ⟨b, oo + i * 6 + 2, none⟩ = some (.int .i64 lo) ∧ V.cell? ⟨b, oo + i * 6 + 3, none⟩ = some (.string ke) ∧ V.cell? ⟨b, oo + i * 6 + 4, none⟩ = some (.string ti) ∧ V.cell? ⟨b, oo + i * 6 + 5, none⟩ = some (.string va)) := fun V hV =>
        ⟨by rw [hV.cell hbl]; exact d0, by rw [hV.cell hbl]; exact d1, by rw [hV.cell hbl]; exact d2, by rw [hV.cell hbl]; exact d3, by rw [hV.cell hbl]; exact d4, by rw [hV.cell hbl]; exact d5⟩
      have HIN : Hid (OV.In ⟨kd, nn, lo, ke, ti, va⟩) := d6
      have HH : Hid (Kept w0 wr S g D sb jb n KK) := hh
      obtain ⟨e0, e1, e2, e3, e4, e5⟩ := HCS.out _ hh.on
      have HLI : Calls Tryz.prog 10 #[.agg #[.int .i64 kd, .int .i64 nn, .int .i64 lo, .string ke, .string ti, .string va]] wr fun e w' => e = .returned (.bool (decide (OV.w ⟨kd, nn, lo, ke, ti, va⟩ ≤ 2000))) ∧ Below wr.heap.size wr w' := light_any ⟨kd, nn, lo, ke, ti, va⟩ d6 wr
      obtain ⟨q, hq⟩ : ∃ q, decide (OV.w ⟨kd, nn, lo, ke, ti, va⟩ ≤ 2000) = q := ⟨_, rfl⟩
      rw [hq] at HLI
      clear hc d0 d1 d2 d3 d4 d5 d6 hh ho hgo hq
      go_wp2_with fail
      refine HLI.mono ?_
      rintro e V1 ⟨rfl, hb1⟩
      have HH1 : Hid (Kept w0 V1 S g D sb jb n KK) := HH.out.below hb1
      clear HLI hb1 e0 e1 e2 e3 e4 e5 HH
      obtain ⟨e0, e1, e2, e3, e4, e5⟩ := HCS.out _ HH1.out.on
      cases q with
      | false =>
        go_wp2
        go_ret
        exact ⟨false, rfl, HH1.out⟩
      | true =>
        by_cases q1 : kd = 1
        · subst q1
          have HDR := kept_drop HH1.out ke
          go_wp2_with fail
          refine HDR.mono ?_
          rintro e V2 ⟨y, rfl, hh2⟩
          have HH2 : Hid (Kept w0 V2 S g D sb jb n KK) := hh2
          clear HDR hh2
          go_wp2
          exact ⟨⟨i + 1, by omega, by omega, by go_num, HH2.out⟩, by simp [intOf]; omega⟩
        · have q2 : (kd == 1) = false := by simpa using q1
          obtain ⟨T, hT⟩ : ∃ T, OV.val ⟨kd, nn, lo, ke, ti, va⟩ = T := ⟨_, rfl⟩
          have HVA : Hid (∀ V, Calls Tryz.prog 12 #[.agg #[.int .i64 kd, .int .i64 nn, .int .i64 lo, .string ke, .string ti, .string va]] V fun e w' => e = .returned (.string T) ∧ Below V.heap.size V w') := fun V => by
            rw [← hT]; exact value_any ⟨kd, nn, lo, ke, ti, va⟩ HIN.out V
          have HPU : Hid (∀ V, Kept w0 V S g D sb jb n KK → Calls Tryz.prog 34 #[.pointer (some ⟨sb, 0, none⟩), .string ke, .string T] V fun e w' => ∃ y : Int, e = .returned (.int .i64 y) ∧ Kept w0 w' S g D sb jb n KK) := fun V hV => kept_put hV ke T
          have HHD : Hid (Kept w0 V1.drew S g D sb jb n KK) := HH1.out.below (Below.refl _ _).drew
          have HBD : Hid (Below w0.heap.size w0 V1.drew) := HHD.out.on
          clear hT
          go_wp2
          refine wp_region_held_drew (S := fun V => V.cell? ⟨b, oo + i * 6, none⟩ = some (.int .i64 kd) ∧ V.cell? ⟨b, oo + i * 6 + 1, none⟩ = some (.int .i64 nn) ∧ V.cell? ⟨b, oo + i * 6 + 2, none⟩ = some (.int .i64 lo) ∧ V.cell? ⟨b, oo + i * 6 + 3, none⟩ = some (.string ke) ∧ V.cell? ⟨b, oo + i * 6 + 4, none⟩ = some (.string ti) ∧ V.cell? ⟨b, oo + i * 6 + 5, none⟩ = some (.string va)) (by kernel_rfl) (HCS.out _ HBD.out) (fun hHeld => ?_)
          refine wpAnyH_take (i := 0) (v := ?vr0) rfl (by kernel_rfl) (by kernel_rfl) (by kernel_rfl) (fun _ _ _ h => h) (Or.inl ⟨by first | kernel_rfl | rfl, ?yr0⟩) hHeld ?rr0
          case yr0 => (intro W hSW; (try dsimp only at hSW); go_simp; (try with_reducible rfl))
          change wpAnyH _ _ _ _ _ _ _ (Act.put _ (some 35) _) _
          simp only [Act.put, List.setIfInBounds_toArray, List.set_cons_zero, List.set_cons_succ]
          refine wpAnyH_take (i := 1) (v := ?vr1) rfl (by kernel_rfl) (by kernel_rfl) (by kernel_rfl) (fun _ _ _ h => h) (Or.inl ⟨by first | kernel_rfl | rfl, ?yr1⟩) hHeld ?rr1
          case yr1 => (intro W hSW; (try dsimp only at hSW); go_simp; (try with_reducible rfl))
          change wpAnyH _ _ _ _ _ _ _ (Act.put _ (some 36) _) _
          simp only [Act.put, List.setIfInBounds_toArray, List.set_cons_zero, List.set_cons_succ]
          refine wpAnyH_take (i := 2) (v := ?vr2) rfl (by kernel_rfl) (by kernel_rfl) (by kernel_rfl) (fun _ _ _ h => h) (Or.inl ⟨by first | kernel_rfl | rfl, ?yr2⟩) hHeld ?rr2
          case yr2 => (intro W hSW; (try dsimp only at hSW); go_simp; (try with_reducible rfl))
          change wpAnyH _ _ _ _ _ _ _ (Act.put _ (some 37) _) _
          simp only [Act.put, List.setIfInBounds_toArray, List.set_cons_zero, List.set_cons_succ]
          refine wpAnyH_take (i := 3) (v := ?vr3) rfl (by kernel_rfl) (by kernel_rfl) (by kernel_rfl) (fun _ _ _ h => h) (Or.inl ⟨by first | kernel_rfl | rfl, ?yr3⟩) hHeld ?rr3
          case yr3 => (intro W hSW; (try dsimp only at hSW); go_simp; (try with_reducible rfl))
          change wpAnyH _ _ _ _ _ _ _ (Act.put _ (some 38) _) _
          simp only [Act.put, List.setIfInBounds_toArray, List.set_cons_zero, List.set_cons_succ]
          refine wpAnyH_take (i := 4) (v := ?vr4) rfl (by kernel_rfl) (by kernel_rfl) (by kernel_rfl) (fun _ _ _ h => h) (Or.inl ⟨by first | kernel_rfl | rfl, ?yr4⟩) hHeld ?rr4
          case yr4 => (intro W hSW; (try dsimp only at hSW); go_simp; (try with_reducible rfl))
          change wpAnyH _ _ _ _ _ _ _ (Act.put _ (some 39) _) _
          simp only [Act.put, List.setIfInBounds_toArray, List.set_cons_zero, List.set_cons_succ]
          refine wpAnyH_take (i := 5) (v := ?vr5) rfl (by kernel_rfl) (by kernel_rfl) (by kernel_rfl) (fun _ _ _ h => h) (Or.inl ⟨by first | kernel_rfl | rfl, ?yr5⟩) hHeld ?rr5
          case yr5 => (intro W hSW; (try dsimp only at hSW); go_simp; (try with_reducible rfl))
          change wpAnyH _ _ _ _ _ _ _ (Act.put _ (some 40) _) _
          simp only [Act.put, List.setIfInBounds_toArray, List.set_cons_zero, List.set_cons_succ]
          refine wpAnyH_take (i := 6) (v := ?vr6) rfl (by kernel_rfl) (by kernel_rfl) (by kernel_rfl) (fun _ _ _ h => h) (Or.inl ⟨by first | kernel_rfl | rfl, ?yr6⟩) hHeld ?rr6
          case yr6 => (intro W hSW; (try dsimp only at hSW); go_simp; (try with_reducible rfl))
          change wpAnyH _ _ _ _ _ _ _ (Act.put _ (some 41) _) _
          simp only [Act.put, List.setIfInBounds_toArray, List.set_cons_zero, List.set_cons_succ]
          refine wpAnyH_take (i := 7) (v := ?vr7) rfl (by kernel_rfl) (by kernel_rfl) (by kernel_rfl) (fun _ _ _ h => h) (Or.inl ⟨by first | kernel_rfl | rfl, ?yr7⟩) hHeld ?rr7
          case yr7 => (intro W hSW; (try dsimp only at hSW); go_simp; (try with_reducible rfl))
          change wpAnyH _ _ _ _ _ _ _ (Act.put _ (some 42) _) _
          simp only [Act.put, List.setIfInBounds_toArray, List.set_cons_zero, List.set_cons_succ]
          refine wpAnyH_take (i := 8) (v := ?vr8) rfl (by kernel_rfl) (by kernel_rfl) (by kernel_rfl) (fun _ _ _ h => h) (Or.inl ⟨by first | kernel_rfl | rfl, ?yr8⟩) hHeld ?rr8
          case yr8 => (intro W hSW; (try dsimp only at hSW); go_simp; (try with_reducible rfl))
          change wpAnyH _ _ _ _ _ _ _ (Act.put _ (some 43) _) _
          simp only [Act.put, List.setIfInBounds_toArray, List.set_cons_zero, List.set_cons_succ]
          refine wpAnyH_take (i := 9) (v := ?vr9) rfl (by kernel_rfl) (by kernel_rfl) (by kernel_rfl) (fun _ _ _ h => h) (Or.inl ⟨by first | kernel_rfl | rfl, ?yr9⟩) hHeld ?rr9
          case yr9 => (intro W hSW; (try dsimp only at hSW); go_simp; (try with_reducible rfl))
          change wpAnyH _ _ _ _ _ _ _ (Act.put _ (some 44) _) _
          simp only [Act.put, List.setIfInBounds_toArray, List.set_cons_zero, List.set_cons_succ]
          refine wpAnyH_ready (rs := [10]) (by kernel_rfl) (by simp) ?_
          refine AllReadyH.cons rfl (fun K hK => ?_) AllReadyH.nil
          go_simp
          refine (HVA.out _).mono ?_
          rintro e V2 ⟨rfl, hb2⟩; have HH2 : Hid (Kept w0 V2 S g D sb jb n KK) := HHD.out.below hb2; clear hb2
          refine hK.out _ _ (HCS.out _ HH2.out.on) (fun hHeld => ?_)
          clear hK K
          try simp only [Act.put, List.setIfInBounds_toArray, List.set_cons_zero, List.set_cons_succ]
          refine wpAnyH_ready (rs := [11]) (by kernel_rfl) (by simp) ?_
          refine AllReadyH.cons rfl (fun K hK => ?_) AllReadyH.nil
          go_simp
          refine ((HPU.out V2 HH2.out)).mono ?_
          rintro e V3 ⟨y, rfl, hh3⟩; have HH3 : Hid (Kept w0 V3 S g D sb jb n KK) := hh3; clear hh3 HH2
          refine hK.out _ _ (HCS.out _ HH3.out.on) (fun hHeld => ?_)
          clear hK K
          try simp only [Act.put, List.setIfInBounds_toArray, List.set_cons_zero, List.set_cons_succ]
          refine wpAnyH_done (by kernel_rfl) ?_ _
          clear hHeld HVA HPU HHD HBD
          go_wp2
          exact ⟨⟨i + 1, by omega, by omega, by go_num, HH3.out⟩, by simp [intOf]; omega⟩
    · by_cases hlt : i < len
      · have k1 : (i : Int) < (len : Int) := by omega
        have k2 : ¬ (i : Int) < 40 := by omega
        have HH : Hid (Kept w0 wr S g D sb jb n KK) := hh
        clear hh hgo
        go_wp2
        go_ret
        exact ⟨true, rfl, HH.out⟩
      · have k1 : ¬ (i : Int) < (len : Int) := by omega
        have HH : Hid (Kept w0 wr S g D sb jb n KK) := hh
        clear hh hgo
        go_wp2
        go_ret
        exact ⟨true, rfl, HH.out⟩
end Go.Proofs.YtnafalkcgghjgaaGreatDoor
namespace Go.Proofs.YtnafalkcgghjgaaGreatDoor
open Go.ChangeShapes Go.WideShapes Go.ChangeAt Go.RowKit Go.Deep Go.Shelf
set_option maxRecDepth 100000 in
theorem ops_len {H : Type} {enc : TypeId × Value → H} {W : World} {base : Nat} {spare : Nat → Bool} {held : Bool} {fuel : Nat} {a : Option Addr} {len cap : Nat} {x : DataW H × List MemPlace}
    (hf : DataW.trod enc Tryz.prog W base spare held fuel 22 [.slice a len cap] = some x) (hw : ∀ n ∈ x.1.weights Tryz.prog 22, n ≤ reachBytes) : len ≤ 140737488351232 := by
  rcases open_slice Tryz.underlying22 hf with ⟨hcs, _⟩ | ⟨ad, l, c, m, n, D, Pl, hcs, _, hl, hm, hmm, hx, hV⟩
  · simp only [List.cons.injEq, Value.slice.injEq, and_true] at hcs
    obtain ⟨rfl, rfl, rfl⟩ := hcs
    omega
  · simp only [List.cons.injEq, Value.slice.injEq, and_true] at hcs
    obtain ⟨rfl, rfl, rfl⟩ := hcs
    subst hx
    have h := hw ((((List.range len).map D).length + ((List.range (m - len)).map fun j => D (len + j)).length) * Tryz.prog.bytesOf 31) (by
      simp only [DataW.weights, Tryz.underlying22, List.mem_cons, List.mem_append, true_or])
    rw [show Tryz.prog.bytesOf 31 = 72 by kernel_rfl] at h
    simp [reachBytes] at h
    omega
theorem ops_in {H : Type} {enc : TypeId × Value → H} {W : World} {base : Nat} {spare : Nat → Bool} {held : Bool} {fuel : Nat} {a : Option Addr} {len cap : Nat} {d : DataW H} {p : List MemPlace} {ts : List TypeId} {ds : List (DataW H)} {j : Nat}
    (hf : DataW.trod enc Tryz.prog W base spare held fuel 22 [.slice a len cap] = some (d, p)) (hsz : (DataW.weightsEach Tryz.prog ts ds).all (· ≤ reachBytes) = true) (ht : ts[j]? = some 22) (hd : ds[j]? = some d) : ∃ l, Os W a len cap l ∧ len ≤ 140737488351232 := by
  have hw : ∀ n ∈ d.weights Tryz.prog 22, n ≤ reachBytes := fun n hn => by
    have := List.all_eq_true.1 hsz n (DataW.weights_mem_each ht hd n hn)
    simpa using this
  obtain ⟨l, hl⟩ := ops_of hf hw
  exact ⟨l, hl, ops_len hf hw⟩
theorem Os.cells {w : World} {a : Option Addr} {len cap : Nat} {l : List OV} (h : Os w a len cap l) {i : Nat} (hi : i < len) : ∃ b o, ∃ x : OV, a = some ⟨b, o, none⟩ ∧ b < w.heap.size ∧ x.In ∧ ∀ V, Below w.heap.size w V →
    V.cell? ⟨b, o + i * 6, none⟩ = some (.int .i64 x.kind) ∧ V.cell? ⟨b, o + i * 6 + 1, none⟩ = some (.int .i64 x.n) ∧ V.cell? ⟨b, o + i * 6 + 2, none⟩ = some (.int .i64 x.long) ∧
      V.cell? ⟨b, o + i * 6 + 3, none⟩ = some (.string x.key) ∧ V.cell? ⟨b, o + i * 6 + 4, none⟩ = some (.string x.til) ∧ V.cell? ⟨b, o + i * 6 + 5, none⟩ = some (.string x.value) := by
  obtain ⟨h1, _, _, h4⟩ := h
  obtain ⟨b, o, rfl, hbl, hc⟩ := h4 (by omega)
  obtain ⟨d0, d1, d2, d3, d4, d5, d6⟩ := hc i (by omega)
  refine ⟨b, o, l[i], rfl, hbl, d6, fun V hV => ?_⟩
  exact ⟨by rw [hV.cell hbl]; exact d0, by rw [hV.cell hbl]; exact d1, by rw [hV.cell hbl]; exact d2, by rw [hV.cell hbl]; exact d3, by rw [hV.cell hbl]; exact d4, by rw [hV.cell hbl]; exact d5⟩
theorem room_eq (T : List Pr) (k v : ByteArray) : (if isT T k then (szL T : Int) + 3 + (k.size : Int) + (v.size : Int) - 3 - (k.size : Int) - ((((getT T k).getD ByteArray.empty).size : Nat) : Int) else (szL T : Int) + 3 + (k.size : Int) + (v.size : Int)) = (szL (putT T k v) : Int) := by
  have h := sz_put T k v
  cases hi : isT T k
  · have hg : getT T k = none := by unfold getT; rw [hi]; rfl
    rw [hg] at h
    rw [if_neg (by simp)]
    simp only [eSz] at h
    omega
  · obtain ⟨u, hg⟩ : ∃ u, getT T k = some u := by
      unfold getT
      rw [hi, if_pos rfl]
      unfold isT hasK at hi
      cases hh : highT T k with
      | nil => rw [hh] at hi; cases hi
      | cons p r => exact ⟨_, rfl⟩
    rw [hg] at h ⊢
    rw [if_pos rfl]
    simp only [eSz, Option.getD_some] at h ⊢
    omega
theorem val_le (o : OV) (h : o.In) : o.val.size ≤ 140737488351232 := by
  unfold OV.val
  split
  · exact h.2.2.2.2.2
  · rename_i hl
    rw [strOf_size]
    simp
    omega
theorem get_le (T : List Pr) (k v : ByteArray) : ((getT T k).getD ByteArray.empty).size ≤ szL T + eSz (k, v) := by
  have h := sz_put T k v
  cases hg : getT T k with
  | none => simp
  | some u =>
    rw [hg] at h
    simp only [eSz, Option.getD_some] at h ⊢
    omega
end Go.Proofs.YtnafalkcgghjgaaGreatDoor
namespace Go.Proofs.YtnafalkcgghjgaaGreatDoor
/-- The entries from one key to another one. -/
def midT (T : List Pr) (f t : ByteArray) : List Pr := T.filter fun p => !sl p.1 f && !sl t p.1
theorem range_mid (T : List Pr) (f t : ByteArray) (m : Int) : rangeT T f t m = (midT T f t).take m.toNat := rfl
theorem mid_len (T : List Pr) (f t : ByteArray) : (midT T f t).length ≤ T.length := List.length_filter_le _ _
theorem range_full {T : List Pr} (f t : ByteArray) (m : Int) (h : (T.length : Int) ≤ m) : rangeT T f t m = midT T f t := by
  rw [range_mid]
  refine List.take_of_length_le ?_
  have := mid_len T f t
  omega
theorem mid_rise {T : List Pr} (h : Rise T) (f t : ByteArray) : Rise (midT T f t) := List.Pairwise.filter _ h
theorem mid_mem {T : List Pr} {f t : ByteArray} {p : Pr} (h : p ∈ midT T f t) : p ∈ T ∧ sl p.1 f = false ∧ sl t p.1 = false := by
  unfold midT at h
  rw [List.mem_filter] at h
  simpa using h
theorem get_mem {T : List Pr} (h : Rise T) {p : Pr} (hp : p ∈ T) : isT T p.1 = true ∧ getT T p.1 = some p.2 := by
  have hh : p ∈ highT T p.1 := by
    rw [← low_high T p.1] at hp
    rcases List.mem_append.1 hp with h1 | h1
    · have := low_lt p h1
      rw [sl_irr] at this
      cases this
    · exact h1
  have hr := (h.parts p.1).2.1
  have hd := fun q => high_hd (T := T) (k := p.1) (p := q)
  unfold getT
  unfold isT
  generalize highT T p.1 = Y at *
  cases Y with
  | nil => simp at hh
  | cons y Y =>
    have e : y = p := by
      rcases List.mem_cons.1 hh with e | hm
      · exact e.symm
      · have h1 := hd y rfl
        have h2 := (List.pairwise_cons.1 hr).1 p hm
        rw [h1] at h2
        cases h2
    subst e
    simp [hasK]
theorem mid_low {X : List Pr} {k f t : ByteArray} (hx : ∀ p ∈ X, sl p.1 k = true) (h : sl t k = false) : midT X f t = X.filter fun p => !sl p.1 f := by
  unfold midT
  refine List.filter_congr fun p hp => ?_
  have h1 : sl t p.1 = false := sl_asym (sl_le_trans (hx p hp) h)
  rw [h1]
  simp
theorem mid_none {X : List Pr} {k t : ByteArray} (hx : ∀ p ∈ X, sl p.1 k = true) : midT X k t = [] := by
  unfold midT
  rw [List.filter_eq_nil_iff]
  intro p hp
  rw [hx p hp]
  simp
theorem mid_gone {X : List Pr} {k f : ByteArray} (hx : ∀ p ∈ X, sl k p.1 = true) : midT X f k = [] := by
  unfold midT
  rw [List.filter_eq_nil_iff]
  intro p hp
  rw [hx p hp]
  simp
theorem mid_high {X : List Pr} {k f t : ByteArray} (hx : ∀ p ∈ X, sl k p.1 = true) (h : sl k f = false) : midT X f t = X.filter fun p => !sl t p.1 := by
  unfold midT
  refine List.filter_congr fun p hp => ?_
  have h1 : sl p.1 f = false := by
    refine sl_asym ?_
    exact sl_of_le_lt h (hx p hp)
  rw [h1]
  simp
theorem mid_app (X Y : List Pr) (f t : ByteArray) : midT (X ++ Y) f t = midT X f t ++ midT Y f t := List.filter_append ..
theorem mid_one {k v f t : ByteArray} (h : sl k f = false) (h2 : sl t k = false) : midT [(k, v)] f t = [(k, v)] := by
  unfold midT
  simp [h, h2]
/-- A table, parted at a key. -/
theorem parted_at {T : List Pr} (k : ByteArray) : T = lowT T k ++ ((match getT T k with | some v => [(k, v)] | none => []) ++ restT T k) := by
  cases h : getT T k with
  | none =>
    have := (get_none h).2
    simp only [List.nil_append]
    rw [← this, low_high]
  | some v =>
    have := (get_some h).2
    simp only [List.cons_append, List.nil_append]
    rw [← this, low_high]
theorem one_range {T : List Pr} (h : Rise T) (k : ByteArray) : rangeT T k k 5 = if isT T k then [(k, (getT T k).getD ByteArray.empty)] else [] := by
  have hr := rest_gt h k
  have e : midT T k k = match getT T k with | some v => [(k, v)] | none => [] := by
    conv => lhs; rw [parted_at (T := T) k]
    rw [mid_app, mid_app, mid_none low_lt, mid_gone hr.2]
    cases getT T k with
    | none => rfl
    | some v => simp only [List.nil_append, List.append_nil]; exact mid_one (sl_irr k) (sl_irr k)
  rw [range_mid, e]
  cases hg : getT T k with
  | none => rw [(get_none hg).1]; rfl
  | some v => rw [(get_some hg).1]; rfl
theorem mid_join {T : List Pr} (h : Rise T) {a b c : ByteArray} (h1 : sl b a = false) (h2 : sl c b = false) : midT T a b ++ (if isT T b then (midT T b c).drop 1 else midT T b c) = midT T a c := by
  have hr := rest_gt h b
  have e1 : midT T a b = ((lowT T b).filter fun p => !sl p.1 a) ++ (match getT T b with | some v => [(b, v)] | none => []) := by
    conv => lhs; rw [parted_at (T := T) b]
    rw [mid_app, mid_app, mid_low low_lt (sl_irr b), mid_gone hr.2, List.append_nil]
    cases getT T b with
    | none => rfl
    | some v => simp only; rw [mid_one h1 (sl_irr b)]
  have e2 : midT T b c = (match getT T b with | some v => [(b, v)] | none => []) ++ ((restT T b).filter fun p => !sl c p.1) := by
    conv => lhs; rw [parted_at (T := T) b]
    rw [mid_app, mid_app, mid_none low_lt, mid_high hr.2 (sl_irr b), List.nil_append]
    cases getT T b with
    | none => rfl
    | some v => simp only; rw [mid_one (sl_irr b) h2]
  have e3 : midT T a c = ((lowT T b).filter fun p => !sl p.1 a) ++ ((match getT T b with | some v => [(b, v)] | none => []) ++ ((restT T b).filter fun p => !sl c p.1)) := by
    conv => lhs; rw [parted_at (T := T) b]
    rw [mid_app, mid_app, mid_low low_lt h2, mid_high hr.2 h1]
    cases getT T b with
    | none => rfl
    | some v => simp only; rw [mid_one h1 h2]
  rw [e1, e2, e3]
  cases hg : getT T b with
  | none => rw [(get_none hg).1]; simp
  | some v => rw [(get_some hg).1]; simp
theorem take_min (l : List Pr) (m : Int) : (l.take m.toNat) = l.take (max 0 (min m (l.length : Int))).toNat := by
  by_cases h : m ≤ (l.length : Int)
  · congr 1
    omega
  · rw [List.take_of_length_le (by omega), List.take_of_length_le (by omega)]
end Go.Proofs.YtnafalkcgghjgaaGreatDoor
namespace Go.Proofs.YtnafalkcgghjgaaGreatDoor
open Go.RowKit
theorem below_drewN {B : Nat} {a w : World} (h : Below B a w) : ∀ n : Nat, Below B a (w.drewN n)
  | 0 => by rw [World.drewN_zero]; exact h
  | n + 1 => by rw [← World.drew_drewN]; exact (below_drewN h n).drew
theorem eqin_pair (a b c d : ByteArray) (w : World) : (Op.equalIn 10000 63 (.agg #[.string a, .string b]) (.agg #[.string c, .string d])).run Tryz.prog w = .ok (decide (a = c ∧ b = d)) w := by
  have u9 := Tryz.underlying9
  have a9 := Tryz.isAgg9
  have z9 := Tryz.sizeOf9
  have hS : Tryz.prog.underlying 63 = some (.struct (Tryz.prog.fieldsOf 63)) := by kernel_rfl
  have hp : Tryz.prog.stoodInHeld 63 = false := by kernel_rfl
  rw [show (10000 : Nat) = 9999 + 1 from rfl, run_equalIn_agg w 9999 63 _ _ hS hp]
  simp only [Program.fieldsOf, Tryz.underlying63]
  go_simp
  by_cases h1 : a = c
  · subst h1
    by_cases h2 : b = d
    · subst h2; simp
    · have := str_ne h2
      simp [h2, this]
  · have := str_ne h1
    simp [h1, this]
theorem leq_sl (a b : ByteArray) : (Op.bytesLess a.toList b.toList || a.toList == b.toList) = !sl b a := by
  unfold sl
  cases h1 : Op.bytesLess b.toList a.toList with
  | true =>
    have h2 : Op.bytesLess a.toList b.toList = false := sl_asym (a := b) (b := a) h1
    have h3 : (a.toList == b.toList) = false := by
      have h4 := sl_ne (a := b) (b := a) h1
      exact str_nb (fun e => h4 e.symm)
    rw [h2, h3]; rfl
  | false =>
    cases h2 : Op.bytesLess a.toList b.toList with
    | true => rfl
    | false =>
      have := sl_tot (a := a) (b := b) h2 h1
      subst this
      simp
theorem take_eq_succ {l k : List Pr} {i : Nat} {p q : Pr} (h : l.take i = k.take i) (hp : l[i]? = some p) (hq : k[i]? = some q) (e : p = q) : l.take (i + 1) = k.take (i + 1) := by
  rw [take_snoc hp, take_snoc hq, h, e]
set_option maxRecDepth 100000 in
set_option maxHeartbeats 1000000 in
theorem same_any {G H : Nat → Prop} {w : World} {a : Option Addr} {n c : Nat} {la : List Pr} {b : Option Addr} {m d : Nat} {lb : List Pr} (ha : Pw G w a n c la) (hb : Pw H w b m d lb) :
    Calls Tryz.prog 17 #[.slice a n c, .slice b m d] w fun e w' => e = .returned (.bool (decide (la = lb))) ∧ Below w.heap.size w w' := by
  have hla := ha.len
  have hlb := hb.len
  have hmx : n ≤ 9223372036854775807 := by have h1 := ha.2.1; have h2 := ha.2.2.1; unfold maxLen at h2; omega
  by_cases hnm : n = m
  · subst hnm
    have HA : Hid (∀ W, Below w.heap.size w W → Pw G W a n c la ∧ Pw H W b n d lb) := fun W hW => ⟨ha.below hW, hb.below hW⟩
    clear ha hb
    go_enter Tryz.func17, Tryz.ntmps17
    go_wp2
    go_loopw [5] (fun v wr => ∃ i : Nat, i ≤ n ∧ v = .int .i64 i ∧ la.take i = lb.take i ∧ Below w.heap.size w wr) (fun v _ => n - (intOf v).toNat)
    case atStart => exact ⟨0, by omega, rfl, rfl, Below.refl _ _⟩
    case round =>
      obtain ⟨i, hi, rfl, htk, hbw⟩ := hrel
      by_cases hlt : i < n
      · have kk : (i : Int) < (n : Int) := by omega
        obtain ⟨h1, h2⟩ := HA.out wr hbw
        obtain ⟨ab, ao, rfl, _, _, hc⟩ := h1.at (by omega)
        obtain ⟨bb, bo, rfl, _, _, hd⟩ := h2.at (by omega)
        have hp : la[i]? = some la[i] := List.getElem?_eq_getElem (by omega)
        have hq : lb[i]? = some lb[i] := List.getElem?_eq_getElem (by omega)
        obtain ⟨⟨p1, p2⟩, hpe⟩ : ∃ p, la[i]'(by omega) = p := ⟨_, rfl⟩
        obtain ⟨⟨q1, q2⟩, hqe⟩ : ∃ q, lb[i]'(by omega) = q := ⟨_, rfl⟩
        rw [hpe] at hp
        rw [hqe] at hq
        obtain ⟨c1, c2⟩ := hc i _ hp
        obtain ⟨d1, d2⟩ := hd i _ hq
        simp only at c1 c2 d1 d2
        have he := fun W => eqin_pair p1 p2 q1 q2 W
        obtain ⟨y, hy⟩ : ∃ y, decide (p1 = q1 ∧ p2 = q2) = y := ⟨_, rfl⟩
        rw [hy] at he
        have HE : Hid (decide (p1 = q1 ∧ p2 = q2) = y ∧ la[i]? = some (p1, p2) ∧ lb[i]? = some (q1, q2) ∧ la.take i = lb.take i ∧ Below w.heap.size w wr) := ⟨hy, hp, hq, htk, hbw⟩
        clear hc hd hp hq hpe hqe hy htk hbw h1 h2
        cases y with
        | true =>
          go_wp2
          go_quiet (fail)
          go_wp2
          refine ⟨⟨i + 1, by omega, by go_num, ?_, below_drewN HE.out.2.2.2.2 _⟩, by simp [intOf]; omega⟩
          have h5 := of_decide_eq_true HE.out.1
          exact take_eq_succ HE.out.2.2.2.1 HE.out.2.1 HE.out.2.2.1 (Prod.ext h5.1 h5.2)
        | false =>
          go_wp2
          go_quiet (fail)
          go_wp2
          go_ret
          have hd : decide (la = lb) = false := decide_eq_false fun e => by
            have h5 := HE.out.2.1
            rw [e, HE.out.2.2.1] at h5
            have h6 := Option.some.inj h5
            have h7 := of_decide_eq_false HE.out.1
            rw [Prod.mk.injEq] at h6
            exact h7 ⟨h6.1.symm, h6.2.symm⟩
          rw [hd]
          exact ⟨rfl, below_drewN HE.out.2.2.2.2 _⟩
      · obtain rfl : i = n := by omega
        have kk : ¬ (i : Int) < (i : Int) := by omega
        have HE : Hid (la.take i = lb.take i ∧ Below w.heap.size w wr) := ⟨htk, hbw⟩
        clear htk hbw
        go_wp2
        go_ret
        have hd : decide (la = lb) = true := decide_eq_true (by
          have h5 := HE.out.1
          rw [List.take_of_length_le (by omega), List.take_of_length_le (by omega)] at h5
          exact h5)
        rw [hd]
        exact ⟨rfl, HE.out.2⟩
  · have hne : ¬ (n : Int) = (m : Int) := by omega
    have hnb : ((n : Int) == (m : Int)) = false := by simpa using hne
    clear ha hb
    go_enter Tryz.func17, Tryz.ntmps17
    go_wp2
    go_ret
    have hd : decide (la = lb) = false := decide_eq_false fun e => by rw [e] at hla; omega
    rw [hd]
    exact ⟨rfl, Below.refl _ _⟩
end Go.Proofs.YtnafalkcgghjgaaGreatDoor
