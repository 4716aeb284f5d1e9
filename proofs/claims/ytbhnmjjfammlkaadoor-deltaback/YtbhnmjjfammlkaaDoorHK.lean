/- A walk over Make. -/
import Derived.Test.YtbhnmjjfammlkaaDoorHL
namespace Go.Proofs.YtbhnmjjfammlkaaDoor
open Go.RowKit
def makeL (k : ByteArray) (L : List Sg) (z last : Nat) (t : ByteArray) : List Pc := makeP (nextP (sgL k) L z last) [] t.data.toList
/-- What Make leaves. -/
def MkTo (w : World) (l : List Pc) (er : Int) (e : Ending) (w' : World) : Prop := ∃ (a : Option Addr) (n c : Nat), e = .returned (.tuple #[.slice a n c, .int .i64 er]) ∧ w'.ownsRow w.heap.size 48 3 (.slice a n c) n (pcR l) ∧ Below w.heap.size w w'
theorem tail_l (t : ByteArray) (p : Nat) : (t.extract p t.size).data.toList = t.data.toList.drop p := by
  rw [ext_l, List.take_of_length_le]
  rw [List.length_drop, Array.length_toList]
  exact Nat.le_refl _
set_option maxRecDepth 100000 in
set_option maxHeartbeats 4000000 in
theorem make_any {G : Nat → Prop} {w : World} {a : Option Addr} {n c : Nat} {L : List Sg} (h : Gw G w a n c L) (hw : ∀ s ∈ L, s.1 < 4294967296) (k t : ByteArray) (z last : Nat) (hz1 : 1 ≤ z) (hz2 : z ≤ 128) (hlz : last ≤ z) (h0 : last = 0 ↔ n = 0) (hn : n ≤ 1024) (ht : t.size ≤ 1024) (hk : k.size ≤ 1000000) (hL : Laid w) :
    Calls Tryd.prog 10 #[.string k, .slice a n c, .int .i64 (z : Int), .int .i64 (last : Int), .string t] w fun e w' => MkTo w (makeL k L z last t) 0 e w' := by
  have HG := goodsize_any (z : Int) w
  have hgz : goodZ (z : Int) = true := by simp [goodZ]; omega
  rw [hgz] at HG
  have hll := h.len
  have HN := new_index h hw
  rw [List.take_of_length_le (by omega)] at HN
  have HA : Hid ((∀ V, Below w.heap.size w V → Gw G V a n c L ∧ Laid V) ∧ L.length = n ∧ (last = 0 ↔ n = 0) ∧ k.size ≤ 1000000 ∧ t.data.toList.length = t.size) := ⟨fun V hV => ⟨h.below hV, hL.below hV⟩, hll, h0, hk, Array.length_toList⟩
  have b1 : ((last : Int) == 0) = ((n : Int) == 0) := by
    by_cases e : last = 0
    · have := h0.1 e; subst this; subst e; rfl
    · have e2 : ¬ n = 0 := fun e3 => e (h0.2 e3)
      rw [show ((last : Int) == 0) = false by simpa using e, show ((n : Int) == 0) = false by simpa using e2]
  obtain ⟨bz, hbz⟩ : ∃ bz, ((n : Int) == 0) = bz := ⟨_, rfl⟩
  rw [hbz] at b1
  have kl0 : ¬ (last : Int) < 0 := by omega
  have klz : ¬ (z : Int) < (last : Int) := by omega
  have kt : ¬ (1024 : Int) < (t.size : Int) := by omega
  have kn : ¬ (1024 : Int) < (n : Int) := by omega
  have hbb : (bz == bz) = true := by simp
  clear h hL hk hgz hll h0 hw
  go_enter Tryd.func10, Tryd.ntmps10
  go_wp2_with fail
  refine HG.mono ?_
  rintro e V ⟨rfl, hV⟩
  subst V
  clear HG
  go_wp2_with fail
  refine HN.mono ?_
  rintro e V1 ⟨g, rfl, hinx, hb1, _⟩
  have H1 : Hid (Below w.heap.size w V1) := hb1
  have HWH := dwhole_any hinx k t z last hz1 hz2 ht HA.out.2.2.2.1 (HA.out.1 V1 hb1).2
  clear HN hinx hb1
  go_wp2_with fail
  refine HWH.mono ?_
  rintro e V2 ⟨oa, oc, out, done, rfl, hown, hwe, hb2⟩
  have hdl := hwe.done_le
  have hdt : done ≤ t.size := by have := hdl.1; have := HA.out.2.2.2.2; omega
  have hol : out.length ≤ 2048 := by omega
  have hB2 : Below w.heap.size w V2 := H1.out.trans (hb2.mono H1.out.size)
  have ho2 : V2.ownsRow w.heap.size 48 3 (.slice oa out.length oc) out.length (pcR out) := own_base hown H1.out.size
  obtain ⟨on, hon⟩ : ∃ on, out.length = on := ⟨_, rfl⟩
  rw [hon] at ho2 hol ⊢
  have H2 : Hid (V2.ownsRow w.heap.size 48 3 (.slice oa on oc) on (pcR out) ∧ Below w.heap.size w V2 ∧ WinE (sgL k) L z last t.data.toList out done) := ⟨ho2, hB2, hwe⟩
  obtain ⟨GV, hGV⟩ : ∃ x : Gw G V2 a n c L, True := ⟨(HA.out.1 V2 hB2).1, trivial⟩
  have hLV := (HA.out.1 V2 hB2).2
  clear HWH hown hwe hb2 hdl H1 ho2 hB2 hon hGV
  have kdt : (done : Int) ≤ (t.size : Int) := by omega
  by_cases hl0 : last = 0
  · subst hl0
    have HWN : Hid (makeL k L z 0 t = out ++ bytP (t.extract done t.size).data.toList) := by
      rw [tail_l]
      exact H2.out.2.2.no (fun hh => by omega)
    obtain ⟨bys, hby⟩ : ∃ bys, t.extract done t.size = bys := ⟨_, rfl⟩
    rw [hby] at HWN
    clear GV
    go_wp2
    go_quiet (fail)
    have HD : Hid (V2.ownsRow w.heap.size 48 3 (.slice oa on oc) on (pcR out) ∧ Below w.heap.size w V2) := ⟨H2.out.1, H2.out.2.1⟩
    go_wp2_with fail
    refine (withb_any (own_keep HD.out.1 (fun j hj => (below_drewN (Below.refl V2.heap.size V2) _).block j (HD.out.1.lt j hj).2)) (HD.out.2.trans ((below_drewN (Below.refl V2.heap.size V2) _).mono HD.out.2.size)).size (by omega) bys).mono ?_
    rintro e V3 ⟨a2, c2, rfl, ho3, hb3⟩
    have HE : Hid (MkTo w (makeL k L z 0 t) 0 (.returned (.tuple #[.slice a2 (out ++ bytP bys.data.toList).length c2, .int .i64 0])) V3) := by
      rw [HWN.out]
      exact ⟨a2, _, c2, rfl, ho3, (HD.out.2.trans ((below_drewN (Below.refl V2.heap.size V2) _).mono HD.out.2.size)).trans hb3⟩
    obtain ⟨n2, hn2⟩ : ∃ n2, (out ++ bytP bys.data.toList).length = n2 := ⟨_, rfl⟩
    rw [hn2] at HE ⊢
    clear ho3 hb3 hn2
    go_wp2
    refine bodyPost_ret (v := .tuple #[.slice a2 n2 c2, .int .i64 0]) ?_ rfl HE.out
    simp [results, go_sem]
  · have kl1 : (0 : Int) < (last : Int) := by omega
    by_cases hend : done + last ≤ t.size
    · obtain ⟨en, hen⟩ : ∃ en, t.size - last = en := ⟨_, rfl⟩
      have ken : (t.size : Int) - (last : Int) = (en : Int) := by omega
      have kde : (done : Int) ≤ (en : Int) := by omega
      have ket : (en : Int) ≤ (t.size : Int) := by omega
      obtain ⟨win, hwi⟩ : ∃ win, t.extract en t.size = win := ⟨_, rfl⟩
      have hwl : win.data.toList = t.data.toList.drop en := by rw [← hwi]; exact tail_l t en
      have hws : win.size ≤ 1024 := by rw [← hwi, ByteArray.size_extract]; omega
      have hnp : ¬ n = 0 := fun e => hl0 (HA.out.2.2.1.2 e)
      obtain ⟨ab, ao, rfl, hab, hc⟩ := GV.at (by omega)
      obtain ⟨m, hm⟩ : ∃ m, m + 1 = n := ⟨n - 1, by omega⟩
      have km : (n : Int) - 1 = (m : Int) := by omega
      have kmn : (m : Int) < (n : Int) := by omega
      have wmm : IntKind.i64.wrap (m : Int) = (m : Int) := by rw [IntKind.wrap_i64]; omega
      obtain ⟨⟨t1, t2⟩, hti⟩ : ∃ s, L[m]? = some s := ⟨_, List.getElem?_eq_getElem (by have := HA.out.2.1; omega)⟩
      obtain ⟨c0, c1⟩ := hc m (t1, t2) hti
      simp only at c0 c1
      have HO := one_any k win V2.drew HA.out.2.2.2.1 (by omega) (hLV.below (Below.refl _ V2).drew)
      have hgl : L.getLast? = some (t1, t2) := by rw [List.getLast?_eq_getElem?, HA.out.2.1, show n - 1 = m by omega]; exact hti
      obtain ⟨⟨s1, s2⟩, hs⟩ : ∃ s, sgOf k win = s := ⟨_, rfl⟩
      rw [hs] at HO
      simp only at HO
      have hsgl : sgL k (t.data.toList.drop (t.size - last)) = (s1, s2) := by rw [hen, ← hwl, sgL_ba, hs]
      have HC : Hid (∀ V, Below V2.heap.size V2 V → V.cell? ⟨ab, ao + m * 2, none⟩ = some (.int .u32 (t1 : Int)) ∧ V.cell? ⟨ab, ao + m * 2 + 1, none⟩ = some (.string t2)) := fun V hV => ⟨by rw [hV.cell hab]; exact c0, by rw [hV.cell hab]; exact c1⟩
      have hbd := Below.drew (Below.refl V2.heap.size V2)
      have hlp : 0 < last := by omega
      have dk1 : decide ((0 : Int) < (last : Int)) = true := decide_eq_true kl1
      have dk2 : decide (0 < last) = true := decide_eq_true hlp
      have dk3 : decide ((done : Int) ≤ (en : Int)) = true := decide_eq_true kde
      have dk4 : decide (done ≤ en) = true := decide_eq_true (by omega)
      by_cases he : (s1, s2) = ((t1, t2) : Sg)
      · have HEQ := fun V => eq_yes ((t1, t2) : Sg) V
        obtain ⟨e1, e2⟩ := Prod.mk.inj he
        subst e1 e2
        simp only at HEQ
        have HWY : Hid (makeL k L z last t = out ++ bytP (t.extract done en).data.toList ++ [Pc.blk m]) := by
          have h5 := H2.out.2.2.yes hlz (by omega) (by have := HA.out.2.2.2.2; omega) (by rw [HA.out.2.2.2.2, hsgl]; exact hgl)
          rw [HA.out.2.2.2.2, HA.out.2.1, show n - 1 = m by omega, hen] at h5
          rw [ext_l]
          exact h5
        obtain ⟨bys, hby⟩ : ∃ bys, t.extract done en = bys := ⟨_, rfl⟩
        rw [hby] at HWY
        clear GV hc hti hgl hs hsgl he hwl c0 c1 hm hen
        go_wp2
        refine wp_region_held_drew (S := fun W => W.cell? ⟨ab, ao + m * 2, none⟩ = some (.int .u32 (s1 : Int)) ∧ W.cell? ⟨ab, ao + m * 2 + 1, none⟩ = some (.string s2)) (by kernel_rfl) (HC.out V2.drew hbd) (fun hHeld => ?_)
        refine wpAnyH_take (i := 0) (v := ?va_0) rfl (by kernel_rfl) (by kernel_rfl) (by kernel_rfl) (fun _ _ _ h => h) (Or.inl ⟨by first | kernel_rfl | rfl, ?ya_0⟩) hHeld ?ra_0
        case ya_0 => (intro W hSW; (try dsimp only at hSW); go_simp; (try with_reducible rfl))
        change wpAnyH _ _ _ _ _ _ _ (Act.put _ (some 56) _) _
        simp only [Act.put, List.setIfInBounds_toArray, List.set_cons_zero, List.set_cons_succ]
        refine wpAnyH_take (i := 1) (v := ?va_1) rfl (by kernel_rfl) (by kernel_rfl) (by kernel_rfl) (fun _ _ _ h => h) (Or.inl ⟨by first | kernel_rfl | rfl, ?ya_1⟩) hHeld ?ra_1
        case ya_1 => (intro W hSW; (try dsimp only at hSW); go_simp; (try with_reducible rfl))
        change wpAnyH _ _ _ _ _ _ _ (Act.put _ (some 57) _) _
        simp only [Act.put, List.setIfInBounds_toArray, List.set_cons_zero, List.set_cons_succ]
        refine wpAnyH_take (i := 2) (v := ?va_2) rfl (by kernel_rfl) (by kernel_rfl) (by kernel_rfl) (fun _ _ _ h => h) (Or.inl ⟨by first | kernel_rfl | rfl, ?ya_2⟩) hHeld ?ra_2
        case ya_2 => (intro W hSW; (try dsimp only at hSW); go_simp; (try with_reducible rfl))
        change wpAnyH _ _ _ _ _ _ _ (Act.put _ (some 58) _) _
        simp only [Act.put, List.setIfInBounds_toArray, List.set_cons_zero, List.set_cons_succ]
        refine wpAnyH_take (i := 3) (v := ?va_3) rfl (by kernel_rfl) (by kernel_rfl) (by kernel_rfl) (fun _ _ _ h => h) (Or.inl ⟨by first | kernel_rfl | rfl, ?ya_3⟩) hHeld ?ra_3
        case ya_3 => (intro W hSW; (try dsimp only at hSW); go_simp; (try with_reducible rfl))
        change wpAnyH _ _ _ _ _ _ _ (Act.put _ (some 59) _) _
        simp only [Act.put, List.setIfInBounds_toArray, List.set_cons_zero, List.set_cons_succ]
        refine wpAnyH_take (i := 4) (v := ?va_4) rfl (by kernel_rfl) (by kernel_rfl) (by kernel_rfl) (fun _ _ _ h => h) (Or.inl ⟨by first | kernel_rfl | rfl, ?ya_4⟩) hHeld ?ra_4
        case ya_4 => (intro W hSW; (try dsimp only at hSW); go_simp; (try with_reducible rfl))
        change wpAnyH _ _ _ _ _ _ _ (Act.put _ (some 60) _) _
        simp only [Act.put, List.setIfInBounds_toArray, List.set_cons_zero, List.set_cons_succ]
        refine wpAnyH_take (i := 5) (v := ?va_5) rfl (by kernel_rfl) (by kernel_rfl) (by kernel_rfl) (fun _ _ _ h => h) (Or.inl ⟨by first | kernel_rfl | rfl, ?ya_5⟩) hHeld ?ra_5
        case ya_5 => (intro W hSW; (try dsimp only at hSW); go_simp; (try with_reducible rfl))
        change wpAnyH _ _ _ _ _ _ _ (Act.put _ (some 61) _) _
        simp only [Act.put, List.setIfInBounds_toArray, List.set_cons_zero, List.set_cons_succ]
        refine wpAnyH_take (i := 6) (v := ?va_6) rfl (by kernel_rfl) (by kernel_rfl) (by kernel_rfl) (fun _ _ _ h => h) (Or.inl ⟨by first | kernel_rfl | rfl, ?ya_6⟩) hHeld ?ra_6
        case ya_6 => (intro W hSW; (try dsimp only at hSW); go_simp; (try with_reducible rfl))
        change wpAnyH _ _ _ _ _ _ _ (Act.put _ (some 62) _) _
        simp only [Act.put, List.setIfInBounds_toArray, List.set_cons_zero, List.set_cons_succ]
        refine wpAnyH_take (i := 7) (v := ?va_7) rfl (by kernel_rfl) (by kernel_rfl) (by kernel_rfl) (fun _ _ _ h => h) (Or.inl ⟨by first | kernel_rfl | rfl, ?ya_7⟩) hHeld ?ra_7
        case ya_7 => (intro W hSW; (try dsimp only at hSW); go_simp; (try with_reducible rfl))
        change wpAnyH _ _ _ _ _ _ _ (Act.put _ (some 63) _) _
        simp only [Act.put, List.setIfInBounds_toArray, List.set_cons_zero, List.set_cons_succ]
        refine wpAnyH_take (i := 8) (v := ?va_8) rfl (by kernel_rfl) (by kernel_rfl) (by kernel_rfl) (fun _ _ _ h => h) (Or.inl ⟨by first | kernel_rfl | rfl, ?ya_8⟩) hHeld ?ra_8
        case ya_8 => (intro W hSW; (try dsimp only at hSW); go_simp; (try with_reducible rfl))
        change wpAnyH _ _ _ _ _ _ _ (Act.put _ (some 64) _) _
        simp only [Act.put, List.setIfInBounds_toArray, List.set_cons_zero, List.set_cons_succ]
        refine wpAnyH_take (i := 9) (v := ?va_9) rfl (by kernel_rfl) (by kernel_rfl) (by kernel_rfl) (fun _ _ _ h => h) (Or.inl ⟨by first | kernel_rfl | rfl, ?ya_9⟩) hHeld ?ra_9
        case ya_9 => (intro W hSW; (try dsimp only at hSW); go_simp; (try with_reducible rfl))
        change wpAnyH _ _ _ _ _ _ _ (Act.put _ (some 65) _) _
        simp only [Act.put, List.setIfInBounds_toArray, List.set_cons_zero, List.set_cons_succ]
        refine wpAnyH_take (i := 10) (v := ?va_10) rfl (by kernel_rfl) (by kernel_rfl) (by kernel_rfl) (fun _ _ _ h => h) (Or.inl ⟨by first | kernel_rfl | rfl, ?ya_10⟩) hHeld ?ra_10
        case ya_10 => (intro W hSW; (try dsimp only at hSW); go_simp; (try with_reducible rfl))
        change wpAnyH _ _ _ _ _ _ _ (Act.put _ (some 66) _) _
        simp only [Act.put, List.setIfInBounds_toArray, List.set_cons_zero, List.set_cons_succ]
        refine wpAnyH_take (i := 11) (v := ?va_11) rfl (by kernel_rfl) (by kernel_rfl) (by kernel_rfl) (fun _ _ _ h => h) (Or.inl ⟨by first | kernel_rfl | rfl, ?ya_11⟩) hHeld ?ra_11
        case ya_11 => (intro W hSW; (try dsimp only at hSW); go_simp; (try with_reducible rfl))
        change wpAnyH _ _ _ _ _ _ _ (Act.put _ (some 67) _) _
        simp only [Act.put, List.setIfInBounds_toArray, List.set_cons_zero, List.set_cons_succ]
        refine wpAnyH_take (i := 13) (v := ?va_13) rfl (by kernel_rfl) (by kernel_rfl) (by kernel_rfl) (fun _ _ _ h => h) (Or.inl ⟨by first | kernel_rfl | rfl, ?ya_13⟩) hHeld ?ra_13
        case ya_13 => (intro W hSW; (try dsimp only at hSW); go_simp; (try with_reducible rfl))
        change wpAnyH _ _ _ _ _ _ _ (Act.put _ (some 69) _) _
        simp only [Act.put, List.setIfInBounds_toArray, List.set_cons_zero, List.set_cons_succ]
        refine wpAnyH_take (i := 14) (v := ?va_14) rfl (by kernel_rfl) (by kernel_rfl) (by kernel_rfl) (fun _ _ _ h => h) (Or.inl ⟨by first | kernel_rfl | rfl, ?ya_14⟩) hHeld ?ra_14
        case ya_14 => (intro W hSW; (try dsimp only at hSW); go_simp; (try with_reducible rfl))
        change wpAnyH _ _ _ _ _ _ _ (Act.put _ (some 70) _) _
        simp only [Act.put, List.setIfInBounds_toArray, List.set_cons_zero, List.set_cons_succ]
        refine wpAnyH_take (i := 15) (v := ?va_15) rfl (by kernel_rfl) (by kernel_rfl) (by kernel_rfl) (fun _ _ _ h => h) (Or.inl ⟨by first | kernel_rfl | rfl, ?ya_15⟩) hHeld ?ra_15
        case ya_15 => (intro W hSW; (try dsimp only at hSW); go_simp; (try with_reducible rfl))
        change wpAnyH _ _ _ _ _ _ _ (Act.put _ (some 71) _) _
        simp only [Act.put, List.setIfInBounds_toArray, List.set_cons_zero, List.set_cons_succ]
        refine wpAnyH_take (i := 16) (v := ?va_16) rfl (by kernel_rfl) (by kernel_rfl) (by kernel_rfl) (fun _ _ _ h => h) (Or.inl ⟨by first | kernel_rfl | rfl, ?ya_16⟩) hHeld ?ra_16
        case ya_16 => (intro W hSW; (try dsimp only at hSW); go_simp; (try with_reducible rfl))
        change wpAnyH _ _ _ _ _ _ _ (Act.put _ (some 72) _) _
        simp only [Act.put, List.setIfInBounds_toArray, List.set_cons_zero, List.set_cons_succ]
        refine wpAnyH_take (i := 17) (v := ?va_17) rfl (by kernel_rfl) (by kernel_rfl) (by kernel_rfl) (fun _ _ _ h => h) (Or.inl ⟨by first | kernel_rfl | rfl, ?ya_17⟩) hHeld ?ra_17
        case ya_17 => (intro W hSW; (try dsimp only at hSW); go_simp; (try with_reducible rfl))
        change wpAnyH _ _ _ _ _ _ _ (Act.put _ (some 73) _) _
        simp only [Act.put, List.setIfInBounds_toArray, List.set_cons_zero, List.set_cons_succ]
        refine wpAnyH_take (i := 18) (v := ?va_18) rfl (by kernel_rfl) (by kernel_rfl) (by kernel_rfl) (fun _ _ _ h => h) (Or.inl ⟨by first | kernel_rfl | rfl, ?ya_18⟩) hHeld ?ra_18
        case ya_18 => (intro W hSW; (try dsimp only at hSW); go_simp; (try with_reducible rfl))
        change wpAnyH _ _ _ _ _ _ _ (Act.put _ (some 74) _) _
        simp only [Act.put, List.setIfInBounds_toArray, List.set_cons_zero, List.set_cons_succ]
        refine wpAnyH_ready (rs := [12]) (by kernel_rfl) (by simp) ?_
        refine AllReadyH.cons rfl (fun K hK => ?_) AllReadyH.nil
        go_simp
        refine (HO).mono ?_
        rintro e W1 ⟨rfl, hbW1⟩
        refine hK.out _ _ (HC.out W1 (hbd.trans hbW1)) (fun hHeld => ?_)
        clear hK K
        try simp only [Act.put, List.setIfInBounds_toArray, List.set_cons_zero, List.set_cons_succ]
        refine wpAnyH_take (i := 19) (v := ?va_19) rfl (by kernel_rfl) (by kernel_rfl) (by kernel_rfl) (fun _ _ _ h => h) (Or.inl ⟨by first | kernel_rfl | rfl, ?ya_19⟩) hHeld ?ra_19
        case ya_19 => (intro W hSW; (try dsimp only at hSW); go_simp; (try with_reducible rfl))
        change wpAnyH _ _ _ _ _ _ _ (Act.put _ (some 75) _) _
        simp only [Act.put, List.setIfInBounds_toArray, List.set_cons_zero, List.set_cons_succ]
        refine wpAnyH_take (i := 20) (v := ?va_20) rfl (by kernel_rfl) (by kernel_rfl) (by kernel_rfl) (fun _ _ _ h => h) (Or.inl ⟨by first | kernel_rfl | rfl, ?ya_20⟩) hHeld ?ra_20
        case ya_20 => (intro W hSW; (try dsimp only at hSW); go_simp; (try with_reducible rfl))
        change wpAnyH _ _ _ _ _ _ _ (Act.put _ (some 76) _) _
        simp only [Act.put, List.setIfInBounds_toArray, List.set_cons_zero, List.set_cons_succ]
        refine wpAnyH_done (by kernel_rfl) ?_ _
        have hbW : Below w.heap.size w W1 := H2.out.2.1.trans ((hbd.trans hbW1).mono H2.out.2.1.size)
        have HWB := withb_any (own_keep H2.out.1 (W' := W1) (fun j hj => (hbd.trans hbW1).block j (H2.out.1.lt j hj).2)) hbW.size (by omega) bys
        have H3 : Hid (Below w.heap.size w W1) := hbW
        clear hbW1 hbW hHeld HEQ
        go_wp2_with fail
        refine HWB.mono ?_
        rintro e V3 ⟨a2, c2, rfl, ho3, hb3⟩
        have HBK := block_any m V3
        obtain ⟨n2, hn2e⟩ : ∃ n2, (out ++ bytP bys.data.toList).length = n2 := ⟨_, rfl⟩
        have hol2 := own_len H2.out.1
        rw [hn2e] at ho3 ⊢
        have hn2s : n2 ≤ 5000 := by
          have h6 : (bytP bys.data.toList).length ≤ 1 := by unfold bytP; split <;> simp
          rw [List.length_append] at hn2e
          omega
        have H4 : Hid (V3.ownsRow w.heap.size 48 3 (.slice a2 n2 c2) n2 (pcR (out ++ bytP bys.data.toList)) ∧ Below w.heap.size w V3) := ⟨ho3, H3.out.trans hb3⟩
        clear HWB ho3 hb3 H3 hby hn2e hwi hol2
        go_wp2_with fail
        refine HBK.mono ?_
        rintro e V5 ⟨rfl, hb5⟩
        obtain ⟨V6, hV6, r6, hb6⟩ := box_pc (w := V5) true (m : Int) ⟨#[]⟩
        have hB6 : Below w.heap.size w V6 := H4.out.2.trans ((hb5.trans (hb6.mono hb5.size)).mono H4.out.2.size)
        have ho6 := own_keep H4.out.1 (W' := V6) (fun j hj => (hb5.trans (hb6.mono hb5.size)).block j (H4.out.1.lt j hj).2)
        obtain ⟨aA, cA, VA, hrA, hoA, hgA, _⟩ := addH_own V6 ho6 (pcRow (p := Pc.blk m) r6) (by omega) hB6.size
        have HE : Hid (MkTo w (makeL k L z last t) 0 (.returned (.tuple #[.slice aA (n2 + 1) cA, .int .i64 0])) VA) := by
          rw [HWY.out]
          exact ⟨aA, n2 + 1, cA, rfl, hoA, hB6.grown hgA hB6.size (fun j hj => (ho6.lt j (by rw [ob_slice]; exact hj)).1)⟩
        clear HBK hb5 hb6 r6 hB6 ho6 hoA hgA
        go_wp2_with ((at_builtin; refine wpList_app V6 rfl _ _ _ _ rfl rfl rfl (hrA _) ?_))
        refine bodyPost_ret (v := .tuple #[.slice aA (n2 + 1) cA, .int .i64 0]) ?_ rfl HE.out
        simp [results, go_sem]
      · have HEQ := fun V => eq_no he V
        simp only at HEQ
        have HWN : Hid (makeL k L z last t = out ++ bytP (t.extract done t.size).data.toList) := by
          rw [tail_l]
          refine H2.out.2.2.no (fun hh => ?_)
          have h5 := hh.2.2
          rw [HA.out.2.2.2.2, hsgl, hgl] at h5
          exact he (Option.some.inj h5).symm
        obtain ⟨bys, hby⟩ : ∃ bys, t.extract done t.size = bys := ⟨_, rfl⟩
        rw [hby] at HWN
        clear GV hc hti hgl hs hsgl he hwl c0 c1 hm hen
        go_wp2
        refine wp_region_held_drew (S := fun W => W.cell? ⟨ab, ao + m * 2, none⟩ = some (.int .u32 (t1 : Int)) ∧ W.cell? ⟨ab, ao + m * 2 + 1, none⟩ = some (.string t2)) (by kernel_rfl) (HC.out V2.drew hbd) (fun hHeld => ?_)
        refine wpAnyH_take (i := 0) (v := ?vb_0) rfl (by kernel_rfl) (by kernel_rfl) (by kernel_rfl) (fun _ _ _ h => h) (Or.inl ⟨by first | kernel_rfl | rfl, ?yb_0⟩) hHeld ?rb_0
        case yb_0 => (intro W hSW; (try dsimp only at hSW); go_simp; (try with_reducible rfl))
        change wpAnyH _ _ _ _ _ _ _ (Act.put _ (some 56) _) _
        simp only [Act.put, List.setIfInBounds_toArray, List.set_cons_zero, List.set_cons_succ]
        refine wpAnyH_take (i := 1) (v := ?vb_1) rfl (by kernel_rfl) (by kernel_rfl) (by kernel_rfl) (fun _ _ _ h => h) (Or.inl ⟨by first | kernel_rfl | rfl, ?yb_1⟩) hHeld ?rb_1
        case yb_1 => (intro W hSW; (try dsimp only at hSW); go_simp; (try with_reducible rfl))
        change wpAnyH _ _ _ _ _ _ _ (Act.put _ (some 57) _) _
        simp only [Act.put, List.setIfInBounds_toArray, List.set_cons_zero, List.set_cons_succ]
        refine wpAnyH_take (i := 2) (v := ?vb_2) rfl (by kernel_rfl) (by kernel_rfl) (by kernel_rfl) (fun _ _ _ h => h) (Or.inl ⟨by first | kernel_rfl | rfl, ?yb_2⟩) hHeld ?rb_2
        case yb_2 => (intro W hSW; (try dsimp only at hSW); go_simp; (try with_reducible rfl))
        change wpAnyH _ _ _ _ _ _ _ (Act.put _ (some 58) _) _
        simp only [Act.put, List.setIfInBounds_toArray, List.set_cons_zero, List.set_cons_succ]
        refine wpAnyH_take (i := 3) (v := ?vb_3) rfl (by kernel_rfl) (by kernel_rfl) (by kernel_rfl) (fun _ _ _ h => h) (Or.inl ⟨by first | kernel_rfl | rfl, ?yb_3⟩) hHeld ?rb_3
        case yb_3 => (intro W hSW; (try dsimp only at hSW); go_simp; (try with_reducible rfl))
        change wpAnyH _ _ _ _ _ _ _ (Act.put _ (some 59) _) _
        simp only [Act.put, List.setIfInBounds_toArray, List.set_cons_zero, List.set_cons_succ]
        refine wpAnyH_take (i := 4) (v := ?vb_4) rfl (by kernel_rfl) (by kernel_rfl) (by kernel_rfl) (fun _ _ _ h => h) (Or.inl ⟨by first | kernel_rfl | rfl, ?yb_4⟩) hHeld ?rb_4
        case yb_4 => (intro W hSW; (try dsimp only at hSW); go_simp; (try with_reducible rfl))
        change wpAnyH _ _ _ _ _ _ _ (Act.put _ (some 60) _) _
        simp only [Act.put, List.setIfInBounds_toArray, List.set_cons_zero, List.set_cons_succ]
        refine wpAnyH_take (i := 5) (v := ?vb_5) rfl (by kernel_rfl) (by kernel_rfl) (by kernel_rfl) (fun _ _ _ h => h) (Or.inl ⟨by first | kernel_rfl | rfl, ?yb_5⟩) hHeld ?rb_5
        case yb_5 => (intro W hSW; (try dsimp only at hSW); go_simp; (try with_reducible rfl))
        change wpAnyH _ _ _ _ _ _ _ (Act.put _ (some 61) _) _
        simp only [Act.put, List.setIfInBounds_toArray, List.set_cons_zero, List.set_cons_succ]
        refine wpAnyH_take (i := 6) (v := ?vb_6) rfl (by kernel_rfl) (by kernel_rfl) (by kernel_rfl) (fun _ _ _ h => h) (Or.inl ⟨by first | kernel_rfl | rfl, ?yb_6⟩) hHeld ?rb_6
        case yb_6 => (intro W hSW; (try dsimp only at hSW); go_simp; (try with_reducible rfl))
        change wpAnyH _ _ _ _ _ _ _ (Act.put _ (some 62) _) _
        simp only [Act.put, List.setIfInBounds_toArray, List.set_cons_zero, List.set_cons_succ]
        refine wpAnyH_take (i := 7) (v := ?vb_7) rfl (by kernel_rfl) (by kernel_rfl) (by kernel_rfl) (fun _ _ _ h => h) (Or.inl ⟨by first | kernel_rfl | rfl, ?yb_7⟩) hHeld ?rb_7
        case yb_7 => (intro W hSW; (try dsimp only at hSW); go_simp; (try with_reducible rfl))
        change wpAnyH _ _ _ _ _ _ _ (Act.put _ (some 63) _) _
        simp only [Act.put, List.setIfInBounds_toArray, List.set_cons_zero, List.set_cons_succ]
        refine wpAnyH_take (i := 8) (v := ?vb_8) rfl (by kernel_rfl) (by kernel_rfl) (by kernel_rfl) (fun _ _ _ h => h) (Or.inl ⟨by first | kernel_rfl | rfl, ?yb_8⟩) hHeld ?rb_8
        case yb_8 => (intro W hSW; (try dsimp only at hSW); go_simp; (try with_reducible rfl))
        change wpAnyH _ _ _ _ _ _ _ (Act.put _ (some 64) _) _
        simp only [Act.put, List.setIfInBounds_toArray, List.set_cons_zero, List.set_cons_succ]
        refine wpAnyH_take (i := 9) (v := ?vb_9) rfl (by kernel_rfl) (by kernel_rfl) (by kernel_rfl) (fun _ _ _ h => h) (Or.inl ⟨by first | kernel_rfl | rfl, ?yb_9⟩) hHeld ?rb_9
        case yb_9 => (intro W hSW; (try dsimp only at hSW); go_simp; (try with_reducible rfl))
        change wpAnyH _ _ _ _ _ _ _ (Act.put _ (some 65) _) _
        simp only [Act.put, List.setIfInBounds_toArray, List.set_cons_zero, List.set_cons_succ]
        refine wpAnyH_take (i := 10) (v := ?vb_10) rfl (by kernel_rfl) (by kernel_rfl) (by kernel_rfl) (fun _ _ _ h => h) (Or.inl ⟨by first | kernel_rfl | rfl, ?yb_10⟩) hHeld ?rb_10
        case yb_10 => (intro W hSW; (try dsimp only at hSW); go_simp; (try with_reducible rfl))
        change wpAnyH _ _ _ _ _ _ _ (Act.put _ (some 66) _) _
        simp only [Act.put, List.setIfInBounds_toArray, List.set_cons_zero, List.set_cons_succ]
        refine wpAnyH_take (i := 11) (v := ?vb_11) rfl (by kernel_rfl) (by kernel_rfl) (by kernel_rfl) (fun _ _ _ h => h) (Or.inl ⟨by first | kernel_rfl | rfl, ?yb_11⟩) hHeld ?rb_11
        case yb_11 => (intro W hSW; (try dsimp only at hSW); go_simp; (try with_reducible rfl))
        change wpAnyH _ _ _ _ _ _ _ (Act.put _ (some 67) _) _
        simp only [Act.put, List.setIfInBounds_toArray, List.set_cons_zero, List.set_cons_succ]
        refine wpAnyH_take (i := 13) (v := ?vb_13) rfl (by kernel_rfl) (by kernel_rfl) (by kernel_rfl) (fun _ _ _ h => h) (Or.inl ⟨by first | kernel_rfl | rfl, ?yb_13⟩) hHeld ?rb_13
        case yb_13 => (intro W hSW; (try dsimp only at hSW); go_simp; (try with_reducible rfl))
        change wpAnyH _ _ _ _ _ _ _ (Act.put _ (some 69) _) _
        simp only [Act.put, List.setIfInBounds_toArray, List.set_cons_zero, List.set_cons_succ]
        refine wpAnyH_take (i := 14) (v := ?vb_14) rfl (by kernel_rfl) (by kernel_rfl) (by kernel_rfl) (fun _ _ _ h => h) (Or.inl ⟨by first | kernel_rfl | rfl, ?yb_14⟩) hHeld ?rb_14
        case yb_14 => (intro W hSW; (try dsimp only at hSW); go_simp; (try with_reducible rfl))
        change wpAnyH _ _ _ _ _ _ _ (Act.put _ (some 70) _) _
        simp only [Act.put, List.setIfInBounds_toArray, List.set_cons_zero, List.set_cons_succ]
        refine wpAnyH_take (i := 15) (v := ?vb_15) rfl (by kernel_rfl) (by kernel_rfl) (by kernel_rfl) (fun _ _ _ h => h) (Or.inl ⟨by first | kernel_rfl | rfl, ?yb_15⟩) hHeld ?rb_15
        case yb_15 => (intro W hSW; (try dsimp only at hSW); go_simp; (try with_reducible rfl))
        change wpAnyH _ _ _ _ _ _ _ (Act.put _ (some 71) _) _
        simp only [Act.put, List.setIfInBounds_toArray, List.set_cons_zero, List.set_cons_succ]
        refine wpAnyH_take (i := 16) (v := ?vb_16) rfl (by kernel_rfl) (by kernel_rfl) (by kernel_rfl) (fun _ _ _ h => h) (Or.inl ⟨by first | kernel_rfl | rfl, ?yb_16⟩) hHeld ?rb_16
        case yb_16 => (intro W hSW; (try dsimp only at hSW); go_simp; (try with_reducible rfl))
        change wpAnyH _ _ _ _ _ _ _ (Act.put _ (some 72) _) _
        simp only [Act.put, List.setIfInBounds_toArray, List.set_cons_zero, List.set_cons_succ]
        refine wpAnyH_take (i := 17) (v := ?vb_17) rfl (by kernel_rfl) (by kernel_rfl) (by kernel_rfl) (fun _ _ _ h => h) (Or.inl ⟨by first | kernel_rfl | rfl, ?yb_17⟩) hHeld ?rb_17
        case yb_17 => (intro W hSW; (try dsimp only at hSW); go_simp; (try with_reducible rfl))
        change wpAnyH _ _ _ _ _ _ _ (Act.put _ (some 73) _) _
        simp only [Act.put, List.setIfInBounds_toArray, List.set_cons_zero, List.set_cons_succ]
        refine wpAnyH_take (i := 18) (v := ?vb_18) rfl (by kernel_rfl) (by kernel_rfl) (by kernel_rfl) (fun _ _ _ h => h) (Or.inl ⟨by first | kernel_rfl | rfl, ?yb_18⟩) hHeld ?rb_18
        case yb_18 => (intro W hSW; (try dsimp only at hSW); go_simp; (try with_reducible rfl))
        change wpAnyH _ _ _ _ _ _ _ (Act.put _ (some 74) _) _
        simp only [Act.put, List.setIfInBounds_toArray, List.set_cons_zero, List.set_cons_succ]
        refine wpAnyH_ready (rs := [12]) (by kernel_rfl) (by simp) ?_
        refine AllReadyH.cons rfl (fun K hK => ?_) AllReadyH.nil
        go_simp
        refine (HO).mono ?_
        rintro e W1 ⟨rfl, hbW1⟩
        refine hK.out _ _ (HC.out W1 (hbd.trans hbW1)) (fun hHeld => ?_)
        clear hK K
        try simp only [Act.put, List.setIfInBounds_toArray, List.set_cons_zero, List.set_cons_succ]
        refine wpAnyH_take (i := 19) (v := ?vb_19) rfl (by kernel_rfl) (by kernel_rfl) (by kernel_rfl) (fun _ _ _ h => h) (Or.inl ⟨by first | kernel_rfl | rfl, ?yb_19⟩) hHeld ?rb_19
        case yb_19 => (intro W hSW; (try dsimp only at hSW); go_simp; (try with_reducible rfl))
        change wpAnyH _ _ _ _ _ _ _ (Act.put _ (some 75) _) _
        simp only [Act.put, List.setIfInBounds_toArray, List.set_cons_zero, List.set_cons_succ]
        refine wpAnyH_take (i := 20) (v := ?vb_20) rfl (by kernel_rfl) (by kernel_rfl) (by kernel_rfl) (fun _ _ _ h => h) (Or.inl ⟨by first | kernel_rfl | rfl, ?yb_20⟩) hHeld ?rb_20
        case yb_20 => (intro W hSW; (try dsimp only at hSW); go_simp; (try with_reducible rfl))
        change wpAnyH _ _ _ _ _ _ _ (Act.put _ (some 76) _) _
        simp only [Act.put, List.setIfInBounds_toArray, List.set_cons_zero, List.set_cons_succ]
        refine wpAnyH_done (by kernel_rfl) ?_ _
        have HD : Hid (V2.ownsRow w.heap.size 48 3 (.slice oa on oc) on (pcR out) ∧ Below w.heap.size w V2) := ⟨H2.out.1, H2.out.2.1⟩
        have hbX := hbd.trans hbW1
        clear hbW1 hHeld HEQ hwi
        go_wp2_with fail
        refine (withb_any (own_keep HD.out.1 (fun j hj => (hbX).block j (HD.out.1.lt j hj).2)) (HD.out.2.trans ((hbX).mono HD.out.2.size)).size (by omega) bys).mono ?_
        rintro e V3 ⟨a2, c2, rfl, ho3, hb3⟩
        have HE : Hid (MkTo w (makeL k L z last t) 0 (.returned (.tuple #[.slice a2 (out ++ bytP bys.data.toList).length c2, .int .i64 0])) V3) := by
          rw [HWN.out]
          exact ⟨a2, _, c2, rfl, ho3, (HD.out.2.trans ((hbX).mono HD.out.2.size)).trans hb3⟩
        obtain ⟨n2, hn2⟩ : ∃ n2, (out ++ bytP bys.data.toList).length = n2 := ⟨_, rfl⟩
        rw [hn2] at HE ⊢
        clear ho3 hb3 hn2
        go_wp2
        refine bodyPost_ret (v := .tuple #[.slice a2 n2 c2, .int .i64 0]) ?_ rfl HE.out
        simp [results, go_sem]
    · have kde : ¬ (done : Int) ≤ (t.size : Int) - (last : Int) := by omega
      obtain ⟨ei, hei⟩ : ∃ ei, (t.size : Int) - (last : Int) = ei := ⟨_, rfl⟩
      rw [hei] at kde
      have wei : IntKind.i64.wrap ei = ei := by rw [IntKind.wrap_i64]; omega
      have HWN : Hid (makeL k L z last t = out ++ bytP (t.extract done t.size).data.toList) := by
        rw [tail_l]
        exact H2.out.2.2.no (fun hh => by have := HA.out.2.2.2.2; omega)
      obtain ⟨bys, hby⟩ : ∃ bys, t.extract done t.size = bys := ⟨_, rfl⟩
      rw [hby] at HWN
      have dk1 : decide ((0 : Int) < (last : Int)) = true := decide_eq_true kl1
      have dk2 : decide (0 < last) = true := decide_eq_true (by omega)
      have dk3 : decide ((done : Int) ≤ ei) = false := decide_eq_false kde
      clear GV
      go_wp2
      go_quiet (fail)
      have HD : Hid (V2.ownsRow w.heap.size 48 3 (.slice oa on oc) on (pcR out) ∧ Below w.heap.size w V2) := ⟨H2.out.1, H2.out.2.1⟩
      go_wp2_with fail
      refine (withb_any (own_keep HD.out.1 (fun j hj => (below_drewN (Below.refl V2.heap.size V2) _).block j (HD.out.1.lt j hj).2)) (HD.out.2.trans ((below_drewN (Below.refl V2.heap.size V2) _).mono HD.out.2.size)).size (by omega) bys).mono ?_
      rintro e V3 ⟨a2, c2, rfl, ho3, hb3⟩
      have HE : Hid (MkTo w (makeL k L z last t) 0 (.returned (.tuple #[.slice a2 (out ++ bytP bys.data.toList).length c2, .int .i64 0])) V3) := by
        rw [HWN.out]
        exact ⟨a2, _, c2, rfl, ho3, (HD.out.2.trans ((below_drewN (Below.refl V2.heap.size V2) _).mono HD.out.2.size)).trans hb3⟩
      obtain ⟨n2, hn2⟩ : ∃ n2, (out ++ bytP bys.data.toList).length = n2 := ⟨_, rfl⟩
      rw [hn2] at HE ⊢
      clear ho3 hb3 hn2
      go_wp2
      refine bodyPost_ret (v := .tuple #[.slice a2 n2 c2, .int .i64 0]) ?_ rfl HE.out
      simp [results, go_sem]
end Go.Proofs.YtbhnmjjfammlkaaDoor
