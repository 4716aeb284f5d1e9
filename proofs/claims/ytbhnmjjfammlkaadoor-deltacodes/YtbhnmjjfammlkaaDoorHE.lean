/- A walk over the document's Encode. -/
import Derived.Test.YtbhnmjjfammlkaaDoorHC
import Derived.Test.YtbhnmjjfammlkaaDoorHD
namespace Go.Proofs.YtbhnmjjfammlkaaDoor
open Go.RowKit
theorem rput_nat (n : Nat) (hn : n < 18446744073709551616) (w : World) : Calls Tryd.prog 47 #[.int .u64 (n : Int)] w fun e w' => e = .returned (.string (putS n)) ∧ Below w.heap.size w w' := by
  have := rput (n : Int) w (by omega) (by omega)
  rwa [Int.toNat_natCast] at this
/-- The bytes of the first pieces, as a text. -/
def encS (l : List Pc) (i : Nat) : ByteArray := ⟨(putN l.length ++ pcsB (l.take i)).toArray⟩
theorem pcsB_snoc {l : List Pc} {i : Nat} {p : Pc} (h : l[i]? = some p) : pcsB (l.take (i + 1)) = pcsB (l.take i) ++ pcB p := by rw [take_snoc h]; unfold pcsB; simp
theorem encS_zero (l : List Pc) : encS l 0 = putS l.length := by unfold encS putS; simp [pcsB]
theorem encS_copy {l : List Pc} {i : Nat} {p : Pc} (h : l[i]? = some p) (hc : p.copy = true) : encS l (i + 1) = encS l i ++ putS (2 * p.n.toNat + 1) := by
  unfold encS putS
  rw [pcsB_snoc h, ByteArray.mk_append_mk]
  unfold pcB
  rw [if_pos hc]
  simp
theorem encS_bytes {l : List Pc} {i : Nat} {p : Pc} (h : l[i]? = some p) (hc : p.copy = false) : encS l (i + 1) = encS l i ++ putS (2 * p.data.size) ++ p.data := by
  unfold encS putS
  rw [pcsB_snoc h]
  unfold pcB
  rw [if_neg (by rw [hc]; decide)]
  obtain ⟨p1, p2, ⟨d⟩⟩ := p
  rw [ByteArray.mk_append_mk, ByteArray.mk_append_mk]
  simp
theorem encS_size {l : List Pc} (hl : l.length ≤ 1100) (hn : ∀ p ∈ l, p.n ≤ 9223372036854775807 ∧ p.data.size ≤ 9223372036854775807) : ∀ i, (encS l i).size ≤ 10 + 10 * i + costP (l.take i)
  | 0 => by rw [encS_zero, putS_size]; have := putN_le10 l.length (by omega); omega
  | i + 1 => by
    have ih := encS_size hl hn i
    cases h : l[i]? with
    | none =>
      have : l.length ≤ i := List.getElem?_eq_none_iff.1 h
      have e : l.take (i + 1) = l.take i := by rw [List.take_of_length_le (by omega), List.take_of_length_le (by omega)]
      unfold encS at ih ⊢
      rw [e]
      omega
    | some p =>
      have hp := hn p (List.mem_of_getElem? h)
      rw [cost_snoc h]
      cases hc : p.copy with
      | true =>
        rw [encS_copy h hc, ByteArray.size_append, putS_size]
        have := putN_le10 (2 * p.n.toNat + 1) (by omega)
        omega
      | false =>
        rw [encS_bytes h hc, ByteArray.size_append, ByteArray.size_append, putS_size]
        have := putN_le10 (2 * p.data.size) (by omega)
        omega
set_option maxRecDepth 100000 in
set_option maxHeartbeats 2000000 in
theorem renc_any {G : Nat → Prop} {w : World} {a : Option Addr} {n c : Nat} {l : List Pc} (h : Hw G w a n c l) (hn : n ≤ 1100) (hp0 : ∀ p ∈ l, 0 ≤ p.n ∧ p.n ≤ 9223372036854775807) (hcs : costP l ≤ 100000) : Calls Tryd.prog 26 #[.slice a n c] w fun e w' => e = .returned (.string (encS l n)) ∧ Below w.heap.size w w' := by
  have hl := h.len
  have hmx := h.max
  have hsz : ∀ p ∈ l, p.n ≤ 9223372036854775807 ∧ p.data.size ≤ 100000 := fun p hp => by
    refine ⟨(hp0 p hp).2, ?_⟩
    obtain ⟨i, hi⟩ := List.getElem?_of_mem hp
    have h1 := cost_snoc hi
    have h2 := cost_le l (i + 1)
    omega
  have hes : ∀ i, i ≤ n → (encS l i).size ≤ 200000 := fun i hi => by
    have h1 := encS_size (l := l) (by omega) (fun p hp => ⟨(hsz p hp).1, by have := (hsz p hp).2; omega⟩) i
    have h2 := cost_le l i
    omega
  have HA : Hid (∀ W, Below w.heap.size w W → Hw G W a n c l) := fun W hW => h.below hW
  have HP : Hid (∀ p ∈ l, (0 ≤ p.n ∧ p.n ≤ 9223372036854775807) ∧ p.data.size ≤ 100000) := fun p hp => ⟨hp0 p hp, (hsz p hp).2⟩
  have HES : Hid (∀ i, i ≤ n → (encS l i).size ≤ 200000) := hes
  have HR := rput_nat n (by omega) w
  have HZ : Hid (putS n = encS l 0) := by show putS n = encS l 0; rw [encS_zero, hl]
  have wn : IntKind.u64.wrap (n : Int) = (n : Int) := by rw [IntKind.wrap_u64]; omega
  clear h hp0 hsz hes
  go_enter Tryd.func26, Tryd.ntmps26
  go_wp2_with fail
  refine HR.mono ?_
  rintro e V ⟨rfl, hbV⟩
  rw [HZ.out]
  clear HR
  go_wp2
  go_loopw [3, 4] (fun vs vi wr => ∃ i : Nat, i ≤ n ∧ vi = .int .i64 i ∧ vs = .string (encS l i) ∧ Below w.heap.size w wr) (fun _ vi _ => n - (intOf vi).toNat)
  case atStart => exact ⟨0, by omega, rfl, rfl, hbV⟩
  case round =>
    obtain ⟨i, hi, rfl, rfl, hbw⟩ := hrel
    by_cases hlt : i < n
    · have kk : (i : Int) < (n : Int) := by omega
      obtain ⟨ab, ao, rfl, hab, hc⟩ := (HA.out wr hbw).at (by omega)
      obtain ⟨⟨p1, p2, p3⟩, hp⟩ : ∃ p, l[i]? = some p := ⟨_, List.getElem?_eq_getElem (by omega)⟩
      obtain ⟨c1, c2, c3⟩ := hc i _ hp
      obtain ⟨⟨hp0, hp1⟩, hps⟩ := HP.out _ (List.mem_of_getElem? hp)
      simp only at c1 c2 c3 hp0 hp1 hps
      have hz := HES.out i hi
      have hz1 := HES.out (i + 1) (by omega)
      cases p1 with
      | true =>
        obtain ⟨m, rfl⟩ : ∃ m : Nat, p2 = (m : Int) := ⟨p2.toNat, by omega⟩
        have hE := encS_copy hp rfl
        simp only [Int.toNat_natCast] at hE
        rw [hE, ByteArray.size_append] at hz1
        have HR := rput_nat (2 * m + 1) (by omega) wr
        obtain ⟨z, hzz⟩ : ∃ z, 2 * m + 1 = z := ⟨_, rfl⟩
        obtain ⟨z0, hz0⟩ : ∃ z0, 2 * m = z0 := ⟨_, rfl⟩
        rw [hzz] at HR hE hz1
        have wm : IntKind.u64.wrap (m : Int) = (m : Int) := by rw [IntKind.wrap_u64]; omega
        have k0 : (2 : Int) * (m : Int) = (z0 : Int) := by omega
        have wz0 : IntKind.u64.wrap (z0 : Int) = (z0 : Int) := by rw [IntKind.wrap_u64]; omega
        have k1 : (z0 : Int) + 1 = (z : Int) := by omega
        have wz : IntKind.u64.wrap (z : Int) = (z : Int) := by rw [IntKind.wrap_u64]; omega
        obtain ⟨s0, hs0⟩ : ∃ s0, encS l i = s0 := ⟨_, rfl⟩
        obtain ⟨s1, hs1⟩ : ∃ s1, putS z = s1 := ⟨_, rfl⟩
        rw [hs0] at hE hz1 hz ⊢
        rw [hs1] at hE HR hz1
        have HE : Hid (encS l (i + 1) = s0 ++ s1 ∧ Below w.heap.size w wr) := ⟨hE, hbw⟩
        clear hc hp hE hbw hzz hz0 hs0 hs1
        go_wp2_with fail
        refine HR.mono ?_
        rintro e V1 ⟨rfl, hb1⟩
        have HB1 : Hid (Below w.heap.size w V1) := HE.out.2.trans (hb1.mono HE.out.2.size)
        clear HR hb1
        go_wp2
        exact ⟨⟨i + 1, by omega, by go_num, by rw [HE.out.1], HB1.out⟩, by simp [intOf]; omega⟩
      | false =>
        have hE := encS_bytes hp rfl
        simp only at hE
        rw [hE, ByteArray.size_append, ByteArray.size_append] at hz1
        obtain ⟨z, hzz⟩ : ∃ z, 2 * p3.size = z := ⟨_, rfl⟩
        have HR : Hid (∀ V, Calls Tryd.prog 47 #[.int .u64 (z : Int)] V fun e w' => e = .returned (.string (putS z)) ∧ Below V.heap.size V w') := fun V => rput_nat z (by omega) V
        rw [hzz] at hE hz1
        have wm : IntKind.u64.wrap (p3.size : Int) = (p3.size : Int) := by rw [IntKind.wrap_u64]; omega
        have k0 : (2 : Int) * (p3.size : Int) = (z : Int) := by omega
        have wz : IntKind.u64.wrap (z : Int) = (z : Int) := by rw [IntKind.wrap_u64]; omega
        obtain ⟨s0, hs0⟩ : ∃ s0, encS l i = s0 := ⟨_, rfl⟩
        obtain ⟨s1, hs1⟩ : ∃ s1, putS z = s1 := ⟨_, rfl⟩
        rw [hs0] at hE hz1 hz ⊢
        rw [hs1] at hE HR hz1
        have ha1 : (s0 ++ s1).size = s0.size + s1.size := ByteArray.size_append
        have hm1 : ¬ 9223372036854775807 < s0.size + s1.size := by omega
        have hm2 : ¬ 9223372036854775807 < s0.size + s1.size + p3.size := by omega
        have hm3 : ¬ 9223372036854775807 < (s0 ++ s1).size + p3.size := by omega
        have HE : Hid (encS l (i + 1) = s0 ++ s1 ++ p3 ∧ Below w.heap.size w wr) := ⟨hE, hbw⟩
        have HC : Hid (∀ V, Below wr.heap.size wr V → V.cell? ⟨ab, ao + i * 3 + 2, none⟩ = some (.string p3)) := fun V hV => by rw [hV.cell hab]; exact c3
        clear hc hp hE hbw hzz hs0 hs1
        go_wp2
        refine wp_region_held_drew (S := fun W => W.cell? ⟨ab, ao + i * 3 + 2, none⟩ = some (.string p3)) (by kernel_rfl) (HC.out wr.drew (Below.refl _ wr).drew) (fun hHeld => ?_)
        refine wpAnyH_take (i := 0) (v := ?va_0) rfl (by kernel_rfl) (by kernel_rfl) (by kernel_rfl) (fun _ _ _ h => h) (Or.inl ⟨by first | kernel_rfl | rfl, ?ya_0⟩) hHeld ?ra_0
        case ya_0 => (intro W hSW; (try dsimp only at hSW); go_simp; (try with_reducible rfl))
        change wpAnyH _ _ _ _ _ _ _ (Act.put _ (some 31) _) _
        simp only [Act.put, List.setIfInBounds_toArray, List.set_cons_zero, List.set_cons_succ]
        refine wpAnyH_take (i := 1) (v := ?va_1) rfl (by kernel_rfl) (by kernel_rfl) (by kernel_rfl) (fun _ _ _ h => h) (Or.inl ⟨by first | kernel_rfl | rfl, ?ya_1⟩) hHeld ?ra_1
        case ya_1 => (intro W hSW; (try dsimp only at hSW); go_simp; (try with_reducible rfl))
        change wpAnyH _ _ _ _ _ _ _ (Act.put _ (some 32) _) _
        simp only [Act.put, List.setIfInBounds_toArray, List.set_cons_zero, List.set_cons_succ]
        refine wpAnyH_take (i := 2) (v := ?va_2) rfl (by kernel_rfl) (by kernel_rfl) (by kernel_rfl) (fun _ _ _ h => h) (Or.inl ⟨by first | kernel_rfl | rfl, ?ya_2⟩) hHeld ?ra_2
        case ya_2 => (intro W hSW; (try dsimp only at hSW); go_simp; (try with_reducible rfl))
        change wpAnyH _ _ _ _ _ _ _ (Act.put _ (some 33) _) _
        simp only [Act.put, List.setIfInBounds_toArray, List.set_cons_zero, List.set_cons_succ]
        refine wpAnyH_take (i := 3) (v := ?va_3) rfl (by kernel_rfl) (by kernel_rfl) (by kernel_rfl) (fun _ _ _ h => h) (Or.inl ⟨by first | kernel_rfl | rfl, ?ya_3⟩) hHeld ?ra_3
        case ya_3 => (intro W hSW; (try dsimp only at hSW); go_simp; (try with_reducible rfl))
        change wpAnyH _ _ _ _ _ _ _ (Act.put _ (some 34) _) _
        simp only [Act.put, List.setIfInBounds_toArray, List.set_cons_zero, List.set_cons_succ]
        refine wpAnyH_take (i := 4) (v := ?va_4) rfl (by kernel_rfl) (by kernel_rfl) (by kernel_rfl) (fun _ _ _ h => h) (Or.inl ⟨by first | kernel_rfl | rfl, ?ya_4⟩) hHeld ?ra_4
        case ya_4 => (intro W hSW; (try dsimp only at hSW); go_simp; (try with_reducible rfl))
        change wpAnyH _ _ _ _ _ _ _ (Act.put _ (some 35) _) _
        simp only [Act.put, List.setIfInBounds_toArray, List.set_cons_zero, List.set_cons_succ]
        refine wpAnyH_take (i := 5) (v := ?va_5) rfl (by kernel_rfl) (by kernel_rfl) (by kernel_rfl) (fun _ _ _ h => h) (Or.inl ⟨by first | kernel_rfl | rfl, ?ya_5⟩) hHeld ?ra_5
        case ya_5 => (intro W hSW; (try dsimp only at hSW); go_simp; (try with_reducible rfl))
        change wpAnyH _ _ _ _ _ _ _ (Act.put _ (some 36) _) _
        simp only [Act.put, List.setIfInBounds_toArray, List.set_cons_zero, List.set_cons_succ]
        refine wpAnyH_take (i := 6) (v := ?va_6) rfl (by kernel_rfl) (by kernel_rfl) (by kernel_rfl) (fun _ _ _ h => h) (Or.inl ⟨by first | kernel_rfl | rfl, ?ya_6⟩) hHeld ?ra_6
        case ya_6 => (intro W hSW; (try dsimp only at hSW); go_simp; (try with_reducible rfl))
        change wpAnyH _ _ _ _ _ _ _ (Act.put _ (some 37) _) _
        simp only [Act.put, List.setIfInBounds_toArray, List.set_cons_zero, List.set_cons_succ]
        refine wpAnyH_take (i := 7) (v := ?va_7) rfl (by kernel_rfl) (by kernel_rfl) (by kernel_rfl) (fun _ _ _ h => h) (Or.inl ⟨by first | kernel_rfl | rfl, ?ya_7⟩) hHeld ?ra_7
        case ya_7 => (intro W hSW; (try dsimp only at hSW); go_simp; (try with_reducible rfl))
        change wpAnyH _ _ _ _ _ _ _ (Act.put _ (some 38) _) _
        simp only [Act.put, List.setIfInBounds_toArray, List.set_cons_zero, List.set_cons_succ]
        refine wpAnyH_take (i := 8) (v := ?va_8) rfl (by kernel_rfl) (by kernel_rfl) (by kernel_rfl) (fun _ _ _ h => h) (Or.inl ⟨by first | kernel_rfl | rfl, ?ya_8⟩) hHeld ?ra_8
        case ya_8 => (intro W hSW; (try dsimp only at hSW); go_simp; (try with_reducible rfl))
        change wpAnyH _ _ _ _ _ _ _ (Act.put _ (some 39) _) _
        simp only [Act.put, List.setIfInBounds_toArray, List.set_cons_zero, List.set_cons_succ]
        refine wpAnyH_take (i := 11) (v := ?va_11) rfl (by kernel_rfl) (by kernel_rfl) (by kernel_rfl) (fun _ _ _ h => h) (Or.inl ⟨by first | kernel_rfl | rfl, ?ya_11⟩) hHeld ?ra_11
        case ya_11 => (intro W hSW; (try dsimp only at hSW); go_simp; (try with_reducible rfl))
        change wpAnyH _ _ _ _ _ _ _ (Act.put _ (some 42) _) _
        simp only [Act.put, List.setIfInBounds_toArray, List.set_cons_zero, List.set_cons_succ]
        refine wpAnyH_take (i := 12) (v := ?va_12) rfl (by kernel_rfl) (by kernel_rfl) (by kernel_rfl) (fun _ _ _ h => h) (Or.inl ⟨by first | kernel_rfl | rfl, ?ya_12⟩) hHeld ?ra_12
        case ya_12 => (intro W hSW; (try dsimp only at hSW); go_simp; (try with_reducible rfl))
        change wpAnyH _ _ _ _ _ _ _ (Act.put _ (some 43) _) _
        simp only [Act.put, List.setIfInBounds_toArray, List.set_cons_zero, List.set_cons_succ]
        refine wpAnyH_take (i := 13) (v := ?va_13) rfl (by kernel_rfl) (by kernel_rfl) (by kernel_rfl) (fun _ _ _ h => h) (Or.inl ⟨by first | kernel_rfl | rfl, ?ya_13⟩) hHeld ?ra_13
        case ya_13 => (intro W hSW; (try dsimp only at hSW); go_simp; (try with_reducible rfl))
        change wpAnyH _ _ _ _ _ _ _ (Act.put _ (some 44) _) _
        simp only [Act.put, List.setIfInBounds_toArray, List.set_cons_zero, List.set_cons_succ]
        refine wpAnyH_take (i := 14) (v := ?va_14) rfl (by kernel_rfl) (by kernel_rfl) (by kernel_rfl) (fun _ _ _ h => h) (Or.inl ⟨by first | kernel_rfl | rfl, ?ya_14⟩) hHeld ?ra_14
        case ya_14 => (intro W hSW; (try dsimp only at hSW); go_simp; (try with_reducible rfl))
        change wpAnyH _ _ _ _ _ _ _ (Act.put _ (some 45) _) _
        simp only [Act.put, List.setIfInBounds_toArray, List.set_cons_zero, List.set_cons_succ]
        refine wpAnyH_take (i := 15) (v := ?va_15) rfl (by kernel_rfl) (by kernel_rfl) (by kernel_rfl) (fun _ _ _ h => h) (Or.inl ⟨by first | kernel_rfl | rfl, ?ya_15⟩) hHeld ?ra_15
        case ya_15 => (intro W hSW; (try dsimp only at hSW); go_simp; (try with_reducible rfl))
        change wpAnyH _ _ _ _ _ _ _ (Act.put _ (some 46) _) _
        simp only [Act.put, List.setIfInBounds_toArray, List.set_cons_zero, List.set_cons_succ]
        refine wpAnyH_ready (rs := [9]) (by kernel_rfl) (by simp) ?_
        refine AllReadyH.cons rfl (fun K hK => ?_) AllReadyH.nil
        go_simp
        refine (HR.out wr.drew).mono ?_
        rintro e V1 ⟨rfl, hb1⟩
        refine hK.out _ _ (HC.out V1 ((Below.refl _ wr).drew.trans hb1)) (fun hHeld => ?_)
        clear hK K
        try simp only [Act.put, List.setIfInBounds_toArray, List.set_cons_zero, List.set_cons_succ]
        refine wpAnyH_take (i := 10) (v := ?va_10) rfl (by kernel_rfl) (by kernel_rfl) (by kernel_rfl) (fun _ _ _ h => h) (Or.inl ⟨by first | kernel_rfl | rfl, ?ya_10⟩) hHeld ?ra_10
        case ya_10 => (intro W hSW; (try dsimp only at hSW); go_simp; (try with_reducible rfl))
        change wpAnyH _ _ _ _ _ _ _ (Act.put _ (some 41) _) _
        simp only [Act.put, List.setIfInBounds_toArray, List.set_cons_zero, List.set_cons_succ]
        refine wpAnyH_take (i := 16) (v := ?va_16) rfl (by kernel_rfl) (by kernel_rfl) (by kernel_rfl) (fun _ _ _ h => h) (Or.inl ⟨by first | kernel_rfl | rfl, ?ya_16⟩) hHeld ?ra_16
        case ya_16 => (intro W hSW; (try dsimp only at hSW); go_simp; (try with_reducible rfl))
        change wpAnyH _ _ _ _ _ _ _ (Act.put _ (some 47) _) _
        simp only [Act.put, List.setIfInBounds_toArray, List.set_cons_zero, List.set_cons_succ]
        refine wpAnyH_take (i := 17) (v := ?va_17) rfl (by kernel_rfl) (by kernel_rfl) (by kernel_rfl) (fun _ _ _ h => h) (Or.inl ⟨by first | kernel_rfl | rfl, ?ya_17⟩) hHeld ?ra_17
        case ya_17 => (intro W hSW; (try dsimp only at hSW); go_simp; (try with_reducible rfl))
        change wpAnyH _ _ _ _ _ _ _ (Act.put _ (some 3) _) _
        simp only [Act.put, List.setIfInBounds_toArray, List.set_cons_zero, List.set_cons_succ]
        refine wpAnyH_done (by kernel_rfl) ?_ _
        have HB1 : Hid (Below w.heap.size w V1) := HE.out.2.trans (((Below.refl _ wr).drew.trans hb1).mono HE.out.2.size)
        clear hb1
        go_wp2
        exact ⟨⟨i + 1, by omega, by go_num, by rw [HE.out.1], HB1.out⟩, by simp [intOf]; omega⟩
    · obtain rfl : i = n := by omega
      have kk : ¬ (i : Int) < (i : Int) := by omega
      have HB : Hid (Below w.heap.size w wr) := hbw
      clear hbw
      go_wp2
      go_ret
      exact ⟨rfl, HB.out⟩
end Go.Proofs.YtbhnmjjfammlkaaDoor
