/- A walk over the document's Why. -/
import Derived.Test.YtaacedaehbaodaaGreatJG
namespace Go.Proofs.YtaacedaehbaodaaGreat
open Go.RowKit Go.Shelf
set_option maxRecDepth 100000 in
set_option maxHeartbeats 2000000 in
theorem why_any {w : World} (n : Nat) (a : Option Addr) (len cap : Nat) (l : List Chi) (hl : Ci w a len cap l) :
    Calls Tryz.prog 11 #[.int .i64 (n : Int), .slice a len cap] w fun e w' => e = .returned (.int .i64 (chk n l : Int)) ∧ Below w.heap.size w w' := by
  have hll := hl.1
  have hcap := hl.2.1
  have hcap2 := hl.2.2.1
  have HL : Hid (Ci w a len cap l) := hl
  clear hl
  go_enter Tryz.func11, Tryz.ntmps11
  go_wp2
  go_loopw [5] (fun v wr => ∃ i : Nat, i ≤ len ∧ v = .int .i64 i ∧ (∀ c ∈ l.take i, 0 ≤ c.1 ∧ c.1 < (n : Int)) ∧ wr = w) (fun v _ => len - (intOf v).toNat)
  case atStart => exact ⟨0, by omega, rfl, fun c hc => by simp at hc, rfl⟩
  case round =>
    obtain ⟨i, hi, rfl, hall, hwr⟩ := hrel
    subst wr
    have HA : Hid (∀ c ∈ l.take i, 0 ≤ c.1 ∧ c.1 < (n : Int)) := hall
    clear hall
    by_cases hlt : i < len
    · have kk : (i : Int) < (len : Int) := by omega
      have hil : i < l.length := by omega
      obtain ⟨b, o, rfl, hb, hcell⟩ := HL.out.2.2.2 (by omega)
      obtain ⟨c1, c2⟩ := hcell i hil
      have hmem : l[i] ∈ l := List.getElem_mem hil
      obtain ⟨⟨p, s⟩, hc⟩ : ∃ c, l[i] = c := ⟨_, rfl⟩
      rw [hc] at c1 c2 hmem
      simp only at c1 c2
      by_cases hp0 : p < 0
      · have HE : Hid (chk n l = 9) := chk_range hmem (by simp only; omega)
        clear HA hcell
        go_wp2
        go_ret
        exact ⟨by rw [HE.out]; rfl, Below.refl _ _⟩
      · by_cases hp1 : (n : Int) ≤ p
        · have HE : Hid (chk n l = 9) := chk_range hmem (by simp only; omega)
          clear HA hcell
          go_wp2
          go_ret
          exact ⟨by rw [HE.out]; rfl, Below.refl _ _⟩
        · have HN : Hid (∀ c ∈ l.take (i + 1), 0 ≤ c.1 ∧ c.1 < (n : Int)) := take_all hil HA.out (by rw [hc]; simp only; omega)
          clear HA hcell
          go_wp2
          exact ⟨⟨i + 1, by omega, by go_num, HN.out, trivial⟩, by simp [intOf]; omega⟩
    · obtain rfl : i = len := by omega
      have kk : ¬ (i : Int) < (i : Int) := by omega
      have HALL : Hid (∀ c ∈ l, 0 ≤ c.1 ∧ c.1 < (n : Int)) := by
        have := HA.out
        rwa [List.take_of_length_le (by omega)] at this
      clear HA
      go_wp2
      go_loopw [6] (fun v wr => ∃ k : Nat, k ≤ i ∧ v = .int .i64 k ∧ ((l.take k).map Prod.fst).Nodup ∧ Below w.heap.size w wr) (fun v _ => i - (intOf v).toNat)
      case atStart => exact ⟨0, by omega, rfl, by simp, Below.refl _ _⟩
      case round =>
        obtain ⟨k, hk, rfl, hnd, hbel⟩ := hrel
        have HND : Hid ((l.take k).map Prod.fst).Nodup := hnd
        have HB : Hid (Below w.heap.size w wr) := hbel
        clear hnd
        by_cases hlt : k < i
        · have kk : (k : Int) < (i : Int) := by omega
          have hil : k < l.length := by omega
          obtain ⟨b, o, rfl, hb, hcell⟩ := HL.out.2.2.2 (by omega)
          obtain ⟨d1, _⟩ := hcell k hil
          obtain ⟨x, hx⟩ : ∃ x, l[k].1 = x := ⟨_, rfl⟩
          rw [hx] at d1
          have HC : Hid (∀ V q (_ : q < l.length), Below w.heap.size w V → V.cell? ⟨b, o + q * 2, none⟩ = some (.int .i64 l[q].1)) := fun V q hq hV => by rw [hV.cell hb]; exact (hcell q hq).1
          clear hcell hbel
          go_wp2
          go_loopw [7] (fun v wr => ∃ q : Nat, q ≤ k ∧ v = .int .i64 q ∧ (∀ c ∈ l.take q, c.1 ≠ x) ∧ Below w.heap.size w wr) (fun v _ => k - (intOf v).toNat)
          case atStart => exact ⟨0, by omega, rfl, fun c hc => by simp at hc, HB.out⟩
          case round =>
            clear HB
            obtain ⟨q, hq, rfl, hne, hbel⟩ := hrel
            have HNE : Hid (∀ c ∈ l.take q, c.1 ≠ x) := hne
            have HB : Hid (Below w.heap.size w wr) := hbel
            clear hne
            by_cases hlt2 : q < k
            · have kk2 : (q : Int) < (k : Int) := by omega
              have hql : q < l.length := by omega
              have c1 := HC.out wr.drew k hil hbel.drew
              have c3 := HC.out wr.drew q hql hbel.drew
              rw [hx] at c1
              obtain ⟨y, hy⟩ : ∃ y, l[q].1 = y := ⟨_, rfl⟩
              rw [hy] at c3
              have kin : (k : Int) < (i : Int) := by omega
              have qin : (q : Int) < (i : Int) := by omega
              by_cases hxy : x = y
              · have HE : Hid (chk n l = 7) := chk_twice HALL.out (fun hn => by
                  have h1 := List.pairwise_iff_getElem.1 (List.pairwise_map.1 hn) q k hql hil hlt2
                  exact h1 (by rw [hx, hy, hxy]))
                have HBD : Hid (Below w.heap.size w wr.drew) := hbel.drew
                subst hxy
                clear hbel hy hx HNE HC
                go_wp2
                refine wp_region_held_drew (S := fun V => V.cell? ⟨b, o + k * 2, none⟩ = some (.int .i64 x) ∧ V.cell? ⟨b, o + q * 2, none⟩ = some (.int .i64 x)) (by kernel_rfl) (⟨c1, c3⟩) (fun hHeld => ?_)
                refine wpAnyH_take (i := 0) (v := ?va0) rfl (by kernel_rfl) (by kernel_rfl) (by kernel_rfl) (fun _ _ _ h => h) (Or.inl ⟨by first | kernel_rfl | rfl, ?ya0⟩) hHeld ?ra0
                case ya0 => (intro W hSW; (try dsimp only at hSW); go_simp; (try with_reducible rfl))
                change wpAnyH _ _ _ _ _ _ _ (Act.put _ (some 41) _) _
                simp only [Act.put, List.setIfInBounds_toArray, List.set_cons_zero, List.set_cons_succ]
                refine wpAnyH_take (i := 1) (v := ?va1) rfl (by kernel_rfl) (by kernel_rfl) (by kernel_rfl) (fun _ _ _ h => h) (Or.inl ⟨by first | kernel_rfl | rfl, ?ya1⟩) hHeld ?ra1
                case ya1 => (intro W hSW; (try dsimp only at hSW); go_simp; (try with_reducible rfl))
                change wpAnyH _ _ _ _ _ _ _ (Act.put _ (some 42) _) _
                simp only [Act.put, List.setIfInBounds_toArray, List.set_cons_zero, List.set_cons_succ]
                refine wpAnyH_take (i := 2) (v := ?va2) rfl (by kernel_rfl) (by kernel_rfl) (by kernel_rfl) (fun _ _ _ h => h) (Or.inl ⟨by first | kernel_rfl | rfl, ?ya2⟩) hHeld ?ra2
                case ya2 => (intro W hSW; (try dsimp only at hSW); go_simp; (try with_reducible rfl))
                change wpAnyH _ _ _ _ _ _ _ (Act.put _ (some 43) _) _
                simp only [Act.put, List.setIfInBounds_toArray, List.set_cons_zero, List.set_cons_succ]
                refine wpAnyH_take (i := 3) (v := ?va3) rfl (by kernel_rfl) (by kernel_rfl) (by kernel_rfl) (fun _ _ _ h => h) (Or.inl ⟨by first | kernel_rfl | rfl, ?ya3⟩) hHeld ?ra3
                case ya3 => (intro W hSW; (try dsimp only at hSW); go_simp; (try with_reducible rfl))
                change wpAnyH _ _ _ _ _ _ _ (Act.put _ (some 44) _) _
                simp only [Act.put, List.setIfInBounds_toArray, List.set_cons_zero, List.set_cons_succ]
                refine wpAnyH_take (i := 4) (v := ?va4) rfl (by kernel_rfl) (by kernel_rfl) (by kernel_rfl) (fun _ _ _ h => h) (Or.inl ⟨by first | kernel_rfl | rfl, ?ya4⟩) hHeld ?ra4
                case ya4 => (intro W hSW; (try dsimp only at hSW); go_simp; (try with_reducible rfl))
                change wpAnyH _ _ _ _ _ _ _ (Act.put _ (some 45) _) _
                simp only [Act.put, List.setIfInBounds_toArray, List.set_cons_zero, List.set_cons_succ]
                refine wpAnyH_take (i := 5) (v := ?va5) rfl (by kernel_rfl) (by kernel_rfl) (by kernel_rfl) (fun _ _ _ h => h) (Or.inl ⟨by first | kernel_rfl | rfl, ?ya5⟩) hHeld ?ra5
                case ya5 => (intro W hSW; (try dsimp only at hSW); go_simp; (try with_reducible rfl))
                change wpAnyH _ _ _ _ _ _ _ (Act.put _ (some 46) _) _
                simp only [Act.put, List.setIfInBounds_toArray, List.set_cons_zero, List.set_cons_succ]
                refine wpAnyH_take (i := 6) (v := ?va6) rfl (by kernel_rfl) (by kernel_rfl) (by kernel_rfl) (fun _ _ _ h => h) (Or.inl ⟨by first | kernel_rfl | rfl, ?ya6⟩) hHeld ?ra6
                case ya6 => (intro W hSW; (try dsimp only at hSW); go_simp; (try with_reducible rfl))
                change wpAnyH _ _ _ _ _ _ _ (Act.put _ (some 47) _) _
                simp only [Act.put, List.setIfInBounds_toArray, List.set_cons_zero, List.set_cons_succ]
                refine wpAnyH_take (i := 7) (v := ?va7) rfl (by kernel_rfl) (by kernel_rfl) (by kernel_rfl) (fun _ _ _ h => h) (Or.inl ⟨by first | kernel_rfl | rfl, ?ya7⟩) hHeld ?ra7
                case ya7 => (intro W hSW; (try dsimp only at hSW); go_simp; (try with_reducible rfl))
                change wpAnyH _ _ _ _ _ _ _ (Act.put _ (some 48) _) _
                simp only [Act.put, List.setIfInBounds_toArray, List.set_cons_zero, List.set_cons_succ]
                refine wpAnyH_take (i := 8) (v := ?va8) rfl (by kernel_rfl) (by kernel_rfl) (by kernel_rfl) (fun _ _ _ h => h) (Or.inl ⟨by first | kernel_rfl | rfl, ?ya8⟩) hHeld ?ra8
                case ya8 => (intro W hSW; (try dsimp only at hSW); go_simp; (try with_reducible rfl))
                change wpAnyH _ _ _ _ _ _ _ (Act.put _ (some 49) _) _
                simp only [Act.put, List.setIfInBounds_toArray, List.set_cons_zero, List.set_cons_succ]
                refine wpAnyH_take (i := 9) (v := ?va9) rfl (by kernel_rfl) (by kernel_rfl) (by kernel_rfl) (fun _ _ _ h => h) (Or.inl ⟨by first | kernel_rfl | rfl, ?ya9⟩) hHeld ?ra9
                case ya9 => (intro W hSW; (try dsimp only at hSW); go_simp; (try with_reducible rfl))
                change wpAnyH _ _ _ _ _ _ _ (Act.put _ (some 50) _) _
                simp only [Act.put, List.setIfInBounds_toArray, List.set_cons_zero, List.set_cons_succ]
                refine wpAnyH_take (i := 10) (v := ?va10) rfl (by kernel_rfl) (by kernel_rfl) (by kernel_rfl) (fun _ _ _ h => h) (Or.inl ⟨by first | kernel_rfl | rfl, ?ya10⟩) hHeld ?ra10
                case ya10 => (intro W hSW; (try dsimp only at hSW); go_simp; (try with_reducible rfl))
                change wpAnyH _ _ _ _ _ _ _ (Act.put _ (some 51) _) _
                simp only [Act.put, List.setIfInBounds_toArray, List.set_cons_zero, List.set_cons_succ]
                refine wpAnyH_done (by kernel_rfl) ?_ _
                clear hHeld
                go_wp2
                go_ret
                exact ⟨by rw [HE.out]; rfl, HBD.out⟩
              · have HN : Hid (∀ c ∈ l.take (q + 1), c.1 ≠ x) := take_all hql HNE.out (by rw [hy]; exact fun e => hxy e.symm)
                have HBD : Hid (Below w.heap.size w wr.drew) := hbel.drew
                clear hbel hy hx HNE
                go_wp2
                refine wp_region_held_drew (S := fun V => V.cell? ⟨b, o + k * 2, none⟩ = some (.int .i64 x) ∧ V.cell? ⟨b, o + q * 2, none⟩ = some (.int .i64 y)) (by kernel_rfl) (⟨c1, c3⟩) (fun hHeld => ?_)
                refine wpAnyH_take (i := 0) (v := ?vb0) rfl (by kernel_rfl) (by kernel_rfl) (by kernel_rfl) (fun _ _ _ h => h) (Or.inl ⟨by first | kernel_rfl | rfl, ?yb0⟩) hHeld ?rb0
                case yb0 => (intro W hSW; (try dsimp only at hSW); go_simp; (try with_reducible rfl))
                change wpAnyH _ _ _ _ _ _ _ (Act.put _ (some 41) _) _
                simp only [Act.put, List.setIfInBounds_toArray, List.set_cons_zero, List.set_cons_succ]
                refine wpAnyH_take (i := 1) (v := ?vb1) rfl (by kernel_rfl) (by kernel_rfl) (by kernel_rfl) (fun _ _ _ h => h) (Or.inl ⟨by first | kernel_rfl | rfl, ?yb1⟩) hHeld ?rb1
                case yb1 => (intro W hSW; (try dsimp only at hSW); go_simp; (try with_reducible rfl))
                change wpAnyH _ _ _ _ _ _ _ (Act.put _ (some 42) _) _
                simp only [Act.put, List.setIfInBounds_toArray, List.set_cons_zero, List.set_cons_succ]
                refine wpAnyH_take (i := 2) (v := ?vb2) rfl (by kernel_rfl) (by kernel_rfl) (by kernel_rfl) (fun _ _ _ h => h) (Or.inl ⟨by first | kernel_rfl | rfl, ?yb2⟩) hHeld ?rb2
                case yb2 => (intro W hSW; (try dsimp only at hSW); go_simp; (try with_reducible rfl))
                change wpAnyH _ _ _ _ _ _ _ (Act.put _ (some 43) _) _
                simp only [Act.put, List.setIfInBounds_toArray, List.set_cons_zero, List.set_cons_succ]
                refine wpAnyH_take (i := 3) (v := ?vb3) rfl (by kernel_rfl) (by kernel_rfl) (by kernel_rfl) (fun _ _ _ h => h) (Or.inl ⟨by first | kernel_rfl | rfl, ?yb3⟩) hHeld ?rb3
                case yb3 => (intro W hSW; (try dsimp only at hSW); go_simp; (try with_reducible rfl))
                change wpAnyH _ _ _ _ _ _ _ (Act.put _ (some 44) _) _
                simp only [Act.put, List.setIfInBounds_toArray, List.set_cons_zero, List.set_cons_succ]
                refine wpAnyH_take (i := 4) (v := ?vb4) rfl (by kernel_rfl) (by kernel_rfl) (by kernel_rfl) (fun _ _ _ h => h) (Or.inl ⟨by first | kernel_rfl | rfl, ?yb4⟩) hHeld ?rb4
                case yb4 => (intro W hSW; (try dsimp only at hSW); go_simp; (try with_reducible rfl))
                change wpAnyH _ _ _ _ _ _ _ (Act.put _ (some 45) _) _
                simp only [Act.put, List.setIfInBounds_toArray, List.set_cons_zero, List.set_cons_succ]
                refine wpAnyH_take (i := 5) (v := ?vb5) rfl (by kernel_rfl) (by kernel_rfl) (by kernel_rfl) (fun _ _ _ h => h) (Or.inl ⟨by first | kernel_rfl | rfl, ?yb5⟩) hHeld ?rb5
                case yb5 => (intro W hSW; (try dsimp only at hSW); go_simp; (try with_reducible rfl))
                change wpAnyH _ _ _ _ _ _ _ (Act.put _ (some 46) _) _
                simp only [Act.put, List.setIfInBounds_toArray, List.set_cons_zero, List.set_cons_succ]
                refine wpAnyH_take (i := 6) (v := ?vb6) rfl (by kernel_rfl) (by kernel_rfl) (by kernel_rfl) (fun _ _ _ h => h) (Or.inl ⟨by first | kernel_rfl | rfl, ?yb6⟩) hHeld ?rb6
                case yb6 => (intro W hSW; (try dsimp only at hSW); go_simp; (try with_reducible rfl))
                change wpAnyH _ _ _ _ _ _ _ (Act.put _ (some 47) _) _
                simp only [Act.put, List.setIfInBounds_toArray, List.set_cons_zero, List.set_cons_succ]
                refine wpAnyH_take (i := 7) (v := ?vb7) rfl (by kernel_rfl) (by kernel_rfl) (by kernel_rfl) (fun _ _ _ h => h) (Or.inl ⟨by first | kernel_rfl | rfl, ?yb7⟩) hHeld ?rb7
                case yb7 => (intro W hSW; (try dsimp only at hSW); go_simp; (try with_reducible rfl))
                change wpAnyH _ _ _ _ _ _ _ (Act.put _ (some 48) _) _
                simp only [Act.put, List.setIfInBounds_toArray, List.set_cons_zero, List.set_cons_succ]
                refine wpAnyH_take (i := 8) (v := ?vb8) rfl (by kernel_rfl) (by kernel_rfl) (by kernel_rfl) (fun _ _ _ h => h) (Or.inl ⟨by first | kernel_rfl | rfl, ?yb8⟩) hHeld ?rb8
                case yb8 => (intro W hSW; (try dsimp only at hSW); go_simp; (try with_reducible rfl))
                change wpAnyH _ _ _ _ _ _ _ (Act.put _ (some 49) _) _
                simp only [Act.put, List.setIfInBounds_toArray, List.set_cons_zero, List.set_cons_succ]
                refine wpAnyH_take (i := 9) (v := ?vb9) rfl (by kernel_rfl) (by kernel_rfl) (by kernel_rfl) (fun _ _ _ h => h) (Or.inl ⟨by first | kernel_rfl | rfl, ?yb9⟩) hHeld ?rb9
                case yb9 => (intro W hSW; (try dsimp only at hSW); go_simp; (try with_reducible rfl))
                change wpAnyH _ _ _ _ _ _ _ (Act.put _ (some 50) _) _
                simp only [Act.put, List.setIfInBounds_toArray, List.set_cons_zero, List.set_cons_succ]
                refine wpAnyH_take (i := 10) (v := ?vb10) rfl (by kernel_rfl) (by kernel_rfl) (by kernel_rfl) (fun _ _ _ h => h) (Or.inl ⟨by first | kernel_rfl | rfl, ?yb10⟩) hHeld ?rb10
                case yb10 => (intro W hSW; (try dsimp only at hSW); go_simp; (try with_reducible rfl))
                change wpAnyH _ _ _ _ _ _ _ (Act.put _ (some 51) _) _
                simp only [Act.put, List.setIfInBounds_toArray, List.set_cons_zero, List.set_cons_succ]
                refine wpAnyH_done (by kernel_rfl) ?_ _
                clear hHeld
                go_wp2
                exact ⟨⟨q + 1, by omega, by go_num, HN.out, HBD.out⟩, by simp [intOf]; omega⟩
            · obtain rfl : q = k := by omega
              have kk2 : ¬ (q : Int) < (q : Int) := by omega
              have HN : Hid ((l.take (q + 1)).map Prod.fst).Nodup := by
                show List.Nodup _
                rw [List.take_succ_eq_append_getElem hil, List.map_append, List.nodup_append]
                refine ⟨HND.out, by simp, fun u hu v hv e => ?_⟩
                simp only [List.map_cons, List.map_nil, List.mem_singleton] at hv
                obtain ⟨c, hcm, rfl⟩ := List.mem_map.1 hu
                exact HNE.out c hcm (by rw [e, hv, hx])
              clear hbel hx HC
              go_wp2
              exact ⟨⟨q + 1, by omega, by go_num, HN.out, HB.out⟩, by simp [intOf]; omega⟩
        · obtain rfl : k = i := by omega
          have kk : ¬ (k : Int) < (k : Int) := by omega
          have HND2 : Hid (l.map Prod.fst).Nodup := by
            have := HND.out
            rwa [List.take_of_length_le (by omega)] at this
          clear HND
          go_wp2
          go_loopw [8] (fun v wr => ∃ q : Nat, q ≤ k ∧ v = .int .i64 q ∧ (∀ c ∈ l.take q, c.2.size = 1024) ∧ Below w.heap.size w wr) (fun v _ => k - (intOf v).toNat)
          case atStart => exact ⟨0, by omega, rfl, fun c hc => by simp at hc, HB.out⟩
          case round =>
            clear HB hbel
            obtain ⟨q, hq, rfl, hall, hbel⟩ := hrel
            have HA : Hid (∀ c ∈ l.take q, c.2.size = 1024) := hall
            have HB : Hid (Below w.heap.size w wr) := hbel
            clear hall
            by_cases hlt : q < k
            · have kk : (q : Int) < (k : Int) := by omega
              have hil : q < l.length := by omega
              obtain ⟨b, o, rfl, hb, hcell⟩ := (HL.out.below hbel).2.2.2 (by omega)
              obtain ⟨c1, c2⟩ := hcell q hil
              have hmem : l[q] ∈ l := List.getElem_mem hil
              obtain ⟨⟨p, s⟩, hc⟩ : ∃ c, l[q] = c := ⟨_, rfl⟩
              rw [hc] at c1 c2 hmem
              simp only at c1 c2
              clear hbel hcell
              by_cases hs : s.size = 1024
              · have HA2 : Hid (∀ c ∈ l.take (q + 1), c.2.size = 1024) := take_all hil HA.out (by rw [hc]; exact hs)
                have ks : (s.size : Int) = 1024 := by omega
                clear HA
                go_wp2
                exact ⟨⟨q + 1, by omega, by go_num, HA2.out, HB.out⟩, by simp [intOf]; omega⟩
              · have HE : Hid (chk n l = 1) := chk_size HALL.out HND2.out hmem hs
                have ks : ¬ (s.size : Int) = 1024 := by omega
                clear HA hs
                go_wp2
                go_ret
                exact ⟨by rw [HE.out]; rfl, HB.out⟩
            · obtain rfl : q = k := by omega
              have kk : ¬ (q : Int) < (q : Int) := by omega
              have HE : Hid (chk n l = 0) := chk_ok HALL.out HND2.out (by
                have h1 := HA.out
                rwa [List.take_of_length_le (by omega)] at h1)
              clear hbel HA
              go_wp2
              go_ret
              exact ⟨by rw [HE.out]; rfl, HB.out⟩
end Go.Proofs.YtaacedaehbaodaaGreat
