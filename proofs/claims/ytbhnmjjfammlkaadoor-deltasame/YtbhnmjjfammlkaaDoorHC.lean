/- Walks over the document's May and the statements' few. -/
import Derived.Test.YtbhnmjjfammlkaaDoorHB
namespace Go.Proofs.YtbhnmjjfammlkaaDoor
open Go.RowKit
theorem size0 {s : ByteArray} (h : s.size = 0) : s = ⟨#[]⟩ := by
  obtain ⟨d⟩ := s
  have : d.size = 0 := h
  rw [Array.eq_empty_of_size_eq_zero this]
theorem may_not {l : List Pc} {i : Nat} {p : Pc} (hi : l[i]? = some p) (h : wellAt l i = false) : mayP l = false := by
  cases hm : mayP l with
  | false => rfl
  | true =>
    have := ((may_iff l).1 hm).2 i (List.getElem?_eq_some_iff.1 hi).1
    rw [h] at this
    cases this
/-- What May tells. -/
def MyTo (w : World) (b : Bool) (e : Ending) (w' : World) : Prop := e = .returned (.bool b) ∧ Below w.heap.size w w'
set_option maxRecDepth 100000 in
set_option maxHeartbeats 2000000 in
theorem may_any {G : Nat → Prop} {w : World} {a : Option Addr} {n c : Nat} {l : List Pc} (h : Hw G w a n c l) : Calls Tryd.prog 17 #[.slice a n c] w fun e w' => MyTo w (mayP l) e w' := by
  have hl := h.len
  have hmx := h.max
  by_cases hn : 1024 < n
  · have kn : (1024 : Int) < (n : Int) := by omega
    have HE : Hid (MyTo w (mayP l) (.returned (.bool false)) w) := by
      refine ⟨?_, Below.refl _ _⟩
      have : mayP l = false := by
        cases hm : mayP l with
        | false => rfl
        | true => have := ((may_iff l).1 hm).1; omega
      rw [this]
    go_enter Tryd.func17, Tryd.ntmps17
    go_wp2
    go_ret
    exact HE.out
  · have kn : ¬ (1024 : Int) < (n : Int) := by omega
    have HA : Hid (∀ W, Below w.heap.size w W → Hw G W a n c l) := fun W hW => h.below hW
    clear h
    go_enter Tryd.func17, Tryd.ntmps17
    go_wp2
    go_loopw [3] (fun v wr => ∃ i : Nat, i ≤ n ∧ v = .int .i64 i ∧ (∀ j, j < i → wellAt l j = true) ∧ Below w.heap.size w wr) (fun v _ => n - (intOf v).toNat)
    case atStart => exact ⟨0, by omega, rfl, (fun j hj => by omega), Below.refl _ _⟩
    case round =>
      obtain ⟨i, hi, rfl, hwl, hbw⟩ := hrel
      by_cases hlt : i < n
      · have kk : (i : Int) < (n : Int) := by omega
        obtain ⟨ab, ao, rfl, _, hc⟩ := (HA.out wr hbw).at (by omega)
        obtain ⟨⟨p1, p2, p3⟩, hp⟩ : ∃ p, l[i]? = some p := ⟨_, List.getElem?_eq_getElem (by omega)⟩
        obtain ⟨c1, c2, c3⟩ := hc i _ hp
        simp only at c1 c2 c3
        obtain ⟨V1, hV1⟩ : ∃ V1, wr.alloc (.cells #[.bool p1, .int .i64 p2, .string p3] 48) = V1 := ⟨_, rfl⟩
        obtain ⟨pb, hpb⟩ : ∃ pb, wr.heap.size = pb := ⟨_, rfl⟩
        have hB1 : Below wr.heap.size wr V1 := by rw [← hV1]; exact (Below.refl _ wr).alloc (Nat.le_refl _) _
        have r1 : V1.heap[pb]? = some (.cells #[.bool p1, .int .i64 p2, .string p3] 48 (0, 0)) := by rw [← hV1, ← hpb]; exact heap_alloc_new wr _
        have x0 : V1.cell? ⟨pb, 0, none⟩ = some (.bool p1) := by rw [cell_of_row _ _ _ _ _ _ r1]; rfl
        have x1 : V1.cell? ⟨pb, 1, none⟩ = some (.int .i64 p2) := by rw [cell_of_row _ _ _ _ _ _ r1]; rfl
        have x2 : V1.cell? ⟨pb, 2, none⟩ = some (.string p3) := by rw [cell_of_row _ _ _ _ _ _ r1]; rfl
        have hbw1 : Below w.heap.size w V1 := hbw.trans (hB1.mono hbw.size)
        have NO : wellAt l i = false → Hid (MyTo w (mayP l) (.returned (.bool false)) V1) := fun hh => by
          refine ⟨?_, hbw1⟩
          rw [may_not hp hh]
        have YES : wellAt l i = true → Hid ((∀ j, j < i + 1 → wellAt l j = true) ∧ Below w.heap.size w V1) := fun hh => by
          refine ⟨fun j hj => ?_, hbw1⟩
          by_cases e : j = i
          · rw [e]; exact hh
          · exact hwl j (by omega)
        have hwe : wellAt l i = ((⟨p1, p2, p3⟩ : Pc).ok && (p1 || decide (i = 0) || (match l[i - 1]? with | none => true | some q => q.copy))) := by unfold wellAt; rw [hp]; rfl
        have HPV : Hid (∀ k, k + 1 = i → ∃ q, l[k]? = some q ∧ V1.cell? ⟨ab, ao + k * 3, none⟩ = some (.bool q.copy)) := fun k hk => by
          obtain ⟨q, hq⟩ : ∃ q, l[k]? = some q := ⟨_, List.getElem?_eq_getElem (by omega)⟩
          refine ⟨q, hq, ?_⟩
          have h5 := (hc k q hq).1
          rw [hB1.cell (World.block_lt_of_cell? wr _ h5)]
          exact h5
        clear hc hp hwl hbw hB1 r1 hbw1
        cases p1 with
        | true =>
          by_cases e2 : p2 < 0
          · have HE := NO (by rw [hwe]; simp [Pc.ok]; omega)
            clear NO YES hwe HPV
            go_wp2
            go_ret
            exact HE.out
          · by_cases e3 : p3 = ⟨#[]⟩
            · have hie : p3.toList.isEmpty = true := by rw [e3]; simp
              have HE := YES (by
                have : p3.size = 0 := by rw [e3]; rfl
                rw [hwe]
                simp [Pc.ok, this]
                omega)
              clear NO YES hwe HPV e3
              go_wp2
              exact ⟨⟨i + 1, by omega, by go_num, HE.out⟩, by simp [intOf]; omega⟩
            · have hie : p3.toList.isEmpty = false := by have h5 := str_ne e3; simp at h5; simpa using h5
              have HE := NO (by
                rw [hwe]
                have : ¬ p3.size = 0 := fun h => e3 (size0 h)
                simp [Pc.ok, this])
              clear NO YES hwe HPV
              go_wp2
              go_ret
              exact HE.out
        | false =>
          by_cases e2 : p2 = 0
          · subst e2
            by_cases e3 : p3 = ⟨#[]⟩
            · have hie : p3.toList.isEmpty = true := by rw [e3]; simp
              have HE := NO (by
                have : p3.size = 0 := by rw [e3]; rfl
                rw [hwe]
                simp [Pc.ok, this])
              clear NO YES hwe HPV e3
              go_wp2
              go_ret
              exact HE.out
            · have hie : p3.toList.isEmpty = false := by have h5 := str_ne e3; simp at h5; simpa using h5
              have hsz : ¬ p3.size = 0 := fun h => e3 (size0 h)
              by_cases e0 : 0 < i
              · have k0 : (0 : Int) < (i : Int) := by omega
                obtain ⟨k, hk⟩ : ∃ k, k + 1 = i := ⟨i - 1, by omega⟩
                obtain ⟨⟨q1, q2, q3⟩, hq, d0⟩ := HPV.out k hk
                simp only at d0
                have ks : (i : Int) - 1 = (k : Int) := by omega
                have kn2 : (k : Int) < (n : Int) := by omega
                have hik : i - 1 = k := by omega
                cases q1 with
                | true =>
                  have HE := YES (by rw [hwe, hik, hq]; simp [Pc.ok, hsz])
                  clear NO YES hwe HPV hq hik hk
                  go_wp2
                  exact ⟨⟨i + 1, by omega, by go_num, HE.out⟩, by simp [intOf]; omega⟩
                | false =>
                  have HE := NO (by rw [hwe, hik, hq]; simp; omega)
                  clear NO YES hwe HPV hq hik hk
                  go_wp2
                  go_ret
                  exact HE.out
              · have k0 : ¬ (0 : Int) < (i : Int) := by omega
                have HE := YES (by rw [hwe, decide_eq_true (show i = 0 by omega)]; simp [Pc.ok, hsz])
                clear NO YES hwe HPV
                go_wp2
                exact ⟨⟨i + 1, by omega, by go_num, HE.out⟩, by simp [intOf]; omega⟩
          · have hb2 : (p2 == 0) = false := by simpa using e2
            have HE := NO (by rw [hwe]; simp [Pc.ok, e2])
            clear NO YES hwe HPV
            go_wp2
            go_ret
            exact HE.out
      · obtain rfl : i = n := by omega
        have kk : ¬ (i : Int) < (i : Int) := by omega
        have HE : Hid (MyTo w (mayP l) (.returned (.bool true)) wr) := by
          refine ⟨?_, hbw⟩
          rw [(may_iff l).2 ⟨by omega, fun j hj => hwl j (by omega)⟩]
        clear hwl hbw
        go_wp2
        go_ret
        exact HE.out
/-- How many bytes stand in pieces by themselves. -/
def costP (l : List Pc) : Nat := (l.map fun p => p.data.size).sum
theorem cost_snoc {l : List Pc} {i : Nat} {p : Pc} (h : l[i]? = some p) : costP (l.take (i + 1)) = costP (l.take i) + p.data.size := by rw [take_snoc h]; unfold costP; rw [List.map_append, List.sum_append]; simp
theorem cost_le (l : List Pc) (i : Nat) : costP (l.take i) ≤ costP l := by
  have := List.take_append_drop i l
  have h2 := congrArg costP this
  unfold costP at h2 ⊢
  rw [List.map_append, List.sum_append] at h2
  omega
def fewP (l : List Pc) : Bool := decide (l.length ≤ 1100) && decide (costP l ≤ 5000)
set_option maxRecDepth 100000 in
set_option maxHeartbeats 2000000 in
theorem few_any {G : Nat → Prop} {w : World} {a : Option Addr} {n c : Nat} {l : List Pc} (h : Hw G w a n c l) (hsz : ∀ p ∈ l, p.data.size ≤ 140737488351232) : Calls Tryd.prog 13 #[.slice a n c] w fun e w' => MyTo w (fewP l) e w' := by
  have hl := h.len
  have hmx := h.max
  by_cases hn : 1100 < n
  · have kn : (1100 : Int) < (n : Int) := by omega
    have HE : Hid (MyTo w (fewP l) (.returned (.bool false)) w) := by
      refine ⟨?_, Below.refl _ _⟩
      unfold fewP
      rw [decide_eq_false (by omega)]
      rfl
    go_enter Tryd.func13, Tryd.ntmps13
    go_wp2
    go_ret
    exact HE.out
  · have kn : ¬ (1100 : Int) < (n : Int) := by omega
    have HA : Hid (∀ W, Below w.heap.size w W → Hw G W a n c l) := fun W hW => h.below hW
    clear h
    go_enter Tryd.func13, Tryd.ntmps13
    go_wp2
    go_loopw [3, 4] (fun vn vi wr => ∃ i s : Nat, i ≤ n ∧ vi = .int .i64 i ∧ vn = .int .i64 s ∧ s = costP (l.take i) ∧ s ≤ 10000 ∧ Below w.heap.size w wr) (fun _ vi _ => n - (intOf vi).toNat)
    case atStart => exact ⟨0, 0, by omega, rfl, rfl, rfl, by omega, Below.refl _ _⟩
    case round =>
      obtain ⟨i, s, hi, rfl, rfl, hs, hs2, hbw⟩ := hrel
      by_cases hlt : i < n
      · have kk : (i : Int) < (n : Int) := by omega
        by_cases h5 : s ≤ 5000
        · have k5 : (s : Int) ≤ 5000 := by omega
          obtain ⟨ab, ao, rfl, _, hc⟩ := (HA.out wr hbw).at (by omega)
          obtain ⟨⟨p1, p2, p3⟩, hp⟩ : ∃ p, l[i]? = some p := ⟨_, List.getElem?_eq_getElem (by omega)⟩
          obtain ⟨_, _, c3⟩ := hc i _ hp
          have hpz := hsz _ (List.mem_of_getElem? hp)
          have hcs := cost_snoc hp
          have hcl := cost_le l (i + 1)
          simp only at c3 hpz hcs
          by_cases h6 : 5000 < p3.size
          · have k6 : (5000 : Int) < (p3.size : Int) := by omega
            have HE : Hid (MyTo w (fewP l) (.returned (.bool false)) wr) := by
              refine ⟨?_, hbw⟩
              unfold fewP
              rw [decide_eq_false (p := costP l ≤ 5000) (by omega), Bool.and_false]
            clear hc hp hcs hcl hbw hs
            go_wp2
            go_ret
            exact HE.out
          · have k6 : ¬ (5000 : Int) < (p3.size : Int) := by omega
            obtain ⟨s1, hs1⟩ : ∃ s1, s + p3.size = s1 := ⟨_, rfl⟩
            have ks : (s : Int) + (p3.size : Int) = (s1 : Int) := by omega
            have HE : Hid (s1 = costP (l.take (i + 1)) ∧ s1 ≤ 10000 ∧ Below w.heap.size w wr) := ⟨by omega, by omega, hbw⟩
            have h1s : s1 ≤ 10000 := by omega
            clear hc hp hcs hcl hbw hs hs1
            go_wp2
            exact ⟨⟨i + 1, s1, by omega, by go_num, by go_num, HE.out⟩, by simp [intOf]; omega⟩
        · have k5 : ¬ (s : Int) ≤ 5000 := by omega
          have HE : Hid (MyTo w (fewP l) (.returned (.bool false)) wr) := by
            refine ⟨?_, hbw⟩
            have := cost_le l i
            unfold fewP
            rw [decide_eq_false (p := costP l ≤ 5000) (by omega), Bool.and_false]
          clear hbw hs
          go_wp2
          go_ret
          exact HE.out
      · obtain rfl : i = n := by omega
        have kk : ¬ (i : Int) < (i : Int) := by omega
        rw [List.take_of_length_le (by omega)] at hs
        have HE : Hid (MyTo w (fewP l) (.returned (.bool (decide ((s : Int) ≤ 5000)))) wr) := by
          refine ⟨?_, hbw⟩
          unfold fewP
          rw [← hs, decide_eq_true (show l.length ≤ 1100 by omega), Bool.true_and]
          have e7 : decide (s ≤ 5000) = decide ((s : Int) ≤ 5000) := by
            by_cases h : s ≤ 5000
            · rw [decide_eq_true h, decide_eq_true (by omega)]
            · rw [decide_eq_false h, decide_eq_false (by omega)]
          rw [e7]
        clear hs hbw
        go_wp2
        go_ret
        exact HE.out
end Go.Proofs.YtbhnmjjfammlkaaDoor
