/- Walks over IndexFunc, leafOf and place. -/
import Derived.Test.YtnafalkcgghjgaaGreatDoorSE
import Derived.Shelf.Abstract
namespace Go.Proofs.YtnafalkcgghjgaaGreatDoor
open Go.RowKit Go.Shelf
set_option maxHeartbeats 1000000 in
theorem is_page {w : World} (B : Nat) (pg page s : Int) (a : Option Addr) (n c : Nat) (h : w.cell? ⟨B, 0, none⟩ = some (.int .i64 pg)) :
    Calls Tryz.prog 109 #[.agg #[.int .i64 page, .slice a n c, .int .i64 s], .pointer (some ⟨B, 0, none⟩)] w fun e w' => e = .returned (.bool (decide (page = pg))) ∧ Below w.heap.size w w' := by
  have hB : B < w.heap.size := World.block_lt_of_cell? _ _ h
  have hne : B ≠ w.heap.size := by omega
  by_cases e : page = pg
  · subst e
    go_enter Tryz.func109, Tryz.ntmps109
    go_wp2
    go_ret
    exact ⟨ret_bool (by simp), (Below.refl _ w).alloc (Nat.le_refl _) _⟩
  · have e' : (page == pg) = false := by simpa using e
    go_enter Tryz.func109, Tryz.ntmps109
    go_wp2
    go_ret
    exact ⟨ret_bool (by simp [e]), (Below.refl _ w).alloc (Nat.le_refl _) _⟩
set_option maxRecDepth 100000 in
set_option maxHeartbeats 2000000 in
theorem index_any {G : Nat → Prop} {w : World} (a : Option Addr) (n c : Nat) (L : List Mf) (h : Lw G w a n c L) (hn : n ≤ 1000) (B : Nat) (pg : Int) (hB : w.cell? ⟨B, 0, none⟩ = some (.int .i64 pg)) :
    Calls Tryz.prog 108 #[.slice a n c, .func (.func 109) #[] #[.pointer (some ⟨B, 0, none⟩)]] w fun e w' => ∃ r : Int, e = .returned (.int .i64 r) ∧ ((r = -1 ∧ ∀ m ∈ L, m.page ≠ pg) ∨ ∃ (i : Nat) (m : Mf), r = (i : Int) ∧ L[i]? = some m ∧ m.page = pg) ∧ Below w.heap.size w w' := by
  have hl := h.len
  have hcap : n ≤ c := h.1.2.1
  have HL : Hid (∀ W, Below w.heap.size w W → Lw G W a n c L) := fun W hW => h.below hW
  have HB : Hid (∀ W, Below w.heap.size w W → W.cell? ⟨B, 0, none⟩ = some (.int .i64 pg)) := fun W hW => by rw [hW.cell (p := ⟨B, 0, none⟩) (World.block_lt_of_cell? _ _ hB)]; exact hB
  have eg := enters_of Tryz.func109 (by kernel_rfl) rfl
  clear h hB
  go_enter Tryz.func108, Tryz.ntmps108
  go_wp2
  go_loopw [8] (fun vi wr => ∃ i : Nat, i ≤ n ∧ vi = .int .i64 i ∧ (∀ m ∈ L.take i, m.page ≠ pg) ∧ Below w.heap.size w wr) (fun vi _ => n - (intOf vi).toNat)
  case atStart => exact ⟨0, by omega, rfl, fun m hm => by simp at hm, Below.refl _ _⟩
  case round =>
    obtain ⟨i, hi, rfl, hno, hbel⟩ := hrel
    have HN : Hid (∀ m ∈ L.take i, m.page ≠ pg) := hno
    have HBB : Hid (Below w.heap.size w wr) := hbel
    by_cases hlt : i < n
    · have kk : (i : Int) < (n : Int) := by omega
      have hm : L[i]? = some L[i] := List.getElem?_eq_getElem (by omega)
      obtain ⟨m, hmm⟩ : ∃ m, L[i] = m := ⟨_, rfl⟩
      rw [hmm] at hm
      obtain ⟨b, o, rfl, hb, _, hc⟩ := (HL.out wr hbel).at (by omega)
      obtain ⟨d1, d2, d3⟩ := hc i m hm
      have HC := is_page (w := wr) B pg m.page (szL m.es : Int) m.a m.es.length m.es.length (HB.out wr hbel)
      have HM : Hid (L[i]? = some m) := hm
      clear hno hbel hc hm hmm
      by_cases hp : m.page = pg
      · rw [decide_eq_true hp] at HC
        have HPP : Hid (m.page = pg) := hp
        clear hp
        go_wp2_with fail
        refine HC.mono ?_
        rintro e V ⟨rfl, hV⟩
        have HV : Hid (Below wr.heap.size wr V) := hV
        clear hV HC
        go_wp2
        go_ret
        exact ⟨(i : Int), rfl, .inr ⟨i, m, rfl, HM.out, HPP.out⟩, HBB.out.trans (HV.out.mono HBB.out.size)⟩
      · rw [decide_eq_false hp] at HC
        go_wp2_with fail
        refine HC.mono ?_
        rintro e V ⟨rfl, hV⟩
        have HV : Hid (Below wr.heap.size wr V) := hV
        clear hV HC
        go_wp2
        refine ⟨⟨i + 1, by omega, by go_num, ?_, HBB.out.trans (HV.out.mono HBB.out.size)⟩, by simp [intOf]; omega⟩
        intro x hx
        rw [take_snoc HM.out] at hx
        rcases List.mem_append.1 hx with hx | hx
        · exact HN.out x hx
        · simp only [List.mem_singleton] at hx; rw [hx]; exact hp
    · obtain rfl : i = n := by omega
      have kk : ¬ (i : Int) < (i : Int) := by omega
      go_wp2
      go_ret
      refine ⟨-1, rfl, .inl ⟨rfl, ?_⟩, HBB.out⟩
      have := HN.out
      rwa [List.take_of_length_le (by omega)] at this
set_option maxHeartbeats 1000000 in
theorem leafOf_any {G : Nat → Prop} {w : World} (a : Option Addr) (n c : Nat) (L : List Mf) (h : Lw G w a n c L) (hn : n ≤ 1000) (pg : Int) :
    Calls Tryz.prog 91 #[.slice a n c, .int .i64 pg] w fun e w' => ∃ r : Int, e = .returned (.int .i64 r) ∧ ((r = -1 ∧ ∀ m ∈ L, m.page ≠ pg) ∨ ∃ (i : Nat) (m : Mf), r = (i : Int) ∧ L[i]? = some m ∧ m.page = pg) ∧ Below w.heap.size w w' := by
  obtain ⟨W1, hW1⟩ : ∃ W1, w.alloc (.cells #[.int .i64 pg] 3) = W1 := ⟨_, rfl⟩
  have hB1 : Below w.heap.size w W1 := by rw [← hW1]; exact (Below.refl _ w).alloc (Nat.le_refl _) _
  have hc : W1.cell? ⟨w.heap.size, 0, none⟩ = some (.int .i64 pg) := by
    have hr : W1.heap[w.heap.size]? = some (.cells #[.int .i64 pg] 3 (0, 0)) := by rw [← hW1]; exact heap_alloc_new w _
    rw [cell_of_row _ _ _ _ _ _ hr]; rfl
  have HI := index_any a n c L (h.below hB1) hn w.heap.size pg hc
  have HB : Hid (Below w.heap.size w W1) := hB1
  clear h hB1 hc
  go_enter Tryz.func91, Tryz.ntmps91
  go_wp2_with fail
  refine HI.mono ?_
  rintro e V ⟨r, rfl, h1, h2⟩
  have HH : Hid (((r = -1 ∧ ∀ m ∈ L, m.page ≠ pg) ∨ ∃ (i : Nat) (m : Mf), r = (i : Int) ∧ L[i]? = some m ∧ m.page = pg) ∧ Below W1.heap.size W1 V) := ⟨h1, h2⟩
  clear h1 h2 HI
  go_wp2
  go_ret
  exact ⟨r, rfl, HH.out.1, HB.out.trans (HH.out.2.mono HB.out.size)⟩
theorem mfV_page (L : List Mf) (i : Nat) (m : Mf) (h : L[i]? = some m) (p : Int) : (mfV L).set (i * 3) (.int .i64 p) = mfV (L.set i { m with page := p }) := by
  induction L generalizing i with
  | nil => simp at h
  | cons x L ih =>
    cases i with
    | zero =>
      simp only [List.getElem?_cons_zero, Option.some.injEq] at h
      subst h
      simp [mfV, mfC]
    | succ i =>
      simp only [List.getElem?_cons_succ] at h
      have := ih i h
      have e : mfV (x :: L) = mfC x ++ mfV L := by simp [mfV]
      have e2 : mfV ((x :: L).set (i + 1) { m with page := p }) = mfC x ++ mfV (L.set i { m with page := p }) := by simp [mfV]
      rw [e, e2, ← this, List.set_append_right _ _ (by rw [mfC_len]; omega), mfC_len]
      congr 2
      omega
theorem lfs_set (L : List Mf) (i : Nat) (m : Mf) : lfs (L.set i m) = (lfs L).set i m.lf := by simp [lfs, List.map_set]
set_option maxRecDepth 100000 in
set_option maxHeartbeats 2000000 in
theorem place_any {G : Nat → Prop} {base : Nat} {w : World} {g cap n q : Nat} {J : List Mf} (h : Lo G base w g cap J) (hG : ∀ x, base ≤ x → G x) (hp : Pre n (lfs J)) (hq : J.length = q) (hl : q ≤ n) (hn : n ≤ 128) :
    Calls Tryz.prog 62 #[.slice (some ⟨g, 0, none⟩) q cap] w fun e w' => e = .returned (.tuple #[]) ∧ ∃ J', Lo G base w' g cap J' ∧ J'.length = q ∧ Shape n (lfs J') ∧ flat (lfs J') = flat (lfs J) ∧ Upd (fun x => x = g) w w' := by
  have hcap : q ≤ cap := by have := (own_cap h.own).1; omega
  have hlw := h.lw hG
  rw [hq] at hlw
  have HLO := leafOf_any (some ⟨g, 0, none⟩) q cap J hlw (by omega) (-1)
  have HLW : Hid (∀ W, Below w.heap.size w W → Lw G W (some ⟨g, 0, none⟩) q cap J) := fun W hW => hlw.below hW
  have HLo : Hid (∀ W, Below w.heap.size w W → Lo G base W g cap J) := fun W hW => h.below hW
  have HP : Hid (Pre n (lfs J)) := hp
  have hgl : g < w.heap.size := (h.own.lt g rfl).2
  clear h hlw hp
  go_enter Tryz.func62, Tryz.ntmps62
  go_wp2_with fail
  refine HLO.mono ?_
  rintro e V ⟨r, rfl, hr, hV⟩
  have HV : Hid (Below w.heap.size w V) := hV
  clear HLO hV
  rcases hr with ⟨rfl, hno⟩ | ⟨i, m, rfl, hm, hpm⟩
  · have HN : Hid (∀ m ∈ J, m.page ≠ -1) := hno
    clear hno
    go_wp2
    refine bodyPost_ret (v := .tuple #[]) ?_ rfl ⟨rfl, J, HLo.out V HV.out, hq, ?_, rfl, Upd.of_below HV.out⟩
    · simp [results, go_sem]
    · refine HP.out.all fun x hx => ?_
      obtain ⟨m, hm, rfl⟩ := List.mem_map.1 hx
      exact HN.out m hm
  · have HM : Hid (J[i]? = some m ∧ m.page = -1) := ⟨hm, hpm⟩
    have hil : i < q := by have := (List.getElem?_eq_some_iff.1 hm).1; omega
    clear hm hpm
    go_wp2
    go_loopw [3] (fun vp wr => ∃ p : Nat, p ≤ n ∧ vp = .int .i64 p ∧ (∀ k : Nat, k < p → ∃ y ∈ lfs J, y.page = (k : Int)) ∧ Below w.heap.size w wr) (fun vp _ => n - (intOf vp).toNat)
    case atStart => exact ⟨0, by omega, rfl, fun k hk => absurd hk (by omega), HV.out⟩
    case round =>
      obtain ⟨p, hpn, rfl, hall, hbel⟩ := hrel
      have hpn' : p < n := free_page (x := m.lf) (by rw [lfs_len]; omega) (List.mem_of_getElem? (lfs_at HM.out.1)) HM.out.2 p hall
      have HL2 := leafOf_any (some ⟨g, 0, none⟩) q cap J (HLW.out wr hbel) (by omega) (p : Int)
      have HA : Hid (∀ k : Nat, k < p → ∃ y ∈ lfs J, y.page = (k : Int)) := hall
      have HB : Hid (Below w.heap.size w wr) := hbel
      clear hall hbel
      go_wp2_with fail
      refine HL2.mono ?_
      rintro e V2 ⟨r, rfl, hr, hV2⟩
      have HV2 : Hid (Below w.heap.size w V2) := HB.out.trans (hV2.mono HB.out.size)
      clear HL2 hV2
      rcases hr with ⟨rfl, hno⟩ | ⟨j, mj, rfl, hj, hpj⟩
      · have HN : Hid (∀ m ∈ J, m.page ≠ (p : Int)) := hno
        have hLo2 := HLo.out V2 HV2.out
        have ci : V2.cell? ⟨g, i * 3, none⟩ = some (.int .i64 m.page) := own_at hLo2.own (by have := fm_at mfC_len HM.out.1 0 (by omega); exact this)
        have fi := own_fro hLo2.own (i * 3)
        have kil : (i : Int) < (q : Int) := by omega
        clear hno hLo2
        go_wp2
        refine bodyPost_end (v := .tuple #[]) ?_ rfl ⟨rfl, J.set i { m with page := (p : Int) }, ⟨?_, ?_⟩, by simpa using hq, ?_, ?_, ?_⟩
        · simp [results, go_sem]
        · have := own_putS (HLo.out V2 HV2.out).own (i * 3) (.int .i64 (p : Int))
          rw [mfV_page J i m HM.out.1] at this
          rw [List.length_set]
          exact this
        · have hg2 : ∃ cur, V2.heap[g]? = some (.cells cur 85 (0, 0)) := by
            rcases (HLo.out V2 HV2.out).own.2 with ⟨h2, _⟩ | ⟨g2, c2, cur, e2, _, hr2, _⟩
            · cases h2
            · cases e2; exact ⟨cur, hr2⟩
          obtain ⟨cur, hcur⟩ := hg2
          intro x hx
          have hx' : ∃ y ∈ J, x.a = y.a ∧ x.es = y.es := by
            rcases List.mem_or_eq_of_mem_set hx with hx | hx
            · exact ⟨x, hx, rfl, rfl⟩
            · exact ⟨m, List.mem_of_getElem? HM.out.1, by rw [hx], by rw [hx]⟩
          obtain ⟨y, hy, e1, e2⟩ := hx'
          rw [e1, e2]
          refine ((HLo.out V2 HV2.out).ent y hy).other fun k cur2 fr hk => ?_
          exact Below.heap_setCell _ _ _ _ (fun e => by rw [e, hcur] at hk; cases hk)
        · have := HP.out.placed (lfs_at HM.out.1) HM.out.2 p hpn' (fun y hy => by
            obtain ⟨z, hz, rfl⟩ := List.mem_map.1 hy
            exact HN.out z hz)
          rw [lfs_set]
          exact this
        · rw [lfs_set]
          exact set_flat (lfs_at HM.out.1) (p : Int)
        · exact Upd.setCell (S := fun x => x = g) (Upd.of_below HV2.out) (p := ⟨g, i * 3, none⟩) (fun _ => rfl) _
      · have HJ : Hid (J[j]? = some mj ∧ mj.page = (p : Int)) := ⟨hj, hpj⟩
        clear hj hpj
        go_wp2
        refine ⟨⟨p + 1, by omega, by go_num, ?_, HV2.out⟩, by simp [intOf]; omega⟩
        intro k hk
        by_cases hkp : k = p
        · subst hkp
          exact ⟨mj.lf, List.mem_of_getElem? (lfs_at HJ.out.1), HJ.out.2⟩
        · exact HA.out k (by omega)
end Go.Proofs.YtnafalkcgghjgaaGreatDoor
