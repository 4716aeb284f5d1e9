/- A walk over the document's Patch. -/
import Derived.Test.YtbhnmjjfammlkaaDoorHY
import Derived.Test.YtbhnmjjfammlkaaDoorGE
namespace Go.Proofs.YtbhnmjjfammlkaaDoor
open Go.RowKit
def txS (t : ByteArray) (z : Nat) (l : List Pc) (i : Nat) : ByteArray := ⟨(textP (blkL t.data.toList z) (l.take i)).toArray⟩
theorem txS_size (t : ByteArray) (z : Nat) (l : List Pc) (i : Nat) : (txS t z l i).size = (textP (blkL t.data.toList z) (l.take i)).length := by simp [txS, ByteArray.size]
theorem txS_next {t : ByteArray} {z i : Nat} {l : List Pc} {p : Pc} (h : l[i]? = some p) (S : ByteArray) (hS : (if p.copy then blkL t.data.toList z p.n.toNat else p.data.data.toList) = S.data.toList) : txS t z l (i + 1) = txS t z l i ++ S := by
  unfold txS
  rw [textP_snoc _ h, hS]
  apply ba_ext
  simp
theorem cnt_last {t : ByteArray} {z : Nat} (hz : 1 ≤ z) (h : t.size ≠ 0) : cntL t.data.toList z = (t.size - 1) / z + 1 := by
  unfold cntL
  rw [Array.length_toList]
  have e : t.data.size + z - 1 = (t.size - 1) + z := by
    have : t.data.size = t.size := rfl
    omega
  rw [e, Nat.add_div_right _ (by omega)]
theorem cnt_none {t : ByteArray} {z : Nat} (hz : 1 ≤ z) (h : t.size = 0) : cntL t.data.toList z = 0 := by
  unfold cntL
  rw [Array.length_toList]
  have : t.data.size = t.size := rfl
  exact Nat.div_eq_of_lt (by omega)
set_option maxRecDepth 100000 in
set_option maxHeartbeats 4000000 in
theorem rpatch_any {G : Nat → Prop} {w : World} {a : Option Addr} {n c : Nat} {l : List Pc} (h : Hw G w a n c l) (t : ByteArray) (x : Int) (ht : t.size ≤ 100000) (hp : ∀ p ∈ l, p.data.size ≤ 100000) :
    Calls Tryd.prog 15 #[.string t, .int .i64 x, .slice a n c] w fun e w' => e = .returned (.tuple #[.string (patchF t x l).1, .int .i64 (patchF t x l).2]) ∧ Below w.heap.size w w' := by
  have HC := may_any h
  have hl := h.len
  cases hm : mayP l with
  | false =>
    rw [hm] at HC
    have e0 : patchF t x l = (⟨#[]⟩, 1) := by unfold patchF; rw [if_pos hm]
    rw [e0]
    clear h hm e0
    go_enter Tryd.func15, Tryd.ntmps15
    go_wp2_with fail
    refine HC.mono ?_
    rintro e V1 ⟨rfl, hb1⟩
    have H1 : Hid (Below w.heap.size w V1) := hb1
    clear HC hb1
    go_wp2
    refine bodyPost_ret (v := .tuple #[.string ⟨#[]⟩, .int .i64 1]) ?_ rfl ⟨rfl, H1.out⟩
    simp [results, go_sem]
  | true =>
    rw [hm] at HC
    have hok := may_ok hm
    by_cases hx : x < 1 ∨ 128 < x
    · have hg : goodZ x = false := by
        unfold goodZ
        rcases hx with h5 | h5
        · rw [decide_eq_false (by omega)]; rfl
        · rw [decide_eq_false (p := x ≤ 128) (by omega), Bool.and_false]
      have e0 : patchF t x l = (⟨#[]⟩, 9) := by unfold patchF; rw [if_neg (by rw [hm]; decide), if_pos hg]
      rw [e0]
      clear h hm e0 hg
      by_cases h1 : x < 1
      · go_enter Tryd.func15, Tryd.ntmps15
        go_wp2_with fail
        refine HC.mono ?_
        rintro e V1 ⟨rfl, hb1⟩
        have H1 : Hid (Below w.heap.size w V1) := hb1
        clear HC hb1
        go_wp2
        refine bodyPost_ret (v := .tuple #[.string ⟨#[]⟩, .int .i64 9]) ?_ rfl ⟨rfl, H1.out⟩
        simp [results, go_sem]
      · have h2 : 128 < x := by omega
        clear hx
        go_enter Tryd.func15, Tryd.ntmps15
        go_wp2_with fail
        refine HC.mono ?_
        rintro e V1 ⟨rfl, hb1⟩
        have H1 : Hid (Below w.heap.size w V1) := hb1
        clear HC hb1
        go_wp2
        refine bodyPost_ret (v := .tuple #[.string ⟨#[]⟩, .int .i64 9]) ?_ rfl ⟨rfl, H1.out⟩
        simp [results, go_sem]
    · have hg : goodZ x = true := by
        unfold goodZ
        rw [decide_eq_true (by omega), decide_eq_true (by omega)]
        rfl
      obtain ⟨z, rfl⟩ : ∃ z : Nat, x = (z : Int) := ⟨x.toNat, by omega⟩
      have hz1 : 1 ≤ z := by omega
      have hz2 : z ≤ 128 := by omega
      have hun : patchF t (z : Int) l = if hasP (cntL t.data.toList z) l = false then (⟨#[]⟩, 9) else if 1024 < t.size then (⟨#[]⟩, 2) else if 1024 < (textP (blkL t.data.toList z) l).length then (⟨#[]⟩, 2) else (⟨(textP (blkL t.data.toList z) l).toArray⟩, 0) := by
        unfold patchF
        rw [if_neg (by rw [hm]; decide), if_neg (by rw [hg]; decide), Int.toNat_natCast]
      obtain ⟨R, hR⟩ : ∃ R, patchF t (z : Int) l = R := ⟨_, rfl⟩
      rw [hR] at hun ⊢
      obtain ⟨cnt, hcnt⟩ : ∃ cnt, cntL t.data.toList z = cnt := ⟨_, rfl⟩
      rw [hcnt] at hun
      have HA : Hid ((∀ W, Below w.heap.size w W → Hw G W a n c l) ∧ l.length = n ∧ (∀ p ∈ l, p.ok = true) ∧ (∀ p ∈ l, p.data.size ≤ 100000) ∧ cntL t.data.toList z = cnt ∧ R = (if hasP cnt l = false then (⟨#[]⟩, 9) else if 1024 < t.size then (⟨#[]⟩, 2) else if 1024 < (textP (blkL t.data.toList z) l).length then (⟨#[]⟩, 2) else (⟨(textP (blkL t.data.toList z) l).toArray⟩, 0))) := ⟨fun W hW => h.below hW, hl, hok.1, hp, hcnt, hun⟩
      have hn24 : n ≤ 1024 := by have := hok.2; omega
      obtain ⟨q, hq⟩ : ∃ q, (t.size - 1) / z = q := ⟨_, rfl⟩
      have HCN : Hid ((t.size = 0 → cnt = 0) ∧ (t.size ≠ 0 → cnt = q + 1)) := ⟨fun h5 => by rw [← hcnt]; exact cnt_none hz1 h5, fun h5 => by rw [← hcnt, ← hq]; exact cnt_last hz1 h5⟩
      have hqb : q ≤ 100000 := by rw [← hq]; exact Nat.le_trans (Nat.div_le_self _ _) (by omega)
      have HBL : Hid (∀ V, Calls Tryd.prog 38 #[.string t, .int .i64 (z : Int)] V fun e w' => BlTo V (blocksF t (z : Int)) e w') := fun V => refblocks_any t (z : Int) V (by omega)
      have k1z : ¬ (z : Int) < 1 := by omega
      have k2z : ¬ (128 : Int) < (z : Int) := by omega
      have HQ : Hid ((t.size - 1) / z = q) := hq
      clear h hm hun hg hp hok hl hR hcnt hx hq
      go_enter Tryd.func15, Tryd.ntmps15
      go_wp2_with fail
      refine HC.mono ?_
      rintro e V1 ⟨rfl, hb1⟩
      have H1 : Hid (Below w.heap.size w V1) := hb1
      clear HC hb1
      go_wp2
      go_loopw [8] (fun v wr => ∃ i : Nat, i ≤ n ∧ v = .int .i64 i ∧ (∀ (j : Nat) (p : Pc), j < i → l[j]? = some p → p.copy = true → p.n < (cnt : Int)) ∧ Below w.heap.size w wr) (fun v _ => n - (intOf v).toNat)
      case atStart => exact ⟨0, by omega, rfl, (fun j p hj => by omega), H1.out⟩
      case round =>
        obtain ⟨i, hi, rfl, hwl, hbw⟩ := hrel
        by_cases hlt : i < n
        · have kk : (i : Int) < (n : Int) := by omega
          obtain ⟨ab, ao, rfl, hab, hc⟩ := (HA.out.1 wr hbw).at (by omega)
          obtain ⟨p, hpi⟩ : ∃ p, l[i]? = some p := ⟨_, List.getElem?_eq_getElem (by have := HA.out.2.1; omega)⟩
          have hpn := ok_n (HA.out.2.2.1 p (List.mem_of_getElem? hpi))
          obtain ⟨c1, c2, c3⟩ := hc i _ hpi
          have NO : Hid (p.copy = true → ¬ p.n < (cnt : Int) → R = (⟨#[]⟩, 9) ∧ ∀ m, Below w.heap.size w (wr.drewN m)) := fun h1 h2 => ⟨by rw [HA.out.2.2.2.2.2, if_pos (hasP_no hpi h1 h2)], fun m => below_drewN hbw m⟩
          have YES : Hid ((p.copy = true → p.n < (cnt : Int)) → (∀ (j : Nat) (p : Pc), j < i + 1 → l[j]? = some p → p.copy = true → p.n < (cnt : Int)) ∧ ∀ m, Below w.heap.size w (wr.drewN m)) := fun hh => by
            refine ⟨fun j q hj hq hcq => ?_, fun m => below_drewN hbw m⟩
            by_cases e : j = i
            · subst e
              rw [hpi] at hq
              cases hq
              exact hh hcq
            · exact hwl j q (by omega) hq hcq
          obtain ⟨p1, p2, p3⟩ := p
          simp only at *
          clear hc hpi hwl hbw
          cases p1 with
          | false =>
            have HE : Hid ((∀ (j : Nat) (p : Pc), j < i + 1 → l[j]? = some p → p.copy = true → p.n < (cnt : Int)) ∧ ∀ m, Below w.heap.size w (wr.drewN m)) := YES.out (fun h => by cases h)
            clear YES NO
            go_wp2
            go_quiet (fail)
            go_wp2
            exact ⟨⟨i + 1, by omega, by go_num, HE.out.1, HE.out.2 _⟩, by simp [intOf]; omega⟩
          | true =>
            by_cases h0 : t.size = 0
            · have k0 : ((t.size : Int) == 0) = true := by simp [h0]
              have HE : Hid (R = (⟨#[]⟩, 9) ∧ ∀ m, Below w.heap.size w (wr.drewN m)) := NO.out rfl (by have := HCN.out.1 h0; omega)
              clear YES NO h0
              go_wp2
              go_quiet (fail)
              go_wp2
              refine bodyPost_ret (v := .tuple #[.string ⟨#[]⟩, .int .i64 9]) ?_ rfl ⟨by rw [HE.out.1], HE.out.2 _⟩
              simp [results, go_sem]
            · have k0 : ((t.size : Int) == 0) = false := by simpa using (show ¬ (t.size : Int) = 0 by omega)
              have hcq := HCN.out.2 h0
              obtain ⟨m1, hm1⟩ : ∃ m1, t.size - 1 = m1 := ⟨_, rfl⟩
              have km1 : (t.size : Int) - 1 = (m1 : Int) := by omega
              have hq := HQ.out
              rw [hm1] at hq
              have kt : Int.tdiv (m1 : Int) (z : Int) = (q : Int) := by rw [← hq]; exact Int.ofNat_tdiv m1 z
              have kd : (m1 : Int) / (z : Int) = (q : Int) := by rw [← hq]; rfl
              have kz : ((z : Int) == 0) = false := by simpa using (show ¬ (z : Int) = 0 by omega)
              have kz2 : ¬ (z : Int) = 0 := by omega
              have wm1 : IntKind.i64.wrap (m1 : Int) = (m1 : Int) := by rw [IntKind.wrap_i64]; omega
              have wq : IntKind.i64.wrap (q : Int) = (q : Int) := by rw [IntKind.wrap_i64]; omega
              by_cases hpc : (q : Int) < p2
              · have dk : decide ((q : Int) < p2) = true := decide_eq_true hpc
                have HE : Hid (R = (⟨#[]⟩, 9) ∧ ∀ m, Below w.heap.size w (wr.drewN m)) := NO.out rfl (by omega)
                clear YES NO h0 hcq hm1 hq
                go_wp2
                go_quiet (fail)
                go_wp2
                refine bodyPost_ret (v := .tuple #[.string ⟨#[]⟩, .int .i64 9]) ?_ rfl ⟨by rw [HE.out.1], HE.out.2 _⟩
                simp [results, go_sem]
              · have dk : decide ((q : Int) < p2) = false := decide_eq_false hpc
                have HE : Hid ((∀ (j : Nat) (p : Pc), j < i + 1 → l[j]? = some p → p.copy = true → p.n < (cnt : Int)) ∧ ∀ m, Below w.heap.size w (wr.drewN m)) := YES.out (fun _ => by omega)
                clear YES NO h0 hcq hm1 hq
                go_wp2
                go_quiet (fail)
                go_wp2
                exact ⟨⟨i + 1, by omega, by go_num, HE.out.1, HE.out.2 _⟩, by simp [intOf]; omega⟩
        · have kk : ¬ (i : Int) < (n : Int) := by omega
          have hh : hasP cnt l = true := hasP_yes (fun j p hj => hwl j p (by have := (List.getElem?_eq_some_iff.1 hj).1; have := HA.out.2.1; omega) hj)
          have hR2 := HA.out.2.2.2.2.2
          rw [if_neg (by rw [hh]; decide)] at hR2
          obtain ⟨Vs, hVs⟩ : ∃ V, V = wr := ⟨_, rfl⟩
          subst hVs
          by_cases hlong : 1024 < t.size
          · have kl : (1024 : Int) < (t.size : Int) := by omega
            rw [if_pos hlong] at hR2
            have HE : Hid (R = (⟨#[]⟩, 2) ∧ Below w.heap.size w Vs) := ⟨hR2, hbw⟩
            clear hwl hbw hh hR2
            go_wp2
            refine bodyPost_ret (v := .tuple #[.string ⟨#[]⟩, .int .i64 2]) ?_ rfl ⟨by rw [HE.out.1], HE.out.2⟩
            simp [results, go_sem]
          · have kl : ¬ (1024 : Int) < (t.size : Int) := by omega
            rw [if_neg hlong] at hR2
            rw [blocks_ok hz1 hz2 (by omega)] at HBL
            have HR2 : Hid (R = (if 1024 < (textP (blkL t.data.toList z) l).length then (⟨#[]⟩, 2) else (⟨(textP (blkL t.data.toList z) l).toArray⟩, 0)) ∧ hasP cnt l = true ∧ Below w.heap.size w Vs) := ⟨hR2, hh, hbw⟩
            have H00 : Hid (txS t z l 0 = ⟨#[]⟩) := rfl
            clear hwl hbw hh hR2
            go_wp2
            go_loopw [9, 10] (fun vs v wr => ∃ i : Nat, i ≤ n ∧ v = .int .i64 i ∧ vs = .string (txS t z l i) ∧ (txS t z l i).size ≤ 1024 ∧ Below w.heap.size w wr) (fun _ v _ => n - (intOf v).toNat)
            case atStart => exact ⟨0, by omega, rfl, by rw [H00.out], by rw [H00.out]; decide, HR2.out.2.2⟩
            case round =>
              obtain ⟨i, hi, rfl, rfl, hsz, hbw⟩ := hrel
              by_cases hlt : i < n
              · have kk : (i : Int) < (n : Int) := by omega
                obtain ⟨ab, ao, rfl, hab, hc⟩ := (HA.out.1 wr hbw).at (by omega)
                obtain ⟨p, hpi⟩ : ∃ p, l[i]? = some p := ⟨_, List.getElem?_eq_getElem (by have := HA.out.2.1; omega)⟩
                have hpm := List.mem_of_getElem? hpi
                have hpn := ok_n (HA.out.2.2.1 p hpm)
                have hps := HA.out.2.2.2.1 p hpm
                have hpc := fun h5 => hasP_at HR2.out.2.1 hpm h5
                obtain ⟨c1, c2, c3⟩ := hc i _ hpi
                have hnx := fun S => txS_next (t := t) (z := z) hpi S
                have hle := textP_le (blkL t.data.toList z) l (i + 1)
                rw [← txS_size] at hle
                have BAD : Hid (1024 < (txS t z l (i + 1)).size → R = (⟨#[]⟩, 2)) := fun h5 => by rw [HR2.out.1, if_pos (by omega)]
                have HC2 : Hid (∀ V, Below wr.heap.size wr V → V.cell? ⟨ab, ao + i * 3 + 1, none⟩ = some (.int .i64 p.n)) := fun V hV => by rw [hV.cell hab]; exact c2
                obtain ⟨s0, hs0⟩ : ∃ s0, txS t z l i = s0 := ⟨_, rfl⟩
                rw [hs0] at hsz hnx ⊢
                have HX : Hid ((∀ S : ByteArray, (if p.copy then blkL t.data.toList z p.n.toNat else p.data.data.toList) = S.data.toList → txS t z l (i + 1) = s0 ++ S) ∧ Below w.heap.size w wr) := ⟨hnx, hbw⟩
                obtain ⟨p1, p2, p3⟩ := p
                simp only at *
                clear hc hpi hpm hnx hbw hle hs0
                cases p1 with
                | false =>
                  have hns : ¬ 9223372036854775807 < s0.size + p3.size := by omega
                  have hap : (s0 ++ p3).size = s0.size + p3.size := ByteArray.size_append
                  have hE := HX.out.1 p3 (by simp)
                  obtain ⟨s1, hs1⟩ : ∃ s1, s0 ++ p3 = s1 := ⟨_, rfl⟩
                  rw [hs1] at hE hap
                  rw [hE] at BAD
                  by_cases hb : 1024 < s1.size
                  · have kb : (1024 : Int) < (s1.size : Int) := by omega
                    have HE : Hid (R = (⟨#[]⟩, 2) ∧ Below w.heap.size w wr) := ⟨BAD.out hb, HX.out.2⟩
                    clear BAD HX hE
                    go_wp2
                    refine bodyPost_ret (v := .tuple #[.string ⟨#[]⟩, .int .i64 2]) ?_ rfl ⟨by rw [HE.out.1], HE.out.2⟩
                    simp [results, go_sem]
                  · have kb : ¬ (1024 : Int) < (s1.size : Int) := by omega
                    have HE : Hid (txS t z l (i + 1) = s1 ∧ Below w.heap.size w wr) := ⟨hE, HX.out.2⟩
                    clear BAD HX hE
                    go_wp2
                    exact ⟨⟨i + 1, by omega, by go_num, by rw [HE.out.1], by rw [HE.out.1]; omega, HE.out.2⟩, by simp [intOf]; omega⟩
                | true =>
                  have HB := HBL.out wr
                  obtain ⟨k, rfl⟩ : ∃ k : Nat, p2 = (k : Int) := ⟨p2.toNat, by omega⟩
                  have hkc : k < cnt := by have := hpc rfl; omega
                  have hE := HX.out.1 (blk t z k) (by simp [blk_l])
                  have hbz : (blk t z k).size ≤ 128 := by unfold blk; rw [ByteArray.size_extract]; omega
                  obtain ⟨S, hS⟩ : ∃ S, blk t z k = S := ⟨_, rfl⟩
                  rw [hS] at hE hbz
                  have hns : ¬ 9223372036854775807 < s0.size + S.size := by omega
                  have hap : (s0 ++ S).size = s0.size + S.size := ByteArray.size_append
                  obtain ⟨s1, hs1⟩ : ∃ s1, s0 ++ S = s1 := ⟨_, rfl⟩
                  rw [hs1] at hE hap
                  rw [hE] at BAD
                  have HSK : Hid (blk t z k = S ∧ k < cnt ∧ txS t z l (i + 1) = s1) := ⟨hS, hkc, hE⟩
                  clear hE hS hkc hpc
                  go_wp2_with fail
                  refine HB.mono ?_
                  intro e V3 hV3
                  obtain ⟨ba, bn, bc, rfl, htw, hb3⟩ := hV3.tw
                  have htl := htw.len
                  simp only at htl ⊢
                  have hbn : bn = cnt := by
                    rw [← htl, ← HA.out.2.2.2.2.1, ← nbl_cnt]
                    simp [blocksL]
                  obtain ⟨bb, bo, rfl, _, hcc⟩ := htw.at (by have := HSK.out.2.1; omega)
                  have hck := hcc k (blk t z k) (by
                    unfold blocksL
                    rw [List.getElem?_map, List.getElem?_range (by rw [nbl_cnt, HA.out.2.2.2.2.1]; exact HSK.out.2.1)]
                    rfl)
                  rw [HSK.out.1] at hck
                  have d2 := HC2.out V3 hb3
                  have kkb : (k : Int) < (bn : Int) := by have := HSK.out.2.1; omega
                  have H3 : Hid (Below w.heap.size w V3) := HX.out.2.trans (hb3.mono HX.out.2.size)
                  clear HB hV3 htw hb3 htl hbn hcc HC2 HX c1 c2 c3
                  by_cases hb : 1024 < s1.size
                  · have kb : (1024 : Int) < (s1.size : Int) := by omega
                    have HE : Hid (R = (⟨#[]⟩, 2) ∧ Below w.heap.size w V3) := ⟨BAD.out hb, H3.out⟩
                    clear BAD
                    go_wp2
                    refine bodyPost_ret (v := .tuple #[.string ⟨#[]⟩, .int .i64 2]) ?_ rfl ⟨by rw [HE.out.1], HE.out.2⟩
                    simp [results, go_sem]
                  · have kb : ¬ (1024 : Int) < (s1.size : Int) := by omega
                    have HE : Hid (txS t z l (i + 1) = s1 ∧ Below w.heap.size w V3) := ⟨HSK.out.2.2, H3.out⟩
                    clear BAD
                    go_wp2
                    exact ⟨⟨i + 1, by omega, by go_num, by rw [HE.out.1], by rw [HE.out.1]; omega, HE.out.2⟩, by simp [intOf]; omega⟩
              · have kk : ¬ (i : Int) < (n : Int) := by omega
                have hfin : R = (txS t z l i, 0) := by
                  rw [HR2.out.1]
                  have e5 : txS t z l i = ⟨(textP (blkL t.data.toList z) l).toArray⟩ := by
                    unfold txS
                    rw [List.take_of_length_le (by have := HA.out.2.1; omega)]
                  have e6 := txS_size t z l i
                  rw [List.take_of_length_le (by have := HA.out.2.1; omega)] at e6
                  rw [if_neg (by omega), e5]
                obtain ⟨s0, hs0⟩ : ∃ s0, txS t z l i = s0 := ⟨_, rfl⟩
                rw [hs0] at hfin ⊢
                have HE : Hid (R = (s0, 0) ∧ Below w.heap.size w wr) := ⟨hfin, hbw⟩
                clear hfin hbw hs0 hsz
                go_wp2
                refine bodyPost_ret (v := .tuple #[.string s0, .int .i64 0]) ?_ rfl ⟨by rw [HE.out.1], HE.out.2⟩
                simp [results, go_sem]
end Go.Proofs.YtbhnmjjfammlkaaDoor
