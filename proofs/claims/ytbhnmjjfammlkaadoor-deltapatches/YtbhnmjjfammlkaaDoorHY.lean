/- Walks over hasBlocks and Patch. -/
import Derived.Test.YtbhnmjjfammlkaaDoorHQ
import Derived.Test.YtbhnmjjfammlkaaDoorHR
import Derived.Test.YtbhnmjjfammlkaaDoorHJ
import Derived.Test.YtbhnmjjfammlkaaDoorShelf
namespace Go.Proofs.YtbhnmjjfammlkaaDoor
open Go.RowKit Go.Shelf
theorem bld_keep {T e B b : Nat} {bs : List Value} {w w' : World} (h : Lib.IsBuilder T e B b bs w) (hb : Below w.heap.size w w') : Lib.IsBuilder T e B b bs w' := by
  rcases h with h | h
  · have hl := h.lt
    obtain ⟨h1, v, h2, h3, h4⟩ := h
    exact .inl ⟨h1, v, (hb.block b hl).trans h2, own_keep h3 (fun k hk => hb.block k (h3.lt k hk).2), h4⟩
  · have hl := h.lt
    obtain ⟨h1, v, h2, h3, h4⟩ := h
    exact .inr ⟨h1, v, (hb.block b hl).trans h2, own_keep h3 (fun k hk => hb.block k (h3.lt k hk).2), h4⟩
theorem byteCells_app (x : List UInt8) (s : ByteArray) : Lib.byteCells (x ++ s.data.toList) = Lib.byteCells x ++ Lib.strCells s := by simp [Lib.byteCells, Lib.strCells]
theorem byteCells_len (x : List UInt8) : (Lib.byteCells x).length = x.length := by simp [Lib.byteCells]
/-- Has the basis each block that is a piece? -/
def hasP (cnt : Nat) (l : List Pc) : Bool := l.all fun p => !p.copy || decide (p.n < (cnt : Int))
theorem hasP_no {cnt i : Nat} {l : List Pc} {p : Pc} (h : l[i]? = some p) (hc : p.copy = true) (hn : ¬ p.n < (cnt : Int)) : hasP cnt l = false := by
  cases he : hasP cnt l with
  | false => rfl
  | true =>
    unfold hasP at he
    have := List.all_eq_true.1 he p (List.mem_of_getElem? h)
    rw [hc, decide_eq_false hn] at this
    cases this
theorem hasP_yes {cnt : Nat} {l : List Pc} (h : ∀ (i : Nat) (p : Pc), l[i]? = some p → p.copy = true → p.n < (cnt : Int)) : hasP cnt l = true := by
  unfold hasP
  refine List.all_eq_true.2 fun p hp => ?_
  obtain ⟨i, hi⟩ := List.getElem?_of_mem hp
  cases hc : p.copy with
  | false => rfl
  | true => rw [decide_eq_true (h i p hi hc)]; rfl
theorem hasP_at {cnt : Nat} {l : List Pc} {p : Pc} (h : hasP cnt l = true) (hp : p ∈ l) (hc : p.copy = true) : p.n < (cnt : Int) := by
  have := List.all_eq_true.1 h p hp
  rw [hc] at this
  simpa using this
set_option maxRecDepth 100000 in
set_option maxHeartbeats 2000000 in
theorem hasb_any {G : Nat → Prop} {w : World} {a : Option Addr} {n c : Nat} {l : List Pc} (h : Hw G w a n c l) (t : ByteArray) (z : Nat) (hz1 : 1 ≤ z) (hz2 : z ≤ 128) (ht : t.size ≤ 100000) (hn : n ≤ 100000) : Calls Tryd.prog 34 #[.string t, .int .i64 (z : Int), .slice a n c] w fun e w' => e = .returned (.bool (hasP (cntL t.data.toList z) l)) ∧ Below w.heap.size w w' := by
  have hl := h.len
  have HA : Hid (∀ W, Below w.heap.size w W → Hw G W a n c l) := fun W hW => h.below hW
  obtain ⟨cnt, hcnt⟩ : ∃ cnt, cntL t.data.toList z = cnt := ⟨_, rfl⟩
  rw [hcnt]
  obtain ⟨m, hm⟩ : ∃ m, t.size + z - 1 = m := ⟨_, rfl⟩
  have hmz : m / z = cnt := by
    rw [← hm, ← hcnt]
    unfold cntL
    rw [Array.length_toList]
    rfl
  obtain ⟨m0, hm0⟩ : ∃ m0, t.size + z = m0 := ⟨_, rfl⟩
  have k0 : (t.size : Int) + (z : Int) = (m0 : Int) := by omega
  have k1 : (m0 : Int) - 1 = (m : Int) := by omega
  have kt : Int.tdiv (m : Int) (z : Int) = (cnt : Int) := by rw [← hmz]; exact Int.ofNat_tdiv m z
  have kd : (m : Int) / (z : Int) = (cnt : Int) := by rw [← hmz]; rfl
  have kz : ((z : Int) == 0) = false := by simpa using (show ¬ (z : Int) = 0 by omega)
  have kz2 : ¬ (z : Int) = 0 := by omega
  have kz1 : ¬ (z : Int) = -1 := by omega
  have hcb : cnt ≤ 1000000 := by rw [← hmz]; exact Nat.le_trans (Nat.div_le_self _ _) (by omega)
  have wc : IntKind.i64.wrap (cnt : Int) = (cnt : Int) := by rw [IntKind.wrap_i64]; omega
  have hm0b : m0 ≤ 200000 := by omega
  have hmb : m ≤ 200000 := by omega
  clear h hcnt hm hmz hm0
  go_enter Tryd.func34, Tryd.ntmps34
  go_wp2
  go_loopw [19] (fun v wr => ∃ i : Nat, i ≤ n ∧ v = .int .i64 i ∧ (∀ (j : Nat) (p : Pc), j < i → l[j]? = some p → p.copy = true → p.n < (cnt : Int)) ∧ Below w.heap.size w wr) (fun v _ => n - (intOf v).toNat)
  case atStart => exact ⟨0, by omega, rfl, (fun j p hj => by omega), Below.refl _ _⟩
  case round =>
    obtain ⟨i, hi, rfl, hwl, hbw⟩ := hrel
    by_cases hlt : i < n
    · have kk : (i : Int) < (n : Int) := by omega
      obtain ⟨ab, ao, rfl, hab, hc⟩ := (HA.out wr hbw).at (by omega)
      obtain ⟨p, hp⟩ : ∃ p, l[i]? = some p := ⟨_, List.getElem?_eq_getElem (by omega)⟩
      obtain ⟨c1, c2, c3⟩ := hc i _ hp
      obtain ⟨V1, hV1, r1, hB1⟩ := box_pc (w := wr) p.copy p.n p.data
      obtain ⟨pb, hpb⟩ : ∃ pb, wr.heap.size = pb := ⟨_, rfl⟩
      rw [hpb] at r1
      have x0 : V1.cell? ⟨pb, 0, none⟩ = some (.bool p.copy) := by rw [cell_of_row _ _ _ _ _ _ r1]; rfl
      have x1 : V1.cell? ⟨pb, 1, none⟩ = some (.int .i64 p.n) := by rw [cell_of_row _ _ _ _ _ _ r1]; rfl
      have hbw1 : Below w.heap.size w V1 := hbw.trans (hB1.mono hbw.size)
      have NO : Hid (p.copy = true → ¬ p.n < (cnt : Int) → hasP cnt l = false ∧ Below w.heap.size w V1) := fun h1 h2 => ⟨hasP_no hp h1 h2, hbw1⟩
      have YES : Hid ((p.copy = true → p.n < (cnt : Int)) → (∀ (j : Nat) (p : Pc), j < i + 1 → l[j]? = some p → p.copy = true → p.n < (cnt : Int)) ∧ Below w.heap.size w V1) := fun hh => by
        refine ⟨fun j q hj hq hcq => ?_, hbw1⟩
        by_cases e : j = i
        · subst e
          rw [hp] at hq
          cases hq
          exact hh hcq
        · exact hwl j q (by omega) hq hcq
      obtain ⟨p1, p2, p3⟩ := p
      simp only at *
      clear hc hp hwl hbw hB1 r1 hbw1
      cases p1 with
      | false =>
        have HE : Hid ((∀ (j : Nat) (p : Pc), j < i + 1 → l[j]? = some p → p.copy = true → p.n < (cnt : Int)) ∧ Below w.heap.size w V1) := YES.out (fun h => by cases h)
        clear YES NO
        go_wp2
        exact ⟨⟨i + 1, by omega, by go_num, HE.out⟩, by simp [intOf]; omega⟩
      | true =>
        by_cases hpc : p2 < (cnt : Int)
        · have kpc : ¬ (cnt : Int) ≤ p2 := by omega
          have HE : Hid ((∀ (j : Nat) (p : Pc), j < i + 1 → l[j]? = some p → p.copy = true → p.n < (cnt : Int)) ∧ Below w.heap.size w V1) := YES.out (fun _ => hpc)
          clear YES NO
          go_wp2
          exact ⟨⟨i + 1, by omega, by go_num, HE.out⟩, by simp [intOf]; omega⟩
        · have kpc : (cnt : Int) ≤ p2 := by omega
          have HE : Hid (hasP cnt l = false ∧ Below w.heap.size w V1) := NO.out rfl hpc
          clear YES NO
          go_wp2
          go_ret
          exact ⟨by rw [HE.out.1]; rfl, HE.out.2⟩
    · have kk : ¬ (i : Int) < (n : Int) := by omega
      have HE : Hid (hasP cnt l = true ∧ Below w.heap.size w wr) := ⟨hasP_yes (fun j p hj => hwl j p (by have := (List.getElem?_eq_some_iff.1 hj).1; omega) hj), hbw⟩
      clear hwl hbw
      go_wp2
      go_ret
      exact ⟨by rw [HE.out.1]; rfl, HE.out.2⟩
/-- What pieces make of a basis, or why they make nothing. -/
def patchF (t : ByteArray) (x : Int) (l : List Pc) : ByteArray × Int :=
  if mayP l = false then (⟨#[]⟩, 1) else if goodZ x = false then (⟨#[]⟩, 9) else if hasP (cntL t.data.toList x.toNat) l = false then (⟨#[]⟩, 9) else if 1024 < t.size then (⟨#[]⟩, 2)
  else if 1024 < (textP (blkL t.data.toList x.toNat) l).length then (⟨#[]⟩, 2) else (⟨(textP (blkL t.data.toList x.toNat) l).toArray⟩, 0)
theorem textP_snoc (f : Nat → List UInt8) {l : List Pc} {i : Nat} {p : Pc} (h : l[i]? = some p) : textP f (l.take (i + 1)) = textP f (l.take i) ++ (if p.copy then f p.n.toNat else p.data.data.toList) := by
  rw [take_snoc h, textP_app]
  simp [textP]
theorem textP_le (f : Nat → List UInt8) (l : List Pc) (i : Nat) : (textP f (l.take i)).length ≤ (textP f l).length := by
  have h2 := congrArg (textP f) (List.take_append_drop i l)
  rw [textP_app] at h2
  rw [← h2, List.length_append]
  omega
set_option maxRecDepth 100000 in
set_option maxHeartbeats 4000000 in
theorem dpatch_any {G : Nat → Prop} {w : World} {a : Option Addr} {n c : Nat} {l : List Pc} (h : Hw G w a n c l) (t : ByteArray) (x : Int) (ht : t.size ≤ 100000) (hp : ∀ p ∈ l, p.data.size ≤ 140737488351232) :
    Calls Tryd.prog 14 #[.string t, .int .i64 x, .slice a n c] w fun e w' => e = .returned (.tuple #[.string (patchF t x l).1, .int .i64 (patchF t x l).2]) ∧ Below w.heap.size w w' := by
  have HC := dcheck_any h
  have hl := h.len
  cases hm : mayP l with
  | false =>
    rw [hm] at HC
    have e0 : patchF t x l = (⟨#[]⟩, 1) := by unfold patchF; rw [if_pos hm]
    rw [e0]
    clear h hm e0
    go_enter Tryd.func14, Tryd.ntmps14
    go_wp2_with fail
    refine HC.mono ?_
    rintro e V1 ⟨rfl, hb1⟩
    have H1 : Hid (Below w.heap.size w V1) := hb1
    have e1 : ckI false = 1 := rfl
    rw [e1]
    clear HC hb1 e1
    go_wp2
    refine bodyPost_ret (v := .tuple #[.string ⟨#[]⟩, .int .i64 1]) ?_ rfl ⟨rfl, H1.out⟩
    simp [results, go_sem]
  | true =>
    rw [hm] at HC
    have hok := may_ok hm
    have HG : Hid (∀ V, Calls Tryd.prog 27 #[.int .i64 x] V fun e w' => e = .returned (.bool (goodZ x)) ∧ w' = V) := fun V => goodsize_any x V
    cases hg : goodZ x with
    | false =>
      have e0 : patchF t x l = (⟨#[]⟩, 9) := by unfold patchF; rw [if_neg (by rw [hm]; decide), if_pos hg]
      rw [e0]
      rw [hg] at HG
      clear h hm e0 hg
      go_enter Tryd.func14, Tryd.ntmps14
      go_wp2_with fail
      refine HC.mono ?_
      rintro e V1 ⟨rfl, hb1⟩
      have H1 : Hid (Below w.heap.size w V1) := hb1
      have HG1 := HG.out V1
      have e1 : ckI true = 0 := rfl
      rw [e1]
      clear HC hb1 e1 HG
      go_wp2_with fail
      refine HG1.mono ?_
      rintro e V ⟨rfl, hV⟩
      subst V
      clear HG1
      go_wp2
      refine bodyPost_ret (v := .tuple #[.string ⟨#[]⟩, .int .i64 9]) ?_ rfl ⟨rfl, H1.out⟩
      simp [results, go_sem]
    | true =>
      rw [hg] at HG
      have hz : 1 ≤ x ∧ x ≤ 128 := by
        unfold goodZ at hg
        simpa using hg
      obtain ⟨z, rfl⟩ : ∃ z : Nat, x = (z : Int) := ⟨x.toNat, by omega⟩
      have hz1 : 1 ≤ z := by omega
      have hz2 : z ≤ 128 := by omega
      have hun : patchF t (z : Int) l = if hasP (cntL t.data.toList z) l = false then (⟨#[]⟩, 9) else if 1024 < t.size then (⟨#[]⟩, 2) else if 1024 < (textP (blkL t.data.toList z) l).length then (⟨#[]⟩, 2) else (⟨(textP (blkL t.data.toList z) l).toArray⟩, 0) := by
        unfold patchF
        rw [if_neg (by rw [hm]; decide), if_neg (by rw [hg]; decide), Int.toNat_natCast]
      rw [hun]
      have HHB : Hid (∀ V, Below w.heap.size w V → Calls Tryd.prog 34 #[.string t, .int .i64 (z : Int), .slice a n c] V fun e w' => e = .returned (.bool (hasP (cntL t.data.toList z) l)) ∧ Below V.heap.size V w') := fun V hV => hasb_any (h.below hV) t z hz1 hz2 ht (by omega)
      cases hh : hasP (cntL t.data.toList z) l with
      | false =>
        rw [if_pos rfl]
        rw [hh] at HHB
        clear h hm hun hg hh
        go_enter Tryd.func14, Tryd.ntmps14
        go_wp2_with fail
        refine HC.mono ?_
        rintro e V1 ⟨rfl, hb1⟩
        have H1 : Hid (Below w.heap.size w V1) := hb1
        have HG1 := HG.out V1
        have HH1 := HHB.out V1 hb1
        have e1 : ckI true = 0 := rfl
        rw [e1]
        clear HC hb1 e1 HG HHB
        go_wp2_with fail
        refine HG1.mono ?_
        rintro e V ⟨rfl, hV⟩
        subst V
        clear HG1
        go_wp2_with fail
        refine HH1.mono ?_
        rintro e V2 ⟨rfl, hb2⟩
        have H2 : Hid (Below w.heap.size w V2) := H1.out.trans (hb2.mono H1.out.size)
        clear HH1 hb2
        go_wp2
        refine bodyPost_ret (v := .tuple #[.string ⟨#[]⟩, .int .i64 9]) ?_ rfl ⟨rfl, H2.out⟩
        simp [results, go_sem]
      | true =>
        rw [if_neg (by decide)]
        rw [hh] at HHB
        have HBL : Hid (∀ V, Calls Tryd.prog 20 #[.string t, .int .i64 (z : Int)] V fun e w' => BlTo V (blocksF t (z : Int)) e w') := fun V => blocks_any t (z : Int) V (by omega)
        by_cases hlong : 1024 < t.size
        · rw [if_pos hlong]
          have e0 : blocksF t (z : Int) = ([], 2) := by unfold blocksF; rw [if_neg (by omega), if_pos hlong]
          rw [e0] at HBL
          clear h hm hun hg hh e0
          go_enter Tryd.func14, Tryd.ntmps14
          go_wp2_with fail
          refine HC.mono ?_
          rintro e V1 ⟨rfl, hb1⟩
          have H1 : Hid (Below w.heap.size w V1) := hb1
          have HG1 := HG.out V1
          have HH1 := HHB.out V1 hb1
          have e1 : ckI true = 0 := rfl
          rw [e1]
          clear HC hb1 e1 HG HHB
          go_wp2_with fail
          refine HG1.mono ?_
          rintro e V ⟨rfl, hV⟩
          subst V
          clear HG1
          go_wp2_with fail
          refine HH1.mono ?_
          rintro e V2 ⟨rfl, hb2⟩
          have H2 : Hid (Below w.heap.size w V2) := H1.out.trans (hb2.mono H1.out.size)
          have HB2 := HBL.out V2
          clear HH1 hb2 H1 HBL
          go_wp2_with fail
          refine HB2.mono ?_
          rintro e V3 ⟨ba, bn, bc, rfl, hown, hb3⟩
          have H3 : Hid (Below w.heap.size w V3) := H2.out.trans (hb3.mono H2.out.size)
          simp only
          clear HB2 hown hb3 H2
          go_wp2
          refine bodyPost_ret (v := .tuple #[.string ⟨#[]⟩, .int .i64 2]) ?_ rfl ⟨rfl, H3.out⟩
          simp [results, go_sem]
        · rw [if_neg hlong, blocks_ok hz1 hz2 (by omega)] at *
          obtain ⟨TL, hTL⟩ : ∃ TL, textP (blkL t.data.toList z) l = TL := ⟨_, rfl⟩
          rw [hTL]
          obtain ⟨R, hR⟩ : ∃ R, (if 1024 < TL.length then ((⟨#[]⟩ : ByteArray), (2 : Int)) else (⟨TL.toArray⟩, 0)) = R := ⟨_, rfl⟩
          rw [hR]
          have HRR : Hid ((if 1024 < TL.length then ((⟨#[]⟩ : ByteArray), (2 : Int)) else (⟨TL.toArray⟩, 0)) = R) := hR
          have HA : Hid ((∀ W, Below w.heap.size w W → Hw G W a n c l) ∧ l.length = n ∧ hasP (cntL t.data.toList z) l = true ∧ (∀ p ∈ l, p.ok = true) ∧ (∀ p ∈ l, p.data.size ≤ 140737488351232) ∧ textP (blkL t.data.toList z) l = TL) := ⟨fun W hW => h.below hW, hl, hh, hok.1, hp, hTL⟩
          have hn24 : n ≤ 1024 := by have := hok.2; omega
          clear h hm hun hg hh hp hTL hok hl hR
          go_enter Tryd.func14, Tryd.ntmps14
          go_wp2_with fail
          refine HC.mono ?_
          rintro e V1 ⟨rfl, hb1⟩
          have H1 : Hid (Below w.heap.size w V1) := hb1
          have HG1 := HG.out V1
          have HH1 := HHB.out V1 hb1
          have e1 : ckI true = 0 := rfl
          rw [e1]
          clear HC hb1 e1 HG HHB
          go_wp2_with fail
          refine HG1.mono ?_
          rintro e V ⟨rfl, hV⟩
          subst V
          clear HG1
          go_wp2_with fail
          refine HH1.mono ?_
          rintro e V2 ⟨rfl, hb2⟩
          have H2 : Hid (Below w.heap.size w V2) := H1.out.trans (hb2.mono H1.out.size)
          have HB2 := HBL.out V2
          clear HH1 hb2 H1 HBL
          go_wp2_with fail
          refine HB2.mono ?_
          intro e V3 hV3
          obtain ⟨ba, bn, bc, rfl, htw, hb3⟩ := hV3.tw
          have hB3 : Below w.heap.size w V3 := H2.out.trans (hb3.mono H2.out.size)
          have htl := htw.len
          simp only at htl ⊢
          have hbn : bn = cntL t.data.toList z := by
            rw [← htl, ← nbl_cnt]
            simp [blocksL]
          obtain ⟨b, hb⟩ : ∃ b, V3.heap.size = b := ⟨_, rfl⟩
          have hfr := Lib.fresh_isBuilder 73 5 V3
          have hbf : Below V3.heap.size V3 (V3.alloc (.cells #[.pointer none, .slice none 0 0] 73)) := (Below.refl _ V3).alloc (Nat.le_refl _) _
          rw [hb] at hfr hbf
          have H3 : Hid (Below w.heap.size w V3 ∧ Tw (fun _ => True) V3 ba bn bc (blocksL t z) ∧ bn = cntL t.data.toList z ∧ V3.heap.size = b ∧ Lib.IsBuilder 73 5 b b [] (V3.alloc (.cells #[.pointer none, .slice none 0 0] 73)) ∧ Below b V3 (V3.alloc (.cells #[.pointer none, .slice none 0 0] 73))) := ⟨hB3, htw, hbn, hb, hfr, hbf⟩
          clear HB2 hV3 htw hb3 hB3 htl H2 hfr hbf hbn
          go_wp2
          go_loopw [41] (fun v wr => ∃ i : Nat, i ≤ n ∧ v = .int .i64 i ∧ Lib.IsBuilder 73 5 b b (Lib.byteCells (textP (blkL t.data.toList z) (l.take i))) wr ∧ (textP (blkL t.data.toList z) (l.take i)).length ≤ 1024 ∧ Below b V3 wr) (fun v _ => n - (intOf v).toNat)
          case atStart => exact ⟨0, by omega, rfl, H3.out.2.2.2.2.1, by simp [textP], H3.out.2.2.2.2.2⟩
          case round =>
            obtain ⟨i, hi, rfl, hbu, hx, hbw⟩ := hrel
            have hBW : Below w.heap.size w wr := H3.out.1.trans (hbw.mono (by rw [← H3.out.2.2.2.1]; exact H3.out.1.size))
            obtain ⟨x0l, hx0l⟩ : ∃ y, textP (blkL t.data.toList z) (l.take i) = y := ⟨_, rfl⟩
            rw [hx0l] at hbu hx
            by_cases hlt : i < n
            · have kk : (i : Int) < (n : Int) := by omega
              obtain ⟨ab, ao, rfl, hab, hc⟩ := (HA.out.1 wr hBW).at (by omega)
              obtain ⟨p, hpi⟩ : ∃ p, l[i]? = some p := ⟨_, List.getElem?_eq_getElem (by have := HA.out.2.1; omega)⟩
              have hpm := List.mem_of_getElem? hpi
              have hok := HA.out.2.2.2.1 p hpm
              have hps := HA.out.2.2.2.2.1 p hpm
              have hsn := textP_snoc (blkL t.data.toList z) hpi
              have hle := textP_le (blkL t.data.toList z) l (i + 1)
              rw [HA.out.2.2.2.2.2] at hle
              rw [hx0l] at hsn
              obtain ⟨c1, c2, c3⟩ := hc i _ hpi
              obtain ⟨V5, hV5, r5, hb5⟩ := box_pc (w := wr) p.copy p.n p.data
              obtain ⟨pb, hpb⟩ : ∃ pb, wr.heap.size = pb := ⟨_, rfl⟩
              rw [hpb] at r5
              have x0 : V5.cell? ⟨pb, 0, none⟩ = some (.bool p.copy) := by rw [cell_of_row _ _ _ _ _ _ r5]; rfl
              have x1 : V5.cell? ⟨pb, 1, none⟩ = some (.int .i64 p.n) := by rw [cell_of_row _ _ _ _ _ _ r5]; rfl
              have x2 : V5.cell? ⟨pb, 2, none⟩ = some (.string p.data) := by rw [cell_of_row _ _ _ _ _ _ r5]; rfl
              have hbu5 := bld_keep hbu hb5
              have hb35 : Below b V3 V5 := hbw.trans (hb5.mono (by rw [← H3.out.2.2.2.1]; exact hbw.size))
              have hbs5 : b ≤ V5.heap.size := by have := hb35.size; have := H3.out.2.2.2.1; omega
              have HLN := Tryd.Builder_Len b b _ V5 hbu5
              rw [byteCells_len] at HLN
              obtain ⟨m, hm⟩ : ∃ m, x0l.length = m := ⟨_, rfl⟩
              rw [hm] at HLN hx
              have hns : (1024 : Int) - (m : Int) = ((1024 - m : Nat) : Int) := by omega
              obtain ⟨rs, hrs⟩ : ∃ rs, 1024 - m = rs := ⟨_, rfl⟩
              rw [hrs] at hns
              have HPS : Hid (∀ S : ByteArray, (if p.copy then blkL t.data.toList z p.n.toNat else p.data.data.toList) = S.data.toList → textP (blkL t.data.toList z) (l.take (i + 1)) = x0l ++ S.data.toList) := fun S hS => by rw [hsn, hS]
              have HNO : Hid (∀ S : ByteArray, (if p.copy then blkL t.data.toList z p.n.toNat else p.data.data.toList) = S.data.toList → rs < S.size → 1024 < TL.length) := fun S hS hlt => by
                rw [hsn, hS, List.length_append] at hle
                have h6 : S.data.toList.length = S.size := Array.length_toList
                omega
              have HWS : Hid (∀ S : ByteArray, S.size ≤ rs → Calls Tryd.prog 36 #[.pointer (some ⟨b, 0, none⟩), .string S] V5 fun e w' => e = .returned (.tuple #[.int .i64 S.size, .nilIface]) ∧ (Lib.BuilderAt 73 5 b b (.pointer (some ⟨b, 0, none⟩)) (Lib.byteCells x0l ++ Lib.strCells S) w' ∧ Below b V5 w')) := fun S hS => Tryd.Builder_WriteString b b _ S V5 hbu5 (by rw [byteCells_len]; omega) hbs5
              have H5 : Hid (Below w.heap.size w wr ∧ Below wr.heap.size wr V5 ∧ Below b V3 V5 ∧ x0l.length = m ∧ 1024 - m = rs) := ⟨hBW, hb5, hb35, hm, hrs⟩
              have FIN : Hid (∀ (S : ByteArray) (V6 : World), (if p.copy then blkL t.data.toList z p.n.toNat else p.data.data.toList) = S.data.toList → S.size ≤ rs → Lib.BuilderAt 73 5 b b (.pointer (some ⟨b, 0, none⟩)) (Lib.byteCells x0l ++ Lib.strCells S) V6 → Below b V5 V6 → Lib.IsBuilder 73 5 b b (Lib.byteCells (textP (blkL t.data.toList z) (l.take (i + 1)))) V6 ∧ (textP (blkL t.data.toList z) (l.take (i + 1))).length ≤ 1024 ∧ Below b V3 V6) := fun S V6 hS hsz hbA hb6 => by
                rw [HPS.out S hS, byteCells_app]
                refine ⟨.inr hbA, ?_, H5.out.2.2.1.trans hb6⟩
                rw [List.length_append]
                have h6 : S.data.toList.length = S.size := Array.length_toList
                have := H5.out.2.2.2
                omega
              have BAD : Hid (1024 < TL.length → R = (⟨#[]⟩, 2) ∧ Below w.heap.size w V5) := fun h5 => ⟨by rw [← HRR.out, if_pos h5], hBW.trans (hb5.mono hBW.size)⟩
              have hblk := fun (k : Nat) (hk : k < cntL t.data.toList z) => (show (blocksL t z)[k]? = some (blk t z k) by
                unfold blocksL
                rw [List.getElem?_map, List.getElem?_range (by rw [nbl_cnt]; exact hk)]
                rfl)
              have hcp : p.copy = true → 0 ≤ p.n ∧ p.n < (cntL t.data.toList z : Int) := fun h5 => ⟨ok_n hok, hasP_at HA.out.2.2.1 hpm h5⟩
              have HBK : Hid (p.copy = true → ∃ (k bb bo : Nat) (S : ByteArray), p.n = (k : Int) ∧ k < bn ∧ ba = some ⟨bb, bo, none⟩ ∧ V5.cell? ⟨bb, bo + k, none⟩ = some (.string S) ∧ blkL t.data.toList z p.n.toNat = S.data.toList ∧ S.size ≤ 128) := fun h5 => by
                obtain ⟨h6, h7⟩ := hcp h5
                obtain ⟨k, hk⟩ : ∃ k : Nat, p.n = (k : Int) := ⟨p.n.toNat, by omega⟩
                have hkc : k < cntL t.data.toList z := by omega
                have hkb : k < bn := by rw [H3.out.2.2.1]; exact hkc
                have htw5 := H3.out.2.1.below (by rw [H3.out.2.2.2.1]; exact hb35)
                obtain ⟨bb, bo, hba, _, hcc⟩ := htw5.at (by omega)
                refine ⟨k, bb, bo, blk t z k, hk, hkb, hba, hcc k _ (hblk k hkc), ?_, ?_⟩
                · rw [hk, Int.toNat_natCast, blk_l]
                · unfold blk
                  rw [ByteArray.size_extract]
                  omega
              obtain ⟨p1, p2, p3⟩ := p
              simp only at *
              clear hc hpi hpm hok hsn hle r5 hbu5 hb35 hbs5 hBW hb5 hbw hbu hcp hblk hx0l HPS hm hrs
              cases p1 with
              | false =>
                clear HBK
                by_cases hbig : rs < p3.size
                · have kb : (rs : Int) < (p3.size : Int) := by omega
                  have HE : Hid (R = (⟨#[]⟩, 2) ∧ Below w.heap.size w V5) := BAD.out (HNO.out p3 (by simp) hbig)
                  clear BAD HNO HWS FIN
                  go_wp2_with fail
                  refine HLN.mono ?_
                  rintro e V ⟨rfl, hV⟩
                  subst V
                  clear HLN
                  go_wp2
                  refine bodyPost_ret (v := .tuple #[.string ⟨#[]⟩, .int .i64 2]) ?_ rfl ⟨by rw [HE.out.1], HE.out.2⟩
                  simp [results, go_sem]
                · have kb : ¬ (rs : Int) < (p3.size : Int) := by omega
                  have HW5 := HWS.out p3 (by omega)
                  clear BAD HNO HWS
                  go_wp2_with fail
                  refine HLN.mono ?_
                  rintro e V ⟨rfl, hV⟩
                  subst V
                  clear HLN
                  go_wp2_with fail
                  refine HW5.mono ?_
                  rintro e V6 ⟨rfl, hbA, hb6⟩
                  have HE : Hid (Lib.IsBuilder 73 5 b b (Lib.byteCells (textP (blkL t.data.toList z) (l.take (i + 1)))) V6 ∧ (textP (blkL t.data.toList z) (l.take (i + 1))).length ≤ 1024 ∧ Below b V3 V6) := FIN.out p3 V6 (by simp) (by omega) hbA hb6
                  clear HW5 hbA hb6 FIN
                  go_wp2
                  exact ⟨⟨i + 1, by omega, by go_num, HE.out⟩, by simp [intOf]; omega⟩
              | true =>
                obtain ⟨k, bb, bo, S, rfl, hkb, rfl, hcell, hSl, hSz⟩ := HBK.out rfl
                have kkb : (k : Int) < (bn : Int) := by omega
                clear HBK
                by_cases hbig : rs < S.size
                · have kb : (rs : Int) < (S.size : Int) := by omega
                  have HE : Hid (R = (⟨#[]⟩, 2) ∧ Below w.heap.size w V5) := BAD.out (HNO.out S (by simpa using hSl) hbig)
                  clear BAD HNO HWS FIN hSl
                  go_wp2_with fail
                  refine HLN.mono ?_
                  rintro e V ⟨rfl, hV⟩
                  subst V
                  clear HLN
                  go_wp2
                  refine bodyPost_ret (v := .tuple #[.string ⟨#[]⟩, .int .i64 2]) ?_ rfl ⟨by rw [HE.out.1], HE.out.2⟩
                  simp [results, go_sem]
                · have kb : ¬ (rs : Int) < (S.size : Int) := by omega
                  have HW5 := HWS.out S (by omega)
                  have HSL : Hid (blkL t.data.toList z (k : Int).toNat = S.data.toList) := hSl
                  clear BAD HNO HWS hSl
                  go_wp2_with fail
                  refine HLN.mono ?_
                  rintro e V ⟨rfl, hV⟩
                  subst V
                  clear HLN
                  go_wp2_with fail
                  refine HW5.mono ?_
                  rintro e V6 ⟨rfl, hbA, hb6⟩
                  have HE : Hid (Lib.IsBuilder 73 5 b b (Lib.byteCells (textP (blkL t.data.toList z) (l.take (i + 1)))) V6 ∧ (textP (blkL t.data.toList z) (l.take (i + 1))).length ≤ 1024 ∧ Below b V3 V6) := FIN.out S V6 (by simpa using HSL.out) (by omega) hbA hb6
                  clear HW5 hbA hb6 FIN
                  go_wp2
                  exact ⟨⟨i + 1, by omega, by go_num, HE.out⟩, by simp [intOf]; omega⟩
            · have kk : ¬ (i : Int) < (n : Int) := by omega
              have hTL : x0l = TL := by rw [← hx0l, ← HA.out.2.2.2.2.2, List.take_of_length_le (by have := HA.out.2.1; omega)]
              subst hTL
              have hbs : b ≤ wr.heap.size := by have := hbw.size; have := H3.out.2.2.2.1; omega
              have HST := Any.Builder_String_any Tryd.lays169 Tryd.Builder_Extra_169 b b x0l wr hbu hbs
              have HST : Calls Tryd.prog 37 #[.pointer (some ⟨b, 0, none⟩)] wr fun e w' => e = .returned (.string ⟨x0l.toArray⟩) ∧ Below b wr w' := HST
              obtain ⟨S, hS⟩ : ∃ S : ByteArray, (⟨x0l.toArray⟩ : ByteArray) = S := ⟨_, rfl⟩
              rw [hS] at HST
              have HR : Hid (Below w.heap.size w wr ∧ R = (S, 0) ∧ w.heap.size ≤ b) := ⟨hBW, by rw [← HRR.out, if_neg (by omega), hS], by have := H3.out.1.size; have := H3.out.2.2.2.1; omega⟩
              clear hbu hbw hBW hbs hS hx0l
              go_wp2_with fail
              refine HST.mono ?_
              rintro e V6 ⟨rfl, hb6⟩
              have HE : Hid (Below w.heap.size w V6) := HR.out.1.trans (hb6.mono HR.out.2.2)
              clear HST hb6
              go_wp2
              refine bodyPost_ret (v := .tuple #[.string S, .int .i64 0]) ?_ rfl ⟨by rw [HR.out.2.1], HE.out⟩
              simp [results, go_sem]
end Go.Proofs.YtbhnmjjfammlkaaDoor
