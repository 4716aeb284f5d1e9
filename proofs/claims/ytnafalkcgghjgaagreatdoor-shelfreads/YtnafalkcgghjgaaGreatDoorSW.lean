/- Walks over follows, load and Open. -/
import Derived.Test.YtnafalkcgghjgaaGreatDoorSV
namespace Go.Proofs.YtnafalkcgghjgaaGreatDoor
open Go.RowKit Go.Shelf
theorem last_es {l : List Pr} {q : Nat} {x : Pr} (hl : l.length = q + 1) (h : l[q]? = some x) : l.getLast? = some x := by
  rw [List.getLast?_eq_getElem?, hl, Nat.add_sub_cancel, h]
set_option maxRecDepth 100000 in
set_option maxHeartbeats 2000000 in
theorem follows_any {G : Nat → Prop} {w : World} (xp lp : Int) (xa la : Option Addr) (xn ln : Nat) (xe le : List Pr) (hx : Pw G w xa xn xn xe) (hl : Pw G w la ln ln le) (xz : szL xe ≤ 1023) (lz : szL le ≤ 1023) :
    Calls Tryz.prog 75 #[.agg #[.int .i64 xp, .slice xa xn xn, .int .i64 (szL xe : Int)], .agg #[.int .i64 lp, .slice la ln ln, .int .i64 (szL le : Int)]] w fun e w' => e = .returned (.bool (decide (1023 < szL le + szL xe) && behindK ⟨lp, le⟩ ⟨xp, xe⟩)) ∧ Below w.heap.size w w' := by
  have hxl := hx.len
  have hll := hl.len
  have exl := es_len xe
  have ell := es_len le
  obtain ⟨x, hxs⟩ : ∃ x, szL xe = x := ⟨_, rfl⟩
  obtain ⟨y, hys⟩ : ∃ y, szL le = y := ⟨_, rfl⟩
  rw [hxs] at xz exl ⊢
  rw [hys] at lz ell ⊢
  obtain ⟨B, hB⟩ : ∃ B, w.heap.size = B := ⟨_, rfl⟩
  obtain ⟨W1, hW1⟩ : ∃ W1, (w.alloc (.cells #[.int .i64 xp, .slice xa xn xn, .int .i64 (x : Int)] 85)).alloc (.cells #[.int .i64 lp, .slice la ln ln, .int .i64 (y : Int)] 85) = W1 := ⟨_, rfl⟩
  have hb1 : Below B w W1 := by rw [← hW1, ← hB]; exact ((Below.refl _ w).alloc (Nat.le_refl _) _).alloc (by simp) _
  have r1 : W1.heap[B]? = some (.cells #[.int .i64 xp, .slice xa xn xn, .int .i64 (x : Int)] 85 (0, 0)) := by
    rw [← hW1, Below.heap_alloc _ _ _ (by simp [hB]), ← hB]; exact heap_alloc_new w _
  have r2 : W1.heap[B + 1]? = some (.cells #[.int .i64 lp, .slice la ln ln, .int .i64 (y : Int)] 85 (0, 0)) := by
    rw [← hW1, ← hB]; exact alloc_second _ _ _
  have x1 : W1.cell? ⟨B, 1, none⟩ = some (.slice xa xn xn) := by rw [cell_of_row _ _ _ _ _ _ r1]; rfl
  have x2 : W1.cell? ⟨B, 2, none⟩ = some (.int .i64 (x : Int)) := by rw [cell_of_row _ _ _ _ _ _ r1]; rfl
  have y1 : W1.cell? ⟨B + 1, 1, none⟩ = some (.slice la ln ln) := by rw [cell_of_row _ _ _ _ _ _ r2]; rfl
  have y2 : W1.cell? ⟨B + 1, 2, none⟩ = some (.int .i64 (y : Int)) := by rw [cell_of_row _ _ _ _ _ _ r2]; rfl
  have HB : Hid (Below B w W1) := hb1
  rw [hB]
  by_cases hle : y + x ≤ 1023
  · have kk : (y : Int) + (x : Int) ≤ 1023 := by omega
    have hd : decide (1023 < y + x) = false := decide_eq_false (by omega)
    rw [hd]
    clear hx hl r1 r2 hb1
    go_enter Tryz.func75, Tryz.ntmps75
    go_wp2
    go_ret
    exact ⟨rfl, HB.out⟩
  · have kk : ¬ (y : Int) + (x : Int) ≤ 1023 := by omega
    have hd : decide (1023 < y + x) = true := decide_eq_true (by omega)
    rw [hd, Bool.true_and]
    have hx0 : 0 < xn := by
      rcases Nat.eq_zero_or_pos xn with e | e
      · have : xe = [] := List.eq_nil_of_length_eq_zero (by omega)
        rw [this] at hxs; simp [szL] at hxs; omega
      · exact e
    have hl0 : 0 < ln := by
      rcases Nat.eq_zero_or_pos ln with e | e
      · have : le = [] := List.eq_nil_of_length_eq_zero (by omega)
        rw [this] at hys; simp [szL] at hys; omega
      · exact e
    obtain ⟨q, hq⟩ : ∃ q, ln = q + 1 := ⟨ln - 1, by omega⟩
    have hxg : xe[0]? = some xe[0] := List.getElem?_eq_getElem (by omega)
    have hqll : q < le.length := by omega
    have hlg : le[q]? = some le[q] := List.getElem?_eq_getElem hqll
    obtain ⟨b, o, rfl, hb, _, hc⟩ := (hx.below (by rw [hB]; exact hb1)).at hx0
    obtain ⟨b', o', rfl, hb', _, hc'⟩ := (hl.below (by rw [hB]; exact hb1)).at hl0
    have c1 := (hc 0 _ hxg).1
    rw [Nat.zero_mul, Nat.add_zero] at c1
    have c2 := (hc' q _ hlg).1
    have hbk : behindK ⟨lp, le⟩ ⟨xp, xe⟩ = sl (le[q]).1 (xe[0]).1 := by
      unfold behindK
      rw [last_es (by omega) hlg, List.head?_eq_getElem?, hxg]
    rw [hbk]
    have hqi : (ln : Int) - 1 = (q : Int) := by omega
    have hql : (q : Int) < (ln : Int) := by omega
    have hx0' : (0 : Int) < (xn : Int) := by omega
    obtain ⟨k1, hk1⟩ : ∃ k, (xe[0]).1 = k := ⟨_, rfl⟩
    obtain ⟨k2, hk2⟩ : ∃ k, (le[q]).1 = k := ⟨_, rfl⟩
    rw [hk1] at c1 ⊢
    rw [hk2] at c2 ⊢
    clear hx hl r1 r2 hb1 hc hc' hbk hxg hlg hk1 hk2 hq
    go_enter Tryz.func75, Tryz.ntmps75
    go_wp2
    go_region
    go_wp2
    go_ret
    exact ⟨rfl, HB.out.drew⟩
/-- What a store's pages have. -/
def pagesF (n : Nat) (D : Dk) : Nat → ByteArray := fun p => pageAt D.seen (1 + 4 * n + 4 * p)
theorem pagesF_size {n : Nat} {D : Dk} (hkn : 8 * n + 1 ≤ D.kept.length) (hsz : ∀ s ∈ D.seen, s.size = 256) (p : Nat) (hp : p < n) : (pagesF n D p).size = 1024 := by
  have h : ∀ a, a < D.kept.length → (at_ D.seen a).size = 256 := fun a ha => hsz _ (by
    unfold at_
    rw [List.getD_eq_getElem?_getD, List.getElem?_eq_getElem (by rw [seen_len]; exact ha)]
    exact List.getElem_mem _)
  unfold pagesF pageAt
  rw [ByteArray.size_append, ByteArray.size_append, ByteArray.size_append, h _ (by omega), h _ (by omega), h _ (by omega), h _ (by omega)]
/-- What load tells. -/
def Loaded (G : Nat → Prop) (w' : World) (R : Option (List Lf)) (e : Ending) : Prop :=
  (∃ (la : Option Addr) (ln lc : Nat) (L : List Mf), R = some (lfs L) ∧ L.length = ln ∧ e = .returned (.tuple #[.slice la ln lc, .int .i64 0]) ∧ Lw G w' la ln lc L) ∨ (R = none ∧ e = .returned (.tuple #[.slice none 0 0, .int .i64 4]))
set_option maxRecDepth 100000 in
set_option maxHeartbeats 8000000 in
theorem load_tab {G : Nat → Prop} {w : World} (hG : ∀ x, w.heap.size ≤ x → G x) {S : Nat → Prop} {jb g n : Nat} {D : Dk} (hd : DiskIs w S g D) (hj : Jat w jb g n) (hn1 : 1 ≤ n) (hn : n ≤ 128) (hkn : 8 * n + 1 ≤ D.kept.length) (hu : D.up = true) (hsz : ∀ s ∈ D.seen, s.size = 256) :
    Calls Tryz.prog 44 #[.pointer (some ⟨jb, 0, none⟩)] w fun e w' => Loaded G w' (loadF n (pagesF n D)) e ∧ Below w.heap.size w w' := by
  obtain ⟨P, hP⟩ : ∃ P, pagesF n D = P := ⟨_, rfl⟩
  have HPZ : Hid (∀ i, i < n → (P i).size = 1024) := fun i hi => by rw [← hP]; exact pagesF_size hkn hsz i hi
  have HRD : Hid (∀ W, Below w.heap.size w W → ∀ p : Nat, p < n → Calls Tryz.prog 71 #[.pointer (some ⟨jb, 0, none⟩), .int .i64 (p : Int)] W fun e w' => e = .returned (.tuple #[.string (P p), .int .i64 0]) ∧ Below W.heap.size W w') := fun W hW p hp => by
    rw [← hP]
    exact jread_any (hd.below hW) (hj.below hW) hn hkn hu hsz p hp
  have HPA : Hid (∀ W, Below w.heap.size w W → Calls Tryz.prog 43 #[.pointer (some ⟨jb, 0, none⟩)] W fun e w' => e = .returned (.int .i64 (n : Int)) ∧ w' = W) := fun W hW => pages_any (hj.below hW)
  rw [hP]
  obtain ⟨R, hR⟩ : ∃ R, loadF n P = R := ⟨_, rfl⟩
  rw [hR]
  have HR : Hid (loadG n P (n + 1) 0 [] = R) := hR
  have HG : Hid (∀ x, w.heap.size ≤ x → G x) := hG
  obtain ⟨B, hB⟩ : ∃ B, w.heap.size = B := ⟨_, rfl⟩
  rw [hB] at HG HRD HPA ⊢
  clear hd hj hkn hu hsz hP hR hG
  go_enter Tryz.func44, Tryz.ntmps44
  go_wp2
  go_loopw [4, 5] (fun vl vp wr => ∃ (la : Option Addr) (ln lc page : Nat) (acc : List Mf), vl = .slice la ln lc ∧ vp = .int .i64 page ∧ wr.ownsRow B 85 3 (.slice la ln lc) ln (mfV acc) ∧ Ents G wr acc ∧ Ld n P (lfs acc) ∧ page < 256 ∧ (if acc = [] ∨ page ≠ 0 then (acc = [] → page = 0) ∧ ∃ f, n - acc.length < f ∧ loadG n P f page (lfs acc) = R else R = some (lfs acc)) ∧ Below B w wr) (fun vl _ _ => n + 1 - slLen vl)
  case atStart => exact ⟨none, 0, 0, 0, [], rfl, rfl, World.ownsRow_nil _ _ _ _, fun m hm => by simp at hm, Ld.nil n P, by omega, by rw [if_pos (.inl rfl)]; exact ⟨fun _ => rfl, n + 1, by simp, HR.out⟩, Below.refl _ _⟩
  case round =>
    clear HR
    obtain ⟨la, ln, lc, page, acc, rfl, rfl, hown, hent, hld, hpb, hst, hbel⟩ := hrel
    have hal : acc.length = ln := by
      have := hown.1
      rw [mfV_len] at this
      omega
    have hln : ln ≤ n := by have := hld.len; rw [lfs_len] at this; omega
    have HO : Hid (wr.ownsRow B 85 3 (.slice la ln lc) ln (mfV acc) ∧ Ents G wr acc ∧ Below B w wr) := ⟨hown, hent, hbel⟩
    have HLD : Hid (Ld n P (lfs acc)) := hld
    have HAL : Hid (acc.length = ln) := hal
    have hBwr : B ≤ wr.heap.size := by have := hbel.size; omega
    by_cases hgo : acc = [] ∨ page ≠ 0
    · rw [if_pos hgo] at hst
      obtain ⟨hpz, f, hf, hlg⟩ := hst
      obtain ⟨f, rfl⟩ : ∃ f', f = f' + 1 := ⟨f - 1, by omega⟩
      have hgo' : ((ln : Int) == 0) = true ∨ (((ln : Int) == 0) = false ∧ ¬ (page : Int) = 0 ∧ ((page : Int) == 0) = false) := by
        rcases hgo with h | h
        · left
          rw [h] at hal
          simp at hal
          rw [← hal]; rfl
        · by_cases h0 : ln = 0
          · left; rw [h0]; rfl
          · right
            exact ⟨by simpa using h0, by omega, by simpa using h⟩
      rw [loadG] at hlg
      have HLG : Hid ((if n ≤ page then none else match parseP (P page) with | none => none | some es => if follow (lfs acc) ⟨(page : Int), es⟩ then (if nextP (P page) = 0 then some (lfs acc ++ [⟨(page : Int), es⟩]) else loadG n P f (nextP (P page)) (lfs acc ++ [⟨(page : Int), es⟩])) else none) = R) := hlg
      have HPZ0 : Hid (acc = [] → page = 0) := hpz
      have HFF : Hid (n - acc.length < f + 1) := hf
      have HPG := HPA.out wr hbel
      clear hown hent hld hbel hal hlg hpz hf hgo
      by_cases hpn : n ≤ page
      · have kp : (n : Int) ≤ (page : Int) := by omega
        have HNO : Hid (R = none) := by
          show R = none
          have := HLG.out
          rw [if_pos hpn] at this
          exact this.symm
        rcases hgo' with hz | ⟨hz, hp0, hp0'⟩
        all_goals
          go_wp2_with (go_at_call 43; refine HPG.mono ?_; rintro e W9 ⟨rfl, hW9⟩; subst W9)
          go_ret2
          exact ⟨.inr ⟨HNO.out, rfl⟩, HO.out.2.2⟩
      · have kp : ¬ (n : Int) ≤ (page : Int) := by omega
        have HRDP := HRD.out wr HO.out.2.2 page (by omega)
        have htz := HPZ.out page (by omega)
        obtain ⟨tx, htx⟩ : ∃ tx, P page = tx := ⟨_, rfl⟩
        rw [htx] at HRDP htz
        have HLG2 : Hid ((match parseF tx.data.toList.tail with | none => none | some es => if follow (lfs acc) ⟨(page : Int), es⟩ then (if nextP tx = 0 then some (lfs acc ++ [⟨(page : Int), es⟩]) else loadG n P f (nextP tx) (lfs acc ++ [⟨(page : Int), es⟩])) else none) = R) := by
          have := HLG.out
          rw [if_neg hpn, htx] at this
          exact this
        have HTX : Hid (P page = tx) := htx
        have hxs : (tx.extract 1 tx.size).size = 1023 := by rw [ByteArray.size_extract]; omega
        have hxl : (tx.extract 1 tx.size).data.toList = tx.data.toList.tail := by rw [ext_drop, List.drop_one]
        clear htx HLG
        have hsl : (1 : Int) ≤ (tx.size : Int) := by omega
        have ht1 : 0 < tx.size := by omega
        obtain ⟨nx, hnx⟩ : ∃ nx : Nat, (tx[0]'ht1).toNat = nx := ⟨_, rfl⟩
        have hnp : nextP tx = nx := by unfold nextP; rw [headD_get tx ht1, hnx]
        have hnxb : nx < 256 := by rw [← hnx]; exact UInt8.toNat_lt _
        have HNP : Hid (nextP tx = nx) := hnp
        have ht0 : (0 : Int) < (tx.size : Int) := by omega
        have HXS : Hid ((tx.extract 1 tx.size).size = 1023 ∧ (tx.extract 1 tx.size).data.toList = tx.data.toList.tail) := ⟨hxs, hxl⟩
        clear hxs hxl htz hnp
        rcases hgo' with hz | ⟨hz, hp0, hp0'⟩
        · go_wp2_with (go_at_call 43; refine HPG.mono ?_; rintro e W9 ⟨rfl, hW9⟩; subst W9)
          refine HRDP.mono ?_
          rintro e V1 ⟨rfl, hV1⟩
          have hB1 : B ≤ V1.heap.size := Nat.le_trans hBwr hV1.size
          have HPR := parse_any (G := G) (w := V1) (fun z hz => HG.out z (by omega)) (tx.extract 1 tx.size) (by have := HXS.out.1; omega)
          rw [HXS.out.2] at HPR
          have HV1 : Hid (Below wr.heap.size wr V1) := hV1
          clear HRDP hV1
          go_wp2_with fail
          refine HPR.mono ?_
          rintro e V2 ⟨ea, en, ec, es, ok, rfl, hpw, hesz, hres, hV2⟩
          have HNL := newLeaf_any (page : Int) ea en ec es hpw (by omega)
          have hel := hpw.len
          have HV2 : Hid (Below wr.heap.size wr V2) := HV1.out.trans (hV2.mono HV1.out.size)
          clear HPR hpw hV2
          go_wp2_with fail
          refine HNL.mono ?_
          rintro e V3 ⟨a3, rfl, hp3, hV3⟩
          have hB3 : Below wr.heap.size wr V3 := HV2.out.trans (hV3.mono HV2.out.size)
          obtain ⟨c, hc⟩ : ∃ c, V3.heap.size = c := ⟨_, rfl⟩
          obtain ⟨z, hzz⟩ : ∃ z, szL es = z := ⟨_, rfl⟩
          rw [hzz]
          obtain ⟨V4, hV4⟩ : ∃ V4, V3.alloc (.cells #[.int .i64 (page : Int), .slice a3 en en, .int .i64 (z : Int)] 85) = V4 := ⟨_, rfl⟩
          have hB4 : Below V3.heap.size V3 V4 := by rw [← hV4]; exact (Below.refl _ V3).alloc (Nat.le_refl _) _
          have r4 : V4.heap[c]? = some (.cells #[.int .i64 (page : Int), .slice a3 en en, .int .i64 (z : Int)] 85 (0, 0)) := by rw [← hV4, ← hc]; exact heap_alloc_new V3 _
          have q0 : V4.cell? ⟨c, 0, none⟩ = some (.int .i64 (page : Int)) := by rw [cell_of_row _ _ _ _ _ _ r4]; rfl
          have q1 : V4.cell? ⟨c, 1, none⟩ = some (.slice a3 en en) := by rw [cell_of_row _ _ _ _ _ _ r4]; rfl
          have q2 : V4.cell? ⟨c, 2, none⟩ = some (.int .i64 (z : Int)) := by rw [cell_of_row _ _ _ _ _ _ r4]; rfl
          have hBr4 : Below wr.heap.size wr V4 := hB3.trans (hB4.mono hB3.size)
          have HV4 : Hid (Below wr.heap.size wr V4 ∧ Pw G V4 a3 en en es ∧ es.length = en ∧ szL es = z ∧ szL es ≤ 1023) := ⟨hBr4, hp3.below hB4, hel, hzz, hesz⟩
          have HRES : Hid ((ok = true ∧ parseF tx.data.toList.tail = some es) ∨ (ok = false ∧ parseF tx.data.toList.tail = none)) := hres
          have hcw : wr.heap.size ≤ c := by rw [← hc]; exact hB3.size
          have hzb : z ≤ 1023 := by omega
          clear HNL hp3 hV3 hB3 hB4 r4 hBr4 hres hzz hesz hel
          cases ok with
          | false =>
            have hpn0 : parseF tx.data.toList.tail = none := by
              rcases HRES.out with ⟨e, _⟩ | ⟨_, e⟩
              · cases e
              · exact e
            have HNO : Hid (R = none) := by
              show R = none
              have := HLG2.out
              rw [hpn0] at this
              exact this.symm
            clear hpn0
            go_wp2
            refine wp_region_held_drew (S := fun _ => True) (by kernel_rfl) (trivial) (fun hHeld => ?_)
            refine wpAnyH_take (i := 0) (v := ?vf00) rfl (by kernel_rfl) (by kernel_rfl) (by kernel_rfl) (fun _ _ _ h => h) (Or.inl ⟨by first | kernel_rfl | rfl, ?yf00⟩) hHeld ?rf00
            case yf00 => (intro W hSW; (try dsimp only at hSW); go_simp; (try with_reducible rfl))
            change wpAnyH _ _ _ _ _ _ _ (Act.put _ (some 40) _) _
            simp only [Act.put, List.setIfInBounds_toArray, List.set_cons_zero, List.set_cons_succ]
            refine wpAnyH_take (i := 1) (v := ?vf01) rfl (by kernel_rfl) (by kernel_rfl) (by kernel_rfl) (fun _ _ _ h => h) (Or.inl ⟨by first | kernel_rfl | rfl, ?yf01⟩) hHeld ?rf01
            case yf01 => (intro W hSW; (try dsimp only at hSW); go_simp; (try with_reducible rfl))
            change wpAnyH _ _ _ _ _ _ _ (Act.put _ (some 41) _) _
            simp only [Act.put, List.setIfInBounds_toArray, List.set_cons_zero, List.set_cons_succ]
            refine wpAnyH_take (i := 2) (v := ?vf02) rfl (by kernel_rfl) (by kernel_rfl) (by kernel_rfl) (fun _ _ _ h => h) (Or.inl ⟨by first | kernel_rfl | rfl, ?yf02⟩) hHeld ?rf02
            case yf02 => (intro W hSW; (try dsimp only at hSW); go_simp; (try with_reducible rfl))
            change wpAnyH _ _ _ _ _ _ _ (Act.put _ (some 42) _) _
            simp only [Act.put, List.setIfInBounds_toArray, List.set_cons_zero, List.set_cons_succ]
            refine wpAnyH_take (i := 3) (v := undef) rfl (by kernel_rfl) (by kernel_rfl) (by kernel_rfl) (fun _ _ _ h => h) (Or.inr ⟨by first | kernel_rfl | rfl, rfl⟩) hHeld ?_
            change wpAnyH _ _ _ _ _ _ _ (Act.put _ (some 43) _) _
            simp only [Act.put, List.setIfInBounds_toArray, List.set_cons_zero, List.set_cons_succ]
            refine wpAnyH_take (i := 4) (v := undef) rfl (by kernel_rfl) (by kernel_rfl) (by kernel_rfl) (fun _ _ _ h => h) (Or.inr ⟨by first | kernel_rfl | rfl, rfl⟩) hHeld ?_
            change wpAnyH _ _ _ _ _ _ _ (Act.put _ (some 44) _) _
            simp only [Act.put, List.setIfInBounds_toArray, List.set_cons_zero, List.set_cons_succ]
            refine wpAnyH_take (i := 5) (v := undef) rfl (by kernel_rfl) (by kernel_rfl) (by kernel_rfl) (fun _ _ _ h => h) (Or.inr ⟨by first | kernel_rfl | rfl, rfl⟩) hHeld ?_
            change wpAnyH _ _ _ _ _ _ _ (Act.put _ (some 45) _) _
            simp only [Act.put, List.setIfInBounds_toArray, List.set_cons_zero, List.set_cons_succ]
            refine wpAnyH_take (i := 6) (v := undef) rfl (by kernel_rfl) (by kernel_rfl) (by kernel_rfl) (fun _ _ _ h => h) (Or.inr ⟨by first | kernel_rfl | rfl, rfl⟩) hHeld ?_
            change wpAnyH _ _ _ _ _ _ _ (Act.put _ (some 46) _) _
            simp only [Act.put, List.setIfInBounds_toArray, List.set_cons_zero, List.set_cons_succ]
            refine wpAnyH_take (i := 7) (v := undef) rfl (by kernel_rfl) (by kernel_rfl) (by kernel_rfl) (fun _ _ _ h => h) (Or.inr ⟨by first | kernel_rfl | rfl, rfl⟩) hHeld ?_
            change wpAnyH _ _ _ _ _ _ _ (Act.put _ (some 47) _) _
            simp only [Act.put, List.setIfInBounds_toArray, List.set_cons_zero, List.set_cons_succ]
            refine wpAnyH_take (i := 8) (v := undef) rfl (by kernel_rfl) (by kernel_rfl) (by kernel_rfl) (fun _ _ _ h => h) (Or.inr ⟨by first | kernel_rfl | rfl, rfl⟩) hHeld ?_
            change wpAnyH _ _ _ _ _ _ _ (Act.put _ (some 48) _) _
            simp only [Act.put, List.setIfInBounds_toArray, List.set_cons_zero, List.set_cons_succ]
            refine wpAnyH_take (i := 9) (v := undef) rfl (by kernel_rfl) (by kernel_rfl) (by kernel_rfl) (fun _ _ _ h => h) (Or.inr ⟨by first | kernel_rfl | rfl, rfl⟩) hHeld ?_
            change wpAnyH _ _ _ _ _ _ _ (Act.put _ (some 49) _) _
            simp only [Act.put, List.setIfInBounds_toArray, List.set_cons_zero, List.set_cons_succ]
            refine wpAnyH_take (i := 10) (v := undef) rfl (by kernel_rfl) (by kernel_rfl) (by kernel_rfl) (fun _ _ _ h => h) (Or.inr ⟨by first | kernel_rfl | rfl, rfl⟩) hHeld ?_
            change wpAnyH _ _ _ _ _ _ _ (Act.put _ (some 50) _) _
            simp only [Act.put, List.setIfInBounds_toArray, List.set_cons_zero, List.set_cons_succ]
            refine wpAnyH_take (i := 11) (v := undef) rfl (by kernel_rfl) (by kernel_rfl) (by kernel_rfl) (fun _ _ _ h => h) (Or.inr ⟨by first | kernel_rfl | rfl, rfl⟩) hHeld ?_
            change wpAnyH _ _ _ _ _ _ _ (Act.put _ (some 51) _) _
            simp only [Act.put, List.setIfInBounds_toArray, List.set_cons_zero, List.set_cons_succ]
            refine wpAnyH_take (i := 12) (v := undef) rfl (by kernel_rfl) (by kernel_rfl) (by kernel_rfl) (fun _ _ _ h => h) (Or.inr ⟨by first | kernel_rfl | rfl, rfl⟩) hHeld ?_
            change wpAnyH _ _ _ _ _ _ _ (Act.put _ (some 52) _) _
            simp only [Act.put, List.setIfInBounds_toArray, List.set_cons_zero, List.set_cons_succ]
            refine wpAnyH_take (i := 13) (v := undef) rfl (by kernel_rfl) (by kernel_rfl) (by kernel_rfl) (fun _ _ _ h => h) (Or.inr ⟨by first | kernel_rfl | rfl, rfl⟩) hHeld ?_
            change wpAnyH _ _ _ _ _ _ _ (Act.put _ (some 53) _) _
            simp only [Act.put, List.setIfInBounds_toArray, List.set_cons_zero, List.set_cons_succ]
            refine wpAnyH_take (i := 14) (v := undef) rfl (by kernel_rfl) (by kernel_rfl) (by kernel_rfl) (fun _ _ _ h => h) (Or.inr ⟨by first | kernel_rfl | rfl, rfl⟩) hHeld ?_
            change wpAnyH _ _ _ _ _ _ _ (Act.put _ (some 54) _) _
            simp only [Act.put, List.setIfInBounds_toArray, List.set_cons_zero, List.set_cons_succ]
            refine wpAnyH_take (i := 15) (v := undef) rfl (by kernel_rfl) (by kernel_rfl) (by kernel_rfl) (fun _ _ _ h => h) (Or.inr ⟨by first | kernel_rfl | rfl, rfl⟩) hHeld ?_
            change wpAnyH _ _ _ _ _ _ _ (Act.put _ (some 55) _) _
            simp only [Act.put, List.setIfInBounds_toArray, List.set_cons_zero, List.set_cons_succ]
            refine wpAnyH_take (i := 16) (v := undef) rfl (by kernel_rfl) (by kernel_rfl) (by kernel_rfl) (fun _ _ _ h => h) (Or.inr ⟨by first | kernel_rfl | rfl, rfl⟩) hHeld ?_
            change wpAnyH _ _ _ _ _ _ _ (Act.put _ (some 56) _) _
            simp only [Act.put, List.setIfInBounds_toArray, List.set_cons_zero, List.set_cons_succ]
            refine wpAnyH_take (i := 17) (v := ?vf017) rfl (by kernel_rfl) (by kernel_rfl) (by kernel_rfl) (fun _ _ _ h => h) (Or.inl ⟨by first | kernel_rfl | rfl, ?yf017⟩) hHeld ?rf017
            case yf017 => (intro W hSW; (try dsimp only at hSW); go_simp; (try with_reducible rfl))
            change wpAnyH _ _ _ _ _ _ _ (Act.put _ (some 57) _) _
            simp only [Act.put, List.setIfInBounds_toArray, List.set_cons_zero, List.set_cons_succ]
            refine wpAnyH_done (by kernel_rfl) ?_ _
            go_wp2
            go_ret2
            exact ⟨.inr ⟨HNO.out, rfl⟩, (HO.out.2.2.trans (HV4.out.1.mono hBwr)).drew⟩
          | true =>
            have hps : parseF tx.data.toList.tail = some es := by
              rcases HRES.out with ⟨_, e⟩ | ⟨e, _⟩
              · exact e
              · cases e
            have HLG3 : Hid ((if follow (lfs acc) ⟨(page : Int), es⟩ then (if nx = 0 then some (lfs acc ++ [⟨(page : Int), es⟩]) else loadG n P f nx (lfs acc ++ [⟨(page : Int), es⟩])) else none) = R) := by
              have := HLG2.out
              rw [hps, HNP.out] at this
              exact this
            have HPS : Hid (parseP (P page) = some es) := by show _ = _; rw [HTX.out]; exact hps
            clear hps
            have hl0 : ln = 0 := by simpa using hz
            have kl : ¬ (0 : Int) < (ln : Int) := by omega
            have kd1 : decide ((0 : Int) < (ln : Int)) = false := decide_eq_false kl
            have kd2 : decide (0 < ln) = false := decide_eq_false (by omega)
            have hnil : acc = [] := List.eq_nil_of_length_eq_zero (by rw [HAL.out]; exact hl0)
            have HFO : Hid (follow (lfs acc) ⟨(page : Int), es⟩ = true) := by show _ = true; rw [hnil]; rfl
            have HPZ0x : Hid (lfs acc = [] → page = 0) := fun _ => HPZ0.out hnil
            have HW : Hid (Below wr.heap.size wr V4.drew ∧ Pw G V4.drew a3 en en es) := ⟨HV4.out.1.drew, HV4.out.2.1.below (Below.refl _ _).drew⟩
            clear hnil hl0
            go_wp2
            refine wp_region_held_drew (S := fun _ => True) (by kernel_rfl) (trivial) (fun hHeld => ?_)
            refine wpAnyH_take (i := 0) (v := ?vg00) rfl (by kernel_rfl) (by kernel_rfl) (by kernel_rfl) (fun _ _ _ h => h) (Or.inl ⟨by first | kernel_rfl | rfl, ?yg00⟩) hHeld ?rg00
            case yg00 => (intro W hSW; (try dsimp only at hSW); go_simp; (try with_reducible rfl))
            change wpAnyH _ _ _ _ _ _ _ (Act.put _ (some 40) _) _
            simp only [Act.put, List.setIfInBounds_toArray, List.set_cons_zero, List.set_cons_succ]
            refine wpAnyH_take (i := 1) (v := ?vg01) rfl (by kernel_rfl) (by kernel_rfl) (by kernel_rfl) (fun _ _ _ h => h) (Or.inl ⟨by first | kernel_rfl | rfl, ?yg01⟩) hHeld ?rg01
            case yg01 => (intro W hSW; (try dsimp only at hSW); go_simp; (try with_reducible rfl))
            change wpAnyH _ _ _ _ _ _ _ (Act.put _ (some 41) _) _
            simp only [Act.put, List.setIfInBounds_toArray, List.set_cons_zero, List.set_cons_succ]
            refine wpAnyH_take (i := 2) (v := ?vg02) rfl (by kernel_rfl) (by kernel_rfl) (by kernel_rfl) (fun _ _ _ h => h) (Or.inl ⟨by first | kernel_rfl | rfl, ?yg02⟩) hHeld ?rg02
            case yg02 => (intro W hSW; (try dsimp only at hSW); go_simp; (try with_reducible rfl))
            change wpAnyH _ _ _ _ _ _ _ (Act.put _ (some 42) _) _
            simp only [Act.put, List.setIfInBounds_toArray, List.set_cons_zero, List.set_cons_succ]
            refine wpAnyH_take (i := 3) (v := ?vg03) rfl (by kernel_rfl) (by kernel_rfl) (by kernel_rfl) (fun _ _ _ h => h) (Or.inl ⟨by first | kernel_rfl | rfl, ?yg03⟩) hHeld ?rg03
            case yg03 => (intro W hSW; (try dsimp only at hSW); go_simp; (try with_reducible rfl))
            change wpAnyH _ _ _ _ _ _ _ (Act.put _ (some 43) _) _
            simp only [Act.put, List.setIfInBounds_toArray, List.set_cons_zero, List.set_cons_succ]
            refine wpAnyH_take (i := 4) (v := ?vg04) rfl (by kernel_rfl) (by kernel_rfl) (by kernel_rfl) (fun _ _ _ h => h) (Or.inl ⟨by first | kernel_rfl | rfl, ?yg04⟩) hHeld ?rg04
            case yg04 => (intro W hSW; (try dsimp only at hSW); go_simp; (try with_reducible rfl))
            change wpAnyH _ _ _ _ _ _ _ (Act.put _ (some 44) _) _
            simp only [Act.put, List.setIfInBounds_toArray, List.set_cons_zero, List.set_cons_succ]
            refine wpAnyH_take (i := 5) (v := ?vg05) rfl (by kernel_rfl) (by kernel_rfl) (by kernel_rfl) (fun _ _ _ h => h) (Or.inl ⟨by first | kernel_rfl | rfl, ?yg05⟩) hHeld ?rg05
            case yg05 => (intro W hSW; (try dsimp only at hSW); go_simp; (try with_reducible rfl))
            change wpAnyH _ _ _ _ _ _ _ (Act.put _ (some 45) _) _
            simp only [Act.put, List.setIfInBounds_toArray, List.set_cons_zero, List.set_cons_succ]
            refine wpAnyH_take (i := 6) (v := ?vg06) rfl (by kernel_rfl) (by kernel_rfl) (by kernel_rfl) (fun _ _ _ h => h) (Or.inl ⟨by first | kernel_rfl | rfl, ?yg06⟩) hHeld ?rg06
            case yg06 => (intro W hSW; (try dsimp only at hSW); go_simp; (try with_reducible rfl))
            change wpAnyH _ _ _ _ _ _ _ (Act.put _ (some 46) _) _
            simp only [Act.put, List.setIfInBounds_toArray, List.set_cons_zero, List.set_cons_succ]
            refine wpAnyH_take (i := 7) (v := undef) rfl (by kernel_rfl) (by kernel_rfl) (by kernel_rfl) (fun _ _ _ h => h) (Or.inr ⟨by first | kernel_rfl | rfl, rfl⟩) hHeld ?_
            change wpAnyH _ _ _ _ _ _ _ (Act.put _ (some 47) _) _
            simp only [Act.put, List.setIfInBounds_toArray, List.set_cons_zero, List.set_cons_succ]
            refine wpAnyH_take (i := 8) (v := undef) rfl (by kernel_rfl) (by kernel_rfl) (by kernel_rfl) (fun _ _ _ h => h) (Or.inr ⟨by first | kernel_rfl | rfl, rfl⟩) hHeld ?_
            change wpAnyH _ _ _ _ _ _ _ (Act.put _ (some 48) _) _
            simp only [Act.put, List.setIfInBounds_toArray, List.set_cons_zero, List.set_cons_succ]
            refine wpAnyH_take (i := 9) (v := undef) rfl (by kernel_rfl) (by kernel_rfl) (by kernel_rfl) (fun _ _ _ h => h) (Or.inr ⟨by first | kernel_rfl | rfl, rfl⟩) hHeld ?_
            change wpAnyH _ _ _ _ _ _ _ (Act.put _ (some 49) _) _
            simp only [Act.put, List.setIfInBounds_toArray, List.set_cons_zero, List.set_cons_succ]
            refine wpAnyH_take (i := 10) (v := undef) rfl (by kernel_rfl) (by kernel_rfl) (by kernel_rfl) (fun _ _ _ h => h) (Or.inr ⟨by first | kernel_rfl | rfl, rfl⟩) hHeld ?_
            change wpAnyH _ _ _ _ _ _ _ (Act.put _ (some 50) _) _
            simp only [Act.put, List.setIfInBounds_toArray, List.set_cons_zero, List.set_cons_succ]
            refine wpAnyH_take (i := 11) (v := undef) rfl (by kernel_rfl) (by kernel_rfl) (by kernel_rfl) (fun _ _ _ h => h) (Or.inr ⟨by first | kernel_rfl | rfl, rfl⟩) hHeld ?_
            change wpAnyH _ _ _ _ _ _ _ (Act.put _ (some 51) _) _
            simp only [Act.put, List.setIfInBounds_toArray, List.set_cons_zero, List.set_cons_succ]
            refine wpAnyH_take (i := 12) (v := undef) rfl (by kernel_rfl) (by kernel_rfl) (by kernel_rfl) (fun _ _ _ h => h) (Or.inr ⟨by first | kernel_rfl | rfl, rfl⟩) hHeld ?_
            change wpAnyH _ _ _ _ _ _ _ (Act.put _ (some 52) _) _
            simp only [Act.put, List.setIfInBounds_toArray, List.set_cons_zero, List.set_cons_succ]
            refine wpAnyH_take (i := 13) (v := undef) rfl (by kernel_rfl) (by kernel_rfl) (by kernel_rfl) (fun _ _ _ h => h) (Or.inr ⟨by first | kernel_rfl | rfl, rfl⟩) hHeld ?_
            change wpAnyH _ _ _ _ _ _ _ (Act.put _ (some 53) _) _
            simp only [Act.put, List.setIfInBounds_toArray, List.set_cons_zero, List.set_cons_succ]
            refine wpAnyH_take (i := 14) (v := undef) rfl (by kernel_rfl) (by kernel_rfl) (by kernel_rfl) (fun _ _ _ h => h) (Or.inr ⟨by first | kernel_rfl | rfl, rfl⟩) hHeld ?_
            change wpAnyH _ _ _ _ _ _ _ (Act.put _ (some 54) _) _
            simp only [Act.put, List.setIfInBounds_toArray, List.set_cons_zero, List.set_cons_succ]
            refine wpAnyH_take (i := 15) (v := undef) rfl (by kernel_rfl) (by kernel_rfl) (by kernel_rfl) (fun _ _ _ h => h) (Or.inr ⟨by first | kernel_rfl | rfl, rfl⟩) hHeld ?_
            change wpAnyH _ _ _ _ _ _ _ (Act.put _ (some 55) _) _
            simp only [Act.put, List.setIfInBounds_toArray, List.set_cons_zero, List.set_cons_succ]
            refine wpAnyH_take (i := 16) (v := ?vg016) rfl (by kernel_rfl) (by kernel_rfl) (by kernel_rfl) (fun _ _ _ h => h) (Or.inl ⟨by first | kernel_rfl | rfl, ?yg016⟩) hHeld ?rg016
            case yg016 => (intro W hSW; (try dsimp only at hSW); go_simp; (try with_reducible rfl))
            change wpAnyH _ _ _ _ _ _ _ (Act.put _ (some 56) _) _
            simp only [Act.put, List.setIfInBounds_toArray, List.set_cons_zero, List.set_cons_succ]
            refine wpAnyH_take (i := 17) (v := ?vg017) rfl (by kernel_rfl) (by kernel_rfl) (by kernel_rfl) (fun _ _ _ h => h) (Or.inl ⟨by first | kernel_rfl | rfl, ?yg017⟩) hHeld ?rg017
            case yg017 => (intro W hSW; (try dsimp only at hSW); go_simp; (try with_reducible rfl))
            change wpAnyH _ _ _ _ _ _ _ (Act.put _ (some 57) _) _
            simp only [Act.put, List.setIfInBounds_toArray, List.set_cons_zero, List.set_cons_succ]
            refine wpAnyH_done (by kernel_rfl) ?_ _
            have hfo : follow (lfs acc) ⟨(page : Int), es⟩ = true := HFO.out
            have HSTEP := HLD.out.step HPZ.out HPZ0x.out (by omega) HPS.out hfo
            have hnl := HSTEP.len
            rw [List.length_append, lfs_len, HAL.out] at hnl
            have hnl1 : ln + 1 ≤ n := by simpa using hnl
            obtain ⟨V5, hV5⟩ : ∃ V5, V4.drew.alloc (.cells #[.int .i64 (page : Int), .slice a3 en en, .int .i64 (z : Int)] 85) = V5 := ⟨_, rfl⟩
            have hB5 : Below V4.drew.heap.size V4.drew V5 := by rw [← hV5]; exact (Below.refl _ V4.drew).alloc (Nat.le_refl _) _
            have r5 : V5.heap[V4.drew.heap.size]? = some (.cells #[.int .i64 (page : Int), .slice a3 en en, .int .i64 (z : Int)] 85 (0, 0)) := by rw [← hV5]; exact heap_alloc_new V4.drew _
            have hBr5 : Below wr.heap.size wr V5 := HW.out.1.trans (hB5.mono HW.out.1.size)
            have hown5 := own_keep HO.out.1 (W' := V5) (fun k hk => hBr5.block k (HO.out.1.lt k hk).2)
            have hB5s : B ≤ V5.heap.size := Nat.le_trans hBwr hBr5.size
            obtain ⟨gA, cA, VA, hrA, hLoA, hlA, hgA⟩ := leaf_add (m := ⟨(page : Int), es, a3⟩) hown5 (HO.out.2.1.below hBr5) hB5s (c := V4.drew.heap.size) (by simp only [HV4.out.2.2.1, HV4.out.2.2.2.1]; exact r5) (by simp only [HV4.out.2.2.1]; exact HW.out.2.below hB5) (by omega)
            have hLN : Ld n P (lfs (acc ++ [⟨(page : Int), es, a3⟩])) := by rw [lfs_app]; exact HSTEP
            have HE : Hid (VA.ownsRow B 85 3 (.slice (some ⟨gA, 0, none⟩) (ln + 1) cA) (ln + 1) (mfV (acc ++ [⟨(page : Int), es, a3⟩])) ∧ Ents G VA (acc ++ [⟨(page : Int), es, a3⟩]) ∧ Below B w VA ∧ Ld n P (lfs (acc ++ [⟨(page : Int), es, a3⟩]))) :=
              ⟨by have := hLoA.own; rwa [hlA] at this, hLoA.ent, (HO.out.2.2.trans (hBr5.mono hBwr)).grown hgA hB5s (fun k hk => (hown5.lt k (by rw [ob_slice]; exact hk)).1), hLN⟩
            have HNEXT : Hid ((if nx = 0 then some (lfs acc ++ [⟨(page : Int), es⟩]) else loadG n P f nx (lfs acc ++ [⟨(page : Int), es⟩])) = R) := by
              have := HLG3.out
              rw [if_pos hfo] at this
              exact this
            clear HSTEP hnl hB5 r5 hBr5 hown5 hB5s hLoA hlA hgA hLN hfo
            go_wp2_with (at_builtin; refine wpList_app V5 rfl _ _ _ _ rfl rfl rfl (hrA _) ?_)
            refine ⟨⟨some ⟨gA, 0, none⟩, ln + 1, cA, nx, acc ++ [⟨(page : Int), es, a3⟩], rfl, by first | rfl | (congr 1; done), HE.out.1, HE.out.2.1, HE.out.2.2.2, hnxb, ?_, HE.out.2.2.1⟩, by simp only [slLen]; omega⟩
            have e1 : lfs (acc ++ [(⟨(page : Int), es, a3⟩ : Mf)]) = lfs acc ++ [⟨(page : Int), es⟩] := by rw [lfs_app]; rfl
            have hnn := HNEXT.out
            by_cases hn0 : nx = 0
            · rw [if_neg (fun h => h.elim (fun e => by simp at e) (fun e => e hn0)), e1]
              rw [if_pos hn0] at hnn
              exact hnn.symm
            · rw [if_pos (.inr hn0), e1]
              rw [if_neg hn0] at hnn
              refine ⟨fun e => by simp at e, f, ?_, hnn⟩
              have := HFF.out
              rw [List.length_append, HAL.out]
              rw [HAL.out] at this
              simp
              omega
        · go_wp2_with (go_at_call 43; refine HPG.mono ?_; rintro e W9 ⟨rfl, hW9⟩; subst W9)
          refine HRDP.mono ?_
          rintro e V1 ⟨rfl, hV1⟩
          have hB1 : B ≤ V1.heap.size := Nat.le_trans hBwr hV1.size
          have HPR := parse_any (G := G) (w := V1) (fun z hz => HG.out z (by omega)) (tx.extract 1 tx.size) (by have := HXS.out.1; omega)
          rw [HXS.out.2] at HPR
          have HV1 : Hid (Below wr.heap.size wr V1) := hV1
          clear HRDP hV1
          go_wp2_with fail
          refine HPR.mono ?_
          rintro e V2 ⟨ea, en, ec, es, ok, rfl, hpw, hesz, hres, hV2⟩
          have HNL := newLeaf_any (page : Int) ea en ec es hpw (by omega)
          have hel := hpw.len
          have HV2 : Hid (Below wr.heap.size wr V2) := HV1.out.trans (hV2.mono HV1.out.size)
          clear HPR hpw hV2
          go_wp2_with fail
          refine HNL.mono ?_
          rintro e V3 ⟨a3, rfl, hp3, hV3⟩
          have hB3 : Below wr.heap.size wr V3 := HV2.out.trans (hV3.mono HV2.out.size)
          obtain ⟨c, hc⟩ : ∃ c, V3.heap.size = c := ⟨_, rfl⟩
          obtain ⟨z, hzz⟩ : ∃ z, szL es = z := ⟨_, rfl⟩
          rw [hzz]
          obtain ⟨V4, hV4⟩ : ∃ V4, V3.alloc (.cells #[.int .i64 (page : Int), .slice a3 en en, .int .i64 (z : Int)] 85) = V4 := ⟨_, rfl⟩
          have hB4 : Below V3.heap.size V3 V4 := by rw [← hV4]; exact (Below.refl _ V3).alloc (Nat.le_refl _) _
          have r4 : V4.heap[c]? = some (.cells #[.int .i64 (page : Int), .slice a3 en en, .int .i64 (z : Int)] 85 (0, 0)) := by rw [← hV4, ← hc]; exact heap_alloc_new V3 _
          have q0 : V4.cell? ⟨c, 0, none⟩ = some (.int .i64 (page : Int)) := by rw [cell_of_row _ _ _ _ _ _ r4]; rfl
          have q1 : V4.cell? ⟨c, 1, none⟩ = some (.slice a3 en en) := by rw [cell_of_row _ _ _ _ _ _ r4]; rfl
          have q2 : V4.cell? ⟨c, 2, none⟩ = some (.int .i64 (z : Int)) := by rw [cell_of_row _ _ _ _ _ _ r4]; rfl
          have hBr4 : Below wr.heap.size wr V4 := hB3.trans (hB4.mono hB3.size)
          have HV4 : Hid (Below wr.heap.size wr V4 ∧ Pw G V4 a3 en en es ∧ es.length = en ∧ szL es = z ∧ szL es ≤ 1023) := ⟨hBr4, hp3.below hB4, hel, hzz, hesz⟩
          have HRES : Hid ((ok = true ∧ parseF tx.data.toList.tail = some es) ∨ (ok = false ∧ parseF tx.data.toList.tail = none)) := hres
          have hcw : wr.heap.size ≤ c := by rw [← hc]; exact hB3.size
          have hzb : z ≤ 1023 := by omega
          clear HNL hp3 hV3 hB3 hB4 r4 hBr4 hres hzz hesz hel
          cases ok with
          | false =>
            have hpn0 : parseF tx.data.toList.tail = none := by
              rcases HRES.out with ⟨e, _⟩ | ⟨_, e⟩
              · cases e
              · exact e
            have HNO : Hid (R = none) := by
              show R = none
              have := HLG2.out
              rw [hpn0] at this
              exact this.symm
            clear hpn0
            go_wp2
            refine wp_region_held_drew (S := fun _ => True) (by kernel_rfl) (trivial) (fun hHeld => ?_)
            refine wpAnyH_take (i := 0) (v := ?vf10) rfl (by kernel_rfl) (by kernel_rfl) (by kernel_rfl) (fun _ _ _ h => h) (Or.inl ⟨by first | kernel_rfl | rfl, ?yf10⟩) hHeld ?rf10
            case yf10 => (intro W hSW; (try dsimp only at hSW); go_simp; (try with_reducible rfl))
            change wpAnyH _ _ _ _ _ _ _ (Act.put _ (some 40) _) _
            simp only [Act.put, List.setIfInBounds_toArray, List.set_cons_zero, List.set_cons_succ]
            refine wpAnyH_take (i := 1) (v := ?vf11) rfl (by kernel_rfl) (by kernel_rfl) (by kernel_rfl) (fun _ _ _ h => h) (Or.inl ⟨by first | kernel_rfl | rfl, ?yf11⟩) hHeld ?rf11
            case yf11 => (intro W hSW; (try dsimp only at hSW); go_simp; (try with_reducible rfl))
            change wpAnyH _ _ _ _ _ _ _ (Act.put _ (some 41) _) _
            simp only [Act.put, List.setIfInBounds_toArray, List.set_cons_zero, List.set_cons_succ]
            refine wpAnyH_take (i := 2) (v := ?vf12) rfl (by kernel_rfl) (by kernel_rfl) (by kernel_rfl) (fun _ _ _ h => h) (Or.inl ⟨by first | kernel_rfl | rfl, ?yf12⟩) hHeld ?rf12
            case yf12 => (intro W hSW; (try dsimp only at hSW); go_simp; (try with_reducible rfl))
            change wpAnyH _ _ _ _ _ _ _ (Act.put _ (some 42) _) _
            simp only [Act.put, List.setIfInBounds_toArray, List.set_cons_zero, List.set_cons_succ]
            refine wpAnyH_take (i := 3) (v := undef) rfl (by kernel_rfl) (by kernel_rfl) (by kernel_rfl) (fun _ _ _ h => h) (Or.inr ⟨by first | kernel_rfl | rfl, rfl⟩) hHeld ?_
            change wpAnyH _ _ _ _ _ _ _ (Act.put _ (some 43) _) _
            simp only [Act.put, List.setIfInBounds_toArray, List.set_cons_zero, List.set_cons_succ]
            refine wpAnyH_take (i := 4) (v := undef) rfl (by kernel_rfl) (by kernel_rfl) (by kernel_rfl) (fun _ _ _ h => h) (Or.inr ⟨by first | kernel_rfl | rfl, rfl⟩) hHeld ?_
            change wpAnyH _ _ _ _ _ _ _ (Act.put _ (some 44) _) _
            simp only [Act.put, List.setIfInBounds_toArray, List.set_cons_zero, List.set_cons_succ]
            refine wpAnyH_take (i := 5) (v := undef) rfl (by kernel_rfl) (by kernel_rfl) (by kernel_rfl) (fun _ _ _ h => h) (Or.inr ⟨by first | kernel_rfl | rfl, rfl⟩) hHeld ?_
            change wpAnyH _ _ _ _ _ _ _ (Act.put _ (some 45) _) _
            simp only [Act.put, List.setIfInBounds_toArray, List.set_cons_zero, List.set_cons_succ]
            refine wpAnyH_take (i := 6) (v := undef) rfl (by kernel_rfl) (by kernel_rfl) (by kernel_rfl) (fun _ _ _ h => h) (Or.inr ⟨by first | kernel_rfl | rfl, rfl⟩) hHeld ?_
            change wpAnyH _ _ _ _ _ _ _ (Act.put _ (some 46) _) _
            simp only [Act.put, List.setIfInBounds_toArray, List.set_cons_zero, List.set_cons_succ]
            refine wpAnyH_take (i := 7) (v := undef) rfl (by kernel_rfl) (by kernel_rfl) (by kernel_rfl) (fun _ _ _ h => h) (Or.inr ⟨by first | kernel_rfl | rfl, rfl⟩) hHeld ?_
            change wpAnyH _ _ _ _ _ _ _ (Act.put _ (some 47) _) _
            simp only [Act.put, List.setIfInBounds_toArray, List.set_cons_zero, List.set_cons_succ]
            refine wpAnyH_take (i := 8) (v := undef) rfl (by kernel_rfl) (by kernel_rfl) (by kernel_rfl) (fun _ _ _ h => h) (Or.inr ⟨by first | kernel_rfl | rfl, rfl⟩) hHeld ?_
            change wpAnyH _ _ _ _ _ _ _ (Act.put _ (some 48) _) _
            simp only [Act.put, List.setIfInBounds_toArray, List.set_cons_zero, List.set_cons_succ]
            refine wpAnyH_take (i := 9) (v := undef) rfl (by kernel_rfl) (by kernel_rfl) (by kernel_rfl) (fun _ _ _ h => h) (Or.inr ⟨by first | kernel_rfl | rfl, rfl⟩) hHeld ?_
            change wpAnyH _ _ _ _ _ _ _ (Act.put _ (some 49) _) _
            simp only [Act.put, List.setIfInBounds_toArray, List.set_cons_zero, List.set_cons_succ]
            refine wpAnyH_take (i := 10) (v := undef) rfl (by kernel_rfl) (by kernel_rfl) (by kernel_rfl) (fun _ _ _ h => h) (Or.inr ⟨by first | kernel_rfl | rfl, rfl⟩) hHeld ?_
            change wpAnyH _ _ _ _ _ _ _ (Act.put _ (some 50) _) _
            simp only [Act.put, List.setIfInBounds_toArray, List.set_cons_zero, List.set_cons_succ]
            refine wpAnyH_take (i := 11) (v := undef) rfl (by kernel_rfl) (by kernel_rfl) (by kernel_rfl) (fun _ _ _ h => h) (Or.inr ⟨by first | kernel_rfl | rfl, rfl⟩) hHeld ?_
            change wpAnyH _ _ _ _ _ _ _ (Act.put _ (some 51) _) _
            simp only [Act.put, List.setIfInBounds_toArray, List.set_cons_zero, List.set_cons_succ]
            refine wpAnyH_take (i := 12) (v := undef) rfl (by kernel_rfl) (by kernel_rfl) (by kernel_rfl) (fun _ _ _ h => h) (Or.inr ⟨by first | kernel_rfl | rfl, rfl⟩) hHeld ?_
            change wpAnyH _ _ _ _ _ _ _ (Act.put _ (some 52) _) _
            simp only [Act.put, List.setIfInBounds_toArray, List.set_cons_zero, List.set_cons_succ]
            refine wpAnyH_take (i := 13) (v := undef) rfl (by kernel_rfl) (by kernel_rfl) (by kernel_rfl) (fun _ _ _ h => h) (Or.inr ⟨by first | kernel_rfl | rfl, rfl⟩) hHeld ?_
            change wpAnyH _ _ _ _ _ _ _ (Act.put _ (some 53) _) _
            simp only [Act.put, List.setIfInBounds_toArray, List.set_cons_zero, List.set_cons_succ]
            refine wpAnyH_take (i := 14) (v := undef) rfl (by kernel_rfl) (by kernel_rfl) (by kernel_rfl) (fun _ _ _ h => h) (Or.inr ⟨by first | kernel_rfl | rfl, rfl⟩) hHeld ?_
            change wpAnyH _ _ _ _ _ _ _ (Act.put _ (some 54) _) _
            simp only [Act.put, List.setIfInBounds_toArray, List.set_cons_zero, List.set_cons_succ]
            refine wpAnyH_take (i := 15) (v := undef) rfl (by kernel_rfl) (by kernel_rfl) (by kernel_rfl) (fun _ _ _ h => h) (Or.inr ⟨by first | kernel_rfl | rfl, rfl⟩) hHeld ?_
            change wpAnyH _ _ _ _ _ _ _ (Act.put _ (some 55) _) _
            simp only [Act.put, List.setIfInBounds_toArray, List.set_cons_zero, List.set_cons_succ]
            refine wpAnyH_take (i := 16) (v := undef) rfl (by kernel_rfl) (by kernel_rfl) (by kernel_rfl) (fun _ _ _ h => h) (Or.inr ⟨by first | kernel_rfl | rfl, rfl⟩) hHeld ?_
            change wpAnyH _ _ _ _ _ _ _ (Act.put _ (some 56) _) _
            simp only [Act.put, List.setIfInBounds_toArray, List.set_cons_zero, List.set_cons_succ]
            refine wpAnyH_take (i := 17) (v := ?vf117) rfl (by kernel_rfl) (by kernel_rfl) (by kernel_rfl) (fun _ _ _ h => h) (Or.inl ⟨by first | kernel_rfl | rfl, ?yf117⟩) hHeld ?rf117
            case yf117 => (intro W hSW; (try dsimp only at hSW); go_simp; (try with_reducible rfl))
            change wpAnyH _ _ _ _ _ _ _ (Act.put _ (some 57) _) _
            simp only [Act.put, List.setIfInBounds_toArray, List.set_cons_zero, List.set_cons_succ]
            refine wpAnyH_done (by kernel_rfl) ?_ _
            go_wp2
            go_ret2
            exact ⟨.inr ⟨HNO.out, rfl⟩, (HO.out.2.2.trans (HV4.out.1.mono hBwr)).drew⟩
          | true =>
            have hps : parseF tx.data.toList.tail = some es := by
              rcases HRES.out with ⟨_, e⟩ | ⟨e, _⟩
              · exact e
              · cases e
            have HLG3 : Hid ((if follow (lfs acc) ⟨(page : Int), es⟩ then (if nx = 0 then some (lfs acc ++ [⟨(page : Int), es⟩]) else loadG n P f nx (lfs acc ++ [⟨(page : Int), es⟩])) else none) = R) := by
              have := HLG2.out
              rw [hps, HNP.out] at this
              exact this
            have HPS : Hid (parseP (P page) = some es) := by show _ = _; rw [HTX.out]; exact hps
            clear hps
            have kl : (0 : Int) < (ln : Int) := by
              have : ¬ ln = 0 := by simpa using hz
              omega
            have kd1 : decide ((0 : Int) < (ln : Int)) = true := decide_eq_true kl
            have kd2 : decide (0 < ln) = true := decide_eq_true (by omega)
            obtain ⟨q, hq⟩ : ∃ q, ln = q + 1 := ⟨ln - 1, by omega⟩
            obtain ⟨I, lm, hJ⟩ := last_of acc (by rw [HAL.out]; omega)
            have hIq : I.length = q := by have := HAL.out; rw [hJ] at this; simp at this; omega
            have hJl : acc[q]? = some lm := by rw [hJ, List.getElem?_append_right (by omega), hIq]; simp
            have ho4 := own_keep HO.out.1 (W' := V4) (fun k hk => HV4.out.1.block k (HO.out.1.lt k hk).2)
            obtain ⟨gl, cl, el, _, _⟩ := ho4.form (by omega)
            cases el
            have s0 : V4.cell? ⟨gl, q * 3, none⟩ = some (.int .i64 lm.page) := own_at ho4 (by have := fm_at mfC_len hJl 0 (by omega); exact this)
            have s1 : V4.cell? ⟨gl, q * 3 + 1, none⟩ = some (.slice lm.a lm.es.length lm.es.length) := own_at ho4 (by have := fm_at mfC_len hJl 1 (by omega); exact this)
            have s2 : V4.cell? ⟨gl, q * 3 + 2, none⟩ = some (.int .i64 (szL lm.es : Int)) := own_at ho4 (by have := fm_at mfC_len hJl 2 (by omega); exact this)
            have hEl : Pw G V4.drew lm.a lm.es.length lm.es.length lm.es := ((HO.out.2.1 lm (List.mem_of_getElem? hJl)).below HV4.out.1).below (Below.refl _ _).drew
            have hlz : szL lm.es ≤ 1023 := HLD.out.sz lm.lf (List.mem_of_getElem? (lfs_at hJl))
            have HFL := follows_any (w := V4.drew) (page : Int) lm.page a3 lm.a en lm.es.length es lm.es (HV4.out.2.1.below (Below.refl _ _).drew) hEl HV4.out.2.2.2.2 hlz
            have hfe : follow (lfs acc) ⟨(page : Int), es⟩ = (decide (1023 < szL lm.es + szL es) && behindK ⟨lm.page, lm.es⟩ ⟨(page : Int), es⟩) := by
              unfold follow
              have e : (lfs acc).getLast? = some lm.lf := by rw [hJ, lfs_app]; simp [lfs]
              rw [e]
              rfl
            rw [← hfe, HV4.out.2.2.2.1] at HFL
            have hqi : (ln : Int) - 1 = (q : Int) := by omega
            have hwq : IntKind.i64.wrap ((ln : Int) - 1) = (q : Int) := by rw [hqi]; exact wrap_small q (by omega)
            have hwq2 : IntKind.i64.wrap (q : Int) = (q : Int) := wrap_small q (by omega)
            have hql : (q : Int) < (ln : Int) := by omega
            have hne9 : ¬ acc = [] := by rw [hJ]; simp
            have HNE : Hid (¬ acc = []) := hne9
            have HSK : Hid (∀ V, Below V4.heap.size V4 V → V.cell? ⟨c, 0, none⟩ = some (.int .i64 (page : Int)) ∧ V.cell? ⟨c, 1, none⟩ = some (.slice a3 en en) ∧ V.cell? ⟨c, 2, none⟩ = some (.int .i64 (z : Int)) ∧ V.cell? ⟨gl, q * 3, none⟩ = some (.int .i64 lm.page) ∧ V.cell? ⟨gl, q * 3 + 1, none⟩ = some (.slice lm.a lm.es.length lm.es.length) ∧ V.cell? ⟨gl, q * 3 + 2, none⟩ = some (.int .i64 (szL lm.es : Int))) := fun V hV => by
              have hcl : c < V4.heap.size := World.block_lt_of_cell? _ _ q0
              have hgll : gl < V4.heap.size := World.block_lt_of_cell? _ _ s0
              exact ⟨by rw [hV.cell (p := ⟨c, 0, none⟩) hcl]; exact q0, by rw [hV.cell (p := ⟨c, 1, none⟩) hcl]; exact q1, by rw [hV.cell (p := ⟨c, 2, none⟩) hcl]; exact q2, by rw [hV.cell (p := ⟨gl, _, none⟩) hgll]; exact s0, by rw [hV.cell (p := ⟨gl, q * 3 + 1, none⟩) hgll]; exact s1, by rw [hV.cell (p := ⟨gl, q * 3 + 2, none⟩) hgll]; exact s2⟩
            clear hJ hJl hIq ho4 hEl hlz hfe hq hne9
            cases hfw : follow (lfs acc) ⟨(page : Int), es⟩ with
            | false =>
              rw [hfw] at HFL
              have HNO : Hid (R = none) := by
                show R = none
                have := HLG3.out
                rw [hfw] at this
                exact this.symm
              clear hfw
              go_wp2
              refine wp_region_held_drew (S := fun V => V.cell? ⟨c, 0, none⟩ = some (.int .i64 (page : Int)) ∧ V.cell? ⟨c, 1, none⟩ = some (.slice a3 en en) ∧ V.cell? ⟨c, 2, none⟩ = some (.int .i64 (z : Int)) ∧ V.cell? ⟨gl, q * 3, none⟩ = some (.int .i64 lm.page) ∧ V.cell? ⟨gl, q * 3 + 1, none⟩ = some (.slice lm.a lm.es.length lm.es.length) ∧ V.cell? ⟨gl, q * 3 + 2, none⟩ = some (.int .i64 (szL lm.es : Int))) (by kernel_rfl) (HSK.out _ (Below.refl _ _).drew) (fun hHeld => ?_)
              refine wpAnyH_take (i := 0) (v := ?vh1f0) rfl (by kernel_rfl) (by kernel_rfl) (by kernel_rfl) (fun _ _ _ h => h) (Or.inl ⟨by first | kernel_rfl | rfl, ?yh1f0⟩) hHeld ?rh1f0
              case yh1f0 => (intro W hSW; (try dsimp only at hSW); go_simp; (try with_reducible rfl))
              change wpAnyH _ _ _ _ _ _ _ (Act.put _ (some 40) _) _
              simp only [Act.put, List.setIfInBounds_toArray, List.set_cons_zero, List.set_cons_succ]
              refine wpAnyH_take (i := 1) (v := ?vh1f1) rfl (by kernel_rfl) (by kernel_rfl) (by kernel_rfl) (fun _ _ _ h => h) (Or.inl ⟨by first | kernel_rfl | rfl, ?yh1f1⟩) hHeld ?rh1f1
              case yh1f1 => (intro W hSW; (try dsimp only at hSW); go_simp; (try with_reducible rfl))
              change wpAnyH _ _ _ _ _ _ _ (Act.put _ (some 41) _) _
              simp only [Act.put, List.setIfInBounds_toArray, List.set_cons_zero, List.set_cons_succ]
              refine wpAnyH_take (i := 2) (v := ?vh1f2) rfl (by kernel_rfl) (by kernel_rfl) (by kernel_rfl) (fun _ _ _ h => h) (Or.inl ⟨by first | kernel_rfl | rfl, ?yh1f2⟩) hHeld ?rh1f2
              case yh1f2 => (intro W hSW; (try dsimp only at hSW); go_simp; (try with_reducible rfl))
              change wpAnyH _ _ _ _ _ _ _ (Act.put _ (some 42) _) _
              simp only [Act.put, List.setIfInBounds_toArray, List.set_cons_zero, List.set_cons_succ]
              refine wpAnyH_take (i := 3) (v := ?vh1f3) rfl (by kernel_rfl) (by kernel_rfl) (by kernel_rfl) (fun _ _ _ h => h) (Or.inl ⟨by first | kernel_rfl | rfl, ?yh1f3⟩) hHeld ?rh1f3
              case yh1f3 => (intro W hSW; (try dsimp only at hSW); go_simp; (try with_reducible rfl))
              change wpAnyH _ _ _ _ _ _ _ (Act.put _ (some 43) _) _
              simp only [Act.put, List.setIfInBounds_toArray, List.set_cons_zero, List.set_cons_succ]
              refine wpAnyH_take (i := 4) (v := ?vh1f4) rfl (by kernel_rfl) (by kernel_rfl) (by kernel_rfl) (fun _ _ _ h => h) (Or.inl ⟨by first | kernel_rfl | rfl, ?yh1f4⟩) hHeld ?rh1f4
              case yh1f4 => (intro W hSW; (try dsimp only at hSW); go_simp; (try with_reducible rfl))
              change wpAnyH _ _ _ _ _ _ _ (Act.put _ (some 44) _) _
              simp only [Act.put, List.setIfInBounds_toArray, List.set_cons_zero, List.set_cons_succ]
              refine wpAnyH_take (i := 5) (v := ?vh1f5) rfl (by kernel_rfl) (by kernel_rfl) (by kernel_rfl) (fun _ _ _ h => h) (Or.inl ⟨by first | kernel_rfl | rfl, ?yh1f5⟩) hHeld ?rh1f5
              case yh1f5 => (intro W hSW; (try dsimp only at hSW); go_simp; (try with_reducible rfl))
              change wpAnyH _ _ _ _ _ _ _ (Act.put _ (some 45) _) _
              simp only [Act.put, List.setIfInBounds_toArray, List.set_cons_zero, List.set_cons_succ]
              refine wpAnyH_take (i := 6) (v := ?vh1f6) rfl (by kernel_rfl) (by kernel_rfl) (by kernel_rfl) (fun _ _ _ h => h) (Or.inl ⟨by first | kernel_rfl | rfl, ?yh1f6⟩) hHeld ?rh1f6
              case yh1f6 => (intro W hSW; (try dsimp only at hSW); go_simp; (try with_reducible rfl))
              change wpAnyH _ _ _ _ _ _ _ (Act.put _ (some 46) _) _
              simp only [Act.put, List.setIfInBounds_toArray, List.set_cons_zero, List.set_cons_succ]
              refine wpAnyH_take (i := 7) (v := ?vh1f7) rfl (by kernel_rfl) (by kernel_rfl) (by kernel_rfl) (fun _ _ _ h => h) (Or.inl ⟨by first | kernel_rfl | rfl, ?yh1f7⟩) hHeld ?rh1f7
              case yh1f7 => (intro W hSW; (try dsimp only at hSW); go_simp; (try with_reducible rfl))
              change wpAnyH _ _ _ _ _ _ _ (Act.put _ (some 47) _) _
              simp only [Act.put, List.setIfInBounds_toArray, List.set_cons_zero, List.set_cons_succ]
              refine wpAnyH_take (i := 8) (v := ?vh1f8) rfl (by kernel_rfl) (by kernel_rfl) (by kernel_rfl) (fun _ _ _ h => h) (Or.inl ⟨by first | kernel_rfl | rfl, ?yh1f8⟩) hHeld ?rh1f8
              case yh1f8 => (intro W hSW; (try dsimp only at hSW); go_simp; (try with_reducible rfl))
              change wpAnyH _ _ _ _ _ _ _ (Act.put _ (some 48) _) _
              simp only [Act.put, List.setIfInBounds_toArray, List.set_cons_zero, List.set_cons_succ]
              refine wpAnyH_take (i := 9) (v := ?vh1f9) rfl (by kernel_rfl) (by kernel_rfl) (by kernel_rfl) (fun _ _ _ h => h) (Or.inl ⟨by first | kernel_rfl | rfl, ?yh1f9⟩) hHeld ?rh1f9
              case yh1f9 => (intro W hSW; (try dsimp only at hSW); go_simp; (try with_reducible rfl))
              change wpAnyH _ _ _ _ _ _ _ (Act.put _ (some 49) _) _
              simp only [Act.put, List.setIfInBounds_toArray, List.set_cons_zero, List.set_cons_succ]
              refine wpAnyH_take (i := 10) (v := ?vh1f10) rfl (by kernel_rfl) (by kernel_rfl) (by kernel_rfl) (fun _ _ _ h => h) (Or.inl ⟨by first | kernel_rfl | rfl, ?yh1f10⟩) hHeld ?rh1f10
              case yh1f10 => (intro W hSW; (try dsimp only at hSW); go_simp; (try with_reducible rfl))
              change wpAnyH _ _ _ _ _ _ _ (Act.put _ (some 50) _) _
              simp only [Act.put, List.setIfInBounds_toArray, List.set_cons_zero, List.set_cons_succ]
              refine wpAnyH_take (i := 11) (v := ?vh1f11) rfl (by kernel_rfl) (by kernel_rfl) (by kernel_rfl) (fun _ _ _ h => h) (Or.inl ⟨by first | kernel_rfl | rfl, ?yh1f11⟩) hHeld ?rh1f11
              case yh1f11 => (intro W hSW; (try dsimp only at hSW); go_simp; (try with_reducible rfl))
              change wpAnyH _ _ _ _ _ _ _ (Act.put _ (some 51) _) _
              simp only [Act.put, List.setIfInBounds_toArray, List.set_cons_zero, List.set_cons_succ]
              refine wpAnyH_take (i := 12) (v := ?vh1f12) rfl (by kernel_rfl) (by kernel_rfl) (by kernel_rfl) (fun _ _ _ h => h) (Or.inl ⟨by first | kernel_rfl | rfl, ?yh1f12⟩) hHeld ?rh1f12
              case yh1f12 => (intro W hSW; (try dsimp only at hSW); go_simp; (try with_reducible rfl))
              change wpAnyH _ _ _ _ _ _ _ (Act.put _ (some 52) _) _
              simp only [Act.put, List.setIfInBounds_toArray, List.set_cons_zero, List.set_cons_succ]
              refine wpAnyH_take (i := 13) (v := ?vh1f13) rfl (by kernel_rfl) (by kernel_rfl) (by kernel_rfl) (fun _ _ _ h => h) (Or.inl ⟨by first | kernel_rfl | rfl, ?yh1f13⟩) hHeld ?rh1f13
              case yh1f13 => (intro W hSW; (try dsimp only at hSW); go_simp; (try with_reducible rfl))
              change wpAnyH _ _ _ _ _ _ _ (Act.put _ (some 53) _) _
              simp only [Act.put, List.setIfInBounds_toArray, List.set_cons_zero, List.set_cons_succ]
              refine wpAnyH_ready (rs := [14]) (by kernel_rfl) (by simp) ?_
              refine AllReadyH.cons rfl (fun K hK => ?_) AllReadyH.nil
              rw [if_pos (by first | rfl | kernel_rfl)]
              go_simp
              refine HFL.mono ?_
              rintro e X ⟨rfl, hX⟩
              have hX4 : Below V4.heap.size V4 X := (Below.refl _ V4).drew.trans hX
              refine hK.out _ _ (HSK.out X hX4) (fun hHeld => ?_)
              clear hK K
              try simp only [Act.put, List.setIfInBounds_toArray, List.set_cons_zero, List.set_cons_succ]
              refine wpAnyH_take (i := 15) (v := ?vh1f15) rfl (by kernel_rfl) (by kernel_rfl) (by kernel_rfl) (fun _ _ _ h => h) (Or.inl ⟨by first | kernel_rfl | rfl, ?yh1f15⟩) hHeld ?rh1f15
              case yh1f15 => (intro W hSW; (try dsimp only at hSW); go_simp; (try with_reducible rfl))
              change wpAnyH _ _ _ _ _ _ _ (Act.put _ (some 55) _) _
              simp only [Act.put, List.setIfInBounds_toArray, List.set_cons_zero, List.set_cons_succ]
              refine wpAnyH_take (i := 16) (v := ?vh1f16) rfl (by kernel_rfl) (by kernel_rfl) (by kernel_rfl) (fun _ _ _ h => h) (Or.inl ⟨by first | kernel_rfl | rfl, ?yh1f16⟩) hHeld ?rh1f16
              case yh1f16 => (intro W hSW; (try dsimp only at hSW); go_simp; (try with_reducible rfl))
              change wpAnyH _ _ _ _ _ _ _ (Act.put _ (some 56) _) _
              simp only [Act.put, List.setIfInBounds_toArray, List.set_cons_zero, List.set_cons_succ]
              refine wpAnyH_take (i := 17) (v := ?vh1f17) rfl (by kernel_rfl) (by kernel_rfl) (by kernel_rfl) (fun _ _ _ h => h) (Or.inl ⟨by first | kernel_rfl | rfl, ?yh1f17⟩) hHeld ?rh1f17
              case yh1f17 => (intro W hSW; (try dsimp only at hSW); go_simp; (try with_reducible rfl))
              change wpAnyH _ _ _ _ _ _ _ (Act.put _ (some 57) _) _
              simp only [Act.put, List.setIfInBounds_toArray, List.set_cons_zero, List.set_cons_succ]
              refine wpAnyH_done (by kernel_rfl) ?_ _
              have HXB : Hid (Below B w X) := HO.out.2.2.trans ((HV4.out.1.trans (hX4.mono HV4.out.1.size)).mono hBwr)
              clear hX hX4 HFL
              go_wp2
              go_ret2
              exact ⟨.inr ⟨HNO.out, rfl⟩, HXB.out⟩
            | true =>
              rw [hfw] at HFL
              have HFO : Hid (follow (lfs acc) ⟨(page : Int), es⟩ = true) := hfw
              have HPZ0x : Hid (lfs acc = [] → page = 0) := fun e => absurd (List.map_eq_nil_iff.1 e) HNE.out
              clear hfw
              go_wp2
              refine wp_region_held_drew (S := fun V => V.cell? ⟨c, 0, none⟩ = some (.int .i64 (page : Int)) ∧ V.cell? ⟨c, 1, none⟩ = some (.slice a3 en en) ∧ V.cell? ⟨c, 2, none⟩ = some (.int .i64 (z : Int)) ∧ V.cell? ⟨gl, q * 3, none⟩ = some (.int .i64 lm.page) ∧ V.cell? ⟨gl, q * 3 + 1, none⟩ = some (.slice lm.a lm.es.length lm.es.length) ∧ V.cell? ⟨gl, q * 3 + 2, none⟩ = some (.int .i64 (szL lm.es : Int))) (by kernel_rfl) (HSK.out _ (Below.refl _ _).drew) (fun hHeld => ?_)
              refine wpAnyH_take (i := 0) (v := ?vh1t0) rfl (by kernel_rfl) (by kernel_rfl) (by kernel_rfl) (fun _ _ _ h => h) (Or.inl ⟨by first | kernel_rfl | rfl, ?yh1t0⟩) hHeld ?rh1t0
              case yh1t0 => (intro W hSW; (try dsimp only at hSW); go_simp; (try with_reducible rfl))
              change wpAnyH _ _ _ _ _ _ _ (Act.put _ (some 40) _) _
              simp only [Act.put, List.setIfInBounds_toArray, List.set_cons_zero, List.set_cons_succ]
              refine wpAnyH_take (i := 1) (v := ?vh1t1) rfl (by kernel_rfl) (by kernel_rfl) (by kernel_rfl) (fun _ _ _ h => h) (Or.inl ⟨by first | kernel_rfl | rfl, ?yh1t1⟩) hHeld ?rh1t1
              case yh1t1 => (intro W hSW; (try dsimp only at hSW); go_simp; (try with_reducible rfl))
              change wpAnyH _ _ _ _ _ _ _ (Act.put _ (some 41) _) _
              simp only [Act.put, List.setIfInBounds_toArray, List.set_cons_zero, List.set_cons_succ]
              refine wpAnyH_take (i := 2) (v := ?vh1t2) rfl (by kernel_rfl) (by kernel_rfl) (by kernel_rfl) (fun _ _ _ h => h) (Or.inl ⟨by first | kernel_rfl | rfl, ?yh1t2⟩) hHeld ?rh1t2
              case yh1t2 => (intro W hSW; (try dsimp only at hSW); go_simp; (try with_reducible rfl))
              change wpAnyH _ _ _ _ _ _ _ (Act.put _ (some 42) _) _
              simp only [Act.put, List.setIfInBounds_toArray, List.set_cons_zero, List.set_cons_succ]
              refine wpAnyH_take (i := 3) (v := ?vh1t3) rfl (by kernel_rfl) (by kernel_rfl) (by kernel_rfl) (fun _ _ _ h => h) (Or.inl ⟨by first | kernel_rfl | rfl, ?yh1t3⟩) hHeld ?rh1t3
              case yh1t3 => (intro W hSW; (try dsimp only at hSW); go_simp; (try with_reducible rfl))
              change wpAnyH _ _ _ _ _ _ _ (Act.put _ (some 43) _) _
              simp only [Act.put, List.setIfInBounds_toArray, List.set_cons_zero, List.set_cons_succ]
              refine wpAnyH_take (i := 4) (v := ?vh1t4) rfl (by kernel_rfl) (by kernel_rfl) (by kernel_rfl) (fun _ _ _ h => h) (Or.inl ⟨by first | kernel_rfl | rfl, ?yh1t4⟩) hHeld ?rh1t4
              case yh1t4 => (intro W hSW; (try dsimp only at hSW); go_simp; (try with_reducible rfl))
              change wpAnyH _ _ _ _ _ _ _ (Act.put _ (some 44) _) _
              simp only [Act.put, List.setIfInBounds_toArray, List.set_cons_zero, List.set_cons_succ]
              refine wpAnyH_take (i := 5) (v := ?vh1t5) rfl (by kernel_rfl) (by kernel_rfl) (by kernel_rfl) (fun _ _ _ h => h) (Or.inl ⟨by first | kernel_rfl | rfl, ?yh1t5⟩) hHeld ?rh1t5
              case yh1t5 => (intro W hSW; (try dsimp only at hSW); go_simp; (try with_reducible rfl))
              change wpAnyH _ _ _ _ _ _ _ (Act.put _ (some 45) _) _
              simp only [Act.put, List.setIfInBounds_toArray, List.set_cons_zero, List.set_cons_succ]
              refine wpAnyH_take (i := 6) (v := ?vh1t6) rfl (by kernel_rfl) (by kernel_rfl) (by kernel_rfl) (fun _ _ _ h => h) (Or.inl ⟨by first | kernel_rfl | rfl, ?yh1t6⟩) hHeld ?rh1t6
              case yh1t6 => (intro W hSW; (try dsimp only at hSW); go_simp; (try with_reducible rfl))
              change wpAnyH _ _ _ _ _ _ _ (Act.put _ (some 46) _) _
              simp only [Act.put, List.setIfInBounds_toArray, List.set_cons_zero, List.set_cons_succ]
              refine wpAnyH_take (i := 7) (v := ?vh1t7) rfl (by kernel_rfl) (by kernel_rfl) (by kernel_rfl) (fun _ _ _ h => h) (Or.inl ⟨by first | kernel_rfl | rfl, ?yh1t7⟩) hHeld ?rh1t7
              case yh1t7 => (intro W hSW; (try dsimp only at hSW); go_simp; (try with_reducible rfl))
              change wpAnyH _ _ _ _ _ _ _ (Act.put _ (some 47) _) _
              simp only [Act.put, List.setIfInBounds_toArray, List.set_cons_zero, List.set_cons_succ]
              refine wpAnyH_take (i := 8) (v := ?vh1t8) rfl (by kernel_rfl) (by kernel_rfl) (by kernel_rfl) (fun _ _ _ h => h) (Or.inl ⟨by first | kernel_rfl | rfl, ?yh1t8⟩) hHeld ?rh1t8
              case yh1t8 => (intro W hSW; (try dsimp only at hSW); go_simp; (try with_reducible rfl))
              change wpAnyH _ _ _ _ _ _ _ (Act.put _ (some 48) _) _
              simp only [Act.put, List.setIfInBounds_toArray, List.set_cons_zero, List.set_cons_succ]
              refine wpAnyH_take (i := 9) (v := ?vh1t9) rfl (by kernel_rfl) (by kernel_rfl) (by kernel_rfl) (fun _ _ _ h => h) (Or.inl ⟨by first | kernel_rfl | rfl, ?yh1t9⟩) hHeld ?rh1t9
              case yh1t9 => (intro W hSW; (try dsimp only at hSW); go_simp; (try with_reducible rfl))
              change wpAnyH _ _ _ _ _ _ _ (Act.put _ (some 49) _) _
              simp only [Act.put, List.setIfInBounds_toArray, List.set_cons_zero, List.set_cons_succ]
              refine wpAnyH_take (i := 10) (v := ?vh1t10) rfl (by kernel_rfl) (by kernel_rfl) (by kernel_rfl) (fun _ _ _ h => h) (Or.inl ⟨by first | kernel_rfl | rfl, ?yh1t10⟩) hHeld ?rh1t10
              case yh1t10 => (intro W hSW; (try dsimp only at hSW); go_simp; (try with_reducible rfl))
              change wpAnyH _ _ _ _ _ _ _ (Act.put _ (some 50) _) _
              simp only [Act.put, List.setIfInBounds_toArray, List.set_cons_zero, List.set_cons_succ]
              refine wpAnyH_take (i := 11) (v := ?vh1t11) rfl (by kernel_rfl) (by kernel_rfl) (by kernel_rfl) (fun _ _ _ h => h) (Or.inl ⟨by first | kernel_rfl | rfl, ?yh1t11⟩) hHeld ?rh1t11
              case yh1t11 => (intro W hSW; (try dsimp only at hSW); go_simp; (try with_reducible rfl))
              change wpAnyH _ _ _ _ _ _ _ (Act.put _ (some 51) _) _
              simp only [Act.put, List.setIfInBounds_toArray, List.set_cons_zero, List.set_cons_succ]
              refine wpAnyH_take (i := 12) (v := ?vh1t12) rfl (by kernel_rfl) (by kernel_rfl) (by kernel_rfl) (fun _ _ _ h => h) (Or.inl ⟨by first | kernel_rfl | rfl, ?yh1t12⟩) hHeld ?rh1t12
              case yh1t12 => (intro W hSW; (try dsimp only at hSW); go_simp; (try with_reducible rfl))
              change wpAnyH _ _ _ _ _ _ _ (Act.put _ (some 52) _) _
              simp only [Act.put, List.setIfInBounds_toArray, List.set_cons_zero, List.set_cons_succ]
              refine wpAnyH_take (i := 13) (v := ?vh1t13) rfl (by kernel_rfl) (by kernel_rfl) (by kernel_rfl) (fun _ _ _ h => h) (Or.inl ⟨by first | kernel_rfl | rfl, ?yh1t13⟩) hHeld ?rh1t13
              case yh1t13 => (intro W hSW; (try dsimp only at hSW); go_simp; (try with_reducible rfl))
              change wpAnyH _ _ _ _ _ _ _ (Act.put _ (some 53) _) _
              simp only [Act.put, List.setIfInBounds_toArray, List.set_cons_zero, List.set_cons_succ]
              refine wpAnyH_ready (rs := [14]) (by kernel_rfl) (by simp) ?_
              refine AllReadyH.cons rfl (fun K hK => ?_) AllReadyH.nil
              rw [if_pos (by first | rfl | kernel_rfl)]
              go_simp
              refine HFL.mono ?_
              rintro e X ⟨rfl, hX⟩
              have hX4 : Below V4.heap.size V4 X := (Below.refl _ V4).drew.trans hX
              refine hK.out _ _ (HSK.out X hX4) (fun hHeld => ?_)
              clear hK K
              try simp only [Act.put, List.setIfInBounds_toArray, List.set_cons_zero, List.set_cons_succ]
              refine wpAnyH_take (i := 15) (v := ?vh1t15) rfl (by kernel_rfl) (by kernel_rfl) (by kernel_rfl) (fun _ _ _ h => h) (Or.inl ⟨by first | kernel_rfl | rfl, ?yh1t15⟩) hHeld ?rh1t15
              case yh1t15 => (intro W hSW; (try dsimp only at hSW); go_simp; (try with_reducible rfl))
              change wpAnyH _ _ _ _ _ _ _ (Act.put _ (some 55) _) _
              simp only [Act.put, List.setIfInBounds_toArray, List.set_cons_zero, List.set_cons_succ]
              refine wpAnyH_take (i := 16) (v := ?vh1t16) rfl (by kernel_rfl) (by kernel_rfl) (by kernel_rfl) (fun _ _ _ h => h) (Or.inl ⟨by first | kernel_rfl | rfl, ?yh1t16⟩) hHeld ?rh1t16
              case yh1t16 => (intro W hSW; (try dsimp only at hSW); go_simp; (try with_reducible rfl))
              change wpAnyH _ _ _ _ _ _ _ (Act.put _ (some 56) _) _
              simp only [Act.put, List.setIfInBounds_toArray, List.set_cons_zero, List.set_cons_succ]
              refine wpAnyH_take (i := 17) (v := ?vh1t17) rfl (by kernel_rfl) (by kernel_rfl) (by kernel_rfl) (fun _ _ _ h => h) (Or.inl ⟨by first | kernel_rfl | rfl, ?yh1t17⟩) hHeld ?rh1t17
              case yh1t17 => (intro W hSW; (try dsimp only at hSW); go_simp; (try with_reducible rfl))
              change wpAnyH _ _ _ _ _ _ _ (Act.put _ (some 57) _) _
              simp only [Act.put, List.setIfInBounds_toArray, List.set_cons_zero, List.set_cons_succ]
              refine wpAnyH_done (by kernel_rfl) ?_ _
              have HW : Hid (Below wr.heap.size wr X ∧ Pw G X a3 en en es) := ⟨HV4.out.1.trans (hX4.mono HV4.out.1.size), HV4.out.2.1.below hX4⟩
              obtain ⟨q0, q1, q2, s0, s1, s2⟩ := hHeld
              clear hX hX4 HFL
              have hfo : follow (lfs acc) ⟨(page : Int), es⟩ = true := HFO.out
              have HSTEP := HLD.out.step HPZ.out HPZ0x.out (by omega) HPS.out hfo
              have hnl := HSTEP.len
              rw [List.length_append, lfs_len, HAL.out] at hnl
              have hnl1 : ln + 1 ≤ n := by simpa using hnl
              obtain ⟨V5, hV5⟩ : ∃ V5, X.alloc (.cells #[.int .i64 (page : Int), .slice a3 en en, .int .i64 (z : Int)] 85) = V5 := ⟨_, rfl⟩
              have hB5 : Below X.heap.size X V5 := by rw [← hV5]; exact (Below.refl _ X).alloc (Nat.le_refl _) _
              have r5 : V5.heap[X.heap.size]? = some (.cells #[.int .i64 (page : Int), .slice a3 en en, .int .i64 (z : Int)] 85 (0, 0)) := by rw [← hV5]; exact heap_alloc_new X _
              have hBr5 : Below wr.heap.size wr V5 := HW.out.1.trans (hB5.mono HW.out.1.size)
              have hown5 := own_keep HO.out.1 (W' := V5) (fun k hk => hBr5.block k (HO.out.1.lt k hk).2)
              have hB5s : B ≤ V5.heap.size := Nat.le_trans hBwr hBr5.size
              obtain ⟨gA, cA, VA, hrA, hLoA, hlA, hgA⟩ := leaf_add (m := ⟨(page : Int), es, a3⟩) hown5 (HO.out.2.1.below hBr5) hB5s (c := X.heap.size) (by simp only [HV4.out.2.2.1, HV4.out.2.2.2.1]; exact r5) (by simp only [HV4.out.2.2.1]; exact HW.out.2.below hB5) (by omega)
              have hLN : Ld n P (lfs (acc ++ [⟨(page : Int), es, a3⟩])) := by rw [lfs_app]; exact HSTEP
              have HE : Hid (VA.ownsRow B 85 3 (.slice (some ⟨gA, 0, none⟩) (ln + 1) cA) (ln + 1) (mfV (acc ++ [⟨(page : Int), es, a3⟩])) ∧ Ents G VA (acc ++ [⟨(page : Int), es, a3⟩]) ∧ Below B w VA ∧ Ld n P (lfs (acc ++ [⟨(page : Int), es, a3⟩]))) :=
                ⟨by have := hLoA.own; rwa [hlA] at this, hLoA.ent, (HO.out.2.2.trans (hBr5.mono hBwr)).grown hgA hB5s (fun k hk => (hown5.lt k (by rw [ob_slice]; exact hk)).1), hLN⟩
              have HNEXT : Hid ((if nx = 0 then some (lfs acc ++ [⟨(page : Int), es⟩]) else loadG n P f nx (lfs acc ++ [⟨(page : Int), es⟩])) = R) := by
                have := HLG3.out
                rw [if_pos hfo] at this
                exact this
              clear HSTEP hnl hB5 r5 hBr5 hown5 hB5s hLoA hlA hgA hLN hfo
              go_wp2_with (at_builtin; refine wpList_app V5 rfl _ _ _ _ rfl rfl rfl (hrA _) ?_)
              refine ⟨⟨some ⟨gA, 0, none⟩, ln + 1, cA, nx, acc ++ [⟨(page : Int), es, a3⟩], rfl, by first | rfl | (congr 1; done), HE.out.1, HE.out.2.1, HE.out.2.2.2, hnxb, ?_, HE.out.2.2.1⟩, by simp only [slLen]; omega⟩
              have e1 : lfs (acc ++ [(⟨(page : Int), es, a3⟩ : Mf)]) = lfs acc ++ [⟨(page : Int), es⟩] := by rw [lfs_app]; rfl
              have hnn := HNEXT.out
              by_cases hn0 : nx = 0
              · rw [if_neg (fun h => h.elim (fun e => by simp at e) (fun e => e hn0)), e1]
                rw [if_pos hn0] at hnn
                exact hnn.symm
              · rw [if_pos (.inr hn0), e1]
                rw [if_neg hn0] at hnn
                refine ⟨fun e => by simp at e, f, ?_, hnn⟩
                have := HFF.out
                rw [List.length_append, HAL.out]
                rw [HAL.out] at this
                simp
                omega
    · have hne : ¬ acc = [] := fun e => hgo (.inl e)
      have hp0 : page = 0 := Classical.byContradiction fun e => hgo (.inr e)
      rw [if_neg hgo] at hst
      have HRR : Hid (R = some (lfs acc)) := hst
      have hz : ((ln : Int) == 0) = false := by
        have : ¬ ln = 0 := fun e => hne (List.eq_nil_of_length_eq_zero (by rw [hal]; exact e))
        simpa using this
      subst hp0
      clear hown hent hld hst hbel hgo hne hal
      go_wp2
      go_ret2
      exact ⟨.inl ⟨la, ln, lc, acc, HRR.out, HAL.out, rfl, Rw.own HO.out.1 HG.out, HO.out.2.1⟩, HO.out.2.2⟩
end Go.Proofs.YtnafalkcgghjgaaGreatDoor
