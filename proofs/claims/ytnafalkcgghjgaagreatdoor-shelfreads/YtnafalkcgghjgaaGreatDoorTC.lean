/- Walks over a table's changes, Commit and Abort. -/
import Derived.Test.YtnafalkcgghjgaaGreatDoorTB
import Derived.Test.YtnafalkcgghjgaaGreatDoorTF
namespace Go.Proofs.YtnafalkcgghjgaaGreatDoor
open Go.RowKit Go.Shelf
/-- The disk below a table has turned. -/
theorem Tab.turn {h0 : Nat} {F : Nat → Prop} {w w' : World} {S S' : Nat → Prop} {g : Nat} {D D' : Dk} {sb jb n : Nat} {L K : List Mf} (h : Tab h0 F w S g D sb jb n L K) (hd : DiskIs w' S' g D') (hu : Upd S w w') (hs : ∀ x, S' x → S x ∨ w.heap.size ≤ x) :
    Tab h0 F w' S' g D' sb jb n L K ∧ Fr F w F w' ∧ Below h0 w w' := by
  have hf : Fr F w F w' := ⟨hu.size, fun _ h => h, fun x hx hl => hu.block x hl (h.fF x hx).1⟩
  obtain ⟨al, cl, ag, cg, h1, h2, h3⟩ := h.sat
  have hout : ∀ x, ¬ S x → x < w.heap.size → ¬ S' x := fun x hx hl hs' => (hs x hs').elim hx (fun k => by omega)
  refine ⟨{ h with disk := hd, jat := h.jat.upd hu h.sj, sat := ⟨al, cl, ag, cg, h1.upd hu h.ss, h2.fr hf, h3.fr hf⟩, sj := hout jb h.sj h.jat.lt, ss := hout sb h.ss h1.lt, fF := fun x hx => ?_, h0S := fun x hx => ?_, h0w := Nat.le_trans h.h0w hu.size }, hf, hu.below h.h0w h.h0S⟩
  · obtain ⟨k1, k2, k3, k4⟩ := h.fF x hx
    exact ⟨hout x k1 k4, k2, k3, Nat.lt_of_lt_of_le k4 hu.size⟩
  · rcases hs x hx with k | k
    · exact h.h0S x k
    · exact Nat.le_trans h.h0w k
/-- The good leaves are those that are there. -/
theorem Tab.good {h0 : Nat} {F : Nat → Prop} {w : World} {S : Nat → Prop} {g : Nat} {D : Dk} {sb jb n : Nat} {L K : List Mf} (h : Tab h0 F w S g D sb jb n L K) {al : Option Addr} {cl : Nat} {ag : Option Addr} {cg : Nat} (hsat : Sat w sb jb al L.length cl ag K.length cg) (hL : Lw F w al L.length cl L) :
    Tab h0 F (w.setCell ⟨sb, 2, none⟩ (.slice al L.length cl)) S g D sb jb n L L ∧ Fr F w F (w.setCell ⟨sb, 2, none⟩ (.slice al L.length cl)) ∧ Below h0 w (w.setCell ⟨sb, 2, none⟩ (.slice al L.length cl)) := by
  have hsz : (w.setCell ⟨sb, 2, none⟩ (.slice al L.length cl)).heap.size = w.heap.size := by simp
  have hoth : ∀ k, k ≠ sb → (w.setCell ⟨sb, 2, none⟩ (.slice al L.length cl)).heap[k]? = w.heap[k]? := fun k hk => Below.heap_setCell _ _ _ _ hk
  have hf : Fr F w F (w.setCell ⟨sb, 2, none⟩ (.slice al L.length cl)) := ⟨by omega, fun _ h => h, fun x hx _ => hoth x (h.fF x hx).2.1⟩
  refine ⟨{ h with disk := h.disk.keep (fun x hx => hoth x (fun e => h.ss (by rw [← e]; exact hx))), jat := (hoth jb (fun e => h.sbj e.symm)).trans h.jat, sat := ⟨al, cl, al, cl, ?_, hL.fr hf, hL.fr hf⟩, shK := h.shL, fF := fun x hx => by have := h.fF x hx; exact ⟨this.1, this.2.1, this.2.2.1, by omega⟩, h0w := by rw [hsz]; exact h.h0w }, hf, (Below.refl _ w).setCell h.h0s _⟩
  unfold Sat
  rw [heap_setCell_same _ _ _ _ _ _ hsat]
  rfl
/-- The leaves are the good ones again. -/
theorem Tab.back {h0 : Nat} {F : Nat → Prop} {w : World} {S : Nat → Prop} {g : Nat} {D : Dk} {sb jb n : Nat} {L K : List Mf} (h : Tab h0 F w S g D sb jb n L K) {al : Option Addr} {cl : Nat} {ag : Option Addr} {cg : Nat} (hsat : Sat w sb jb al L.length cl ag K.length cg) (hK : Lw F w ag K.length cg K) :
    Tab h0 F (w.setCell ⟨sb, 1, none⟩ (.slice ag K.length cg)) S g D sb jb n K K ∧ Fr F w F (w.setCell ⟨sb, 1, none⟩ (.slice ag K.length cg)) ∧ Below h0 w (w.setCell ⟨sb, 1, none⟩ (.slice ag K.length cg)) := by
  have hsz : (w.setCell ⟨sb, 1, none⟩ (.slice ag K.length cg)).heap.size = w.heap.size := by simp
  have hoth : ∀ k, k ≠ sb → (w.setCell ⟨sb, 1, none⟩ (.slice ag K.length cg)).heap[k]? = w.heap[k]? := fun k hk => Below.heap_setCell _ _ _ _ hk
  have hf : Fr F w F (w.setCell ⟨sb, 1, none⟩ (.slice ag K.length cg)) := ⟨by omega, fun _ h => h, fun x hx _ => hoth x (h.fF x hx).2.1⟩
  refine ⟨{ h with disk := h.disk.keep (fun x hx => hoth x (fun e => h.ss (by rw [← e]; exact hx))), jat := (hoth jb (fun e => h.sbj e.symm)).trans h.jat, sat := ⟨ag, cg, ag, cg, ?_, hK.fr hf, hK.fr hf⟩, shL := h.shK, fF := fun x hx => by have := h.fF x hx; exact ⟨this.1, this.2.1, this.2.2.1, by omega⟩, h0w := by rw [hsz]; exact h.h0w }, hf, (Below.refl _ w).setCell h.h0s _⟩
  unfold Sat
  rw [heap_setCell_same _ _ _ _ _ _ hsat]
  rfl
theorem infoCh : (Tryz.prog.info? 69).map (fun i => (i.zero, i.size, i.bytes)) = some (some (.agg #[.int .i64 0, .string ByteArray.empty]), 2, 24) := by kernel_rfl
theorem chiV_app (a b : List Chi) : chiV (a ++ b) = chiV a ++ chiV b := by simp [chiV]
theorem addC_own {G2 : Nat → Prop} (w : World) {base : Nat} {a : Option Addr} {n c : Nat} {l : List Chi} (h : w.ownsRow base 69 2 (.slice a n c) n (chiV l)) {a2 : Option Addr} {m c2 : Nat} {k : List Chi} (h2 : Rw G2 w 69 2 a2 m c2 (chiV k)) (hN : n + m ≤ 1000000) (hb : base ≤ w.heap.size) :
    ∃ a' c' w', (∀ ty, (Builtin.append_ #[66, 66] ty #[.slice a n c, .slice a2 m c2]).run Tryz.prog w = .ok (.slice a' (n + m) c') w') ∧ w'.ownsRow base 69 2 (.slice a' (n + m) c') (n + m) (chiV (l ++ k)) ∧ w.grownBy w' (ob a) ∧ (ob a' = ob a ∨ ob a' = some w.heap.size) := by
  obtain ⟨i, hi, hz, hs, hbb⟩ := info_of infoCh
  rw [chiV_app]
  exact app_own w 66 69 i _ 2 24 Tryz.underlying66 hi hz hs hbb rfl (by omega) h h2 (chiV_one k) hN (by omega) hb
theorem chRow {w : World} {c : Nat} {p : Int} {v : ByteArray} (h : w.heap[c]? = some (.cells #[.int .i64 p, .string v] 69 (0, 0))) : Rw (fun _ => True) w 69 2 (some ⟨c, 0, none⟩) 1 1 (chiV [(p, v)]) := by
  refine ⟨rfl, Nat.le_refl _, by unfold maxLen; omega, fun _ => ⟨c, 0, rfl, ⟨_, _, h⟩, trivial, fun j u hu => ?_⟩⟩
  rw [Nat.zero_add, cell_of_row _ c _ _ _ _ h]
  simpa [chiV] using hu
theorem nextOf_at {L : List Lf} {i : Nat} {y : Lf} (h : L[i + 1]? = some y) : nextOf L i = y.page.toNat := by unfold nextOf; rw [h]
theorem nextOf_end {L : List Lf} {i : Nat} (h : L.length ≤ i + 1) : nextOf L i = 0 := by unfold nextOf; rw [List.getElem?_eq_none h]
set_option maxRecDepth 100000 in
set_option maxHeartbeats 8000000 in
theorem changes_any {h0 : Nat} {F : Nat → Prop} {w : World} {S : Nat → Prop} {g : Nat} {D : Dk} {sb jb n : Nat} {L K : List Mf} (h : Tab h0 F w S g D sb jb n L K) (hkn : 8 * n + 1 ≤ D.kept.length) (hu : D.up = true) (hsz : ∀ s ∈ D.seen, s.size = 256) :
    Calls Tryz.prog 42 #[.pointer (some ⟨sb, 0, none⟩)] w fun e w' => ∃ (ra : Option Addr) (rn rc : Nat), e = .returned (.tuple #[.slice ra rn rc, .int .i64 0]) ∧ w'.ownsRow w.heap.size 69 2 (.slice ra rn rc) rn (chiV (chU (pagesF n D) (lfs L) L.length)) ∧ Below w.heap.size w w' := by
  obtain ⟨al, cl, ag, cg, hs, hL, hK⟩ := h.sat
  have hlen := h.len
  have hn12 := h.n12
  have HSH : Hid (Shape n (lfs L)) := h.shL
  have HRDA : Hid (∀ (W : World) (p : Nat), Below w.heap.size w W → p < n → Calls Tryz.prog 71 #[.pointer (some ⟨jb, 0, none⟩), .int .i64 (p : Int)] W fun e w' => e = .returned (.tuple #[.string (pagesF n D p), .int .i64 0]) ∧ Below W.heap.size W w') := fun W p hW hp => jread_any (h.disk.below hW) (h.jat.below hW) (by omega) hkn hu hsz p hp
  obtain ⟨P, hP⟩ : ∃ P, pagesF n D = P := ⟨_, rfl⟩
  rw [hP] at HRDA ⊢
  obtain ⟨nl, hnl⟩ : ∃ nl, L.length = nl := ⟨_, rfl⟩
  have HNL : Hid (L.length = nl) := hnl
  rw [hnl] at hlen hL hs ⊢
  have HL : Hid (∀ W, Below w.heap.size w W → Lw F W al nl cl L ∧ Sat W sb jb al nl cl ag K.length cg) := fun W hW => ⟨hL.below hW, hs.below hW⟩
  have hcl : nl ≤ cl := hL.1.2.1
  have hclm : cl ≤ 9223372036854775807 := by have := hL.1.2.2.1; unfold maxLen at this; omega
  obtain ⟨B, hB⟩ : ∃ B, w.heap.size = B := ⟨_, rfl⟩
  obtain ⟨s0, s1, s2⟩ := hs.cells
  rw [hB] at HL HRDA ⊢
  clear h hL hK hnl hP hkn hu hsz hs
  go_enter Tryz.func42, Tryz.ntmps42
  go_wp2
  clear s0 s1 s2
  go_loopw [4, 16] (fun vl vi wr => ∃ (i ln lc : Nat) (la : Option Addr), i ≤ nl ∧ vi = .int .i64 i ∧ vl = .slice la ln lc ∧ wr.ownsRow B 69 2 (.slice la ln lc) ln (chiV (chU P (lfs L) i)) ∧ Below B w wr) (fun _ vi _ => nl - (intOf vi).toNat)
  case atStart => exact ⟨0, 0, 0, none, by omega, rfl, rfl, World.ownsRow_nil _ _ _ _, by rw [← hB]; exact Below.refl _ _⟩
  case round =>
    obtain ⟨i, ln, lc, la, hi, rfl, rfl, hown, hbw⟩ := hrel
    have hln : ln ≤ 12 := by
      have h1 := hown.1
      rw [chiV_len] at h1
      have := chU_len P (lfs L) i
      omega
    by_cases hlt : i < nl
    · have kk : (i : Int) < (nl : Int) := by omega
      obtain ⟨hLw, hsw⟩ := HL.out wr hbw
      obtain ⟨lb, lo, rfl, hlb, _, hc⟩ := hLw.at (by omega)
      obtain ⟨m, hm⟩ : ∃ m, L[i]? = some m := ⟨_, List.getElem?_eq_getElem (by have := HNL.out; omega)⟩
      obtain ⟨d1, d2, d3⟩ := hc i m hm
      have hml := lfs_at hm
      have hpos := HSH.out.pos m.lf (List.mem_of_getElem? hml)
      have hpgn := (HSH.out.pg m.lf (List.mem_of_getElem? hml)).2
      have hmpg : m.lf.page = m.page := rfl
      rw [hmpg] at hpos hpgn
      obtain ⟨pg, hpg⟩ : ∃ pg : Nat, m.page = (pg : Int) := Int.eq_ofNat_of_zero_le hpos
      rw [hpg] at d1 hpgn
      have hpgn2 : pg < n := by omega
      have hmz := HSH.out.sz m.lf (List.mem_of_getElem? hml)
      have hmy := (Shape.leaf HSH.out.toPre hml).2
      have HM : Hid (Pw F wr m.a m.es.length m.es.length m.es ∧ szL m.es ≤ 1023 ∧ ∀ p ∈ m.es, May p) := ⟨hLw.2 m (List.mem_of_getElem? hm), hmz, hmy⟩
      obtain ⟨xb, hxb⟩ : ∃ xb, wr.heap.size = xb := ⟨_, rfl⟩
      obtain ⟨V1, hV1⟩ : ∃ V1, wr.alloc (.cells #[.int .i64 (pg : Int), .slice m.a m.es.length m.es.length, .int .i64 (szL m.es : Int)] 85) = V1 := ⟨_, rfl⟩
      have hB1 : Below wr.heap.size wr V1 := by rw [← hV1]; exact (Below.refl _ wr).alloc (Nat.le_refl _) _
      have r1 : V1.heap[xb]? = some (.cells #[.int .i64 (pg : Int), .slice m.a m.es.length m.es.length, .int .i64 (szL m.es : Int)] 85 (0, 0)) := by rw [← hV1, ← hxb]; exact heap_alloc_new wr _
      have hxl : xb < V1.heap.size := lt_of_some r1
      have hBw : B ≤ wr.heap.size := by rw [← hB]; exact hbw.size
      have hbv1 : Below B w V1 := hbw.trans (hB1.mono hBw)
      obtain ⟨q0, q1, q2⟩ := (HL.out V1 hbv1).2.cells
      have HOW : Hid (V1.ownsRow B 69 2 (.slice la ln lc) ln (chiV (chU P (lfs L) i)) ∧ Below B w V1 ∧ B ≤ V1.heap.size) := ⟨own_keep hown (fun z hz => hB1.block z (hown.lt z hz).2), hbv1, Nat.le_trans hBw hB1.size⟩
      have HXC : Hid (∀ W, Below V1.heap.size V1 W → W.cell? ⟨xb, 0, none⟩ = some (.int .i64 (pg : Int)) ∧ W.cell? ⟨xb, 1, none⟩ = some (.slice m.a m.es.length m.es.length) ∧ W.cell? ⟨xb, 2, none⟩ = some (.int .i64 (szL m.es : Int))) := fun W hW =>
        ⟨by rw [hW.cell hxl, cell_of_row _ _ _ _ _ _ r1]; rfl, by rw [hW.cell hxl, cell_of_row _ _ _ _ _ _ r1]; rfl, by rw [hW.cell hxl, cell_of_row _ _ _ _ _ _ r1]; rfl⟩
      have HSC : Hid (∀ W, Below V1.heap.size V1 W → W.cell? ⟨sb, 0, none⟩ = some (.pointer (some ⟨jb, 0, none⟩)) ∧ W.cell? ⟨xb, 0, none⟩ = some (.int .i64 (pg : Int))) := fun W hW =>
        ⟨((HL.out W (hbv1.trans (hW.mono (Nat.le_trans hBw hB1.size)))).2.cells).1, (HXC.out W hW).1⟩
      have HRD : Hid (Calls Tryz.prog 71 #[.pointer (some ⟨jb, 0, none⟩), .int .i64 (pg : Int)] V1.drew fun e w' => e = .returned (.tuple #[.string (P pg), .int .i64 0]) ∧ Below V1.drew.heap.size V1.drew w') := HRDA.out _ pg hbv1.drew hpgn2
      have HMV : Hid (∀ W, Below V1.heap.size V1 W → Pw F W m.a m.es.length m.es.length m.es) := fun W hW => (HM.out.1.below hB1).below hW
      have HTX : Hid (∀ (W : World) (nx : Nat), Below V1.heap.size V1 W → nx < 256 → Calls Tryz.prog 72 #[.agg #[.int .i64 (pg : Int), .slice m.a m.es.length m.es.length, .int .i64 (szL m.es : Int)], .int .i64 (nx : Int)] W fun e w' => e = .returned (.string (bytesOf (pageText ⟨(pg : Int), m.es⟩ nx))) ∧ Below W.heap.size W w') := fun W nx hW hn => text_any (pg : Int) m.a m.es.length nx m.es (HMV.out W hW) HM.out.2.1 HM.out.2.2 hn
      have HLF : Hid ((lfs L)[i]? = some ⟨(pg : Int), m.es⟩) := by show _ = _; rw [hml]; unfold Mf.lf; rw [hpg]
      have HC1 : Hid (∀ j m', L[j]? = some m' → V1.cell? ⟨lb, lo + j * 3, none⟩ = some (.int .i64 m'.page)) := fun j m' hj => by
        rw [hB1.cell hlb]; exact (hc j m' hj).1
      obtain ⟨ma, hma⟩ : ∃ x, m.a = x := ⟨_, rfl⟩
      obtain ⟨k, hk⟩ : ∃ x, m.es.length = x := ⟨_, rfl⟩
      obtain ⟨z, hz⟩ : ∃ x, szL m.es = x := ⟨_, rfl⟩
      rw [hma, hk] at d2
      rw [hz] at d3
      rw [hma, hk, hz] at hV1 HTX HXC
      clear hown hbw hLw hsw hc hm hml hpos hmpg hpg hmz hmy HM hB1 r1 hbv1 HMV hma hk hz
      by_cases hnx : i + 1 < nl
      · have knx : (i : Int) + 1 < (nl : Int) := by omega
        obtain ⟨m2, hm2⟩ : ∃ m2, L[i + 1]? = some m2 := ⟨_, List.getElem?_eq_getElem (by have := HNL.out; omega)⟩
        have hml2 := lfs_at hm2
        have c2 := HC1.out (i + 1) m2 hm2
        have hpos2 := HSH.out.pos m2.lf (List.mem_of_getElem? hml2)
        have hmp2 : m2.lf.page = m2.page := rfl
        rw [hmp2] at hpos2
        obtain ⟨nx, hnxe⟩ : ∃ nx : Nat, m2.page = (nx : Int) := Int.eq_ofNat_of_zero_le hpos2
        rw [hnxe] at c2
        have hno : nextOf (lfs L) i = nx := by rw [nextOf_at hml2, hmp2, hnxe]; rfl
        have hnl : nx < 256 := by rw [← hno]; exact nextOf_lt HSH.out (by omega) i
        obtain ⟨i1, hi1⟩ : ∃ i1, i + 1 = i1 := ⟨_, rfl⟩
        have ki1 : (i : Int) + 1 = (i1 : Int) := by omega
        have ki2 : (i1 : Int) < (nl : Int) := by omega
        rw [hi1] at c2
        have HTXT : Hid (pgT (lfs L) i ⟨(pg : Int), m.es⟩ = bytesOf (pageText ⟨(pg : Int), m.es⟩ nx)) := by show _ = _; unfold pgT; rw [hno]
        have HI1 : Hid (i + 1 = i1) := hi1
        clear hm2 hml2 hpos2 hmp2 hnxe hno hi1 hnx knx
        go_wp2
        refine wp_region_held_drew (S := fun V => V.cell? ⟨sb, 0, none⟩ = some (.pointer (some ⟨jb, 0, none⟩)) ∧ V.cell? ⟨xb, 0, none⟩ = some (.int .i64 (pg : Int))) (by kernel_rfl) (HSC.out _ (Below.refl _ V1).drew) (fun hHeld => ?_)
        refine wpAnyH_take (i := 0) (v := ?vm00) rfl (by kernel_rfl) (by kernel_rfl) (by kernel_rfl) (fun _ _ _ h => h) (Or.inl ⟨by first | kernel_rfl | rfl, ?ym00⟩) hHeld ?rm00
        case ym00 => (intro W hSW; (try dsimp only at hSW); go_simp; (try with_reducible rfl))
        change wpAnyH _ _ _ _ _ _ _ (Act.put _ (some 39) _) _
        simp only [Act.put, List.setIfInBounds_toArray, List.set_cons_zero, List.set_cons_succ]
        refine wpAnyH_take (i := 1) (v := ?vm01) rfl (by kernel_rfl) (by kernel_rfl) (by kernel_rfl) (fun _ _ _ h => h) (Or.inl ⟨by first | kernel_rfl | rfl, ?ym01⟩) hHeld ?rm01
        case ym01 => (intro W hSW; (try dsimp only at hSW); go_simp; (try with_reducible rfl))
        change wpAnyH _ _ _ _ _ _ _ (Act.put _ (some 40) _) _
        simp only [Act.put, List.setIfInBounds_toArray, List.set_cons_zero, List.set_cons_succ]
        refine wpAnyH_take (i := 2) (v := ?vm02) rfl (by kernel_rfl) (by kernel_rfl) (by kernel_rfl) (fun _ _ _ h => h) (Or.inl ⟨by first | kernel_rfl | rfl, ?ym02⟩) hHeld ?rm02
        case ym02 => (intro W hSW; (try dsimp only at hSW); go_simp; (try with_reducible rfl))
        change wpAnyH _ _ _ _ _ _ _ (Act.put _ (some 41) _) _
        simp only [Act.put, List.setIfInBounds_toArray, List.set_cons_zero, List.set_cons_succ]
        refine wpAnyH_take (i := 3) (v := ?vm03) rfl (by kernel_rfl) (by kernel_rfl) (by kernel_rfl) (fun _ _ _ h => h) (Or.inl ⟨by first | kernel_rfl | rfl, ?ym03⟩) hHeld ?rm03
        case ym03 => (intro W hSW; (try dsimp only at hSW); go_simp; (try with_reducible rfl))
        change wpAnyH _ _ _ _ _ _ _ (Act.put _ (some 42) _) _
        simp only [Act.put, List.setIfInBounds_toArray, List.set_cons_zero, List.set_cons_succ]
        refine wpAnyH_take (i := 4) (v := ?vm04) rfl (by kernel_rfl) (by kernel_rfl) (by kernel_rfl) (fun _ _ _ h => h) (Or.inl ⟨by first | kernel_rfl | rfl, ?ym04⟩) hHeld ?rm04
        case ym04 => (intro W hSW; (try dsimp only at hSW); go_simp; (try with_reducible rfl))
        change wpAnyH _ _ _ _ _ _ _ (Act.put _ (some 43) _) _
        simp only [Act.put, List.setIfInBounds_toArray, List.set_cons_zero, List.set_cons_succ]
        refine wpAnyH_take (i := 5) (v := ?vm05) rfl (by kernel_rfl) (by kernel_rfl) (by kernel_rfl) (fun _ _ _ h => h) (Or.inl ⟨by first | kernel_rfl | rfl, ?ym05⟩) hHeld ?rm05
        case ym05 => (intro W hSW; (try dsimp only at hSW); go_simp; (try with_reducible rfl))
        change wpAnyH _ _ _ _ _ _ _ (Act.put _ (some 44) _) _
        simp only [Act.put, List.setIfInBounds_toArray, List.set_cons_zero, List.set_cons_succ]
        refine wpAnyH_ready (rs := [6]) (by kernel_rfl) (by simp) ?_
        refine AllReadyH.cons rfl (fun K hK => ?_) AllReadyH.nil
        go_simp
        refine (HRD.out).mono ?_
        rintro e V2 ⟨rfl, hb2⟩; have HB2 : Hid (Below V1.heap.size V1 V2) := (Below.refl _ V1).drew.trans hb2; clear hb2
        refine hK.out _ _ (HSC.out _ HB2.out) (fun hHeld => ?_)
        clear hK K
        try simp only [Act.put, List.setIfInBounds_toArray, List.set_cons_zero, List.set_cons_succ]
        refine wpAnyH_take (i := 7) (v := ?vm07) rfl (by kernel_rfl) (by kernel_rfl) (by kernel_rfl) (fun _ _ _ h => h) (Or.inl ⟨by first | kernel_rfl | rfl, ?ym07⟩) hHeld ?rm07
        case ym07 => (intro W hSW; (try dsimp only at hSW); go_simp; (try with_reducible rfl))
        change wpAnyH _ _ _ _ _ _ _ (Act.put _ (some 38) _) _
        simp only [Act.put, List.setIfInBounds_toArray, List.set_cons_zero, List.set_cons_succ]
        refine wpAnyH_take (i := 8) (v := ?vm08) rfl (by kernel_rfl) (by kernel_rfl) (by kernel_rfl) (fun _ _ _ h => h) (Or.inl ⟨by first | kernel_rfl | rfl, ?ym08⟩) hHeld ?rm08
        case ym08 => (intro W hSW; (try dsimp only at hSW); go_simp; (try with_reducible rfl))
        change wpAnyH _ _ _ _ _ _ _ (Act.put _ (some 46) _) _
        simp only [Act.put, List.setIfInBounds_toArray, List.set_cons_zero, List.set_cons_succ]
        refine wpAnyH_take (i := 9) (v := ?vm09) rfl (by kernel_rfl) (by kernel_rfl) (by kernel_rfl) (fun _ _ _ h => h) (Or.inl ⟨by first | kernel_rfl | rfl, ?ym09⟩) hHeld ?rm09
        case ym09 => (intro W hSW; (try dsimp only at hSW); go_simp; (try with_reducible rfl))
        change wpAnyH _ _ _ _ _ _ _ (Act.put _ (some 47) _) _
        simp only [Act.put, List.setIfInBounds_toArray, List.set_cons_zero, List.set_cons_succ]
        refine wpAnyH_take (i := 10) (v := ?vm010) rfl (by kernel_rfl) (by kernel_rfl) (by kernel_rfl) (fun _ _ _ h => h) (Or.inl ⟨by first | kernel_rfl | rfl, ?ym010⟩) hHeld ?rm010
        case ym010 => (intro W hSW; (try dsimp only at hSW); go_simp; (try with_reducible rfl))
        change wpAnyH _ _ _ _ _ _ _ (Act.put _ (some 8) _) _
        simp only [Act.put, List.setIfInBounds_toArray, List.set_cons_zero, List.set_cons_succ]
        refine wpAnyH_take (i := 11) (v := ?vm011) rfl (by kernel_rfl) (by kernel_rfl) (by kernel_rfl) (fun _ _ _ h => h) (Or.inl ⟨by first | kernel_rfl | rfl, ?ym011⟩) hHeld ?rm011
        case ym011 => (intro W hSW; (try dsimp only at hSW); go_simp; (try with_reducible rfl))
        change wpAnyH _ _ _ _ _ _ _ (Act.put _ (some 9) _) _
        simp only [Act.put, List.setIfInBounds_toArray, List.set_cons_zero, List.set_cons_succ]
        refine wpAnyH_done (by kernel_rfl) ?_ _
        obtain ⟨x0, x1, x2⟩ := HXC.out V2 HB2.out
        have HT := HTX.out V2 nx HB2.out hnl
        obtain ⟨T, hT⟩ : ∃ T, bytesOf (pageText ⟨(pg : Int), m.es⟩ nx) = T := ⟨_, rfl⟩
        rw [hT] at HT HTXT
        clear hHeld HRD HTX q0 q1 q2 c2 hT d1 d2 d3
        go_wp2_with fail
        refine HT.mono ?_
        rintro e V3 ⟨rfl, hb3⟩
        have hb13 : Below V1.heap.size V1 V3 := HB2.out.trans (hb3.mono HB2.out.size)
        obtain ⟨y0, y1, y2⟩ := HXC.out V3 hb13
        have hbw3 : Below B w V3 := HOW.out.2.1.trans (hb13.mono HOW.out.2.2)
        have hBV3 : B ≤ V3.heap.size := Nat.le_trans HOW.out.2.2 hb13.size
        have HO3 : Hid (V3.ownsRow B 69 2 (.slice la ln lc) ln (chiV (chU P (lfs L) i)) ∧ Below B w V3 ∧ B ≤ V3.heap.size) := ⟨own_keep HOW.out.1 (fun z hz => hb13.block z (HOW.out.1.lt z hz).2), hbw3, hBV3⟩
        clear HT hb3 hb13 x0 x1 x2 HOW hbw3 hBV3
        obtain ⟨old, hold⟩ : ∃ old, P pg = old := ⟨_, rfl⟩
        have HOLD : Hid (P pg = old) := hold
        rw [hold]
        clear hold
        by_cases he : T = old
        · have hbe : (T.toList == old.toList) = true := by rw [he]; simp
          have HS : Hid (chU P (lfs L) (i + 1) = chU P (lfs L) i) := chU_same HLF.out (by rw [HTXT.out, he]; exact HOLD.out.symm)
          clear he
          go_wp2
          exact ⟨⟨i + 1, ln, lc, la, by omega, by go_num, rfl, by rw [HS.out]; exact HO3.out.1, HO3.out.2.1⟩, by simp [intOf]; omega⟩
        · have hbe : (T.toList == old.toList) = false := str_nb he
          have HS : Hid (chU P (lfs L) (i + 1) = chU P (lfs L) i ++ [((pg : Int), T)]) := by
            show _ = _
            have := chU_new (P := P) HLF.out (by rw [HTXT.out]; intro e; exact he (e.trans HOLD.out))
            rw [HTXT.out] at this
            exact this
          clear he
          obtain ⟨V4, hV4⟩ : ∃ V4, V3.alloc (.cells #[.int .i64 (pg : Int), .string T] 69) = V4 := ⟨_, rfl⟩
          have hB4 : Below V3.heap.size V3 V4 := by rw [← hV4]; exact (Below.refl _ V3).alloc (Nat.le_refl _) _
          have r4 : V4.heap[V3.heap.size]? = some (.cells #[.int .i64 (pg : Int), .string T] 69 (0, 0)) := by rw [← hV4]; exact heap_alloc_new V3 _
          have ho4 := own_keep HO3.out.1 (W' := V4) (fun z hz => hB4.block z (HO3.out.1.lt z hz).2)
          obtain ⟨aA, cA, VA, hrA, hoA, hgA, _⟩ := addC_own V4 ho4 (chRow r4) (by omega) (Nat.le_trans HO3.out.2.2 hB4.size)
          have HE : Hid (VA.ownsRow B 69 2 (.slice aA (ln + 1) cA) (ln + 1) (chiV (chU P (lfs L) i ++ [((pg : Int), T)])) ∧ Below B w VA) :=
            ⟨hoA, (HO3.out.2.1.trans (hB4.mono HO3.out.2.2)).grown hgA (Nat.le_trans HO3.out.2.2 hB4.size) (fun z hz => (ho4.lt z (by rw [ob_slice]; exact hz)).1)⟩
          clear hB4 r4 ho4 hoA hgA
          go_wp2_with (at_builtin; refine wpList_app V4 rfl _ _ _ _ rfl rfl rfl (hrA _) ?_)
          exact ⟨⟨i + 1, ln + 1, cA, aA, by omega, by go_num, rfl, by rw [HS.out]; exact HE.out.1, HE.out.2⟩, by simp [intOf]; omega⟩
      · have knx : ¬ (i : Int) + 1 < (nl : Int) := by omega
        have hno : nextOf (lfs L) i = 0 := nextOf_end (by rw [lfs_len]; have := HNL.out; omega)
        have HTXT : Hid (pgT (lfs L) i ⟨(pg : Int), m.es⟩ = bytesOf (pageText ⟨(pg : Int), m.es⟩ 0)) := by show _ = _; unfold pgT; rw [hno]
        clear hno
        go_wp2
        refine wp_region_held_drew (S := fun V => V.cell? ⟨sb, 0, none⟩ = some (.pointer (some ⟨jb, 0, none⟩)) ∧ V.cell? ⟨xb, 0, none⟩ = some (.int .i64 (pg : Int))) (by kernel_rfl) (HSC.out _ (Below.refl _ V1).drew) (fun hHeld => ?_)
        refine wpAnyH_take (i := 0) (v := ?vm10) rfl (by kernel_rfl) (by kernel_rfl) (by kernel_rfl) (fun _ _ _ h => h) (Or.inl ⟨by first | kernel_rfl | rfl, ?ym10⟩) hHeld ?rm10
        case ym10 => (intro W hSW; (try dsimp only at hSW); go_simp; (try with_reducible rfl))
        change wpAnyH _ _ _ _ _ _ _ (Act.put _ (some 39) _) _
        simp only [Act.put, List.setIfInBounds_toArray, List.set_cons_zero, List.set_cons_succ]
        refine wpAnyH_take (i := 1) (v := ?vm11) rfl (by kernel_rfl) (by kernel_rfl) (by kernel_rfl) (fun _ _ _ h => h) (Or.inl ⟨by first | kernel_rfl | rfl, ?ym11⟩) hHeld ?rm11
        case ym11 => (intro W hSW; (try dsimp only at hSW); go_simp; (try with_reducible rfl))
        change wpAnyH _ _ _ _ _ _ _ (Act.put _ (some 40) _) _
        simp only [Act.put, List.setIfInBounds_toArray, List.set_cons_zero, List.set_cons_succ]
        refine wpAnyH_take (i := 2) (v := ?vm12) rfl (by kernel_rfl) (by kernel_rfl) (by kernel_rfl) (fun _ _ _ h => h) (Or.inl ⟨by first | kernel_rfl | rfl, ?ym12⟩) hHeld ?rm12
        case ym12 => (intro W hSW; (try dsimp only at hSW); go_simp; (try with_reducible rfl))
        change wpAnyH _ _ _ _ _ _ _ (Act.put _ (some 41) _) _
        simp only [Act.put, List.setIfInBounds_toArray, List.set_cons_zero, List.set_cons_succ]
        refine wpAnyH_take (i := 3) (v := ?vm13) rfl (by kernel_rfl) (by kernel_rfl) (by kernel_rfl) (fun _ _ _ h => h) (Or.inl ⟨by first | kernel_rfl | rfl, ?ym13⟩) hHeld ?rm13
        case ym13 => (intro W hSW; (try dsimp only at hSW); go_simp; (try with_reducible rfl))
        change wpAnyH _ _ _ _ _ _ _ (Act.put _ (some 42) _) _
        simp only [Act.put, List.setIfInBounds_toArray, List.set_cons_zero, List.set_cons_succ]
        refine wpAnyH_take (i := 4) (v := ?vm14) rfl (by kernel_rfl) (by kernel_rfl) (by kernel_rfl) (fun _ _ _ h => h) (Or.inl ⟨by first | kernel_rfl | rfl, ?ym14⟩) hHeld ?rm14
        case ym14 => (intro W hSW; (try dsimp only at hSW); go_simp; (try with_reducible rfl))
        change wpAnyH _ _ _ _ _ _ _ (Act.put _ (some 43) _) _
        simp only [Act.put, List.setIfInBounds_toArray, List.set_cons_zero, List.set_cons_succ]
        refine wpAnyH_take (i := 5) (v := ?vm15) rfl (by kernel_rfl) (by kernel_rfl) (by kernel_rfl) (fun _ _ _ h => h) (Or.inl ⟨by first | kernel_rfl | rfl, ?ym15⟩) hHeld ?rm15
        case ym15 => (intro W hSW; (try dsimp only at hSW); go_simp; (try with_reducible rfl))
        change wpAnyH _ _ _ _ _ _ _ (Act.put _ (some 44) _) _
        simp only [Act.put, List.setIfInBounds_toArray, List.set_cons_zero, List.set_cons_succ]
        refine wpAnyH_ready (rs := [6]) (by kernel_rfl) (by simp) ?_
        refine AllReadyH.cons rfl (fun K hK => ?_) AllReadyH.nil
        go_simp
        refine (HRD.out).mono ?_
        rintro e V2 ⟨rfl, hb2⟩; have HB2 : Hid (Below V1.heap.size V1 V2) := (Below.refl _ V1).drew.trans hb2; clear hb2
        refine hK.out _ _ (HSC.out _ HB2.out) (fun hHeld => ?_)
        clear hK K
        try simp only [Act.put, List.setIfInBounds_toArray, List.set_cons_zero, List.set_cons_succ]
        refine wpAnyH_take (i := 7) (v := ?vm17) rfl (by kernel_rfl) (by kernel_rfl) (by kernel_rfl) (fun _ _ _ h => h) (Or.inl ⟨by first | kernel_rfl | rfl, ?ym17⟩) hHeld ?rm17
        case ym17 => (intro W hSW; (try dsimp only at hSW); go_simp; (try with_reducible rfl))
        change wpAnyH _ _ _ _ _ _ _ (Act.put _ (some 38) _) _
        simp only [Act.put, List.setIfInBounds_toArray, List.set_cons_zero, List.set_cons_succ]
        refine wpAnyH_take (i := 8) (v := ?vm18) rfl (by kernel_rfl) (by kernel_rfl) (by kernel_rfl) (fun _ _ _ h => h) (Or.inl ⟨by first | kernel_rfl | rfl, ?ym18⟩) hHeld ?rm18
        case ym18 => (intro W hSW; (try dsimp only at hSW); go_simp; (try with_reducible rfl))
        change wpAnyH _ _ _ _ _ _ _ (Act.put _ (some 46) _) _
        simp only [Act.put, List.setIfInBounds_toArray, List.set_cons_zero, List.set_cons_succ]
        refine wpAnyH_take (i := 9) (v := ?vm19) rfl (by kernel_rfl) (by kernel_rfl) (by kernel_rfl) (fun _ _ _ h => h) (Or.inl ⟨by first | kernel_rfl | rfl, ?ym19⟩) hHeld ?rm19
        case ym19 => (intro W hSW; (try dsimp only at hSW); go_simp; (try with_reducible rfl))
        change wpAnyH _ _ _ _ _ _ _ (Act.put _ (some 47) _) _
        simp only [Act.put, List.setIfInBounds_toArray, List.set_cons_zero, List.set_cons_succ]
        refine wpAnyH_take (i := 10) (v := ?vm110) rfl (by kernel_rfl) (by kernel_rfl) (by kernel_rfl) (fun _ _ _ h => h) (Or.inl ⟨by first | kernel_rfl | rfl, ?ym110⟩) hHeld ?rm110
        case ym110 => (intro W hSW; (try dsimp only at hSW); go_simp; (try with_reducible rfl))
        change wpAnyH _ _ _ _ _ _ _ (Act.put _ (some 8) _) _
        simp only [Act.put, List.setIfInBounds_toArray, List.set_cons_zero, List.set_cons_succ]
        refine wpAnyH_take (i := 11) (v := ?vm111) rfl (by kernel_rfl) (by kernel_rfl) (by kernel_rfl) (fun _ _ _ h => h) (Or.inl ⟨by first | kernel_rfl | rfl, ?ym111⟩) hHeld ?rm111
        case ym111 => (intro W hSW; (try dsimp only at hSW); go_simp; (try with_reducible rfl))
        change wpAnyH _ _ _ _ _ _ _ (Act.put _ (some 9) _) _
        simp only [Act.put, List.setIfInBounds_toArray, List.set_cons_zero, List.set_cons_succ]
        refine wpAnyH_done (by kernel_rfl) ?_ _
        obtain ⟨x0, x1, x2⟩ := HXC.out V2 HB2.out
        have HT := HTX.out V2 0 HB2.out (by omega)
        have HT : Calls Tryz.prog 72 #[.agg #[.int .i64 (pg : Int), .slice ma k k, .int .i64 (z : Int)], .int .i64 0] V2 fun e w' => e = .returned (.string (bytesOf (pageText ⟨(pg : Int), m.es⟩ 0))) ∧ Below V2.heap.size V2 w' := HT
        obtain ⟨T, hT⟩ : ∃ T, bytesOf (pageText ⟨(pg : Int), m.es⟩ 0) = T := ⟨_, rfl⟩
        rw [hT] at HT HTXT
        clear hHeld HRD HTX q0 q1 q2 hT d1 d2 d3
        go_wp2_with fail
        refine HT.mono ?_
        rintro e V3 ⟨rfl, hb3⟩
        have hb13 : Below V1.heap.size V1 V3 := HB2.out.trans (hb3.mono HB2.out.size)
        obtain ⟨y0, y1, y2⟩ := HXC.out V3 hb13
        have hbw3 : Below B w V3 := HOW.out.2.1.trans (hb13.mono HOW.out.2.2)
        have hBV3 : B ≤ V3.heap.size := Nat.le_trans HOW.out.2.2 hb13.size
        have HO3 : Hid (V3.ownsRow B 69 2 (.slice la ln lc) ln (chiV (chU P (lfs L) i)) ∧ Below B w V3 ∧ B ≤ V3.heap.size) := ⟨own_keep HOW.out.1 (fun z hz => hb13.block z (HOW.out.1.lt z hz).2), hbw3, hBV3⟩
        clear HT hb3 hb13 x0 x1 x2 HOW hbw3 hBV3
        obtain ⟨old, hold⟩ : ∃ old, P pg = old := ⟨_, rfl⟩
        have HOLD : Hid (P pg = old) := hold
        rw [hold]
        clear hold
        by_cases he : T = old
        · have hbe : (T.toList == old.toList) = true := by rw [he]; simp
          have HS : Hid (chU P (lfs L) (i + 1) = chU P (lfs L) i) := chU_same HLF.out (by rw [HTXT.out, he]; exact HOLD.out.symm)
          clear he
          go_wp2
          exact ⟨⟨i + 1, ln, lc, la, by omega, by go_num, rfl, by rw [HS.out]; exact HO3.out.1, HO3.out.2.1⟩, by simp [intOf]; omega⟩
        · have hbe : (T.toList == old.toList) = false := str_nb he
          have HS : Hid (chU P (lfs L) (i + 1) = chU P (lfs L) i ++ [((pg : Int), T)]) := by
            show _ = _
            have := chU_new (P := P) HLF.out (by rw [HTXT.out]; intro e; exact he (e.trans HOLD.out))
            rw [HTXT.out] at this
            exact this
          clear he
          obtain ⟨V4, hV4⟩ : ∃ V4, V3.alloc (.cells #[.int .i64 (pg : Int), .string T] 69) = V4 := ⟨_, rfl⟩
          have hB4 : Below V3.heap.size V3 V4 := by rw [← hV4]; exact (Below.refl _ V3).alloc (Nat.le_refl _) _
          have r4 : V4.heap[V3.heap.size]? = some (.cells #[.int .i64 (pg : Int), .string T] 69 (0, 0)) := by rw [← hV4]; exact heap_alloc_new V3 _
          have ho4 := own_keep HO3.out.1 (W' := V4) (fun z hz => hB4.block z (HO3.out.1.lt z hz).2)
          obtain ⟨aA, cA, VA, hrA, hoA, hgA, _⟩ := addC_own V4 ho4 (chRow r4) (by omega) (Nat.le_trans HO3.out.2.2 hB4.size)
          have HE : Hid (VA.ownsRow B 69 2 (.slice aA (ln + 1) cA) (ln + 1) (chiV (chU P (lfs L) i ++ [((pg : Int), T)])) ∧ Below B w VA) :=
            ⟨hoA, (HO3.out.2.1.trans (hB4.mono HO3.out.2.2)).grown hgA (Nat.le_trans HO3.out.2.2 hB4.size) (fun z hz => (ho4.lt z (by rw [ob_slice]; exact hz)).1)⟩
          clear hB4 r4 ho4 hoA hgA
          go_wp2_with (at_builtin; refine wpList_app V4 rfl _ _ _ _ rfl rfl rfl (hrA _) ?_)
          exact ⟨⟨i + 1, ln + 1, cA, aA, by omega, by go_num, rfl, by rw [HS.out]; exact HE.out.1, HE.out.2⟩, by simp [intOf]; omega⟩
    · obtain rfl : i = nl := by omega
      have kk : ¬ (i : Int) < (i : Int) := by omega
      have HE : Hid (wr.ownsRow B 69 2 (.slice la ln lc) ln (chiV (chU P (lfs L) i)) ∧ Below B w wr) := ⟨hown, hbw⟩
      clear hown hbw
      go_wp2
      refine bodyPost_ret (v := .tuple #[.slice la ln lc, .int .i64 0]) ?_ rfl ⟨la, ln, lc, rfl, HE.out.1, HE.out.2⟩
      simp [results, go_sem]
end Go.Proofs.YtnafalkcgghjgaaGreatDoor
