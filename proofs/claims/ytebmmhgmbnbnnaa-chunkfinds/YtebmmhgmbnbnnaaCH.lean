/- Walk over Write. -/
import Derived.Test.YtebmmhgmbnbnnaaCG
namespace Go.Proofs.Ytebmmhgmbnbnnaa
open Go.RowKit Ck
theorem putL_lst (P : List UInt8) (c : UInt8) : putL (lstN 16 P) c 16 = lstN 16 (P ++ [c]) := by
  rw [lstN_snoc 16 P c (by omega)]; rfl
/-- A byte went through the window. -/
theorem CtIs.put {V V1 : World} {g q r : Nat} {wa : Option Addr} {wc : Nat} {m : Ms} {P wt : List UInt8} (h : CtIs V g q r wa wc m P wt) (c : UInt8) (hw : WinIs V1 r q 16 (putL (lstN 16 P) c 16)) (hu : Upd (fun x => x = q ∨ x = r) V V1) : CtIs V1 g q r wa wc m (P ++ [c]) wt := by
  have hd : ∀ x, (x = g ∨ ob wa = some x) → V1.heap[x]? = V.heap[x]? := by
    intro x hx
    rcases hx with rfl | hx
    · exact hu.block _ (h.lt _ (.inl rfl)) (fun e => e.elim (fun e => h.gq e) (fun e => h.gr e))
    · exact hu.block _ (h.wg x hx).2.2.2 (fun e => e.elim (fun e => (h.wg x hx).2.1 e) (fun e => (h.wg x hx).2.2.1 e))
  exact { h with
    row := (hd g (.inl rfl)).trans h.row
    win := by rw [putL_lst] at hw; exact hw
    own := own_keep h.own (fun x hx => by rw [ob_slice] at hx; exact hd x (.inr hx))
    wg := fun x hx => ⟨(h.wg x hx).1, (h.wg x hx).2.1, (h.wg x hx).2.2.1, Nat.lt_of_lt_of_le (h.wg x hx).2.2.2 hu.size⟩ }
/-- Where Write stands. -/
structure WrS (w V : World) (g q r : Nat) (wa0 : Option Addr) (m : Ms) (P wt0 bs : List UInt8) (k : Nat) (oa : Option Addr) (on oc : Nat) (wa : Option Addr) (wc : Nat) (Ls : List (List UInt8)) (wt : List UInt8) : Prop where
  go : goC m P wt0 (bs.take k) = (Ls, wt)
  ct : CtIs V g q r wa wc m (P ++ bs.take k) wt
  less : wt.length < m.most
  out : V.ownsRow w.heap.size 9 1 (.slice oa on oc) on (stR (Ls.map strOf))
  upd : Upd (ctS g q r wa0) w V
  new : ∀ x, ob wa = some x → ob wa0 = some x ∨ w.heap.size ≤ x
  apart : ∀ x, ob oa = some x → ob wa ≠ some x
theorem stR_len (l : List ByteArray) : (stR l).length = l.length := by unfold stR; rw [fm_len stC_len]; omega
theorem WrS.on {w V : World} {g q r : Nat} {wa0 : Option Addr} {m : Ms} {P wt0 bs : List UInt8} {k : Nat} {oa : Option Addr} {on oc : Nat} {wa : Option Addr} {wc : Nat} {Ls : List (List UInt8)} {wt : List UInt8} (h : WrS w V g q r wa0 m P wt0 bs k oa on oc wa wc Ls wt) : Ls.length = on := by
  have := h.out.1
  rw [stR_len, List.length_map] at this
  omega
theorem flat_len (Ls : List (List UInt8)) (h : ∀ x ∈ Ls, 1 ≤ x.length) : Ls.length ≤ Ls.flatten.length := by
  induction Ls with
  | nil => simp
  | cons x l ih =>
    have := ih (fun y hy => h y (List.mem_cons_of_mem _ hy))
    have := h x (List.mem_cons_self ..)
    rw [List.flatten_cons, List.length_append, List.length_cons]; omega
theorem WrS.few {w V : World} {g q r : Nat} {wa0 : Option Addr} {m : Ms} {P wt0 bs : List UInt8} {k : Nat} {oa : Option Addr} {on oc : Nat} {wa : Option Addr} {wc : Nat} {Ls : List (List UInt8)} {wt : List UInt8} (h : WrS w V g q r wa0 m P wt0 bs k oa on oc wa wc Ls wt) (h0 : wt0.length < m.most) : on ≤ bs.length + 1024 := by
  have hz := goC_sizes h.ct.ok (bs.take k) P wt0 h0
  have hj := congrArg List.length (goC_join m (bs.take k) P wt0)
  rw [h.go] at hz hj
  have h1 := flat_len Ls (fun x hx => by have := (hz.1 x hx).1; have := h.ct.ok.one; omega)
  rw [h.on] at h1
  simp only [List.length_append, List.length_take] at hj
  have := h.ct.ok.top
  omega
/-- What an append to what waits leaves. -/
theorem app_ct {w V1 W2 w3 : World} {g q r : Nat} {wa0 wa : Option Addr} {wc : Nat} {m : Ms} {P wt : List UInt8} (h : CtIs V1 g q r wa wc m P wt) (hl : wt.length < m.most) (hu : Upd (ctS g q r wa0) w V1) (hnew : ∀ x, ob wa = some x → ob wa0 = some x ∨ w.heap.size ≤ x) (h2 : Below V1.heap.size V1 W2) (c : UInt8) {g' cap : Nat}
    (hown : w3.ownsRow 0 5 1 (.slice (some ⟨g', 0, none⟩) (wt.length + 1) cap) (wt.length + 1) (bytesV wt ++ [.int .u8 (c.toNat : Int)])) (hgrow : W2.grownBy w3 (ob wa)) (hat : ob wa = some g' ∨ g' = W2.heap.size) (hlt : g' < w3.heap.size) :
    (w3.cell? ⟨g, 4, none⟩ = some (.slice wa wt.length wc) ∧ w3.frozen? ⟨g, 4, none⟩ = false) ∧
    CtIs (w3.setCell ⟨g, 4, none⟩ (.slice (some ⟨g', 0, none⟩) (wt.length + 1) cap)) g q r (some ⟨g', 0, none⟩) cap m P (wt ++ [c]) ∧
    Upd (ctS g q r wa0) w (w3.setCell ⟨g, 4, none⟩ (.slice (some ⟨g', 0, none⟩) (wt.length + 1) cap)) ∧
    (ob wa0 = some g' ∨ w.heap.size ≤ g') ∧ (ob wa = some g' ∨ V1.heap.size ≤ g') ∧
    (∀ x, x < V1.heap.size → x ≠ g → ob wa ≠ some x → (w3.setCell ⟨g, 4, none⟩ (.slice (some ⟨g', 0, none⟩) (wt.length + 1) cap)).heap[x]? = V1.heap[x]?) := by
  have hblk : ∀ x, x < V1.heap.size → ob wa ≠ some x → w3.heap[x]? = V1.heap[x]? := fun x hx hn => (hgrow.block x (Nat.lt_of_lt_of_le hx h2.size) (fun e => hn e.symm)).trans (h2.block x hx)
  have hgn : ob wa ≠ some g := fun e => (h.wg g e).1 rfl
  have hg3 := hblk g (h.lt g (.inl rfl)) hgn
  have hrow3 := hg3.trans h.row
  have hs3 : V1.heap.size ≤ w3.heap.size := Nat.le_trans h2.size hgrow.size
  have hq3 := hblk q (h.lt q (.inr (.inl rfl))) (fun e => (h.wg q e).2.1 rfl)
  have hr3 := hblk r (h.lt r (.inr (.inr (.inl rfl)))) (fun e => (h.wg r e).2.2.1 rfl)
  have hat2 : ob wa = some g' ∨ V1.heap.size ≤ g' := hat.elim .inl (fun e => .inr (by have := h2.size; omega))
  have hct := h.set (V := w3) hg3 (h.win.keep hq3 hr3) hs3 (some ⟨g', 0, none⟩) cap (wt ++ [c]) (by simp; omega) (by
    rw [List.length_append, List.length_singleton, bytesV_append]
    exact hown) (hat2.elim (fun e => .inl e.symm) (fun e => .inr ⟨g', rfl, e, hlt⟩))
  rw [List.length_append, List.length_singleton] at hct
  refine ⟨⟨by rw [cell_of_row _ g _ _ _ _ hrow3]; rfl, frozen_of_row _ g 4 _ _ hrow3⟩, hct, ?_, ?_, hat2, ?_⟩
  · have u1 : Upd (ctS g q r wa0) w W2 := hu.trans (Upd.of_below (S := fun _ => False) h2) (fun _ f => f.elim)
    have u2 := u1.grown hgrow (fun k hk hl => .inr (.inr (.inr ((hnew k hk).elim id (fun e => absurd hl (by omega))))))
    exact Upd.setCell u2 (p := ⟨g, 4, none⟩) (fun _ => .inl rfl) _
  · rcases hat2 with e | e
    · exact hnew g' e
    · exact .inr (Nat.le_trans hu.size e)
  · intro x hx hxg hxw
    rw [heap_setCell_other _ _ _ _ hxg]
    exact hblk x hx hxw
set_option maxRecDepth 100000 in
set_option maxHeartbeats 8000000 in
theorem write_ct {w : World} {g q r : Nat} {wa0 : Option Addr} {wc0 : Nat} {m : Ms} {P wt0 : List UInt8} (h : CtIs w g q r wa0 wc0 m P wt0) (h0 : wt0.length < m.most) {a : Option Addr} {len cap : Nat} {bs : List UInt8} (hb : BsI w a len cap bs) (hbd : ∀ x, 0 < len → ob a = some x → ¬ ctS g q r wa0 x) (hlen : len ≤ 20000) :
    Calls Try.prog 17 #[.pointer (some ⟨g, 0, none⟩), .slice a len cap] w fun e w' => ∃ oa on oc wa wc Ls wt, e = .returned (.slice oa on oc) ∧ WrS w w' g q r wa0 m P wt0 bs len oa on oc wa wc Ls wt := by
  have HB : Hid (BsI w a len cap bs) := hb
  have HD : Hid (∀ x, 0 < len → ob a = some x → ¬ ctS g q r wa0 x) := hbd
  have HL : Hid (bs.length = len) := hb.1
  have H0 : Hid (wt0.length < m.most) := h0
  have HG : Hid (g < w.heap.size ∧ q < w.heap.size ∧ r < w.heap.size) := ⟨h.lt g (.inl rfl), h.lt q (.inr (.inl rfl)), h.lt r (.inr (.inr (.inl rfl)))⟩
  have HS : Hid (WrS w w g q r wa0 m P wt0 bs 0 none 0 0 wa0 wc0 [] wt0) := ⟨by rw [List.take_zero]; rfl, by rw [List.take_zero, List.append_nil]; exact h, h0, World.ownsRow_nil _ _ _ _, Upd.refl _ _, fun x hx => .inl hx, fun x hx => (by cases hx)⟩
  obtain ⟨i0, hi0, hz0, hzs, hzb⟩ := info_parts info5
  clear h hb hbd h0
  go_enter Try.func17, Try.ntmps17
  go_wp2
  go_loopw [5, 11] (fun o i wr => ∃ (k : Nat) (oa : Option Addr) (on oc : Nat) (wa : Option Addr) (wc : Nat) (Ls : List (List UInt8)) (wt : List UInt8), k ≤ len ∧ i = .int .i64 k ∧ o = .slice oa on oc ∧ WrS w wr g q r wa0 m P wt0 bs k oa on oc wa wc Ls wt) (fun _ i _ => len - (intOf i).toNat)
  case atStart => exact ⟨0, none, 0, 0, wa0, wc0, [], wt0, by omega, rfl, rfl, HS.out⟩
  case round =>
    clear HS
    obtain ⟨k, oa, on, oc, wa, wc, Ls, wt, hk, rfl, rfl, hS⟩ := hrel
    have HS : Hid (WrS w wr g q r wa0 m P wt0 bs k oa on oc wa wc Ls wt) := hS
    by_cases hlt : k < len
    · obtain ⟨bb, bo, rfl, hbl, hcl⟩ := HB.out.2.2.2 (by omega)
      obtain ⟨c, hc⟩ : ∃ c, bs.getD k 0 = c := ⟨_, rfl⟩
      obtain ⟨cn, hcn⟩ : ∃ cn, c.toNat = cn := ⟨_, rfl⟩
      have hcn2 : cn < 256 := by rw [← hcn]; exact UInt8.toNat_lt _
      have hcu : UInt8.ofNat cn = c := by rw [← hcn]; simp
      have hcb := hcl k hlt
      rw [hc, hcn] at hcb
      have hbw : ∀ V : World, Upd (ctS g q r wa0) w V → V.heap[bb]? = w.heap[bb]? := fun V hV => hV.block bb hbl (HD.out bb (by omega) rfl)
      have x1 : wr.cell? ⟨bb, bo + k, none⟩ = some (.int .u8 (cn : Int)) := (World.cell?_of_block (w := w) (hbw wr hS.upd)).trans hcb
      obtain ⟨c0, c1, c2, c3, c4⟩ := ct_cells hS.ct.row
      have hk1 : bs.take (k + 1) = bs.take k ++ [c] := by
        rw [List.take_add_one, List.getElem?_eq_getElem (by rw [HL.out]; exact hlt), ← hc, List.getD_eq_getElem?_getD, List.getElem?_eq_getElem (by rw [HL.out]; exact hlt)]
        rfl
      obtain ⟨PK, hPK⟩ : ∃ PK, P ++ bs.take k = PK := ⟨_, rfl⟩
      have hPK1 : P ++ bs.take (k + 1) = PK ++ [c] := by rw [hk1, ← List.append_assoc, hPK]
      have hgo1 := goC_snoc m P wt0 (bs.take k) c
      rw [← hk1, hS.go, hPK] at hgo1
      have hCT : CtIs wr g q r wa wc m PK wt := hPK ▸ hS.ct
      have HPU : Hid (Calls Try.prog 30 #[.pointer (some ⟨q, 0, none⟩), .int .u8 (cn : Int)] wr.drew fun e w' => e = .returned (.tuple #[]) ∧ CtIs w' g q r wa wc m (PK ++ [c]) wt ∧ Upd (fun x => x = q ∨ x = r) wr w') := by
        refine (put_any r q 16 (lstN 16 PK) cn wr.drew hCT.win hcn2).mono ?_
        rintro e w' ⟨rfl, h1, h2⟩
        rw [hcu] at h1
        have h3 : Upd (fun x => x = q ∨ x = r) wr w' := ⟨h2.os, h2.tape, h2.output, h2.size, h2.block⟩
        exact ⟨rfl, hCT.put c h1 h3, h3⟩
      have H1 : Hid (P ++ bs.take (k + 1) = PK ++ [c] ∧ goC m P wt0 (bs.take (k + 1)) = (if endsP m (PK ++ [c]) (wt ++ [c]) then (Ls ++ [wt ++ [c]], []) else (Ls, wt ++ [c])) ∧ c.toNat = cn ∧ (∀ V : World, Upd (ctS g q r wa0) w V → V.cell? ⟨bb, bo + k, none⟩ = some (.int .u8 (cn : Int)))) :=
        ⟨hPK1, hgo1, hcn, fun V hV => (World.cell?_of_block (w := w) (hbw V hV)).trans hcb⟩
      clear hS hcl hc hcn hcu hcb hbw c0 c1 c2 c4 hk1 hPK hPK1 hgo1 hCT
      go_wp2
      refine wp_region_held_drew (S := fun W => W.cell? ⟨g, 3, none⟩ = some (.pointer (some ⟨q, 0, none⟩)) ∧ W.cell? ⟨bb, bo + k, none⟩ = some (.int .u8 (cn : Int))) (by kernel_rfl) (⟨c3, x1⟩) (fun hHeld => ?_)
      refine wpAnyH_take (i := 0) (v := ?vp0) rfl (by kernel_rfl) (by kernel_rfl) (by kernel_rfl) (fun _ _ _ h => h) (Or.inl ⟨by first | kernel_rfl | rfl, ?yp0⟩) hHeld ?rp0
      case yp0 => (intro W hSW; (try dsimp only at hSW); go_simp; (try with_reducible rfl))
      change wpAnyH _ _ _ _ _ _ _ (Act.put _ (some 14) _) _
      simp only [Act.put, List.setIfInBounds_toArray, List.set_cons_zero, List.set_cons_succ]
      refine wpAnyH_take (i := 1) (v := ?vp1) rfl (by kernel_rfl) (by kernel_rfl) (by kernel_rfl) (fun _ _ _ h => h) (Or.inl ⟨by first | kernel_rfl | rfl, ?yp1⟩) hHeld ?rp1
      case yp1 => (intro W hSW; (try dsimp only at hSW); go_simp; (try with_reducible rfl))
      change wpAnyH _ _ _ _ _ _ _ (Act.put _ (some 15) _) _
      simp only [Act.put, List.setIfInBounds_toArray, List.set_cons_zero, List.set_cons_succ]
      refine wpAnyH_take (i := 2) (v := ?vp2) rfl (by kernel_rfl) (by kernel_rfl) (by kernel_rfl) (fun _ _ _ h => h) (Or.inl ⟨by first | kernel_rfl | rfl, ?yp2⟩) hHeld ?rp2
      case yp2 => (intro W hSW; (try dsimp only at hSW); go_simp; (try with_reducible rfl))
      change wpAnyH _ _ _ _ _ _ _ (Act.put _ (some 16) _) _
      simp only [Act.put, List.setIfInBounds_toArray, List.set_cons_zero, List.set_cons_succ]
      refine wpAnyH_take (i := 3) (v := ?vp3) rfl (by kernel_rfl) (by kernel_rfl) (by kernel_rfl) (fun _ _ _ h => h) (Or.inl ⟨by first | kernel_rfl | rfl, ?yp3⟩) hHeld ?rp3
      case yp3 => (intro W hSW; (try dsimp only at hSW); go_simp; (try with_reducible rfl))
      change wpAnyH _ _ _ _ _ _ _ (Act.put _ (some 17) _) _
      simp only [Act.put, List.setIfInBounds_toArray, List.set_cons_zero, List.set_cons_succ]
      refine wpAnyH_take (i := 4) (v := ?vp4) rfl (by kernel_rfl) (by kernel_rfl) (by kernel_rfl) (fun _ _ _ h => h) (Or.inl ⟨by first | kernel_rfl | rfl, ?yp4⟩) hHeld ?rp4
      case yp4 => (intro W hSW; (try dsimp only at hSW); go_simp; (try with_reducible rfl))
      change wpAnyH _ _ _ _ _ _ _ (Act.put _ (some 18) _) _
      simp only [Act.put, List.setIfInBounds_toArray, List.set_cons_zero, List.set_cons_succ]
      refine wpAnyH_take (i := 5) (v := ?vp5) rfl (by kernel_rfl) (by kernel_rfl) (by kernel_rfl) (fun _ _ _ h => h) (Or.inl ⟨by first | kernel_rfl | rfl, ?yp5⟩) hHeld ?rp5
      case yp5 => (intro W hSW; (try dsimp only at hSW); go_simp; (try with_reducible rfl))
      change wpAnyH _ _ _ _ _ _ _ (Act.put _ (some 19) _) _
      simp only [Act.put, List.setIfInBounds_toArray, List.set_cons_zero, List.set_cons_succ]
      refine wpAnyH_take (i := 6) (v := ?vp6) rfl (by kernel_rfl) (by kernel_rfl) (by kernel_rfl) (fun _ _ _ h => h) (Or.inl ⟨by first | kernel_rfl | rfl, ?yp6⟩) hHeld ?rp6
      case yp6 => (intro W hSW; (try dsimp only at hSW); go_simp; (try with_reducible rfl))
      change wpAnyH _ _ _ _ _ _ _ (Act.put _ (some 20) _) _
      simp only [Act.put, List.setIfInBounds_toArray, List.set_cons_zero, List.set_cons_succ]
      refine wpAnyH_take (i := 7) (v := ?vp7) rfl (by kernel_rfl) (by kernel_rfl) (by kernel_rfl) (fun _ _ _ h => h) (Or.inl ⟨by first | kernel_rfl | rfl, ?yp7⟩) hHeld ?rp7
      case yp7 => (intro W hSW; (try dsimp only at hSW); go_simp; (try with_reducible rfl))
      change wpAnyH _ _ _ _ _ _ _ (Act.put _ (some 21) _) _
      simp only [Act.put, List.setIfInBounds_toArray, List.set_cons_zero, List.set_cons_succ]
      refine wpAnyH_ready (rs := [8]) (by kernel_rfl) (by simp) ?_
      refine AllReadyH.cons rfl (fun K hK => ?_) AllReadyH.nil
      go_simp
      refine (HPU.out).mono ?_
      rintro e V1 ⟨rfl, hct1, hu1⟩; have HC1 : Hid (CtIs V1 g q r wa wc m (PK ++ [c]) wt ∧ Upd (fun x => x = q ∨ x = r) wr V1 ∧ Upd (ctS g q r wa0) w V1) := ⟨hct1, hu1, HS.out.upd.trans hu1 (fun x hx _ => hx.elim (fun e => .inr (.inl e)) (fun e => .inr (.inr (.inl e))))⟩; clear hct1 hu1
      refine hK.out _ _ (⟨(ct_cells HC1.out.1.row).2.2.2.1, H1.out.2.2.2 V1 HC1.out.2.2⟩) (fun hHeld => ?_)
      clear hK K
      try simp only [Act.put, List.setIfInBounds_toArray, List.set_cons_zero, List.set_cons_succ]
      refine wpAnyH_done (by kernel_rfl) ?_ _
      clear hHeld HPU c3 x1
      have x1 : V1.drew.cell? ⟨bb, bo + k, none⟩ = some (.int .u8 (cn : Int)) := H1.out.2.2.2 V1 HC1.out.2.2
      have c4 : V1.drew.cell? ⟨g, 4, none⟩ = some (.slice wa wt.length wc) := (ct_cells HC1.out.1.row).2.2.2.2
      obtain ⟨nb, hnb⟩ : ∃ nb, V1.drew.heap.size = nb := ⟨_, rfl⟩
      obtain ⟨W2, hW2⟩ : ∃ W2, V1.drew.alloc (.cells #[.int .u8 (cn : Int)] 5) = W2 := ⟨_, rfl⟩
      have hb2 : Below V1.heap.size V1 W2 := by rw [← hW2]; exact (Below.refl _ V1).drew.alloc (Nat.le_refl _) _
      have hrow2 : W2.heap[nb]? = some (.cells #[.int .u8 (cn : Int)] 5 (0, 0)) := by rw [← hW2, ← hnb]; exact heap_alloc_new V1.drew _
      have HNW : Hid (∀ j u, [Value.int .u8 (cn : Int)][j]? = some u → W2.cell? ((⟨nb, 0, none⟩ : Addr).add j) = some u) := World.news_of_block hrow2
      have c42 : W2.cell? ⟨g, 4, none⟩ = some (.slice wa wt.length wc) := by rw [hb2.cell (HC1.out.1.lt g (.inl rfl))]; exact c4
      have x2 : W2.cell? ⟨bb, bo + k, none⟩ = some (.int .u8 (cn : Int)) := by rw [hb2.cell (World.block_lt_of_cell? V1 _ x1)]; exact x1
      obtain ⟨n, hn⟩ : ∃ n, wt.length = n := ⟨_, rfl⟩
      have hn1024 : n ≤ 1024 := by rw [← hn]; exact Nat.le_trans (Nat.le_of_lt HS.out.less) HC1.out.1.ok.top
      have HO2 : Hid (W2.ownsRow 0 5 1 (.slice wa n wc) n (bytesV wt)) := by
        rw [← hn]
        exact own_keep HC1.out.1.own (fun x hx => hb2.block x (HC1.out.1.wg x (by rw [← ob_slice wa wt.length wc]; exact hx)).2.2.2)
      have HAP : Hid (∀ g' cp w3, w3.ownsRow 0 5 1 (.slice (some ⟨g', 0, none⟩) (n + 1) cp) (n + 1) (bytesV wt ++ [.int .u8 (cn : Int)]) → W2.grownBy w3 (Value.slice wa n wc).ownBlock → ((Value.slice wa n wc).ownBlock = some g' ∨ g' = W2.heap.size) → g' < w3.heap.size →
          w3.cell? ⟨g, 4, none⟩ = some (.slice wa n wc) ∧ w3.frozen? ⟨g, 4, none⟩ = false ∧ w3.cell? ⟨bb, bo + k, none⟩ = some (.int .u8 (cn : Int)) ∧ (w3.setCell ⟨g, 4, none⟩ (.slice (some ⟨g', 0, none⟩) (n + 1) cp)).cell? ⟨bb, bo + k, none⟩ = some (.int .u8 (cn : Int)) ∧
          Hid (∀ W4, W4.heap = (w3.setCell ⟨g, 4, none⟩ (.slice (some ⟨g', 0, none⟩) (n + 1) cp)).heap → W4.os = w3.os → W4.tape = w3.tape → W4.output = w3.output → CtIs W4 g q r (some ⟨g', 0, none⟩) cp m (PK ++ [c]) (wt ++ [c]) ∧ Upd (ctS g q r wa0) w W4 ∧ W4.ownsRow w.heap.size 9 1 (.slice oa on oc) on (stR (Ls.map strOf)) ∧ (ob wa0 = some g' ∨ w.heap.size ≤ g') ∧ (∀ x, ob oa = some x → x ≠ g'))) := by
        intro g' cp w3 hown hgrow hat hlt3
        rw [ob_slice] at hgrow hat
        have hcn := H1.out.2.2.1
        rw [← hn, ← hcn] at hown
        obtain ⟨⟨a1, a2⟩, a3, a4, a5, a6, a7⟩ := app_ct HC1.out.1 HS.out.less HC1.out.2.2 HS.out.new hb2 c hown hgrow hat hlt3
        rw [hn] at a1 a3 a4 a7
        have hxb : (w3.setCell ⟨g, 4, none⟩ (.slice (some ⟨g', 0, none⟩) (n + 1) cp)).cell? ⟨bb, bo + k, none⟩ = some (.int .u8 (cn : Int)) := H1.out.2.2.2 _ a4
        have hgb : g ≠ bb := fun e => HD.out bb (by omega) rfl (.inl e.symm)
        refine ⟨a1, a2, ?_, hxb, ?_⟩
        · rw [← hxb, World.cell?_setCell_far _ _ _ _ hgb]
        · intro W4 e1 e2 e3 e4
          have hup : Upd (ctS g q r wa0) w W4 := ⟨e2.trans a4.os, e3.trans a4.tape, e4.trans a4.output, by rw [e1]; exact a4.size, fun x hx hs => by rw [e1]; exact a4.block x hx hs⟩
          refine ⟨a3.keep (by rw [e1]; exact Nat.le_refl _) (fun x _ => by rw [e1]), hup, ?_, a5, ?_⟩
          · refine own_keep HS.out.out (fun x hx => ?_)
            have hl := HS.out.out.lt x hx
            rw [ob_slice] at hx
            rw [e1, a7 x (Nat.lt_of_lt_of_le hl.2 HC1.out.2.1.size) (fun e => by have := HG.out.1; omega) (HS.out.apart x hx)]
            exact HC1.out.2.1.block x hl.2 (fun e => by have := HG.out.2; omega)
          · intro x hx e
            subst e
            rcases a6 with a6 | a6
            · exact HS.out.apart _ hx a6
            · have := (HS.out.out.lt x (by rw [ob_slice]; exact hx)).2
              have := HC1.out.2.1.size
              omega
      clear hb2 hrow2
      rw [hn] at c4 c42
      go_wp2
      try rw [hnb]
      refine wp_region_held_drew (S := fun W => W.cell? ⟨bb, bo + k, none⟩ = some (.int .u8 (cn : Int))) (by kernel_rfl) (x1) (fun hHeld => ?_)
      refine wpAnyH_take (i := 0) (v := ?vs0) rfl (by kernel_rfl) (by kernel_rfl) (by kernel_rfl) (fun _ _ _ h => h) (Or.inl ⟨by first | kernel_rfl | rfl, ?ys0⟩) hHeld ?rs0
      case ys0 => (intro W hSW; (try dsimp only at hSW); go_simp; (try with_reducible rfl))
      change wpAnyH _ _ _ _ _ _ _ (Act.put _ (some 23) _) _
      simp only [Act.put, List.setIfInBounds_toArray, List.set_cons_zero, List.set_cons_succ]
      refine wpAnyH_take (i := 1) (v := ?vs1) rfl (by kernel_rfl) (by kernel_rfl) (by kernel_rfl) (fun _ _ _ h => h) (Or.inl ⟨by first | kernel_rfl | rfl, ?ys1⟩) hHeld ?rs1
      case ys1 => (intro W hSW; (try dsimp only at hSW); go_simp; (try with_reducible rfl))
      change wpAnyH _ _ _ _ _ _ _ (Act.put _ (some 24) _) _
      simp only [Act.put, List.setIfInBounds_toArray, List.set_cons_zero, List.set_cons_succ]
      refine wpAnyH_take (i := 2) (v := ?vs2) rfl (by kernel_rfl) (by kernel_rfl) (by kernel_rfl) (fun _ _ _ h => h) (Or.inl ⟨by first | kernel_rfl | rfl, ?ys2⟩) hHeld ?rs2
      case ys2 => (intro W hSW; (try dsimp only at hSW); go_simp; (try with_reducible rfl))
      change wpAnyH _ _ _ _ _ _ _ (Act.put _ (some 25) _) _
      simp only [Act.put, List.setIfInBounds_toArray, List.set_cons_zero, List.set_cons_succ]
      refine wpAnyH_take (i := 3) (v := ?vs3) rfl (by kernel_rfl) (by kernel_rfl) (by kernel_rfl) (fun _ _ _ h => h) (Or.inl ⟨by first | kernel_rfl | rfl, ?ys3⟩) hHeld ?rs3
      case ys3 => (intro W hSW; (try dsimp only at hSW); go_simp; (try with_reducible rfl))
      change wpAnyH _ _ _ _ _ _ _ (Act.put _ (some 26) _) _
      simp only [Act.put, List.setIfInBounds_toArray, List.set_cons_zero, List.set_cons_succ]
      refine wpAnyH_take (i := 5) (v := ?vs5) rfl (by kernel_rfl) (by kernel_rfl) (by kernel_rfl) (fun _ _ _ h => h) (Or.inl ⟨by first | kernel_rfl | rfl, ?ys5⟩) hHeld ?rs5
      case ys5 => (intro W hSW; (try dsimp only at hSW); go_simp; (try with_reducible rfl))
      change wpAnyH _ _ _ _ _ _ _ (Act.put _ (some 28) _) _
      simp only [Act.put, List.setIfInBounds_toArray, List.set_cons_zero, List.set_cons_succ]
      refine wpAnyH_take (i := 6) (v := ?vs6) rfl (by kernel_rfl) (by kernel_rfl) (by kernel_rfl) (fun _ _ _ h => h) (Or.inl ⟨by first | kernel_rfl | rfl, ?ys6⟩) hHeld ?rs6
      case ys6 => (intro W hSW; (try dsimp only at hSW); go_simp; (try with_reducible rfl))
      change wpAnyH _ _ _ _ _ _ _ (Act.put _ (some 29) _) _
      simp only [Act.put, List.setIfInBounds_toArray, List.set_cons_zero, List.set_cons_succ]
      refine wpAnyH_take (i := 7) (v := ?vs7) rfl (by kernel_rfl) (by kernel_rfl) (by kernel_rfl) (fun _ _ _ h => h) (Or.inl ⟨by first | kernel_rfl | rfl, ?ys7⟩) hHeld ?rs7
      case ys7 => (intro W hSW; (try dsimp only at hSW); go_simp; (try with_reducible rfl))
      change wpAnyH _ _ _ _ _ _ _ (Act.put _ (some 30) _) _
      simp only [Act.put, List.setIfInBounds_toArray, List.set_cons_zero, List.set_cons_succ]
      refine wpAnyH_take (i := 8) (v := ?vs8) rfl (by kernel_rfl) (by kernel_rfl) (by kernel_rfl) (fun _ _ _ h => h) (Or.inl ⟨by first | kernel_rfl | rfl, ?ys8⟩) hHeld ?rs8
      case ys8 => (intro W hSW; (try dsimp only at hSW); go_simp; (try with_reducible rfl))
      change wpAnyH _ _ _ _ _ _ _ (Act.put _ (some 31) _) _
      simp only [Act.put, List.setIfInBounds_toArray, List.set_cons_zero, List.set_cons_succ]
      refine wpAnyH_ready (rs := [4, 9]) (by kernel_rfl) (by simp) ?_
      refine AllReadyH.cons rfl (fun K hK => ?_) (AllReadyH.cons rfl (fun K hK => ?_) AllReadyH.nil)
      · go_simp
        refine hK.out _ _ (hHeld) (fun hHeld => ?_)
        clear hK K
        try simp only [Act.put, List.setIfInBounds_toArray, List.set_cons_zero, List.set_cons_succ]
        refine wpAnyH_ready (rs := [9]) (by kernel_rfl) (by simp) ?_
        refine AllReadyH.cons rfl (fun K hK => ?_) AllReadyH.nil
        go_simp
        refine hK.out _ _ (x2) (fun hHeld => ?_)
        clear hK K
        try simp only [Act.put, List.setIfInBounds_toArray, List.set_cons_zero, List.set_cons_succ]
        refine wpAnyH_ready (rs := [10]) (by kernel_rfl) (by simp) ?_
        refine AllReadyH.cons rfl (fun K hK => ?_) AllReadyH.nil
        rw [if_pos (by rfl)]
        refine wp_append_lies W2 _ _ 36 rfl 0 5 i0 (.int .u8 0) 1 1 Try.underlying36 hi0 hz0 hzs hzb rfl (by decide) _ n (bytesV wt) rfl HO2.out ⟨nb, 0, none⟩ 1 1 [.int .u8 (cn : Int)] rfl rfl HNW.out (by simp [Value.oneCell']) (by omega) (by unfold maxLen; omega) (by omega) (Nat.zero_le _) _ rfl ?_
        intro g' cp w3 hown hgrow hat hlt3; obtain ⟨c43, f43, x3, x4, HNX⟩ := HAP.out g' cp w3 hown hgrow hat hlt3; clear hown hgrow hat hlt3
        refine hK.out _ _ (x3) (fun hHeld => ?_)
        clear hK K
        change wpAnyH _ _ _ _ _ _ _ (Act.put _ (some 33) _) _
        simp only [Act.put, List.setIfInBounds_toArray, List.set_cons_zero, List.set_cons_succ]
        refine wpAnyH_take (i := 11) (v := ?vb11) rfl (by kernel_rfl) (by kernel_rfl) (by kernel_rfl) (fun _ _ _ h => h) (Or.inl ⟨by first | kernel_rfl | rfl, ?yb11⟩) hHeld ?rb11
        case yb11 => (intro W hSW; (try dsimp only at hSW); go_simp; (try with_reducible rfl))
        change wpAnyH _ _ _ _ _ _ _ (Act.put _ (some 34) _) _
        simp only [Act.put, List.setIfInBounds_toArray, List.set_cons_zero, List.set_cons_succ]
        refine wpAnyH_take (i := 12) (v := ?vb12) rfl (by kernel_rfl) (by kernel_rfl) (by kernel_rfl) (fun _ _ _ h => h) (Or.inl ⟨by first | kernel_rfl | rfl, ?yb12⟩) hHeld ?rb12
        case yb12 => (intro W hSW; (try dsimp only at hSW); go_simp; (try with_reducible rfl))
        change wpAnyH _ _ _ _ _ _ _ (Act.put _ (some 35) _) _
        simp only [Act.put, List.setIfInBounds_toArray, List.set_cons_zero, List.set_cons_succ]
        refine wpAnyH_ready (rs := [13]) (by kernel_rfl) (by simp) ?_
        refine AllReadyH.cons rfl (fun K hK => ?_) AllReadyH.nil
        go_simp
        refine hK.out _ _ (x4) (fun hHeld => ?_)
        clear hK K
        refine wpAnyH_done (by kernel_rfl) ?_ _
        obtain ⟨W4, hW4⟩ : ∃ W4, w3.setCell ⟨g, 4, none⟩ (.slice (some ⟨g', 0, none⟩) (n + 1) cp) = W4 := ⟨_, rfl⟩
        try rw [hW4]
        obtain ⟨hct4, hup4, hout4, hw0, hoa⟩ := HNX.out W4 (by rw [← hW4]) (by rw [← hW4]; rfl) (by rw [← hW4]; rfl) (by rw [← hW4]; rfl)
        have HWH : Hid (Calls Try.prog 31 #[.pointer (some ⟨g, 0, none⟩)] W4 fun e w' => e = .returned (.bool (endsP m (PK ++ [c]) (wt ++ [c]))) ∧ CtIs w' g q r (some ⟨g', 0, none⟩) cp m (PK ++ [c]) (wt ++ [c]) ∧ Upd (ctS g q r wa0) w w' ∧ w'.ownsRow w.heap.size 9 1 (.slice oa on oc) on (stR (Ls.map strOf))) := by
          refine (whole_ct hct4).mono ?_
          rintro e w' ⟨rfl, rfl | rfl⟩
          · exact ⟨rfl, hct4, hup4, hout4⟩
          · exact ⟨rfl, hct4.keep (Nat.le_refl _) (fun _ _ => rfl), hup4.drew, own_keep hout4 (fun _ _ => rfl)⟩
        have HFR : Hid ((ob wa0 = some g' ∨ w.heap.size ≤ g') ∧ (∀ x, ob oa = some x → x ≠ g')) := ⟨hw0, hoa⟩
        obtain ⟨R, hR⟩ : ∃ R, endsP m (PK ++ [c]) (wt ++ [c]) = R := ⟨_, rfl⟩
        rw [hR] at HWH
        have HR : Hid (endsP m (PK ++ [c]) (wt ++ [c]) = R) := hR
        clear hHeld c43 f43 x3 x4 hW4 HNX hct4 hup4 hout4 hw0 hoa hR
        cases R with
        | false =>
          have HN : Hid (∀ V, CtIs V g q r (some ⟨g', 0, none⟩) cp m (PK ++ [c]) (wt ++ [c]) → Upd (ctS g q r wa0) w V → V.ownsRow w.heap.size 9 1 (.slice oa on oc) on (stR (Ls.map strOf)) → WrS w V g q r wa0 m P wt0 bs (k + 1) oa on oc (some ⟨g', 0, none⟩) cp Ls (wt ++ [c])) := by
            intro V h1 h2 h3
            have hg := H1.out.2.1
            rw [HR.out] at hg
            exact ⟨hg, by rw [H1.out.1]; exact h1, endsP_most h1.ok HR.out, h3, h2, fun x hx => by cases hx; exact HFR.out.1, fun x hx hy => HFR.out.2 x hx (by cases hy; rfl)⟩
          go_wp2_with (go_at_call 31; refine HWH.out.mono ?_; rintro e V5 ⟨rfl, hc5, hu5, ho5⟩; have H5 : Hid (WrS w V5 g q r wa0 m P wt0 bs (k + 1) oa on oc (some ⟨g', 0, none⟩) cp Ls (wt ++ [c])) := HN.out V5 hc5 hu5 ho5; clear hc5 hu5 ho5)
          exact ⟨⟨k + 1, _, _, _, _, _, _, _, by omega, by go_num, rfl, H5.out⟩, by simp [intOf]; omega⟩
        | true =>
          go_wp2_with fail
          refine HWH.out.mono ?_
          rintro e V5 ⟨rfl, hc5, hu5, ho5⟩
          have HTK : Hid (Calls Try.prog 32 #[.pointer (some ⟨g, 0, none⟩)] V5 fun e w' => e = .returned (.string (strOf (wt ++ [c]))) ∧ CtIs w' g q r (some ⟨g', 0, none⟩) cp m (PK ++ [c]) [] ∧ Upd (fun x => x = g) V5 w') := take_ct hc5 (by simp)
          have H5 : Hid (Upd (ctS g q r wa0) w V5 ∧ V5.ownsRow w.heap.size 9 1 (.slice oa on oc) on (stR (Ls.map strOf))) := ⟨hu5, ho5⟩
          clear HWH hc5 hu5 ho5
          go_wp2_with fail
          refine HTK.out.mono ?_
          rintro e V6 ⟨rfl, hc6, hu6⟩
          obtain ⟨T, hT⟩ : ∃ T, strOf (wt ++ [c]) = T := ⟨_, rfl⟩
          rw [hT]
          obtain ⟨V7, hV7⟩ : ∃ V7, V6.alloc (.cells #[.string T] 9) = V7 := ⟨_, rfl⟩
          have hb7 : Below V6.heap.size V6 V7 := by rw [← hV7]; exact (Below.refl _ V6).alloc (Nat.le_refl _) _
          have r7 : V7.heap[V6.heap.size]? = some (.cells #[.string T] 9 (0, 0)) := by rw [← hV7]; exact heap_alloc_new V6 _
          have ho6 : V6.ownsRow w.heap.size 9 1 (.slice oa on oc) on (stR (Ls.map strOf)) := own_keep H5.out.2 (fun x hx => hu6.block x (H5.out.2.lt x hx).2 (fun e => by have := (H5.out.2.lt x hx).1; have := HG.out.1; omega))
          have ho7 : V7.ownsRow w.heap.size 9 1 (.slice oa on oc) on (stR (Ls.map strOf)) := own_keep ho6 (fun x hx => hb7.block x (ho6.lt x hx).2)
          have hu7 : Upd (ctS g q r wa0) w V7 := (H5.out.1.trans hu6 (fun x hx _ => .inl hx)).trans (Upd.of_below (S := fun _ => False) hb7) (fun _ f => f.elim)
          have hon := HS.out.few H0.out
          rw [HL.out] at hon
          obtain ⟨aA, cA, V8, hrA, hoA, hgA, hwA⟩ := addT_own V7 ho7 (txtRow r7) (by omega) hu7.size
          have H8 : Hid (WrS w V8 g q r wa0 m P wt0 bs (k + 1) aA (on + 1) cA (some ⟨g', 0, none⟩) cp (Ls ++ [wt ++ [c]]) []) := by
            have hg := H1.out.2.1
            rw [HR.out, if_pos rfl] at hg
            have hc7 := hc6.below hb7
            have hoaw : ∀ x, ob oa = some x → w.heap.size ≤ x := fun x hx => (HS.out.out.lt x (by rw [ob_slice]; exact hx)).1
            have hlt8 : ∀ x, ctS g q r (some ⟨g', 0, none⟩) x → ob oa ≠ some x := fun x hx e => by
              have h1 := hoaw x e
              have := HG.out
              rcases hx with hx | hx | hx | hx
              · omega
              · omega
              · omega
              · cases hx
                exact HFR.out.2 _ e rfl
            have hc8 : CtIs V8 g q r (some ⟨g', 0, none⟩) cp m (PK ++ [c]) [] := hc7.keep hgA.size (fun x hx => hgA.block x (hc7.lt x hx) (fun e => hlt8 x hx e.symm))
            refine ⟨hg, by rw [H1.out.1]; exact hc8, ?_, ?_, ?_, fun x hx => by cases hx; exact HFR.out.1, ?_⟩
            · have := hc8.ok.one; have := hc8.ok.le; simp; omega
            · rw [List.map_append, List.map_singleton, hT]; exact hoA
            · exact hu7.grown hgA (fun x hx hl => absurd (hoaw x hx) (by omega))
            · intro x hx hy
              have hy' : g' = x := by simpa [ob] using hy
              subst hy'
              rcases hwA with e | e
              · rw [hx] at e
                exact HFR.out.2 g' e.symm rfl
              · rw [hx] at e
                have h1 : g' = V7.heap.size := by simpa using e
                have h2 := hc6.lt g' (.inr (.inr (.inr rfl)))
                have h3 := hb7.size
                omega
          clear hc6 hu6 hT hb7 r7 ho6 ho7 hu7 hoA hgA hwA hon H5 HTK
          go_wp2_with (at_builtin; refine wpList_app V7 rfl _ _ _ _ rfl rfl rfl (hrA _) ?_)
          exact ⟨⟨k + 1, _, _, _, _, _, _, _, by omega, by go_num, rfl, H8.out⟩, by simp [intOf]; omega⟩
      · go_simp
        refine hK.out _ _ (x2) (fun hHeld => ?_)
        clear hK K
        try simp only [Act.put, List.setIfInBounds_toArray, List.set_cons_zero, List.set_cons_succ]
        refine wpAnyH_ready (rs := [4]) (by kernel_rfl) (by simp) ?_
        refine AllReadyH.cons rfl (fun K hK => ?_) AllReadyH.nil
        go_simp
        refine hK.out _ _ (hHeld) (fun hHeld => ?_)
        clear hK K
        try simp only [Act.put, List.setIfInBounds_toArray, List.set_cons_zero, List.set_cons_succ]
        refine wpAnyH_ready (rs := [10]) (by kernel_rfl) (by simp) ?_
        refine AllReadyH.cons rfl (fun K hK => ?_) AllReadyH.nil
        rw [if_pos (by rfl)]
        refine wp_append_lies W2 _ _ 36 rfl 0 5 i0 (.int .u8 0) 1 1 Try.underlying36 hi0 hz0 hzs hzb rfl (by decide) _ n (bytesV wt) rfl HO2.out ⟨nb, 0, none⟩ 1 1 [.int .u8 (cn : Int)] rfl rfl HNW.out (by simp [Value.oneCell']) (by omega) (by unfold maxLen; omega) (by omega) (Nat.zero_le _) _ rfl ?_
        intro g' cp w3 hown hgrow hat hlt3; obtain ⟨c43, f43, x3, x4, HNX⟩ := HAP.out g' cp w3 hown hgrow hat hlt3; clear hown hgrow hat hlt3
        refine hK.out _ _ (x3) (fun hHeld => ?_)
        clear hK K
        change wpAnyH _ _ _ _ _ _ _ (Act.put _ (some 33) _) _
        simp only [Act.put, List.setIfInBounds_toArray, List.set_cons_zero, List.set_cons_succ]
        refine wpAnyH_take (i := 11) (v := ?vd11) rfl (by kernel_rfl) (by kernel_rfl) (by kernel_rfl) (fun _ _ _ h => h) (Or.inl ⟨by first | kernel_rfl | rfl, ?yd11⟩) hHeld ?rd11
        case yd11 => (intro W hSW; (try dsimp only at hSW); go_simp; (try with_reducible rfl))
        change wpAnyH _ _ _ _ _ _ _ (Act.put _ (some 34) _) _
        simp only [Act.put, List.setIfInBounds_toArray, List.set_cons_zero, List.set_cons_succ]
        refine wpAnyH_take (i := 12) (v := ?vd12) rfl (by kernel_rfl) (by kernel_rfl) (by kernel_rfl) (fun _ _ _ h => h) (Or.inl ⟨by first | kernel_rfl | rfl, ?yd12⟩) hHeld ?rd12
        case yd12 => (intro W hSW; (try dsimp only at hSW); go_simp; (try with_reducible rfl))
        change wpAnyH _ _ _ _ _ _ _ (Act.put _ (some 35) _) _
        simp only [Act.put, List.setIfInBounds_toArray, List.set_cons_zero, List.set_cons_succ]
        refine wpAnyH_ready (rs := [13]) (by kernel_rfl) (by simp) ?_
        refine AllReadyH.cons rfl (fun K hK => ?_) AllReadyH.nil
        go_simp
        refine hK.out _ _ (x4) (fun hHeld => ?_)
        clear hK K
        refine wpAnyH_done (by kernel_rfl) ?_ _
        obtain ⟨W4, hW4⟩ : ∃ W4, w3.setCell ⟨g, 4, none⟩ (.slice (some ⟨g', 0, none⟩) (n + 1) cp) = W4 := ⟨_, rfl⟩
        try rw [hW4]
        obtain ⟨hct4, hup4, hout4, hw0, hoa⟩ := HNX.out W4 (by rw [← hW4]) (by rw [← hW4]; rfl) (by rw [← hW4]; rfl) (by rw [← hW4]; rfl)
        have HWH : Hid (Calls Try.prog 31 #[.pointer (some ⟨g, 0, none⟩)] W4 fun e w' => e = .returned (.bool (endsP m (PK ++ [c]) (wt ++ [c]))) ∧ CtIs w' g q r (some ⟨g', 0, none⟩) cp m (PK ++ [c]) (wt ++ [c]) ∧ Upd (ctS g q r wa0) w w' ∧ w'.ownsRow w.heap.size 9 1 (.slice oa on oc) on (stR (Ls.map strOf))) := by
          refine (whole_ct hct4).mono ?_
          rintro e w' ⟨rfl, rfl | rfl⟩
          · exact ⟨rfl, hct4, hup4, hout4⟩
          · exact ⟨rfl, hct4.keep (Nat.le_refl _) (fun _ _ => rfl), hup4.drew, own_keep hout4 (fun _ _ => rfl)⟩
        have HFR : Hid ((ob wa0 = some g' ∨ w.heap.size ≤ g') ∧ (∀ x, ob oa = some x → x ≠ g')) := ⟨hw0, hoa⟩
        obtain ⟨R, hR⟩ : ∃ R, endsP m (PK ++ [c]) (wt ++ [c]) = R := ⟨_, rfl⟩
        rw [hR] at HWH
        have HR : Hid (endsP m (PK ++ [c]) (wt ++ [c]) = R) := hR
        clear hHeld c43 f43 x3 x4 hW4 HNX hct4 hup4 hout4 hw0 hoa hR
        cases R with
        | false =>
          have HN : Hid (∀ V, CtIs V g q r (some ⟨g', 0, none⟩) cp m (PK ++ [c]) (wt ++ [c]) → Upd (ctS g q r wa0) w V → V.ownsRow w.heap.size 9 1 (.slice oa on oc) on (stR (Ls.map strOf)) → WrS w V g q r wa0 m P wt0 bs (k + 1) oa on oc (some ⟨g', 0, none⟩) cp Ls (wt ++ [c])) := by
            intro V h1 h2 h3
            have hg := H1.out.2.1
            rw [HR.out] at hg
            exact ⟨hg, by rw [H1.out.1]; exact h1, endsP_most h1.ok HR.out, h3, h2, fun x hx => by cases hx; exact HFR.out.1, fun x hx hy => HFR.out.2 x hx (by cases hy; rfl)⟩
          go_wp2_with (go_at_call 31; refine HWH.out.mono ?_; rintro e V5 ⟨rfl, hc5, hu5, ho5⟩; have H5 : Hid (WrS w V5 g q r wa0 m P wt0 bs (k + 1) oa on oc (some ⟨g', 0, none⟩) cp Ls (wt ++ [c])) := HN.out V5 hc5 hu5 ho5; clear hc5 hu5 ho5)
          exact ⟨⟨k + 1, _, _, _, _, _, _, _, by omega, by go_num, rfl, H5.out⟩, by simp [intOf]; omega⟩
        | true =>
          go_wp2_with fail
          refine HWH.out.mono ?_
          rintro e V5 ⟨rfl, hc5, hu5, ho5⟩
          have HTK : Hid (Calls Try.prog 32 #[.pointer (some ⟨g, 0, none⟩)] V5 fun e w' => e = .returned (.string (strOf (wt ++ [c]))) ∧ CtIs w' g q r (some ⟨g', 0, none⟩) cp m (PK ++ [c]) [] ∧ Upd (fun x => x = g) V5 w') := take_ct hc5 (by simp)
          have H5 : Hid (Upd (ctS g q r wa0) w V5 ∧ V5.ownsRow w.heap.size 9 1 (.slice oa on oc) on (stR (Ls.map strOf))) := ⟨hu5, ho5⟩
          clear HWH hc5 hu5 ho5
          go_wp2_with fail
          refine HTK.out.mono ?_
          rintro e V6 ⟨rfl, hc6, hu6⟩
          obtain ⟨T, hT⟩ : ∃ T, strOf (wt ++ [c]) = T := ⟨_, rfl⟩
          rw [hT]
          obtain ⟨V7, hV7⟩ : ∃ V7, V6.alloc (.cells #[.string T] 9) = V7 := ⟨_, rfl⟩
          have hb7 : Below V6.heap.size V6 V7 := by rw [← hV7]; exact (Below.refl _ V6).alloc (Nat.le_refl _) _
          have r7 : V7.heap[V6.heap.size]? = some (.cells #[.string T] 9 (0, 0)) := by rw [← hV7]; exact heap_alloc_new V6 _
          have ho6 : V6.ownsRow w.heap.size 9 1 (.slice oa on oc) on (stR (Ls.map strOf)) := own_keep H5.out.2 (fun x hx => hu6.block x (H5.out.2.lt x hx).2 (fun e => by have := (H5.out.2.lt x hx).1; have := HG.out.1; omega))
          have ho7 : V7.ownsRow w.heap.size 9 1 (.slice oa on oc) on (stR (Ls.map strOf)) := own_keep ho6 (fun x hx => hb7.block x (ho6.lt x hx).2)
          have hu7 : Upd (ctS g q r wa0) w V7 := (H5.out.1.trans hu6 (fun x hx _ => .inl hx)).trans (Upd.of_below (S := fun _ => False) hb7) (fun _ f => f.elim)
          have hon := HS.out.few H0.out
          rw [HL.out] at hon
          obtain ⟨aA, cA, V8, hrA, hoA, hgA, hwA⟩ := addT_own V7 ho7 (txtRow r7) (by omega) hu7.size
          have H8 : Hid (WrS w V8 g q r wa0 m P wt0 bs (k + 1) aA (on + 1) cA (some ⟨g', 0, none⟩) cp (Ls ++ [wt ++ [c]]) []) := by
            have hg := H1.out.2.1
            rw [HR.out, if_pos rfl] at hg
            have hc7 := hc6.below hb7
            have hoaw : ∀ x, ob oa = some x → w.heap.size ≤ x := fun x hx => (HS.out.out.lt x (by rw [ob_slice]; exact hx)).1
            have hlt8 : ∀ x, ctS g q r (some ⟨g', 0, none⟩) x → ob oa ≠ some x := fun x hx e => by
              have h1 := hoaw x e
              have := HG.out
              rcases hx with hx | hx | hx | hx
              · omega
              · omega
              · omega
              · cases hx
                exact HFR.out.2 _ e rfl
            have hc8 : CtIs V8 g q r (some ⟨g', 0, none⟩) cp m (PK ++ [c]) [] := hc7.keep hgA.size (fun x hx => hgA.block x (hc7.lt x hx) (fun e => hlt8 x hx e.symm))
            refine ⟨hg, by rw [H1.out.1]; exact hc8, ?_, ?_, ?_, fun x hx => by cases hx; exact HFR.out.1, ?_⟩
            · have := hc8.ok.one; have := hc8.ok.le; simp; omega
            · rw [List.map_append, List.map_singleton, hT]; exact hoA
            · exact hu7.grown hgA (fun x hx hl => absurd (hoaw x hx) (by omega))
            · intro x hx hy
              have hy' : g' = x := by simpa [ob] using hy
              subst hy'
              rcases hwA with e | e
              · rw [hx] at e
                exact HFR.out.2 g' e.symm rfl
              · rw [hx] at e
                have h1 : g' = V7.heap.size := by simpa using e
                have h2 := hc6.lt g' (.inr (.inr (.inr rfl)))
                have h3 := hb7.size
                omega
          clear hc6 hu6 hT hb7 r7 ho6 ho7 hu7 hoA hgA hwA hon H5 HTK
          go_wp2_with (at_builtin; refine wpList_app V7 rfl _ _ _ _ rfl rfl rfl (hrA _) ?_)
          exact ⟨⟨k + 1, _, _, _, _, _, _, _, by omega, by go_num, rfl, H8.out⟩, by simp [intOf]; omega⟩
    · obtain rfl : k = len := by omega
      clear hS
      go_wp2
      go_ret
      exact ⟨_, _, _, _, _, _, _, rfl, HS.out⟩
end Go.Proofs.Ytebmmhgmbnbnnaa
