/- A walk over Commit. Walks: journal's Pages; load. A walk over Open. Walks over the statements' opened and lives. -/
import Derived.Test.YtdgffocmdkadpaaGreatQF
import Derived.Test.YtdgffocmdkadpaaGreatQD
namespace Go.Proofs.YtdgffocmdkadpaaGreat
open Go.RowKit Go.Shelf Pg
def Px.gd (X : Px) : Px := { X with good := X.now.h }
section
variable {h0 : Nat} {F : Nat → Prop} {w w' : World} {S : Nat → Prop} {g : Nat} {D : Dk} {pb jb n kb kc mb : Nat} {sa : Option Addr} {sc : Nat} {ss : List (Sn × Nat)} {X : Px}
theorem gd_ok (h : X.Ok n) : X.gd.Ok n := { h with good := h.now.h }
theorem Pl.turnG (h : Pl h0 F w S g D pb jb n kb kc mb sa sc ss X) (hc : w'.heap[pb]? = some (.cells (pgA jb X.now.h (.slice (some ⟨kb, 0, none⟩) n kc) (noT n) X.now.h mb (.slice sa ss.length sc)) 109 (0, 0))) (hu : Upd (fun x => x = pb) w w') (hs : w'.heap.size = w.heap.size) : Pl h0 F w' S g D pb jb n kb kc mb sa sc ss X.gd ∧ Fr F w F w' ∧ Below h0 w w' := by
  obtain ⟨f1, f2, ho, f3, f4, f5⟩ := h.frame (.inl rfl) hu hs
  have ap := h.apart
  have hl := h.lt
  exact ⟨{ h with
    disk := f1
    jat := f2
    c := hc
    k := own_keep h.k (fun x hx => by cases hx; exact ho kb ap.pk.symm (hl _ (.inr (.inl rfl))))
    m := h.m.keep (ho mb ap.pm.symm (hl _ (.inr (.inr (.inl rfl)))))
    s := own_keep h.s (fun x hx => ho x (fun e => by rw [ob_slice] at hx; exact ap.sp (by rw [hx, e])) (h.s.lt x hx).2)
    sm := fun p hp => (h.sm p hp).keep (ho _ (ap.mp p hp) (h.sm p hp).lt)
    fF := f5
    h0w := by rw [hs]; exact h.h0w }, f3, f4⟩
end
/-- What a Commit answers; the disk behind it; the pager behind it. -/
def Px.cmC (n : Nat) (X : Px) (D : Dk) : Nat := if X.chg n D = [] then 0 else comCode n D (X.lays n D (X.chP n D n))
def Px.cmD (n : Nat) (X : Px) (D : Dk) : Dk := if X.chg n D = [] then D else comDisk n D (X.lays n D (X.chP n D n))
def Px.cmX (n : Nat) (X : Px) (D : Dk) : Px := ((if X.chg n D = [] then X else X.nxt).kepTo n (X.cmD n D) n).gd.rst
def CmTo (h0 : Nat) (F : Nat → Prop) (w : World) (g : Nat) (D : Dk) (pb jb n : Nat) (X : Px) (e : Ending) (w' : World) : Prop := e = .returned (.int .i64 (X.cmC n D : Int)) ∧ ((X.cmC n D = 0 ∧ PTo h0 F w g (X.cmD n D) pb jb n (X.cmX n D) w') ∨ (X.cmC n D ≠ 0 ∧ Broke h0 F w g (X.cmD n D) w'))
section
variable {h0 : Nat} {F : Nat → Prop} {w : World} {S : Nat → Prop} {g : Nat} {D : Dk} {pb jb n : Nat} {X : Px}
theorem chP_why (hn : 1 ≤ n) : ∀ i ∈ X.chP n D n, X.why n (i : Int) = 0 := fun i hi => by
  unfold Px.chP at hi
  obtain ⟨h1, h2⟩ := List.mem_filter.1 hi
  rw [List.mem_range'_1] at h1
  simp only [Bool.and_eq_true] at h2
  exact why_of h1.1 (by omega) h2.1
theorem chP_len : (X.chP n D n).length ≤ n - 1 := by
  unfold Px.chP
  have := List.length_filter_le (fun i => X.now.h.has i && X.other n D i) (List.range' 1 (n - 1))
  rwa [List.length_range'] at this
theorem chg_cons (h : X.chg n D ≠ []) : X.chg n D = 0 :: X.chP n D n := by
  unfold Px.chg at h ⊢
  split
  · rename_i hc; rw [if_pos hc] at h; exact absurd rfl h
  · rfl
set_option maxRecDepth 100000 in
set_option maxHeartbeats 8000000 in
theorem pcommit_any (h : Pgr h0 F w S g D pb jb n X) (hD : Asks n D) (hwr : D.writes + 200 < 1000000) (hser : X.now.h.ser < 9223372036854775807) (hA2 : X.cmC n D = 0 → Asks n (X.cmD n D)) :
    Calls Tryz.prog 17 #[.pointer (some ⟨pb, 0, none⟩)] w fun e w' => CmTo h0 F w g D pb jb n X e w' := by
  obtain ⟨hok, hn2, hn12⟩ := h.ok
  have HOF := poff_any h hD.len hD.up hwr
  have HD : Hid (Asks n D ∧ D.writes + 200 < 1000000 ∧ X.now.h.ser < 9223372036854775807 ∧ (X.cmC n D = 0 → Asks n (X.cmD n D))) := ⟨hD, hwr, hser, hA2⟩
  clear h hD hwr hser hA2
  go_enter Tryz.func17, Tryz.ntmps17
  go_wp2_with fail
  refine HOF.mono ?_
  rintro e V1 ⟨rfl, F1, S1, hP1, hf1, hb1⟩
  have HCH := pchanged_any hP1 HD.out.1
  have H1 : Hid (Pgr h0 F1 V1 S1 g D pb jb n X ∧ Fr F w F1 V1 ∧ Below h0 w V1) := ⟨hP1, hf1, hb1⟩
  clear HOF hP1 hf1 hb1
  go_wp2_with fail
  refine HCH.mono ?_
  rintro e V2 ⟨a, c, rfl, ho, hb2⟩
  have hPV := H1.out.1.below hb2
  have hfV : Fr F w (mor F1 V1 V2) V2 := H1.out.2.1.trans (Fr.below hb2)
  have hbV : Below h0 w V2 := H1.out.2.2.trans (hb2.mono (h0_of H1.out.1))
  by_cases hnil : X.chg n D = []
  · have hlen : (X.chg n D).length = 0 := by rw [hnil]; rfl
    rw [hlen]
    have HC : Hid (X.cmC n D = 0 ∧ X.cmD n D = D ∧ X.cmX n D = (X.kepTo n D n).gd.rst) := by
      unfold Px.cmX Px.cmC Px.cmD
      rw [if_pos hnil, if_pos hnil, if_pos hnil]
      exact ⟨rfl, rfl, rfl⟩
    have HAX : Hid (Asks n D) := HD.out.1
    have hPx := hPV
    have hfX := hfV
    have hbX := hbV
    clear HCH ho hb2 hlen hnil hPV hfV hbV H1
    have HKP := pkeep_any hPx HAX.out
    have HF1 : Hid (Fr F w (mor F1 V1 V2) V2 ∧ Below h0 w V2) := ⟨hfX, hbX⟩
    clear hPx hfX hbX
    go_wp2_with fail
    refine HKP.mono ?_
    rintro e V5 ⟨rfl, F5, S5, hP5, hf5, hb5⟩
    obtain ⟨hok5, kb, kc, mb, sa, sc, ss, hPl5⟩ := hP5
    have hln := hPl5.lnow
    have hst := hPl5.store_hd1 (X.kepTo n D n).now.h
    obtain ⟨V6, hV6⟩ : ∃ V6, V5.setRow pb (pgA jb (X.kepTo n D n).now.h (.slice (some ⟨kb, 0, none⟩) n kc) (noT n) (X.kepTo n D n).now.h mb (.slice sa ss.length sc)) = V6 := ⟨_, rfl⟩
    rw [hV6] at hst
    have hT6 := hPl5.turnG (w' := V6) (by rw [← hV6]; exact setRow_heap V5 pb _ _ _ _ hPl5.c) (by rw [← hV6]; exact ⟨rfl, rfl, rfl, by rw [size_setRow]; exact Nat.le_refl _, fun x _ hx => setRow_other V5 pb x _ hx⟩) (by rw [← hV6, size_setRow])
    have hP6 : Pgr h0 F5 V6 S5 g D pb jb n (X.kepTo n D n).gd := ⟨gd_ok hok5, kb, kc, mb, sa, sc, ss, hT6.1⟩
    have HRS := preset_any hP6
    have HF6 : Hid (Fr F w F5 V6 ∧ Below h0 w V6) := ⟨(HF1.out.1.trans hf5).trans hT6.2.1, (HF1.out.2.trans hb5).trans hT6.2.2⟩
    have hsz := hdA_size (X.kepTo n D n).now.h
    obtain ⟨hA, hhA⟩ : ∃ hA, hdA (X.kepTo n D n).now.h = hA := ⟨_, rfl⟩
    rw [hhA] at hln hst hsz
    clear HKP hPl5 hT6 hP6 hf5 hb5 hok5 hV6 hhA HF1
    go_wp2_with (refine wpList_load_w (by kernel_rfl) _ _ rfl rfl hln ?_)
    refine HRS.mono ?_
    rintro e V7 ⟨rfl, hT7⟩
    have HE : Hid (PTo h0 F w g D pb jb n (X.kepTo n D n).gd.rst V7) := PTo.trans HF6.out.1 HF6.out.2 hT7
    clear HRS hT7 HF6
    go_wp2
    go_ret
    exact ⟨by rw [HC.out.1]; rfl, .inl ⟨HC.out.1, by rw [HC.out.2.1, HC.out.2.2]; exact HE.out⟩⟩
  · have hcons := chg_cons hnil
    obtain ⟨ids, hids⟩ : ∃ ids, X.chP n D n = ids := ⟨_, rfl⟩
    have hll := chP_len (X := X) (D := D) (n := n)
    have hwy := chP_why (X := X) (D := D) (n := n) (by omega)
    rw [hids] at hcons hll hwy
    have hlen : (X.chg n D).length = ids.length + 1 := by rw [hcons]; rfl
    rw [hlen, hcons] at ho
    rw [hlen]
    have hrow : Rw (mor F1 V1 V2) V2 3 1 a (ids.length + 1) c (intsV (0 :: ids)) := by
      refine ⟨by rw [intsV_len]; simp, ?_⟩
      rcases ho.2 with ⟨h1, h2⟩ | ⟨g', cap', cur, e1, hb0, hr, h3, h4, h5, h6⟩
      · omega
      · cases e1
        exact ⟨h3, h4, fun _ => ⟨g', 0, rfl, lt_of_some hr, .inr ⟨hb0, lt_of_some hr⟩, fun j u hu => by rw [Nat.zero_add]; exact own_at ho hu⟩⟩
    have HST := pstore_any hPV HD.out.1 HD.out.2.1 HD.out.2.2.1 ids hwy (by omega) a c hrow
    have HC : Hid (X.cmC n D = comCode n D (X.lays n D ids) ∧ X.cmD n D = comDisk n D (X.lays n D ids) ∧ X.cmX n D = (X.nxt.kepTo n (X.cmD n D) n).gd.rst) := by
      unfold Px.cmX Px.cmC Px.cmD
      rw [if_neg hnil, if_neg hnil, if_neg hnil, hids]
      exact ⟨rfl, rfl, rfl⟩
    rw [← HC.out.1, ← HC.out.2.1] at HST
    obtain ⟨cc, hcc⟩ : ∃ cc, X.cmC n D = cc := ⟨_, rfl⟩
    obtain ⟨D2, hD2⟩ : ∃ D2, X.cmD n D = D2 := ⟨_, rfl⟩
    rw [hcc, hD2] at HST
    have hcap : ids.length + 1 ≤ c ∧ c ≤ 9223372036854775807 := by have h1 := hrow.2.1; have h2 := hrow.2.2.1; unfold maxLen at h2; omega
    have HF2 : Hid (Fr F w (mor F1 V1 V2) V2 ∧ Below h0 w V2 ∧ X.cmC n D = cc ∧ X.cmD n D = D2) := ⟨hfV, hbV, hcc, hD2⟩
    obtain ⟨m, hm⟩ : ∃ m, ids.length = m := ⟨_, rfl⟩
    rw [hm] at HST hcap ⊢
    have km : (0 : Int) < (m : Int) + 1 := by omega
    clear HCH ho hb2 hlen hnil hPV hfV hbV H1 hrow hcons hll hwy hids hcc hD2 hm
    go_wp2_with fail
    refine HST.mono ?_
    rintro e V4 ⟨rfl, hor⟩
    rcases hor with ⟨hc0, FX, SX, hPx, hf4, hb4⟩ | ⟨hc0, hbr⟩
    · subst hc0
      have hfX := HF2.out.1.trans hf4
      have hbX := HF2.out.2.1.trans hb4
      have HC0 : Hid (X.cmC n D = 0 ∧ X.cmD n D = D2) := HF2.out.2.2
      have HAX : Hid (Asks n D2) := by have := HD.out.2.2.2 HC0.out.1; rwa [HC0.out.2] at this
      clear HST hf4 hb4 HF2
      have HKP := pkeep_any hPx HAX.out
      have HF1 : Hid (Fr F w FX V4 ∧ Below h0 w V4) := ⟨hfX, hbX⟩
      clear hPx hfX hbX
      go_wp2_with fail
      refine HKP.mono ?_
      rintro e V5 ⟨rfl, F5, S5, hP5, hf5, hb5⟩
      obtain ⟨hok5, kb, kc, mb, sa, sc, ss, hPl5⟩ := hP5
      have hln := hPl5.lnow
      have hst := hPl5.store_hd1 (X.nxt.kepTo n D2 n).now.h
      obtain ⟨V6, hV6⟩ : ∃ V6, V5.setRow pb (pgA jb (X.nxt.kepTo n D2 n).now.h (.slice (some ⟨kb, 0, none⟩) n kc) (noT n) (X.nxt.kepTo n D2 n).now.h mb (.slice sa ss.length sc)) = V6 := ⟨_, rfl⟩
      rw [hV6] at hst
      have hT6 := hPl5.turnG (w' := V6) (by rw [← hV6]; exact setRow_heap V5 pb _ _ _ _ hPl5.c) (by rw [← hV6]; exact ⟨rfl, rfl, rfl, by rw [size_setRow]; exact Nat.le_refl _, fun x _ hx => setRow_other V5 pb x _ hx⟩) (by rw [← hV6, size_setRow])
      have hP6 : Pgr h0 F5 V6 S5 g D2 pb jb n (X.nxt.kepTo n D2 n).gd := ⟨gd_ok hok5, kb, kc, mb, sa, sc, ss, hT6.1⟩
      have HRS := preset_any hP6
      have HF6 : Hid (Fr F w F5 V6 ∧ Below h0 w V6) := ⟨(HF1.out.1.trans hf5).trans hT6.2.1, (HF1.out.2.trans hb5).trans hT6.2.2⟩
      have hsz := hdA_size (X.nxt.kepTo n D2 n).now.h
      obtain ⟨hA, hhA⟩ : ∃ hA, hdA (X.nxt.kepTo n D2 n).now.h = hA := ⟨_, rfl⟩
      rw [hhA] at hln hst hsz
      clear HKP hPl5 hT6 hP6 hf5 hb5 hok5 hV6 hhA HF1
      go_wp2_with (refine wpList_load_w (by kernel_rfl) _ _ rfl rfl hln ?_)
      refine HRS.mono ?_
      rintro e V7 ⟨rfl, hT7⟩
      have HE : Hid (PTo h0 F w g D2 pb jb n (X.nxt.kepTo n D2 n).gd.rst V7) := PTo.trans HF6.out.1 HF6.out.2 hT7
      clear HRS hT7 HF6
      go_wp2
      go_ret
      exact ⟨by rw [HC0.out.1]; rfl, .inl ⟨HC0.out.1, by rw [HC.out.2.2, HC0.out.2]; exact HE.out⟩⟩
    · have kc0 : ¬ (cc : Int) = 0 := by omega
      have kc0b : ((cc : Int) == 0) = false := by simpa using hc0
      have kc0n : ((cc : Int) != 0) = true := by simpa using hc0
      have HE : Hid (Broke h0 F w g D2 V4) := by
        obtain ⟨S9, b1, b2, b3, b4, b5⟩ := hbr
        refine ⟨S9, b1, b2, fun x hx => b3 x (HF2.out.1.sub x hx), ⟨Nat.le_trans HF2.out.1.sz b4.sz, fun _ hx => hx, fun x hx hl => (b4.blk x (HF2.out.1.sub x hx) (Nat.lt_of_lt_of_le hl HF2.out.1.sz)).trans (HF2.out.1.blk x hx hl)⟩, HF2.out.2.1.trans b5⟩
      have HCD : Hid (X.cmC n D = cc ∧ X.cmD n D = D2) := HF2.out.2.2
      clear HST hbr HF2
      go_wp2
      go_ret
      exact ⟨by rw [HCD.out.1]; rfl, .inr ⟨by rw [HCD.out.1]; exact hc0, by rw [HCD.out.2]; exact HE.out⟩⟩
end
end Go.Proofs.YtdgffocmdkadpaaGreat
namespace Go.Proofs.YtdgffocmdkadpaaGreat
open Go.RowKit Go.Shelf Pg
theorem jpages_nil (w : World) : Calls Tryz.prog 49 #[.pointer none] w fun e w' => e = .returned (.int .i64 0) ∧ w' = w := by
  go_enter Tryz.func49, Tryz.ntmps49
  go_wp2
  go_ret
  exact ⟨rfl, rfl⟩
theorem jpages_any {w : World} {jb g n : Nat} (h : Jat w jb g n) : Calls Tryz.prog 49 #[.pointer (some ⟨jb, 0, none⟩)] w fun e w' => e = .returned (.int .i64 (n : Int)) ∧ w' = w := by
  obtain ⟨c0, c1⟩ := h.cells
  clear h
  go_enter Tryz.func49, Tryz.ntmps49
  go_wp2
  go_ret
  exact ⟨rfl, rfl⟩
theorem infoT : (Tryz.prog.info? 9).map (fun i => (i.zero, i.size, i.bytes)) = some (some (.string ByteArray.empty), 1, 16) := by kernel_rfl
theorem addT_own (w : World) {base n c b : Nat} {x : ByteArray} {a : Option Addr} {l : List ByteArray} (h : w.ownsRow base 9 1 (.slice a n c) n (strsV l)) (hr : w.heap[b]? = some (.cells #[.string x] 9 (0, 0))) (hn : n + 1 ≤ 1000000) (hb : base ≤ w.heap.size) :
    ∃ a' c' w', (∀ ty, (Builtin.append_ #[38, 38] ty #[.slice a n c, .slice (some ⟨b, 0, none⟩) 1 1]).run Tryz.prog w = .ok (.slice a' (n + 1) c') w') ∧ w'.ownsRow base 9 1 (.slice a' (n + 1) c') (n + 1) (strsV (l ++ [x])) ∧ w.grownBy w' (ob a) := by
  obtain ⟨i, hi, hz, hs, hbb⟩ := info_of infoT
  have h2 : Rw (fun _ => True) w 9 1 (some ⟨b, 0, none⟩) 1 1 [.string x] := by
    refine ⟨rfl, Nat.le_refl _, by unfold maxLen; omega, fun _ => ⟨b, 0, rfl, lt_of_some hr, trivial, fun j u hu => ?_⟩⟩
    rw [Nat.zero_add, cell_of_row _ b _ _ _ _ hr]
    simpa using hu
  obtain ⟨a', c', w', k1, k2, k3, _⟩ := app_own w 38 9 i _ 1 16 Tryz.underlying38 hi hz hs hbb rfl (by omega) h h2 (fun u hu => by simp at hu; subst hu; rfl) (by omega) (by omega) hb
  refine ⟨a', c', w', k1, ?_, k3⟩
  have e : strsV (l ++ [x]) = strsV l ++ [.string x] := by simp [strsV]
  rw [e]
  exact k2
/-- All pages below k. -/
def pgsTo (n : Nat) (D : Dk) (k : Nat) : List ByteArray := (List.range k).map fun i => pgOf n D i
theorem pgsTo_succ (n : Nat) (D : Dk) (k : Nat) : pgsTo n D (k + 1) = pgsTo n D k ++ [pgOf n D k] := by simp [pgsTo, List.range_succ]
theorem pgsTo_len (n : Nat) (D : Dk) (k : Nat) : (pgsTo n D k).length = k := by simp [pgsTo]
set_option maxRecDepth 100000 in
set_option maxHeartbeats 4000000 in
theorem pload_any {w : World} {S : Nat → Prop} {jb g n : Nat} {D : Dk} (h : DiskIs w S g D) (hj : Jat w jb g n) (hn : n ≤ 128) (hD : Asks n D) : Calls Tryz.prog 50 #[.pointer (some ⟨jb, 0, none⟩)] w fun e w' => ∃ a c, e = .returned (.tuple #[.slice a n c, .int .i64 0]) ∧ w'.ownsRow w.heap.size 9 1 (.slice a n c) n (strsV (pgsTo n D n)) ∧ Below w.heap.size w w' := by
  have HPG := jpages_any hj
  have HRD : Hid (∀ W i, Below w.heap.size w W → i < n → Calls Tryz.prog 80 #[.pointer (some ⟨jb, 0, none⟩), .int .i64 (i : Int)] W fun e w' => e = .returned (.tuple #[.string (pgOf n D i), .int .i64 0]) ∧ Below W.heap.size W w') := fun W i hW hi => jread_any (h.below hW) (hj.below hW) hn hD.len hD.up hD.sz i hi
  obtain ⟨B, hB⟩ : ∃ B, w.heap.size = B := ⟨_, rfl⟩
  rw [hB] at HRD
  clear h hj hD
  go_enter Tryz.func50, Tryz.ntmps50
  go_wp2_with fail
  refine HPG.mono ?_
  rintro e V ⟨rfl, hV⟩
  subst V
  clear HPG
  go_wp2
  go_loopw [4, 5, 6, 7, 10] (fun v4 _ _ _ v wr => ∃ (i : Nat) (a : Option Addr) (c : Nat), i ≤ n ∧ v = .int .i64 (i : Int) ∧ v4 = .slice a i c ∧ wr.ownsRow B 9 1 (.slice a i c) i (strsV (pgsTo n D i)) ∧ Below B w wr) (fun _ _ _ _ v _ => n - (intOf v).toNat)
  case atStart => exact ⟨0, none, 0, Nat.zero_le _, rfl, rfl, World.ownsRow_nil _ _ _ _, hB ▸ Below.refl _ w⟩
  case round =>
    obtain ⟨i, a, c, hi, rfl, rfl, ho, hbw⟩ := hrel
    by_cases hlt : i < n
    · have kk : (i : Int) < (n : Int) := by omega
      have HR := HRD.out wr i hbw hlt
      have HO : Hid (wr.ownsRow B 9 1 (.slice a i c) i (strsV (pgsTo n D i)) ∧ Below B w wr ∧ B ≤ wr.heap.size) := ⟨ho, hbw, by rw [← hB]; exact hbw.size⟩
      obtain ⟨t, ht⟩ : ∃ t, pgOf n D i = t := ⟨_, rfl⟩
      rw [ht] at HR
      have HT : Hid (pgsTo n D (i + 1) = pgsTo n D i ++ [t]) := by show _ = _; rw [← ht]; exact pgsTo_succ n D i
      clear ho hbw ht HRD
      go_wp2_with fail
      refine HR.mono ?_
      rintro e V2 ⟨rfl, hV2⟩
      have hs2 : B ≤ V2.heap.size := Nat.le_trans HO.out.2.2 hV2.size
      have hN2 : V2.ownsRow B 9 1 (.slice a i c) i (strsV (pgsTo n D i)) := own_keep HO.out.1 (fun k hk => hV2.block k (HO.out.1.lt k hk).2)
      have hB2 : Below B w V2 := HO.out.2.1.trans (hV2.mono HO.out.2.2)
      obtain ⟨V3, hV3⟩ : ∃ V3, V2.alloc (.cells #[.string t] 9) = V3 := ⟨_, rfl⟩
      have hr3 : V3.heap[V2.heap.size]? = some (.cells #[.string t] 9 (0, 0)) := by rw [← hV3]; exact heap_alloc_new V2 _
      have hB3 : Below B w V3 := by rw [← hV3]; exact hB2.alloc hs2 _
      have hs3 : B ≤ V3.heap.size := by rw [← hV3]; simp; omega
      have hN3 : V3.ownsRow B 9 1 (.slice a i c) i (strsV (pgsTo n D i)) := by rw [← hV3]; exact hN2.alloc _
      obtain ⟨aA, cA, V4, hrA, hoA, hgA⟩ := addT_own V3 hN3 hr3 (by omega) hs3
      have HN : Hid (V4.ownsRow B 9 1 (.slice aA (i + 1) cA) (i + 1) (strsV (pgsTo n D i ++ [t])) ∧ Below B w V4) := ⟨hoA, hB3.grown hgA hs3 (fun k hk => (hN3.lt k (by rw [ob_slice]; exact hk)).1)⟩
      clear HR hV2 HO hN2 hB2 hr3 hB3 hN3 hoA hgA
      go_wp2_with ((at_builtin; refine wpList_app V3 rfl _ _ _ _ rfl rfl rfl (hrA _) ?_))
      exact ⟨⟨i + 1, aA, cA, by omega, by go_num, rfl, by rw [HT.out]; exact HN.out.1, HN.out.2⟩, by simp [intOf]; omega⟩
    · obtain rfl : i = n := by omega
      have kk : ¬ (i : Int) < (i : Int) := by omega
      have HE : Hid (wr.ownsRow B 9 1 (.slice a i c) i (strsV (pgsTo i D i)) ∧ Below B w wr) := ⟨ho, hbw⟩
      clear ho hbw HRD
      go_wp2
      go_ret2
      exact ⟨a, c, rfl, HE.out.1, HE.out.2⟩
end Go.Proofs.YtdgffocmdkadpaaGreat
namespace Go.Proofs.YtdgffocmdkadpaaGreat
open Go.RowKit Go.Shelf Pg
theorem page_sz {K : List ByteArray} (hK : ∀ s ∈ K, s.size = 256) (a : Nat) (ha : a + 4 ≤ K.length) : (pageAt K a).size = 1024 := by
  have h : ∀ j, j < K.length → (at_ K j).size = 256 := fun j hj => hK _ (by unfold at_; rw [List.getD_eq_getElem?_getD, List.getElem?_eq_getElem hj]; exact List.getElem_mem _)
  unfold pageAt
  rw [ByteArray.size_append, ByteArray.size_append, ByteArray.size_append, h a (by omega), h (a + 1) (by omega), h (a + 2) (by omega), h (a + 3) (by omega)]
theorem pgOf_size {n : Nat} {D : Dk} (hD : Asks n D) (i : Nat) (hi : i < n) : (pgOf n D i).size = 1024 := page_sz hD.sz _ (by rw [seen_len]; have := hD.len; omega)
theorem built_pager (jb kb n kc mb : Nat) (G : Hd) (m : Nat) : Tryz.prog.built 109 [(0, .pointer (some ⟨jb, 0, none⟩)), (1, .agg (hdA G)), (2, .slice (some ⟨kb, 0, none⟩) n kc), (4, .agg (stA G mb))] = some (pgA jb G (.slice (some ⟨kb, 0, none⟩) n kc) (noT m) G mb (.slice none 0 0)) := by
  unfold pgA pgL noT
  rw [setL_none]
  kernel_rfl
theorem yields_pager {o : Oper} {a : Act} {w : World} (x0 x1 x2 x4 : Operand) (ho : o.op = .build 109 #[(0, x0), (1, x1), (2, x2), (4, x4)]) (jb kb n kc mb : Nat) (G : Hd) (h0 : a.eval x0 = .pointer (some ⟨jb, 0, none⟩)) (h1 : a.eval x1 = .agg (hdA G)) (h2 : a.eval x2 = .slice (some ⟨kb, 0, none⟩) n kc) (h4 : a.eval x4 = .agg (stA G mb)) : (execOp a.eval o).run Tryz.prog w = .ok (.value (.agg (pgA jb G (.slice (some ⟨kb, 0, none⟩) n kc) (noT n) G mb (.slice none 0 0)))) w := by
  have hb := run_build (P := Tryz.prog) w 109 #[(0, .pointer (some ⟨jb, 0, none⟩)), (1, .agg (hdA G)), (2, .slice (some ⟨kb, 0, none⟩) n kc), (4, .agg (stA G mb))] _ (built_pager jb kb n kc mb G n)
  have e : (#[(0, x0), (1, x1), (2, x2), (4, x4)] : Array (Nat × Operand)).map (fun (i, x) => (i, a.eval x)) = #[(0, .pointer (some ⟨jb, 0, none⟩)), (1, .agg (hdA G)), (2, .slice (some ⟨kb, 0, none⟩) n kc), (4, .agg (stA G mb))] := by
    simp only [List.map_toArray, List.map_cons, List.map_nil, h0, h1, h2, h4]
  unfold execOp
  simp only [ho, Sem.run_bind, e, hb, Result.andThen_ok, Sem.run_pure]
theorem wp_boxP {o : Oper} {a : Act} {w : World} {K : Act → World → Prop} {Q : Exit → Act → World → Prop} (x : Operand) (t : TypeId) (ho : o.op = .box t x) (cs : Array Value) (hx : a.eval x = .agg cs) (hK : K (a.put o.dst (.pointer (some ⟨w.heap.size, 0, none⟩))) (w.alloc (.cells cs t))) : o.wp Tryz.prog a w K Q := by
  unfold Oper.wp execOp
  simp only [ho, hx]
  simp [Instr.box, newVar, go_sem]
  exact hK
theorem popen_nil (w : World) : Calls Tryz.prog 11 #[.pointer none] w fun e w' => e = .returned (.tuple #[.pointer none, .int .i64 1]) ∧ w' = w := by
  have HPG := jpages_nil w
  go_enter Tryz.func11, Tryz.ntmps11
  go_wp2_with fail
  refine HPG.mono ?_
  rintro e V ⟨rfl, hV⟩
  subst V
  go_wp2
  go_ret2
  exact ⟨rfl, rfl⟩
theorem popen_one {w : World} {jb g : Nat} (h : Jat w jb g 1) : Calls Tryz.prog 11 #[.pointer (some ⟨jb, 0, none⟩)] w fun e w' => e = .returned (.tuple #[.pointer none, .int .i64 1]) ∧ w' = w := by
  have HPG := jpages_any h
  clear h
  go_enter Tryz.func11, Tryz.ntmps11
  go_wp2_with fail
  refine HPG.mono ?_
  rintro e V ⟨rfl, hV⟩
  subst V
  go_wp2
  go_ret2
  exact ⟨rfl, rfl⟩
/-- The pager that is opened. -/
def pxOf (n : Nat) (D : Dk) (G : Hd) : Px := ⟨G, pgsTo n D n, ⟨G, Pm.none⟩, []⟩
def OpTo (h0 : Nat) (F : Nat → Prop) (w : World) (S : Nat → Prop) (g : Nat) (D : Dk) (jb n : Nat) (r : Option Hd) (e : Ending) (w' : World) : Prop := match r with
  | none => e = .returned (.tuple #[.pointer none, .int .i64 4]) ∧ Below w.heap.size w w'
  | some G => ∃ pb, e = .returned (.tuple #[.pointer (some ⟨pb, 0, none⟩), .int .i64 0]) ∧ w.heap.size ≤ pb ∧ Pgr h0 F w' S g D pb jb n (pxOf n D G) ∧ Below w.heap.size w w'
theorem pxOf_ok {n : Nat} {D : Dk} {G : Hd} (h : G.Ok n) : (pxOf n D G).Ok n := ⟨h, pgsTo_len n D n, ⟨h, fun i d hd => by cases hd⟩, fun s hs => (by cases hs), Nat.zero_le _⟩
set_option maxRecDepth 100000 in
set_option maxHeartbeats 8000000 in
theorem popen_any {h0 : Nat} {F : Nat → Prop} {w : World} {S : Nat → Prop} {jb g n : Nat} {D : Dk} (h : DiskIs w S g D) (hj : Jat w jb g n) (hD : Asks n D) (hn2 : 2 ≤ n) (hn12 : n ≤ 12) (hSj : ¬ S jb) (h0S : ∀ x, S x → h0 ≤ x) (h0w : h0 ≤ w.heap.size) (hF : ∀ x, F x → ¬ S x ∧ x ≠ jb ∧ x < w.heap.size) :
    Calls Tryz.prog 11 #[.pointer (some ⟨jb, 0, none⟩)] w fun e w' => OpTo h0 F w S g D jb n (parseH n (pgOf n D 0).data.toList) e w' := by
  have HPG := jpages_any hj
  have HLD := pload_any h hj (by omega) hD
  have H0 : Hid (DiskIs w S g D ∧ Jat w jb g n ∧ (pgOf n D 0).size = 1024 ∧ ¬ S jb ∧ (∀ x, S x → h0 ≤ x) ∧ h0 ≤ w.heap.size ∧ ∀ x, F x → ¬ S x ∧ x ≠ jb ∧ x < w.heap.size) := ⟨h, hj, pgOf_size hD 0 (by omega), hSj, h0S, h0w, hF⟩
  have k2 : ¬ (n : Int) < 2 := by omega
  clear h hj hD hSj h0S h0w hF
  obtain ⟨t, ht⟩ : ∃ t, pgOf n D 0 = t := ⟨_, rfl⟩
  rw [ht]
  obtain ⟨r, hr⟩ : ∃ r, parseH n t.data.toList = r := ⟨_, rfl⟩
  rw [hr]
  have HTT : Hid (pgOf n D 0 = t) := ht
  have HR : Hid (parseH n t.data.toList = r) := hr
  clear hr ht
  go_enter Tryz.func11, Tryz.ntmps11
  go_wp2_with fail
  refine HPG.mono ?_
  rintro e V ⟨rfl, hV⟩
  subst V
  clear HPG
  go_wp2_with fail
  refine HLD.mono ?_
  rintro e V ⟨a, c, rfl, ho, hbV⟩
  clear HLD
  obtain ⟨kb, hkb, rfl⟩ : ∃ kb, w.heap.size ≤ kb ∧ a = some ⟨kb, 0, none⟩ := by
    rcases ho.2 with ⟨h1, h2, h3⟩ | ⟨g', cap', cur, e1, hb0, _⟩
    · omega
    · cases e1
      exact ⟨g', hb0, rfl⟩
  have ht := HTT.out
  have c0 : V.cell? ⟨kb, 0, none⟩ = some (.string t) := by
    refine own_at ho (j := 0) ?_
    rw [strsV_at]
    unfold pgsTo
    rw [List.getElem?_map, List.getElem?_range (by omega), ← ht]
    rfl
  have HPA := parse_any t n V (by rw [← ht]; exact H0.out.2.2.1) (by omega) (by omega)
  have hcap : n ≤ c ∧ c ≤ 9223372036854775807 := by
    rcases ho.2 with ⟨h1, h2, h3⟩ | ⟨g', cap', cur, e1, hb0, hr, h3, h4, _⟩
    · omega
    · cases e1
      unfold maxLen at h4
      omega
  have HO : Hid (V.ownsRow w.heap.size 9 1 (.slice (some ⟨kb, 0, none⟩) n c) n (strsV (pgsTo n D n)) ∧ Below w.heap.size w V) := ⟨ho, hbV⟩
  clear ho hbV ht
  rw [HR.out] at HPA
  have hz := zero_head n
  cases r with
  | none =>
    have HPA : Calls Tryz.prog 51 #[.string t, .int .i64 (n : Int)] V fun e w' => e = .returned (.tuple #[.agg (hdA (hd0 n)), .bool false]) ∧ Below V.heap.size V w' := HPA
    go_wp2_with fail
    refine HPA.mono ?_
    rintro e V2 ⟨rfl, hV2⟩
    obtain ⟨V3, hV3⟩ : ∃ V3, V2.alloc (.cells (hdA (hd0 n)) 100) = V3 := ⟨_, rfl⟩
    have hr3 : V3.heap[V2.heap.size]? = some (.cells (hdA (hd0 n)) 100 (0, 0)) := by rw [← hV3]; exact heap_alloc_new V2 _
    have hst := store_hd V3 V2.heap.size (hd0 n) _ _ hr3 (hdA_size _)
    have hsz := hdA_size (hd0 n)
    have HE : Hid (Below w.heap.size w (V3.setRow V2.heap.size (hdA (hd0 n)))) := by
      have hw : w.heap.size ≤ V.heap.size := HO.out.2.size
      have h2 : w.heap.size ≤ V2.heap.size := Nat.le_trans hw hV2.size
      rw [← hV3]
      exact setRow_below ((HO.out.2.trans (hV2.mono hw)).alloc h2 _) h2 _
    clear HPA hV2 HO hr3
    go_wp2
    go_ret2
    exact ⟨rfl, HE.out⟩
  | some G =>
    have HPA : Calls Tryz.prog 51 #[.string t, .int .i64 (n : Int)] V fun e w' => e = .returned (.tuple #[.agg (hdA G), .bool true]) ∧ Below V.heap.size V w' := HPA
    go_wp2_with fail
    refine HPA.mono ?_
    rintro e V2 ⟨rfl, hV2⟩
    obtain ⟨C, hC⟩ : ∃ C, V2.heap.size = C := ⟨_, rfl⟩
    obtain ⟨V3, hV3⟩ : ∃ V3, V2.alloc (.cells (hdA (hd0 n)) 100) = V3 := ⟨_, rfl⟩
    have hr3 : V3.heap[C]? = some (.cells (hdA (hd0 n)) 100 (0, 0)) := by rw [← hV3, ← hC]; exact heap_alloc_new V2 _
    have hst := store_hd V3 C G _ _ hr3 (hdA_size _)
    have hsz := hdA_size G
    obtain ⟨V4, hV4⟩ : ∃ V4, V3.setRow C (hdA G) = V4 := ⟨_, rfl⟩
    rw [hV4] at hst
    have hr4 : V4.heap[C]? = some (.cells (hdA G) 100 (0, 0)) := by rw [← hV4]; exact setRow_heap V3 C _ _ _ _ hr3
    have hb24 : Below V.heap.size V V4 := by
      have h2 : V.heap.size ≤ C := by rw [← hC]; exact hV2.size
      rw [← hV4, ← hV3]
      exact setRow_below (hV2.alloc (by rw [hC]; exact h2) _) h2 _
    have H4 : Hid (V4.heap[C]? = some (.cells (hdA G) 100 (0, 0)) ∧ Below V.heap.size V V4) := ⟨hr4, hb24⟩
    have HL : Hid (∀ W, W.heap[C]? = some (.cells (hdA G) 100 (0, 0)) → (loadVar 100 ⟨C, 0, none⟩).run Tryz.prog W = .ok (.agg (hdA G)) W) := fun W hW => load_head W C G _ _ hW
    have HUN := unchanged_any G V4.drew
    have HFIN : Hid (∀ V5 mb, MapIs V5 mb Pm.none → V4.drew.heap.size ≤ mb → Below V4.drew.heap.size V4.drew V5 → OpTo h0 F w S g D jb n (some G) (.returned (.tuple #[.pointer (some ⟨V5.heap.size, 0, none⟩), .int .i64 0])) (V5.alloc (.cells (pgA jb G (.slice (some ⟨kb, 0, none⟩) n c) (noT n) G mb (.slice none 0 0)) 109))) := by
      intro V5 mb hm hmb hb5
      obtain ⟨hd, hjt, hsz0, hSj, h0S, h0w, hF⟩ := H0.out
      obtain ⟨hrow, hbV⟩ := HO.out
      have hb4 := H4.out.2
      have s1 := hbV.size
      have s2 := hb4.size
      have s3 : V4.heap.size ≤ mb := hmb
      have s4 : V4.heap.size ≤ V5.heap.size := hb5.size
      have hml := hm.lt
      have hw5 : Below w.heap.size w V5 := (hbV.trans (hb4.mono s1)).drew.trans (hb5.mono (show w.heap.size ≤ V4.heap.size by omega))
      have hw6 : Below w.heap.size w (V5.alloc (.cells (pgA jb G (.slice (some ⟨kb, 0, none⟩) n c) (noT n) G mb (.slice none 0 0)) 109)) := hw5.alloc (by omega) _
      have hkl := (hrow.lt kb rfl)
      have hS : ∀ x, S x → x < w.heap.size := hd.bd
      refine ⟨V5.heap.size, rfl, by omega, ⟨pxOf_ok (parse_ok (by omega) (by omega) HR.out).1, kb, c, mb, none, 0, [], ?_⟩, hw6⟩
      have hown : ∀ x, Own V5.heap.size kb mb none [] x → w.heap.size ≤ x := by
        rintro x (e | e | e | e | e)
        · omega
        · omega
        · omega
        · cases e
        · cases e
      have hjl := hjt.lt
      have hk4 : V4.drew.ownsRow w.heap.size 9 1 (.slice (some ⟨kb, 0, none⟩) n c) n (strsV (pgsTo n D n)) := own_keep hrow (fun k hk => hb4.block k (hrow.lt k hk).2)
      have hk5 : V5.ownsRow w.heap.size 9 1 (.slice (some ⟨kb, 0, none⟩) n c) n (strsV (pgsTo n D n)) := own_keep hk4 (fun k hk => hb5.block k (hk4.lt k hk).2)
      have hk6 := own_base (hk5.alloc (.cells (pgA jb G (.slice (some ⟨kb, 0, none⟩) n c) (noT n) G mb (.slice none 0 0)) 109)) (Nat.zero_le _)
      exact { disk := hd.below hw6, jat := hjt.below hw6, c := heap_alloc_new V5 _, k := hk6, m := hm.keep (Below.heap_alloc _ _ _ hml), s := World.ownsRow_nil _ _ _ _, sx := rfl, sm := fun p hp => (by cases hp), nd := by simp, ap := fun x hx => ⟨fun hs => (by have := hown x hx; have := hS x hs; omega), fun e => (by have := hown x hx; omega), Nat.le_trans h0w (hown x hx)⟩, fF := fun x hx => (by have := hF x hx; exact ⟨this.1, fun ho => (by have := hown x ho; omega), this.2.1, Nat.lt_of_lt_of_le this.2.2 hw6.size⟩), sj := hSj, h0S := h0S, h0w := Nat.le_trans h0w hw6.size, n2 := hn2, n12 := hn12 }
    clear HPA hV2 hr3 hr4 hb24 HO
    go_wp2
    refine wp_region_held_drew (S := fun W => (loadVar 100 ⟨C, 0, none⟩).run Tryz.prog W = .ok (.agg (hdA G)) W) (by kernel_rfl) (HL.out V4.drew H4.out.1) (fun hHeld => ?_)
    refine wpAnyH_take (i := 0) (v := ?v0) rfl (by kernel_rfl) (by kernel_rfl) (by kernel_rfl) (fun _ _ _ h => h) (Or.inl ⟨by first | kernel_rfl | rfl, ?y0⟩) hHeld ?r0
    case y0 => (intro W hSW; (try dsimp only at hSW); go_simp; (try with_reducible rfl))
    change wpAnyH _ _ _ _ _ _ _ (Act.put _ (some 30) _) _
    simp only [Act.put, List.setIfInBounds_toArray, List.set_cons_zero, List.set_cons_succ]
    refine wpAnyH_take (i := 2) (v := ?v2) rfl (by kernel_rfl) (by kernel_rfl) (by kernel_rfl) (fun _ _ _ h => h) (Or.inl ⟨by first | kernel_rfl | rfl, ?y2⟩) hHeld ?r2
    case y2 => (intro W hSW; (try dsimp only at hSW); go_simp; (try with_reducible rfl))
    change wpAnyH _ _ _ _ _ _ _ (Act.put _ (some 32) _) _
    simp only [Act.put, List.setIfInBounds_toArray, List.set_cons_zero, List.set_cons_succ]
    refine wpAnyH_take (i := 1) (v := .agg (hdA G)) rfl (by kernel_rfl) (by kernel_rfl) (by kernel_rfl) (fun _ _ _ h => h) (Or.inl ⟨by first | kernel_rfl | rfl, ?y1⟩) hHeld ?r1
    case y1 => (intro W hSW; refine yields_at _ _ rfl rfl (hSW))
    change wpAnyH _ _ _ _ _ _ _ (Act.put _ (some 31) _) _
    simp only [Act.put, List.setIfInBounds_toArray, List.set_cons_zero, List.set_cons_succ]
    refine wpAnyH_take (i := 3) (v := .agg (hdA G)) rfl (by kernel_rfl) (by kernel_rfl) (by kernel_rfl) (fun _ _ _ h => h) (Or.inl ⟨by first | kernel_rfl | rfl, ?y3⟩) hHeld ?r3
    case y3 => (intro W hSW; refine yields_at _ _ rfl rfl (hSW))
    change wpAnyH _ _ _ _ _ _ _ (Act.put _ (some 33) _) _
    simp only [Act.put, List.setIfInBounds_toArray, List.set_cons_zero, List.set_cons_succ]
    refine wpAnyH_ready (rs := [4]) (by kernel_rfl) (by simp) ?_
    refine AllReadyH.cons rfl (fun K hK => ?_) AllReadyH.nil
    go_simp
    refine (HUN).mono ?_
    rintro e V5 ⟨mb, rfl, hm, hmb, hb5⟩
    refine hK.out _ _ (HL.out V5 ((hb5.block C (lt_of_some H4.out.1)).trans H4.out.1)) (fun hHeld => ?_)
    clear hK K
    try simp only [Act.put, List.setIfInBounds_toArray, List.set_cons_zero, List.set_cons_succ]
    refine wpAnyH_take (i := 5) (v := .agg (pgA jb G (.slice (some ⟨kb, 0, none⟩) n c) (noT n) G mb (.slice none 0 0))) rfl (by kernel_rfl) (by kernel_rfl) (by kernel_rfl) (fun _ _ _ h => h) (Or.inl ⟨by first | kernel_rfl | rfl, ?y5⟩) hHeld ?r5
    case y5 => (intro W hSW; exact yields_pager _ _ _ _ rfl jb kb n c mb G rfl rfl rfl rfl)
    change wpAnyH _ _ _ _ _ _ _ (Act.put _ (some 35) _) _
    simp only [Act.put, List.setIfInBounds_toArray, List.set_cons_zero, List.set_cons_succ]
    have hr5 : V5.heap[C]? = some (.cells (hdA G) 100 (0, 0)) := (hb5.block C (lt_of_some H4.out.1)).trans H4.out.1
    have HE := HFIN.out V5 mb hm hmb hb5
    have HE : Hid (OpTo h0 F w S g D jb n (some G) (.returned (.tuple #[.pointer (some ⟨V5.heap.size, 0, none⟩), .int .i64 0])) (V5.alloc (.cells (pgA jb G (.slice (some ⟨kb, 0, none⟩) n c) (noT n) G mb (.slice none 0 0)) 109))) := HE
    refine wpAnyH_ready (rs := [6]) (by kernel_rfl) (by simp) ?_
    refine AllReadyH.cons rfl (fun K hK => ?_) AllReadyH.nil
    rw [if_pos (by rfl)]
    refine wp_boxP _ 109 rfl _ rfl ?_
    skip
    refine hK.out _ _ (HL.out _ ((Below.heap_alloc _ _ _ (lt_of_some hr5)).trans hr5)) (fun hHeld => ?_)
    clear hK K
    change wpAnyH _ _ _ _ _ _ _ (Act.put _ (some 36) _) _
    simp only [Act.put, List.setIfInBounds_toArray, List.set_cons_zero, List.set_cons_succ]
    refine wpAnyH_take (i := 7) (v := ?v7) rfl (by kernel_rfl) (by kernel_rfl) (by kernel_rfl) (fun _ _ _ h => h) (Or.inl ⟨by first | kernel_rfl | rfl, ?y7⟩) hHeld ?r7
    case y7 => (intro W hSW; (try dsimp only at hSW); go_simp; (try with_reducible rfl))
    change wpAnyH _ _ _ _ _ _ _ (Act.put _ (some 2) _) _
    simp only [Act.put, List.setIfInBounds_toArray, List.set_cons_zero, List.set_cons_succ]
    refine wpAnyH_take (i := 8) (v := ?v8) rfl (by kernel_rfl) (by kernel_rfl) (by kernel_rfl) (fun _ _ _ h => h) (Or.inl ⟨by first | kernel_rfl | rfl, ?y8⟩) hHeld ?r8
    case y8 => (intro W hSW; (try dsimp only at hSW); go_simp; (try with_reducible rfl))
    change wpAnyH _ _ _ _ _ _ _ (Act.put _ (some 3) _) _
    simp only [Act.put, List.setIfInBounds_toArray, List.set_cons_zero, List.set_cons_succ]
    refine wpAnyH_done (by kernel_rfl) ?_ _
    go_wp2
    go_ret2
    exact HE.out
end Go.Proofs.YtdgffocmdkadpaaGreat
namespace Go.Proofs.YtdgffocmdkadpaaGreat
open Go.RowKit Go.Shelf Pg
theorem opened_bad (x : Int) (w : World) (h : x < 2 ∨ 10 < x) : Calls Tryz.prog 8 #[.int .i64 x] w fun e w' => e = .returned (.tuple #[.pointer none, .pointer none, .pointer none]) ∧ w' = w := by
  by_cases h1 : x < 2
  · clear h
    go_enter Tryz.func8, Tryz.ntmps8
    go_wp2
    exact bodyPost_ret (v := .tuple #[.pointer none, .pointer none, .pointer none]) (by simp [results, go_sem]) rfl ⟨rfl, rfl⟩
  · have h2 : 10 < x := by omega
    clear h
    go_enter Tryz.func8, Tryz.ntmps8
    go_wp2
    exact bodyPost_ret (v := .tuple #[.pointer none, .pointer none, .pointer none]) (by simp [results, go_sem]) rfl ⟨rfl, rfl⟩
theorem Good.asks {n : Nat} {D : Dk} (h : Good n D) : Asks n D := ⟨by rw [h.ln]; omega, h.up, h.sz.seen⟩
theorem new_pg (n i : Nat) (hi : i < n) : pgOf n (Dk.new (8 * n + 1) nought) i = zeroS := by
  unfold pgOf
  have hs : (Dk.new (8 * n + 1) nought).seen = (Dk.new (8 * n + 1) nought).kept := (Good.new n).seen
  rw [hs]
  have e : ∀ a, a < 8 * n + 1 → at_ (Dk.new (8 * n + 1) nought).kept a = nought := by
    intro a ha
    unfold at_ Dk.new
    simp only
    rw [List.getD_eq_getElem?_getD, List.getElem?_replicate, if_pos ha]
    rfl
  unfold pageAt
  rw [e _ (by omega), e _ (by omega), e _ (by omega), e _ (by omega)]
  unfold nought
  rw [strOf_app, strOf_app, strOf_app, List.replicate_append_replicate, List.replicate_append_replicate, List.replicate_append_replicate]
  rfl
theorem parse_zero (n : Nat) : parseH n zeroS.data.toList = some (newHd n) := by
  unfold parseH
  rw [if_pos (by rfl)]
def dk0 (n : Nat) : Dk := Dk.new (8 * n + 1) nought
def px0 (n : Nat) : Px := pxOf n (dk0 n) (newHd n)
set_option maxRecDepth 100000 in
set_option maxHeartbeats 4000000 in
theorem opened_any (F : Nat → Prop) (n : Nat) (w : World) (h2 : 2 ≤ n) (h10 : n ≤ 10) (hF : ∀ x, F x → x < w.heap.size) : Calls Tryz.prog 8 #[.int .i64 (n : Int)] w fun e w' => ∃ g jb pb S, e = .returned (.tuple #[.pointer (some ⟨g, 0, none⟩), .pointer (some ⟨jb, 0, none⟩), .pointer (some ⟨pb, 0, none⟩)]) ∧ Pgr w.heap.size F w' S g (dk0 n) pb jb n (px0 n) ∧ w.heap.size ≤ jb ∧ Below w.heap.size w w' := by
  have HNW := new_any (8 * n + 1) w (by omega) (by omega)
  obtain ⟨nd, hnde⟩ : ∃ nd : Nat, 8 * n + 1 = nd := ⟨_, rfl⟩
  have kn : 8 * (n : Int) + 1 = (nd : Int) := by omega
  rw [hnde] at HNW
  have k1 : ¬ (n : Int) < 2 := by omega
  have k6 : ¬ (10 : Int) < (n : Int) := by omega
  have HF : Hid (∀ x, F x → x < w.heap.size) := hF
  have HD : Hid (dk0 n = Dk.new nd nought) := by show _ = _; rw [← hnde]; rfl
  clear hF
  go_enter Tryz.func8, Tryz.ntmps8
  go_wp2_with fail
  refine HNW.mono ?_
  rintro e w1 ⟨g, rfl, hd1, hb1⟩
  have hg : Good n (Dk.new nd nought) := by rw [← hnde]; exact Good.new n
  have HO := open_any (n := n) hd1 (by omega) (by omega) (by rw [hg.ln]; omega) hg.up hg.wt hg.sz.k (by have : (Dk.new nd nought).writes = 0 := rfl; omega)
  rw [rec_tidy hg.td] at HO
  have HO : Calls Tryz.prog 22 #[.pointer (some ⟨g, 0, none⟩), .int .i64 (n : Int)] w1 fun e w' => e = .returned (.tuple #[.pointer (some ⟨w1.heap.size, 0, none⟩), .int .i64 0]) ∧ Jat w' w1.heap.size g n ∧ ∃ S', DiskIs w' S' g (Dk.new nd nought) ∧ Upd (fresh w w1) w1 w' ∧ (∀ x, S' x → fresh w w1 x ∨ w1.heap.size ≤ x) ∧ ¬ S' w1.heap.size := HO
  clear HNW
  go_wp2_with fail
  refine HO.mono ?_
  rintro e w2 ⟨rfl, hj2, S2, hd2, hu2, hs2, hnj2⟩
  have hb2 : Below w.heap.size w w2 := hb1.trans (hu2.below hb1.size (fun k hk => hk.1))
  have hS2 : ∀ x, S2 x → w.heap.size ≤ x := fun x hx => (hs2 x hx).elim (fun h => h.1) (fun h => Nat.le_trans hb1.size h)
  obtain ⟨jb, hjb⟩ : ∃ jb, w1.heap.size = jb := ⟨_, rfl⟩
  rw [hjb] at hj2 hnj2
  have hjw : w.heap.size ≤ jb := by rw [← hjb]; exact hb1.size
  rw [← HD.out] at hd2 hg
  have hbw := hb2.size
  have HPO := popen_any (h0 := w.heap.size) (F := F) hd2 hj2 hg.asks h2 (by omega) hnj2 hS2 hb2.size (fun x hx => by have := HF.out x hx; exact ⟨fun hs => by have := hS2 x hs; omega, by omega, by omega⟩)
  have e0 : pgOf n (dk0 n) 0 = zeroS := new_pg n 0 (by omega)
  rw [e0, parse_zero] at HPO
  have HB : Hid (Below w.heap.size w w2 ∧ w.heap.size ≤ jb) := ⟨hb2, hjw⟩
  clear HO hd1 hb1 hd2 hu2 hs2 hnj2 hg hb2 hS2 hj2 hjw e0
  go_wp2_with fail
  refine HPO.mono ?_
  rintro e w3 ⟨pb, rfl, hpb, hP, hb3⟩
  have HE : Hid (Pgr w.heap.size F w3 S2 g (dk0 n) pb jb n (px0 n) ∧ w.heap.size ≤ jb ∧ Below w.heap.size w w3) := ⟨hP, HB.out.2, HB.out.1.trans (hb3.mono HB.out.1.size)⟩
  clear HPO hP hb3 hpb
  go_wp2
  exact bodyPost_ret (v := .tuple #[.pointer (some ⟨g, 0, none⟩), .pointer (some ⟨jb, 0, none⟩), .pointer (some ⟨pb, 0, none⟩)]) (by simp [results, go_sem]) rfl ⟨g, jb, pb, S2, rfl, HE.out⟩
end Go.Proofs.YtdgffocmdkadpaaGreat
