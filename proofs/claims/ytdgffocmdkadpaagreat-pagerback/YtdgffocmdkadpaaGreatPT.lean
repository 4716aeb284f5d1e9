/- Walks: what a Pager is asked. Walks: how many pages are free. A Pager whose blocks are turned, one at a time. -/
import Derived.Test.YtdgffocmdkadpaaGreatPQ
import Derived.BigQuiet
namespace Go.Proofs.YtdgffocmdkadpaaGreat
open Go.RowKit Go.Shelf Pg
theorem ppages_nil (w : World) : Calls Tryz.prog 33 #[.pointer none] w fun e w' => e = .returned (.int .i64 0) ∧ w' = w := by
  go_enter Tryz.func33, Tryz.ntmps33
  go_wp2
  go_ret
  exact ⟨rfl, rfl⟩
theorem pfree_nil (w : World) : Calls Tryz.prog 27 #[.pointer none] w fun e w' => e = .returned (.int .i64 0) ∧ w' = w := by
  go_enter Tryz.func27, Tryz.ntmps27
  go_wp2
  go_ret
  exact ⟨rfl, rfl⟩
theorem pserial_nil (w : World) : Calls Tryz.prog 35 #[.pointer none] w fun e w' => e = .returned (.int .u64 0) ∧ w' = w := by
  go_enter Tryz.func35, Tryz.ntmps35
  go_wp2
  go_ret
  exact ⟨rfl, rfl⟩
theorem pused_nil (id : Int) (w : World) : Calls Tryz.prog 30 #[.pointer none, .int .i64 id] w fun e w' => e = .returned (.bool false) ∧ w' = w := by
  have H := ppages_nil w
  by_cases h : (0 : Int) ≤ id
  · have h2 : ¬ id < 0 := by omega
    go_enter Tryz.func30, Tryz.ntmps30
    go_wp2_with fail
    refine H.mono ?_
    rintro e V ⟨rfl, hV⟩
    subst V
    go_wp2
    go_ret
    exact ⟨rfl, rfl⟩
  · go_enter Tryz.func30, Tryz.ntmps30
    go_wp2
    go_ret
    exact ⟨rfl, rfl⟩
theorem preach_nil (id : Int) (w : World) : Calls Tryz.prog 79 #[.pointer none, .int .i64 id] w fun e w' => e = .returned (.int .i64 1) ∧ w' = w := by
  go_enter Tryz.func79, Tryz.ntmps79
  go_wp2
  go_ret
  exact ⟨rfl, rfl⟩
theorem pread_nil (id : Int) (w : World) : Calls Tryz.prog 29 #[.pointer none, .int .i64 id] w fun e w' => e = .returned (.tuple #[.string ⟨#[]⟩, .int .i64 1]) ∧ w' = w := by
  have H := preach_nil id w
  go_enter Tryz.func29, Tryz.ntmps29
  go_wp2_with fail
  refine H.mono ?_
  rintro e V ⟨rfl, hV⟩
  subst V
  go_wp2
  go_ret2
  exact ⟨rfl, rfl⟩
theorem pwrite_nil (id : Int) (s : ByteArray) (w : World) : Calls Tryz.prog 36 #[.pointer none, .int .i64 id, .string s] w fun e w' => e = .returned (.int .i64 1) ∧ w' = w := by
  have H := preach_nil id w
  go_enter Tryz.func36, Tryz.ntmps36
  go_wp2_with fail
  refine H.mono ?_
  rintro e V ⟨rfl, hV⟩
  subst V
  go_wp2
  go_ret
  exact ⟨rfl, rfl⟩
theorem pgive_nil (id : Int) (w : World) : Calls Tryz.prog 31 #[.pointer none, .int .i64 id] w fun e w' => e = .returned (.int .i64 1) ∧ w' = w := by
  have H := preach_nil id w
  go_enter Tryz.func31, Tryz.ntmps31
  go_wp2_with fail
  refine H.mono ?_
  rintro e V ⟨rfl, hV⟩
  subst V
  go_wp2
  go_ret
  exact ⟨rfl, rfl⟩
theorem palloc_nil (w : World) : Calls Tryz.prog 28 #[.pointer none] w fun e w' => e = .returned (.tuple #[.int .i64 0, .int .i64 1]) ∧ w' = w := by
  go_enter Tryz.func28, Tryz.ntmps28
  go_wp2
  go_ret2
  exact ⟨rfl, rfl⟩
theorem psave_nil (w : World) : Calls Tryz.prog 24 #[.pointer none] w fun e w' => e = .returned (.tuple #[.int .i64 0, .int .i64 1]) ∧ w' = w := by
  go_enter Tryz.func24, Tryz.ntmps24
  go_wp2
  go_ret2
  exact ⟨rfl, rfl⟩
theorem pback_nil (id : Int) (w : World) : Calls Tryz.prog 25 #[.pointer none, .int .i64 id] w fun e w' => e = .returned (.int .i64 1) ∧ w' = w := by
  go_enter Tryz.func25, Tryz.ntmps25
  go_wp2
  go_ret
  exact ⟨rfl, rfl⟩
theorem pchanged_nil (w : World) : Calls Tryz.prog 18 #[.pointer none] w fun e w' => e = .returned (.slice none 0 0) ∧ w' = w := by
  go_enter Tryz.func18, Tryz.ntmps18
  go_wp2
  go_ret
  exact ⟨rfl, rfl⟩
theorem poff_nil (w : World) : Calls Tryz.prog 61 #[.pointer none] w fun e w' => e = .returned (.int .i64 1) ∧ w' = w := by
  go_enter Tryz.func61, Tryz.ntmps61
  go_wp2
  go_ret
  exact ⟨rfl, rfl⟩
theorem pcommit_nil (w : World) : Calls Tryz.prog 17 #[.pointer none] w fun e w' => e = .returned (.int .i64 1) ∧ w' = w := by
  have H := poff_nil w
  go_enter Tryz.func17, Tryz.ntmps17
  go_wp2_with fail
  refine H.mono ?_
  rintro e V ⟨rfl, hV⟩
  subst V
  go_wp2
  go_ret
  exact ⟨rfl, rfl⟩
theorem pabort_nil (w : World) : Calls Tryz.prog 32 #[.pointer none] w fun e w' => e = .returned (.tuple #[]) ∧ w' = w := by
  have H := poff_nil w
  go_enter Tryz.func32, Tryz.ntmps32
  go_wp2_with fail
  refine H.mono ?_
  rintro e V ⟨rfl, hV⟩
  subst V
  go_wp2
  refine bodyPost_end (v := .tuple #[]) ?_ rfl ⟨rfl, rfl⟩
  simp [results, go_sem]
theorem proot_nil (k : Int) (w : World) : Calls Tryz.prog 34 #[.pointer none, .int .i64 k] w fun e w' => e = .returned (.int .i64 0) ∧ w' = w := by
  go_enter Tryz.func34, Tryz.ntmps34
  go_wp2
  go_ret
  exact ⟨rfl, rfl⟩
theorem ppoint_nil (k id : Int) (w : World) : Calls Tryz.prog 38 #[.pointer none, .int .i64 k, .int .i64 id] w fun e w' => e = .returned (.int .i64 1) ∧ w' = w := by
  go_enter Tryz.func38, Tryz.ntmps38
  go_wp2
  go_ret
  exact ⟨rfl, rfl⟩
section
variable {h0 : Nat} {F : Nat → Prop} {w : World} {S : Nat → Prop} {g : Nat} {D : Dk} {pb jb n : Nat} {X : Px}
theorem Pgr.cells (h : Pgr h0 F w S g D pb jb n X) : w.cell? ⟨pb, 0, none⟩ = some (.pointer (some ⟨jb, 0, none⟩)) ∧ w.cell? ⟨pb, 39, none⟩ = some (.int .u64 (X.now.h.ser : Int)) ∧ ∃ kb kc, w.cell? ⟨pb, 22, none⟩ = some (.slice (some ⟨kb, 0, none⟩) n kc) := by
  obtain ⟨_, kb, kc, mb, sa, sc, ss, h⟩ := h
  exact ⟨h.cells.1, h.cells.2.2.1, kb, kc, h.cells.2.1⟩
theorem Pgr.lused (h : Pgr h0 F w S g D pb jb n X) : (loadVar 98 ⟨pb, 44, none⟩).run Tryz.prog w = .ok (.agg (setA X.now.h.u)) w := by
  obtain ⟨_, kb, kc, mb, sa, sc, ss, h⟩ := h
  exact h.lused
theorem Pgr.ok (h : Pgr h0 F w S g D pb jb n X) : X.Ok n ∧ 2 ≤ n ∧ n ≤ 12 := by
  obtain ⟨hok, kb, kc, mb, sa, sc, ss, h⟩ := h
  exact ⟨hok, h.n2, h.n12⟩
theorem ppages_any (h : Pgr h0 F w S g D pb jb n X) : Calls Tryz.prog 33 #[.pointer (some ⟨pb, 0, none⟩)] w fun e w' => e = .returned (.int .i64 (n : Int)) ∧ w' = w := by
  obtain ⟨_, _, kb, kc, c2⟩ := h.cells
  clear h
  go_enter Tryz.func33, Tryz.ntmps33
  go_wp2
  go_ret
  exact ⟨rfl, rfl⟩
theorem pserial_any (h : Pgr h0 F w S g D pb jb n X) : Calls Tryz.prog 35 #[.pointer (some ⟨pb, 0, none⟩)] w fun e w' => e = .returned (.int .u64 (X.now.h.ser : Int)) ∧ w' = w := by
  obtain ⟨_, c1, _, _, _⟩ := h.cells
  clear h
  go_enter Tryz.func35, Tryz.ntmps35
  go_wp2
  go_ret
  exact ⟨rfl, rfl⟩
def Hd.usedI (h : Hd) (id : Int) : Bool := decide (0 ≤ id) && h.has id.toNat
set_option maxHeartbeats 1000000 in
theorem pused_any (h : Pgr h0 F w S g D pb jb n X) (id : Int) : Calls Tryz.prog 30 #[.pointer (some ⟨pb, 0, none⟩), .int .i64 id] w fun e w' => e = .returned (.bool (Hd.usedI X.now.h id)) ∧ Below w.heap.size w w' := by
  have HPG := ppages_any h
  have hu := h.lused
  obtain ⟨hok, hn2, hn12⟩ := h.ok
  have HO : Hid (∀ i : Nat, n ≤ i → X.now.h.has i = false) := fun i hi => Hd.has_out hok.now.h.len hi
  have hbr : Below w.heap.size w w := Below.refl _ _
  by_cases h0 : id < 0
  · have h0' : ¬ (0 : Int) ≤ id := by omega
    have HE : Hid (Hd.usedI X.now.h id = false) := by unfold Hd.usedI; rw [decide_eq_false h0']; rfl
    clear h hok
    go_enter Tryz.func30, Tryz.ntmps30
    go_wp2
    go_ret
    exact ⟨by rw [HE.out]; rfl, hbr⟩
  · obtain ⟨i, rfl⟩ := Int.eq_ofNat_of_zero_le (show 0 ≤ id by omega)
    have HE : Hid (Hd.usedI X.now.h (i : Int) = X.now.h.has i) := by
      show _ = _
      unfold Hd.usedI
      rw [decide_eq_true (by omega), Bool.true_and, show ((i : Int)).toNat = i by omega]
    by_cases hi : i < n
    · have kk : (i : Int) < (n : Int) := by omega
      have HH := phas_any X.now.h.u i (by omega) w
      have hq : X.now.h.u.getD i false = X.now.h.has i := rfl
      rw [hq] at HH
      clear h hok hq
      go_enter Tryz.func30, Tryz.ntmps30
      go_wp2_with (first | (go_at_call 33; refine HPG.mono ?_; rintro e V9 ⟨rfl, hV9⟩; subst V9) | (refine wpList_load_w (by kernel_rfl) _ _ rfl rfl hu ?_))
      refine HH.mono ?_
      rintro e V ⟨rfl, hV⟩
      have HB : Hid (Below w.heap.size w V) := hV
      clear HH hV
      go_wp2
      go_ret
      exact ⟨by rw [HE.out]; rfl, HB.out⟩
    · have kk : ¬ (i : Int) < (n : Int) := by omega
      have HE2 : Hid (X.now.h.has i = false) := HO.out i (by omega)
      clear h hok
      go_enter Tryz.func30, Tryz.ntmps30
      go_wp2_with (go_at_call 33; refine HPG.mono ?_; rintro e V9 ⟨rfl, hV9⟩; subst V9)
      go_ret
      exact ⟨by rw [HE.out, HE2.out]; rfl, hbr⟩
/-- Why a page can't be used. -/
def Px.why (n : Nat) (X : Px) (id : Int) : Nat := if id < 1 ∨ (n : Int) ≤ id then 9 else if X.now.h.has id.toNat then 0 else 6
set_option maxHeartbeats 1000000 in
theorem preach_any (h : Pgr h0 F w S g D pb jb n X) (id : Int) : Calls Tryz.prog 79 #[.pointer (some ⟨pb, 0, none⟩), .int .i64 id] w fun e w' => e = .returned (.int .i64 (X.why n id : Int)) ∧ Below w.heap.size w w' := by
  have HPG := ppages_any h
  have HUS := pused_any h id
  have hbr : Below w.heap.size w w := Below.refl _ _
  by_cases h0 : id < 1
  · have HE : Hid (X.why n id = 9) := by show _ = _; unfold Px.why; rw [if_pos (.inl h0)]
    clear h HUS
    go_enter Tryz.func79, Tryz.ntmps79
    go_wp2
    go_ret
    exact ⟨by rw [HE.out]; rfl, hbr⟩
  · by_cases hn : (n : Int) ≤ id
    · have HE : Hid (X.why n id = 9) := by show _ = _; unfold Px.why; rw [if_pos (.inr hn)]
      clear h HUS
      go_enter Tryz.func79, Tryz.ntmps79
      go_wp2_with (go_at_call 33; refine HPG.mono ?_; rintro e V9 ⟨rfl, hV9⟩; subst V9)
      go_ret
      exact ⟨by rw [HE.out]; rfl, hbr⟩
    · have kn : id < (n : Int) := by omega
      have hus : Hd.usedI X.now.h id = X.now.h.has id.toNat := by unfold Hd.usedI; rw [decide_eq_true (by omega), Bool.true_and]
      rw [hus] at HUS
      cases hh : X.now.h.has id.toNat
      · have HE : Hid (X.why n id = 6) := by show _ = _; unfold Px.why; rw [if_neg (by omega), hh]; rfl
        rw [hh] at HUS
        clear h hus hh
        go_enter Tryz.func79, Tryz.ntmps79
        go_wp2_with (go_at_call 33; refine HPG.mono ?_; rintro e V9 ⟨rfl, hV9⟩; subst V9)
        refine HUS.mono ?_
        rintro e V ⟨rfl, hV⟩
        have HB : Hid (Below w.heap.size w V) := hV
        clear HUS hV
        go_wp2
        go_ret
        exact ⟨by rw [HE.out]; rfl, HB.out⟩
      · have HE : Hid (X.why n id = 0) := by show _ = _; unfold Px.why; rw [if_neg (by omega), hh]; rfl
        rw [hh] at HUS
        clear h hus hh
        go_enter Tryz.func79, Tryz.ntmps79
        go_wp2_with (go_at_call 33; refine HPG.mono ?_; rintro e V9 ⟨rfl, hV9⟩; subst V9)
        refine HUS.mono ?_
        rintro e V ⟨rfl, hV⟩
        have HB : Hid (Below w.heap.size w V) := hV
        clear HUS hV
        go_wp2
        go_ret
        exact ⟨by rw [HE.out]; rfl, HB.out⟩
def Px.rootI (X : Px) (k : Int) : Nat := if 0 ≤ k ∧ k < 4 then X.now.h.root k.toNat else 0
set_option maxHeartbeats 1000000 in
theorem proot_any (h : Pgr h0 F w S g D pb jb n X) (k : Int) : Calls Tryz.prog 34 #[.pointer (some ⟨pb, 0, none⟩), .int .i64 k] w fun e w' => e = .returned (.int .i64 (X.rootI k : Int)) ∧ w' = w := by
  by_cases h1 : k < 0
  · have HE : Hid (X.rootI k = 0) := by show _ = _; unfold Px.rootI; rw [if_neg (by omega)]
    clear h
    go_enter Tryz.func34, Tryz.ntmps34
    go_wp2
    go_ret
    exact ⟨by rw [HE.out]; rfl, rfl⟩
  · obtain ⟨j, rfl⟩ := Int.eq_ofNat_of_zero_le (show 0 ≤ k by omega)
    by_cases h2 : j < 4
    · have HE : Hid (X.rootI (j : Int) = X.now.h.root j) := by
        show _ = _
        unfold Px.rootI
        rw [if_pos (by omega), show ((j : Int)).toNat = j by omega]
      have kk : ¬ (4 : Int) ≤ (j : Int) := by omega
      have cr : w.cell? ⟨pb, 40 + j, none⟩ = some (.int .i64 ((X.now.h.root j : Nat) : Int)) := by
        obtain ⟨_, kb, kc, mb, sa, sc, ss, h⟩ := h
        rw [cell_of_row w pb _ _ _ _ h.c]
        exact pgA_root j h2
      clear h
      go_enter Tryz.func34, Tryz.ntmps34
      go_wp2
      go_ret
      exact ⟨by rw [HE.out]; rfl, rfl⟩
    · have HE : Hid (X.rootI (j : Int) = 0) := by show _ = _; unfold Px.rootI; rw [if_neg (by omega)]
      have kk : (4 : Int) ≤ (j : Int) := by omega
      clear h
      go_enter Tryz.func34, Tryz.ntmps34
      go_wp2
      go_ret
      exact ⟨by rw [HE.out]; rfl, rfl⟩
/-- What a page has now. -/
def Px.read (n : Nat) (X : Px) (D : Dk) (id : Int) : ByteArray := if X.why n id = 0 then (match X.now.m id.toNat with | some s => s | none => pageAt D.seen (1 + 4 * n + 4 * id.toNat)) else ⟨#[]⟩
theorem torn_none (n i : Nat) : (noT n).getD i false = false := false_getD n i
set_option maxRecDepth 100000 in
set_option maxHeartbeats 2000000 in
theorem pread_any (h : Pgr h0 F w S g D pb jb n X) (hkn : 8 * n + 1 ≤ D.kept.length) (hu : D.up = true) (hsz : ∀ s ∈ D.seen, s.size = 256) (id : Int) : Calls Tryz.prog 29 #[.pointer (some ⟨pb, 0, none⟩), .int .i64 id] w fun e w' => e = .returned (.tuple #[.string (X.read n D id), .int .i64 (X.why n id : Int)]) ∧ Below w.heap.size w w' := by
  have HRE := preach_any h id
  obtain ⟨cd, hcd⟩ : ∃ cd, X.why n id = cd := ⟨_, rfl⟩
  rw [hcd] at HRE ⊢
  by_cases hc : cd = 0
  · have hcd0 := hcd
    rw [hc] at HRE hcd
    have hid : 1 ≤ id ∧ id < (n : Int) := by
      unfold Px.why at hcd
      split at hcd
      · cases hcd
      · omega
    obtain ⟨i, rfl⟩ := Int.eq_ofNat_of_zero_le (show 0 ≤ id by omega)
    have HR : Hid (X.read n D (i : Int) = match X.now.m i with | some s => s | none => pageAt D.seen (1 + 4 * n + 4 * i)) := by
      show _ = _
      unfold Px.read
      rw [if_pos hcd, show ((i : Int)).toNat = i by omega]
    have HH : Hid (Pgr h0 F w S g D pb jb n X) := h
    obtain ⟨_, hn2, hn12⟩ := h.ok
    have HD : Hid (8 * n + 1 ≤ D.kept.length ∧ D.up = true ∧ ∀ s ∈ D.seen, s.size = 256) := ⟨hkn, hu, hsz⟩
    subst hc
    clear hcd hcd0 h hkn hu hsz
    go_enter Tryz.func29, Tryz.ntmps29
    go_wp2_with fail
    refine HRE.mono ?_
    rintro e V ⟨rfl, hV⟩
    obtain ⟨_, kb, kc, mb, sa, sc, ss, hP⟩ := HH.out.below hV
    obtain ⟨c0, c22, c39, c60, c61⟩ := hP.cells
    have hlk0 := hP.m.look i (by omega)
    cases hm : X.now.m i with
    | some s =>
      rw [hm] at HR
      have hlk : (Instr.lookup 103 (.map (some mb)) (.int .i64 (i : Int)) true).run Tryz.prog V = .ok (.tuple #[.agg #[.int .i64 (i : Int), .string s], .bool true]) V := by
        rw [hlk0]
        unfold lookV
        rw [hm]
        rfl
      have HB : Hid (Below w.heap.size w V) := hV
      clear hP hV HH HRE hm c0 c22 c39 c61 HD hlk0
      go_wp2
      go_ret2
      refine ⟨by rw [HR.out]; rfl, ?_⟩
      exact HB.out.alloc HB.out.size _
    | none =>
      rw [hm] at HR
      have hlk : (Instr.lookup 103 (.map (some mb)) (.int .i64 (i : Int)) true).run Tryz.prog V = .ok (.tuple #[.agg #[.int .i64 0, .string ⟨#[]⟩], .bool false]) V := by
        rw [hlk0]
        unfold lookV
        rw [hm]
        rfl
      obtain ⟨V1, hV1⟩ : ∃ V1, V.alloc (.cells #[.int .i64 0, .string ⟨#[]⟩] 32) = V1 := ⟨_, rfl⟩
      have hB1 : Below V.heap.size V V1 := by rw [← hV1]; exact (Below.refl _ V).alloc (Nat.le_refl _) _
      have hP1 := hP.below hB1
      have HJR := jread_any hP1.disk hP1.jat (by omega) HD.out.1 HD.out.2.1 HD.out.2.2 i (by omega)
      have HB1 : Hid (Below w.heap.size w V1) := hV.trans (hB1.mono hV.size)
      have c0' : (V.alloc (.cells #[.int .i64 0, .string ⟨#[]⟩] 32)).cell? ⟨pb, 0, none⟩ = some (.pointer (some ⟨jb, 0, none⟩)) := by rw [hV1]; exact hP1.cells.1
      rw [← hV1] at HJR
      have HV1 : Hid (V.alloc (.cells #[.int .i64 0, .string ⟨#[]⟩] 32) = V1) := hV1
      clear hV1
      have HP1 : Hid (Pl h0 (mor (mor F w V) V V1) V1 S g D pb jb n kb kc mb sa sc ss X) := hP1
      clear hP hV HH HRE hm c0 c22 c39 c61 hB1 hP1 HD hlk0
      obtain ⟨tx, htx⟩ : ∃ tx, pageAt D.seen (1 + 4 * n + 4 * i) = tx := ⟨_, rfl⟩
      rw [htx] at HJR HR
      clear htx
      go_wp2_with fail
      refine HJR.mono ?_
      rintro e V2 ⟨rfl, hV2⟩
      rw [HV1.out] at hV2
      have hP2 := HP1.out.below hV2
      have hlt := hP2.ltorn
      have HT := phas_any (noT n) i (by omega) V2
      rw [torn_none] at HT
      have HB2 : Hid (Below w.heap.size w V2) := HB1.out.trans (hV2.mono HB1.out.size)
      clear HJR hV2 hP2 HP1 HB1 c0' HV1
      go_wp2_with (refine wpList_load_w (by kernel_rfl) _ _ rfl rfl hlt ?_)
      refine HT.mono ?_
      rintro e V3 ⟨rfl, hV3⟩
      have HB3 : Hid (Below w.heap.size w V3) := HB2.out.trans (hV3.mono HB2.out.size)
      clear HT hV3 hlt
      go_wp2
      go_ret2
      exact ⟨by rw [HR.out]; rfl, HB3.out⟩
  · have kc : ¬ (cd : Int) = 0 := by omega
    have HE : Hid (X.read n D id = ⟨#[]⟩) := by
      show _ = _
      unfold Px.read
      rw [if_neg (by rw [hcd]; exact hc)]
    clear hcd h
    go_enter Tryz.func29, Tryz.ntmps29
    go_wp2_with fail
    refine HRE.mono ?_
    rintro e V ⟨rfl, hV⟩
    have HB : Hid (Below w.heap.size w V) := hV
    clear HRE hV
    go_wp2
    go_ret2
    exact ⟨by rw [HE.out]; rfl, HB.out⟩
end
end Go.Proofs.YtdgffocmdkadpaaGreat
namespace Go.Proofs.YtdgffocmdkadpaaGreat
open Go.RowKit Go.Shelf Pg
theorem yields_at {P : Program} {o : Oper} {a : Act} {w : World} (ty : TypeId) (x : Operand) (ho : o.op = .load ty x) {ad : Addr} {v : Value} (hx : a.eval x = .pointer (some ad)) (hl : (loadVar ty ad).run P w = .ok v w) : (execOp a.eval o).run P w = .ok (.value v) w := by
  unfold execOp
  simp only [ho, hx, Instr.loadAt, Instr.sureAddr, Sem.run_bind, Sem.run_pure, Result.andThen_ok, hl]
theorem ppages_cell {w : World} {pb n kc : Nat} {a : Option Addr} (c : w.cell? ⟨pb, 22, none⟩ = some (.slice a n kc)) : Calls Tryz.prog 33 #[.pointer (some ⟨pb, 0, none⟩)] w fun e w' => e = .returned (.int .i64 (n : Int)) ∧ w' = w := by
  go_enter Tryz.func33, Tryz.ntmps33
  go_wp2
  go_ret
  exact ⟨rfl, rfl⟩
def Px.free (X : Px) : Nat := X.now.h.u.count false
set_option maxRecDepth 100000 in
set_option maxHeartbeats 2000000 in
theorem pfree_any {h0 : Nat} {F : Nat → Prop} {w : World} {S : Nat → Prop} {g : Nat} {D : Dk} {pb jb n : Nat} {X : Px} (h : Pgr h0 F w S g D pb jb n X) : Calls Tryz.prog 27 #[.pointer (some ⟨pb, 0, none⟩)] w fun e w' => e = .returned (.int .i64 (X.free : Int)) ∧ Below w.heap.size w w' := by
  obtain ⟨hok, hn2, hn12⟩ := h.ok
  have hlen := hok.now.h.len
  have hcf := count_free X.now.h.u
  obtain ⟨_, kb, kc, mb, sa, sc, ss, h⟩ := h
  obtain ⟨cs, hcs⟩ : ∃ cs, pgA jb X.good (.slice (some ⟨kb, 0, none⟩) n kc) (noT n) X.now.h mb (.slice sa ss.length sc) = cs := ⟨_, rfl⟩
  have hc := h.c
  rw [hcs] at hc
  have HC : Hid (w.heap[pb]? = some (.cells cs 109 (0, 0)) ∧ Below w.heap.size w w) := ⟨hc, Below.refl _ _⟩
  have HU : Hid (∀ W : World, W.heap[pb]? = some (.cells cs 109 (0, 0)) → (loadVar 98 ⟨pb, 44, none⟩).run Tryz.prog W = .ok (.agg (setA X.now.h.u)) W) := fun W hW => load_used W pb 44 X.now.h _ _ _ hW (fun _ hj => by rw [← hcs]; exact pgA_used _ hj)
  have HPG : Hid (∀ W : World, W.heap[pb]? = some (.cells cs 109 (0, 0)) → Calls Tryz.prog 33 #[.pointer (some ⟨pb, 0, none⟩)] W fun e w' => e = .returned (.int .i64 (n : Int)) ∧ w' = W) := fun W hW => ppages_cell (kc := kc) (a := some ⟨kb, 0, none⟩) (by rw [cell_of_row W pb _ _ _ _ hW, ← hcs]; exact pgA_22)
  have HCN : Hid (∀ W : World, Calls Tryz.prog 75 #[.agg (setA X.now.h.u)] W fun e w' => e = .returned (.int .i64 ((X.now.h.u.count true : Nat) : Int)) ∧ Below W.heap.size W w') := fun W => pcount_any X.now.h.u (by omega) W
  obtain ⟨ct, hct⟩ : ∃ ct, X.now.h.u.count true = ct := ⟨_, rfl⟩
  have HF : Hid (ct + X.free = n) := by
    show ct + X.now.h.u.count false = n
    rw [← hct, hcf, hlen]
  rw [hct] at HCN
  have hctn : ct ≤ n := by have := HF.out; omega
  clear h hc hcs hok hlen hcf hct
  go_enter Tryz.func27, Tryz.ntmps27
  go_wp2_with fail
  refine wp_region_held_drew (S := fun W => W.heap[pb]? = some (.cells cs 109 (0, 0)) ∧ Below w.heap.size w W) (by kernel_rfl) (⟨HC.out.1, HC.out.2.drew⟩) (fun hHeld => ?_)
  refine wpAnyH_take (i := 0) (v := ?v0) rfl (by kernel_rfl) (by kernel_rfl) (by kernel_rfl) (fun _ _ _ h => h) (Or.inl ⟨by first | kernel_rfl | rfl, ?y0⟩) hHeld ?r0
  case y0 => (intro W hSW; (try dsimp only at hSW); go_simp; (try with_reducible rfl))
  change wpAnyH _ _ _ _ _ _ _ (Act.put _ (some 5) _) _
  simp only [Act.put, List.setIfInBounds_toArray, List.set_cons_zero, List.set_cons_succ]
  refine wpAnyH_take (i := 2) (v := ?v2) rfl (by kernel_rfl) (by kernel_rfl) (by kernel_rfl) (fun _ _ _ h => h) (Or.inl ⟨by first | kernel_rfl | rfl, ?y2⟩) hHeld ?r2
  case y2 => (intro W hSW; (try dsimp only at hSW); go_simp; (try with_reducible rfl))
  change wpAnyH _ _ _ _ _ _ _ (Act.put _ (some 7) _) _
  simp only [Act.put, List.setIfInBounds_toArray, List.set_cons_zero, List.set_cons_succ]
  refine wpAnyH_take (i := 3) (v := ?v3) rfl (by kernel_rfl) (by kernel_rfl) (by kernel_rfl) (fun _ _ _ h => h) (Or.inl ⟨by first | kernel_rfl | rfl, ?y3⟩) hHeld ?r3
  case y3 => (intro W hSW; (try dsimp only at hSW); go_simp; (try with_reducible rfl))
  change wpAnyH _ _ _ _ _ _ _ (Act.put _ (some 8) _) _
  simp only [Act.put, List.setIfInBounds_toArray, List.set_cons_zero, List.set_cons_succ]
  refine wpAnyH_take (i := 4) (v := ?v4) rfl (by kernel_rfl) (by kernel_rfl) (by kernel_rfl) (fun _ _ _ h => h) (Or.inl ⟨by first | kernel_rfl | rfl, ?y4⟩) hHeld ?r4
  case y4 => (intro W hSW; (try dsimp only at hSW); go_simp; (try with_reducible rfl))
  change wpAnyH _ _ _ _ _ _ _ (Act.put _ (some 9) _) _
  simp only [Act.put, List.setIfInBounds_toArray, List.set_cons_zero, List.set_cons_succ]
  refine wpAnyH_take (i := 5) (v := ?v5) rfl (by kernel_rfl) (by kernel_rfl) (by kernel_rfl) (fun _ _ _ h => h) (Or.inl ⟨by first | kernel_rfl | rfl, ?y5⟩) hHeld ?r5
  case y5 => (intro W hSW; (try dsimp only at hSW); go_simp; (try with_reducible rfl))
  change wpAnyH _ _ _ _ _ _ _ (Act.put _ (some 10) _) _
  simp only [Act.put, List.setIfInBounds_toArray, List.set_cons_zero, List.set_cons_succ]
  refine wpAnyH_take (i := 6) (v := ?v6) rfl (by kernel_rfl) (by kernel_rfl) (by kernel_rfl) (fun _ _ _ h => h) (Or.inl ⟨by first | kernel_rfl | rfl, ?y6⟩) hHeld ?r6
  case y6 => (intro W hSW; (try dsimp only at hSW); go_simp; (try with_reducible rfl))
  change wpAnyH _ _ _ _ _ _ _ (Act.put _ (some 11) _) _
  simp only [Act.put, List.setIfInBounds_toArray, List.set_cons_zero, List.set_cons_succ]
  refine wpAnyH_take (i := 7) (v := .agg (setA X.now.h.u)) rfl (by kernel_rfl) (by kernel_rfl) (by kernel_rfl) (fun _ _ _ h => h) (Or.inl ⟨by first | kernel_rfl | rfl, ?y7⟩) hHeld ?r7
  case y7 => (intro W hSW; refine yields_at _ _ rfl rfl (HU.out W hSW.1))
  change wpAnyH _ _ _ _ _ _ _ (Act.put _ (some 12) _) _
  simp only [Act.put, List.setIfInBounds_toArray, List.set_cons_zero, List.set_cons_succ]
  refine wpAnyH_ready (rs := [1]) (by kernel_rfl) (by simp) ?_
  refine AllReadyH.cons rfl (fun K hK => ?_) AllReadyH.nil
  go_simp
  refine (HPG.out _ hHeld.1).mono ?_
  rintro e V ⟨rfl, hV⟩; subst V
  refine hK.out _ _ (hHeld) (fun hHeld => ?_)
  clear hK K
  try simp only [Act.put, List.setIfInBounds_toArray, List.set_cons_zero, List.set_cons_succ]
  refine wpAnyH_ready (rs := [8]) (by kernel_rfl) (by simp) ?_
  refine AllReadyH.cons rfl (fun K hK => ?_) AllReadyH.nil
  go_simp
  refine (HCN.out _).mono ?_
  rintro e V ⟨rfl, hV⟩
  refine hK.out _ _ (⟨(hV.block pb (lt_of_some hHeld.1)).trans hHeld.1, hHeld.2.trans (hV.mono hHeld.2.size)⟩) (fun hHeld => ?_)
  clear hK K
  try simp only [Act.put, List.setIfInBounds_toArray, List.set_cons_zero, List.set_cons_succ]
  refine wpAnyH_take (i := 9) (v := ?v9) rfl (by kernel_rfl) (by kernel_rfl) (by kernel_rfl) (fun _ _ _ h => h) (Or.inl ⟨by first | kernel_rfl | rfl, ?y9⟩) hHeld ?r9
  case y9 => (intro W hSW; (try dsimp only at hSW); go_simp; (try with_reducible rfl))
  change wpAnyH _ _ _ _ _ _ _ (Act.put _ (some 14) _) _
  simp only [Act.put, List.setIfInBounds_toArray, List.set_cons_zero, List.set_cons_succ]
  refine wpAnyH_take (i := 10) (v := ?v10) rfl (by kernel_rfl) (by kernel_rfl) (by kernel_rfl) (fun _ _ _ h => h) (Or.inl ⟨by first | kernel_rfl | rfl, ?y10⟩) hHeld ?r10
  case y10 => (intro W hSW; (try dsimp only at hSW); go_simp; (try with_reducible rfl))
  change wpAnyH _ _ _ _ _ _ _ (Act.put _ (some 2) _) _
  simp only [Act.put, List.setIfInBounds_toArray, List.set_cons_zero, List.set_cons_succ]
  refine wpAnyH_done (by kernel_rfl) ?_ _
  go_wp2
  go_ret
  refine ⟨ret_int ?_, hHeld.2⟩
  have := HF.out
  have e : IntKind.i64.wrap ((n : Int) - (ct : Int)) = (X.free : Int) := by
    unfold IntKind.wrap
    simp [IntKind.signed, IntKind.bits]
    omega
  exact e
end Go.Proofs.YtdgffocmdkadpaaGreat
namespace Go.Proofs.YtdgffocmdkadpaaGreat
open Go.RowKit Go.Shelf Pg
theorem own_cells {W : World} {base e sz n c : Nat} {a : Option Addr} {xs : List Value} (h : W.ownsRow base e sz (.slice a n c) n xs) {x : Nat} (hx : ob a = some x) : ∃ cur, W.heap[x]? = some (.cells cur e (0, 0)) := by
  rcases h.2 with ⟨h2, _⟩ | ⟨g', cap', cur, e, hb, hr, _⟩
  · cases h2
    cases hx
  · cases e
    cases hx
    exact ⟨cur, hr⟩
section
variable {h0 : Nat} {F : Nat → Prop} {w w' : World} {S : Nat → Prop} {g : Nat} {D : Dk} {pb jb n kb kc mb : Nat} {sa : Option Addr} {sc : Nat} {ss : List (Sn × Nat)} {X : Px}
structure Apart (pb kb mb : Nat) (sa : Option Addr) (ss : List (Sn × Nat)) : Prop where
  pk : pb ≠ kb
  pm : pb ≠ mb
  km : kb ≠ mb
  sp : ob sa ≠ some pb
  sk : ob sa ≠ some kb
  sm : ob sa ≠ some mb
  mp : ∀ p ∈ ss, p.2 ≠ pb
  mkb : ∀ p ∈ ss, p.2 ≠ kb
  mm : ∀ p ∈ ss, p.2 ≠ mb
  ms : ∀ p ∈ ss, ob sa ≠ some p.2
theorem Pl.apart (h : Pl h0 F w S g D pb jb n kb kc mb sa sc ss X) : Apart pb kb mb sa ss := by
  obtain ⟨ck, hk⟩ := own_cells h.k (x := kb) rfl
  obtain ⟨es, cl, hm⟩ := h.m.blk
  have hc := h.c
  have hs : ∀ x, ob sa = some x → ∃ cur, w.heap[x]? = some (.cells cur 105 (0, 0)) := fun x hx => own_cells h.s hx
  refine ⟨fun e => ?_, fun e => ?_, fun e => ?_, fun e => ?_, fun e => ?_, fun e => ?_, fun p hp e => ?_, fun p hp e => ?_, fun p hp e => ?_, fun p hp e => ?_⟩
  · rw [e, hk] at hc
    simp only [Option.some.injEq, Obj.cells.injEq] at hc
    exact absurd hc.2.1 (by decide)
  · rw [e, hm] at hc; cases hc
  · rw [e, hm] at hk; cases hk
  · obtain ⟨cur, hx⟩ := hs _ e
    rw [hx] at hc
    simp only [Option.some.injEq, Obj.cells.injEq] at hc
    exact absurd hc.2.1 (by decide)
  · obtain ⟨cur, hx⟩ := hs _ e
    rw [hx] at hk
    simp only [Option.some.injEq, Obj.cells.injEq] at hk
    exact absurd hk.2.1 (by decide)
  · obtain ⟨cur, hx⟩ := hs _ e
    rw [hx] at hm; cases hm
  · obtain ⟨es2, cl2, hx⟩ := (h.sm p hp).blk
    rw [e, hc] at hx; cases hx
  · obtain ⟨es2, cl2, hx⟩ := (h.sm p hp).blk
    rw [e, hk] at hx; cases hx
  · have := (List.nodup_cons.1 h.nd).1
    exact this (by rw [← e]; exact List.mem_map.2 ⟨p, hp, rfl⟩)
  · obtain ⟨es2, cl2, hx⟩ := (h.sm p hp).blk
    obtain ⟨cur, hy⟩ := hs _ e
    rw [hx] at hy; cases hy
/-- What turning one own block leaves. -/
theorem Pl.frame (h : Pl h0 F w S g D pb jb n kb kc mb sa sc ss X) {b : Nat} (hb : Own pb kb mb sa ss b) (hu : Upd (fun x => x = b) w w') (hs : w'.heap.size = w.heap.size) : DiskIs w' S g D ∧ Jat w' jb g n ∧ (∀ x, x ≠ b → x < w.heap.size → w'.heap[x]? = w.heap[x]?) ∧ Fr F w F w' ∧ Below h0 w w' ∧ ∀ x, F x → ¬ S x ∧ ¬ Own pb kb mb sa ss x ∧ x ≠ jb ∧ x < w'.heap.size := by
  have ho : ∀ x, x ≠ b → x < w.heap.size → w'.heap[x]? = w.heap[x]? := fun x hx hl => hu.block x hl hx
  obtain ⟨a1, a2, a3⟩ := h.ap b hb
  refine ⟨h.disk.keep fun x hx => ho x (fun e => a1 (by rw [← e]; exact hx)) (h.disk.bd x hx), (ho jb (fun e => a2 e.symm) h.jat.lt).trans h.jat, ho, ⟨by omega, fun _ h => h, fun x hx hl => ho x (fun e => (h.fF x hx).2.1 (by rw [e]; exact hb)) hl⟩, hu.below h.h0w (fun k hk => by rw [show k = b from hk]; exact a3), fun x hx => ?_⟩
  have := h.fF x hx
  exact ⟨this.1, this.2.1, this.2.2.1, by omega⟩
/-- The map of what is written is another one. -/
theorem Pl.turnM (h : Pl h0 F w S g D pb jb n kb kc mb sa sc ss X) {M : Pm} (hm : MapIs w' mb M) (hu : Upd (fun x => x = mb) w w') (hs : w'.heap.size = w.heap.size) : Pl h0 F w' S g D pb jb n kb kc mb sa sc ss { X with now := ⟨X.now.h, M⟩ } ∧ Fr F w F w' ∧ Below h0 w w' := by
  obtain ⟨f1, f2, ho, f3, f4, f5⟩ := h.frame (.inr (.inr (.inl rfl))) hu hs
  have ap := h.apart
  have hl := h.lt
  refine ⟨{ h with disk := f1, jat := f2, c := (ho pb ap.pm (hl _ (.inl rfl))).trans h.c, k := own_keep h.k (fun x hx => by cases hx; exact ho kb ap.km (hl _ (.inr (.inl rfl)))), m := hm, s := own_keep h.s (fun x hx => ?_), sm := fun p hp => (h.sm p hp).keep (ho _ (ap.mm p hp) (h.sm p hp).lt), fF := f5, h0w := by rw [hs]; exact h.h0w }, f3, f4⟩
  rw [ob_slice] at hx
  exact ho x (fun e => ap.sm (by rw [← e]; exact hx)) (hl _ (.inr (.inr (.inr (.inl hx)))))
/-- Its heads are other ones. -/
theorem Pl.turnC (h : Pl h0 F w S g D pb jb n kb kc mb sa sc ss X) {gd hd : Hd} (hc : w'.heap[pb]? = some (.cells (pgA jb gd (.slice (some ⟨kb, 0, none⟩) n kc) (noT n) hd mb (.slice sa ss.length sc)) 109 (0, 0))) (hu : Upd (fun x => x = pb) w w') (hs : w'.heap.size = w.heap.size) : Pl h0 F w' S g D pb jb n kb kc mb sa sc ss { X with good := gd, now := ⟨hd, X.now.m⟩ } ∧ Fr F w F w' ∧ Below h0 w w' := by
  obtain ⟨f1, f2, ho, f3, f4, f5⟩ := h.frame (.inl rfl) hu hs
  have ap := h.apart
  have hl := h.lt
  refine ⟨{ h with disk := f1, jat := f2, c := hc, k := own_keep h.k (fun x hx => by cases hx; exact ho kb ap.pk.symm (hl _ (.inr (.inl rfl)))), m := h.m.keep (ho mb ap.pm.symm (hl _ (.inr (.inr (.inl rfl))))), s := own_keep h.s (fun x hx => ?_), sm := fun p hp => (h.sm p hp).keep (ho _ (ap.mp p hp) (h.sm p hp).lt), fF := f5, h0w := by rw [hs]; exact h.h0w }, f3, f4⟩
  rw [ob_slice] at hx
  exact ho x (fun e => ap.sp (by rw [← e]; exact hx)) (hl _ (.inr (.inr (.inr (.inl hx)))))
end
section
variable {jb : Nat} {good : Hd} {kv : Value} {tn : List Bool} {now : Hd} {mb : Nat} {sv : Value}
theorem pgA_eq {a b : Array Value} (h : a.size = b.size) (e : ∀ i, i < a.size → a[i]? = b[i]?) : a = b := by
  apply Array.ext h
  intro i h1 h2
  have := e i h1
  rw [Array.getElem?_eq_getElem h1, Array.getElem?_eq_getElem h2] at this
  exact Option.some.inj this
theorem pgA_setnow (i : Nat) (v : Value) (now' : Hd) (hi : i < 21) (h : (hdL now).set i v = hdL now') : (pgA jb good kv tn now mb sv).setIfInBounds (39 + i) v = pgA jb good kv tn now' mb sv := by
  unfold pgA
  simp only [List.setIfInBounds_toArray]
  congr 1
  unfold pgL
  rw [List.set_append_right _ _ (by simp; omega), List.set_append_right _ _ (by simp [hdL_len]; omega), List.set_append_right _ _ (by simp [hdL_len]; omega), List.set_append_right _ _ (by simp [hdL_len, setL_len]; omega), List.set_append_left _ _ (by simp [hdL_len, setL_len]; omega)]
  have e : 39 + i - [Value.pointer (some ⟨jb, 0, none⟩)].length - (hdL good).length - [kv].length - (setL tn).length = i := by simp [hdL_len, setL_len]; omega
  rw [e, h]
theorem hdL_point (k id : Nat) (hk : k < 4) : (hdL now).set (1 + k) (.int .i64 (id : Int)) = hdL (now.point k id) := by
  match k, hk with
  | 0, _ => rfl
  | 1, _ => rfl
  | 2, _ => rfl
  | 3, _ => rfl
theorem hdL_used (i : Nat) (b : Bool) (hi : i < now.u.length) (h8 : i < 128) : (hdL now).set (5 + i / 8) (.int .u8 ((bitN (now.u.set i b) (i / 8) : Nat) : Int)) = hdL { now with u := now.u.set i b } := by
  have := hdA_set now i b hi h8
  unfold hdA at this
  simp only [List.setIfInBounds_toArray] at this
  exact List.toArray_inj this
end
/-- What is done to heads and states keeps them right. -/
theorem Hd.point_ok {n : Nat} {h : Hd} (ok : h.Ok n) (k id : Nat) (hk : k < 4) (hid : id < n) (hu : h.has id = true) : (h.point k id).Ok n := by
  have hh : ∀ i, (h.point k id).has i = h.has i := fun i => by unfold Hd.has; rw [Hd.point_u]
  refine ⟨by rw [Hd.point_u]; exact ok.len, by rw [hh]; exact ok.u0, fun j hj => ?_, by rw [Hd.point_ser]; exact ok.ser⟩
  rw [hh]
  have hr : (h.point k id).root j = if j = k then id else h.root j := by
    match j, hj, k, hk with
    | 0, _, 0, _ => rfl
    | 0, _, 1, _ => rfl
    | 0, _, 2, _ => rfl
    | 0, _, 3, _ => rfl
    | 1, _, 0, _ => rfl
    | 1, _, 1, _ => rfl
    | 1, _, 2, _ => rfl
    | 1, _, 3, _ => rfl
    | 2, _, 0, _ => rfl
    | 2, _, 1, _ => rfl
    | 2, _, 2, _ => rfl
    | 2, _, 3, _ => rfl
    | 3, _, 0, _ => rfl
    | 3, _, 1, _ => rfl
    | 3, _, 2, _ => rfl
    | 3, _, 3, _ => rfl
  rw [hr]
  split
  · exact ⟨hid, hu⟩
  · exact ok.k j hj
theorem Hd.add_ok {n : Nat} {h : Hd} (ok : h.Ok n) (i : Nat) (hi : i < n) : ({ h with u := h.u.set i true } : Hd).Ok n := by
  have hh : ∀ j, ({ h with u := h.u.set i true } : Hd).has j = if j = i then true else h.has j := fun j => Pg.getD_set h.u i j true (by rw [ok.len]; exact hi)
  refine ⟨(by simp [ok.len]), (by rw [hh]; split <;> first | rfl | exact ok.u0), fun k hk => ?_, ok.ser⟩
  have := ok.k k hk
  refine ⟨this.1, ?_⟩
  rw [hh]
  split
  · rfl
  · exact this.2
theorem Hd.drop_ok {n : Nat} {h : Hd} (ok : h.Ok n) (i : Nat) (hi1 : 1 ≤ i) (hi : i < n) (hr : ∀ k, k < 4 → h.root k ≠ i) : ({ h with u := h.u.set i false } : Hd).Ok n := by
  have hh : ∀ j, ({ h with u := h.u.set i false } : Hd).has j = if j = i then false else h.has j := fun j => Pg.getD_set h.u i j false (by rw [ok.len]; exact hi)
  refine ⟨(by simp [ok.len]), (by rw [hh, if_neg (by omega)]; exact ok.u0), fun k hk => ?_, ok.ser⟩
  have := ok.k k hk
  refine ⟨this.1, ?_⟩
  rw [hh]
  have hr' : ({ h with u := h.u.set i false } : Hd).root k ≠ i := hr k hk
  rw [if_neg hr']
  exact this.2
end Go.Proofs.YtdgffocmdkadpaaGreat
