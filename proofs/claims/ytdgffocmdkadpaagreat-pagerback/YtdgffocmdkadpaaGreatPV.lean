/- Walks: what is done to a Pager: lay, Write, Alloc, Give, Point. Walks: Give, Point. -/
import Derived.Test.YtdgffocmdkadpaaGreatPT
namespace Go.Proofs.YtdgffocmdkadpaaGreat
open Go.RowKit Go.Shelf Pg
/-- A Pager that was turned. -/
def PTo (h0 : Nat) (F : Nat → Prop) (w : World) (g : Nat) (D : Dk) (pb jb n : Nat) (X : Px) (w' : World) : Prop := ∃ F' S', Pgr h0 F' w' S' g D pb jb n X ∧ Fr F w F' w' ∧ Below h0 w w'
section
variable {h0 : Nat} {F : Nat → Prop} {w : World} {S : Nat → Prop} {g : Nat} {D : Dk} {pb jb n : Nat} {X : Px}
theorem PTo.below (h : Pgr h0 F w S g D pb jb n X) {w' : World} (hb : Below w.heap.size w w') : PTo h0 F w g D pb jb n X w' := ⟨_, S, h.below hb, Fr.below hb, hb.mono (by obtain ⟨_, kb, kc, mb, sa, sc, ss, h⟩ := h; exact h.h0w)⟩
theorem PTo.trans {w1 w2 : World} {X2 : Px} {D2 : Dk} {F1 : Nat → Prop} (h1 : Fr F w F1 w1) (h2 : Below h0 w w1) (h3 : PTo h0 F1 w1 g D2 pb jb n X2 w2) : PTo h0 F w g D2 pb jb n X2 w2 := by
  obtain ⟨F2, S2, a, b, c⟩ := h3
  exact ⟨F2, S2, a, h1.trans b, h2.trans c⟩
def Px.put (X : Px) (i : Nat) (s : ByteArray) : Px := { X with now := ⟨X.now.h, X.now.m.put i s⟩ }
theorem put_ok (hok : X.Ok n) (i : Nat) (s : ByteArray) (hi1 : 1 ≤ i) (hi : i < n) (hu : X.now.h.has i = true) (hs : s.size = 1024) : Sn.Ok n ⟨X.now.h, X.now.m.put i s⟩ :=
  ⟨hok.now.h, fun j d hd => by
    unfold Pm.put at hd
    simp only at hd
    split at hd
    · rename_i e
      cases hd
      rw [e]
      exact ⟨hi1, hi, hu, hs⟩
    · exact hok.now.m j d hd⟩
set_option maxRecDepth 100000 in
set_option maxHeartbeats 1000000 in
theorem play_any (h : Pgr h0 F w S g D pb jb n X) (i : Nat) (s : ByteArray) (hi1 : 1 ≤ i) (hi : i < n) (hu : X.now.h.has i = true) (hs : s.size = 1024) : Calls Tryz.prog 77 #[.pointer (some ⟨pb, 0, none⟩), .int .i64 (i : Int), .string s] w fun e w' => e = .returned (.tuple #[]) ∧ PTo h0 F w g D pb jb n (X.put i s) w' := by
  obtain ⟨hok, hn2, hn12⟩ := h.ok
  obtain ⟨_, kb, kc, mb, sa, sc, ss, h⟩ := h
  obtain ⟨c0, c22, c39, c60, c61⟩ := h.cells
  obtain ⟨w1, hrun, hm1, hu1, hs1⟩ := h.m.store i (by omega) s
  have hT := h.turnM hm1 hu1 hs1
  have HE : Hid (PTo h0 F w g D pb jb n (X.put i s) w1) := ⟨F, S, ⟨{ hok with now := put_ok hok i s hi1 hi hu hs }, kb, kc, mb, sa, sc, ss, hT.1⟩, hT.2.1, hT.2.2⟩
  have hrun : (Instr.mapUpdate 103 (.map (some mb)) (.int .i64 (i : Int)) (.agg #[.int .i64 (i : Int), .string s])).run Tryz.prog w = .ok () w1 := hrun
  clear h hm1 hu1 hs1 hT hok
  go_enter Tryz.func77, Tryz.ntmps77
  go_wp2
  refine bodyPost_end (v := .tuple #[]) ?_ rfl ⟨rfl, HE.out⟩
  simp [results, go_sem]
theorem why_zero {id : Int} (h : X.why n id = 0) : ∃ i : Nat, id = (i : Int) ∧ 1 ≤ i ∧ i < n ∧ X.now.h.has i = true := by
  unfold Px.why at h
  split at h
  · cases h
  · rename_i h1
    split at h
    · rename_i h2
      exact ⟨id.toNat, by omega, by omega, by omega, h2⟩
    · cases h
theorem why_of {i : Nat} (h1 : 1 ≤ i) (h2 : i < n) (h3 : X.now.h.has i = true) : X.why n (i : Int) = 0 := by
  unfold Px.why
  rw [if_neg (by omega), show ((i : Int)).toNat = i by omega, h3]
  rfl
def Px.wcode (n : Nat) (X : Px) (id : Int) (s : ByteArray) : Nat := if X.why n id = 0 then (if s.size = 1024 then 0 else 1) else X.why n id
def Px.wput (n : Nat) (X : Px) (id : Int) (s : ByteArray) : Px := if X.wcode n id s = 0 then X.put id.toNat s else X
theorem h0_of (h : Pgr h0 F w S g D pb jb n X) : h0 ≤ w.heap.size := by
  obtain ⟨_, kb, kc, mb, sa, sc, ss, h⟩ := h
  exact h.h0w
set_option maxRecDepth 100000 in
set_option maxHeartbeats 1000000 in
theorem pwrite_any (h : Pgr h0 F w S g D pb jb n X) (id : Int) (s : ByteArray) (hs : s.size ≤ 1000000) : Calls Tryz.prog 36 #[.pointer (some ⟨pb, 0, none⟩), .int .i64 id, .string s] w fun e w' => e = .returned (.int .i64 (X.wcode n id s : Int)) ∧ PTo h0 F w g D pb jb n (X.wput n id s) w' := by
  have HRE := preach_any h id
  have hh0 := h0_of h
  have HH : Hid (Pgr h0 F w S g D pb jb n X) := h
  by_cases hc : X.why n id = 0
  · obtain ⟨i, rfl, hi1, hi2, hi3⟩ := why_zero hc
    rw [hc] at HRE
    by_cases hz : s.size = 1024
    · have HE : Hid (X.wcode n (i : Int) s = 0 ∧ X.wput n (i : Int) s = X.put i s) := by
        have e1 : X.wcode n (i : Int) s = 0 := by unfold Px.wcode; rw [if_pos hc, if_pos hz]
        refine ⟨e1, ?_⟩
        unfold Px.wput
        rw [if_pos e1, show ((i : Int)).toNat = i by omega]
      have kz : (s.size : Int) = 1024 := by omega
      have HZ : Hid (s.size = 1024) := hz
      clear hc h hz
      go_enter Tryz.func36, Tryz.ntmps36
      go_wp2_with fail
      refine HRE.mono ?_
      rintro e V ⟨rfl, hV⟩
      have HCL := sclone_any s V hs
      have HPV : Hid (Pgr h0 (mor F w V) V S g D pb jb n X ∧ Fr F w (mor F w V) V ∧ Below h0 w V) := ⟨HH.out.below hV, Fr.below hV, hV.mono hh0⟩
      clear HRE hV
      go_wp2_with fail
      refine HCL.mono ?_
      rintro e V1 ⟨rfl, hV1⟩
      have hP1 := HPV.out.1.below hV1
      have HLA := play_any hP1 i s hi1 hi2 hi3 HZ.out
      have HPV1 : Hid (Fr F w (mor (mor F w V) V V1) V1 ∧ Below h0 w V1) := ⟨HPV.out.2.1.trans (Fr.below hV1), HPV.out.2.2.trans (hV1.mono (h0_of HPV.out.1))⟩
      clear HCL hV1 hP1 HPV
      go_wp2_with fail
      refine HLA.mono ?_
      rintro e V2 ⟨rfl, hV2⟩
      have HE2 : Hid (PTo h0 F w g D pb jb n (X.put i s) V2) := PTo.trans HPV1.out.1 HPV1.out.2 hV2
      clear HLA hV2 HPV1
      go_wp2
      go_ret
      exact ⟨by rw [HE.out.1]; rfl, by rw [HE.out.2]; exact HE2.out⟩
    · have HE : Hid (X.wcode n (i : Int) s = 1 ∧ X.wput n (i : Int) s = X) := by
        have e1 : X.wcode n (i : Int) s = 1 := by unfold Px.wcode; rw [if_pos hc, if_neg hz]
        refine ⟨e1, ?_⟩
        unfold Px.wput
        rw [if_neg (by omega)]
      have kz : ¬ (s.size : Int) = 1024 := by omega
      clear hc h hz
      go_enter Tryz.func36, Tryz.ntmps36
      go_wp2_with fail
      refine HRE.mono ?_
      rintro e V ⟨rfl, hV⟩
      have HE2 : Hid (PTo h0 F w g D pb jb n X V) := PTo.below HH.out hV
      clear HRE hV
      go_wp2
      go_ret
      exact ⟨by rw [HE.out.1]; rfl, by rw [HE.out.2]; exact HE2.out⟩
  · have HE : Hid (X.wcode n id s = X.why n id ∧ X.wput n id s = X) := by
      have e1 : X.wcode n id s = X.why n id := by unfold Px.wcode; rw [if_neg hc]
      refine ⟨e1, ?_⟩
      unfold Px.wput
      rw [if_neg (by rw [e1]; exact hc)]
    obtain ⟨cd, hcd⟩ : ∃ cd, X.why n id = cd := ⟨_, rfl⟩
    rw [hcd] at HRE hc HE
    have kc : ¬ (cd : Int) = 0 := by omega
    clear hcd h hc
    go_enter Tryz.func36, Tryz.ntmps36
    go_wp2_with fail
    refine HRE.mono ?_
    rintro e V ⟨rfl, hV⟩
    have HE2 : Hid (PTo h0 F w g D pb jb n X V) := PTo.below HH.out hV
    clear HRE hV
    go_wp2
    go_ret
    exact ⟨by rw [HE.out.1]; rfl, by rw [HE.out.2]; exact HE2.out⟩
/-- A page more is used. -/
def Px.used (X : Px) (i : Nat) (b : Bool) : Px := { X with now := ⟨{ X.now.h with u := X.now.h.u.set i b }, X.now.m⟩ }
theorem Pl.used {kb kc mb : Nat} {sa : Option Addr} {sc : Nat} {ss : List (Sn × Nat)} (h : Pl h0 F w S g D pb jb n kb kc mb sa sc ss X) (i : Nat) (b : Bool) (hi : i < X.now.h.u.length) (h8 : i < 128) {w' : World} (hp : Put1 pb (44 + i / 8) (.int .u8 ((bitN (X.now.h.u.set i b) (i / 8) : Nat) : Int)) (pgA jb X.good (.slice (some ⟨kb, 0, none⟩) n kc) (noT n) X.now.h mb (.slice sa ss.length sc)) 109 w w') :
    Pl h0 F w' S g D pb jb n kb kc mb sa sc ss (X.used i b) ∧ Fr F w F w' ∧ Below h0 w w' := by
  have hc := hp.1
  rw [show 44 + i / 8 = 39 + (5 + i / 8) by omega, pgA_setnow (5 + i / 8) _ { X.now.h with u := X.now.h.u.set i b } (by omega) (hdL_used i b hi h8)] at hc
  exact h.turnC hc hp.2.1 hp.2.2
/-- What Alloc does. -/
def Px.alc (X : Px) (i : Nat) : Px := (X.used i true).put i zeroS
theorem alc_ok (hok : X.Ok n) (i : Nat) (hi : i < n) (hi1 : 1 ≤ i) : (X.used i true).Ok n ∧ (X.used i true).now.h.has i = true ∧ (X.alc i).Ok n := by
  have hu : (X.used i true).now.h.has i = true := by
    show (X.now.h.u.set i true).getD i false = true
    rw [Pg.getD_set _ _ _ _ (by rw [hok.now.h.len]; exact hi), if_pos rfl]
  have h1 : (X.used i true).Ok n := { hok with now := ⟨Hd.add_ok hok.now.h i hi, fun j d hd => by
    have := hok.now.m j d hd
    refine ⟨this.1, this.2.1, ?_, this.2.2.2⟩
    show (X.now.h.u.set i true).getD j false = true
    rw [Pg.getD_set _ _ _ _ (by rw [hok.now.h.len]; exact hi)]
    split
    · rfl
    · exact this.2.2.1⟩ }
  exact ⟨h1, hu, { h1 with now := put_ok h1 i zeroS hi1 hi hu zeroS_size }⟩
def AlTo (h0 : Nat) (F : Nat → Prop) (w : World) (g : Nat) (D : Dk) (pb jb n : Nat) (X : Px) (e : Ending) (w' : World) : Prop :=
  (∃ i : Nat, 1 ≤ i ∧ i < n ∧ X.now.h.has i = false ∧ (∀ j, j < i → X.now.h.has j = true) ∧ e = .returned (.tuple #[.int .i64 (i : Int), .int .i64 0]) ∧ PTo h0 F w g D pb jb n (X.alc i) w') ∨ ((∀ j, j < n → X.now.h.has j = true) ∧ e = .returned (.tuple #[.int .i64 0, .int .i64 5]) ∧ PTo h0 F w g D pb jb n X w')
set_option maxRecDepth 100000 in
set_option maxHeartbeats 2000000 in
theorem palloc_any (h : Pgr h0 F w S g D pb jb n X) : Calls Tryz.prog 28 #[.pointer (some ⟨pb, 0, none⟩)] w fun e w' => AlTo h0 F w g D pb jb n X e w' := by
  have HPG := ppages_any h
  obtain ⟨hok, hn2, hn12⟩ := h.ok
  have HOK : Hid (X.Ok n) := hok
  have hh0 := h0_of h
  have HH : Hid (Pgr h0 F w S g D pb jb n X) := h
  clear h hok
  go_enter Tryz.func28, Tryz.ntmps28
  go_wp2_with (go_at_call 33; refine HPG.mono ?_; rintro e V9 ⟨rfl, hV9⟩; subst V9)
  go_loopw [4, 9] (fun _ v wr => ∃ i : Nat, i ≤ n ∧ v = .int .i64 (i : Int) ∧ (∀ j, j < i → X.now.h.has j = true) ∧ Below w.heap.size w wr) (fun _ v _ => n - (intOf v).toNat)
  case atStart => exact ⟨0, by omega, rfl, fun j hj => absurd hj (by omega), Below.refl _ _⟩
  case round =>
    obtain ⟨i, hi, rfl, hall, hbw⟩ := hrel
    have HA : Hid (∀ j, j < i → X.now.h.has j = true) := hall
    have hPw := HH.out.below hbw
    clear hall
    by_cases hlt : i < n
    · have kk : (i : Int) < (n : Int) := by omega
      have HUS := pused_any hPw (i : Int)
      have hus : Hd.usedI X.now.h (i : Int) = X.now.h.has i := by unfold Hd.usedI; rw [decide_eq_true (by omega), Bool.true_and, show ((i : Int)).toNat = i by omega]
      rw [hus] at HUS
      have HB : Hid (Below w.heap.size w wr) := hbw
      cases hb : X.now.h.has i
      · rw [hb] at HUS
        have hi1 : 1 ≤ i := by
          rcases Nat.eq_zero_or_pos i with e | e
          · rw [e] at hb
            have := HOK.out.now.h.u0
            rw [hb] at this
            cases this
          · exact e
        have HBI : Hid (X.now.h.has i = false) := hb
        have HPW : Hid (Pgr h0 (mor F w wr) wr S g D pb jb n X) := hPw
        clear hus hb hPw hbw HPG
        go_wp2_with fail
        refine HUS.mono ?_
        rintro e V ⟨rfl, hV⟩
        obtain ⟨_, kb, kc, mb, sa, sc, ss, hP⟩ := HPW.out.below hV
        have hul : i < X.now.h.u.length := by rw [HOK.out.now.h.len]; exact hlt
        have HAD := padd_any X.now.h.u pb 44 i _ _ V hul (by omega) hP.c (fun j hj => by rw [pgA_used j hj, setL_at _ _ hj])
        have HF1 : Hid (Pl h0 (mor (mor F w wr) wr V) V S g D pb jb n kb kc mb sa sc ss X ∧ Fr F w (mor (mor F w wr) wr V) V ∧ Below h0 w V) := ⟨hP, (Fr.below HB.out).trans (Fr.below hV), (HB.out.mono hh0).trans (hV.mono (h0_of HPW.out))⟩
        clear HUS hV hP HPW HB
        go_wp2_with fail
        refine HAD.mono ?_
        rintro e V1 ⟨rfl, hp⟩
        have hU := HF1.out.1.used i true hul (by omega) hp
        obtain ⟨ok1, ok2, ok3⟩ := alc_ok HOK.out i hlt hi1
        have HNO := noughts_any V1
        have HF2 : Hid (Pgr h0 (mor (mor F w wr) wr V) V1 S g D pb jb n (X.used i true) ∧ Fr F w (mor (mor F w wr) wr V) V1 ∧ Below h0 w V1) := ⟨⟨ok1, kb, kc, mb, sa, sc, ss, hU.1⟩, HF1.out.2.1.trans hU.2.1, HF1.out.2.2.trans hU.2.2⟩
        have HO2 : Hid ((X.used i true).now.h.has i = true) := ok2
        clear HAD hp hU HF1 ok1 ok2 ok3
        go_wp2_with fail
        refine HNO.mono ?_
        rintro e V2 ⟨rfl, hV2⟩
        have hP2 := HF2.out.1.below hV2
        have HLA := play_any hP2 i zeroS hi1 hlt HO2.out zeroS_size
        have HF3 : Hid (Fr F w (mor (mor (mor F w wr) wr V) V1 V2) V2 ∧ Below h0 w V2) := ⟨HF2.out.2.1.trans (Fr.below hV2), HF2.out.2.2.trans (hV2.mono (h0_of HF2.out.1))⟩
        clear HNO hV2 hP2 HF2
        go_wp2_with fail
        refine HLA.mono ?_
        rintro e V3 ⟨rfl, hV3⟩
        have HE2 : Hid (PTo h0 F w g D pb jb n (X.alc i) V3) := PTo.trans HF3.out.1 HF3.out.2 hV3
        clear HLA hV3 HF3
        go_wp2
        go_ret2
        exact .inl ⟨i, hi1, hlt, HBI.out, HA.out, rfl, HE2.out⟩
      · rw [hb] at HUS
        have HA2 : Hid (∀ j, j < i + 1 → X.now.h.has j = true) := fun j hj => by
          by_cases e : j = i
          · rw [e]; exact hb
          · exact HA.out j (by omega)
        clear hus hb hPw hbw HPG HA
        go_wp2_with fail
        refine HUS.mono ?_
        rintro e V ⟨rfl, hV⟩
        have HN : Hid (Below w.heap.size w V) := HB.out.trans (hV.mono HB.out.size)
        clear HUS hV HB
        go_wp2
        exact ⟨⟨i + 1, by omega, by go_num, HA2.out, HN.out⟩, by simp [intOf]; omega⟩
    · obtain rfl : i = n := by omega
      have kk : ¬ (i : Int) < (i : Int) := by omega
      have HE2 : Hid (PTo h0 F w g D pb jb i X wr) := PTo.below HH.out hbw
      clear hPw hbw HH HPG
      go_wp2
      go_ret2
      exact .inr ⟨HA.out, rfl, HE2.out⟩
end
end Go.Proofs.YtdgffocmdkadpaaGreat
namespace Go.Proofs.YtdgffocmdkadpaaGreat
open Go.RowKit Go.Shelf Pg
def anyRoot (h : Hd) (k : Nat) (id : Int) : Bool := (List.range k).any fun j => decide ((h.root j : Int) = id)
theorem anyRoot_iff (h : Hd) (k : Nat) (id : Int) : anyRoot h k id = true ↔ ∃ j, j < k ∧ (h.root j : Int) = id := by
  unfold anyRoot
  simp [List.any_eq_true]
set_option maxHeartbeats 1000000 in
theorem index_any (h : Hd) (b o : Nat) (id : Int) (w : World) (hc : ∀ k, k < 4 → w.cell? ⟨b, o + k, none⟩ = some (.int .i64 ((h.root k : Nat) : Int))) : Calls Tryz.prog 110 #[.slice (some ⟨b, o, none⟩) 4 4, .int .i64 id] w fun e w' => (∃ r : Int, e = .returned (.int .i64 r) ∧ decide (0 ≤ r) = anyRoot h 4 id) ∧ w' = w := by
  have HC : Hid (∀ k, k < 4 → w.cell? ⟨b, o + k, none⟩ = some (.int .i64 ((h.root k : Nat) : Int))) := hc
  clear hc
  go_enter Tryz.func110, Tryz.ntmps110
  go_wp2
  go_loopw [5, 8] (fun _ v wr => ∃ k : Nat, k ≤ 4 ∧ v = .int .i64 (k : Int) ∧ (∀ j, j < k → ¬ (h.root j : Int) = id) ∧ wr = w) (fun _ v _ => 4 - (intOf v).toNat)
  case atStart => exact ⟨0, by omega, rfl, fun j hj => absurd hj (by omega), rfl⟩
  case round =>
    obtain ⟨k, hk, rfl, hno, hwr⟩ := hrel
    subst wr
    have HN : Hid (∀ j, j < k → ¬ (h.root j : Int) = id) := hno
    clear hno
    by_cases hlt : k < 4
    · have kk : (k : Int) < 4 := by omega
      have ck := HC.out k hlt
      have HR : Hid (∀ j, j < k + 1 → j ≠ k → ¬ (h.root j : Int) = id) := fun j hj hne => HN.out j (by omega)
      have HA : Hid ((h.root k : Int) = id → anyRoot h 4 id = true) := fun e => (anyRoot_iff h 4 id).2 ⟨k, hlt, e⟩
      obtain ⟨rk, hrk⟩ : ∃ rk, h.root k = rk := ⟨_, rfl⟩
      have HK : Hid (h.root k = rk) := hrk
      rw [hrk] at ck HA
      clear hrk
      by_cases he : id = (rk : Int)
      · have heb : (id == (rk : Int)) = true := by simpa using he
        have HE : Hid (anyRoot h 4 id = true) := HA.out he.symm
        clear HA HC HN HR
        go_wp2
        go_ret
        exact ⟨⟨_, rfl, by rw [HE.out]; simp⟩, rfl⟩
      · have heb : (id == (rk : Int)) = false := by simpa using he
        have HN2 : Hid (∀ j, j < k + 1 → ¬ (h.root j : Int) = id) := fun j hj => by
          by_cases e : j = k
          · rw [e, HK.out]; exact fun e2 => he e2.symm
          · exact HR.out j hj e
        clear HA HC HN HR
        go_wp2
        exact ⟨⟨k + 1, by omega, by go_num, HN2.out, trivial⟩, by simp [intOf]; omega⟩
    · obtain rfl : k = 4 := by omega
      have kk : ¬ (4 : Int) < 4 := by omega
      have HE : Hid (anyRoot h 4 id = false) := by
        show _ = _
        cases e : anyRoot h 4 id
        · rfl
        · obtain ⟨j, hj, h2⟩ := (anyRoot_iff h 4 id).1 e
          exact absurd h2 (HN.out j hj)
      clear HC HN
      go_wp2
      go_ret
      exact ⟨⟨-1, rfl, by rw [HE.out]; rfl⟩, rfl⟩
set_option maxHeartbeats 1000000 in
theorem contains_any (h : Hd) (b o : Nat) (id : Int) (w : World) (hc : ∀ k, k < 4 → w.cell? ⟨b, o + k, none⟩ = some (.int .i64 ((h.root k : Nat) : Int))) : Calls Tryz.prog 82 #[.slice (some ⟨b, o, none⟩) 4 4, .int .i64 id] w fun e w' => e = .returned (.bool (anyRoot h 4 id)) ∧ w' = w := by
  have HI := index_any h b o id w hc
  clear hc
  go_enter Tryz.func82, Tryz.ntmps82
  go_wp2_with fail
  refine HI.mono ?_
  rintro e V ⟨⟨r, rfl, hr⟩, hV⟩
  subst V
  have HR : Hid (decide (0 ≤ r) = anyRoot h 4 id) := hr
  clear hr HI
  by_cases h0 : 0 ≤ r
  · go_wp2
    go_ret
    exact ⟨by rw [← HR.out, decide_eq_true h0]; rfl, rfl⟩
  · go_wp2
    go_ret
    exact ⟨by rw [← HR.out]; rfl, rfl⟩
section
variable {h0 : Nat} {F : Nat → Prop} {w : World} {S : Nat → Prop} {g : Nat} {D : Dk} {pb jb n : Nat} {X : Px}
/-- What Give does. -/
def Px.gcode (n : Nat) (X : Px) (id : Int) : Nat := if X.why n id = 0 then (if anyRoot X.now.h 4 id then 8 else 0) else X.why n id
def Px.giv (X : Px) (i : Nat) : Px := { X with now := ⟨{ X.now.h with u := X.now.h.u.set i false }, X.now.m.del i⟩ }
def Px.gput (n : Nat) (X : Px) (id : Int) : Px := if X.gcode n id = 0 then X.giv id.toNat else X
theorem giv_ok (hok : X.Ok n) (i : Nat) (hi1 : 1 ≤ i) (hi : i < n) (hr : anyRoot X.now.h 4 (i : Int) = false) : (X.giv i).Ok n := by
  have hr' : ∀ k, k < 4 → X.now.h.root k ≠ i := fun k hk e => by
    have := (anyRoot_iff X.now.h 4 (i : Int)).2 ⟨k, hk, by rw [e]⟩
    rw [hr] at this
    cases this
  exact { hok with now := ⟨Hd.drop_ok hok.now.h i hi1 hi hr', fun j d hd => by
    have hd : (if j = i then none else X.now.m j) = some d := hd
    split at hd
    · cases hd
    · rename_i hne
      have := hok.now.m j d hd
      refine ⟨this.1, this.2.1, ?_, this.2.2.2⟩
      show (X.now.h.u.set i false).getD j false = true
      rw [Pg.getD_set _ _ _ _ (by rw [hok.now.h.len]; exact hi), if_neg hne]
      exact this.2.2.1⟩ }
set_option maxRecDepth 100000 in
set_option maxHeartbeats 2000000 in
theorem pgive_any (h : Pgr h0 F w S g D pb jb n X) (id : Int) : Calls Tryz.prog 31 #[.pointer (some ⟨pb, 0, none⟩), .int .i64 id] w fun e w' => e = .returned (.int .i64 (X.gcode n id : Int)) ∧ PTo h0 F w g D pb jb n (X.gput n id) w' := by
  have HRE := preach_any h id
  have hh0 := h0_of h
  obtain ⟨hok, hn2, hn12⟩ := h.ok
  have HOK : Hid (X.Ok n) := hok
  have HH : Hid (Pgr h0 F w S g D pb jb n X) := h
  by_cases hc : X.why n id = 0
  · obtain ⟨i, rfl, hi1, hi2, hi3⟩ := why_zero hc
    rw [hc] at HRE
    have HG : Hid (∀ b, anyRoot X.now.h 4 (i : Int) = b → X.gcode n (i : Int) = (if b then 8 else 0) ∧ X.gput n (i : Int) = (if b then X else X.giv i)) := fun b hb => by
      have e1 : X.gcode n (i : Int) = (if b then 8 else 0) := by unfold Px.gcode; rw [if_pos hc, hb]
      refine ⟨e1, ?_⟩
      unfold Px.gput
      rw [e1, show ((i : Int)).toNat = i by omega]
      cases b <;> rfl
    clear hc h hok
    go_enter Tryz.func31, Tryz.ntmps31
    go_wp2_with fail
    refine HRE.mono ?_
    rintro e V ⟨rfl, hV⟩
    obtain ⟨_, kb, kc, mb, sa, sc, ss, hP⟩ := HH.out.below hV
    have HCO := contains_any X.now.h pb 40 (i : Int) V (fun k hk => by rw [cell_of_row V pb _ _ _ _ hP.c]; exact pgA_root k hk)
    have HF1 : Hid (Pl h0 (mor F w V) V S g D pb jb n kb kc mb sa sc ss X ∧ Fr F w (mor F w V) V ∧ Below h0 w V ∧ PTo h0 F w g D pb jb n X V) := ⟨hP, Fr.below hV, hV.mono hh0, PTo.below HH.out hV⟩
    clear HRE hV hP
    cases hb : anyRoot X.now.h 4 (i : Int)
    · rw [hb] at HCO
      have HE : Hid (X.gcode n (i : Int) = 0 ∧ X.gput n (i : Int) = X.giv i) := HG.out false hb
      have hul : i < X.now.h.u.length := by rw [HOK.out.now.h.len]; exact hi2
      have HOK2 : Hid ((X.giv i).Ok n) := giv_ok HOK.out i hi1 hi2 hb
      have HAD := pdrop_any X.now.h.u pb 44 i _ _ V hul (by omega) HF1.out.1.c (fun j hj => by rw [pgA_used j hj, setL_at _ _ hj])
      clear hb HG
      go_wp2_with fail
      refine HCO.mono ?_
      rintro e V1 ⟨rfl, hV1⟩
      subst V1
      clear HCO
      go_wp2_with fail
      refine HAD.mono ?_
      rintro e V1 ⟨rfl, hp⟩
      have hU := HF1.out.1.used i false hul (by omega) hp
      obtain ⟨c0, c22, c39, c60, c61⟩ := hU.1.cells
      obtain ⟨V2, hrun0, hm2, hu2, hs2⟩ := hU.1.m.drop i (by omega) 0
      have hrun : ∀ ty, (Builtin.delete_ #[103, 3] ty #[.map (some mb), .int .i64 (i : Int)]).run Tryz.prog V1 = .ok (.tuple #[]) V2 := fun ty => hrun0
      have hT := hU.1.turnM hm2 hu2 hs2
      have HE2 : Hid (PTo h0 F w g D pb jb n (X.giv i) V2) := ⟨_, S, ⟨HOK2.out, kb, kc, mb, sa, sc, ss, hT.1⟩, (HF1.out.2.1.trans hU.2.1).trans hT.2.1, (HF1.out.2.2.1.trans hU.2.2).trans hT.2.2⟩
      clear HAD hp hU hrun0 hm2 hu2 hs2 hT HF1 HOK2 HOK HH
      go_wp2
      go_ret
      exact ⟨by rw [HE.out.1]; rfl, by rw [HE.out.2]; exact HE2.out⟩
    · rw [hb] at HCO
      have HE : Hid (X.gcode n (i : Int) = 8 ∧ X.gput n (i : Int) = X) := HG.out true hb
      clear hb HG
      go_wp2_with fail
      refine HCO.mono ?_
      rintro e V1 ⟨rfl, hV1⟩
      subst V1
      clear HCO
      go_wp2
      go_ret
      exact ⟨by rw [HE.out.1]; rfl, by rw [HE.out.2]; exact HF1.out.2.2.2⟩
  · have HE : Hid (X.gcode n id = X.why n id ∧ X.gput n id = X) := by
      have e1 : X.gcode n id = X.why n id := by unfold Px.gcode; rw [if_neg hc]
      refine ⟨e1, ?_⟩
      unfold Px.gput
      rw [if_neg (by rw [e1]; exact hc)]
    obtain ⟨cd, hcd⟩ : ∃ cd, X.why n id = cd := ⟨_, rfl⟩
    rw [hcd] at HRE hc HE
    have kc : ¬ (cd : Int) = 0 := by omega
    clear hcd h hc
    go_enter Tryz.func31, Tryz.ntmps31
    go_wp2_with fail
    refine HRE.mono ?_
    rintro e V ⟨rfl, hV⟩
    have HE2 : Hid (PTo h0 F w g D pb jb n X V) := PTo.below HH.out hV
    clear HRE hV
    go_wp2
    go_ret
    exact ⟨by rw [HE.out.1]; rfl, by rw [HE.out.2]; exact HE2.out⟩
/-- What Point does. -/
def Px.pcode (n : Nat) (X : Px) (k id : Int) : Nat := if k < 0 ∨ 4 ≤ k then 9 else if id = 0 then 0 else X.why n id
def Px.pnt (X : Px) (k id : Nat) : Px := { X with now := ⟨X.now.h.point k id, X.now.m⟩ }
def Px.pput (n : Nat) (X : Px) (k id : Int) : Px := if X.pcode n k id = 0 then X.pnt k.toNat id.toNat else X
theorem pnt_ok (hok : X.Ok n) (k i : Nat) (hk : k < 4) (hi : i < n) (hu : X.now.h.has i = true) : (X.pnt k i).Ok n :=
  { hok with now := ⟨Hd.point_ok hok.now.h k i hk hi hu, fun j d hd => by
      have := hok.now.m j d hd
      refine ⟨this.1, this.2.1, ?_, this.2.2.2⟩
      show (X.now.h.point k i).u.getD j false = true
      rw [Hd.point_u]
      exact this.2.2.1⟩ }
theorem Pl.pnt {kb kc mb : Nat} {sa : Option Addr} {sc : Nat} {ss : List (Sn × Nat)} (h : Pl h0 F w S g D pb jb n kb kc mb sa sc ss X) (k i : Nat) (hk : k < 4) : Pl h0 F (w.setCell ⟨pb, 40 + k, none⟩ (.int .i64 (i : Int))) S g D pb jb n kb kc mb sa sc ss (X.pnt k i) ∧ Fr F w F (w.setCell ⟨pb, 40 + k, none⟩ (.int .i64 (i : Int))) ∧ Below h0 w (w.setCell ⟨pb, 40 + k, none⟩ (.int .i64 (i : Int))) := by
  have hp := Put1.set (i := 40 + k) (v := .int .i64 (i : Int)) h.c
  have hc := hp.1
  rw [show 40 + k = 39 + (1 + k) by omega, pgA_setnow (1 + k) _ (X.now.h.point k i) (by omega) (hdL_point k i hk)] at hc
  rw [show 39 + (1 + k) = 40 + k by omega] at hc
  exact h.turnC hc hp.2.1 hp.2.2
set_option maxRecDepth 100000 in
set_option maxHeartbeats 2000000 in
theorem ppoint_any (h : Pgr h0 F w S g D pb jb n X) (k id : Int) : Calls Tryz.prog 38 #[.pointer (some ⟨pb, 0, none⟩), .int .i64 k, .int .i64 id] w fun e w' => e = .returned (.int .i64 (X.pcode n k id : Int)) ∧ PTo h0 F w g D pb jb n (X.pput n k id) w' := by
  have hh0 := h0_of h
  obtain ⟨hok, hn2, hn12⟩ := h.ok
  have HOK : Hid (X.Ok n) := hok
  have HH : Hid (Pgr h0 F w S g D pb jb n X ∧ PTo h0 F w g D pb jb n X w) := ⟨h, PTo.below h (Below.refl _ _)⟩
  have HRE := preach_any h id
  by_cases hk : k < 0 ∨ 4 ≤ k
  · have HE : Hid (X.pcode n k id = 9 ∧ X.pput n k id = X) := by
      have e1 : X.pcode n k id = 9 := by unfold Px.pcode; rw [if_pos hk]
      refine ⟨e1, ?_⟩
      unfold Px.pput
      rw [if_neg (by omega)]
    clear h hok HRE
    by_cases h1 : k < 0
    · go_enter Tryz.func38, Tryz.ntmps38
      go_wp2
      go_ret
      exact ⟨by rw [HE.out.1]; rfl, by rw [HE.out.2]; exact HH.out.2⟩
    · have h2 : 4 ≤ k := by omega
      go_enter Tryz.func38, Tryz.ntmps38
      go_wp2
      go_ret
      exact ⟨by rw [HE.out.1]; rfl, by rw [HE.out.2]; exact HH.out.2⟩
  · obtain ⟨j, rfl⟩ := Int.eq_ofNat_of_zero_le (show 0 ≤ k by omega)
    have hj : j < 4 := by omega
    have kj : ¬ (4 : Int) ≤ (j : Int) := by omega
    have HP : Hid (∀ i : Nat, i < n → X.now.h.has i = true → X.pcode n (j : Int) (i : Int) = 0 → X.pput n (j : Int) (i : Int) = X.pnt j i) := fun i _ _ e => by
      unfold Px.pput
      rw [if_pos e, show ((j : Int)).toNat = j by omega, show ((i : Int)).toNat = i by omega]
    by_cases h0' : id = 0
    · subst h0'
      have e1 : X.pcode n (j : Int) 0 = 0 := by unfold Px.pcode; rw [if_neg hk, if_pos rfl]
      have HE : Hid (X.pcode n (j : Int) 0 = 0 ∧ X.pput n (j : Int) 0 = X.pnt j 0) := ⟨e1, HP.out 0 (by omega) hok.now.h.u0 e1⟩
      obtain ⟨_, kb, kc, mb, sa, sc, ss, hP⟩ := h
      have cj : w.cell? ⟨pb, 40 + j, none⟩ = some (.int .i64 ((X.now.h.root j : Nat) : Int)) := by rw [cell_of_row w pb _ _ _ _ hP.c]; exact pgA_root j hj
      have fj := hP.fro (40 + j)
      have hT := hP.pnt j 0 hj
      have HE2 : Hid (PTo h0 F w g D pb jb n (X.pnt j 0) (w.setCell ⟨pb, 40 + j, none⟩ (.int .i64 0))) := ⟨F, S, ⟨pnt_ok hok j 0 hj (by omega) hok.now.h.u0, kb, kc, mb, sa, sc, ss, hT.1⟩, hT.2.1, hT.2.2⟩
      clear hP hT hok HRE HP e1 hk
      go_enter Tryz.func38, Tryz.ntmps38
      go_wp2
      go_ret
      exact ⟨by rw [HE.out.1]; rfl, by rw [HE.out.2]; exact HE2.out⟩
    · have e0 : X.pcode n (j : Int) id = X.why n id := by unfold Px.pcode; rw [if_neg hk, if_neg h0']
      have kid : (id == 0) = false := by simpa using h0'
      by_cases hc : X.why n id = 0
      · obtain ⟨i, rfl, hi1, hi2, hi3⟩ := why_zero hc
        rw [hc] at HRE e0
        have HE : Hid (X.pcode n (j : Int) (i : Int) = 0 ∧ X.pput n (j : Int) (i : Int) = X.pnt j i) := ⟨e0, HP.out i hi2 hi3 e0⟩
        have HOK2 : Hid ((X.pnt j i).Ok n) := pnt_ok hok j i hj hi2 hi3
        clear h hok HP e0 hk hc
        go_enter Tryz.func38, Tryz.ntmps38
        go_wp2_with fail
        refine HRE.mono ?_
        rintro e V ⟨rfl, hV⟩
        obtain ⟨_, kb, kc, mb, sa, sc, ss, hP⟩ := HH.out.1.below hV
        have cj : V.cell? ⟨pb, 40 + j, none⟩ = some (.int .i64 ((X.now.h.root j : Nat) : Int)) := by rw [cell_of_row V pb _ _ _ _ hP.c]; exact pgA_root j hj
        have fj := hP.fro (40 + j)
        have hT := hP.pnt j i hj
        have HE2 : Hid (PTo h0 F w g D pb jb n (X.pnt j i) (V.setCell ⟨pb, 40 + j, none⟩ (.int .i64 (i : Int)))) := ⟨_, S, ⟨HOK2.out, kb, kc, mb, sa, sc, ss, hT.1⟩, (Fr.below hV).trans hT.2.1, (hV.mono hh0).trans hT.2.2⟩
        clear HRE hV hP hT HOK2
        go_wp2
        go_ret
        exact ⟨by rw [HE.out.1]; rfl, by rw [HE.out.2]; exact HE2.out⟩
      · have HE : Hid (X.pcode n (j : Int) id = X.why n id ∧ X.pput n (j : Int) id = X) := by
          refine ⟨e0, ?_⟩
          unfold Px.pput
          rw [if_neg (by rw [e0]; exact hc)]
        obtain ⟨cd, hcd⟩ : ∃ cd, X.why n id = cd := ⟨_, rfl⟩
        rw [hcd] at HRE hc HE
        have kc : ¬ (cd : Int) = 0 := by omega
        clear hcd h hc hok HP e0 hk
        go_enter Tryz.func38, Tryz.ntmps38
        go_wp2_with fail
        refine HRE.mono ?_
        rintro e V ⟨rfl, hV⟩
        have HE2 : Hid (PTo h0 F w g D pb jb n X V) := PTo.below HH.out.1 hV
        clear HRE hV
        go_wp2
        go_ret
        exact ⟨by rw [HE.out.1]; rfl, by rw [HE.out.2]; exact HE2.out⟩
end
end Go.Proofs.YtdgffocmdkadpaaGreat
