/- Walks over a table's Commit and Abort, over Open of a disk that is down, and over all of a table's entries. -/
import Derived.Test.YtnafalkcgghjgaaGreatDoorTC
namespace Go.Proofs.YtnafalkcgghjgaaGreatDoor
open Go.RowKit Go.Shelf
/-- What is changed, all together. -/
def chAll (n : Nat) (D : Dk) (L : List Mf) : List Chi := chU (pagesF n D) (lfs L) L.length
/-- What Commit leaves. -/
def ComTo (h0 : Nat) (F : Nat → Prop) (w : World) (g : Nat) (D2 : Dk) (cc sb jb n : Nat) (L K : List Mf) (e : Ending) (w' : World) : Prop := e = .returned (.int .i64 (cc : Int)) ∧ ∃ F' S', Tab h0 F' w' S' g D2 sb jb n L (if cc = 0 then L else K) ∧ Fr F w F' w' ∧ Below h0 w w'
/-- What Abort leaves. -/
def AbTo (h0 : Nat) (F : Nat → Prop) (w : World) (g : Nat) (D : Dk) (sb jb n : Nat) (K : List Mf) (e : Ending) (w' : World) : Prop := e = .returned (.tuple #[]) ∧ ∃ F' S', Tab h0 F' w' S' g D sb jb n K K ∧ Fr F w F' w' ∧ Below h0 w w'
set_option maxRecDepth 100000 in
set_option maxHeartbeats 2000000 in
theorem scommit_any {h0 : Nat} {F : Nat → Prop} {w : World} {S : Nat → Prop} {g : Nat} {D : Dk} {sb jb n : Nat} {L K : List Mf} (h : Tab h0 F w S g D sb jb n L K) (hkn : 8 * n + 1 ≤ D.kept.length) (hu : D.up = true) (hsz : ∀ s ∈ D.seen, s.size = 256) (hwr : D.writes + 200 < 1000000) :
    Calls Tryz.prog 20 #[.pointer (some ⟨sb, 0, none⟩)] w fun e w' => ComTo h0 F w g (comDisk n D (chAll n D L)) (comCode n D (chAll n D L)) sb jb n L K e w' := by
  have HCH := changes_any h hkn hu hsz
  have hlen := h.len
  have hn12 := h.n12
  have HT : Hid (Tab h0 F w S g D sb jb n L K ∧ 8 * n + 1 ≤ D.kept.length ∧ D.writes + 200 < 1000000) := ⟨h, hkn, hwr⟩
  have HCA : Hid (chU (pagesF n D) (lfs L) L.length = chAll n D L ∧ (chAll n D L).length ≤ L.length) := ⟨rfl, chU_len _ _ _⟩
  obtain ⟨l, hl⟩ : ∃ l, chAll n D L = l := ⟨_, rfl⟩
  rw [hl] at HCA ⊢
  rw [HCA.out.1] at HCH
  obtain ⟨cc, hcc⟩ : ∃ cc, comCode n D l = cc := ⟨_, rfl⟩
  obtain ⟨D2, hD2⟩ : ∃ D2, comDisk n D l = D2 := ⟨_, rfl⟩
  rw [hcc, hD2]
  have HCC : Hid (comCode n D l = cc ∧ comDisk n D l = D2) := ⟨hcc, hD2⟩
  clear h hkn hu hsz hwr hl hcc hD2
  go_enter Tryz.func20, Tryz.ntmps20
  go_wp2_with fail
  refine HCH.mono ?_
  rintro e V1 ⟨ra, rn, rc, rfl, hown, hb1⟩
  have hT1 := HT.out.1.below hb1
  obtain ⟨al, cl, ag, cg, h1, h2, h3⟩ := hT1.sat
  obtain ⟨s0, s1, s2⟩ := h1.cells
  have hll : l.length = rn := by have := hown.1; rw [chiV_len] at this; omega
  have HCM := commit_any hT1.disk hT1.jat hT1.sj (by omega) HT.out.2.1 ra rn rc l (Ci.own hown hll) (fun x hx => (hown.lt x (by rw [ob_slice]; exact hx)).2) (by have := HCA.out.2; omega) HT.out.2.2
  have HT1 : Hid (Tab h0 (mor F w V1) V1 S g D sb jb n L K ∧ Fr F w (mor F w V1) V1 ∧ Below h0 w V1) := ⟨hT1, Fr.below hb1, hb1.mono HT.out.1.h0w⟩
  have HS1 : Hid (Sat V1 sb jb al L.length cl ag K.length cg ∧ Lw (mor F w V1) V1 al L.length cl L) := ⟨h1, h2⟩
  rw [HCC.out.1, HCC.out.2] at HCM
  clear HCH hown hb1 hT1 h1 h2 h3 hll s1 s2
  go_wp2_with fail
  refine HCM.mono ?_
  rintro e V2 ⟨rfl, S2, hd2, hu2, hs2⟩
  have hT2 := HT1.out.1.turn hd2 hu2 hs2
  have hS2 : Sat V2 sb jb al L.length cl ag K.length cg := HS1.out.1.upd hu2 HT1.out.1.ss
  obtain ⟨s0, s1, s2⟩ := hS2.cells
  by_cases hc0 : cc = 0
  · have HG := hT2.1.good hS2 (HS1.out.2.fr hT2.2.1)
    have HE : Hid (Tab h0 (mor F w V1) (V2.setCell ⟨sb, 2, none⟩ (.slice al L.length cl)) S2 g D2 sb jb n L L ∧ Fr F w (mor F w V1) (V2.setCell ⟨sb, 2, none⟩ (.slice al L.length cl)) ∧ Below h0 w (V2.setCell ⟨sb, 2, none⟩ (.slice al L.length cl))) := ⟨HG.1, (HT1.out.2.1.trans hT2.2.1).trans HG.2.1, (HT1.out.2.2.trans hT2.2.2).trans HG.2.2⟩
    have HC0 : Hid (cc = 0) := hc0
    have kc : (cc : Int) = 0 := by omega
    have kcb : ((cc : Int) == 0) = true := by simpa using kc
    obtain ⟨ll, hll⟩ : ∃ ll, L.length = ll := ⟨_, rfl⟩
    rw [hll] at s1 HE
    have hsc : V2.heap[sb]? = some (.cells #[.pointer (some ⟨jb, 0, none⟩), .slice al L.length cl, .slice ag K.length cg] 88 (0, 0)) := hS2
    have hfr := frozen_of_row V2 sb 2 _ _ hsc
    clear HCM hd2 hu2 hs2 hT2 hS2 HG hc0 hll kc hsc
    go_wp2
    go_ret
    refine ⟨by rw [HC0.out]; rfl, _, S2, ?_, HE.out.2.1, HE.out.2.2⟩
    rw [if_pos HC0.out]
    exact HE.out.1
  · have kc : ¬ (cc : Int) = 0 := by omega
    have kcb : ((cc : Int) == 0) = false := by simpa using kc
    have HE : Hid (Tab h0 (mor F w V1) V2 S2 g D2 sb jb n L K ∧ Fr F w (mor F w V1) V2 ∧ Below h0 w V2) := ⟨hT2.1, HT1.out.2.1.trans hT2.2.1, HT1.out.2.2.trans hT2.2.2⟩
    have HC0 : Hid (¬ cc = 0) := hc0
    clear HCM hd2 hu2 hs2 hT2 hS2 s0 s1 s2 hc0
    go_wp2
    go_ret
    refine ⟨rfl, _, S2, ?_, HE.out.2.1, HE.out.2.2⟩
    rw [if_neg HC0.out]
    exact HE.out.1
theorem com_none (n : Nat) (D : Dk) (hu : D.up = true) : comCode n D [] = 0 ∧ comDisk n D [] = D := by
  have hck : chk n [] = 0 := by simp [chk]
  have hst : comSteps n [] = [] := rfl
  unfold comCode comDisk
  rw [if_pos hck, if_pos hu, if_pos ⟨hck, hu⟩, hst]
  exact ⟨rfl, rfl⟩
set_option maxRecDepth 100000 in
set_option maxHeartbeats 2000000 in
theorem sabort_any {h0 : Nat} {F : Nat → Prop} {w : World} {S : Nat → Prop} {g : Nat} {D : Dk} {sb jb n : Nat} {L K : List Mf} (h : Tab h0 F w S g D sb jb n L K) (hkn : 8 * n + 1 ≤ D.kept.length) (hu : D.up = true) (hwr : D.writes + 200 < 1000000) :
    Calls Tryz.prog 21 #[.pointer (some ⟨sb, 0, none⟩)] w fun e w' => AbTo h0 F w g D sb jb n K e w' := by
  have hn12 := h.n12
  obtain ⟨al, cl, ag, cg, h1, h2, h3⟩ := h.sat
  obtain ⟨s0, s1, s2⟩ := h1.cells
  have HCM := commit_any h.disk h.jat h.sj (by omega) hkn none 0 0 [] ⟨rfl, Nat.le_refl _, by omega, fun h0 => absurd h0 (by omega)⟩ (fun x hx => by cases hx) (by omega) hwr
  rw [(com_none n D hu).1, (com_none n D hu).2] at HCM
  have HT1 : Hid (Tab h0 F w S g D sb jb n L K) := h
  have HS1 : Hid (Sat w sb jb al L.length cl ag K.length cg ∧ Lw F w ag K.length cg K) := ⟨h1, h3⟩
  have HCM : Calls Tryz.prog 32 #[.pointer (some ⟨jb, 0, none⟩), .slice none 0 0] w fun e w' => e = .returned (.int .i64 0) ∧ Mut S w g D w' := HCM
  clear h h1 h2 h3 s1 s2 hkn hu hwr
  go_enter Tryz.func21, Tryz.ntmps21
  go_wp2_with fail
  refine HCM.mono ?_
  rintro e V2 ⟨rfl, S2, hd2, hu2, hs2⟩
  have hT2 := HT1.out.turn hd2 hu2 hs2
  have hS2 : Sat V2 sb jb al L.length cl ag K.length cg := HS1.out.1.upd hu2 HT1.out.ss
  obtain ⟨s0, s1, s2⟩ := hS2.cells
  have HG := hT2.1.back hS2 (HS1.out.2.fr hT2.2.1)
  have HE : Hid (Tab h0 F (V2.setCell ⟨sb, 1, none⟩ (.slice ag K.length cg)) S2 g D sb jb n K K ∧ Fr F w F (V2.setCell ⟨sb, 1, none⟩ (.slice ag K.length cg)) ∧ Below h0 w (V2.setCell ⟨sb, 1, none⟩ (.slice ag K.length cg))) := ⟨HG.1, hT2.2.1.trans HG.2.1, hT2.2.2.trans HG.2.2⟩
  obtain ⟨kl, hkl⟩ : ∃ kl, K.length = kl := ⟨_, rfl⟩
  rw [hkl] at s2 HE
  have hsc : V2.heap[sb]? = some (.cells #[.pointer (some ⟨jb, 0, none⟩), .slice al L.length cl, .slice ag K.length cg] 88 (0, 0)) := hS2
  have hfr := frozen_of_row V2 sb 1 _ _ hsc
  clear HCM hd2 hu2 hs2 hT2 hS2 HG hkl hsc
  go_wp2
  refine bodyPost_ret (v := .tuple #[]) ?_ rfl ⟨rfl, F, S2, HE.out.1, HE.out.2.1, HE.out.2.2⟩
  simp [results, go_sem]
set_option maxRecDepth 100000 in
set_option maxHeartbeats 2000000 in
theorem load_off {w : World} {S : Nat → Prop} {jb g n : Nat} {D : Dk} (hd : DiskIs w S g D) (hj : Jat w jb g n) (hn1 : 1 ≤ n) (hn : n ≤ 128) (hu : D.up = false) :
    Calls Tryz.prog 44 #[.pointer (some ⟨jb, 0, none⟩)] w fun e w' => e = .returned (.tuple #[.slice none 0 0, .int .i64 10]) ∧ Below w.heap.size w w' := by
  have HPA := pages_any hj
  have HRD := jread_down hd hj hn hu 0 (by omega)
  have HRD : Calls Tryz.prog 71 #[.pointer (some ⟨jb, 0, none⟩), .int .i64 0] w fun e w' => e = .returned (.tuple #[.string ⟨#[]⟩, .int .i64 10]) ∧ Below w.heap.size w w' := HRD
  have kn : ¬ (n : Int) ≤ 0 := by omega
  clear hd hj hu
  go_enter Tryz.func44, Tryz.ntmps44
  go_wp2
  go_loopw [4, 5] (fun vl vp wr => vl = .slice none 0 0 ∧ vp = .int .i64 0 ∧ wr = w) (fun _ _ _ => 0)
  case atStart => exact ⟨rfl, rfl, rfl⟩
  case round =>
    obtain ⟨rfl, rfl, hwr⟩ := hrel
    subst wr
    go_wp2_with fail
    refine HPA.mono ?_
    rintro e V ⟨rfl, hV⟩
    subst V
    clear HPA
    go_wp2_with fail
    refine HRD.mono ?_
    rintro e V ⟨rfl, hV⟩
    have HB : Hid (Below w.heap.size w V) := hV
    clear HRD hV
    go_wp2
    refine bodyPost_ret (v := .tuple #[.slice none 0 0, .int .i64 10]) ?_ rfl ⟨rfl, HB.out⟩
    simp [results, go_sem]
theorem sopen_off {w : World} {S : Nat → Prop} {jb g n : Nat} {D : Dk} (hd : DiskIs w S g D) (hj : Jat w jb g n) (hn2 : 2 ≤ n) (hn : n ≤ 128) (hu : D.up = false) :
    Calls Tryz.prog 22 #[.pointer (some ⟨jb, 0, none⟩)] w fun e w' => e = .returned (.tuple #[.pointer none, .int .i64 10]) ∧ Below w.heap.size w w' := by
  have HPG := pages_any hj
  have HLO := load_off hd hj (by omega) hn hu
  have k2 : ¬ (n : Int) < 2 := by omega
  clear hd hj hu
  go_enter Tryz.func22, Tryz.ntmps22
  go_wp2_with (go_at_call 43; refine HPG.mono ?_; rintro e W9 ⟨rfl, hW9⟩; subst W9)
  refine HLO.mono ?_
  rintro e V ⟨rfl, hV⟩
  have HB : Hid (Below w.heap.size w V) := hV
  clear HLO hV
  go_wp2
  go_ret2
  exact ⟨rfl, HB.out⟩
/-- A text that stands behind all keys. -/
def lastK (k : Nat) : ByteArray := bytesOf (List.replicate k 255)
theorem lastK_size (k : Nat) : (lastK k).size = k := by unfold lastK; rw [bytesOf_size, List.length_replicate]
theorem lastK_list (k : Nat) : (lastK k).toList = List.replicate k 255 := by
  rw [ByteArray.toList_eq]
  unfold lastK bytesOf
  simp
theorem bl_last : ∀ (k : Nat) (l : List UInt8), l.length ≤ k → Op.bytesLess (List.replicate k 255) l = false
  | 0, l, h => by
    have : l = [] := List.eq_nil_of_length_eq_zero (by omega)
    subst this
    rfl
  | k + 1, [], _ => by simp [List.replicate_succ, Op.bytesLess]
  | k + 1, b :: l, h => by
    have ih := bl_last k l (by simpa using h)
    rw [List.replicate_succ]
    unfold Op.bytesLess
    have hb : ¬ (255 : UInt8) < b := by
      intro h5
      have h6 : (255 : UInt8).toNat < b.toNat := h5
      have h7 := b.toNat_lt
      have h8 : (255 : UInt8).toNat = 255 := rfl
      omega
    simp [hb, ih]
theorem all_is {T : List Pr} (hm : ∀ p ∈ T, May p) (hl : T.length ≤ 1000000) : rangeT T ByteArray.empty (lastK 65) 1000000 = T := by
  rw [range_full _ _ _ (by omega)]
  unfold midT
  rw [List.filter_eq_self]
  intro p hp
  have h1 : sl p.1 ByteArray.empty = false := by
    unfold sl
    rw [show ByteArray.empty.toList = [] from ByteArray.toList_eq _]
    cases p.1.toList with
    | nil => rfl
    | cons a l => rfl
  have h2 : sl (lastK 65) p.1 = false := by
    unfold sl
    rw [lastK_list]
    refine bl_last 65 _ ?_
    rw [ByteArray.toList_eq]
    have := (hm p hp).2.1
    show p.1.size ≤ 65
    omega
  rw [h1, h2]
  rfl
theorem lastK_snoc (k : Nat) : lastK k ++ (⟨#[255]⟩ : ByteArray) = lastK (k + 1) := by
  apply ByteArray.ext
  apply Array.toList_inj.1
  unfold lastK bytesOf
  rw [List.replicate_succ']
  simp
set_option maxRecDepth 100000 in
set_option maxHeartbeats 2000000 in
theorem every_any {h0 : Nat} {F : Nat → Prop} {w : World} {S : Nat → Prop} {g : Nat} {D : Dk} {sb jb n : Nat} {L K : List Mf} (h : Tab h0 F w S g D sb jb n L K) :
    Calls Tryz.prog 26 #[.pointer (some ⟨sb, 0, none⟩)] w fun e w' => ∃ (ra : Option Addr) (rn rc : Nat), e = .returned (.slice ra rn rc) ∧ Pw (mor F w w') w' ra rn rc (flat (lfs L)) ∧ rn ≤ 20000 ∧ Below w.heap.size w w' := by
  have HR : Hid (∀ V, Below w.heap.size w V → Calls Tryz.prog 18 #[.pointer (some ⟨sb, 0, none⟩), .string ByteArray.empty, .string (lastK 65), .int .i64 1000000] V fun e w' => ∃ (ra : Option Addr) (rn rc : Nat), e = .returned (.slice ra rn rc) ∧ Pw (mor F w w') w' ra rn rc (flat (lfs L)) ∧ rn ≤ 20000 ∧ Below w.heap.size w w') := fun V hV => by
    refine (range_any (h.below hV) ByteArray.empty (lastK 65) 1000000).mono ?_
    rintro e w' ⟨ra, rn, rc, rfl, ho, hb⟩
    rw [all_is h.shL.may (by have := h.total.2; omega)] at ho
    have hp : Pw (fun x => V.heap.size ≤ x) w' ra rn rc (flat (lfs L)) := Rw.own ho (fun _ h => h)
    refine ⟨ra, rn, rc, rfl, Rw.mono hp (fun x hx hl => .inr ⟨Nat.le_trans hV.size hx, hl⟩), ?_, hV.trans (hb.mono hV.size)⟩
    have h1 := (own_pw ho).len
    have h2 := h.total.2
    omega
  clear h
  obtain ⟨W1, hW1⟩ : ∃ W1, w.alloc (.cells #[.int .u8 255] 5) = W1 := ⟨_, rfl⟩
  have r1 : W1.heap[w.heap.size]? = some (.cells #[.int .u8 255] 5 (0, 0)) := by rw [← hW1]; exact heap_alloc_new w _
  have hb1 : Below w.heap.size w W1 := by rw [← hW1]; exact (Below.refl _ w).alloc (Nat.le_refl _) _
  have hcv : (convert 67 9 (.slice (some ⟨w.heap.size, 0, none⟩) 1 1)).run Tryz.prog W1 = .ok (.string (lastK 1)) W1 := by
    have h5 := conv_row W1 w.heap.size 1 [255] rfl (fun i hi => by
      have : i = 0 := by simpa using hi
      subst this
      rw [cell_of_row _ _ _ _ _ _ r1]
      rfl)
    exact h5
  have HB1 : Hid (Below w.heap.size w W1) := hb1
  clear r1 hb1
  go_enter Tryz.func26, Tryz.ntmps26
  go_wp2
  go_loopw [3] (fun v wr => ∃ k : Nat, 1 ≤ k ∧ k ≤ 65 ∧ v = .string (lastK k) ∧ wr = W1) (fun v _ => match v with | .string s => 66 - s.size | _ => 0)
  case atStart => exact ⟨1, by omega, by omega, rfl, rfl⟩
  case round =>
    obtain ⟨k, hk1, hk, rfl, hwr⟩ := hrel
    subst wr
    have hks := lastK_size k
    by_cases hlt : k < 65
    · obtain ⟨s, hs⟩ : ∃ s, lastK k = s := ⟨_, rfl⟩
      have hsn := lastK_snoc k
      rw [hs] at hks hsn ⊢
      have kk : (s.size : Int) < 65 := by omega
      obtain ⟨s2, hs2⟩ : ∃ s2, lastK (k + 1) = s2 := ⟨_, rfl⟩
      rw [hs2] at hsn
      have hs2z : s2.size = k + 1 := by rw [← hs2]; exact lastK_size _
      have HH : Hid (s.size = k ∧ s2.size = k + 1 ∧ lastK (k + 1) = s2) := ⟨hks, hs2z, hs2⟩
      have hno : ¬ 9223372036854775807 < s.size + 1 := by omega
      clear hks hs2z hs hs2
      go_wp2
      have h5 := HH.out
      refine ⟨⟨k + 1, by omega, by omega, by rw [h5.2.2], trivial⟩, ?_⟩
      show 66 - s2.size < 66 - s.size
      omega
    · have h65 : k = 65 := by omega
      subst h65
      have HR1 := HR.out W1 HB1.out
      obtain ⟨s, hs⟩ : ∃ s, lastK 65 = s := ⟨_, rfl⟩
      rw [hs] at hks HR1 ⊢
      have kk : ¬ (s.size : Int) < 65 := by omega
      clear hks hs HR
      go_wp2_with fail
      refine HR1.mono ?_
      rintro e V ⟨ra, rn, rc, rfl, hp, hrn, hb⟩
      have HE : Hid (Pw (mor F w V) V ra rn rc (flat (lfs L)) ∧ rn ≤ 20000 ∧ Below w.heap.size w V) := ⟨hp, hrn, hb⟩
      clear HR1 hp hrn hb
      go_wp2
      go_ret
      exact ⟨ra, rn, rc, rfl, HE.out.1, HE.out.2.1, HE.out.2.2⟩
end Go.Proofs.YtnafalkcgghjgaaGreatDoor
