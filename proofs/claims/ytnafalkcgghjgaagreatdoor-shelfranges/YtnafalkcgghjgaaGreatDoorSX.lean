/- Walks over Open, and over Abort. -/
import Derived.Test.YtnafalkcgghjgaaGreatDoorSW
namespace Go.Proofs.YtnafalkcgghjgaaGreatDoor
open Go.RowKit Go.Shelf
theorem loadG_shape {n : Nat} {P : Nat → ByteArray} (hP : ∀ i, i < n → (P i).size = 1024) : ∀ (f page : Nat) (acc L : List Lf), Ld n P acc → (acc = [] → page = 0) → loadG n P f page acc = some L → Shape n L
  | 0, _, _, _, _, _, h => by simp [loadG] at h
  | f + 1, page, acc, L, hld, h0, h => by
    rw [loadG] at h
    by_cases hp : n ≤ page
    · rw [if_pos hp] at h; cases h
    · rw [if_neg hp] at h
      cases he : parseP (P page) with
      | none => rw [he] at h; cases h
      | some es =>
        rw [he] at h
        simp only at h
        by_cases hf : follow acc ⟨(page : Int), es⟩ = true
        · rw [if_pos hf] at h
          have hs := hld.step hP h0 (by omega) he hf
          by_cases hn : nextP (P page) = 0
          · rw [if_pos hn] at h
            cases h
            exact hs.shape (by simp)
          · rw [if_neg hn] at h
            exact loadG_shape hP f _ _ L hs (fun e => by simp at e) h
        · rw [if_neg hf] at h; cases h
theorem loadF_shape {n : Nat} {P : Nat → ByteArray} (hP : ∀ i, i < n → (P i).size = 1024) {L : List Lf} (h : loadF n P = some L) : Shape n L := loadG_shape hP _ _ _ L (Ld.nil n P) (fun _ => rfl) h
/-- A store: a disk, and a journal over it. -/
structure Sto (h0 : Nat) (F : Nat → Prop) (w : World) (S : Nat → Prop) (g : Nat) (D : Dk) (jb n : Nat) : Prop where
  disk : DiskIs w S g D
  jat : Jat w jb g n
  sj : ¬ S jb
  fF : ∀ x, F x → ¬ S x ∧ x ≠ jb ∧ x < w.heap.size
  h0S : ∀ x, S x → h0 ≤ x
  h0w : h0 ≤ w.heap.size
theorem Tab.sto {h0 : Nat} {F : Nat → Prop} {w : World} {S : Nat → Prop} {g : Nat} {D : Dk} {sb jb n : Nat} {L K : List Mf} (h : Tab h0 F w S g D sb jb n L K) : Sto h0 F w S g D jb n := ⟨h.disk, h.jat, h.sj, fun x hx => ⟨(h.fF x hx).1, (h.fF x hx).2.2.1, (h.fF x hx).2.2.2⟩, h.h0S, h.h0w⟩
theorem Sto.below {h0 : Nat} {F : Nat → Prop} {w w' : World} {S : Nat → Prop} {g : Nat} {D : Dk} {jb n : Nat} (h : Sto h0 F w S g D jb n) (hb : Below w.heap.size w w') : Sto h0 (mor F w w') w' S g D jb n := by
  refine ⟨h.disk.below hb, h.jat.below hb, h.sj, fun x hx => ?_, h.h0S, Nat.le_trans h.h0w hb.size⟩
  rcases hx with hx | ⟨hx, hl⟩
  · have := h.fF x hx
    exact ⟨this.1, this.2.1, Nat.lt_of_lt_of_le this.2.2 hb.size⟩
  · refine ⟨fun hs => ?_, fun e => ?_, hl⟩
    · have := h.disk.bd x hs; omega
    · have := h.jat.lt; omega
theorem pages_nil (w : World) : Calls Tryz.prog 43 #[.pointer none] w fun e w' => e = .returned (.int .i64 0) ∧ w' = w := by
  go_enter Tryz.func43, Tryz.ntmps43
  go_wp2
  go_ret
  exact ⟨rfl, rfl⟩
set_option maxHeartbeats 1000000 in
theorem sopen_nil (w : World) : Calls Tryz.prog 22 #[.pointer none] w fun e w' => e = .returned (.tuple #[.pointer none, .int .i64 1]) ∧ w' = w := by
  have H := pages_nil w
  go_enter Tryz.func22, Tryz.ntmps22
  go_wp2_with fail
  refine H.mono ?_
  rintro e V ⟨rfl, hV⟩
  subst V
  go_wp2
  go_ret2
  exact ⟨rfl, rfl⟩
set_option maxHeartbeats 1000000 in
theorem sopen_one {w : World} {jb g : Nat} (hj : Jat w jb g 1) : Calls Tryz.prog 22 #[.pointer (some ⟨jb, 0, none⟩)] w fun e w' => e = .returned (.tuple #[.pointer none, .int .i64 1]) ∧ w' = w := by
  have H := pages_any hj
  go_enter Tryz.func22, Tryz.ntmps22
  go_wp2_with fail
  refine H.mono ?_
  rintro e V ⟨rfl, hV⟩
  subst V
  go_wp2
  go_ret2
  exact ⟨rfl, rfl⟩
/-- What Open leaves. -/
def OpenTo (h0 : Nat) (F : Nat → Prop) (w : World) (S : Nat → Prop) (g : Nat) (D : Dk) (jb n : Nat) (e : Ending) (w' : World) : Prop :=
  (∃ F' sb L, e = .returned (.tuple #[.pointer (some ⟨sb, 0, none⟩), .int .i64 0]) ∧ loadF n (pagesF n D) = some (lfs L) ∧ Tab h0 F' w' S g D sb jb n L L ∧ Fr F w F' w' ∧ Below w.heap.size w w') ∨ (e = .returned (.tuple #[.pointer none, .int .i64 4]) ∧ loadF n (pagesF n D) = none ∧ Below w.heap.size w w')
set_option maxRecDepth 100000 in
set_option maxHeartbeats 2000000 in
theorem sopen_any {h0 : Nat} {F : Nat → Prop} {w : World} {S : Nat → Prop} {g : Nat} {D : Dk} {jb n : Nat} (h : Sto h0 F w S g D jb n) (hn2 : 2 ≤ n) (hn : n ≤ 12) (hkn : 8 * n + 1 ≤ D.kept.length) (hu : D.up = true) (hsz : ∀ s ∈ D.seen, s.size = 256) :
    Calls Tryz.prog 22 #[.pointer (some ⟨jb, 0, none⟩)] w fun e w' => OpenTo h0 F w S g D jb n e w' := by
  have HPG := pages_any h.jat
  have HLO := load_tab (G := fun x => F x ∨ w.heap.size ≤ x) (fun x hx => .inr hx) h.disk h.jat (by omega) (by omega) hkn hu hsz
  have HSH : Hid (∀ L, loadF n (pagesF n D) = some L → Shape n L) := fun L hL => loadF_shape (fun i hi => pagesF_size hkn hsz i hi) hL
  obtain ⟨R, hR⟩ : ∃ R, loadF n (pagesF n D) = R := ⟨_, rfl⟩
  rw [hR] at HLO HSH
  have HR : Hid (loadF n (pagesF n D) = R) := hR
  have HT : Hid (Sto h0 F w S g D jb n) := h
  have k2 : ¬ (n : Int) < 2 := by omega
  clear h hkn hu hsz hR
  go_enter Tryz.func22, Tryz.ntmps22
  go_wp2_with (go_at_call 43; refine HPG.mono ?_; rintro e W9 ⟨rfl, hW9⟩; subst W9)
  refine HLO.mono ?_
  rintro e V ⟨hl, hV⟩
  rcases hl with ⟨la, ln, lc, L, hRL, hln, rfl, hLw⟩ | ⟨hRn, rfl⟩
  · obtain ⟨V1, hV1⟩ : ∃ V1, V.alloc (.cells #[.pointer (some ⟨jb, 0, none⟩), .slice la ln lc, .slice la ln lc] 88) = V1 := ⟨_, rfl⟩
    have hB1 : Below V.heap.size V V1 := by rw [← hV1]; exact (Below.refl _ V).alloc (Nat.le_refl _) _
    have r1 : V1.heap[V.heap.size]? = some (.cells #[.pointer (some ⟨jb, 0, none⟩), .slice la ln lc, .slice la ln lc] 88 (0, 0)) := by rw [← hV1]; exact heap_alloc_new V _
    have hsh := HSH.out (lfs L) hRL
    have hSV := HT.out.below hV
    have hfr : Fr F w (mor F w V) V1 := (Fr.below hV).trans ⟨hB1.size, fun _ h => h, fun x _ hl => hB1.block x hl⟩
    have hLF : Lw (mor F w V) V1 la ln lc L := by
      refine Lw.fr (F := mor F w V) (hLw.mono fun x hx hl => ?_) ⟨hB1.size, fun _ h => h, fun x _ hl => hB1.block x hl⟩
      rcases hx with hx | hx
      · exact .inl hx
      · exact .inr ⟨hx, hl⟩
    have hE : Tab h0 (mor F w V) V1 S g D V.heap.size jb n L L := by
      refine { disk := hSV.disk.below hB1, jat := hSV.jat.below hB1, sat := ⟨la, lc, la, lc, by unfold Sat; rw [hln]; exact r1, by rw [hln]; exact hLF, by rw [hln]; exact hLF⟩, shL := hsh, shK := hsh, n2 := hn2, n12 := hn, sj := hSV.sj, ss := fun hs => by have := hSV.disk.bd _ hs; omega, sbj := fun e => by have := hSV.jat.lt; omega, fF := fun x hx => ?_, h0s := Nat.le_trans HT.out.h0w hV.size, h0S := hSV.h0S, h0w := Nat.le_trans hSV.h0w hB1.size }
      have := hSV.fF x hx
      exact ⟨this.1, by omega, this.2.1, Nat.lt_of_lt_of_le this.2.2 hB1.size⟩
    have HE : Hid (Tab h0 (mor F w V) V1 S g D V.heap.size jb n L L ∧ Fr F w (mor F w V) V1 ∧ Below w.heap.size w V1 ∧ R = some (lfs L)) := ⟨hE, hfr, hV.trans (hB1.mono hV.size), hRL⟩
    clear HLO hRL hLw hB1 r1 hsh hSV hfr hLF hE hV hln
    go_wp2
    go_ret2
    exact .inl ⟨_, _, L, rfl, by rw [HR.out]; exact HE.out.2.2.2, HE.out.1, HE.out.2.1, HE.out.2.2.1⟩
  · have HE : Hid (Below w.heap.size w V ∧ R = none) := ⟨hV, hRn⟩
    clear HLO hV hRn
    go_wp2
    go_ret2
    exact .inr ⟨rfl, by rw [HR.out]; exact HE.out.2, HE.out.1⟩
end Go.Proofs.YtnafalkcgghjgaaGreatDoor
