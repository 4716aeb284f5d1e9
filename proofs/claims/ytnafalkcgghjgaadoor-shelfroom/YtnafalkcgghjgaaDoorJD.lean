/- Walks over a Journal's Commit, and over Open. -/
import Derived.Test.YtnafalkcgghjgaaDoorJX
namespace Go.Proofs.YtnafalkcgghjgaaDoor
open Go.RowKit Go.Shelf
/-- The changes in the order of their pages. -/
def srtC (l : List Chi) : List Chg := (l.map natC).mergeSort (fun a b => decide (a.1 ≤ b.1))
theorem srtC_perm (l : List Chi) : (srtC l).Perm (l.map natC) := List.mergeSort_perm _ _
theorem srtC_sorted (l : List Chi) : (srtC l).Pairwise (fun a b => a.1 ≤ b.1) := by
  have := List.pairwise_mergeSort (le := fun (a b : Chg) => decide (a.1 ≤ b.1)) (fun a b c h1 h2 => by simp at *; omega) (fun a b => by simp; omega) (l.map natC)
  exact this.imp (fun h => by simpa using h)
theorem nodup_nat {n : Nat} {l : List Chi} (h0 : ∀ c ∈ l, 0 ≤ c.1 ∧ c.1 < (n : Int)) (h : (l.map Prod.fst).Nodup) : (l.map natC).Pairwise (fun a b => a.1 ≠ b.1) := by
  rw [List.pairwise_map]
  have h1 := List.pairwise_map.1 h
  refine List.Pairwise.imp_of_mem (fun {a b} ha hb hab e => hab ?_) h1
  have := h0 a ha
  have := h0 b hb
  simp only [natC] at e
  omega
theorem eq_of_page {l : List Chg} (hd : l.Pairwise (fun a b => a.1 ≠ b.1)) {a b : Chg} (ha : a ∈ l) (hb : b ∈ l) (e : a.1 = b.1) : a = b := by
  induction l with
  | nil => simp at ha
  | cons x l ih =>
    rw [List.pairwise_cons] at hd
    rcases List.mem_cons.1 ha with ea | ha'
    · rcases List.mem_cons.1 hb with eb | hb'
      · rw [ea, eb]
      · exact absurd e (by rw [ea]; exact hd.1 b hb')
    · rcases List.mem_cons.1 hb with eb | hb'
      · exact absurd e.symm (by rw [eb]; exact hd.1 a ha')
      · exact ih hd.2 ha' hb'
theorem srtC_unique {n : Nat} {l : List Chi} (h0 : ∀ c ∈ l, 0 ≤ c.1 ∧ c.1 < (n : Int)) (h : (l.map Prod.fst).Nodup) {l' : List Chg} (hp : l'.Perm (l.map natC)) (hs : l'.Pairwise (fun a b => a.1 ≤ b.1)) : l' = srtC l := by
  have hd := nodup_nat h0 h
  exact List.Perm.eq_of_pairwise (fun a b ha hb h1 h2 => eq_of_page hd (hp.subset ha) ((srtC_perm l).subset hb) (by omega)) hs (srtC_sorted l) (hp.trans (srtC_perm l).symm)
def comSteps (n : Nat) (l : List Chi) : List Stp := if l = [] then [] else commitS n (srtC l) (markOf (pagesL l))
def comCode (n : Nat) (D : Dk) (l : List Chi) : Nat := if chk n l = 0 then (if D.up then codeS D (comSteps n l) else 10) else chk n l
def comDisk (n : Nat) (D : Dk) (l : List Chi) : Dk := if chk n l = 0 ∧ D.up = true then runS D (comSteps n l) else D
theorem Mut.next {S : Nat → Prop} {w w1 : World} {g : Nat} {D1 : Dk} (m : Mut S w g D1 w1) : ∃ S1, DiskIs w1 S1 g D1 ∧ Upd S w w1 ∧ (∀ x, S1 x → S x ∨ w.heap.size ≤ x) ∧ ∀ x, x < w.heap.size → ¬ S x → ¬ S1 x := by
  obtain ⟨S1, h1, h2, h3⟩ := m
  exact ⟨S1, h1, h2, h3, fun x hx hn hs => (h3 x hs).elim hn (fun h => by omega)⟩
set_option maxHeartbeats 1000000 in
theorem open_nil (p : Int) (w : World) : Calls Tryd.prog 14 #[.pointer none, .int .i64 p] w fun e w' => e = .returned (.tuple #[.pointer none, .int .i64 1]) ∧ w' = w := by
  have HN := need_any p w
  go_enter Tryd.func14, Tryd.ntmps14
  go_wp2_with fail
  refine HN.mono ?_
  rintro e V1 ⟨rfl, hV⟩
  subst V1
  go_wp2
  go_ret2
  exact ⟨rfl, rfl⟩
set_option maxHeartbeats 1000000 in
theorem open_small {w : World} {S : Nat → Prop} {g : Nat} {D : Dk} (h : DiskIs w S g D) (p : Int) (hp : needN p = 0 ∨ D.kept.length < needN p) : Calls Tryd.prog 14 #[.pointer (some ⟨g, 0, none⟩), .int .i64 p] w fun e w' => e = .returned (.tuple #[.pointer none, .int .i64 1]) ∧ w' = w := by
  have HN := need_any p w
  have HS := size_any h
  obtain ⟨nd, hnd⟩ : ∃ nd, needN p = nd := ⟨_, rfl⟩
  rw [hnd] at HN hp
  clear hnd h
  by_cases h0 : nd = 0
  · subst h0
    clear hp
    go_enter Tryd.func14, Tryd.ntmps14
    go_wp2_with fail
    refine HN.mono ?_
    rintro e V1 ⟨rfl, hV⟩
    subst V1
    go_wp2
    go_ret2
    exact ⟨rfl, rfl⟩
  · have k0 : ¬ (nd : Int) = 0 := by omega
    have k1 : (D.kept.length : Int) < (nd : Int) := by omega
    clear hp
    go_enter Tryd.func14, Tryd.ntmps14
    go_wp2_with (go_at_call 29; refine HS.mono ?_; rintro e V3 ⟨rfl, hV⟩; subst V3)
    refine HN.mono ?_
    rintro e V1 ⟨rfl, hV⟩
    subst V1
    go_wp2_with (go_at_call 29; refine HS.mono ?_; rintro e V3 ⟨rfl, hV⟩; subst V3)
    go_ret2
    exact ⟨rfl, rfl⟩
set_option maxHeartbeats 1000000 in
theorem open_any {w : World} {S : Nat → Prop} {g n : Nat} {D : Dk} (h : DiskIs w S g D) (hn1 : 1 ≤ n) (hn : n ≤ 128) (hkn : 8 * n + 1 ≤ D.kept.length) (hu : D.up = true) (hw : D.waits = []) (hsz : ∀ s ∈ D.kept, s.size = 256) (hwr : D.writes + 4 * n + 2 < 1000000) :
    Calls Tryd.prog 14 #[.pointer (some ⟨g, 0, none⟩), .int .i64 (n : Int)] w fun e w' => e = .returned (.tuple #[if codeS D (recS n D.kept) = 0 then .pointer (some ⟨w.heap.size, 0, none⟩) else .pointer none, .int .i64 (codeS D (recS n D.kept) : Int)]) ∧ Jat w' w.heap.size g n ∧ ∃ S', DiskIs w' S' g (runS D (recS n D.kept)) ∧ Upd S w w' ∧ (∀ x, S' x → S x ∨ w.heap.size ≤ x) ∧ ¬ S' w.heap.size := by
  have HN := need_any (n : Int) w
  have hnd : needN (n : Int) = 1 + 8 * n := by
    unfold needN
    rw [if_neg (by omega)]
    simp
  rw [hnd] at HN
  have HS := size_any h
  have hSw := h.bd
  obtain ⟨W1, hW1⟩ : ∃ W1, w.alloc (.cells #[.pointer (some ⟨g, 0, none⟩), .int .i64 (n : Int)] 74) = W1 := ⟨_, rfl⟩
  have hb1 : Below w.heap.size w W1 := by rw [← hW1]; exact (Below.refl _ w).alloc (Nat.le_refl _) _
  have hj1 : Jat W1 w.heap.size g n := by rw [← hW1]; exact heap_alloc_new w _
  have hnj : ¬ S w.heap.size := fun hs => by have := hSw _ hs; omega
  have HR := restore_any (h.below hb1) hj1 hnj hn hkn hu hw hsz hwr
  have HB1 : Hid (Below w.heap.size w W1) := hb1
  have HJ1 : Hid (Jat W1 w.heap.size g n) := hj1
  obtain ⟨nd, hnde⟩ : ∃ nd : Nat, 1 + 8 * n = nd := ⟨_, rfl⟩
  rw [hnde] at HN
  have k0 : ((nd : Int) == 0) = false := by rw [beq_eq_false_iff_ne]; omega
  have k1 : ¬ D.kept.length < nd := by omega
  obtain ⟨D', hD'⟩ : ∃ D', runS D (recS n D.kept) = D' := ⟨_, rfl⟩
  obtain ⟨B, hB⟩ : ∃ B, w.heap.size = B := ⟨_, rfl⟩
  rw [hD'] at HR
  rw [hD']
  have HE : Hid (∀ V, Mut S W1 g D' V → Jat V w.heap.size g n ∧ ∃ S', DiskIs V S' g D' ∧ Upd S w V ∧ (∀ x, S' x → S x ∨ w.heap.size ≤ x) ∧ ¬ S' w.heap.size) := fun V hm => by
    obtain ⟨S', hd, hu', hs', hn'⟩ := hm.next
    exact ⟨HJ1.out.upd hu' hnj, S', hd, (Upd.of_below HB1.out).trans hu' (fun _ h _ => h), fun x hx => (hs' x hx).imp id (fun h => Nat.le_trans HB1.out.size h), hn' _ HJ1.out.lt hnj⟩
  rw [hB] at HE hnj ⊢
  clear h hsz hD' hnd hb1 hj1 hnde HJ1 HB1
  rcases codeS_or D (recS n D.kept) with hc | hc
  · rw [hc, hB] at HR
    rw [hc]
    have HR : Hid (Calls Tryd.prog 30 #[.pointer (some ⟨B, 0, none⟩)] W1 fun e w' => e = .returned (.int .i64 0) ∧ Mut S W1 g D' w') := HR
    clear hc
    go_enter Tryd.func14, Tryd.ntmps14
    go_wp2_with fail
    refine HN.mono ?_
    rintro e V1 ⟨rfl, hV⟩
    subst V1
    go_wp2_with (go_at_call 29; refine HS.mono ?_; rintro e V3 ⟨rfl, hV⟩; subst V3)
    refine HR.out.mono ?_
    rintro e V2 ⟨rfl, hm⟩
    go_wp2
    go_ret2
    exact ⟨rfl, HE.out _ hm⟩
  · rw [hc, hB] at HR
    rw [hc]
    have HR : Hid (Calls Tryd.prog 30 #[.pointer (some ⟨B, 0, none⟩)] W1 fun e w' => e = .returned (.int .i64 10) ∧ Mut S W1 g D' w') := HR
    clear hc
    go_enter Tryd.func14, Tryd.ntmps14
    go_wp2_with fail
    refine HN.mono ?_
    rintro e V1 ⟨rfl, hV⟩
    subst V1
    go_wp2_with (go_at_call 29; refine HS.mono ?_; rintro e V3 ⟨rfl, hV⟩; subst V3)
    refine HR.out.mono ?_
    rintro e V2 ⟨rfl, hm⟩
    go_wp2
    go_ret2
    exact ⟨rfl, HE.out _ hm⟩
end Go.Proofs.YtnafalkcgghjgaaDoor
