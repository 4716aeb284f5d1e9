/- Pack's closure; bytes for themselves. -/
import Derived.Test.YtekbmdpokghmmaaLH
namespace Go.Proofs.Ytekbmdpokghmmaa
open Go.RowKit Lz
theorem with_any {w : World} {R N c : Nat} {a : Option Addr} {bs : List UInt8} (t : Tk) (ht : t.Ok) (h : w.ownsRow R 5 1 (.slice a N c) N (bytesV bs)) (hl : N ≤ 200000) (hR : R ≤ w.heap.size) :
    Calls Try.prog 29 #[.slice a N c, .agg #[.int .i64 (t.b : Int), .int .i64 (t.s : Int), .string (strOf t.d)]] w (WtTo w R a (bs ++ t.enc) (N + t.enc.length)) := by
  obtain ⟨b, s, d⟩ := t
  rcases ht with ht | ht
  · rw [ht.enc]
    obtain ⟨h1, h2, h3, h4⟩ := ht
    simp only at h1 h2 h3 h4 ⊢
    subst h3 h4
    exact with_own d h1 h2 h hl hR
  · rw [ht.enc]
    obtain ⟨h1, h2, h3, h4, h5⟩ := ht
    simp only at h1 h2 h3 h4 h5 ⊢
    subst h1
    exact with_ear h2 h3 h4 h5 h hl hR
theorem OutTo.set2 {w w1 w2 : World} {R B ty e sz : Nat} {a a2 : Option Addr} {n c m c2 : Nat} {xs ys : List Value} (h : OutR w R B ty e sz a n c xs) (hb : Below w.heap.size w w1) (hu : Upd (fun x => ob a = some x) w1 w2) (ha : ob a2 = ob a ∨ ∃ x, ob a2 = some x ∧ w1.heap.size ≤ x) (ho : w2.ownsRow R e sz (.slice a2 m c2) m ys) :
    w2.heap[B]? = some (.cells #[.slice a n c] ty (0, 0)) ∧ OutTo w R B ty e sz a m ys (w2.setCell ⟨B, 0, none⟩ (.slice a2 m c2)) := by
  have hB1 := (h.below hb).2.1
  have hlt := h.lt
  have hs := hb.size
  have hne : ob a2 ≠ some B := by
    rcases ha with e1 | ⟨x, e1, hx⟩
    · rw [e1]; exact h.2.2.1
    · rw [e1]; intro e2; cases e2; have := hlt.1; omega
  have hB2 : w2.heap[B]? = some (.cells #[.slice a n c] ty (0, 0)) := (hu.block B (by have := hlt.1; omega) h.2.2.1).trans hB1
  refine ⟨hB2, a2, c2, ⟨h.1, ?_, hne, ?_⟩, ?_, ?_⟩
  · rw [heap_setCell_same _ _ _ _ _ _ hB2]; rfl
  · refine own_keep ho (fun x hx => heap_setCell_other _ _ _ _ (fun e1 => ?_))
    rw [ob_slice] at hx
    rw [e1] at hx
    exact hne hx
  · intro x hx
    rcases ha with e1 | ⟨y, e1, hy⟩
    · exact .inl (by rw [← e1]; exact hx)
    · rw [e1] at hx; cases hx; exact .inr (Nat.le_trans hs hy)
  · refine Upd.setCell (S := fun x => x = B ∨ ob a = some x) (p := ⟨B, 0, none⟩) ?_ (fun _ => .inl rfl) _
    exact (Upd.of_below (S := fun x => x = B ∨ ob a = some x) hb).trans hu (fun k hk _ => .inr hk)
set_option maxRecDepth 100000 in
set_option maxHeartbeats 2000000 in
theorem pack1_any {w : World} {R B N c : Nat} {a : Option Addr} {bs : List UInt8} (t : Tk) (ht : t.Ok) (h : OutR w R B 22 5 1 a N c (bytesV bs)) (hl : N ≤ 200000) :
    Calls Try.prog 28 #[.agg #[.int .i64 (t.b : Int), .int .i64 (t.s : Int), .string (strOf t.d)], .pointer (some ⟨B, 0, none⟩)] w fun e w' => e = .returned (.tuple #[]) ∧ OutTo w R B 22 5 1 a (N + t.enc.length) (bytesV (bs ++ t.enc)) w' := by
  obtain ⟨C, hC⟩ : ∃ C, w.heap.size = C := ⟨_, rfl⟩
  have HWA := fun (V : World) (h' : OutR V R B 22 5 1 a N c (bytesV bs)) => with_any t ht h'.2.2.2 hl (by have := h'.1; have := h'.lt.1; omega)
  obtain ⟨P, hP⟩ : ∃ P, N + t.enc.length = P := ⟨_, rfl⟩
  obtain ⟨o2, ho2⟩ : ∃ o, bs ++ t.enc = o := ⟨_, rfl⟩
  rw [hP, ho2] at HWA ⊢
  obtain ⟨b, s, d⟩ := t
  simp only at HWA ⊢
  obtain ⟨T, hT⟩ : ∃ T, strOf d = T := ⟨_, rfl⟩
  rw [hT] at HWA ⊢
  obtain ⟨W1, hW1⟩ : ∃ W, w.alloc (.cells #[.int .i64 (b : Int), .int .i64 (s : Int), .string T] 51) = W := ⟨_, rfl⟩
  have hb1 : Below w.heap.size w W1 := by rw [← hW1]; exact (Below.refl _ w).alloc (Nat.le_refl _) _
  have hr1 : W1.heap[C]? = some (.cells #[.int .i64 (b : Int), .int .i64 (s : Int), .string T] 51 (0, 0)) := by rw [← hW1, ← hC]; exact heap_alloc_new w _
  have z0 : W1.cell? ⟨C, 0, none⟩ = some (.int .i64 (b : Int)) := by rw [cell_of_row _ _ _ _ _ _ hr1]; rfl
  have z1 : W1.cell? ⟨C, 1, none⟩ = some (.int .i64 (s : Int)) := by rw [cell_of_row _ _ _ _ _ _ hr1]; rfl
  have z2 : W1.cell? ⟨C, 2, none⟩ = some (.string T) := by rw [cell_of_row _ _ _ _ _ _ hr1]; rfl
  have x0 : W1.cell? ⟨B, 0, none⟩ = some (.slice a N c) := by rw [cell_of_row _ _ _ _ _ _ (h.below hb1).2.1]; rfl
  have HC : Hid (Calls Try.prog 29 #[.slice a N c, .agg #[.int .i64 (b : Int), .int .i64 (s : Int), .string T]] W1 (WtTo W1 R a o2 P)) := HWA W1 (h.below hb1)
  have HO : Hid (OutR w R B 22 5 1 a N c (bytesV bs) ∧ Below w.heap.size w W1) := ⟨h, hb1⟩
  clear h hb1 hr1 hT HWA
  go_enter Try.func28, Try.ntmps28
  go_wp2_with fail
  refine HC.out.mono ?_
  rintro e V ⟨a2, c2, rfl, ho, ha, hu⟩
  obtain ⟨hB5, hOT⟩ := OutTo.set2 HO.out.1 HO.out.2 hu ha ho
  have f5 := frozen_of_row V B 0 _ _ hB5
  have x5 : V.cell? ⟨B, 0, none⟩ = some (.slice a N c) := by rw [cell_of_row _ _ _ _ _ _ hB5]; rfl
  have HOT : Hid (OutTo w R B 22 5 1 a P (bytesV o2) (V.setCell ⟨B, 0, none⟩ (.slice a2 P c2))) := hOT
  clear hOT ho ha hu hB5
  go_wp2
  refine bodyPost_end (v := .tuple #[]) ?_ rfl ⟨rfl, HOT.out⟩
  simp [results, go_sem]
end Go.Proofs.Ytekbmdpokghmmaa
