/- Moves: the mathematics; walk over moves. -/
import Derived.Test.YtgihdfmeokbplaaXR
namespace Go.Proofs.Ytgihdfmeokbplaa
open Go.RowKit Ex
structure MvV where
  from_ : Int
  to : Int
  size : Int
def MvV.cells (m : MvV) : List Value := [.int .i64 m.from_, .int .i64 m.to, .int .i64 m.size]
def mvsV (l : List MvV) : List Value := l.flatMap MvV.cells
/-- The moves of spans that lie in their order, from a place on. -/
def movL : Int → List Sp → List MvV
  | _, [] => []
  | t, s :: l => if s.1 = t then movL (t + s.2) l else ⟨s.1, t, s.2⟩ :: movL (t + s.2) l
theorem movL_snoc (t : Int) (l : List Sp) (s : Sp) : movL t (l ++ [s]) = movL t l ++ (if s.1 = t + sumS l then [] else [⟨s.1, t + sumS l, s.2⟩]) := by
  induction l generalizing t with
  | nil => simp only [List.nil_append, movL, sumS_nil, Int.add_zero]
  | cons a l ih =>
    simp only [List.cons_append, movL, ih, sumS_cons, Int.add_assoc]
    split <;> simp
theorem movL_len (t : Int) (l : List Sp) : (movL t l).length ≤ l.length := by
  induction l generalizing t with
  | nil => simp [movL]
  | cons a l ih => rw [movL]; split <;> simp <;> have := ih (t + a.2) <;> omega
theorem mvsV_len (l : List MvV) : (mvsV l).length = l.length * 3 := by
  induction l with
  | nil => rfl
  | cons p l ih => simp only [mvsV, List.flatMap_cons, List.length_append, List.length_cons] at *; simp only [MvV.cells, List.length_cons, List.length_nil]; omega
theorem mvsV_snoc (l : List MvV) (m : MvV) : mvsV (l ++ [m]) = mvsV l ++ [.int .i64 m.from_, .int .i64 m.to, .int .i64 m.size] := by simp [mvsV, MvV.cells]
theorem info54 : (Try.prog.info? 54).map (fun i => (i.zero, i.size, i.bytes)) = some (some (.agg #[.int .i64 0, .int .i64 0, .int .i64 0]), 3, 24) := by kernel_rfl
set_option maxRecDepth 100000 in
set_option maxHeartbeats 4000000 in
theorem moves_any {w : World} {a : Option Addr} {N cap : Nat} {l : List Sp} (h : SpW w a N cap l) (hN : N ≤ 10000000) (hs : ∀ k, 0 ≤ sumS (l.take k) ∧ sumS (l.take k) ≤ 1048576) :
    Calls Try.prog 48 #[.slice a N cap] w fun e w' => ∃ a' c, e = .returned (.slice a' (movL 0 l).length c) ∧ w'.ownsRow w.heap.size 54 3 (.slice a' (movL 0 l).length c) (movL 0 l).length (mvsV (movL 0 l)) ∧ Below w.heap.size w w' := by
  have HS : Hid (SpW w a N cap l) := h
  have HB : Hid (∀ k, 0 ≤ sumS (l.take k) ∧ sumS (l.take k) ≤ 1048576) := hs
  have hcp := h.hcp
  have hmx := h.hmx
  obtain ⟨i0, hi, hz0, hz1, hz2⟩ := info_parts info54
  obtain ⟨B, hB⟩ : ∃ B, w.heap.size = B := ⟨_, rfl⟩
  rw [hB]
  have HBE : Hid (w.heap.size = B) := hB
  clear h hs hB
  go_enter Try.func48, Try.ntmps48
  go_wp2
  go_loopw [3, 4, 9] (fun v3 v4 v9 wr => ∃ (k n c : Nat) (a' : Option Addr), k ≤ N ∧ v9 = .int .i64 (k : Int) ∧ v4 = .int .i64 (sumS (l.take k)) ∧ v3 = .slice a' n c ∧ n = (movL 0 (l.take k)).length ∧ wr.ownsRow B 54 3 (.slice a' n c) n (mvsV (movL 0 (l.take k))) ∧ Below B w wr) (fun _ _ v _ => N - (intOf v).toNat)
  case atStart => exact ⟨0, 0, 0, none, by omega, rfl, rfl, rfl, rfl, World.ownsRow_nil _ _ _ _, by rw [← HBE.out]; exact Below.refl _ _⟩
  case round =>
    obtain ⟨k, n, c, a', hk, rfl, rfl, rfl, hn, hown, hbel⟩ := hrel
    by_cases hlt : k < N
    · have kk : (k : Int) < (N : Int) := by omega
      have hbw : Below w.heap.size w wr := by rw [HBE.out]; exact hbel
      have hsp := HS.out.below hbw
      obtain ⟨b, o, rfl, hb, hcs⟩ := hsp.hat (by omega)
      obtain ⟨q, hq⟩ : ∃ q, l[k]? = some q := ⟨_, List.getElem?_eq_getElem (by rw [hsp.hl]; exact hlt)⟩
      obtain ⟨c1, c2⟩ := hcs k q hq
      have hst := sum_step hq
      have hp0 := HB.out k
      have hp1 := HB.out (k + 1)
      have hnk : n ≤ k := by rw [hn]; exact Nat.le_trans (movL_len _ _) (by rw [List.length_take]; omega)
      have hbs : B ≤ wr.heap.size := by have := hbw.size; rw [HBE.out] at this; exact this
      have HNX := movL_snoc 0 (l.take k) q
      rw [show l.take k ++ [q] = l.take (k + 1) by rw [List.take_add_one, hq]; rfl, Int.zero_add] at HNX
      have HSX : Hid (sumS (l.take (k + 1)) = sumS (l.take k) + q.2) := hst
      obtain ⟨s0, hs0⟩ : ∃ s0, sumS (l.take k) = s0 := ⟨_, rfl⟩
      rw [hs0] at hst hp0 HNX ⊢
      have HS0 : Hid (sumS (l.take k) = s0) := hs0
      have hw1 : IntKind.i64.wrap (s0 + q.2) = s0 + q.2 := wr64_in ⟨by omega, by omega⟩
      have HN1 : Hid (n = (movL 0 (l.take k)).length) := hn
      have hwx := hbel.alloc hbs (.cells #[.int .i64 q.1, .int .i64 q.2] 37)
      have HW : Hid (∀ V, Below B w V → Below B w V) := fun _ h => h
      have HO : Hid (wr.ownsRow B 54 3 (.slice a' n c) n (mvsV (movL 0 (l.take k)))) := hown
      have HBL : Hid (Below B w wr) := hbel
      by_cases he : q.1 = s0
      · rw [if_pos he, List.append_nil] at HNX
        have HNY : Hid (movL 0 (l.take (k + 1)) = movL 0 (l.take k)) := HNX
        have heb : (q.1 != s0) = false := by simpa using he
        clear hcs hsp hbw hq hst hp0 hp1 hn hown hbel hs0 HNX hwx he
        go_wp2
        refine ⟨⟨k + 1, n, c, a', by omega, by go_num, by rw [HSX.out, HS0.out], rfl, by rw [HNY.out]; exact HN1.out, ?_, HBL.out.alloc hbs _⟩, by simp [intOf]; omega⟩
        rw [HNY.out]
        exact HO.out.alloc _
      · rw [if_neg he] at HNX
        have HNY : Hid (movL 0 (l.take (k + 1)) = movL 0 (l.take k) ++ [⟨q.1, s0, q.2⟩]) := HNX
        have heb : (q.1 != s0) = true := by simpa using he
        clear hcs hsp hbw hq hst hp0 hp1 hn hown hbel hs0 HNX hwx
        go_wp2_with (at_builtin; refine wpList_append_lies _ rfl _ _ 50 rfl B 54 i0 (.agg #[.int .i64 0, .int .i64 0, .int .i64 0]) 3 24 Try.underlying50 hi hz0 hz1 hz2 rfl (by decide) _ n (mvsV (movL 0 (l.take k))) rfl ((HO.out.alloc _).alloc _) ⟨wr.heap.size + 1, 0, none⟩ 1 1 [.int .i64 q.1, .int .i64 s0, .int .i64 q.2] rfl rfl (World.news_of_block (by first | exact heap_alloc_new (wr.alloc _) _ | (have h9 := heap_alloc_new (wr.alloc (.cells #[.int .i64 q.1, .int .i64 q.2] 37)) (.cells #[.int .i64 q.1, .int .i64 s0, .int .i64 q.2] 54); simpa using h9))) (by simp [Value.oneCell']) (by omega) (by unfold maxLen; omega) (by omega) (by simp; omega) _ rfl ?_)
        intro g3 c3 w3 hown' hgrow3 hg3 hlt3
        have HO3 : Hid (w3.ownsRow B 54 3 (.slice (some ⟨g3, 0, none⟩) (n + 1) c3) (n + 1) (mvsV (movL 0 (l.take (k + 1))))) := by
          rw [HNY.out, mvsV_snoc]
          exact hown'
        have HB3 : Hid (Below B w w3) := Below.grown ((HBL.out.alloc hbs _).alloc (by simp; omega) _) hgrow3 (by simp; omega) (fun j hj => (HO.out.lt _ hj).1)
        have h9 : w3.heap[wr.heap.size]? = some (.cells #[.int .i64 q.1, .int .i64 q.2] 37 (0, 0)) :=
          (hgrow3.block wr.heap.size (by simp; omega) (fun e => by have := (HO.out.lt _ e.symm).2; omega)).trans ((((Below.refl _ (wr.alloc (.cells #[.int .i64 q.1, .int .i64 q.2] 37))).alloc (Nat.le_refl _) _).block wr.heap.size (by simp)).trans (heap_alloc_new wr _))
        have d2 : w3.cell? ⟨wr.heap.size, 1, none⟩ = some (.int .i64 q.2) := by rw [cell_of_row _ _ _ _ _ _ h9]; rfl
        clear hown' hgrow3 hg3 hlt3 HO HBL h9
        go_wp2
        exact ⟨⟨k + 1, n + 1, c3, _, by omega, by go_num, by rw [HSX.out, HS0.out], rfl, by rw [HNY.out, List.length_append, ← HN1.out]; rfl, HO3.out, HB3.out⟩, by simp [intOf]; omega⟩
    · obtain rfl : k = N := by omega
      have kk : ¬ (k : Int) < (k : Int) := by omega
      have e1 : l.take k = l := List.take_of_length_le (by rw [HS.out.hl]; exact Nat.le_refl _)
      rw [e1] at hown hn
      subst hn
      have HF : Hid (wr.ownsRow B 54 3 (.slice a' (movL 0 l).length c) (movL 0 l).length (mvsV (movL 0 l)) ∧ Below B w wr) := ⟨hown, hbel⟩
      clear hown hbel e1
      go_wp2
      go_ret
      exact ⟨a', c, rfl, HF.out⟩
end Go.Proofs.Ytgihdfmeokbplaa
