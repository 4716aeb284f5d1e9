/- A Cutter in memory: New, whole, take, Left, End. -/
import Derived.Test.YtebmmhgmbnbnnaaCD
namespace Go.Proofs.Ytebmmhgmbnbnnaa
open Go.RowKit Ck
/-- A Cutter's cells. -/
def ccells (m : Ms) (q : Nat) (wa : Option Addr) (n wc : Nat) : Array Value := #[.int .i64 (m.least : Int), .int .i64 (m.most : Int), .int .i64 (m.bits : Int), .pointer (some ⟨q, 0, none⟩), .slice wa n wc]
/-- A Cutter at block g, its window at q over a ring at r, behind the text P, wt of which waits. -/
structure CtIs (w : World) (g q r : Nat) (wa : Option Addr) (wc : Nat) (m : Ms) (P wt : List UInt8) : Prop where
  ok : m.Ok
  few : wt.length ≤ m.most
  row : w.heap[g]? = some (.cells (ccells m q wa wt.length wc) 56 (0, 0))
  win : WinIs w r q 16 (lstN 16 P)
  own : w.ownsRow 0 5 1 (.slice wa wt.length wc) wt.length (bytesV wt)
  gq : g ≠ q
  gr : g ≠ r
  wg : ∀ x, ob wa = some x → x ≠ g ∧ x ≠ q ∧ x ≠ r ∧ x < w.heap.size
/-- Its blocks. -/
def ctS (g q r : Nat) (wa : Option Addr) (x : Nat) : Prop := x = g ∨ x = q ∨ x = r ∨ ob wa = some x
theorem CtIs.lt {w : World} {g q r : Nat} {wa : Option Addr} {wc : Nat} {m : Ms} {P wt : List UInt8} (h : CtIs w g q r wa wc m P wt) : ∀ x, ctS g q r wa x → x < w.heap.size := by
  intro x hx
  rcases hx with rfl | rfl | rfl | hx
  · exact lt_of_some h.row
  · exact h.win.lt.1
  · exact h.win.lt.2
  · exact (h.wg x hx).2.2.2
theorem CtIs.keep {w w' : World} {g q r : Nat} {wa : Option Addr} {wc : Nat} {m : Ms} {P wt : List UInt8} (h : CtIs w g q r wa wc m P wt) (hs : w.heap.size ≤ w'.heap.size) (hk : ∀ x, ctS g q r wa x → w'.heap[x]? = w.heap[x]?) : CtIs w' g q r wa wc m P wt :=
  { h with
    row := (hk g (.inl rfl)).trans h.row
    win := h.win.keep (hk q (.inr (.inl rfl))) (hk r (.inr (.inr (.inl rfl))))
    own := own_keep h.own (fun x hx => by rw [ob_slice] at hx; exact hk x (.inr (.inr (.inr hx))))
    wg := fun x hx => ⟨(h.wg x hx).1, (h.wg x hx).2.1, (h.wg x hx).2.2.1, Nat.lt_of_lt_of_le (h.wg x hx).2.2.2 hs⟩ }
theorem CtIs.upd {w w' : World} {S : Nat → Prop} {g q r : Nat} {wa : Option Addr} {wc : Nat} {m : Ms} {P wt : List UInt8} (h : CtIs w g q r wa wc m P wt) (hu : Upd S w w') (hd : ∀ x, ctS g q r wa x → ¬ S x) : CtIs w' g q r wa wc m P wt :=
  h.keep hu.size (fun x hx => hu.block x (h.lt x hx) (hd x hx))
theorem CtIs.below {w w' : World} {g q r : Nat} {wa : Option Addr} {wc : Nat} {m : Ms} {P wt : List UInt8} (h : CtIs w g q r wa wc m P wt) (hb : Below w.heap.size w w') : CtIs w' g q r wa wc m P wt :=
  h.keep hb.size (fun x hx => hb.block x (h.lt x hx))
theorem ct_cells {w : World} {g q : Nat} {wa : Option Addr} {n wc : Nat} {m : Ms} (h : w.heap[g]? = some (.cells (ccells m q wa n wc) 56 (0, 0))) :
    w.cell? ⟨g, 0, none⟩ = some (.int .i64 (m.least : Int)) ∧ w.cell? ⟨g, 1, none⟩ = some (.int .i64 (m.most : Int)) ∧ w.cell? ⟨g, 2, none⟩ = some (.int .i64 (m.bits : Int)) ∧ w.cell? ⟨g, 3, none⟩ = some (.pointer (some ⟨q, 0, none⟩)) ∧ w.cell? ⟨g, 4, none⟩ = some (.slice wa n wc) := by
  refine ⟨?_, ?_, ?_, ?_, ?_⟩ <;> rw [cell_of_row w g _ _ _ _ h] <;> rfl
set_option maxHeartbeats 1000000 in
theorem left_any {w : World} {g q r : Nat} {wa : Option Addr} {wc : Nat} {m : Ms} {P wt : List UInt8} (h : CtIs w g q r wa wc m P wt) : Calls Try.prog 18 #[.pointer (some ⟨g, 0, none⟩)] w fun e w' => e = .returned (.int .i64 (wt.length : Int)) ∧ w' = w := by
  obtain ⟨c0, c1, c2, c3, c4⟩ := ct_cells h.row
  clear h c0 c1 c2 c3
  go_enter Try.func18, Try.ntmps18
  go_wp2
  go_ret
  exact ⟨rfl, rfl⟩
set_option maxHeartbeats 1000000 in
theorem left_nil (w : World) : Calls Try.prog 18 #[.pointer none] w fun e w' => e = .returned (.int .i64 0) ∧ w' = w := by
  go_enter Try.func18, Try.ntmps18
  go_wp2
  go_ret
  exact ⟨rfl, rfl⟩
set_option maxHeartbeats 1000000 in
theorem end_nil (w : World) : Calls Try.prog 19 #[.pointer none] w fun e w' => e = .returned (.tuple #[.string ⟨#[]⟩, .bool false]) ∧ w' = w := by
  go_enter Try.func19, Try.ntmps19
  go_wp2
  go_ret2
  exact ⟨rfl, rfl⟩
set_option maxHeartbeats 1000000 in
theorem write_nil (w : World) (a : Option Addr) (n c : Nat) : Calls Try.prog 17 #[.pointer none, .slice a n c] w fun e w' => e = .returned (.slice none 0 0) ∧ w' = w := by
  go_enter Try.func17, Try.ntmps17
  go_wp2
  go_ret
  exact ⟨rfl, rfl⟩
theorem ct_set {w : World} {g q : Nat} {wa : Option Addr} {n wc : Nat} {m : Ms} (h : w.heap[g]? = some (.cells (ccells m q wa n wc) 56 (0, 0))) (wa' : Option Addr) (n' wc' : Nat) : (w.setCell ⟨g, 4, none⟩ (.slice wa' n' wc')).heap[g]? = some (.cells (ccells m q wa' n' wc') 56 (0, 0)) := by
  rw [heap_setCell_same _ g 4 _ _ _ h]; rfl
/-- The slice that waits is changed. -/
theorem CtIs.set {w V : World} {g q r : Nat} {wa : Option Addr} {wc : Nat} {m : Ms} {P wt : List UInt8} (h : CtIs w g q r wa wc m P wt) (hV : V.heap[g]? = w.heap[g]?) (hw : WinIs V r q 16 (lstN 16 P)) (hs : w.heap.size ≤ V.heap.size) (wa' : Option Addr) (wc' : Nat) (wt' : List UInt8) (hf : wt'.length ≤ m.most)
    (ho : V.ownsRow 0 5 1 (.slice wa' wt'.length wc') wt'.length (bytesV wt')) (hb : ob wa' = ob wa ∨ ∃ x, ob wa' = some x ∧ w.heap.size ≤ x ∧ x < V.heap.size) :
    CtIs (V.setCell ⟨g, 4, none⟩ (.slice wa' wt'.length wc')) g q r wa' wc' m P wt' := by
  have hg := lt_of_some h.row
  have hwg : ∀ x, ob wa' = some x → x ≠ g ∧ x ≠ q ∧ x ≠ r ∧ x < V.heap.size := by
    intro x hx
    rcases hb with hb | ⟨y, hy, h1, h2⟩
    · obtain ⟨a1, a2, a3, a4⟩ := h.wg x (hb ▸ hx)
      exact ⟨a1, a2, a3, by omega⟩
    · rw [hx] at hy
      cases hy
      have hl := h.win.lt
      exact ⟨by omega, by omega, by omega, h2⟩
  refine { ok := h.ok, few := hf, row := ct_set (hV.trans h.row) wa' _ wc', win := hw.keep (heap_setCell_other _ _ _ _ (Ne.symm h.gq)) (heap_setCell_other _ _ _ _ (Ne.symm h.gr)), own := own_keep ho (fun x hx => ?_), gq := h.gq, gr := h.gr, wg := fun x hx => ?_ }
  · rw [ob_slice] at hx
    exact heap_setCell_other _ _ _ _ (hwg x hx).1
  · obtain ⟨a1, a2, a3, a4⟩ := hwg x hx
    exact ⟨a1, a2, a3, by simpa using a4⟩
theorem own_some {w : World} {base e sz n cp : Nat} {a : Option Addr} {xs : List Value} (h : w.ownsRow base e sz (.slice a n cp) n xs) (h0 : 0 < n) : ∃ g, a = some ⟨g, 0, none⟩ := by
  rcases h.2 with ⟨h2, h3⟩ | ⟨g, c, cur, e, _⟩
  · omega
  · cases e; exact ⟨g, rfl⟩
set_option maxRecDepth 100000 in
set_option maxHeartbeats 2000000 in
theorem take_ct {w : World} {g q r : Nat} {wa : Option Addr} {wc : Nat} {m : Ms} {P wt : List UInt8} (h : CtIs w g q r wa wc m P wt) (h0 : wt ≠ []) : Calls Try.prog 32 #[.pointer (some ⟨g, 0, none⟩)] w fun e w' => e = .returned (.string (strOf wt)) ∧ CtIs w' g q r wa wc m P [] ∧ Upd (fun x => x = g) w w' := by
  obtain ⟨c0, c1, c2, c3, c4⟩ := ct_cells h.row
  have hn0 : 0 < wt.length := List.length_pos_iff.2 h0
  obtain ⟨wb, rfl⟩ := own_some h.own hn0
  have hown := h.own
  have hB := BsI.owned hown
  have hcv := hB.conv (Below.refl _ w)
  have fr4 := frozen_of_row w g 4 _ _ h.row
  have hs0 := sl_to wb 0 wt.length wc 0 (by omega) w
  have hcw : wt.length ≤ wc := hB.2.1
  have HC : Hid (CtIs (w.setCell ⟨g, 4, none⟩ (.slice (some ⟨wb, 0, none⟩) 0 wc)) g q r (some ⟨wb, 0, none⟩) wc m P []) := by
    refine h.set rfl h.win (Nat.le_refl _) (some ⟨wb, 0, none⟩) wc [] (by simp) ?_ (.inl rfl)
    obtain ⟨h1, h2⟩ := hown
    refine ⟨by simp [bytesV], ?_⟩
    rcases h2 with ⟨h2, _⟩ | ⟨g', cap', cur, e, hb, hr, h3, h4, h5, h6⟩
    · cases h2
    · cases e
      exact .inr ⟨wb, wc, cur, rfl, hb, hr, Nat.zero_le _, h4, h5, by simp [bytesV]⟩
  have HU : Hid (Upd (fun x => x = g) w (w.setCell ⟨g, 4, none⟩ (.slice (some ⟨wb, 0, none⟩) 0 wc))) := by
    show Upd _ _ _
    exact Upd.setCell (Upd.refl (fun x => x = g) w) (fun _ => rfl) _
  generalize wt.length = n at *
  generalize strOf wt = T at *
  clear h hown hB c0 c1 c2 c3
  go_enter Try.func32, Try.ntmps32
  go_wp2
  go_ret
  exact ⟨rfl, HC.out, HU.out⟩
end Go.Proofs.Ytebmmhgmbnbnnaa
