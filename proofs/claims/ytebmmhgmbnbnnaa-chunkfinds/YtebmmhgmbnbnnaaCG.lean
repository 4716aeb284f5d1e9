/- End, New, Cut's pieces. -/
import Derived.Test.YtebmmhgmbnbnnaaCF
namespace Go.Proofs.Ytebmmhgmbnbnnaa
open Go.RowKit Ck
set_option maxRecDepth 100000 in
set_option maxHeartbeats 2000000 in
theorem end_ct {w : World} {g q r : Nat} {wa : Option Addr} {wc : Nat} {m : Ms} {P wt : List UInt8} (h : CtIs w g q r wa wc m P wt) : Calls Try.prog 19 #[.pointer (some ⟨g, 0, none⟩)] w fun e w' => e = .returned (.tuple #[.string (strOf wt), .bool (decide (wt ≠ []))]) ∧ CtIs w' g q r wa wc m [] [] ∧ Upd (fun x => x = g ∨ x = q) w w' := by
  obtain ⟨c0, c1, c2, c3, c4⟩ := ct_cells h.row
  have hgq := h.gq
  have hgl := lt_of_some h.row
  have HCL : Hid (Calls Try.prog 33 #[.pointer (some ⟨q, 0, none⟩)] w fun e w' => e = .returned (.tuple #[]) ∧ CtIs w' g q r wa wc m [] wt ∧ Upd (fun x => x = q) w w') := by
    refine (clear_upd r q 16 _ w h.win).mono ?_
    rintro e w' ⟨rfl, hw, hu⟩
    have hr : w'.heap[g]? = w.heap[g]? := hu.block g hgl hgq
    refine ⟨rfl, ?_, hu⟩
    refine { ok := h.ok, few := h.few, row := hr.trans h.row, win := hw, own := own_keep h.own (fun x hx => ?_), gq := h.gq, gr := h.gr, wg := fun x hx => ?_ }
    · rw [ob_slice] at hx
      exact hu.block x (h.wg x hx).2.2.2 (h.wg x hx).2.1
    · exact ⟨(h.wg x hx).1, (h.wg x hx).2.1, (h.wg x hx).2.2.1, Nat.lt_of_lt_of_le (h.wg x hx).2.2.2 hu.size⟩
  clear c0 c1 c2 c4 h
  by_cases h0 : wt = []
  · subst h0
    have e1 : (decide (([] : List UInt8) ≠ [])) = false := rfl
    rw [e1]
    go_enter Try.func19, Try.ntmps19
    go_wp2_with (go_at_call 33; refine HCL.out.mono ?_; rintro e w1 ⟨rfl, hc, hu⟩; have c4 := (ct_cells hc.row).2.2.2.2; have HC1 : Hid (CtIs w1 g q r wa wc m [] []) := hc; have HU1 : Hid (Upd (fun x => x = q) w w1) := hu; clear hc hu)
    go_ret2
    exact ⟨rfl, HC1.out, HU1.out.mono fun x hx => .inr hx⟩
  · have e1 : (decide (wt ≠ [])) = true := by simp [h0]
    rw [e1]
    have hn : 0 < wt.length := List.length_pos_iff.2 h0
    have hn1 : ¬ (wt.length : Int) = 0 := by omega
    have HTK : Hid (∀ w1, CtIs w1 g q r wa wc m [] wt → Upd (fun x => x = q) w w1 → Calls Try.prog 32 #[.pointer (some ⟨g, 0, none⟩)] w1 fun e w' => e = .returned (.string (strOf wt)) ∧ CtIs w' g q r wa wc m [] [] ∧ Upd (fun x => x = g ∨ x = q) w w') := by
      intro w1 hc hu
      refine (take_ct hc h0).mono ?_
      rintro e w' ⟨rfl, h1, h2⟩
      exact ⟨rfl, h1, (hu.mono (T := fun x => x = g ∨ x = q) (fun x hx => .inr hx)).trans h2 (fun x hx _ => .inl hx)⟩
    have hn2 : ((wt.length : Int) == 0) = false := by simp; exact h0
    clear hn
    go_enter Try.func19, Try.ntmps19
    go_wp2_with (first | (go_at_call 33; refine HCL.out.mono ?_; rintro e w1 ⟨rfl, hc, hu⟩; have c4 := (ct_cells hc.row).2.2.2.2; have HC1 : Hid (CtIs w1 g q r wa wc m [] wt) := hc; have HU1 : Hid (Upd (fun x => x = q) w w1) := hu; clear hc hu) | (go_at_call 32; refine (HTK.out _ HC1.out HU1.out).mono ?_; rintro e w2 ⟨rfl, hc, hu⟩; have HC2 : Hid (CtIs w2 g q r wa wc m [] []) := hc; have HU2 : Hid (Upd (fun x => x = g ∨ x = q) w w2) := hu; clear hc hu))
    go_ret2
    exact ⟨rfl, HC2.out, HU2.out⟩
theorem ms_of {a b c : Int} (h : mayI a b c = true) : ∃ m : Ms, m.Ok ∧ a = (m.least : Int) ∧ b = (m.most : Int) ∧ c = (m.bits : Int) := by
  simp only [mayI, Bool.and_eq_true, decide_eq_true_eq] at h
  obtain ⟨⟨⟨⟨h1, h2⟩, h3⟩, h4⟩, h5⟩ := h
  exact ⟨⟨a.toNat, b.toNat, c.toNat⟩, ⟨by show 1 ≤ a.toNat; omega, by show a.toNat ≤ b.toNat; omega, by show b.toNat ≤ 1024; omega, by show c.toNat ≤ 16; omega⟩, by show a = (a.toNat : Int); omega, by show b = (b.toNat : Int); omega, by show c = (c.toNat : Int); omega⟩
theorem may_ms (m : Ms) (h : m.Ok) : mayI (m.least : Int) (m.most : Int) (m.bits : Int) = true := by
  have := h.one; have := h.le; have := h.top; have := h.bits
  simp only [mayI, Bool.and_eq_true, decide_eq_true_eq]
  omega
set_option maxRecDepth 100000 in
set_option maxHeartbeats 2000000 in
theorem new_no (a b c : Int) (w : World) (h : mayI a b c = false) : Calls Try.prog 11 #[.agg #[.int .i64 a, .int .i64 b, .int .i64 c]] w fun e w' => e = .returned (.tuple #[.pointer none, .int .i64 1]) ∧ Below w.heap.size w w' := by
  have HIM : Hid (∀ W, Calls Try.prog 23 #[.agg #[.int .i64 a, .int .i64 b, .int .i64 c]] W fun e w' => e = .returned (.bool false) ∧ Below W.heap.size W w') := fun W => by rw [← h]; exact ismeasure_any a b c W
  clear h
  go_enter Try.func11, Try.ntmps11
  go_wp2_with (go_at_call 23; refine (HIM.out _).mono ?_; rintro e w1 ⟨rfl, hb⟩)
  go_ret2
  exact ⟨rfl, ((Below.refl _ w).alloc (Nat.le_refl _) _).trans (hb.mono (by simp))⟩
set_option maxRecDepth 100000 in
set_option maxHeartbeats 2000000 in
theorem new_yes (m : Ms) (hm : m.Ok) (w : World) : Calls Try.prog 11 #[.agg #[.int .i64 (m.least : Int), .int .i64 (m.most : Int), .int .i64 (m.bits : Int)]] w fun e w' => ∃ g q r, e = .returned (.tuple #[.pointer (some ⟨g, 0, none⟩), .int .i64 0]) ∧ CtIs w' g q r none 0 m [] [] ∧ Below w.heap.size w w' ∧ w.heap.size ≤ g ∧ w.heap.size ≤ q ∧ w.heap.size ≤ r := by
  have HIM : Hid (∀ W, Calls Try.prog 23 #[.agg #[.int .i64 (m.least : Int), .int .i64 (m.most : Int), .int .i64 (m.bits : Int)]] W fun e w' => e = .returned (.bool true) ∧ Below W.heap.size W w') := fun W => by rw [← may_ms m hm]; exact ismeasure_any _ _ _ W
  obtain ⟨le, hle⟩ : ∃ x, (m.least : Int) = x := ⟨_, rfl⟩
  obtain ⟨mo, hmo⟩ : ∃ x, (m.most : Int) = x := ⟨_, rfl⟩
  obtain ⟨bi, hbi⟩ : ∃ x, (m.bits : Int) = x := ⟨_, rfl⟩
  have HL : Hid ((m.least : Int) = le ∧ (m.most : Int) = mo ∧ (m.bits : Int) = bi) := ⟨hle, hmo, hbi⟩
  rw [hle, hmo, hbi] at HIM ⊢
  clear hle hmo hbi
  have HM : Hid m.Ok := hm
  clear hm
  have HN : Hid (∀ W, Calls Try.prog 24 #[.int .i64 16] W fun e w' => e = .returned (.tuple #[.pointer (some ⟨W.heap.size + 1, 0, none⟩), .int .i64 0]) ∧ WinIs w' W.heap.size (W.heap.size + 1) 16 [] ∧ Below W.heap.size W w') := fun W => new_any 16 W (by omega) (by omega)
  obtain ⟨A, hA⟩ : ∃ A, w.alloc (.cells #[.int .i64 le, .int .i64 mo, .int .i64 bi] 23) = A := ⟨_, rfl⟩
  have hrow : A.heap[w.heap.size]? = some (.cells #[.int .i64 le, .int .i64 mo, .int .i64 bi] 23 (0, 0)) := by rw [← hA]; exact heap_alloc_new w _
  have hbA : Below w.heap.size w A := by rw [← hA]; exact (Below.refl _ w).alloc (Nat.le_refl _) _
  have hlt := lt_of_some hrow
  have HROW : Hid (∀ w1 w2, Below A.heap.size A w1 → Below w1.heap.size w1 w2 → w2.cell? ⟨w.heap.size, 0, none⟩ = some (.int .i64 le) ∧ w2.cell? ⟨w.heap.size, 1, none⟩ = some (.int .i64 mo) ∧ w2.cell? ⟨w.heap.size, 2, none⟩ = some (.int .i64 bi)) := by
    intro w1 w2 h1 h2
    have hr : w2.heap[w.heap.size]? = some (.cells #[.int .i64 le, .int .i64 mo, .int .i64 bi] 23 (0, 0)) := by
      rw [h2.block _ (Nat.lt_of_lt_of_le hlt h1.size), h1.block _ hlt]; exact hrow
    refine ⟨?_, ?_, ?_⟩ <;> rw [cell_of_row _ _ _ _ _ _ hr] <;> rfl
  have HBA : Hid (∀ w1, Below A.heap.size A w1 → Below w.heap.size w w1 ∧ w.heap.size ≤ w1.heap.size) := fun w1 h1 => ⟨hbA.trans (h1.mono hbA.size), (hbA.trans (h1.mono hbA.size)).size⟩
  rw [← hA] at HROW HBA
  clear hA hrow hbA hlt
  have HEND : Hid (∀ w1 w2 : World, Below w.heap.size w w1 → w.heap.size ≤ w1.heap.size → WinIs w2 w1.heap.size (w1.heap.size + 1) 16 [] → Below w1.heap.size w1 w2 → CtIs (w2.alloc (.cells #[.int .i64 le, .int .i64 mo, .int .i64 bi, .pointer (some ⟨w1.heap.size + 1, 0, none⟩), .slice none 0 0] 56)) w2.heap.size (w1.heap.size + 1) w1.heap.size none 0 m [] [] ∧ Below w.heap.size w (w2.alloc (.cells #[.int .i64 le, .int .i64 mo, .int .i64 bi, .pointer (some ⟨w1.heap.size + 1, 0, none⟩), .slice none 0 0] 56)) ∧ w.heap.size ≤ w2.heap.size) := by
    intro w1 w2 h1 hs1 hw h2
    have hl := hw.lt
    have hb : Below w.heap.size w w2 := h1.trans (h2.mono hs1)
    refine ⟨?_, hb.alloc hb.size _, hb.size⟩
    refine { ok := HM.out, few := Nat.zero_le _, row := ?_, win := hw.keep (Go.heap_alloc_old _ _ hl.1) (Go.heap_alloc_old _ _ hl.2), own := World.ownsRow_nil _ _ _ _, gq := by omega, gr := by omega, wg := fun x hx => (by cases hx) }
    rw [heap_alloc_new w2 _, ← HL.out.1, ← HL.out.2.1, ← HL.out.2.2]
    rfl
  go_enter Try.func11, Try.ntmps11
  go_wp2_with (first | (go_at_call 23; refine (HIM.out _).mono ?_; rintro e w1 ⟨rfl, hb⟩) | (go_at_call 24; refine (HN.out _).mono ?_; rintro e w2 ⟨rfl, hw2, hb2⟩; obtain ⟨c0, c1, c2⟩ := HROW.out _ _ hb hb2))
  go_ret2
  obtain ⟨b1, b2⟩ := HBA.out _ hb
  obtain ⟨e1, e2, e3⟩ := HEND.out _ _ b1 b2 hw2 hb2
  exact ⟨_, _, _, rfl, e1, e2, e3, by omega, b2⟩
end Go.Proofs.Ytebmmhgmbnbnnaa
