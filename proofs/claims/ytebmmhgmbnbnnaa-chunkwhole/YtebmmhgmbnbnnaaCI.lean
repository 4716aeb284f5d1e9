/- Walk over Cut. -/
import Derived.Test.YtebmmhgmbnbnnaaCH
namespace Go.Proofs.Ytebmmhgmbnbnnaa
open Go.RowKit Ck
set_option maxRecDepth 100000 in
set_option maxHeartbeats 2000000 in
theorem cut_no (a b c : Int) (S : ByteArray) (w : World) (h : mayI a b c = false) : Calls Try.prog 10 #[.string S, .agg #[.int .i64 a, .int .i64 b, .int .i64 c]] w fun e w' => e = .returned (.tuple #[.slice none 0 0, .int .i64 1]) ∧ Below w.heap.size w w' := by
  have HN : Hid (∀ W, Calls Try.prog 11 #[.agg #[.int .i64 a, .int .i64 b, .int .i64 c]] W fun e w' => e = .returned (.tuple #[.pointer none, .int .i64 1]) ∧ Below W.heap.size W w') := fun W => new_no a b c W h
  clear h
  go_enter Try.func10, Try.ntmps10
  go_wp2_with (go_at_call 11; refine (HN.out _).mono ?_; rintro e w1 ⟨rfl, hb⟩)
  go_ret2
  exact ⟨rfl, ((Below.refl _ w).alloc (Nat.le_refl _) _).trans (hb.mono (by simp))⟩
/-- Chunks in a row of their own. -/
def CutTo (w : World) (m : Ms) (bs : List UInt8) (e : Ending) (w' : World) : Prop := ∃ a n c, e = .returned (.tuple #[.slice a n c, .int .i64 0]) ∧ w'.ownsRow w.heap.size 9 1 (.slice a n c) n (stR ((cutL m bs).map strOf)) ∧ Below w.heap.size w w'
set_option maxRecDepth 100000 in
set_option maxHeartbeats 4000000 in
theorem cut_yes (m : Ms) (hm : m.Ok) (bs : List UInt8) (hl : bs.length ≤ 20000) (w : World) : Calls Try.prog 10 #[.string (strOf bs), .agg #[.int .i64 (m.least : Int), .int .i64 (m.most : Int), .int .i64 (m.bits : Int)]] w (CutTo w m bs) := by
  have HN : Hid (∀ W, Calls Try.prog 11 #[.agg #[.int .i64 (m.least : Int), .int .i64 (m.most : Int), .int .i64 (m.bits : Int)]] W fun e w' => ∃ g q r, e = .returned (.tuple #[.pointer (some ⟨g, 0, none⟩), .int .i64 0]) ∧ CtIs w' g q r none 0 m [] [] ∧ Below W.heap.size W w' ∧ W.heap.size ≤ g ∧ W.heap.size ≤ q ∧ W.heap.size ≤ r) := fun W => new_yes m hm W
  have HBY : Hid (∀ W : World, ∃ cap W', (convert 9 36 (.string (strOf bs))).run Try.prog W = .ok (.slice (some ⟨W.heap.size, 0, none⟩) bs.length cap) W' ∧ Below W.heap.size W W' ∧ W.heap.size < W'.heap.size ∧ BsI W' (some ⟨W.heap.size, 0, none⟩) bs.length cap bs) := fun W => bytes_of W bs (by omega)
  obtain ⟨S, hS⟩ : ∃ S, strOf bs = S := ⟨_, rfl⟩
  rw [hS] at HBY ⊢
  generalize hle : (m.least : Int) = le at HN ⊢
  generalize hmo : (m.most : Int) = mo at HN ⊢
  generalize hbi : (m.bits : Int) = bi at HN ⊢
  have HM : Hid m.Ok := hm
  have HA : Hid (Below w.heap.size w (w.alloc (.cells #[.int .i64 le, .int .i64 mo, .int .i64 bi] 23)) ∧ w.heap.size ≤ (w.alloc (.cells #[.int .i64 le, .int .i64 mo, .int .i64 bi] 23)).heap.size) := ⟨(Below.refl _ w).alloc (Nat.le_refl _) _, by simp⟩
  clear hle hmo hbi hm hS
  go_enter Try.func10, Try.ntmps10
  go_wp2_with fail
  refine (HN.out _).mono ?_
  rintro e V1 ⟨g, q, r, rfl, hc1, hb1, hg, hq, hr⟩
  obtain ⟨cap, V2, hcv, hb2, hs2, hbs⟩ := HBY.out V1
  have hw1 : Below w.heap.size w V1 := HA.out.1.trans (hb1.mono HA.out.2)
  have hw2 : Below w.heap.size w V2 := hw1.trans (hb2.mono hw1.size)
  have hc2 := hc1.below hb2
  have H2 : Hid (CtIs V2 g q r none 0 m [] [] ∧ Below w.heap.size w V2 ∧ w.heap.size ≤ g ∧ w.heap.size ≤ q ∧ w.heap.size ≤ r) := ⟨hc2, hw2, Nat.le_trans HA.out.2 hg, Nat.le_trans HA.out.2 hq, Nat.le_trans HA.out.2 hr⟩
  have HWR : Hid (Calls Try.prog 17 #[.pointer (some ⟨g, 0, none⟩), .slice (some ⟨V1.heap.size, 0, none⟩) bs.length cap] V2 fun e w' => ∃ oa on oc wa wc Ls wt, e = .returned (.slice oa on oc) ∧ WrS V2 w' g q r none m [] [] bs bs.length oa on oc wa wc Ls wt) := by
    refine write_ct hc2 (by have := HM.out.one; have := HM.out.le; simp; omega) hbs (fun x _ hx hc => ?_) hl
    cases hx
    exact absurd (hc1.lt _ hc) (Nat.lt_irrefl _)
  clear HN HBY hc1 hb1 hg hq hr hb2 hs2 hbs hw1 hw2 hc2
  go_wp2_with fail
  refine HWR.out.mono ?_
  rintro e V3 ⟨oa, on, oc, wa, wc, Ls, wt, rfl, hS⟩
  have HEN : Hid (Calls Try.prog 19 #[.pointer (some ⟨g, 0, none⟩)] V3 fun e w' => e = .returned (.tuple #[.string (strOf wt), .bool (decide (wt ≠ []))]) ∧ CtIs w' g q r wa wc m [] [] ∧ Upd (fun x => x = g ∨ x = q) V3 w') := end_ct hS.ct
  have HW : Hid (WrS V2 V3 g q r none m [] [] bs bs.length oa on oc wa wc Ls wt) := hS
  have HCU : Hid (cutL m bs = Ls ++ lastC wt) := by
    have := hS.go
    rw [List.take_of_length_le (Nat.le_refl _)] at this
    show _ = _
    unfold cutL
    rw [this]
  have hon : on ≤ bs.length + 1024 := hS.few (by have := HM.out.one; have := HM.out.le; simp; omega)
  have HBB : Hid (∀ V, Upd (fun x => x = g ∨ x = q) V3 V → Below w.heap.size w V ∧ V.ownsRow w.heap.size 9 1 (.slice oa on oc) on (stR (Ls.map strOf))) := by
    intro V hV
    have hlt := H2.out.1.lt
    have h3 : Upd (ctS g q r none) V2 V := hS.upd.trans hV (fun x hx _ => hx.elim .inl (fun e => .inr (.inl e)))
    refine ⟨H2.out.2.1.trans (h3.below H2.out.2.1.size (fun x hx => ?_)), ?_⟩
    · have := H2.out.2.2
      rcases hx with hx | hx | hx | hx
      · omega
      · omega
      · omega
      · cases hx
    · refine own_keep (own_base hS.out H2.out.2.1.size) (fun x hx => ?_)
      have hl := hS.out.lt x hx
      refine hV.block x hl.2 (fun e => ?_)
      have h1 := hlt g (.inl rfl)
      have h2 := hlt q (.inr (.inl rfl))
      rcases e with e | e <;> omega
  clear HWR hS hcv
  by_cases h0 : wt = []
  · subst h0
    have e1 : decide (([] : List UInt8) ≠ []) = false := rfl
    rw [e1] at HEN
    have HF : Hid (∀ V, Upd (fun x => x = g ∨ x = q) V3 V → CutTo w m bs (.returned (.tuple #[.slice oa on oc, .int .i64 0])) V) := by
      intro V hV
      obtain ⟨h1, h2⟩ := HBB.out V hV
      refine ⟨oa, on, oc, rfl, ?_, h1⟩
      rw [HCU.out, show lastC [] = [] from rfl, List.append_nil]
      exact h2
    go_wp2_with fail
    refine HEN.out.mono ?_
    rintro e V4 ⟨rfl, hc4, hu4⟩
    have h4 := HF.out V4 hu4
    clear hc4 hu4
    go_wp2
    refine bodyPost_ret (v := .tuple #[.slice oa on oc, .int .i64 0]) ?_ rfl h4
    simp [results, go_sem]
  · have e1 : decide (wt ≠ []) = true := by simp [h0]
    rw [e1] at HEN
    go_wp2_with fail
    refine HEN.out.mono ?_
    rintro e V4 ⟨rfl, hc4, hu4⟩
    obtain ⟨h1, h2⟩ := HBB.out V4 hu4
    obtain ⟨T, hT⟩ : ∃ T, strOf wt = T := ⟨_, rfl⟩
    rw [hT]
    obtain ⟨V7, hV7⟩ : ∃ V7, V4.alloc (.cells #[.string T] 9) = V7 := ⟨_, rfl⟩
    have hb7 : Below V4.heap.size V4 V7 := by rw [← hV7]; exact (Below.refl _ V4).alloc (Nat.le_refl _) _
    have r7 : V7.heap[V4.heap.size]? = some (.cells #[.string T] 9 (0, 0)) := by rw [← hV7]; exact heap_alloc_new V4 _
    have ho7 : V7.ownsRow w.heap.size 9 1 (.slice oa on oc) on (stR (Ls.map strOf)) := own_keep h2 (fun x hx => hb7.block x (h2.lt x hx).2)
    have hw7 : Below w.heap.size w V7 := h1.trans (hb7.mono h1.size)
    obtain ⟨aA, cA, V8, hrA, hoA, hgA, _⟩ := addT_own V7 ho7 (txtRow r7) (by omega) hw7.size
    have H8 : Hid (CutTo w m bs (.returned (.tuple #[.slice aA (on + 1) cA, .int .i64 0])) V8) := by
      refine ⟨aA, on + 1, cA, rfl, ?_, hw7.grown hgA hw7.size (fun k hk => (ho7.lt k (by rw [ob_slice]; exact hk)).1)⟩
      rw [HCU.out, show lastC wt = [wt] from if_neg h0, List.map_append, List.map_singleton, hT]
      exact hoA
    clear hc4 hu4 h1 h2 hT hb7 r7 ho7 hw7 hoA hgA
    go_wp2_with (at_builtin; refine wpList_app V7 rfl _ _ _ _ rfl rfl rfl (hrA _) ?_)
    refine bodyPost_ret (v := .tuple #[.slice aA (on + 1) cA, .int .i64 0]) ?_ rfl H8.out
    simp [results, go_sem]
end Go.Proofs.Ytebmmhgmbnbnnaa
