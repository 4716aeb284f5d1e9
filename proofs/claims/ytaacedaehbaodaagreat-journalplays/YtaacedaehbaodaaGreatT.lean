/- The document's disk: how it lies in memory; why, Read, Start, Fuse. -/
import Derived.Test.YtaacedaehbaodaaGreatJP
namespace Go.Proofs.YtaacedaehbaodaaGreat
open Go.RowKit Go.Shelf
theorem own_str {W : World} {base a n cap : Nat} {l : List ByteArray} (h : W.ownsRow base 9 1 (.slice (some ⟨a, 0, none⟩) n cap) n (strsV l)) (i : Nat) (hi : i < n) : W.cell? ⟨a, i, none⟩ = some (.string (l.getD i ByteArray.empty)) := by
  have hl := h.1
  rw [strsV_len] at hl
  exact own_at h (by rw [strsV_at, List.getD_eq_getElem?_getD, List.getElem?_eq_getElem (by omega)]; rfl)
theorem over_append (l : List ByteArray) (a b : List Wt) : over l (a ++ b) = over (over l a) b := by simp [over, List.foldl_append]
theorem over_found (l : List ByteArray) (ws : List Wt) (i : Nat) (q : Wt) (hq : ws[i]? = some q) (hl : q.1 < l.length) (hn : ∀ (j : Nat) (q' : Wt), i < j → ws[j]? = some q' → q'.1 ≠ q.1) : (over l ws).getD q.1 ByteArray.empty = q.2 := by
  obtain ⟨hi, he⟩ := List.getElem?_eq_some_iff.1 hq
  have e : ws = (ws.take i ++ [q]) ++ ws.drop (i + 1) := by
    rw [← he, ← List.take_succ_eq_append_getElem hi, List.take_append_drop]
  rw [e, over_append, List.getD_eq_getElem?_getD, over_other _ _ _ (fun q' hq' => ?_), over_snoc, List.getElem?_set_self (by rw [over_len]; exact hl)]
  · rfl
  · obtain ⟨j, hj, hje⟩ := List.getElem_of_mem hq'
    rw [List.getElem_drop] at hje
    simp only [List.length_drop] at hj
    exact hn (i + 1 + j) q' (by omega) (by rw [List.getElem?_eq_getElem (by omega), hje])
theorem over_missed (l : List ByteArray) (ws : List Wt) (a : Nat) (hn : ∀ (j : Nat) (q' : Wt), ws[j]? = some q' → q'.1 ≠ a) : (over l ws).getD a ByteArray.empty = l.getD a ByteArray.empty := by
  rw [List.getD_eq_getElem?_getD, over_other _ _ _ (fun q' hq' => ?_), List.getD_eq_getElem?_getD]
  obtain ⟨j, hj, hje⟩ := List.getElem_of_mem hq'
  exact hn j q' (by rw [List.getElem?_eq_getElem hj, hje])
def rcells (lb lc : Nat) (wa : Option Addr) (wc : Nat) (D : Dk) : Array Value :=
  #[.slice (some ⟨lb, 0, none⟩) D.kept.length lc, .slice wa D.waits.length wc, .int .i64 (D.fuse : Int), .int .i64 (D.writes : Int), .bool (!D.up)]
/-- The document's disk, in memory. -/
structure RefAt (w : World) (lb lc : Nat) (wa : Option Addr) (wc : Nat) (D : Dk) : Prop where
  ok : D.Ok
  l : w.ownsRow 0 9 1 (.slice (some ⟨lb, 0, none⟩) D.kept.length lc) D.kept.length (strsV D.kept)
  q : w.ownsRow 0 95 2 (.slice wa D.waits.length wc) D.waits.length (wtsV D.waits)
  z : D.waits.length = 0 → wa = none ∧ wc = 0
theorem RefAt.keep {w w' : World} {lb lc : Nat} {wa : Option Addr} {wc : Nat} {D : Dk} (h : RefAt w lb lc wa wc D) (h1 : w'.heap[lb]? = w.heap[lb]?) (h2 : ∀ x, ob wa = some x → w'.heap[x]? = w.heap[x]?) : RefAt w' lb lc wa wc D :=
  ⟨h.ok, own_keep h.l (fun x hx => by rw [ob_slice] at hx; cases hx; exact h1), own_keep h.q (fun x hx => h2 x (by rw [← ob_slice wa D.waits.length wc]; exact hx)), h.z⟩
theorem RefAt.lt {w : World} {lb lc : Nat} {wa : Option Addr} {wc : Nat} {D : Dk} (h : RefAt w lb lc wa wc D) : lb < w.heap.size ∧ ∀ x, ob wa = some x → x < w.heap.size :=
  ⟨(h.l.lt lb rfl).2, fun x hx => (h.q.lt x (by rw [ob_slice]; exact hx)).2⟩
theorem RefAt.below {w w' : World} {lb lc : Nat} {wa : Option Addr} {wc : Nat} {D : Dk} (h : RefAt w lb lc wa wc D) (hb : Below w.heap.size w w') : RefAt w' lb lc wa wc D :=
  h.keep (hb.block _ h.lt.1) (fun x hx => hb.block _ (h.lt.2 x hx))
theorem RefAt.wat {w : World} {lb lc : Nat} {wa : Option Addr} {wc : Nat} {D : Dk} (h : RefAt w lb lc wa wc D) (h0 : 0 < D.waits.length) :
    ∃ wb, wa = some ⟨wb, 0, none⟩ ∧ wb < w.heap.size ∧ ∀ i (q : Wt), D.waits[i]? = some q → w.cell? ⟨wb, i * 2, none⟩ = some (.int .i64 (q.1 : Int)) ∧ w.cell? ⟨wb, i * 2 + 1, none⟩ = some (.string q.2) := by
  have hq := h.q
  rcases hq.2 with ⟨_, h2⟩ | ⟨g', cap', cur, e, hb, hr, h3⟩
  · omega
  · cases e
    refine ⟨g', rfl, lt_of_some hr, fun i q hiq => ?_⟩
    have := wtsV_at _ _ _ hiq
    rw [Nat.mul_comm i 2]
    exact ⟨own_at h.q this.1, own_at h.q this.2⟩
/-- The variable that a parameter is laid into. -/
structure Boxed (w W : World) (b : Nat) (cs : Array Value) : Prop where
  r : W.heap[b]? = some (.cells cs 32 (0, 0))
  e : b = w.heap.size
  bl : Below w.heap.size w W
theorem boxed (w : World) (cs : Array Value) : Boxed w (w.alloc (.cells cs 32)) w.heap.size cs := ⟨heap_alloc_new w _, rfl, (Below.refl _ w).alloc (Nat.le_refl _) _⟩
theorem Boxed.at {w W : World} {b : Nat} {lb lc : Nat} {wa : Option Addr} {wc : Nat} {D : Dk} (h : Boxed w W b (rcells lb lc wa wc D)) :
    W.cell? ⟨b, 0, none⟩ = some (.slice (some ⟨lb, 0, none⟩) D.kept.length lc) ∧ W.cell? ⟨b, 1, none⟩ = some (.slice wa D.waits.length wc) ∧ W.cell? ⟨b, 2, none⟩ = some (.int .i64 (D.fuse : Int)) ∧ W.cell? ⟨b, 3, none⟩ = some (.int .i64 (D.writes : Int)) ∧ W.cell? ⟨b, 4, none⟩ = some (.bool (!D.up)) := by
  refine ⟨?_, ?_, ?_, ?_, ?_⟩ <;> rw [cell_of_row W b _ _ _ _ h.r] <;> rfl
set_option maxHeartbeats 1000000 in
theorem rwhy_any {w : World} {lb lc : Nat} {wa : Option Addr} {wc : Nat} {D : Dk} (a : Int) : Calls Tryz.prog 46 #[.agg #[.slice (some ⟨lb, 0, none⟩) D.kept.length lc, .slice wa D.waits.length wc, .int .i64 (D.fuse : Int), .int .i64 (D.writes : Int), .bool (!D.up)], .int .i64 a] w fun e w' => e = .returned (.int .i64 (D.reach a : Int)) ∧ Below w.heap.size w w' := by
  have hbx := boxed w (rcells lb lc wa wc D)
  obtain ⟨W1, hW1⟩ : ∃ W, w.alloc (.cells (rcells lb lc wa wc D) 32) = W := ⟨_, rfl⟩
  rw [hW1] at hbx
  have hW1' : w.alloc (.cells #[.slice (some ⟨lb, 0, none⟩) D.kept.length lc, .slice wa D.waits.length wc, .int .i64 (D.fuse : Int), .int .i64 (D.writes : Int), .bool (!D.up)] 32) = W1 := hW1
  obtain ⟨c0, c1, c2, c3, c4⟩ := hbx.at
  have HB : Hid (Below w.heap.size w W1) := hbx.bl
  unfold Dk.reach
  clear hbx hW1
  cases hu : D.up
  · rw [hu, Bool.not_false] at c4 hW1'
    go_enter Tryz.func46, Tryz.ntmps46
    go_wp2
    go_ret
    exact ⟨rfl, HB.out⟩
  · rw [hu, Bool.not_true] at c4 hW1'
    by_cases h1 : a < 0
    · go_enter Tryz.func46, Tryz.ntmps46
      go_wp2
      go_ret
      exact ⟨rfl, HB.out⟩
    · by_cases h2 : (D.kept.length : Int) ≤ a
      · go_enter Tryz.func46, Tryz.ntmps46
        go_wp2
        go_ret
        exact ⟨rfl, HB.out⟩
      · go_enter Tryz.func46, Tryz.ntmps46
        go_wp2
        go_ret
        exact ⟨rfl, HB.out⟩
/-- What is read. -/
def Dk.rd (D : Dk) (a : Int) : ByteArray := if D.reach a = 0 then D.seen.getD a.toNat ByteArray.empty else ⟨#[]⟩
theorem read_code {w : World} {S : Nat → Prop} {g : Nat} {D : Dk} (h : DiskIs w S g D) (a : Int) : Calls Tryz.prog 56 #[.pointer (some ⟨g, 0, none⟩), .int .i64 a] w fun e w' => e = .returned (.tuple #[.string (D.rd a), .int .i64 (D.reach a : Int)]) ∧ w' = w := by
  unfold Dk.rd
  by_cases hr : D.reach a = 0
  · rw [if_pos hr, hr]
    obtain ⟨hu, h0, h1⟩ := reach_zero hr
    obtain ⟨n, rfl⟩ := Int.eq_ofNat_of_zero_le h0
    exact read_any h n hu (by omega)
  · rw [if_neg hr]
    exact read_bad h a hr
set_option maxRecDepth 100000 in
set_option maxHeartbeats 2000000 in
theorem rread_any {w : World} {lb lc : Nat} {wa : Option Addr} {wc : Nat} {D : Dk} (h : RefAt w lb lc wa wc D) (a : Int) : Calls Tryz.prog 50 #[.agg #[.slice (some ⟨lb, 0, none⟩) D.kept.length lc, .slice wa D.waits.length wc, .int .i64 (D.fuse : Int), .int .i64 (D.writes : Int), .bool (!D.up)], .int .i64 a] w fun e w' => e = .returned (.tuple #[.string (D.rd a), .int .i64 (D.reach a : Int)]) ∧ Below w.heap.size w w' := by
  have hbx := boxed w (rcells lb lc wa wc D)
  obtain ⟨W1, hW1⟩ : ∃ W, w.alloc (.cells (rcells lb lc wa wc D) 32) = W := ⟨_, rfl⟩
  rw [hW1] at hbx
  obtain ⟨dn, hdn⟩ : ∃ dn, (!D.up) = dn := ⟨_, rfl⟩
  have hW1' : w.alloc (.cells #[.slice (some ⟨lb, 0, none⟩) D.kept.length lc, .slice wa D.waits.length wc, .int .i64 (D.fuse : Int), .int .i64 (D.writes : Int), .bool dn] 32) = W1 := by rw [← hdn]; exact hW1
  obtain ⟨c0, c1, c2, c3, c4⟩ := hbx.at
  have HWHY := rwhy_any (w := W1) (lb := lb) (lc := lc) (wa := wa) (wc := wc) (D := D) a
  have HB : Hid (Below w.heap.size w W1) := hbx.bl
  have HH : Hid (RefAt w lb lc wa wc D) := h
  obtain ⟨b, hb⟩ : ∃ b, w.heap.size = b := ⟨_, rfl⟩
  rw [hb] at c0 c1 c2 c3 c4
  rw [hdn] at HWHY c4 ⊢
  have hbl : b < W1.heap.size := by rw [← hb]; exact lt_of_some hbx.r
  have HC : Hid (∀ V, Below W1.heap.size W1 V → V.cell? ⟨b, 0, none⟩ = some (.slice (some ⟨lb, 0, none⟩) D.kept.length lc) ∧ V.cell? ⟨b, 1, none⟩ = some (.slice wa D.waits.length wc)) := fun V hV => ⟨by rw [hV.cell hbl]; exact c0, by rw [hV.cell hbl]; exact c1⟩
  by_cases hr : D.reach a = 0
  · have hrd : D.rd a = D.seen.getD a.toNat ByteArray.empty := by unfold Dk.rd; rw [if_pos hr]
    rw [hrd, hr]
    rw [hr] at HWHY
    obtain ⟨hu, h0, h1⟩ := reach_zero hr
    obtain ⟨n, rfl⟩ := Int.eq_ofNat_of_zero_le h0
    have hn : n < D.kept.length := by omega
    have HW : Hid (D.waits.length ≤ 1000000) := by show _ ≤ _; have := h.ok.ww; have := h.ok.wr; omega
    obtain ⟨N, hN⟩ : ∃ N, D.waits.length = N := ⟨_, rfl⟩
    obtain ⟨m, hm⟩ : ∃ m, D.kept.length = m := ⟨_, rfl⟩
    obtain ⟨t, ht⟩ : ∃ t, D.seen.getD ((n : Int)).toNat ByteArray.empty = t := ⟨_, rfl⟩
    have HT : Hid ((over D.kept D.waits).getD n ByteArray.empty = t) := ht
    rw [ht]
    have hN6 : N ≤ 1000000 := by rw [← hN]; exact HW.out
    rw [hm] at hn
    have kn : (n : Int) < (m : Int) := by omega
    rw [hm] at HWHY c0 HC hW1'
    rw [hN] at HWHY c1 HC hW1'
    rw [hm, hN]
    clear hrd hr h hbx hW1 ht h0 h1
    go_enter Tryz.func50, Tryz.ntmps50
    go_wp2_with fail
    refine HWHY.mono ?_
    rintro e w2 ⟨rfl, hb2⟩
    have HB2 : Hid (Below W1.heap.size W1 w2) := hb2
    obtain ⟨e0, e1⟩ := HC.out _ hb2
    have hWs : w.heap.size ≤ W1.heap.size := HB.out.size
    clear hb2 HWHY
    go_wp2
    go_loopw [7] (fun v wr => ∃ k : Nat, k ≤ N ∧ v = .int .i64 ((k : Int) - 1) ∧ (∀ (j : Nat) (q : Wt), k ≤ j → D.waits[j]? = some q → q.1 ≠ n) ∧ Below W1.heap.size W1 wr) (fun v _ => ((intOf v) + 1).toNat)
    case atStart => exact ⟨N, by omega, by go_num, fun j q hj hq => (by rw [List.getElem?_eq_none (by omega)] at hq; cases hq), HB2.out⟩
    case round =>
      clear e0 e1 HB2
      obtain ⟨k, hk, rfl, hno, hbel⟩ := hrel
      have HNO : Hid (∀ (j : Nat) (q : Wt), k ≤ j → D.waits[j]? = some q → q.1 ≠ n) := hno
      have HB3 : Hid (Below W1.heap.size W1 wr) := hbel
      have HB4 : Hid (Below w.heap.size w wr) := HB.out.trans (hbel.mono hWs)
      obtain ⟨e0, e1⟩ := HC.out _ hbel
      clear hno hbel
      by_cases hk0 : k = 0
      · subst hk0
        have hR := HH.out.below HB4.out
        have cl : wr.cell? ⟨lb, n, none⟩ = some (.string t) := by
          rw [← HT.out, over_missed _ _ _ (fun j q hq => HNO.out j q (Nat.zero_le _) hq)]
          exact own_at hR.l (by rw [strsV_at, List.getD_eq_getElem?_getD, List.getElem?_eq_getElem (by omega)]; rfl)
        clear hR
        go_wp2
        go_ret2
        exact ⟨rfl, HB4.out⟩
      · obtain ⟨k', rfl⟩ : ∃ k', k = k' + 1 := ⟨k - 1, by omega⟩
        obtain ⟨⟨qa, qt⟩, hq⟩ : ∃ q, D.waits[k']? = some q := ⟨_, List.getElem?_eq_getElem (by omega)⟩
        obtain ⟨wb, rfl, hwl, hwc⟩ := HH.out.wat (by omega)
        obtain ⟨ca, cb⟩ := hwc k' _ hq
        rw [← HB4.out.cell hwl] at ca cb
        have kk : ((k' + 1 : Nat) : Int) - 1 = (k' : Int) := by omega
        have kk2 : (k' : Int) < (N : Int) := by omega
        have kk3 : (0 : Int) ≤ (k' : Int) := by omega
        rw [kk]
        by_cases hqa : qa = n
        · subst hqa
          have hqt : qt = t := by
            rw [← HT.out]
            have hqlt : qa < D.kept.length := by omega
            exact (over_found D.kept D.waits k' (qa, qt) hq hqlt (fun j q' hj hq' => HNO.out j q' (by omega) hq')).symm
          subst hqt
          clear hq hwc
          go_wp2
          go_ret2
          exact ⟨rfl, by rw [← hb]; exact HB4.out⟩
        · have hqi : ¬ (qa : Int) = (n : Int) := by omega
          have HN2 : Hid (∀ (j : Nat) (q : Wt), k' ≤ j → D.waits[j]? = some q → q.1 ≠ n) := by
            intro j q hj hjq
            rcases Nat.lt_or_ge k' j with h | h
            · exact HNO.out j q (by omega) hjq
            · obtain rfl : j = k' := by omega
              rw [hq] at hjq
              cases hjq
              exact hqa
          clear hq hwc
          go_wp2
          exact ⟨⟨k', by omega, by go_num, HN2.out, HB3.out⟩, by simp [intOf]⟩
  · have hrd : D.rd a = ⟨#[]⟩ := by unfold Dk.rd; rw [if_neg hr]
    rw [hrd]
    have hr2 := reach_other hr
    obtain ⟨r, hre⟩ : ∃ r, D.reach a = r := ⟨_, rfl⟩
    rw [hre] at hr2 HWHY ⊢
    have hne : ¬ (r : Int) = 0 := by omega
    clear h hbx hW1 hrd hr hre
    go_enter Tryz.func50, Tryz.ntmps50
    go_wp2_with fail
    refine HWHY.mono ?_
    rintro e w2 ⟨rfl, hb2⟩
    go_wp2
    go_ret2
    exact ⟨rfl, HB.out.trans (hb2.mono HB.out.size)⟩
end Go.Proofs.YtaacedaehbaodaaGreat
