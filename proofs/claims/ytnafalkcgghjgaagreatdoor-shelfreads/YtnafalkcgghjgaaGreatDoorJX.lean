/- Walks over Values, AppendSeq, Collect and SortedFunc, of changes. -/
import Derived.Test.YtnafalkcgghjgaaGreatDoorJO
import Derived.Test.YtnafalkcgghjgaaGreatDoorJQ
namespace Go.Proofs.YtnafalkcgghjgaaGreatDoor
open Go.RowKit Go.Shelf
attribute [local go_sem] Oper.semAt_some
abbrev chA (c : Chg) : Value := .agg #[.int .i64 (c.1 : Int), .string c.2]
set_option maxRecDepth 100000 in
set_option maxHeartbeats 2000000 in
theorem values1_in (F : Fence) (nf : Nat) (h6 : F.fn 83) (hro : F.round = none) (hnf : 1 ≤ nf) (l Bv n₀ : Nat) (a : Option Addr) (len cap : Nat) (xs : List Chg) (J Jx : List Chg → World → Prop)
    (W : World) (hJ : AbidesFrom W.heap.size J)
    (hY : ∀ pre x W, J pre W → pre.length < xs.length → YieldAt F (nf - 1) Tryz.prog l #[.agg #[.int .i64 ((x : Chg).1 : Int), .string x.2]] W fun e W' =>
      (e = .returned (.bool true) ∧ J (pre ++ [x]) W' ∧ Below n₀ W W') ∨ (e = .returned (.bool false) ∧ Jx (pre ++ [x]) W'))
    (hBv : W.cell? ⟨Bv, 0, none⟩ = some (.slice a len cap)) (hn₀ : n₀ ≤ W.heap.size) (hl : Cs W a len cap xs) (hab : ∀ x, ob a = some x → x < n₀) (h0 : J [] W) :
    CallsIn F nf Tryz.prog 83 #[.func (.yield l) #[] #[], .pointer (some ⟨Bv, 0, none⟩)] W fun e W' => (∃ v, e = .returned v) ∧
      ((∃ ys, ys = xs ∧ J ys W') ∨ (∃ pre, pre <+: xs ∧ Jx pre W')) := by
  have hll := hl.1
  have HL : Hid (Cs W a len cap xs) := hl
  have hcap := hl.2.1
  have hcap2 := hl.2.2.1
  refine callsIn_of_wp Tryz.func83 rfl h6 ?_ hro
  simp only [Tryz.ntmps83, List.size_toArray, List.length_cons, List.length_nil, Nat.reduceAdd, Nat.reduceSub, Array.replicate_succ, Array.replicate_zero, List.push_toArray, List.append_toArray, List.nil_append, List.cons_append]
  clear hl
  gi_wp2
  gi_loopw [7] (fun p wr => ∃ k : Nat, k ≤ len ∧ p = .int .i64 k ∧ Below n₀ W wr ∧ J (xs.take k) wr) (fun p _ => len - (intOf p).toNat)
  case atStart => exact ⟨0, by omega, rfl, Below.refl _ _, h0⟩
  case round =>
    obtain ⟨k, hk, rfl, hbel, hJs⟩ := hrel
    have HB : Hid (Below n₀ W wr) := hbel
    by_cases hlt : k < len
    · have kk : (k : Int) < (len : Int) := by omega
      have hil : k < xs.length := by omega
      obtain ⟨b, o, rfl, hb, hcell⟩ := HL.out.2.2.2 (by omega)
      obtain ⟨c1, c2⟩ := hcell k hil
      obtain ⟨⟨p, s⟩, hc⟩ : ∃ c, xs[k] = c := ⟨_, rfl⟩
      rw [hc] at c1 c2
      simp only at c1 c2
      have hbn := hab b rfl
      rw [← hbel.cell (p := ⟨b, o + k * 2, none⟩) hbn] at c1
      rw [← hbel.cell (p := ⟨b, o + k * 2 + 1, none⟩) hbn] at c2
      obtain ⟨W1, hW1⟩ : ∃ W1, (wr.alloc (.cells #[.int .i64 (p : Int), .string s] 69)) = W1 := ⟨_, rfl⟩
      obtain ⟨B, hB⟩ : ∃ B, wr.heap.size = B := ⟨_, rfl⟩
      have hr1 : W1.heap[B]? = some (.cells #[.int .i64 (p : Int), .string s] 69 (0, 0)) := by rw [← hW1, ← hB]; exact heap_alloc_new wr _
      have d1 : W1.cell? ⟨B, 0, none⟩ = some (.int .i64 (p : Int)) := by rw [cell_of_row W1 B _ _ _ _ hr1]; rfl
      have d2 : W1.cell? ⟨B, 1, none⟩ = some (.string s) := by rw [cell_of_row W1 B _ _ _ _ hr1]; rfl
      have hJ1 : J (xs.take k) W1 := by
        rw [← hW1]
        exact hJ _ _ _ none hJs (World.grownBy_alloc wr _ none) (fun r e => by cases e)
      have HB1 : Hid (Below n₀ W W1) := by rw [← hW1]; exact hbel.alloc (Nat.le_trans hn₀ hbel.size) _
      obtain ⟨fn, tmps, assign, body, hy', hR⟩ := hY (xs.take k) (p, s) W1 hJ1 (by rw [List.length_take]; omega)
      have HT : Hid (xs.take (k + 1) = xs.take k ++ [(p, s)]) := by show _ = _; rw [List.take_succ_eq_append_getElem hil, hc]
      dsimp only at hy'
      clear hY hJs hJ1 hJ hr1 hcell hbel
      gi_wp2
      refine hR.mono ?_
      rintro e W3 (⟨rfl, hJ3, hk3⟩ | ⟨rfl, hJx3⟩)
      · have HJ3 : Hid (Below n₀ W W3 ∧ J (xs.take (k + 1)) W3) := ⟨HB1.out.trans hk3, by rw [HT.out]; exact hJ3⟩
        clear hR hJ3 hk3
        gi_wp2
        exact ⟨⟨k + 1, by omega, by go_num, HJ3.out⟩, by simp [intOf]; omega⟩
      · gi_wp2
        refine bodyPost_ret (results_none rfl _ _ _) rfl ?_
        exact ⟨⟨_, rfl⟩, .inr ⟨xs.take (k + 1), List.take_prefix _ _, by rw [HT.out]; exact hJx3⟩⟩
    · obtain rfl : k = len := by omega
      have kk : ¬ (k : Int) < (k : Int) := by omega
      rw [List.take_of_length_le (by omega)] at hJs
      gi_wp2
      go_end0
      exact ⟨⟨_, rfl⟩, .inl hJs⟩
theorem values_stops (F : Fence) (nf : Nat) (h6 : F.fn 83) (hro : F.round = none) (hnf : 1 ≤ nf) (Bv n₀ : Nat) (a : Option Addr) (len cap : Nat) (xs : List Chg) (w : World) (hlv : Bv < w.heap.size) (hn₀ : n₀ ≤ w.heap.size)
    (hBv : w.cell? ⟨Bv, 0, none⟩ = some (.slice a len cap)) (hl : Cs w a len cap xs) (hab : ∀ x, ob a = some x → x < n₀) :
    SeqStopsK F nf Tryz.prog 83 #[.pointer (some ⟨Bv, 0, none⟩)] (fun x : Chg => #[Value.agg #[.int .i64 (x.1 : Int), .string x.2]]) (Below n₀) (fun ys => ys = xs) (fun pre => pre <+: xs) xs.length w := fun l J Jx W hW hJ _ hY h0 =>
  values1_in F nf h6 hro hnf l Bv n₀ a len cap xs J Jx W hJ hY ((hW.cell (p := ⟨Bv, 0, none⟩) hlv).trans hBv) (Nat.le_trans hn₀ hW.size) (hl.below hW) hab h0
set_option maxHeartbeats 1000000 in
theorem values_any (a : Option Addr) (len cap : Nat) (w : World) :
    Calls Tryz.prog 54 #[.slice a len cap] w fun e w' => e = .returned (.func (.func 83) #[] #[.pointer (some ⟨w.heap.size, 0, none⟩)]) ∧ w' = w.alloc (.cells #[.slice a len cap] 66) := by
  go_enter Tryz.func54, Tryz.ntmps54
  go_wp2
  go_ret
  exact ⟨rfl, rfl⟩
/-- A variable of a change's kind. -/
def Box2 (W : World) (B : Nat) (c : Chg) : Prop := W.heap[B]? = some (.cells #[.int .i64 (c.1 : Int), .string c.2] 69 (0, 0))
set_option maxRecDepth 100000 in
set_option maxHeartbeats 4000000 in
theorem appendSeq_any {w : World} (Bv : Nat) (a : Option Addr) (len cap : Nat) (xs : List Chg) (hlv : Bv < w.heap.size) (hBv : w.cell? ⟨Bv, 0, none⟩ = some (.slice a len cap)) (hl : Cs w a len cap xs) (hab : ∀ x, ob a = some x → x < w.heap.size) (hlen : len ≤ 1000) :
    Calls Tryz.prog 103 #[.slice none 0 0, .func (.func 83) #[] #[.pointer (some ⟨Bv, 0, none⟩)]] w fun e w' => ∃ v, e = .returned v ∧ w'.ownsRow w.heap.size 69 2 v len (chsV xs) ∧ Below w.heap.size w w' := by
  obtain ⟨i0, hi, hz0, hz1, hz2⟩ := info_parts info57
  have hll := hl.1
  obtain ⟨W1, hW1⟩ : ∃ W1, w.alloc (.cells #[.slice none 0 0] 66) = W1 := ⟨_, rfl⟩
  have hB1 : Below w.heap.size w W1 := by rw [← hW1]; exact (Below.refl _ w).alloc (Nat.le_refl _) _
  have hs1 : W1.heap.size = w.heap.size + 1 := by rw [← hW1]; simp
  have bS : Boxed W1 w.heap.size 66 (.slice none 0 0) := by rw [← hW1]; exact Boxed.new w 66 _
  have hBv1 := (hB1.cell (p := ⟨Bv, 0, none⟩) hlv).trans hBv
  have hl1 := hl.below hB1
  refine (callsIn_wide (n := 6)).1 ?_
  refine callsIn_of_wp_marks Tryz.func103 rfl trivial ?_ rfl
  simp only [Tryz.ntmps103, List.size_toArray, List.length_cons, List.length_nil, Nat.reduceAdd, Nat.reduceSub, Array.replicate_succ, Array.replicate_zero, List.push_toArray, List.append_toArray, List.nil_append, List.cons_append]
  gi_wp2
  refine wpIn_rangeFunc_ownH rfl (by omega) (gf := 83) (lb := #[.pointer (some ⟨Bv, 0, none⟩)]) rfl trivial (enters_of Tryz.func83 (by kernel_rfl) rfl)
    (values_stops Fence.wide _ trivial rfl (by omega) Bv w.heap.size a len cap xs W1 (by omega) (by omega) hBv1 hl1 hab) belowK_t (belowK_b (by omega)) (Below.refl _ _) (fun _ => rfl)
    (fun pre W => (∃ v, Boxed W w.heap.size 66 v ∧ W.ownsRow w.heap.size 69 2 v pre.length (chsV pre) ∧ True) ∧ Below w.heap.size w W)
    (fun _ _ _ => False)
    (OwnFrom.and (Own.from (holdsRow_own w.heap.size w.heap.size 66 69 2 (fun pre : List Chg => pre.length) (fun pre => chsV pre) (fun _ _ => True)) _) (ownFrom_below (Nat.le_refl _) (by omega)))
    (fun _ _ _ _ _ hs _ _ => hs)
    ⟨⟨_, bS, World.ownsRow_nil _ _ _ _, trivial⟩, hB1⟩
    (fun x a' W => ∃ Bx, w.heap.size < Bx ∧ Box2 W Bx x ∧ a' = { tmps := #[.slice none 0 0, .func (.func 83) #[] #[.pointer (some ⟨Bv, 0, none⟩)], .pointer (some ⟨w.heap.size, 0, none⟩), undef, .slice none 0 0, .pointer (some ⟨Bx, 0, none⟩), .func (.func 83) #[] #[.pointer (some ⟨Bv, 0, none⟩)], .agg #[.int .i64 (x.1 : Int), .string x.2], undef, undef, undef, undef, undef], defers := [] })
    (fun x a' _ X Y row hs hg hr => by
      obtain ⟨Bx, h1, h2, h3⟩ := hs
      refine ⟨Bx, h1, (hg.block Bx (lt_of_some h2) (fun e => ?_)).trans h2, h3⟩
      obtain ⟨_, o, ho, hc⟩ := hr Bx e.symm
      rw [show X.heap[Bx]? = _ from h2] at ho
      cases ho
      cases hc)
    ?assign ?body ?done ?stop
  case assign =>
    rintro l pre x W K ⟨⟨v, hv, hrow, _⟩, hB⟩ hK
    gi_wp2
    exact hK _ _ ((KeepsOthers.alloc _ _).from _) ((Below.refl _ W).alloc hB.size _) ⟨⟨v, hv.alloc _, hrow.alloc _, trivial⟩, hB.alloc hB.size _⟩ ⟨W.heap.size, hv.lt, heap_alloc_new W _, rfl⟩
  case body =>
    rintro l pre ⟨p, s⟩ a' W hlB ⟨r, hr⟩ ⟨⟨v, hv, hrow, _⟩, hB⟩ ⟨Bx, hBx, bX, rfl⟩ hlt
    have hcv := hv.cell
    have d1 : W.cell? ⟨Bx, 0, none⟩ = some (.int .i64 (p : Int)) := by rw [cell_of_row W Bx _ _ _ _ bX]; rfl
    have d2 : W.cell? ⟨Bx, 1, none⟩ = some (.string s) := by rw [cell_of_row W Bx _ _ _ _ bX]; rfl
    gi_wp2_with (gi_at_builtin; refine wpListIn_append_own _ rfl _ _ 66 rfl w.heap.size 69 i0 (.agg #[.int .i64 0, .string ByteArray.empty]) 2 24 Tryz.underlying66 hi hz0 hz1 hz2 rfl (by decide) _ _ _ rfl (hrow.alloc _) ⟨W.heap.size, 0, none⟩ 1 1 [.int .i64 (p : Int), .string s] rfl rfl (World.news_of_block (heap_alloc_new W _)) (by simp [Value.oneCell']) (by unfold maxLen; omega) (by omega) (by have := hB.size; simp; omega) ?_; intro v' w1 hown' hgrow _; obtain ⟨g', cap', rfl⟩ := ownsRow_succ hown'; obtain ⟨hv3, hv2, hr2, hk2, hb2⟩ := hv.appended (by decide) hrow hB.size (Nat.le_refl _) hown' hgrow; have hc3 := hv3.cell; have hf3 := hv3.frozen)
    refine ⟨hk2.from _, hb2, ⟨_, hv2, ?_⟩, hB.trans hb2⟩
    rw [List.length_append, chsV_snoc]
    exact hr2
  case done =>
    rintro E ys W hE rfl ⟨⟨v, hv, hrow, _⟩, hB⟩ hK
    have hcv := hv.cell
    rw [hll] at hrow
    gi_wp2
    refine ⟨by simp, .inl ⟨_, _, rfl, run_takeDeferred hK, ?_⟩⟩
    exact ⟨_, results_tmp rfl _ _ _, v, rfl, ownsRow_putObj hrow _ hK rfl, hB.trans (belowK_b (w := w) (Nat.le_refl _) W E _ _ (by omega) hK rfl rfl)⟩
  case stop =>
    rintro E c pre W _ _ h _
    exact h.elim
set_option maxHeartbeats 1000000 in
theorem collect_any {w : World} (Bv : Nat) (a : Option Addr) (len cap : Nat) (xs : List Chg) (hlv : Bv < w.heap.size) (hBv : w.cell? ⟨Bv, 0, none⟩ = some (.slice a len cap)) (hl : Cs w a len cap xs) (hab : ∀ x, ob a = some x → x < w.heap.size) (hlen : len ≤ 1000) :
    Calls Tryz.prog 81 #[.func (.func 83) #[] #[.pointer (some ⟨Bv, 0, none⟩)]] w fun e w' => ∃ v, e = .returned v ∧ w'.ownsRow w.heap.size 69 2 v len (chsV xs) ∧ Below w.heap.size w w' := by
  have HA := appendSeq_any Bv a len cap xs hlv hBv hl hab hlen
  clear hl
  go_enter Tryz.func81, Tryz.ntmps81
  go_wp2_with fail
  refine HA.mono ?_
  rintro e V1 ⟨v, rfl, h1, h2⟩
  go_wp2
  go_ret
  exact ⟨v, rfl, h1, h2⟩
set_option maxHeartbeats 1000000 in
theorem sorted_any {w : World} (Bv : Nat) (a : Option Addr) (len cap : Nat) (xs : List Chg) (hlv : Bv < w.heap.size) (hBv : w.cell? ⟨Bv, 0, none⟩ = some (.slice a len cap)) (hl : Cs w a len cap xs) (hab : ∀ x, ob a = some x → x < w.heap.size) (h1 : 1 ≤ len) (h2 : len ≤ 12) :
    Calls Tryz.prog 53 #[.func (.func 83) #[] #[.pointer (some ⟨Bv, 0, none⟩)], .func (.func 55) #[] #[]] w fun e w' => ∃ g cap' l', e = .returned (.slice (some ⟨g, 0, none⟩) len cap') ∧ w.heap.size ≤ g ∧ l'.Perm xs ∧ l'.Pairwise (fun a b => a.1 ≤ b.1) ∧ w'.ownsRow w.heap.size 69 2 (.slice (some ⟨g, 0, none⟩) len cap') len (chsV l') ∧ Below w.heap.size w w' := by
  have HC := collect_any Bv a len cap xs hlv hBv hl hab (by omega)
  have hll := hl.1
  clear hl hBv
  go_enter Tryz.func53, Tryz.ntmps53
  go_wp2_with fail
  refine HC.mono ?_
  rintro e V1 ⟨v, rfl, ho1, hb1⟩
  obtain ⟨k, rfl⟩ : ∃ k, len = k + 1 := ⟨len - 1, by omega⟩
  obtain ⟨g, cap', rfl⟩ := ownsRow_succ ho1
  have HS := sortFunc_any w.heap.size g (k + 1) cap' xs V1 ho1 hll h1 h2
  have hg := (ho1.lt g rfl).1
  have HB1 : Hid (Below w.heap.size w V1) := hb1
  clear HC ho1 hb1
  go_wp2_with fail
  refine HS.mono ?_
  rintro e V2 ⟨rfl, l', hp, hs, ho2, hu2⟩
  have HN : Hid (Below w.heap.size w V2) := HB1.out.trans (hu2.below HB1.out.size (fun k e => by rw [e]; exact hg))
  have HR : Hid _ := ho2
  clear HS ho2 hu2 HB1
  go_wp2
  go_ret
  exact ⟨g, cap', l', rfl, hg, hp, hs, HR.out, HN.out⟩
end Go.Proofs.YtnafalkcgghjgaaGreatDoor
