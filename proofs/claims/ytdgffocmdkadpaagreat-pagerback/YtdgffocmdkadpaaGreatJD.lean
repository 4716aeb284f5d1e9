/- Walks over Values, AppendSeq, Collect and SortedFunc, of changes. Walks over a Journal's Commit, and over Open. -/
import Derived.Test.YtdgffocmdkadpaaGreatJO
import Derived.Test.YtdgffocmdkadpaaGreatJQ
namespace Go.Proofs.YtdgffocmdkadpaaGreat
open Go.RowKit Go.Shelf
attribute [local go_sem] Oper.semAt_some
abbrev chA (c : Chg) : Value := .agg #[.int .i64 (c.1 : Int), .string c.2]
set_option maxRecDepth 100000 in
set_option maxHeartbeats 2000000 in
theorem values1_in (F : Fence) (nf : Nat) (h6 : F.fn 91) (hro : F.round = none) (hnf : 1 ≤ nf) (l Bv n₀ : Nat) (a : Option Addr) (len cap : Nat) (xs : List Chg) (J Jx : List Chg → World → Prop)
    (W : World) (hJ : AbidesFrom W.heap.size J)
    (hY : ∀ pre x W, J pre W → pre.length < xs.length → YieldAt F (nf - 1) Tryz.prog l #[.agg #[.int .i64 ((x : Chg).1 : Int), .string x.2]] W fun e W' =>
      (e = .returned (.bool true) ∧ J (pre ++ [x]) W' ∧ Below n₀ W W') ∨ (e = .returned (.bool false) ∧ Jx (pre ++ [x]) W'))
    (hBv : W.cell? ⟨Bv, 0, none⟩ = some (.slice a len cap)) (hn₀ : n₀ ≤ W.heap.size) (hl : Cs W a len cap xs) (hab : ∀ x, ob a = some x → x < n₀) (h0 : J [] W) :
    CallsIn F nf Tryz.prog 91 #[.func (.yield l) #[] #[], .pointer (some ⟨Bv, 0, none⟩)] W fun e W' => (∃ v, e = .returned v) ∧
      ((∃ ys, ys = xs ∧ J ys W') ∨ (∃ pre, pre <+: xs ∧ Jx pre W')) := by
  have hll := hl.1
  have HL : Hid (Cs W a len cap xs) := hl
  have hcap := hl.2.1
  have hcap2 := hl.2.2.1
  refine callsIn_of_wp Tryz.func91 rfl h6 ?_ hro
  simp only [Tryz.ntmps91, List.size_toArray, List.length_cons, List.length_nil, Nat.reduceAdd, Nat.reduceSub, Array.replicate_succ, Array.replicate_zero, List.push_toArray, List.append_toArray, List.nil_append, List.cons_append]
  clear hl
  gi_wp2
  gi_loopw [7] (fun p wr => ∃ k : Nat, k ≤ len ∧ p = .int .i64 k ∧ Below n₀ W wr ∧ J (xs.take k) wr) (fun p _ => len - (intOf p).toNat)
  case atStart => exact ⟨0, by omega, rfl, Below.refl _ _, h0⟩
  case round =>
    obtain ⟨k, hk, rfl, hbel, hJs⟩ := hrel
    have HB : Hid (Below n₀ W wr) := hbel
    by_cases hlt : k < len
    · have kk : (k : Int) < (len : Int) := by omega
      have hil : k < xs.length := by omega
      obtain ⟨b, o, rfl, hb, hcell⟩ := HL.out.2.2.2 (by omega)
      obtain ⟨c1, c2⟩ := hcell k hil
      obtain ⟨⟨p, s⟩, hc⟩ : ∃ c, xs[k] = c := ⟨_, rfl⟩
      rw [hc] at c1 c2
      simp only at c1 c2
      have hbn := hab b rfl
      rw [← hbel.cell (p := ⟨b, o + k * 2, none⟩) hbn] at c1
      rw [← hbel.cell (p := ⟨b, o + k * 2 + 1, none⟩) hbn] at c2
      obtain ⟨W1, hW1⟩ : ∃ W1, (wr.alloc (.cells #[.int .i64 (p : Int), .string s] 32)) = W1 := ⟨_, rfl⟩
      obtain ⟨B, hB⟩ : ∃ B, wr.heap.size = B := ⟨_, rfl⟩
      have hr1 : W1.heap[B]? = some (.cells #[.int .i64 (p : Int), .string s] 32 (0, 0)) := by rw [← hW1, ← hB]; exact heap_alloc_new wr _
      have d1 : W1.cell? ⟨B, 0, none⟩ = some (.int .i64 (p : Int)) := by rw [cell_of_row W1 B _ _ _ _ hr1]; rfl
      have d2 : W1.cell? ⟨B, 1, none⟩ = some (.string s) := by rw [cell_of_row W1 B _ _ _ _ hr1]; rfl
      have hJ1 : J (xs.take k) W1 := by
        rw [← hW1]
        exact hJ _ _ _ none hJs (World.grownBy_alloc wr _ none) (fun r e => by cases e)
      have HB1 : Hid (Below n₀ W W1) := by rw [← hW1]; exact hbel.alloc (Nat.le_trans hn₀ hbel.size) _
      obtain ⟨fn, tmps, assign, body, hy', hR⟩ := hY (xs.take k) (p, s) W1 hJ1 (by rw [List.length_take]; omega)
      have HT : Hid (xs.take (k + 1) = xs.take k ++ [(p, s)]) := by show _ = _; rw [List.take_succ_eq_append_getElem hil, hc]
      dsimp only at hy'
      clear hY hJs hJ1 hJ hr1 hcell hbel
      gi_wp2
      refine hR.mono ?_
      rintro e W3 (⟨rfl, hJ3, hk3⟩ | ⟨rfl, hJx3⟩)
      · have HJ3 : Hid (Below n₀ W W3 ∧ J (xs.take (k + 1)) W3) := ⟨HB1.out.trans hk3, by rw [HT.out]; exact hJ3⟩
        clear hR hJ3 hk3
        gi_wp2
        exact ⟨⟨k + 1, by omega, by go_num, HJ3.out⟩, by simp [intOf]; omega⟩
      · gi_wp2
        refine bodyPost_ret (results_none rfl _ _ _) rfl ?_
        exact ⟨⟨_, rfl⟩, .inr ⟨xs.take (k + 1), List.take_prefix _ _, by rw [HT.out]; exact hJx3⟩⟩
    · obtain rfl : k = len := by omega
      have kk : ¬ (k : Int) < (k : Int) := by omega
      rw [List.take_of_length_le (by omega)] at hJs
      gi_wp2
      go_end0
      exact ⟨⟨_, rfl⟩, .inl hJs⟩
theorem values_stops (F : Fence) (nf : Nat) (h6 : F.fn 91) (hro : F.round = none) (hnf : 1 ≤ nf) (Bv n₀ : Nat) (a : Option Addr) (len cap : Nat) (xs : List Chg) (w : World) (hlv : Bv < w.heap.size) (hn₀ : n₀ ≤ w.heap.size)
    (hBv : w.cell? ⟨Bv, 0, none⟩ = some (.slice a len cap)) (hl : Cs w a len cap xs) (hab : ∀ x, ob a = some x → x < n₀) :
    SeqStopsK F nf Tryz.prog 91 #[.pointer (some ⟨Bv, 0, none⟩)] (fun x : Chg => #[Value.agg #[.int .i64 (x.1 : Int), .string x.2]]) (Below n₀) (fun ys => ys = xs) (fun pre => pre <+: xs) xs.length w := fun l J Jx W hW hJ _ hY h0 =>
  values1_in F nf h6 hro hnf l Bv n₀ a len cap xs J Jx W hJ hY ((hW.cell (p := ⟨Bv, 0, none⟩) hlv).trans hBv) (Nat.le_trans hn₀ hW.size) (hl.below hW) hab h0
set_option maxHeartbeats 1000000 in
theorem values_any (a : Option Addr) (len cap : Nat) (w : World) :
    Calls Tryz.prog 43 #[.slice a len cap] w fun e w' => e = .returned (.func (.func 91) #[] #[.pointer (some ⟨w.heap.size, 0, none⟩)]) ∧ w' = w.alloc (.cells #[.slice a len cap] 33) := by
  go_enter Tryz.func43, Tryz.ntmps43
  go_wp2
  go_ret
  exact ⟨rfl, rfl⟩
/-- A variable of a change's kind. -/
def Box2 (W : World) (B : Nat) (c : Chg) : Prop := W.heap[B]? = some (.cells #[.int .i64 (c.1 : Int), .string c.2] 32 (0, 0))
set_option maxRecDepth 100000 in
set_option maxHeartbeats 4000000 in
theorem appendSeq_any {w : World} (Bv : Nat) (a : Option Addr) (len cap : Nat) (xs : List Chg) (hlv : Bv < w.heap.size) (hBv : w.cell? ⟨Bv, 0, none⟩ = some (.slice a len cap)) (hl : Cs w a len cap xs) (hab : ∀ x, ob a = some x → x < w.heap.size) (hlen : len ≤ 1000) :
    Calls Tryz.prog 118 #[.slice none 0 0, .func (.func 91) #[] #[.pointer (some ⟨Bv, 0, none⟩)]] w fun e w' => ∃ v, e = .returned v ∧ w'.ownsRow w.heap.size 32 2 v len (chsV xs) ∧ Below w.heap.size w w' := by
  obtain ⟨i0, hi, hz0, hz1, hz2⟩ := info_parts info57
  have hll := hl.1
  obtain ⟨W1, hW1⟩ : ∃ W1, w.alloc (.cells #[.slice none 0 0] 33) = W1 := ⟨_, rfl⟩
  have hB1 : Below w.heap.size w W1 := by rw [← hW1]; exact (Below.refl _ w).alloc (Nat.le_refl _) _
  have hs1 : W1.heap.size = w.heap.size + 1 := by rw [← hW1]; simp
  have bS : Boxed W1 w.heap.size 33 (.slice none 0 0) := by rw [← hW1]; exact Boxed.new w 33 _
  have hBv1 := (hB1.cell (p := ⟨Bv, 0, none⟩) hlv).trans hBv
  have hl1 := hl.below hB1
  refine (callsIn_wide (n := 6)).1 ?_
  refine callsIn_of_wp_marks Tryz.func118 rfl trivial ?_ rfl
  simp only [Tryz.ntmps118, List.size_toArray, List.length_cons, List.length_nil, Nat.reduceAdd, Nat.reduceSub, Array.replicate_succ, Array.replicate_zero, List.push_toArray, List.append_toArray, List.nil_append, List.cons_append]
  gi_wp2
  refine wpIn_rangeFunc_ownH rfl (by omega) (gf := 91) (lb := #[.pointer (some ⟨Bv, 0, none⟩)]) rfl trivial (enters_of Tryz.func91 (by kernel_rfl) rfl)
    (values_stops Fence.wide _ trivial rfl (by omega) Bv w.heap.size a len cap xs W1 (by omega) (by omega) hBv1 hl1 hab) belowK_t (belowK_b (by omega)) (Below.refl _ _) (fun _ => rfl)
    (fun pre W => (∃ v, Boxed W w.heap.size 33 v ∧ W.ownsRow w.heap.size 32 2 v pre.length (chsV pre) ∧ True) ∧ Below w.heap.size w W)
    (fun _ _ _ => False)
    (OwnFrom.and (Own.from (holdsRow_own w.heap.size w.heap.size 33 32 2 (fun pre : List Chg => pre.length) (fun pre => chsV pre) (fun _ _ => True)) _) (ownFrom_below (Nat.le_refl _) (by omega)))
    (fun _ _ _ _ _ hs _ _ => hs)
    ⟨⟨_, bS, World.ownsRow_nil _ _ _ _, trivial⟩, hB1⟩
    (fun x a' W => ∃ Bx, w.heap.size < Bx ∧ Box2 W Bx x ∧ a' = { tmps := #[.slice none 0 0, .func (.func 91) #[] #[.pointer (some ⟨Bv, 0, none⟩)], .pointer (some ⟨w.heap.size, 0, none⟩), undef, .slice none 0 0, .pointer (some ⟨Bx, 0, none⟩), .func (.func 91) #[] #[.pointer (some ⟨Bv, 0, none⟩)], .agg #[.int .i64 (x.1 : Int), .string x.2], undef, undef, undef, undef, undef], defers := [] })
    (fun x a' _ X Y row hs hg hr => by
      obtain ⟨Bx, h1, h2, h3⟩ := hs
      refine ⟨Bx, h1, (hg.block Bx (lt_of_some h2) (fun e => ?_)).trans h2, h3⟩
      obtain ⟨_, o, ho, hc⟩ := hr Bx e.symm
      rw [show X.heap[Bx]? = _ from h2] at ho
      cases ho
      cases hc)
    ?assign ?body ?done ?stop
  case assign =>
    rintro l pre x W K ⟨⟨v, hv, hrow, _⟩, hB⟩ hK
    gi_wp2
    exact hK _ _ ((KeepsOthers.alloc _ _).from _) ((Below.refl _ W).alloc hB.size _) ⟨⟨v, hv.alloc _, hrow.alloc _, trivial⟩, hB.alloc hB.size _⟩ ⟨W.heap.size, hv.lt, heap_alloc_new W _, rfl⟩
  case body =>
    rintro l pre ⟨p, s⟩ a' W hlB ⟨r, hr⟩ ⟨⟨v, hv, hrow, _⟩, hB⟩ ⟨Bx, hBx, bX, rfl⟩ hlt
    have hcv := hv.cell
    have d1 : W.cell? ⟨Bx, 0, none⟩ = some (.int .i64 (p : Int)) := by rw [cell_of_row W Bx _ _ _ _ bX]; rfl
    have d2 : W.cell? ⟨Bx, 1, none⟩ = some (.string s) := by rw [cell_of_row W Bx _ _ _ _ bX]; rfl
    gi_wp2_with (gi_at_builtin; refine wpListIn_append_own _ rfl _ _ 33 rfl w.heap.size 32 i0 (.agg #[.int .i64 0, .string ByteArray.empty]) 2 24 Tryz.underlying33 hi hz0 hz1 hz2 rfl (by decide) _ _ _ rfl (hrow.alloc _) ⟨W.heap.size, 0, none⟩ 1 1 [.int .i64 (p : Int), .string s] rfl rfl (World.news_of_block (heap_alloc_new W _)) (by simp [Value.oneCell']) (by unfold maxLen; omega) (by omega) (by have := hB.size; simp; omega) ?_; intro v' w1 hown' hgrow _; obtain ⟨g', cap', rfl⟩ := ownsRow_succ hown'; obtain ⟨hv3, hv2, hr2, hk2, hb2⟩ := hv.appended (by decide) hrow hB.size (Nat.le_refl _) hown' hgrow; have hc3 := hv3.cell; have hf3 := hv3.frozen)
    refine ⟨hk2.from _, hb2, ⟨_, hv2, ?_⟩, hB.trans hb2⟩
    rw [List.length_append, chsV_snoc]
    exact hr2
  case done =>
    rintro E ys W hE rfl ⟨⟨v, hv, hrow, _⟩, hB⟩ hK
    have hcv := hv.cell
    rw [hll] at hrow
    gi_wp2
    refine ⟨by simp, .inl ⟨_, _, rfl, run_takeDeferred hK, ?_⟩⟩
    exact ⟨_, results_tmp rfl _ _ _, v, rfl, ownsRow_putObj hrow _ hK rfl, hB.trans (belowK_b (w := w) (Nat.le_refl _) W E _ _ (by omega) hK rfl rfl)⟩
  case stop =>
    rintro E c pre W _ _ h _
    exact h.elim
set_option maxHeartbeats 1000000 in
theorem collect_any {w : World} (Bv : Nat) (a : Option Addr) (len cap : Nat) (xs : List Chg) (hlv : Bv < w.heap.size) (hBv : w.cell? ⟨Bv, 0, none⟩ = some (.slice a len cap)) (hl : Cs w a len cap xs) (hab : ∀ x, ob a = some x → x < w.heap.size) (hlen : len ≤ 1000) :
    Calls Tryz.prog 89 #[.func (.func 91) #[] #[.pointer (some ⟨Bv, 0, none⟩)]] w fun e w' => ∃ v, e = .returned v ∧ w'.ownsRow w.heap.size 32 2 v len (chsV xs) ∧ Below w.heap.size w w' := by
  have HA := appendSeq_any Bv a len cap xs hlv hBv hl hab hlen
  clear hl
  go_enter Tryz.func89, Tryz.ntmps89
  go_wp2_with fail
  refine HA.mono ?_
  rintro e V1 ⟨v, rfl, h1, h2⟩
  go_wp2
  go_ret
  exact ⟨v, rfl, h1, h2⟩
set_option maxHeartbeats 1000000 in
theorem sorted_any {w : World} (Bv : Nat) (a : Option Addr) (len cap : Nat) (xs : List Chg) (hlv : Bv < w.heap.size) (hBv : w.cell? ⟨Bv, 0, none⟩ = some (.slice a len cap)) (hl : Cs w a len cap xs) (hab : ∀ x, ob a = some x → x < w.heap.size) (h1 : 1 ≤ len) (h2 : len ≤ 12) :
    Calls Tryz.prog 42 #[.func (.func 91) #[] #[.pointer (some ⟨Bv, 0, none⟩)], .func (.func 44) #[] #[]] w fun e w' => ∃ g cap' l', e = .returned (.slice (some ⟨g, 0, none⟩) len cap') ∧ w.heap.size ≤ g ∧ l'.Perm xs ∧ l'.Pairwise (fun a b => a.1 ≤ b.1) ∧ w'.ownsRow w.heap.size 32 2 (.slice (some ⟨g, 0, none⟩) len cap') len (chsV l') ∧ Below w.heap.size w w' := by
  have HC := collect_any Bv a len cap xs hlv hBv hl hab (by omega)
  have hll := hl.1
  clear hl hBv
  go_enter Tryz.func42, Tryz.ntmps42
  go_wp2_with fail
  refine HC.mono ?_
  rintro e V1 ⟨v, rfl, ho1, hb1⟩
  obtain ⟨k, rfl⟩ : ∃ k, len = k + 1 := ⟨len - 1, by omega⟩
  obtain ⟨g, cap', rfl⟩ := ownsRow_succ ho1
  have HS := sortFunc_any w.heap.size g (k + 1) cap' xs V1 ho1 hll h1 h2
  have hg := (ho1.lt g rfl).1
  have HB1 : Hid (Below w.heap.size w V1) := hb1
  clear HC ho1 hb1
  go_wp2_with fail
  refine HS.mono ?_
  rintro e V2 ⟨rfl, l', hp, hs, ho2, hu2⟩
  have HN : Hid (Below w.heap.size w V2) := HB1.out.trans (hu2.below HB1.out.size (fun k e => by rw [e]; exact hg))
  have HR : Hid _ := ho2
  clear HS ho2 hu2 HB1
  go_wp2
  go_ret
  exact ⟨g, cap', l', rfl, hg, hp, hs, HR.out, HN.out⟩
end Go.Proofs.YtdgffocmdkadpaaGreat
namespace Go.Proofs.YtdgffocmdkadpaaGreat
open Go.RowKit Go.Shelf
/-- The changes in the order of their pages. -/
def srtC (l : List Chi) : List Chg := (l.map natC).mergeSort (fun a b => decide (a.1 ≤ b.1))
theorem srtC_perm (l : List Chi) : (srtC l).Perm (l.map natC) := List.mergeSort_perm _ _
theorem srtC_sorted (l : List Chi) : (srtC l).Pairwise (fun a b => a.1 ≤ b.1) := by
  have := List.pairwise_mergeSort (le := fun (a b : Chg) => decide (a.1 ≤ b.1)) (fun a b c h1 h2 => by simp at *; omega) (fun a b => by simp; omega) (l.map natC)
  exact this.imp (fun h => by simpa using h)
theorem nodup_nat {n : Nat} {l : List Chi} (h0 : ∀ c ∈ l, 0 ≤ c.1 ∧ c.1 < (n : Int)) (h : (l.map Prod.fst).Nodup) : (l.map natC).Pairwise (fun a b => a.1 ≠ b.1) := by
  rw [List.pairwise_map]
  have h1 := List.pairwise_map.1 h
  refine List.Pairwise.imp_of_mem (fun {a b} ha hb hab e => hab ?_) h1
  have := h0 a ha
  have := h0 b hb
  simp only [natC] at e
  omega
theorem eq_of_page {l : List Chg} (hd : l.Pairwise (fun a b => a.1 ≠ b.1)) {a b : Chg} (ha : a ∈ l) (hb : b ∈ l) (e : a.1 = b.1) : a = b := by
  induction l with
  | nil => simp at ha
  | cons x l ih =>
    rw [List.pairwise_cons] at hd
    rcases List.mem_cons.1 ha with ea | ha'
    · rcases List.mem_cons.1 hb with eb | hb'
      · rw [ea, eb]
      · exact absurd e (by rw [ea]; exact hd.1 b hb')
    · rcases List.mem_cons.1 hb with eb | hb'
      · exact absurd e.symm (by rw [eb]; exact hd.1 a ha')
      · exact ih hd.2 ha' hb'
theorem srtC_unique {n : Nat} {l : List Chi} (h0 : ∀ c ∈ l, 0 ≤ c.1 ∧ c.1 < (n : Int)) (h : (l.map Prod.fst).Nodup) {l' : List Chg} (hp : l'.Perm (l.map natC)) (hs : l'.Pairwise (fun a b => a.1 ≤ b.1)) : l' = srtC l := by
  have hd := nodup_nat h0 h
  exact List.Perm.eq_of_pairwise (fun a b ha hb h1 h2 => eq_of_page hd (hp.subset ha) ((srtC_perm l).subset hb) (by omega)) hs (srtC_sorted l) (hp.trans (srtC_perm l).symm)
def comSteps (n : Nat) (l : List Chi) : List Stp := if l = [] then [] else commitS n (srtC l) (markOf (pagesL l))
def comCode (n : Nat) (D : Dk) (l : List Chi) : Nat := if chk n l = 0 then (if D.up then codeS D (comSteps n l) else 10) else chk n l
def comDisk (n : Nat) (D : Dk) (l : List Chi) : Dk := if chk n l = 0 ∧ D.up = true then runS D (comSteps n l) else D
theorem Mut.next {S : Nat → Prop} {w w1 : World} {g : Nat} {D1 : Dk} (m : Mut S w g D1 w1) : ∃ S1, DiskIs w1 S1 g D1 ∧ Upd S w w1 ∧ (∀ x, S1 x → S x ∨ w.heap.size ≤ x) ∧ ∀ x, x < w.heap.size → ¬ S x → ¬ S1 x := by
  obtain ⟨S1, h1, h2, h3⟩ := m
  exact ⟨S1, h1, h2, h3, fun x hx hn hs => (h3 x hs).elim hn (fun h => by omega)⟩
theorem commit_nil (a : Option Addr) (len cap : Nat) (w : World) : Calls Tryz.prog 10 #[.pointer none, .slice a len cap] w fun e w' => e = .returned (.int .i64 1) ∧ w' = w := by
  go_enter Tryz.func10, Tryz.ntmps10
  go_wp2
  go_ret
  exact ⟨rfl, rfl⟩
set_option maxRecDepth 100000 in
set_option maxHeartbeats 4000000 in
theorem commit_any {w : World} {S : Nat → Prop} {jb g n : Nat} {D : Dk} (h : DiskIs w S g D) (hj : Jat w jb g n) (hnj : ¬ S jb) (hn : n ≤ 128) (hkn : 8 * n + 1 ≤ D.kept.length) (a : Option Addr) (len cap : Nat) (l : List Chi) (hl : Ci w a len cap l) (hab : ∀ x, ob a = some x → x < w.heap.size) (hlen : len ≤ 12) (hwr : D.writes + 200 < 1000000) :
    Calls Tryz.prog 10 #[.pointer (some ⟨jb, 0, none⟩), .slice a len cap] w fun e w' => e = .returned (.int .i64 (comCode n D l : Int)) ∧ Mut S w g (comDisk n D l) w' := by
  have HCK := check_any hj hn a len cap l hl (by omega)
  have hSw := h.bd
  have hll := hl.1
  have HH : Hid (DiskIs w S g D) := h
  have HJ : Hid (Jat w jb g n) := hj
  have HL : Hid (Ci w a len cap l) := hl
  clear h hj hl
  by_cases hck : chk n l = 0
  · obtain ⟨hr1, hr2, hr3⟩ := chk_zero hck
    have hcS : chkS n l = markOf (pagesL l) := by unfold chkS; rw [if_pos hck]
    rw [hcS, hck] at HCK
    by_cases hup : D.up = true
    · by_cases h0 : len = 0
      · have hnil : l = [] := List.eq_nil_of_length_eq_zero (by omega)
        have HE : Hid (comCode n D l = 0 ∧ comDisk n D l = D) := by
          unfold comCode comDisk comSteps
          rw [if_pos hck, if_pos hup, if_pos hnil, if_pos ⟨hck, hup⟩]
          exact ⟨rfl, rfl⟩
        subst h0
        obtain ⟨mk, hmk⟩ : ∃ mk, markOf (pagesL l) = mk := ⟨_, rfl⟩
        rw [hmk] at HCK
        clear hr1 hr2 hr3 hnil hmk hcS hck
        go_enter Tryz.func10, Tryz.ntmps10
        go_wp2_with fail
        refine HCK.mono ?_
        rintro e V1 ⟨rfl, hb1⟩
        obtain ⟨cd, _⟩ := (HJ.out.below hb1).cells
        have HU := up_any (HH.out.below hb1)
        rw [hup] at HU
        clear HCK
        go_wp2_with fail
        refine HU.mono ?_
        rintro e V2 ⟨rfl, hV⟩
        subst V2
        go_wp2
        go_ret
        refine ⟨ret_int ?_, ?_⟩
        · rw [HE.out.1]; rfl
        · rw [HE.out.2]; exact Mut.below HH.out hb1
      · obtain ⟨mk, hmk⟩ : ∃ mk, markOf (pagesL l) = mk := ⟨_, rfl⟩
        have hms : mk.size = 256 := by rw [← hmk]; exact markOf_size _
        have hlne : ¬ l = [] := fun e => h0 (by rw [← hll, e]; rfl)
        have HE : Hid (comCode n D l = codeS D (layL 1 (srtC l) ++ (markL mk ++ finS n (srtC l))) ∧ comDisk n D l = runS D (layL 1 (srtC l) ++ (markL mk ++ finS n (srtC l)))) := by
          unfold comCode comDisk comSteps commitS
          rw [if_pos hck, if_pos hup, if_neg hlne, if_pos ⟨hck, hup⟩, hmk]
          exact ⟨rfl, rfl⟩
        rw [hmk] at HCK
        have HUN : Hid (∀ l' : List Chg, l'.Perm (l.map natC) → l'.Pairwise (fun a b => a.1 ≤ b.1) → l' = srtC l) := fun l' h1 h2 => srtC_unique hr1 hr2 h1 h2
        have HCS : Hid (∀ W, Below w.heap.size w W → Cs W a len cap (l.map natC)) := fun W hW => (HL.out.below hW).cs (fun c hc => (hr1 c hc).1)
        have HP : Hid (∀ c ∈ srtC l, c.2.size = 1024 ∧ c.1 < n) := fun c hc => by
          obtain ⟨d, hd, rfl⟩ := List.mem_map.1 ((srtC_perm l).subset hc)
          have := hr1 d hd
          exact ⟨hr3 d hd, by simp only [natC]; omega⟩
        have hsl : (srtC l).length = len := by rw [(srtC_perm l).length_eq, List.length_map, hll]
        have k0 : ¬ (len : Int) = 0 := by omega
        clear hr1 hr2 hr3 hmk hcS hck hlne
        go_enter Tryz.func10, Tryz.ntmps10
        go_wp2_with fail
        refine HCK.mono ?_
        rintro e V1 ⟨rfl, hb1⟩
        obtain ⟨cd, _⟩ := (HJ.out.below hb1).cells
        have HU := up_any (HH.out.below hb1)
        rw [hup] at HU
        have HVA := values_any a len cap V1
        obtain ⟨V2, hV2⟩ : ∃ V2, V1.alloc (.cells #[.slice a len cap] 33) = V2 := ⟨_, rfl⟩
        have hb2 : Below w.heap.size w V2 := by rw [← hV2]; exact hb1.alloc hb1.size _
        have bV : Boxed V2 V1.heap.size 33 (.slice a len cap) := by rw [← hV2]; exact Boxed.new V1 _ _
        have HSO := sorted_any V1.heap.size a len cap (l.map natC) bV.lt bV.cell (HCS.out V2 hb2) (fun x hx => Nat.lt_of_lt_of_le (hab x hx) hb2.size) (by omega) hlen
        rw [hV2] at HVA
        have HB2 : Hid (Below w.heap.size w V2) := hb2
        clear HCK hV2 hb1 hb2 bV
        go_wp2_with (go_at_call 41; refine HU.mono ?_; rintro e V3 ⟨rfl, hV⟩; subst V3)
        refine HVA.mono ?_
        rintro e V3 ⟨rfl, hV⟩
        subst V3
        clear HU HVA
        go_wp2_with fail
        refine HSO.mono ?_
        rintro e V3 ⟨gs, cap', l', rfl, hgs, hp', hs', ho', hb3'⟩
        obtain rfl := HUN.out l' hp' hs'
        have hb3 : Below w.heap.size w V3 := HB2.out.trans (hb3'.mono HB2.out.size)
        have hgs3 := (ho'.lt gs rfl).2
        have hgsw : w.heap.size ≤ gs := Nat.le_trans HB2.out.size hgs
        have hCs3 := Cs.own ho' hsl
        have hsz : ∀ c ∈ srtC l, c.2.size = 1024 := fun c hc => (HP.out c hc).1
        have hpn : ∀ c ∈ srtC l, c.1 < n := fun c hc => (HP.out c hc).2
        have HLA := lay_any (HH.out.below hb3) (HJ.out.below hb3) hnj (some ⟨gs, 0, none⟩) len cap' (srtC l) hCs3 (fun x hx hs => by cases hx; have h9 : gs < w.heap.size := hSw _ hs; omega) 1 hsz (fun c hc => by have := hpn c hc; omega) (by omega) (by omega)
        have hwl := runS_writes D (layL 1 (srtC l))
        rw [layL_len, hsl] at hwl
        have HB3 : Hid (Below w.heap.size w V3) := hb3
        clear HSO hp' hs' ho' hb3' hb3 HUN HCS HB2
        rcases codeS_or D (layL 1 (srtC l)) with hc1 | hc1
        · rw [hc1] at HLA
          obtain ⟨D1, hD1⟩ : ∃ D1, runS D (layL 1 (srtC l)) = D1 := ⟨_, rfl⟩
          have hkl1 : D1.kept.length = D.kept.length := by rw [← hD1]; exact runS_len _ _
          rw [codeS_app D (layL 1 (srtC l)), runS_app D (layL 1 (srtC l)), if_pos hc1, if_pos hc1, hD1] at HE
          rw [hD1] at HLA hwl
          clear hc1 hD1
          go_wp2_with fail
          refine HLA.mono ?_
          rintro e V4 ⟨rfl, hm4⟩
          obtain ⟨S4, hd4, hu4, hs4, hn4⟩ := hm4.next
          have hj3 := HJ.out.below HB3.out
          have hj4 := hj3.upd hu4 hnj
          have hnj4 := hn4 jb hj3.lt hnj
          have hngs : ¬ S gs := fun hs => by have := hSw _ hs; omega
          have hngs4 := hn4 gs hgs3 hngs
          have hCs4 := hCs3.mut hm4 (fun x hx => by cases hx; exact hngs)
          have HSM := setMark_any hd4 hj4 hnj4 mk hms (by omega)
          have HU4 : Hid (Upd S w V4 ∧ ∀ x, S4 x → S x ∨ w.heap.size ≤ x) := ⟨(Upd.of_below HB3.out).trans hu4 (fun _ h _ => h), fun x hx => (hs4 x hx).imp id (fun h => Nat.le_trans HB3.out.size h)⟩
          have hwl4 := runS_writes D1 (markL mk)
          simp only [markL, List.length_cons, List.length_nil] at hwl4
          clear HLA hm4 hu4 hs4 hd4 hCs3
          rcases codeS_or D1 (markL mk) with hc2 | hc2
          · rw [hc2] at HSM
            obtain ⟨D2, hD2⟩ : ∃ D2, runS D1 (markL mk) = D2 := ⟨_, rfl⟩
            have hkl2 : D2.kept.length = D.kept.length := by rw [← hD2, ← hkl1]; exact runS_len _ _
            rw [codeS_app D1 (markL mk), runS_app D1 (markL mk), if_pos hc2, if_pos hc2, hD2] at HE
            have hwl5 : D2.writes ≤ D1.writes + 2 := by rw [← hD2]; exact hwl4
            rw [hD2] at HSM
            clear hc2 hD2
            go_wp2_with fail
            refine HSM.mono ?_
            rintro e V5 ⟨rfl, hm5⟩
            obtain ⟨S5, hd5, hu5, hs5, hn5⟩ := hm5.next
            have hj5 := hj4.upd hu5 hnj4
            have hnj5 := hn5 jb hj4.lt hnj4
            have hCs5 := hCs4.mut hm5 (fun x hx => by cases hx; exact hngs4)
            have hngs5 := hn5 gs (by
              obtain ⟨b, o, e, hb, _⟩ := hCs4.2.2.2 (by omega)
              cases e
              exact hb) hngs4
            have HFI := finish_any hd5 hj5 hnj5 hn (by omega) (some ⟨gs, 0, none⟩) len cap' (srtC l) hCs5 (fun x hx => by cases hx; exact hngs5) hsz hpn (by omega) (by omega)
            have HD5 : Hid (Upd S4 V4 V5 ∧ ∀ x, S5 x → S4 x ∨ V4.heap.size ≤ x) := ⟨hu5, hs5⟩
            clear HSM hm5 hu5 hs5 hd5
            go_wp2_with fail
            refine HFI.mono ?_
            rintro e V6 ⟨rfl, hm6⟩
            go_wp2
            go_ret
            refine ⟨ret_int ?_, ?_⟩
            · rw [HE.out.1]
            · rw [HE.out.2]
              exact Mut.trans HU4.out.1 HU4.out.2 (Mut.trans HD5.out.1 HD5.out.2 hm6)
          · rw [hc2] at HSM
            rw [codeS_app D1 (markL mk), runS_app D1 (markL mk), hc2] at HE
            clear hc2
            go_wp2_with fail
            refine HSM.mono ?_
            rintro e V5 ⟨rfl, hm5⟩
            go_wp2
            go_ret
            refine ⟨ret_int ?_, ?_⟩
            · rw [HE.out.1]; rfl
            · rw [HE.out.2]
              exact Mut.trans HU4.out.1 HU4.out.2 hm5
        · rw [hc1] at HLA
          rw [codeS_app D (layL 1 (srtC l)), runS_app D (layL 1 (srtC l)), hc1] at HE
          clear hc1
          go_wp2_with fail
          refine HLA.mono ?_
          rintro e V4 ⟨rfl, hm4⟩
          go_wp2
          go_ret
          refine ⟨ret_int ?_, ?_⟩
          · rw [HE.out.1]; rfl
          · rw [HE.out.2]
            exact Mut.from HB3.out hm4
    · have hdn : D.up = false := by simpa using hup
      have HE : Hid (comCode n D l = 10 ∧ comDisk n D l = D) := by
        unfold comCode comDisk
        rw [if_pos hck, if_neg hup, if_neg (fun e => hup e.2)]
        exact ⟨rfl, rfl⟩
      obtain ⟨mk, hmk⟩ : ∃ mk, markOf (pagesL l) = mk := ⟨_, rfl⟩
      rw [hmk] at HCK
      clear hr1 hr2 hr3 hmk hcS hck hup
      go_enter Tryz.func10, Tryz.ntmps10
      go_wp2_with fail
      refine HCK.mono ?_
      rintro e V1 ⟨rfl, hb1⟩
      obtain ⟨cd, _⟩ := (HJ.out.below hb1).cells
      have HU := up_any (HH.out.below hb1)
      rw [hdn] at HU
      clear HCK
      go_wp2_with fail
      refine HU.mono ?_
      rintro e V2 ⟨rfl, hV⟩
      subst V2
      go_wp2
      go_ret
      refine ⟨ret_int ?_, ?_⟩
      · rw [HE.out.1]; rfl
      · rw [HE.out.2]; exact Mut.below HH.out hb1
  · have HE : Hid (comCode n D l = chk n l ∧ comDisk n D l = D) := by
      unfold comCode comDisk
      rw [if_neg hck, if_neg (fun e => hck e.1)]
      exact ⟨rfl, rfl⟩
    obtain ⟨c, hc⟩ : ∃ c, chk n l = c := ⟨_, rfl⟩
    obtain ⟨cs, hcs⟩ : ∃ cs, chkS n l = cs := ⟨_, rfl⟩
    rw [hc] at HE hck HCK
    rw [hcs] at HCK
    have k0 : ¬ (c : Int) = 0 := by omega
    clear hc hcs hck
    go_enter Tryz.func10, Tryz.ntmps10
    go_wp2_with fail
    refine HCK.mono ?_
    rintro e V1 ⟨rfl, hb1⟩
    clear HCK
    go_wp2
    go_ret
    refine ⟨ret_int ?_, ?_⟩
    · rw [HE.out.1]
    · rw [HE.out.2]; exact Mut.below HH.out hb1
set_option maxHeartbeats 1000000 in
theorem open_nil (p : Int) (w : World) : Calls Tryz.prog 22 #[.pointer none, .int .i64 p] w fun e w' => e = .returned (.tuple #[.pointer none, .int .i64 1]) ∧ w' = w := by
  have HN := need_any p w
  go_enter Tryz.func22, Tryz.ntmps22
  go_wp2_with fail
  refine HN.mono ?_
  rintro e V1 ⟨rfl, hV⟩
  subst V1
  go_wp2
  go_ret2
  exact ⟨rfl, rfl⟩
set_option maxHeartbeats 1000000 in
theorem open_small {w : World} {S : Nat → Prop} {g : Nat} {D : Dk} (h : DiskIs w S g D) (p : Int) (hp : needN p = 0 ∨ D.kept.length < needN p) : Calls Tryz.prog 22 #[.pointer (some ⟨g, 0, none⟩), .int .i64 p] w fun e w' => e = .returned (.tuple #[.pointer none, .int .i64 1]) ∧ w' = w := by
  have HN := need_any p w
  have HS := size_any h
  obtain ⟨nd, hnd⟩ : ∃ nd, needN p = nd := ⟨_, rfl⟩
  rw [hnd] at HN hp
  clear hnd h
  by_cases h0 : nd = 0
  · subst h0
    clear hp
    go_enter Tryz.func22, Tryz.ntmps22
    go_wp2_with fail
    refine HN.mono ?_
    rintro e V1 ⟨rfl, hV⟩
    subst V1
    go_wp2
    go_ret2
    exact ⟨rfl, rfl⟩
  · have k0 : ¬ (nd : Int) = 0 := by omega
    have k1 : (D.kept.length : Int) < (nd : Int) := by omega
    clear hp
    go_enter Tryz.func22, Tryz.ntmps22
    go_wp2_with (go_at_call 71; refine HS.mono ?_; rintro e V3 ⟨rfl, hV⟩; subst V3)
    refine HN.mono ?_
    rintro e V1 ⟨rfl, hV⟩
    subst V1
    go_wp2_with (go_at_call 71; refine HS.mono ?_; rintro e V3 ⟨rfl, hV⟩; subst V3)
    go_ret2
    exact ⟨rfl, rfl⟩
set_option maxHeartbeats 1000000 in
theorem open_any {w : World} {S : Nat → Prop} {g n : Nat} {D : Dk} (h : DiskIs w S g D) (hn1 : 1 ≤ n) (hn : n ≤ 128) (hkn : 8 * n + 1 ≤ D.kept.length) (hu : D.up = true) (hw : D.waits = []) (hsz : ∀ s ∈ D.kept, s.size = 256) (hwr : D.writes + 4 * n + 2 < 1000000) :
    Calls Tryz.prog 22 #[.pointer (some ⟨g, 0, none⟩), .int .i64 (n : Int)] w fun e w' => e = .returned (.tuple #[if codeS D (recS n D.kept) = 0 then .pointer (some ⟨w.heap.size, 0, none⟩) else .pointer none, .int .i64 (codeS D (recS n D.kept) : Int)]) ∧ Jat w' w.heap.size g n ∧ ∃ S', DiskIs w' S' g (runS D (recS n D.kept)) ∧ Upd S w w' ∧ (∀ x, S' x → S x ∨ w.heap.size ≤ x) ∧ ¬ S' w.heap.size := by
  have HN := need_any (n : Int) w
  have hnd : needN (n : Int) = 1 + 8 * n := by
    unfold needN
    rw [if_neg (by omega)]
    simp
  rw [hnd] at HN
  have HS := size_any h
  have hSw := h.bd
  obtain ⟨W1, hW1⟩ : ∃ W1, w.alloc (.cells #[.pointer (some ⟨g, 0, none⟩), .int .i64 (n : Int)] 86) = W1 := ⟨_, rfl⟩
  have hb1 : Below w.heap.size w W1 := by rw [← hW1]; exact (Below.refl _ w).alloc (Nat.le_refl _) _
  have hj1 : Jat W1 w.heap.size g n := by rw [← hW1]; exact heap_alloc_new w _
  have hnj : ¬ S w.heap.size := fun hs => by have := hSw _ hs; omega
  have HR := restore_any (h.below hb1) hj1 hnj hn hkn hu hw hsz hwr
  have HB1 : Hid (Below w.heap.size w W1) := hb1
  have HJ1 : Hid (Jat W1 w.heap.size g n) := hj1
  obtain ⟨nd, hnde⟩ : ∃ nd : Nat, 1 + 8 * n = nd := ⟨_, rfl⟩
  rw [hnde] at HN
  have k0 : ((nd : Int) == 0) = false := by rw [beq_eq_false_iff_ne]; omega
  have k1 : ¬ D.kept.length < nd := by omega
  obtain ⟨D', hD'⟩ : ∃ D', runS D (recS n D.kept) = D' := ⟨_, rfl⟩
  obtain ⟨B, hB⟩ : ∃ B, w.heap.size = B := ⟨_, rfl⟩
  rw [hD'] at HR
  rw [hD']
  have HE : Hid (∀ V, Mut S W1 g D' V → Jat V w.heap.size g n ∧ ∃ S', DiskIs V S' g D' ∧ Upd S w V ∧ (∀ x, S' x → S x ∨ w.heap.size ≤ x) ∧ ¬ S' w.heap.size) := fun V hm => by
    obtain ⟨S', hd, hu', hs', hn'⟩ := hm.next
    exact ⟨HJ1.out.upd hu' hnj, S', hd, (Upd.of_below HB1.out).trans hu' (fun _ h _ => h), fun x hx => (hs' x hx).imp id (fun h => Nat.le_trans HB1.out.size h), hn' _ HJ1.out.lt hnj⟩
  rw [hB] at HE hnj ⊢
  clear h hsz hD' hnd hb1 hj1 hnde HJ1 HB1
  rcases codeS_or D (recS n D.kept) with hc | hc
  · rw [hc, hB] at HR
    rw [hc]
    have HR : Hid (Calls Tryz.prog 72 #[.pointer (some ⟨B, 0, none⟩)] W1 fun e w' => e = .returned (.int .i64 0) ∧ Mut S W1 g D' w') := HR
    clear hc
    go_enter Tryz.func22, Tryz.ntmps22
    go_wp2_with fail
    refine HN.mono ?_
    rintro e V1 ⟨rfl, hV⟩
    subst V1
    go_wp2_with (go_at_call 71; refine HS.mono ?_; rintro e V3 ⟨rfl, hV⟩; subst V3)
    refine HR.out.mono ?_
    rintro e V2 ⟨rfl, hm⟩
    go_wp2
    go_ret2
    exact ⟨rfl, HE.out _ hm⟩
  · rw [hc, hB] at HR
    rw [hc]
    have HR : Hid (Calls Tryz.prog 72 #[.pointer (some ⟨B, 0, none⟩)] W1 fun e w' => e = .returned (.int .i64 10) ∧ Mut S W1 g D' w') := HR
    clear hc
    go_enter Tryz.func22, Tryz.ntmps22
    go_wp2_with fail
    refine HN.mono ?_
    rintro e V1 ⟨rfl, hV⟩
    subst V1
    go_wp2_with (go_at_call 71; refine HS.mono ?_; rintro e V3 ⟨rfl, hV⟩; subst V3)
    refine HR.out.mono ?_
    rintro e V2 ⟨rfl, hm⟩
    go_wp2
    go_ret2
    exact ⟨rfl, HE.out _ hm⟩
end Go.Proofs.YtdgffocmdkadpaaGreat
