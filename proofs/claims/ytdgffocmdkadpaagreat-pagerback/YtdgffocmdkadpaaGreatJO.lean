/- Walks over told, over what it yields. -/
import Derived.Test.YtdgffocmdkadpaaGreatJC
import Derived.RangeFuncNested
import Derived.RangeFuncBound
import Derived.RangeFuncCalls
import Derived.RangeFuncLeaves
import Derived.RangeFuncBox
import Derived.Shelf.Abstract
import Derived.Shelf.RegionOpen
import Derived.OwnWalkIn
import Derived.TacticsInMore
import Derived.LoopNIn
import Derived.LoopIn
import Derived.Maps.AppendAt
namespace Go.Proofs.YtdgffocmdkadpaaGreat
open Go.RowKit Go.Shelf
attribute [local go_sem] Oper.semAt_some
/-- The first k pages that a mark tells. -/
def uptoF (n : Nat) (m : ByteArray) (k : Nat) : List (Fin n) := ((List.finRange n).take k).filter fun i => tells m i.1
def toldF (n : Nat) (m : ByteArray) : List (Fin n) := uptoF n m n
theorem toldF_map (n : Nat) (m : ByteArray) : (toldF n m).map Fin.val = (List.range n).filter fun i => tells m i := by
  unfold toldF uptoF
  rw [List.take_of_length_le (by simp)]
  have e : List.range n = (List.finRange n).map Fin.val := by
    apply List.ext_getElem
    · simp
    · intro i h1 h2
      simp
  rw [e, List.filter_map]
  rfl
theorem uptoF_hit (n : Nat) (m : ByteArray) (k : Nat) (hk : k < n) (ht : tells m k = true) : uptoF n m (k + 1) = uptoF n m k ++ [⟨k, hk⟩] := by
  unfold uptoF
  rw [List.take_succ_eq_append_getElem (by simpa using hk), List.filter_append]
  simp [ht]
theorem uptoF_miss (n : Nat) (m : ByteArray) (k : Nat) (hk : k < n) (ht : tells m k = false) : uptoF n m (k + 1) = uptoF n m k := by
  unfold uptoF
  rw [List.take_succ_eq_append_getElem (by simpa using hk), List.filter_append]
  simp [ht]
theorem uptoF_pre (n : Nat) (m : ByteArray) (k : Nat) : uptoF n m k <+: toldF n m := by
  unfold toldF uptoF
  rw [List.take_of_length_le (l := List.finRange n) (i := n) (by simp)]
  exact List.IsPrefix.filter _ (List.take_prefix _ _)
theorem uptoF_len (n : Nat) (m : ByteArray) (k : Nat) (hk : k < n) (ht : tells m k = true) : (uptoF n m k).length < (toldF n m).length := by
  have h1 := (uptoF_pre n m (k + 1)).length_le
  rw [uptoF_hit n m k hk ht, List.length_append] at h1
  simp at h1
  omega
set_option maxRecDepth 100000 in
set_option maxHeartbeats 2000000 in
theorem told1_in (F : Fence) (nf : Nat) (h6 : F.fn 125) (hro : F.round = none) (hnf : 1 ≤ nf) (l Bp Bm n : Nat) (m : ByteArray) (hn : n ≤ 128) (hm : m.size = 256) (J Jx : List (Fin n) → World → Prop)
    (hY : ∀ pre x W, J pre W → pre.length < (toldF n m).length → YieldAt F (nf - 1) Tryz.prog l #[.int .i64 ((x : Fin n).1 : Int)] W fun e W' =>
      (e = .returned (.bool true) ∧ J (pre ++ [x]) W' ∧ W'.heap[Bm]? = W.heap[Bm]?) ∨ (e = .returned (.bool false) ∧ Jx (pre ++ [x]) W'))
    (W : World) (hBp : W.cell? ⟨Bp, 0, none⟩ = some (.int .i64 (n : Int))) (hBm : W.cell? ⟨Bm, 0, none⟩ = some (.string m)) (h0 : J [] W) :
    CallsIn F nf Tryz.prog 125 #[.func (.yield l) #[] #[], .pointer (some ⟨Bp, 0, none⟩), .pointer (some ⟨Bm, 0, none⟩)] W fun e W' => (∃ v, e = .returned v) ∧
      ((∃ ys, ys = toldF n m ∧ J ys W') ∨ (∃ pre, pre <+: toldF n m ∧ Jx pre W')) := by
  refine callsIn_of_wp Tryz.func125 rfl h6 ?_ hro
  simp only [Tryz.ntmps125, List.size_toArray, List.length_cons, List.length_nil, Nat.reduceAdd, Nat.reduceSub, Array.replicate_succ, Array.replicate_zero, List.push_toArray, List.append_toArray, List.nil_append, List.cons_append]
  gi_wp2
  gi_loopw [6] (fun p wr => ∃ k : Nat, k ≤ n ∧ p = .int .i64 k ∧ wr.cell? ⟨Bm, 0, none⟩ = some (.string m) ∧ J (uptoF n m k) wr) (fun p _ => n - (intOf p).toNat)
  case atStart => exact ⟨0, by omega, rfl, hBm, h0⟩
  case round =>
    obtain ⟨k, hk, rfl, hbm, hJs⟩ := hrel
    by_cases hlt : k < n
    · have kk : (k : Int) < (n : Int) := by omega
      have hk8 : k / 8 < m.size := by omega
      obtain ⟨y, hy⟩ : ∃ y, m[k / 8].toNat = y := ⟨_, rfl⟩
      have hy8 : y < 256 := by rw [← hy]; exact UInt8.toNat_lt _
      obtain ⟨v, hv⟩ : ∃ v, y / 2 ^ (k % 8) = v := ⟨_, rfl⟩
      have hv8 : v < 256 := by rw [← hv]; exact Nat.lt_of_le_of_lt (Nat.div_le_self _ _) hy8
      have kv : (y : Int) / 2 ^ (k % 8) = (v : Int) := by rw [← hv]; simp
      have HT : Hid (tells m k = decide (v % 2 = 1)) := by
        show tells m k = _
        unfold tells
        have e : m.data.toList.getD (k / 8) 0 = m[k / 8] := by
          rw [List.getD_eq_getElem?_getD, Array.getElem?_toList, Array.getElem?_eq_getElem hk8]
          rfl
        rw [e, hy, Nat.testBit_eq_decide_div_mod_eq, hv]
      have hand0 : bits BinOp.and IntKind.u8 (v : Int) 1 = ((v % 2 : Nat) : Int) := by
        have := u8_and_nat v 1 hv8 (by omega)
        rw [Nat.and_one_is_mod] at this
        exact this
      clear hv
      rcases Nat.mod_two_eq_zero_or_one v with h2 | h2
      · have ht : tells m k = false := by rw [HT.out, h2]; rfl
        have hand : bits BinOp.and IntKind.u8 (v : Int) 1 = 0 := by rw [hand0, h2]; rfl
        have HJ : Hid (J (uptoF n m (k + 1)) wr) := by rw [uptoF_miss n m k hlt ht]; exact hJs
        clear hand0 h2 HT hY hJs
        gi_wp2
        refine ⟨fun _ h => (by cases h), ?_⟩
        gi_wp2
        exact ⟨⟨k + 1, by omega, by go_num, hbm, HJ.out⟩, by simp [intOf]; omega⟩
      · have ht : tells m k = true := by rw [HT.out, h2]; rfl
        have hand : bits BinOp.and IntKind.u8 (v : Int) 1 = 1 := by rw [hand0, h2]; rfl
        obtain ⟨fn, tmps, assign, body, hy', hR⟩ := hY (uptoF n m k) ⟨k, hlt⟩ wr hJs (uptoF_len n m k hlt ht)
        have HU : Hid (uptoF n m (k + 1) = uptoF n m k ++ [⟨k, hlt⟩]) := uptoF_hit n m k hlt ht
        have HP : Hid (uptoF n m (k + 1) <+: toldF n m) := uptoF_pre n m (k + 1)
        dsimp only at hy'
        clear hand0 h2 HT ht hY hJs
        gi_wp2
        refine hR.mono ?_
        rintro e W3 (⟨rfl, hJ3, hk3⟩ | ⟨rfl, hJx3⟩)
        · have hq3 : W3.cell? ⟨Bm, 0, none⟩ = some (.string m) := (World.cell?_of_block (w := wr) hk3).trans hbm
          have HJ : Hid (J (uptoF n m (k + 1)) W3) := by rw [HU.out]; exact hJ3
          clear hR hJ3 hk3
          gi_wp2
          exact ⟨⟨k + 1, by omega, by go_num, hq3, HJ.out⟩, by simp [intOf]; omega⟩
        · gi_wp2
          refine bodyPost_ret (results_none rfl _ _ _) rfl ?_
          exact ⟨⟨_, rfl⟩, .inr ⟨_, HP.out, by rw [HU.out]; exact hJx3⟩⟩
    · obtain rfl : k = n := by omega
      have kk : ¬ (k : Int) < (k : Int) := by omega
      gi_wp2
      go_end0
      exact ⟨⟨_, rfl⟩, .inl hJs⟩
theorem told_stops (F : Fence) (nf : Nat) (h6 : F.fn 125) (hro : F.round = none) (hnf : 1 ≤ nf) (Bp Bm n : Nat) (m : ByteArray) (hn : n ≤ 128) (hm : m.size = 256) (w : World) (hlp : Bp < w.heap.size) (hlm : Bm < w.heap.size)
    (hp : w.cell? ⟨Bp, 0, none⟩ = some (.int .i64 (n : Int))) (hc : w.cell? ⟨Bm, 0, none⟩ = some (.string m)) :
    SeqStopsK F nf Tryz.prog 125 #[.pointer (some ⟨Bp, 0, none⟩), .pointer (some ⟨Bm, 0, none⟩)] (fun x : Fin n => #[Value.int .i64 (x.1 : Int)]) (fun A B => B.heap[Bm]? = A.heap[Bm]?) (fun ys => ys = toldF n m) (fun pre => pre <+: toldF n m) (toldF n m).length w := fun l J Jx W hW _ _ hY h0 =>
  told1_in F nf h6 hro hnf l Bp Bm n m hn hm J Jx hY W ((hW.cell (p := ⟨Bp, 0, none⟩) hlp).trans hp) ((hW.cell (p := ⟨Bm, 0, none⟩) hlm).trans hc) h0
set_option maxHeartbeats 1000000 in
theorem told_any (m : ByteArray) (n : Nat) (w : World) :
    Calls Tryz.prog 106 #[.string m, .int .i64 (n : Int)] w fun e w' => e = .returned (.func (.func 125) #[] #[.pointer (some ⟨w.heap.size + 1, 0, none⟩), .pointer (some ⟨w.heap.size, 0, none⟩)]) ∧ w' = (w.alloc (.cells #[.string m] 9)).alloc (.cells #[.int .i64 (n : Int)] 3) := by
  go_enter Tryz.func106, Tryz.ntmps106
  go_wp2
  go_ret
  exact ⟨rfl, rfl⟩
/-- The changes of the pages that were told. -/
def recF (n : Nat) (K : List ByteArray) (pre : List (Fin n)) : List Chg := pre.map fun i => (i.1, pageAt K (1 + 4 * i.1))
theorem recF_snoc (n : Nat) (K : List ByteArray) (pre : List (Fin n)) (x : Fin n) : recF n K (pre ++ [x]) = recF n K pre ++ [(x.1, pageAt K (1 + 4 * x.1))] := by simp [recF]
theorem recF_told (n : Nat) (K : List ByteArray) : recF n K (toldF n (at_ K 0)) = recL n K := by
  unfold recF recL toldL
  rw [← toldF_map, List.map_map]
  rfl
theorem KeepsFrom.of_below {B : Nat} {W V : World} (h : Below W.heap.size W V) : KeepsFrom B W V := ⟨h.size, fun k _ _ hk _ => (h.block k (lt_of_some hk)).trans hk⟩
theorem box_below {W V : World} {B : Nat} {t : TypeId} {v : Value} (h : Boxed W B t v) (hb : Below W.heap.size W V) : Boxed V B t v := (hb.block _ h.lt).trans h
/-- A box beside a row that was appended to. -/
theorem box_beside {W w1 : World} {B B' : Nat} {t e : TypeId} {u v v' : Value} {base size k : Nat} {xs : List Value} {tmp : Obj} (h : Boxed W B t u) (hte : t ≠ e) (hrow : W.ownsRow base e size v k xs) (hne : B ≠ B') (hgrow : (W.alloc tmp).grownBy w1 v.ownBlock) : Boxed (w1.setCell ⟨B', 0, none⟩ v') B t u :=
  ((h.alloc tmp).kept hgrow (h.not_row hte hrow)).other hne v'
theorem own_slice {W : World} {base e sz k : Nat} {v : Value} {xs : List Value} (h : W.ownsRow base e sz v k xs) : ∃ a cap, v = .slice a k cap ∧ ∀ x, ob a = some x → base ≤ x := by
  rcases h.2 with ⟨rfl, rfl⟩ | ⟨g, cap, _, rfl, hb, _⟩
  · exact ⟨none, 0, rfl, fun x hx => by cases hx⟩
  · exact ⟨_, _, rfl, fun x hx => by cases hx; exact hb⟩
/-- Behind a call on a disk two blocks of the caller's own are turned. -/
theorem Mut.tail {S : Nat → Prop} {w W W6 W7 W8 : World} {g b c : Nat} {D : Dk} (hB : Below w.heap.size w W) (m : Mut S W g D W6) (hS : ∀ x, S x → x < w.heap.size) (hb : w.heap.size ≤ b ∧ b < W.heap.size) (hc : w.heap.size ≤ c ∧ c < W.heap.size) (g1 : W6.grownBy W7 (some b)) (g2 : W7.grownBy W8 (some c)) : Mut S w g D W8 := by
  obtain ⟨S6, hd, hu, hs⟩ := m
  have h7 := hd.keep (w' := W7) (fun x hx => g1.block x (hd.bd x hx) (fun e => by
    cases e
    rcases hs _ hx with h | h
    · have := hS _ h; omega
    · omega))
  refine ⟨S6, h7.keep (w' := W8) (fun x hx => g2.block x (h7.bd x hx) (fun e => by
    cases e
    rcases hs _ hx with h | h
    · have := hS _ h; omega
    · omega)), ?_, fun x hx => (hs x hx).imp id (fun h => Nat.le_trans hB.size h)⟩
  have hu6 : Upd S w W6 := (Upd.of_below hB).trans hu (fun x hx _ => hx)
  exact (hu6.grown g1 (fun k e hk => by cases e; omega)).grown g2 (fun k e hk => by cases e; omega)
theorem grownBy_cell (W : World) (b i : Nat) (v : Value) : W.grownBy (W.setCell ⟨b, i, none⟩ v) (some b) :=
  ⟨rfl, rfl, rfl, (KeepsWalks.setCell W _ v).size, fun k _ hk => Below.heap_setCell _ _ _ k (fun e => hk (by rw [e]))⟩
theorem info57 : (Tryz.prog.info? 32).map (fun i => (i.zero, i.size, i.bytes)) = some (some (.agg #[.int .i64 0, .string ByteArray.empty]), 2, 24) := by kernel_rfl
set_option maxRecDepth 100000 in
set_option maxHeartbeats 4000000 in
theorem restore_any {w : World} {S : Nat → Prop} {jb g n : Nat} {D : Dk} (h : DiskIs w S g D) (hj : Jat w jb g n) (hnj : ¬ S jb) (hn : n ≤ 128) (hkn : 8 * n + 1 ≤ D.kept.length) (hu : D.up = true) (hw : D.waits = []) (hsz : ∀ s ∈ D.kept, s.size = 256) (hwr : D.writes + 4 * n + 2 < 1000000) :
    Calls Tryz.prog 72 #[.pointer (some ⟨jb, 0, none⟩)] w fun e w' => e = .returned (.int .i64 (codeS D (recS n D.kept) : Int)) ∧ Mut S w g (runS D (recS n D.kept)) w' := by
  obtain ⟨i0, hi, hz0, hz1, hz2⟩ := info_parts info57
  have hseen : D.seen = D.kept := by unfold Dk.seen; rw [hw]; rfl
  obtain ⟨m, hmk⟩ : ∃ m, at_ D.kept 0 = m := ⟨_, rfl⟩
  have hms : m.size = 256 := by
    rw [← hmk]
    exact hsz _ (by unfold at_; rw [List.getD_eq_getElem?_getD, List.getElem?_eq_getElem (by omega)]; exact List.getElem_mem _)
  obtain ⟨W1, hW1⟩ : ∃ W1, w.alloc (.cells #[.pointer (some ⟨jb, 0, none⟩)] 24) = W1 := ⟨_, rfl⟩
  obtain ⟨W2, hW2⟩ : ∃ W2, W1.alloc (.cells #[.int .i64 0] 29) = W2 := ⟨_, rfl⟩
  have hB2 : Below w.heap.size w W2 := by rw [← hW2, ← hW1]; exact ((Below.refl _ w).alloc (Nat.le_refl _) _).alloc (by simp) _
  have hs1 : W1.heap.size = w.heap.size + 1 := by rw [← hW1]; simp
  have hs2 : W2.heap.size = w.heap.size + 2 := by rw [← hW2]; simp [hs1]
  have bJ : Boxed W2 w.heap.size 24 (.pointer (some ⟨jb, 0, none⟩)) := by rw [← hW2, ← hW1]; exact (Boxed.new w 24 _).alloc _
  have bR : Boxed W2 (w.heap.size + 1) 29 (.int .i64 0) := by rw [← hW2, ← hs1]; exact Boxed.new W1 29 _
  have cJ := bJ.cell
  obtain ⟨cd, cn⟩ := (hj.below hB2).cells
  have HRD := read_any (h.below hB2) 0 hu (by omega)
  rw [hseen, show D.kept.getD 0 ByteArray.empty = m from hmk] at HRD
  obtain ⟨W3, hW3⟩ : ∃ W3, W2.alloc (.cells #[.slice none 0 0] 33) = W3 := ⟨_, rfl⟩
  have hB3 : Below w.heap.size w W3 := by rw [← hW3]; exact hB2.alloc hB2.size _
  have hs3 : W3.heap.size = w.heap.size + 3 := by rw [← hW3]; simp [hs2]
  have bJ3 : Boxed W3 w.heap.size 24 (.pointer (some ⟨jb, 0, none⟩)) := by rw [← hW3]; exact bJ.alloc _
  have bR3 : Boxed W3 (w.heap.size + 1) 29 (.int .i64 0) := by rw [← hW3]; exact bR.alloc _
  have bL3 : Boxed W3 (w.heap.size + 2) 33 (.slice none 0 0) := by rw [← hW3, ← hs2]; exact Boxed.new W2 33 _
  obtain ⟨_, cn3⟩ := (hj.below hB3).cells
  have cJ3 := bJ3.cell
  have HTO := told_any m n W3
  obtain ⟨W4, hW4⟩ : ∃ W4, W3.alloc (.cells #[.string m] 9) = W4 := ⟨_, rfl⟩
  obtain ⟨W5, hW5⟩ : ∃ W5, W4.alloc (.cells #[.int .i64 (n : Int)] 3) = W5 := ⟨_, rfl⟩
  rw [hW4, hW5, hs3, show w.heap.size + 3 + 1 = w.heap.size + 4 by omega] at HTO
  have hs4 : W4.heap.size = w.heap.size + 4 := by rw [← hW4]; simp [hs3]
  have hs5 : W5.heap.size = w.heap.size + 5 := by rw [← hW5]; simp [hs4]
  have hB5 : Below w.heap.size w W5 := by
    rw [← hW5, ← hW4]
    exact (hB3.alloc hB3.size _).alloc (by simp; omega) _
  have bJ5 : Boxed W5 w.heap.size 24 (.pointer (some ⟨jb, 0, none⟩)) := by rw [← hW5, ← hW4]; exact (bJ3.alloc _).alloc _
  have bR5 : Boxed W5 (w.heap.size + 1) 29 (.int .i64 0) := by rw [← hW5, ← hW4]; exact (bR3.alloc _).alloc _
  have bL5 : Boxed W5 (w.heap.size + 2) 33 (.slice none 0 0) := by rw [← hW5, ← hW4]; exact (bL3.alloc _).alloc _
  have bM5 : Boxed W5 (w.heap.size + 3) 9 (.string m) := by rw [← hW5, ← hW4, ← hs3]; exact (Boxed.new W3 9 _).alloc _
  have bP5 : Boxed W5 (w.heap.size + 4) 3 (.int .i64 (n : Int)) := by rw [← hs4, ← hW5]; exact Boxed.new W4 3 _
  have hkt : ∀ {A B C : World}, B.heap[w.heap.size + 3]? = A.heap[w.heap.size + 3]? → C.heap[w.heap.size + 3]? = B.heap[w.heap.size + 3]? → C.heap[w.heap.size + 3]? = A.heap[w.heap.size + 3]? := fun h k => k.trans h
  have HH : Hid (DiskIs w S g D) := h
  have HJ : Hid (Jat w jb g n) := hj
  have HSZ : Hid (∀ s ∈ D.kept, s.size = 256) := hsz
  clear h hj hsz
  refine (callsIn_wide (n := 6)).1 ?_
  refine callsIn_of_wp_marks Tryz.func72 rfl trivial ?_ rfl
  simp only [Tryz.ntmps72, List.size_toArray, List.length_cons, List.length_nil, Nat.reduceAdd, Nat.reduceSub, Array.replicate_succ, Array.replicate_zero, List.push_toArray, List.append_toArray, List.nil_append, List.cons_append]
  gi_wp2_with (refine ⟨trivial, ?_⟩; gi_at_call 105; refine (callsIn_wide.2 HRD).mono ?_; rintro e V1 ⟨rfl, hV⟩; subst V1)
  refine ⟨trivial, ?_⟩
  refine (callsIn_wide.2 HTO).mono ?_
  rintro e V1 ⟨rfl, hV⟩
  subst V1
  gi_wp2
  refine wpIn_rangeFunc_ownG rfl (by omega) (gf := 125) (lb := #[.pointer (some ⟨w.heap.size + 4, 0, none⟩), .pointer (some ⟨w.heap.size + 3, 0, none⟩)]) rfl trivial (enters_of Tryz.func125 (by kernel_rfl) rfl)
    (told_stops Fence.wide _ trivial rfl (by omega) (w.heap.size + 4) (w.heap.size + 3) n m hn hms W5 (by omega) (by omega) bP5.cell bM5.cell) hkt (fun W l o o' hl ho _ _ => by
      have := lt_of_some ho
      exact (grownBy_putObj' W l o').block _ (by omega) (fun e => by cases e; omega)) (Below.refl _ _) (fun _ => rfl)
    (fun pre W => Boxed W w.heap.size 24 (.pointer (some ⟨jb, 0, none⟩)) ∧ Boxed W (w.heap.size + 1) 29 (.int .i64 0) ∧ Boxed W (w.heap.size + 3) 9 (.string m) ∧ (∃ v, Boxed W (w.heap.size + 2) 33 v ∧ W.ownsRow w.heap.size 32 2 v (recF n D.kept pre).length (chsV (recF n D.kept pre)) ∧ True) ∧ Below w.heap.size w W)
    (fun _ _ _ => False)
    (OwnFrom.and (Own.from (boxed_own _ _ _) _) (OwnFrom.and (Own.from (boxed_own _ _ _) _) (OwnFrom.and (Own.from (boxed_own _ _ _) _) (OwnFrom.and (Own.from (holdsRow_own w.heap.size (w.heap.size + 2) 33 32 2 (fun pre => (recF n D.kept pre).length) (fun pre => chsV (recF n D.kept pre)) (fun _ _ => True)) _) (ownFrom_below (Nat.le_refl _) (by omega))))))
    (fun _ _ _ _ _ hs _ _ => hs)
    ⟨bJ5, bR5, bM5, ⟨_, bL5, World.ownsRow_nil _ _ _ _, trivial⟩, hB5⟩
    ?a1 ?assign ?body ?done ?stop
  case assign =>
    intro l x W K hK
    gi_wp2
    exact hK
  case body =>
    rintro l pre x W ⟨bJ, bR, bM, ⟨v, hv, hrow, _⟩, hB⟩ hlt
    have hxn := x.2
    have hpl : pre.length < n := Nat.lt_of_lt_of_le hlt (by
      have := congrArg List.length (toldF_map n m)
      rw [List.length_map] at this
      rw [this]
      exact Nat.le_trans (List.length_filter_le _ _) (by simp))
    have hrl : (recF n D.kept pre).length = pre.length := by simp [recF]
    have HLD := load_any (HH.out.below hB) (HJ.out.below hB) (1 + 4 * x.1) hu (by omega) (fun j hj => HSZ.out _ (by
      rw [hseen]
      unfold at_
      rw [List.getD_eq_getElem?_getD, List.getElem?_eq_getElem (by omega)]
      exact List.getElem_mem _))
    rw [hseen] at HLD
    obtain ⟨y, hy⟩ : ∃ y, x.1 = y := ⟨_, rfl⟩
    have HRS : Hid (recF n D.kept (pre ++ [x]) = recF n D.kept pre ++ [(y, pageAt D.kept (1 + 4 * y))]) := by rw [← hy]; exact recF_snoc _ _ _ _
    rw [hy] at HLD hxn
    obtain ⟨T, hT⟩ : ∃ T, pageAt D.kept (1 + 4 * y) = T := ⟨_, rfl⟩
    rw [hT] at HRS HLD
    rw [show ((1 + 4 * y : Nat) : Int) = 1 + 4 * (y : Int) by omega] at HLD
    have cJ := bJ.cell
    clear hT
    gi_wp2_with fail
    refine ⟨trivial, ?_⟩
    refine (CallsIn.inRound l (callsIn_wide.2 HLD)).mono ?_
    rintro e V1 ⟨rfl, hb1⟩
    have hv1 : Boxed V1 (w.heap.size + 2) 33 v := (hb1.block _ hv.lt).trans hv
    have hc1 := hv1.cell
    have hrow1 := own_keep (W' := V1) hrow (fun k hk => hb1.block k (hrow.lt k hk).2)
    have hB1 : Below w.heap.size w V1 := hB.trans (hb1.mono hB.size)
    have hWs : W.heap.size ≤ V1.heap.size := hb1.size
    clear HLD
    gi_wp2_with (gi_at_builtin; refine wpListIn_append_own _ rfl _ _ 33 rfl w.heap.size 32 i0 (.agg #[.int .i64 0, .string ByteArray.empty]) 2 24 Tryz.underlying33 hi hz0 hz1 hz2 rfl (by decide) _ _ _ rfl (hrow1.alloc _) ⟨V1.heap.size, 0, none⟩ 1 1 [.int .i64 (y : Int), .string T] rfl rfl (World.news_of_block (heap_alloc_new V1 _)) (by simp [Value.oneCell']) (by unfold maxLen; omega) (by omega) (by have := hB1.size; simp; omega) ?_; intro v' w1 hown' hgrow _; obtain ⟨g', cap', rfl⟩ := ownsRow_succ hown'; obtain ⟨hv3, hv2, hr2, hk2, hb2⟩ := hv1.appended (by decide) hrow1 hB1.size (by omega) hown' hgrow; have hc3 := hv3.cell; have hf3 := hv3.frozen)
    rw [hrl] at hk2 hb2 hv2 hr2
    have bM1 := box_beside (h := box_below bM hb1) (B' := w.heap.size + 2) (v' := .slice (some ⟨g', 0, none⟩) (pre.length + 1) cap') (by decide) hrow1 (by omega) hgrow
    refine ⟨(KeepsFrom.of_below hb1).trans (hk2.from _), ?_, box_beside (box_below bJ hb1) (by decide) hrow1 (by omega) hgrow, box_beside (box_below bR hb1) (by decide) hrow1 (by omega) hgrow, bM1, ⟨_, hv2, ?_, trivial⟩, hB1.trans hb2⟩
    · exact bM1.trans bM.symm
    · rw [HRS.out, List.length_append, hrl, chsV_snoc]
      exact hr2
  case done =>
    rintro E ys W hE rfl ⟨bJ, bR, bM, ⟨v, hv, hrow, _⟩, hB⟩ hK
    obtain ⟨a, cap, rfl, hab⟩ := own_slice hrow
    have hEl := lt_of_some hK
    have hSw := HH.out.bd
    have hrl : recF n D.kept (toldF n m) = recL n D.kept := by rw [← hmk]; exact recF_told n D.kept
    rw [hrl] at hrow
    have hc := hv.cell
    rw [hrl] at hc
    have hcJ := bJ.cell
    have hcR := bR.cell
    have hfR := bR.frozen
    obtain ⟨k, hk⟩ : ∃ k, (recL n D.kept).length = k := ⟨_, rfl⟩
    have hkl : k = (toldL n D.kept).length := by rw [← hk]; simp [recL]
    have hkn' : k ≤ n := by
      rw [hkl]
      unfold toldL
      exact Nat.le_trans (List.length_filter_le _ _) (by simp)
    rw [hk] at hc hrow
    by_cases h0 : k = 0
    · have hnil : toldL n D.kept = [] := List.eq_nil_of_length_eq_zero (by omega)
      have HE : Hid (codeS D (recS n D.kept) = 0 ∧ runS D (recS n D.kept) = D) := by
        unfold recS
        rw [if_pos hnil]
        exact ⟨rfl, rfl⟩
      subst h0
      clear hrl hkl hk hnil
      gi_wp2
      have hK' := (KeepsOthers.setCell W ⟨w.heap.size + 1, 0, none⟩ (.int .i64 0)).same E _ hK rfl
      refine ⟨by simp, .inl ⟨_, _, rfl, run_takeDeferred hK', ?_⟩⟩
      have hc5 := cell_kept (World.cell?_setCell_same' W ⟨w.heap.size + 1, 0, none⟩ (.int .i64 0) (by rw [hcR]; rfl)) (grownBy_putObj' _ E (.deferred none)) (fun r e => by cases e; exact ⟨_, hK', rfl⟩)
      refine ⟨.int .i64 0, ?_, by rw [HE.out.1]; rfl, ?_⟩
      · simp [results, Tryz.f72, go_sem, hc5]
      · rw [HE.out.2]
        exact Mut.tail hB (Mut.same (HH.out.below hB)) hSw ⟨by omega, bR.lt⟩ ⟨by omega, hEl⟩ (grownBy_cell W _ _ _) (grownBy_putObj' _ E _)
    · have HE : Hid (codeS D (recS n D.kept) = codeS D (finS n (recL n D.kept)) ∧ runS D (recS n D.kept) = runS D (finS n (recL n D.kept))) := by
        unfold recS
        rw [if_neg (fun e => h0 (by rw [hkl, e]; rfl))]
        exact ⟨rfl, rfl⟩
      have HFI := finish_any (HH.out.below hB) (HJ.out.below hB) hnj hn hkn a k cap (recL n D.kept) (Cs.own hrow hk) (fun x hx hs => by have := hab x hx; have := hSw x hs; omega) (fun c hc => by
        unfold recL at hc
        obtain ⟨i, hi, rfl⟩ := List.mem_map.1 hc
        have hin : i < n := by
          unfold toldL at hi
          have := (List.mem_filter.1 hi).1
          simpa using this
        have hs4 : ∀ j, j < 4 → (at_ D.kept (1 + 4 * i + j)).size = 256 := fun j hj => HSZ.out _ (by
          unfold at_
          rw [List.getD_eq_getElem?_getD, List.getElem?_eq_getElem (by omega)]
          exact List.getElem_mem _)
        show (pageAt D.kept (1 + 4 * i)).size = 1024
        rw [← preAt_four]
        exact preAt_size _ _ 4 hs4) (fun c hc => by
        unfold recL at hc
        obtain ⟨i, hi, rfl⟩ := List.mem_map.1 hc
        unfold toldL at hi
        have := (List.mem_filter.1 hi).1
        simpa using this) (by omega) (by omega)
      clear hrl hkl hk
      gi_wp2_with fail
      refine ⟨trivial, ?_⟩
      refine (callsIn_wide.2 HFI).mono ?_
      rintro e W6 ⟨rfl, hm6⟩
      have hnR : ¬ S (w.heap.size + 1) := fun h => by have := hSw _ h; omega
      have hnE : ¬ S E := fun h => by have := hSw _ h; omega
      have bR6 : Boxed W6 (w.heap.size + 1) 29 (.int .i64 0) := (hm6.block bR.lt hnR).trans bR
      have hcR6 := bR6.cell
      have hfR6 := bR6.frozen
      have hK6 : W6.heap[E]? = some (.deferred (some [])) := (hm6.block hEl hnE).trans hK
      obtain ⟨cc, hcc⟩ : ∃ cc, codeS D (finS n (recL n D.kept)) = cc := ⟨_, rfl⟩
      rw [hcc] at HE
      rw [hcc]
      clear HFI hcc
      gi_wp2
      have hK' := (KeepsOthers.setCell W6 ⟨w.heap.size + 1, 0, none⟩ (.int .i64 (cc : Int))).same E _ hK6 rfl
      refine ⟨by simp, .inl ⟨_, _, rfl, run_takeDeferred hK', ?_⟩⟩
      have hc5 := cell_kept (World.cell?_setCell_same' W6 ⟨w.heap.size + 1, 0, none⟩ (.int .i64 (cc : Int)) (by rw [hcR6]; rfl)) (grownBy_putObj' _ E (.deferred none)) (fun r e => by cases e; exact ⟨_, hK', rfl⟩)
      refine ⟨.int .i64 (cc : Int), ?_, by rw [HE.out.1], ?_⟩
      · simp [results, Tryz.f72, go_sem, hc5]
      · rw [HE.out.2]
        exact Mut.tail hB hm6 hSw ⟨by omega, bR.lt⟩ ⟨by omega, hEl⟩ (grownBy_cell W6 _ _ _) (grownBy_putObj' _ E _)
  case stop =>
    rintro D c pre W _ _ h _
    exact h.elim
end Go.Proofs.YtdgffocmdkadpaaGreat
