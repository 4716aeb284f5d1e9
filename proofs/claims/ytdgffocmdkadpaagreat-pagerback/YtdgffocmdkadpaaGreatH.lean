/- Walks over a Disk's Flush and Fail. Walks over strings.Clone, slices.Clone, slices.Repeat. Walk over slices.Repeat of one string. -/
import Derived.Test.YtdgffocmdkadpaaGreatE
import Derived.Shelf.Abstract
import Derived.Test.YtdgffocmdkadpaaGreatShelf
import Derived.Laws.CopyRow
import Derived.Lib.SliceRun
namespace Go.Proofs.YtdgffocmdkadpaaGreat
open Go.RowKit Go.Shelf
set_option maxHeartbeats 400000 in
theorem flush_nil (w : World) : Calls Tryz.prog 94 #[.pointer none] w fun e w' => e = .returned (.int .i64 1) ∧ w' = w := by
  have H := off_nil w
  go_enter Tryz.func94, Tryz.ntmps94
  go_wp2_with fail
  refine H.mono ?_
  rintro e w' ⟨rfl, rfl⟩
  go_wp2
  go_ret
  exact ⟨rfl, rfl⟩
set_option maxHeartbeats 400000 in
theorem flush_down {S : Nat → Prop} {g : Nat} {D : Dk} {w : World} (h : DiskIs w S g D) (hu : D.up = false) : Calls Tryz.prog 94 #[.pointer (some ⟨g, 0, none⟩)] w fun e w' => e = .returned (.int .i64 10) ∧ w' = w := by
  have H := off_any h
  unfold Dk.off at H
  rw [hu] at H
  clear h
  go_enter Tryz.func94, Tryz.ntmps94
  go_wp2_with fail
  refine H.mono ?_
  rintro e w' ⟨rfl, rfl⟩
  go_wp2
  go_ret
  exact ⟨rfl, rfl⟩
set_option maxHeartbeats 400000 in
theorem flush_any {S : Nat → Prop} {g : Nat} {D : Dk} {w : World} (h : DiskIs w S g D) (hu : D.up = true) : Calls Tryz.prog 94 #[.pointer (some ⟨g, 0, none⟩)] w fun e w' => e = .returned (.int .i64 0) ∧ DiskIs w' S g (D.settled fun _ => true) ∧ Upd S w w' := by
  have H := off_any h
  unfold Dk.off at H
  rw [hu] at H
  obtain ⟨kb, kc, sb, sc, wa, wc, h⟩ := h
  have HS := settle_any 121 #[] (fun _ => true) h (enters_of Tryz.func121 (by kernel_rfl) rfl) (fun i _ W _ => all_any i W)
  clear h
  go_enter Tryz.func94, Tryz.ntmps94
  go_wp2_with fail
  refine H.mono ?_
  rintro e w1 ⟨rfl, hw1⟩
  subst w1
  go_wp2_with fail
  refine HS.mono ?_
  rintro e w' ⟨rfl, h1, h2⟩
  have HL : Hid (Lies w' S g kb kc sb sc none 0 (D.settled fun _ => true)) := h1
  have HU : Hid (Upd S w w') := h2
  clear h1 h2
  go_wp2
  go_ret
  exact ⟨rfl, ⟨_, _, _, _, _, _, HL.out⟩, HU.out⟩
set_option maxHeartbeats 400000 in
theorem fail_nil (a : Option Addr) (n c : Nat) (w : World) : Calls Tryz.prog 20 #[.pointer none, .slice a n c] w fun e w' => e = .returned (.tuple #[]) ∧ Below w.heap.size w w' := by
  go_enter Tryz.func20, Tryz.ntmps20
  go_wp2
  refine bodyPost_ret (v := .tuple #[]) ?_ rfl ⟨rfl, (Below.refl _ w).alloc (Nat.le_refl _) _⟩
  simp [results, go_sem]
set_option maxHeartbeats 400000 in
theorem fail_any {S : Nat → Prop} {g : Nat} {D : Dk} {w : World} (h : DiskIs w S g D) (a : Option Addr) (len cap : Nat) (bs : List Bool) (hb : Bls w a len cap bs) (hS : ∀ x, ob a = some x → ¬ S x) :
    Calls Tryz.prog 20 #[.pointer (some ⟨g, 0, none⟩), .slice a len cap] w fun e w' => e = .returned (.tuple #[]) ∧ DiskIs w' S g (D.failed (pickOf bs)) ∧ Upd S w w' := by
  have hbd := h.bd
  have h1 : DiskIs (w.alloc (.cells #[.slice a len cap] 37)) S g D := h.below ((Below.refl _ w).alloc (Nat.le_refl _) _)
  obtain ⟨kb, kc, sb, sc, wa, wc, h1⟩ := h1
  have hbox : (w.alloc (.cells #[.slice a len cap] 37)).cell? ⟨w.heap.size, 0, none⟩ = some (.slice a len cap) := by
    rw [cell_of_row _ w.heap.size _ _ _ _ (heap_alloc_new w _)]; rfl
  have hb1 : Bls (w.alloc (.cells #[.slice a len cap] 37)) a len cap bs := hb.below ((Below.refl _ w).alloc (Nat.le_refl _) _)
  have hnS : ¬ S w.heap.size := fun s => by have := hbd _ s; omega
  have HS := settle_any 69 #[.pointer (some ⟨w.heap.size, 0, none⟩)] (pickOf bs) h1 (enters_of Tryz.func69 (by kernel_rfl) rfl) (fun i _ W hW => by
    refine pick_any i w.heap.size a len cap bs W ?_ ?_
    · rw [World.cell?_of_block (w := w.alloc (.cells #[.slice a len cap] 37)) (hW.block w.heap.size (by simp) hnS)]
      exact hbox
    · exact hb1.keep fun x hx hlt => hW.block x hlt (hS x hx))
  have HU0 : Hid (Upd S w (w.alloc (.cells #[.slice a len cap] 37))) := (Upd.refl S w).alloc _
  clear h h1 hbox hb1 hb hS hnS
  go_enter Tryz.func20, Tryz.ntmps20
  go_wp2_with fail
  refine HS.mono ?_
  rintro e w' ⟨rfl, h1, h2⟩
  obtain ⟨c0, c1, c2, c3, c4, c5⟩ := h1.cells
  have f4 := h1.fro 4
  have f5 := h1.fro 5
  have HL : Hid (Lies ((w'.setCell ⟨g, 4, none⟩ (.int .i64 0)).setCell ⟨g, 5, none⟩ (.bool false)) S g kb kc sb sc none 0 (D.failed (pickOf bs))) := by
    refine h1.turn _ rfl rfl ?_ ?_ ?_
    · exact ⟨h1.ok.n1, h1.ok.n2, h1.ok.at_, by simp [Dk.failed], h1.ok.ww, h1.ok.wr⟩
    · rw [heap_setCell_same _ g 5 _ _ _ (heap_setCell_same w' g 4 _ _ _ h1.c)]
      rfl
    · intro x hx
      rw [heap_setCell_other _ _ _ _ hx, heap_setCell_other _ _ _ _ hx]
  have HU : Hid (Upd S w ((w'.setCell ⟨g, 4, none⟩ (.int .i64 0)).setCell ⟨g, 5, none⟩ (.bool false))) := ((HU0.out.trans h2 (fun _ h _ => h)).setCell (fun _ => h1.Sg) _).setCell (fun _ => h1.Sg) _
  clear h1 h2 HS HU0
  go_wp2
  refine bodyPost_end (v := .tuple #[]) ?_ rfl ⟨rfl, ⟨_, _, _, _, _, _, HL.out⟩, HU.out⟩
  simp [results, go_sem]
end Go.Proofs.YtdgffocmdkadpaaGreat
namespace Go.Proofs.YtdgffocmdkadpaaGreat
open Go.RowKit Go.Shelf
set_option maxHeartbeats 400000 in
theorem sclone_any (s : ByteArray) (w : World) (hs : s.size ≤ 1000000) : Calls Tryz.prog 84 #[.string s] w fun e w' => e = .returned (.string s) ∧ Below w.heap.size w w' := by
  have H := Tryz.stringslite_Clone s w (by omega)
  go_enter Tryz.func84, Tryz.ntmps84
  go_wp2_with fail
  refine H.mono ?_
  rintro e w' ⟨rfl, hb⟩
  go_wp2
  go_ret
  exact ⟨rfl, hb⟩
theorem info9 : (Tryz.prog.info? 9).map (fun i => (i.zero, i.size, i.bytes)) = some (some (.string ByteArray.empty), 1, 16) := by kernel_rfl
theorem info67 : (Tryz.prog.info? 143).map (fun i => (i.zero, i.size, i.bytes)) = some (some (.agg #[.int .i64 0, .string ByteArray.empty]), 2, 24) := by kernel_rfl
theorem own_some {W : World} {base e sz n : Nat} {v : Value} {xs : List Value} (h : W.ownsRow base e sz v n xs) (hv : v ≠ .slice none 0 0) : ∃ g cap, v = .slice (some ⟨g, 0, none⟩) n cap ∧ base ≤ g ∧ g < W.heap.size := by
  rcases h.2 with ⟨h2, _⟩ | ⟨g', cap', cur, rfl, hb, hr, _⟩
  · exact absurd h2 hv
  · exact ⟨g', cap', rfl, hb, lt_of_some hr⟩
set_option maxHeartbeats 1000000 in
theorem cloneS_any (b n c : Nat) (l : List ByteArray) (w : World) (h : w.ownsRow 0 9 1 (.slice (some ⟨b, 0, none⟩) n c) n (strsV l)) (hn : n ≤ 1000000) :
    Calls Tryz.prog 87 #[.slice (some ⟨b, 0, none⟩) n c] w fun e w' => ∃ g cap, e = .returned (.slice (some ⟨g, 0, none⟩) n cap) ∧ w.heap.size ≤ g ∧ w'.ownsRow 0 9 1 (.slice (some ⟨g, 0, none⟩) n cap) n (strsV l) ∧ Below w.heap.size w w' := by
  obtain ⟨i0, hi, hz0, hz1, hz2⟩ := info_parts info9
  have q22 : ∀ (w : World) (a : Option Addr) (n c n' c' : Nat), (binOp .eql 38 (.slice a n c) (.slice none n' c')).run Tryz.prog w = .ok (.bool a.isNone) w := fun w a n c n' c' => Lib.run_eql_slice_nil w _ _ a n c n' c' Tryz.underlying38
  have A : Hid (w.ownsRow 0 9 1 (.slice (some ⟨b, 0, none⟩) n c) n (strsV l)) := h
  clear h
  go_enter Tryz.func87, Tryz.ntmps87
  go_wp2_with (at_builtin; refine wpList_append_own _ rfl _ _ 38 rfl w.heap.size 9 i0 (.string ByteArray.empty) 1 16 Tryz.underlying38 hi hz0 hz1 hz2 rfl (by decide) _ _ _ rfl (World.ownsRow_made w #[] 0 (Nat.le_refl _) (Nat.zero_le _) (by simp)) ⟨b, 0, none⟩ n c (strsV l) rfl ?qc1 ?qc2 ?qc3 ?qc4 ?qc5 ?qc6 ?_)
  case qc1 => exact A.out.1
  case qc2 =>
    intro j u hj
    rw [add_at, Nat.zero_add]
    exact Lib.cell?_alloc_some _ (own_at A.out hj)
  case qc3 => exact strsV_one l
  case qc4 => unfold maxLen; omega
  case qc5 => omega
  case qc6 => simp
  intro v' w1 hown hgrow hnil
  have hne : v' ≠ .slice none 0 0 := hnil
  have hb1 : Below w.heap.size w w1 := ((Below.refl _ w).alloc (Nat.le_refl _) _).grown hgrow (by simp) (by intro k hk; simp [Value.ownBlock] at hk; omega)
  try simp only [Nat.zero_add, List.nil_append] at hown
  obtain ⟨g, cap, rfl, hg, _⟩ := own_some hown hne
  have HO : Hid (w1.ownsRow w.heap.size 9 1 (.slice (some ⟨g, 0, none⟩) n cap) n (strsV l)) := hown
  clear hown hgrow hnil hne
  go_wp2
  go_ret
  exact ⟨g, cap, rfl, hg, own_base HO.out (Nat.zero_le _), hb1⟩
end Go.Proofs.YtdgffocmdkadpaaGreat
namespace Go.Proofs.YtdgffocmdkadpaaGreat
open Go.RowKit Go.Shelf
theorem wrapI (x : Int) (h1 : -9223372036854775808 ≤ x) (h2 : x ≤ 9223372036854775807) : IntKind.i64.wrap x = x := by
  rw [IntKind.wrap_i64]
  omega
def rowV (z : ByteArray) (m n : Nat) : Array Value := (List.replicate m (Value.string z) ++ List.replicate (n - m) (Value.string ByteArray.empty)).toArray
theorem rowV_size (z : ByteArray) (m n : Nat) (h : m ≤ n) : (rowV z m n).size = n := by simp [rowV]; omega
theorem rowV_made (z : ByteArray) (n : Nat) : madeCells #[Value.string ByteArray.empty] n = rowV z 0 n := by
  apply Array.ext
  · simp [madeCells, rowV]
  · intro i h1 h2
    simp [madeCells, rowV, Nat.mod_one]
theorem rowV_get (z : ByteArray) (m n j : Nat) (h : j < m) : (rowV z m n)[j]? = some (.string z) := by
  simp only [rowV, List.getElem?_toArray]
  rw [List.getElem?_append_left (by simpa using h), List.getElem?_replicate, if_pos h]
theorem rowV_step (z : ByteArray) (m c n : Nat) (_h : m + c ≤ n) : ((rowV z m n).toList.take m ++ List.replicate c (Value.string z) ++ (rowV z m n).toList.drop (m + c)).toArray = rowV z (m + c) n := by
  simp only [rowV]
  congr 1
  rw [List.take_append_of_le_length (by simp), List.take_of_length_le (by simp), List.drop_append, List.drop_eq_nil_of_le (by simp), List.nil_append, List.length_replicate, show m + c - m = c by omega, List.drop_replicate, List.replicate_append_replicate, show n - m - c = n - (m + c) by omega]
theorem below_row {B : Nat} {a w : World} (h : Below B a w) (g : Nat) (hg : B ≤ g) (cs : Array Value) : Below B a (w.setRow g cs) :=
  ⟨h.os, h.tape, h.output, by rw [size_setRow]; exact h.size, fun k hk => by rw [setRow_other w g k cs (by omega)]; exact h.block k hk⟩
theorem sl_from (bb n m : Nat) (hm : m < n) (W : World) : (Instr.sliceAt 38 (.slice (some ⟨bb, 0, none⟩) n n) (some (.int .i64 (m : Int))) none none).run Tryz.prog W = .ok (.slice (some ⟨bb, m, none⟩) (n - m) (n - m)) W := by
  have h1 : (sizeOf 9).run Tryz.prog W = .ok 1 W := by kernel_rfl
  have e : (⟨bb, 0, none⟩ : Addr).add m = ⟨bb, m, none⟩ := by rw [add_at, Nat.zero_add]
  have e2 : ¬ n = m := by omega
  have e3 : m ≤ n := by omega
  simp [Instr.sliceAt, Instr.slice, run_underlying Tryz.underlying38, Instr.sliceBounds, Instr.sliceBound, asIntOf, h1, e, e2, e3]
theorem sl_to (bb n m : Nat) (hm : m ≤ n) (W : World) : (Instr.sliceAt 38 (.slice (some ⟨bb, 0, none⟩) n n) none (some (.int .i64 (m : Int))) none).run Tryz.prog W = .ok (.slice (some ⟨bb, 0, none⟩) m n) W := by
  have h1 : (sizeOf 9).run Tryz.prog W = .ok 1 W := by kernel_rfl
  have e : (⟨bb, 0, none⟩ : Addr).add 0 = ⟨bb, 0, none⟩ := by rw [add_at]
  simp [Instr.sliceAt, Instr.slice, run_underlying Tryz.underlying38, Instr.sliceBounds, Instr.sliceBound, asIntOf, h1, e, hm]
set_option maxRecDepth 100000 in
set_option maxHeartbeats 1000000 in
theorem repeat_any (b : Nat) (z : ByteArray) (n : Nat) (w : World) (h1 : 1 ≤ n) (h2 : n ≤ 2048) (hc : w.cell? ⟨b, 0, none⟩ = some (.string z)) :
    Calls Tryz.prog 86 #[.slice (some ⟨b, 0, none⟩) 1 1, .int .i64 (n : Int)] w fun e w' => e = .returned (.slice (some ⟨w.heap.size, 0, none⟩) n n) ∧ w'.heap[w.heap.size]? = some (.cells (rowV z n n) 9 (0, 0)) ∧ Below w.heap.size w w' := by
  have HMUL := Tryz.bits_Mul 1 n (by omega) (by omega) w
  rw [show 1 * n / 18446744073709551616 = 0 by omega, show 1 * n % 18446744073709551616 = n by omega] at HMUL
  have k1 : ¬ (n : Int) < 0 := by omega
  have k2 : ¬ (9223372036854775807 : Int) < (n : Int) := by omega
  have hmk : (Instr.makeSlice 38 (.int .i64 (n : Int)) (.int .i64 (n : Int))).run Tryz.prog w = .ok (.slice (some ⟨w.heap.size, 0, none⟩) n n) (w.alloc (.cells (rowV z 0 n) 9)) := by
    have := run_make (P := Tryz.prog) w 38 9 _ (.string ByteArray.empty) Tryz.underlying38 rfl rfl .i64 .i64 (n : Int) (n : Int) (by omega) (by omega) (by show (16 : Int) * _ ≤ _; omega) (by omega)
    rw [this, show (n : Int).toNat = n by omega, ← rowV_made z, show Tryz.prog.types[9].size = 1 from rfl, Nat.mul_one]
    rfl
  have hbl := World.block_lt_of_cell? w _ hc
  have hrow : (w.alloc (.cells (rowV z 0 n) 9)).heap[w.heap.size]? = some (.cells (rowV z 0 n) 9 (0, 0)) := heap_alloc_new w _
  have hcp : (Builtin.copy_ #[38, 38] 3 #[.slice (some ⟨w.heap.size, 0, none⟩) n n, .slice (some ⟨b, 0, none⟩) 1 1]).run Tryz.prog (w.alloc (.cells (rowV z 0 n) 9)) = .ok (.int .i64 1) ((w.alloc (.cells (rowV z 0 n) 9)).setRow w.heap.size (rowV z 1 n)) := by
    have := run_copy_row (P := Tryz.prog) (w.alloc (.cells (rowV z 0 n) 9)) 38 38 3 9 w.heap.size 0 n n ⟨b, 0, none⟩ 1 1 (rowV z 0 n) 9 [.string z] Tryz.underlying38 (by kernel_rfl) hrow (by show 1 = min 1 n; omega) (fun j v hv => by
      match j, hv with
      | 0, hv =>
        simp only [List.getElem?_cons_zero, Option.some.injEq] at hv
        subst hv
        rw [add_at, Below.cell ((Below.refl _ w).alloc (Nat.le_refl _) _) hbl]
        exact hc
      | j + 1, hv => simp at hv) (by rw [rowV_size z 0 n (by omega)]; show 0 + 1 ≤ n; omega) (by simp [Value.oneCell'])
    rw [this]
    have := rowV_step z 0 1 n (by omega)
    simp only [List.replicate_one, Nat.zero_add] at this
    simp only [List.length_singleton, Nat.zero_add]
    rw [this]
    rfl
  have HB0 : Hid (Below w.heap.size w ((w.alloc (.cells (rowV z 0 n) 9)).setRow w.heap.size (rowV z 1 n))) := below_row ((Below.refl _ w).alloc (Nat.le_refl _) _) _ (Nat.le_refl _) _
  have HR0 : Hid (((w.alloc (.cells (rowV z 0 n) 9)).setRow w.heap.size (rowV z 1 n)).heap[w.heap.size]? = some (.cells (rowV z 1 n) 9 (0, 0))) := setRow_heap _ _ _ _ _ _ hrow
  clear hrow
  go_enter Tryz.func86, Tryz.ntmps86
  go_wp2_with fail
  refine HMUL.mono ?_
  rintro e w1 ⟨rfl, hw1⟩
  subst w1
  clear HMUL
  go_wp2
  obtain ⟨W0, hW0⟩ : ∃ W0, (w.alloc (.cells (rowV z 0 n) 9)).setRow w.heap.size (rowV z 1 n) = W0 := ⟨_, rfl⟩
  rw [hW0] at HB0 HR0
  try rw [hW0]
  clear hW0 hcp hmk
  obtain ⟨g, hg⟩ : ∃ g, w.heap.size = g := ⟨_, rfl⟩
  rw [hg] at HB0 HR0
  try rw [hg]
  go_loopw [8] (fun v wr => ∃ m : Nat, 1 ≤ m ∧ m ≤ n ∧ v = .int .i64 m ∧ wr.heap[g]? = some (.cells (rowV z m n) 9 (0, 0)) ∧ Below g w wr) (fun v _ => n - (intOf v).toNat)
  case atStart => exact ⟨1, by omega, by omega, rfl, HR0.out, HB0.out⟩
  case round =>
    clear HR0 HB0
    obtain ⟨m, hm1, hm2, rfl, hrow, hbel⟩ := hrel
    by_cases hlt : m < n
    · have kk : (m : Int) < (n : Int) := by omega
      have HS1 : Hid (∀ W : World, (Instr.sliceAt 38 (.slice (some ⟨g, 0, none⟩) n n) (some (.int .i64 (m : Int))) none none).run Tryz.prog W = .ok (.slice (some ⟨g, m, none⟩) (n - m) (n - m)) W) := fun W => sl_from g n m hlt W
      have HS2 : Hid (∀ W : World, (Instr.sliceAt 38 (.slice (some ⟨g, 0, none⟩) n n) none (some (.int .i64 (m : Int))) none).run Tryz.prog W = .ok (.slice (some ⟨g, 0, none⟩) m n) W) := fun W => sl_to g n m hm2 W
      obtain ⟨c, hcm⟩ : ∃ c, min m (n - m) = c := ⟨_, rfl⟩
      have HC1 : Hid ((Builtin.copy_ #[38, 38] 3 #[.slice (some ⟨g, m, none⟩) (n - m) (n - m), .slice (some ⟨g, 0, none⟩) m n]).run Tryz.prog wr.drew = .ok (.int .i64 (c : Int)) (wr.drew.setRow g (rowV z (m + c) n))) := by
        have := run_copy_row (P := Tryz.prog) wr.drew 38 38 3 9 g m (n - m) (n - m) ⟨g, 0, none⟩ m n (rowV z m n) 9 (List.replicate c (.string z)) Tryz.underlying38 (by kernel_rfl) hrow (by rw [List.length_replicate, ← hcm]) (fun j v hv => by
          have hj : j < c := by
            rcases Nat.lt_or_ge j c with h | h
            · exact h
            · rw [List.getElem?_eq_none (by simpa using h)] at hv; cases hv
          rw [List.getElem?_replicate, if_pos hj] at hv
          rw [add_at, Nat.zero_add, cell_of_row wr.drew g j _ _ _ hrow, rowV_get z m n j (by omega)]
          exact hv) (by rw [rowV_size z m n hm2, List.length_replicate]; omega) (by intro v hv; rw [List.eq_of_mem_replicate hv]; rfl)
        show _ = _
        rw [this]
        have e := rowV_step z m c n (by omega)
        simp only [List.length_replicate]
        rw [e]
        rfl
      have HR2 : Hid ((wr.drew.setRow g (rowV z (m + c) n)).heap[g]? = some (.cells (rowV z (m + c) n) 9 (0, 0))) := setRow_heap _ _ _ _ _ _ hrow
      have HB2 : Hid (Below g w (wr.drew.setRow g (rowV z (m + c) n))) := below_row hbel.drew _ (Nat.le_refl _) _
      have hc1 : 1 ≤ c := by omega
      have hc2 : m + c ≤ n := by omega
      obtain ⟨q, hq⟩ : ∃ q, m + c = q := ⟨_, rfl⟩
      have hwr : IntKind.i64.wrap ((m : Int) + (c : Int)) = (q : Int) := by rw [wrapI _ (by omega) (by omega)]; omega
      rw [hq] at HC1 HR2 HB2 hc2
      clear hrow hbel hcm
      go_wp2
      refine wp_region_held_drew (S := fun _ => True) (by kernel_rfl) (trivial) (fun hHeld => ?_)
      refine wpAnyH_take (i := 0) (v := ?va_0) rfl (by kernel_rfl) (by kernel_rfl) (by kernel_rfl) (fun _ _ _ h => h) (Or.inl ⟨by kernel_rfl, ?ya_0⟩) hHeld ?ra_0
      case ya_0 => (intro W hSW; clear hSW; have hs1 := HS1.out W; have hs2 := HS2.out W; go_simp; (try with_reducible rfl))
      change wpAnyH _ _ _ _ _ _ _ (Act.put _ (some 38) _) _
      simp only [Act.put, List.setIfInBounds_toArray, List.set_cons_zero, List.set_cons_succ]
      refine wpAnyH_take (i := 1) (v := ?va_1) rfl (by kernel_rfl) (by kernel_rfl) (by kernel_rfl) (fun _ _ _ h => h) (Or.inl ⟨by kernel_rfl, ?ya_1⟩) hHeld ?ra_1
      case ya_1 => (intro W hSW; clear hSW; have hs1 := HS1.out W; have hs2 := HS2.out W; go_simp; (try with_reducible rfl))
      change wpAnyH _ _ _ _ _ _ _ (Act.put _ (some 39) _) _
      simp only [Act.put, List.setIfInBounds_toArray, List.set_cons_zero, List.set_cons_succ]
      refine wpAnyH_take (i := 2) (v := ?va_2) rfl (by kernel_rfl) (by kernel_rfl) (by kernel_rfl) (fun _ _ _ h => h) (Or.inl ⟨by kernel_rfl, ?ya_2⟩) hHeld ?ra_2
      case ya_2 => (intro W hSW; clear hSW; have hs1 := HS1.out W; have hs2 := HS2.out W; go_simp; (try with_reducible rfl))
      change wpAnyH _ _ _ _ _ _ _ (Act.put _ (some 40) _) _
      simp only [Act.put, List.setIfInBounds_toArray, List.set_cons_zero, List.set_cons_succ]
      refine wpAnyH_take (i := 3) (v := ?va_3) rfl (by kernel_rfl) (by kernel_rfl) (by kernel_rfl) (fun _ _ _ h => h) (Or.inl ⟨by kernel_rfl, ?ya_3⟩) hHeld ?ra_3
      case ya_3 => (intro W hSW; clear hSW; have hs1 := HS1.out W; have hs2 := HS2.out W; go_simp; (try with_reducible rfl))
      change wpAnyH _ _ _ _ _ _ _ (Act.put _ (some 41) _) _
      simp only [Act.put, List.setIfInBounds_toArray, List.set_cons_zero, List.set_cons_succ]
      refine wpAnyH_take (i := 4) (v := ?va_4) rfl (by kernel_rfl) (by kernel_rfl) (by kernel_rfl) (fun _ _ _ h => h) (Or.inl ⟨by kernel_rfl, ?ya_4⟩) hHeld ?ra_4
      case ya_4 => (intro W hSW; clear hSW; have hs1 := HS1.out W; have hs2 := HS2.out W; go_simp; (try with_reducible rfl))
      change wpAnyH _ _ _ _ _ _ _ (Act.put _ (some 42) _) _
      simp only [Act.put, List.setIfInBounds_toArray, List.set_cons_zero, List.set_cons_succ]
      refine wpAnyH_take (i := 5) (v := ?va_5) rfl (by kernel_rfl) (by kernel_rfl) (by kernel_rfl) (fun _ _ _ h => h) (Or.inl ⟨by kernel_rfl, ?ya_5⟩) hHeld ?ra_5
      case ya_5 => (intro W hSW; clear hSW; have hs1 := HS1.out W; have hs2 := HS2.out W; go_simp; (try with_reducible rfl))
      change wpAnyH _ _ _ _ _ _ _ (Act.put _ (some 43) _) _
      simp only [Act.put, List.setIfInBounds_toArray, List.set_cons_zero, List.set_cons_succ]
      refine wpAnyH_take (i := 6) (v := ?va_6) rfl (by kernel_rfl) (by kernel_rfl) (by kernel_rfl) (fun _ _ _ h => h) (Or.inl ⟨by kernel_rfl, ?ya_6⟩) hHeld ?ra_6
      case ya_6 => (intro W hSW; clear hSW; have hs1 := HS1.out W; have hs2 := HS2.out W; go_simp; (try with_reducible rfl))
      change wpAnyH _ _ _ _ _ _ _ (Act.put _ (some 44) _) _
      simp only [Act.put, List.setIfInBounds_toArray, List.set_cons_zero, List.set_cons_succ]
      have hcp := HC1.out
      refine wpAnyH_ready (rs := [7]) (by kernel_rfl) (by simp) ?_
      refine AllReadyH.cons rfl (fun K hK => ?_) AllReadyH.nil
      go_simp
      refine hK.out _ _ (trivial) (fun hHeld => ?_)
      clear hK K
      refine wpAnyH_take (i := 8) (v := ?va_8) rfl (by kernel_rfl) (by kernel_rfl) (by kernel_rfl) (fun _ _ _ h => h) (Or.inl ⟨by kernel_rfl, ?ya_8⟩) hHeld ?ra_8
      case ya_8 => (intro W hSW; clear hSW; have hs1 := HS1.out W; have hs2 := HS2.out W; go_simp; (try with_reducible rfl))
      change wpAnyH _ _ _ _ _ _ _ (Act.put _ (some 46) _) _
      simp only [Act.put, List.setIfInBounds_toArray, List.set_cons_zero, List.set_cons_succ]
      refine wpAnyH_take (i := 9) (v := ?va_9) rfl (by kernel_rfl) (by kernel_rfl) (by kernel_rfl) (fun _ _ _ h => h) (Or.inl ⟨by kernel_rfl, ?ya_9⟩) hHeld ?ra_9
      case ya_9 => (intro W hSW; clear hSW; have hs1 := HS1.out W; have hs2 := HS2.out W; go_simp; (try with_reducible rfl))
      change wpAnyH _ _ _ _ _ _ _ (Act.put _ (some 8) _) _
      simp only [Act.put, List.setIfInBounds_toArray, List.set_cons_zero, List.set_cons_succ]
      refine wpAnyH_done (by kernel_rfl) ?_ _
      clear hHeld HC1 HS1 HS2 hcp
      go_wp2
      go_roundw
      case rel => exact ⟨q, by omega, by omega, rfl, HR2.out, HB2.out⟩
      case measure => simp [intOf]; omega
    · obtain rfl : m = n := by omega
      have kk : ¬ (m : Int) < (m : Int) := by omega
      have HR2 : Hid (wr.heap[g]? = some (.cells (rowV z m m) 9 (0, 0))) := hrow
      have HB2 : Hid (Below g w wr) := hbel
      clear hrow hbel
      go_wp2
      go_ret
      exact ⟨rfl, HR2.out, HB2.out⟩
end Go.Proofs.YtdgffocmdkadpaaGreat
