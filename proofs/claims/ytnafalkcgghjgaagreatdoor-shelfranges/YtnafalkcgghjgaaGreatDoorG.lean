/- Walks over a Disk's Flush and Fail. Walks over strings.Clone, slices.Clone, slices.Repeat. -/
import Derived.Test.YtnafalkcgghjgaaGreatDoorE
import Derived.Shelf.Abstract
import Derived.Test.YtnafalkcgghjgaaGreatDoorShelf
import Derived.Laws.CopyRow
import Derived.Lib.SliceRun
namespace Go.Proofs.YtnafalkcgghjgaaGreatDoor
open Go.RowKit Go.Shelf
set_option maxHeartbeats 400000 in
theorem flush_nil (w : World) : Calls Tryz.prog 86 #[.pointer none] w fun e w' => e = .returned (.int .i64 1) ∧ w' = w := by
  have H := off_nil w
  go_enter Tryz.func86, Tryz.ntmps86
  go_wp2_with fail
  refine H.mono ?_
  rintro e w' ⟨rfl, rfl⟩
  go_wp2
  go_ret
  exact ⟨rfl, rfl⟩
set_option maxHeartbeats 400000 in
theorem flush_down {S : Nat → Prop} {g : Nat} {D : Dk} {w : World} (h : DiskIs w S g D) (hu : D.up = false) : Calls Tryz.prog 86 #[.pointer (some ⟨g, 0, none⟩)] w fun e w' => e = .returned (.int .i64 10) ∧ w' = w := by
  have H := off_any h
  unfold Dk.off at H
  rw [hu] at H
  clear h
  go_enter Tryz.func86, Tryz.ntmps86
  go_wp2_with fail
  refine H.mono ?_
  rintro e w' ⟨rfl, rfl⟩
  go_wp2
  go_ret
  exact ⟨rfl, rfl⟩
set_option maxHeartbeats 400000 in
theorem flush_any {S : Nat → Prop} {g : Nat} {D : Dk} {w : World} (h : DiskIs w S g D) (hu : D.up = true) : Calls Tryz.prog 86 #[.pointer (some ⟨g, 0, none⟩)] w fun e w' => e = .returned (.int .i64 0) ∧ DiskIs w' S g (D.settled fun _ => true) ∧ Upd S w w' := by
  have H := off_any h
  unfold Dk.off at H
  rw [hu] at H
  obtain ⟨kb, kc, sb, sc, wa, wc, h⟩ := h
  have HS := settle_any 106 #[] (fun _ => true) h (enters_of Tryz.func106 (by kernel_rfl) rfl) (fun i _ W _ => all_any i W)
  clear h
  go_enter Tryz.func86, Tryz.ntmps86
  go_wp2_with fail
  refine H.mono ?_
  rintro e w1 ⟨rfl, hw1⟩
  subst w1
  go_wp2_with fail
  refine HS.mono ?_
  rintro e w' ⟨rfl, h1, h2⟩
  have HL : Hid (Lies w' S g kb kc sb sc none 0 (D.settled fun _ => true)) := h1
  have HU : Hid (Upd S w w') := h2
  clear h1 h2
  go_wp2
  go_ret
  exact ⟨rfl, ⟨_, _, _, _, _, _, HL.out⟩, HU.out⟩
set_option maxHeartbeats 400000 in
theorem fail_nil (a : Option Addr) (n c : Nat) (w : World) : Calls Tryz.prog 29 #[.pointer none, .slice a n c] w fun e w' => e = .returned (.tuple #[]) ∧ Below w.heap.size w w' := by
  go_enter Tryz.func29, Tryz.ntmps29
  go_wp2
  refine bodyPost_ret (v := .tuple #[]) ?_ rfl ⟨rfl, (Below.refl _ w).alloc (Nat.le_refl _) _⟩
  simp [results, go_sem]
set_option maxHeartbeats 400000 in
theorem fail_any {S : Nat → Prop} {g : Nat} {D : Dk} {w : World} (h : DiskIs w S g D) (a : Option Addr) (len cap : Nat) (bs : List Bool) (hb : Bls w a len cap bs) (hS : ∀ x, ob a = some x → ¬ S x) :
    Calls Tryz.prog 29 #[.pointer (some ⟨g, 0, none⟩), .slice a len cap] w fun e w' => e = .returned (.tuple #[]) ∧ DiskIs w' S g (D.failed (pickOf bs)) ∧ Upd S w w' := by
  have hbd := h.bd
  have h1 : DiskIs (w.alloc (.cells #[.slice a len cap] 52)) S g D := h.below ((Below.refl _ w).alloc (Nat.le_refl _) _)
  obtain ⟨kb, kc, sb, sc, wa, wc, h1⟩ := h1
  have hbox : (w.alloc (.cells #[.slice a len cap] 52)).cell? ⟨w.heap.size, 0, none⟩ = some (.slice a len cap) := by
    rw [cell_of_row _ w.heap.size _ _ _ _ (heap_alloc_new w _)]; rfl
  have hb1 : Bls (w.alloc (.cells #[.slice a len cap] 52)) a len cap bs := hb.below ((Below.refl _ w).alloc (Nat.le_refl _) _)
  have hnS : ¬ S w.heap.size := fun s => by have := hbd _ s; omega
  have HS := settle_any 47 #[.pointer (some ⟨w.heap.size, 0, none⟩)] (pickOf bs) h1 (enters_of Tryz.func47 (by kernel_rfl) rfl) (fun i _ W hW => by
    refine pick_any i w.heap.size a len cap bs W ?_ ?_
    · rw [World.cell?_of_block (w := w.alloc (.cells #[.slice a len cap] 52)) (hW.block w.heap.size (by simp) hnS)]
      exact hbox
    · exact hb1.keep fun x hx hlt => hW.block x hlt (hS x hx))
  have HU0 : Hid (Upd S w (w.alloc (.cells #[.slice a len cap] 52))) := (Upd.refl S w).alloc _
  clear h h1 hbox hb1 hb hS hnS
  go_enter Tryz.func29, Tryz.ntmps29
  go_wp2_with fail
  refine HS.mono ?_
  rintro e w' ⟨rfl, h1, h2⟩
  obtain ⟨c0, c1, c2, c3, c4, c5⟩ := h1.cells
  have f4 := h1.fro 4
  have f5 := h1.fro 5
  have HL : Hid (Lies ((w'.setCell ⟨g, 4, none⟩ (.int .i64 0)).setCell ⟨g, 5, none⟩ (.bool false)) S g kb kc sb sc none 0 (D.failed (pickOf bs))) := by
    refine h1.turn _ rfl rfl ?_ ?_ ?_
    · exact ⟨h1.ok.n1, h1.ok.n2, h1.ok.at_, by simp [Dk.failed], h1.ok.ww, h1.ok.wr⟩
    · rw [heap_setCell_same _ g 5 _ _ _ (heap_setCell_same w' g 4 _ _ _ h1.c)]
      rfl
    · intro x hx
      rw [heap_setCell_other _ _ _ _ hx, heap_setCell_other _ _ _ _ hx]
  have HU : Hid (Upd S w ((w'.setCell ⟨g, 4, none⟩ (.int .i64 0)).setCell ⟨g, 5, none⟩ (.bool false))) := ((HU0.out.trans h2 (fun _ h _ => h)).setCell (fun _ => h1.Sg) _).setCell (fun _ => h1.Sg) _
  clear h1 h2 HS HU0
  go_wp2
  refine bodyPost_end (v := .tuple #[]) ?_ rfl ⟨rfl, ⟨_, _, _, _, _, _, HL.out⟩, HU.out⟩
  simp [results, go_sem]
end Go.Proofs.YtnafalkcgghjgaaGreatDoor
namespace Go.Proofs.YtnafalkcgghjgaaGreatDoor
open Go.RowKit Go.Shelf
set_option maxHeartbeats 400000 in
theorem sclone_any (s : ByteArray) (w : World) (hs : s.size ≤ 1000000) : Calls Tryz.prog 60 #[.string s] w fun e w' => e = .returned (.string s) ∧ Below w.heap.size w w' := by
  have H := Tryz.stringslite_Clone s w (by omega)
  go_enter Tryz.func60, Tryz.ntmps60
  go_wp2_with fail
  refine H.mono ?_
  rintro e w' ⟨rfl, hb⟩
  go_wp2
  go_ret
  exact ⟨rfl, hb⟩
theorem info9 : (Tryz.prog.info? 9).map (fun i => (i.zero, i.size, i.bytes)) = some (some (.string ByteArray.empty), 1, 16) := by kernel_rfl
theorem info67 : (Tryz.prog.info? 126).map (fun i => (i.zero, i.size, i.bytes)) = some (some (.agg #[.int .i64 0, .string ByteArray.empty]), 2, 24) := by kernel_rfl
theorem own_some {W : World} {base e sz n : Nat} {v : Value} {xs : List Value} (h : W.ownsRow base e sz v n xs) (hv : v ≠ .slice none 0 0) : ∃ g cap, v = .slice (some ⟨g, 0, none⟩) n cap ∧ base ≤ g ∧ g < W.heap.size := by
  rcases h.2 with ⟨h2, _⟩ | ⟨g', cap', cur, rfl, hb, hr, _⟩
  · exact absurd h2 hv
  · exact ⟨g', cap', rfl, hb, lt_of_some hr⟩
set_option maxHeartbeats 1000000 in
theorem cloneS_any (b n c : Nat) (l : List ByteArray) (w : World) (h : w.ownsRow 0 9 1 (.slice (some ⟨b, 0, none⟩) n c) n (strsV l)) (hn : n ≤ 1000000) :
    Calls Tryz.prog 65 #[.slice (some ⟨b, 0, none⟩) n c] w fun e w' => ∃ g cap, e = .returned (.slice (some ⟨g, 0, none⟩) n cap) ∧ w.heap.size ≤ g ∧ w'.ownsRow 0 9 1 (.slice (some ⟨g, 0, none⟩) n cap) n (strsV l) ∧ Below w.heap.size w w' := by
  obtain ⟨i0, hi, hz0, hz1, hz2⟩ := info_parts info9
  have q22 : ∀ (w : World) (a : Option Addr) (n c n' c' : Nat), (binOp .eql 94 (.slice a n c) (.slice none n' c')).run Tryz.prog w = .ok (.bool a.isNone) w := fun w a n c n' c' => Lib.run_eql_slice_nil w _ _ a n c n' c' Tryz.underlying94
  have A : Hid (w.ownsRow 0 9 1 (.slice (some ⟨b, 0, none⟩) n c) n (strsV l)) := h
  clear h
  go_enter Tryz.func65, Tryz.ntmps65
  go_wp2_with (at_builtin; refine wpList_append_own _ rfl _ _ 94 rfl w.heap.size 9 i0 (.string ByteArray.empty) 1 16 Tryz.underlying94 hi hz0 hz1 hz2 rfl (by decide) _ _ _ rfl (World.ownsRow_made w #[] 0 (Nat.le_refl _) (Nat.zero_le _) (by simp)) ⟨b, 0, none⟩ n c (strsV l) rfl ?qc1 ?qc2 ?qc3 ?qc4 ?qc5 ?qc6 ?_)
  case qc1 => exact A.out.1
  case qc2 =>
    intro j u hj
    rw [add_at, Nat.zero_add]
    exact Lib.cell?_alloc_some _ (own_at A.out hj)
  case qc3 => exact strsV_one l
  case qc4 => unfold maxLen; omega
  case qc5 => omega
  case qc6 => simp
  intro v' w1 hown hgrow hnil
  have hne : v' ≠ .slice none 0 0 := hnil
  have hb1 : Below w.heap.size w w1 := ((Below.refl _ w).alloc (Nat.le_refl _) _).grown hgrow (by simp) (by intro k hk; simp [Value.ownBlock] at hk; omega)
  try simp only [Nat.zero_add, List.nil_append] at hown
  obtain ⟨g, cap, rfl, hg, _⟩ := own_some hown hne
  have HO : Hid (w1.ownsRow w.heap.size 9 1 (.slice (some ⟨g, 0, none⟩) n cap) n (strsV l)) := hown
  clear hown hgrow hnil hne
  go_wp2
  go_ret
  exact ⟨g, cap, rfl, hg, own_base HO.out (Nat.zero_le _), hb1⟩
end Go.Proofs.YtnafalkcgghjgaaGreatDoor
