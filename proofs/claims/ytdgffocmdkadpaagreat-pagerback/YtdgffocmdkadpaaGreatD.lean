/- Walks over the small functions of a Disk: off, reach, Size, Waits, Writes, Up, Read, burn, Start, Fuse. Walks over a Disk's burn, Start, Fuse. Walks over a Disk's stands, and over what picks the writes. -/
import Derived.Test.YtdgffocmdkadpaaGreatA
namespace Go.Proofs.YtdgffocmdkadpaaGreat
open Go.RowKit
set_option maxHeartbeats 400000 in
theorem off_nil (w : World) : Calls Tryz.prog 67 #[.pointer none] w fun e w' => e = .returned (.int .i64 1) ∧ w' = w := by
  go_enter Tryz.func67, Tryz.ntmps67
  go_wp2
  go_ret
  exact ⟨rfl, rfl⟩
set_option maxHeartbeats 400000 in
theorem off_any {S : Nat → Prop} {g : Nat} {D : Dk} {w : World} (h : DiskIs w S g D) : Calls Tryz.prog 67 #[.pointer (some ⟨g, 0, none⟩)] w fun e w' => e = .returned (.int .i64 (D.off : Int)) ∧ w' = w := by
  obtain ⟨kb, kc, sb, sc, wa, wc, h⟩ := h
  obtain ⟨c0, c1, c2, c3, c4, c5⟩ := h.cells
  unfold Dk.off
  cases hu : D.up <;> rw [hu] at c5
  · go_enter Tryz.func67, Tryz.ntmps67
    go_wp2
    go_ret
    exact ⟨rfl, rfl⟩
  · go_enter Tryz.func67, Tryz.ntmps67
    go_wp2
    go_ret
    exact ⟨rfl, rfl⟩
set_option maxHeartbeats 400000 in
theorem reach_nil (a : Int) (w : World) : Calls Tryz.prog 122 #[.pointer none, .int .i64 a] w fun e w' => e = .returned (.int .i64 1) ∧ w' = w := by
  have H := off_nil w
  go_enter Tryz.func122, Tryz.ntmps122
  go_wp2_with fail
  refine H.mono ?_
  rintro e w' ⟨rfl, rfl⟩
  go_wp2
  go_ret
  exact ⟨rfl, rfl⟩
set_option maxHeartbeats 400000 in
theorem reach_any {S : Nat → Prop} {g : Nat} {D : Dk} {w : World} (h : DiskIs w S g D) (a : Int) : Calls Tryz.prog 122 #[.pointer (some ⟨g, 0, none⟩), .int .i64 a] w fun e w' => e = .returned (.int .i64 (D.reach a : Int)) ∧ w' = w := by
  have H := off_any h
  obtain ⟨kb, kc, sb, sc, wa, wc, h⟩ := h
  obtain ⟨c0, c1, c2, c3, c4, c5⟩ := h.cells
  unfold Dk.off at H
  unfold Dk.reach
  cases hu : D.up <;> rw [hu] at H
  · go_enter Tryz.func122, Tryz.ntmps122
    go_wp2_with fail
    refine H.mono ?_
    rintro e w' ⟨rfl, rfl⟩
    go_wp2
    go_ret
    exact ⟨rfl, rfl⟩
  · by_cases h1 : a < 0
    · have e1 : (a < 0 ∨ (D.kept.length : Int) ≤ a) := .inl h1
      go_enter Tryz.func122, Tryz.ntmps122
      go_wp2_with fail
      refine H.mono ?_
      rintro e w' ⟨rfl, rfl⟩
      go_wp2
      go_ret
      exact ⟨rfl, rfl⟩
    · by_cases h2 : (D.kept.length : Int) ≤ a
      · have HE : Hid (a < 0 ∨ (D.kept.length : Int) ≤ a) := .inr h2
        go_enter Tryz.func122, Tryz.ntmps122
        go_wp2_with fail
        refine H.mono ?_
        rintro e w' ⟨rfl, rfl⟩
        go_wp2
        go_ret
        exact ⟨rfl, rfl⟩
      · have HE : Hid (¬ (a < 0 ∨ (D.kept.length : Int) ≤ a)) := fun e => e.elim h1 h2
        go_enter Tryz.func122, Tryz.ntmps122
        go_wp2_with fail
        refine H.mono ?_
        rintro e w' ⟨rfl, rfl⟩
        go_wp2
        go_ret
        exact ⟨rfl, rfl⟩
set_option maxHeartbeats 400000 in
theorem size_nil (w : World) : Calls Tryz.prog 71 #[.pointer none] w fun e w' => e = .returned (.int .i64 0) ∧ w' = w := by
  go_enter Tryz.func71, Tryz.ntmps71
  go_wp2
  go_ret
  exact ⟨rfl, rfl⟩
set_option maxHeartbeats 400000 in
theorem size_any {S : Nat → Prop} {g : Nat} {D : Dk} {w : World} (h : DiskIs w S g D) : Calls Tryz.prog 71 #[.pointer (some ⟨g, 0, none⟩)] w fun e w' => e = .returned (.int .i64 (D.kept.length : Int)) ∧ w' = w := by
  obtain ⟨kb, kc, sb, sc, wa, wc, h⟩ := h
  obtain ⟨c0, c1, c2, c3, c4, c5⟩ := h.cells
  go_enter Tryz.func71, Tryz.ntmps71
  go_wp2
  go_ret
  exact ⟨rfl, rfl⟩
set_option maxHeartbeats 400000 in
theorem up_nil (w : World) : Calls Tryz.prog 41 #[.pointer none] w fun e w' => e = .returned (.bool false) ∧ w' = w := by
  go_enter Tryz.func41, Tryz.ntmps41
  go_wp2
  go_ret
  exact ⟨rfl, rfl⟩
set_option maxHeartbeats 400000 in
theorem up_any {S : Nat → Prop} {g : Nat} {D : Dk} {w : World} (h : DiskIs w S g D) : Calls Tryz.prog 41 #[.pointer (some ⟨g, 0, none⟩)] w fun e w' => e = .returned (.bool D.up) ∧ w' = w := by
  obtain ⟨kb, kc, sb, sc, wa, wc, h⟩ := h
  obtain ⟨c0, c1, c2, c3, c4, c5⟩ := h.cells
  go_enter Tryz.func41, Tryz.ntmps41
  go_wp2
  go_ret
  exact ⟨rfl, rfl⟩
set_option maxHeartbeats 400000 in
theorem read_nil (a : Int) (w : World) : Calls Tryz.prog 105 #[.pointer none, .int .i64 a] w fun e w' => e = .returned (.tuple #[.string ⟨#[]⟩, .int .i64 1]) ∧ w' = w := by
  have H := reach_nil a w
  go_enter Tryz.func105, Tryz.ntmps105
  go_wp2_with fail
  refine H.mono ?_
  rintro e w' ⟨rfl, rfl⟩
  go_wp2
  go_ret2
  exact ⟨rfl, rfl⟩
theorem reach_zero {D : Dk} {a : Int} (h : D.reach a = 0) : D.up = true ∧ 0 ≤ a ∧ a < (D.kept.length : Int) := by
  unfold Dk.reach at h
  split at h
  · split at h
    · omega
    · rename_i h1 h2
      refine ⟨h1, ?_, ?_⟩ <;> (rcases Int.lt_or_le a 0 with h3 | h3 <;> rcases Int.lt_or_le a (D.kept.length : Int) with h4 | h4 <;> simp_all)
  · omega
theorem reach_other {D : Dk} {a : Int} (h : ¬ D.reach a = 0) : D.reach a = 9 ∨ D.reach a = 10 := by
  unfold Dk.reach at *
  split at h <;> simp_all
set_option maxHeartbeats 400000 in
theorem read_bad {S : Nat → Prop} {g : Nat} {D : Dk} {w : World} (h : DiskIs w S g D) (a : Int) (hr : ¬ D.reach a = 0) : Calls Tryz.prog 105 #[.pointer (some ⟨g, 0, none⟩), .int .i64 a] w fun e w' => e = .returned (.tuple #[.string ⟨#[]⟩, .int .i64 (D.reach a : Int)]) ∧ w' = w := by
  have H := reach_any h a
  have hr2 := reach_other hr
  generalize D.reach a = r at *
  have hne : ¬ (r : Int) = 0 := by omega
  clear h
  go_enter Tryz.func105, Tryz.ntmps105
  go_wp2_with fail
  refine H.mono ?_
  rintro e w' ⟨rfl, rfl⟩
  go_wp2
  go_ret2
  exact ⟨rfl, rfl⟩
set_option maxHeartbeats 400000 in
theorem read_any {S : Nat → Prop} {g : Nat} {D : Dk} {w : World} (h : DiskIs w S g D) (i : Nat) (hu : D.up = true) (hi : i < D.kept.length) : Calls Tryz.prog 105 #[.pointer (some ⟨g, 0, none⟩), .int .i64 (i : Int)] w fun e w' => e = .returned (.tuple #[.string (D.seen.getD i ByteArray.empty), .int .i64 0]) ∧ w' = w := by
  have H := reach_any h (i : Int)
  have hr : D.reach (i : Int) = 0 := by unfold Dk.reach; rw [if_pos hu, if_neg (by omega)]
  rw [hr] at H
  obtain ⟨kb, kc, sb, sc, wa, wc, h⟩ := h
  obtain ⟨c0, c1, c2, c3, c4, c5⟩ := h.cells
  have cs := h.seenAt i hi
  have k1 : (i : Int) < (D.kept.length : Int) := by omega
  generalize D.seen.getD i ByteArray.empty = t at *
  go_enter Tryz.func105, Tryz.ntmps105
  go_wp2_with fail
  refine H.mono ?_
  rintro e w' ⟨rfl, rfl⟩
  go_wp2
  go_ret2
  exact ⟨rfl, rfl⟩
end Go.Proofs.YtdgffocmdkadpaaGreat
namespace Go.Proofs.YtdgffocmdkadpaaGreat
open Go.RowKit
theorem Lies.turn {w w' : World} {S : Nat → Prop} {g kb kc sb sc : Nat} {wa : Option Addr} {wc : Nat} {D : Dk} (h : Lies w S g kb kc sb sc wa wc D) (D' : Dk) (hk : D'.kept = D.kept) (hw : D'.waits = D.waits) (ok : D'.Ok)
    (hc : w'.heap[g]? = some (.cells (dcells kb kc sb sc wa wc D') 122 (0, 0))) (ho : ∀ x, x ≠ g → w'.heap[x]? = w.heap[x]?) : Lies w' S g kb kc sb sc wa wc D' := by
  have hs : D'.seen = D.seen := by unfold Dk.seen; rw [hk, hw]
  refine { h with ok := ok, c := hc, k := ?_, s := ?_, q := ?_, bd := ?_ }
  · rw [hk]
    exact own_keep h.k (fun x hx => ho x (by rw [ob_slice] at hx; cases hx; exact h.kg))
  · rw [hs, hk]
    exact own_keep h.s (fun x hx => ho x (by rw [ob_slice] at hx; cases hx; exact h.sg))
  · rw [hw]
    exact own_keep h.q (fun x hx => ho x (h.wg x (by rw [← ob_slice wa D.waits.length wc]; exact hx)).1)
  · intro x hx
    have := h.bd x hx
    by_cases e : x = g
    · subst e; exact lt_of_some hc
    · have e2 := ho x e
      rcases Nat.lt_or_ge x w'.heap.size with h' | h'
      · exact h'
      · rw [Array.getElem?_eq_none h', Array.getElem?_eq_getElem this] at e2; cases e2
set_option maxHeartbeats 400000 in
theorem burn_any {S : Nat → Prop} {g kb kc sb sc : Nat} {wa : Option Addr} {wc : Nat} {D : Dk} {w : World} (h : Lies w S g kb kc sb sc wa wc D) (hu : D.up = true) :
    Calls Tryz.prog 123 #[.pointer (some ⟨g, 0, none⟩)] w fun e w' => e = .returned (.tuple #[]) ∧ Lies w' S g kb kc sb sc wa wc { D with fuse := D.fuse - 1, up := decide (D.fuse ≠ 1) } ∧ Upd S w w' := by
  obtain ⟨c0, c1, c2, c3, c4, c5⟩ := h.cells
  have f4 := h.fro 4
  have f5 := h.fro 5
  have hfu := h.ok.fu
  by_cases h0 : D.fuse = 0
  · have HL : Hid (Lies w S g kb kc sb sc wa wc { D with fuse := D.fuse - 1, up := decide (D.fuse ≠ 1) }) := by
      have e : ({ D with fuse := D.fuse - 1, up := decide (D.fuse ≠ 1) } : Dk) = D := by
        cases D; simp only at h0 hu ⊢; subst h0 hu; rfl
      rw [e]; exact h
    rw [h0] at c4
    clear h
    go_enter Tryz.func123, Tryz.ntmps123
    go_wp2
    refine bodyPost_ret (v := .tuple #[]) ?_ rfl ⟨rfl, HL.out, Upd.refl _ _⟩
    simp [results, go_sem]
  · obtain ⟨f, hf⟩ : ∃ f : Nat, D.fuse = f + 1 := ⟨D.fuse - 1, by omega⟩
    have HL : Hid (∀ b, b = decide (D.fuse ≠ 1) → Lies ((w.setCell ⟨g, 4, none⟩ (.int .i64 (f : Int))).setCell ⟨g, 5, none⟩ (.bool b)) S g kb kc sb sc wa wc { D with fuse := D.fuse - 1, up := decide (D.fuse ≠ 1) }) := by
      rintro b rfl
      refine h.turn _ rfl rfl ⟨h.ok.n1, h.ok.n2, h.ok.at_, by simp only; omega, h.ok.ww, h.ok.wr⟩ ?_ ?_
      · rw [heap_setCell_same _ g 5 _ _ _ (heap_setCell_same w g 4 _ _ _ h.c)]
        simp [dcells, hf]
      · intro x hx
        rw [heap_setCell_other _ _ _ _ hx, heap_setCell_other _ _ _ _ hx]
    have HU : Hid (∀ b, Upd S w ((w.setCell ⟨g, 4, none⟩ (.int .i64 (f : Int))).setCell ⟨g, 5, none⟩ (.bool b))) := fun b => ((Upd.refl S w).setCell (fun _ => h.Sg) _).setCell (fun _ => h.Sg) _
    rw [hf] at c4 hfu
    have k1 : ¬ ((f + 1 : Nat) : Int) = 0 := by omega
    have k2 : ((f + 1 : Nat) : Int) - 1 = (f : Int) := by omega
    have hcl : w.heap[g]? = _ := h.c
    clear h
    go_enter Tryz.func123, Tryz.ntmps123
    go_wp2
    refine bodyPost_end (v := .tuple #[]) ?_ rfl ⟨rfl, ?_, ?_⟩
    · simp [results, go_sem]
    · exact HL.out _ (by rw [hf]; by_cases h0 : f = 0 <;> simp [h0] <;> omega)
    · exact HU.out _
set_option maxHeartbeats 400000 in
theorem start_nil (w : World) : Calls Tryz.prog 21 #[.pointer none] w fun e w' => e = .returned (.int .i64 1) ∧ w' = w := by
  go_enter Tryz.func21, Tryz.ntmps21
  go_wp2
  go_ret
  exact ⟨rfl, rfl⟩
set_option maxHeartbeats 400000 in
theorem start_bad {S : Nat → Prop} {g : Nat} {D : Dk} {w : World} (h : DiskIs w S g D) (hb : D.up = true ∨ 0 < D.waits.length) : Calls Tryz.prog 21 #[.pointer (some ⟨g, 0, none⟩)] w fun e w' => e = .returned (.int .i64 8) ∧ w' = w := by
  obtain ⟨kb, kc, sb, sc, wa, wc, h⟩ := h
  obtain ⟨c0, c1, c2, c3, c4, c5⟩ := h.cells
  cases hu : D.up <;> rw [hu] at c5
  · have h1 : 0 < D.waits.length := by rcases hb with hb | hb; (rw [hu] at hb; cases hb); exact hb
    have k1 : (0 : Int) < (D.waits.length : Int) := by omega
    clear hb
    go_enter Tryz.func21, Tryz.ntmps21
    go_wp2
    go_ret
    exact ⟨rfl, rfl⟩
  · clear hb
    go_enter Tryz.func21, Tryz.ntmps21
    go_wp2
    go_ret
    exact ⟨rfl, rfl⟩
set_option maxHeartbeats 400000 in
theorem start_any {S : Nat → Prop} {g : Nat} {D : Dk} {w : World} (h : DiskIs w S g D) (hu : D.up = false) (hw : D.waits = []) : Calls Tryz.prog 21 #[.pointer (some ⟨g, 0, none⟩)] w fun e w' => e = .returned (.int .i64 0) ∧ DiskIs w' S g D.started ∧ Upd S w w' := by
  obtain ⟨kb, kc, sb, sc, wa, wc, h⟩ := h
  obtain ⟨c0, c1, c2, c3, c4, c5⟩ := h.cells
  have f5 := h.fro 5
  rw [hu] at c5
  rw [hw] at c2
  have HL : Hid (Lies (w.setCell ⟨g, 5, none⟩ (.bool true)) S g kb kc sb sc wa wc D.started) := by
    refine h.turn _ rfl rfl h.ok.started ?_ ?_
    · rw [heap_setCell_same w g 5 _ _ _ h.c]
      rfl
    · intro x hx
      rw [heap_setCell_other _ _ _ _ hx]
  have HU : Hid (Upd S w (w.setCell ⟨g, 5, none⟩ (.bool true))) := (Upd.refl S w).setCell (fun _ => h.Sg) _
  clear h
  go_enter Tryz.func21, Tryz.ntmps21
  go_wp2
  go_ret
  exact ⟨rfl, ⟨_, _, _, _, _, _, HL.out⟩, HU.out⟩
set_option maxHeartbeats 400000 in
theorem fuse_nil (n : Int) (w : World) : Calls Tryz.prog 19 #[.pointer none, .int .i64 n] w fun e w' => e = .returned (.int .i64 1) ∧ w' = w := by
  have H := off_nil w
  go_enter Tryz.func19, Tryz.ntmps19
  go_wp2_with fail
  refine H.mono ?_
  rintro e w' ⟨rfl, rfl⟩
  go_wp2
  go_ret
  exact ⟨rfl, rfl⟩
set_option maxHeartbeats 400000 in
theorem fuse_down {S : Nat → Prop} {g : Nat} {D : Dk} {w : World} (h : DiskIs w S g D) (n : Int) (hu : D.up = false) : Calls Tryz.prog 19 #[.pointer (some ⟨g, 0, none⟩), .int .i64 n] w fun e w' => e = .returned (.int .i64 10) ∧ w' = w := by
  have H := off_any h
  unfold Dk.off at H
  rw [hu] at H
  clear h
  go_enter Tryz.func19, Tryz.ntmps19
  go_wp2_with fail
  refine H.mono ?_
  rintro e w' ⟨rfl, rfl⟩
  go_wp2
  go_ret
  exact ⟨rfl, rfl⟩
set_option maxHeartbeats 400000 in
theorem fuse_less {S : Nat → Prop} {g : Nat} {D : Dk} {w : World} (h : DiskIs w S g D) (n : Int) (hu : D.up = true) (hn : n < 0) : Calls Tryz.prog 19 #[.pointer (some ⟨g, 0, none⟩), .int .i64 n] w fun e w' => e = .returned (.int .i64 9) ∧ w' = w := by
  have H := off_any h
  unfold Dk.off at H
  rw [hu] at H
  clear h
  go_enter Tryz.func19, Tryz.ntmps19
  go_wp2_with fail
  refine H.mono ?_
  rintro e w' ⟨rfl, rfl⟩
  go_wp2
  go_ret
  exact ⟨rfl, rfl⟩
set_option maxHeartbeats 400000 in
theorem fuse_any {S : Nat → Prop} {g : Nat} {D : Dk} {w : World} (h : DiskIs w S g D) (n : Nat) (hu : D.up = true) (hn : n ≤ 9223372036854775807) : Calls Tryz.prog 19 #[.pointer (some ⟨g, 0, none⟩), .int .i64 (n : Int)] w fun e w' => e = .returned (.int .i64 0) ∧ DiskIs w' S g (D.fused n) ∧ Upd S w w' := by
  have H := off_any h
  unfold Dk.off at H
  rw [hu] at H
  obtain ⟨kb, kc, sb, sc, wa, wc, h⟩ := h
  obtain ⟨c0, c1, c2, c3, c4, c5⟩ := h.cells
  have f4 := h.fro 4
  have HL : Hid (Lies (w.setCell ⟨g, 4, none⟩ (.int .i64 (n : Int))) S g kb kc sb sc wa wc (D.fused n)) := by
    refine h.turn _ rfl rfl (h.ok.fused n hn) ?_ ?_
    · rw [heap_setCell_same w g 4 _ _ _ h.c]
      rfl
    · intro x hx
      rw [heap_setCell_other _ _ _ _ hx]
  have HU : Hid (Upd S w (w.setCell ⟨g, 4, none⟩ (.int .i64 (n : Int)))) := (Upd.refl S w).setCell (fun _ => h.Sg) _
  have k0 : ¬ (n : Int) < 0 := by omega
  clear h
  go_enter Tryz.func19, Tryz.ntmps19
  go_wp2_with fail
  refine H.mono ?_
  rintro e w' ⟨rfl, rfl⟩
  go_wp2
  go_ret
  exact ⟨rfl, ⟨_, _, _, _, _, _, HL.out⟩, HU.out⟩
end Go.Proofs.YtdgffocmdkadpaaGreat
namespace Go.Proofs.YtdgffocmdkadpaaGreat
open Go.RowKit
/-- What a walk is told of a slice of bools. -/
def Bls (w : World) (a : Option Addr) (len cap : Nat) (bs : List Bool) : Prop :=
  bs.length = len ∧ len ≤ cap ∧ cap ≤ 9223372036854775807 ∧ (0 < len → ∃ b o, a = some ⟨b, o, none⟩ ∧ ∀ i (h : i < bs.length), w.cell? ⟨b, o + i, none⟩ = some (.bool bs[i]))
theorem Bls.nil (w : World) : Bls w none 0 0 [] := ⟨rfl, by omega, by omega, by omega⟩
/-- Who is picked. -/
def pickOf (bs : List Bool) : Nat → Bool := fun i => bs.getD i false
theorem Bls.keep {w w' : World} {a : Option Addr} {len cap : Nat} {bs : List Bool} (h : Bls w a len cap bs) (hk : ∀ x, ob a = some x → x < w.heap.size → w'.heap[x]? = w.heap[x]?) : Bls w' a len cap bs := by
  obtain ⟨h1, h2, h3, h4⟩ := h
  refine ⟨h1, h2, h3, fun h0 => ?_⟩
  obtain ⟨b, o, rfl, hc⟩ := h4 h0
  refine ⟨b, o, rfl, fun i hi => ?_⟩
  have := hc i hi
  rw [World.cell?_of_block (w := w) (hk b rfl (World.block_lt_of_cell? w _ this))]
  exact this
theorem Bls.below {w w' : World} {a : Option Addr} {len cap : Nat} {bs : List Bool} (h : Bls w a len cap bs) (hb : Below w.heap.size w w') : Bls w' a len cap bs := h.keep fun x _ hx => hb.block x hx
theorem Bls.lt {w : World} {a : Option Addr} {len cap : Nat} {bs : List Bool} (h : Bls w a len cap bs) (h0 : 0 < len) : ∀ x, ob a = some x → x < w.heap.size := by
  obtain ⟨h1, h2, h3, h4⟩ := h
  obtain ⟨b, o, rfl, hc⟩ := h4 h0
  rintro x hx
  cases hx
  exact World.block_lt_of_cell? w _ (hc 0 (by omega))
set_option maxHeartbeats 400000 in
theorem all_any (i : Int) (w : World) : Calls Tryz.prog 121 #[.int .i64 i] w fun e w' => e = .returned (.bool true) ∧ w' = w := by
  go_enter Tryz.func121, Tryz.ntmps121
  go_wp2
  go_ret
  exact ⟨rfl, rfl⟩
set_option maxHeartbeats 400000 in
theorem pick_any (i : Nat) (B : Nat) (a : Option Addr) (len cap : Nat) (bs : List Bool) (w : World) (hB : w.cell? ⟨B, 0, none⟩ = some (.slice a len cap)) (h : Bls w a len cap bs) :
    Calls Tryz.prog 69 #[.int .i64 (i : Int), .pointer (some ⟨B, 0, none⟩)] w fun e w' => e = .returned (.bool (pickOf bs i)) ∧ w' = w := by
  obtain ⟨h1, h2, h3, h4⟩ := h
  unfold pickOf
  by_cases hi : i < len
  · obtain ⟨b, o, rfl, hc⟩ := h4 (by omega)
    have c1 := hc i (by omega)
    have e : bs.getD i false = bs[i] := by rw [List.getD_eq_getElem?_getD, List.getElem?_eq_getElem (by omega)]; rfl
    rw [e]
    generalize bs[i] = x at *
    have k1 : (i : Int) < (len : Int) := by omega
    clear hc h4 e
    go_enter Tryz.func69, Tryz.ntmps69
    go_wp2
    go_ret
    exact ⟨rfl, rfl⟩
  · have e : bs.getD i false = false := by rw [List.getD_eq_getElem?_getD, List.getElem?_eq_none (by omega)]; rfl
    rw [e]
    have k1 : ¬ (i : Int) < (len : Int) := by omega
    clear h4 e
    go_enter Tryz.func69, Tryz.ntmps69
    go_wp2
    go_ret
    exact ⟨rfl, rfl⟩
set_option maxHeartbeats 400000 in
theorem stands_any (g kb kc n i : Nat) (t : ByteArray) (w : World) (c0 : w.cell? ⟨g, 0, none⟩ = some (.slice (some ⟨kb, 0, none⟩) n kc)) (ci : w.cell? ⟨kb, i, none⟩ = some (.string t)) (hi : i < n) :
    Calls Tryz.prog 104 #[.pointer (some ⟨g, 0, none⟩), .int .i64 (i : Int)] w fun e w' => e = .returned (.agg #[.int .i64 (i : Int), .string t]) ∧ Below w.heap.size w w' := by
  have k1 : (i : Int) < (n : Int) := by omega
  have b1 : g < w.heap.size := World.block_lt_of_cell? w _ c0
  have b2 : kb < w.heap.size := World.block_lt_of_cell? w _ ci
  have n1 : g ≠ w.heap.size := by omega
  have n2 : kb ≠ w.heap.size := by omega
  go_enter Tryz.func104, Tryz.ntmps104
  go_wp2
  refine bodyPost_ret (v := .agg #[.int .i64 (i : Int), .string t]) ?_ rfl ⟨rfl, ?_⟩
  · simp [results, go_sem]
  · first | exact (Below.refl _ w).alloc (Nat.le_refl _) _ | trace_state
end Go.Proofs.YtdgffocmdkadpaaGreat
