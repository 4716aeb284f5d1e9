/- What a commit leaves of a whole store; a walk over the statements' lives. How slices of puts, and of bools, are opened out of a reading; a disk fails, starts, gets a fuse. -/
import Derived.Test.YtnafalkcgghjgaaGreatDoorMC
import Derived.Deep.Slices
namespace Go.Proofs.YtnafalkcgghjgaaGreatDoor
open Go.RowKit Go.Shelf
theorem com_ready {n : Nat} {l : List Chi} (hn : n ≤ 128) (hck : chk n l = 0) : (∀ i, i < n → (tells (markOf (pagesL l)) i = true ↔ ∃ c ∈ srtC l, c.1 = i)) ∧ (∀ c ∈ srtC l, c.1 < n) ∧ (srtC l).Pairwise (fun a b => a.1 ≠ b.1) ∧ (∀ c ∈ srtC l, c.2.size = 1024) := by
  obtain ⟨h1, h2, h3⟩ := chk_zero hck
  have hmem : ∀ c, c ∈ srtC l ↔ ∃ d ∈ l, natC d = c := fun c => by rw [(srtC_perm l).mem_iff, List.mem_map]
  refine ⟨fun i hi => ?_, fun c hc => ?_, ?_, fun c hc => ?_⟩
  · rw [tells_mark _ (fun p hp => by
      unfold pagesL at hp
      obtain ⟨c, hc, rfl⟩ := List.mem_map.1 hp
      have := h1 c hc
      omega), decide_eq_true_iff]
    constructor
    · intro hp
      unfold pagesL at hp
      obtain ⟨c, hc, rfl⟩ := List.mem_map.1 hp
      exact ⟨natC c, (hmem _).2 ⟨c, hc, rfl⟩, rfl⟩
    · rintro ⟨c, hc, rfl⟩
      obtain ⟨d, hd, rfl⟩ := (hmem _).1 hc
      unfold pagesL
      exact List.mem_map.2 ⟨d, hd, rfl⟩
  · obtain ⟨d, hd, rfl⟩ := (hmem _).1 hc
    have := h1 d hd
    simp only [natC]
    omega
  · exact (nodup_nat h1 h2).perm (srtC_perm l).symm (fun h => Ne.symm h)
  · obtain ⟨d, hd, rfl⟩ := (hmem _).1 hc
    exact h3 d hd
theorem srtC_len (l : List Chi) : (srtC l).length = l.length := by rw [(srtC_perm l).length_eq, List.length_map]
theorem comSteps_sz {n : Nat} {l : List Chi} (hn : n ≤ 128) (hck : chk n l = 0) : ∀ q, some q ∈ comSteps n l → q.2.size = 256 := by
  intro q hq
  unfold comSteps at hq
  split at hq
  · simp at hq
  · exact commitS_sz (com_ready hn hck).2.2.2 (markOf_size _) q hq
/-- A commit on a store that is whole, with whatever fuse. -/
theorem com_safe {n : Nat} {D : Dk} (hn : n ≤ 128) (hu : D.up = true) (hw : D.waits = []) (hl : 8 * n + 1 ≤ D.kept.length) (ht : Tidy n D.kept) (l : List Chi) (hck : chk n l = 0) :
    (codeS D (comSteps n l) = 0 ∧ (runS D (comSteps n l)).up = true ∧ (runS D (comSteps n l)).waits = [] ∧ Tidy n (runS D (comSteps n l)).kept ∧ Rec n (runS D (comSteps n l)).kept (newP (ownP n D.kept) (srtC l))) ∨
      (codeS D (comSteps n l) = 10 ∧ (runS D (comSteps n l)).up = false ∧ ∀ p, Rec n (upTo (runS D (comSteps n l)).kept p (runS D (comSteps n l)).waits (runS D (comSteps n l)).waits.length) (ownP n D.kept) ∨ Rec n (upTo (runS D (comSteps n l)).kept p (runS D (comSteps n l)).waits (runS D (comSteps n l)).waits.length) (newP (ownP n D.kept) (srtC l))) := by
  obtain ⟨h1, h2, h3, h4⟩ := com_ready hn hck
  unfold comSteps
  by_cases h0 : l = []
  · rw [if_pos h0]
    refine .inl ⟨rfl, hu, hw, ht, ?_⟩
    have e : srtC l = [] := List.eq_nil_of_length_eq_zero (by rw [srtC_len, h0]; rfl)
    rw [e]
    intro k hk
    rw [newP_none (fun c hc => by simp at hc)]
    exact own_rec ht k hk
  · rw [if_neg h0]
    exact commit_safe n D (srtC l) _ _ hn hu hw hl (own_rec ht) ht h1 h2 h3
theorem Good.commit {n : Nat} {D : Dk} (h : Good n D) (hn : n ≤ 128) (l : List Chi) : comCode n D l = chk n l ∧ Good n (comDisk n D l) ∧ (comDisk n D l).writes ≤ D.writes + 8 * l.length + 2 ∧
    (chk n l = 0 → Rec n (comDisk n D l).kept (newP (ownP n D.kept) (srtC l))) := by
  unfold comCode comDisk
  by_cases hck : chk n l = 0
  · obtain ⟨hf1, hf2, hf3⟩ := runS_free D (comSteps n l) h.up h.fu
    rw [if_pos hck, if_pos h.up, if_pos ⟨hck, h.up⟩, hf1, hck]
    rcases com_safe hn h.up h.wt (by rw [h.ln]; exact Nat.le_refl _) h.td l hck with ⟨_, k2, k3, k4, k5⟩ | ⟨k1, _⟩
    · refine ⟨rfl, ⟨k2, hf3, k3, by rw [runS_len, h.ln], h.sz.run _ (comSteps_sz hn hck), k4⟩, ?_, fun _ => k5⟩
      have := runS_count D (comSteps n l) hf1
      rw [this]
      unfold comSteps
      split
      · show D.writes + 0 ≤ _; omega
      · rw [count_commit, srtC_len]; omega
    · rw [hf1] at k1; omega
  · rw [if_neg hck, if_neg (fun e => hck e.1)]
    exact ⟨rfl, h, by omega, fun e => absurd e hck⟩
theorem strOf_app (a b : List UInt8) : strOf a ++ strOf b = strOf (a ++ b) := by
  apply ByteArray.ext
  simp [strOf]
def zeros4 : ByteArray := strOf (List.replicate 1024 0)
theorem zeros4_size : zeros4.size = 1024 := by unfold zeros4; rw [strOf_size, List.length_replicate]
theorem zeros4_at : zeros4[0]'(by rw [zeros4_size]; omega) = 0 := by
  show (List.replicate 1024 (0 : UInt8)).toArray[0]'(by rw [List.size_toArray, List.length_replicate]; omega) = 0
  rw [List.getElem_toArray, List.getElem_replicate]
theorem nought_page : pageAt (Dk.new 9 nought).kept 5 = zeros4 := by
  have e : ∀ a, a < 9 → at_ (Dk.new 9 nought).kept a = nought := by
    intro a ha
    unfold at_ Dk.new
    simp only
    rw [List.getD_eq_getElem?_getD, List.getElem?_replicate, if_pos ha]
    rfl
  unfold pageAt
  rw [e 5 (by omega), e (5 + 1) (by omega), e (5 + 2) (by omega), e (5 + 3) (by omega)]
  unfold nought zeros4
  rw [strOf_app, strOf_app, strOf_app, List.replicate_append_replicate, List.replicate_append_replicate, List.replicate_append_replicate]
end Go.Proofs.YtnafalkcgghjgaaGreatDoor
namespace Go.Proofs.YtnafalkcgghjgaaGreatDoor
open Go.ChangeShapes Go.WideShapes Go.ChangeAt Go.RowKit Go.Deep Go.Shelf
theorem wf_u8 {n : Int} (h : (Lit.int .u8 n).wf = true) : 0 ≤ n ∧ n ≤ 255 := by
  simp [Lit.wf, IntKind.min, IntKind.max, IntKind.signed, IntKind.bits] at h
  omega
theorem wf_i64 {n : Int} (h : (Lit.int .i64 n).wf = true) : -9223372036854775808 ≤ n ∧ n ≤ 9223372036854775807 := by
  simp [Lit.wf, IntKind.min, IntKind.max, IntKind.signed, IntKind.bits] at h
  omega
theorem bools_of {H : Type} {enc : TypeId × Value → H} {W : World} {base : Nat} {spare : Nat → Bool} {held : Bool} {fuel : Nat} {a : Option Addr} {len cap : Nat} {x : DataW H × List MemPlace}
    (hf : DataW.trod enc Tryz.prog W base spare held fuel 52 [.slice a len cap] = some x) : ∃ l, Bls W a len cap l := by
  rcases open_slice1 Tryz.underlying52 (by kernel_rfl) hf with ⟨hcs, _⟩ | ⟨ad, l, c, m, n, V, D, Pl, hcs, _, hl, hm, hmm, _, hV⟩
  · simp only [List.cons.injEq, Value.slice.injEq, and_true] at hcs
    obtain ⟨rfl, rfl, rfl⟩ := hcs
    exact ⟨[], Bls.nil W⟩
  · simp only [List.cons.injEq, Value.slice.injEq, and_true] at hcs
    obtain ⟨rfl, rfl, rfl⟩ := hcs
    have hlm : len ≤ m := by rw [hmm]; split <;> omega
    have hb : ∀ i, i < len → ∃ b : Bool, W.cell? (ad.add i) = some (.bool b) := by
      intro i hi
      obtain ⟨h1, h2⟩ := hV i (by omega)
      obtain ⟨b, hb, _⟩ := DataW.trod_bool Tryz.underlying4 h2
      simp only [List.cons.injEq, and_true] at hb
      exact ⟨b, by rw [h1, hb]⟩
    obtain ⟨f, hf⟩ := choose_lt hb
    refine ⟨(List.range len).map f, by simp, hl, by simpa [maxLen] using hm, fun h0 => ?_⟩
    obtain ⟨bb, oo, spot⟩ := ad
    have hspot : spot = none := by simpa [Addr.add] using World.cell?_spot (hf 0 h0)
    subst hspot
    refine ⟨bb, oo, rfl, fun i hi => ?_⟩
    simp only [List.length_map, List.length_range] at hi
    have := hf i hi
    rw [add_at] at this
    rw [this]
    simp
set_option maxHeartbeats 400000 in
/-- The power fails with no picks, wherever their slice points. -/
theorem fail_zero {S : Nat → Prop} {g : Nat} {D : Dk} {w : World} (h : DiskIs w S g D) (a : Option Addr) (cap : Nat) (hcap : cap ≤ 9223372036854775807) :
    Calls Tryz.prog 29 #[.pointer (some ⟨g, 0, none⟩), .slice a 0 cap] w fun e w' => e = .returned (.tuple #[]) ∧ DiskIs w' S g (D.failed (pickOf [])) ∧ Upd S w w' := by
  have hbd := h.bd
  have h1 : DiskIs (w.alloc (.cells #[.slice a 0 cap] 52)) S g D := h.below ((Below.refl _ w).alloc (Nat.le_refl _) _)
  obtain ⟨kb, kc, sb, sc, wa, wc, h1⟩ := h1
  have hbox : (w.alloc (.cells #[.slice a 0 cap] 52)).cell? ⟨w.heap.size, 0, none⟩ = some (.slice a 0 cap) := by
    rw [cell_of_row _ w.heap.size _ _ _ _ (heap_alloc_new w _)]; rfl
  have hnS : ¬ S w.heap.size := fun s => by have := hbd _ s; omega
  have HS := settle_any 47 #[.pointer (some ⟨w.heap.size, 0, none⟩)] (pickOf []) h1 (enters_of Tryz.func47 (by kernel_rfl) rfl) (fun i _ W hW => by
    refine pick_any i w.heap.size a 0 cap [] W ?_ ⟨rfl, Nat.zero_le _, hcap, fun h => absurd h (by omega)⟩
    rw [World.cell?_of_block (w := w.alloc (.cells #[.slice a 0 cap] 52)) (hW.block w.heap.size (by simp) hnS)]
    exact hbox)
  have HU0 : Hid (Upd S w (w.alloc (.cells #[.slice a 0 cap] 52))) := (Upd.refl S w).alloc _
  clear h h1 hbox hnS
  go_enter Tryz.func29, Tryz.ntmps29
  go_wp2_with fail
  refine HS.mono ?_
  rintro e w' ⟨rfl, h1, h2⟩
  obtain ⟨c0, c1, c2, c3, c4, c5⟩ := h1.cells
  have f4 := h1.fro 4
  have f5 := h1.fro 5
  have HL : Hid (Lies ((w'.setCell ⟨g, 4, none⟩ (.int .i64 0)).setCell ⟨g, 5, none⟩ (.bool false)) S g kb kc sb sc none 0 (D.failed (pickOf []))) := by
    refine h1.turn _ rfl rfl ?_ ?_ ?_
    · exact ⟨h1.ok.n1, h1.ok.n2, h1.ok.at_, by simp [Dk.failed], h1.ok.ww, h1.ok.wr⟩
    · rw [heap_setCell_same _ g 5 _ _ _ (heap_setCell_same w' g 4 _ _ _ h1.c)]
      rfl
    · intro x hx
      rw [heap_setCell_other _ _ _ _ hx, heap_setCell_other _ _ _ _ hx]
  have HU : Hid (Upd S w ((w'.setCell ⟨g, 4, none⟩ (.int .i64 0)).setCell ⟨g, 5, none⟩ (.bool false))) := ((HU0.out.trans h2 (fun _ h _ => h)).setCell (fun _ => h1.Sg) _).setCell (fun _ => h1.Sg) _
  clear h1 h2 HS HU0
  go_wp2
  refine bodyPost_end (v := .tuple #[]) ?_ rfl ⟨rfl, ⟨_, _, _, _, _, _, HL.out⟩, HU.out⟩
  simp [results, go_sem]
/-- The power fails, with picks that came in. -/
theorem fail_picks {S : Nat → Prop} {g : Nat} {D : Dk} {w0 w : World} (h : DiskIs w S g D) (a : Option Addr) (len cap : Nat) (bs : List Bool) (hb : Bls w0 a len cap bs) (h0 : Below w0.heap.size w0 w) (hS : ∀ x, S x → w0.heap.size ≤ x) :
    Calls Tryz.prog 29 #[.pointer (some ⟨g, 0, none⟩), .slice a len cap] w fun e w' => e = .returned (.tuple #[]) ∧ DiskIs w' S g (D.failed (pickOf bs)) ∧ Upd S w w' := by
  by_cases hl : 0 < len
  · exact fail_any h a len cap bs (hb.below h0) (fun x hx hs => by have := hS x hs; have := hb.lt hl x hx; omega)
  · obtain rfl : len = 0 := by omega
    have e : bs = [] := List.eq_nil_of_length_eq_zero hb.1
    subst e
    exact fail_zero h a cap hb.2.2.1
def Dk.fcode (D : Dk) (n : Int) : Nat := if D.up then (if n < 0 then 9 else 0) else 10
def Dk.fput (D : Dk) (n : Int) : Dk := if D.up = true ∧ 0 ≤ n then D.fused n.toNat else D
theorem fuse_m {S : Nat → Prop} {w : World} {g : Nat} {D : Dk} (h : DiskIs w S g D) (n : Int) (hn : n ≤ 9223372036854775807) : Calls Tryz.prog 28 #[.pointer (some ⟨g, 0, none⟩), .int .i64 n] w fun e w' => e = .returned (.int .i64 (D.fcode n : Int)) ∧ Mut S w g (D.fput n) w' := by
  unfold Dk.fcode Dk.fput
  cases hu : D.up
  · rw [if_neg (by simp)]
    refine (fuse_down h n hu).mono ?_
    rintro e w' ⟨rfl, hw'⟩
    subst w'
    exact ⟨rfl, Mut.same h⟩
  · by_cases h0 : n < 0
    · have hn' : ¬ (true = true ∧ 0 ≤ n) := fun e => by have := e.2; omega
      rw [if_pos rfl, if_pos h0, if_neg hn']
      refine (fuse_less h n hu h0).mono ?_
      rintro e w' ⟨rfl, hw'⟩
      subst w'
      exact ⟨rfl, Mut.same h⟩
    · obtain ⟨m, rfl⟩ := Int.eq_ofNat_of_zero_le (show 0 ≤ n by omega)
      have hp' : (true = true ∧ 0 ≤ (m : Int)) := ⟨rfl, by omega⟩
      rw [if_pos rfl, if_neg h0, if_pos hp']
      refine (fuse_any h m hu (by omega)).mono ?_
      rintro e w' ⟨rfl, hd, hup⟩
      exact ⟨rfl, _, hd, hup, fun x hx => .inl hx⟩
theorem fail_m {S : Nat → Prop} {w0 w : World} {g : Nat} {D : Dk} (h : DiskIs w S g D) (a : Option Addr) (len cap : Nat) (bs : List Bool) (hb : Bls w0 a len cap bs) (h0 : Below w0.heap.size w0 w) (hS : ∀ x, S x → w0.heap.size ≤ x) :
    Calls Tryz.prog 29 #[.pointer (some ⟨g, 0, none⟩), .slice a len cap] w fun e w' => e = .returned (.tuple #[]) ∧ Mut S w g (D.failed (pickOf bs)) w' := by
  refine (fail_picks h a len cap bs hb h0 hS).mono ?_
  rintro e w' ⟨rfl, hd, hup⟩
  exact ⟨rfl, _, hd, hup, fun x hx => .inl hx⟩
theorem start_m {S : Nat → Prop} {w : World} {g : Nat} {D : Dk} (h : DiskIs w S g D) (hu : D.up = false) (hw : D.waits = []) : Calls Tryz.prog 30 #[.pointer (some ⟨g, 0, none⟩)] w fun e w' => e = .returned (.int .i64 0) ∧ Mut S w g D.started w' := by
  refine (start_any h hu hw).mono ?_
  rintro e w' ⟨rfl, hd, hup⟩
  exact ⟨rfl, _, hd, hup, fun x hx => .inl hx⟩
end Go.Proofs.YtnafalkcgghjgaaGreatDoor
