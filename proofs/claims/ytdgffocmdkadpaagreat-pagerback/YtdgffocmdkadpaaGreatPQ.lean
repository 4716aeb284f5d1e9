/- What a commit leaves of a whole store; a walk over the statements' lives. How slices of puts, and of bools, are opened out of a reading; a disk fails, starts, gets a fuse. A Pager in memory. -/
import Derived.Test.YtdgffocmdkadpaaGreatMC
import Derived.Deep.Slices
import Derived.Test.YtdgffocmdkadpaaGreatMA
namespace Go.Proofs.YtdgffocmdkadpaaGreat
open Go.RowKit Go.Shelf
theorem com_ready {n : Nat} {l : List Chi} (hn : n ≤ 128) (hck : chk n l = 0) : (∀ i, i < n → (tells (markOf (pagesL l)) i = true ↔ ∃ c ∈ srtC l, c.1 = i)) ∧ (∀ c ∈ srtC l, c.1 < n) ∧ (srtC l).Pairwise (fun a b => a.1 ≠ b.1) ∧ (∀ c ∈ srtC l, c.2.size = 1024) := by
  obtain ⟨h1, h2, h3⟩ := chk_zero hck
  have hmem : ∀ c, c ∈ srtC l ↔ ∃ d ∈ l, natC d = c := fun c => by rw [(srtC_perm l).mem_iff, List.mem_map]
  refine ⟨fun i hi => ?_, fun c hc => ?_, ?_, fun c hc => ?_⟩
  · rw [tells_mark _ (fun p hp => by
      unfold pagesL at hp
      obtain ⟨c, hc, rfl⟩ := List.mem_map.1 hp
      have := h1 c hc
      omega), decide_eq_true_iff]
    constructor
    · intro hp
      unfold pagesL at hp
      obtain ⟨c, hc, rfl⟩ := List.mem_map.1 hp
      exact ⟨natC c, (hmem _).2 ⟨c, hc, rfl⟩, rfl⟩
    · rintro ⟨c, hc, rfl⟩
      obtain ⟨d, hd, rfl⟩ := (hmem _).1 hc
      unfold pagesL
      exact List.mem_map.2 ⟨d, hd, rfl⟩
  · obtain ⟨d, hd, rfl⟩ := (hmem _).1 hc
    have := h1 d hd
    simp only [natC]
    omega
  · exact (nodup_nat h1 h2).perm (srtC_perm l).symm (fun h => Ne.symm h)
  · obtain ⟨d, hd, rfl⟩ := (hmem _).1 hc
    exact h3 d hd
theorem srtC_len (l : List Chi) : (srtC l).length = l.length := by rw [(srtC_perm l).length_eq, List.length_map]
theorem comSteps_sz {n : Nat} {l : List Chi} (hn : n ≤ 128) (hck : chk n l = 0) : ∀ q, some q ∈ comSteps n l → q.2.size = 256 := by
  intro q hq
  unfold comSteps at hq
  split at hq
  · simp at hq
  · exact commitS_sz (com_ready hn hck).2.2.2 (markOf_size _) q hq
/-- A commit on a store that is whole, with whatever fuse. -/
theorem com_safe {n : Nat} {D : Dk} (hn : n ≤ 128) (hu : D.up = true) (hw : D.waits = []) (hl : 8 * n + 1 ≤ D.kept.length) (ht : Tidy n D.kept) (l : List Chi) (hck : chk n l = 0) :
    (codeS D (comSteps n l) = 0 ∧ (runS D (comSteps n l)).up = true ∧ (runS D (comSteps n l)).waits = [] ∧ Tidy n (runS D (comSteps n l)).kept ∧ Rec n (runS D (comSteps n l)).kept (newP (ownP n D.kept) (srtC l))) ∨
      (codeS D (comSteps n l) = 10 ∧ (runS D (comSteps n l)).up = false ∧ ∀ p, Rec n (upTo (runS D (comSteps n l)).kept p (runS D (comSteps n l)).waits (runS D (comSteps n l)).waits.length) (ownP n D.kept) ∨ Rec n (upTo (runS D (comSteps n l)).kept p (runS D (comSteps n l)).waits (runS D (comSteps n l)).waits.length) (newP (ownP n D.kept) (srtC l))) := by
  obtain ⟨h1, h2, h3, h4⟩ := com_ready hn hck
  unfold comSteps
  by_cases h0 : l = []
  · rw [if_pos h0]
    refine .inl ⟨rfl, hu, hw, ht, ?_⟩
    have e : srtC l = [] := List.eq_nil_of_length_eq_zero (by rw [srtC_len, h0]; rfl)
    rw [e]
    intro k hk
    rw [newP_none (fun c hc => by simp at hc)]
    exact own_rec ht k hk
  · rw [if_neg h0]
    exact commit_safe n D (srtC l) _ _ hn hu hw hl (own_rec ht) ht h1 h2 h3
theorem Good.commit {n : Nat} {D : Dk} (h : Good n D) (hn : n ≤ 128) (l : List Chi) : comCode n D l = chk n l ∧ Good n (comDisk n D l) ∧ (comDisk n D l).writes ≤ D.writes + 8 * l.length + 2 ∧
    (chk n l = 0 → Rec n (comDisk n D l).kept (newP (ownP n D.kept) (srtC l))) := by
  unfold comCode comDisk
  by_cases hck : chk n l = 0
  · obtain ⟨hf1, hf2, hf3⟩ := runS_free D (comSteps n l) h.up h.fu
    rw [if_pos hck, if_pos h.up, if_pos ⟨hck, h.up⟩, hf1, hck]
    rcases com_safe hn h.up h.wt (by rw [h.ln]; exact Nat.le_refl _) h.td l hck with ⟨_, k2, k3, k4, k5⟩ | ⟨k1, _⟩
    · refine ⟨rfl, ⟨k2, hf3, k3, by rw [runS_len, h.ln], h.sz.run _ (comSteps_sz hn hck), k4⟩, ?_, fun _ => k5⟩
      have := runS_count D (comSteps n l) hf1
      rw [this]
      unfold comSteps
      split
      · show D.writes + 0 ≤ _; omega
      · rw [count_commit, srtC_len]; omega
    · rw [hf1] at k1; omega
  · rw [if_neg hck, if_neg (fun e => hck e.1)]
    exact ⟨rfl, h, by omega, fun e => absurd e hck⟩
theorem strOf_app (a b : List UInt8) : strOf a ++ strOf b = strOf (a ++ b) := by
  apply ByteArray.ext
  simp [strOf]
def zeros4 : ByteArray := strOf (List.replicate 1024 0)
theorem zeros4_size : zeros4.size = 1024 := by unfold zeros4; rw [strOf_size, List.length_replicate]
theorem zeros4_at : zeros4[0]'(by rw [zeros4_size]; omega) = 0 := by
  show (List.replicate 1024 (0 : UInt8)).toArray[0]'(by rw [List.size_toArray, List.length_replicate]; omega) = 0
  rw [List.getElem_toArray, List.getElem_replicate]
theorem nought_page : pageAt (Dk.new 9 nought).kept 5 = zeros4 := by
  have e : ∀ a, a < 9 → at_ (Dk.new 9 nought).kept a = nought := by
    intro a ha
    unfold at_ Dk.new
    simp only
    rw [List.getD_eq_getElem?_getD, List.getElem?_replicate, if_pos ha]
    rfl
  unfold pageAt
  rw [e 5 (by omega), e (5 + 1) (by omega), e (5 + 2) (by omega), e (5 + 3) (by omega)]
  unfold nought zeros4
  rw [strOf_app, strOf_app, strOf_app, List.replicate_append_replicate, List.replicate_append_replicate, List.replicate_append_replicate]
end Go.Proofs.YtdgffocmdkadpaaGreat
namespace Go.Proofs.YtdgffocmdkadpaaGreat
open Go.ChangeShapes Go.WideShapes Go.ChangeAt Go.RowKit Go.Deep Go.Shelf
theorem wf_u8 {n : Int} (h : (Lit.int .u8 n).wf = true) : 0 ≤ n ∧ n ≤ 255 := by
  simp [Lit.wf, IntKind.min, IntKind.max, IntKind.signed, IntKind.bits] at h
  omega
theorem wf_i64 {n : Int} (h : (Lit.int .i64 n).wf = true) : -9223372036854775808 ≤ n ∧ n ≤ 9223372036854775807 := by
  simp [Lit.wf, IntKind.min, IntKind.max, IntKind.signed, IntKind.bits] at h
  omega
theorem bools_of {H : Type} {enc : TypeId × Value → H} {W : World} {base : Nat} {spare : Nat → Bool} {held : Bool} {fuel : Nat} {a : Option Addr} {len cap : Nat} {x : DataW H × List MemPlace}
    (hf : DataW.trod enc Tryz.prog W base spare held fuel 37 [.slice a len cap] = some x) : ∃ l, Bls W a len cap l := by
  rcases open_slice1 Tryz.underlying37 (by kernel_rfl) hf with ⟨hcs, _⟩ | ⟨ad, l, c, m, n, V, D, Pl, hcs, _, hl, hm, hmm, _, hV⟩
  · simp only [List.cons.injEq, Value.slice.injEq, and_true] at hcs
    obtain ⟨rfl, rfl, rfl⟩ := hcs
    exact ⟨[], Bls.nil W⟩
  · simp only [List.cons.injEq, Value.slice.injEq, and_true] at hcs
    obtain ⟨rfl, rfl, rfl⟩ := hcs
    have hlm : len ≤ m := by rw [hmm]; split <;> omega
    have hb : ∀ i, i < len → ∃ b : Bool, W.cell? (ad.add i) = some (.bool b) := by
      intro i hi
      obtain ⟨h1, h2⟩ := hV i (by omega)
      obtain ⟨b, hb, _⟩ := DataW.trod_bool Tryz.underlying4 h2
      simp only [List.cons.injEq, and_true] at hb
      exact ⟨b, by rw [h1, hb]⟩
    obtain ⟨f, hf⟩ := choose_lt hb
    refine ⟨(List.range len).map f, by simp, hl, by simpa [maxLen] using hm, fun h0 => ?_⟩
    obtain ⟨bb, oo, spot⟩ := ad
    have hspot : spot = none := by simpa [Addr.add] using World.cell?_spot (hf 0 h0)
    subst hspot
    refine ⟨bb, oo, rfl, fun i hi => ?_⟩
    simp only [List.length_map, List.length_range] at hi
    have := hf i hi
    rw [add_at] at this
    rw [this]
    simp
set_option maxHeartbeats 400000 in
/-- The power fails with no picks, wherever their slice points. -/
theorem fail_zero {S : Nat → Prop} {g : Nat} {D : Dk} {w : World} (h : DiskIs w S g D) (a : Option Addr) (cap : Nat) (hcap : cap ≤ 9223372036854775807) :
    Calls Tryz.prog 20 #[.pointer (some ⟨g, 0, none⟩), .slice a 0 cap] w fun e w' => e = .returned (.tuple #[]) ∧ DiskIs w' S g (D.failed (pickOf [])) ∧ Upd S w w' := by
  have hbd := h.bd
  have h1 : DiskIs (w.alloc (.cells #[.slice a 0 cap] 37)) S g D := h.below ((Below.refl _ w).alloc (Nat.le_refl _) _)
  obtain ⟨kb, kc, sb, sc, wa, wc, h1⟩ := h1
  have hbox : (w.alloc (.cells #[.slice a 0 cap] 37)).cell? ⟨w.heap.size, 0, none⟩ = some (.slice a 0 cap) := by
    rw [cell_of_row _ w.heap.size _ _ _ _ (heap_alloc_new w _)]; rfl
  have hnS : ¬ S w.heap.size := fun s => by have := hbd _ s; omega
  have HS := settle_any 69 #[.pointer (some ⟨w.heap.size, 0, none⟩)] (pickOf []) h1 (enters_of Tryz.func69 (by kernel_rfl) rfl) (fun i _ W hW => by
    refine pick_any i w.heap.size a 0 cap [] W ?_ ⟨rfl, Nat.zero_le _, hcap, fun h => absurd h (by omega)⟩
    rw [World.cell?_of_block (w := w.alloc (.cells #[.slice a 0 cap] 37)) (hW.block w.heap.size (by simp) hnS)]
    exact hbox)
  have HU0 : Hid (Upd S w (w.alloc (.cells #[.slice a 0 cap] 37))) := (Upd.refl S w).alloc _
  clear h h1 hbox hnS
  go_enter Tryz.func20, Tryz.ntmps20
  go_wp2_with fail
  refine HS.mono ?_
  rintro e w' ⟨rfl, h1, h2⟩
  obtain ⟨c0, c1, c2, c3, c4, c5⟩ := h1.cells
  have f4 := h1.fro 4
  have f5 := h1.fro 5
  have HL : Hid (Lies ((w'.setCell ⟨g, 4, none⟩ (.int .i64 0)).setCell ⟨g, 5, none⟩ (.bool false)) S g kb kc sb sc none 0 (D.failed (pickOf []))) := by
    refine h1.turn _ rfl rfl ?_ ?_ ?_
    · exact ⟨h1.ok.n1, h1.ok.n2, h1.ok.at_, by simp [Dk.failed], h1.ok.ww, h1.ok.wr⟩
    · rw [heap_setCell_same _ g 5 _ _ _ (heap_setCell_same w' g 4 _ _ _ h1.c)]
      rfl
    · intro x hx
      rw [heap_setCell_other _ _ _ _ hx, heap_setCell_other _ _ _ _ hx]
  have HU : Hid (Upd S w ((w'.setCell ⟨g, 4, none⟩ (.int .i64 0)).setCell ⟨g, 5, none⟩ (.bool false))) := ((HU0.out.trans h2 (fun _ h _ => h)).setCell (fun _ => h1.Sg) _).setCell (fun _ => h1.Sg) _
  clear h1 h2 HS HU0
  go_wp2
  refine bodyPost_end (v := .tuple #[]) ?_ rfl ⟨rfl, ⟨_, _, _, _, _, _, HL.out⟩, HU.out⟩
  simp [results, go_sem]
/-- The power fails, with picks that came in. -/
theorem fail_picks {S : Nat → Prop} {g : Nat} {D : Dk} {w0 w : World} (h : DiskIs w S g D) (a : Option Addr) (len cap : Nat) (bs : List Bool) (hb : Bls w0 a len cap bs) (h0 : Below w0.heap.size w0 w) (hS : ∀ x, S x → w0.heap.size ≤ x) :
    Calls Tryz.prog 20 #[.pointer (some ⟨g, 0, none⟩), .slice a len cap] w fun e w' => e = .returned (.tuple #[]) ∧ DiskIs w' S g (D.failed (pickOf bs)) ∧ Upd S w w' := by
  by_cases hl : 0 < len
  · exact fail_any h a len cap bs (hb.below h0) (fun x hx hs => by have := hS x hs; have := hb.lt hl x hx; omega)
  · obtain rfl : len = 0 := by omega
    have e : bs = [] := List.eq_nil_of_length_eq_zero hb.1
    subst e
    exact fail_zero h a cap hb.2.2.1
def Dk.fcode (D : Dk) (n : Int) : Nat := if D.up then (if n < 0 then 9 else 0) else 10
def Dk.fput (D : Dk) (n : Int) : Dk := if D.up = true ∧ 0 ≤ n then D.fused n.toNat else D
theorem fuse_m {S : Nat → Prop} {w : World} {g : Nat} {D : Dk} (h : DiskIs w S g D) (n : Int) (hn : n ≤ 9223372036854775807) : Calls Tryz.prog 19 #[.pointer (some ⟨g, 0, none⟩), .int .i64 n] w fun e w' => e = .returned (.int .i64 (D.fcode n : Int)) ∧ Mut S w g (D.fput n) w' := by
  unfold Dk.fcode Dk.fput
  cases hu : D.up
  · rw [if_neg (by simp)]
    refine (fuse_down h n hu).mono ?_
    rintro e w' ⟨rfl, hw'⟩
    subst w'
    exact ⟨rfl, Mut.same h⟩
  · by_cases h0 : n < 0
    · have hn' : ¬ (true = true ∧ 0 ≤ n) := fun e => by have := e.2; omega
      rw [if_pos rfl, if_pos h0, if_neg hn']
      refine (fuse_less h n hu h0).mono ?_
      rintro e w' ⟨rfl, hw'⟩
      subst w'
      exact ⟨rfl, Mut.same h⟩
    · obtain ⟨m, rfl⟩ := Int.eq_ofNat_of_zero_le (show 0 ≤ n by omega)
      have hp' : (true = true ∧ 0 ≤ (m : Int)) := ⟨rfl, by omega⟩
      rw [if_pos rfl, if_neg h0, if_pos hp']
      refine (fuse_any h m hu (by omega)).mono ?_
      rintro e w' ⟨rfl, hd, hup⟩
      exact ⟨rfl, _, hd, hup, fun x hx => .inl hx⟩
theorem fail_m {S : Nat → Prop} {w0 w : World} {g : Nat} {D : Dk} (h : DiskIs w S g D) (a : Option Addr) (len cap : Nat) (bs : List Bool) (hb : Bls w0 a len cap bs) (h0 : Below w0.heap.size w0 w) (hS : ∀ x, S x → w0.heap.size ≤ x) :
    Calls Tryz.prog 20 #[.pointer (some ⟨g, 0, none⟩), .slice a len cap] w fun e w' => e = .returned (.tuple #[]) ∧ Mut S w g (D.failed (pickOf bs)) w' := by
  refine (fail_picks h a len cap bs hb h0 hS).mono ?_
  rintro e w' ⟨rfl, hd, hup⟩
  exact ⟨rfl, _, hd, hup, fun x hx => .inl hx⟩
theorem start_m {S : Nat → Prop} {w : World} {g : Nat} {D : Dk} (h : DiskIs w S g D) (hu : D.up = false) (hw : D.waits = []) : Calls Tryz.prog 21 #[.pointer (some ⟨g, 0, none⟩)] w fun e w' => e = .returned (.int .i64 0) ∧ Mut S w g D.started w' := by
  refine (start_any h hu hw).mono ?_
  rintro e w' ⟨rfl, hd, hup⟩
  exact ⟨rfl, _, hd, hup, fun x hx => .inl hx⟩
end Go.Proofs.YtdgffocmdkadpaaGreat
namespace Go.Proofs.YtdgffocmdkadpaaGreat
open Go.RowKit Go.Shelf Pg
/-- A state that can be gone back to; a pager. -/
structure Sn where
  h : Hd
  m : Pm
structure Px where
  good : Hd
  kept : List ByteArray
  now : Sn
  saves : List Sn
structure Sn.Ok (n : Nat) (s : Sn) : Prop where
  h : s.h.Ok n
  m : ∀ i d, s.m i = some d → 1 ≤ i ∧ i < n ∧ s.h.has i = true ∧ d.size = 1024
structure Px.Ok (n : Nat) (X : Px) : Prop where
  good : X.good.Ok n
  kept : X.kept.length = n
  now : X.now.Ok n
  saves : ∀ s ∈ X.saves, s.Ok n
  many : X.saves.length ≤ 16
/-- Its cells. -/
def noT (n : Nat) : List Bool := List.replicate n false
def pgL (jb : Nat) (good : Hd) (kv : Value) (tn : List Bool) (now : Hd) (mb : Nat) (sv : Value) : List Value := [.pointer (some ⟨jb, 0, none⟩)] ++ (hdL good ++ ([kv] ++ (setL tn ++ (hdL now ++ [.map (some mb), sv]))))
def pgA (jb : Nat) (good : Hd) (kv : Value) (tn : List Bool) (now : Hd) (mb : Nat) (sv : Value) : Array Value := (pgL jb good kv tn now mb sv).toArray
section
variable {jb : Nat} {good : Hd} {kv : Value} {tn : List Bool} {now : Hd} {mb : Nat} {sv : Value}
theorem pgL_len : (pgL jb good kv tn now mb sv).length = 62 := by simp [pgL, hdL_len, setL_len]
theorem pgA_size : (pgA jb good kv tn now mb sv).size = 62 := by rw [pgA, List.size_toArray, pgL_len]
theorem pgA_0 : (pgA jb good kv tn now mb sv)[0]? = some (.pointer (some ⟨jb, 0, none⟩)) := rfl
theorem pgA_good (i : Nat) (hi : i < 21) : (pgA jb good kv tn now mb sv)[1 + i]? = (hdL good)[i]? := by
  rw [pgA, List.getElem?_toArray, pgL, List.getElem?_append_right (by simp)]
  rw [show 1 + i - [Value.pointer (some ⟨jb, 0, none⟩)].length = i by simp, List.getElem?_append_left (by rw [hdL_len]; exact hi)]
theorem pgA_22 : (pgA jb good kv tn now mb sv)[22]? = some kv := by
  rw [pgA, List.getElem?_toArray, pgL, List.getElem?_append_right (by simp), List.getElem?_append_right (by simp [hdL_len])]
  simp [hdL_len]
theorem pgA_torn (i : Nat) (hi : i < 16) : (pgA jb good kv tn now mb sv)[23 + i]? = (setL tn)[i]? := by
  rw [pgA, List.getElem?_toArray, pgL, List.getElem?_append_right (by simp; omega), List.getElem?_append_right (by simp [hdL_len]; omega), List.getElem?_append_right (by simp [hdL_len]; omega), List.getElem?_append_left (by simp [hdL_len, setL_len]; omega)]
  congr 1
  simp [hdL_len]
  omega
theorem pgA_now (i : Nat) (hi : i < 21) : (pgA jb good kv tn now mb sv)[39 + i]? = (hdL now)[i]? := by
  rw [pgA, List.getElem?_toArray, pgL, List.getElem?_append_right (by simp; omega), List.getElem?_append_right (by simp [hdL_len]; omega), List.getElem?_append_right (by simp [hdL_len]; omega), List.getElem?_append_right (by simp [hdL_len, setL_len]; omega), List.getElem?_append_left (by simp [hdL_len, setL_len]; omega)]
  congr 1
  simp [hdL_len, setL_len]
  omega
theorem pgA_end (i : Nat) : (pgA jb good kv tn now mb sv)[60 + i]? = [Value.map (some mb), sv][i]? := by
  rw [pgA, List.getElem?_toArray, pgL, List.getElem?_append_right (by simp; omega), List.getElem?_append_right (by simp [hdL_len]; omega), List.getElem?_append_right (by simp [hdL_len]; omega), List.getElem?_append_right (by simp [hdL_len, setL_len]; omega), List.getElem?_append_right (by simp [hdL_len, setL_len]; omega)]
  congr 1
  simp [hdL_len, setL_len]
  omega
theorem pgA_60 : (pgA jb good kv tn now mb sv)[60]? = some (.map (some mb)) := pgA_end 0
theorem pgA_61 : (pgA jb good kv tn now mb sv)[61]? = some sv := pgA_end 1
theorem pgA_ser : (pgA jb good kv tn now mb sv)[39]? = some (.int .u64 (now.ser : Int)) := pgA_now 0 (by omega)
theorem pgA_root (k : Nat) (hk : k < 4) : (pgA jb good kv tn now mb sv)[40 + k]? = some (.int .i64 ((now.root k : Nat) : Int)) := by
  rw [show 40 + k = 39 + (1 + k) by omega, pgA_now _ (by omega)]
  match k, hk with
  | 0, _ => rfl
  | 1, _ => rfl
  | 2, _ => rfl
  | 3, _ => rfl
theorem pgA_used (j : Nat) (hj : j < 16) : (pgA jb good kv tn now mb sv)[44 + j]? = (setL now.u)[j]? := by
  rw [show 44 + j = 39 + (5 + j) by omega, pgA_now _ (by omega), hdL_set _ _ hj, setL_at _ _ hj]
theorem pgA_one (hk : kv.oneCell' = true) (hs : sv.oneCell' = true) : ∀ v ∈ pgL jb good kv tn now mb sv, v.oneCell' = true := by
  intro v hv
  simp only [pgL, List.mem_append, List.mem_cons, List.not_mem_nil, or_false] at hv
  rcases hv with rfl | hv | rfl | hv | hv | rfl | rfl
  · rfl
  · exact hdL_one _ v hv
  · exact hk
  · exact u8L_one _ v hv
  · exact hdL_one _ v hv
  · rfl
  · exact hs
end
/-- Cells of savepoints. -/
def stV (p : Sn × Nat) : List Value := hdL p.1.h ++ [.map (some p.2)]
theorem stV_len (p : Sn × Nat) : (stV p).length = 22 := by simp [stV, hdL_len]
theorem stV_one (p : Sn × Nat) : ∀ v ∈ stV p, v.oneCell' = true := by
  intro v hv
  unfold stV at hv
  rcases List.mem_append.1 hv with hv | hv
  · exact hdL_one _ v hv
  · simp only [List.mem_cons, List.not_mem_nil, or_false] at hv
    rw [hv]; rfl
def svV (ss : List (Sn × Nat)) : List Value := ss.flatMap stV
theorem svV_len (ss : List (Sn × Nat)) : (svV ss).length = ss.length * 22 := fm_len stV_len ss
theorem svV_one (ss : List (Sn × Nat)) : ∀ v ∈ svV ss, v.oneCell' = true := by
  intro v hv
  simp only [svV, List.mem_flatMap] at hv
  obtain ⟨p, _, hv⟩ := hv
  exact stV_one p v hv
/-- The blocks that are a pager's own. -/
def Own (pb kb mb : Nat) (sa : Option Addr) (ss : List (Sn × Nat)) (x : Nat) : Prop := x = pb ∨ x = kb ∨ x = mb ∨ ob sa = some x ∨ x ∈ ss.map Prod.snd
/-- What lies in F stays. -/
structure Fr (F : Nat → Prop) (w : World) (F' : Nat → Prop) (w' : World) : Prop where
  sz : w.heap.size ≤ w'.heap.size
  sub : ∀ x, F x → F' x
  blk : ∀ x, F x → x < w.heap.size → w'.heap[x]? = w.heap[x]?
theorem Fr.refl (F : Nat → Prop) (w : World) : Fr F w F w := ⟨Nat.le_refl _, fun _ h => h, fun _ _ _ => rfl⟩
theorem Fr.trans {F F' F'' : Nat → Prop} {w w' w'' : World} (h : Fr F w F' w') (k : Fr F' w' F'' w'') : Fr F w F'' w'' :=
  ⟨Nat.le_trans h.sz k.sz, fun x hx => k.sub x (h.sub x hx), fun x hx hl => (k.blk x (h.sub x hx) (Nat.lt_of_lt_of_le hl h.sz)).trans (h.blk x hx hl)⟩
theorem Rw.fr {F F' : Nat → Prop} {w w' : World} {et sz : Nat} {a : Option Addr} {len cap : Nat} {xs : List Value} (h : Rw F w et sz a len cap xs) (f : Fr F w F' w') : Rw F' w' et sz a len cap xs := by
  obtain ⟨h1, h2, h3, h4⟩ := h
  refine ⟨h1, h2, h3, fun h0 => ?_⟩
  obtain ⟨b, o, rfl, hb, hg, hc⟩ := h4 h0
  exact ⟨b, o, rfl, Nat.lt_of_lt_of_le hb f.sz, f.sub b hg, fun j u hu => by rw [World.cell?_of_block (w := w) (f.blk b hg hb)]; exact hc j u hu⟩
def mor (F : Nat → Prop) (w w' : World) : Nat → Prop := fun x => F x ∨ (w.heap.size ≤ x ∧ x < w'.heap.size)
theorem Fr.below {F : Nat → Prop} {w w' : World} (hb : Below w.heap.size w w') : Fr F w (mor F w w') w' := ⟨hb.size, fun _ h => .inl h, fun x _ hl => hb.block x hl⟩
/-- A pager that lies in memory: h0 is where all begins that may be turned; F are blocks that stay. -/
structure Pl (h0 : Nat) (F : Nat → Prop) (w : World) (S : Nat → Prop) (g : Nat) (D : Dk) (pb jb n kb kc mb : Nat) (sa : Option Addr) (sc : Nat) (ss : List (Sn × Nat)) (X : Px) : Prop where
  disk : DiskIs w S g D
  jat : Jat w jb g n
  c : w.heap[pb]? = some (.cells (pgA jb X.good (.slice (some ⟨kb, 0, none⟩) n kc) (noT n) X.now.h mb (.slice sa ss.length sc)) 109 (0, 0))
  k : w.ownsRow 0 9 1 (.slice (some ⟨kb, 0, none⟩) n kc) n (strsV X.kept)
  m : MapIs w mb X.now.m
  s : w.ownsRow 0 105 22 (.slice sa ss.length sc) ss.length (svV ss)
  sx : X.saves = ss.map Prod.fst
  sm : ∀ p ∈ ss, MapIs w p.2 p.1.m
  nd : (mb :: ss.map Prod.snd).Nodup
  ap : ∀ x, Own pb kb mb sa ss x → ¬ S x ∧ x ≠ jb ∧ h0 ≤ x
  fF : ∀ x, F x → ¬ S x ∧ ¬ Own pb kb mb sa ss x ∧ x ≠ jb ∧ x < w.heap.size
  sj : ¬ S jb
  h0S : ∀ x, S x → h0 ≤ x
  h0w : h0 ≤ w.heap.size
  n2 : 2 ≤ n
  n12 : n ≤ 12
def Pgr (h0 : Nat) (F : Nat → Prop) (w : World) (S : Nat → Prop) (g : Nat) (D : Dk) (pb jb n : Nat) (X : Px) : Prop := X.Ok n ∧ ∃ kb kc mb sa sc ss, Pl h0 F w S g D pb jb n kb kc mb sa sc ss X
section
variable {h0 : Nat} {F : Nat → Prop} {w w' : World} {S : Nat → Prop} {g : Nat} {D : Dk} {pb jb n kb kc mb : Nat} {sa : Option Addr} {sc : Nat} {ss : List (Sn × Nat)} {X : Px}
theorem Pl.lt (h : Pl h0 F w S g D pb jb n kb kc mb sa sc ss X) : ∀ x, Own pb kb mb sa ss x → x < w.heap.size := by
  rintro x (rfl | rfl | rfl | hx | hx)
  · exact lt_of_some h.c
  · exact (h.k.lt x rfl).2
  · exact h.m.lt
  · exact (h.s.lt x (by rw [ob_slice]; exact hx)).2
  · obtain ⟨p, hp, rfl⟩ := List.mem_map.1 hx
    exact (h.sm p hp).lt
theorem Pl.keep (h : Pl h0 F w S g D pb jb n kb kc mb sa sc ss X) {F' : Nat → Prop} {S' : Nat → Prop} {D' : Dk} (hd : DiskIs w' S' g D') (hj : Jat w' jb g n) (hk : ∀ x, Own pb kb mb sa ss x → w'.heap[x]? = w.heap[x]?) (hS : ∀ x, S' x → h0 ≤ x) (hSj : ¬ S' jb) (hSo : ∀ x, Own pb kb mb sa ss x → ¬ S' x) (hF : ∀ x, F' x → ¬ S' x ∧ ¬ Own pb kb mb sa ss x ∧ x ≠ jb ∧ x < w'.heap.size) (hw : w.heap.size ≤ w'.heap.size) : Pl h0 F' w' S' g D' pb jb n kb kc mb sa sc ss X :=
  { h with
    disk := hd
    jat := hj
    c := (hk pb (.inl rfl)).trans h.c
    k := own_keep h.k (fun x hx => hk x (by cases hx; exact .inr (.inl rfl)))
    m := h.m.keep (hk mb (.inr (.inr (.inl rfl))))
    s := own_keep h.s (fun x hx => hk x (.inr (.inr (.inr (.inl (by rw [ob_slice] at hx; exact hx))))))
    sm := fun p hp => (h.sm p hp).keep (hk p.2 (.inr (.inr (.inr (.inr (List.mem_map.2 ⟨p, hp, rfl⟩))))))
    ap := fun x hx => ⟨hSo x hx, (h.ap x hx).2⟩
    fF := hF
    sj := hSj
    h0S := hS
    h0w := Nat.le_trans h.h0w hw }
theorem Pl.below (h : Pl h0 F w S g D pb jb n kb kc mb sa sc ss X) (hb : Below w.heap.size w w') : Pl h0 (mor F w w') w' S g D pb jb n kb kc mb sa sc ss X := by
  refine h.keep (h.disk.below hb) (h.jat.below hb) (fun x hx => hb.block x (h.lt x hx)) h.h0S h.sj (fun x hx => (h.ap x hx).1) (fun x hx => ?_) hb.size
  rcases hx with hx | ⟨hx, hl⟩
  · have := h.fF x hx
    exact ⟨this.1, this.2.1, this.2.2.1, Nat.lt_of_lt_of_le this.2.2.2 hb.size⟩
  · refine ⟨fun hs => ?_, fun ho => ?_, fun e => ?_, hl⟩
    · have := h.disk.bd x hs; omega
    · have := h.lt x ho; omega
    · have := h.jat.lt; omega
theorem Pgr.below (h : Pgr h0 F w S g D pb jb n X) (hb : Below w.heap.size w w') : Pgr h0 (mor F w w') w' S g D pb jb n X := by
  obtain ⟨hok, kb, kc, mb, sa, sc, ss, h⟩ := h
  exact ⟨hok, kb, kc, mb, sa, sc, ss, h.below hb⟩
theorem Pl.cells (h : Pl h0 F w S g D pb jb n kb kc mb sa sc ss X) : w.cell? ⟨pb, 0, none⟩ = some (.pointer (some ⟨jb, 0, none⟩)) ∧ w.cell? ⟨pb, 22, none⟩ = some (.slice (some ⟨kb, 0, none⟩) n kc) ∧ w.cell? ⟨pb, 39, none⟩ = some (.int .u64 (X.now.h.ser : Int)) ∧ w.cell? ⟨pb, 60, none⟩ = some (.map (some mb)) ∧ w.cell? ⟨pb, 61, none⟩ = some (.slice sa ss.length sc) := by
  refine ⟨?_, ?_, ?_, ?_, ?_⟩ <;> rw [cell_of_row w pb _ _ _ _ h.c]
  · exact pgA_0
  · exact pgA_22
  · exact pgA_ser
  · exact pgA_60
  · exact pgA_61
theorem Pl.fro (h : Pl h0 F w S g D pb jb n kb kc mb sa sc ss X) (i : Nat) : w.frozen? ⟨pb, i, none⟩ = false := frozen_of_row w pb i _ _ h.c
theorem Pl.lused (h : Pl h0 F w S g D pb jb n kb kc mb sa sc ss X) : (loadVar 98 ⟨pb, 44, none⟩).run Tryz.prog w = .ok (.agg (setA X.now.h.u)) w := load_used w pb 44 X.now.h _ _ _ h.c (fun _ hj => pgA_used _ hj)
theorem Pl.ltorn (h : Pl h0 F w S g D pb jb n kb kc mb sa sc ss X) : (loadVar 98 ⟨pb, 23, none⟩).run Tryz.prog w = .ok (.agg (setA (noT n))) w := load_used w pb 23 ⟨0, 0, 0, 0, 0, noT n⟩ _ _ _ h.c (fun _ hj => pgA_torn _ hj)
theorem Pl.lnow (h : Pl h0 F w S g D pb jb n kb kc mb sa sc ss X) : (loadVar 100 ⟨pb, 39, none⟩).run Tryz.prog w = .ok (.agg (hdA X.now.h)) w :=
  load_part w pb 39 100 _ _ _ _ (hdL X.now.h) h.c Tryz.underlying100 rfl (by rw [hdL_len]; kernel_rfl) (fun j v hv => by
    have hj : j < 21 := by have := (List.getElem?_eq_some_iff.1 hv).1; rwa [hdL_len] at this
    rw [pgA_now j hj]; exact hv)
theorem Pl.lgood (h : Pl h0 F w S g D pb jb n kb kc mb sa sc ss X) : (loadVar 100 ⟨pb, 1, none⟩).run Tryz.prog w = .ok (.agg (hdA X.good)) w :=
  load_part w pb 1 100 _ _ _ _ (hdL X.good) h.c Tryz.underlying100 rfl (by rw [hdL_len]; kernel_rfl) (fun j v hv => by
    have hj : j < 21 := by have := (List.getElem?_eq_some_iff.1 hv).1; rwa [hdL_len] at this
    rw [pgA_good j hj]; exact hv)
theorem Pl.len (h : Pl h0 F w S g D pb jb n kb kc mb sa sc ss X) : ss.length = X.saves.length := by rw [h.sx, List.length_map]
end
end Go.Proofs.YtdgffocmdkadpaaGreat
