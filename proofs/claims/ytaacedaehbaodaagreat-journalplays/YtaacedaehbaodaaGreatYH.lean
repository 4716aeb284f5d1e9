/- What JournalPlays wants: the steps that came in, light, both disks beside a journal, what a disk of a store's keeps. -/
import Derived.Test.YtaacedaehbaodaaGreatYG
import Derived.Test.YtaacedaehbaodaaGreatJP
import Derived.Test.YtaacedaehbaodaaGreatJHW
import Derived.Deep.Slices
namespace Go.Proofs.YtaacedaehbaodaaGreat
open Go.ChangeShapes Go.WideShapes Go.ChangeAt Go.RowKit Go.Deep Go.Shelf
/-- A step, as the walk is told it. -/
structure OpV where
  kind : Int
  n : Int
  p : Option Addr
  pl : Nat
  pc : Nat
  puts : List PutV
  q : Option Addr
  ql : Nat
  qc : Nat
  picks : List Bool
instance : Inhabited OpV := ⟨⟨0, 0, none, 0, 0, [], none, 0, 0, []⟩⟩
structure OpV.In (w : World) (o : OpV) : Prop where
  n1 : -9223372036854775808 ≤ o.n
  n2 : o.n ≤ 9223372036854775807
  p : Ps w o.p o.pl o.pc o.puts
  q : Bls w o.q o.ql o.qc o.picks
def Os (w : World) (a : Option Addr) (len cap : Nat) (l : List OpV) : Prop :=
  l.length = len ∧ len ≤ cap ∧ cap ≤ 9223372036854775807 ∧ (0 < len → ∃ b o, a = some ⟨b, o, none⟩ ∧ b < w.heap.size ∧ ∀ i (h : i < l.length),
    w.cell? ⟨b, o + i * 4, none⟩ = some (.int .i64 l[i].kind) ∧ w.cell? ⟨b, o + i * 4 + 1, none⟩ = some (.int .i64 l[i].n) ∧ w.cell? ⟨b, o + i * 4 + 2, none⟩ = some (.slice l[i].p l[i].pl l[i].pc) ∧
      w.cell? ⟨b, o + i * 4 + 3, none⟩ = some (.slice l[i].q l[i].ql l[i].qc) ∧ l[i].In w)
theorem cells41 : Tryz.prog.cellsOf 41 = 4 := by kernel_rfl
theorem sl_of {H : Type} {enc : TypeId × Value → H} {W : World} {base : Nat} {spare : Nat → Bool} {held : Bool} {fuel : Nat} {t e : TypeId} {c : Value} {x : DataW H × List MemPlace} (ht : Tryz.prog.underlying t = some (.slice e))
    (hf : DataW.trod enc Tryz.prog W base spare held fuel t [c] = some x) : ∃ a len cap, c = .slice a len cap := by
  rcases open_slice ht hf with ⟨hcs, _⟩ | ⟨ad, l, c, m, n, D, Pl, hcs, _⟩
  · simp only [List.cons.injEq, and_true] at hcs
    exact ⟨_, _, _, hcs⟩
  · simp only [List.cons.injEq, and_true] at hcs
    exact ⟨_, _, _, hcs⟩
set_option maxRecDepth 100000 in
theorem op_of {H : Type} {enc : TypeId × Value → H} {W : World} {base : Nat} {spare : Nat → Bool} {held : Bool} {fuel : Nat} {cs : List Value} {x : DataW H × List MemPlace}
    (hf : DataW.trod enc Tryz.prog W base spare held fuel 41 cs = some x) : ∃ o : OpV, cs = [.int .i64 o.kind, .int .i64 o.n, .slice o.p o.pl o.pc, .slice o.q o.ql o.qc] ∧ o.In W := by
  obtain ⟨xs, n, _, _, hl, hx, hi⟩ := DataW.trod_struct Tryz.underlying41 hf
  rw [cells41] at hl
  match cs, hl with
  | [c0, c1, c2, c3], _ =>
    match xs, hx with
    | [x0, x1, x2, x3], _ =>
      have h0 : DataW.trod enc Tryz.prog W base spare held n 3 (([c0, c1, c2, c3].drop 0).take (Tryz.prog.cellsOf 3)) = some x0 := hi 0 _ rfl
      rw [show Tryz.prog.cellsOf 3 = 1 by kernel_rfl, show ([c0, c1, c2, c3].drop 0).take 1 = [c0] from rfl] at h0
      have h1 : DataW.trod enc Tryz.prog W base spare held n 3 (([c0, c1, c2, c3].drop 1).take (Tryz.prog.cellsOf 3)) = some x1 := hi 1 _ rfl
      rw [show Tryz.prog.cellsOf 3 = 1 by kernel_rfl, show ([c0, c1, c2, c3].drop 1).take 1 = [c1] from rfl] at h1
      have h2 : DataW.trod enc Tryz.prog W base spare held n 38 (([c0, c1, c2, c3].drop 2).take (Tryz.prog.cellsOf 38)) = some x2 := hi 2 _ rfl
      rw [show Tryz.prog.cellsOf 38 = 1 by kernel_rfl, show ([c0, c1, c2, c3].drop 2).take 1 = [c2] from rfl] at h2
      have h3 : DataW.trod enc Tryz.prog W base spare held n 39 (([c0, c1, c2, c3].drop 3).take (Tryz.prog.cellsOf 39)) = some x3 := hi 3 _ rfl
      rw [show Tryz.prog.cellsOf 39 = 1 by kernel_rfl, show ([c0, c1, c2, c3].drop 3).take 1 = [c3] from rfl] at h3
      obtain ⟨k, e0, _, _⟩ := DataW.trod_int Tryz.underlying3 h0
      obtain ⟨a, e1, _, w1⟩ := DataW.trod_int Tryz.underlying3 h1
      simp only [List.cons.injEq, and_true] at e0 e1
      obtain ⟨a2, n2, p2, rfl⟩ := sl_of Tryz.underlying38 h2
      obtain ⟨a3, n3, p3, rfl⟩ := sl_of Tryz.underlying39 h3
      subst e0 e1
      obtain ⟨lp, hlp⟩ := puts_of h2
      obtain ⟨bs, hbs⟩ := bools_of h3
      exact ⟨⟨k, a, a2, n2, p2, lp, a3, n3, p3, bs⟩, rfl, (wf_i64 w1).1, (wf_i64 w1).2, hlp, hbs⟩
theorem ops_of {H : Type} {enc : TypeId × Value → H} {W : World} {base : Nat} {spare : Nat → Bool} {held : Bool} {fuel : Nat} {a : Option Addr} {len cap : Nat} {x : DataW H × List MemPlace}
    (hf : DataW.trod enc Tryz.prog W base spare held fuel 22 [.slice a len cap] = some x) : ∃ l, Os W a len cap l := by
  rcases open_slice Tryz.underlying22 hf with ⟨hcs, _⟩ | ⟨ad, l, c, m, n, D, Pl, hcs, _, hl, hm, hmm, _, hV⟩
  · simp only [List.cons.injEq, Value.slice.injEq, and_true] at hcs
    obtain ⟨rfl, rfl, rfl⟩ := hcs
    exact ⟨[], rfl, by omega, by omega, by omega⟩
  · simp only [List.cons.injEq, Value.slice.injEq, and_true] at hcs
    obtain ⟨rfl, rfl, rfl⟩ := hcs
    have hlm : len ≤ m := by rw [hmm]; split <;> omega
    rw [cells41] at hV
    have hb : ∀ i, i < len → ∃ o : OpV, (W.cell? (ad.add (i * 4)) = some (.int .i64 o.kind) ∧ W.cell? ((ad.add (i * 4)).add 1) = some (.int .i64 o.n) ∧ W.cell? ((ad.add (i * 4)).add 2) = some (.slice o.p o.pl o.pc) ∧ W.cell? ((ad.add (i * 4)).add 3) = some (.slice o.q o.ql o.qc)) ∧ o.In W := by
      intro i hi
      obtain ⟨cs', h1, h2⟩ := hV i (by omega)
      obtain ⟨o, rfl, hr⟩ := op_of h2
      obtain ⟨_, _, hc⟩ := World.cells?_some h1
      refine ⟨o, ⟨?_, hc 1 (by omega), hc 2 (by omega), hc 3 (by omega)⟩, hr⟩
      have := hc 0 (by omega)
      rwa [show (ad.add (i * 4)).add 0 = ad.add (i * 4) by rw [add_add, Nat.add_zero]] at this
    obtain ⟨f, hf⟩ := choose_lt (α := OpV) hb
    refine ⟨(List.range len).map f, by simp, hl, by simpa [maxLen] using hm, fun h0 => ?_⟩
    obtain ⟨bb, oo, spot⟩ := ad
    have hspot : spot = none := by simpa [Addr.add] using World.cell?_spot (hf 0 h0).1.1
    subst hspot
    refine ⟨bb, oo, rfl, ?_, fun i hi => ?_⟩
    · have := World.block_lt_of_cell? W _ (hf 0 h0).1.1
      rwa [add_at] at this
    · simp only [List.length_map, List.length_range] at hi
      have := hf i hi
      simp only [add_at] at this
      simp only [List.getElem_map, List.getElem_range]
      exact ⟨this.1.1, this.1.2.1, this.1.2.2.1, this.1.2.2.2, this.2⟩
set_option maxHeartbeats 1000000 in
theorem light_any (k N : Int) (p : Option Addr) (pl pc : Nat) (q : Option Addr) (ql qc : Nat) (w : World) : Calls Tryz.prog 9 #[.agg #[.int .i64 k, .int .i64 N, .slice p pl pc, .slice q ql qc]] w fun e w' => e = .returned (.bool (decide (ql ≤ 300 ∧ pl ≤ 100))) ∧ Below w.heap.size w w' := by
  obtain ⟨W1, hW1⟩ : ∃ W1, w.alloc (.cells #[.int .i64 k, .int .i64 N, .slice p pl pc, .slice q ql qc] 41) = W1 := ⟨_, rfl⟩
  have hb : Below w.heap.size w W1 := by rw [← hW1]; exact (Below.refl _ w).alloc (Nat.le_refl _) _
  have c2 : W1.cell? ⟨w.heap.size, 2, none⟩ = some (.slice p pl pc) := by
    rw [← hW1, cell_of_row _ w.heap.size _ _ _ _ (heap_alloc_new w _)]; rfl
  have c3 : W1.cell? ⟨w.heap.size, 3, none⟩ = some (.slice q ql qc) := by
    rw [← hW1, cell_of_row _ w.heap.size _ _ _ _ (heap_alloc_new w _)]; rfl
  by_cases hq : ql ≤ 300
  · have k1 : (ql : Int) ≤ 300 := by omega
    by_cases hp : pl ≤ 100
    · have k2 : (pl : Int) ≤ 100 := by omega
      rw [decide_eq_true ⟨hq, hp⟩]
      go_enter Tryz.func9, Tryz.ntmps9
      go_wp2
      go_ret
      exact ⟨ret_bool (by simp), hb⟩
    · have k2 : ¬ (pl : Int) ≤ 100 := by omega
      rw [decide_eq_false (fun e => hp e.2)]
      go_enter Tryz.func9, Tryz.ntmps9
      go_wp2
      go_ret
      exact ⟨ret_bool (by simp), hb⟩
  · have k1 : ¬ (ql : Int) ≤ 300 := by omega
    rw [decide_eq_false (fun e => hq e.1)]
    go_enter Tryz.func9, Tryz.ntmps9
    go_wp2
    go_ret
    exact ⟨ret_bool (by simp), hb⟩
/-- What the disk of a store keeps, behind whatever step. -/
structure Inv (n : Nat) (D : Dk) : Prop where
  ln : D.kept.length = 8 * n + 1
  sz : D.Sz
  wt : D.up = true → D.waits = []
theorem run_end (D : Dk) (ys : List Stp) (h : (runS D (ys ++ [none])).up = true) : (runS D (ys ++ [none])).waits = [] := by
  induction ys generalizing D with
  | nil =>
    simp only [List.nil_append, runS] at h ⊢
    by_cases hu : D.up = true
    · rw [if_pos hu]; rfl
    · rw [if_neg hu] at h; exact absurd h hu
  | cons s l ih =>
    simp only [List.cons_append, runS] at h ⊢
    by_cases hu : D.up = true
    · rw [if_pos hu] at h ⊢
      exact ih _ h
    · rw [if_neg hu] at h; exact absurd h hu
theorem comSteps_len (n : Nat) (l : List Chi) : (comSteps n l).length ≤ 8 * l.length + 6 := by
  unfold comSteps
  split
  · simp
  · unfold commitS finS markL
    simp only [List.length_append, layL_len, srtC_len, List.length_cons, List.length_nil]
    omega
theorem recS_len (n : Nat) (K : List ByteArray) : (recS n K).length ≤ 4 * n + 3 := by
  have := recUp_len K n
  rw [recUp_all] at this
  unfold recS
  split
  · simp
  · unfold finS markL
    simp only [List.length_append, layL_len, List.length_cons, List.length_nil]
    omega
theorem com_ok {n : Nat} {l : List Chi} (hn : n ≤ 128) (hck : chk n l = 0) : ∀ q, some q ∈ commitS n (srtC l) (markOf (pagesL l)) → q.1 < 8 * n + 1 ∧ q.2.size = 256 := by
  intro q hq
  obtain ⟨_, r2, _, r4⟩ := com_ready hn hck
  have hL : ∀ c ∈ srtC l, c.1 < n ∧ c.2.size = 1024 := fun c hc => ⟨r2 c hc, r4 c hc⟩
  have hms : (markOf (pagesL l)).size = 256 := by
    show (markBs (pagesL l)).toArray.size = 256
    rw [List.size_toArray, markBs_len]
  rw [commitS_is] at hq
  simp only [List.mem_append, List.mem_cons, Option.some.injEq, List.not_mem_nil, or_false, reduceCtorEq, false_or] at hq
  rcases hq with ((hq | hq) | hq) | hq
  · have := lays_ok hL hq
    exact ⟨by omega, this.2.2⟩
  · subst hq
    exact ⟨by show 0 < _; omega, hms⟩
  · have := lays_ok hL hq
    exact ⟨by omega, this.2.2⟩
  · subst hq
    exact ⟨by show 0 < _; omega, nought0_size⟩
theorem Inv.com {n : Nat} {D : Dk} (h : Inv n D) (hn : n ≤ 128) (l : List Chi) : Inv n (comDisk n D l) := by
  unfold comDisk
  by_cases hc : chk n l = 0 ∧ D.up = true
  · rw [if_pos hc]
    refine ⟨(runS_len _ _).trans h.ln, h.sz.run _ (comSteps_sz hn hc.1), fun hu => ?_⟩
    unfold comSteps at hu ⊢
    by_cases hl : l = []
    · rw [if_pos hl] at hu ⊢
      exact h.wt hc.2
    · rw [if_neg hl] at hu ⊢
      rw [commitS_is, show ∀ (A : List Stp) (x y z : Stp), A ++ [x, y, z] = (A ++ [x, y]) ++ [z] by simp] at hu ⊢
      exact run_end _ _ hu
  · rw [if_neg hc]; exact h
theorem com_writes {n : Nat} {D : Dk} (l : List Chi) (hl : l.length ≤ 12) : (comDisk n D l).writes ≤ D.writes + 102 := by
  unfold comDisk
  split
  · have h1 := runS_writes D (comSteps n l)
    have h2 := comSteps_len n l
    omega
  · omega
theorem Inv.fput {n : Nat} {D : Dk} (h : Inv n D) (k : Int) : Inv n (D.fput k) ∧ (D.fput k).writes = D.writes := by
  unfold Dk.fput
  split
  · exact ⟨⟨h.ln, h.sz.fused _, h.wt⟩, rfl⟩
  · exact ⟨h, rfl⟩
theorem sput_failed (D : Dk) (p : Nat → Bool) : (D.failed p).sput = (D.failed p).started := by
  unfold Dk.sput
  rw [if_neg]
  rintro (h | h)
  · simp [Dk.failed] at h
  · simp [Dk.failed, Dk.settled] at h
theorem Inv.restart {n : Nat} {D : Dk} (h : Inv n D) (p : Nat → Bool) : Inv n ((D.failed p).started) ∧ ((D.failed p).started).up = true ∧ ((D.failed p).started).fuse = 0 ∧ ((D.failed p).started).waits = [] ∧ ((D.failed p).started).writes = D.writes :=
  ⟨⟨by show (upTo _ _ _ _).length = _; rw [upTo_len]; exact h.ln, (h.sz.failed p).started, fun _ => rfl⟩, rfl, rfl, rfl, rfl⟩
theorem Inv.open {n : Nat} {D : Dk} (h : Inv n D) (hu : D.up = true) (hf : D.fuse = 0) : Inv n (runS D (recS n D.kept)) ∧ codeS D (recS n D.kept) = 0 ∧ (runS D (recS n D.kept)).writes ≤ D.writes + (4 * n + 3) := by
  refine ⟨⟨(runS_len _ _).trans h.ln, h.sz.run _ (fun q hq => ?_), fun hu' => ?_⟩, (runS_free D _ hu hf).1, Nat.le_trans (runS_writes _ _) (Nat.add_le_add_left (recS_len _ _) _)⟩
  · unfold recS at hq
    split at hq
    · simp at hq
    · exact finS_sz (fun c hc => by
        have hc' := recUp_mem (i := n) hc
        rw [hc'.2]
        exact page_sz h.sz.k _ (by have := h.ln; omega)) q hq
  · by_cases hl : recL n D.kept = []
    · rw [recS_nil hl]
      exact h.wt hu
    · rw [recS_cons hl, show ∀ (A : List Stp) (x y z : Stp), A ++ [x, y, z] = (A ++ [x, y]) ++ [z] by simp] at hu' ⊢
      exact run_end _ _ hu'
theorem Inv.new (n : Nat) : Inv n (Dk.new (8 * n + 1) nought) :=
  ⟨by simp [Dk.new], (Good.new n).sz, fun _ => rfl⟩
theorem new_open (n : Nat) : recS n (Dk.new (8 * n + 1) nought).kept = [] := rec_tidy (Good.new n).td
theorem RefAt.fput {w : World} {lb lc : Nat} {wa : Option Addr} {wc : Nat} {D : Dk} (h : RefAt w lb lc wa wc D) (n : Int) (hn : n ≤ 9223372036854775807) : RefAt w lb lc wa wc (D.fput n) := by
  unfold Dk.fput
  split
  · exact ⟨h.ok.fused _ (by omega), h.l, h.q, h.z⟩
  · exact h
theorem RefAt.sput {w : World} {lb lc : Nat} {wa : Option Addr} {wc : Nat} {D : Dk} (h : RefAt w lb lc wa wc D) : RefAt w lb lc wa wc D.sput := by
  unfold Dk.sput
  split
  · exact h
  · exact ⟨h.ok.started, h.l, h.q, h.z⟩
/-- Both disks, the journal, the variable of the document's disk, and one block more. -/
structure St (w0 : World) (n xb xo : Nat) (oo : Obj) (S : Nat → Prop) (g jb : Nat) (Dd : Dk) (lb lc : Nat) (wa : Option Addr) (wc : Nat) (Dr : Dk) (xv : Array Value) (V : World) : Prop where
  bl : Below w0.heap.size w0 V
  d : DiskIs V S g Dd
  r : RefAt V lb lc wa wc Dr
  j : Jat V jb g n
  hx : V.heap[xb]? = some (.cells xv 32 (0, 0))
  ho : V.heap[xo]? = some oo
  sS : ∀ x, S x → w0.heap.size ≤ x
  nx : w0.heap.size ≤ xb
  sx : ¬ S xb
  so : ¬ S xo
  sj : ¬ S jb
  nl : ¬ S lb
  nw : ∀ x, ob wa = some x → ¬ S x
  lx : lb ≠ xb
  qx : ∀ x, ob wa = some x → x ≠ xb
  jx : jb ≠ xb
  ox : xo ≠ xb
section
variable {w0 : World} {n xb xo : Nat} {oo : Obj} {S : Nat → Prop} {g jb : Nat} {Dd : Dk} {lb lc : Nat} {wa : Option Addr} {wc : Nat} {Dr : Dk} {xv : Array Value} {V V' : World}
theorem St.keep (h : St w0 n xb xo oo S g jb Dd lb lc wa wc Dr xv V) (hb : Below V.heap.size V V') : St w0 n xb xo oo S g jb Dd lb lc wa wc Dr xv V' :=
  { h with
    bl := h.bl.trans (hb.mono h.bl.size)
    d := h.d.below hb
    r := h.r.below hb
    j := (hb.block _ (lt_of_some h.j)).trans h.j
    hx := (hb.block _ (lt_of_some h.hx)).trans h.hx
    ho := (hb.block _ (lt_of_some h.ho)).trans h.ho }
theorem St.ref (h : St w0 n xb xo oo S g jb Dd lb lc wa wc Dr xv V) {lb' lc' : Nat} {wa' : Option Addr} {wc' : Nat} {Dr' : Dk} (hr : RefAt V' lb' lc' wa' wc' Dr') (ht : RefTo V V' lb wa lb' wa') : St w0 n xb xo oo S g jb Dd lb' lc' wa' wc' Dr' xv V' := by
  have hk := h.keep ht.b
  have e4 := lt_of_some h.hx
  refine { hk with r := hr, nl := ?_, nw := ?_, lx := ?_, qx := ?_ }
  · rcases ht.l with rfl | hl
    · exact h.nl
    · intro hs
      have := h.d.bd _ hs
      omega
  · intro x hx
    rcases ht.q x hx with hq | hq
    · exact h.nw x hq
    · intro hs
      have := h.d.bd _ hs
      omega
  · rcases ht.l with rfl | hl
    · exact h.lx
    · omega
  · intro x hx
    rcases ht.q x hx with hq | hq
    · exact h.qx x hq
    · omega
theorem St.turn (h : St w0 n xb xo oo S g jb Dd lb lc wa wc Dr xv V) {S' : Nat → Prop} {Dd' : Dk} (hd : DiskIs V' S' g Dd') (hu : Upd S V V') (hs : ∀ x, S' x → S x ∨ V.heap.size ≤ x) : St w0 n xb xo oo S' g jb Dd' lb lc wa wc Dr xv V' := by
  have el := h.r.lt
  have hno : ∀ x, x < V.heap.size → ¬ S x → ¬ S' x := fun x hx hS hS' => by
    rcases hs x hS' with h1 | h1
    · exact hS h1
    · omega
  exact
    { h with
      bl := h.bl.trans (hu.below h.bl.size h.sS)
      d := hd
      r := h.r.keep (hu.block _ el.1 h.nl) (fun x hx => hu.block _ (el.2 x hx) (h.nw x hx))
      j := (hu.block _ (lt_of_some h.j) h.sj).trans h.j
      hx := (hu.block _ (lt_of_some h.hx) h.sx).trans h.hx
      ho := (hu.block _ (lt_of_some h.ho) h.so).trans h.ho
      sS := fun x hx => (hs x hx).elim (h.sS x) (fun h1 => Nat.le_trans h.bl.size h1)
      sx := hno _ (lt_of_some h.hx) h.sx
      so := hno _ (lt_of_some h.ho) h.so
      sj := hno _ (lt_of_some h.j) h.sj
      nl := hno _ el.1 h.nl
      nw := fun x hx => hno _ (el.2 x hx) (h.nw x hx) }
theorem St.mut (h : St w0 n xb xo oo S g jb Dd lb lc wa wc Dr xv V) {Dd' : Dk} (m : Mut S V g Dd' V') : ∃ S', St w0 n xb xo oo S' g jb Dd' lb lc wa wc Dr xv V' := by
  obtain ⟨S', hd, hu, hs⟩ := m
  exact ⟨S', h.turn hd hu hs⟩
/-- Another journal on the same disk. -/
theorem St.jn (h : St w0 n xb xo oo S g jb Dd lb lc wa wc Dr xv V) {jb' : Nat} (hj : Jat V jb' g n) (hs : ¬ S jb') (hx : jb' ≠ xb) : St w0 n xb xo oo S g jb' Dd lb lc wa wc Dr xv V := { h with j := hj, sj := hs, jx := hx }
/-- Another block beside them. -/
theorem St.re (h : St w0 n xb xo oo S g jb Dd lb lc wa wc Dr xv V) {xo' : Nat} {oo' : Obj} (ho : V.heap[xo']? = some oo') (hs : ¬ S xo') (hx : xo' ≠ xb) : St w0 n xb xo' oo' S g jb Dd lb lc wa wc Dr xv V := { h with ho := ho, so := hs, ox := hx }
theorem St.five {c0 c1 c2 c3 c4 : Value} (h : St w0 n xb xo oo S g jb Dd lb lc wa wc Dr #[c0, c1, c2, c3, c4] V) (v0 v1 v2 v3 v4 : Value) :
    St w0 n xb xo oo S g jb Dd lb lc wa wc Dr #[v0, v1, v2, v3, v4] (((((V.setCell ⟨xb, 0, none⟩ v0).setCell ⟨xb, 1, none⟩ v1).setCell ⟨xb, 2, none⟩ v2).setCell ⟨xb, 3, none⟩ v3).setCell ⟨xb, 4, none⟩ v4) :=
  { h with
    bl := five_below' h.bl xb h.nx _ _ _ _ _
    d := h.d.keep (fun _ hx => five_other _ _ _ _ _ _ _ _ (fun e => h.sx (e ▸ hx)))
    r := h.r.keep (five_other _ _ _ _ _ _ _ _ h.lx) (fun x hx => five_other _ _ _ _ _ _ _ _ (h.qx x hx))
    j := (five_other _ _ _ _ _ _ _ _ h.jx).trans h.j
    hx := five_heap _ _ _ _ _ _ _ _ _ _ _ _ _ h.hx
    ho := (five_other _ _ _ _ _ _ _ _ h.ox).trans h.ho }
theorem St.drew (h : St w0 n xb xo oo S g jb Dd lb lc wa wc Dr xv V) : St w0 n xb xo oo S g jb Dd lb lc wa wc Dr xv V.drew := h.keep (Below.refl _ V).drew
theorem St.op {k N p q : Value} (h : St w0 n xb xo (.cells #[k, N, p, q] 41 (0, 0)) S g jb Dd lb lc wa wc Dr xv V) : V.cell? ⟨xo, 0, none⟩ = some k ∧ V.cell? ⟨xo, 1, none⟩ = some N ∧ V.cell? ⟨xo, 2, none⟩ = some p ∧ V.cell? ⟨xo, 3, none⟩ = some q := by
  refine ⟨?_, ?_, ?_, ?_⟩ <;> rw [cell_of_row V xo _ _ _ _ h.ho] <;> rfl
end
end Go.Proofs.YtaacedaehbaodaaGreat
