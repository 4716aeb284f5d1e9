/- What the theorem of the stage wants. -/
import Derived.Test.YtaacedaehbaodaaJL
import Derived.Deep.Slices
namespace Go.Proofs.Ytaacedaehbaodaa
open Go.ChangeShapes Go.WideShapes Go.ChangeAt Go.RowKit Go.Deep Go.Shelf
/-- A Torn, as the walk is told it. -/
structure TornV where
  pages : Int
  a : Option Addr
  al : Nat
  ac : Nat
  la : List PutV
  p : Option Addr
  pl : Nat
  pc : Nat
  lp : List PutV
  cut : Int
  again : Int
  k : Option Addr
  kl : Nat
  kc : Nat
  bk : List Bool
  m : Option Addr
  ml : Nat
  mc : Nat
  bm : List Bool
structure TornV.In (w : World) (x : TornV) : Prop where
  a : Ps w x.a x.al x.ac x.la
  p : Ps w x.p x.pl x.pc x.lp
  k : Bls w x.k x.kl x.kc x.bk
  m : Bls w x.m x.ml x.mc x.bm
  c : x.cut ≤ 9223372036854775807
  g : x.again ≤ 9223372036854775807
theorem cells39 : Try.prog.cellsOf 39 = 7 := by kernel_rfl
theorem sl_of {H : Type} {enc : TypeId × Value → H} {W : World} {base : Nat} {spare : Nat → Bool} {held : Bool} {fuel : Nat} {t e : TypeId} {c : Value} {x : DataW H × List MemPlace} (ht : Try.prog.underlying t = some (.slice e))
    (hf : DataW.trod enc Try.prog W base spare held fuel t [c] = some x) : ∃ a len cap, c = .slice a len cap := by
  rcases open_slice ht hf with ⟨hcs, _⟩ | ⟨ad, l, c, m, n, D, Pl, hcs, _⟩
  · simp only [List.cons.injEq, and_true] at hcs
    exact ⟨_, _, _, hcs⟩
  · simp only [List.cons.injEq, and_true] at hcs
    exact ⟨_, _, _, hcs⟩
set_option maxRecDepth 100000 in
theorem torn_of {H : Type} {enc : TypeId × Value → H} {W : World} {b0 base : Nat} {spare : Nat → Bool} {held : Bool} {v : Value} {d : DataW H} {p : List MemPlace} (hv : Value.okWide Try.prog W .any b0 39 v) (h : DataW.Trod enc Try.prog W base spare held 39 v d p) :
    ∃ x : TornV, v = .agg #[.int .i64 x.pages, .slice x.a x.al x.ac, .slice x.p x.pl x.pc, .int .i64 x.cut, .int .i64 x.again, .slice x.k x.kl x.kc, .slice x.m x.ml x.mc] ∧ x.In W := by
  unfold Value.okWide at hv
  rw [Try.underlying39] at hv
  obtain ⟨cs, rfl, hsz, _⟩ := hv
  rw [cells39] at hsz
  obtain ⟨c0, c1, c2, c3, c4, c5, c6, rfl⟩ : ∃ c0 c1 c2 c3 c4 c5 c6, cs = #[c0, c1, c2, c3, c4, c5, c6] := by
    obtain ⟨l⟩ := cs
    match l, hsz with
    | [c0, c1, c2, c3, c4, c5, c6], _ => exact ⟨c0, c1, c2, c3, c4, c5, c6, rfl⟩
  obtain ⟨fuel, hf⟩ := h
  have hf : DataW.trod enc Try.prog W base spare held fuel 39 [c0, c1, c2, c3, c4, c5, c6] = some (d, p) := by simpa [Value.cells] using hf
  obtain ⟨xs, n, _, _, hl, hx, hi⟩ := DataW.trod_struct Try.underlying39 hf
  match xs, hx with
  | [x0, x1, x2, x3, x4, x5, x6], _ =>
    have h0 : DataW.trod enc Try.prog W base spare held n 3 (([c0, c1, c2, c3, c4, c5, c6].drop 0).take (Try.prog.cellsOf 3)) = some x0 := hi 0 _ rfl
    rw [show Try.prog.cellsOf 3 = 1 by kernel_rfl, show ([c0, c1, c2, c3, c4, c5, c6].drop 0).take 1 = [c0] from rfl] at h0
    have h1 : DataW.trod enc Try.prog W base spare held n 36 (([c0, c1, c2, c3, c4, c5, c6].drop 1).take (Try.prog.cellsOf 36)) = some x1 := hi 1 _ rfl
    rw [show Try.prog.cellsOf 36 = 1 by kernel_rfl, show ([c0, c1, c2, c3, c4, c5, c6].drop 1).take 1 = [c1] from rfl] at h1
    have h2 : DataW.trod enc Try.prog W base spare held n 36 (([c0, c1, c2, c3, c4, c5, c6].drop 2).take (Try.prog.cellsOf 36)) = some x2 := hi 2 _ rfl
    rw [show Try.prog.cellsOf 36 = 1 by kernel_rfl, show ([c0, c1, c2, c3, c4, c5, c6].drop 2).take 1 = [c2] from rfl] at h2
    have h3 : DataW.trod enc Try.prog W base spare held n 3 (([c0, c1, c2, c3, c4, c5, c6].drop 3).take (Try.prog.cellsOf 3)) = some x3 := hi 3 _ rfl
    rw [show Try.prog.cellsOf 3 = 1 by kernel_rfl, show ([c0, c1, c2, c3, c4, c5, c6].drop 3).take 1 = [c3] from rfl] at h3
    have h4 : DataW.trod enc Try.prog W base spare held n 3 (([c0, c1, c2, c3, c4, c5, c6].drop 4).take (Try.prog.cellsOf 3)) = some x4 := hi 4 _ rfl
    rw [show Try.prog.cellsOf 3 = 1 by kernel_rfl, show ([c0, c1, c2, c3, c4, c5, c6].drop 4).take 1 = [c4] from rfl] at h4
    have h5 : DataW.trod enc Try.prog W base spare held n 37 (([c0, c1, c2, c3, c4, c5, c6].drop 5).take (Try.prog.cellsOf 37)) = some x5 := hi 5 _ rfl
    rw [show Try.prog.cellsOf 37 = 1 by kernel_rfl, show ([c0, c1, c2, c3, c4, c5, c6].drop 5).take 1 = [c5] from rfl] at h5
    have h6 : DataW.trod enc Try.prog W base spare held n 37 (([c0, c1, c2, c3, c4, c5, c6].drop 6).take (Try.prog.cellsOf 37)) = some x6 := hi 6 _ rfl
    rw [show Try.prog.cellsOf 37 = 1 by kernel_rfl, show ([c0, c1, c2, c3, c4, c5, c6].drop 6).take 1 = [c6] from rfl] at h6
    obtain ⟨y0, e0, _, w0⟩ := DataW.trod_int Try.underlying3 h0
    obtain ⟨y3, e3, _, w3⟩ := DataW.trod_int Try.underlying3 h3
    obtain ⟨y4, e4, _, w4⟩ := DataW.trod_int Try.underlying3 h4
    simp only [List.cons.injEq, and_true] at e0 e3 e4
    obtain ⟨a1, n1, p1, rfl⟩ := sl_of Try.underlying36 h1
    obtain ⟨a2, n2, p2, rfl⟩ := sl_of Try.underlying36 h2
    obtain ⟨a5, n5, p5, rfl⟩ := sl_of Try.underlying37 h5
    obtain ⟨a6, n6, p6, rfl⟩ := sl_of Try.underlying37 h6
    subst e0 e3 e4
    obtain ⟨la, hla⟩ := puts_of h1
    obtain ⟨lp, hlp⟩ := puts_of h2
    obtain ⟨bk, hbk⟩ := bools_of h5
    obtain ⟨bm, hbm⟩ := bools_of h6
    exact ⟨⟨y0, a1, n1, p1, la, a2, n2, p2, lp, y3, y4, a5, n5, p5, bk, a6, n6, p6, bm⟩, rfl, hla, hlp, hbk, hbm, (wf_i64 w3).2, (wf_i64 w4).2⟩
/-- The pages that are wanted, change by change. -/
def wantL (L : List ByteArray) (l : List Chi) : List ByteArray := l.foldl (fun L c => L.set c.1.toNat c.2) L
theorem wantL_snoc (L : List ByteArray) (l : List Chi) (c : Chi) : wantL L (l ++ [c]) = (wantL L l).set c.1.toNat c.2 := by simp [wantL]
theorem wantL_len (L : List ByteArray) (l : List Chi) : (wantL L l).length = L.length := by
  induction l generalizing L with
  | nil => rfl
  | cons c l ih =>
    show (wantL (L.set c.1.toNat c.2) l).length = _
    rw [ih, List.length_set]
theorem wantL_at (L : List ByteArray) (l : List Chi) (hd : (l.map natC).Pairwise (fun a b => a.1 ≠ b.1)) (i : Nat) (hi : i < L.length) :
    (∀ c ∈ l, c.1.toNat = i → (wantL L l)[i]? = some c.2) ∧ ((∀ c ∈ l, c.1.toNat ≠ i) → (wantL L l)[i]? = L[i]?) := by
  induction l generalizing L with
  | nil => exact ⟨fun c hc => by simp at hc, fun _ => rfl⟩
  | cons x l ih =>
    rw [List.map_cons, List.pairwise_cons] at hd
    obtain ⟨i1, i2⟩ := ih (L.set x.1.toNat x.2) hd.2 (by rw [List.length_set]; exact hi)
    refine ⟨fun c hc he => ?_, fun h => ?_⟩
    · show (wantL (L.set x.1.toNat x.2) l)[i]? = _
      rcases List.mem_cons.1 hc with e | hc
      · subst e
        rw [i2 (fun d hd' e => hd.1 (natC d) (List.mem_map_of_mem hd') (by simp only [natC]; omega)), he, List.getElem?_set_self hi]
      · exact i1 c hc he
    · show (wantL (L.set x.1.toNat x.2) l)[i]? = _
      rw [i2 (fun d hd' => h d (List.mem_cons_of_mem _ hd')), List.getElem?_set_ne (h x (List.mem_cons_self ..))]
/-- What is wanted are the pages behind the commit. -/
theorem want_is {n : Nat} {l : List Chi} (hn : n ≤ 128) (hck : chk n l = 0) (P : Nat → ByteArray) : wantL ((List.range n).map (pgP P)) l = (List.range n).map (pgP (newP P (srtC l))) := by
  obtain ⟨h1, h2, h3⟩ := chk_zero hck
  obtain ⟨_, _, r3, r4⟩ := com_ready hn hck
  have hd := nodup_nat h1 h2
  apply List.ext_getElem?
  intro i
  by_cases hi : i < n
  · obtain ⟨k1, k2⟩ := wantL_at ((List.range n).map (pgP P)) l hd i (by simpa using hi)
    by_cases he : ∃ c ∈ l, c.1.toNat = i
    · obtain ⟨c, hc, hci⟩ := he
      rw [k1 c hc hci, List.getElem?_map, List.getElem?_range hi]
      have hm : natC c ∈ srtC l := (srtC_perm l).symm.subset (List.mem_map_of_mem hc)
      have := pgP_new (P := P) r3 hm (r4 _ hm)
      simp only [natC] at this
      rw [hci] at this
      simp [this]
    · rw [k2 (fun c hc e => he ⟨c, hc, e⟩), List.getElem?_map, List.getElem?_map, List.getElem?_range hi]
      rw [Option.map_some, Option.map_some, pgP_old (fun c hc e => by
        obtain ⟨d, hd', rfl⟩ := List.mem_map.1 ((srtC_perm l).subset hc)
        exact he ⟨d, hd', e⟩)]
  · rw [List.getElem?_eq_none (by rw [wantL_len]; simpa using hi), List.getElem?_eq_none (by simpa using hi)]
theorem good_pages {n : Nat} {D : Dk} (h : Good n D) : pgs n D.kept = (List.range n).map (pgP (ownP n D.kept)) := by
  unfold pgs
  refine List.map_congr_left (fun i hi => page_rec (own_rec h.td) h.td i (by simpa using hi))
theorem comSteps_len (n : Nat) (l : List Chi) : (comSteps n l).length ≤ 8 * l.length + 6 := by
  unfold comSteps
  split
  · simp
  · unfold commitS finS markL
    simp only [List.length_append, layL_len, srtC_len, List.length_cons, List.length_nil]
    omega
theorem recS_len (n : Nat) (K : List ByteArray) : (recS n K).length ≤ 4 * n + 3 := by
  unfold recS
  split
  · simp
  · unfold finS markL
    simp only [List.length_append, layL_len, List.length_cons, List.length_nil]
    have : (recL n K).length ≤ n := by
      unfold recL toldL
      rw [List.length_map]
      exact Nat.le_trans (List.length_filter_le _ _) (by simp)
    omega
/-- A commit under whatever fuse, and a failure with whatever picks: as it was, or as a whole; as a whole, if it was told. -/
theorem torn_math {n : Nat} {D : Dk} (h : Good n D) (hn : n ≤ 128) (l : List Chi) (hck : chk n l = 0) (cut : Nat) (p : Nat → Bool) :
    ∃ Q, Rec n ((comDisk n (D.fused cut) l).failed p).kept Q ∧ (Q = newP (ownP n D.kept) (srtC l) ∨ (¬ comCode n (D.fused cut) l = 0 ∧ Q = ownP n D.kept)) ∧ ((comDisk n (D.fused cut) l).failed p).Sz ∧ ((comDisk n (D.fused cut) l).failed p).kept.length = 8 * n + 1 := by
  have hup : (D.fused cut).up = true := h.up
  have e1 : comDisk n (D.fused cut) l = runS (D.fused cut) (comSteps n l) := by unfold comDisk; rw [if_pos ⟨hck, hup⟩]
  have e2 : comCode n (D.fused cut) l = codeS (D.fused cut) (comSteps n l) := by unfold comCode; rw [if_pos hck, if_pos hup]
  rw [e1, e2]
  have hsz : (runS (D.fused cut) (comSteps n l)).Sz := (h.sz.fused cut).run _ (comSteps_sz hn hck)
  have hlen : ((runS (D.fused cut) (comSteps n l)).failed p).kept.length = 8 * n + 1 := by
    show (upTo _ _ _ _).length = _
    rw [upTo_len, runS_len]
    exact h.ln
  rcases com_safe (D := D.fused cut) hn hup h.wt (by show _ ≤ D.kept.length; rw [h.ln]; exact Nat.le_refl _) h.td l hck with ⟨k1, k2, k3, k4, k5⟩ | ⟨k1, k2, k3⟩
  · refine ⟨newP (ownP n D.kept) (srtC l), ?_, .inl rfl, hsz.failed p, hlen⟩
    show Rec n (upTo (runS (D.fused cut) (comSteps n l)).kept p (runS (D.fused cut) (comSteps n l)).waits (runS (D.fused cut) (comSteps n l)).waits.length) _
    rw [k3]
    exact k5
  · rcases k3 p with k | k
    · exact ⟨ownP n D.kept, k, .inr ⟨by rw [k1]; omega, rfl⟩, hsz.failed p, hlen⟩
    · exact ⟨newP (ownP n D.kept) (srtC l), k, .inl rfl, hsz.failed p, hlen⟩
theorem own_str {W : World} {base a n cap : Nat} {l : List ByteArray} (h : W.ownsRow base 9 1 (.slice (some ⟨a, 0, none⟩) n cap) n (strsV l)) (i : Nat) (hi : i < n) : W.cell? ⟨a, i, none⟩ = some (.string (l.getD i ByteArray.empty)) := by
  have hl := h.1
  rw [strsV_len] at hl
  exact own_at h (by rw [strsV_at, List.getD_eq_getElem?_getD, List.getElem?_eq_getElem (by omega)]; rfl)
theorem own_empty (W : World) (base : Nat) (hb : base ≤ W.heap.size) : (W.alloc (.cells #[] 9)).ownsRow base 9 1 (.slice (some ⟨W.heap.size, 0, none⟩) 0 0) 0 [] :=
  ⟨rfl, .inr ⟨W.heap.size, 0, #[], rfl, hb, heap_alloc_new W _, Nat.le_refl _, by unfold maxLen; omega, rfl, rfl⟩⟩
/-- A store, and beside it two slices of strings of the statement's own. -/
structure Kept2 (w0 w : World) (S : Nat → Prop) (g : Nat) (D : Dk) (a : Option Addr) (c : Nat) (l : List ByteArray) (b : Option Addr) (d : Nat) (k : List ByteArray) (n : Nat) : Prop where
  x : Kept w0 w S g D a n c l
  r : Ss w b n d k
  nr : ∀ x, ob b = some x → ¬ S x
theorem Kept2.below {w0 w w' : World} {S : Nat → Prop} {g : Nat} {D : Dk} {a : Option Addr} {c : Nat} {l : List ByteArray} {b : Option Addr} {d : Nat} {k : List ByteArray} {n : Nat} (h : Kept2 w0 w S g D a c l b d k n) (hb : Below w.heap.size w w') : Kept2 w0 w' S g D a c l b d k n :=
  ⟨h.x.below hb, h.r.below hb, h.nr⟩
theorem Kept2.turn {w0 w w' : World} {S S' : Nat → Prop} {g : Nat} {D D' : Dk} {a : Option Addr} {c : Nat} {l : List ByteArray} {b : Option Addr} {d : Nat} {k : List ByteArray} {n : Nat} (h : Kept2 w0 w S g D a c l b d k n) (h0 : 0 < n) (hd : DiskIs w' S' g D') (hu : Upd S w w') (hs : ∀ x, S' x → S x ∨ w.heap.size ≤ x) : Kept2 w0 w' S' g D' a c l b d k n := by
  have hlt := h.r.lt h0
  exact ⟨h.x.turn h0 hd hu hs, h.r.keep hu.size (fun x hx hl => hu.block x hl (h.nr x hx)), fun x hx hS => (hs x hS).elim (h.nr x hx) (fun k => by have := hlt x hx; omega)⟩
theorem Kept2.mut {w0 w w' : World} {S : Nat → Prop} {g : Nat} {D D' : Dk} {a : Option Addr} {c : Nat} {l : List ByteArray} {b : Option Addr} {d : Nat} {k : List ByteArray} {n : Nat} (h : Kept2 w0 w S g D a c l b d k n) (h0 : 0 < n) (m : Mut S w g D' w') : ∃ S', Kept2 w0 w' S' g D' a c l b d k n := by
  obtain ⟨S', hd, hu, hs⟩ := m
  exact ⟨S', h.turn h0 hd hu hs⟩
end Go.Proofs.Ytaacedaehbaodaa
