/- A pager beside a pair of the statements: how it is turned. -/
import Derived.Test.YtdgffocmdkadpaaGreatRM
namespace Go.Proofs.YtdgffocmdkadpaaGreat
open Go.RowKit Go.Shelf Pg
abbrev but (zb : Nat) (F : Nat → Prop) : Nat → Prop := fun x => F x ∧ x ≠ zb
def Old (F : Nat → Prop) (w : World) (n : Nat) (ov : Value) : Prop := ∃ oa oc os, ov = .slice oa n oc ∧ Rw F w 9 1 oa n oc (strsV os)
theorem Old.fr {F F' : Nat → Prop} {w w' : World} {n : Nat} {ov : Value} (h : Old F w n ov) (f : Fr F w F' w') : Old F' w' n ov := by
  obtain ⟨oa, oc, os, e, ho⟩ := h
  exact ⟨oa, oc, os, e, ho.fr f⟩
theorem Fr.but {F F' : Nat → Prop} {w w' : World} (f : Fr F w F' w') (zb : Nat) : Fr (but zb F) w (but zb F') w' := ⟨f.sz, fun x hx => ⟨f.sub x hx.1, hx.2⟩, fun x hx hl => f.blk x hx.1 hl⟩
theorem mor_but {F : Nat → Prop} {w w' : World} {zb : Nat} (hz : zb < w.heap.size) {x : Nat} (h : mor (but zb F) w w' x) : but zb (mor F w w') x := by
  rcases h with ⟨h1, h2⟩ | ⟨h1, h2⟩
  · exact ⟨.inl h1, h2⟩
  · exact ⟨.inr ⟨h1, h2⟩, by omega⟩
section
variable {F F' : Nat → Prop} {w w' : World} {zb jb jb' pb pb' n : Nat} {gs ns gs' ns' : Array Value} {pv ov pv' ov' : Value}
theorem Zl.turn (h : Zl F w zb jb pb n gs ns pv ov) (hc : w'.heap[zb]? = some (.cells (prA jb' pb' gs' ns' pv' ov') 55 (0, 0))) (hu : Upd (fun x => x = zb) w w') (hs : w'.heap.size = w.heap.size) (gz : gs'.size = 7) (nz : ns'.size = 7) (g : DSt (but zb F) w n (.agg gs')) (s : DSt (but zb F) w n (.agg ns')) (p : Pts (but zb F) w n pv') (o : Old (but zb F) w n ov') : Zl F w' zb jb' pb' n gs' ns' pv' ov' ∧ Fr (but zb F) w (but zb F) w' := by
  have f2 : Fr (but zb F) w (but zb F) w' := ⟨by omega, fun _ hx => hx, fun x hx hl => hu.block x hl hx.2⟩
  exact ⟨⟨hc, gz, nz, g.fr f2, s.fr f2, p.fr f2, o.fr f2, h.f⟩, f2⟩
theorem prA_eq {a b : Array Value} (h : a.size = b.size) (e : ∀ i, i < a.size → a[i]? = b[i]?) : a = b := pgA_eq h e
theorem prL_pts (hg : gs.size = 7) (hn : ns.size = 7) : (prL jb pb gs ns pv ov).set 16 pv' = prL jb pb gs ns pv' ov := by
  have hl : ([Value.pointer (some ⟨jb, 0, none⟩), Value.pointer (some ⟨pb, 0, none⟩)] ++ gs.toList).length = 9 := by simp [hg]
  unfold prL
  rw [List.set_append_right _ _ (by omega), hl, List.set_append_right _ _ (by simp [hn]), show 16 - 9 - ns.toList.length = 0 by simp [hn]]
  rfl
theorem prL_old (hg : gs.size = 7) (hn : ns.size = 7) : (prL jb pb gs ns pv ov).set 17 ov' = prL jb pb gs ns pv ov' := by
  have hl : ([Value.pointer (some ⟨jb, 0, none⟩), Value.pointer (some ⟨pb, 0, none⟩)] ++ gs.toList).length = 9 := by simp [hg]
  unfold prL
  rw [List.set_append_right _ _ (by omega), hl, List.set_append_right _ _ (by simp [hn]), show 17 - 9 - ns.toList.length = 1 by simp [hn]]
  rfl
theorem prA_pts (hg : gs.size = 7) (hn : ns.size = 7) : (prA jb pb gs ns pv ov).setIfInBounds 16 pv' = prA jb pb gs ns pv' ov := by
  unfold prA
  rw [List.setIfInBounds_toArray, prL_pts hg hn]
theorem prA_old (hg : gs.size = 7) (hn : ns.size = 7) : (prA jb pb gs ns pv ov).setIfInBounds 17 ov' = prA jb pb gs ns pv ov' := by
  unfold prA
  rw [List.setIfInBounds_toArray, prL_old hg hn]
theorem prA_p : (prA jb pb gs ns pv ov).setIfInBounds 1 (.pointer (some ⟨pb', 0, none⟩)) = prA jb pb' gs ns pv ov := by
  unfold prA
  rw [List.setIfInBounds_toArray]
  rfl
theorem prL_x (hg : gs.size = 7) (hn : ns.size = 7) : (prL jb pb gs ns pv ov).take 2 ++ (gs' ++ ns' ++ #[pv']).toList ++ (prL jb pb gs ns pv ov).drop (2 + 15) = prL jb pb gs' ns' pv' ov := by
  have e : (prL jb pb gs ns pv ov).drop (2 + 15) = [ov] := by
    have hl : ([Value.pointer (some ⟨jb, 0, none⟩), Value.pointer (some ⟨pb, 0, none⟩)] ++ gs.toList ++ (ns.toList ++ [pv])).length = 17 := by simp [hg, hn]
    have e2 : prL jb pb gs ns pv ov = ([Value.pointer (some ⟨jb, 0, none⟩), Value.pointer (some ⟨pb, 0, none⟩)] ++ gs.toList ++ (ns.toList ++ [pv])) ++ [ov] := by simp [prL]
    rw [e2, show 2 + 15 = 17 by omega, ← hl, List.drop_left]
  rw [e]
  unfold prL
  simp
theorem Zl.store_x (h : Zl F w zb jb pb n gs ns pv ov) (hg' : gs'.size = 7) (hn' : ns'.size = 7) (ho : ∀ u ∈ (gs' ++ ns' ++ #[pv']).toList, u.oneCell' = true) : (storeCells ⟨zb, 2, none⟩ (gs' ++ ns' ++ #[pv']).toList).run Tryz.prog w = .ok () (w.setRow zb (prA jb pb gs' ns' pv' ov)) := by
  have hl : (gs' ++ ns' ++ #[pv']).toList.length = 15 := by simp [hg', hn']
  rw [run_storeCells_at Tryz.prog zb 2 55 (gs' ++ ns' ++ #[pv']).toList 0 _ w h.c (by rw [hl, prA, List.size_toArray, prL_len h.gz h.nz]; omega) ho, hl]
  have e : (prA jb pb gs ns pv ov).toList = prL jb pb gs ns pv ov := rfl
  simp only [Nat.add_zero]
  rw [e, prL_x h.gz h.nz]
  rfl
theorem pr_x (hg : gs.size = 7) (hn : ns.size = 7) (j : Nat) (hj : j < 15) : (prA jb pb gs ns pv ov)[2 + j]? = (gs ++ ns ++ #[pv])[j]? := by
  rw [prA, List.getElem?_toArray]
  have e : prL jb pb gs ns pv ov = [Value.pointer (some ⟨jb, 0, none⟩), Value.pointer (some ⟨pb, 0, none⟩)] ++ ((gs ++ ns ++ #[pv]).toList ++ [ov]) := by simp [prL]
  rw [e, List.getElem?_append_right (by simp), List.getElem?_append_left (by simp [hg, hn] <;> omega), Array.getElem?_toList]
  congr 1
  simp
theorem Zl.lgood (h : Zl F w zb jb pb n gs ns pv ov) : (loadVar 42 ⟨zb, 2, none⟩).run Tryz.prog w = .ok (.agg gs) w := by
  have := load_part w zb 2 42 _ _ _ _ gs.toList h.c Tryz.underlying42 rfl (by rw [Array.length_toList, h.gz]; kernel_rfl) (fun j v hv => by
    have hj : j < 7 := by have := (List.getElem?_eq_some_iff.1 hv).1; rw [Array.length_toList, h.gz] at this; exact this
    rw [pr_good h.gz j hj]; simpa using hv)
  simpa using this
theorem Zl.lx (h : Zl F w zb jb pb n gs ns pv ov) : (loadVar 53 ⟨zb, 2, none⟩).run Tryz.prog w = .ok (pgR gs ns pv) w := by
  have hl : (gs ++ ns ++ #[pv]).toList.length = 15 := by simp [h.gz, h.nz]
  have := load_part w zb 2 53 _ _ _ _ (gs ++ ns ++ #[pv]).toList h.c Tryz.underlying53 rfl (by rw [hl]; kernel_rfl) (fun j v hv => by
    have hj : j < 15 := by have := (List.getElem?_eq_some_iff.1 hv).1; rw [hl] at this; exact this
    rw [pr_x h.gz h.nz j hj, ← Array.getElem?_toList]; exact hv)
  exact this
theorem Zl.fro (h : Zl F w zb jb pb n gs ns pv ov) (i : Nat) : w.frozen? ⟨zb, i, none⟩ = false := frozen_of_row w zb i _ _ h.c
theorem Zl.lt (h : Zl F w zb jb pb n gs ns pv ov) : zb < w.heap.size := lt_of_some h.c
theorem cell_blk {w w' : World} {b i : Nat} (h : w'.heap[b]? = w.heap[b]?) : w'.cell? ⟨b, i, none⟩ = w.cell? ⟨b, i, none⟩ := World.cell?_of_block (w := w) (a := ⟨b, i, none⟩) h
theorem setCell_upd (w : World) (b i : Nat) (v : Value) : Upd (fun x => x = b) w (w.setCell ⟨b, i, none⟩ v) := Upd.setCell (S := fun x => x = b) (p := ⟨b, i, none⟩) (Upd.refl _ _) (fun _ => rfl) _
theorem setRow_upd (w : World) (b : Nat) (cs : Array Value) : Upd (fun x => x = b) w (w.setRow b cs) := ⟨rfl, rfl, rfl, by rw [size_setRow]; exact Nat.le_refl _, fun k _ hn => setRow_other w b k _ hn⟩
end
/-- A pager beside a pair. -/
structure Ps (h0 : Nat) (F : Nat → Prop) (w : World) (S : Nat → Prop) (g : Nat) (D : Dk) (pb jb n : Nat) (X : Px) (zb jz : Nat) (gs ns : Array Value) (pv ov : Value) : Prop where
  p : Pgr h0 F w S g D pb jb n X
  z : Zl F w zb jz pb n gs ns pv ov
  h : h0 ≤ zb
def PsE (h0 : Nat) (F : Nat → Prop) (w : World) (g : Nat) (D : Dk) (pb jb n : Nat) (X : Px) (zb jz : Nat) : Prop := ∃ S gs ns pv ov, Ps h0 F w S g D pb jb n X zb jz gs ns pv ov
def SpTo (h0 : Nat) (F : Nat → Prop) (w : World) (g : Nat) (D : Dk) (pb jb n : Nat) (X : Px) (zb jz : Nat) (w' : World) : Prop := ∃ F', PsE h0 F' w' g D pb jb n X zb jz ∧ Fr (but zb F) w (but zb F') w' ∧ Below h0 w w'
section
variable {h0 : Nat} {F F1 : Nat → Prop} {w w' w1 w2 : World} {S : Nat → Prop} {g : Nat} {D D' : Dk} {pb pb' jb n : Nat} {X X' : Px} {zb jz : Nat} {gs ns gs' ns' : Array Value} {pv ov pv' ov' : Value}
theorem SpTo.trans (f : Fr (but zb F) w (but zb F1) w1) (b : Below h0 w w1) (h : SpTo h0 F1 w1 g D pb jb n X zb jz w2) : SpTo h0 F w g D pb jb n X zb jz w2 := by
  obtain ⟨F', h1, h2, h3⟩ := h
  exact ⟨F', h1, f.trans h2, b.trans h3⟩
theorem Ps.below (h : Ps h0 F w S g D pb jb n X zb jz gs ns pv ov) (hb : Below w.heap.size w w') : Ps h0 (mor F w w') w' S g D pb jb n X zb jz gs ns pv ov := ⟨h.p.below hb, h.z.fr (Fr.below hb), h.h⟩
theorem Ps.h0w (h : Ps h0 F w S g D pb jb n X zb jz gs ns pv ov) : h0 ≤ w.heap.size := h0_of h.p
theorem Ps.lt (h : Ps h0 F w S g D pb jb n X zb jz gs ns pv ov) : ∀ x, F x → x < w.heap.size := by
  obtain ⟨_, kb, kc, mb, sa, sc, ss, hP⟩ := h.p
  exact fun x hx => (hP.fF x hx).2.2.2
theorem Ps.blt (h : Ps h0 F w S g D pb jb n X zb jz gs ns pv ov) : ∀ x, but zb F x → x < w.heap.size := fun x hx => h.lt x hx.1
theorem Ps.nn (h : Ps h0 F w S g D pb jb n X zb jz gs ns pv ov) : X.Ok n ∧ 2 ≤ n ∧ n ≤ 12 := h.p.ok
theorem Ps.pto (h : Ps h0 F w S g D pb jb n X zb jz gs ns pv ov) (t : PTo h0 F w g D' pb jb n X' w') : ∃ F' S', Ps h0 F' w' S' g D' pb jb n X' zb jz gs ns pv ov ∧ Fr F w F' w' ∧ Below h0 w w' := by
  obtain ⟨F', S', hp, hf, hb⟩ := t
  exact ⟨F', S', ⟨hp, h.z.fr hf, h.h⟩, hf, hb⟩
theorem Ps.spto (h : Ps h0 F w S g D pb jb n X zb jz gs ns pv ov) (t : PTo h0 F w g D' pb jb n X' w') : SpTo h0 F w g D' pb jb n X' zb jz w' := by
  obtain ⟨F', S', hp, hf, hb⟩ := h.pto t
  exact ⟨F', ⟨S', gs, ns, pv, ov, hp⟩, hf.but zb, hb⟩
theorem Ps.spb (h : Ps h0 F w S g D pb jb n X zb jz gs ns pv ov) (hb : Below w.heap.size w w') : SpTo h0 F w g D pb jb n X zb jz w' := ⟨_, ⟨S, gs, ns, pv, ov, h.below hb⟩, (Fr.below hb).but zb, hb.mono h.h0w⟩
theorem Ps.turn (h : Ps h0 F w S g D pb jb n X zb jz gs ns pv ov) (hc : w'.heap[zb]? = some (.cells (prA jz pb gs' ns' pv' ov') 55 (0, 0))) (hu : Upd (fun x => x = zb) w w') (hs : w'.heap.size = w.heap.size) (gz : gs'.size = 7) (nz : ns'.size = 7) (hg : DSt (but zb F) w n (.agg gs')) (hs' : DSt (but zb F) w n (.agg ns')) (hp : Pts (but zb F) w n pv') (ho : Old (but zb F) w n ov') : Ps h0 F w' S g D pb jb n X zb jz gs' ns' pv' ov' ∧ Fr (but zb F) w (but zb F) w' ∧ Below h0 w w' := by
  obtain ⟨k1, k2⟩ := h.z.turn hc hu hs gz nz hg hs' hp ho
  exact ⟨⟨h.p.turnF h.z.f hu hs, k1, h.h⟩, k2, hu.below h.h0w (fun k hk => by rw [show k = zb from hk]; exact h.h)⟩
theorem Ps.now (h : Ps h0 F w S g D pb jb n X zb jz gs ns pv ov) (nz : ns'.size = 7) (hs' : DSt (but zb F) w n (.agg ns')) : Ps h0 F (w.setRow zb (prA jz pb gs ns' pv ov)) S g D pb jb n X zb jz gs ns' pv ov ∧ Fr (but zb F) w (but zb F) (w.setRow zb (prA jz pb gs ns' pv ov)) ∧ Below h0 w (w.setRow zb (prA jz pb gs ns' pv ov)) :=
  h.turn (setRow_heap w zb _ _ _ _ h.z.c) (setRow_upd w zb _) (size_setRow ..) h.z.gz nz h.z.g hs' h.z.p h.z.o
theorem Ps.allx (h : Ps h0 F w S g D pb jb n X zb jz gs ns pv ov) (gz : gs'.size = 7) (nz : ns'.size = 7) (hg : DSt (but zb F) w n (.agg gs')) (hs' : DSt (but zb F) w n (.agg ns')) (hp : Pts (but zb F) w n pv') : Ps h0 F (w.setRow zb (prA jz pb gs' ns' pv' ov)) S g D pb jb n X zb jz gs' ns' pv' ov ∧ Fr (but zb F) w (but zb F) (w.setRow zb (prA jz pb gs' ns' pv' ov)) ∧ Below h0 w (w.setRow zb (prA jz pb gs' ns' pv' ov)) :=
  h.turn (setRow_heap w zb _ _ _ _ h.z.c) (setRow_upd w zb _) (size_setRow ..) gz nz hg hs' hp h.z.o
theorem Ps.pts (h : Ps h0 F w S g D pb jb n X zb jz gs ns pv ov) (hp : Pts (but zb F) w n pv') : Ps h0 F (w.setCell ⟨zb, 16, none⟩ pv') S g D pb jb n X zb jz gs ns pv' ov ∧ Fr (but zb F) w (but zb F) (w.setCell ⟨zb, 16, none⟩ pv') ∧ Below h0 w (w.setCell ⟨zb, 16, none⟩ pv') := by
  refine h.turn ?_ (setCell_upd w zb 16 _) (World.size_setCell ..) h.z.gz h.z.nz h.z.g h.z.s hp h.z.o
  rw [heap_setCell_same w zb 16 _ _ _ h.z.c, prA_pts h.z.gz h.z.nz]
theorem Ps.old (h : Ps h0 F w S g D pb jb n X zb jz gs ns pv ov) (ho : Old (but zb F) w n ov') : Ps h0 F (w.setCell ⟨zb, 17, none⟩ ov') S g D pb jb n X zb jz gs ns pv ov' ∧ Fr (but zb F) w (but zb F) (w.setCell ⟨zb, 17, none⟩ ov') ∧ Below h0 w (w.setCell ⟨zb, 17, none⟩ ov') := by
  refine h.turn ?_ (setCell_upd w zb 17 _) (World.size_setCell ..) h.z.gz h.z.nz h.z.g h.z.s h.z.p ho
  rw [heap_setCell_same w zb 17 _ _ _ h.z.c, prA_old h.z.gz h.z.nz]
/-- A state of the document made since. -/
theorem DSt.since {v : Value} (hz : zb < w.heap.size) (h : DSt (mor (but zb F) w w') w' n v) : DSt (but zb (mor F w w')) w' n v := h.fr ⟨Nat.le_refl _, fun _ hx => mor_but hz hx, fun _ _ _ => rfl⟩
end
end Go.Proofs.YtdgffocmdkadpaaGreat
