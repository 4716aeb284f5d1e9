/- What PagerWhole wants: a disk beside told states; a Torn, as it comes in. -/
import Derived.Test.YtdgffocmdkadpaaGreatRY
namespace Go.Proofs.YtdgffocmdkadpaaGreat
open Go.ChangeShapes Go.WideShapes Go.ChangeAt Go.RowKit Go.Deep Go.Shelf Pg
/-- A told state in memory: the box b, and its rows, in G, none of them the box. -/
def WasX (G : Nat → Prop) (V : World) (b n : Nat) (us : List Bool) (ds : List ByteArray) (r : Nat → Nat) (ser : Nat) : Prop := ∃ ua uc da dc, V.heap[b]? = some (.cells (rsA (.slice ua n uc) (.slice da n dc) r ser) 42 (0, 0)) ∧ G b ∧ Rw (fun x => G x ∧ x ≠ b) V 4 1 ua n uc (boolsV us) ∧ Rw (fun x => G x ∧ x ≠ b) V 9 1 da n dc (strsV ds)
theorem WasX.fr {G G' : Nat → Prop} {V V' : World} {b n : Nat} {us : List Bool} {ds : List ByteArray} {r : Nat → Nat} {ser : Nat} (h : WasX G V b n us ds r ser) (f : Fr G V G' V') : WasX G' V' b n us ds r ser := by
  obtain ⟨ua, uc, da, dc, h1, h2, h3, h4⟩ := h
  have f2 : Fr (fun x => G x ∧ x ≠ b) V (fun x => G' x ∧ x ≠ b) V' := ⟨f.sz, fun x hx => ⟨f.sub x hx.1, hx.2⟩, fun x hx hl => f.blk x hx.1 hl⟩
  exact ⟨ua, uc, da, dc, (f.blk b h2 (lt_of_some h1)).trans h1, f.sub b h2, h3.fr f2, h4.fr f2⟩
theorem WasX.lt {G : Nat → Prop} {V : World} {b n : Nat} {us : List Bool} {ds : List ByteArray} {r : Nat → Nat} {ser : Nat} (h : WasX G V b n us ds r ser) : WasX (fun x => G x ∧ x < V.heap.size) V b n us ds r ser := by
  obtain ⟨ua, uc, da, dc, h1, h2, h3, h4⟩ := h
  exact ⟨ua, uc, da, dc, h1, ⟨h2, lt_of_some h1⟩, h3.mono (fun x hx hl => ⟨⟨hx.1, hl⟩, hx.2⟩), h4.mono (fun x hx hl => ⟨⟨hx.1, hl⟩, hx.2⟩)⟩
theorem Os.kind {w : World} {ab ao : Nat} {len cap : Nat} {l : List OV} (h : Os w (some ⟨ab, ao, none⟩) len cap l) (i : Nat) (hl : i < l.length) : w.cell? ⟨ab, ao + i * 5, none⟩ = some (.int .i64 l[i].kind) := by
  obtain ⟨h1, h2, h3, h4⟩ := h
  obtain ⟨b, o, e, hb, hc⟩ := h4 (by omega)
  cases e
  exact (hc i hl).1
theorem wrap_u64n {m : Nat} (h : m < 18446744073709551616) : IntKind.u64.wrap (m : Int) = (m : Int) := by rw [IntKind.wrap_u64]; omega
section
variable {h0 : Nat} {F : Nat → Prop} {w w' : World} {S : Nat → Prop} {g : Nat} {D D' : Dk} {pb jb n : Nat} {X X' : Px} {zb jz : Nat} {gs ns : Array Value} {pv ov : Value}
/-- A pager opened ahead of a pair, and laid into it. -/
theorem pair_with {V1 V2 : World} {FF : Nat → Prop} {jb2 pb2 : Nat} (hP : Pgr h0 F V1 S g D pb jb n X) (hb : Below V1.heap.size V1 V2) (hZ : Zl FF V2 zb jb2 pb2 n gs ns pv ov) (hF : ∀ x, FF x → V1.heap.size ≤ x) (hL : ∀ x, FF x → x < V2.heap.size) : PsE h0 (mor F V1 V2) (V2.setCell ⟨zb, 1, none⟩ (.pointer (some ⟨pb, 0, none⟩))) g D pb jb n X zb jb2 ∧ Below h0 V1 (V2.setCell ⟨zb, 1, none⟩ (.pointer (some ⟨pb, 0, none⟩))) := by
  have hp2 := hP.below hb
  have hzF : mor F V1 V2 zb := .inr ⟨hF zb hZ.f, hZ.lt⟩
  have hz2 : Zl (mor F V1 V2) V2 zb jb2 pb2 n gs ns pv ov := hZ.fr ⟨Nat.le_refl _, fun x hx => .inr ⟨hF x hx, hL x hx⟩, fun _ _ _ => rfl⟩
  have hz3 := hz2.turn (jb' := jb2) (pb' := pb) (w' := V2.setCell ⟨zb, 1, none⟩ (.pointer (some ⟨pb, 0, none⟩))) (by rw [heap_setCell_same V2 zb 1 _ _ _ hz2.c, prA_p]) (setCell_upd V2 zb 1 _) (World.size_setCell ..) hz2.gz hz2.nz hz2.g hz2.s hz2.p hz2.o
  have h0l := h0_of hP
  exact ⟨⟨S, gs, ns, pv, ov, hp2.turnF hzF (setCell_upd V2 zb 1 _) (World.size_setCell ..), hz3.1, Nat.le_trans h0l (hF zb hZ.f)⟩, (hb.mono h0l).setCell (by show h0 ≤ zb; exact Nat.le_trans h0l (hF zb hZ.f)) _⟩
theorem Rw.rows {w : World} {base et sz : Nat} {a : Option Addr} {len cap : Nat} {xs : List Value} {G : Nat → Prop} (h : w.ownsRow base et sz (.slice a len cap) len xs) (hG : ∀ k, (Value.slice a len cap).ownBlock = some k → G k) : Rw G w et sz a len cap xs := by
  obtain ⟨h1, h2, h3, h4⟩ := Rw.own (G := fun _ => True) h (fun _ _ => trivial)
  refine ⟨h1, h2, h3, fun h0 => ?_⟩
  obtain ⟨b, o, rfl, hb, _, hc⟩ := h4 h0
  exact ⟨b, o, rfl, hb, hG b rfl, hc⟩
/-- A state that is told, boxed and filled. -/
theorem Ps.told (h : Ps h0 F w S g D pb jb n X zb jz gs ns pv ov) {ua da : Option Addr} {uc dc : Nat} {us : List Bool} {ds : List ByteArray} {r : Nat → Nat} {ser : Nat} (hu : w'.ownsRow w.heap.size 4 1 (.slice ua n uc) n (boolsV us)) (hd : w'.ownsRow w.heap.size 9 1 (.slice da n dc) n (strsV ds)) (hb : Below w.heap.size w w') :
    (storeCells ⟨w'.heap.size, 0, none⟩ (rsA (.slice ua n uc) (.slice da n dc) r ser).toList).run Tryz.prog (w'.alloc (.cells z7 42)) = .ok () ((w'.alloc (.cells z7 42)).setRow w'.heap.size (rsA (.slice ua n uc) (.slice da n dc) r ser)) ∧
    ∃ F2, Ps h0 F2 ((w'.alloc (.cells z7 42)).setRow w'.heap.size (rsA (.slice ua n uc) (.slice da n dc) r ser)) S g D pb jb n X zb jz gs ns pv ov ∧ WasX (but zb F2) ((w'.alloc (.cells z7 42)).setRow w'.heap.size (rsA (.slice ua n uc) (.slice da n dc) r ser)) w'.heap.size n us ds r ser ∧ Fr (but zb F) w (but zb F2) ((w'.alloc (.cells z7 42)).setRow w'.heap.size (rsA (.slice ua n uc) (.slice da n dc) r ser)) ∧ Below h0 w ((w'.alloc (.cells z7 42)).setRow w'.heap.size (rsA (.slice ua n uc) (.slice da n dc) r ser)) ∧ w.heap.size ≤ w'.heap.size := by
  have hc : (w'.alloc (.cells z7 42)).heap[w'.heap.size]? = some (.cells z7 42 (0, 0)) := heap_alloc_new w' _
  obtain ⟨V, hV⟩ : ∃ V, (w'.alloc (.cells z7 42)).setRow w'.heap.size (rsA (.slice ua n uc) (.slice da n dc) r ser) = V := ⟨_, rfl⟩
  have hcV : V.heap[w'.heap.size]? = some (.cells (rsA (.slice ua n uc) (.slice da n dc) r ser) 42 (0, 0)) := by rw [← hV]; exact setRow_heap _ _ _ _ _ _ hc
  have hbV : Below w.heap.size w V := by rw [← hV]; exact setRow_below (hb.alloc hb.size _) hb.size _
  have hzl := h.z.lt
  have gV : ∀ x, x < w'.heap.size → V.heap[x]? = w'.heap[x]? := fun x hx => by rw [← hV, setRow_other _ _ _ _ (by omega)]; exact Below.heap_alloc _ _ _ hx
  have hsz : w'.heap.size < V.heap.size := lt_of_some hcV
  have hsub : ∀ x, w.heap.size ≤ x → x < V.heap.size → but zb (mor F w V) x := fun x h1 h2 => ⟨.inr ⟨h1, h2⟩, by omega⟩
  have hsub2 : ∀ x, (w.heap.size ≤ x ∧ x < w'.heap.size) → x < V.heap.size → (but zb (mor F w V) x ∧ x ≠ w'.heap.size) := fun x h1 h2 => ⟨hsub x h1.1 h2, by omega⟩
  have hu2 : V.ownsRow w.heap.size 4 1 (.slice ua n uc) n (boolsV us) := own_keep hu (fun k hk => gV k (hu.lt k hk).2)
  have hd2 : V.ownsRow w.heap.size 9 1 (.slice da n dc) n (strsV ds) := own_keep hd (fun k hk => gV k (hd.lt k hk).2)
  refine ⟨by rw [hV]; exact hV ▸ rs_store hc rfl, mor F w V, ?_⟩
  rw [hV]
  exact ⟨h.below hbV, ⟨ua, uc, da, dc, hcV, hsub _ hb.size hsz, (Rw.rows hu2 (fun k hk => ⟨(hu.lt k hk).1, (hu.lt k hk).2⟩)).mono hsub2, (Rw.rows hd2 (fun k hk => ⟨(hd.lt k hk).1, (hd.lt k hk).2⟩)).mono hsub2⟩, (Fr.below hbV).but zb, hbV.mono h.h0w, hb.size⟩
/-- The same, with no pager. -/
theorem told_box {ua da : Option Addr} {uc dc : Nat} {us : List Bool} {ds : List ByteArray} {r : Nat → Nat} {ser : Nat} (hu : w'.ownsRow w.heap.size 4 1 (.slice ua n uc) n (boolsV us)) (hd : w'.ownsRow w.heap.size 9 1 (.slice da n dc) n (strsV ds)) (hb : Below w.heap.size w w') :
    (storeCells ⟨w'.heap.size, 0, none⟩ (rsA (.slice ua n uc) (.slice da n dc) r ser).toList).run Tryz.prog (w'.alloc (.cells z7 42)) = .ok () ((w'.alloc (.cells z7 42)).setRow w'.heap.size (rsA (.slice ua n uc) (.slice da n dc) r ser)) ∧ ((w'.alloc (.cells z7 42)).setRow w'.heap.size (rsA (.slice ua n uc) (.slice da n dc) r ser)).heap[w'.heap.size]? = some (.cells (rsA (.slice ua n uc) (.slice da n dc) r ser) 42 (0, 0)) ∧ Below w.heap.size w ((w'.alloc (.cells z7 42)).setRow w'.heap.size (rsA (.slice ua n uc) (.slice da n dc) r ser)) ∧ Rw (fun _ => True) ((w'.alloc (.cells z7 42)).setRow w'.heap.size (rsA (.slice ua n uc) (.slice da n dc) r ser)) 4 1 ua n uc (boolsV us) ∧ Rw (fun _ => True) ((w'.alloc (.cells z7 42)).setRow w'.heap.size (rsA (.slice ua n uc) (.slice da n dc) r ser)) 9 1 da n dc (strsV ds) := by
  have hc : (w'.alloc (.cells z7 42)).heap[w'.heap.size]? = some (.cells z7 42 (0, 0)) := heap_alloc_new w' _
  obtain ⟨V, hV⟩ : ∃ V, (w'.alloc (.cells z7 42)).setRow w'.heap.size (rsA (.slice ua n uc) (.slice da n dc) r ser) = V := ⟨_, rfl⟩
  have gV : ∀ x, x < w'.heap.size → V.heap[x]? = w'.heap[x]? := fun x hx => by rw [← hV, setRow_other _ _ _ _ (by omega)]; exact Below.heap_alloc _ _ _ hx
  refine ⟨rs_store hc rfl, setRow_heap _ _ _ _ _ _ hc, setRow_below (hb.alloc hb.size _) hb.size _, ?_⟩
  rw [hV]
  exact ⟨Rw.own (own_keep hu (fun k hk => gV k (hu.lt k hk).2)) (fun _ _ => trivial), Rw.own (own_keep hd (fun k hk => gV k (hd.lt k hk).2)) (fun _ _ => trivial)⟩
theorem Pgr.mut (h : Pgr h0 F w S g D pb jb n X) (m : Mut S w g D' w') : ∃ S', Pgr h0 F w' S' g D' pb jb n X ∧ Fr F w F w' ∧ Below h0 w w' := by
  obtain ⟨hok, kb, kc, mb, sa, sc, ss, hP⟩ := h
  obtain ⟨S', hd, hu, hs⟩ := m
  obtain ⟨k1, k2, k3⟩ := hP.turnD hd hu hs
  exact ⟨S', ⟨hok, kb, kc, mb, sa, sc, ss, k1⟩, k2, k3⟩
theorem pto_broke (t : PTo h0 F w g D pb jb n X w') : Broke h0 F w g D w' := by
  obtain ⟨F', S', ⟨hok, kb, kc, mb, sa, sc, ss, hP⟩, hf, hb⟩ := t
  exact ⟨S', hP.disk, hP.h0S, fun x hx => (hP.fF x (hf.sub x hx)).1, ⟨hf.sz, fun _ hx => hx, hf.blk⟩, hb⟩
theorem cm_broke {e : Ending} (h : CmTo h0 F w g D pb jb n X e w') : e = .returned (.int .i64 (X.cmC n D : Int)) ∧ Broke h0 F w g (X.cmD n D) w' := by
  obtain ⟨he, h⟩ := h
  rcases h with ⟨_, h⟩ | ⟨_, h⟩
  · exact ⟨he, pto_broke h⟩
  · exact ⟨he, h⟩
end
/-- Behind the steps ahead. -/
def LwTo (W1 : World) (g pb jb n zb jz : Nat) (V : World) : Prop := ∃ (i : Nat) (F1 : Nat → Prop) (D : Dk) (X : Px), i ≤ 40 ∧ PsE W1.heap.size F1 V g D pb jb n X zb jz ∧ Inv n i D X ∧ Below W1.heap.size W1 V
/-- Behind the steps then. -/
def Lw2To (W1 : World) (g : Nat) (D : Dk) (pb jb n : Nat) (X1 : Px) (zb jz CA k : Nat) (V : World) : Prop := ∃ (j : Nat) (F2 : Nat → Prop) (Y : Px), j ≤ 40 ∧ PsE W1.heap.size F2 V g D pb jb n Y zb jz ∧ Inv n (k + j) D Y ∧ Y.good = X1.good ∧ WasX (but zb F2) V CA n (X1.usedL n) (X1.dataL n D n) X1.now.h.root X1.now.h.ser ∧ Below W1.heap.size W1 V
/-- The pager, what is wanted, and what there was. -/
def WnTo (W1 : World) (F : Nat → Prop) (zb : Nat) (S : Nat → Prop) (g : Nat) (D : Dk) (pb jb n : Nat) (Y : Px) (CB CA : Nat) (X1 : Px) (V : World) : Prop := Pgr W1.heap.size F V S g D pb jb n Y ∧ WasX (but zb F) V CB n (Y.usedL n) (Y.dataL n D n) Y.now.h.root (if Y.chg n D = [] then Y.now.h.ser else Y.now.h.ser + 1) ∧ WasX (fun x => but zb F x ∧ x ≠ CB) V CA n (X1.usedL n) (X1.dataL n D n) X1.now.h.root X1.now.h.ser ∧ Below W1.heap.size W1 V
theorem want_next {W1 V : World} {F : Nat → Prop} {zb : Nat} {S : Nat → Prop} {g : Nat} {D : Dk} {pb jb n : Nat} {Y X1 : Px} {CB CA s2 : Nat} (hp : Pgr W1.heap.size F V S g D pb jb n Y) (hw : WasX (but zb F) V CB n (Y.usedL n) (Y.dataL n D n) Y.now.h.root Y.now.h.ser) (ha : WasX (fun x => but zb F x ∧ x ≠ CB) V CA n (X1.usedL n) (X1.dataL n D n) X1.now.h.root X1.now.h.ser) (hb : Below W1.heap.size W1 V) (hC : W1.heap.size ≤ CB) (hs : (if Y.chg n D = [] then Y.now.h.ser else Y.now.h.ser + 1) = s2) : WnTo W1 F zb S g D pb jb n Y CB CA X1 (V.setCell ⟨CB, 6, none⟩ (.int .u64 (s2 : Int))) := by
  have hu := setCell_upd V CB 6 (.int .u64 (s2 : Int))
  have hsz : (V.setCell ⟨CB, 6, none⟩ (.int .u64 (s2 : Int))).heap.size = V.heap.size := World.size_setCell ..
  have f2 : Fr (fun x => but zb F x ∧ x ≠ CB) V (fun x => but zb F x ∧ x ≠ CB) (V.setCell ⟨CB, 6, none⟩ (.int .u64 (s2 : Int))) := ⟨by omega, fun _ hx => hx, fun x hx hl => hu.block x hl hx.2⟩
  obtain ⟨ua, uc, da, dc, h1, h2, h3, h4⟩ := hw
  refine ⟨hp.turnF h2.1 hu hsz, ⟨ua, uc, da, dc, ?_, h2, h3.fr f2, h4.fr f2⟩, ha.fr f2, hb.setCell (by show _ ≤ CB; exact hC) _⟩
  rw [heap_setCell_same V CB 6 _ _ _ h1, hs]
  rfl
/-- A disk beside two told states. -/
structure Dq (W1 V : World) (G : Nat → Prop) (S : Nat → Prop) (g : Nat) (D : Dk) (n wb qb : Nat) (us us' : List Bool) (ds ds' : List ByteArray) (r r' : Nat → Nat) (ser ser' : Nat) : Prop where
  d : DiskIs V S g D
  hS : ∀ x, S x → W1.heap.size ≤ x
  hG : ∀ x, G x → ¬ S x ∧ x < V.heap.size
  a : WasX G V wb n us ds r ser
  b : WasX G V qb n us' ds' r' ser'
  on : Below W1.heap.size W1 V
section
variable {W1 V V' : World} {G : Nat → Prop} {S : Nat → Prop} {g : Nat} {D D' : Dk} {n wb qb : Nat} {us us' : List Bool} {ds ds' : List ByteArray} {r r' : Nat → Nat} {ser ser' : Nat}
theorem Dq.upd (h : Dq W1 V G S g D n wb qb us us' ds ds' r r' ser ser') {S' : Nat → Prop} (hd : DiskIs V' S' g D') (hu : Upd S V V') (hs : ∀ x, S' x → S x ∨ V.heap.size ≤ x) : Dq W1 V' G S' g D' n wb qb us us' ds ds' r r' ser ser' := by
  have f : Fr G V G V' := ⟨hu.size, fun _ hx => hx, fun x hx hl => hu.block x hl (h.hG x hx).1⟩
  refine ⟨hd, fun x hx => ?_, fun x hx => ⟨fun hs' => ?_, Nat.lt_of_lt_of_le (h.hG x hx).2 hu.size⟩, h.a.fr f, h.b.fr f, h.on.trans (hu.below h.on.size h.hS)⟩
  · rcases hs x hx with k | k
    · exact h.hS x k
    · exact Nat.le_trans h.on.size k
  · rcases hs x hs' with k | k
    · exact (h.hG x hx).1 k
    · have := (h.hG x hx).2; omega
theorem Dq.mut (h : Dq W1 V G S g D n wb qb us us' ds ds' r r' ser ser') (m : Mut S V g D' V') : ∃ S', Dq W1 V' G S' g D' n wb qb us us' ds ds' r r' ser ser' := by
  obtain ⟨S', hd, hu, hs⟩ := m
  exact ⟨S', h.upd hd hu hs⟩
theorem Dq.open (h : Dq W1 V G S g D n wb qb us us' ds ds' r r' ser ser') (hn2 : 2 ≤ n) (hn : n ≤ 12) (hkn : 8 * n + 1 ≤ D.kept.length) (hu : D.up = true) (hw : D.waits = []) (hsz : D.Sz) (hwr : D.writes ≤ 300000) (hc : codeS D (recS n D.kept) = 0) (hG : Good n (runS D (recS n D.kept))) {Gh : Hd} (hp : parseH n (pgOf n (runS D (recS n D.kept)) 0).data.toList = some Gh) :
    Calls Tryz.prog 22 #[.pointer (some ⟨g, 0, none⟩), .int .i64 (n : Int)] V fun e w' => ∃ jb' S', e = .returned (.tuple #[.pointer (some ⟨jb', 0, none⟩), .int .i64 0]) ∧ Dq W1 w' G S' g (runS D (recS n D.kept)) n wb qb us us' ds ds' r r' ser ser' ∧ Calls Tryz.prog 11 #[.pointer (some ⟨jb', 0, none⟩)] w' fun e w'' => ∃ pb', e = .returned (.tuple #[.pointer (some ⟨pb', 0, none⟩), .int .i64 0]) ∧ Pgr W1.heap.size G w'' S' g (runS D (recS n D.kept)) pb' jb' n (pxOf n (runS D (recS n D.kept)) Gh) ∧ Below w'.heap.size w' w'' := by
  refine (open_any (n := n) h.d (by omega) (by omega) hkn hu hw hsz.k (by omega)).mono ?_
  rintro e w' ⟨rfl, hj, S', hd, hup, hs, hnj⟩
  have q := h.upd hd hup hs
  refine ⟨V.heap.size, S', by rw [hc]; rfl, q, ?_⟩
  have hpo := popen_any (h0 := W1.heap.size) (F := G) hd hj hG.asks hn2 hn hnj q.hS q.on.size (fun x hx => ⟨(q.hG x hx).1, by have := (h.hG x hx).2; omega, (q.hG x hx).2⟩)
  rw [hp] at hpo
  refine hpo.mono ?_
  rintro e w'' ⟨pb', rfl, _, hP, hb⟩
  exact ⟨pb', rfl, hP, hb⟩
end
section
variable {n k : Nat} {D D5 : Dk} {X X1 : Px}
theorem usedL_at (X : Px) (i : Nat) (hi : i < n) : (X.usedL n).getD i false = X.now.h.has i := by
  unfold Px.usedL
  rw [List.getD_eq_getElem?_getD, List.getElem?_map, List.getElem?_range hi]
  rfl
theorem dataL_at (X : Px) (i : Nat) (hi : i < n) : (X.dataL n D n).getD i ByteArray.empty = X.read n D (i : Int) := by
  unfold Px.dataL
  rw [List.getD_eq_getElem?_getD, List.getElem?_map, List.getElem?_range hi]
  rfl
theorem opn_read {G : Hd} (i : Nat) (h1 : 1 ≤ i) (hi : i < n) (hh : G.has i = true) : (pxOf n D5 G).read n D5 (i : Int) = pgOf n D5 i := readp_none (X := pxOf n D5 G) h1 hi hh rfl
/-- What is opened behind a commit that is there as a whole, and what was wanted. -/
theorem alike_whole (h : Whole n D X D5) {G : Hd} (hG : (if X.chg n D = [] then X.now.h else X.now.h.next) = G) : AlikeS n ((pxOf n D5 G).usedL n) (X.usedL n) ((pxOf n D5 G).dataL n D5 n) (X.dataL n D n) (fun j => ((pxOf n D5 G).now.h.root j : Int)) (fun j => (X.now.h.root j : Int)) ((pxOf n D5 G).now.h.ser : Int) (((if X.chg n D = [] then X.now.h.ser else X.now.h.ser + 1 : Nat)) : Int) := by
  have e1 : ∀ i, G.has i = X.now.h.has i := fun i => by rw [← hG]; split <;> rfl
  refine ⟨fun j _ => ?_, ?_, fun i hi => ?_⟩
  · show (G.root j : Int) = _
    rw [← hG]
    split
    · rfl
    · show ((X.now.h.next.root j : Nat) : Int) = _
      congr 1
  · show (G.ser : Int) = _
    rw [← hG]
    split <;> rfl
  · rw [usedL_at _ i hi, usedL_at _ i hi, dataL_at _ i hi, dataL_at _ i hi]
    refine ⟨e1 i, fun hu h1 => ?_⟩
    have hu : G.has i = true := hu
    rw [opn_read i h1 hi hu]
    exact h.2 i h1 hi (by rw [← e1 i]; exact hu)
/-- What is opened behind a commit that isn't there, and what there was. -/
theorem alike_before (h : Before n D X D5) (hg : X.good = X1.good) (hn : X1.now = ⟨X1.good, Pm.none⟩) : AlikeS n ((pxOf n D5 X.good).usedL n) (X1.usedL n) ((pxOf n D5 X.good).dataL n D5 n) (X1.dataL n D n) (fun j => ((pxOf n D5 X.good).now.h.root j : Int)) (fun j => (X1.now.h.root j : Int)) ((pxOf n D5 X.good).now.h.ser : Int) (X1.now.h.ser : Int) := by
  have e0 : X1.now.h = X.good := by rw [hn, hg]
  refine ⟨fun j _ => ?_, ?_, fun i hi => ?_⟩
  · rw [e0]; rfl
  · rw [e0]; rfl
  · rw [usedL_at _ i hi, usedL_at _ i hi, dataL_at _ i hi, dataL_at _ i hi]
    refine ⟨by rw [e0]; rfl, fun hu h1 => ?_⟩
    have hu : X.good.has i = true := hu
    rw [opn_read i h1 hi hu, h.2 i hi]
    exact (readp_none (X := X1) h1 hi (by rw [e0]; exact hu) (by rw [hn]; rfl)).symm
end
/-- A Torn, as the walk is told it. -/
structure TornV where
  pages : Int
  a : Option Addr
  al : Nat
  ac : Nat
  la : List OV
  p : Option Addr
  pl : Nat
  pc : Nat
  lp : List OV
  cut : Int
  k : Option Addr
  kl : Nat
  kc : Nat
  bk : List Bool
def TornV.agg (x : TornV) : Value := .agg #[.int .i64 x.pages, .slice x.a x.al x.ac, .slice x.p x.pl x.pc, .int .i64 x.cut, .slice x.k x.kl x.kc]
structure TornV.In (w : World) (x : TornV) : Prop where
  a : Os w x.a x.al x.ac x.la
  p : Os w x.p x.pl x.pc x.lp
  k : Bls w x.k x.kl x.kc x.bk
  c : x.cut ≤ 9223372036854775807
theorem cellsTorn : Tryz.prog.cellsOf 48 = 5 := by kernel_rfl
theorem sl_of {H : Type} {enc : TypeId × Value → H} {W : World} {base : Nat} {spare : Nat → Bool} {held : Bool} {fuel : Nat} {t e : TypeId} {c : Value} {x : DataW H × List MemPlace} (ht : Tryz.prog.underlying t = some (.slice e))
    (hf : DataW.trod enc Tryz.prog W base spare held fuel t [c] = some x) : ∃ a len cap, c = .slice a len cap := by
  rcases open_slice ht hf with ⟨hcs, _⟩ | ⟨ad, l, c, m, n, D, Pl, hcs, _⟩
  · simp only [List.cons.injEq, and_true] at hcs
    exact ⟨_, _, _, hcs⟩
  · simp only [List.cons.injEq, and_true] at hcs
    exact ⟨_, _, _, hcs⟩
set_option maxRecDepth 100000 in
theorem torn_of {H : Type} {enc : TypeId × Value → H} {W : World} {b0 base : Nat} {spare : Nat → Bool} {held : Bool} {v : Value} {d : DataW H} {p : List MemPlace} (hv : Value.okWide Tryz.prog W .any b0 48 v) (h : DataW.Trod enc Tryz.prog W base spare held 48 v d p) :
    ∃ x : TornV, v = x.agg ∧ x.In W := by
  unfold Value.okWide at hv
  rw [Tryz.underlying48] at hv
  obtain ⟨cs, rfl, hz, _⟩ := hv
  rw [cellsTorn] at hz
  obtain ⟨c0, c1, c2, c3, c4, rfl⟩ : ∃ c0 c1 c2 c3 c4, cs = #[c0, c1, c2, c3, c4] := by
    obtain ⟨l⟩ := cs
    match l, hz with
    | [c0, c1, c2, c3, c4], _ => exact ⟨c0, c1, c2, c3, c4, rfl⟩
  obtain ⟨fuel, hf⟩ := h
  have hf : DataW.trod enc Tryz.prog W base spare held fuel 48 [c0, c1, c2, c3, c4] = some (d, p) := by simpa [Value.cells] using hf
  obtain ⟨xs, n, _, _, _, hx, hi⟩ := DataW.trod_struct Tryz.underlying48 hf
  match xs, hx with
  | [x0, x1, x2, x3, x4], _ =>
    have h0 : DataW.trod enc Tryz.prog W base spare held n 3 (([c0, c1, c2, c3, c4].drop 0).take (Tryz.prog.cellsOf 3)) = some x0 := hi 0 _ rfl
    rw [show Tryz.prog.cellsOf 3 = 1 by kernel_rfl, show ([c0, c1, c2, c3, c4].drop 0).take 1 = [c0] from rfl] at h0
    have h1 : DataW.trod enc Tryz.prog W base spare held n 46 (([c0, c1, c2, c3, c4].drop 1).take (Tryz.prog.cellsOf 46)) = some x1 := hi 1 _ rfl
    rw [show Tryz.prog.cellsOf 46 = 1 by kernel_rfl, show ([c0, c1, c2, c3, c4].drop 1).take 1 = [c1] from rfl] at h1
    have h2 : DataW.trod enc Tryz.prog W base spare held n 46 (([c0, c1, c2, c3, c4].drop 2).take (Tryz.prog.cellsOf 46)) = some x2 := hi 2 _ rfl
    rw [show Tryz.prog.cellsOf 46 = 1 by kernel_rfl, show ([c0, c1, c2, c3, c4].drop 2).take 1 = [c2] from rfl] at h2
    have h3 : DataW.trod enc Tryz.prog W base spare held n 3 (([c0, c1, c2, c3, c4].drop 3).take (Tryz.prog.cellsOf 3)) = some x3 := hi 3 _ rfl
    rw [show Tryz.prog.cellsOf 3 = 1 by kernel_rfl, show ([c0, c1, c2, c3, c4].drop 3).take 1 = [c3] from rfl] at h3
    have h4 : DataW.trod enc Tryz.prog W base spare held n 37 (([c0, c1, c2, c3, c4].drop 4).take (Tryz.prog.cellsOf 37)) = some x4 := hi 4 _ rfl
    rw [show Tryz.prog.cellsOf 37 = 1 by kernel_rfl, show ([c0, c1, c2, c3, c4].drop 4).take 1 = [c4] from rfl] at h4
    obtain ⟨y0, e0, _, w0⟩ := DataW.trod_int Tryz.underlying3 h0
    obtain ⟨y3, e3, _, w3⟩ := DataW.trod_int Tryz.underlying3 h3
    simp only [List.cons.injEq, and_true] at e0 e3
    obtain ⟨a1, n1, p1, rfl⟩ := sl_of Tryz.underlying46 h1
    obtain ⟨a2, n2, p2, rfl⟩ := sl_of Tryz.underlying46 h2
    obtain ⟨a4, n4, p4, rfl⟩ := sl_of Tryz.underlying37 h4
    subst e0 e3
    obtain ⟨la, hla⟩ := ops_of h1
    obtain ⟨lp, hlp⟩ := ops_of h2
    obtain ⟨bk, hbk⟩ := bools_of h4
    exact ⟨⟨y0, a1, n1, p1, la, a2, n2, p2, lp, y3, a4, n4, p4, bk⟩, rfl, hla, hlp, hbk, (wf_i64 w3).2⟩
end Go.Proofs.YtdgffocmdkadpaaGreat
