/- What DiskOne wants. -/
import Derived.Test.YtdlmciicapigjaaRF
namespace Go.Proofs.Ytdlmciicapigjaa
open Go.RowKit Go.Shelf
/-- Three disks, apart. -/
structure Three (w : World) (S T U : Nat → Prop) (g c a : Nat) (D C A : Dk) : Prop where
  d : DiskIs w S g D
  c : DiskIs w T c C
  a : DiskIs w U a A
  dc : ∀ x, S x → ¬ T x
  da : ∀ x, S x → ¬ U x
  ca : ∀ x, T x → ¬ U x
theorem Three.below {w w' : World} {S T U : Nat → Prop} {g c a : Nat} {D C A : Dk} (h : Three w S T U g c a D C A) (hb : Below w.heap.size w w') : Three w' S T U g c a D C A :=
  ⟨h.d.below hb, h.c.below hb, h.a.below hb, h.dc, h.da, h.ca⟩
theorem Three.onD {w w' : World} {S T U : Nat → Prop} {g c a : Nat} {D D' C A : Dk} (h : Three w S T U g c a D C A) (hd : DiskIs w' S g D') (hu : Upd S w w') : Three w' S T U g c a D' C A :=
  ⟨hd, h.c.upd hu (fun x hx hs => h.dc x hs hx), h.a.upd hu (fun x hx hs => h.da x hs hx), h.dc, h.da, h.ca⟩
theorem Three.onC {w w' : World} {S T U : Nat → Prop} {g c a : Nat} {D C C' A : Dk} (h : Three w S T U g c a D C A) (hd : DiskIs w' T c C') (hu : Upd T w w') : Three w' S T U g c a D C' A :=
  ⟨h.d.upd hu (fun x hx hs => h.dc x hx hs), hd, h.a.upd hu (fun x hx hs => h.ca x hs hx), h.dc, h.da, h.ca⟩
theorem Three.onA {w w' : World} {S T U : Nat → Prop} {g c a : Nat} {D C A A' : Dk} (h : Three w S T U g c a D C A) (hd : DiskIs w' U a A') (hu : Upd U w w') : Three w' S T U g c a D C A' :=
  ⟨h.d.upd hu (fun x hx hs => h.da x hx hs), h.c.upd hu (fun x hx hs => h.ca x hx hs), hd, h.dc, h.da, h.ca⟩
/-- What a sector has behind a failure: what was there for good, or one of the writes to it. -/
theorem upTo_from (l : List ByteArray) (p : Nat → Bool) (ws : List Wt) (k i : Nat) : (upTo l p ws k).getD i ByteArray.empty = l.getD i ByteArray.empty ∨ ∃ q ∈ ws, q.1 = i ∧ q.2 = (upTo l p ws k).getD i ByteArray.empty := by
  induction k with
  | zero => exact .inl rfl
  | succ k ih =>
    simp only [upTo]
    split
    · rename_i q hq
      split
      · by_cases e : q.1 = i
        · by_cases hl : i < (upTo l p ws k).length
          · refine .inr ⟨q, List.mem_of_getElem? hq, e, ?_⟩
            simp only [lay, List.getD_eq_getElem?_getD]
            rw [e, List.getElem?_set_self hl]
            rfl
          · left
            have h1 : (lay (upTo l p ws k) q).length ≤ i := by simp [lay]; omega
            rw [List.getD_eq_getElem?_getD, List.getElem?_eq_none h1, List.getD_eq_getElem?_getD, List.getElem?_eq_none (by rw [upTo_len] at hl; omega)]
        · have e2 : (lay (upTo l p ws k) q).getD i ByteArray.empty = (upTo l p ws k).getD i ByteArray.empty := by
            simp only [lay, List.getD_eq_getElem?_getD]
            rw [List.getElem?_set_ne e]
          rw [e2]
          exact ih
      · exact ih
    · exact ih
theorem pickOf_nil (i : Nat) : pickOf [] i = false := rfl
theorem pickOf_all (n i : Nat) (h : i < n) : pickOf (List.replicate n true) i = true := by
  unfold pickOf
  rw [List.getD_eq_getElem?_getD, List.getElem?_replicate, if_pos h]
  rfl
theorem none_seen (D : Dk) : ((D.failed (pickOf [])).started).seen = D.kept := upTo_none _ _ _ pickOf_nil _
theorem all_seen (D : Dk) (n : Nat) (h : D.waits.length = n) : ((D.failed (pickOf (List.replicate n true))).started).seen = D.seen := upTo_all _ _ _ (fun i hi => pickOf_all n i (by omega))
theorem fail_size (D : Dk) (p : Nat → Bool) : ((D.failed p).started).kept.length = D.kept.length := upTo_len _ _ _ _
/-- Does the step write these bytes to that sector? -/
def meets (o : OpV) (i : Nat) (t : ByteArray) : Prop := o.kind = 0 ∧ o.at_ = (i : Int) ∧ fillS o.long o.fill = t
theorem made_from {D : Dk} {s : Nat} {l : List OpV} {k : Nat} (h : MadeOk D s l k) (p : Nat → Bool) (i : Nat) :
    ((D.failed p).started).seen.getD i ByteArray.empty = D.kept.getD i ByteArray.empty ∨ ∃ j, ∃ hj : j < l.length, j < k ∧ meets l[j] i (((D.failed p).started).seen.getD i ByteArray.empty) := by
  rcases upTo_from D.kept p D.waits D.waits.length i with e | ⟨q, hq, e1, e2⟩
  · exact .inl e
  · obtain ⟨j, hj, h1, h2, h3, h4⟩ := h.wt q hq
    exact .inr ⟨j, hj, h1, h2, by rw [h3, e1], by rw [h4, e2]; rfl⟩
/-- The row that is filled with true. -/
def fullL (k n : Nat) : List Bool := List.replicate k true ++ List.replicate (n - k) false
theorem fullL_0 (n : Nat) : fullL 0 n = List.replicate n false := by simp [fullL]
theorem fullL_n (n : Nat) : fullL n n = List.replicate n true := by simp [fullL]
theorem fullL_len (k n : Nat) (h : k ≤ n) : (fullL k n).length = n := by simp [fullL]; omega
theorem fullL_set (k n : Nat) (h : k < n) : (fullL k n).set k true = fullL (k + 1) n := by
  unfold fullL
  rw [List.set_append_right _ _ (by simp), List.length_replicate, Nat.sub_self, show n - k = (n - (k + 1)) + 1 by omega, List.replicate_succ (n := n - (k + 1)), List.set_cons_zero, List.replicate_succ', List.append_assoc]
  rfl
theorem bls_row {W : World} {b n : Nat} {bs : List Bool} (h : W.heap[b]? = some (.cells (blsV bs) 4 (0, 0))) (hl : bs.length = n) (hn : n ≤ 1000000) : Bls W (some ⟨b, 0, none⟩) n n bs := by
  refine ⟨hl, Nat.le_refl _, by omega, fun _ => ⟨b, 0, rfl, fun i hi => ?_⟩⟩
  rw [Nat.zero_add, cell_of_row _ b _ _ _ _ h, blsV_get bs i hi, List.getD_eq_getElem?_getD, List.getElem?_eq_getElem hi]
  rfl
end Go.Proofs.Ytdlmciicapigjaa
