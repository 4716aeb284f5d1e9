/- An area beside the document's. -/
import Derived.Test.YtgihdfmeokbplaaQE
namespace Go.Proofs.Ytgihdfmeokbplaa
open Go.RowKit Ex
/-- An area at ab among S; the document's in a variable at XB. -/
structure RfS (w V : World) (S : Nat → Prop) (ab XB : Nat) (X : Ar) (n : Nat) (fa : Option Addr) (fc : Nat) (F : List Bool) : Prop where
  ar : AIs V S ab X
  sz : X.sz = (n : Int)
  row : V.heap[XB]? = some (.cells #[.slice fa n fc, .int .i64 0] 31 (0, 0))
  fre : Rw (fun x => ¬ S x) V 4 1 fa n fc (blR F)
  xs : ¬ S XB
  bel : Below w.heap.size w V
  old : ∀ x, S x → w.heap.size ≤ x
  xo : w.heap.size ≤ XB
section
variable {w V V1 : World} {S : Nat → Prop} {ab XB : Nat} {X : Ar} {n : Nat} {fa : Option Addr} {fc : Nat} {F : List Bool}
theorem RfS.below (h : RfS w V S ab XB X n fa fc F) (hb : Below V.heap.size V V1) : RfS w V1 S ab XB X n fa fc F :=
  { h with ar := h.ar.below hb, row := (hb.block _ (lt_of_some h.row)).trans h.row, fre := h.fre.below hb, bel := h.bel.trans (hb.mono h.bel.size) }
theorem RfS.cells (h : RfS w V S ab XB X n fa fc F) : V.cell? ⟨XB, 0, none⟩ = some (.slice fa n fc) ∧ V.cell? ⟨XB, 1, none⟩ = some (.int .i64 0) ∧ V.frozen? ⟨XB, 0, none⟩ = false ∧ V.frozen? ⟨XB, 1, none⟩ = false :=
  ⟨by rw [cell_of_row _ _ _ _ _ _ h.row]; rfl, by rw [cell_of_row _ _ _ _ _ _ h.row]; rfl, frozen_of_row V XB 0 _ _ h.row, frozen_of_row V XB 1 _ _ h.row⟩
theorem bool_ne {G : Nat → Prop} {a b : Value} (hr : V.heap[XB]? = some (.cells #[a, b] 31 (0, 0))) (ha : ∀ x, a ≠ .bool x) (hb : ∀ x, b ≠ .bool x) {a' : Option Addr} {c' : Nat} {F' : List Bool} (hf : Rw G V 4 1 a' n c' (blR F')) (h1 : 1 ≤ n) : ∀ x, ob a' = some x → x ≠ XB := by
  intro x hx e
  subst e
  have hl := hf.1
  rw [blR_len] at hl
  obtain ⟨b', o, e2, _, _, hc⟩ := hf.2.2.2 (by omega)
  rw [e2] at hx
  cases hx
  obtain ⟨z, hz⟩ : ∃ z, F'[0]? = some z := ⟨_, List.getElem?_eq_getElem (by omega)⟩
  have h3 := hc 0 (.bool z) (by rw [blR_map, List.getElem?_map, hz]; rfl)
  have h3 : V.cell? ⟨b', o + 0, none⟩ = some (.bool z) := h3
  rw [Nat.add_zero, cell_of_row _ _ _ _ _ _ hr] at h3
  match o, h3 with
  | 0, h3 => exact ha z (by simpa using h3)
  | 1, h3 => exact hb z (by simpa using h3)
  | k + 2, h3 => simp at h3
theorem RfS.set (h : RfS w V S ab XB X n fa fc F) (h1 : 1 ≤ n) {a' : Option Addr} {c' : Nat} {F' : List Bool} (hf : Rw (fun x => ¬ S x) V 4 1 a' n c' (blR F')) {Z : World} (hZ : Z = (V.setCell ⟨XB, 0, none⟩ (.slice a' n c')).setCell ⟨XB, 1, none⟩ (.int .i64 0)) : RfS w Z S ab XB X n a' c' F' := by
  have hne := bool_ne h.row (fun x => by simp) (fun x => by simp) hf h1
  have hkeep : ∀ x, x ≠ XB → Z.heap[x]? = V.heap[x]? := fun x hx => by
    rw [hZ, heap_setCell_other _ _ _ _ hx, heap_setCell_other _ _ _ _ hx]
  have e1 : (V.setCell ⟨XB, 0, none⟩ (.slice a' n c')).heap[XB]? = some (.cells #[.slice a' n c', .int .i64 0] 31 (0, 0)) := by rw [heap_setCell_same _ _ _ _ _ _ h.row]; rfl
  refine { h with ar := h.ar.keep (fun x hx => hkeep x (fun e => h.xs (e ▸ hx))), row := by rw [hZ, heap_setCell_same _ _ _ _ _ _ e1]; rfl, fre := ?_, bel := by rw [hZ]; exact (h.bel.setCell h.xo _).setCell h.xo _ }
  have hf2 : Rw (fun x => x ≠ XB ∧ ¬ S x) V 4 1 a' n c' (blR F') := by
    obtain ⟨g1, g2, g3, g4⟩ := hf
    refine ⟨g1, g2, g3, fun h0 => ?_⟩
    obtain ⟨b, o, e, hb, hg, hc⟩ := g4 h0
    exact ⟨b, o, e, hb, ⟨hne b (by rw [e]; rfl), hg⟩, hc⟩
  exact (hf2.keep (w' := Z) (by rw [hZ]; simp) (fun b hb _ => hkeep b hb.1)).mono (fun _ hx _ => hx.2)
theorem RfS.taken (h : RfS w V S ab XB X n fa fc F) {X' : Ar} {v : Value} {e : Ending} (hs : X'.sz = X.sz) (ht : ATo V S ab X' v e V1) : RfS w V1 (more S V V1) ab XB X' n fa fc F := by
  obtain ⟨_, h2, h3⟩ := ht
  have lx := lt_of_some h.row
  have hns : ∀ x, ¬ S x → x < V.heap.size → ¬ more S V V1 x := fun x hx hl hm => hm.elim hx (fun e => by omega)
  refine { ar := h2, sz := by rw [hs]; exact h.sz, row := (h3.block _ lx h.xs).trans h.row, fre := ?_, xs := hns _ h.xs lx, bel := h.bel.trans (h3.below h.bel.size h.old), old := fun x hx => hx.elim (h.old x) (fun e => Nat.le_trans h.bel.size e.1), xo := h.xo }
  have hf2 : Rw (fun x => ¬ S x ∧ x < V.heap.size) V 4 1 fa n fc (blR F) := by
    obtain ⟨g1, g2, g3, g4⟩ := h.fre
    refine ⟨g1, g2, g3, fun h0 => ?_⟩
    obtain ⟨b, o, e, hb, hg, hc⟩ := g4 h0
    exact ⟨b, o, e, hb, ⟨hg, hb⟩, hc⟩
  exact (hf2.keep h3.size (fun b hb _ => h3.block b hb.2 hb.1)).mono (fun x hx _ => hns x hx.1 hx.2)
end
/-- Why a plan of spans is refused. -/
def nowhere (X : Ar) (l : List Sp) : Prop := ∃ s ∈ l, X.has s = false
def badAt (X : Ar) (l : List Sp) (i : Nat) : Prop := ∃ s, l[i]? = some s ∧ (takD X.hs s = false ∨ ∃ k t, k < i ∧ l[k]? = some t ∧ ovl s t)
theorem fine_iff (X : Ar) (l : List Sp) : FineL X l ↔ ∀ i, ¬ badAt X l i := by
  unfold FineL badAt
  rw [List.pairwise_iff_getElem]
  constructor
  · rintro ⟨h1, h2⟩ i ⟨s, hs, hb⟩
    obtain ⟨hi, rfl⟩ := List.getElem?_eq_some_iff.1 hs
    rcases hb with hb | ⟨k, t, hk, ht, ho⟩
    · have := h1 _ (List.getElem_mem hi)
      rw [hb] at this
      cases this
    · obtain ⟨hk2, rfl⟩ := List.getElem?_eq_some_iff.1 ht
      exact h2 k i hk2 hi hk (ovl_symm ho)
  · intro h
    constructor
    · intro s hs
      obtain ⟨i, hi, rfl⟩ := List.getElem_of_mem hs
      cases ht : takD X.hs l[i] with
      | true => rfl
      | false => exact absurd ⟨l[i], List.getElem?_eq_getElem hi, .inl ht⟩ (h i)
    · intro i j hi hj hij ho
      exact h j ⟨l[j], List.getElem?_eq_getElem hj, .inr ⟨i, l[i], hij, List.getElem?_eq_getElem hi, ovl_symm ho⟩⟩
/-- What a plan of spans answers. -/
theorem plan_why {w w' : World} {X : Ar} {l : List Sp} {e : Ending} (h : PlanTo w w' X l e) : Below w.heap.size w w' ∧
    ((nowhere X l ∧ e = .returned (.tuple #[.slice none 0 0, .int .i64 9])) ∨ (¬ nowhere X l ∧ ¬ (∀ i, ¬ badAt X l i) ∧ e = .returned (.tuple #[.slice none 0 0, .int .i64 8])) ∨ (¬ nowhere X l ∧ (∀ i, ¬ badAt X l i) ∧ ∃ a k c, (l = [] → k = 0) ∧ e = .returned (.tuple #[.slice a k c, .int .i64 0]))) := by
  obtain ⟨hb, h⟩ := h
  refine ⟨hb, ?_⟩
  rcases h with ⟨h1, h2⟩ | ⟨h1, l', hp, hso, h2⟩
  · exact .inl ⟨h1, h2⟩
  · have hn : ¬ nowhere X l := fun ⟨s, hs, e⟩ => by rw [h1 s hs] at e; cases e
    have hi := chk_iff X hp hso (fun s hs => ((X.has_iff s).1 (h1 s hs)).2.1) (fun s hs => ((X.has_iff s).1 (h1 s hs)).1)
    rcases h2 with ⟨h3, h4⟩ | ⟨h3, a, c, h4, _⟩
    · refine .inr (.inl ⟨hn, fun hf => ?_, h4⟩)
      have := hi.2 ((fine_iff X l).2 hf)
      rw [h3] at this
      cases this
    · refine .inr (.inr ⟨hn, (fine_iff X l).1 (hi.1 h3), a, _, c, fun e => ?_, h4⟩)
      subst e
      rw [List.Perm.eq_nil hp]
      rfl
end Go.Proofs.Ytgihdfmeokbplaa
