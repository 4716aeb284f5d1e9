/- A Cutter beside the chunks that it told. -/
import Derived.Test.YtebmmhgmbnbnnaaCN
namespace Go.Proofs.Ytebmmhgmbnbnnaa
open Go.RowKit Ck
/-- The text T went through; got has its chunks. -/
structure PcS (A V : World) (g q r : Nat) (m : Ms) (T : List UInt8) (ga : Option Addr) (gn gc : Nat) (wa : Option Addr) (wc : Nat) (Gs : List (List UInt8)) (wt : List UInt8) : Prop where
  go : goC m [] [] T = (Gs, wt)
  ct : CtIs V g q r wa wc m T wt
  row : V.ownsRow A.heap.size 9 1 (.slice ga gn gc) gn (stR (Gs.map strOf))
  bel : Below A.heap.size A V
  old : ∀ x, ctS g q r wa x → A.heap.size ≤ x
  apart : ∀ x, ob ga = some x → ¬ ctS g q r wa x
section
variable {A V V1 : World} {g q r : Nat} {m : Ms} {T : List UInt8} {ga : Option Addr} {gn gc : Nat} {wa : Option Addr} {wc : Nat} {Gs : List (List UInt8)} {wt : List UInt8}
theorem PcS.start (hc : CtIs V g q r wa wc m [] []) (hb : Below A.heap.size A V) (ho : ∀ x, ctS g q r wa x → A.heap.size ≤ x) : PcS A V g q r m [] none 0 0 wa wc [] [] :=
  ⟨rfl, hc, World.ownsRow_nil _ _ _ _, hb, ho, fun x hx => by cases hx⟩
theorem PcS.keep (h : PcS A V g q r m T ga gn gc wa wc Gs wt) (hb : Below V.heap.size V V1) : PcS A V1 g q r m T ga gn gc wa wc Gs wt :=
  ⟨h.go, h.ct.below hb, own_keep h.row (fun x hx => hb.block x (h.row.lt x hx).2), h.bel.trans (hb.mono h.bel.size), h.old, h.apart⟩
theorem PcS.less (h : PcS A V g q r m T ga gn gc wa wc Gs wt) : wt.length < m.most := (go_few h.ct.ok h.go).2
theorem PcS.count (h : PcS A V g q r m T ga gn gc wa wc Gs wt) : Gs.length = gn := by
  have := h.row.1
  rw [stR_len, List.length_map] at this
  omega
theorem PcS.few (h : PcS A V g q r m T ga gn gc wa wc Gs wt) : gn ≤ T.length := by rw [← h.count]; exact (go_few h.ct.ok h.go).1
theorem PcS.sum (h : PcS A V g q r m T ga gn gc wa wc Gs wt) : Gs.flatten.length + wt.length = T.length := by
  have := congrArg List.length (goC_join m T [] [])
  rw [h.go] at this
  simpa using this
/-- The row of chunks behind a Write. -/
theorem PcS.row1 {bs : List UInt8} {k : Nat} {oa : Option Addr} {on oc : Nat} {wa' : Option Addr} {wc' : Nat} {Ls : List (List UInt8)} {wt' : List UInt8} (h : PcS A V g q r m T ga gn gc wa wc Gs wt) (hw : WrS V V1 g q r wa m T wt bs k oa on oc wa' wc' Ls wt') : V1.ownsRow A.heap.size 9 1 (.slice ga gn gc) gn (stR (Gs.map strOf)) ∧ A.heap.size ≤ V1.heap.size :=
  ⟨own_keep h.row (fun x hx => hw.upd.block x (h.row.lt x hx).2 (h.apart x (by rw [← ob_slice ga gn gc]; exact hx))), Nat.le_trans h.bel.size hw.upd.size⟩
theorem PcS.wrote {V2 : World} {bs : List UInt8} {oa : Option Addr} {on oc : Nat} {wa' : Option Addr} {wc' : Nat} {Ls : List (List UInt8)} {wt' : List UInt8} {ga' : Option Addr} {gc' : Nat} (h : PcS A V g q r m T ga gn gc wa wc Gs wt) (hw : WrS V V1 g q r wa m T wt bs bs.length oa on oc wa' wc' Ls wt')
    (ho : V2.ownsRow A.heap.size 9 1 (.slice ga' (gn + on) gc') (gn + on) (stR (Gs.map strOf ++ Ls.map strOf))) (hg : V1.grownBy V2 (ob ga)) (hat : ob ga' = ob ga ∨ ob ga' = some V1.heap.size) : PcS A V2 g q r m (T ++ bs) ga' (gn + on) gc' wa' wc' (Gs ++ Ls) wt' := by
  have hgo := hw.go
  rw [List.take_of_length_le (Nat.le_refl _)] at hgo
  have hct := hw.ct
  rw [List.take_of_length_le (Nat.le_refl _)] at hct
  have hgl : ∀ x, ob ga = some x → x < V.heap.size := fun x hx => (h.row.lt x (by rw [ob_slice]; exact hx)).2
  have hold : ∀ x, ctS g q r wa' x → A.heap.size ≤ x := fun x hx => by
    rcases hx with hx | hx | hx | hx
    · exact h.old x (.inl hx)
    · exact h.old x (.inr (.inl hx))
    · exact h.old x (.inr (.inr (.inl hx)))
    · rcases hw.new x hx with h1 | h1
      · exact h.old x (.inr (.inr (.inr h1)))
      · exact Nat.le_trans h.bel.size h1
  have hap : ∀ x, ob ga = some x → ¬ ctS g q r wa' x := fun x hx hc => by
    rcases hc with hc | hc | hc | hc
    · exact h.apart x hx (.inl hc)
    · exact h.apart x hx (.inr (.inl hc))
    · exact h.apart x hx (.inr (.inr (.inl hc)))
    · rcases hw.new x hc with h1 | h1
      · exact h.apart x hx (.inr (.inr (.inr h1)))
      · have := hgl x hx; omega
  refine ⟨?_, hct.keep hg.size (fun x hx => hg.block x (hct.lt x hx) (fun e => hap x e.symm hx)), by rw [List.map_append]; exact ho, ?_, hold, ?_⟩
  · rw [goC_append, h.go, List.nil_append, hgo]
  · have h1 : Below A.heap.size A V1 := h.bel.trans (hw.upd.below h.bel.size h.old)
    exact h1.grown hg h1.size (fun k hk => (h.row.lt k (by rw [ob_slice]; exact hk)).1)
  · intro x hx hc
    rcases hat with e | e
    · exact hap x (e ▸ hx) hc
    · rw [hx] at e
      have h1 : x = V1.heap.size := by simpa using e
      have := hct.lt x hc
      omega
/-- Behind End. -/
theorem PcS.ended (h : PcS A V g q r m T ga gn gc wa wc Gs wt) (hu : Upd (fun x => x = g ∨ x = q) V V1) : V1.ownsRow A.heap.size 9 1 (.slice ga gn gc) gn (stR (Gs.map strOf)) ∧ Below A.heap.size A V1 ∧ cutL m T = Gs ++ lastC wt :=
  ⟨own_keep h.row (fun x hx => hu.block x (h.row.lt x hx).2 (fun e => h.apart x (by rw [← ob_slice ga gn gc]; exact hx) (e.elim .inl (fun e => .inr (.inl e))))), h.bel.trans (hu.below h.bel.size (fun x hx => h.old x (hx.elim .inl (fun e => .inr (.inl e))))), by unfold cutL; rw [h.go]⟩
end
end Go.Proofs.Ytebmmhgmbnbnnaa
