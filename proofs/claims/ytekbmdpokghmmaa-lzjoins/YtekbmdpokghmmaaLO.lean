/- choose: what it holds. -/
import Derived.Test.YtekbmdpokghmmaaLK
namespace Go.Proofs.Ytekbmdpokghmmaa
open Go.RowKit Lz
/-- choose's blocks. -/
structure ChK (R N0 N1 D X L mb : Nat) : Prop where
  r : R ≤ N0
  d : N0 ≤ D ∧ D < N1
  x : N0 ≤ X ∧ X < N1
  l : N0 ≤ L ∧ L < N1
  m : N0 ≤ mb ∧ mb < N1
  n1 : D ≠ X
  n2 : D ≠ L
  n3 : D ≠ mb
  n4 : X ≠ mb
  n5 : L ≠ mb
structure ChS (w : World) (N0 N1 D X L mb f : Nat) (x : List UInt8) (lb : Array Value) (Inv : World → List Tk → (Nat → Prop) → Prop) (i d : Nat) (ts : List Tk) (F : Nat → Prop) : Prop where
  inv : Inv w ts F
  fr : ∀ z, F z → z < N0 ∨ N1 ≤ z
  ch : ChC w D X L d f (strOf x) lb
  mp : LastIs w mb x i
  sz : N1 ≤ w.heap.size
section
variable {w : World} {R N0 N1 D X L mb f size : Nat} {x : List UInt8} {lb : Array Value} {Inv : World → List Tk → (Nat → Prop) → Prop} {i d : Nat} {ts : List Tk} {F : Nat → Prop}
theorem ChS.below (h : ChS w N0 N1 D X L mb f x lb Inv i d ts F) (hly : LyV R size f lb Inv) {w' : World} (hb : Below w.heap.size w w') : ChS w' N0 N1 D X L mb f x lb Inv i d ts F :=
  ⟨hly.later h.inv hb, h.fr, h.ch.below hb, h.mp.keep (hb.block _ h.mp.lt), Nat.le_trans h.sz hb.size⟩
theorem ChS.off (h : ChS w N0 N1 D X L mb f x lb Inv i d ts F) (hk : ChK R N0 N1 D X L mb) : Off F D X L :=
  ⟨fun e => by have := h.fr _ e; have := hk.d; omega, fun e => by have := h.fr _ e; have := hk.x; omega, fun e => by have := h.fr _ e; have := hk.l; omega, hk.n1, hk.n2⟩
theorem ChS.map (h : ChS w N0 N1 D X L mb f x lb Inv i d ts F) (hk : ChK R N0 N1 D X L mb) (hly : LyV R size f lb Inv) {w' : World} {i' : Nat} (hm : LastIs w' mb x i') (hu : Upd (fun z => z = mb) w w') (hs : w'.heap.size = w.heap.size) : ChS w' N0 N1 D X L mb f x lb Inv i' d ts F := by
  have hR := (hly.lt _ _ _ h.inv).1
  have hK : ∀ z, z < w.heap.size → z ≠ mb → w'.heap[z]? = w.heap[z]? := fun z hz e => hu.block z hz e
  refine ⟨hly.keep _ _ _ _ h.inv (hu.below hR (fun k e => by have := hk.m; have := hk.r; omega)) (fun z hz => hK z ((hly.lt _ _ _ h.inv).2 z hz).2 (fun e => by have := h.fr z hz; have := hk.m; omega)), h.fr, h.ch.keep ?_ ?_ ?_, hm, by rw [hs]; exact h.sz⟩
  · exact hK _ (lt_of_some h.ch.d) hk.n3
  · exact hK _ (lt_of_some h.ch.x) hk.n4
  · exact hK _ (lt_of_some h.ch.l) hk.n5
theorem ChS.own (h : ChS w N0 N1 D X L mb f x lb Inv i d ts F) (hk : ChK R N0 N1 D X L mb) {w' : World} {e : Nat} {ts2 : List Tk} (ho : OwTo w D X L e f (strOf x) lb Inv ts2 F w') : ∃ F', ChS w' N0 N1 D X L mb f x lb Inv i e ts2 F' := by
  obtain ⟨F', hi, hf, hc, hu⟩ := ho
  refine ⟨F', hi, fun z hz => ?_, hc, h.mp.keep (hu.block _ h.mp.lt ?_), Nat.le_trans h.sz hu.size⟩
  · rcases hf z hz with h1 | h1
    · exact h.fr z h1
    · exact .inr (Nat.le_trans h.sz h1)
  · rintro (e1 | e1)
    · have := h.fr _ e1; have := hk.m; omega
    · exact hk.n3 e1.symm
theorem ChS.lay (h : ChS w N0 N1 D X L mb f x lb Inv i d ts F) (hk : ChK R N0 N1 D X L mb) {w' : World} {ts2 : List Tk} {F' : Nat → Prop} (hi : Inv w' ts2 F') (hf : ∀ z, F' z → F z ∨ w.heap.size ≤ z) (hu : Upd F w w') : ChS w' N0 N1 D X L mb f x lb Inv i d ts2 F' := by
  have ho := h.off hk
  refine ⟨hi, fun z hz => ?_, h.ch.keep (hu.block _ (lt_of_some h.ch.d) ho.d) (hu.block _ (lt_of_some h.ch.x) ho.x) (hu.block _ (lt_of_some h.ch.l) ho.l), h.mp.keep (hu.block _ h.mp.lt ?_), Nat.le_trans h.sz hu.size⟩
  · rcases hf z hz with h1 | h1
    · exact h.fr z h1
    · exact .inr (Nat.le_trans h.sz h1)
  · intro e1
    have := h.fr _ e1; have := hk.m; omega
theorem ChS.set (h : ChS w N0 N1 D X L mb f x lb Inv i d ts F) (hk : ChK R N0 N1 D X L mb) (hly : LyV R size f lb Inv) (m : Nat) : ChS (w.setCell ⟨D, 0, none⟩ (.int .i64 (m : Int))) N0 N1 D X L mb f x lb Inv i m ts F := by
  have ho := h.off hk
  have hb : Below R w (w.setCell ⟨D, 0, none⟩ (.int .i64 (m : Int))) := (Below.refl R w).setCell (by have := hk.d; have := hk.r; show R ≤ D; omega) _
  refine ⟨hly.keep _ _ _ _ h.inv hb (fun z hz => heap_setCell_other _ _ _ _ (by show z ≠ D; intro e; rw [e] at hz; exact ho.d hz)), h.fr, ⟨?_, ?_, ?_⟩, h.mp.keep (heap_setCell_other _ _ _ _ (by show mb ≠ D; exact fun e => hk.n3 e.symm)), Nat.le_trans h.sz hb.size⟩
  · rw [heap_setCell_same _ _ _ _ _ _ h.ch.d]; rfl
  · rw [heap_setCell_other _ _ _ _ (by show X ≠ D; exact fun e => ho.n1 e.symm)]; exact h.ch.x
  · rw [heap_setCell_other _ _ _ _ (by show L ≠ D; exact fun e => ho.n2 e.symm)]; exact h.ch.l
end
/-- A key in memory. -/
theorem key_new (w : World) (a b c : Int) : ∃ V1 V2, w.drew.alloc (.cells #[.int .u8 0, .int .u8 0, .int .u8 0] 71) = V1 ∧ ((V1.setCell ⟨w.heap.size, 0, none⟩ (.int .u8 a)).setCell ⟨w.heap.size, 1, none⟩ (.int .u8 b)).setCell ⟨w.heap.size, 2, none⟩ (.int .u8 c) = V2 ∧ Below w.heap.size w V1 ∧ Below w.heap.size w V2 ∧ V1.heap[w.heap.size]? = some (.cells #[.int .u8 0, .int .u8 0, .int .u8 0] 71 (0, 0)) ∧ V2.heap[w.heap.size]? = some (.cells #[.int .u8 a, .int .u8 b, .int .u8 c] 71 (0, 0)) := by
  have hr : (w.drew.alloc (.cells #[.int .u8 0, .int .u8 0, .int .u8 0] 71)).heap[w.heap.size]? = some (.cells #[.int .u8 0, .int .u8 0, .int .u8 0] 71 (0, 0)) := heap_alloc_new w.drew _
  have hb : Below w.heap.size w (w.drew.alloc (.cells #[.int .u8 0, .int .u8 0, .int .u8 0] 71)) := ((Below.refl _ w).drew).alloc (Nat.le_refl _) _
  refine ⟨_, _, rfl, rfl, hb, ?_, hr, ?_⟩
  · exact ((hb.setCell (Nat.le_refl _) _).setCell (Nat.le_refl _) _).setCell (Nat.le_refl _) _
  · rw [heap_setCell_same _ _ 2 _ _ _ (heap_setCell_same _ _ 1 _ _ _ (heap_setCell_same _ _ 0 _ _ _ hr))]
    rfl
theorem run_le (x : List UInt8) (hx : x.length ≤ 65536) : ∀ i, i ≤ x.length - 2 → (runC x i).1 ≤ x.length := fun i hi => (run_ok x hx i hi).le
theorem step_none {x : List UInt8} {i d : Nat} {ts : List Tk} (hr : runC x i = (d, ts)) (h : lastK x (key3 x i) i = none) : runC x (i + 1) = (d, ts) := by
  unfold runC stepC
  rw [h, hr]
theorem step_lt {x : List UInt8} {i d fr : Nat} {ts : List Tk} (hr : runC x i = (d, ts)) (h : lastK x (key3 x i) i = some fr) (hd : i < d) : runC x (i + 1) = (d, ts) := by
  unfold runC stepC
  rw [h, hr]
  simp only
  rw [if_pos hd]
theorem step_no {x : List UInt8} {i d fr : Nat} {ts : List Tk} (hr : runC x i = (d, ts)) (h : lastK x (key3 x i) i = some fr) (hd : ¬ i < d) (hn : ¬ (3 < alike x fr i ∨ i = d)) : runC x (i + 1) = (d, ts) := by
  unfold runC stepC
  rw [h, hr]
  simp only
  rw [if_neg hd, if_neg hn]
theorem step_yes {x : List UInt8} {i d fr : Nat} {ts : List Tk} (hr : runC x i = (d, ts)) (h : lastK x (key3 x i) i = some fr) (hd : ¬ i < d) (hn : 3 < alike x fr i ∨ i = d) : runC x (i + 1) = (i + alike x fr i, ts ++ ownsL x d i ++ [⟨i - fr, alike x fr i, []⟩]) := by
  unfold runC stepC
  rw [h, hr]
  simp only
  rw [if_neg hd, if_pos hn]
end Go.Proofs.Ytekbmdpokghmmaa
