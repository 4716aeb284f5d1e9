/- What PagerBack and PagerWhole want: a state that was told, beside the pager. -/
import Derived.Test.YtdgffocmdkadpaaGreatRX
import Derived.Test.YtdgffocmdkadpaaGreatRO
namespace Go.Proofs.YtdgffocmdkadpaaGreat
open Go.RowKit Go.Shelf Pg
/-- A told state in memory: the box b, and its rows, in G. -/
def Was (G : Nat → Prop) (V : World) (b n : Nat) (us : List Bool) (ds : List ByteArray) (r : Nat → Nat) (ser : Nat) : Prop := ∃ ua uc da dc, V.heap[b]? = some (.cells (rsA (.slice ua n uc) (.slice da n dc) r ser) 42 (0, 0)) ∧ G b ∧ Rw G V 4 1 ua n uc (boolsV us) ∧ Rw G V 9 1 da n dc (strsV ds)
theorem Was.fr {G G' : Nat → Prop} {V V' : World} {b n : Nat} {us : List Bool} {ds : List ByteArray} {r : Nat → Nat} {ser : Nat} (h : Was G V b n us ds r ser) (f : Fr G V G' V') : Was G' V' b n us ds r ser := by
  obtain ⟨ua, uc, da, dc, h1, h2, h3, h4⟩ := h
  exact ⟨ua, uc, da, dc, (f.blk b h2 (lt_of_some h1)).trans h1, f.sub b h2, h3.fr f, h4.fr f⟩
theorem rsA_rsV (ua : Option Addr) (uc : Nat) (da : Option Addr) (dc n : Nat) (r : Nat → Nat) (ser : Nat) : (.agg (rsA (.slice ua n uc) (.slice da n dc) r ser) : Value) = rsV ua uc da dc n (fun k => (r k : Int)) (ser : Int) := rfl
/-- A state and a row of numbers that were told: 'was, changed := state(p), p.Changed()'. -/
def TwTo (w0 : World) (n : Nat) (us : List Bool) (ds : List ByteArray) (r : Nat → Nat) (ser : Nat) (l : List Nat) (v9 v10 : Value) (V : World) : Prop := ∃ cb la lc, v9 = .pointer (some ⟨cb, 0, none⟩) ∧ v10 = .slice la l.length lc ∧ Was (fun x => w0.heap.size ≤ x) V cb n us ds r ser ∧ Rw (fun x => w0.heap.size ≤ x) V 3 1 la l.length lc (intsV l) ∧ Below w0.heap.size w0 V
theorem rs_store {V : World} {C n : Nat} {ua da : Option Addr} {uc dc : Nat} {r : Nat → Nat} {ser : Nat} {cur : Array Value} (h : V.heap[C]? = some (.cells cur 42 (0, 0))) (hz : cur.size = 7) : (storeCells ⟨C, 0, none⟩ (rsA (.slice ua n uc) (.slice da n dc) r ser).toList).run Tryz.prog V = .ok () (V.setRow C (rsA (.slice ua n uc) (.slice da n dc) r ser)) := store_rs V C _ _ _ _ _ _ h hz rfl rfl
section
variable {h0 : Nat} {F : Nat → Prop} {w : World} {S : Nat → Prop} {g : Nat} {D : Dk} {pb jb n : Nat} {X X0 : Px}
/-- Back to the savepoint that was made last. -/
theorem pback_last (h : Pgr h0 F w S g D pb jb n X) (hs : X.saves = X0.saves ++ [X0.now]) (hg : X.good = X0.good) (hk : X.kept = X0.kept) : Calls Tryz.prog 25 #[.pointer (some ⟨pb, 0, none⟩), .int .i64 (X0.saves.length : Int)] w fun e w' => e = .returned (.int .i64 0) ∧ PTo h0 F w g D pb jb n X0 w' := by
  refine (pback_any h _).mono ?_
  rintro e w' (⟨i, s, hi, hsi, rfl, hT⟩ | ⟨hr, _⟩)
  · refine ⟨rfl, ?_⟩
    obtain rfl : X0.saves.length = i := by omega
    rw [hs, List.getElem?_append_right (Nat.le_refl _), Nat.sub_self] at hsi
    simp only [List.getElem?_cons_zero, Option.some.injEq] at hsi
    subst hsi
    have e : X.bck X0.saves.length X0.now = X0 := by
      unfold Px.bck
      rw [hs, List.take_left]
      obtain ⟨a, b, c, d⟩ := X0
      simp only at hg hk ⊢
      rw [← hg, ← hk]
    rw [e] at hT
    exact hT
  · rw [hs, List.length_append, List.length_singleton] at hr
    omega
theorem pback_none (h : Pgr h0 F w S g D pb jb n X) : Calls Tryz.prog 25 #[.pointer (some ⟨pb, 0, none⟩), .int .i64 (X.saves.length : Int)] w fun e w' => e = .returned (.int .i64 6) ∧ PTo h0 F w g D pb jb n X w' := by
  refine (pback_any h _).mono ?_
  rintro e w' (⟨i, s, hi, hsi, _⟩ | ⟨_, rfl, hT⟩)
  · obtain rfl : X.saves.length = i := by omega
    rw [List.getElem?_eq_none (Nat.le_refl _)] at hsi
    cases hsi
  · exact ⟨rfl, hT⟩
end
/-- Behind some steps ahead. -/
def LpTo (w : World) (g n zb jb : Nat) (V : World) : Prop := ∃ (i : Nat) (F1 : Nat → Prop) (D : Dk) (X : Px) (pb : Nat), i ≤ 40 ∧ PsE w.heap.size F1 V g D pb jb n X zb jb ∧ Inv n i D X ∧ Below w.heap.size w V
/-- Behind some steps behind a savepoint. -/
def Lp2To (w wq : World) (FF : Nat → Prop) (g : Nat) (D : Dk) (pb jb n : Nat) (X : Px) (zb : Nat) (V : World) : Prop := ∃ (F2 : Nat → Prop) (Y : Px), PsE w.heap.size F2 V g D pb jb n Y zb jb ∧ Y.saves = X.saves ++ [X.now] ∧ Y.good = X.good ∧ Y.kept = X.kept ∧ Below w.heap.size w V ∧ Fr FF wq (but zb F2) V
theorem chg_len {n : Nat} {D : Dk} {X : Px} : (X.chg n D).length ≤ n - 1 + 1 := by
  unfold Px.chg
  split
  · exact Nat.zero_le _
  · rw [List.length_cons]
    have := chP_len (X := X) (n := n) (D := D)
    omega
theorem same_self {F G : Nat → Prop} {w : World} {n : Nat} {ua ua' da da' : Option Addr} {uc uc' dc dc' : Nat} {us : List Bool} {ds : List ByteArray} (hu : Rw F w 4 1 ua n uc (boolsV us)) (hd : Rw F w 9 1 da n dc (strsV ds)) (hu' : Rw G w 4 1 ua' n uc' (boolsV us)) (hd' : Rw G w 9 1 da' n dc' (strsV ds)) (hn : 1 ≤ n) (hn2 : n ≤ 128) (r : Nat → Nat) (ser : Nat) : Calls Tryz.prog 23 #[.agg (rsA (.slice ua n uc) (.slice da n dc) r ser), .agg (rsA (.slice ua' n uc') (.slice da' n dc') r ser)] w fun e w' => e = .returned (.bool true) ∧ Below w.heap.size w w' := by
  rw [rsA_rsV, rsA_rsV]
  refine (rsame_any hu hd hu' hd' hn hn2 _ _ _ _).mono ?_
  rintro e w' ⟨b, rfl, hb, hbw⟩
  rw [hb ⟨fun _ _ => rfl, rfl, fun _ _ => ⟨rfl, fun _ _ => rfl⟩⟩]
  exact ⟨rfl, hbw⟩
end Go.Proofs.YtdgffocmdkadpaaGreat
