/- Rows that are written over; slices.Insert of one span. -/
import Derived.Test.YtgihdfmeokbplaaXF
import Derived.Shelf.Spec.SlicesInsert
namespace Go.Proofs.Ytgihdfmeokbplaa
open Go.RowKit Ex
/-- A list written over from a place on. -/
def put (L : List Value) (o : Nat) (C : List Value) : List Value := L.take o ++ C ++ L.drop (o + C.length)
theorem put_len {L C : List Value} {o : Nat} (h : o + C.length ≤ L.length) : (put L o C).length = L.length := by
  simp only [put, List.length_append, List.length_take, List.length_drop]; omega
theorem put_end {L C : List Value} {o : Nat} (h : o ≤ L.length) : (put L o C).take (o + C.length) = L.take o ++ C := by
  unfold put
  rw [List.take_left' (by rw [List.length_append, List.length_take]; omega)]
theorem put_le {L C : List Value} {o k : Nat} (h : k ≤ o) (ho : o ≤ L.length) : (put L o C).take k = L.take k := by
  unfold put
  rw [List.append_assoc, List.take_append_of_le_length (by rw [List.length_take]; omega), List.take_take, Nat.min_eq_left h]
theorem put_drop {L C : List Value} {o : Nat} (h : o ≤ L.length) : (put L o C).drop o = C ++ L.drop (o + C.length) := by
  unfold put
  rw [List.append_assoc, List.drop_left' (by rw [List.length_take]; omega)]
/-- Behind what is ahead of a place, V, then D: written from the front. -/
theorem put_front {L V D : List Value} {o : Nat} (h : o + V.length + D.length ≤ L.length) : (put (put L o V) (o + V.length) D).take (o + V.length + D.length) = L.take o ++ V ++ D := by
  rw [put_end (by rw [put_len (by omega)]; omega), put_end (by omega)]
/-- .. written from the back. -/
theorem put_back {L V D : List Value} {o : Nat} (h : o + V.length + D.length ≤ L.length) : (put (put L (o + V.length) D) o V).take (o + V.length + D.length) = L.take o ++ V ++ D := by
  have e : put (put L (o + V.length) D) o V = L.take o ++ V ++ (D ++ L.drop (o + V.length + D.length)) := by
    conv => lhs; unfold put
    have e1 : (L.take (o + V.length) ++ D ++ L.drop (o + V.length + D.length)) = put L (o + V.length) D := rfl
    rw [e1, put_le (by omega) (by omega), put_drop (by omega)]
  rw [e, ← List.append_assoc, List.take_left' (by simp only [List.length_append, List.length_take]; omega)]
/-- A block of spans' cells. -/
def Blk (w : World) (b : Nat) (L : List Value) : Prop := w.heap[b]? = some (.cells L.toArray 37 (0, 0))
theorem Blk.put {w : World} {b : Nat} {L : List Value} (h : Blk w b L) (L' : List Value) : Blk (w.setRow b L'.toArray) b L' := setRow_heap w b _ _ _ _ h
theorem Blk.lt {w : World} {b : Nat} {L : List Value} (h : Blk w b L) : b < w.heap.size := lt_of_some h
theorem Blk.cell {w : World} {b : Nat} {L : List Value} (h : Blk w b L) {j : Nat} {u : Value} (hu : L[j]? = some u) : w.cell? ⟨b, j, none⟩ = some u := by
  rw [cell_of_row w b j _ _ _ h]; simpa using hu
theorem Blk.own {w : World} {b n cap : Nat} {L : List Value} {xs : List Sp} (h : Blk w b L) (hn : n ≤ cap) (hc : cap ≤ maxLen) (hL : L.length = cap * 2) (hx : xs.length = n) (ht : L.take (n * 2) = spsV xs) : w.ownsRow 0 37 2 (.slice (some ⟨b, 0, none⟩) n cap) n (spsV xs) :=
  ⟨by rw [spsV_len, hx], .inr ⟨b, cap, L.toArray, rfl, Nat.zero_le _, h, hn, hc, by simpa using hL, by simpa using ht⟩⟩
theorem Blk.of {w : World} {base b n cap : Nat} {xs : List Value} (h : w.ownsRow base 37 2 (.slice (some ⟨b, 0, none⟩) n cap) n xs) : ∃ L, Blk w b L ∧ L.length = cap * 2 ∧ L.take (n * 2) = xs ∧ n ≤ cap ∧ cap ≤ maxLen := by
  rcases h.2 with ⟨h2, _⟩ | ⟨g, cp, cur, e, hb, hr, h3, h4, h5, h6⟩
  · cases h2
  · cases e
    exact ⟨cur.toList, by unfold Blk; rw [Array.toArray_toList]; exact hr, by simpa using h5, h6, h3, h4⟩
theorem info37 : (Try.prog.info? 37).map (fun i => (i.zero, i.size, i.bytes)) = some (some (.agg #[.int .i64 0, .int .i64 0]), 2, 16) := by kernel_rfl
/-- The operation 'copy' onto a block of spans. -/
theorem copy2 {W : World} {b : Nat} {L : List Value} (hr : Blk W b L) (o dLen dCap : Nat) (a : Addr) (sLen sCap : Nat) (cs : List Value) (hn : cs.length = Nat.min sLen dLen * 2)
    (hsrc : ∀ j v, cs[j]? = some v → W.cell? (a.add j) = some v) (hfit : o + cs.length ≤ L.length) (h1 : ∀ v ∈ cs, v.oneCell' = true) (ty : TypeId) :
    (Builtin.copy_ #[33, 33] ty #[.slice (some ⟨b, o, none⟩) dLen dCap, .slice (some a) sLen sCap]).run Try.prog W = .ok (goInt (Nat.min sLen dLen)) (W.setRow b (put L o cs).toArray) := by
  have hl := run_loadCells_list (P := Try.prog) W a cs hsrc
  have hst := run_storeCells_at Try.prog b o 37 cs 0 L.toArray W hr (by simpa using hfit) h1
  obtain ⟨i, hi, hz0, hz1, hz2⟩ := info_parts info37
  simp [Builtin.copy_, run_underlying Try.underlying33, Builtin.lenOf, Builtin.firstCells, sizeOf, typeInfo, hi, hz1, ← hn, hl, hst, put]
theorem copy2_nil {W : World} {b : Nat} (o dLen dCap : Nat) (ty : TypeId) :
    (Builtin.copy_ #[33, 33] ty #[.slice (some ⟨b, o, none⟩) dLen dCap, .slice none 0 0]).run Try.prog W = .ok (goInt 0) W := by
  obtain ⟨i, hi, _⟩ := info_parts info37
  simp [Builtin.copy_, run_underlying Try.underlying33, Builtin.lenOf, Builtin.firstCells, sizeOf, typeInfo, hi, storeCells]
/-- What Insert and Replace leave. -/
def RpTo (w : World) (a : Option Addr) (xs : List Sp) (e : Ending) (w' : World) : Prop :=
  ∃ a' c', e = .returned (.slice a' xs.length c') ∧ w'.ownsRow 0 37 2 (.slice a' xs.length c') xs.length (spsV xs) ∧ (∀ x, ob a' = some x → ob a = some x ∨ w.heap.size ≤ x) ∧ Upd (fun x => ob a = some x) w w'
theorem Upd.grown {S : Nat → Prop} {a w w' : World} {row : Option Nat} (h : Upd S a w) (hg : w.grownBy w' row) (hr : ∀ k, row = some k → k < a.heap.size → S k) : Upd S a w' :=
  ⟨hg.os.trans h.os, hg.tape.trans h.tape, hg.output.trans h.output, Nat.le_trans h.size hg.size, fun k hk hs => (hg.block k (Nat.lt_of_lt_of_le hk h.size) (fun e => hs (hr k e.symm hk))).trans (h.block k hk hs)⟩
set_option maxRecDepth 100000 in
set_option maxHeartbeats 4000000 in
theorem insert_end {w : World} {a : Option Addr} {n cap vb vc : Nat} {hs : List Sp} {v : Sp} (h : w.ownsRow 0 37 2 (.slice a n cap) n (spsV hs)) (hv : w.cell? ⟨vb, 0, none⟩ = some (.int .i64 v.1) ∧ w.cell? ⟨vb, 1, none⟩ = some (.int .i64 v.2)) (hn : n ≤ 900000) :
    Calls Try.prog 70 #[.slice a n cap, .int .i64 (n : Int), .slice (some ⟨vb, 0, none⟩) 1 vc] w (RpTo w a (hs ++ [v])) := by
  have hl : hs.length = n := by have := h.1; rw [spsV_len] at this; omega
  have hcp : n ≤ cap := (SpW.own h).hcp
  have HO : Hid (w.ownsRow 0 37 2 (.slice a n cap) n (spsV hs)) := h
  have HV : Hid (∀ j u, [Value.int .i64 v.1, Value.int .i64 v.2][j]? = some u → w.cell? ((⟨vb, 0, none⟩ : Addr).add j) = some u) := fun j u hu => by
    rw [add_at, Nat.zero_add]
    rcases j with _ | _ | j
    · cases hu; exact hv.1
    · cases hu; exact hv.2
    · simp at hu
  obtain ⟨i0, hi, hz0, hz1, hz2⟩ := info_parts info37
  have hlen : (hs ++ [v]).length = n + 1 := by rw [List.length_append, hl]; rfl
  have HT : Hid (∀ g cp w1, w1.ownsRow 0 37 2 (.slice (some ⟨g, 0, none⟩) (n + 1) cp) (n + 1) (spsV hs ++ [Value.int .i64 v.1, Value.int .i64 v.2]) → w.grownBy w1 (Value.slice a n cap).ownBlock → ((Value.slice a n cap).ownBlock = some g ∨ g = w.heap.size) → g < w1.heap.size → RpTo w a (hs ++ [v]) (.returned (.slice (some ⟨g, 0, none⟩) (n + 1) cp)) w1) := fun g cp w1 hown hgrow hat _ => by
    rw [ob_slice] at hgrow hat
    refine ⟨some ⟨g, 0, none⟩, cp, by rw [hlen], ?_, fun x hx => ?_, (Upd.refl _ w).grown hgrow (fun k hk _ => hk)⟩
    · rw [hlen, spsV_snoc]; exact hown
    · cases hx
      rcases hat with hat | hat
      · exact .inl hat
      · exact .inr (by rw [hat]; exact Nat.le_refl _)
  clear h hv hlen
  by_cases hc : cap = n
  · subst hc
    go_enter Try.func70, Try.ntmps70
    go_wp2_with (at_builtin; refine wpList_append_lies _ rfl _ _ 33 rfl 0 37 i0 (.agg #[.int .i64 0, .int .i64 0]) 2 16 Try.underlying33 hi hz0 hz1 hz2 rfl (by decide) _ _ _ rfl HO.out ⟨vb, 0, none⟩ 1 vc [Value.int .i64 v.1, Value.int .i64 v.2] rfl rfl HV.out (by simp [Value.oneCell']) (by omega) (by unfold maxLen; omega) (by omega) (Nat.zero_le _) _ rfl ?_)
    intro g cp w1 hown hgrow hat hlt
    have HR := HT.out g cp w1 hown hgrow hat hlt
    have HR2 : Hid (RpTo w a (hs ++ [v]) (.returned (.slice (some ⟨g, 0, none⟩) (cap + 1) cp)) w1) := HR
    clear hown hgrow hat hlt HR
    go_wp2
    go_ret
    exact HR2.out
  · go_enter Try.func70, Try.ntmps70
    go_wp2_with (at_builtin; refine wpList_append_lies _ rfl _ _ 33 rfl 0 37 i0 (.agg #[.int .i64 0, .int .i64 0]) 2 16 Try.underlying33 hi hz0 hz1 hz2 rfl (by decide) _ _ _ rfl HO.out ⟨vb, 0, none⟩ 1 vc [Value.int .i64 v.1, Value.int .i64 v.2] rfl rfl HV.out (by simp [Value.oneCell']) (by omega) (by unfold maxLen; omega) (by omega) (Nat.zero_le _) _ rfl ?_)
    intro g cp w1 hown hgrow hat hlt
    have HR := HT.out g cp w1 hown hgrow hat hlt
    have HR2 : Hid (RpTo w a (hs ++ [v]) (.returned (.slice (some ⟨g, 0, none⟩) (n + 1) cp)) w1) := HR
    clear hown hgrow hat hlt HR
    go_wp2
    go_ret
    exact HR2.out
theorem overl {w : World} {b vb la ca lb cb kA kB o1 o2 : Nat} {tA tB : TypeId} (hne : vb ≠ b) (hsa : w.shape? vb = some (tA, kA)) (hsb : w.shape? b = some (tB, kB)) (hkB : kB ≠ 0) (hfa : w.frozen? ⟨vb, o1, none⟩ = false) (hfe : w.frozen? ⟨vb, kA, none⟩ = false) :
    (callFunc 71 #[.slice (some ⟨vb, o1, none⟩) la ca, .slice (some ⟨b, o2, none⟩) lb cb]).run Try.prog w = .ok (.value (.bool false)) w := by
  rw [run_callFunc_extern Try.func71 (by kernel_rfl) (by kernel_rfl) (by kernel_rfl) (e := Extern.SlicesOverlaps.overlaps #[33, 33] #[4]) (by kernel_rfl),
    Lib.run_overlaps_apart w 33 4 37 Try.underlying33 2 Try.sizeOf37 ⟨vb, o1, none⟩ ⟨b, o2, none⟩ la ca lb cb hne tA tB kA kB hsa hsb hkB hfa hfe]
  rfl
theorem Blk.shape {w : World} {b : Nat} {L : List Value} (h : Blk w b L) : w.shape? b = some (37, L.length) := by
  unfold Blk at h
  simp [World.shape?, h]
theorem Blk.fro {w : World} {b : Nat} {L : List Value} (h : Blk w b L) (j : Nat) : w.frozen? ⟨b, j, none⟩ = false := frozen_of_row w b j _ _ h
theorem cells_two {w : World} {vb : Nat} {v : Sp} (h : Blk w vb (spsV [v])) : ∀ j u, (spsV [v])[j]? = some u → w.cell? ((⟨vb, 0, none⟩ : Addr).add j) = some u := fun j u hu => by
  rw [add_at, Nat.zero_add]; exact h.cell hu
theorem drop_cells {w : World} {b n i : Nat} {L : List Value} {hs : List Sp} (h : Blk w b L) (ht : L.take (n * 2) = spsV hs) : ∀ j u, (spsV (hs.drop i))[j]? = some u → w.cell? ((⟨b, i * 2, none⟩ : Addr).add j) = some u := fun j u hu => by
  rw [add_at]
  refine h.cell ?_
  rw [← spsV_drop, List.getElem?_drop, ← ht, List.getElem?_take] at hu
  split at hu
  · exact hu
  · cases hu
set_option maxRecDepth 100000 in
set_option maxHeartbeats 8000000 in
theorem insert_room {w : World} {b n cap vb i : Nat} {hs : List Sp} {v : Sp} (h : w.ownsRow 0 37 2 (.slice (some ⟨b, 0, none⟩) n cap) n (spsV hs)) (hv : Blk w vb (spsV [v])) (hne : vb ≠ b) (hi : i < n) (hr : n + 1 ≤ cap) :
    Calls Try.prog 70 #[.slice (some ⟨b, 0, none⟩) n cap, .int .i64 (i : Int), .slice (some ⟨vb, 0, none⟩) 1 1] w (RpTo w (some ⟨b, 0, none⟩) (hs.take i ++ v :: hs.drop i)) := by
  have hl : hs.length = n := by have := h.1; rw [spsV_len] at this; omega
  obtain ⟨L, hB, hLl, hLt, hnc, hcm⟩ := Blk.of h
  have hdl : (spsV (hs.drop i)).length = (n - i) * 2 := by rw [spsV_len, List.length_drop, hl]
  have hvl : (spsV [v]).length = 2 := by rw [spsV_len]; rfl
  have hlen : (hs.take i ++ [v] ++ hs.drop i).length = n + 1 := by simp only [List.length_append, List.length_take, List.length_drop, List.length_cons, List.length_nil]; omega
  have hcm2 : cap ≤ 9223372036854775807 := by simp only [maxLen] at hcm; omega
  have hov : ∀ lb cb, (callFunc 71 #[.slice (some ⟨vb, 0, none⟩) 1 1, .slice (some ⟨b, (i + 1) * 2, none⟩) lb cb]).run Try.prog w = .ok (.value (.bool false)) w := fun lb cb =>
    overl hne hv.shape hB.shape (by omega) (hv.fro _) (hv.fro _)
  have hBd : Blk w.drew b L := hB
  have hcp1 : ∀ ty dc sc, (Builtin.copy_ #[33, 33] ty #[.slice (some ⟨b, (i + 1) * 2, none⟩) (n - i) dc, .slice (some ⟨b, i * 2, none⟩) (n + 1 - i) sc]).run Try.prog w.drew = .ok (goInt (Nat.min (n + 1 - i) (n - i))) (w.drew.setRow b (put L ((i + 1) * 2) (spsV (hs.drop i))).toArray) := fun ty dc sc =>
    copy2 hBd ((i + 1) * 2) _ dc ⟨b, i * 2, none⟩ _ sc (spsV (hs.drop i)) (by rw [hdl]; simp only [Nat.min_def]; split <;> omega) (drop_cells hBd hLt) (by omega) (spsV_one _) ty
  obtain ⟨W1, hW1⟩ : ∃ W1, w.drew.setRow b (put L ((i + 1) * 2) (spsV (hs.drop i))).toArray = W1 := ⟨_, rfl⟩
  have hB1 : Blk W1 b (put L ((i + 1) * 2) (spsV (hs.drop i))) := by rw [← hW1]; exact hBd.put _
  have hv1 : Blk W1 vb (spsV [v]) := by rw [← hW1]; unfold Blk; rw [setRow_other _ _ _ _ hne]; exact hv
  have hpl : (put L ((i + 1) * 2) (spsV (hs.drop i))).length = cap * 2 := by rw [put_len (by omega)]; exact hLl
  have hcp2 : ∀ ty dc, (Builtin.copy_ #[33, 33] ty #[.slice (some ⟨b, i * 2, none⟩) (n + 1 - i) dc, .slice (some ⟨vb, 0, none⟩) 1 1]).run Try.prog W1 = .ok (goInt (Nat.min 1 (n + 1 - i))) (W1.setRow b (put (put L ((i + 1) * 2) (spsV (hs.drop i))) (i * 2) (spsV [v])).toArray) := fun ty dc =>
    copy2 hB1 (i * 2) _ dc ⟨vb, 0, none⟩ 1 1 (spsV [v]) (by rw [hvl]; simp only [Nat.min_def]; split <;> omega) (cells_two hv1) (by omega) (spsV_one _) ty
  obtain ⟨W2, hW2⟩ : ∃ W2, W1.setRow b (put (put L ((i + 1) * 2) (spsV (hs.drop i))) (i * 2) (spsV [v])).toArray = W2 := ⟨_, rfl⟩
  have hB2 : Blk W2 b (put (put L ((i + 1) * 2) (spsV (hs.drop i))) (i * 2) (spsV [v])) := by rw [← hW2]; exact hB1.put _
  have hcat : hs.take i ++ v :: hs.drop i = hs.take i ++ [v] ++ hs.drop i := by simp
  have HR : Hid (RpTo w (some ⟨b, 0, none⟩) (hs.take i ++ v :: hs.drop i) (.returned (.slice (some ⟨b, 0, none⟩) (n + 1) cap)) W2) := by
    rw [hcat]
    refine ⟨some ⟨b, 0, none⟩, cap, by rw [hlen], ?_, fun x hx => .inl hx, ?_⟩
    · rw [hlen]
      refine hB2.own hr hcm (by rw [put_len (by omega)]; exact hpl) hlen ?_
      have hp := put_back (L := L) (V := spsV [v]) (D := spsV (hs.drop i)) (o := i * 2) (by omega)
      rw [hvl, hdl, show i * 2 + 2 = (i + 1) * 2 by omega, show (i + 1) * 2 + (n - i) * 2 = (n + 1) * 2 by omega] at hp
      rw [hp, spsV_app, spsV_app, ← spsV_take, ← hLt, List.take_take, Nat.min_eq_left (by omega)]
    · rw [← hW2, ← hW1]
      refine Upd.setRow (S := fun x => ob (some ⟨b, 0, none⟩) = some x) ?_ (fun _ => rfl) _
      refine Upd.setRow (S := fun x => ob (some ⟨b, 0, none⟩) = some x) ?_ (fun _ => rfl) _
      exact (Upd.refl _ w).drew
  rw [hW1] at hcp1
  rw [hW2] at hcp2
  have hz2 : ¬ ((i : Int) = (n : Int)) := by omega
  have hw1 : IntKind.i64.wrap ((i : Int) + 1) = (i : Int) + 1 := by rw [IntKind.wrap_i64]; omega
  have hw2 : IntKind.i64.wrap ((n : Int) + 1) = (n : Int) + 1 := by rw [IntKind.wrap_i64]; omega
  have hb1 : (0 : Int) ≤ (i : Int) + 1 := by omega
  have htn : ((i : Int) + 1).toNat = i + 1 := by omega
  have htm : ((n : Int) + 1).toNat = n + 1 := by omega
  have hin : i ≤ n := by omega
  have hb2 : ¬ (cap = i + 1) := by omega
  have hb4 : ¬ (cap = i) := by omega
  have hb3 : (i : Int) ≤ (n : Int) + 1 := by omega
  have mixed : Try.prog.follows .mixedOrders = true := by kernel_rfl
  clear h hv hB hBd hB1 hv1 hB2 hpl hdl hvl hlen hLl hLt hcm hW1 hW2 hl hcat
  go_enter Try.func70, Try.ntmps70
  go_wp2_with (simp only [hov])
  go_region_law_o (refine step_copy_runI rfl _ _ 33 33 rfl _ _ (by simp [Act.eval, Act.put]) (by simp [Act.eval, Act.put]) (hcp1 _ _ _) ?_)
  go_wp2_with (at_builtin; refine wpList_copy_runI _ rfl _ _ 33 33 rfl _ _ rfl rfl (hcp2 _ _) ?_)
  go_ret
  exact HR.out
/-- A new row: what stood ahead, and noughts. -/
theorem grow_any {w : World} {b n cap k i : Nat} {L : List Value} {hs : List Sp} (hB : Blk w b L) (ht : L.take (n * 2) = spsV hs) (hl : hs.length = n) (hi : i ≤ n) (hnc : n ≤ cap) (h0 : 0 < k) (hg : cap < i + k) (hk : i + k ≤ 1000000) (sc : Nat) (hsc : sc = cap) :
    ∃ (G : Nat) (L0 : List Value) (W1 : World), (∀ ty, (Builtin.append_ #[33, 3] ty #[.slice (some ⟨b, 0, none⟩) i sc, .int .i64 ((k : Nat) : Int)]).run Try.prog w = .ok (.slice (some ⟨w.heap.size, 0, none⟩) (i + k) G) W1) ∧ Blk W1 w.heap.size L0 ∧ L0.length = G * 2 ∧ L0.take (i * 2) = spsV (hs.take i) ∧ i + k ≤ G ∧ G ≤ maxLen ∧ Below w.heap.size w W1 := by
  subst hsc
  obtain ⟨i0, hi0, hz0, hzs, hzb⟩ := info_parts info37
  have hold : (Builtin.firstCells i0.size i (.slice (some ⟨b, 0, none⟩) i sc)).run Try.prog w.drew = .ok (spsV (hs.take i)).toArray w.drew := by
    rw [hzs]
    exact run_firstCells_some w.drew 2 i ⟨b, 0, none⟩ i sc (spsV (hs.take i)) (by rw [spsV_len, List.length_take]; omega) (fun j v hj => by
      rw [add_at, Nat.zero_add]
      refine Blk.cell (w := w.drew) hB ?_
      rw [← spsV_take, ← ht, List.take_take, List.getElem?_take] at hj
      split at hj
      · exact hj
      · cases hj)
  have hm : i + k ≤ maxLen := by unfold maxLen; omega
  refine ⟨grownCap w (i + k) sc 37, ((spsV (hs.take i)).toArray ++ Builtin.zeroCells (Value.agg #[.int .i64 0, .int .i64 0]).cells k ++ Builtin.zeroCells (Value.agg #[.int .i64 0, .int .i64 0]).cells (grownCap w (i + k) sc 37 - (i + k))).toList, _, fun ty => Lib.run_append_grow_zeros w 33 3 ty 37 i0 _ .i64 .i64 Try.underlying33 Try.underlying3 hi0 hz0 (some ⟨b, 0, none⟩) i sc (spsV (hs.take i)) hold k h0 (by omega) hg (by omega) (by rw [hzb]; omega) (by rw [hzb]; exact Go.growslice_fits hg (by omega)), ?_, ?_, ?_, grownCap_ge w _ _ _, grownCap_le_maxLen w _ _ _ hm, ?_⟩
  · unfold Blk
    rw [Array.toArray_toList]
    exact heap_alloc_new w.drew _
  · have := grownCap_ge w (i + k) sc 37
    simp only [Array.length_toList, Array.size_append, size_zeroCells, List.size_toArray, spsV_len, List.length_take]
    have h2 : (Value.agg #[.int .i64 0, .int .i64 0]).cells.size = 2 := rfl
    rw [h2, Nat.min_eq_left (by omega)]
    omega
  · simp only [Array.toList_append, List.append_assoc]
    rw [List.take_left' (by rw [spsV_len, List.length_take]; omega)]
  · exact (Below.refl _ w).drew.alloc (Nat.le_refl _) _
theorem insert_grow {w : World} {b n vb i : Nat} {hs : List Sp} {v : Sp} (h : w.ownsRow 0 37 2 (.slice (some ⟨b, 0, none⟩) n n) n (spsV hs)) (hv : Blk w vb (spsV [v])) (hi : i < n) (hn : n ≤ 900000) :
    Calls Try.prog 70 #[.slice (some ⟨b, 0, none⟩) n n, .int .i64 (i : Int), .slice (some ⟨vb, 0, none⟩) 1 1] w (RpTo w (some ⟨b, 0, none⟩) (hs.take i ++ v :: hs.drop i)) := by
  have hl : hs.length = n := by have := h.1; rw [spsV_len] at this; omega
  obtain ⟨L, hB, hLl, hLt, hnc, hcm⟩ := Blk.of h
  have hdl : (spsV (hs.drop i)).length = (n - i) * 2 := by rw [spsV_len, List.length_drop, hl]
  have hvl : (spsV [v]).length = 2 := by rw [spsV_len]; rfl
  have hlen : (hs.take i ++ [v] ++ hs.drop i).length = n + 1 := by simp only [List.length_append, List.length_take, List.length_drop, List.length_cons, List.length_nil]; omega
  obtain ⟨G, L0, W1, hrz, hB0, hL0, hL0t, hG1, hG2, hbel⟩ := grow_any (k := n + 1 - i) hB hLt hl (Nat.le_of_lt hi) hnc (by omega) (by omega) (by omega) n rfl
  rw [show i + (n + 1 - i) = n + 1 by omega] at hrz hG1
  have hkk : ((n + 1 - i : Nat) : Int) = (n : Int) + 1 - (i : Int) := by omega
  rw [hkk] at hrz
  obtain ⟨H, hH⟩ : ∃ H, w.heap.size = H := ⟨_, rfl⟩
  have hbw : b < H := by rw [← hH]; exact hB.lt
  have hvw : vb < H := by rw [← hH]; exact hv.lt
  rw [hH] at hrz hB0 hbel
  have hv1 : Blk W1 vb (spsV [v]) := (hbel.block vb hvw).trans hv
  have hB1 : Blk W1 b L := (hbel.block b hbw).trans hB
  have hcpA : ∀ ty dc, (Builtin.copy_ #[33, 33] ty #[.slice (some ⟨H, i * 2, none⟩) (n + 1 - i) dc, .slice (some ⟨vb, 0, none⟩) 1 1]).run Try.prog W1 = .ok (goInt (Nat.min 1 (n + 1 - i))) (W1.setRow H (put L0 (i * 2) (spsV [v])).toArray) := fun ty dc =>
    copy2 hB0 (i * 2) _ dc ⟨vb, 0, none⟩ 1 1 (spsV [v]) (by rw [hvl]; simp only [Nat.min_def]; split <;> omega) (cells_two hv1) (by omega) (spsV_one _) ty
  obtain ⟨W2, hW2⟩ : ∃ W2, W1.setRow H (put L0 (i * 2) (spsV [v])).toArray = W2 := ⟨_, rfl⟩
  have hB2 : Blk W2.drew H (put L0 (i * 2) (spsV [v])) := by rw [← hW2]; exact hB0.put _
  have hB2b : Blk W2.drew b L := by
    show Blk W2 b L
    rw [← hW2]; unfold Blk; rw [setRow_other _ _ _ _ (by omega)]; exact hB1
  have hpl : (put L0 (i * 2) (spsV [v])).length = G * 2 := by rw [put_len (by omega)]; exact hL0
  have hcpB : ∀ ty dc sc, (Builtin.copy_ #[33, 33] ty #[.slice (some ⟨H, (i + 1) * 2, none⟩) (n - i) dc, .slice (some ⟨b, i * 2, none⟩) (n - i) sc]).run Try.prog W2.drew = .ok (goInt (Nat.min (n - i) (n - i))) (W2.drew.setRow H (put (put L0 (i * 2) (spsV [v])) ((i + 1) * 2) (spsV (hs.drop i))).toArray) := fun ty dc sc =>
    copy2 hB2 ((i + 1) * 2) _ dc ⟨b, i * 2, none⟩ _ sc (spsV (hs.drop i)) (by rw [hdl]; simp only [Nat.min_def]; split <;> omega) (drop_cells hB2b hLt) (by omega) (spsV_one _) ty
  obtain ⟨W3, hW3⟩ : ∃ W3, W2.drew.setRow H (put (put L0 (i * 2) (spsV [v])) ((i + 1) * 2) (spsV (hs.drop i))).toArray = W3 := ⟨_, rfl⟩
  have hB3 : Blk W3 H (put (put L0 (i * 2) (spsV [v])) ((i + 1) * 2) (spsV (hs.drop i))) := by rw [← hW3]; exact hB2.put _
  have hcat : hs.take i ++ v :: hs.drop i = hs.take i ++ [v] ++ hs.drop i := by simp
  have hG3 : G ≤ 9223372036854775807 := by simp only [maxLen] at hG2; omega
  have HR : Hid (RpTo w (some ⟨b, 0, none⟩) (hs.take i ++ v :: hs.drop i) (.returned (.slice (some ⟨H, 0, none⟩) (n + 1) G)) W3) := by
    rw [hcat]
    refine ⟨some ⟨H, 0, none⟩, G, by rw [hlen], ?_, fun x hx => .inr (by cases hx; rw [hH]; exact Nat.le_refl _), ?_⟩
    · rw [hlen]
      refine hB3.own hG1 hG2 (by rw [put_len (by omega)]; exact hpl) hlen ?_
      have hp := put_front (L := L0) (V := spsV [v]) (D := spsV (hs.drop i)) (o := i * 2) (by omega)
      rw [hvl, hdl, show i * 2 + 2 = (i + 1) * 2 by omega, show (i + 1) * 2 + (n - i) * 2 = (n + 1) * 2 by omega] at hp
      rw [hp, spsV_app, spsV_app, hL0t]
    · rw [← hW3, ← hW2]
      have e1 : ∀ x, x = H → x < w.heap.size → ob (some ⟨b, 0, none⟩) = some x := fun x e1 e2 => by omega
      refine Upd.setRow (S := fun x => ob (some ⟨b, 0, none⟩) = some x) ?_ (e1 _ rfl) _
      refine Upd.drew ?_
      refine Upd.setRow (S := fun x => ob (some ⟨b, 0, none⟩) = some x) ?_ (e1 _ rfl) _
      exact Upd.of_below (by rw [hH]; exact hbel)
  rw [hW2] at hcpA
  rw [hW3] at hcpB
  have hz2 : ¬ ((i : Int) = (n : Int)) := by omega
  have hz3 : (n : Int) < (n : Int) + 1 := by omega
  have hw1 : IntKind.i64.wrap ((i : Int) + 1) = (i : Int) + 1 := by rw [IntKind.wrap_i64]; omega
  have hw2 : IntKind.i64.wrap ((n : Int) + 1) = (n : Int) + 1 := by rw [IntKind.wrap_i64]; omega
  have hw3 : IntKind.i64.wrap ((n : Int) + 1 - (i : Int)) = (n : Int) + 1 - (i : Int) := by rw [IntKind.wrap_i64]; omega
  have hb1 : (0 : Int) ≤ (i : Int) + 1 := by omega
  have htn : ((i : Int) + 1).toNat = i + 1 := by omega
  have hin : i ≤ n := by omega
  have hGi : ¬ (G = i) := by omega
  have hGim : ¬ (G = i + 1) := by omega
  have hci : ¬ (n = i) := by omega
  have hb3 : (i : Int) ≤ (n : Int) + 1 := by omega
  have mixed : Try.prog.follows .mixedOrders = true := by kernel_rfl
  clear h hv hB hB1 hv1 hB2 hpl hdl hvl hlen hLl hLt hcm hW2 hW3 hl hcat hB0 hL0 hL0t hB2b hB3 hkk hbel
  go_enter Try.func70, Try.ntmps70
  go_wp2_with (first
    | (at_builtin; refine Lib.wpList_append_run _ rfl _ _ _ _ rfl _ _ rfl rfl _ _ (hrz _) ?_)
    | (at_builtin; refine wpList_copy_runI _ rfl _ _ 33 33 rfl _ _ rfl rfl (hcpA _ _) ?_))
  go_region_law_o (refine step_copy_runI rfl _ _ 33 33 rfl _ _ (by simp [Act.eval, Act.put]) (by simp [Act.eval, Act.put]) (hcpB _ _ _) ?_)
  go_wp2
  go_ret
  exact HR.out
end Go.Proofs.Ytgihdfmeokbplaa
