/- What the calls make of a table, in plain mathematics; walks over Get, Len and Size. -/
import Derived.Test.YtnafalkcgghjgaaGreatDoorSI
namespace Go.Proofs.YtnafalkcgghjgaaGreatDoor
open Go.RowKit Go.Shelf
theorem lfs_take (L : List Mf) (i : Nat) : lfs (L.take i) = (lfs L).take i := by simp [lfs]
theorem lfs_drop (L : List Mf) (i : Nat) : lfs (L.drop i) = (lfs L).drop i := by simp [lfs]
theorem Made.flat {G : Nat → Prop} {base : Nat} {w' : World} {L : List Mf} {i : Nat} {m : Mf} {es : List Pr} {g cap : Nat} {J : List Mf} {Q : List Lf} (h : Made G base w' L i m es g cap J Q) : flat (lfs J) = flat ((lfs L).take i) ++ (es ++ flat ((lfs L).drop (i + 1))) := by
  have := h.jn.fl
  rw [List.take_length, flat_app, flat_app, h.fl, lfs_take, lfs_drop, List.append_assoc] at this
  exact this
theorem Made.pre {G : Nat → Prop} {base : Nat} {w' : World} {L : List Mf} {i n : Nat} {m : Mf} {es : List Pr} {g cap : Nat} {J : List Mf} {Q : List Lf} (h : Made G base w' L i m es g cap J Q) (hs : Shape n (lfs L)) (hm : L[i]? = some m) (hr : Rise (Go.Proofs.YtnafalkcgghjgaaGreatDoor.flat (lfs J))) (hy : ∀ p ∈ Go.Proofs.YtnafalkcgghjgaaGreatDoor.flat (lfs J), May p) : Pre n (lfs J) := by
  have := h.jn
  rw [lfs_take, lfs_drop] at this
  exact Jn.pre hs (lfs_at hm) h.pg this hr hy
theorem Made.shape {G : Nat → Prop} {base : Nat} {w' : World} {L : List Mf} {i n : Nat} {m : Mf} {es : List Pr} {g cap : Nat} {J : List Mf} {Q : List Lf} (h : Made G base w' L i m es g cap J Q) (hs : Shape n (lfs L)) (hm : L[i]? = some m) (hr : Rise (Go.Proofs.YtnafalkcgghjgaaGreatDoor.flat (lfs J))) (hy : ∀ p ∈ Go.Proofs.YtnafalkcgghjgaaGreatDoor.flat (lfs J), May p) (h1 : szL es ≤ 1023) : Shape n (lfs J) := by
  refine (h.pre hs hm hr hy).all fun x hx e => ?_
  have hp := h.jn.pg.subset (List.mem_map_of_mem hx)
  rw [List.take_length, lfs_take, lfs_drop, List.map_append, List.map_append, h.one h1, e] at hp
  have hpos : ∀ y ∈ lfs L, y.page ≠ -1 := fun y hy e => by have := hs.pos y hy; omega
  rcases List.mem_append.1 hp with hp | hp
  · rcases List.mem_append.1 hp with hp | hp
    · obtain ⟨y, hy, e⟩ := List.mem_map.1 hp
      exact hpos y (List.mem_of_mem_take hy) e
    · simp only [List.mem_singleton] at hp
      exact hpos m.lf (List.mem_of_getElem? (lfs_at hm)) hp.symm
  · obtain ⟨y, hy, e⟩ := List.mem_map.1 hp
    exact hpos y (List.mem_of_mem_drop hy) e
/-- What stands behind a key in its leaf. -/
def behindL (es : List Pr) (a : Nat) (key : ByteArray) : List Pr := if hasK (es.drop a) key then (es.drop a).tail else es.drop a
theorem At.rest {n : Nat} {L : List Lf} {k : ByteArray} {i : Nat} {x : Lf} {a : Nat} (h : At L k i x a) (s : Pre n L) : restT (flat L) k = behindL x.es a k ++ flat (L.drop (i + 1)) := by
  obtain ⟨_, h2, h3⟩ := h.find s
  unfold restT behindL
  rw [h3, h2]
  cases hd : x.es.drop a with
  | nil => simp [hasK]
  | cons p q =>
    by_cases e : hasK (p :: q) k = true
    · rw [if_pos e, if_pos e]; rfl
    · rw [if_neg e, if_neg e]
theorem At.put {n : Nat} {L : List Lf} {k v : ByteArray} {i : Nat} {x : Lf} {a : Nat} (h : At L k i x a) (s : Pre n L) : flat (L.take i) ++ ((x.es.take a ++ (k, v) :: behindL x.es a k) ++ flat (L.drop (i + 1))) = putT (flat L) k v := by
  unfold putT
  rw [h.rest s, (h.find s).1]
  simp
theorem At.drop {n : Nat} {L : List Lf} {k : ByteArray} {i : Nat} {x : Lf} {a : Nat} (h : At L k i x a) (s : Pre n L) : flat (L.take i) ++ ((x.es.take a ++ behindL x.es a k) ++ flat (L.drop (i + 1))) = dropT (flat L) k := by
  unfold dropT
  rw [h.rest s, (h.find s).1]
  simp
theorem behind_sz (es : List Pr) (a : Nat) (key : ByteArray) : szL (es.take a) + szL (behindL es a key) ≤ szL es ∧ ∀ p, p ∈ es.take a ∨ p ∈ behindL es a key → p ∈ es := by
  have h := sz_take_drop es a
  unfold behindL
  refine ⟨?_, fun p hp => ?_⟩
  · split
    · cases hd : es.drop a with
      | nil => rw [hd] at h; simp at *; omega
      | cons q r => rw [hd, szL_cons] at h; simp only [List.tail_cons]; omega
    · omega
  · rcases hp with hp | hp
    · exact List.mem_of_mem_take hp
    · split at hp
      · exact List.mem_of_mem_drop (List.mem_of_mem_tail hp)
      · exact List.mem_of_mem_drop hp
theorem At.get {n : Nat} {L : List Lf} {k : ByteArray} {i : Nat} {x : Lf} {a : Nat} (h : At L k i x a) (s : Pre n L) : getT (flat L) k = if hasK (x.es.drop a) k then (x.es[a]?).map Prod.snd else none := by
  obtain ⟨_, h2, h3⟩ := h.find s
  unfold getT
  rw [h3, h2]
  cases hd : x.es.drop a with
  | nil => simp [hasK]
  | cons p q =>
    have e : x.es[a]? = some p := by
      have := List.getElem?_drop (xs := x.es) (i := a) (j := 0)
      rw [hd] at this
      simpa using this.symm
    rw [e]
    rfl
/-- What the table's own leaf of a key is. -/
theorem Tab.leaf {h0 : Nat} {F : Nat → Prop} {w : World} {S : Nat → Prop} {g : Nat} {D : Dk} {sb jb n : Nat} {L K : List Mf} (h : Tab h0 F w S g D sb jb n L K) {i : Nat} {m : Mf} (hm : L[i]? = some m) : szL m.es ≤ 1023 ∧ (∀ p ∈ m.es, May p) ∧ m.es.length ≤ 1023 := by
  have hx := lfs_at hm
  have h1 : szL m.es ≤ 1023 := h.shL.sz m.lf (List.mem_of_getElem? hx)
  exact ⟨h1, (Shape.leaf h.shL.toPre hx).2, Nat.le_trans (es_len _) h1⟩
theorem get_nil (key : ByteArray) (w : World) : Calls Tryz.prog 15 #[.pointer none, .string key] w fun e w' => e = .returned (.tuple #[.string ByteArray.empty, .bool false]) ∧ w' = w := by
  go_enter Tryz.func15, Tryz.ntmps15
  go_wp2
  go_ret2
  exact ⟨rfl, rfl⟩
set_option maxRecDepth 100000 in
set_option maxHeartbeats 1000000 in
theorem get_any {h0 : Nat} {F : Nat → Prop} {w : World} {S : Nat → Prop} {g : Nat} {D : Dk} {sb jb n : Nat} {L K : List Mf} (h : Tab h0 F w S g D sb jb n L K) (key : ByteArray) :
    Calls Tryz.prog 15 #[.pointer (some ⟨sb, 0, none⟩), .string key] w fun e w' => e = .returned (.tuple #[.string ((getT (flat (lfs L)) key).getD ByteArray.empty), .bool (isT (flat (lfs L)) key)]) ∧ Below w.heap.size w w' := by
  obtain ⟨al, cl, ag, cg, hs, hL, hK⟩ := h.sat
  have hlen := h.len
  have hn12 := h.n12
  have HF := find_any hs hL h.shL.toPre (by omega) key
  have hl1 : 0 < L.length := by omega
  have HT : Hid (Tab h0 F w S g D sb jb n L K) := h
  have HS : Hid (Sat w sb jb al L.length cl ag K.length cg) := hs
  have HL : Hid (Lw F w al L.length cl L) := hL
  clear hs hL hK h
  go_enter Tryz.func15, Tryz.ntmps15
  go_wp2_with fail
  refine HF.mono ?_
  rintro e V ⟨i, m, a, rfl, hm, hat, hV⟩
  have hget := hat.get HT.out.shL.toPre
  have his := (hat.find HT.out.shL.toPre).2.2
  have hml : m.lf.es = m.es := rfl
  rw [hml] at hget his
  have HB : Hid (Below w.heap.size w V) := hV
  clear HF
  cases hh : hasK (m.es.drop a) key with
  | false =>
    rw [hh] at hget his
    have HE : Hid (getT (flat (lfs L)) key = none ∧ isT (flat (lfs L)) key = false) := ⟨by rw [hget]; rfl, his⟩
    clear hget his hV hm hat
    go_wp2
    go_ret2
    rw [HE.out.1, HE.out.2]
    exact ⟨rfl, HB.out⟩
  | true =>
    rw [hh] at hget his
    rw [hasK_drop] at hh
    cases hp : m.es[a]? with
    | none => rw [hp] at hh; cases hh
    | some p =>
      have hal := (List.getElem?_eq_some_iff.1 hp).1
      have HE : Hid (getT (flat (lfs L)) key = some p.2 ∧ isT (flat (lfs L)) key = true) := ⟨by rw [hget, hp]; rfl, his⟩
      obtain ⟨s0, s1, s2⟩ := (HS.out.below hV).cells
      obtain ⟨b, o, e1, hb, _, hc⟩ := (HL.out.below hV).at hl1
      obtain ⟨d1, d2, d3⟩ := hc i m hm
      obtain ⟨b2, o2, e2, hb2, _, hc2⟩ := ((HL.out.below hV).2 m (List.mem_of_getElem? hm)).at (by omega)
      obtain ⟨f1, f2⟩ := hc2 a p hp
      have kil : (i : Int) < (L.length : Int) := by have := (List.getElem?_eq_some_iff.1 hm).1; omega
      have kal : (a : Int) < (m.es.length : Int) := by omega
      rw [e1] at s1
      rw [e2] at d2
      clear hget his hV hat hc hc2 hm hp hh hml
      go_wp2
      go_ret2
      rw [HE.out.1, HE.out.2]
      exact ⟨rfl, HB.out⟩
theorem len_nil (w : World) : Calls Tryz.prog 23 #[.pointer none] w fun e w' => e = .returned (.int .i64 0) ∧ w' = w := by
  go_enter Tryz.func23, Tryz.ntmps23
  go_wp2
  go_ret
  exact ⟨rfl, rfl⟩
theorem size_nil' (w : World) : Calls Tryz.prog 24 #[.pointer none] w fun e w' => e = .returned (.int .i64 0) ∧ w' = w := by
  go_enter Tryz.func24, Tryz.ntmps24
  go_wp2
  go_ret
  exact ⟨rfl, rfl⟩
theorem flat_szn (L : List Lf) (h : ∀ x ∈ L, x.sz ≤ 1023) : szL (flat L) ≤ 1023 * L.length := by
  induction L with
  | nil => simp [flat, szL]
  | cons x L ih =>
    rw [flat_cons, szL_app, List.length_cons]
    have h1 : szL x.es ≤ 1023 := h x (List.mem_cons_self ..)
    have := ih fun y hy => h y (List.mem_cons_of_mem _ hy)
    omega
theorem Tab.total {h0 : Nat} {F : Nat → Prop} {w : World} {S : Nat → Prop} {g : Nat} {D : Dk} {sb jb n : Nat} {L K : List Mf} (h : Tab h0 F w S g D sb jb n L K) : szL (flat (lfs L)) ≤ 20000 ∧ (flat (lfs L)).length ≤ 20000 := by
  have h1 := flat_szn (lfs L) h.shL.sz
  rw [lfs_len] at h1
  have h2 := h.len
  have h3 := h.n12
  have h4 := es_len (flat (lfs L))
  omega
set_option maxRecDepth 100000 in
set_option maxHeartbeats 1000000 in
theorem len_any {h0 : Nat} {F : Nat → Prop} {w : World} {S : Nat → Prop} {g : Nat} {D : Dk} {sb jb n : Nat} {L K : List Mf} (h : Tab h0 F w S g D sb jb n L K) :
    Calls Tryz.prog 23 #[.pointer (some ⟨sb, 0, none⟩)] w fun e w' => e = .returned (.int .i64 ((flat (lfs L)).length : Int)) ∧ Below w.heap.size w w' := by
  obtain ⟨al, cl, ag, cg, hs, hL, hK⟩ := h.sat
  have hlen := h.len
  have hn12 := h.n12
  have htot := h.total.2
  obtain ⟨b, o, rfl, hb, _, hc⟩ := hL.at (by omega)
  obtain ⟨s0, s1, s2⟩ := hs.cells
  have HC : Hid (∀ W, Below w.heap.size w W → ∀ (i : Nat) (m : Mf), L[i]? = some m → W.cell? ⟨b, o + i * 3, none⟩ = some (.int .i64 m.page) ∧ W.cell? ⟨b, o + i * 3 + 1, none⟩ = some (.slice m.a m.es.length m.es.length) ∧ W.cell? ⟨b, o + i * 3 + 2, none⟩ = some (.int .i64 (szL m.es : Int))) := fun W hW i m hm => by
    rw [hW.cell (p := ⟨b, o + i * 3, none⟩) hb, hW.cell (p := ⟨b, o + i * 3 + 1, none⟩) hb, hW.cell (p := ⟨b, o + i * 3 + 2, none⟩) hb]
    exact hc i m hm
  obtain ⟨k, hk⟩ : ∃ k, L.length = k := ⟨_, rfl⟩
  rw [hk] at s1 hlen
  have HK : Hid (L.length = k) := hk
  clear h hs hL hK hc s0 s2
  clear hk
  go_enter Tryz.func23, Tryz.ntmps23
  go_wp2
  go_loopw [3, 13] (fun vs vi wr => ∃ i : Nat, i ≤ k ∧ vi = .int .i64 i ∧ vs = .int .i64 ((flat (lfs (L.take i))).length : Int) ∧ Below w.heap.size w wr) (fun _ vi _ => k - (intOf vi).toNat)
  case atStart => exact ⟨0, by omega, rfl, rfl, Below.refl _ _⟩
  case round =>
    obtain ⟨i, hi, rfl, rfl, hbel⟩ := hrel
    have HB : Hid (Below w.heap.size w wr) := hbel
    by_cases hlt : i < k
    · have kk : (i : Int) < (k : Int) := by omega
      have hil : i < L.length := by rw [HK.out]; omega
      have hm : L[i]? = some L[i] := List.getElem?_eq_getElem hil
      obtain ⟨m, hmm⟩ : ∃ m, L[i] = m := ⟨_, rfl⟩
      rw [hmm] at hm
      obtain ⟨d1, d2, d3⟩ := HC.out wr hbel i m hm
      have hf := flat_take_succ hm
      have hle : (flat (lfs (L.take (i + 1)))).length ≤ (flat (lfs L)).length := by
        have e : flat (lfs L) = flat (lfs (L.take (i + 1))) ++ flat (lfs (L.drop (i + 1))) := by rw [← flat_app, ← lfs_app, List.take_append_drop]
        rw [e, List.length_append]; omega
      rw [hf, List.length_append] at hle
      obtain ⟨x, hx⟩ : ∃ x, (flat (lfs (L.take i))).length = x := ⟨_, rfl⟩
      obtain ⟨y, hy⟩ : ∃ y, m.es.length = y := ⟨_, rfl⟩
      rw [hx, hy] at hle
      rw [hy] at d2
      rw [hx]
      have HY : Hid ((flat (lfs (L.take (i + 1)))).length = x + y) := by show _ = _; rw [hf, List.length_append, hx, hy]
      clear hf hx hy hm hmm hbel hil
      go_wp2
      refine ⟨⟨i + 1, by omega, by go_num, ?_, HB.out.alloc HB.out.size _⟩, by simp [intOf]; omega⟩
      rw [HY.out]; congr 1
    · obtain rfl : i = k := by omega
      have kk : ¬ (i : Int) < (i : Int) := by omega
      rw [List.take_of_length_le (by rw [HK.out]; omega)]
      go_wp2
      go_ret
      exact ⟨rfl, HB.out⟩
set_option maxRecDepth 100000 in
set_option maxHeartbeats 1000000 in
theorem size_any' {h0 : Nat} {F : Nat → Prop} {w : World} {S : Nat → Prop} {g : Nat} {D : Dk} {sb jb n : Nat} {L K : List Mf} (h : Tab h0 F w S g D sb jb n L K) :
    Calls Tryz.prog 24 #[.pointer (some ⟨sb, 0, none⟩)] w fun e w' => e = .returned (.int .i64 (szL (flat (lfs L)) : Int)) ∧ Below w.heap.size w w' := by
  obtain ⟨al, cl, ag, cg, hs, hL, hK⟩ := h.sat
  have hlen := h.len
  have hn12 := h.n12
  have htot := h.total.1
  obtain ⟨b, o, rfl, hb, _, hc⟩ := hL.at (by omega)
  obtain ⟨s0, s1, s2⟩ := hs.cells
  have HC : Hid (∀ W, Below w.heap.size w W → ∀ (i : Nat) (m : Mf), L[i]? = some m → W.cell? ⟨b, o + i * 3, none⟩ = some (.int .i64 m.page) ∧ W.cell? ⟨b, o + i * 3 + 1, none⟩ = some (.slice m.a m.es.length m.es.length) ∧ W.cell? ⟨b, o + i * 3 + 2, none⟩ = some (.int .i64 (szL m.es : Int))) := fun W hW i m hm => by
    rw [hW.cell (p := ⟨b, o + i * 3, none⟩) hb, hW.cell (p := ⟨b, o + i * 3 + 1, none⟩) hb, hW.cell (p := ⟨b, o + i * 3 + 2, none⟩) hb]
    exact hc i m hm
  obtain ⟨k, hk⟩ : ∃ k, L.length = k := ⟨_, rfl⟩
  rw [hk] at s1 hlen
  have HK : Hid (L.length = k) := hk
  clear h hs hL hK hc s0 s2
  clear hk
  go_enter Tryz.func24, Tryz.ntmps24
  go_wp2
  go_loopw [3, 13] (fun vs vi wr => ∃ i : Nat, i ≤ k ∧ vi = .int .i64 i ∧ vs = .int .i64 (szL (flat (lfs (L.take i))) : Int) ∧ Below w.heap.size w wr) (fun _ vi _ => k - (intOf vi).toNat)
  case atStart => exact ⟨0, by omega, rfl, rfl, Below.refl _ _⟩
  case round =>
    obtain ⟨i, hi, rfl, rfl, hbel⟩ := hrel
    have HB : Hid (Below w.heap.size w wr) := hbel
    by_cases hlt : i < k
    · have kk : (i : Int) < (k : Int) := by omega
      have hil : i < L.length := by rw [HK.out]; omega
      have hm : L[i]? = some L[i] := List.getElem?_eq_getElem hil
      obtain ⟨m, hmm⟩ : ∃ m, L[i] = m := ⟨_, rfl⟩
      rw [hmm] at hm
      obtain ⟨d1, d2, d3⟩ := HC.out wr hbel i m hm
      have hf := flat_take_succ hm
      have hle : szL (flat (lfs (L.take (i + 1)))) ≤ szL (flat (lfs L)) := by
        have e : flat (lfs L) = flat (lfs (L.take (i + 1))) ++ flat (lfs (L.drop (i + 1))) := by rw [← flat_app, ← lfs_app, List.take_append_drop]
        rw [e, szL_app]; omega
      rw [hf, szL_app] at hle
      obtain ⟨x, hx⟩ : ∃ x, szL (flat (lfs (L.take i))) = x := ⟨_, rfl⟩
      obtain ⟨y, hy⟩ : ∃ y, szL m.es = y := ⟨_, rfl⟩
      rw [hx, hy] at hle
      rw [hy] at d3
      rw [hx]
      have HY : Hid (szL (flat (lfs (L.take (i + 1)))) = x + y) := by show _ = _; rw [hf, szL_app, hx, hy]
      clear hf hx hy hm hmm hbel hil
      go_wp2
      refine ⟨⟨i + 1, by omega, by go_num, ?_, HB.out.alloc HB.out.size _⟩, by simp [intOf]; omega⟩
      rw [HY.out]; congr 1
    · obtain rfl : i = k := by omega
      have kk : ¬ (i : Int) < (i : Int) := by omega
      rw [List.take_of_length_le (by rw [HK.out]; omega)]
      go_wp2
      go_ret
      exact ⟨rfl, HB.out⟩
end Go.Proofs.YtnafalkcgghjgaaGreatDoor
