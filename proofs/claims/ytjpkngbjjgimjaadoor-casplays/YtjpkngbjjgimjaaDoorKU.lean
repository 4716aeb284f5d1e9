/- How many contents a table holds, and how many bytes: nothing of the program. A store over a table, and a list of IDs of the law's own that grows beside it. -/
import Derived.Test.YtjpkngbjjgimjaaDoorKS
namespace Go.Proofs.YtjpkngbjjgimjaaDoor
open Go.RowKit
def consT (W : Nat) (T : List Pr) : List Cn := T.filterMap (parseF W)
theorem each_len {W k : Nat} (hk : k ≤ 80000) : ∀ (T : List Pr), (∀ p ∈ T, ∃ c, p = encP c ∧ OkC W k c) → (consT W T).length = T.length ∧ szL T = (W + 9) * T.length + dataSum (consT W T)
  | [], _ => ⟨rfl, rfl⟩
  | p :: T, h => by
    obtain ⟨c, rfl, hok⟩ := h p (List.mem_cons_self ..)
    obtain ⟨h1, h2⟩ := each_len hk T (fun q hq => h q (List.mem_cons_of_mem _ hq))
    have e : consT W (encP c :: T) = c :: consT W T := by unfold consT; rw [List.filterMap_cons, hok.parse hk]
    have ez : eSz (encP c) = W + 9 + c.data.size := by
      show 3 + (keyB c.sum c.n).size + (valB c.refs c.data).size = _
      rw [keyB_size, valB_size, hok.1]
      omega
    have ed : dataSum (c :: consT W T) = c.data.size + dataSum (consT W T) := by simp [dataSum]
    rw [e, szL_cons, h2, ez, ed]
    refine ⟨by rw [List.length_cons, List.length_cons, h1], ?_⟩
    rw [List.length_cons, Nat.mul_succ]
    generalize (W + 9) * T.length = z
    omega
theorem Tb.sz {W k : Nat} {T : List Pr} (h : Tb W k T) : (consT W T).length = T.length ∧ szL T = (W + 9) * T.length + dataSum (consT W T) := each_len h.small T h.each
theorem Tb.all {W k : Nat} {T : List Pr} (h : Tb W k T) : allC W T = consT W T := by
  unfold allC betw consT
  rw [range_full _ _ _ (by have := h.few; have := h.small; omega)]
  congr 1
  unfold midT
  refine List.filter_eq_self.2 fun p hp => ?_
  obtain ⟨c, rfl, hok⟩ := h.each p hp
  show (!sl (keyB c.sum c.n) _ && !sl _ (keyB c.sum c.n)) = true
  rw [key_least W c.sum c.n hok.1, key_most W c.sum c.n hok.1]
  rfl
/-- What Count tells behind a Put. -/
theorem Held.more {W : Nat} {T : List Pr} {l : List ByteArray} (h : Held W T l) (hW : W ≤ 32) {data : ByteArray} (hd : data.size ≤ 128) (hk : l.length + 1 ≤ 200) :
    (putT T (keyB (namedF W T data).sum (namedF W T data).n) (valB ((namedF W T data).refs + 1) (namedF W T data).data)).length = T.length + (if cnt l data = 0 then 1 else 0) ∧
      dataSum (consT W (putT T (keyB (namedF W T data).sum (namedF W T data).n) (valB ((namedF W T data).refs + 1) (namedF W T data).data))) = dataSum (consT W T) + (if cnt l data = 0 then data.size else 0) := by
  obtain ⟨hh, p1, p2, p3, p4, _, _⟩ := h.put hW hd hk
  have s1 := h.tb.sz.2
  have s2 := hh.tb.sz.2
  have hz := sz_put T (keyB (namedF W T data).sum (namedF W T data).n) (valB ((namedF W T data).refs + 1) (namedF W T data).data)
  have hss : (namedF W T data).sum.size = W := by rw [p4]; exact digW_size W hW data
  by_cases ht : There W T data
  · obtain ⟨o1, o2, o3, o4⟩ := h.tb.old hW ht
    have hg : getT T (keyB (namedF W T data).sum (namedF W T data).n) = some (valB (namedF W T data).refs (namedF W T data).data) := (get_mem h.tb.rise o1).2
    have hi : isT T (keyB (namedF W T data).sum (namedF W T data).n) = true := (get_mem h.tb.rise o1).1
    have hl := put_same (valB ((namedF W T data).refs + 1) (namedF W T data).data) hi
    have hr := o2.2.2.1
    rw [hg] at hz
    simp only [eSz, keyB_size, valB_size] at hz
    rw [if_neg (by omega), if_neg (by omega)]
    refine ⟨hl, ?_⟩
    rw [hl] at s2
    omega
  · obtain ⟨m, e1, e2, e3⟩ := h.tb.new hW ht
    have hfew := h.tb.few
    have e3 := e3 (by omega)
    have hi : isT T (keyB (namedF W T data).sum (namedF W T data).n) = false := by rw [e1]; exact e3
    have hg : getT T (keyB (namedF W T data).sum (namedF W T data).n) = none := by unfold getT; rw [hi]; rfl
    have hl := put_more (valB ((namedF W T data).refs + 1) (namedF W T data).data) hi
    have hr : (namedF W T data).refs = 0 := by rw [e1]
    rw [hg] at hz
    simp only [eSz, keyB_size, valB_size] at hz
    rw [if_pos (by omega), if_pos (by omega)]
    refine ⟨hl, ?_⟩
    rw [hl, Nat.mul_add, Nat.mul_one] at s2
    rw [p1, hss] at hz
    rw [p1] at s2 ⊢
    omega
end Go.Proofs.YtjpkngbjjgimjaaDoor
namespace Go.Proofs.YtjpkngbjjgimjaaDoor
open Go.RowKit
section
variable {h0 : Nat} {F : Nat → Prop} {w w' : World} {st tb W : Nat} {full : Int} {T : List Pr}
/-- A row of IDs that grows leaves the store and its table alone. -/
theorem Cs.grow {a : Option Addr} (h : Cs h0 F w st tb W full T) (hg : w.grownBy w' (ob a)) (ha : ∀ z, ob a = some z → ∃ cur fr, w.heap[z]? = some (.cells cur 35 fr)) : Cs h0 (mor F w w') w' st tb W full T := by
  have hb : ∀ (k : Nat) (cs : Array Value) (t : TypeId) (fr : Nat × Nat), t ≠ 35 → w.heap[k]? = some (.cells cs t fr) → w'.heap[k]? = w.heap[k]? := by
    intro k cs t fr ht hk
    refine hg.block k (lt_of_some hk) (fun e => ?_)
    obtain ⟨cur, fr', h5⟩ := ha k e.symm
    rw [hk] at h5
    simp only [Option.some.injEq, Obj.cells.injEq] at h5
    exact ht h5.2.1
  obtain ⟨ta, tn, tc, k1, k2⟩ := h.tat
  refine { h with stat := (hb st _ _ _ (by decide) h.stat).trans h.stat, tat := ⟨ta, tn, tc, (hb tb _ _ _ (by decide) k1).trans k1, ?_⟩, fF := fun x hx => ?_, h0w := Nat.le_trans h.h0w hg.size }
  · obtain ⟨g1, g2, g3, g4⟩ := k2.other (fun b cur fr hr => hb b cur _ fr (by decide) hr)
    refine ⟨g1, g2, g3, fun h0 => ?_⟩
    obtain ⟨b, o, e, hr, hG, hc⟩ := g4 h0
    exact ⟨b, o, e, hr, .inl hG, hc⟩
  · have ht := lt_of_some k1
    rcases hx with hx | ⟨hx, hl⟩
    · have := h.fF x hx
      have := hg.size
      omega
    · omega
/-- The law's own IDs beside a store: the row lies in blocks that stay. -/
def Ids (B : Nat) (F : Nat → Prop) (w : World) (a : Option Addr) (n c : Nat) (l : List Ix) : Prop := w.ownsRow B 35 2 (.slice a n c) n (idR l) ∧ (∀ z, ob a = some z → F z ∧ ∃ cur fr, w.heap[z]? = some (.cells cur 35 fr))
theorem Ids.nil (B : Nat) (F : Nat → Prop) (w : World) : Ids B F w none 0 0 [] := ⟨World.ownsRow_nil _ _ _ _, fun z hz => by cases hz⟩
theorem Ids.fr {B : Nat} {F' : Nat → Prop} {a : Option Addr} {n c : Nat} {l : List Ix} (h : Ids B F w a n c l) (hf : Fr F w F' w') : Ids B F' w' a n c l := by
  refine ⟨own_keep h.1 (fun z hz => ?_), fun z hz => ?_⟩
  · have hz' : ob a = some z := by rw [← ob_slice]; exact hz
    obtain ⟨h1, cur, fr, h2⟩ := h.2 z hz'
    exact hf.blk z h1 (lt_of_some h2)
  · obtain ⟨h1, cur, fr, h2⟩ := h.2 z hz
    exact ⟨hf.sub z h1, cur, fr, (hf.blk z h1 (lt_of_some h2)).trans h2⟩
/-- One ID more. -/
theorem Ids.add {B : Nat} {a : Option Addr} {n c rb : Nat} {l : List Ix} {x : Ix} (h : Ids B F w a n c l) (hcs : Cs h0 F w st tb W full T) (hB : B ≤ w.heap.size) (hn : n + 1 ≤ 1000000) (hr : w.heap[rb]? = some (.cells (Ix.cells x) 35 (0, 0))) :
    ∃ a' c' w', (∀ ty, (Builtin.append_ #[33, 33] ty #[.slice a n c, .slice (some ⟨rb, 0, none⟩) 1 1]).run Tryd.prog w = .ok (.slice a' (n + 1) c') w') ∧ Ids B (mor F w w') w' a' (n + 1) c' (l ++ [x]) ∧ Cs h0 (mor F w w') w' st tb W full T ∧ w.grownBy w' (ob a) := by
  obtain ⟨a', c', w', h1, h2, h3, h4⟩ := addI_own w h.1 (idRow (c := x) hr) hn hB
  refine ⟨a', c', w', h1, ⟨h2, fun z hz => ?_⟩, hcs.grow h3 (fun z hz => (h.2 z hz).2), h3⟩
  rcases h2.2 with ⟨e, _⟩ | ⟨g, cc, cur, e, _, hrow, _⟩
  · cases e
  · cases e
    cases hz
    refine ⟨?_, cur, _, hrow⟩
    rcases h4 with h4 | h4
    · exact .inl (h.2 _ h4.symm).1
    · refine .inr ⟨?_, lt_of_some hrow⟩
      have := Option.some.inj h4
      show w.heap.size ≤ g
      exact Nat.le_of_eq this.symm
end
/-- The IDs that were told, one for each Put. -/
def Told (W : Nat) (T : List Pr) (l : List ByteArray) (ids : List Ix) : Prop := ids.length = l.length ∧ ∀ (k : Nat) (x : ByteArray), l[k]? = some x → ∃ c, In W l.length T c ∧ c.data = x ∧ ids[k]? = some (ixOf c)
theorem Told.nil (W : Nat) (T : List Pr) : Told W T [] [] := ⟨rfl, fun k x h => by simp at h⟩
theorem Told.put {W : Nat} {T : List Pr} {l : List ByteArray} {ids : List Ix} (h : Told W T l ids) (hh : Held W T l) (hW : W ≤ 32) {data : ByteArray} (hd : data.size ≤ 128) (hk : l.length + 1 ≤ 200) :
    Told W (putT T (keyB (namedF W T data).sum (namedF W T data).n) (valB ((namedF W T data).refs + 1) (namedF W T data).data)) (l ++ [data]) (ids ++ [ixOf (namedF W T data)]) ∧ ∀ (k : Nat) (x : ByteArray) (y : Ix), l[k]? = some x → ids[k]? = some y → (y = ixOf (namedF W T data) ↔ x = data) := by
  obtain ⟨_, p1, _, _, _, k5, hin⟩ := hh.put hW hd hk
  have hl : (l ++ [data]).length = l.length + 1 := by simp
  constructor
  · refine ⟨by simp [h.1], fun k x hx => ?_⟩
    rw [hl]
    by_cases hkl : k < l.length
    · rw [List.getElem?_append_left hkl] at hx
      obtain ⟨c, hc, hcx, hi⟩ := h.2 k x hx
      rw [List.getElem?_append_left (by rw [h.1]; exact hkl), hi]
      by_cases he : ixOf c = ixOf (namedF W T data)
      · refine ⟨_, (hin _).2 (.inl rfl), ?_, ?_⟩
        · rw [← hcx]
          exact p1.trans ((k5 c hc).1 he).symm
        · rw [he]
          rfl
      · exact ⟨c, (hin c).2 (.inr ⟨hc, he⟩), hcx, rfl⟩
    · have hke : k = l.length := by
        have := (List.getElem?_eq_some_iff.1 hx).1
        simp at this
        omega
      subst hke
      rw [List.getElem?_append_right (Nat.le_refl _), Nat.sub_self] at hx
      obtain rfl := Option.some.inj hx
      refine ⟨_, (hin _).2 (.inl rfl), p1, ?_⟩
      rw [← h.1, List.getElem?_append_right (Nat.le_refl _), Nat.sub_self]
      rfl
  · intro k x y hx hy
    obtain ⟨c, hc, hcx, hi⟩ := h.2 k x hx
    rw [hi] at hy
    obtain rfl := Option.some.inj hy
    rw [k5 c hc, hcx]
end Go.Proofs.YtjpkngbjjgimjaaDoor
