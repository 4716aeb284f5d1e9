/- How many contents a table holds, and how many bytes: nothing of the program. -/
import Derived.Test.YtjpkngbjjgimjaaDoorKS
namespace Go.Proofs.YtjpkngbjjgimjaaDoor
open Go.RowKit
def consT (W : Nat) (T : List Pr) : List Cn := T.filterMap (parseF W)
theorem each_len {W k : Nat} (hk : k ≤ 80000) : ∀ (T : List Pr), (∀ p ∈ T, ∃ c, p = encP c ∧ OkC W k c) → (consT W T).length = T.length ∧ szL T = (W + 9) * T.length + dataSum (consT W T)
  | [], _ => ⟨rfl, rfl⟩
  | p :: T, h => by
    obtain ⟨c, rfl, hok⟩ := h p (List.mem_cons_self ..)
    obtain ⟨h1, h2⟩ := each_len hk T (fun q hq => h q (List.mem_cons_of_mem _ hq))
    have e : consT W (encP c :: T) = c :: consT W T := by unfold consT; rw [List.filterMap_cons, hok.parse hk]
    have ez : eSz (encP c) = W + 9 + c.data.size := by
      show 3 + (keyB c.sum c.n).size + (valB c.refs c.data).size = _
      rw [keyB_size, valB_size, hok.1]
      omega
    have ed : dataSum (c :: consT W T) = c.data.size + dataSum (consT W T) := by simp [dataSum]
    rw [e, szL_cons, h2, ez, ed]
    refine ⟨by rw [List.length_cons, List.length_cons, h1], ?_⟩
    rw [List.length_cons, Nat.mul_succ]
    generalize (W + 9) * T.length = z
    omega
theorem Tb.sz {W k : Nat} {T : List Pr} (h : Tb W k T) : (consT W T).length = T.length ∧ szL T = (W + 9) * T.length + dataSum (consT W T) := each_len h.small T h.each
theorem Tb.all {W k : Nat} {T : List Pr} (h : Tb W k T) : allC W T = consT W T := by
  unfold allC betw consT
  rw [range_full _ _ _ (by have := h.few; have := h.small; omega)]
  congr 1
  unfold midT
  refine List.filter_eq_self.2 fun p hp => ?_
  obtain ⟨c, rfl, hok⟩ := h.each p hp
  show (!sl (keyB c.sum c.n) _ && !sl _ (keyB c.sum c.n)) = true
  rw [key_least W c.sum c.n hok.1, key_most W c.sum c.n hok.1]
  rfl
/-- What Count tells behind a Put. -/
theorem Held.more {W : Nat} {T : List Pr} {l : List ByteArray} (h : Held W T l) (hW : W ≤ 32) {data : ByteArray} (hd : data.size ≤ 128) (hk : l.length + 1 ≤ 200) :
    (putT T (keyB (namedF W T data).sum (namedF W T data).n) (valB ((namedF W T data).refs + 1) (namedF W T data).data)).length = T.length + (if cnt l data = 0 then 1 else 0) ∧
      dataSum (consT W (putT T (keyB (namedF W T data).sum (namedF W T data).n) (valB ((namedF W T data).refs + 1) (namedF W T data).data))) = dataSum (consT W T) + (if cnt l data = 0 then data.size else 0) := by
  obtain ⟨hh, p1, p2, p3, p4, _, _⟩ := h.put hW hd hk
  have s1 := h.tb.sz.2
  have s2 := hh.tb.sz.2
  have hz := sz_put T (keyB (namedF W T data).sum (namedF W T data).n) (valB ((namedF W T data).refs + 1) (namedF W T data).data)
  have hss : (namedF W T data).sum.size = W := by rw [p4]; exact digW_size W hW data
  by_cases ht : There W T data
  · obtain ⟨o1, o2, o3, o4⟩ := h.tb.old hW ht
    have hg : getT T (keyB (namedF W T data).sum (namedF W T data).n) = some (valB (namedF W T data).refs (namedF W T data).data) := (get_mem h.tb.rise o1).2
    have hi : isT T (keyB (namedF W T data).sum (namedF W T data).n) = true := (get_mem h.tb.rise o1).1
    have hl := put_same (valB ((namedF W T data).refs + 1) (namedF W T data).data) hi
    have hr := o2.2.2.1
    rw [hg] at hz
    simp only [eSz, keyB_size, valB_size] at hz
    rw [if_neg (by omega), if_neg (by omega)]
    refine ⟨hl, ?_⟩
    rw [hl] at s2
    omega
  · obtain ⟨m, e1, e2, e3⟩ := h.tb.new hW ht
    have hfew := h.tb.few
    have e3 := e3 (by omega)
    have hi : isT T (keyB (namedF W T data).sum (namedF W T data).n) = false := by rw [e1]; exact e3
    have hg : getT T (keyB (namedF W T data).sum (namedF W T data).n) = none := by unfold getT; rw [hi]; rfl
    have hl := put_more (valB ((namedF W T data).refs + 1) (namedF W T data).data) hi
    have hr : (namedF W T data).refs = 0 := by rw [e1]
    rw [hg] at hz
    simp only [eSz, keyB_size, valB_size] at hz
    rw [if_pos (by omega), if_pos (by omega)]
    refine ⟨hl, ?_⟩
    rw [hl, Nat.mul_add, Nat.mul_one] at s2
    rw [p1, hss] at hz
    rw [p1] at s2 ⊢
    omega
end Go.Proofs.YtjpkngbjjgimjaaDoor
