/- Plain mathematics: a list that is written is read again. -/
import Derived.Test.YtbomopjngpnghabI
import Derived.Test.YtbomopjngpnghabJ
namespace Go.Proofs.Ytbomopjngpnghab
open Go.RowKit

theorem back_all (xs bs : List UInt8) (n la K : Nat) (hl : xs.length = la) (hK : (putN n).length = K) (hn : n < 18446744073709551616) : getAt (xs ++ (putN n ++ bs)) (la : Int) = (n, ((la + K : Nat) : Int), 0) := by
  subst hl hK
  rw [getAt_in (by simp), List.drop_left, getL_back n hn]
  simp

theorem textAt_back (pre t rest : List UInt8) (ht : t.length ≤ 20000) : textAt (pre ++ (textN t ++ rest)) (pre.length : Int) 20000 = (t, ((pre.length + (textN t).length : Nat) : Int), 0) := by
  have e : pre ++ (textN t ++ rest) = pre ++ (putN t.length ++ (t ++ rest)) := by simp [textN]
  rw [e]
  have hg := back_all pre (t ++ rest) t.length pre.length (putN t.length).length rfl rfl (by omega)
  have hc : cntAt (pre ++ (putN t.length ++ (t ++ rest))) (pre.length : Int) 20000 = (t.length, ((pre.length + (putN t.length).length : Nat) : Int), 0) := by
    unfold cntAt
    rw [hg]
    simp only
    rw [if_neg (by simp), if_neg (by omega)]
  unfold textAt
  rw [hc]
  simp only
  rw [if_neg (by simp), if_neg (by simp; omega)]
  refine Prod.ext ?_ (Prod.ext ?_ rfl)
  · simp only [Int.toNat_natCast]
    rw [← List.append_assoc, List.drop_append_of_le_length (by simp), List.drop_eq_nil_of_le (by simp), List.nil_append, List.take_left]
  · simp only [textN, List.length_append]
    omega

theorem textsAt_back : ∀ (ss : List ByteArray) (pre : List UInt8), (∀ i (h : i < ss.length), (ss[i]).size ≤ 20000) →
    textsAt (pre ++ flatN ss) 20000 ss.length (pre.length : Int) = (ss.map (·.data.toList), ((pre.length + (flatN ss).length : Nat) : Int), 0)
  | [], pre, _ => by simp [textsAt, flatN]
  | s :: ss, pre, h => by
    have hs : s.size ≤ 20000 := h 0 (by simp)
    have hf : flatN (s :: ss) = textN s.data.toList ++ flatN ss := by simp [flatN]
    have ht := textAt_back pre s.data.toList (flatN ss) (by simpa using hs)
    have hr := textsAt_back ss (pre ++ textN s.data.toList) (fun i hi => h (i + 1) (by simpa using hi))
    rw [hf, List.length_cons, textsAt, ht]
    simp only [ne_eq, not_true_eq_false, if_false]
    rw [List.append_assoc, List.length_append] at hr
    rw [hr]
    simp only [not_true_eq_false, if_false, List.map_cons, List.length_append]
    refine Prod.ext rfl (Prod.ext ?_ rfl)
    simp only
    omega

theorem listAt_back (bs : List UInt8) (ss : List ByteArray) (hn : ss.length ≤ 300) (hs : ∀ i (h : i < ss.length), (ss[i]).size ≤ 20000) :
    listAt (bs ++ listN ss) (bs.length : Int) 300 20000 = (ss.map (·.data.toList), ((bs.length + (listN ss).length : Nat) : Int), 0) := by
  have hg := back_all bs (flatN ss) ss.length bs.length (putN ss.length).length rfl rfl (by omega)
  have hc : cntAt (bs ++ listN ss) (bs.length : Int) 300 = (ss.length, ((bs.length + (putN ss.length).length : Nat) : Int), 0) := by
    unfold cntAt
    rw [show bs ++ listN ss = bs ++ (putN ss.length ++ flatN ss) from rfl, hg]
    simp only
    rw [if_neg (by simp), if_neg (by omega)]
  unfold listAt
  rw [hc]
  simp only
  rw [if_neg (by simp)]
  have := textsAt_back ss (bs ++ putN ss.length) hs
  rw [List.append_assoc, List.length_append] at this
  rw [show bs ++ listN ss = bs ++ (putN ss.length ++ flatN ss) from rfl, this]
  refine Prod.ext rfl (Prod.ext ?_ rfl)
  simp only [listN, List.length_append]
  omega
end Go.Proofs.Ytbomopjngpnghab
