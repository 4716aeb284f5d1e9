/- What the laws' frames want; blocks put together. -/
import Derived.Test.YthmikfkdjnidmaaDoorGE
import Derived.Test.YthmikfkdjnidmaaDoorZ
import Derived.SliceStrings
import Derived.SizedLaws
import Derived.WalkKit
import Derived.ProofKit
import Derived.OpenShut
import Derived.ShutString
namespace Go.Proofs.YthmikfkdjnidmaaDoor
open Go.ChangeShapes Go.WideShapes Go.ChangeAt Go.RowKit
theorem laidOut : laidOutB Tryd.prog = true := by kernel_rfl
theorem wf_i64 {n : Int} (h : (Lit.int .i64 n).wf = true) : -9223372036854775808 ≤ n ∧ n ≤ 9223372036854775807 := by
  simp [Lit.wf, IntKind.min, IntKind.max, IntKind.signed, IntKind.bits] at h
  omega
theorem ext_l (u : ByteArray) (i k : Nat) : (u.extract i k).data.toList = (u.data.toList.drop i).take (k - i) := by
  rw [ByteArray.data_extract, Array.toList_extract, List.extract_eq_take_drop]
theorem ba_ext {a b : ByteArray} (h : a.data.toList = b.data.toList) : a = b := by
  apply ByteArray.ext
  exact Array.toList_inj.1 h
def catL (l : List ByteArray) : ByteArray := l.foldl (· ++ ·) ⟨#[]⟩
theorem catL_snoc (l : List ByteArray) (s : ByteArray) : catL (l ++ [s]) = catL l ++ s := by unfold catL; rw [List.foldl_append]; rfl
theorem cat_to (t : ByteArray) (z : Nat) : ∀ i, (i = 0 ∨ (i - 1) * z < t.size) → catL ((List.range i).map (blk t z)) = t.extract 0 (min (i * z) t.size)
  | 0, _ => by
    apply ba_ext
    rw [ext_l]
    simp [catL]
  | i + 1, h => by
    have hi : i * z < t.size := by
      rcases h with h | h
      · omega
      · exact h
    have ih := cat_to t z i (by
      rcases Nat.eq_zero_or_pos i with h0 | h0
      · exact .inl h0
      · refine .inr (Nat.lt_of_le_of_lt (Nat.mul_le_mul_right _ (by omega)) hi))
    rw [range_next, catL_snoc, ih]
    unfold blk
    apply ba_ext
    have e : (t.extract 0 (min (i * z) t.size) ++ t.extract (i * z) (min (i * z + z) t.size)).data.toList = (t.extract 0 (min (i * z) t.size)).data.toList ++ (t.extract (i * z) (min (i * z + z) t.size)).data.toList := by simp
    rw [e, ext_l, ext_l, ext_l, Nat.succ_mul, Nat.min_eq_left (Nat.le_of_lt hi)]
    simp only [List.drop_zero, Nat.sub_zero]
    obtain ⟨p, hp⟩ : ∃ p, i * z = p := ⟨_, rfl⟩
    rw [hp]
    obtain ⟨q, hq⟩ : ∃ q, min (p + z) t.size = p + q := ⟨min (p + z) t.size - p, by omega⟩
    rw [hq, Nat.add_sub_cancel_left, List.take_add]
theorem cat_all {t : ByteArray} {x : Int} (h : (blocksF t x).2 = 0) : catL (blocksF t x).1 = t := by
  unfold blocksF at h ⊢
  split at h
  · simp at h
  · split at h
    · simp at h
    · rename_i h1 h2
      rw [if_neg h1, if_neg h2]
      simp only
      obtain ⟨z, hz⟩ : ∃ z, x.toNat = z := ⟨_, rfl⟩
      have hz1 : 1 ≤ z := by omega
      rw [hz]
      obtain ⟨k, hk⟩ : ∃ k, nBl t z = k := ⟨_, rfl⟩
      have h5 : t.size ≤ k * z := by
        rw [← hk]
        unfold nBl
        have h6 := Nat.div_add_mod (t.size + z - 1) z
        have h7 := Nat.mod_lt (t.size + z - 1) hz1
        rw [Nat.mul_comm] at h6
        omega
      have h6 : k * z ≤ t.size + z - 1 := by
        rw [← hk]
        unfold nBl
        exact Nat.div_mul_le_self _ _
      unfold blocksL
      rw [hk, cat_to t z k (by
        rcases Nat.eq_zero_or_pos k with h0 | h0
        · exact .inl h0
        · right
          obtain ⟨j, rfl⟩ : ∃ j, k = j + 1 := ⟨k - 1, by omega⟩
          rw [Nat.succ_mul] at h6
          simp only [Nat.add_sub_cancel]
          omega), Nat.min_eq_right h5]
      apply ba_ext
      rw [ext_l]
      simp
      exact List.take_of_length_le (Nat.le_refl _)
end Go.Proofs.YthmikfkdjnidmaaDoor
