/- What the law of texts that are made again wants: windows beside blocks. -/
import Derived.Test.YtbhnmjjfammlkaaDoorJA
namespace Go.Proofs.YtbhnmjjfammlkaaDoor
open Go.RowKit
def winS (t : ByteArray) (z i : Nat) : ByteArray := t.extract i (min t.size (i + z))
theorem winS_l (t : ByteArray) (z i : Nat) : (winS t z i).data.toList = (t.data.toList.drop i).take z := by
  unfold winS
  rw [ext_l]
  have hl : t.data.toList.length = t.size := Array.length_toList
  by_cases h : i + z ≤ t.size
  · rw [Nat.min_eq_right h, Nat.add_sub_cancel_left]
  · rw [Nat.min_eq_left (by omega), List.take_of_length_le (by rw [List.length_drop]; omega), List.take_of_length_le (by rw [List.length_drop]; omega)]
def bothL (b t : ByteArray) (z i : Nat) : List ByteArray := blocksL b z ++ (List.range i).map (winS t z)
theorem all_next (b t : ByteArray) (z i : Nat) : bothL b t z (i + 1) = bothL b t z i ++ [winS t z i] := by unfold bothL; rw [range_next, List.append_assoc]
theorem blocksL_len (b : ByteArray) (z : Nat) : (blocksL b z).length = cntL b.data.toList z := by rw [← nbl_cnt]; simp [blocksL]
theorem all_clash {key b t : ByteArray} {z i k : Nat} (hi : i < cntL b.data.toList z) (hk : k < t.size) (hne : blkL b.data.toList z i ≠ (t.data.toList.drop k).take z) (heq : sgL key (blkL b.data.toList z i) = sgL key ((t.data.toList.drop k).take z)) :
    (bothL b t z t.size)[cntL b.data.toList z + k]? = some (winS t z k) ∧ (bothL b t z t.size)[i]? = some (blk b z i) ∧ winS t z k ≠ blk b z i ∧ sgOf key (winS t z k) = sgOf key (blk b z i) := by
  refine ⟨?_, ?_, fun e => hne ?_, ?_⟩
  · unfold bothL
    rw [List.getElem?_append_right (by rw [blocksL_len]; omega), blocksL_len, Nat.add_sub_cancel_left, List.getElem?_map, List.getElem?_range hk]
    rfl
  · unfold bothL
    rw [List.getElem?_append_left (by rw [blocksL_len]; exact hi)]
    unfold blocksL
    rw [List.getElem?_map, List.getElem?_range (by rw [nbl_cnt]; exact hi)]
    rfl
  · rw [← winS_l, e, blk_l]
  · rw [← sgL_ba, ← sgL_ba, winS_l, blk_l]
    exact heq.symm
theorem all_size {b t : ByteArray} {z i : Nat} (ht : t.size ≤ 5000) (hz : z ≤ 128) : ∀ s ∈ bothL b t z i, s.size ≤ 5000 := fun s hs => by
  unfold bothL at hs
  rcases List.mem_append.1 hs with h | h
  · obtain ⟨j, _, rfl⟩ := List.mem_map.1 h
    unfold blk
    rw [ByteArray.size_extract]
    omega
  · obtain ⟨j, _, rfl⟩ := List.mem_map.1 h
    unfold winS
    rw [ByteArray.size_extract]
    omega
theorem make_mayP {k : ByteArray} {L : List Sg} {z last : Nat} {t : ByteArray} (ht : t.size ≤ 1024) : mayP (makeL k L z last t) = true := by
  unfold makeL mayP
  obtain ⟨h1, h2, h3⟩ := make_may (nx := nextP (sgL k) L z last) t.data.toList.length t.data.toList [] rfl
  have hl : t.data.toList.length = t.size := Array.length_toList
  have h4 : (bytP ([] : List UInt8)).length = 0 := rfl
  rw [decide_eq_true (by omega), h2, List.all_eq_true.2 h1]
  rfl
theorem make_data {k : ByteArray} {L : List Sg} {z last : Nat} {t : ByteArray} : ∀ p ∈ makeL k L z last t, p.data.size ≤ t.size := by
  have key : ∀ (m : Nat) (u bs : List UInt8), u.length = m → ∀ p ∈ makeP (nextP (sgL k) L z last) bs u, p.data.size ≤ bs.length + u.length := by
    intro m
    induction m using Nat.strongRecOn with
    | ind m ih =>
      intro u bs hm p hp
      have byt : ∀ x : List UInt8, p ∈ bytP x → p.data.size ≤ x.length := fun x hx => by
        unfold bytP at hx
        split at hx
        · cases hx
        · rw [List.mem_singleton.1 hx]
          simp [Pc.byt, ByteArray.size]
      cases u with
      | nil =>
        rw [makeP_nil] at hp
        have := byt _ hp
        omega
      | cons c r =>
        simp only [List.length_cons] at hm ⊢
        cases hx : nextP (sgL k) L z last (c :: r) with
        | none =>
          rw [makeP_none hx] at hp
          have := ih r.length (by omega) r (bs ++ [c]) rfl p hp
          simp only [List.length_append, List.length_cons, List.length_nil] at this
          omega
        | some q =>
          obtain ⟨i, n⟩ := q
          rw [makeP, hx] at hp
          simp only at hp
          rcases List.mem_append.1 hp with h | h
          · have := byt _ h
            omega
          · rcases List.mem_cons.1 h with rfl | h
            · simp [Pc.blk, ByteArray.size]
            · have := ih (r.drop (n - 1)).length (by rw [List.length_drop]; omega) _ [] rfl p h
              rw [List.length_drop] at this
              simp only [List.length_nil] at this
              omega
  intro p hp
  have := key t.data.toList.length t.data.toList [] rfl p hp
  have hl : t.data.toList.length = t.size := Array.length_toList
  simp only [List.length_nil] at this
  omega
/-- Where no two unlike ones have the same signature, the pieces make the text. -/
theorem patch_back {k b t : ByteArray} {z : Nat} (hz1 : 1 ≤ z) (hz2 : z ≤ 128) (hb : b.size ≤ 1024) (ht : t.size ≤ 1024) (hc : ∀ p ∈ makeL k (sigsL (sgL k) b.data.toList z) z (lastL b.data.toList z) t, p.copy = true → p.n < (cntL b.data.toList z : Int)) (hx : textP (blkL b.data.toList z) (makeL k (sigsL (sgL k) b.data.toList z) z (lastL b.data.toList z) t) = t.data.toList) : patchF b (z : Int) (makeL k (sigsL (sgL k) b.data.toList z) z (lastL b.data.toList z) t) = (t, 0) := by
  have hm := make_mayP (k := k) (L := sigsL (sgL k) b.data.toList z) (z := z) (last := lastL b.data.toList z) ht
  have hg : goodZ (z : Int) = true := by simp [goodZ]; omega
  have hh := hasP_yes (cnt := cntL b.data.toList z) (fun i p hi hcp => hc p (List.mem_of_getElem? hi) hcp)
  have hl : t.data.toList.length = t.size := Array.length_toList
  unfold patchF
  rw [if_neg (by rw [hm]; decide), if_neg (by rw [hg]; decide), Int.toNat_natCast, if_neg (by rw [hh]; decide), if_neg (by omega), hx, if_neg (by omega)]
end Go.Proofs.YtbhnmjjfammlkaaDoor
