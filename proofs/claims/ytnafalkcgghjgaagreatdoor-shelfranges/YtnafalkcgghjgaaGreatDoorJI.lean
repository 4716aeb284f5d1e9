/- What a commit leaves of a whole store; a walk over the statements' lives. -/
import Derived.Test.YtnafalkcgghjgaaGreatDoorJG
import Derived.Test.YtnafalkcgghjgaaGreatDoorMC
namespace Go.Proofs.YtnafalkcgghjgaaGreatDoor
open Go.RowKit Go.Shelf
theorem com_ready {n : Nat} {l : List Chi} (hn : n ≤ 128) (hck : chk n l = 0) : (∀ i, i < n → (tells (markOf (pagesL l)) i = true ↔ ∃ c ∈ srtC l, c.1 = i)) ∧ (∀ c ∈ srtC l, c.1 < n) ∧ (srtC l).Pairwise (fun a b => a.1 ≠ b.1) ∧ (∀ c ∈ srtC l, c.2.size = 1024) := by
  obtain ⟨h1, h2, h3⟩ := chk_zero hck
  have hmem : ∀ c, c ∈ srtC l ↔ ∃ d ∈ l, natC d = c := fun c => by rw [(srtC_perm l).mem_iff, List.mem_map]
  refine ⟨fun i hi => ?_, fun c hc => ?_, ?_, fun c hc => ?_⟩
  · rw [tells_mark _ (fun p hp => by
      unfold pagesL at hp
      obtain ⟨c, hc, rfl⟩ := List.mem_map.1 hp
      have := h1 c hc
      omega), decide_eq_true_iff]
    constructor
    · intro hp
      unfold pagesL at hp
      obtain ⟨c, hc, rfl⟩ := List.mem_map.1 hp
      exact ⟨natC c, (hmem _).2 ⟨c, hc, rfl⟩, rfl⟩
    · rintro ⟨c, hc, rfl⟩
      obtain ⟨d, hd, rfl⟩ := (hmem _).1 hc
      unfold pagesL
      exact List.mem_map.2 ⟨d, hd, rfl⟩
  · obtain ⟨d, hd, rfl⟩ := (hmem _).1 hc
    have := h1 d hd
    simp only [natC]
    omega
  · exact (nodup_nat h1 h2).perm (srtC_perm l).symm (fun h => Ne.symm h)
  · obtain ⟨d, hd, rfl⟩ := (hmem _).1 hc
    exact h3 d hd
theorem srtC_len (l : List Chi) : (srtC l).length = l.length := by rw [(srtC_perm l).length_eq, List.length_map]
theorem comSteps_sz {n : Nat} {l : List Chi} (hn : n ≤ 128) (hck : chk n l = 0) : ∀ q, some q ∈ comSteps n l → q.2.size = 256 := by
  intro q hq
  unfold comSteps at hq
  split at hq
  · simp at hq
  · exact commitS_sz (com_ready hn hck).2.2.2 (markOf_size _) q hq
/-- A commit on a store that is whole, with whatever fuse. -/
theorem com_safe {n : Nat} {D : Dk} (hn : n ≤ 128) (hu : D.up = true) (hw : D.waits = []) (hl : 8 * n + 1 ≤ D.kept.length) (ht : Tidy n D.kept) (l : List Chi) (hck : chk n l = 0) :
    (codeS D (comSteps n l) = 0 ∧ (runS D (comSteps n l)).up = true ∧ (runS D (comSteps n l)).waits = [] ∧ Tidy n (runS D (comSteps n l)).kept ∧ Rec n (runS D (comSteps n l)).kept (newP (ownP n D.kept) (srtC l))) ∨
      (codeS D (comSteps n l) = 10 ∧ (runS D (comSteps n l)).up = false ∧ ∀ p, Rec n (upTo (runS D (comSteps n l)).kept p (runS D (comSteps n l)).waits (runS D (comSteps n l)).waits.length) (ownP n D.kept) ∨ Rec n (upTo (runS D (comSteps n l)).kept p (runS D (comSteps n l)).waits (runS D (comSteps n l)).waits.length) (newP (ownP n D.kept) (srtC l))) := by
  obtain ⟨h1, h2, h3, h4⟩ := com_ready hn hck
  unfold comSteps
  by_cases h0 : l = []
  · rw [if_pos h0]
    refine .inl ⟨rfl, hu, hw, ht, ?_⟩
    have e : srtC l = [] := List.eq_nil_of_length_eq_zero (by rw [srtC_len, h0]; rfl)
    rw [e]
    intro k hk
    rw [newP_none (fun c hc => by simp at hc)]
    exact own_rec ht k hk
  · rw [if_neg h0]
    exact commit_safe n D (srtC l) _ _ hn hu hw hl (own_rec ht) ht h1 h2 h3
theorem Good.commit {n : Nat} {D : Dk} (h : Good n D) (hn : n ≤ 128) (l : List Chi) : comCode n D l = chk n l ∧ Good n (comDisk n D l) ∧ (comDisk n D l).writes ≤ D.writes + 8 * l.length + 2 ∧
    (chk n l = 0 → Rec n (comDisk n D l).kept (newP (ownP n D.kept) (srtC l))) := by
  unfold comCode comDisk
  by_cases hck : chk n l = 0
  · obtain ⟨hf1, hf2, hf3⟩ := runS_free D (comSteps n l) h.up h.fu
    rw [if_pos hck, if_pos h.up, if_pos ⟨hck, h.up⟩, hf1, hck]
    rcases com_safe hn h.up h.wt (by rw [h.ln]; exact Nat.le_refl _) h.td l hck with ⟨_, k2, k3, k4, k5⟩ | ⟨k1, _⟩
    · refine ⟨rfl, ⟨k2, hf3, k3, by rw [runS_len, h.ln], h.sz.run _ (comSteps_sz hn hck), k4⟩, ?_, fun _ => k5⟩
      have := runS_count D (comSteps n l) hf1
      rw [this]
      unfold comSteps
      split
      · show D.writes + 0 ≤ _; omega
      · rw [count_commit, srtC_len]; omega
    · rw [hf1] at k1; omega
  · rw [if_neg hck, if_neg (fun e => hck e.1)]
    exact ⟨rfl, h, by omega, fun e => absurd e hck⟩
theorem strOf_app (a b : List UInt8) : strOf a ++ strOf b = strOf (a ++ b) := by
  apply ByteArray.ext
  simp [strOf]
def zeros4 : ByteArray := strOf (List.replicate 1024 0)
theorem zeros4_size : zeros4.size = 1024 := by unfold zeros4; rw [strOf_size, List.length_replicate]
theorem zeros4_at : zeros4[0]'(by rw [zeros4_size]; omega) = 0 := by
  show (List.replicate 1024 (0 : UInt8)).toArray[0]'(by rw [List.size_toArray, List.length_replicate]; omega) = 0
  rw [List.getElem_toArray, List.getElem_replicate]
theorem nought_page : pageAt (Dk.new 9 nought).kept 5 = zeros4 := by
  have e : ∀ a, a < 9 → at_ (Dk.new 9 nought).kept a = nought := by
    intro a ha
    unfold at_ Dk.new
    simp only
    rw [List.getD_eq_getElem?_getD, List.getElem?_replicate, if_pos ha]
    rfl
  unfold pageAt
  rw [e 5 (by omega), e (5 + 1) (by omega), e (5 + 2) (by omega), e (5 + 3) (by omega)]
  unfold nought zeros4
  rw [strOf_app, strOf_app, strOf_app, List.replicate_append_replicate, List.replicate_append_replicate, List.replicate_append_replicate]
end Go.Proofs.YtnafalkcgghjgaaGreatDoor
