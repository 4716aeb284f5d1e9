/- What the theorem of the stage wants: a commit amid which the power fails. -/
import Derived.Test.YtnafalkcgghjgaaGreatDoorTJ
namespace Go.Proofs.YtnafalkcgghjgaaGreatDoor
open Go.ChangeShapes Go.WideShapes Go.ChangeAt Go.RowKit Go.Shelf
/-- A commit under whatever fuse, and a failure with whatever picks: as it was, or as a whole; as a whole, if it was told. -/
theorem torn_math {n : Nat} {D : Dk} (h : Good n D) (hn : n ≤ 128) (l : List Chi) (hck : chk n l = 0) (cut : Nat) (p : Nat → Bool) :
    ∃ Q, Rec n ((comDisk n (D.fused cut) l).failed p).kept Q ∧ (Q = newP (ownP n D.kept) (srtC l) ∨ (¬ comCode n (D.fused cut) l = 0 ∧ Q = ownP n D.kept)) ∧ ((comDisk n (D.fused cut) l).failed p).Sz ∧ ((comDisk n (D.fused cut) l).failed p).kept.length = 8 * n + 1 := by
  have hup : (D.fused cut).up = true := h.up
  have e1 : comDisk n (D.fused cut) l = runS (D.fused cut) (comSteps n l) := by unfold comDisk; rw [if_pos ⟨hck, hup⟩]
  have e2 : comCode n (D.fused cut) l = codeS (D.fused cut) (comSteps n l) := by unfold comCode; rw [if_pos hck, if_pos hup]
  rw [e1, e2]
  have hsz : (runS (D.fused cut) (comSteps n l)).Sz := (h.sz.fused cut).run _ (comSteps_sz hn hck)
  have hlen : ((runS (D.fused cut) (comSteps n l)).failed p).kept.length = 8 * n + 1 := by
    show (upTo _ _ _ _).length = _
    rw [upTo_len, runS_len]
    exact h.ln
  rcases com_safe (D := D.fused cut) hn hup h.wt (by show _ ≤ D.kept.length; rw [h.ln]; exact Nat.le_refl _) h.td l hck with ⟨k1, k2, k3, k4, k5⟩ | ⟨k1, k2, k3⟩
  · refine ⟨newP (ownP n D.kept) (srtC l), ?_, .inl rfl, hsz.failed p, hlen⟩
    show Rec n (upTo (runS (D.fused cut) (comSteps n l)).kept p (runS (D.fused cut) (comSteps n l)).waits (runS (D.fused cut) (comSteps n l)).waits.length) _
    rw [k3]
    exact k5
  · rcases k3 p with k | k
    · exact ⟨ownP n D.kept, k, .inr ⟨by rw [k1]; omega, rfl⟩, hsz.failed p, hlen⟩
    · exact ⟨newP (ownP n D.kept) (srtC l), k, .inl rfl, hsz.failed p, hlen⟩
theorem comSteps_len (n : Nat) (l : List Chi) : (comSteps n l).length ≤ 8 * l.length + 6 := by
  unfold comSteps
  split
  · simp
  · unfold commitS finS markL
    simp only [List.length_append, layL_len, srtC_len, List.length_cons, List.length_nil]
    omega
theorem recS_len (n : Nat) (K : List ByteArray) : (recS n K).length ≤ 4 * n + 3 := by
  unfold recS
  split
  · simp
  · unfold finS markL
    simp only [List.length_append, layL_len, List.length_cons, List.length_nil]
    have : (recL n K).length ≤ n := by
      unfold recL toldL
      rw [List.length_map]
      exact Nat.le_trans (List.length_filter_le _ _) (by simp)
    omega
theorem recS_sz {n : Nat} {D : Dk} (hz : D.Sz) (hl : 8 * n + 1 ≤ D.kept.length) : ∀ q, some q ∈ recS n D.kept → q.2.size = 256 := by
  unfold recS
  split
  · intro q hq; simp at hq
  · refine finS_sz ?_
    intro c hc
    unfold recL at hc
    obtain ⟨i, hi, rfl⟩ := List.mem_map.1 hc
    have hin : i < n := by unfold toldL at hi; simpa using (List.mem_filter.1 hi).1
    show (pageAt D.kept (1 + 4 * i)).size = 1024
    unfold pageAt
    rw [ByteArray.size_append, ByteArray.size_append, ByteArray.size_append, hz.at _ (by omega), hz.at _ (by omega), hz.at _ (by omega), hz.at _ (by omega)]
theorem com_writes (n : Nat) (D : Dk) (l : List Chi) : (comDisk n D l).writes ≤ D.writes + 8 * l.length + 6 := by
  unfold comDisk
  split
  · have h1 := runS_writes D (comSteps n l)
    have h2 := comSteps_len n l
    omega
  · omega
/-- What is opened behind it: a store that is whole, with pages as they were, or as they were to be. -/
theorem torn_opened {n : Nat} {D : Dk} (h : Good n D) (hn : n ≤ 12) (hw : D.writes ≤ 1000) {L K : List Lf} (hL : Shape n L) (hK : Shape n K) (hk : Enc (pagesF n D) K) (cut : Nat) (p : Nat → Bool) {D4 : Dk}
    (h4 : D4 = ((comDisk n (D.fused cut) (chU (pagesF n (D.fused cut)) L L.length)).failed p).started) :
    D4.up = true ∧ D4.waits = [] ∧ 8 * n + 1 ≤ D4.kept.length ∧ D4.Sz ∧ D4.writes ≤ 2000 ∧ codeS D4 (recS n D4.kept) = 0 ∧ Good n (runS D4 (recS n D4.kept)) ∧ (loadF n (pagesF n (runS D4 (recS n D4.kept))) = some L ∨ (¬ comCode n (D.fused cut) (chU (pagesF n (D.fused cut)) L L.length) = 0 ∧ loadF n (pagesF n (runS D4 (recS n D4.kept))) = some K)) := by
  have ep : pagesF n (D.fused cut) = pagesF n D := rfl
  rw [ep] at h4 ⊢
  have hck := chU_chk (P := pagesF n D) hL L.length
  have hll := chU_len (pagesF n D) L L.length
  have hl2 := hL.len
  obtain ⟨Q, q1, q2, q3, q4⟩ := torn_math h (by omega) _ hck cut p
  have hwr := com_writes n (D.fused cut) (chU (pagesF n D) L L.length)
  generalize comDisk n (D.fused cut) (chU (pagesF n D) L L.length) = D2 at *
  have hw2 : (D.fused cut).writes = D.writes := rfl
  subst h4
  have hkep : ((D2.failed p).started).kept = (D2.failed p).kept := rfl
  have hfr := runS_free ((D2.failed p).started) (recS n (D2.failed p).kept) rfl rfl
  have hrs := rec_safe n ((D2.failed p).started) Q rfl rfl (by rw [hkep, q4]; exact Nat.le_refl _) q3.started q1
  rw [hkep] at hrs ⊢
  have hrl := recS_len n (D2.failed p).kept
  rcases hrs with ⟨k1, k2, k3, k4, k5⟩ | ⟨k1, _⟩
  · have hG : Good n (runS (D2.failed p).started (recS n (D2.failed p).kept)) := ⟨k2, hfr.2.2, k3, by rw [runS_len]; exact q4, q3.started.run _ (recS_sz (D := D2.failed p) q3 (by rw [q4]; exact Nat.le_refl _)), k4⟩
    refine ⟨rfl, rfl, by rw [q4]; exact Nat.le_refl _, q3.started, ?_, k1, hG, ?_⟩
    · show D2.writes ≤ 2000
      omega
    · rcases q2 with e | ⟨hc, e⟩
      · left
        subst e
        refine loadF_enc (by omega) hL ((enc_new (by omega) hL (Q := ownP n D.kept) (P := pagesF n D) (fun i hi => (pages_rec h (own_rec h.td) i hi).symm)).congr hL (fun i hi => pages_rec hG k5 i hi))
      · right
        subst e
        refine ⟨hc, loadF_enc (by omega) hK (hk.congr hK (fun i hi => ?_))⟩
        rw [pages_rec hG k5 i hi, pages_rec h (own_rec h.td) i hi]
  · rw [hfr.1] at k1
    omega
end Go.Proofs.YtnafalkcgghjgaaGreatDoor
