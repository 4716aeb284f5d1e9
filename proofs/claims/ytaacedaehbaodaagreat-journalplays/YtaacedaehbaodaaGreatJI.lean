/- What a commit leaves of a whole store; a walk over the statements' lives. -/
import Derived.Test.YtaacedaehbaodaaGreatJHW
import Derived.Test.YtaacedaehbaodaaGreatMC
namespace Go.Proofs.YtaacedaehbaodaaGreat
open Go.RowKit Go.Shelf
theorem com_ready {n : Nat} {l : List Chi} (hn : n ≤ 128) (hck : chk n l = 0) : (∀ i, i < n → (tells (markOf (pagesL l)) i = true ↔ ∃ c ∈ srtC l, c.1 = i)) ∧ (∀ c ∈ srtC l, c.1 < n) ∧ (srtC l).Pairwise (fun a b => a.1 ≠ b.1) ∧ (∀ c ∈ srtC l, c.2.size = 1024) := by
  obtain ⟨h1, h2, h3⟩ := chk_zero hck
  have hmem : ∀ c, c ∈ srtC l ↔ ∃ d ∈ l, natC d = c := fun c => by rw [(srtC_perm l).mem_iff, List.mem_map]
  refine ⟨fun i hi => ?_, fun c hc => ?_, ?_, fun c hc => ?_⟩
  · rw [tells_mark _ (fun p hp => by
      unfold pagesL at hp
      obtain ⟨c, hc, rfl⟩ := List.mem_map.1 hp
      have := h1 c hc
      omega), decide_eq_true_iff]
    constructor
    · intro hp
      unfold pagesL at hp
      obtain ⟨c, hc, rfl⟩ := List.mem_map.1 hp
      exact ⟨natC c, (hmem _).2 ⟨c, hc, rfl⟩, rfl⟩
    · rintro ⟨c, hc, rfl⟩
      obtain ⟨d, hd, rfl⟩ := (hmem _).1 hc
      unfold pagesL
      exact List.mem_map.2 ⟨d, hd, rfl⟩
  · obtain ⟨d, hd, rfl⟩ := (hmem _).1 hc
    have := h1 d hd
    simp only [natC]
    omega
  · exact (nodup_nat h1 h2).perm (srtC_perm l).symm (fun h => Ne.symm h)
  · obtain ⟨d, hd, rfl⟩ := (hmem _).1 hc
    exact h3 d hd
theorem srtC_len (l : List Chi) : (srtC l).length = l.length := by rw [(srtC_perm l).length_eq, List.length_map]
theorem comSteps_sz {n : Nat} {l : List Chi} (hn : n ≤ 128) (hck : chk n l = 0) : ∀ q, some q ∈ comSteps n l → q.2.size = 256 := by
  intro q hq
  unfold comSteps at hq
  split at hq
  · simp at hq
  · exact commitS_sz (com_ready hn hck).2.2.2 (markOf_size _) q hq
/-- A commit on a store that is whole, with whatever fuse. -/
theorem com_safe {n : Nat} {D : Dk} (hn : n ≤ 128) (hu : D.up = true) (hw : D.waits = []) (hl : 8 * n + 1 ≤ D.kept.length) (ht : Tidy n D.kept) (l : List Chi) (hck : chk n l = 0) :
    (codeS D (comSteps n l) = 0 ∧ (runS D (comSteps n l)).up = true ∧ (runS D (comSteps n l)).waits = [] ∧ Tidy n (runS D (comSteps n l)).kept ∧ Rec n (runS D (comSteps n l)).kept (newP (ownP n D.kept) (srtC l))) ∨
      (codeS D (comSteps n l) = 10 ∧ (runS D (comSteps n l)).up = false ∧ ∀ p, Rec n (upTo (runS D (comSteps n l)).kept p (runS D (comSteps n l)).waits (runS D (comSteps n l)).waits.length) (ownP n D.kept) ∨ Rec n (upTo (runS D (comSteps n l)).kept p (runS D (comSteps n l)).waits (runS D (comSteps n l)).waits.length) (newP (ownP n D.kept) (srtC l))) := by
  obtain ⟨h1, h2, h3, h4⟩ := com_ready hn hck
  unfold comSteps
  by_cases h0 : l = []
  · rw [if_pos h0]
    refine .inl ⟨rfl, hu, hw, ht, ?_⟩
    have e : srtC l = [] := List.eq_nil_of_length_eq_zero (by rw [srtC_len, h0]; rfl)
    rw [e]
    intro k hk
    rw [newP_none (fun c hc => by simp at hc)]
    exact own_rec ht k hk
  · rw [if_neg h0]
    exact commit_safe n D (srtC l) _ _ hn hu hw hl (own_rec ht) ht h1 h2 h3
theorem Good.commit {n : Nat} {D : Dk} (h : Good n D) (hn : n ≤ 128) (l : List Chi) : comCode n D l = chk n l ∧ Good n (comDisk n D l) ∧ (comDisk n D l).writes ≤ D.writes + 8 * l.length + 2 ∧
    (chk n l = 0 → Rec n (comDisk n D l).kept (newP (ownP n D.kept) (srtC l))) := by
  unfold comCode comDisk
  by_cases hck : chk n l = 0
  · obtain ⟨hf1, hf2, hf3⟩ := runS_free D (comSteps n l) h.up h.fu
    rw [if_pos hck, if_pos h.up, if_pos ⟨hck, h.up⟩, hf1, hck]
    rcases com_safe hn h.up h.wt (by rw [h.ln]; exact Nat.le_refl _) h.td l hck with ⟨_, k2, k3, k4, k5⟩ | ⟨k1, _⟩
    · refine ⟨rfl, ⟨k2, hf3, k3, by rw [runS_len, h.ln], h.sz.run _ (comSteps_sz hn hck), k4⟩, ?_, fun _ => k5⟩
      have := runS_count D (comSteps n l) hf1
      rw [this]
      unfold comSteps
      split
      · show D.writes + 0 ≤ _; omega
      · rw [count_commit, srtC_len]; omega
    · rw [hf1] at k1; omega
  · rw [if_neg hck, if_neg (fun e => hck e.1)]
    exact ⟨rfl, h, by omega, fun e => absurd e hck⟩
theorem strOf_app (a b : List UInt8) : strOf a ++ strOf b = strOf (a ++ b) := by
  apply ByteArray.ext
  simp [strOf]
def zeros4 : ByteArray := strOf (List.replicate 1024 0)
theorem zeros4_size : zeros4.size = 1024 := by unfold zeros4; rw [strOf_size, List.length_replicate]
theorem zeros4_at : zeros4[0]'(by rw [zeros4_size]; omega) = 0 := by
  show (List.replicate 1024 (0 : UInt8)).toArray[0]'(by rw [List.size_toArray, List.length_replicate]; omega) = 0
  rw [List.getElem_toArray, List.getElem_replicate]
theorem nought_page : pageAt (Dk.new 9 nought).kept 5 = zeros4 := by
  have e : ∀ a, a < 9 → at_ (Dk.new 9 nought).kept a = nought := by
    intro a ha
    unfold at_ Dk.new
    simp only
    rw [List.getD_eq_getElem?_getD, List.getElem?_replicate, if_pos ha]
    rfl
  unfold pageAt
  rw [e 5 (by omega), e (5 + 1) (by omega), e (5 + 2) (by omega), e (5 + 3) (by omega)]
  unfold nought zeros4
  rw [strOf_app, strOf_app, strOf_app, List.replicate_append_replicate, List.replicate_append_replicate, List.replicate_append_replicate]
set_option maxRecDepth 100000 in
set_option maxHeartbeats 4000000 in
theorem lives_any (w : World) : Calls Tryz.prog 4 #[] w fun e w' => e = .returned (.bool true) ∧ Below w.heap.size w w' := by
  have HNW := new_any 9 w (by omega) (by omega)
  go_enter Tryz.func4, Tryz.ntmps4
  go_wp2_with fail
  refine HNW.mono ?_
  rintro e w1 ⟨g, rfl, hd1, hb1⟩
  have hg : Good 1 (Dk.new 9 nought) := Good.new 1
  obtain ⟨D, hD⟩ : ∃ D, Dk.new 9 nought = D := ⟨_, rfl⟩
  have hDw : D.writes = 0 := by rw [← hD]; rfl
  have HPG : Hid (pageAt D.seen 5 = zeros4) := by
    show _ = _
    rw [← hD, hg.seen]
    exact nought_page
  rw [hD] at hd1 hg
  have HO := open_any (n := 1) hd1 (by omega) (by omega) (by rw [hg.ln]; omega) hg.up hg.wt hg.sz.k (by omega)
  rw [rec_tidy hg.td] at HO
  have HO : Calls Tryz.prog 8 #[.pointer (some ⟨g, 0, none⟩), .int .i64 1] w1 fun e w' => e = .returned (.tuple #[.pointer (some ⟨w1.heap.size, 0, none⟩), .int .i64 0]) ∧ Jat w' w1.heap.size g 1 ∧ ∃ S', DiskIs w' S' g D ∧ Upd (fresh w w1) w1 w' ∧ (∀ x, S' x → fresh w w1 x ∨ w1.heap.size ≤ x) ∧ ¬ S' w1.heap.size := HO
  clear HNW
  go_wp2_with fail
  refine HO.mono ?_
  rintro e w2 ⟨rfl, hj2, S2, hd2, hu2, hs2, hnj2⟩
  have hb2 : Below w.heap.size w w2 := hb1.trans (hu2.below hb1.size (fun k hk => hk.1))
  have hS2 : ∀ x, S2 x → w.heap.size ≤ x := fun x hx => (hs2 x hx).elim (fun h => h.1) (fun h => Nat.le_trans hb1.size h)
  have HND := need_any 1 w2
  have hnd : needN 1 = 9 := rfl
  rw [hnd] at HND
  have HRD := jread_any hd2 hj2 (by omega) (by rw [hg.ln]; omega) hg.up hg.sz.seen 0 (by omega)
  rw [show 1 + 4 * 1 + 4 * 0 = 5 from rfl, HPG.out] at HRD
  have hzs := zeros4_size
  have hza := zeros4_at
  obtain ⟨Z, hZ⟩ : ∃ Z, zeros4 = Z := ⟨_, rfl⟩
  have hz0 : 0 < Z.size := by rw [← hZ, zeros4_size]; omega
  have hza : Z[0] = 0 := by
    have := zeros4_at
    simp only [hZ] at this
    exact this
  rw [hZ] at HRD hzs
  have kzs : (Z.size : Int) = 1024 := by omega
  obtain ⟨jb, hjb⟩ : ∃ jb, w1.heap.size = jb := ⟨_, rfl⟩
  rw [hjb] at hj2 hnj2 HRD
  clear HO hZ
  go_wp2_with (go_at_call 25; refine HND.mono ?_; rintro e V1 ⟨rfl, hV⟩; subst V1)
  refine HRD.mono ?_
  rintro e w3 ⟨rfl, hb3⟩
  have HFI := filled_any 0 0 3 w3 (by omega)
  obtain ⟨T, hT⟩ : ∃ T, fillS 0 3 = T := ⟨_, rfl⟩
  have hTs : T.size = 1024 := by rw [← hT, fillS_size]; rfl
  rw [hT] at HFI
  have hd3 := hd2.below hb3
  have hj3 := hj2.below hb3
  have HB3 : Hid (Below w.heap.size w w3) := hb2.trans (hb3.mono hb2.size)
  clear HRD HND hT hb3
  go_wp2_with fail
  refine HFI.mono ?_
  rintro e w4 ⟨rfl, hb4⟩
  obtain ⟨W5, hW5⟩ : ∃ W5, w4.alloc (.cells #[.int .i64 0, .string T] 68) = W5 := ⟨_, rfl⟩
  have hr5 : W5.heap[w4.heap.size]? = some (.cells #[.int .i64 0, .string T] 68 (0, 0)) := by rw [← hW5]; exact heap_alloc_new w4 _
  have hb5 : Below w3.heap.size w3 W5 := by rw [← hW5]; exact hb4.alloc hb4.size _
  have hci : Ci W5 (some ⟨w4.heap.size, 0, none⟩) 1 1 [(0, T)] := by
    refine ⟨rfl, by omega, by omega, fun _ => ⟨w4.heap.size, 0, rfl, lt_of_some hr5, fun i hi => ?_⟩⟩
    have : i = 0 := by simpa using hi
    subst this
    refine ⟨?_, ?_⟩ <;> rw [cell_of_row _ w4.heap.size _ _ _ _ hr5] <;> rfl
  have HC := commit_any (hd3.below hb5) (hj3.below hb5) hnj2 (by omega) (by rw [hg.ln]; omega) (some ⟨w4.heap.size, 0, none⟩) 1 1 [(0, T)] hci (fun x hx => by cases hx; exact lt_of_some hr5) (by omega) (by omega)
  have hck : chk 1 [(0, T)] = 0 := chk_ok (fun c hc => by simp at hc; subst hc; simp) (by simp) (fun c hc => by simp at hc; subst hc; exact hTs)
  obtain ⟨g1, g2, g3, _⟩ := hg.commit (by omega) [(0, T)]
  have hwr : (comDisk 1 D [(0, T)]).writes = 10 := by
    unfold comDisk
    rw [if_pos ⟨hck, hg.up⟩, runS_count _ _ (runS_free _ _ hg.up hg.fu).1, hDw]
    unfold comSteps
    rw [if_neg (by simp), count_commit, srtC_len]
    rfl
  rw [g1, hck] at HC
  have HB5 : Hid (Below w.heap.size w W5) := HB3.out.trans (hb5.mono HB3.out.size)
  clear HFI hci hr5 hb5 hb4
  go_wp2_with fail
  refine HC.mono ?_
  rintro e w6 ⟨rfl, hm6⟩
  obtain ⟨S6, hd6, hu6, _⟩ := hm6
  have HWR := writes_any hd6
  rw [hwr] at HWR
  have HB6 : Hid (Below w.heap.size w w6) := HB5.out.trans (hu6.below HB5.out.size (fun k hk => hS2 k hk))
  clear HC
  go_wp2_with fail
  refine HWR.mono ?_
  rintro e V7 ⟨rfl, hV⟩
  subst V7
  go_wp2
  go_ret
  exact ⟨rfl, HB6.out⟩
theorem lives_h {w0 w : World} (h : Below w0.heap.size w0 w) : Calls Tryz.prog 4 #[] w fun e w' => e = .returned (.bool true) ∧ Below w0.heap.size w0 w' := by
  refine (lives_any w).mono ?_
  rintro e w' ⟨rfl, hb⟩
  exact ⟨rfl, h.trans (hb.mono h.size)⟩
end Go.Proofs.YtaacedaehbaodaaGreat
