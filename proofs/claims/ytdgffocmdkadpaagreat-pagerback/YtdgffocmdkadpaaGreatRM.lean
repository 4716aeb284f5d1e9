/- What a Commit makes of the disk and of the pager, and a Commit amid which the power fails: mathematics. -/
import Derived.Test.YtdgffocmdkadpaaGreatRL
namespace Go.Proofs.YtdgffocmdkadpaaGreat
open Go.RowKit Go.Shelf Pg
/-- A commit under whatever fuse, and a failure with whatever picks: as it was, or as a whole; as a whole, if it was told. -/
theorem torn_math {n : Nat} {D : Dk} (h : Good n D) (hn : n ≤ 128) (l : List Chi) (hck : chk n l = 0) (cut : Nat) (p : Nat → Bool) :
    ∃ Q, Rec n ((comDisk n (D.fused cut) l).failed p).kept Q ∧ (Q = newP (ownP n D.kept) (srtC l) ∨ (¬ comCode n (D.fused cut) l = 0 ∧ Q = ownP n D.kept)) ∧ ((comDisk n (D.fused cut) l).failed p).Sz ∧ ((comDisk n (D.fused cut) l).failed p).kept.length = 8 * n + 1 ∧ (comCode n (D.fused cut) l = 0 → Asks n (comDisk n (D.fused cut) l)) := by
  have hup : (D.fused cut).up = true := h.up
  have e1 : comDisk n (D.fused cut) l = runS (D.fused cut) (comSteps n l) := by unfold comDisk; rw [if_pos ⟨hck, hup⟩]
  have e2 : comCode n (D.fused cut) l = codeS (D.fused cut) (comSteps n l) := by unfold comCode; rw [if_pos hck, if_pos hup]
  rw [e1, e2]
  have hsz : (runS (D.fused cut) (comSteps n l)).Sz := (h.sz.fused cut).run _ (comSteps_sz hn hck)
  have hkl : (runS (D.fused cut) (comSteps n l)).kept.length = 8 * n + 1 := by rw [runS_len]; exact h.ln
  have hlen : ((runS (D.fused cut) (comSteps n l)).failed p).kept.length = 8 * n + 1 := by
    show (upTo _ _ _ _).length = _
    rw [upTo_len, hkl]
  rcases com_safe (D := D.fused cut) hn hup h.wt (by show _ ≤ D.kept.length; rw [h.ln]; exact Nat.le_refl _) h.td l hck with ⟨k1, k2, k3, k4, k5⟩ | ⟨k1, k2, k3⟩
  · refine ⟨newP (ownP n D.kept) (srtC l), ?_, .inl rfl, hsz.failed p, hlen, fun _ => ⟨by rw [hkl]; exact Nat.le_refl _, k2, hsz.seen⟩⟩
    show Rec n (upTo (runS (D.fused cut) (comSteps n l)).kept p (runS (D.fused cut) (comSteps n l)).waits (runS (D.fused cut) (comSteps n l)).waits.length) _
    rw [k3]
    exact k5
  · rcases k3 p with k | k
    · exact ⟨ownP n D.kept, k, .inr ⟨by rw [k1]; omega, rfl⟩, hsz.failed p, hlen, fun e => by rw [k1] at e; omega⟩
    · exact ⟨newP (ownP n D.kept) (srtC l), k, .inl rfl, hsz.failed p, hlen, fun e => by rw [k1] at e; omega⟩
theorem comSteps_len (n : Nat) (l : List Chi) : (comSteps n l).length ≤ 8 * l.length + 6 := by
  unfold comSteps
  split
  · simp
  · unfold commitS finS markL
    simp only [List.length_append, layL_len, srtC_len, List.length_cons, List.length_nil]
    omega
theorem recS_len (n : Nat) (K : List ByteArray) : (recS n K).length ≤ 4 * n + 3 := by
  unfold recS
  split
  · simp
  · unfold finS markL
    simp only [List.length_append, layL_len, List.length_cons, List.length_nil]
    have : (recL n K).length ≤ n := by
      unfold recL toldL
      rw [List.length_map]
      exact Nat.le_trans (List.length_filter_le _ _) (by simp)
    omega
theorem recS_sz {n : Nat} {D : Dk} (hz : D.Sz) (hl : 8 * n + 1 ≤ D.kept.length) : ∀ q, some q ∈ recS n D.kept → q.2.size = 256 := by
  unfold recS
  split
  · intro q hq; simp at hq
  · refine finS_sz ?_
    intro c hc
    unfold recL at hc
    obtain ⟨i, hi, rfl⟩ := List.mem_map.1 hc
    have hin : i < n := by unfold toldL at hi; simpa using (List.mem_filter.1 hi).1
    show (pageAt D.kept (1 + 4 * i)).size = 1024
    unfold pageAt
    rw [ByteArray.size_append, ByteArray.size_append, ByteArray.size_append, hz.at _ (by omega), hz.at _ (by omega), hz.at _ (by omega), hz.at _ (by omega)]
theorem com_writes (n : Nat) (D : Dk) (l : List Chi) : (comDisk n D l).writes ≤ D.writes + 8 * l.length + 6 := by
  unfold comDisk
  split
  · have h1 := runS_writes D (comSteps n l)
    have h2 := comSteps_len n l
    omega
  · omega
section
variable {n k : Nat} {D : Dk} {X : Px}
theorem chP_mem {i m : Nat} : i ∈ X.chP n D m ↔ 1 ≤ i ∧ i < m ∧ X.now.h.has i = true ∧ X.other n D i = true := by
  unfold Px.chP
  rw [List.mem_filter, List.mem_range'_1, Bool.and_eq_true]
  constructor
  · rintro ⟨⟨h1, h2⟩, h3⟩; exact ⟨h1, by omega, h3⟩
  · rintro ⟨h1, h2, h3⟩; exact ⟨⟨h1, by omega⟩, h3⟩
theorem read_some {i : Nat} {s : ByteArray} (h1 : 1 ≤ i) (h2 : i < n) (h3 : X.now.h.has i = true) (hm : X.now.m i = some s) : X.read n D (i : Int) = s := by
  unfold Px.read
  rw [if_pos (why_of h1 h2 h3), Int.toNat_natCast, hm]
theorem readp_none {i : Nat} (h1 : 1 ≤ i) (h2 : i < n) (h3 : X.now.h.has i = true) (hm : X.now.m i = none) : X.read n D (i : Int) = pgOf n D i := by
  unfold Px.read
  rw [if_pos (why_of h1 h2 h3), Int.toNat_natCast, hm]
  rfl
theorem read_out {i : Nat} (h : i = 0 ∨ X.now.h.has i = false) : X.read n D (i : Int) = ⟨#[]⟩ := by
  unfold Px.read
  rw [if_neg]
  intro hw
  obtain ⟨j, hj, h1, h2, h3⟩ := why_zero hw
  obtain rfl : i = j := by omega
  rcases h with h | h
  · omega
  · rw [h] at h3; cases h3
theorem other_some {i : Nat} (h : X.other n D i = true) : ∃ s, X.now.m i = some s ∧ s ≠ pgOf n D i := by
  unfold Px.other at h
  cases hm : X.now.m i with
  | none => rw [hm] at h; cases h
  | some s =>
    rw [hm] at h
    exact ⟨s, rfl, by simpa using h⟩
theorem read_same {i : Nat} (h1 : 1 ≤ i) (h2 : i < n) (h3 : X.now.h.has i = true) (ho : i ∉ X.chP n D n) : X.read n D (i : Int) = pgOf n D i := by
  cases hm : X.now.m i with
  | none => exact readp_none h1 h2 h3 hm
  | some s =>
    rw [read_some h1 h2 h3 hm]
    apply Classical.byContradiction
    intro hne
    refine ho (chP_mem.2 ⟨h1, h2, h3, ?_⟩)
    unfold Px.other
    rw [hm]
    simpa using hne
theorem lays_mem {c : Chi} (h : c ∈ X.lays n D (X.chP n D n)) : c = (0, strOf X.now.h.next.text) ∨ ∃ i, i ∈ X.chP n D n ∧ c = ((i : Int), X.read n D (i : Int)) := by
  unfold Px.lays at h
  rcases List.mem_cons.1 h with h | h
  · exact .inl h
  · obtain ⟨i, hi, rfl⟩ := List.mem_map.1 h
    exact .inr ⟨i, hi, rfl⟩
theorem lays_chk (hok : X.Ok n) (hn : 1 ≤ n) : chk n (X.lays n D (X.chP n D n)) = 0 := by
  have q1 : ∀ c ∈ X.lays n D (X.chP n D n), 0 ≤ c.1 ∧ c.1 < (n : Int) := fun c hc => by
    rcases lays_mem hc with rfl | ⟨i, hi, rfl⟩
    · exact ⟨Int.le_refl _, by show (0 : Int) < n; omega⟩
    · have := chP_mem.1 hi
      exact ⟨by show (0 : Int) ≤ i; omega, by show (i : Int) < n; omega⟩
  have q2 : ((X.lays n D (X.chP n D n)).map Prod.fst).Nodup := by
    unfold Px.lays
    rw [List.map_cons, List.map_map, List.nodup_cons]
    constructor
    · intro hm
      obtain ⟨i, hi, e⟩ := List.mem_map.1 hm
      have := (chP_mem.1 hi).1
      have e : (i : Int) = 0 := e
      omega
    · have hnd : (X.chP n D n).Nodup := (List.nodup_range' (s := 1) (n := n - 1)).filter _
      exact List.Pairwise.map _ (fun a b hab e => hab (by have e : (a : Int) = (b : Int) := e; omega)) hnd
  have q3 : ∀ c ∈ X.lays n D (X.chP n D n), c.2.size = 1024 := fun c hc => by
    rcases lays_mem hc with rfl | ⟨i, hi, rfl⟩
    · show (strOf _).size = _
      rw [strOf_size]; exact Hd.text_len _
    · obtain ⟨h1, h2, h3, h4⟩ := chP_mem.1 hi
      obtain ⟨s, hs, _⟩ := other_some h4
      show (X.read n D (i : Int)).size = 1024
      rw [read_some h1 h2 h3 hs]
      exact (hok.now.m i s hs).2.2.2
  unfold chk
  rw [if_pos q1, if_pos q2, if_pos q3]
theorem pg_own (h : Good n D) {i : Nat} (hi : i < n) : pgP (ownP n D.kept) i = pgOf n D i := by
  unfold pgOf
  rw [h.seen]
  exact (page_rec (own_rec h.td) h.td i hi).symm
/-- What the pages have behind a Commit. -/
theorem new_pages (h : Good n D) (hok : X.Ok n) (hn1 : 1 ≤ n) (hn : n ≤ 128) : pgP (newP (ownP n D.kept) (srtC (X.lays n D (X.chP n D n)))) 0 = strOf X.now.h.next.text ∧ ∀ i, 1 ≤ i → i < n → X.now.h.has i = true → pgP (newP (ownP n D.kept) (srtC (X.lays n D (X.chP n D n)))) i = X.read n D (i : Int) := by
  obtain ⟨r1, r2, r3, r4⟩ := com_ready hn (lays_chk (D := D) hok hn1)
  have mm : ∀ c ∈ X.lays n D (X.chP n D n), natC c ∈ srtC (X.lays n D (X.chP n D n)) := fun c hc => (srtC_perm _).mem_iff.2 (List.mem_map_of_mem hc)
  have h0m : (0, strOf X.now.h.next.text) ∈ X.lays n D (X.chP n D n) := List.mem_cons_self ..
  have him : ∀ i, i ∈ X.chP n D n → ((i : Int), X.read n D (i : Int)) ∈ X.lays n D (X.chP n D n) := fun i hi => List.mem_cons_of_mem _ (List.mem_map_of_mem (f := fun (i : Nat) => ((i : Int), X.read n D (i : Int))) hi)
  constructor
  · obtain ⟨s, hs⟩ : ∃ s, strOf X.now.h.next.text = s := ⟨_, rfl⟩
    rw [hs] at h0m ⊢
    have hm : ((0, s) : Chg) ∈ srtC (X.lays n D (X.chP n D n)) := mm _ h0m
    exact pgP_new (c := (0, s)) r3 hm (r4 _ hm)
  · intro i h1 h2 h3
    by_cases hi : i ∈ X.chP n D n
    · have h9 := him i hi
      obtain ⟨s, hs⟩ : ∃ s, X.read n D (i : Int) = s := ⟨_, rfl⟩
      rw [hs] at h9 ⊢
      have hm : ((i, s) : Chg) ∈ srtC (X.lays n D (X.chP n D n)) := mm _ h9
      exact pgP_new (c := (i, s)) r3 hm (r4 _ hm)
    · rw [pgP_old, pg_own h h2, read_same h1 h2 h3 hi]
      intro c hc e
      obtain ⟨d, hd, rfl⟩ := List.mem_map.1 ((srtC_perm _).mem_iff.1 hc)
      rcases lays_mem hd with rfl | ⟨j, hj, rfl⟩
      · have e : (0 : Int).toNat = i := e
        omega
      · have e : ((j : Nat) : Int).toNat = i := e
        rw [Int.toNat_natCast] at e
        subst e
        exact hi hj
/-- What is always so of a pager over a disk that is up, k steps from the start. -/
structure Inv (n k : Nat) (D : Dk) (X : Px) : Prop where
  g : Good n D
  w : D.writes ≤ 200 * k
  h : parseH n (pgOf n D 0).data.toList = some X.good
  s1 : X.good.ser ≤ k
  s2 : X.now.h.ser ≤ k
  s3 : ∀ s ∈ X.saves, s.h.ser ≤ k
theorem Inv.mono {m : Nat} (h : Inv n k D X) (hm : k ≤ m) : Inv n m D X := ⟨h.g, by have := h.w; omega, h.h, by have := h.s1; omega, by have := h.s2; omega, fun s hs => by have := h.s3 s hs; omega⟩
theorem Inv.new (n : Nat) (hn2 : 2 ≤ n) : Inv n 0 (dk0 n) (px0 n) := by
  refine ⟨Good.new n, Nat.le_refl _, ?_, Nat.le_refl _, Nat.le_refl _, fun s hs => by cases hs⟩
  show parseH n (pgOf n (Dk.new (8 * n + 1) nought) 0).data.toList = some (newHd n)
  rw [new_pg n 0 (by omega)]
  exact parse_zero n
theorem chg_nil (hok : X.Ok n) (hn : n ≤ 128) (h : X.chg n D = []) : X.chP n D n = [] ∧ X.now.h = X.good := by
  unfold Px.chg at h
  split at h
  · rename_i hc
    exact ⟨hc.1, (sameHd_iff hok.now.h.len hok.good.len hn).1 hc.2⟩
  · cases h
theorem next_ok {h : Hd} (ok : h.Ok n) (hs : h.ser < 9223372036854775807) : h.next.Ok n := ⟨ok.len, ok.u0, ok.k, by show h.ser + 1 ≤ _; omega⟩
theorem lays_len : (X.lays n D (X.chP n D n)).length ≤ n - 1 + 1 := by
  unfold Px.lays
  rw [List.length_cons, List.length_map]
  have := chP_len (X := X) (n := n) (D := D)
  omega
theorem cm_good (hi : Inv n k D X) (hok : X.Ok n) (hn2 : 2 ≤ n) (hn : n ≤ 12) (hk : k ≤ 1000) : X.cmC n D = 0 ∧ Inv n (k + 1) (X.cmD n D) (X.cmX n D) ∧ (X.cmX n D).now = ⟨(X.cmX n D).good, Pm.none⟩ ∧ (X.cmX n D).saves = [] := by
  unfold Px.cmC Px.cmX Px.cmD
  by_cases hc : X.chg n D = []
  · rw [if_pos hc, if_pos hc, if_pos hc]
    obtain ⟨e1, e2⟩ := chg_nil hok (by omega) hc
    refine ⟨rfl, ⟨hi.g, by have := hi.w; omega, ?_, ?_, ?_, fun s hs => by cases hs⟩, rfl, rfl⟩
    · show parseH n _ = some X.now.h
      rw [e2]; exact hi.h
    · show X.now.h.ser ≤ _
      have := hi.s2; omega
    · show X.now.h.ser ≤ _
      have := hi.s2; omega
  · rw [if_neg hc, if_neg hc, if_neg hc]
    have hck := lays_chk (D := D) hok (by omega)
    obtain ⟨h1, h2, h3, h4⟩ := hi.g.commit (by omega) (X.lays n D (X.chP n D n))
    have hl := lays_len (X := X) (n := n) (D := D)
    have hs2 := hi.s2
    refine ⟨by rw [h1, hck], ⟨h2, by have := hi.w; omega, ?_, ?_, ?_, fun s hs => by cases hs⟩, rfl, rfl⟩
    · show parseH n _ = some X.now.h.next
      have e := page_rec (h4 hck) h2.td 0 (by omega)
      unfold pgOf
      rw [h2.seen, e, (new_pages hi.g hok (by omega) (by omega)).1]
      exact parse_text (next_ok hok.now.h (by omega)) (by omega) (by omega)
    · show X.now.h.ser + 1 ≤ _
      omega
    · show X.now.h.ser + 1 ≤ _
      omega
/-- All is there. -/
def Whole (n : Nat) (D : Dk) (X : Px) (D5 : Dk) : Prop := parseH n (pgOf n D5 0).data.toList = some (if X.chg n D = [] then X.now.h else X.now.h.next) ∧ ∀ i, 1 ≤ i → i < n → X.now.h.has i = true → pgOf n D5 i = X.read n D (i : Int)
/-- All is as it was. -/
def Before (n : Nat) (D : Dk) (X : Px) (D5 : Dk) : Prop := parseH n (pgOf n D5 0).data.toList = some X.good ∧ ∀ i, i < n → pgOf n D5 i = pgOf n D i
def Px.cmL (n : Nat) (X : Px) (D : Dk) : List Chi := if X.chg n D = [] then [] else X.lays n D (X.chP n D n)
theorem cmL_is (hu : D.up = true) : X.cmD n D = comDisk n D (X.cmL n D) ∧ X.cmC n D = comCode n D (X.cmL n D) := by
  unfold Px.cmD Px.cmC Px.cmL
  by_cases hc : X.chg n D = []
  · rw [if_pos hc, if_pos hc, if_pos hc, (com_none n D hu).1, (com_none n D hu).2]
    exact ⟨rfl, rfl⟩
  · rw [if_neg hc, if_neg hc, if_neg hc]
    exact ⟨rfl, rfl⟩
theorem cmL_chk (hok : X.Ok n) (hn : 1 ≤ n) : chk n (X.cmL n D) = 0 ∧ (X.cmL n D).length ≤ n - 1 + 1 := by
  unfold Px.cmL
  split
  · exact ⟨by simp [chk], by simp⟩
  · exact ⟨lays_chk hok hn, lays_len⟩
theorem cmL_fused (cut : Nat) : X.cmL n (D.fused cut) = X.cmL n D := rfl
theorem asks_fused (h : Good n D) (cut : Nat) : Asks n (D.fused cut) := ⟨h.asks.len, h.up, h.asks.sz⟩
theorem torn_asks (hi : Inv n k D X) (hok : X.Ok n) (hn2 : 2 ≤ n) (hn : n ≤ 12) (cut : Nat) : X.cmC n (D.fused cut) = 0 → Asks n (X.cmD n (D.fused cut)) := by
  obtain ⟨e1, e2⟩ := cmL_is (X := X) (n := n) (D := D.fused cut) hi.g.up
  obtain ⟨hck, hl⟩ := cmL_chk (D := D) hok (by omega)
  obtain ⟨Q, _, _, _, _, q5⟩ := torn_math hi.g (by omega) (X.cmL n D) hck cut (fun _ => false)
  rw [e1, e2]
  exact q5
theorem torn_px (hi : Inv n k D X) (hok : X.Ok n) (hn2 : 2 ≤ n) (hn : n ≤ 12) (hk : k ≤ 1000) (cut : Nat) (p : Nat → Bool) {D4 : Dk} (h4 : D4 = ((X.cmD n (D.fused cut)).failed p).started) :
    D4.up = true ∧ D4.waits = [] ∧ 8 * n + 1 ≤ D4.kept.length ∧ D4.Sz ∧ D4.writes ≤ 300000 ∧ codeS D4 (recS n D4.kept) = 0 ∧ Good n (runS D4 (recS n D4.kept)) ∧ (Whole n D X (runS D4 (recS n D4.kept)) ∨ (X.cmC n (D.fused cut) ≠ 0 ∧ Before n D X (runS D4 (recS n D4.kept)))) := by
  obtain ⟨e1, e2⟩ := cmL_is (X := X) (n := n) (D := D.fused cut) hi.g.up
  obtain ⟨hck, hl⟩ := cmL_chk (D := D) hok (by omega)
  obtain ⟨Q, q1, q2, q3, q4, _⟩ := torn_math hi.g (by omega) (X.cmL n D) hck cut p
  have hwr := com_writes n (D.fused cut) (X.cmL n D)
  have hw1 := hi.w
  rw [cmL_fused] at e1 e2
  rw [e1] at h4
  rw [e2]
  generalize comDisk n (D.fused cut) (X.cmL n D) = D2 at *
  have hw2 : (D.fused cut).writes = D.writes := rfl
  subst h4
  have hkep : ((D2.failed p).started).kept = (D2.failed p).kept := rfl
  have hfr := runS_free ((D2.failed p).started) (recS n (D2.failed p).kept) rfl rfl
  have hrs := rec_safe n ((D2.failed p).started) Q rfl rfl (by rw [hkep, q4]; exact Nat.le_refl _) q3.started q1
  rw [hkep] at hrs ⊢
  rcases hrs with ⟨k1, k2, k3, k4, k5⟩ | ⟨k1, _⟩
  · have hG : Good n (runS (D2.failed p).started (recS n (D2.failed p).kept)) := ⟨k2, hfr.2.2, k3, by rw [runS_len]; exact q4, q3.started.run _ (recS_sz (D := D2.failed p) q3 (by rw [q4]; exact Nat.le_refl _)), k4⟩
    refine ⟨rfl, rfl, by rw [q4]; exact Nat.le_refl _, q3.started, ?_, k1, hG, ?_⟩
    · show D2.writes ≤ 300000
      omega
    · generalize runS (D2.failed p).started (recS n (D2.failed p).kept) = D5 at *
      have hp5 : ∀ i, i < n → pgOf n D5 i = pgP Q i := fun i hi5 => by
        unfold pgOf
        rw [hG.seen]
        exact page_rec k5 hG.td i hi5
      have hold : Q = ownP n D.kept → Before n D X D5 := fun e => by
        subst e
        refine ⟨?_, fun i hi5 => ?_⟩
        · rw [hp5 0 (by omega), pg_own hi.g (by omega)]
          exact hi.h
        · rw [hp5 i hi5, pg_own hi.g hi5]
      rcases q2 with e | ⟨hc, e⟩
      · left
        by_cases hc : X.chg n D = []
        · have hl0 : X.cmL n D = [] := by unfold Px.cmL; rw [if_pos hc]
          rw [hl0] at e
          have e0 : Q = ownP n D.kept := by rw [e]; funext k; exact newP_none (fun c hc => by simp [srtC] at hc)
          obtain ⟨b1, b2⟩ := hold e0
          obtain ⟨c1, c2⟩ := chg_nil hok (by omega) hc
          refine ⟨by rw [if_pos hc, c2]; exact b1, fun i h1 h2 h3 => ?_⟩
          rw [b2 i h2, read_same h1 h2 h3 (by rw [c1]; intro h; cases h)]
        · have hl0 : X.cmL n D = X.lays n D (X.chP n D n) := by unfold Px.cmL; rw [if_neg hc]
          rw [hl0] at e
          obtain ⟨b1, b2⟩ := new_pages hi.g hok (by omega) (by omega)
          have hs2 := hi.s2
          refine ⟨?_, fun i h1 h2 h3 => ?_⟩
          · rw [if_neg hc, hp5 0 (by omega), e, b1]
            exact parse_text (next_ok hok.now.h (by omega)) (by omega) (by omega)
          · rw [hp5 i h2, e, b2 i h1 h2 h3]
      · right
        exact ⟨hc, hold e⟩
  · rw [hfr.1] at k1
    omega
end
end Go.Proofs.YtdgffocmdkadpaaGreat
