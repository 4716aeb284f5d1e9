/- What the statements' changes makes. Sizes of sectors, and what pages have behind a commit, in plain mathematics. What a commit leaves of a whole store; a walk over the statements' lives. How slices of puts, and of bools, are opened out of a reading; a disk fails, starts, gets a fuse. -/
import Derived.Test.YtnafalkcgghjgaaGreatDoorJD
import Derived.Test.YtnafalkcgghjgaaGreatDoorMB
import Derived.Deep.Slices
namespace Go.Proofs.YtnafalkcgghjgaaGreatDoor
open Go.RowKit Go.Shelf
def chiV (l : List Chi) : List Value := l.flatMap fun c => [.int .i64 c.1, .string c.2]
theorem chiV_snoc (l : List Chi) (c : Chi) : chiV (l ++ [c]) = chiV l ++ [.int .i64 c.1, .string c.2] := by simp [chiV]
theorem chiV_at (l : List Chi) (i : Nat) (q : Chi) (h : l[i]? = some q) : (chiV l)[2 * i]? = some (.int .i64 q.1) ∧ (chiV l)[2 * i + 1]? = some (.string q.2) := by
  induction l generalizing i with
  | nil => simp at h
  | cons p l ih =>
    cases i with
    | zero =>
      simp only [List.getElem?_cons_zero, Option.some.injEq] at h
      subst h
      exact ⟨rfl, rfl⟩
    | succ i =>
      simp only [List.getElem?_cons_succ] at h
      have := ih i h
      have e : chiV (p :: l) = .int .i64 p.1 :: .string p.2 :: chiV l := rfl
      rw [e, show 2 * (i + 1) = 2 * i + 1 + 1 by omega, show 2 * i + 1 + 1 + 1 = (2 * i + 1) + 1 + 1 by omega]
      simpa using this
theorem chiV_one (l : List Chi) : ∀ u ∈ chiV l, u.oneCell' = true := by
  intro u hu
  simp only [chiV, List.mem_flatMap, List.mem_cons, List.not_mem_nil, or_false] at hu
  obtain ⟨x, _, rfl | rfl⟩ := hu <;> rfl
theorem chiV_len (l : List Chi) : (chiV l).length = l.length * 2 := by
  induction l with
  | nil => rfl
  | cons p l ih =>
    show (.int .i64 p.1 :: .string p.2 :: chiV l : List Value).length = _
    rw [List.length_cons, List.length_cons, ih, List.length_cons]
    omega
theorem Ci.own {w : World} {base e : Nat} {a : Option Addr} {len cap : Nat} {l : List Chi} (h : w.ownsRow base e 2 (.slice a len cap) len (chiV l)) (hl : l.length = len) : Ci w a len cap l := by
  rcases h.2 with ⟨h2, h3⟩ | ⟨g', cap', cur, e, hb, hr, h3, h4, h5, h6⟩
  · cases h2
    exact ⟨hl, Nat.le_refl _, by omega, by omega⟩
  · cases e
    refine ⟨hl, h3, by unfold maxLen at h4; omega, fun h0 => ⟨g', 0, rfl, lt_of_some hr, fun i hi => ?_⟩⟩
    obtain ⟨e1, e2⟩ := chiV_at l i l[i] (List.getElem?_eq_getElem hi)
    have c1 := own_at h e1
    have c2 := own_at h e2
    rw [show 0 + i * 2 = 2 * i by omega]
    exact ⟨c1, c2⟩
theorem own_ne {W : World} {b1 e1 s1 n1 b2 e2 s2 n2 : Nat} {v1 v2 : Value} {x1 x2 : List Value} (h1 : W.ownsRow b1 e1 s1 v1 n1 x1) (h2 : W.ownsRow b2 e2 s2 v2 n2 x2) (hne : e1 ≠ e2) : ∀ x, v2.ownBlock = some x → some x ≠ v1.ownBlock := by
  intro x hx e
  rcases h1.2 with ⟨rfl, _⟩ | ⟨g1, _, _, rfl, _, hr1, _⟩
  · cases e
  · rcases h2.2 with ⟨rfl, _⟩ | ⟨g2, _, _, rfl, _, hr2, _⟩
    · cases hx
    · cases hx
      cases e
      rw [hr1] at hr2
      cases hr2
      exact hne rfl
end Go.Proofs.YtnafalkcgghjgaaGreatDoor
namespace Go.Proofs.YtnafalkcgghjgaaGreatDoor
/-- All sectors have 256 bytes, there for good or waiting. -/
structure Dk.Sz (D : Dk) : Prop where
  k : ∀ s ∈ D.kept, s.size = 256
  q : ∀ q ∈ D.waits, q.2.size = 256
theorem upTo_sz (K : List ByteArray) (p : Nat → Bool) (ws : List Wt) (hK : ∀ s ∈ K, s.size = 256) (hw : ∀ q ∈ ws, q.2.size = 256) (k : Nat) : ∀ s ∈ upTo K p ws k, s.size = 256 := by
  induction k with
  | zero => exact hK
  | succ k ih =>
    intro s hs
    simp only [upTo] at hs
    split at hs
    · rename_i q hq
      split at hs
      · rcases List.mem_or_eq_of_mem_set hs with h | h
        · exact ih s h
        · rw [h]; exact hw q (List.mem_of_getElem? hq)
      · exact ih s hs
    · exact ih s hs
theorem Dk.Sz.settled {D : Dk} (h : D.Sz) (p : Nat → Bool) : (D.settled p).Sz := ⟨upTo_sz _ _ _ h.k h.q _, fun q hq => by simp [Dk.settled] at hq⟩
theorem Dk.Sz.failed {D : Dk} (h : D.Sz) (p : Nat → Bool) : (D.failed p).Sz := ⟨(h.settled p).k, (h.settled p).q⟩
theorem Dk.Sz.started {D : Dk} (h : D.Sz) : (D.started).Sz := ⟨h.k, h.q⟩
theorem Dk.Sz.fused {D : Dk} (h : D.Sz) (n : Nat) : (D.fused n).Sz := ⟨h.k, h.q⟩
theorem Dk.Sz.run {D : Dk} (h : D.Sz) (l : List Stp) (hl : ∀ q, some q ∈ l → q.2.size = 256) : (runS D l).Sz := by
  induction l generalizing D with
  | nil => exact h
  | cons s l ih =>
    simp only [runS]
    split
    · apply ih
      · cases s with
        | none => exact h.settled _
        | some q =>
          refine ⟨h.k, fun r hr => ?_⟩
          simp only [doS, Dk.wrote, List.mem_append, List.mem_singleton] at hr
          rcases hr with hr | rfl
          · exact h.q r hr
          · exact hl q (List.mem_cons_self ..)
      · intro q hq
        exact hl q (List.mem_cons_of_mem _ hq)
    · exact h
theorem Dk.Sz.seen {D : Dk} (h : D.Sz) : ∀ s ∈ D.seen, s.size = 256 := by
  have e : D.seen = upTo D.kept (fun _ => true) D.waits D.waits.length := (upTo_all _ _ _ (fun _ _ => rfl)).symm
  rw [e]
  exact upTo_sz _ _ _ h.k h.q _
theorem Dk.Sz.at {D : Dk} (h : D.Sz) (a : Nat) (ha : a < D.kept.length) : (at_ D.kept a).size = 256 := h.k _ (by
  unfold at_
  rw [List.getD_eq_getElem?_getD, List.getElem?_eq_getElem ha]
  exact List.getElem_mem _)
theorem nought0_size : nought0.size = 256 := by
  show (List.replicate 256 (0 : UInt8)).toArray.size = 256
  rw [List.size_toArray, List.length_replicate]
theorem layL_sz {f : Nat} {l : List Chg} (hl : ∀ c ∈ l, c.2.size = 1024) : ∀ q, some q ∈ layL f l → q.2.size = 256 := by
  intro q hq
  simp only [layL, List.mem_append, List.mem_map, List.mem_singleton, reduceCtorEq, or_false, Option.some.injEq, exists_eq_right] at hq
  obtain ⟨c, hc, j, hj, rfl⟩ := mem_layW hq
  exact sec_size _ _ (hl c hc) hj
theorem markL_sz {m : ByteArray} (hm : m.size = 256) : ∀ q, some q ∈ markL m → q.2.size = 256 := by
  intro q hq
  simp only [markL, List.mem_cons, List.not_mem_nil, or_false, reduceCtorEq, Option.some.injEq] at hq
  rw [hq]; exact hm
theorem finS_sz {n : Nat} {l : List Chg} (hl : ∀ c ∈ l, c.2.size = 1024) : ∀ q, some q ∈ finS n l → q.2.size = 256 := by
  intro q hq
  rcases List.mem_append.1 hq with h | h
  · exact layL_sz hl q h
  · exact markL_sz nought0_size q h
theorem commitS_sz {n : Nat} {l : List Chg} {m : ByteArray} (hl : ∀ c ∈ l, c.2.size = 1024) (hm : m.size = 256) : ∀ q, some q ∈ commitS n l m → q.2.size = 256 := by
  intro q hq
  rcases List.mem_append.1 hq with h | h
  · exact layL_sz hl q h
  · rcases List.mem_append.1 h with h | h
    · exact markL_sz hm q h
    · exact finS_sz hl q h
theorem sec_join (s : ByteArray) (hs : s.size = 1024) : sec s 0 ++ sec s 1 ++ sec s 2 ++ sec s 3 = s := by
  have hs' : s.data.size = 1024 := hs
  apply ByteArray.ext
  apply Array.ext'
  simp only [sec, ByteArray.data_append, ByteArray.data_extract, Array.toList_append, Array.toList_extract, List.extract_eq_take_drop]
  have hl : s.data.toList.length = 1024 := hs'
  generalize s.data.toList = L at *
  have e1 : (L.drop 0).take 256 = L.take 256 := by simp
  have e2 : L = L.take 256 ++ ((L.drop 256).take 256 ++ ((L.drop 512).take 256 ++ (L.drop 768).take 256)) := by
    have a1 := (List.take_append_drop 256 L).symm
    have a2 := (List.take_append_drop 256 (L.drop 256)).symm
    have a3 := (List.take_append_drop 256 (L.drop 512)).symm
    rw [List.drop_drop] at a2 a3
    have a4 : (L.drop 768).take 256 = L.drop 768 := List.take_of_length_le (by simp [hl])
    rw [a4, ← a3, ← a2, ← a1]
  conv => rhs; rw [e2]
  simp
/-- A page of which the sectors have what P says. -/
def pgP (P : Nat → ByteArray) (i : Nat) : ByteArray := P (4 * i) ++ P (4 * i + 1) ++ P (4 * i + 2) ++ P (4 * i + 3)
theorem page_rec {n : Nat} {K : List ByteArray} {P : Nat → ByteArray} (h : Rec n K P) (ht : Tidy n K) (i : Nat) (hi : i < n) : pageAt K (1 + 4 * n + 4 * i) = pgP P i := by
  unfold pageAt pgP
  rw [h.tidy ht (4 * i) (by omega) |> fun e => e, ← h.tidy ht (4 * i + 1) (by omega), ← h.tidy ht (4 * i + 2) (by omega), ← h.tidy ht (4 * i + 3) (by omega)]
  rfl
theorem pgP_old {P : Nat → ByteArray} {l : List Chg} {i : Nat} (h : ∀ c ∈ l, c.1 ≠ i) : pgP (newP P l) i = pgP P i := by
  unfold pgP
  rw [newP_none (k := 4 * i) (fun c hc e => h c hc (by omega)), newP_none (k := 4 * i + 1) (fun c hc e => h c hc (by omega)), newP_none (k := 4 * i + 2) (fun c hc e => h c hc (by omega)), newP_none (k := 4 * i + 3) (fun c hc e => h c hc (by omega))]
theorem pgP_new {P : Nat → ByteArray} {l : List Chg} (hd : l.Pairwise (fun a b => a.1 ≠ b.1)) {c : Chg} (hc : c ∈ l) (hs : c.2.size = 1024) : pgP (newP P l) c.1 = c.2 := by
  unfold pgP
  rw [newP_some hd hc (4 * c.1) (by omega), newP_some hd hc (4 * c.1 + 1) (by omega), newP_some hd hc (4 * c.1 + 2) (by omega), newP_some hd hc (4 * c.1 + 3) (by omega)]
  rw [show 4 * c.1 % 4 = 0 by omega, show (4 * c.1 + 1) % 4 = 1 by omega, show (4 * c.1 + 2) % 4 = 2 by omega, show (4 * c.1 + 3) % 4 = 3 by omega]
  exact sec_join _ hs
/-- A store that is whole, at rest. -/
structure Good (n : Nat) (D : Dk) : Prop where
  up : D.up = true
  fu : D.fuse = 0
  wt : D.waits = []
  ln : D.kept.length = 8 * n + 1
  sz : D.Sz
  td : Tidy n D.kept
theorem Good.seen {n : Nat} {D : Dk} (h : Good n D) : D.seen = D.kept := by
  unfold Dk.seen
  rw [h.wt]
  rfl
/-- What a store's pages have. -/
def ownP (n : Nat) (K : List ByteArray) : Nat → ByteArray := fun k => at_ K (1 + 4 * n + k)
theorem own_rec {n : Nat} {K : List ByteArray} (h : Tidy n K) : Rec n K (ownP n K) := by
  intro k hk
  unfold gd
  rw [h (k / 4) (by omega)]
  rfl
theorem new_tidy (n m : Nat) : Tidy n (Dk.new m nought0).kept := by
  intro i _
  have : at_ (Dk.new m nought0).kept 0 = nought0 ∨ at_ (Dk.new m nought0).kept 0 = ByteArray.empty := by
    unfold at_ Dk.new
    simp only
    rw [List.getD_eq_getElem?_getD, List.getElem?_replicate]
    split
    · exact .inl rfl
    · exact .inr rfl
  rcases this with e | e
  · rw [e]; exact tells_nought i
  · rw [e]
    unfold tells
    simp
theorem Good.new (n : Nat) : Good n (Dk.new (8 * n + 1) nought0) := by
  refine ⟨rfl, rfl, rfl, by simp [Dk.new], ⟨fun s hs => ?_, fun q hq => by simp [Dk.new] at hq⟩, new_tidy n _⟩
  simp only [Dk.new, List.mem_replicate] at hs
  rw [hs.2]; exact nought0_size
theorem told_tidy {n : Nat} {K : List ByteArray} (h : Tidy n K) : toldL n K = [] := by
  unfold toldL
  rw [List.filter_eq_nil_iff]
  intro i hi
  rw [h i (by simpa using hi)]
  simp
theorem rec_tidy {n : Nat} {K : List ByteArray} (h : Tidy n K) : recS n K = [] := by
  unfold recS
  rw [if_pos (told_tidy h)]
/-- Recovery, of whatever a failure left. -/
theorem rec_safe (n : Nat) (D : Dk) (P : Nat → ByteArray) (hu : D.up = true) (hw : D.waits = []) (hl : 8 * n + 1 ≤ D.kept.length) (hsz : D.Sz) (hr : Rec n D.kept P) :
    (codeS D (recS n D.kept) = 0 ∧ (runS D (recS n D.kept)).up = true ∧ (runS D (recS n D.kept)).waits = [] ∧ Tidy n (runS D (recS n D.kept)).kept ∧ Rec n (runS D (recS n D.kept)).kept P) ∨
      (codeS D (recS n D.kept) = 10 ∧ (runS D (recS n D.kept)).up = false ∧ ∀ p, Rec n (upTo (runS D (recS n D.kept)).kept p (runS D (recS n D.kept)).waits (runS D (recS n D.kept)).waits.length) P) := by
  unfold recS
  by_cases h0 : toldL n D.kept = []
  · rw [if_pos h0]
    refine .inl ⟨rfl, hu, hw, fun i hi => ?_, hr⟩
    unfold toldL at h0
    rw [List.filter_eq_nil_iff] at h0
    have := h0 i (by simpa using hi)
    show tells (at_ D.kept 0) i = false
    simpa using this
  · rw [if_neg h0]
    refine fin_safe n D (recL n D.kept) P hu hw hl hr (fun i hi => ?_) (fun c hc => ?_) (fun c hc j hj => ?_)
    · constructor
      · intro ht
        refine ⟨(i, pageAt D.kept (1 + 4 * i)), ?_, rfl⟩
        unfold recL toldL
        refine List.mem_map.2 ⟨i, List.mem_filter.2 ⟨by simpa using hi, ht⟩, rfl⟩
      · rintro ⟨c, hc, rfl⟩
        unfold recL toldL at hc
        obtain ⟨k, hk, rfl⟩ := List.mem_map.1 hc
        exact (List.mem_filter.1 hk).2
    · unfold recL toldL at hc
      obtain ⟨k, hk, rfl⟩ := List.mem_map.1 hc
      have := (List.mem_filter.1 hk).1
      simpa using this
    · unfold recL toldL at hc
      obtain ⟨k, hk, rfl⟩ := List.mem_map.1 hc
      obtain ⟨h1, h2⟩ := List.mem_filter.1 hk
      have hkn : k < n := by simpa using h1
      have hs4 : ∀ a, a < 4 → (at_ D.kept (1 + 4 * k + a)).size = 256 := fun a ha => hsz.at _ (by omega)
      obtain ⟨s0, s1, s2, s3⟩ := sec_page _ _ _ _ (hs4 0 (by omega)) (hs4 1 (by omega)) (hs4 2 (by omega)) (hs4 3 (by omega))
      have hP : at_ D.kept (1 + 4 * k + j) = P (4 * k + j) := by
        have := hr (4 * k + j) (by omega)
        unfold gd at this
        rw [show (4 * k + j) / 4 = k by omega, if_pos h2] at this
        rw [← this]
        congr 1
        omega
      simp only
      rw [← hP]
      match j, hj with
      | 0, _ => exact s0
      | 1, _ => exact s1
      | 2, _ => exact s2
      | 3, _ => exact s3
theorem filter_layL (f : Nat) (l : List Chg) : ((layL f l).filter Option.isSome).length = 4 * l.length := by
  unfold layL
  rw [List.filter_append, List.length_append]
  have e2 : (layW f l).length = 4 * l.length := by
    unfold layW
    induction l with
    | nil => rfl
    | cons c l ih =>
      rw [List.flatMap_cons, List.length_append, ih, List.length_cons]
      show 4 + _ = _
      omega
  have e1 : ((layW f l).map some).filter Option.isSome = (layW f l).map some := List.filter_eq_self.2 (fun x hx => by
    obtain ⟨q, _, rfl⟩ := List.mem_map.1 hx
    rfl)
  rw [e1, List.length_map, e2]
  rfl
theorem count_commit (n : Nat) (l : List Chg) (m : ByteArray) : ((commitS n l m).filter Option.isSome).length = 8 * l.length + 2 := by
  unfold commitS finS
  rw [List.filter_append, List.length_append, List.filter_append, List.length_append, List.filter_append, List.length_append, filter_layL, filter_layL]
  show 4 * l.length + (1 + (4 * l.length + 1)) = _
  omega
end Go.Proofs.YtnafalkcgghjgaaGreatDoor
namespace Go.Proofs.YtnafalkcgghjgaaGreatDoor
open Go.RowKit Go.Shelf
theorem com_ready {n : Nat} {l : List Chi} (hn : n ≤ 128) (hck : chk n l = 0) : (∀ i, i < n → (tells (markOf (pagesL l)) i = true ↔ ∃ c ∈ srtC l, c.1 = i)) ∧ (∀ c ∈ srtC l, c.1 < n) ∧ (srtC l).Pairwise (fun a b => a.1 ≠ b.1) ∧ (∀ c ∈ srtC l, c.2.size = 1024) := by
  obtain ⟨h1, h2, h3⟩ := chk_zero hck
  have hmem : ∀ c, c ∈ srtC l ↔ ∃ d ∈ l, natC d = c := fun c => by rw [(srtC_perm l).mem_iff, List.mem_map]
  refine ⟨fun i hi => ?_, fun c hc => ?_, ?_, fun c hc => ?_⟩
  · rw [tells_mark _ (fun p hp => by
      unfold pagesL at hp
      obtain ⟨c, hc, rfl⟩ := List.mem_map.1 hp
      have := h1 c hc
      omega), decide_eq_true_iff]
    constructor
    · intro hp
      unfold pagesL at hp
      obtain ⟨c, hc, rfl⟩ := List.mem_map.1 hp
      exact ⟨natC c, (hmem _).2 ⟨c, hc, rfl⟩, rfl⟩
    · rintro ⟨c, hc, rfl⟩
      obtain ⟨d, hd, rfl⟩ := (hmem _).1 hc
      unfold pagesL
      exact List.mem_map.2 ⟨d, hd, rfl⟩
  · obtain ⟨d, hd, rfl⟩ := (hmem _).1 hc
    have := h1 d hd
    simp only [natC]
    omega
  · exact (nodup_nat h1 h2).perm (srtC_perm l).symm (fun h => Ne.symm h)
  · obtain ⟨d, hd, rfl⟩ := (hmem _).1 hc
    exact h3 d hd
theorem srtC_len (l : List Chi) : (srtC l).length = l.length := by rw [(srtC_perm l).length_eq, List.length_map]
theorem comSteps_sz {n : Nat} {l : List Chi} (hn : n ≤ 128) (hck : chk n l = 0) : ∀ q, some q ∈ comSteps n l → q.2.size = 256 := by
  intro q hq
  unfold comSteps at hq
  split at hq
  · simp at hq
  · exact commitS_sz (com_ready hn hck).2.2.2 (markOf_size _) q hq
/-- A commit on a store that is whole, with whatever fuse. -/
theorem com_safe {n : Nat} {D : Dk} (hn : n ≤ 128) (hu : D.up = true) (hw : D.waits = []) (hl : 8 * n + 1 ≤ D.kept.length) (ht : Tidy n D.kept) (l : List Chi) (hck : chk n l = 0) :
    (codeS D (comSteps n l) = 0 ∧ (runS D (comSteps n l)).up = true ∧ (runS D (comSteps n l)).waits = [] ∧ Tidy n (runS D (comSteps n l)).kept ∧ Rec n (runS D (comSteps n l)).kept (newP (ownP n D.kept) (srtC l))) ∨
      (codeS D (comSteps n l) = 10 ∧ (runS D (comSteps n l)).up = false ∧ ∀ p, Rec n (upTo (runS D (comSteps n l)).kept p (runS D (comSteps n l)).waits (runS D (comSteps n l)).waits.length) (ownP n D.kept) ∨ Rec n (upTo (runS D (comSteps n l)).kept p (runS D (comSteps n l)).waits (runS D (comSteps n l)).waits.length) (newP (ownP n D.kept) (srtC l))) := by
  obtain ⟨h1, h2, h3, h4⟩ := com_ready hn hck
  unfold comSteps
  by_cases h0 : l = []
  · rw [if_pos h0]
    refine .inl ⟨rfl, hu, hw, ht, ?_⟩
    have e : srtC l = [] := List.eq_nil_of_length_eq_zero (by rw [srtC_len, h0]; rfl)
    rw [e]
    intro k hk
    rw [newP_none (fun c hc => by simp at hc)]
    exact own_rec ht k hk
  · rw [if_neg h0]
    exact commit_safe n D (srtC l) _ _ hn hu hw hl (own_rec ht) ht h1 h2 h3
theorem Good.commit {n : Nat} {D : Dk} (h : Good n D) (hn : n ≤ 128) (l : List Chi) : comCode n D l = chk n l ∧ Good n (comDisk n D l) ∧ (comDisk n D l).writes ≤ D.writes + 8 * l.length + 2 ∧
    (chk n l = 0 → Rec n (comDisk n D l).kept (newP (ownP n D.kept) (srtC l))) := by
  unfold comCode comDisk
  by_cases hck : chk n l = 0
  · obtain ⟨hf1, hf2, hf3⟩ := runS_free D (comSteps n l) h.up h.fu
    rw [if_pos hck, if_pos h.up, if_pos ⟨hck, h.up⟩, hf1, hck]
    rcases com_safe hn h.up h.wt (by rw [h.ln]; exact Nat.le_refl _) h.td l hck with ⟨_, k2, k3, k4, k5⟩ | ⟨k1, _⟩
    · refine ⟨rfl, ⟨k2, hf3, k3, by rw [runS_len, h.ln], h.sz.run _ (comSteps_sz hn hck), k4⟩, ?_, fun _ => k5⟩
      have := runS_count D (comSteps n l) hf1
      rw [this]
      unfold comSteps
      split
      · show D.writes + 0 ≤ _; omega
      · rw [count_commit, srtC_len]; omega
    · rw [hf1] at k1; omega
  · rw [if_neg hck, if_neg (fun e => hck e.1)]
    exact ⟨rfl, h, by omega, fun e => absurd e hck⟩
theorem strOf_app (a b : List UInt8) : strOf a ++ strOf b = strOf (a ++ b) := by
  apply ByteArray.ext
  simp [strOf]
def zeros4 : ByteArray := strOf (List.replicate 1024 0)
theorem zeros4_size : zeros4.size = 1024 := by unfold zeros4; rw [strOf_size, List.length_replicate]
theorem zeros4_at : zeros4[0]'(by rw [zeros4_size]; omega) = 0 := by
  show (List.replicate 1024 (0 : UInt8)).toArray[0]'(by rw [List.size_toArray, List.length_replicate]; omega) = 0
  rw [List.getElem_toArray, List.getElem_replicate]
theorem nought_page : pageAt (Dk.new 9 nought).kept 5 = zeros4 := by
  have e : ∀ a, a < 9 → at_ (Dk.new 9 nought).kept a = nought := by
    intro a ha
    unfold at_ Dk.new
    simp only
    rw [List.getD_eq_getElem?_getD, List.getElem?_replicate, if_pos ha]
    rfl
  unfold pageAt
  rw [e 5 (by omega), e (5 + 1) (by omega), e (5 + 2) (by omega), e (5 + 3) (by omega)]
  unfold nought zeros4
  rw [strOf_app, strOf_app, strOf_app, List.replicate_append_replicate, List.replicate_append_replicate, List.replicate_append_replicate]
end Go.Proofs.YtnafalkcgghjgaaGreatDoor
namespace Go.Proofs.YtnafalkcgghjgaaGreatDoor
open Go.ChangeShapes Go.WideShapes Go.ChangeAt Go.RowKit Go.Deep Go.Shelf
theorem wf_u8 {n : Int} (h : (Lit.int .u8 n).wf = true) : 0 ≤ n ∧ n ≤ 255 := by
  simp [Lit.wf, IntKind.min, IntKind.max, IntKind.signed, IntKind.bits] at h
  omega
theorem wf_i64 {n : Int} (h : (Lit.int .i64 n).wf = true) : -9223372036854775808 ≤ n ∧ n ≤ 9223372036854775807 := by
  simp [Lit.wf, IntKind.min, IntKind.max, IntKind.signed, IntKind.bits] at h
  omega
theorem bools_of {H : Type} {enc : TypeId × Value → H} {W : World} {base : Nat} {spare : Nat → Bool} {held : Bool} {fuel : Nat} {a : Option Addr} {len cap : Nat} {x : DataW H × List MemPlace}
    (hf : DataW.trod enc Tryz.prog W base spare held fuel 52 [.slice a len cap] = some x) : ∃ l, Bls W a len cap l := by
  rcases open_slice1 Tryz.underlying52 (by kernel_rfl) hf with ⟨hcs, _⟩ | ⟨ad, l, c, m, n, V, D, Pl, hcs, _, hl, hm, hmm, _, hV⟩
  · simp only [List.cons.injEq, Value.slice.injEq, and_true] at hcs
    obtain ⟨rfl, rfl, rfl⟩ := hcs
    exact ⟨[], Bls.nil W⟩
  · simp only [List.cons.injEq, Value.slice.injEq, and_true] at hcs
    obtain ⟨rfl, rfl, rfl⟩ := hcs
    have hlm : len ≤ m := by rw [hmm]; split <;> omega
    have hb : ∀ i, i < len → ∃ b : Bool, W.cell? (ad.add i) = some (.bool b) := by
      intro i hi
      obtain ⟨h1, h2⟩ := hV i (by omega)
      obtain ⟨b, hb, _⟩ := DataW.trod_bool Tryz.underlying4 h2
      simp only [List.cons.injEq, and_true] at hb
      exact ⟨b, by rw [h1, hb]⟩
    obtain ⟨f, hf⟩ := choose_lt hb
    refine ⟨(List.range len).map f, by simp, hl, by simpa [maxLen] using hm, fun h0 => ?_⟩
    obtain ⟨bb, oo, spot⟩ := ad
    have hspot : spot = none := by simpa [Addr.add] using World.cell?_spot (hf 0 h0)
    subst hspot
    refine ⟨bb, oo, rfl, fun i hi => ?_⟩
    simp only [List.length_map, List.length_range] at hi
    have := hf i hi
    rw [add_at] at this
    rw [this]
    simp
set_option maxHeartbeats 400000 in
/-- The power fails with no picks, wherever their slice points. -/
theorem fail_zero {S : Nat → Prop} {g : Nat} {D : Dk} {w : World} (h : DiskIs w S g D) (a : Option Addr) (cap : Nat) (hcap : cap ≤ 9223372036854775807) :
    Calls Tryz.prog 29 #[.pointer (some ⟨g, 0, none⟩), .slice a 0 cap] w fun e w' => e = .returned (.tuple #[]) ∧ DiskIs w' S g (D.failed (pickOf [])) ∧ Upd S w w' := by
  have hbd := h.bd
  have h1 : DiskIs (w.alloc (.cells #[.slice a 0 cap] 52)) S g D := h.below ((Below.refl _ w).alloc (Nat.le_refl _) _)
  obtain ⟨kb, kc, sb, sc, wa, wc, h1⟩ := h1
  have hbox : (w.alloc (.cells #[.slice a 0 cap] 52)).cell? ⟨w.heap.size, 0, none⟩ = some (.slice a 0 cap) := by
    rw [cell_of_row _ w.heap.size _ _ _ _ (heap_alloc_new w _)]; rfl
  have hnS : ¬ S w.heap.size := fun s => by have := hbd _ s; omega
  have HS := settle_any 47 #[.pointer (some ⟨w.heap.size, 0, none⟩)] (pickOf []) h1 (enters_of Tryz.func47 (by kernel_rfl) rfl) (fun i _ W hW => by
    refine pick_any i w.heap.size a 0 cap [] W ?_ ⟨rfl, Nat.zero_le _, hcap, fun h => absurd h (by omega)⟩
    rw [World.cell?_of_block (w := w.alloc (.cells #[.slice a 0 cap] 52)) (hW.block w.heap.size (by simp) hnS)]
    exact hbox)
  have HU0 : Hid (Upd S w (w.alloc (.cells #[.slice a 0 cap] 52))) := (Upd.refl S w).alloc _
  clear h h1 hbox hnS
  go_enter Tryz.func29, Tryz.ntmps29
  go_wp2_with fail
  refine HS.mono ?_
  rintro e w' ⟨rfl, h1, h2⟩
  obtain ⟨c0, c1, c2, c3, c4, c5⟩ := h1.cells
  have f4 := h1.fro 4
  have f5 := h1.fro 5
  have HL : Hid (Lies ((w'.setCell ⟨g, 4, none⟩ (.int .i64 0)).setCell ⟨g, 5, none⟩ (.bool false)) S g kb kc sb sc none 0 (D.failed (pickOf []))) := by
    refine h1.turn _ rfl rfl ?_ ?_ ?_
    · exact ⟨h1.ok.n1, h1.ok.n2, h1.ok.at_, by simp [Dk.failed], h1.ok.ww, h1.ok.wr⟩
    · rw [heap_setCell_same _ g 5 _ _ _ (heap_setCell_same w' g 4 _ _ _ h1.c)]
      rfl
    · intro x hx
      rw [heap_setCell_other _ _ _ _ hx, heap_setCell_other _ _ _ _ hx]
  have HU : Hid (Upd S w ((w'.setCell ⟨g, 4, none⟩ (.int .i64 0)).setCell ⟨g, 5, none⟩ (.bool false))) := ((HU0.out.trans h2 (fun _ h _ => h)).setCell (fun _ => h1.Sg) _).setCell (fun _ => h1.Sg) _
  clear h1 h2 HS HU0
  go_wp2
  refine bodyPost_end (v := .tuple #[]) ?_ rfl ⟨rfl, ⟨_, _, _, _, _, _, HL.out⟩, HU.out⟩
  simp [results, go_sem]
/-- The power fails, with picks that came in. -/
theorem fail_picks {S : Nat → Prop} {g : Nat} {D : Dk} {w0 w : World} (h : DiskIs w S g D) (a : Option Addr) (len cap : Nat) (bs : List Bool) (hb : Bls w0 a len cap bs) (h0 : Below w0.heap.size w0 w) (hS : ∀ x, S x → w0.heap.size ≤ x) :
    Calls Tryz.prog 29 #[.pointer (some ⟨g, 0, none⟩), .slice a len cap] w fun e w' => e = .returned (.tuple #[]) ∧ DiskIs w' S g (D.failed (pickOf bs)) ∧ Upd S w w' := by
  by_cases hl : 0 < len
  · exact fail_any h a len cap bs (hb.below h0) (fun x hx hs => by have := hS x hs; have := hb.lt hl x hx; omega)
  · obtain rfl : len = 0 := by omega
    have e : bs = [] := List.eq_nil_of_length_eq_zero hb.1
    subst e
    exact fail_zero h a cap hb.2.2.1
def Dk.fcode (D : Dk) (n : Int) : Nat := if D.up then (if n < 0 then 9 else 0) else 10
def Dk.fput (D : Dk) (n : Int) : Dk := if D.up = true ∧ 0 ≤ n then D.fused n.toNat else D
theorem fuse_m {S : Nat → Prop} {w : World} {g : Nat} {D : Dk} (h : DiskIs w S g D) (n : Int) (hn : n ≤ 9223372036854775807) : Calls Tryz.prog 28 #[.pointer (some ⟨g, 0, none⟩), .int .i64 n] w fun e w' => e = .returned (.int .i64 (D.fcode n : Int)) ∧ Mut S w g (D.fput n) w' := by
  unfold Dk.fcode Dk.fput
  cases hu : D.up
  · rw [if_neg (by simp)]
    refine (fuse_down h n hu).mono ?_
    rintro e w' ⟨rfl, hw'⟩
    subst w'
    exact ⟨rfl, Mut.same h⟩
  · by_cases h0 : n < 0
    · have hn' : ¬ (true = true ∧ 0 ≤ n) := fun e => by have := e.2; omega
      rw [if_pos rfl, if_pos h0, if_neg hn']
      refine (fuse_less h n hu h0).mono ?_
      rintro e w' ⟨rfl, hw'⟩
      subst w'
      exact ⟨rfl, Mut.same h⟩
    · obtain ⟨m, rfl⟩ := Int.eq_ofNat_of_zero_le (show 0 ≤ n by omega)
      have hp' : (true = true ∧ 0 ≤ (m : Int)) := ⟨rfl, by omega⟩
      rw [if_pos rfl, if_neg h0, if_pos hp']
      refine (fuse_any h m hu (by omega)).mono ?_
      rintro e w' ⟨rfl, hd, hup⟩
      exact ⟨rfl, _, hd, hup, fun x hx => .inl hx⟩
theorem fail_m {S : Nat → Prop} {w0 w : World} {g : Nat} {D : Dk} (h : DiskIs w S g D) (a : Option Addr) (len cap : Nat) (bs : List Bool) (hb : Bls w0 a len cap bs) (h0 : Below w0.heap.size w0 w) (hS : ∀ x, S x → w0.heap.size ≤ x) :
    Calls Tryz.prog 29 #[.pointer (some ⟨g, 0, none⟩), .slice a len cap] w fun e w' => e = .returned (.tuple #[]) ∧ Mut S w g (D.failed (pickOf bs)) w' := by
  refine (fail_picks h a len cap bs hb h0 hS).mono ?_
  rintro e w' ⟨rfl, hd, hup⟩
  exact ⟨rfl, _, hd, hup, fun x hx => .inl hx⟩
theorem start_m {S : Nat → Prop} {w : World} {g : Nat} {D : Dk} (h : DiskIs w S g D) (hu : D.up = false) (hw : D.waits = []) : Calls Tryz.prog 30 #[.pointer (some ⟨g, 0, none⟩)] w fun e w' => e = .returned (.int .i64 0) ∧ Mut S w g D.started w' := by
  refine (start_any h hu hw).mono ?_
  rintro e w' ⟨rfl, hd, hup⟩
  exact ⟨rfl, _, hd, hup, fun x hx => .inl hx⟩
end Go.Proofs.YtnafalkcgghjgaaGreatDoor
